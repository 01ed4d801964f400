/-
  CrossSum and ForestSum in the program: all cases.
-/
import Derived.Test.YtpfnlnllaapjeaaCrossImpl
namespace Go.Proofs.Ytpfnlnllaapjeaa
open Go.RowKit
theorem forest_cross (n e s : Int) (ws : List W3) (a b lo hi : Int) (he : Ends a b lo hi) : (crossR n e s ws lo hi lo hi).1 = forestR n e s ws a b := by
  unfold crossR forestR
  by_cases hb : netB n e s ws = true
  · by_cases hc : 0 ≤ a ∧ a < n ∧ 0 ≤ b ∧ b < n ∧ a ≠ b
    · have hlh : 0 ≤ lo ∧ lo < hi ∧ hi < n ∧ 0 ≤ lo ∧ lo < hi ∧ hi < n := by unfold Ends at he; omega
      rw [if_pos ⟨hb, hlh⟩, if_pos ⟨hb, hc⟩]
      have hs : woL n.toNat [lo, hi] = woL n.toNat [a, b] := woL_same fun x => by
        simp only [List.mem_cons, List.not_mem_nil, or_false]
        unfold Ends at he
        omega
      rw [hs]
    · rw [if_neg (by rintro ⟨_, h⟩; unfold Ends at he; omega), if_neg (by rintro ⟨_, h⟩; exact hc h)]
  · rw [if_neg (fun h => hb h.1), if_neg (fun h => hb h.1)]
end Go.Proofs.Ytpfnlnllaapjeaa
