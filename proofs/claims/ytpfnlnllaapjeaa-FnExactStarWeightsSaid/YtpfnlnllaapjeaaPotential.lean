/-
  The potential of a node, times the tree sum: by minors in the model, by sums of forests in the program.
-/
import Derived.Test.YtpfnlnllaapjeaaResist
import Derived.Test.YtpfnlnllaapjeaaPotMath
namespace Go.Proofs.Ytpfnlnllaapjeaa
open Go.RowKit
theorem potI_yes {m : MatI} {N a b v : Nat} (h : v ≠ b) : potI m N a b v = sgn (idx a b + idx v b) * detD m (woL N [((min a b : Nat) : Int), ((max a b : Nat) : Int)]) (woL N [((min v b : Nat) : Int), ((max v b : Nat) : Int)]) := if_neg h
theorem forest_forD {N : Nat} {e s : Int} {ws : List W3} (hb : netB N e s ws = true) (a b : Nat) (ha : a < N) (hb' : b < N) : forestR N e s ws a b = forD (lapM N ws) N a b := by
  unfold forestR forD
  by_cases h : a = b
  · rw [if_pos h, if_neg (by omega)]
  · rw [if_neg h, if_pos ⟨hb, by omega⟩, Int.toNat_natCast]
    have hs : woL N [(a : Int), (b : Int)] = woL N [((min a b : Nat) : Int), ((max a b : Nat) : Int)] := woL_same fun x => by
      simp only [List.mem_cons, List.not_mem_nil, or_false]
      omega
    rw [hs]
theorem potI_range {N : Nat} {ws : List W3} (h : WiresV N ws) (hN : N ≤ 5) (a b v : Nat) (ha : a < N) (hb : b < N) (hv : v < N) (hab : a ≠ b) : -6000000000 ≤ potI (lapM N ws) N a b v ∧ potI (lapM N ws) N a b v ≤ 6000000000 := by
  by_cases hvb : v = b
  · unfold potI; rw [if_pos hvb]; omega
  · rw [potI_yes hvb]
    have l1 := woL_two (N := N) (a := ((min a b : Nat) : Int)) (b := ((max a b : Nat) : Int)) (by omega) (by omega) (by omega)
    have l2 := woL_two (N := N) (a := ((min v b : Nat) : Int)) (b := ((max v b : Nat) : Int)) (by omega) (by omega) (by omega)
    have hr := det_range3 h hN (woL N [((min a b : Nat) : Int), ((max a b : Nat) : Int)]) (woL N [((min v b : Nat) : Int), ((max v b : Nat) : Int)]) (by rw [l1, l2]) (by rw [l1]; omega)
    rcases sgn_cases (idx a b + idx v b) with e | e <;> rw [e] <;> omega

noncomputable def feedB (n e s : Int) (ws : List W3) (a b : Int) : Bool := netB n e s ws && (hasB n a && (hasB n b && !(a == b)))
theorem feed_yes {n e s a b : Int} {ws : List W3} (h : feedB n e s ws a b = true) : ∃ (N a' b' : Nat), n = N ∧ a = a' ∧ b = b' ∧ netB N e s ws = true ∧ a' < N ∧ b' < N ∧ a' ≠ b' := by
  unfold feedB hasB at h
  simp only [Bool.and_eq_true, decide_eq_true_eq, Bool.not_eq_true', beq_eq_false_iff_ne] at h
  obtain ⟨h1, ⟨h2, h3⟩, ⟨h4, h5⟩, h6⟩ := h
  refine ⟨n.toNat, a.toNat, b.toNat, by omega, by omega, by omega, ?_, by omega, by omega, by omega⟩
  rw [Int.toNat_of_nonneg (by omega)]; exact h1
end Go.Proofs.Ytpfnlnllaapjeaa
