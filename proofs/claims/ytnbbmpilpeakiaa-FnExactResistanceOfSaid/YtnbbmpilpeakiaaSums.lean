/-
  What TreeSum, ForestSum and CrossSum answer.
-/
import Derived.Test.YtnbbmpilpeakiaaSumsSpec
namespace Go.Proofs.Ytnbbmpilpeakiaa
open Go.RowKit

noncomputable def treeR (n e s : Int) (ws : List W3) : Int := if netB n e s ws = true then detD (lapM n.toNat ws) (woL n.toNat [0]) (woL n.toNat [0]) else 0
noncomputable def forestR (n e s : Int) (ws : List W3) (a b : Int) : Int := if netB n e s ws = true ∧ 0 ≤ a ∧ a < n ∧ 0 ≤ b ∧ b < n ∧ a ≠ b then detD (lapM n.toNat ws) (woL n.toNat [a, b]) (woL n.toNat [a, b]) else 0
noncomputable def crossR (n e s : Int) (ws : List W3) (a b c d : Int) : Int × Bool := if netB n e s ws = true ∧ 0 ≤ a ∧ a < b ∧ b < n ∧ 0 ≤ c ∧ c < d ∧ d < n then (detD (lapM n.toNat ws) (woL n.toNat [a, b]) (woL n.toNat [c, d]), true) else (0, false)
theorem woL_two {N : Nat} {a b : Int} (h1 : 0 ≤ a ∧ a < N) (h2 : 0 ≤ b ∧ b < N) (h3 : a ≠ b) : (woL N [a, b]).length = N - 2 := by
  rw [woL_len (by simpa using h3) (by
    intro x hx
    simp only [List.mem_cons, List.not_mem_nil, or_false] at hx
    rcases hx with rfl | rfl
    · exact h1
    · exact h2)]
  rfl
theorem in_yes' (x lo hi lo' hi' : Int) (e1 : lo' = lo) (e2 : hi' = hi) (h1 : lo ≤ x) (h2 : x ≤ hi) (w : World) :
    Calls Try.prog 74 #[.int .i64 x, .int .i64 lo', .int .i64 hi'] w fun e w' => e = .returned (.bool true) ∧ w = w' := by
  subst e1; subst e2; exact in_yes x _ _ w h1 h2
theorem in_no' (x lo hi lo' hi' : Int) (e1 : lo' = lo) (e2 : hi' = hi) (h : ¬ (lo ≤ x ∧ x ≤ hi)) (w : World) :
    Calls Try.prog 74 #[.int .i64 x, .int .i64 lo', .int .i64 hi'] w fun e w' => e = .returned (.bool false) ∧ w = w' := by
  subst e1; subst e2; exact in_no x _ _ w h
theorem readsI_new1 (w : World) (x : Int) (t : TypeId) : ReadsI (w.alloc (.cells #[.int .i64 x] t)) (.slice (some ⟨w.heap.size, 0, none⟩) 1 1) [x] :=
  ⟨_, 1, rfl, Nat.le_refl _, by omega, .inr ⟨_, _, rfl, fun k hk => by
    have : k = 0 := by simpa using hk
    subst this
    simp [go_sem]⟩⟩
theorem readsI_new1' (w : World) (x : Int) (t : TypeId) (B : Nat) (hB : B = w.heap.size) : ReadsI (w.alloc (.cells #[.int .i64 x] t)) (.slice (some ⟨B, 0, none⟩) 1 1) [x] := by
  subst hB; exact readsI_new1 w x t
theorem readsI_new2 (w : World) (x y : Int) (t : TypeId) : ReadsI (w.alloc (.cells #[.int .i64 x, .int .i64 y] t)) (.slice (some ⟨w.heap.size, 0, none⟩) 2 2) [x, y] :=
  ⟨_, 2, rfl, Nat.le_refl _, by omega, .inr ⟨_, _, rfl, fun k hk => by
    rcases k with _ | _ | k
    · simp [go_sem]
    · simp [go_sem]
    · simp at hk; omega⟩⟩
theorem readsI_new2' (w : World) (x y : Int) (t : TypeId) (B : Nat) (hB : B = w.heap.size) : ReadsI (w.alloc (.cells #[.int .i64 x, .int .i64 y] t)) (.slice (some ⟨B, 0, none⟩) 2 2) [x, y] := by
  subst hB; exact readsI_new2 w x y t
end Go.Proofs.Ytnbbmpilpeakiaa
