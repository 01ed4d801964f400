/-
  What a marking of a list of wires leaves as it was.
-/
import Derived.Test.YtidgggdgblfanaaNetEq
namespace Go.Proofs.Ytidgggdgblfanaa
open Go.RowKit

theorem mark_far {w w' : World} {row : Option Nat} (h : w.grownBy w' row) {lo hi : Nat} (hr : ∀ k, row = some k → lo ≤ k ∧ k < hi) : ∀ b o u, (b < lo ∨ hi ≤ b) → w.cell? ⟨b, o, none⟩ = some u → w'.cell? ⟨b, o, none⟩ = some u := fun b o u hb hc =>
  h.cell hc (by intro e; have := hr b e.symm; omega)
theorem mark_below {w w' : World} {row : Option Nat} (h : w.grownBy w' row) {lo hi : Nat} (hr : ∀ k, row = some k → lo ≤ k ∧ k < hi) (hl : lo ≤ w.heap.size) : Below lo w w' :=
  (Below.refl lo w).grown h hl (fun k hk => (hr k hk).1)
theorem ReadsW.of_own' {w : World} {base : Nat} {e : TypeId} {v : Value} {k n : Nat} (h : w.ownsRow base e 3 v n (cellsW (mks k n))) : ReadsW w v (mks k n) :=
  ReadsW.of_own (by rw [mks_length]; exact h)
theorem ne_own {u : Value} {row : Option Nat} {hi : Nat} (h1 : ∀ k, u.ownBlock = some k → hi ≤ k) (h2 : ∀ k, row = some k → k < hi) : u.ownBlock = none ∨ u.ownBlock ≠ row := by
  cases hu : u.ownBlock with
  | none => exact .inl rfl
  | some k =>
    right
    rintro rfl
    have a := h1 k hu
    have b := h2 k rfl
    omega
end Go.Proofs.Ytidgggdgblfanaa
