/-
  A block of two cells that a call has made, and what is kept of it.
-/
import Derived.Test.YtaececpphdaciaaGNet
namespace Go.Proofs.Ytaececpphdaciaa
open Go.RowKit

/-- The block g of the world W holds these two values, and they may be written. -/
def box2 (W : World) (g : Nat) (a b : Value) : Prop :=
  W.cell? ⟨g, 0, none⟩ = some a ∧ W.cell? ⟨g, 1, none⟩ = some b ∧ W.frozen? ⟨g, 0, none⟩ = false ∧ W.frozen? ⟨g, 1, none⟩ = false ∧ g < W.heap.size
theorem box2.below {B g : Nat} {W W' : World} {a b : Value} (h : box2 W g a b) (hB : Below B W W') (hg : g < B) : box2 W' g a b := by
  obtain ⟨h0, h1, f0, f1, hl⟩ := h
  exact ⟨(hB.cell (p := ⟨g, 0, none⟩) hg).trans h0, (hB.cell (p := ⟨g, 1, none⟩) hg).trans h1, (hB.frozen (p := ⟨g, 0, none⟩) hg).trans f0, (hB.frozen (p := ⟨g, 1, none⟩) hg).trans f1, Nat.lt_of_lt_of_le hl hB.size⟩
theorem box2.later {g : Nat} {W W' : World} {a b : Value} (h : box2 W g a b) (hB : Below W.heap.size W W') : box2 W' g a b := h.below hB h.2.2.2.2
theorem box2.alloc {g : Nat} {W : World} {a b : Value} (h : box2 W g a b) (o : Obj) : box2 (W.alloc o) g a b := by
  obtain ⟨h0, h1, f0, f1, hl⟩ := h
  have hne : g ≠ W.heap.size := by omega
  refine ⟨(World.cell?_alloc_old W _ ⟨g, 0, none⟩ hne).trans h0, (World.cell?_alloc_old W _ ⟨g, 1, none⟩ hne).trans h1, ?_, ?_, by simp; omega⟩ <;> simp [go_sem, *]
theorem box2.new (W : World) (a b : Value) (t : TypeId) : box2 (W.alloc (.cells #[a, b] t)) W.heap.size a b := by
  refine ⟨?_, ?_, ?_, ?_, by simp⟩ <;> simp [go_sem]
theorem box2.setCell {g : Nat} {W : World} {a b v : Value} {p : Addr} (h : box2 W g a b) (hp : p.block ≠ g) : box2 (W.setCell p v) g a b := by
  obtain ⟨h0, h1, f0, f1, hl⟩ := h
  have hq : g ≠ p.block := fun e => hp e.symm
  refine ⟨(World.cell?_setCell_far _ _ _ _ hp).trans h0, (World.cell?_setCell_far _ _ _ _ hp).trans h1, ?_, ?_, by simpa using hl⟩ <;> simp [go_sem, *]
end Go.Proofs.Ytaececpphdaciaa
