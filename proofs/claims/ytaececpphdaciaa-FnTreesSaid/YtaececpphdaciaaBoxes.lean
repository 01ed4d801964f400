/-
  A block of four cells that a call has made, and what is kept of it.
-/
import Derived.Test.YtaececpphdaciaaGNet
import Derived.Deep.AppendLies
namespace Go.Proofs.Ytaececpphdaciaa
open Go.RowKit

/-- The block g of the world W holds these four values, and they may be written. -/
def box4 (W : World) (g : Nat) (a b c d : Value) : Prop :=
  W.cell? ⟨g, 0, none⟩ = some a ∧ W.cell? ⟨g, 1, none⟩ = some b ∧ W.cell? ⟨g, 2, none⟩ = some c ∧ W.cell? ⟨g, 3, none⟩ = some d ∧
  W.frozen? ⟨g, 0, none⟩ = false ∧ W.frozen? ⟨g, 1, none⟩ = false ∧ W.frozen? ⟨g, 2, none⟩ = false ∧ W.frozen? ⟨g, 3, none⟩ = false ∧ g < W.heap.size
theorem box4.below {B g : Nat} {W W' : World} {a b c d : Value} (h : box4 W g a b c d) (hB : Below B W W') (hg : g < B) : box4 W' g a b c d := by
  obtain ⟨h0, h1, h2, h3, f0, f1, f2, f3, hl⟩ := h
  exact ⟨(hB.cell (p := ⟨g, 0, none⟩) hg).trans h0, (hB.cell (p := ⟨g, 1, none⟩) hg).trans h1, (hB.cell (p := ⟨g, 2, none⟩) hg).trans h2, (hB.cell (p := ⟨g, 3, none⟩) hg).trans h3,
    (hB.frozen (p := ⟨g, 0, none⟩) hg).trans f0, (hB.frozen (p := ⟨g, 1, none⟩) hg).trans f1, (hB.frozen (p := ⟨g, 2, none⟩) hg).trans f2, (hB.frozen (p := ⟨g, 3, none⟩) hg).trans f3, Nat.lt_of_lt_of_le hl hB.size⟩
theorem box4.later {g : Nat} {W W' : World} {a b c d : Value} (h : box4 W g a b c d) (hB : Below W.heap.size W W') : box4 W' g a b c d := h.below hB h.2.2.2.2.2.2.2.2
theorem box4.grown {g : Nat} {W W' : World} {row : Option Nat} {a b c d : Value} (h : box4 W g a b c d) (hG : W.grownBy W' row) (hne : some g ≠ row) : box4 W' g a b c d := by
  obtain ⟨h0, h1, h2, h3, f0, f1, f2, f3, hl⟩ := h
  exact ⟨hG.cell h0 hne, hG.cell h1 hne, hG.cell h2 hne, hG.cell h3 hne,
    (hG.frozen_far ⟨g, 0, none⟩ hl hne).trans f0, (hG.frozen_far ⟨g, 1, none⟩ hl hne).trans f1, (hG.frozen_far ⟨g, 2, none⟩ hl hne).trans f2, (hG.frozen_far ⟨g, 3, none⟩ hl hne).trans f3, Nat.lt_of_lt_of_le hl hG.size⟩
theorem box4.alloc {g : Nat} {W : World} {a b c d : Value} (h : box4 W g a b c d) (o : Obj) : box4 (W.alloc o) g a b c d := by
  obtain ⟨h0, h1, h2, h3, f0, f1, f2, f3, hl⟩ := h
  have hne : g ≠ W.heap.size := by omega
  refine ⟨(World.cell?_alloc_old W _ ⟨g, 0, none⟩ hne).trans h0, (World.cell?_alloc_old W _ ⟨g, 1, none⟩ hne).trans h1, (World.cell?_alloc_old W _ ⟨g, 2, none⟩ hne).trans h2, (World.cell?_alloc_old W _ ⟨g, 3, none⟩ hne).trans h3, ?_, ?_, ?_, ?_, by simp; omega⟩ <;> simp [go_sem, *]
theorem box4.new (W : World) (a b c d : Value) (t : TypeId) : box4 (W.alloc (.cells #[a, b, c, d] t)) W.heap.size a b c d := by
  refine ⟨?_, ?_, ?_, ?_, ?_, ?_, ?_, ?_, by simp⟩ <;> simp [go_sem]
theorem box4.drew {g : Nat} {W : World} {a b c d : Value} (h : box4 W g a b c d) : box4 W.drew g a b c d := h
theorem box4.setCell {g : Nat} {W : World} {a b c d v : Value} {p : Addr} (h : box4 W g a b c d) (hp : p.block ≠ g) : box4 (W.setCell p v) g a b c d := by
  obtain ⟨h0, h1, h2, h3, f0, f1, f2, f3, hl⟩ := h
  have hq : g ≠ p.block := fun e => hp e.symm
  refine ⟨(World.cell?_setCell_far _ _ _ _ hp).trans h0, (World.cell?_setCell_far _ _ _ _ hp).trans h1, (World.cell?_setCell_far _ _ _ _ hp).trans h2, (World.cell?_setCell_far _ _ _ _ hp).trans h3, ?_, ?_, ?_, ?_, by simpa using hl⟩ <;> simp [go_sem, *]
theorem box4.set1 {g : Nat} {W : World} {a b c d v : Value} (h : box4 W g a b c d) : box4 (W.setCell ⟨g, 1, none⟩ v) g a v c d := by
  obtain ⟨h0, h1, h2, h3, f0, f1, f2, f3, hl⟩ := h
  refine ⟨?_, ?_, ?_, ?_, ?_, ?_, ?_, ?_, by simpa using hl⟩ <;> simp [go_sem, *]
theorem box4.set3 {g : Nat} {W : World} {a b c d v : Value} (h : box4 W g a b c d) : box4 (W.setCell ⟨g, 3, none⟩ v) g a b c v := by
  obtain ⟨h0, h1, h2, h3, f0, f1, f2, f3, hl⟩ := h
  refine ⟨?_, ?_, ?_, ?_, ?_, ?_, ?_, ?_, by simpa using hl⟩ <;> simp [go_sem, *]
end Go.Proofs.Ytaececpphdaciaa
