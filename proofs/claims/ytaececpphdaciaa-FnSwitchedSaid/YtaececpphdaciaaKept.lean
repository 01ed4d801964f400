/-
  A struct of two cells that a call's region lays: what is kept of it, of what stood before, in whatever order the region goes.
-/
import Derived.Test.YtaececpphdaciaaGRat
import Derived.Deep.RegionHeld3
namespace Go.Proofs.Ytaececpphdaciaa
open Go.RowKit

theorem kept_new {lo : Nat} {wX w1 : World} {v0 v1 : Value} {t : TypeId} (h : Below (wX.alloc (.cells #[v0, v1] t)).heap.size (wX.alloc (.cells #[v0, v1] t)) w1) (hlt : lo ≤ wX.heap.size) :
    w1.cell? ⟨wX.heap.size, 0, none⟩ = some v0 ∧ w1.cell? ⟨wX.heap.size, 1, none⟩ = some v1 ∧ w1.frozen? ⟨wX.heap.size, 0, none⟩ = false ∧ w1.frozen? ⟨wX.heap.size, 1, none⟩ = false ∧ wX.heap.size < w1.heap.size ∧ lo ≤ wX.heap.size := by
  have s := h.size
  refine ⟨?_, ?_, ?_, ?_, by simp at s; omega, hlt⟩
  · rw [h.cell (p := ⟨wX.heap.size, 0, none⟩) (by simp)]; simp
  · rw [h.cell (p := ⟨wX.heap.size, 1, none⟩) (by simp)]; simp
  · rw [h.frozen (p := ⟨wX.heap.size, 0, none⟩) (by simp)]; simp
  · rw [h.frozen (p := ⟨wX.heap.size, 1, none⟩) (by simp)]; simp
theorem kept_newd {lo : Nat} {wX w1 : World} {v0 v1 : Value} {t : TypeId} (h : Below (wX.alloc (.cells #[v0, v1] t)).drew.heap.size (wX.alloc (.cells #[v0, v1] t)).drew w1) (hlt : lo ≤ wX.heap.size) :
    w1.cell? ⟨wX.heap.size, 0, none⟩ = some v0 ∧ w1.cell? ⟨wX.heap.size, 1, none⟩ = some v1 ∧ w1.frozen? ⟨wX.heap.size, 0, none⟩ = false ∧ w1.frozen? ⟨wX.heap.size, 1, none⟩ = false ∧ wX.heap.size < w1.heap.size ∧ lo ≤ wX.heap.size := by
  have s := h.size
  refine ⟨?_, ?_, ?_, ?_, by simp at s; omega, hlt⟩
  · rw [h.cell (p := ⟨wX.heap.size, 0, none⟩) (by simp)]; simp
  · rw [h.cell (p := ⟨wX.heap.size, 1, none⟩) (by simp)]; simp
  · rw [h.frozen (p := ⟨wX.heap.size, 0, none⟩) (by simp)]; simp
  · rw [h.frozen (p := ⟨wX.heap.size, 1, none⟩) (by simp)]; simp
theorem kept_on {lo g : Nat} {wa w1 : World} {v0 v1 : Value} (h : Below wa.heap.size wa w1) (k : wa.cell? ⟨g, 0, none⟩ = some v0 ∧ wa.cell? ⟨g, 1, none⟩ = some v1 ∧ wa.frozen? ⟨g, 0, none⟩ = false ∧ wa.frozen? ⟨g, 1, none⟩ = false ∧ g < wa.heap.size ∧ lo ≤ g) :
    w1.cell? ⟨g, 0, none⟩ = some v0 ∧ w1.cell? ⟨g, 1, none⟩ = some v1 ∧ w1.frozen? ⟨g, 0, none⟩ = false ∧ w1.frozen? ⟨g, 1, none⟩ = false ∧ g < w1.heap.size ∧ lo ≤ g := by
  obtain ⟨a, b, c, d, s, s'⟩ := k
  have := h.size
  exact ⟨(h.cell (p := ⟨g, 0, none⟩) s).trans a, (h.cell (p := ⟨g, 1, none⟩) s).trans b, (h.frozen (p := ⟨g, 0, none⟩) s).trans c, (h.frozen (p := ⟨g, 1, none⟩) s).trans d, by omega, s'⟩
theorem kept_drew {lo g : Nat} {wa : World} {v0 v1 : Value} (k : wa.cell? ⟨g, 0, none⟩ = some v0 ∧ wa.cell? ⟨g, 1, none⟩ = some v1 ∧ wa.frozen? ⟨g, 0, none⟩ = false ∧ wa.frozen? ⟨g, 1, none⟩ = false ∧ g < wa.heap.size ∧ lo ≤ g) :
    wa.drew.cell? ⟨g, 0, none⟩ = some v0 ∧ wa.drew.cell? ⟨g, 1, none⟩ = some v1 ∧ wa.drew.frozen? ⟨g, 0, none⟩ = false ∧ wa.drew.frozen? ⟨g, 1, none⟩ = false ∧ g < wa.drew.heap.size ∧ lo ≤ g := k
theorem kept_alloc {lo g : Nat} {wa : World} {v0 v1 : Value} {o : Obj} (k : wa.cell? ⟨g, 0, none⟩ = some v0 ∧ wa.cell? ⟨g, 1, none⟩ = some v1 ∧ wa.frozen? ⟨g, 0, none⟩ = false ∧ wa.frozen? ⟨g, 1, none⟩ = false ∧ g < wa.heap.size ∧ lo ≤ g) :
    (wa.alloc o).cell? ⟨g, 0, none⟩ = some v0 ∧ (wa.alloc o).cell? ⟨g, 1, none⟩ = some v1 ∧ (wa.alloc o).frozen? ⟨g, 0, none⟩ = false ∧ (wa.alloc o).frozen? ⟨g, 1, none⟩ = false ∧ g < (wa.alloc o).heap.size ∧ lo ≤ g :=
  kept_on ((Below.refl _ _).alloc (Nat.le_refl _) _) k
theorem kept_set {lo g : Nat} {wa : World} {v0 v1 v : Value} {p : Addr} (hp : p.block ≠ g) (k : wa.cell? ⟨g, 0, none⟩ = some v0 ∧ wa.cell? ⟨g, 1, none⟩ = some v1 ∧ wa.frozen? ⟨g, 0, none⟩ = false ∧ wa.frozen? ⟨g, 1, none⟩ = false ∧ g < wa.heap.size ∧ lo ≤ g) :
    (wa.setCell p v).cell? ⟨g, 0, none⟩ = some v0 ∧ (wa.setCell p v).cell? ⟨g, 1, none⟩ = some v1 ∧ (wa.setCell p v).frozen? ⟨g, 0, none⟩ = false ∧ (wa.setCell p v).frozen? ⟨g, 1, none⟩ = false ∧ g < (wa.setCell p v).heap.size ∧ lo ≤ g := by
  obtain ⟨a, b, c, d, s, s'⟩ := k
  exact ⟨by rw [World.cell?_setCell_far _ _ _ _ hp]; exact a, by rw [World.cell?_setCell_far _ _ _ _ hp]; exact b, by simpa using c, by simpa using d, by simpa using s, s'⟩
theorem kept_laid {lo : Nat} {wa : World} {v0 v1 : Value} {t : TypeId} (hlt : lo ≤ wa.heap.size) :
    (wa.alloc (.cells #[v0, v1] t)).cell? ⟨wa.heap.size, 0, none⟩ = some v0 ∧ (wa.alloc (.cells #[v0, v1] t)).cell? ⟨wa.heap.size, 1, none⟩ = some v1 ∧ (wa.alloc (.cells #[v0, v1] t)).frozen? ⟨wa.heap.size, 0, none⟩ = false ∧ (wa.alloc (.cells #[v0, v1] t)).frozen? ⟨wa.heap.size, 1, none⟩ = false ∧ wa.heap.size < (wa.alloc (.cells #[v0, v1] t)).heap.size ∧ lo ≤ wa.heap.size :=
  ⟨by simp, by simp, by simp, by simp, by simp, hlt⟩
theorem kept_put {lo g : Nat} {wa : World} {u0 u1 v0 v1 : Value} (k : wa.cell? ⟨g, 0, none⟩ = some u0 ∧ wa.cell? ⟨g, 1, none⟩ = some u1 ∧ wa.frozen? ⟨g, 0, none⟩ = false ∧ wa.frozen? ⟨g, 1, none⟩ = false ∧ g < wa.heap.size ∧ lo ≤ g) :
    ((wa.setCell ⟨g, 0, none⟩ v0).setCell ⟨g, 1, none⟩ v1).cell? ⟨g, 0, none⟩ = some v0 ∧ ((wa.setCell ⟨g, 0, none⟩ v0).setCell ⟨g, 1, none⟩ v1).cell? ⟨g, 1, none⟩ = some v1 ∧ ((wa.setCell ⟨g, 0, none⟩ v0).setCell ⟨g, 1, none⟩ v1).frozen? ⟨g, 0, none⟩ = false ∧ ((wa.setCell ⟨g, 0, none⟩ v0).setCell ⟨g, 1, none⟩ v1).frozen? ⟨g, 1, none⟩ = false ∧ g < ((wa.setCell ⟨g, 0, none⟩ v0).setCell ⟨g, 1, none⟩ v1).heap.size ∧ lo ≤ g := by
  obtain ⟨a, b, c, d, s, s'⟩ := k
  refine ⟨?_, ?_, by simpa using c, by simpa using d, by simpa using s, s'⟩
  · exact (World.cell?_setCell_other _ _ _ _ (by simp)).trans (World.cell?_setCell_same _ _ _ a)
  · exact World.cell?_setCell_same _ _ _ ((World.cell?_setCell_other _ _ _ _ (by simp)).trans b)
end Go.Proofs.Ytaececpphdaciaa
