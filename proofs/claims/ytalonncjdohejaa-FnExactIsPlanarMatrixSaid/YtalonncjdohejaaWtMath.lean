/-
  What a matrix of weights is: valid, at least one row, symmetric, nothing positive off the diagonal, each row's sum 0; how its rows read.
-/
import Derived.Test.YtalonncjdohejaaGMat
namespace Go.Proofs.Ytalonncjdohejaa
open Go.RowKit

theorem ret_w {a b : Bool} (h : b = a) : Ending.returned (.bool a) = .returned (.bool b) := by rw [h]
def rowI (m : MatI) (i : Nat) : List Int := m.getD i []
def elI (m : MatI) (i j : Nat) : Int := (rowI m i).getD j 0
def sumI (r : List Int) (k : Nat) : Int := (r.take k).sum
def QW (m : MatI) (i j : Nat) : Prop := elI m i j = elI m j i ∧ (i ≠ j → elI m i j ≤ 0)
def IsW (m : MatI) : Prop := 1 ≤ m.length ∧ matV m ∧ ∀ i, i < m.length → (∀ j, j < m.length → QW m i j) ∧ sumI (rowI m i) m.length = 0
noncomputable def isWB (m : MatI) : Bool := @decide (IsW m) (Classical.propDecidable _)
theorem isW_no {m : MatI} (h : ¬ IsW m) : isWB m = false := by unfold isWB; rw [@decide_eq_false _ (Classical.propDecidable _) h]
theorem isW_yes {m : MatI} (h : IsW m) : isWB m = true := by unfold isWB; rw [@decide_eq_true _ (Classical.propDecidable _) h]
theorem isW_iff {m : MatI} : isWB m = true ↔ IsW m := by unfold isWB; rw [@decide_eq_true_eq _ (Classical.propDecidable _)]
theorem rowI_at {m : MatI} {i : Nat} (h : i < m.length) : rowI m i = m[i] := by simp [rowI, h]
theorem elI_at {m : MatI} {i j : Nat} (h : j < (rowI m i).length) : elI m i j = (rowI m i)[j] := by simp [elI, h]
theorem sumI_zero (r : List Int) : sumI r 0 = 0 := by simp [sumI]
theorem sumI_succ (r : List Int) (k : Nat) (h : k < r.length) : sumI r (k + 1) = sumI r k + r[k] := by
  unfold sumI
  rw [List.take_succ_eq_append_getElem h, List.sum_append]
  simp
theorem rowI_len {m : MatI} (hv : matV m) {i : Nat} (hi : i < m.length) : (rowI m i).length = m.length := by rw [rowI_at hi]; exact (hv.2 i hi).1
theorem elI_in {m : MatI} (hv : matV m) {i j : Nat} (hi : i < m.length) (hj : j < m.length) : -1000 ≤ elI m i j ∧ elI m i j ≤ 1000 := by
  have hl := rowI_len hv hi
  rw [elI_at (by omega)]
  have h := (hv.2 i hi).2 j (by rw [rowI_at hi] at hl; omega)
  simp only [rowI_at hi]
  exact h
theorem sumI_next {m : MatI} (hv : matV m) {i j : Nat} (hi : i < m.length) (hj : j < m.length) : sumI (rowI m i) (j + 1) = sumI (rowI m i) j + elI m i j := by
  have hl := rowI_len hv hi
  rw [sumI_succ _ _ (by omega), elI_at (by omega)]
theorem sumI_in {m : MatI} (hv : matV m) {i : Nat} (hi : i < m.length) : ∀ j, j ≤ m.length → -(1000 * (j : Int)) ≤ sumI (rowI m i) j ∧ sumI (rowI m i) j ≤ 1000 * (j : Int)
  | 0, _ => by rw [sumI_zero]; omega
  | j + 1, h => by
    have ih := sumI_in hv hi j (by omega)
    have he := elI_in hv hi (show j < m.length by omega)
    rw [sumI_next hv hi (by omega)]
    omega
theorem rows_atI {w : World} {v : Value} {m : MatI} (h : ReadsII w v m) (h0 : 0 < m.length) (hL : ∀ i, i < m.length → (rowI m i).length = m.length) : ∃ g o c, v = .slice (some ⟨g, o, none⟩) m.length c ∧ g < w.heap.size ∧ ∀ i, i < m.length → ∃ gi oi ci, w.cell? ⟨g, o + i, none⟩ = some (.slice (some ⟨gi, oi, none⟩) m.length ci) ∧ gi < w.heap.size ∧ ReadsI w (.slice (some ⟨gi, oi, none⟩) m.length ci) (rowI m i) ∧ ∀ j, j < m.length → w.cell? ⟨gi, oi + j, none⟩ = some (.int .i64 (elI m i j)) := by
  obtain ⟨g, o, c, rfl, _, _, hg, hc⟩ := h.pos h0
  refine ⟨g, o, c, rfl, hg, fun i hi => ?_⟩
  obtain ⟨r, hr, hp⟩ := hc i hi
  rw [← rowI_at hi] at hp
  have hl := hL i hi
  obtain ⟨gi, oi, ci, rfl, _, _, hgi, hcc⟩ := hp.pos (by omega)
  rw [hl] at hr hp
  exact ⟨gi, oi, ci, hr, hgi, hp, fun j hj => by
    have hj' : j < (rowI m i).length := by omega
    rw [elI_at hj']
    exact hcc j hj'⟩
end Go.Proofs.Ytalonncjdohejaa
