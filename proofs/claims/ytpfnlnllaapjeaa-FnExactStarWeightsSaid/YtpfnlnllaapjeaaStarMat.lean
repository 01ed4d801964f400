/-
  Ahead of IsStarMatrix: when a response is that of a star.
-/
import Derived.Test.YtpfnlnllaapjeaaGResp
import Derived.Test.YtpfnlnllaapjeaaRatProd
import Derived.Test.YtpfnlnllaapjeaaNodes
namespace Go.Proofs.Ytpfnlnllaapjeaa
open Go.RowKit

/-- The product of two fractions. -/
def tmP (a b : P2) : P2 := rTimes a.1 a.2 b.1 b.2
theorem tmP_comm (a b : P2) : tmP a b = tmP b a := by
  have h : fit4 a.1 a.2 b.1 b.2 = fit4 b.1 b.2 a.1 a.2 := by
    unfold fit4
    rw [fitP_comm a.2 b.2, fitP_comm a.1 b.1]
    generalize rOk a.1 a.2 = x1
    generalize rOk b.1 b.2 = x2
    generalize fitP a.1 b.2 = x3
    generalize fitP b.1 a.2 = x4
    cases x1 <;> cases x2 <;> cases x3 <;> cases x4 <;> rfl
  unfold tmP rTimes
  rw [h, Int.mul_comm a.1 b.1, Int.mul_comm a.2 b.2]
def crossB (x y : P2) : Prop := x = y ∧ rOk x.1 x.2 = true
/-- Two products of elements are equal, and valid. -/
def CrossP (m : MatP) (i j k l : Nat) : Prop := crossB (tmP (elP m i j) (elP m k l)) (tmP (elP m i l) (elP m k j))
theorem cross_rows {m : MatP} {i j k l : Nat} (h : CrossP m i j k l) : CrossP m k j i l := by
  obtain ⟨h1, h2⟩ := h
  refine ⟨?_, ?_⟩
  · rw [tmP_comm (elP m k j), tmP_comm (elP m k l)]; exact h1.symm
  · rw [tmP_comm (elP m k j), ← h1]; exact h2
theorem cross_cols {m : MatP} {i j k l : Nat} (h : CrossP m i j k l) : CrossP m i l k j := by
  obtain ⟨h1, h2⟩ := h
  exact ⟨h1.symm, by rw [← h1]; exact h2⟩
def IsStar (m : MatP) : Prop := IsR m ∧ 3 ≤ m.length ∧ (∀ a b, a < m.length → b < m.length → (elP m a b).1 ≠ 0) ∧ ∀ a b c d, a < m.length → b < m.length → c < m.length → d < m.length → a ≠ b → a ≠ c → a ≠ d → b ≠ c → b ≠ d → c ≠ d → CrossP m a b c d
noncomputable def isStarB (m : MatP) : Bool := @decide (IsStar m) (Classical.propDecidable _)
theorem isStar_no {m : MatP} (h : ¬ IsStar m) : isStarB m = false := by unfold isStarB; rw [@decide_eq_false _ (Classical.propDecidable _) h]
theorem isStar_yes {m : MatP} (h : IsStar m) : isStarB m = true := by unfold isStarB; rw [@decide_eq_true _ (Classical.propDecidable _) h]
theorem isStar_iff {m : MatP} : isStarB m = true ↔ IsStar m := by unfold isStarB; rw [@decide_eq_true_eq _ (Classical.propDecidable _)]
theorem isRB_iff {m : MatP} : isRB m = true ↔ IsR m := by unfold isRB; rw [@decide_eq_true_eq _ (Classical.propDecidable _)]
/-- The k-th fraction of a row, by its column's number. -/
def colP (r : List P2) (c : Int) : P2 := r.getD c.toNat (0, 0)
/-- Two columns of two rows agree. -/
def AgreeP (r o : List P2) (c d : Int) : Prop := rOk (tmP (colP r c) (colP o d)).1 (tmP (colP r c) (colP o d)).2 = true ∧ tmP (colP r c) (colP o d) = tmP (colP r d) (colP o c)
def RowsP (r o : List P2) (q : List Int) : Prop := ∀ i (hi : i < q.length), ∀ j (hj : j < i), AgreeP r o q[i] (q[j]'(by omega))
noncomputable def rowsB (r o : List P2) (q : List Int) : Bool := @decide (RowsP r o q) (Classical.propDecidable _)
theorem rows_no {r o : List P2} {q : List Int} (h : ¬ RowsP r o q) : rowsB r o q = false := by unfold rowsB; rw [@decide_eq_false _ (Classical.propDecidable _) h]
theorem rows_yes {r o : List P2} {q : List Int} (h : RowsP r o q) : rowsB r o q = true := by unfold rowsB; rw [@decide_eq_true _ (Classical.propDecidable _) h]
theorem rows_iff {r o : List P2} {q : List Int} : rowsB r o q = true ↔ RowsP r o q := by unfold rowsB; rw [@decide_eq_true_eq _ (Classical.propDecidable _)]
/-- The products of two rows agree, for each two rows. -/
def ProdP (m : MatP) : Prop := ∀ i, i < m.length → ∀ k, k < i → rowsB (rowP m i) (rowP m k) (woL m.length [(i : Int), (k : Int)]) = true
noncomputable def prodB (m : MatP) : Bool := @decide (ProdP m) (Classical.propDecidable _)
theorem prod_no {m : MatP} (h : ¬ ProdP m) : prodB m = false := by unfold prodB; rw [@decide_eq_false _ (Classical.propDecidable _) h]
theorem prod_yes {m : MatP} (h : ProdP m) : prodB m = true := by unfold prodB; rw [@decide_eq_true _ (Classical.propDecidable _) h]
theorem prod_iff {m : MatP} : prodB m = true ↔ ProdP m := by unfold prodB; rw [@decide_eq_true_eq _ (Classical.propDecidable _)]
theorem col_el (m : MatP) (i j : Nat) : colP (rowP m i) (j : Int) = elP m i j := by unfold colP elP; rw [Int.toNat_natCast]
theorem agree_cross {m : MatP} {i k c d : Nat} : AgreeP (rowP m i) (rowP m k) (c : Int) (d : Int) ↔ CrossP m i c k d := by
  unfold AgreeP CrossP crossB
  rw [col_el, col_el, col_el, col_el]
  exact and_comm
theorem rows_pair {m : MatP} {I K : Nat} {q : List Int} (h : RowsP (rowP m I) (rowP m K) q) {c d : Nat} (hc : (c : Int) ∈ q) (hd : (d : Int) ∈ q) (hcd : c ≠ d) : CrossP m I c K d := by
  obtain ⟨i, hi, ei⟩ := List.getElem_of_mem hc
  obtain ⟨j, hj, ej⟩ := List.getElem_of_mem hd
  rcases Nat.lt_trichotomy j i with h1 | h1 | h1
  · have := h i hi j h1
    rw [ei, ej] at this
    exact agree_cross.1 this
  · subst h1
    rw [ei] at ej
    exact absurd (by omega) hcd
  · have := h j hj i h1
    rw [ei, ej] at this
    exact cross_cols (agree_cross.1 this)
theorem woL_in2 {N : Nat} {a b c : Nat} (hc : c < N) (h1 : c ≠ a) (h2 : c ≠ b) : (c : Int) ∈ woL N [(a : Int), (b : Int)] := by
  unfold woL
  refine List.mem_filter.2 ⟨(upTo_mem N _).2 ⟨by omega, by omega⟩, ?_⟩
  have e1 : ¬ (c : Int) = (a : Int) := by omega
  have e2 : ¬ (c : Int) = (b : Int) := by omega
  simp [e1, e2]
theorem woL_of2 {N : Nat} {a b : Nat} {x : Int} (h : x ∈ woL N [(a : Int), (b : Int)]) : ∃ c : Nat, x = c ∧ c < N ∧ c ≠ a ∧ c ≠ b := by
  obtain ⟨h1, h2⟩ := List.mem_filter.1 h
  obtain ⟨a0, a1⟩ := (upTo_mem N x).1 h1
  simp at h2
  exact ⟨x.toNat, by omega, by omega, by omega, by omega⟩
theorem prod_cross {m : MatP} (h : ProdP m) {a b c d : Nat} (ha : a < m.length) (hb : b < m.length) (hc : c < m.length) (hd : d < m.length) (ab : a ≠ b) (ac : a ≠ c) (ad : a ≠ d) (bc : b ≠ c) (bd : b ≠ d) (cd : c ≠ d) : CrossP m a b c d := by
  rcases Nat.lt_or_ge c a with h1 | h1
  · exact rows_pair (rows_iff.1 (h a ha c h1)) (woL_in2 hb (Ne.symm ab) bc) (woL_in2 hd (Ne.symm ad) (Ne.symm cd)) bd
  · exact cross_rows (rows_pair (rows_iff.1 (h c hc a (by omega))) (woL_in2 hb bc (Ne.symm ab)) (woL_in2 hd (Ne.symm cd) (Ne.symm ad)) bd)
theorem star_prod {m : MatP} (h : IsStar m) : ProdP m := fun i hi k hk => by
  refine rows_yes fun p hp j hj => ?_
  obtain ⟨c, ec, c1, c2, c3⟩ := woL_of2 (List.getElem_mem hp)
  have hj' : j < (woL m.length [(i : Int), (k : Int)]).length := by omega
  obtain ⟨d, ed, d1, d2, d3⟩ := woL_of2 (List.getElem_mem hj')
  have hn : (woL m.length [(i : Int), (k : Int)]).Nodup := (upTo_nodup _).filter _
  have hcd : c ≠ d := fun e => List.pairwise_iff_getElem.1 (List.nodup_iff_pairwise_ne.1 hn) j p hj' hp hj (by rw [ec, ed, e])
  rw [ec, ed]
  exact agree_cross.2 (h.2.2.2 i c k d hi c1 (by omega) d1 (Ne.symm c2) (by omega) (Ne.symm d2) c3 hcd (Ne.symm d3))
theorem star_parts {m : MatP} (h1 : IsR m) (h3 : 3 ≤ m.length) (h0 : ∀ a b, a < m.length → b < m.length → (elP m a b).1 ≠ 0) (hp : ProdP m) : IsStar m :=
  ⟨h1, h3, h0, fun _ _ _ _ ha hb hc hd ab ac ad bc bd cd => prod_cross hp ha hb hc hd ab ac ad bc bd cd⟩
end Go.Proofs.Ytpfnlnllaapjeaa
