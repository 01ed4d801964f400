/-
  Wires put into a sorted list.
-/
import Derived.Test.YtfpalnmblmjgjaaWithWires
import Derived.Test.YtfpalnmblmjgjaaWeightsOf
import Derived.Test.YtfpalnmblmjgjaaInsMath
namespace Go.Proofs.Ytfpalnmblmjgjaa
open Go.RowKit Go.Maps

theorem lists_put {f : Int → Int → Option Int} {ws : List W3} (h : Lists f ws) (lo hi c : Int) : Lists (put2 f lo hi c) (insW (lo, hi, c) (restW ws lo hi)) := by
  refine ⟨sorted_insW _ _ (h.1.sublist List.filter_sublist) (fun e he => ((mem_rest _ _ _ _).1 he).2), fun u v d hu hv => ?_⟩
  rw [mem_insW, mem_rest, h.2 u v d hu hv]
  unfold put2
  by_cases he : u = lo ∧ v = hi
  · obtain ⟨rfl, rfl⟩ := he
    simp
    exact eq_comm
  · rw [if_neg he]
    constructor
    · rintro (h1 | h1)
      · simp only [Prod.mk.injEq] at h1; exact absurd ⟨h1.1, h1.2.1⟩ he
      · exact h1.1
    · intro h1; exact .inr ⟨h1, he⟩
/-- Without the weights 0. -/
def nz (f : Int → Int → Option Int) : Int → Int → Option Int := fun u v => if f u v = some 0 then none else f u v
theorem lists_drop {f : Int → Int → Option Int} {L : List W3} (h : Lists f L) : Lists (nz f) (dropZ L) := by
  refine ⟨h.1.sublist List.filter_sublist, fun u v d hu hv => ?_⟩
  unfold dropZ nz
  rw [List.mem_filter, h.2 u v d hu hv]
  by_cases h0 : f u v = some 0
  · rw [if_pos h0, h0]; simp
    rintro rfl; rfl
  · rw [if_neg h0]
    constructor
    · exact fun a => a.1
    · intro a
      refine ⟨a, ?_⟩
      have : d ≠ 0 := fun e => h0 (by rw [a, e])
      simpa using this
theorem Lists.ext {f g : Int → Int → Option Int} {L : List W3} (h : Lists f L) (he : ∀ u v, f u v = g u v) : Lists g L :=
  ⟨h.1, fun u v d hu hv => by rw [← he]; exact h.2 u v d hu hv⟩

theorem sorted_get {ws : List W3} (h : ∀ k, (h : k + 1 < ws.length) → wLt ws[k] ws[k + 1]) : ∀ d j, (hk : j + d + 1 < ws.length) → wLt (ws[j]'(by omega)) ws[j + d + 1]
  | 0, j, hk => h j hk
  | d + 1, j, hk => wLt_trans (sorted_get h d j (by omega)) (h (j + d + 1) hk)
theorem WiresV.pairwise {n : Int} {ws : List W3} (h : WiresV n ws) : ws.Pairwise wLt := by
  rw [List.pairwise_iff_getElem]
  intro i j hi hj hij
  obtain ⟨d, rfl⟩ : ∃ d, j = i + d + 1 := ⟨j - i - 1, by omega⟩
  exact sorted_get h.2 d i hj
theorem fAll_mem {ws : List W3} (hp : ws.Pairwise wLt) : ∀ k, k ≤ ws.length → ∀ u v d, (u, v, d) ∈ ws.take k ↔ fAll (ws.take k) u v = some d
  | 0, _, u, v, d => by simp [fAll]
  | k + 1, hk, u, v, d => by
    have ih := fAll_mem hp k (by omega) u v d
    rw [fAll_snoc ws k (by omega), List.take_succ_eq_append_getElem (by omega), List.mem_append, List.mem_singleton, ih]
    unfold put2
    by_cases he : u = ws[k].1 ∧ v = ws[k].2.1
    · rw [if_pos he]
      have hno : fAll (ws.take k) u v ≠ some d := by
        intro hf
        have hm := ih.2 hf
        obtain ⟨j, hj, hje⟩ := List.getElem_of_mem hm
        rw [List.getElem_take] at hje
        have hjk : j < k := by simp at hj; omega
        have := List.pairwise_iff_getElem.1 hp j k (by omega) (by omega) hjk
        rw [hje] at this
        unfold wLt at this
        simp only at this
        omega
      constructor
      · rintro (h | h)
        · exact absurd h hno
        · rw [← h]
      · intro h
        right
        simp only [Option.some.injEq] at h
        exact Prod.ext he.1 (Prod.ext he.2 h.symm)
    · rw [if_neg he]
      constructor
      · rintro (h | h)
        · exact h
        · exact absurd ⟨by rw [← h], by rw [← h]⟩ he
      · exact .inl
theorem lists_all {n : Int} {ws : List W3} (h : WiresV n ws) : Lists (fAll ws) ws :=
  ⟨h.pairwise, fun u v d _ _ => by have := fAll_mem h.pairwise ws.length (Nat.le_refl _) u v d; rwa [List.take_length] at this⟩
theorem fAll_pos {n : Int} {ws : List W3} (h : WiresV n ws) (u v : Int) : fAll ws u v ≠ some 0 := by
  intro hf
  have hm := (fAll_mem h.pairwise ws.length (Nat.le_refl _) u v 0).2 (by rwa [List.take_length])
  rw [List.take_length] at hm
  have := h.mem hm
  unfold wireV at this
  simp only at this
  omega
theorem put_some {n : Int} {ws : List W3} (h : WiresV n ws) (lo hi : Int) {x : Int} (hx : x ≠ 0) : Lists (put2 (fAll ws) lo hi x) (dropZ (put3 ws lo hi x false)) := by
  unfold put3
  rw [sumW_no]
  refine (lists_drop (lists_put (lists_all h) lo hi x)).ext fun u v => ?_
  unfold nz put2
  by_cases he : u = lo ∧ v = hi
  · simp [he, hx]
  · simp only [if_neg he, if_neg (fAll_pos h u v)]
theorem put_none {n : Int} {ws : List W3} (h : WiresV n ws) (lo hi : Int) : Lists (del2 (put2 (fAll ws) lo hi 0) lo hi) (dropZ (put3 ws lo hi 0 false)) := by
  unfold put3
  rw [sumW_no]
  refine (lists_drop (lists_put (lists_all h) lo hi 0)).ext fun u v => ?_
  unfold nz del2 put2
  by_cases he : u = lo ∧ v = hi
  · simp [he]
  · simp only [if_neg he, if_neg (fAll_pos h u v)]
theorem put_wf {n : Int} {ws : List W3} (h : WiresV n ws) (hn : n ≤ 5) {lo hi x : Int} (l0 : 0 ≤ lo) (l1 : lo ≤ 5) (h0 : 0 ≤ hi) (h1 : hi ≤ 5) : ∀ t ∈ dropZ (put3 ws lo hi x false), (Lit.int .i64 t.1).wf = true ∧ (Lit.int .i64 t.2.1).wf = true := by
  intro t ht
  unfold dropZ put3 at ht
  rw [sumW_no] at ht
  have ht := (List.mem_filter.1 ht).1
  rcases (mem_insW _ _ _).1 ht with rfl | ht
  · exact ⟨wf_of l0 (show lo ≤ 1000000 by omega), wf_of h0 (show hi ≤ 1000000 by omega)⟩
  · obtain ⟨a, b, c, -, -⟩ := h.mem ((mem_rest _ _ _ _).1 ht).1
    exact ⟨wf_of a (by omega), wf_of (by omega) (by omega)⟩
end Go.Proofs.Ytfpalnmblmjgjaa
