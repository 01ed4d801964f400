/-
  Ahead of stages 7 and 8: wires added to a sorted list; the nodes near a node.
-/
import Derived.Test.YtaececpphdaciaaGIns
import Derived.Test.YtaececpphdaciaaCanon
import Derived.Test.YtaececpphdaciaaBetween
import Derived.Test.YtaececpphdaciaaGKir
import Derived.Test.YtaececpphdaciaaGMat
namespace Go.Proofs.Ytaececpphdaciaa
open Go.RowKit

/-- A sorted list of wires with weights from 0 to X. -/
structure Srt (X : Int) (ws : List W3) : Prop where
  srt : ws.Pairwise wLt
  mem : ∀ e ∈ ws, 0 ≤ e.1 ∧ e.1 < e.2.1 ∧ 0 ≤ e.2.2 ∧ e.2.2 ≤ X
theorem Srt.nil (X : Int) : Srt X [] := ⟨.nil, fun e he => by simp at he⟩
theorem Srt.mono {X Y : Int} {ws : List W3} (h : Srt X ws) (hXY : X ≤ Y) : Srt Y ws := ⟨h.srt, fun e he => by have := h.mem e he; omega⟩
theorem Srt.bound {X : Int} {ws : List W3} (h : Srt X ws) (hX : X ≤ 1000000000000) : WiresB ws := fun k hk => by
  have := h.mem ws[k] (List.getElem_mem hk)
  omega
theorem sumW_noneA {ws : List W3} {lo hi x : Int} {add : Bool} (h : ∀ e ∈ ws, atEnds lo hi e = false) : sumW ws lo hi x add = x := by
  unfold sumW
  induction ws generalizing x with
  | nil => rfl
  | cons e r ih =>
    simp only [List.foldl_cons, h e (by simp), Bool.false_and, Bool.false_eq_true, if_false]
    exact ih (fun t ht => h t (by simp [ht]))
theorem sumW_le {X : Int} {ws : List W3} (h : Srt X ws) (hX0 : 0 ≤ X) (hX : X ≤ 1000000000000) (lo hi x : Int) (hx : 0 ≤ x) (hx2 : x ≤ 1000000000000) : x ≤ sumW ws lo hi x true ∧ sumW ws lo hi x true ≤ x + X := by
  induction ws with
  | nil => simp [sumW]; omega
  | cons e r ih =>
    have hp := List.pairwise_cons.1 h.srt
    have hr : Srt X r := ⟨hp.2, fun t ht => h.mem t (by simp [ht])⟩
    by_cases he : atEnds lo hi e = true
    · have hw := h.mem e (by simp)
      have e1 : sumW (e :: r) lo hi x true = sumW r lo hi (wrap64 (x + e.2.2)) true := by
        unfold sumW; simp [he]
      have hno : ∀ t ∈ r, atEnds lo hi t = false := fun t ht => by
        have hl := hp.1 t ht
        unfold atEnds at he ⊢
        simp only [Bool.and_eq_true, beq_iff_eq] at he
        unfold wLt at hl
        simp only [Bool.and_eq_false_imp, beq_iff_eq]
        intro h1
        simp
        omega
      have hwr : wrap64 (x + e.2.2) = x + e.2.2 := by unfold wrap64; omega
      rw [e1, sumW_noneA hno, hwr]
      omega
    · have e1 : sumW (e :: r) lo hi x true = sumW r lo hi x true := by
        unfold sumW; simp [he]
      rw [e1]; exact ih hr
theorem Srt.put {X Y : Int} {ws : List W3} (h : Srt X ws) (hX0 : 0 ≤ X) (hX : X ≤ 1000000000000) (lo hi x : Int) (hl : 0 ≤ lo) (hlh : lo < hi) (hx : 0 ≤ x) (hxY : x ≤ Y) (hY : Y ≤ 1000000000000) : Srt (X + Y) (put3 ws lo hi x true) := by
  have hs := sumW_le h hX0 hX lo hi x hx (by omega)
  refine ⟨?_, fun e he => ?_⟩
  · unfold put3
    refine sorted_insW _ _ (List.Pairwise.filter _ h.srt) fun e he => ?_
    have := (List.mem_filter.1 he).2
    unfold atEnds at this
    simp only [Bool.not_eq_true', Bool.and_eq_false_imp, beq_iff_eq] at this
    rintro ⟨h1, h2⟩
    have h3 := this h1
    simp at h3
    exact h3 h2
  · unfold put3 at he
    rcases (mem_insW _ _ _).1 he with rfl | he
    · exact ⟨hl, hlh, by show 0 ≤ sumW ws lo hi x true; omega, by show sumW ws lo hi x true ≤ X + Y; omega⟩
    · have := h.mem e (List.mem_filter.1 he).1
      omega
theorem put3_len (ws : List W3) (lo hi x : Int) (add : Bool) : (put3 ws lo hi x add).length ≤ ws.length + 1 := by
  unfold put3; rw [insW_length]
  have := List.length_filter_le (fun e => !atEnds lo hi e) ws
  unfold restW; omega
/-- The nodes below k that are joined with v by a wire of weight. -/
def nearK (ws : List W3) (v : Int) (k : Nat) : List Int := ((List.range k).map (fun j : Nat => (j : Int))).filter (fun u => decide (0 < wBtw ws v u))
theorem nearK_zero (ws : List W3) (v : Int) : nearK ws v 0 = [] := by simp [nearK]
theorem nearK_yes {ws : List W3} {v : Int} {k : Nat} (h : 0 < wBtw ws v (k : Int)) : nearK ws v (k + 1) = nearK ws v k ++ [(k : Int)] := by
  unfold nearK; rw [List.range_succ, List.map_append, List.filter_append]; simp [h]
theorem nearK_no {ws : List W3} {v : Int} {k : Nat} (h : ¬ 0 < wBtw ws v (k : Int)) : nearK ws v (k + 1) = nearK ws v k := by
  unfold nearK; rw [List.range_succ, List.map_append, List.filter_append]; simp [h]
theorem nearK_length (ws : List W3) (v : Int) (k : Nat) : (nearK ws v k).length ≤ k := by
  have := List.length_filter_le (fun u => decide (0 < wBtw ws v u)) ((List.range k).map (fun j : Nat => (j : Int)))
  simpa [nearK] using this
theorem nearK_mem {ws : List W3} {v : Int} {k : Nat} {u : Int} (h : u ∈ nearK ws v k) : 0 ≤ u ∧ u < k ∧ 0 < wBtw ws v u := by
  obtain ⟨h1, h2⟩ := List.mem_filter.1 h
  obtain ⟨j, hj, rfl⟩ := List.mem_map.1 h1
  have := List.mem_range.1 hj
  exact ⟨by omega, by omega, by simpa using h2⟩
theorem nearK_sorted (ws : List W3) (v : Int) : ∀ k, (nearK ws v k).Pairwise (· < ·)
  | 0 => by rw [nearK_zero]; exact .nil
  | k + 1 => by
    have ih := nearK_sorted ws v k
    by_cases h : 0 < wBtw ws v (k : Int)
    · rw [nearK_yes h, List.pairwise_append]
      exact ⟨ih, by simp, fun a ha b hb => by simp at hb; subst hb; exact (nearK_mem ha).2.1⟩
    · rw [nearK_no h]; exact ih
/-! ### a node replaced by wires between its neighbours -/
theorem idx_lt {a b v : Nat} (h : a < b) (ha : a ≠ v) (hb : b ≠ v) : idx a v < idx b v := by unfold idx; split <;> split <;> omega
theorem idx_le {a v N : Nat} (h : a < N) (hv : v < N) (ha : a ≠ v) : idx a v + 1 < N := by unfold idx; split <;> omega
/-- The wires that do not end at v, renumbered, times x. -/
def meshA (ws : List W3) (v : Nat) (x : Int) (k : Nat) : List W3 := (ws.take k).foldl (fun acc e => if e.1 ≠ (v : Int) ∧ e.2.1 ≠ (v : Int) then put3 acc ((idx e.1.toNat v : Nat) : Int) ((idx e.2.1.toNat v : Nat) : Int) (e.2.2 * x) true else acc) []
theorem meshA_zero (ws : List W3) (v : Nat) (x : Int) : meshA ws v x 0 = [] := by simp [meshA]
theorem meshA_yes {ws : List W3} {v : Nat} {x : Int} {k : Nat} (h : k < ws.length) (hy : ws[k].1 ≠ (v : Int) ∧ ws[k].2.1 ≠ (v : Int)) : meshA ws v x (k + 1) = put3 (meshA ws v x k) ((idx ws[k].1.toNat v : Nat) : Int) ((idx ws[k].2.1.toNat v : Nat) : Int) (ws[k].2.2 * x) true := by
  unfold meshA; rw [List.take_succ_eq_append_getElem h, List.foldl_append]; simp [hy]
theorem meshA_no {ws : List W3} {v : Nat} {x : Int} {k : Nat} (h : k < ws.length) (hy : ¬ (ws[k].1 ≠ (v : Int) ∧ ws[k].2.1 ≠ (v : Int))) : meshA ws v x (k + 1) = meshA ws v x k := by
  unfold meshA; rw [List.take_succ_eq_append_getElem h, List.foldl_append]
  simp only [List.foldl_cons, List.foldl_nil, if_neg hy]
theorem meshA_srt {N v : Nat} {ws : List W3} {x : Int} (hw : WiresV N ws) (x0 : 0 ≤ x) (x1 : x ≤ 800) : ∀ k, k ≤ ws.length → k ≤ 1000 → Srt (k * 160000) (meshA ws v x k) ∧ (meshA ws v x k).length ≤ k
  | 0, _, _ => by rw [meshA_zero]; exact ⟨Srt.nil _, by simp⟩
  | k + 1, h, h2 => by
    obtain ⟨ih, il⟩ := meshA_srt hw x0 x1 k (by omega) (by omega)
    obtain ⟨v1, v2, v3, v4, v5⟩ := hw.1 k (by omega)
    have hkc : ((k + 1 : Nat) : Int) = (k : Int) + 1 := by omega
    by_cases hy : ws[k].1 ≠ (v : Int) ∧ ws[k].2.1 ≠ (v : Int)
    · rw [meshA_yes (by omega) hy]
      have hlt := idx_lt (a := ws[k].1.toNat) (b := ws[k].2.1.toNat) (v := v) (by omega) (by omega) (by omega)
      have hm : 0 ≤ ws[k].2.2 * x := Int.mul_nonneg (by omega) x0
      have hm2 : ws[k].2.2 * x ≤ 160000 := by
        have h1 := Int.mul_le_mul v5 x1 x0 (by omega : (0 : Int) ≤ 200)
        omega
      have hp := ih.put (Y := 160000) (by omega) (by omega) ((idx ws[k].1.toNat v : Nat) : Int) ((idx ws[k].2.1.toNat v : Nat) : Int) (ws[k].2.2 * x) (by omega) (by omega) hm hm2 (by omega)
      exact ⟨hp.mono (by omega), by have := put3_len (meshA ws v x k) ((idx ws[k].1.toNat v : Nat) : Int) ((idx ws[k].2.1.toNat v : Nat) : Int) (ws[k].2.2 * x) true; omega⟩
    · rw [meshA_no (by omega) hy]
      exact ⟨ih.mono (by omega), by omega⟩
/-- From a to each of l, with the product of the weights to v. -/
def meshI (ws : List W3) (v : Nat) (a : Int) (acc : List W3) (l : List Int) : List W3 := l.foldl (fun acc b => put3 acc ((idx a.toNat v : Nat) : Int) ((idx b.toNat v : Nat) : Int) (wBtw ws (v : Int) a * wBtw ws (v : Int) b) true) acc
theorem meshI_snoc (ws : List W3) (v : Nat) (a : Int) (acc : List W3) (l : List Int) (b : Int) : meshI ws v a acc (l ++ [b]) = put3 (meshI ws v a acc l) ((idx a.toNat v : Nat) : Int) ((idx b.toNat v : Nat) : Int) (wBtw ws (v : Int) a * wBtw ws (v : Int) b) true := by simp [meshI]
/-- Between each two of l. -/
def meshO (ws : List W3) (v : Nat) (acc : List W3) : List Int → List W3
  | [] => acc
  | a :: r => meshO ws v (meshI ws v a acc r) r
/-- What comes of a node v that is replaced by wires between its neighbours. -/
noncomputable def meshR (N : Nat) (ws : List W3) (v : Nat) : List W3 := meshO ws v (meshA ws v (wAt ws (v : Int)) ws.length) (nearK ws (v : Int) N)
theorem meshI_srt {N v : Nat} {ws : List W3} (hw : WiresV N ws) (a : Int) (a0 : 0 ≤ a) (av : a ≠ (v : Int)) : ∀ (l : List Int) (X : Int) (acc : List W3), Srt X acc → 0 ≤ X → X + l.length * 40000 ≤ 1000000000 → (∀ b ∈ l, a < b ∧ b ≠ (v : Int)) → Srt (X + l.length * 40000) (meshI ws v a acc l) ∧ (meshI ws v a acc l).length ≤ acc.length + l.length
  | [], X, acc, h, _, _, _ => by simp only [meshI, List.foldl_nil, List.length_nil]; exact ⟨h.mono (by omega), by omega⟩
  | b :: r, X, acc, h, h0, h1, hl => by
    have hb := hl b (by simp)
    have wa := wBtw_le hw (v : Int) a
    have wb := wBtw_le hw (v : Int) b
    have hm : 0 ≤ wBtw ws (v : Int) a * wBtw ws (v : Int) b := Int.mul_nonneg wa.1 wb.1
    have hm2 : wBtw ws (v : Int) a * wBtw ws (v : Int) b ≤ 40000 := by
      have h1 := Int.mul_le_mul wa.2 wb.2 wb.1 (by omega : (0 : Int) ≤ 200)
      omega
    have hlt := idx_lt (a := a.toNat) (b := b.toNat) (v := v) (by omega) (by omega) (by omega)
    have hll : (((b :: r).length : Nat) : Int) = (r.length : Int) + 1 := by simp
    have hp := h.put (Y := 40000) h0 (by omega) ((idx a.toNat v : Nat) : Int) ((idx b.toNat v : Nat) : Int) (wBtw ws (v : Int) a * wBtw ws (v : Int) b) (by omega) (by omega) hm hm2 (by omega)
    obtain ⟨i1, i2⟩ := meshI_srt hw a a0 av r (X + 40000) _ hp (by omega) (by omega) (fun c hc => hl c (by simp [hc]))
    have hpl := put3_len acc ((idx a.toNat v : Nat) : Int) ((idx b.toNat v : Nat) : Int) (wBtw ws (v : Int) a * wBtw ws (v : Int) b) true
    refine ⟨?_, ?_⟩
    · show Srt (X + ((b :: r).length : Nat) * 40000) (meshI ws v a (put3 acc _ _ _ true) r)
      exact i1.mono (by omega)
    · show (meshI ws v a (put3 acc _ _ _ true) r).length ≤ acc.length + (b :: r).length
      simp only [List.length_cons]
      omega
theorem meshO_srt {N v : Nat} {ws : List W3} (hw : WiresV N ws) : ∀ (l : List Int) (X : Int) (acc : List W3), Srt X acc → 0 ≤ X → l.length ≤ 5 → X + l.length * 200000 ≤ 1000000000 → l.Pairwise (· < ·) → (∀ b ∈ l, 0 ≤ b ∧ b ≠ (v : Int)) → Srt (X + l.length * 200000) (meshO ws v acc l) ∧ (meshO ws v acc l).length ≤ acc.length + l.length * 5
  | [], X, acc, h, _, _, _, _, _ => by simp only [meshO, List.length_nil]; exact ⟨h.mono (by omega), by omega⟩
  | a :: r, X, acc, h, h0, h5, h1, hp, hl => by
    have hp' := List.pairwise_cons.1 hp
    have ha := hl a (by simp)
    simp only [List.length_cons] at h5 h1 ⊢
    obtain ⟨i1, i2⟩ := meshI_srt hw a ha.1 ha.2 r X acc h h0 (by omega) (fun b hb => ⟨hp'.1 b hb, (hl b (by simp [hb])).2⟩)
    obtain ⟨j1, j2⟩ := meshO_srt hw r (X + r.length * 40000) _ i1 (by omega) (by omega) (by omega) hp'.2 (fun b hb => hl b (by simp [hb]))
    show Srt _ (meshO ws v (meshI ws v a acc r) r) ∧ (meshO ws v (meshI ws v a acc r) r).length ≤ _
    exact ⟨j1.mono (by omega), by omega⟩
theorem meshR_srt {N v : Nat} {ws : List W3} (hw : WiresV N ws) (h5 : N ≤ 5) (hv : v < N) (hlen : ws.length ≤ 25) : Srt 1000000000 (meshR N ws v) ∧ (meshR N ws v).length ≤ 50 := by
  have ha := wAt_le hw (by omega) (v : Int) (by omega) (by omega)
  obtain ⟨i1, i2⟩ := meshA_srt (v := v) hw ha.1 ha.2 ws.length (Nat.le_refl _) (by omega)
  have hn := nearK_length ws (v : Int) N
  obtain ⟨j1, j2⟩ := meshO_srt hw (nearK ws (v : Int) N) _ _ i1 (by omega) (by omega) (by omega) (nearK_sorted ws (v : Int) N) (fun b hb => by
    obtain ⟨b0, _, b2⟩ := nearK_mem hb
    refine ⟨b0, fun e => ?_⟩
    subst e
    unfold wBtw at b2
    rw [if_pos rfl] at b2
    omega)
  exact ⟨j1.mono (by omega), by unfold meshR; omega⟩
end Go.Proofs.Ytaececpphdaciaa
