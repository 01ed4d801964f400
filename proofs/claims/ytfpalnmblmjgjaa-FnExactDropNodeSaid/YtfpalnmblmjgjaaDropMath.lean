/-
  Ahead of DropNode: the wires that the program gathers in a map and numbers anew are those that the model puts one by one.
-/
import Derived.Test.YtfpalnmblmjgjaaMeshMath
import Derived.Test.YtfpalnmblmjgjaaMoveMath
import Derived.Test.YtfpalnmblmjgjaaPutMath
namespace Go.Proofs.Ytfpalnmblmjgjaa
open Go.RowKit Go.Maps

def renW (v : Int) (e : W3) : W3 := (renI v e.1, renI v e.2.1, e.2.2)
def keyD (v : Int) (e : W3) : Int × Int := (renI v e.1, renI v e.2.1)
def keyV (v : Int) (e : W3) : Int × Int := (min (renI v e.1) (renI v e.2.1), max (renI v e.1) (renI v e.2.1))
theorem moveF_congr {k1 k2 : W3 → Int × Int} {L : List W3} : (∀ e ∈ L, k1 e = k2 e) → moveF k1 L = moveF k2 L :=
  snoc_ind (P := fun L => (∀ e ∈ L, k1 e = k2 e) → moveF k1 L = moveF k2 L) (fun _ => rfl) (fun l a ih h => by
    rw [moveF_snoc, moveF_snoc, ih (fun e he => h e (by simp [he])), h a (by simp)]) L
/-- No wire ends at v. -/
def Off (v : Int) (L : List W3) : Prop := ∀ e ∈ L, e.1 ≠ v ∧ e.2.1 ≠ v
theorem ren_idx {v : Nat} {a : Int} (h : 0 ≤ a) : ((idx a.toNat v : Nat) : Int) = renI (v : Int) a := by unfold idx renI; split <;> split <;> omega
theorem ren_inj {v a b : Int} (ha : a ≠ v) (hb : b ≠ v) : renI v a = renI v b ↔ a = b := by unfold renI; split <;> split <;> omega
theorem ren_wLt {v : Int} {a b : W3} (h1 : a.1 ≠ v ∧ a.2.1 ≠ v) (h2 : b.1 ≠ v ∧ b.2.1 ≠ v) : wLt (renW v a) (renW v b) ↔ wLt a b := by
  unfold wLt renW
  simp only [ren_inj h1.1 h2.1]
  unfold renI
  constructor
  · rintro (h | h)
    · left; split at h <;> split at h <;> omega
    · right; refine ⟨h.1, ?_⟩; have := h.2; split at this <;> split at this <;> omega
  · rintro (h | h)
    · left; split <;> split <;> omega
    · right; refine ⟨h.1, ?_⟩; split <;> split <;> omega
theorem insW_ren {v : Int} {x : W3} (hx : x.1 ≠ v ∧ x.2.1 ≠ v) : ∀ L : List W3, Off v L → insW (renW v x) (L.map (renW v)) = (insW x L).map (renW v)
  | [], _ => by simp [insW]
  | e :: r, h => by
    have he := h e (by simp)
    simp only [List.map_cons, insW]
    by_cases hl : wLt x e
    · rw [if_pos hl, if_pos ((ren_wLt hx he).2 hl)]; simp
    · rw [if_neg hl, if_neg (fun h' => hl ((ren_wLt hx he).1 h'))]
      simp only [List.map_cons]
      rw [insW_ren hx r (fun t ht => h t (by simp [ht]))]
theorem atEnds_ren {v lo hi : Int} (hl : lo ≠ v) (hh : hi ≠ v) {e : W3} (he : e.1 ≠ v ∧ e.2.1 ≠ v) : atEnds (renI v lo) (renI v hi) (renW v e) = atEnds lo hi e := by
  unfold atEnds renW
  rw [Bool.eq_iff_iff]
  simp only [Bool.and_eq_true, beq_iff_eq, ren_inj he.1 hl, ren_inj he.2 hh]
theorem put3_ren {v lo hi c : Int} (hl : lo ≠ v) (hh : hi ≠ v) {L : List W3} (h : Off v L) : put3 (L.map (renW v)) (renI v lo) (renI v hi) c true = (put3 L lo hi c true).map (renW v) := by
  have e1 : sumW (L.map (renW v)) (renI v lo) (renI v hi) c true = sumW L lo hi c true := by
    unfold sumW
    rw [List.foldl_map]
    induction L generalizing c with
    | nil => rfl
    | cons e r ih =>
      simp only [List.foldl_cons]
      rw [atEnds_ren hl hh (h e (by simp))]
      exact ih (fun t ht => h t (by simp [ht]))
  have e2 : restW (L.map (renW v)) (renI v lo) (renI v hi) = (restW L lo hi).map (renW v) := by
    unfold restW
    rw [List.filter_map]
    congr 1
    refine List.filter_congr fun e he => ?_
    show (!atEnds (renI v lo) (renI v hi) (renW v e)) = _
    rw [atEnds_ren hl hh (h e he)]
  unfold put3
  rw [e1, e2]
  exact insW_ren (x := (lo, hi, sumW L lo hi c true)) ⟨hl, hh⟩ _ (fun e he => h e (List.mem_filter.1 he).1)
theorem put3_off {v lo hi c : Int} (hl : lo ≠ v) (hh : hi ≠ v) {L : List W3} (h : Off v L) : Off v (put3 L lo hi c true) := fun e he => by
  unfold put3 at he
  rcases (mem_insW _ _ _).1 he with rfl | he
  · exact ⟨hl, hh⟩
  · exact h e (List.mem_filter.1 he).1
theorem insW_last : ∀ (L : List W3) (x : W3), (∀ e ∈ L, wLt e x) → insW x L = L ++ [x]
  | [], _, _ => rfl
  | e :: r, x, h => by
    have he := h e (by simp)
    have : ¬ wLt x e := fun h' => wLt_irrefl _ (wLt_trans he h')
    unfold insW
    rw [if_neg this, insW_last r x (fun t ht => h t (by simp [ht]))]
    rfl
theorem put3_last {L : List W3} {x : W3} (h : ∀ e ∈ L, wLt e x) : put3 L x.1 x.2.1 x.2.2 true = L ++ [x] := by
  have hn : ∀ e ∈ L, atEnds x.1 x.2.1 e = false := fun e he => by
    have := h e he
    unfold wLt at this
    unfold atEnds
    simp only [Bool.and_eq_false_imp, beq_iff_eq]
    intro h1
    simp
    omega
  have hr : restW L x.1 x.2.1 = L := List.filter_eq_self.2 (fun e he => by simp [hn e he])
  unfold put3
  rw [hr, sumW_noneA hn]
  exact insW_last L x h
/-- A sorted list, put wire by wire under new numbers, is the list with new numbers. -/
theorem specM_ren (v : Int) : ∀ L : List W3, L.Pairwise wLt → Off v L → specM (keyD v) true L = L.map (renW v) := by
  refine snoc_ind (P := fun L => L.Pairwise wLt → Off v L → specM (keyD v) true L = L.map (renW v)) (fun _ _ => rfl) ?_
  intro l a ih hp hv
  rw [List.pairwise_append] at hp
  rw [specM_snoc, ih hp.1 (fun e he => hv e (by simp [he])), List.map_append]
  have := put3_last (L := l.map (renW v)) (x := renW v a) (fun e he => by
    obtain ⟨t, ht, rfl⟩ := List.mem_map.1 he
    exact (ren_wLt (hv t (by simp [ht])) (hv a (by simp))).2 (hp.2.2 t ht a (by simp)))
  exact this
/-! ### the wires that stay, and the one that is added -/
def stayW (ws : List W3) (v x : Int) : List W3 := (ws.filter (fun e => decide (e.1 ≠ v ∧ e.2.1 ≠ v))).map (fun e => (e.1, e.2.1, e.2.2 * x))
theorem stay_yes {ws : List W3} {v x : Int} {k : Nat} (h : k < ws.length) (hy : ws[k].1 ≠ v ∧ ws[k].2.1 ≠ v) : stayW (ws.take (k + 1)) v x = stayW (ws.take k) v x ++ [(ws[k].1, ws[k].2.1, ws[k].2.2 * x)] := by
  unfold stayW; rw [List.take_succ_eq_append_getElem h, List.filter_append, List.map_append]; simp [hy]
theorem stay_no {ws : List W3} {v x : Int} {k : Nat} (h : k < ws.length) (hy : ¬ (ws[k].1 ≠ v ∧ ws[k].2.1 ≠ v)) : stayW (ws.take (k + 1)) v x = stayW (ws.take k) v x := by
  unfold stayW; rw [List.take_succ_eq_append_getElem h, List.filter_append, List.map_append]
  simp only [List.filter_cons, List.filter_nil, decide_eq_true_eq, if_neg hy, List.map_nil, List.append_nil]
theorem stay_off (ws : List W3) (v x : Int) : Off v (stayW ws v x) := fun e he => by
  obtain ⟨t, ht, rfl⟩ := List.mem_map.1 he
  simpa using (List.mem_filter.1 ht).2
theorem stay_sorted {ws : List W3} (v x : Int) (h : ws.Pairwise wLt) : (stayW ws v x).Pairwise wLt := by
  unfold stayW
  rw [List.pairwise_map]
  exact (h.filter _).imp (fun {a b} hab => hab)
theorem stay_len (ws : List W3) (v x : Int) : (stayW ws v x).length ≤ ws.length := by unfold stayW; rw [List.length_map]; exact List.length_filter_le _ _
theorem stay_mem {N : Int} {ws : List W3} (h : WiresV N ws) {v x : Int} (x0 : 0 ≤ x) (x1 : x ≤ 800) {e : W3} (he : e ∈ stayW ws v x) : 0 ≤ e.1 ∧ e.1 < e.2.1 ∧ e.2.1 < N ∧ 0 ≤ e.2.2 ∧ e.2.2 ≤ 160000 := by
  obtain ⟨t, ht, rfl⟩ := List.mem_map.1 he
  obtain ⟨a, b, c, d, f⟩ := h.mem (List.mem_filter.1 ht).1
  have h1 := Int.mul_le_mul f x1 x0 (by omega : (0 : Int) ≤ 200)
  have h2 : 0 ≤ t.2.2 * x := Int.mul_nonneg (by omega) x0
  exact ⟨a, b, c, h2, by show t.2.2 * x ≤ _; omega⟩
theorem meshA_stay {N : Int} {ws : List W3} (h : WiresV N ws) (v : Nat) (x : Int) : ∀ k, k ≤ ws.length → meshA ws v x k = specM (keyD (v : Int)) true (stayW (ws.take k) (v : Int) x)
  | 0, _ => by rw [meshA_zero]; simp [stayW, specM]
  | k + 1, hk => by
    have ih := meshA_stay h v x k (by omega)
    obtain ⟨h1, h2, h3, _, _⟩ := h.1 k (by omega)
    by_cases hy : ws[k].1 ≠ (v : Int) ∧ ws[k].2.1 ≠ (v : Int)
    · rw [meshA_yes (by omega) hy, stay_yes (by omega) hy, specM_snoc, ih]
      show put3 _ _ _ _ true = put3 _ (renI _ _) (renI _ _) _ true
      rw [ren_idx (by omega), ren_idx (by omega)]
    · rw [meshA_no (by omega) hy, stay_no (by omega) hy, ih]
/-- What the program holds in its map, as a sorted list. -/
def heldW (ws : List W3) (v x : Int) : List Int → List W3
  | [a, b] => put3 (stayW ws v x) a b (wBtw ws v a * wBtw ws v b) true
  | _ => stayW ws v x
theorem held_off {ws : List W3} {v x : Int} {l : List Int} (hl : ∀ b ∈ l, b ≠ v) : Off v (heldW ws v x l) := by
  unfold heldW
  split
  · exact put3_off (hl _ (by simp)) (hl _ (by simp)) (stay_off _ _ _)
  · exact stay_off _ _ _
theorem put3_sorted {L : List W3} {lo hi c : Int} (h : L.Pairwise wLt) : (put3 L lo hi c true).Pairwise wLt := by
  unfold put3
  refine sorted_insW _ _ (List.Pairwise.filter _ h) fun e he => ?_
  have := (List.mem_filter.1 he).2
  unfold atEnds at this
  simp only [Bool.not_eq_true', Bool.and_eq_false_imp, beq_iff_eq] at this
  rintro ⟨h1, h2⟩
  have h3 := this h1
  simp at h3
  exact h3 h2
theorem held_sorted {ws : List W3} {v x : Int} {l : List Int} (h : ws.Pairwise wLt) : (heldW ws v x l).Pairwise wLt := by
  unfold heldW
  split
  · exact put3_sorted (stay_sorted v x h)
  · exact stay_sorted v x h
/-- The model's list is the held one under new numbers. -/
theorem mesh_held {N : Nat} {ws : List W3} (h : WiresV N ws) (v : Nat) (h2 : (nearK ws (v : Int) N).length ≤ 2) : meshR N ws v = specM (keyD (v : Int)) true (heldW ws (v : Int) (wAt ws (v : Int)) (nearK ws (v : Int) N)) := by
  have hn := fun b hb => nearK_mem (ws := ws) (v := (v : Int)) (k := N) (u := b) hb
  have hp := pairW h
  unfold meshR
  rw [meshA_stay h v _ _ (Nat.le_refl _), List.take_length]
  generalize nearK ws (v : Int) N = l at *
  have hv : ∀ b ∈ l, b ≠ (v : Int) := fun b hb e => by
    subst e
    have := (hn _ hb).2.2
    unfold wBtw at this
    rw [if_pos rfl] at this
    omega
  match l, h2 with
  | [], _ => simp [meshO, heldW]
  | [a], _ => simp [meshO, meshI, heldW]
  | [a, b], _ =>
    have ha := hn a (by simp)
    have hb := hn b (by simp)
    simp only [meshO, meshI, heldW, List.foldl_cons, List.foldl_nil]
    rw [ren_idx ha.1, ren_idx hb.1, specM_ren _ _ (stay_sorted _ _ hp) (stay_off _ _ _), specM_ren _ _ (put3_sorted (stay_sorted _ _ hp)) (put3_off (hv a (by simp)) (hv b (by simp)) (stay_off _ _ _))]
    exact put3_ren (hv a (by simp)) (hv b (by simp)) (stay_off _ _ _)
theorem held_mem {N : Nat} {ws : List W3} (h : WiresV N ws) (hN : N ≤ 5) (v : Nat) (hv : v < N) (h2 : (nearK ws (v : Int) N).length ≤ 2) {e : W3} (he : e ∈ heldW ws (v : Int) (wAt ws (v : Int)) (nearK ws (v : Int) N)) : 0 ≤ e.1 ∧ e.1 < e.2.1 ∧ e.2.1 < N ∧ 0 ≤ e.2.2 ∧ e.2.2 ≤ 1000000 := by
  have hw := wAt_le h (by omega) (v : Int) (by omega) (by omega)
  have hn := fun b hb => nearK_mem (ws := ws) (v := (v : Int)) (k := N) (u := b) hb
  have hs := nearK_sorted ws (v : Int) N
  have hp := pairW h
  have base : ∀ e ∈ stayW ws (v : Int) (wAt ws (v : Int)), 0 ≤ e.1 ∧ e.1 < e.2.1 ∧ e.2.1 < (N : Int) ∧ 0 ≤ e.2.2 ∧ e.2.2 ≤ 160000 := fun e he => stay_mem h hw.1 hw.2 he
  generalize nearK ws (v : Int) N = l at *
  match l, h2 with
  | [], _ => have := base e he; omega
  | [a], _ => have := base e he; omega
  | [a, b], _ =>
    have ha := hn a (by simp)
    have hb := hn b (by simp)
    have hab : a < b := by simpa using hs
    have wa := wBtw_le h (v : Int) a
    have wb := wBtw_le h (v : Int) b
    have hm : 0 ≤ wBtw ws (v : Int) a * wBtw ws (v : Int) b := Int.mul_nonneg wa.1 wb.1
    have hm2 : wBtw ws (v : Int) a * wBtw ws (v : Int) b ≤ 40000 := by
      have h1 := Int.mul_le_mul wa.2 wb.2 wb.1 (by omega : (0 : Int) ≤ 200)
      omega
    have hS : Srt 160000 (stayW ws (v : Int) (wAt ws (v : Int))) := ⟨stay_sorted _ _ hp, fun t ht => by have := base t ht; omega⟩
    have hsum := sumW_le hS (by omega) (by omega) a b _ hm (by omega)
    unfold heldW put3 at he
    rcases (mem_insW _ _ _).1 he with rfl | he
    · exact ⟨ha.1, hab, hb.2.1, by show 0 ≤ sumW _ _ _ _ true; omega, by show sumW _ _ _ _ true ≤ _; omega⟩
    · have := base e (List.mem_filter.1 he).1; omega
theorem held_len {ws : List W3} {v x : Int} {l : List Int} : (heldW ws v x l).length ≤ ws.length + 1 := by
  unfold heldW
  split
  · rename_i a b
    have := put3_len (stayW ws v x) a b (wBtw ws v a * wBtw ws v b) true
    have := stay_len ws v x
    omega
  · have := stay_len ws v x; omega
/-- The map under new numbers lists what the model's list holds. -/
theorem moved_lists {N : Nat} {ws : List W3} (h : WiresV N ws) (hN : N ≤ 5) (v : Nat) (hv : v < N) (h2 : (nearK ws (v : Int) N).length ≤ 2) : Lists (moveF (keyV (v : Int)) (heldW ws (v : Int) (wAt ws (v : Int)) (nearK ws (v : Int) N))) (meshR N ws v) ∧ (∀ t ∈ meshR N ws v, (Lit.int .i64 t.1).wf = true ∧ (Lit.int .i64 t.2.1).wf = true) := by
  have hmem := fun e he => held_mem h hN v hv h2 (e := e) he
  have hoff : Off (v : Int) (heldW ws (v : Int) (wAt ws (v : Int)) (nearK ws (v : Int) N)) := held_off (fun b hb e => by
    subst e
    have := (nearK_mem hb).2.2
    unfold wBtw at this
    rw [if_pos rfl] at this
    omega)
  rw [mesh_held h v h2]
  generalize heldW ws (v : Int) (wAt ws (v : Int)) (nearK ws (v : Int) N) = L at *
  have hk : KeysV (keyD (v : Int)) L := fun e he => by
    have := hmem e he
    have hn := hoff e he
    unfold keyD renI
    refine ⟨?_, ?_, ?_, ?_, wf_of (by omega) (by omega)⟩ <;> (simp only; split <;> omega)
  have he : moveF (keyV (v : Int)) L = moveF (keyD (v : Int)) L := by
    have e1 : ∀ e ∈ L, keyV (v : Int) e = keyD (v : Int) e := fun e he => by
      have := hmem e he
      have hn := hoff e he
      have hlt : renI (v : Int) e.1 < renI (v : Int) e.2.1 := by unfold renI; split <;> split <;> omega
      unfold keyV keyD; rw [Int.min_def, Int.max_def]; simp only [Prod.mk.injEq]; constructor <;> split <;> omega
    exact moveF_congr e1
  rw [he]
  exact ⟨specM_lists _ _ hk, specM_wf _ true _ hk⟩
end Go.Proofs.Ytfpalnmblmjgjaa
