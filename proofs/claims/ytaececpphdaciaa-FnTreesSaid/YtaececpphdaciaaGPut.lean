/-
  Wires put into a sorted list.
  Wires renumbered: sums of weights over maps of pairs, in any order; the sorted list of them.
  Ahead of DropNode: the wires that the program gathers in a map and numbers anew are those that the model puts one by one.
-/
import Derived.Test.YtaececpphdaciaaWithWires
import Derived.Test.YtaececpphdaciaaWeightsOf
import Derived.Test.YtaececpphdaciaaGIns
import Derived.Test.YtaececpphdaciaaMeshMath
namespace Go.Proofs.Ytaececpphdaciaa
open Go.RowKit Go.Maps

theorem lists_put {f : Int → Int → Option Int} {ws : List W3} (h : Lists f ws) (lo hi c : Int) : Lists (put2 f lo hi c) (insW (lo, hi, c) (restW ws lo hi)) := by
  refine ⟨sorted_insW _ _ (h.1.sublist List.filter_sublist) (fun e he => ((mem_rest _ _ _ _).1 he).2), fun u v d hu hv => ?_⟩
  rw [mem_insW, mem_rest, h.2 u v d hu hv]
  unfold put2
  by_cases he : u = lo ∧ v = hi
  · obtain ⟨rfl, rfl⟩ := he
    simp
    exact eq_comm
  · rw [if_neg he]
    constructor
    · rintro (h1 | h1)
      · simp only [Prod.mk.injEq] at h1; exact absurd ⟨h1.1, h1.2.1⟩ he
      · exact h1.1
    · intro h1; exact .inr ⟨h1, he⟩
/-- Without the weights 0. -/
def nz (f : Int → Int → Option Int) : Int → Int → Option Int := fun u v => if f u v = some 0 then none else f u v
theorem lists_drop {f : Int → Int → Option Int} {L : List W3} (h : Lists f L) : Lists (nz f) (dropZ L) := by
  refine ⟨h.1.sublist List.filter_sublist, fun u v d hu hv => ?_⟩
  unfold dropZ nz
  rw [List.mem_filter, h.2 u v d hu hv]
  by_cases h0 : f u v = some 0
  · rw [if_pos h0, h0]; simp
    rintro rfl; rfl
  · rw [if_neg h0]
    constructor
    · exact fun a => a.1
    · intro a
      refine ⟨a, ?_⟩
      have : d ≠ 0 := fun e => h0 (by rw [a, e])
      simpa using this
theorem Lists.ext {f g : Int → Int → Option Int} {L : List W3} (h : Lists f L) (he : ∀ u v, f u v = g u v) : Lists g L :=
  ⟨h.1, fun u v d hu hv => by rw [← he]; exact h.2 u v d hu hv⟩

theorem sorted_get {ws : List W3} (h : ∀ k, (h : k + 1 < ws.length) → wLt ws[k] ws[k + 1]) : ∀ d j, (hk : j + d + 1 < ws.length) → wLt (ws[j]'(by omega)) ws[j + d + 1]
  | 0, j, hk => h j hk
  | d + 1, j, hk => wLt_trans (sorted_get h d j (by omega)) (h (j + d + 1) hk)
theorem WiresV.pairwise {n : Int} {ws : List W3} (h : WiresV n ws) : ws.Pairwise wLt := by
  rw [List.pairwise_iff_getElem]
  intro i j hi hj hij
  obtain ⟨d, rfl⟩ : ∃ d, j = i + d + 1 := ⟨j - i - 1, by omega⟩
  exact sorted_get h.2 d i hj
theorem fAll_mem {ws : List W3} (hp : ws.Pairwise wLt) : ∀ k, k ≤ ws.length → ∀ u v d, (u, v, d) ∈ ws.take k ↔ fAll (ws.take k) u v = some d
  | 0, _, u, v, d => by simp [fAll]
  | k + 1, hk, u, v, d => by
    have ih := fAll_mem hp k (by omega) u v d
    rw [fAll_snoc ws k (by omega), List.take_succ_eq_append_getElem (by omega), List.mem_append, List.mem_singleton, ih]
    unfold put2
    by_cases he : u = ws[k].1 ∧ v = ws[k].2.1
    · rw [if_pos he]
      have hno : fAll (ws.take k) u v ≠ some d := by
        intro hf
        have hm := ih.2 hf
        obtain ⟨j, hj, hje⟩ := List.getElem_of_mem hm
        rw [List.getElem_take] at hje
        have hjk : j < k := by simp at hj; omega
        have := List.pairwise_iff_getElem.1 hp j k (by omega) (by omega) hjk
        rw [hje] at this
        unfold wLt at this
        simp only at this
        omega
      constructor
      · rintro (h | h)
        · exact absurd h hno
        · rw [← h]
      · intro h
        right
        simp only [Option.some.injEq] at h
        exact Prod.ext he.1 (Prod.ext he.2 h.symm)
    · rw [if_neg he]
      constructor
      · rintro (h | h)
        · exact h
        · exact absurd ⟨by rw [← h], by rw [← h]⟩ he
      · exact .inl
theorem lists_all {n : Int} {ws : List W3} (h : WiresV n ws) : Lists (fAll ws) ws :=
  ⟨h.pairwise, fun u v d _ _ => by have := fAll_mem h.pairwise ws.length (Nat.le_refl _) u v d; rwa [List.take_length] at this⟩
theorem fAll_pos {n : Int} {ws : List W3} (h : WiresV n ws) (u v : Int) : fAll ws u v ≠ some 0 := by
  intro hf
  have hm := (fAll_mem h.pairwise ws.length (Nat.le_refl _) u v 0).2 (by rwa [List.take_length])
  rw [List.take_length] at hm
  have := h.mem hm
  unfold wireV at this
  simp only at this
  omega
theorem put_some {n : Int} {ws : List W3} (h : WiresV n ws) (lo hi : Int) {x : Int} (hx : x ≠ 0) : Lists (put2 (fAll ws) lo hi x) (dropZ (put3 ws lo hi x false)) := by
  unfold put3
  rw [sumW_no]
  refine (lists_drop (lists_put (lists_all h) lo hi x)).ext fun u v => ?_
  unfold nz put2
  by_cases he : u = lo ∧ v = hi
  · simp [he, hx]
  · simp only [if_neg he, if_neg (fAll_pos h u v)]
theorem put_none {n : Int} {ws : List W3} (h : WiresV n ws) (lo hi : Int) : Lists (del2 (put2 (fAll ws) lo hi 0) lo hi) (dropZ (put3 ws lo hi 0 false)) := by
  unfold put3
  rw [sumW_no]
  refine (lists_drop (lists_put (lists_all h) lo hi 0)).ext fun u v => ?_
  unfold nz del2 put2
  by_cases he : u = lo ∧ v = hi
  · simp [he]
  · simp only [if_neg he, if_neg (fAll_pos h u v)]
theorem put_wf {n : Int} {ws : List W3} (h : WiresV n ws) (hn : n ≤ 5) {lo hi x : Int} (l0 : 0 ≤ lo) (l1 : lo ≤ 5) (h0 : 0 ≤ hi) (h1 : hi ≤ 5) : ∀ t ∈ dropZ (put3 ws lo hi x false), (Lit.int .i64 t.1).wf = true ∧ (Lit.int .i64 t.2.1).wf = true := by
  intro t ht
  unfold dropZ put3 at ht
  rw [sumW_no] at ht
  have ht := (List.mem_filter.1 ht).1
  rcases (mem_insW _ _ _).1 ht with rfl | ht
  · exact ⟨wf_of l0 (show lo ≤ 1000000 by omega), wf_of h0 (show hi ≤ 1000000 by omega)⟩
  · obtain ⟨a, b, c, -, -⟩ := h.mem ((mem_rest _ _ _ _).1 ht).1
    exact ⟨wf_of a (by omega), wf_of (by omega) (by omega)⟩
end Go.Proofs.Ytaececpphdaciaa

namespace Go.Proofs.Ytaececpphdaciaa
open Go.RowKit Go.Maps

def add2 (f : Int → Int → Option Int) (x y c : Int) : Int → Int → Option Int := put2 f x y (wrap64 ((f x y).getD 0 + c))
/-- The weights summed up under the new ends. -/
def moveF (key : W3 → Int × Int) (L : List W3) : Int → Int → Option Int := L.foldl (fun f e => add2 f (key e).1 (key e).2 e.2.2) (fun _ _ => none)
/-- A node's number once another one is gone. -/
def renI (v x : Int) : Int := if v < x then x - 1 else x
theorem wrap_comm (a b c : Int) : wrap64 (wrap64 (a + b) + c) = wrap64 (wrap64 (a + c) + b) := by unfold wrap64; omega
theorem wrap_inM {x : Int} (h : (Lit.int .i64 x).wf = true) : wrap64 x = x := by
  simp [Lit.wf, IntKind.min, IntKind.max, IntKind.bits, IntKind.signed] at h
  unfold wrap64; omega
theorem add2_comm (f : Int → Int → Option Int) (x y c u v d : Int) : add2 (add2 f x y c) u v d = add2 (add2 f u v d) x y c := by
  funext p q
  unfold add2 put2
  by_cases h1 : p = x ∧ q = y <;> by_cases h2 : p = u ∧ q = v
  · obtain ⟨rfl, rfl⟩ := h1
    obtain ⟨rfl, rfl⟩ := h2
    simp
    exact wrap_comm _ _ _
  · obtain ⟨rfl, rfl⟩ := h1
    have h3 : ¬ (u = p ∧ v = q) := fun e => h2 ⟨e.1.symm, e.2.symm⟩
    simp [h2]
  · obtain ⟨rfl, rfl⟩ := h2
    have h3 : ¬ (x = p ∧ y = q) := fun e => h1 ⟨e.1.symm, e.2.symm⟩
    simp [h1]
  · simp [h1, h2]
theorem moveF_perm (key : W3 → Int × Int) {L M : List W3} (h : L.Perm M) : moveF key L = moveF key M :=
  h.foldl_eq' (fun _ _ _ _ _ => add2_comm _ _ _ _ _ _ _) _
theorem moveF_snoc (key : W3 → Int × Int) (L : List W3) (e : W3) : moveF key (L ++ [e]) = add2 (moveF key L) (key e).1 (key e).2 e.2.2 := by
  unfold moveF; rw [List.foldl_append]; rfl
theorem Got.perm {f : Int → Int → Option Int} {left : Lit → Bool} {acc L : List W3} (h : Got f left acc) (hl : ∀ l, left l = false) (hL : Lists f L) (wL : ∀ t ∈ L, (Lit.int .i64 t.1).wf = true ∧ (Lit.int .i64 t.2.1).wf = true) : acc.Perm L := by
  have hp := List.mergeSort_perm acc (fun a b => !decide (wLt b a))
  have hs := List.pairwise_mergeSort (le := fun a b : W3 => !decide (wLt b a)) (by intro a b c; simp only [Bool.not_eq_true', decide_eq_false_iff_not]; unfold wLt; omega) (by intro a b; simp only [Bool.or_eq_true, Bool.not_eq_true', decide_eq_false_iff_not]; unfold wLt; omega) acc
  obtain ⟨h1, h2⟩ := h.done hl hp (hs.imp (by intro a b hab; simpa using hab))
  rw [← lists_unique h1 hL h2 wL]
  exact hp.symm

theorem sumW_none {L : List W3} {lo hi x : Int} {add : Bool} (h : ∀ e ∈ L, ¬ (e.1 = lo ∧ e.2.1 = hi)) : sumW L lo hi x add = x := by
  unfold sumW
  induction L with
  | nil => rfl
  | cons e r ih =>
    have he : atEnds lo hi e = false := by
      have := h e (by simp)
      unfold atEnds
      simp only [Bool.and_eq_false_iff, beq_eq_false_iff_ne]
      by_cases h1 : e.1 = lo
      · exact .inr fun h2 => this ⟨h1, h2⟩
      · exact .inl h1
    simp only [List.foldl_cons, he, Bool.false_and, Bool.false_eq_true, if_false]
    exact ih (fun t ht => h t (by simp [ht]))
theorem sumW_one : ∀ {L : List W3} {lo hi x d : Int}, L.Pairwise wLt → (lo, hi, d) ∈ L → sumW L lo hi x true = wrap64 (x + d)
  | [], _, _, _, _, _, h => by simp at h
  | e :: r, lo, hi, x, d, hp, h => by
    rw [List.pairwise_cons] at hp
    rcases List.mem_cons.1 h with rfl | hm
    · have hr : ∀ t ∈ r, ¬ (t.1 = lo ∧ t.2.1 = hi) := fun t ht hc => by
        have := hp.1 t ht
        unfold wLt at this
        simp only at this
        omega
      show sumW r lo hi (if (atEnds lo hi (lo, hi, d) && true) = true then wrap64 (x + d) else x) true = _
      rw [sumW_none hr]
      simp [atEnds]
    · have he : atEnds lo hi e = false := by
        have := hp.1 _ hm
        unfold wLt at this
        simp only at this
        unfold atEnds
        simp only [Bool.and_eq_false_iff, beq_eq_false_iff_ne]
        omega
      show sumW r lo hi (if (atEnds lo hi e && true) = true then wrap64 (x + e.2.2) else x) true = _
      rw [he]
      exact sumW_one hp.2 hm
theorem Lists.add {f : Int → Int → Option Int} {L : List W3} (h : Lists f L) {lo hi c : Int} (h1 : (Lit.int .i64 lo).wf = true) (h2 : (Lit.int .i64 hi).wf = true) (hc : (Lit.int .i64 c).wf = true) : Lists (add2 f lo hi c) (put3 L lo hi c true) := by
  have e : sumW L lo hi c true = wrap64 ((f lo hi).getD 0 + c) := by
    cases hf : f lo hi with
    | none =>
      rw [sumW_none]
      · simp [wrap_inM hc]
      · rintro ⟨p, q, d⟩ he ⟨e1, e2⟩
        simp only at e1 e2
        subst e1; subst e2
        rw [h.2 p q d h1 h2, hf] at he
        cases he
    | some d =>
      rw [sumW_one h.1 ((h.2 lo hi d h1 h2).2 hf), Int.add_comm]; rfl
  unfold put3 add2
  rw [e]
  exact lists_put h lo hi _
/-- The list that comes of putting all wires under their new ends. -/
def specM (key : W3 → Int × Int) (add : Bool) (ws : List W3) : List W3 := ws.foldl (fun L e => put3 L (key e).1 (key e).2 e.2.2 add) []
theorem specM_snoc (key : W3 → Int × Int) (add : Bool) (L : List W3) (e : W3) : specM key add (L ++ [e]) = put3 (specM key add L) (key e).1 (key e).2 e.2.2 add := by
  unfold specM; rw [List.foldl_append]; rfl
theorem snoc_ind {α : Type} {P : List α → Prop} (h0 : P []) (h1 : ∀ l a, P l → P (l ++ [a])) (l : List α) : P l := by
  have : ∀ r : List α, P r.reverse := by
    intro r
    induction r with
    | nil => exact h0
    | cons a r ih => rw [List.reverse_cons]; exact h1 _ _ ih
  have h := this l.reverse
  rwa [List.reverse_reverse] at h
def KeysV (key : W3 → Int × Int) (ws : List W3) : Prop := ∀ e ∈ ws, 0 ≤ (key e).1 ∧ (key e).1 ≤ 5 ∧ 0 ≤ (key e).2 ∧ (key e).2 ≤ 5 ∧ (Lit.int .i64 e.2.2).wf = true
theorem specM_lists (key : W3 → Int × Int) (ws : List W3) : KeysV key ws → Lists (moveF key ws) (specM key true ws) := by
  refine snoc_ind (P := fun ws => KeysV key ws → Lists (moveF key ws) (specM key true ws)) ?_ ?_ ws
  · intro _
    exact ⟨List.Pairwise.nil, fun x y c _ _ => by simp [specM, moveF]⟩
  · intro l a ih h
    rw [moveF_snoc, specM_snoc]
    obtain ⟨a0, a1, b0, b1, c0⟩ := h a (by simp)
    exact (ih fun e he => h e (by simp [he])).add (wf_of a0 (by omega)) (wf_of b0 (by omega)) c0
theorem mem_put3 {L : List W3} {lo hi c : Int} {add : Bool} {t : W3} (h : t ∈ put3 L lo hi c add) : (t.1 = lo ∧ t.2.1 = hi) ∨ t ∈ L := by
  unfold put3 at h
  rcases (mem_insW _ _ _).1 h with rfl | h
  · exact .inl ⟨rfl, rfl⟩
  · exact .inr ((mem_rest _ _ _ _).1 h).1
theorem specM_keys (key : W3 → Int × Int) (add : Bool) (ws : List W3) : ∀ t ∈ specM key add ws, ∃ e ∈ ws, (key e).1 = t.1 ∧ (key e).2 = t.2.1 := by
  refine snoc_ind (P := fun ws => ∀ t ∈ specM key add ws, ∃ e ∈ ws, (key e).1 = t.1 ∧ (key e).2 = t.2.1) ?_ ?_ ws
  · intro t ht; simp [specM] at ht
  · intro l a ih t ht
    rw [specM_snoc] at ht
    rcases mem_put3 ht with ⟨h1, h2⟩ | ht
    · exact ⟨a, by simp, h1.symm, h2.symm⟩
    · obtain ⟨e, he, h1, h2⟩ := ih t ht
      exact ⟨e, by simp [he], h1, h2⟩
theorem specM_wf (key : W3 → Int × Int) (add : Bool) (ws : List W3) (h : KeysV key ws) : ∀ t ∈ specM key add ws, (Lit.int .i64 t.1).wf = true ∧ (Lit.int .i64 t.2.1).wf = true := fun t ht => by
  obtain ⟨e, he, h1, h2⟩ := specM_keys key add ws t ht
  obtain ⟨a0, a1, b0, b1, -⟩ := h e he
  exact ⟨wf_of (by omega) (show t.1 ≤ 1000000 by omega), wf_of (by omega) (show t.2.1 ≤ 1000000 by omega)⟩
theorem specM_len (key : W3 → Int × Int) (add : Bool) (ws : List W3) : (specM key add ws).length ≤ ws.length := by
  refine snoc_ind (P := fun ws => (specM key add ws).length ≤ ws.length) ?_ ?_ ws
  · simp [specM]
  · intro l a ih
    rw [specM_snoc]
    have h1 : (put3 (specM key add l) (key a).1 (key a).2 a.2.2 add).length ≤ (specM key add l).length + 1 := by
      unfold put3; rw [insW_length]; have := List.length_filter_le (fun e => !atEnds (key a).1 (key a).2 e) (specM key add l); unfold restW; omega
    simp; omega
/-- Where no two wires get the same ends, putting and adding are the same. -/
theorem specM_same (key : W3 → Int × Int) (ws : List W3) (h : ws.Pairwise (fun a b => key a ≠ key b)) : specM key false ws = specM key true ws := by
  refine snoc_ind (P := fun ws => ws.Pairwise (fun a b => key a ≠ key b) → specM key false ws = specM key true ws) (fun _ => rfl) ?_ ws h
  intro l a ih hp
  rw [List.pairwise_append] at hp
  rw [specM_snoc, specM_snoc, ih hp.1]
  unfold put3
  rw [sumW_no, sumW_none]
  intro t ht hc
  obtain ⟨e, he, h1, h2⟩ := specM_keys key true l t ht
  exact hp.2.2 e he a (by simp) (Prod.ext (h1.trans hc.1) (h2.trans hc.2))
theorem moveF_get (key : W3 → Int × Int) (ws : List W3) (h : ws.Pairwise (fun a b => key a ≠ key b)) (hw : ∀ e ∈ ws, (Lit.int .i64 e.2.2).wf = true) (u v d : Int) : moveF key ws u v = some d ↔ ∃ e ∈ ws, key e = (u, v) ∧ e.2.2 = d := by
  revert d
  refine snoc_ind (P := fun ws => ws.Pairwise (fun a b => key a ≠ key b) → (∀ e ∈ ws, (Lit.int .i64 e.2.2).wf = true) → ∀ d, moveF key ws u v = some d ↔ ∃ e ∈ ws, key e = (u, v) ∧ e.2.2 = d) ?_ ?_ ws h hw
  · intro _ _ d; simp [moveF]
  · intro l a ih hp hw d
    rw [List.pairwise_append] at hp
    have ih := ih hp.1 (fun e he => hw e (by simp [he]))
    rw [moveF_snoc]
    unfold add2 put2
    by_cases hk : u = (key a).1 ∧ v = (key a).2
    · have hka : key a = (u, v) := Prod.ext hk.1.symm hk.2.symm
      have hn : moveF key l u v = none := by
        cases hm : moveF key l u v with
        | none => rfl
        | some c =>
          obtain ⟨e, he, h1, -⟩ := (ih c).1 hm
          exact absurd (h1.trans hka.symm) (hp.2.2 e he a (by simp))
      rw [if_pos hk, hka]
      simp only [hn, Option.getD_none, Int.zero_add, wrap_inM (hw a (by simp)), Option.some.injEq]
      constructor
      · intro e; exact ⟨a, by simp, hka, e⟩
      · rintro ⟨e, he, h1, h2⟩
        rcases List.mem_append.1 he with he | he
        · exact absurd (h1.trans hka.symm) (hp.2.2 e he a (by simp))
        · rw [List.mem_singleton] at he; subst he; exact h2
    · rw [if_neg hk, ih d]
      constructor
      · rintro ⟨e, he, h1, h2⟩; exact ⟨e, by simp [he], h1, h2⟩
      · rintro ⟨e, he, h1, h2⟩
        rcases List.mem_append.1 he with he | he
        · exact ⟨e, he, h1, h2⟩
        · rw [List.mem_singleton] at he; subst he; exact absurd ⟨by rw [h1], by rw [h1]⟩ hk
end Go.Proofs.Ytaececpphdaciaa

namespace Go.Proofs.Ytaececpphdaciaa
open Go.RowKit Go.Maps

def renW (v : Int) (e : W3) : W3 := (renI v e.1, renI v e.2.1, e.2.2)
def keyD (v : Int) (e : W3) : Int × Int := (renI v e.1, renI v e.2.1)
def keyV (v : Int) (e : W3) : Int × Int := (min (renI v e.1) (renI v e.2.1), max (renI v e.1) (renI v e.2.1))
theorem moveF_congr {k1 k2 : W3 → Int × Int} {L : List W3} : (∀ e ∈ L, k1 e = k2 e) → moveF k1 L = moveF k2 L :=
  snoc_ind (P := fun L => (∀ e ∈ L, k1 e = k2 e) → moveF k1 L = moveF k2 L) (fun _ => rfl) (fun l a ih h => by
    rw [moveF_snoc, moveF_snoc, ih (fun e he => h e (by simp [he])), h a (by simp)]) L
/-- No wire ends at v. -/
def Off (v : Int) (L : List W3) : Prop := ∀ e ∈ L, e.1 ≠ v ∧ e.2.1 ≠ v
theorem ren_idx {v : Nat} {a : Int} (h : 0 ≤ a) : ((idx a.toNat v : Nat) : Int) = renI (v : Int) a := by unfold idx renI; split <;> split <;> omega
theorem ren_inj {v a b : Int} (ha : a ≠ v) (hb : b ≠ v) : renI v a = renI v b ↔ a = b := by unfold renI; split <;> split <;> omega
theorem ren_wLt {v : Int} {a b : W3} (h1 : a.1 ≠ v ∧ a.2.1 ≠ v) (h2 : b.1 ≠ v ∧ b.2.1 ≠ v) : wLt (renW v a) (renW v b) ↔ wLt a b := by
  unfold wLt renW
  simp only [ren_inj h1.1 h2.1]
  unfold renI
  constructor
  · rintro (h | h)
    · left; split at h <;> split at h <;> omega
    · right; refine ⟨h.1, ?_⟩; have := h.2; split at this <;> split at this <;> omega
  · rintro (h | h)
    · left; split <;> split <;> omega
    · right; refine ⟨h.1, ?_⟩; split <;> split <;> omega
theorem insW_ren {v : Int} {x : W3} (hx : x.1 ≠ v ∧ x.2.1 ≠ v) : ∀ L : List W3, Off v L → insW (renW v x) (L.map (renW v)) = (insW x L).map (renW v)
  | [], _ => by simp [insW]
  | e :: r, h => by
    have he := h e (by simp)
    simp only [List.map_cons, insW]
    by_cases hl : wLt x e
    · rw [if_pos hl, if_pos ((ren_wLt hx he).2 hl)]; simp
    · rw [if_neg hl, if_neg (fun h' => hl ((ren_wLt hx he).1 h'))]
      simp only [List.map_cons]
      rw [insW_ren hx r (fun t ht => h t (by simp [ht]))]
theorem atEnds_ren {v lo hi : Int} (hl : lo ≠ v) (hh : hi ≠ v) {e : W3} (he : e.1 ≠ v ∧ e.2.1 ≠ v) : atEnds (renI v lo) (renI v hi) (renW v e) = atEnds lo hi e := by
  unfold atEnds renW
  rw [Bool.eq_iff_iff]
  simp only [Bool.and_eq_true, beq_iff_eq, ren_inj he.1 hl, ren_inj he.2 hh]
theorem put3_ren {v lo hi c : Int} (hl : lo ≠ v) (hh : hi ≠ v) {L : List W3} (h : Off v L) : put3 (L.map (renW v)) (renI v lo) (renI v hi) c true = (put3 L lo hi c true).map (renW v) := by
  have e1 : sumW (L.map (renW v)) (renI v lo) (renI v hi) c true = sumW L lo hi c true := by
    unfold sumW
    rw [List.foldl_map]
    induction L generalizing c with
    | nil => rfl
    | cons e r ih =>
      simp only [List.foldl_cons]
      rw [atEnds_ren hl hh (h e (by simp))]
      exact ih (fun t ht => h t (by simp [ht]))
  have e2 : restW (L.map (renW v)) (renI v lo) (renI v hi) = (restW L lo hi).map (renW v) := by
    unfold restW
    rw [List.filter_map]
    congr 1
    refine List.filter_congr fun e he => ?_
    show (!atEnds (renI v lo) (renI v hi) (renW v e)) = _
    rw [atEnds_ren hl hh (h e he)]
  unfold put3
  rw [e1, e2]
  exact insW_ren (x := (lo, hi, sumW L lo hi c true)) ⟨hl, hh⟩ _ (fun e he => h e (List.mem_filter.1 he).1)
theorem put3_off {v lo hi c : Int} (hl : lo ≠ v) (hh : hi ≠ v) {L : List W3} (h : Off v L) : Off v (put3 L lo hi c true) := fun e he => by
  unfold put3 at he
  rcases (mem_insW _ _ _).1 he with rfl | he
  · exact ⟨hl, hh⟩
  · exact h e (List.mem_filter.1 he).1
theorem insW_last : ∀ (L : List W3) (x : W3), (∀ e ∈ L, wLt e x) → insW x L = L ++ [x]
  | [], _, _ => rfl
  | e :: r, x, h => by
    have he := h e (by simp)
    have : ¬ wLt x e := fun h' => wLt_irrefl _ (wLt_trans he h')
    unfold insW
    rw [if_neg this, insW_last r x (fun t ht => h t (by simp [ht]))]
    rfl
theorem put3_last {L : List W3} {x : W3} (h : ∀ e ∈ L, wLt e x) : put3 L x.1 x.2.1 x.2.2 true = L ++ [x] := by
  have hn : ∀ e ∈ L, atEnds x.1 x.2.1 e = false := fun e he => by
    have := h e he
    unfold wLt at this
    unfold atEnds
    simp only [Bool.and_eq_false_imp, beq_iff_eq]
    intro h1
    simp
    omega
  have hr : restW L x.1 x.2.1 = L := List.filter_eq_self.2 (fun e he => by simp [hn e he])
  unfold put3
  rw [hr, sumW_noneA hn]
  exact insW_last L x h
/-- A sorted list, put wire by wire under new numbers, is the list with new numbers. -/
theorem specM_ren (v : Int) : ∀ L : List W3, L.Pairwise wLt → Off v L → specM (keyD v) true L = L.map (renW v) := by
  refine snoc_ind (P := fun L => L.Pairwise wLt → Off v L → specM (keyD v) true L = L.map (renW v)) (fun _ _ => rfl) ?_
  intro l a ih hp hv
  rw [List.pairwise_append] at hp
  rw [specM_snoc, ih hp.1 (fun e he => hv e (by simp [he])), List.map_append]
  have := put3_last (L := l.map (renW v)) (x := renW v a) (fun e he => by
    obtain ⟨t, ht, rfl⟩ := List.mem_map.1 he
    exact (ren_wLt (hv t (by simp [ht])) (hv a (by simp))).2 (hp.2.2 t ht a (by simp)))
  exact this
/-! ### the wires that stay, and the one that is added -/
def stayW (ws : List W3) (v x : Int) : List W3 := (ws.filter (fun e => decide (e.1 ≠ v ∧ e.2.1 ≠ v))).map (fun e => (e.1, e.2.1, e.2.2 * x))
theorem stay_yes {ws : List W3} {v x : Int} {k : Nat} (h : k < ws.length) (hy : ws[k].1 ≠ v ∧ ws[k].2.1 ≠ v) : stayW (ws.take (k + 1)) v x = stayW (ws.take k) v x ++ [(ws[k].1, ws[k].2.1, ws[k].2.2 * x)] := by
  unfold stayW; rw [List.take_succ_eq_append_getElem h, List.filter_append, List.map_append]; simp [hy]
theorem stay_no {ws : List W3} {v x : Int} {k : Nat} (h : k < ws.length) (hy : ¬ (ws[k].1 ≠ v ∧ ws[k].2.1 ≠ v)) : stayW (ws.take (k + 1)) v x = stayW (ws.take k) v x := by
  unfold stayW; rw [List.take_succ_eq_append_getElem h, List.filter_append, List.map_append]
  simp only [List.filter_cons, List.filter_nil, decide_eq_true_eq, if_neg hy, List.map_nil, List.append_nil]
theorem stay_off (ws : List W3) (v x : Int) : Off v (stayW ws v x) := fun e he => by
  obtain ⟨t, ht, rfl⟩ := List.mem_map.1 he
  simpa using (List.mem_filter.1 ht).2
theorem stay_sorted {ws : List W3} (v x : Int) (h : ws.Pairwise wLt) : (stayW ws v x).Pairwise wLt := by
  unfold stayW
  rw [List.pairwise_map]
  exact (h.filter _).imp (fun {a b} hab => hab)
theorem stay_len (ws : List W3) (v x : Int) : (stayW ws v x).length ≤ ws.length := by unfold stayW; rw [List.length_map]; exact List.length_filter_le _ _
theorem stay_mem {N : Int} {ws : List W3} (h : WiresV N ws) {v x : Int} (x0 : 0 ≤ x) (x1 : x ≤ 800) {e : W3} (he : e ∈ stayW ws v x) : 0 ≤ e.1 ∧ e.1 < e.2.1 ∧ e.2.1 < N ∧ 0 ≤ e.2.2 ∧ e.2.2 ≤ 160000 := by
  obtain ⟨t, ht, rfl⟩ := List.mem_map.1 he
  obtain ⟨a, b, c, d, f⟩ := h.mem (List.mem_filter.1 ht).1
  have h1 := Int.mul_le_mul f x1 x0 (by omega : (0 : Int) ≤ 200)
  have h2 : 0 ≤ t.2.2 * x := Int.mul_nonneg (by omega) x0
  exact ⟨a, b, c, h2, by show t.2.2 * x ≤ _; omega⟩
theorem meshA_stay {N : Int} {ws : List W3} (h : WiresV N ws) (v : Nat) (x : Int) : ∀ k, k ≤ ws.length → meshA ws v x k = specM (keyD (v : Int)) true (stayW (ws.take k) (v : Int) x)
  | 0, _ => by rw [meshA_zero]; simp [stayW, specM]
  | k + 1, hk => by
    have ih := meshA_stay h v x k (by omega)
    obtain ⟨h1, h2, h3, _, _⟩ := h.1 k (by omega)
    by_cases hy : ws[k].1 ≠ (v : Int) ∧ ws[k].2.1 ≠ (v : Int)
    · rw [meshA_yes (by omega) hy, stay_yes (by omega) hy, specM_snoc, ih]
      show put3 _ _ _ _ true = put3 _ (renI _ _) (renI _ _) _ true
      rw [ren_idx (by omega), ren_idx (by omega)]
    · rw [meshA_no (by omega) hy, stay_no (by omega) hy, ih]
/-- What the program holds in its map, as a sorted list. -/
def heldW (ws : List W3) (v x : Int) : List Int → List W3
  | [a, b] => put3 (stayW ws v x) a b (wBtw ws v a * wBtw ws v b) true
  | _ => stayW ws v x
theorem held_off {ws : List W3} {v x : Int} {l : List Int} (hl : ∀ b ∈ l, b ≠ v) : Off v (heldW ws v x l) := by
  unfold heldW
  split
  · exact put3_off (hl _ (by simp)) (hl _ (by simp)) (stay_off _ _ _)
  · exact stay_off _ _ _
theorem put3_sorted {L : List W3} {lo hi c : Int} (h : L.Pairwise wLt) : (put3 L lo hi c true).Pairwise wLt := by
  unfold put3
  refine sorted_insW _ _ (List.Pairwise.filter _ h) fun e he => ?_
  have := (List.mem_filter.1 he).2
  unfold atEnds at this
  simp only [Bool.not_eq_true', Bool.and_eq_false_imp, beq_iff_eq] at this
  rintro ⟨h1, h2⟩
  have h3 := this h1
  simp at h3
  exact h3 h2
theorem held_sorted {ws : List W3} {v x : Int} {l : List Int} (h : ws.Pairwise wLt) : (heldW ws v x l).Pairwise wLt := by
  unfold heldW
  split
  · exact put3_sorted (stay_sorted v x h)
  · exact stay_sorted v x h
/-- The model's list is the held one under new numbers. -/
theorem mesh_held {N : Nat} {ws : List W3} (h : WiresV N ws) (v : Nat) (h2 : (nearK ws (v : Int) N).length ≤ 2) : meshR N ws v = specM (keyD (v : Int)) true (heldW ws (v : Int) (wAt ws (v : Int)) (nearK ws (v : Int) N)) := by
  have hn := fun b hb => nearK_mem (ws := ws) (v := (v : Int)) (k := N) (u := b) hb
  have hp := pairW h
  unfold meshR
  rw [meshA_stay h v _ _ (Nat.le_refl _), List.take_length]
  generalize nearK ws (v : Int) N = l at *
  have hv : ∀ b ∈ l, b ≠ (v : Int) := fun b hb e => by
    subst e
    have := (hn _ hb).2.2
    unfold wBtw at this
    rw [if_pos rfl] at this
    omega
  match l, h2 with
  | [], _ => simp [meshO, heldW]
  | [a], _ => simp [meshO, meshI, heldW]
  | [a, b], _ =>
    have ha := hn a (by simp)
    have hb := hn b (by simp)
    simp only [meshO, meshI, heldW, List.foldl_cons, List.foldl_nil]
    rw [ren_idx ha.1, ren_idx hb.1, specM_ren _ _ (stay_sorted _ _ hp) (stay_off _ _ _), specM_ren _ _ (put3_sorted (stay_sorted _ _ hp)) (put3_off (hv a (by simp)) (hv b (by simp)) (stay_off _ _ _))]
    exact put3_ren (hv a (by simp)) (hv b (by simp)) (stay_off _ _ _)
theorem held_mem {N : Nat} {ws : List W3} (h : WiresV N ws) (hN : N ≤ 5) (v : Nat) (hv : v < N) (h2 : (nearK ws (v : Int) N).length ≤ 2) {e : W3} (he : e ∈ heldW ws (v : Int) (wAt ws (v : Int)) (nearK ws (v : Int) N)) : 0 ≤ e.1 ∧ e.1 < e.2.1 ∧ e.2.1 < N ∧ 0 ≤ e.2.2 ∧ e.2.2 ≤ 1000000 := by
  have hw := wAt_le h (by omega) (v : Int) (by omega) (by omega)
  have hn := fun b hb => nearK_mem (ws := ws) (v := (v : Int)) (k := N) (u := b) hb
  have hs := nearK_sorted ws (v : Int) N
  have hp := pairW h
  have base : ∀ e ∈ stayW ws (v : Int) (wAt ws (v : Int)), 0 ≤ e.1 ∧ e.1 < e.2.1 ∧ e.2.1 < (N : Int) ∧ 0 ≤ e.2.2 ∧ e.2.2 ≤ 160000 := fun e he => stay_mem h hw.1 hw.2 he
  generalize nearK ws (v : Int) N = l at *
  match l, h2 with
  | [], _ => have := base e he; omega
  | [a], _ => have := base e he; omega
  | [a, b], _ =>
    have ha := hn a (by simp)
    have hb := hn b (by simp)
    have hab : a < b := by simpa using hs
    have wa := wBtw_le h (v : Int) a
    have wb := wBtw_le h (v : Int) b
    have hm : 0 ≤ wBtw ws (v : Int) a * wBtw ws (v : Int) b := Int.mul_nonneg wa.1 wb.1
    have hm2 : wBtw ws (v : Int) a * wBtw ws (v : Int) b ≤ 40000 := by
      have h1 := Int.mul_le_mul wa.2 wb.2 wb.1 (by omega : (0 : Int) ≤ 200)
      omega
    have hS : Srt 160000 (stayW ws (v : Int) (wAt ws (v : Int))) := ⟨stay_sorted _ _ hp, fun t ht => by have := base t ht; omega⟩
    have hsum := sumW_le hS (by omega) (by omega) a b _ hm (by omega)
    unfold heldW put3 at he
    rcases (mem_insW _ _ _).1 he with rfl | he
    · exact ⟨ha.1, hab, hb.2.1, by show 0 ≤ sumW _ _ _ _ true; omega, by show sumW _ _ _ _ true ≤ _; omega⟩
    · have := base e (List.mem_filter.1 he).1; omega
theorem held_len {ws : List W3} {v x : Int} {l : List Int} : (heldW ws v x l).length ≤ ws.length + 1 := by
  unfold heldW
  split
  · rename_i a b
    have := put3_len (stayW ws v x) a b (wBtw ws v a * wBtw ws v b) true
    have := stay_len ws v x
    omega
  · have := stay_len ws v x; omega
/-- The map under new numbers lists what the model's list holds. -/
theorem moved_lists {N : Nat} {ws : List W3} (h : WiresV N ws) (hN : N ≤ 5) (v : Nat) (hv : v < N) (h2 : (nearK ws (v : Int) N).length ≤ 2) : Lists (moveF (keyV (v : Int)) (heldW ws (v : Int) (wAt ws (v : Int)) (nearK ws (v : Int) N))) (meshR N ws v) ∧ (∀ t ∈ meshR N ws v, (Lit.int .i64 t.1).wf = true ∧ (Lit.int .i64 t.2.1).wf = true) := by
  have hmem := fun e he => held_mem h hN v hv h2 (e := e) he
  have hoff : Off (v : Int) (heldW ws (v : Int) (wAt ws (v : Int)) (nearK ws (v : Int) N)) := held_off (fun b hb e => by
    subst e
    have := (nearK_mem hb).2.2
    unfold wBtw at this
    rw [if_pos rfl] at this
    omega)
  rw [mesh_held h v h2]
  generalize heldW ws (v : Int) (wAt ws (v : Int)) (nearK ws (v : Int) N) = L at *
  have hk : KeysV (keyD (v : Int)) L := fun e he => by
    have := hmem e he
    have hn := hoff e he
    unfold keyD renI
    refine ⟨?_, ?_, ?_, ?_, wf_of (by omega) (by omega)⟩ <;> (simp only; split <;> omega)
  have he : moveF (keyV (v : Int)) L = moveF (keyD (v : Int)) L := by
    have e1 : ∀ e ∈ L, keyV (v : Int) e = keyD (v : Int) e := fun e he => by
      have := hmem e he
      have hn := hoff e he
      have hlt : renI (v : Int) e.1 < renI (v : Int) e.2.1 := by unfold renI; split <;> split <;> omega
      unfold keyV keyD; rw [Int.min_def, Int.max_def]; simp only [Prod.mk.injEq]; constructor <;> split <;> omega
    exact moveF_congr e1
  rw [he]
  exact ⟨specM_lists _ _ hk, specM_wf _ true _ hk⟩
end Go.Proofs.Ytaececpphdaciaa
