/-
  Wires renumbered: sums of weights over maps of pairs, in any order; the sorted list of them.
-/
import Derived.Test.YtfpalnmblmjgjaaPutMath
namespace Go.Proofs.Ytfpalnmblmjgjaa
open Go.RowKit Go.Maps

def add2 (f : Int → Int → Option Int) (x y c : Int) : Int → Int → Option Int := put2 f x y (wrap64 ((f x y).getD 0 + c))
/-- The weights summed up under the new ends. -/
def moveF (key : W3 → Int × Int) (L : List W3) : Int → Int → Option Int := L.foldl (fun f e => add2 f (key e).1 (key e).2 e.2.2) (fun _ _ => none)
/-- A node's number once another one is gone. -/
def renI (v x : Int) : Int := if v < x then x - 1 else x
theorem wrap_comm (a b c : Int) : wrap64 (wrap64 (a + b) + c) = wrap64 (wrap64 (a + c) + b) := by unfold wrap64; omega
theorem wrap_inM {x : Int} (h : (Lit.int .i64 x).wf = true) : wrap64 x = x := by
  simp [Lit.wf, IntKind.min, IntKind.max, IntKind.bits, IntKind.signed] at h
  unfold wrap64; omega
theorem add2_comm (f : Int → Int → Option Int) (x y c u v d : Int) : add2 (add2 f x y c) u v d = add2 (add2 f u v d) x y c := by
  funext p q
  unfold add2 put2
  by_cases h1 : p = x ∧ q = y <;> by_cases h2 : p = u ∧ q = v
  · obtain ⟨rfl, rfl⟩ := h1
    obtain ⟨rfl, rfl⟩ := h2
    simp
    exact wrap_comm _ _ _
  · obtain ⟨rfl, rfl⟩ := h1
    have h3 : ¬ (u = p ∧ v = q) := fun e => h2 ⟨e.1.symm, e.2.symm⟩
    simp [h2]
  · obtain ⟨rfl, rfl⟩ := h2
    have h3 : ¬ (x = p ∧ y = q) := fun e => h1 ⟨e.1.symm, e.2.symm⟩
    simp [h1]
  · simp [h1, h2]
theorem moveF_perm (key : W3 → Int × Int) {L M : List W3} (h : L.Perm M) : moveF key L = moveF key M :=
  h.foldl_eq' (fun _ _ _ _ _ => add2_comm _ _ _ _ _ _ _) _
theorem moveF_snoc (key : W3 → Int × Int) (L : List W3) (e : W3) : moveF key (L ++ [e]) = add2 (moveF key L) (key e).1 (key e).2 e.2.2 := by
  unfold moveF; rw [List.foldl_append]; rfl
theorem Got.perm {f : Int → Int → Option Int} {left : Lit → Bool} {acc L : List W3} (h : Got f left acc) (hl : ∀ l, left l = false) (hL : Lists f L) (wL : ∀ t ∈ L, (Lit.int .i64 t.1).wf = true ∧ (Lit.int .i64 t.2.1).wf = true) : acc.Perm L := by
  have hp := List.mergeSort_perm acc (fun a b => !decide (wLt b a))
  have hs := List.pairwise_mergeSort (le := fun a b : W3 => !decide (wLt b a)) (by intro a b c; simp only [Bool.not_eq_true', decide_eq_false_iff_not]; unfold wLt; omega) (by intro a b; simp only [Bool.or_eq_true, Bool.not_eq_true', decide_eq_false_iff_not]; unfold wLt; omega) acc
  obtain ⟨h1, h2⟩ := h.done hl hp (hs.imp (by intro a b hab; simpa using hab))
  rw [← lists_unique h1 hL h2 wL]
  exact hp.symm

theorem sumW_none {L : List W3} {lo hi x : Int} {add : Bool} (h : ∀ e ∈ L, ¬ (e.1 = lo ∧ e.2.1 = hi)) : sumW L lo hi x add = x := by
  unfold sumW
  induction L with
  | nil => rfl
  | cons e r ih =>
    have he : atEnds lo hi e = false := by
      have := h e (by simp)
      unfold atEnds
      simp only [Bool.and_eq_false_iff, beq_eq_false_iff_ne]
      by_cases h1 : e.1 = lo
      · exact .inr fun h2 => this ⟨h1, h2⟩
      · exact .inl h1
    simp only [List.foldl_cons, he, Bool.false_and, Bool.false_eq_true, if_false]
    exact ih (fun t ht => h t (by simp [ht]))
theorem sumW_one : ∀ {L : List W3} {lo hi x d : Int}, L.Pairwise wLt → (lo, hi, d) ∈ L → sumW L lo hi x true = wrap64 (x + d)
  | [], _, _, _, _, _, h => by simp at h
  | e :: r, lo, hi, x, d, hp, h => by
    rw [List.pairwise_cons] at hp
    rcases List.mem_cons.1 h with rfl | hm
    · have hr : ∀ t ∈ r, ¬ (t.1 = lo ∧ t.2.1 = hi) := fun t ht hc => by
        have := hp.1 t ht
        unfold wLt at this
        simp only at this
        omega
      show sumW r lo hi (if (atEnds lo hi (lo, hi, d) && true) = true then wrap64 (x + d) else x) true = _
      rw [sumW_none hr]
      simp [atEnds]
    · have he : atEnds lo hi e = false := by
        have := hp.1 _ hm
        unfold wLt at this
        simp only at this
        unfold atEnds
        simp only [Bool.and_eq_false_iff, beq_eq_false_iff_ne]
        omega
      show sumW r lo hi (if (atEnds lo hi e && true) = true then wrap64 (x + e.2.2) else x) true = _
      rw [he]
      exact sumW_one hp.2 hm
theorem Lists.add {f : Int → Int → Option Int} {L : List W3} (h : Lists f L) {lo hi c : Int} (h1 : (Lit.int .i64 lo).wf = true) (h2 : (Lit.int .i64 hi).wf = true) (hc : (Lit.int .i64 c).wf = true) : Lists (add2 f lo hi c) (put3 L lo hi c true) := by
  have e : sumW L lo hi c true = wrap64 ((f lo hi).getD 0 + c) := by
    cases hf : f lo hi with
    | none =>
      rw [sumW_none]
      · simp [wrap_inM hc]
      · rintro ⟨p, q, d⟩ he ⟨e1, e2⟩
        simp only at e1 e2
        subst e1; subst e2
        rw [h.2 p q d h1 h2, hf] at he
        cases he
    | some d =>
      rw [sumW_one h.1 ((h.2 lo hi d h1 h2).2 hf), Int.add_comm]; rfl
  unfold put3 add2
  rw [e]
  exact lists_put h lo hi _
/-- The list that comes of putting all wires under their new ends. -/
def specM (key : W3 → Int × Int) (add : Bool) (ws : List W3) : List W3 := ws.foldl (fun L e => put3 L (key e).1 (key e).2 e.2.2 add) []
theorem specM_snoc (key : W3 → Int × Int) (add : Bool) (L : List W3) (e : W3) : specM key add (L ++ [e]) = put3 (specM key add L) (key e).1 (key e).2 e.2.2 add := by
  unfold specM; rw [List.foldl_append]; rfl
theorem snoc_ind {α : Type} {P : List α → Prop} (h0 : P []) (h1 : ∀ l a, P l → P (l ++ [a])) (l : List α) : P l := by
  have : ∀ r : List α, P r.reverse := by
    intro r
    induction r with
    | nil => exact h0
    | cons a r ih => rw [List.reverse_cons]; exact h1 _ _ ih
  have h := this l.reverse
  rwa [List.reverse_reverse] at h
def KeysV (key : W3 → Int × Int) (ws : List W3) : Prop := ∀ e ∈ ws, 0 ≤ (key e).1 ∧ (key e).1 ≤ 5 ∧ 0 ≤ (key e).2 ∧ (key e).2 ≤ 5 ∧ (Lit.int .i64 e.2.2).wf = true
theorem specM_lists (key : W3 → Int × Int) (ws : List W3) : KeysV key ws → Lists (moveF key ws) (specM key true ws) := by
  refine snoc_ind (P := fun ws => KeysV key ws → Lists (moveF key ws) (specM key true ws)) ?_ ?_ ws
  · intro _
    exact ⟨List.Pairwise.nil, fun x y c _ _ => by simp [specM, moveF]⟩
  · intro l a ih h
    rw [moveF_snoc, specM_snoc]
    obtain ⟨a0, a1, b0, b1, c0⟩ := h a (by simp)
    exact (ih fun e he => h e (by simp [he])).add (wf_of a0 (by omega)) (wf_of b0 (by omega)) c0
theorem mem_put3 {L : List W3} {lo hi c : Int} {add : Bool} {t : W3} (h : t ∈ put3 L lo hi c add) : (t.1 = lo ∧ t.2.1 = hi) ∨ t ∈ L := by
  unfold put3 at h
  rcases (mem_insW _ _ _).1 h with rfl | h
  · exact .inl ⟨rfl, rfl⟩
  · exact .inr ((mem_rest _ _ _ _).1 h).1
theorem specM_keys (key : W3 → Int × Int) (add : Bool) (ws : List W3) : ∀ t ∈ specM key add ws, ∃ e ∈ ws, (key e).1 = t.1 ∧ (key e).2 = t.2.1 := by
  refine snoc_ind (P := fun ws => ∀ t ∈ specM key add ws, ∃ e ∈ ws, (key e).1 = t.1 ∧ (key e).2 = t.2.1) ?_ ?_ ws
  · intro t ht; simp [specM] at ht
  · intro l a ih t ht
    rw [specM_snoc] at ht
    rcases mem_put3 ht with ⟨h1, h2⟩ | ht
    · exact ⟨a, by simp, h1.symm, h2.symm⟩
    · obtain ⟨e, he, h1, h2⟩ := ih t ht
      exact ⟨e, by simp [he], h1, h2⟩
theorem specM_wf (key : W3 → Int × Int) (add : Bool) (ws : List W3) (h : KeysV key ws) : ∀ t ∈ specM key add ws, (Lit.int .i64 t.1).wf = true ∧ (Lit.int .i64 t.2.1).wf = true := fun t ht => by
  obtain ⟨e, he, h1, h2⟩ := specM_keys key add ws t ht
  obtain ⟨a0, a1, b0, b1, -⟩ := h e he
  exact ⟨wf_of (by omega) (show t.1 ≤ 1000000 by omega), wf_of (by omega) (show t.2.1 ≤ 1000000 by omega)⟩
theorem specM_len (key : W3 → Int × Int) (add : Bool) (ws : List W3) : (specM key add ws).length ≤ ws.length := by
  refine snoc_ind (P := fun ws => (specM key add ws).length ≤ ws.length) ?_ ?_ ws
  · simp [specM]
  · intro l a ih
    rw [specM_snoc]
    have h1 : (put3 (specM key add l) (key a).1 (key a).2 a.2.2 add).length ≤ (specM key add l).length + 1 := by
      unfold put3; rw [insW_length]; have := List.length_filter_le (fun e => !atEnds (key a).1 (key a).2 e) (specM key add l); unfold restW; omega
    simp; omega
/-- Where no two wires get the same ends, putting and adding are the same. -/
theorem specM_same (key : W3 → Int × Int) (ws : List W3) (h : ws.Pairwise (fun a b => key a ≠ key b)) : specM key false ws = specM key true ws := by
  refine snoc_ind (P := fun ws => ws.Pairwise (fun a b => key a ≠ key b) → specM key false ws = specM key true ws) (fun _ => rfl) ?_ ws h
  intro l a ih hp
  rw [List.pairwise_append] at hp
  rw [specM_snoc, specM_snoc, ih hp.1]
  unfold put3
  rw [sumW_no, sumW_none]
  intro t ht hc
  obtain ⟨e, he, h1, h2⟩ := specM_keys key true l t ht
  exact hp.2.2 e he a (by simp) (Prod.ext (h1.trans hc.1) (h2.trans hc.2))
theorem moveF_get (key : W3 → Int × Int) (ws : List W3) (h : ws.Pairwise (fun a b => key a ≠ key b)) (hw : ∀ e ∈ ws, (Lit.int .i64 e.2.2).wf = true) (u v d : Int) : moveF key ws u v = some d ↔ ∃ e ∈ ws, key e = (u, v) ∧ e.2.2 = d := by
  revert d
  refine snoc_ind (P := fun ws => ws.Pairwise (fun a b => key a ≠ key b) → (∀ e ∈ ws, (Lit.int .i64 e.2.2).wf = true) → ∀ d, moveF key ws u v = some d ↔ ∃ e ∈ ws, key e = (u, v) ∧ e.2.2 = d) ?_ ?_ ws h hw
  · intro _ _ d; simp [moveF]
  · intro l a ih hp hw d
    rw [List.pairwise_append] at hp
    have ih := ih hp.1 (fun e he => hw e (by simp [he]))
    rw [moveF_snoc]
    unfold add2 put2
    by_cases hk : u = (key a).1 ∧ v = (key a).2
    · have hka : key a = (u, v) := Prod.ext hk.1.symm hk.2.symm
      have hn : moveF key l u v = none := by
        cases hm : moveF key l u v with
        | none => rfl
        | some c =>
          obtain ⟨e, he, h1, -⟩ := (ih c).1 hm
          exact absurd (h1.trans hka.symm) (hp.2.2 e he a (by simp))
      rw [if_pos hk, hka]
      simp only [hn, Option.getD_none, Int.zero_add, wrap_inM (hw a (by simp)), Option.some.injEq]
      constructor
      · intro e; exact ⟨a, by simp, hka, e⟩
      · rintro ⟨e, he, h1, h2⟩
        rcases List.mem_append.1 he with he | he
        · exact absurd (h1.trans hka.symm) (hp.2.2 e he a (by simp))
        · rw [List.mem_singleton] at he; subst he; exact h2
    · rw [if_neg hk, ih d]
      constructor
      · rintro ⟨e, he, h1, h2⟩; exact ⟨e, by simp [he], h1, h2⟩
      · rintro ⟨e, he, h1, h2⟩
        rcases List.mem_append.1 he with he | he
        · exact ⟨e, he, h1, h2⟩
        · rw [List.mem_singleton] at he; subst he; exact absurd ⟨by rw [h1], by rw [h1]⟩ hk
end Go.Proofs.Ytfpalnmblmjgjaa
