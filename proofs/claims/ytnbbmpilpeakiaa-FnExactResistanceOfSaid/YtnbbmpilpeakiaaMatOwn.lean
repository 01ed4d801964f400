/-
  What a call owns of a slice of slices of numbers, and what becomes of it when one row is written.
-/
import Derived.Test.YtnbbmpilpeakiaaMat
import Derived.OneCell
import Derived.Deep.AppendLies
namespace Go.Proofs.Ytnbbmpilpeakiaa
open Go.RowKit

/-- The outer row with these values, each of them a row of its own. -/
def OwnsR (w : World) (base : Nat) (v : Value) (rs : List Value) (M : MatI) : Prop :=
  w.ownsRow base 105 1 v M.length rs ∧ rs.length = M.length ∧ (∀ k r, rs[k]? = some r → ∃ h : k < M.length, w.ownsRow base 3 1 r M[k].length (cellsI M[k])) ∧
    ∀ (i j : Nat) (a b : Value), i ≠ j → rs[i]? = some a → rs[j]? = some b → a.ownBlock = none ∨ a.ownBlock ≠ b.ownBlock
def OwnsM (w : World) (base : Nat) (v : Value) (M : MatI) : Prop := ∃ rs, OwnsR w base v rs M
theorem OwnsR.below {B : Nat} {w w' : World} {base : Nat} {v : Value} {rs : List Value} {M : MatI} (h : OwnsR w base v rs M) (hB : Below B w w') (hs : w.heap.size ≤ B) : OwnsR w' base v rs M := by
  obtain ⟨h1, h2, h3, h4⟩ := h
  refine ⟨owns_below h1 hB (fun k hk => by have := (h1.lt k hk).2; omega), h2, fun k r hr => ?_, h4⟩
  obtain ⟨hk, ho⟩ := h3 k r hr
  exact ⟨hk, owns_below ho hB (fun k hk => by have := (ho.lt k hk).2; omega)⟩
theorem OwnsR.later {w w' : World} {base : Nat} {v : Value} {rs : List Value} {M : MatI} (h : OwnsR w base v rs M) (hB : Below w.heap.size w w') : OwnsR w' base v rs M := h.below hB (Nat.le_refl _)
theorem OwnsR.mono {w : World} {base base' : Nat} {v : Value} {rs : List Value} {M : MatI} (h : OwnsR w base v rs M) (hb : base' ≤ base) : OwnsR w base' v rs M := by
  obtain ⟨h1, h2, h3, h4⟩ := h
  refine ⟨owns_mono h1 hb, h2, fun k r hr => ?_, h4⟩
  obtain ⟨hk, ho⟩ := h3 k r hr
  exact ⟨hk, owns_mono ho hb⟩
theorem OwnsR.reads {w : World} {base : Nat} {v : Value} {rs : List Value} {m : MatI} (h : OwnsR w base v rs m) : ReadsII w v m := by
  obtain ⟨h1, h2, h3, h4⟩ := h
  rcases h1.2 with ⟨rfl, hn⟩ | ⟨g, cap, cur, rfl, hb, hg, hnc, hcm, hcs, ht⟩
  · exact ⟨none, 0, by rw [hn], by omega, by omega, .inl (List.eq_nil_of_length_eq_zero hn)⟩
  · unfold maxLen at hcm
    refine ⟨_, cap, rfl, hnc, by omega, .inr ⟨g, 0, rfl, fun k hk => ?_⟩⟩
    have hc := h1.cellAt k (by omega)
    rw [List.getElem?_eq_getElem (by omega)] at hc
    obtain ⟨_, ho⟩ := h3 k _ (List.getElem?_eq_getElem (by omega))
    exact ⟨_, by simpa using hc, ReadsI.of_own ho⟩
theorem OwnsM.below {B : Nat} {w w' : World} {base : Nat} {v : Value} {M : MatI} (h : OwnsM w base v M) (hB : Below B w w') (hs : w.heap.size ≤ B) : OwnsM w' base v M := by
  obtain ⟨rs, h⟩ := h; exact ⟨rs, h.below hB hs⟩
theorem OwnsM.later {w w' : World} {base : Nat} {v : Value} {M : MatI} (h : OwnsM w base v M) (hB : Below w.heap.size w w') : OwnsM w' base v M := h.below hB (Nat.le_refl _)
theorem OwnsM.mono {w : World} {base base' : Nat} {v : Value} {M : MatI} (h : OwnsM w base v M) (hb : base' ≤ base) : OwnsM w base' v M := by
  obtain ⟨rs, h⟩ := h; exact ⟨rs, h.mono hb⟩
theorem OwnsM.reads {w : World} {base : Nat} {v : Value} {M : MatI} (h : OwnsM w base v M) : ReadsII w v M := by
  obtain ⟨rs, h⟩ := h; exact h.reads
theorem OwnsM.nil (w : World) (base : Nat) : OwnsM w base (.slice none 0 0) [] := ⟨[], World.ownsRow_nil _ _ _ _, rfl, fun k r h => by simp at h, fun i j a b _ h => by simp at h⟩
/-- Blocks of two kinds are two blocks. -/
theorem own_apart {w : World} {b1 b2 : Nat} {e1 e2 : TypeId} {s1 s2 : Nat} {v1 v2 : Value} {n1 n2 : Nat} {x1 x2 : List Value} (h1 : w.ownsRow b1 e1 s1 v1 n1 x1) (h2 : w.ownsRow b2 e2 s2 v2 n2 x2) (hne : e1 ≠ e2) : v1.ownBlock = none ∨ v1.ownBlock ≠ v2.ownBlock := by
  rcases h1.2 with ⟨rfl, _⟩ | ⟨g, cap, cur, rfl, hb, hg, _⟩
  · exact .inl rfl
  · right
    rcases h2.2 with ⟨rfl, _⟩ | ⟨g', cap', cur', rfl, hb', hg', _⟩
    · simp [Value.ownBlock]
    · intro e
      have e' : g = g' := by simpa [Value.ownBlock] using e
      subst e'
      rw [hg] at hg'
      simp at hg'
      exact hne hg'.2
theorem apart_sym {a b : Option Nat} (h : a = none ∨ a ≠ b) : b = none ∨ b ≠ a := by
  rcases h with h | h
  · subst h; cases b <;> simp
  · exact .inr (Ne.symm h)
theorem int_ne_row : 3 ≠ 105 := by decide
theorem set_get {α : Type} {l : List α} {k j : Nat} {x : α} (hk : k < l.length) : (l.set k x)[j]? = if j = k then some x else l[j]? := by
  by_cases e : j = k
  · subst e; simp [hk]
  · rw [if_neg e, List.getElem?_set_ne (Ne.symm e)]

/-- One row of it has been written, its value is the same. -/
theorem OwnsR.row_changed {w W1 : World} {base : Nat} {v : Value} {rs : List Value} {M : MatI} (h : OwnsR w base v rs M) {k : Nat} {r : Value} (hr : rs[k]? = some r) (hG : w.grownBy W1 r.ownBlock) {q : List Int} (ho : W1.ownsRow base 3 1 r q.length (cellsI q)) : OwnsR W1 base v rs (M.set k q) := by
  obtain ⟨h1, h2, h3, h4⟩ := h
  obtain ⟨hk, hok⟩ := h3 k r hr
  refine ⟨by rw [List.length_set]; exact h1.kept hG (own_apart h1 hok (Ne.symm int_ne_row)), by rw [List.length_set]; exact h2, fun j r' hr' => ?_, h4⟩
  by_cases e : j = k
  · subst e
    rw [hr] at hr'
    cases hr'
    refine ⟨by rw [List.length_set]; exact hk, ?_⟩
    simp only [List.getElem_set_self]
    exact ho
  · obtain ⟨hj, hoj⟩ := h3 j r' hr'
    refine ⟨by rw [List.length_set]; exact hj, ?_⟩
    rw [List.getElem_set_ne (Ne.symm e)]
    exact hoj.kept hG (h4 j k r' r e hr' hr)
/-- One row of it has been appended to, and the new row stored. -/
theorem OwnsR.set_row {w W1 : World} {base g n cap : Nat} {rs : List Value} {M : MatI} (h : OwnsR w base (.slice (some ⟨g, 0, none⟩) n cap) rs M) {k : Nat} {r : Value} (hr : rs[k]? = some r) (hG : w.grownBy W1 r.ownBlock) {q : List Int} {r' : Value} (ho : W1.ownsRow base 3 1 r' q.length (cellsI q))
    (hb : r'.ownBlock = r.ownBlock ∨ ∃ g', r'.ownBlock = some g' ∧ w.heap.size ≤ g') : OwnsR (W1.setCell ⟨g, k, none⟩ r') base (.slice (some ⟨g, 0, none⟩) n cap) (rs.set k r') (M.set k q) := by
  obtain ⟨h1, h2, h3, h4⟩ := h
  obtain ⟨hk, hok⟩ := h3 k r hr
  have hn : n = M.length := by obtain ⟨p, c, e⟩ := owns_shape h1; simp only [Value.slice.injEq] at e; omega
  subst hn
  have ho1 := h1.kept hG (own_apart h1 hok (Ne.symm int_ne_row))
  have hst := (ho1.stored k r').1
  have hkl : k < rs.length := by omega
  have far : ∀ {x : Value} {p : List Int}, W1.ownsRow base 3 1 x p.length (cellsI p) → (W1.setCell ⟨g, k, none⟩ r').ownsRow base 3 1 x p.length (cellsI p) := fun {x p} hx => by
    refine ownsRow_setCell_other hx ?_ _
    rcases own_apart hx ho1 int_ne_row with e | e
    · rw [e]; simp
    · exact e
  refine ⟨by rw [List.length_set]; exact hst, by simp [h2], fun j x hx => ?_, fun i j a b hij ha hb' => ?_⟩
  · rw [set_get hkl] at hx
    by_cases e : j = k
    · subst e
      rw [if_pos rfl] at hx
      cases hx
      refine ⟨by rw [List.length_set]; exact hk, ?_⟩
      simp only [List.getElem_set_self]
      exact far ho
    · rw [if_neg e] at hx
      obtain ⟨hj, hoj⟩ := h3 j x hx
      refine ⟨by rw [List.length_set]; exact hj, ?_⟩
      rw [List.getElem_set_ne (Ne.symm e)]
      exact far (hoj.kept hG (h4 j k x r e hx hr))
  · have hnew : ∀ (j : Nat) (x : Value), j ≠ k → rs[j]? = some x → x.ownBlock = none ∨ x.ownBlock ≠ r'.ownBlock := by
      intro j x hj hx
      rcases hb with hb | ⟨g', hb, hg'⟩
      · rw [hb]; exact h4 j k x r hj hx hr
      · obtain ⟨hjl, hoj⟩ := h3 j x hx
        rw [hb]
        cases hxo : x.ownBlock with
        | none => exact .inl rfl
        | some gx => right; have := (hoj.lt gx hxo).2; intro e; cases e; omega
    rw [set_get hkl] at ha hb'
    by_cases ei : i = k
    · rw [if_pos ei] at ha
      cases ha
      rw [if_neg (fun e => hij (ei.trans e.symm))] at hb'
      exact apart_sym (hnew j b (fun e => hij (ei.trans e.symm)) hb')
    · rw [if_neg ei] at ha
      by_cases ej : j = k
      · rw [if_pos ej] at hb'
        cases hb'
        exact hnew i a ei ha
      · rw [if_neg ej] at hb'
        exact h4 i j a b hij ha hb'
/-- A row at the end. -/
theorem OwnsR.snoc {w W1 : World} {base : Nat} {v v' : Value} {rs : List Value} {M : MatI} (h : OwnsR w base v rs M) {q : List Int} {r : Value} (ho : w.ownsRow base 3 1 r q.length (cellsI q)) (hr : ∀ (j : Nat) (x : Value), rs[j]? = some x → x.ownBlock = none ∨ x.ownBlock ≠ r.ownBlock)
    (hG : w.grownBy W1 v.ownBlock) (hv : W1.ownsRow base 105 1 v' (M ++ [q]).length (rs ++ [r])) : OwnsR W1 base v' (rs ++ [r]) (M ++ [q]) := by
  obtain ⟨h1, h2, h3, h4⟩ := h
  refine ⟨hv, by simp [h2], fun j x hx => ?_, fun i j a b hij ha hb => ?_⟩
  · by_cases e : j < rs.length
    · rw [List.getElem?_append_left e] at hx
      obtain ⟨hj, hoj⟩ := h3 j x hx
      refine ⟨by simp; omega, ?_⟩
      rw [List.getElem_append_left hj]
      exact hoj.kept hG (own_apart hoj h1 int_ne_row)
    · have hj : j = rs.length := by
        have := (List.getElem?_eq_some_iff.1 hx).1
        simp at this; omega
      subst hj
      rw [List.getElem?_append_right (Nat.le_refl _), Nat.sub_self, List.getElem?_cons_zero] at hx
      cases hx
      refine ⟨by simp [h2], ?_⟩
      rw [List.getElem_append_right (by omega)]
      simp only [h2, Nat.sub_self, List.getElem_cons_zero]
      exact ho.kept hG (own_apart ho h1 int_ne_row)
  · have split : ∀ {j : Nat} {x : Value}, (rs ++ [r])[j]? = some x → (j < rs.length ∧ rs[j]? = some x) ∨ (j = rs.length ∧ x = r) := by
      intro j x hx
      by_cases e : j < rs.length
      · rw [List.getElem?_append_left e] at hx; exact .inl ⟨e, hx⟩
      · have hj : j = rs.length := by
          have := (List.getElem?_eq_some_iff.1 hx).1
          simp at this; omega
        subst hj
        rw [List.getElem?_append_right (Nat.le_refl _), Nat.sub_self, List.getElem?_cons_zero] at hx
        cases hx
        exact .inr ⟨rfl, rfl⟩
    rcases split ha with ⟨_, ha1⟩ | ⟨e1, ea⟩
    · rcases split hb with ⟨_, hb1⟩ | ⟨e2, eb⟩
      · exact h4 i j a b hij ha1 hb1
      · subst eb; exact hr i a ha1
    · rcases split hb with ⟨_, hb1⟩ | ⟨e2, eb⟩
      · subst ea; exact apart_sym (hr j b hb1)
      · omega
theorem OwnsR.row {w : World} {base : Nat} {v : Value} {rs : List Value} {M : MatI} (h : OwnsR w base v rs M) (k : Nat) (hk : k < M.length) : ∃ r, rs[k]? = some r ∧ w.ownsRow base 3 1 r M[k].length (cellsI M[k]) := by
  obtain ⟨h1, h2, h3, h4⟩ := h
  have e : rs[k]? = some (rs[k]'(by omega)) := List.getElem?_eq_getElem (by omega)
  obtain ⟨_, ho⟩ := h3 k _ e
  exact ⟨_, e, ho⟩
end Go.Proofs.Ytnbbmpilpeakiaa
