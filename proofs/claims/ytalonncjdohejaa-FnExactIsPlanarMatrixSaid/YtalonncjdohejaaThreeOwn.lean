/-
  A slice of matrices that is one's own: it stays, and it grows.
-/
import Derived.Test.YtalonncjdohejaaThreeMark
namespace Go.Proofs.Ytalonncjdohejaa
open Go.RowKit

/-- All blocks of it. -/
def In3 (v : Value) (vs : List Value) (RS : List (List Value)) (b : Nat) : Prop :=
  v.ownBlock = some b ∨ (∃ (k : Nat) (x : Value), vs[k]? = some x ∧ x.ownBlock = some b) ∨ ∃ (i j : Nat) (rs : List Value) (x : Value), RS[i]? = some rs ∧ rs[j]? = some x ∧ x.ownBlock = some b
theorem OwnsR.same {w w' : World} {base : Nat} {v : Value} {rs : List Value} {M : MatI} (h : OwnsR w base v rs M) (h1 : ∀ b, v.ownBlock = some b → w'.heap[b]? = w.heap[b]?) (h2 : ∀ (i : Nat) (x : Value) (b : Nat), rs[i]? = some x → x.ownBlock = some b → w'.heap[b]? = w.heap[b]?) : OwnsR w' base v rs M := by
  obtain ⟨g1, g2, g3, g4⟩ := h
  refine ⟨row_same g1 h1, g2, fun k r hk => ?_, g4⟩
  obtain ⟨hl, ho⟩ := g3 k r hk
  exact ⟨hl, row_same ho (fun b hb => h2 k r b hk hb)⟩
theorem Owns3R.same {w w' : World} {base : Nat} {v : Value} {vs : List Value} {RS : List (List Value)} {Ms : List MatI} (h : Owns3R w base v vs RS Ms) (hs : ∀ b, In3 v vs RS b → w'.heap[b]? = w.heap[b]?) : Owns3R w' base v vs RS Ms := by
  obtain ⟨h1, h2, h3, h4, h5⟩ := h
  refine ⟨row_same h1 (fun b hb => hs b (.inl hb)), h2, h3, fun k r rs hr hrs => ?_, h5⟩
  obtain ⟨hk, ho⟩ := h4 k r rs hr hrs
  exact ⟨hk, ho.same (fun b hb => hs b (.inr (.inl ⟨k, r, hr, hb⟩))) (fun i x b hx hb => hs b (.inr (.inr ⟨k, i, rs, x, hrs, hx, hb⟩)))⟩
theorem Owns3R.lt {w : World} {base : Nat} {v : Value} {vs : List Value} {RS : List (List Value)} {Ms : List MatI} (h : Owns3R w base v vs RS Ms) {b : Nat} (hb : In3 v vs RS b) : base ≤ b ∧ b < w.heap.size := by
  obtain ⟨h1, h2, h3, h4, h5⟩ := h
  rcases hb with hb | ⟨k, x, hx, hb⟩ | ⟨i, j, rs, x, hrs, hx, hb⟩
  · exact h1.lt b hb
  · have hk : k < RS.length := by have := (List.getElem?_eq_some_iff.1 hx).1; omega
    obtain ⟨_, ho⟩ := h4 k x _ hx (List.getElem?_eq_getElem hk)
    exact ho.1.lt b hb
  · have hk : i < vs.length := by have := (List.getElem?_eq_some_iff.1 hrs).1; omega
    obtain ⟨_, ho⟩ := h4 i _ rs (List.getElem?_eq_getElem hk) hrs
    obtain ⟨_, hr⟩ := ho.2.2.1 j x hx
    exact hr.lt b hb
theorem Owns3R.nil (w : World) (base : Nat) : Owns3R w base (.slice none 0 0) [] [] [] :=
  ⟨World.ownsRow_nil _ _ _ _, rfl, rfl, fun k r rs h => by simp at h, fun i j a b ra rb i' j' _ h => by simp at h⟩
theorem Owns3R.owns3 {w : World} {base : Nat} {v : Value} {vs : List Value} {RS : List (List Value)} {Ms : List MatI} (h : Owns3R w base v vs RS Ms) : Owns3 w base v Ms := by
  obtain ⟨h1, h2, h3, h4, h5⟩ := h
  refine ⟨vs, by rw [h2]; exact h1, h2, fun k r hr => ?_⟩
  have hk : k < RS.length := by have := (List.getElem?_eq_some_iff.1 hr).1; omega
  obtain ⟨hl, ho⟩ := h4 k r _ hr (List.getElem?_eq_getElem hk)
  exact ⟨hl, _, ho⟩
theorem snoc_at {α : Type} {xs : List α} {x y : α} {k : Nat} (h : (xs ++ [x])[k]? = some y) : (k < xs.length ∧ xs[k]? = some y) ∨ (k = xs.length ∧ y = x) := by
  by_cases e : k < xs.length
  · rw [List.getElem?_append_left e] at h; exact .inl ⟨e, h⟩
  · have hk : k = xs.length := by
      have := (List.getElem?_eq_some_iff.1 h).1
      simp at this; omega
    subst hk
    rw [List.getElem?_append_right (Nat.le_refl _), Nat.sub_self, List.getElem?_cons_zero] at h
    exact .inr ⟨rfl, (Option.some.inj h).symm⟩
/-- A matrix more: 'append(v, x)'. -/
theorem Owns3R.snoc {w W1 : World} {base : Nat} {v v' x : Value} {vs rs : List Value} {RS : List (List Value)} {Ms : List MatI} {M : MatI} (h : Owns3R w base v vs RS Ms) (hx : OwnsR w base x rs M)
    (sep : ∀ (i i' j' : Nat) (ra : List Value) (a b : Value), RS[i]? = some ra → ra[i']? = some a → rs[j']? = some b → a.ownBlock = none ∨ a.ownBlock ≠ b.ownBlock) (hG : w.grownBy W1 v.ownBlock) (hv : W1.ownsRow base 27 1 v' (vs ++ [x]).length (vs ++ [x])) : Owns3R W1 base v' (vs ++ [x]) (RS ++ [rs]) (Ms ++ [M]) := by
  obtain ⟨h1, h2, h3, h4, h5⟩ := h
  refine ⟨by have e : (vs ++ [x]).length = (Ms ++ [M]).length := by simp [h2]
             rw [← e]; exact hv, by simp [h2], by simp [h3], fun k r rs' hr hrs => ?_, fun i j a b ra rb i' j' hij ha hb ha' hb' => ?_⟩
  · rcases snoc_at hr with ⟨hk, hr⟩ | ⟨hk, rfl⟩
    · rcases snoc_at hrs with ⟨_, hrs⟩ | ⟨hk', _⟩
      · obtain ⟨hl, ho⟩ := h4 k r rs' hr hrs
        refine ⟨by simp; omega, ?_⟩
        rw [List.getElem_append_left hl]
        exact ho.kept3 h1 hG
      · omega
    · rcases snoc_at hrs with ⟨hk', _⟩ | ⟨_, rfl⟩
      · omega
      · refine ⟨by simp; omega, ?_⟩
        rw [List.getElem_append_right (by omega)]
        simp only [hk, h2, Nat.sub_self, List.getElem_cons_zero]
        exact hx.kept3 h1 hG
  · rcases snoc_at ha with ⟨hi, ha2⟩ | ⟨hi, ea⟩
    · rcases snoc_at hb with ⟨hj, hb2⟩ | ⟨hj, eb⟩
      · exact h5 i j a b ra rb i' j' hij ha2 hb2 ha' hb'
      · rw [eb] at hb'; exact sep i i' j' ra a b ha2 ha' hb'
    · rcases snoc_at hb with ⟨hj, hb2⟩ | ⟨hj, eb⟩
      · rw [ea] at ha'; exact apart_sym (sep j j' i' rb b a hb2 hb' ha')
      · omega
end Go.Proofs.Ytalonncjdohejaa
