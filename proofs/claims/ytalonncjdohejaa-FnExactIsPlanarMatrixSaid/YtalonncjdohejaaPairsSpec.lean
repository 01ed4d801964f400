/-
  CircularPairs in the model.
-/
import Derived.Test.YtalonncjdohejaaListsSpec
import Derived.Test.YtalonncjdohejaaCircSpec
namespace Go.Proofs.Ytalonncjdohejaa
open Go.RowKit

theorem Try.infoPair : (Try.prog.info? 27).map (fun i => (i.zero, i.size, i.bytes)) = some (some (.slice none 0 0), 1, 24) := by kernel_rfl
/-- What a call owns of a slice of slices of slices of numbers. -/
def Owns3 (w : World) (base : Nat) (v : Value) (Ms : List MatI) : Prop := ∃ vs, w.ownsRow base 27 1 v vs.length vs ∧ vs.length = Ms.length ∧ ∀ (k : Nat) (r : Value), vs[k]? = some r → ∃ h : k < Ms.length, OwnsM w base r Ms[k]
theorem Owns3.later {w w' : World} {base : Nat} {v : Value} {Ms : List MatI} (h : Owns3 w base v Ms) (hB : Below w.heap.size w w') : Owns3 w' base v Ms := by
  obtain ⟨vs, h1, h2, h3⟩ := h
  refine ⟨vs, owns_later h1 hB, h2, fun k r hr => ?_⟩
  obtain ⟨hk, ho⟩ := h3 k r hr
  exact ⟨hk, ho.later hB⟩
theorem Owns3.empty (w : World) (base : Nat) (hb : base ≤ w.heap.size) : Owns3 (w.alloc (.cells #[] 27)) base (.slice (some ⟨w.heap.size, 0, none⟩) 0 0) [] :=
  ⟨[], World.ownsRow_lit w #[] 0 hb (Nat.zero_le _) rfl, rfl, fun k r h => by simp at h⟩
theorem pair_ne_row : 49 ≠ 27 := by decide
theorem pair_ne_int : 3 ≠ 27 := by decide
theorem OwnsM.kept3 {w w' : World} {base b0 n : Nat} {v u : Value} {M : MatI} {xs : List Value} (h : OwnsM w base v M) (ho : w.ownsRow b0 27 1 u n xs) (hG : w.grownBy w' u.ownBlock) : OwnsM w' base v M := by
  obtain ⟨rs, h1, h2, h3, h4⟩ := h
  refine ⟨rs, h1.kept hG (own_apart h1 ho pair_ne_row), h2, fun k r hr => ?_, h4⟩
  obtain ⟨hk, hr'⟩ := h3 k r hr
  exact ⟨hk, hr'.kept hG (own_apart hr' ho pair_ne_int)⟩
theorem OwnsR.kept3 {w w' : World} {base b0 n : Nat} {v u : Value} {M : MatI} {rs xs : List Value} (h : OwnsR w base v rs M) (ho : w.ownsRow b0 27 1 u n xs) (hG : w.grownBy w' u.ownBlock) : OwnsR w' base v rs M := by
  obtain ⟨h1, h2, h3, h4⟩ := h
  refine ⟨h1.kept hG (own_apart h1 ho pair_ne_row), h2, fun k r hr => ?_, h4⟩
  obtain ⟨hk, hr'⟩ := h3 k r hr
  exact ⟨hk, hr'.kept hG (own_apart hr' ho pair_ne_int)⟩
/-- A row of them as the walk reads it. -/
theorem OwnsR.read {w : World} {base : Nat} {v : Value} {rs : List Value} {M : MatI} (h : OwnsR w base v rs M) (hsome : ∀ (k : Nat) (r : Value), rs[k]? = some r → ∃ (ad : Addr) (n c : Nat), r = .slice (some ad) n c) {j : Nat} (hj : j < M.length) :
    ∃ g c ad rc, v = .slice (some ⟨g, 0, none⟩) M.length c ∧ w.cell? ⟨g, j, none⟩ = some (.slice (some ad) M[j].length rc) ∧ ReadsI w (.slice (some ad) M[j].length rc) M[j] := by
  obtain ⟨r, hr, hro⟩ := h.row j hj
  obtain ⟨ad, rn, rc, hrv⟩ := hsome j r hr
  have hrn : rn = M[j].length := by
    obtain ⟨p', c', e⟩ := owns_shape hro
    rw [hrv] at e; simp only [Value.slice.injEq] at e; exact e.2.1
  subst hrn
  subst hrv
  obtain ⟨g, c, hg, -, -⟩ := h.1.form (by omega)
  subst hg
  have c0 := h.1.cellAt j (by omega)
  rw [hr] at c0
  exact ⟨g, c, ad, rc, rfl, by simpa using c0, ReadsI.of_own hro⟩
theorem Owns3.snoc {w W1 : World} {base : Nat} {v v' r : Value} {Ms : List MatI} {M : MatI} {vs : List Value} (h1 : w.ownsRow base 27 1 v vs.length vs) (h2 : vs.length = Ms.length) (h3 : ∀ (k : Nat) (r : Value), vs[k]? = some r → ∃ h : k < Ms.length, OwnsM w base r Ms[k]) (hM : OwnsM w base r M) (hG : w.grownBy W1 v.ownBlock)
    (hv : W1.ownsRow base 27 1 v' (vs ++ [r]).length (vs ++ [r])) : Owns3 W1 base v' (Ms ++ [M]) := by
  refine ⟨vs ++ [r], hv, by simp [h2], fun k x hx => ?_⟩
  by_cases e : k < vs.length
  · rw [List.getElem?_append_left e] at hx
    obtain ⟨hk, ho⟩ := h3 k x hx
    refine ⟨by simp; omega, ?_⟩
    rw [List.getElem_append_left hk]
    exact ho.kept3 h1 hG
  · have hk : k = vs.length := by
      have := (List.getElem?_eq_some_iff.1 hx).1
      simp at this; omega
    subst hk
    rw [List.getElem?_append_right (Nat.le_refl _), Nat.sub_self, List.getElem?_cons_zero] at hx
    cases hx
    refine ⟨by simp [h2], ?_⟩
    rw [List.getElem_append_right (by omega)]
    simp only [h2, Nat.sub_self, List.getElem_cons_zero]
    exact hM.kept3 h1 hG
theorem cells_new (w : World) (u : Value) (t : TypeId) : ∀ j x, [u][j]? = some x → (w.alloc (.cells #[u] t)).cell? ((⟨w.heap.size, 0, none⟩ : Addr).add j) = some x := row_new w u t
/-- 'append(v, x)' of one pair. -/
theorem append_pair {ops : Array Oper} {rest : List Oper} {o : Oper} {a : Act} {Q : Exit → Act → World → Prop} {wr : World} {s x : Operand} {base : Nat} {v : Value} {xs : List Value} {u : Value} {b1 : Nat} (hown : wr.ownsRow base 27 1 v xs.length xs) (hn : xs.length + 1 ≤ 1099511627776) (hbase : base ≤ wr.heap.size)
    (hgd : o.guard = none) (ho : o.op = .call { callee := .builtin .append, args := #[s, x], argTypes := #[22, 22] }) (hs : a.eval s = v) (hx : a.eval x = .slice (some ⟨b1, 0, none⟩) 1 1) (hb1 : b1 = wr.heap.size) (hu : u.oneCell' = true)
    (h : ∀ v' w', w'.ownsRow base 27 1 v' (xs ++ [u]).length (xs ++ [u]) → wr.heap.size ≤ w'.heap.size → wr.grownBy w' v.ownBlock → wpList Try.prog ops Q rest (a.put o.dst v') w') :
    wpList Try.prog ops Q (o :: rest) a (wr.alloc (.cells #[u] 27)) := by
  subst hb1
  obtain ⟨i0, hi, hz0, hz1, hz2⟩ := info_parts Try.infoPair
  refine wpList_append_own _ hgd s x 22 ho base 27 i0 (.slice none 0 0) 1 24 Try.underlying22 hi hz0 hz1 hz2 rfl (by decide) v xs.length xs hs (hown.alloc _) ⟨wr.heap.size, 0, none⟩ 1 1 [u] hx rfl (cells_new _ _ _) (by simpa using hu) (by unfold maxLen; omega) (by omega) (by simp; omega) ?_
  intro v' w' h1 h2 _
  have h3 := h2.size
  simp at h3
  refine h v' w' (by simpa using h1) (by omega) ?_
  exact ⟨h2.os, h2.tape, h2.output, by omega, fun i hi hr => by rw [h2.block i (by simp; omega) hr, heap_alloc_old _ _ hi]⟩
/-- Two rows of one's own, laid side by side. -/
theorem pair_laid {w : World} {base : Nat} {v1 v2 : Value} {p q : List Int} (hb : base ≤ w.heap.size) (h1 : w.ownsRow base 3 1 v1 p.length (cellsI p)) (h2 : w.ownsRow base 3 1 v2 q.length (cellsI q)) (ha : v1.ownBlock = none ∨ v1.ownBlock ≠ v2.ownBlock) :
    OwnsM (w.alloc (.cells #[v1, v2] 49)) base (.slice (some ⟨w.heap.size, 0, none⟩) 2 2) [p, q] := by
  refine ⟨[v1, v2], World.ownsRow_lit (base := base) (e := 49) (size := 1) w #[v1, v2] 2 hb (by unfold maxLen; omega) rfl, rfl, fun k r hk => ?_, fun i j a b hij hi hj => ?_⟩
  · rcases k with _ | _ | k
    · simp only [List.getElem?_cons_zero, Option.some.injEq] at hk
      subst hk
      exact ⟨by simp, h1.alloc _⟩
    · simp only [List.getElem?_cons_succ, List.getElem?_cons_zero, Option.some.injEq] at hk
      subst hk
      exact ⟨by simp, h2.alloc _⟩
    · simp at hk
  · rcases i with _ | _ | i
    · rcases j with _ | _ | j
      · omega
      · simp only [List.getElem?_cons_succ, List.getElem?_cons_zero, Option.some.injEq] at hi hj
        subst hi; subst hj; exact ha
      · simp at hj
    · rcases j with _ | _ | j
      · simp only [List.getElem?_cons_succ, List.getElem?_cons_zero, Option.some.injEq] at hi hj
        subst hi; subst hj; exact apart_sym ha
      · omega
      · simp at hj
    · simp at hi
end Go.Proofs.Ytalonncjdohejaa
