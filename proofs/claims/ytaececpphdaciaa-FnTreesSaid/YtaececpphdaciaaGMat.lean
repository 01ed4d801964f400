/-
  What is asked of a matrix and of a list of its rows or columns, in the model and in the program.
  The matrix of a network: its entries, its bounds.
  What a call owns of a slice of slices of numbers, and what becomes of it when one row is written.
  The determinant of some rows and columns, as a sum over the first row; its bounds; appending a slice of numbers to one.
-/
import Derived.Test.YtaececpphdaciaaGLists
import Derived.Test.YtaececpphdaciaaAllReached
import Derived.Test.YtaececpphdaciaaGNet
import Derived.Test.YtaececpphdaciaaBetween
import Derived.OneCell
import Derived.Deep.AppendLies
namespace Go.Proofs.Ytaececpphdaciaa
open Go.RowKit

def rowV (n : Nat) (r : List Int) : Prop := r.length = n ∧ ∀ k (h : k < r.length), -1000 ≤ r[k] ∧ r[k] ≤ 1000
/-- A matrix that is taken: at most five rows, each as long as there are rows, entries between -1000 and 1000. -/
def matV (m : MatI) : Prop := m.length ≤ 5 ∧ ∀ k (h : k < m.length), rowV m.length m[k]
noncomputable def matB (m : MatI) : Bool := @decide (matV m) (Classical.propDecidable _)
theorem matB_yes {m : MatI} (h : matV m) : matB m = true := by simp [matB, h]
theorem matB_no {m : MatI} (h : ¬ matV m) : matB m = false := by simp [matB, h]
theorem matB_iff {m : MatI} : matB m = true ↔ matV m := by simp [matB]
/-- The first row that is not taken, or none. -/
theorem first_row (m : MatI) : ∃ k0, k0 ≤ m.length ∧ (∀ k, (h : k < m.length) → k < k0 → rowV m.length m[k]) ∧ (∀ h : k0 < m.length, ¬ rowV m.length m[k0]) := by
  by_cases hx : ∃ k, ∃ h : k < m.length, ¬ rowV m.length m[k]
  · obtain ⟨k, hk⟩ := hx
    obtain ⟨k0, ⟨h0, h1⟩, hmin⟩ := least (fun k => ∃ h : k < m.length, ¬ rowV m.length m[k]) k hk
    exact ⟨k0, by omega, fun k h hk => Classical.byContradiction fun hn => hmin k hk ⟨h, hn⟩, fun _ => h1⟩
  · exact ⟨m.length, Nat.le_refl _, fun k h _ => Classical.byContradiction fun hn => hx ⟨k, h, hn⟩, fun h => absurd h (by omega)⟩
/-- The first entry that is not taken. -/
theorem first_entry (n : Nat) (r : List Int) (h : ¬ rowV n r) (hl : r.length = n) : ∃ k0, ∃ h : k0 < r.length, ¬ (-1000 ≤ r[k0] ∧ r[k0] ≤ 1000) ∧ ∀ k, (hk : k < k0) → -1000 ≤ r[k] ∧ r[k] ≤ 1000 := by
  have hx : ∃ k, ∃ h : k < r.length, ¬ (-1000 ≤ r[k] ∧ r[k] ≤ 1000) := Classical.byContradiction fun hn => h ⟨hl, fun k hk => Classical.byContradiction fun hh => hn ⟨k, hk, hh⟩⟩
  obtain ⟨k, hk⟩ := hx
  obtain ⟨k0, ⟨h0, h1⟩, hmin⟩ := least (fun k => ∃ h : k < r.length, ¬ (-1000 ≤ r[k] ∧ r[k] ≤ 1000)) k hk
  exact ⟨k0, h0, h1, fun k hk => Classical.byContradiction fun hn => hmin k hk ⟨by omega, hn⟩⟩

end Go.Proofs.Ytaececpphdaciaa

namespace Go.Proofs.Ytaececpphdaciaa
open Go.RowKit

def lapE (ws : List W3) (a b : Nat) : Int := if a = b then wAt ws (a : Int) else -wBtw ws (a : Int) (b : Int)
def lapM (N : Nat) (ws : List W3) : MatI := (List.range N).map fun a => (List.range N).map fun b => lapE ws a b
theorem lapM_length (N : Nat) (ws : List W3) : (lapM N ws).length = N := by simp [lapM]
theorem lapM_row (N : Nat) (ws : List W3) (k : Nat) (h : k < (lapM N ws).length) : (lapM N ws)[k] = (List.range N).map fun b => lapE ws k b := by simp [lapM]
theorem wrap_small {x : Int} (h1 : -1000000000 ≤ x) (h2 : x ≤ 1000000000) : wrap64 x = x := by unfold wrap64; omega
theorem wLt_tr {a b c : W3} (h : wLt a b) (k : wLt b c) : wLt a c := by unfold wLt at *; omega
theorem sorted_ge {ws : List W3} (h : ∀ k, (h : k + 1 < ws.length) → wLt ws[k] ws[k + 1]) : ∀ d j, (hk : j + d + 1 < ws.length) → wLt (ws[j]'(by omega)) ws[j + d + 1]
  | 0, j, hk => h j hk
  | d + 1, j, hk => wLt_tr (sorted_ge h d j (by omega)) (h (j + d + 1) hk)
theorem pairW {n : Int} {ws : List W3} (h : WiresV n ws) : ws.Pairwise wLt := by
  rw [List.pairwise_iff_getElem]
  intro i j hi hj hij
  obtain ⟨d, rfl⟩ : ∃ d, j = i + d + 1 := ⟨j - i - 1, by omega⟩
  exact sorted_ge h.2 d i hj
/-- A wire at a node, and its other end. -/
def tch (x : Int) (e : W3) : Bool := (e.1 == x) || (e.2.1 == x)
def othr (x : Int) (e : W3) : Int := if e.1 = x then e.2.1 else e.1
theorem degree {n : Int} {ws : List W3} (h : WiresV n ws) (hn : n ≤ 5) (x : Int) (h0 : 0 ≤ x) (hx : x < n) : (ws.filter (tch x)).length ≤ 4 := by
  obtain ⟨N, rfl⟩ : ∃ N : Nat, n = N := ⟨n.toNat, by omega⟩
  have hmem : ∀ e ∈ ws.filter (tch x), wireV N e ∧ (e.1 = x ∨ e.2.1 = x) := fun e he => by
    rw [List.mem_filter] at he
    refine ⟨h.mem he.1, ?_⟩
    have := he.2
    unfold tch at this
    simpa using this
  have hp : (ws.filter (tch x)).Pairwise wLt := (pairW h).sublist List.filter_sublist
  have hnd : (x :: (ws.filter (tch x)).map (othr x)).Nodup := by
    rw [List.nodup_cons]
    constructor
    · intro hm
      obtain ⟨e, he, hxe⟩ := List.mem_map.1 hm
      obtain ⟨⟨v1, v2, v3, v4, v5⟩, ht⟩ := hmem e he
      unfold othr at hxe
      split at hxe <;> omega
    · rw [List.nodup_iff_pairwise_ne, List.pairwise_map]
      refine hp.imp_of_mem fun {a b} ha hb hab => ?_
      obtain ⟨⟨v1, v2, v3, v4, v5⟩, ht⟩ := hmem a ha
      obtain ⟨⟨u1, u2, u3, u4, u5⟩, hu⟩ := hmem b hb
      unfold wLt at hab
      unfold othr
      split <;> split <;> omega
  have hl := queue_le (n := N) hnd (fun v hv => by
    rcases List.mem_cons.1 hv with rfl | hv
    · exact ⟨h0, hx⟩
    · obtain ⟨e, he, rfl⟩ := List.mem_map.1 hv
      obtain ⟨⟨v1, v2, v3, v4, v5⟩, ht⟩ := hmem e he
      unfold othr
      split <;> omega)
  simp at hl
  omega
theorem wAt_range {n : Int} {ws : List W3} (h : WiresV n ws) (x : Int) : ∀ k, k ≤ ws.length → ((ws.take k).filter (tch x)).length ≤ 1000 → 0 ≤ wAt (ws.take k) x ∧ wAt (ws.take k) x ≤ 200 * ((ws.take k).filter (tch x)).length
  | 0, _, _ => by simp [wAt]
  | k + 1, hk, hl => by
    have hk' : k < ws.length := by omega
    obtain ⟨v1, v2, v3, v4, v5⟩ := h.1 k hk'
    rw [wAt_snoc ws k hk']
    have e : (ws.take (k + 1)).filter (tch x) = (ws.take k).filter (tch x) ++ [ws[k]].filter (tch x) := by rw [List.take_succ_eq_append_getElem hk', List.filter_append]
    rw [e, List.length_append] at hl ⊢
    have ih := wAt_range h x k (by omega) (by omega)
    by_cases ht : (ws[k].1 == x) = true ∨ (ws[k].2.1 == x) = true
    · rw [if_pos ht]
      have e2 : [ws[k]].filter (tch x) = [ws[k]] := by
        have : tch x ws[k] = true := by unfold tch; simpa using ht
        simp [this]
      rw [e2] at hl ⊢
      simp only [List.length_cons, List.length_nil] at hl ⊢
      rw [wrap_small (by omega) (by omega)]
      omega
    · rw [if_neg ht]
      omega
theorem wAt_le {n : Int} {ws : List W3} (h : WiresV n ws) (hn : n ≤ 5) (x : Int) (h0 : 0 ≤ x) (hx : x < n) : 0 ≤ wAt ws x ∧ wAt ws x ≤ 800 := by
  have hd := degree h hn x h0 hx
  have := wAt_range h x ws.length (Nat.le_refl _) (by rw [List.take_length]; omega)
  rw [List.take_length] at this
  omega
theorem wBtw_le {n : Int} {ws : List W3} (h : WiresV n ws) (a b : Int) : 0 ≤ wBtw ws a b ∧ wBtw ws a b ≤ 200 := by
  unfold wBtw
  split
  · omega
  · split
    · rename_i e he
      have hm := List.mem_of_find?_eq_some he
      obtain ⟨v1, v2, v3, v4, v5⟩ := h.mem hm
      omega
    · omega
theorem lapM_ok {N : Nat} {ws : List W3} (h : WiresV N ws) (hn : N ≤ 5) : matV (lapM N ws) := by
  refine ⟨by rw [lapM_length]; exact hn, fun k hk => ?_⟩
  rw [lapM_row]
  rw [lapM_length] at hk ⊢
  refine ⟨by simp, fun j hj => ?_⟩
  have hj' : j < N := by simpa using hj
  simp only [List.getElem_map, List.getElem_range]
  unfold lapE
  split
  · have := wAt_le h (by omega) (k : Int) (by omega) (by omega); omega
  · have := wBtw_le h (k : Int) (j : Int); omega
/-- What LaplacianOf answers. -/
noncomputable def lapR (n e s : Int) (ws : List W3) : MatI := if netB n e s ws = true then lapM n.toNat ws else []
theorem lapR_no {n e s : Int} {ws : List W3} (h : netB n e s ws = false) : lapR n e s ws = [] := by simp [lapR, h]
theorem lapR_yes {n e s : Int} {ws : List W3} (h : netB n e s ws = true) : lapR n e s ws = lapM n.toNat ws := by simp [lapR, h]
/-- The first b entries of a row; the first a rows. -/
def lapRow (ws : List W3) (a b : Nat) : List Int := (List.range b).map fun j => lapE ws a j
theorem lapRow_snoc (ws : List W3) (a b : Nat) : lapRow ws a (b + 1) = lapRow ws a b ++ [lapE ws a b] := by simp [lapRow, List.range_succ]
theorem lapRow_length (ws : List W3) (a b : Nat) : (lapRow ws a b).length = b := by simp [lapRow]
def lapTop (N : Nat) (ws : List W3) (a : Nat) : MatI := (List.range a).map fun i => lapRow ws i N
theorem lapTop_snoc (N : Nat) (ws : List W3) (a : Nat) : lapTop N ws (a + 1) = lapTop N ws a ++ [lapRow ws a N] := by simp [lapTop, List.range_succ]
theorem lapTop_all (N : Nat) (ws : List W3) : lapTop N ws N = lapM N ws := rfl
theorem lapTop_length (N : Nat) (ws : List W3) (a : Nat) : (lapTop N ws a).length = a := by simp [lapTop]
end Go.Proofs.Ytaececpphdaciaa

namespace Go.Proofs.Ytaececpphdaciaa
open Go.RowKit

/-- The outer row with these values, each of them a row of its own. -/
def OwnsR (w : World) (base : Nat) (v : Value) (rs : List Value) (M : MatI) : Prop :=
  w.ownsRow base 38 1 v M.length rs ∧ rs.length = M.length ∧ (∀ k r, rs[k]? = some r → ∃ h : k < M.length, w.ownsRow base 3 1 r M[k].length (cellsI M[k])) ∧
    ∀ (i j : Nat) (a b : Value), i ≠ j → rs[i]? = some a → rs[j]? = some b → a.ownBlock = none ∨ a.ownBlock ≠ b.ownBlock
def OwnsM (w : World) (base : Nat) (v : Value) (M : MatI) : Prop := ∃ rs, OwnsR w base v rs M
theorem OwnsR.below {B : Nat} {w w' : World} {base : Nat} {v : Value} {rs : List Value} {M : MatI} (h : OwnsR w base v rs M) (hB : Below B w w') (hs : w.heap.size ≤ B) : OwnsR w' base v rs M := by
  obtain ⟨h1, h2, h3, h4⟩ := h
  refine ⟨owns_below h1 hB (fun k hk => by have := (h1.lt k hk).2; omega), h2, fun k r hr => ?_, h4⟩
  obtain ⟨hk, ho⟩ := h3 k r hr
  exact ⟨hk, owns_below ho hB (fun k hk => by have := (ho.lt k hk).2; omega)⟩
theorem OwnsR.later {w w' : World} {base : Nat} {v : Value} {rs : List Value} {M : MatI} (h : OwnsR w base v rs M) (hB : Below w.heap.size w w') : OwnsR w' base v rs M := h.below hB (Nat.le_refl _)
theorem OwnsR.mono {w : World} {base base' : Nat} {v : Value} {rs : List Value} {M : MatI} (h : OwnsR w base v rs M) (hb : base' ≤ base) : OwnsR w base' v rs M := by
  obtain ⟨h1, h2, h3, h4⟩ := h
  refine ⟨owns_mono h1 hb, h2, fun k r hr => ?_, h4⟩
  obtain ⟨hk, ho⟩ := h3 k r hr
  exact ⟨hk, owns_mono ho hb⟩
theorem OwnsR.reads {w : World} {base : Nat} {v : Value} {rs : List Value} {m : MatI} (h : OwnsR w base v rs m) : ReadsII w v m := by
  obtain ⟨h1, h2, h3, h4⟩ := h
  rcases h1.2 with ⟨rfl, hn⟩ | ⟨g, cap, cur, rfl, hb, hg, hnc, hcm, hcs, ht⟩
  · exact ⟨none, 0, by rw [hn], by omega, by omega, .inl (List.eq_nil_of_length_eq_zero hn)⟩
  · unfold maxLen at hcm
    refine ⟨_, cap, rfl, hnc, by omega, .inr ⟨g, 0, rfl, fun k hk => ?_⟩⟩
    have hc := h1.cellAt k (by omega)
    rw [List.getElem?_eq_getElem (by omega)] at hc
    obtain ⟨_, ho⟩ := h3 k _ (List.getElem?_eq_getElem (by omega))
    exact ⟨_, by simpa using hc, ReadsI.of_own ho⟩
theorem OwnsM.below {B : Nat} {w w' : World} {base : Nat} {v : Value} {M : MatI} (h : OwnsM w base v M) (hB : Below B w w') (hs : w.heap.size ≤ B) : OwnsM w' base v M := by
  obtain ⟨rs, h⟩ := h; exact ⟨rs, h.below hB hs⟩
theorem OwnsM.later {w w' : World} {base : Nat} {v : Value} {M : MatI} (h : OwnsM w base v M) (hB : Below w.heap.size w w') : OwnsM w' base v M := h.below hB (Nat.le_refl _)
theorem OwnsM.mono {w : World} {base base' : Nat} {v : Value} {M : MatI} (h : OwnsM w base v M) (hb : base' ≤ base) : OwnsM w base' v M := by
  obtain ⟨rs, h⟩ := h; exact ⟨rs, h.mono hb⟩
theorem OwnsM.reads {w : World} {base : Nat} {v : Value} {M : MatI} (h : OwnsM w base v M) : ReadsII w v M := by
  obtain ⟨rs, h⟩ := h; exact h.reads
theorem OwnsM.nil (w : World) (base : Nat) : OwnsM w base (.slice none 0 0) [] := ⟨[], World.ownsRow_nil _ _ _ _, rfl, fun k r h => by simp at h, fun i j a b _ h => by simp at h⟩
/-- Blocks of two kinds are two blocks. -/
theorem own_apart {w : World} {b1 b2 : Nat} {e1 e2 : TypeId} {s1 s2 : Nat} {v1 v2 : Value} {n1 n2 : Nat} {x1 x2 : List Value} (h1 : w.ownsRow b1 e1 s1 v1 n1 x1) (h2 : w.ownsRow b2 e2 s2 v2 n2 x2) (hne : e1 ≠ e2) : v1.ownBlock = none ∨ v1.ownBlock ≠ v2.ownBlock := by
  rcases h1.2 with ⟨rfl, _⟩ | ⟨g, cap, cur, rfl, hb, hg, _⟩
  · exact .inl rfl
  · right
    rcases h2.2 with ⟨rfl, _⟩ | ⟨g', cap', cur', rfl, hb', hg', _⟩
    · simp [Value.ownBlock]
    · intro e
      have e' : g = g' := by simpa [Value.ownBlock] using e
      subst e'
      rw [hg] at hg'
      simp at hg'
      exact hne hg'.2
theorem apart_sym {a b : Option Nat} (h : a = none ∨ a ≠ b) : b = none ∨ b ≠ a := by
  rcases h with h | h
  · subst h; cases b <;> simp
  · exact .inr (Ne.symm h)
theorem int_ne_row : 3 ≠ 38 := by decide
theorem set_get {α : Type} {l : List α} {k j : Nat} {x : α} (hk : k < l.length) : (l.set k x)[j]? = if j = k then some x else l[j]? := by
  by_cases e : j = k
  · subst e; simp [hk]
  · rw [if_neg e, List.getElem?_set_ne (Ne.symm e)]

/-- One row of it has been written, its value is the same. -/
theorem OwnsR.row_changed {w W1 : World} {base : Nat} {v : Value} {rs : List Value} {M : MatI} (h : OwnsR w base v rs M) {k : Nat} {r : Value} (hr : rs[k]? = some r) (hG : w.grownBy W1 r.ownBlock) {q : List Int} (ho : W1.ownsRow base 3 1 r q.length (cellsI q)) : OwnsR W1 base v rs (M.set k q) := by
  obtain ⟨h1, h2, h3, h4⟩ := h
  obtain ⟨hk, hok⟩ := h3 k r hr
  refine ⟨by rw [List.length_set]; exact h1.kept hG (own_apart h1 hok (Ne.symm int_ne_row)), by rw [List.length_set]; exact h2, fun j r' hr' => ?_, h4⟩
  by_cases e : j = k
  · subst e
    rw [hr] at hr'
    cases hr'
    refine ⟨by rw [List.length_set]; exact hk, ?_⟩
    simp only [List.getElem_set_self]
    exact ho
  · obtain ⟨hj, hoj⟩ := h3 j r' hr'
    refine ⟨by rw [List.length_set]; exact hj, ?_⟩
    rw [List.getElem_set_ne (Ne.symm e)]
    exact hoj.kept hG (h4 j k r' r e hr' hr)
/-- One row of it has been appended to, and the new row stored. -/
theorem OwnsR.set_row {w W1 : World} {base g n cap : Nat} {rs : List Value} {M : MatI} (h : OwnsR w base (.slice (some ⟨g, 0, none⟩) n cap) rs M) {k : Nat} {r : Value} (hr : rs[k]? = some r) (hG : w.grownBy W1 r.ownBlock) {q : List Int} {r' : Value} (ho : W1.ownsRow base 3 1 r' q.length (cellsI q))
    (hb : r'.ownBlock = r.ownBlock ∨ ∃ g', r'.ownBlock = some g' ∧ w.heap.size ≤ g') : OwnsR (W1.setCell ⟨g, k, none⟩ r') base (.slice (some ⟨g, 0, none⟩) n cap) (rs.set k r') (M.set k q) := by
  obtain ⟨h1, h2, h3, h4⟩ := h
  obtain ⟨hk, hok⟩ := h3 k r hr
  have hn : n = M.length := by obtain ⟨p, c, e⟩ := owns_shape h1; simp only [Value.slice.injEq] at e; omega
  subst hn
  have ho1 := h1.kept hG (own_apart h1 hok (Ne.symm int_ne_row))
  have hst := (ho1.stored k r').1
  have hkl : k < rs.length := by omega
  have far : ∀ {x : Value} {p : List Int}, W1.ownsRow base 3 1 x p.length (cellsI p) → (W1.setCell ⟨g, k, none⟩ r').ownsRow base 3 1 x p.length (cellsI p) := fun {x p} hx => by
    refine ownsRow_setCell_other hx ?_ _
    rcases own_apart hx ho1 int_ne_row with e | e
    · rw [e]; simp
    · exact e
  refine ⟨by rw [List.length_set]; exact hst, by simp [h2], fun j x hx => ?_, fun i j a b hij ha hb' => ?_⟩
  · rw [set_get hkl] at hx
    by_cases e : j = k
    · subst e
      rw [if_pos rfl] at hx
      cases hx
      refine ⟨by rw [List.length_set]; exact hk, ?_⟩
      simp only [List.getElem_set_self]
      exact far ho
    · rw [if_neg e] at hx
      obtain ⟨hj, hoj⟩ := h3 j x hx
      refine ⟨by rw [List.length_set]; exact hj, ?_⟩
      rw [List.getElem_set_ne (Ne.symm e)]
      exact far (hoj.kept hG (h4 j k x r e hx hr))
  · have hnew : ∀ (j : Nat) (x : Value), j ≠ k → rs[j]? = some x → x.ownBlock = none ∨ x.ownBlock ≠ r'.ownBlock := by
      intro j x hj hx
      rcases hb with hb | ⟨g', hb, hg'⟩
      · rw [hb]; exact h4 j k x r hj hx hr
      · obtain ⟨hjl, hoj⟩ := h3 j x hx
        rw [hb]
        cases hxo : x.ownBlock with
        | none => exact .inl rfl
        | some gx => right; have := (hoj.lt gx hxo).2; intro e; cases e; omega
    rw [set_get hkl] at ha hb'
    by_cases ei : i = k
    · rw [if_pos ei] at ha
      cases ha
      rw [if_neg (fun e => hij (ei.trans e.symm))] at hb'
      exact apart_sym (hnew j b (fun e => hij (ei.trans e.symm)) hb')
    · rw [if_neg ei] at ha
      by_cases ej : j = k
      · rw [if_pos ej] at hb'
        cases hb'
        exact hnew i a ei ha
      · rw [if_neg ej] at hb'
        exact h4 i j a b hij ha hb'
/-- A row at the end. -/
theorem OwnsR.snoc {w W1 : World} {base : Nat} {v v' : Value} {rs : List Value} {M : MatI} (h : OwnsR w base v rs M) {q : List Int} {r : Value} (ho : w.ownsRow base 3 1 r q.length (cellsI q)) (hr : ∀ (j : Nat) (x : Value), rs[j]? = some x → x.ownBlock = none ∨ x.ownBlock ≠ r.ownBlock)
    (hG : w.grownBy W1 v.ownBlock) (hv : W1.ownsRow base 38 1 v' (M ++ [q]).length (rs ++ [r])) : OwnsR W1 base v' (rs ++ [r]) (M ++ [q]) := by
  obtain ⟨h1, h2, h3, h4⟩ := h
  refine ⟨hv, by simp [h2], fun j x hx => ?_, fun i j a b hij ha hb => ?_⟩
  · by_cases e : j < rs.length
    · rw [List.getElem?_append_left e] at hx
      obtain ⟨hj, hoj⟩ := h3 j x hx
      refine ⟨by simp; omega, ?_⟩
      rw [List.getElem_append_left hj]
      exact hoj.kept hG (own_apart hoj h1 int_ne_row)
    · have hj : j = rs.length := by
        have := (List.getElem?_eq_some_iff.1 hx).1
        simp at this; omega
      subst hj
      rw [List.getElem?_append_right (Nat.le_refl _), Nat.sub_self, List.getElem?_cons_zero] at hx
      cases hx
      refine ⟨by simp [h2], ?_⟩
      rw [List.getElem_append_right (by omega)]
      simp only [h2, Nat.sub_self, List.getElem_cons_zero]
      exact ho.kept hG (own_apart ho h1 int_ne_row)
  · have split : ∀ {j : Nat} {x : Value}, (rs ++ [r])[j]? = some x → (j < rs.length ∧ rs[j]? = some x) ∨ (j = rs.length ∧ x = r) := by
      intro j x hx
      by_cases e : j < rs.length
      · rw [List.getElem?_append_left e] at hx; exact .inl ⟨e, hx⟩
      · have hj : j = rs.length := by
          have := (List.getElem?_eq_some_iff.1 hx).1
          simp at this; omega
        subst hj
        rw [List.getElem?_append_right (Nat.le_refl _), Nat.sub_self, List.getElem?_cons_zero] at hx
        cases hx
        exact .inr ⟨rfl, rfl⟩
    rcases split ha with ⟨_, ha1⟩ | ⟨e1, ea⟩
    · rcases split hb with ⟨_, hb1⟩ | ⟨e2, eb⟩
      · exact h4 i j a b hij ha1 hb1
      · subst eb; exact hr i a ha1
    · rcases split hb with ⟨_, hb1⟩ | ⟨e2, eb⟩
      · subst ea; exact apart_sym (hr j b hb1)
      · omega
theorem OwnsR.row {w : World} {base : Nat} {v : Value} {rs : List Value} {M : MatI} (h : OwnsR w base v rs M) (k : Nat) (hk : k < M.length) : ∃ r, rs[k]? = some r ∧ w.ownsRow base 3 1 r M[k].length (cellsI M[k]) := by
  obtain ⟨h1, h2, h3, h4⟩ := h
  have e : rs[k]? = some (rs[k]'(by omega)) := List.getElem?_eq_getElem (by omega)
  obtain ⟨_, ho⟩ := h3 k _ e
  exact ⟨_, e, ho⟩
end Go.Proofs.Ytaececpphdaciaa

namespace Go.Proofs.Ytaececpphdaciaa
open Go.RowKit

/-- The entry of a row and a column. -/
def at2 (m : MatI) (r c : Int) : Int := (m.getD r.toNat []).getD c.toNat 0
def sgn (k : Nat) : Int := if k % 2 = 0 then 1 else -1
/-- The first k summands. -/
def detP (m : MatI) (f : List Int → Int) (r : Int) (cols : List Int) : Nat → Int
  | 0 => 0
  | k + 1 => detP m f r cols k + sgn k * at2 m r (cols.getD k 0) * f (cols.eraseIdx k)
def detD (m : MatI) : List Int → List Int → Int
  | [], _ => 1
  | r :: rs, cols => detP m (detD m rs) r cols cols.length
theorem sgn_next (k : Nat) : -sgn k = sgn (k + 1) := by unfold sgn; split <;> split <;> omega
theorem sgn_cases (k : Nat) : sgn k = 1 ∨ sgn k = -1 := by unfold sgn; split <;> simp
theorem at2_le {m : MatI} (h : matV m) (r c : Int) : -1000 ≤ at2 m r c ∧ at2 m r c ≤ 1000 := by
  unfold at2
  rw [List.getD_eq_getElem?_getD (l := m), List.getD_eq_getElem?_getD]
  by_cases hr : r.toNat < m.length
  · rw [List.getElem?_eq_getElem hr, Option.getD_some]
    by_cases hc : c.toNat < m[r.toNat].length
    · rw [List.getElem?_eq_getElem hc, Option.getD_some]
      exact (h.2 _ hr).2 _ hc
    · rw [List.getElem?_eq_none (by omega), Option.getD_none]; omega
  · have e : m[r.toNat]? = none := List.getElem?_eq_none (by omega)
    rw [e]
    simp
theorem mul_le2 {a b A B : Int} (ha : -A ≤ a ∧ a ≤ A) (hb : -B ≤ b ∧ b ≤ B) : -(A * B) ≤ a * b ∧ a * b ≤ A * B := by
  have h1 : (a * b).natAbs ≤ A.natAbs * B.natAbs := by
    rw [Int.natAbs_mul]
    exact Nat.mul_le_mul (by omega) (by omega)
  have h2 : (A * B).natAbs = A.natAbs * B.natAbs := Int.natAbs_mul _ _
  have h3 : 0 ≤ A * B := Int.mul_nonneg (by omega) (by omega)
  omega
theorem sgn_mul_le {x : Int} (k : Nat) (h : -1000 ≤ x ∧ x ≤ 1000) : -1000 ≤ sgn k * x ∧ sgn k * x ≤ 1000 := by
  rcases sgn_cases k with e | e <;> rw [e] <;> omega
/-- The bound at n rows. -/
def lim : Nat → Int
  | 0 => 1
  | n + 1 => 5000 * lim n
theorem lim_pos (n : Nat) : 0 < lim n := by
  induction n with
  | zero => decide
  | succ n ih => unfold lim; omega
theorem lim_mono {n k : Nat} (h : n ≤ k) : lim n ≤ lim k := by
  induction k with
  | zero => obtain rfl : n = 0 := by omega
            exact Int.le_refl _
  | succ k ih =>
    by_cases e : n = k + 1
    · rw [e]; exact Int.le_refl _
    · have := ih (by omega)
      have := lim_pos k
      show lim n ≤ 5000 * lim k
      omega
theorem detP_le {m : MatI} (hm : matV m) (f : List Int → Int) (L : Int) (hf : ∀ q, q.length ≤ 4 → -L ≤ f q ∧ f q ≤ L) (r : Int) (cols : List Int) (hc : cols.length ≤ 5) :
    ∀ k, k ≤ cols.length → -(k * (1000 * L)) ≤ detP m f r cols k ∧ detP m f r cols k ≤ k * (1000 * L)
  | 0, _ => by simp [detP]
  | k + 1, hk => by
    have ih := detP_le hm f L hf r cols hc k (by omega)
    have h1 := sgn_mul_le k (at2_le hm r (cols.getD k 0))
    have h2 := hf (cols.eraseIdx k) (by rw [List.length_eraseIdx]; split <;> omega)
    have h3 := mul_le2 (A := 1000) (B := L) (by omega) h2
    have e : ((k + 1 : Nat) : Int) * (1000 * L) = k * (1000 * L) + 1000 * L := by
      rw [Int.natCast_add, Int.add_mul]; simp
    unfold detP
    rw [e]
    omega
theorem detD_le {m : MatI} (hm : matV m) : ∀ (rows cols : List Int), cols.length ≤ 5 → rows.length = cols.length → -lim rows.length ≤ detD m rows cols ∧ detD m rows cols ≤ lim rows.length
  | [], cols, _, _ => by simp [detD, lim]
  | r :: rs, cols, hc, hl => by
    simp only [List.length_cons] at hl
    have hf : ∀ q : List Int, q.length = rs.length → -lim rs.length ≤ detD m rs q ∧ detD m rs q ≤ lim rs.length := fun q hq => detD_le hm rs q (by omega) hq.symm
    have key : ∀ k, k ≤ cols.length → -(k * (1000 * lim rs.length)) ≤ detP m (detD m rs) r cols k ∧ detP m (detD m rs) r cols k ≤ k * (1000 * lim rs.length) := by
      intro k
      induction k with
      | zero => intro _; simp [detP]
      | succ k ih =>
        intro hk
        have ih := ih (by omega)
        have h1 := sgn_mul_le k (at2_le hm r (cols.getD k 0))
        have h2 := hf (cols.eraseIdx k) (by rw [List.length_eraseIdx, if_pos (by omega)]; omega)
        have h3 := mul_le2 (A := 1000) (B := lim rs.length) (by omega) h2
        have e : ((k + 1 : Nat) : Int) * (1000 * lim rs.length) = k * (1000 * lim rs.length) + 1000 * lim rs.length := by
          rw [Int.natCast_add, Int.add_mul]; simp
        unfold detP
        rw [e]
        omega
    have h := key cols.length (Nat.le_refl _)
    have hp := lim_pos rs.length
    have h5 : (cols.length : Int) * (1000 * lim rs.length) ≤ 5 * (1000 * lim rs.length) := Int.mul_le_mul_of_nonneg_right (by omega) (by omega)
    show -(5000 * lim rs.length) ≤ detP m (detD m rs) r cols cols.length ∧ detP m (detD m rs) r cols cols.length ≤ 5000 * lim rs.length
    omega
theorem detP_le5 {m : MatI} (hm : matV m) (rs : List Int) (r : Int) (cols : List Int) (hc : cols.length ≤ 5) (hl : cols.length = rs.length + 1) (k : Nat) (hk : k ≤ cols.length) :
    -3125000000000000000 ≤ detP m (detD m rs) r cols k ∧ detP m (detD m rs) r cols k ≤ 3125000000000000000 := by
  have hf : ∀ q : List Int, q.length = rs.length → -lim rs.length ≤ detD m rs q ∧ detD m rs q ≤ lim rs.length := fun q hq => detD_le hm rs q (by omega) hq.symm
  have key : ∀ k, k ≤ cols.length → -(k * (1000 * lim rs.length)) ≤ detP m (detD m rs) r cols k ∧ detP m (detD m rs) r cols k ≤ k * (1000 * lim rs.length) := by
    intro k
    induction k with
    | zero => intro _; simp [detP]
    | succ k ih =>
      intro hk
      have ih := ih (by omega)
      have h1 := sgn_mul_le k (at2_le hm r (cols.getD k 0))
      have h2 := hf (cols.eraseIdx k) (by rw [List.length_eraseIdx, if_pos (by omega)]; omega)
      have h3 := mul_le2 (A := 1000) (B := lim rs.length) (by omega) h2
      have e : ((k + 1 : Nat) : Int) * (1000 * lim rs.length) = k * (1000 * lim rs.length) + 1000 * lim rs.length := by
        rw [Int.natCast_add, Int.add_mul]; simp
      unfold detP
      rw [e]
      omega
  have h := key k hk
  have hp := lim_pos rs.length
  have h4 : lim rs.length ≤ lim 4 := lim_mono (by omega)
  have h4' : lim 4 = 625000000000000 := by decide
  have h5 : (k : Int) * (1000 * lim rs.length) ≤ 5 * (1000 * lim rs.length) := Int.mul_le_mul_of_nonneg_right (by omega) (by omega)
  omega
theorem detD_le5 {m : MatI} (hm : matV m) (rows cols : List Int) (hc : cols.length ≤ 4) (hl : rows.length = cols.length) : -625000000000000 ≤ detD m rows cols ∧ detD m rows cols ≤ 625000000000000 := by
  have h := detD_le hm rows cols (by omega) hl
  have h4 : lim rows.length ≤ lim 4 := lim_mono (by omega)
  have h4' : lim 4 = 625000000000000 := by decide
  omega
/-- What one round adds, as the machine's numbers have it. -/
theorem det_step {m : MatI} (hm : matV m) (rs : List Int) (r : Int) (cols : List Int) (hc : cols.length ≤ 5) (hl : cols.length = rs.length + 1) (k : Nat) (hk : k < cols.length) :
    ∃ s x D P sx T P' : Int, sgn k = s ∧ at2 m r cols[k] = x ∧ detD m rs (cols.eraseIdx k) = D ∧ detP m (detD m rs) r cols k = P ∧ detP m (detD m rs) r cols (k + 1) = P' ∧
      s * x = sx ∧ sx * D = T ∧ P + T = P' ∧ (s = 1 ∨ s = -1) ∧ (-1000 ≤ x ∧ x ≤ 1000) ∧ (-1000 ≤ sx ∧ sx ≤ 1000) ∧ (-625000000000000 ≤ D ∧ D ≤ 625000000000000) ∧
      (-625000000000000000 ≤ T ∧ T ≤ 625000000000000000) ∧ (-3125000000000000000 ≤ P ∧ P ≤ 3125000000000000000) ∧ (-3125000000000000000 ≤ P' ∧ P' ≤ 3125000000000000000) ∧ (x = 0 → P' = P) := by
  have e1 : cols.getD k 0 = cols[k] := by rw [List.getD_eq_getElem?_getD, List.getElem?_eq_getElem hk, Option.getD_some]
  have hP' : detP m (detD m rs) r cols (k + 1) = detP m (detD m rs) r cols k + sgn k * at2 m r cols[k] * detD m rs (cols.eraseIdx k) := by rw [← e1]; rfl
  have hx := at2_le hm r cols[k]
  have hsx := sgn_mul_le k hx
  have hD := detD_le5 hm rs (cols.eraseIdx k) (by rw [List.length_eraseIdx, if_pos hk]; omega) (by rw [List.length_eraseIdx, if_pos hk]; omega)
  have hT := mul_le2 (A := 1000) (B := 625000000000000) (by omega) hD
  refine ⟨_, _, _, _, _, _, _, rfl, rfl, rfl, rfl, rfl, rfl, rfl, hP'.symm, sgn_cases k, hx, hsx, hD, by omega, detP_le5 hm rs r cols hc hl k (by omega), detP_le5 hm rs r cols hc hl (k + 1) (by omega), fun h0 => ?_⟩
  rw [hP', h0]; simp

theorem erase_take_drop (cols : List Int) (k : Nat) : cols.eraseIdx k = cols.take k ++ cols.drop (k + 1) := List.eraseIdx_eq_take_drop_succ cols k
theorem own_emptyI (w : World) (base : Nat) (hb : base ≤ w.heap.size) : (w.alloc (.cells #[] 3)).ownsRow base 3 1 (.slice (some ⟨w.heap.size, 0, none⟩) 0 0) ([] : List Int).length (cellsI []) :=
  World.ownsRow_lit w #[] 0 hb (Nat.zero_le _) rfl
theorem cellsI_len (q : List Int) : (cellsI q).length = q.length := by simp [cellsI]
theorem ReadsI.dropI {w : World} {g o n cap : Nat} {q : List Int} (h : ReadsI w (.slice (some ⟨g, o, none⟩) n cap) q) (i : Nat) (hi : i ≤ q.length) : ReadsI w (.slice (if cap = i then some ⟨g, o, none⟩ else some ⟨g, o + i, none⟩) (n - i) (cap - i)) (q.drop i) := by
  by_cases e : cap = i
  · rw [if_pos e]
    obtain ⟨p, c, he, h1, h2, h3⟩ := h
    simp only [Value.slice.injEq] at he
    obtain ⟨-, rfl, rfl⟩ := he
    have hl : (q.drop i).length = 0 := by simp; omega
    have hn := List.eq_nil_of_length_eq_zero hl
    rw [hn]
    have hz : q.length - i = 0 := by omega
    rw [hz]
    exact ⟨some ⟨g, o, none⟩, cap - i, rfl, by simp, by omega, .inl rfl⟩
  · rw [if_neg e]; exact h.drop i hi
theorem news_of_reads {w : World} {a : Addr} {n c : Nat} {q : List Int} (h : ReadsI w (.slice (some a) n c) q) : ∀ j u, (cellsI q)[j]? = some u → w.cell? (a.add j) = some u := by
  intro j u hj
  by_cases hjq : j < q.length
  · rw [cellsI_get q j hjq] at hj
    simp only [Option.some.injEq] at hj
    subst hj
    obtain ⟨p', c', he, h1, h2, h3⟩ := h
    rcases h3 with hx | ⟨g', o', rfl, hc⟩
    · subst hx; simp at hjq
    · simp only [Value.slice.injEq, Option.some.injEq] at he
      obtain ⟨rfl, -, -⟩ := he
      rw [Addr.add_lit]; exact hc j hjq
  · rw [List.getElem?_eq_none (by rw [cellsI_len]; omega)] at hj; cases hj
theorem cellsI_append (a b : List Int) : cellsI (a ++ b) = cellsI a ++ cellsI b := by simp [cellsI]
theorem cellsI_one (q : List Int) : ∀ u ∈ cellsI q, u.oneCell' = true := by
  intro u hu
  simp only [cellsI, List.mem_map] at hu
  obtain ⟨x, _, rfl⟩ := hu
  rfl
theorem ReadsI.len {w : World} {p : Option Addr} {n c : Nat} {q : List Int} (h : ReadsI w (.slice p n c) q) : n = q.length := by
  obtain ⟨_, _, he, _⟩ := h
  simp only [Value.slice.injEq] at he
  omega
/-- 'append(v, x...)' of numbers that a slice reads as, where v is the call's own: at a plain region's list. -/
theorem append_ints {ops : Array Oper} {rest : List Oper} {o : Oper} {a : Act} {Q : Exit → Act → World → Prop} (wr : World) (hgd : o.guard = none) (s x : Operand)
    (ho : o.op = .call { callee := .builtin .append, args := #[s, x], argTypes := #[38, 38] })
    (base : Nat) (v : Value) (q : List Int) (hs : a.eval s = v) (hown : wr.ownsRow base 3 1 v q.length (cellsI q))
    {p : Option Addr} {m c : Nat} (hx : a.eval x = .slice p m c) (hp : ∃ ad, p = some ad) (ns : List Int) (hns : ReadsI wr (.slice p m c) ns) (hn : q.length + ns.length ≤ 1099511627776) (hbase : base ≤ wr.heap.size)
    (h : ∀ v' w', w'.ownsRow base 3 1 v' (q ++ ns).length (cellsI (q ++ ns)) → wr.heap.size ≤ w'.heap.size → wr.grownBy w' v.ownBlock → wpList Try.prog ops Q rest (a.put o.dst v') w') :
    wpList Try.prog ops Q (o :: rest) a wr := by
  obtain ⟨i0, hi, hz0, hz1, hz2⟩ := info_parts Try.infoInt
  have hml := hns.len
  obtain ⟨ad, rfl⟩ := hp
  refine wpList_append_own _ hgd s x 38 ho base 3 i0 (.int .i64 0) 1 8 Try.underlying38 hi hz0 hz1 hz2 rfl (by decide) v q.length (cellsI q) hs hown ad m c (cellsI ns) hx (by rw [cellsI_len, hml]; omega) (news_of_reads hns) (cellsI_one _) (by unfold maxLen; omega) (by omega) hbase ?_
  intro v' w' h1 h2 _
  refine h v' w' ?_ h2.size h2
  rw [cellsI_append, List.length_append, ← hml]; exact h1
/-- The same as a step of a region that draws. -/
theorem step_append_ints {ops : Array Oper} {o : Oper} {a : Act} {K : Act → World → Prop} {Q : Exit → Act → World → Prop} {E : Prop} (wr : World) (hgd : o.guard = none) (s x : Operand)
    (ho : o.op = .call { callee := .builtin .append, args := #[s, x], argTypes := #[38, 38] })
    (base : Nat) (v : Value) (q : List Int) (hs : a.eval s = v) (hown : wr.ownsRow base 3 1 v q.length (cellsI q))
    {p : Option Addr} {m c : Nat} (hx : a.eval x = .slice p m c) (hp : ∃ ad, p = some ad) (ns : List Int) (hns : ReadsI wr (.slice p m c) ns) (hn : q.length + ns.length ≤ 1099511627776) (hbase : base ≤ wr.heap.size)
    (h : ∀ v' w', w'.ownsRow base 3 1 v' (q ++ ns).length (cellsI (q ++ ns)) → wr.heap.size ≤ w'.heap.size → wr.grownBy w' v.ownBlock → K (a.put o.dst v') w') :
    if Region.wanted o (yielded ops a.tmps) = true then Oper.wp Try.prog o a wr K Q else E := by
  have hw : Region.wanted o (yielded ops a.tmps) = true := by simp [Region.wanted, hgd]
  rw [if_pos hw]
  obtain ⟨i0, hi, hz0, hz1, hz2⟩ := info_parts Try.infoInt
  have hml := hns.len
  obtain ⟨ad, rfl⟩ := hp
  refine wp_append_own _ s x 38 ho base 3 i0 (.int .i64 0) 1 8 Try.underlying38 hi hz0 hz1 hz2 rfl (by decide) v q.length (cellsI q) hs hown ad m c (cellsI ns) hx (by rw [cellsI_len, hml]; omega) (news_of_reads hns) (cellsI_one _) (by unfold maxLen; omega) (by omega) hbase ?_
  intro v' w' h1 h2 _
  refine h v' w' ?_ h2.size h2
  rw [cellsI_append, List.length_append, ← hml]; exact h1
end Go.Proofs.Ytaececpphdaciaa
