/-
  A wire put into a sorted list.
  l03Drop and l03Put in the model.
  l03Put in the model: a wire put into a list.
  A network that is made wire by wire: it is valid, and its weights are small.
-/
import Derived.Test.YtaececpphdaciaaGNet
import Derived.Test.YtaececpphdaciaaCanon
import Derived.BigGuardPart
import Derived.OneCell
import Derived.Lib.MinMax
namespace Go.Proofs.Ytaececpphdaciaa
open Go.RowKit

instance (a b : W3) : Decidable (wLt a b) := by unfold wLt; infer_instance
def insW (x : W3) : List W3 → List W3
  | [] => [x]
  | e :: r => if wLt x e then x :: e :: r else e :: insW x r
def atEnds (lo hi : Int) (e : W3) : Bool := e.1 == lo && e.2.1 == hi
def restW (ws : List W3) (lo hi : Int) : List W3 := ws.filter (fun e => !atEnds lo hi e)
def sumW (ws : List W3) (lo hi x : Int) (add : Bool) : Int := ws.foldl (fun s e => if atEnds lo hi e && add then wrap64 (s + e.2.2) else s) x
def put3 (ws : List W3) (lo hi x : Int) (add : Bool) : List W3 := insW (lo, hi, sumW ws lo hi x add) (restW ws lo hi)
def dropZ (ws : List W3) : List W3 := ws.filter (fun e => e.2.2 != 0)
theorem sumW_no (ws : List W3) (lo hi x : Int) : sumW ws lo hi x false = x := by
  unfold sumW
  induction ws with
  | nil => rfl
  | cons e r ih => simp only [List.foldl_cons, Bool.and_false, Bool.false_eq_true, if_false]; simpa using ih
theorem mem_insW (x t : W3) : ∀ L : List W3, t ∈ insW x L ↔ t = x ∨ t ∈ L
  | [] => by simp [insW]
  | e :: r => by
    unfold insW
    split
    · simp
    · simp [mem_insW x t r]
      constructor
      · rintro (h | h | h) <;> simp [h]
      · rintro (h | h | h) <;> simp [h]
theorem insW_length (x : W3) : ∀ L : List W3, (insW x L).length = L.length + 1
  | [] => rfl
  | e :: r => by
    unfold insW
    split
    · simp
    · simp [insW_length x r]
theorem wLt_trans {a b c : W3} (h1 : wLt a b) (h2 : wLt b c) : wLt a c := by unfold wLt at *; omega
theorem sorted_insW (x : W3) : ∀ L : List W3, L.Pairwise wLt → (∀ e ∈ L, ¬ (e.1 = x.1 ∧ e.2.1 = x.2.1)) → (insW x L).Pairwise wLt
  | [], _, _ => by simp [insW]
  | e :: r, hp, hn => by
    rw [List.pairwise_cons] at hp
    unfold insW
    split
    · rename_i hx
      rw [List.pairwise_cons]
      refine ⟨fun t ht => ?_, List.pairwise_cons.2 hp⟩
      rcases List.mem_cons.1 ht with rfl | ht
      · exact hx
      · exact wLt_trans hx (hp.1 t ht)
    · rename_i hx
      rw [List.pairwise_cons]
      refine ⟨fun t ht => ?_, sorted_insW x r hp.2 (fun t ht => hn t (by simp [ht]))⟩
      rcases (mem_insW x t r).1 ht with rfl | ht
      · have := hn e (by simp)
        unfold wLt at *
        omega
      · exact hp.1 t ht
theorem mem_rest (ws : List W3) (lo hi : Int) (t : W3) : t ∈ restW ws lo hi ↔ t ∈ ws ∧ ¬ (t.1 = lo ∧ t.2.1 = hi) := by
  unfold restW atEnds
  rw [List.mem_filter]
  simp only [Bool.not_eq_true', Bool.and_eq_false_iff, beq_eq_false_iff_ne]
  constructor
  · rintro ⟨a, b⟩
    refine ⟨a, fun c => ?_⟩
    rcases b with b | b
    · exact b c.1
    · exact b c.2
  · rintro ⟨a, b⟩
    refine ⟨a, ?_⟩
    by_cases c : t.1 = lo
    · exact .inr fun d => b ⟨c, d⟩
    · exact .inl c
end Go.Proofs.Ytaececpphdaciaa

namespace Go.Proofs.Ytaececpphdaciaa
open Go.RowKit

/-- 'append(v, x)' of one wire, where v is the call's own; and where the new slice lies. -/
theorem append_wire2 {ops : Array Oper} {rest : List Oper} {o : Oper} {a : Act} {Q : Exit → Act → World → Prop} (wr : World) (hgd : o.guard = none) (s x : Operand)
    (ho : o.op = .call { callee := .builtin .append, args := #[s, x], argTypes := #[23, 23] })
    (base : Nat) (w0 : World) (v : Value) (ws : List W3) (u : W3) (hs : a.eval s = v) (hown : wr.ownsRow base 29 3 v ws.length (cellsW ws))
    {b1 : Nat} (hx : a.eval x = .slice (some ⟨b1, 0, none⟩) 1 1) (hb1 : b1 = wr.heap.size) (hn : ws.length + 1 ≤ 1099511627776) (hbase : base ≤ wr.heap.size) (hB : Below base w0 wr)
    (h : ∀ v' w', w'.ownsRow base 29 3 v' (ws ++ [u]).length (cellsW (ws ++ [u])) → wr.heap.size ≤ w'.heap.size → Below base w0 w' → wr.grownBy w' v.ownBlock → (∀ j, v'.ownBlock = some j → v.ownBlock = some j ∨ wr.heap.size ≤ j) → wpList Try.prog ops Q rest (a.put o.dst v') w') :
    wpList Try.prog ops Q (o :: rest) a (wr.alloc (.cells #[.int .i64 u.1, .int .i64 u.2.1, .int .i64 u.2.2] 29)) := by
  subst hb1
  obtain ⟨i0, hi, hz0, hz1, hz2⟩ := info_parts Try.infoWireB
  refine wpList_append_lies _ hgd s x 23 ho base 29 i0 (.agg #[.int .i64 0, .int .i64 0, .int .i64 0]) 3 24 Try.underlying23 hi hz0 hz1 hz2 rfl (by decide) v ws.length (cellsW ws) hs (hown.alloc _) ⟨wr.heap.size, 0, none⟩ 1 1 [.int .i64 u.1, .int .i64 u.2.1, .int .i64 u.2.2] hx rfl (three_new _ _ _ _ _) (by simp [Value.oneCell']) (by omega) (by unfold maxLen; omega) (by omega) (by simp; omega) (wr.heap.size + 1) (by simp) ?_
  intro g cap w' h1 h2 hat _
  have h3 := h2.size
  simp at h3
  refine h _ w' (by rw [cellsW_snoc, List.length_append]; exact h1) (by omega) ((hB.alloc hbase _).grown h2 (by simp; omega) (fun k hk => (hown.lt k hk).1)) ?_ ?_
  · exact ⟨h2.os, h2.tape, h2.output, by omega, fun i hi hr => by rw [h2.block i (by simp; omega) hr, heap_alloc_old _ _ hi]⟩
  · intro j hj
    simp only [Value.ownBlock, Option.some.injEq] at hj
    subst hj
    rcases hat with hat | hat
    · exact .inl hat
    · exact .inr (by omega)

theorem own_empty (w : World) (base : Nat) (hb : base ≤ w.heap.size) : (w.alloc (.cells #[] 29)).ownsRow base 29 3 (.slice (some ⟨w.heap.size, 0, none⟩) 0 0) 0 [] :=
  World.ownsRow_lit w #[] 0 hb (Nat.zero_le _) rfl
theorem dropZ_snoc (ws : List W3) (k : Nat) (h : k < ws.length) : dropZ (ws.take (k + 1)) = if ws[k].2.2 = 0 then dropZ (ws.take k) else dropZ (ws.take k) ++ [ws[k]] := by
  unfold dropZ
  rw [List.take_succ_eq_append_getElem h, List.filter_append]
  by_cases h0 : ws[k].2.2 = 0 <;> simp [h0]

set_option maxRecDepth 4000 in
set_option maxHeartbeats 6400000 in
theorem spec_drop (v : Value) (ws : List W3) (w : World) (hr : ReadsW w v ws) (hlen : ws.length ≤ 1048580) :
    Calls Try.prog 81 #[v] w fun en w' => ∃ p c, en = .returned (.slice p (dropZ ws).length c) ∧ w'.ownsRow w.heap.size 29 3 (.slice p (dropZ ws).length c) (dropZ ws).length (cellsW (dropZ ws)) ∧ Below w.heap.size w w' := by
  obtain ⟨hm, hr1⟩ := hr
  have o0 := Lib.hid (own_empty w w.heap.size (Nat.le_refl _))
  rcases hr1 with ⟨hx, p, cap, rfl⟩ | ⟨g0, o, cap, rfl, hc⟩
  · subst hx
    go_enter Try.func81, Try.ntmps81
    go_wp2
    refine wp_loop_rounds 1 ?_
    rw [rounds_succ]
    go_wp2
    go_ret
    exact ⟨_, _, rfl, o0.out, by (repeat (first | exact Below.refl _ _ | (refine Below.setCell ?_ (by (first | exact Nat.le_refl _ | omega | (simp <;> omega) | simp)) _) | (refine Below.alloc ?_ (by (first | exact Nat.le_refl _ | omega | (simp <;> omega) | simp)) _) | (refine below_draws ?_ _)))⟩
  have HC := Lib.hid hc; clear hc
  go_enter Try.func81, Try.ntmps81
  go_wp2
  go_loopw [3, 9] (fun s3 i wr => ∃ (k : Nat) (os : List W3), k ≤ ws.length ∧ i = .int .i64 k ∧ os.length ≤ k ∧ Hid (os = dropZ (ws.take k)) ∧ wr.ownsRow w.heap.size 29 3 s3 os.length (cellsW os) ∧ w.heap.size < wr.heap.size ∧ Hid (Below w.heap.size w wr)) (fun _ i _ => ws.length - (intOf i).toNat)
  case atStart => exact ⟨0, [], Nat.zero_le _, rfl, Nat.le_refl _, Lib.hid rfl, o0.out, by simp, Lib.hid (by (repeat (first | exact Below.refl _ _ | (refine Below.setCell ?_ (by (first | exact Nat.le_refl _ | omega | (simp <;> omega) | simp)) _) | (refine Below.alloc ?_ (by (first | exact Nat.le_refl _ | omega | (simp <;> omega) | simp)) _) | (refine below_draws ?_ _))))⟩
  case round =>
    obtain ⟨k, os, hk, rfl, hol, hos, hown, hsz, hB⟩ := hrel
    obtain ⟨pv, cv, rfl⟩ := owns_shape hown
    by_cases hlt : k < ws.length
    · obtain ⟨c0, c1, c2⟩ := HC.out k hlt
      have hg : g0 < w.heap.size := World.block_lt_of_cell? w _ c0
      rw [← hB.out.cell (p := ⟨g0, o + k * 3, none⟩) hg] at c0
      rw [← hB.out.cell (p := ⟨g0, o + k * 3 + 1, none⟩) hg] at c1
      rw [← hB.out.cell (p := ⟨g0, o + k * 3 + 2, none⟩) hg] at c2
      have hne : g0 ≠ wr.heap.size := by omega
      have hsn := dropZ_snoc ws k hlt
      by_cases h0 : ws[k].2.2 = 0
      · rw [if_pos h0] at hsn
        have HS := Lib.hid hsn
        have h0' : (ws[k].2.2 == 0) = true := by simpa using h0
        clear hsn h0
        go_wp2
        go_roundw
        case rel => exact ⟨k + 1, os, by omega, by go_num, by omega, Lib.hid (by rw [HS.out, hos.out]), owns_later hown (by (repeat (first | exact Below.refl _ _ | (refine Below.setCell ?_ (by (first | exact Nat.le_refl _ | omega | (simp <;> omega) | simp)) _) | (refine Below.alloc ?_ (by (first | exact Nat.le_refl _ | omega | (simp <;> omega) | simp)) _) | (refine below_draws ?_ _)))), by simp; omega, Lib.hid (by have hB := hB.out; (repeat (first | exact Below.refl _ _ | (refine Below.setCell ?_ (by (first | exact Nat.le_refl _ | omega | (simp <;> omega) | simp)) _) | (refine Below.alloc ?_ (by (first | exact Nat.le_refl _ | omega | (simp <;> omega) | simp)) _) | (refine below_draws ?_ _) | exact hB | (refine Below.trans ?_ (Below.mono hB (by (first | exact Nat.le_refl _ | omega | (simp <;> omega) | simp)))))))⟩
        case measure => simp [intOf]; omega
      · rw [if_neg h0] at hsn
        have HS := Lib.hid hsn
        have h0' : (ws[k].2.2 == 0) = false := by simpa using h0
        clear hsn h0
        go_wp2_with (at_builtin; refine append_wire _ rfl _ _ rfl w.heap.size w _ os ws[k] rfl (owns_later hown (by (repeat (first | exact Below.refl _ _ | (refine Below.setCell ?_ (by (first | exact Nat.le_refl _ | omega | (simp <;> omega) | simp)) _) | (refine Below.alloc ?_ (by (first | exact Nat.le_refl _ | omega | (simp <;> omega) | simp)) _) | (refine below_draws ?_ _))))) rfl (by simp) (by omega) (by simp; omega) (by have hB := hB.out; (repeat (first | exact Below.refl _ _ | (refine Below.setCell ?_ (by (first | exact Nat.le_refl _ | omega | (simp <;> omega) | simp)) _) | (refine Below.alloc ?_ (by (first | exact Nat.le_refl _ | omega | (simp <;> omega) | simp)) _) | (refine below_draws ?_ _) | exact hB | (refine Below.trans ?_ (Below.mono hB (by (first | exact Nat.le_refl _ | omega | (simp <;> omega) | simp))))))) ?_; intro v' w1 hown1 hsz1 hB1 hG1)
        simp at hsz1
        refine ⟨⟨k + 1, os ++ [ws[k]], by omega, by go_num, by simp; omega, Lib.hid (by rw [HS.out, hos.out]), hown1, by omega, Lib.hid hB1⟩, ?_⟩
        simp [intOf]; omega
    · obtain rfl : k = ws.length := by omega
      rw [List.take_length] at hos
      obtain rfl := hos.out
      go_wp2
      go_ret
      exact ⟨pv, cv, rfl, hown, hB.out⟩
end Go.Proofs.Ytaececpphdaciaa

namespace Go.Proofs.Ytaececpphdaciaa
open Go.RowKit

theorem restW_snoc (ws : List W3) (k : Nat) (h : k < ws.length) (lo hi : Int) : restW (ws.take (k + 1)) lo hi = if atEnds lo hi ws[k] = true then restW (ws.take k) lo hi else restW (ws.take k) lo hi ++ [ws[k]] := by
  unfold restW
  rw [List.take_succ_eq_append_getElem h, List.filter_append]
  cases h0 : atEnds lo hi ws[k] <;> simp [h0]
theorem sumW_snoc (ws : List W3) (k : Nat) (h : k < ws.length) (lo hi x : Int) (add : Bool) : sumW (ws.take (k + 1)) lo hi x add = if (atEnds lo hi ws[k] && add) = true then wrap64 (sumW (ws.take k) lo hi x add + ws[k].2.2) else sumW (ws.take k) lo hi x add := by
  unfold sumW
  rw [List.take_succ_eq_append_getElem h, List.foldl_append]; rfl
theorem ins_none (x : W3) : ∀ L : List W3, (∀ e ∈ L, ¬ wLt x e) → insW x L = L ++ [x]
  | [], _ => rfl
  | e :: r, h => by
    unfold insW
    rw [if_neg (h e (by simp)), ins_none x r (fun t ht => h t (by simp [ht]))]
    rfl
theorem ins_late (x e' : W3) : ∀ L : List W3, (∃ e ∈ L, wLt x e) → insW x (L ++ [e']) = insW x L ++ [e']
  | [], h => by obtain ⟨e, he, _⟩ := h; simp at he
  | e :: r, h => by
    show insW x (e :: (r ++ [e'])) = _
    unfold insW
    by_cases hx : wLt x e
    · rw [if_pos hx, if_pos hx]; rfl
    · rw [if_neg hx, if_neg hx, ins_late x e' r (by
        obtain ⟨t, ht, htx⟩ := h
        rcases List.mem_cons.1 ht with rfl | ht
        · exact absurd htx hx
        · exact ⟨t, ht, htx⟩)]
      rfl
theorem ins_now (x e' : W3) : ∀ L : List W3, (∀ e ∈ L, ¬ wLt x e) → wLt x e' → insW x (L ++ [e']) = L ++ [x] ++ [e']
  | [], _, h => by simp [insW, h]
  | e :: r, hn, h => by
    show insW x (e :: (r ++ [e'])) = _
    unfold insW
    rw [if_neg (hn e (by simp)), ins_now x e' r (fun t ht => hn t (by simp [ht])) h]
    rfl
/-- The second pass: k wires done. -/
def InsAt (x : W3) (L os : List W3) (done : Bool) (k : Nat) : Prop :=
  (done = false ∧ os = L.take k ∧ ∀ e ∈ L.take k, ¬ wLt x e) ∨ (done = true ∧ os = insW x (L.take k) ∧ ∃ e ∈ L.take k, wLt x e)
theorem InsAt.start (x : W3) (L : List W3) : InsAt x L [] false 0 := .inl ⟨rfl, by simp, by simp⟩
theorem InsAt.late {x : W3} {L os : List W3} {k : Nat} (h : InsAt x L os true k) (hk : k < L.length) : InsAt x L (os ++ [L[k]]) true (k + 1) := by
  rcases h with ⟨h, _⟩ | ⟨-, h1, h2⟩
  · cases h
  · have ht := List.take_succ_eq_append_getElem hk
    exact .inr ⟨rfl, by rw [ht, ins_late _ _ _ h2, h1], by obtain ⟨e, he, hx⟩ := h2; exact ⟨e, by rw [ht]; exact List.mem_append_left _ he, hx⟩⟩
theorem InsAt.now {x : W3} {L os : List W3} {k : Nat} (h : InsAt x L os false k) (hk : k < L.length) (hx : wLt x L[k]) : InsAt x L (os ++ [x] ++ [L[k]]) true (k + 1) := by
  rcases h with ⟨-, h1, h2⟩ | ⟨h, _⟩
  · have ht := List.take_succ_eq_append_getElem hk
    exact .inr ⟨rfl, by rw [ht, ins_now _ _ _ h2 hx, h1], L[k], by rw [ht]; exact List.mem_append_right _ (List.mem_singleton.2 rfl), hx⟩
  · cases h
theorem InsAt.wait {x : W3} {L os : List W3} {k : Nat} (h : InsAt x L os false k) (hk : k < L.length) (hx : ¬ wLt x L[k]) : InsAt x L (os ++ [L[k]]) false (k + 1) := by
  rcases h with ⟨-, h1, h2⟩ | ⟨h, _⟩
  · left
    rw [List.take_succ_eq_append_getElem hk]
    refine ⟨rfl, by rw [h1], fun e he => ?_⟩
    rcases List.mem_append.1 he with he | he
    · exact h2 e he
    · rw [List.mem_singleton] at he; subst he; exact hx
  · cases h
theorem InsAt.len {x : W3} {L os : List W3} {done : Bool} {k : Nat} (h : InsAt x L os done k) : os.length ≤ k + 1 := by
  rcases h with ⟨-, h1, -⟩ | ⟨-, h1, -⟩
  · rw [h1]; simp; omega
  · rw [h1, insW_length]; simp; omega
theorem InsAt.end_late {x : W3} {L os : List W3} (h : InsAt x L os true L.length) : os = insW x L := by
  rcases h with ⟨h, _⟩ | ⟨-, h1, -⟩
  · cases h
  · rwa [List.take_length] at h1
theorem InsAt.end_wait {x : W3} {L os : List W3} (h : InsAt x L os false L.length) : os ++ [x] = insW x L := by
  rcases h with ⟨-, h1, h2⟩ | ⟨h, _⟩
  · rw [List.take_length] at h1 h2
    rw [h1, ins_none _ _ h2]
  · cases h

theorem reads_at {w : World} {p : Option Addr} {n c : Nat} {ws : List W3} (h : ReadsW w (.slice p n c) ws) : ∀ k, (h : k < ws.length) → ∃ g o, p = some ⟨g, o, none⟩ ∧ w.cell? ⟨g, o + k * 3, none⟩ = some (.int .i64 ws[k].1) ∧ w.cell? ⟨g, o + k * 3 + 1, none⟩ = some (.int .i64 ws[k].2.1) ∧ w.cell? ⟨g, o + k * 3 + 2, none⟩ = some (.int .i64 ws[k].2.2) := fun k hk => by
  rcases h.2 with ⟨hx, _⟩ | ⟨g, o, cap, hv, hc⟩
  · subst hx; simp at hk
  · simp only [Value.slice.injEq] at hv
    exact ⟨g, o, hv.1, hc k hk⟩
theorem lt_cases {lo hi c : Int} {e : W3} (h : wLt (lo, hi, c) e) : lo < e.1 ∨ (¬ lo < e.1 ∧ (e.1 == lo) = true ∧ hi < e.2.1) := by
  unfold wLt at h
  simp only at h
  rcases h with h | ⟨h1, h2⟩
  · exact .inl h
  · right
    have h1 : e.1 = lo := h1.symm
    refine ⟨by omega, by simpa using h1, h2⟩
theorem no_lt_cases {lo hi c : Int} {e : W3} (h : ¬ wLt (lo, hi, c) e) : (¬ lo < e.1 ∧ (e.1 == lo) = false) ∨ (¬ lo < e.1 ∧ (e.1 == lo) = true ∧ ¬ hi < e.2.1) := by
  unfold wLt at h
  simp only at h
  by_cases h1 : e.1 = lo
  · exact .inr ⟨by omega, by simpa using h1, by omega⟩
  · exact .inl ⟨by omega, by simpa using h1⟩

set_option maxRecDepth 8000 in
set_option maxHeartbeats 12800000 in
theorem spec_put3 (a b lo hi x : Int) (add : Bool) (he : Ends a b lo hi) (v : Value) (ws : List W3) (w : World) (hr : ReadsW w v ws) (hlen : ws.length ≤ 1048576) :
    Calls Try.prog 97 #[v, .int .i64 a, .int .i64 b, .int .i64 x, .bool add] w fun en w' => ∃ p c, en = .returned (.slice p (put3 ws lo hi x add).length c) ∧ w'.ownsRow w.heap.size 29 3 (.slice p (put3 ws lo hi x add).length c) (put3 ws lo hi x add).length (cellsW (put3 ws lo hi x add)) ∧ Below w.heap.size w w' := by
  obtain ⟨p0, cap0, rfl⟩ := hr.shape
  have hm := hr.1
  have HC := Lib.hid (reads_at hr); clear hr
  have o0 := Lib.hid (own_empty w w.heap.size (Nat.le_refl _))
  have HP : Hid (put3 ws lo hi x add = insW (lo, hi, sumW ws lo hi x add) (restW ws lo hi)) := Lib.hid rfl
  have M1 := Lib.hid (ends_min he).1
  have M2 := Lib.hid (ends_min he).2
  clear he
  go_enter Try.func97, Try.ntmps97
  go_wp2
  go_loopw [11, 29] (fun s11 i wr => ∃ (k : Nat) (os : List W3), k ≤ ws.length ∧ i = .int .i64 k ∧ os.length ≤ k ∧ Hid (os = restW (ws.take k) lo hi) ∧ wr.cell? ⟨w.heap.size + 1, 0, none⟩ = some (.int .i64 lo) ∧ wr.cell? ⟨w.heap.size + 1, 1, none⟩ = some (.int .i64 hi) ∧ wr.cell? ⟨w.heap.size + 1, 2, none⟩ = some (.int .i64 (sumW (ws.take k) lo hi x add)) ∧ wr.frozen? ⟨w.heap.size + 1, 2, none⟩ = false ∧ wr.ownsRow w.heap.size 29 3 s11 os.length (cellsW os) ∧ Hid (∀ j, s11.ownBlock = some j → j ≠ w.heap.size + 1) ∧ w.heap.size + 1 < wr.heap.size ∧ Hid (Below w.heap.size w wr)) (fun _ i _ => ws.length - (intOf i).toNat)
  case atStart => exact ⟨0, [], Nat.zero_le _, rfl, Nat.le_refl _, Lib.hid rfl, by simp [M1.out], by simp [M2.out], by simp [sumW], by simp, o0.out.alloc _, Lib.hid (fun j hj => by have : w.heap.size = j := Option.some.inj hj; omega), by simp, Lib.hid (by (repeat (first | exact Below.refl _ _ | (refine Below.setCell ?_ (by (first | exact Nat.le_refl _ | omega | (simp <;> omega) | simp)) _) | (refine Below.alloc ?_ (by (first | exact Nat.le_refl _ | omega | (simp <;> omega) | simp)) _) | (refine below_draws ?_ _))))⟩
  case round =>
    obtain ⟨k, os, hk, rfl, hol, hos, b0, b1, b2, bf, hown, hnb, hsz, hB⟩ := hrel
    obtain ⟨pv, cv, rfl⟩ := owns_shape hown
    by_cases hlt : k < ws.length
    · obtain ⟨g0, o, rfl, c0, c1, c2⟩ := HC.out k hlt
      have hg : g0 < w.heap.size := World.block_lt_of_cell? w _ c0
      rw [← hB.out.cell (p := ⟨g0, o + k * 3, none⟩) hg] at c0
      rw [← hB.out.cell (p := ⟨g0, o + k * 3 + 1, none⟩) hg] at c1
      rw [← hB.out.cell (p := ⟨g0, o + k * 3 + 2, none⟩) hg] at c2
      have hne : g0 ≠ wr.heap.size := by omega
      have hne2 : w.heap.size + 1 ≠ wr.heap.size := by omega
      have hrs := restW_snoc ws k hlt lo hi
      have hss := sumW_snoc ws k hlt lo hi x add
      generalize hS : sumW (ws.take k) lo hi x add = S at *
      by_cases hA : ws[k].1 = lo ∧ ws[k].2.1 = hi
      · have hAt : atEnds lo hi ws[k] = true := by simp [atEnds, hA]
        rw [if_pos hAt] at hrs
        rw [hAt, Bool.true_and] at hss
        have h1 : (ws[k].1 == lo) = true := by simpa using hA.1
        have h2 : (ws[k].2.1 == hi) = true := by simpa using hA.2
        have HS := Lib.hid hrs
        have HSS := Lib.hid hS
        cases add
        · rw [if_neg (by simp)] at hss
          have HT := Lib.hid hss
          clear hrs hss hA hAt hS
          go_wp2
          go_roundw
          case rel => exact ⟨k + 1, os, by omega, by go_num, by omega, Lib.hid (by rw [HS.out, hos.out]), by simp [go_sem, *], by simp [go_sem, *], by rw [HT.out]; simp [go_sem, *], by simp [go_sem, *], owns_later hown (by (repeat (first | exact Below.refl _ _ | (refine Below.setCell ?_ (by (first | exact Nat.le_refl _ | omega | (simp <;> omega) | simp)) _) | (refine Below.alloc ?_ (by (first | exact Nat.le_refl _ | omega | (simp <;> omega) | simp)) _) | (refine below_draws ?_ _)))), hnb, by simp; omega, Lib.hid (by have hB := hB.out; (repeat (first | exact Below.refl _ _ | (refine Below.setCell ?_ (by (first | exact Nat.le_refl _ | omega | (simp <;> omega) | simp)) _) | (refine Below.alloc ?_ (by (first | exact Nat.le_refl _ | omega | (simp <;> omega) | simp)) _) | (refine below_draws ?_ _) | exact hB | (refine Below.trans ?_ (Below.mono hB (by (first | exact Nat.le_refl _ | omega | (simp <;> omega) | simp)))))))⟩
          case measure => simp [intOf]; omega
        · rw [if_pos (by simp)] at hss
          have HT := Lib.hid hss
          clear hrs hss hA hAt hS
          go_wp2
          go_roundw
          case rel => exact ⟨k + 1, os, by omega, by go_num, by omega, Lib.hid (by rw [HS.out, hos.out]), by simp [go_sem, *], by simp [go_sem, *], by rw [HT.out]; simp [go_sem, *], by simp [go_sem, *], owns_later (ownsRow_setCell_other (a := ⟨w.heap.size + 1, 2, none⟩) hown (fun e => hnb.out _ e rfl) _) (by (repeat (first | exact Below.refl _ _ | (refine Below.setCell ?_ (by (first | exact Nat.le_refl _ | omega | (simp <;> omega) | simp)) _) | (refine Below.alloc ?_ (by (first | exact Nat.le_refl _ | omega | (simp <;> omega) | simp)) _) | (refine below_draws ?_ _)))), hnb, by simp; omega, Lib.hid (by have hB := hB.out; (repeat (first | exact Below.refl _ _ | (refine Below.setCell ?_ (by (first | exact Nat.le_refl _ | omega | (simp <;> omega) | simp)) _) | (refine Below.alloc ?_ (by (first | exact Nat.le_refl _ | omega | (simp <;> omega) | simp)) _) | (refine below_draws ?_ _) | exact hB | (refine Below.trans ?_ (Below.mono hB (by (first | exact Nat.le_refl _ | omega | (simp <;> omega) | simp)))))))⟩
          case measure => simp [intOf]; omega
      · have hAt : atEnds lo hi ws[k] = false := by
          unfold atEnds
          rcases no_hit hA with h1 | ⟨h1, h2⟩
          · rw [h1]; rfl
          · rw [h2, Bool.and_false]
        rw [if_neg (by rw [hAt]; simp)] at hrs
        rw [hAt, Bool.false_and, if_neg (by simp)] at hss
        have HS := Lib.hid hrs
        have HT := Lib.hid hss
        have hN := no_hit hA
        have hcn : some (w.heap.size + 1) ≠ (Value.slice pv os.length cv).ownBlock := fun e => hnb.out _ e.symm rfl
        clear hrs hss hA hAt hS
        rcases hN with h1 | ⟨h1, h2⟩
        all_goals
          go_wp2_with (at_builtin; refine append_wire2 _ rfl _ _ rfl w.heap.size w _ os ws[k] rfl (owns_later hown (by (repeat (first | exact Below.refl _ _ | (refine Below.setCell ?_ (by (first | exact Nat.le_refl _ | omega | (simp <;> omega) | simp)) _) | (refine Below.alloc ?_ (by (first | exact Nat.le_refl _ | omega | (simp <;> omega) | simp)) _) | (refine below_draws ?_ _))))) rfl (by simp) (by omega) (by simp; omega) (by have hB := hB.out; (repeat (first | exact Below.refl _ _ | (refine Below.setCell ?_ (by (first | exact Nat.le_refl _ | omega | (simp <;> omega) | simp)) _) | (refine Below.alloc ?_ (by (first | exact Nat.le_refl _ | omega | (simp <;> omega) | simp)) _) | (refine below_draws ?_ _) | exact hB | (refine Below.trans ?_ (Below.mono hB (by (first | exact Nat.le_refl _ | omega | (simp <;> omega) | simp))))))) ?_; intro v' w1 hown1 hsz1 hB1 hG1 hat1)
          simp at hsz1
          refine ⟨⟨k + 1, os ++ [ws[k]], by omega, by go_num, by simp; omega, Lib.hid (by rw [HS.out, hos.out]), hG1.cell ((World.cell?_alloc_old wr _ ⟨w.heap.size + 1, 0, none⟩ hne2).trans b0) hcn, hG1.cell ((World.cell?_alloc_old wr _ ⟨w.heap.size + 1, 1, none⟩ hne2).trans b1) hcn, by rw [HT.out]; exact hG1.cell ((World.cell?_alloc_old wr _ ⟨w.heap.size + 1, 2, none⟩ hne2).trans b2) hcn, (hG1.frozen_far ⟨w.heap.size + 1, 2, none⟩ (by simp; omega) hcn).trans (by simp [go_sem, *]), hown1, Lib.hid (fun j hj => by rcases hat1 j hj with h | h; exact hnb.out j h; simp at h; omega), by omega, Lib.hid hB1⟩, ?_⟩
          simp [intOf]; omega
    · obtain rfl : k = ws.length := by omega
      rw [List.take_length] at hos b2
      have hL := hos.out
      generalize hLd : restW ws lo hi = L at *
      generalize sumW ws lo hi x add = S at *
      subst hL
      clear hos hLd
      have hnb := Lib.hid (reads_at (ReadsW.of_own hown))
      have HR := hnb; clear hnb
      have o1 := Lib.hid (own_empty wr wr.heap.size (Nat.le_refl _))
      clear hown HC
      go_wp2
      go_loopw [11, 13, 61] (fun s11 s13 i wi => ∃ (k : Nat) (ps : List W3) (done : Bool), k ≤ os.length ∧ i = .int .i64 k ∧ ps.length ≤ k + 1 ∧ s13 = .bool done ∧ Hid (InsAt (lo, hi, S) os ps done k) ∧ wi.ownsRow wr.heap.size 29 3 s11 ps.length (cellsW ps) ∧ wr.heap.size < wi.heap.size ∧ Hid (Below wr.heap.size wr wi)) (fun _ _ i _ => os.length - (intOf i).toNat)
      case atStart => exact ⟨0, [], false, Nat.zero_le _, rfl, Nat.zero_le _, rfl, Lib.hid (InsAt.start _ _), o1.out, by simp, Lib.hid (by (repeat (first | exact Below.refl _ _ | (refine Below.setCell ?_ (by (first | exact Nat.le_refl _ | omega | (simp <;> omega) | simp)) _) | (refine Below.alloc ?_ (by (first | exact Nat.le_refl _ | omega | (simp <;> omega) | simp)) _) | (refine below_draws ?_ _))))⟩
      case round =>
        clear o1
        rename World => wi
        obtain ⟨k, ps, done, hk, rfl, hpl, rfl, hI, hown, hszi, hBi⟩ := hrel
        obtain ⟨pu, cu, rfl⟩ := owns_shape hown
        have x0 : wi.cell? ⟨w.heap.size + 1, 0, none⟩ = some (.int .i64 lo) := (hBi.out.cell (p := ⟨w.heap.size + 1, 0, none⟩) hsz).trans b0
        have x1 : wi.cell? ⟨w.heap.size + 1, 1, none⟩ = some (.int .i64 hi) := (hBi.out.cell (p := ⟨w.heap.size + 1, 1, none⟩) hsz).trans b1
        have x2 : wi.cell? ⟨w.heap.size + 1, 2, none⟩ = some (.int .i64 S) := (hBi.out.cell (p := ⟨w.heap.size + 1, 2, none⟩) hsz).trans b2
        clear b0 b1 b2 bf
        by_cases hlt : k < os.length
        · obtain ⟨g0, o, rfl, c0, c1, c2⟩ := HR.out k hlt
          have hg : g0 < wr.heap.size := World.block_lt_of_cell? wr _ c0
          rw [← hBi.out.cell (p := ⟨g0, o + k * 3, none⟩) hg] at c0
          rw [← hBi.out.cell (p := ⟨g0, o + k * 3 + 1, none⟩) hg] at c1
          rw [← hBi.out.cell (p := ⟨g0, o + k * 3 + 2, none⟩) hg] at c2
          have hne : g0 ≠ wi.heap.size := by omega
          have hne2 : w.heap.size + 1 ≠ wi.heap.size := by omega
          have z0 : (wi.alloc (.cells #[.int .i64 os[k].1, .int .i64 os[k].2.1, .int .i64 os[k].2.2] 29)).cell? ⟨w.heap.size + 1, 0, none⟩ = some (.int .i64 lo) := (World.cell?_alloc_old wi _ ⟨w.heap.size + 1, 0, none⟩ hne2).trans x0
          have z1 : (wi.alloc (.cells #[.int .i64 os[k].1, .int .i64 os[k].2.1, .int .i64 os[k].2.2] 29)).cell? ⟨w.heap.size + 1, 1, none⟩ = some (.int .i64 hi) := (World.cell?_alloc_old wi _ ⟨w.heap.size + 1, 1, none⟩ hne2).trans x1
          have z2 : (wi.alloc (.cells #[.int .i64 os[k].1, .int .i64 os[k].2.1, .int .i64 os[k].2.2] 29)).cell? ⟨w.heap.size + 1, 2, none⟩ = some (.int .i64 S) := (World.cell?_alloc_old wi _ ⟨w.heap.size + 1, 2, none⟩ hne2).trans x2
          have hcn : some wi.heap.size ≠ (Value.slice pu ps.length cu).ownBlock := fun e => by have := (hown.lt _ e.symm).2; omega
          cases done
          · by_cases hx : wLt (lo, hi, S) os[k]
            · have HI := Lib.hid (hI.out.now hlt hx)
              rcases lt_cases hx with h1 | ⟨h1, h2, h3⟩
              all_goals
                clear hx hI
                go_wp2_with (first | (at_builtin; refine append_wire2 _ rfl _ _ rfl wr.heap.size wr _ ps (lo, hi, S) rfl (owns_later hown (by (repeat (first | exact Below.refl _ _ | (refine Below.setCell ?_ (by (first | exact Nat.le_refl _ | omega | (simp <;> omega) | simp)) _) | (refine Below.alloc ?_ (by (first | exact Nat.le_refl _ | omega | (simp <;> omega) | simp)) _) | (refine below_draws ?_ _))))) rfl (by simp) (by first | omega | (simp; omega)) (by first | omega | (simp; omega)) (by have hB := hBi.out; (repeat (first | exact Below.refl _ _ | (refine Below.setCell ?_ (by (first | exact Nat.le_refl _ | omega | (simp <;> omega) | simp)) _) | (refine Below.alloc ?_ (by (first | exact Nat.le_refl _ | omega | (simp <;> omega) | simp)) _) | (refine below_draws ?_ _) | exact hB | (refine Below.trans ?_ (Below.mono hB (by (first | exact Nat.le_refl _ | omega | (simp <;> omega) | simp))))))) ?_; intro v1 w1 hown1 hsz1 hB1 hG1 hat1; have y0 : w1.cell? ⟨wi.heap.size, 0, none⟩ = some (.int .i64 os[k].1) := hG1.cell (by simp) hcn; have y1 : w1.cell? ⟨wi.heap.size, 1, none⟩ = some (.int .i64 os[k].2.1) := hG1.cell (by simp) hcn; have y2 : w1.cell? ⟨wi.heap.size, 2, none⟩ = some (.int .i64 os[k].2.2) := hG1.cell (by simp) hcn; simp at hsz1) | (at_builtin; refine append_wire2 _ rfl _ _ rfl wr.heap.size wr _ (ps ++ [(lo, hi, S)]) os[k] rfl (owns_later hown1 (by (repeat (first | exact Below.refl _ _ | (refine Below.setCell ?_ (by (first | exact Nat.le_refl _ | omega | (simp <;> omega) | simp)) _) | (refine Below.alloc ?_ (by (first | exact Nat.le_refl _ | omega | (simp <;> omega) | simp)) _) | (refine below_draws ?_ _))))) rfl (by simp) (by first | omega | (simp; omega)) (by first | omega | (simp; omega)) (by (repeat (first | exact Below.refl _ _ | (refine Below.setCell ?_ (by (first | exact Nat.le_refl _ | omega | (simp <;> omega) | simp)) _) | (refine Below.alloc ?_ (by (first | exact Nat.le_refl _ | omega | (simp <;> omega) | simp)) _) | (refine below_draws ?_ _) | exact hB1 | (refine Below.trans ?_ (Below.mono hB1 (by (first | exact Nat.le_refl _ | omega | (simp <;> omega) | simp))))))) ?_; intro v2 w2 hown2 hsz2 hB2 hG2 hat2))
                refine ⟨⟨k + 1, ps ++ [(lo, hi, S)] ++ [os[k]], true, by omega, by go_num, HI.out.len, rfl, HI, hown2, by omega, Lib.hid hB2⟩, ?_⟩
                simp [intOf]; omega
            · have HI := Lib.hid (hI.out.wait hlt hx)
              rcases no_lt_cases hx with ⟨h1, h2⟩ | ⟨h1, h2, h3⟩
              all_goals
                clear hx hI
                go_wp2_with (at_builtin; refine append_wire2 _ rfl _ _ rfl wr.heap.size wr _ ps os[k] rfl (owns_later hown (by (repeat (first | exact Below.refl _ _ | (refine Below.setCell ?_ (by (first | exact Nat.le_refl _ | omega | (simp <;> omega) | simp)) _) | (refine Below.alloc ?_ (by (first | exact Nat.le_refl _ | omega | (simp <;> omega) | simp)) _) | (refine below_draws ?_ _))))) rfl (by simp) (by first | omega | (simp; omega)) (by first | omega | (simp; omega)) (by have hB := hBi.out; (repeat (first | exact Below.refl _ _ | (refine Below.setCell ?_ (by (first | exact Nat.le_refl _ | omega | (simp <;> omega) | simp)) _) | (refine Below.alloc ?_ (by (first | exact Nat.le_refl _ | omega | (simp <;> omega) | simp)) _) | (refine below_draws ?_ _) | exact hB | (refine Below.trans ?_ (Below.mono hB (by (first | exact Nat.le_refl _ | omega | (simp <;> omega) | simp))))))) ?_; intro v1 w1 hown1 hsz1 hB1 hG1 hat1)
                simp at hsz1
                refine ⟨⟨k + 1, ps ++ [os[k]], false, by omega, by go_num, by simp; omega, rfl, HI, hown1, by omega, Lib.hid hB1⟩, ?_⟩
                simp [intOf]; omega
          · have HI := Lib.hid (hI.out.late hlt)
            clear hI
            go_wp2_with (at_builtin; refine append_wire2 _ rfl _ _ rfl wr.heap.size wr _ ps os[k] rfl (owns_later hown (by (repeat (first | exact Below.refl _ _ | (refine Below.setCell ?_ (by (first | exact Nat.le_refl _ | omega | (simp <;> omega) | simp)) _) | (refine Below.alloc ?_ (by (first | exact Nat.le_refl _ | omega | (simp <;> omega) | simp)) _) | (refine below_draws ?_ _))))) rfl (by simp) (by first | omega | (simp; omega)) (by first | omega | (simp; omega)) (by have hB := hBi.out; (repeat (first | exact Below.refl _ _ | (refine Below.setCell ?_ (by (first | exact Nat.le_refl _ | omega | (simp <;> omega) | simp)) _) | (refine Below.alloc ?_ (by (first | exact Nat.le_refl _ | omega | (simp <;> omega) | simp)) _) | (refine below_draws ?_ _) | exact hB | (refine Below.trans ?_ (Below.mono hB (by (first | exact Nat.le_refl _ | omega | (simp <;> omega) | simp))))))) ?_; intro v1 w1 hown1 hsz1 hB1 hG1 hat1)
            simp at hsz1
            refine ⟨⟨k + 1, ps ++ [os[k]], true, by omega, by go_num, by simp; omega, rfl, HI, hown1, by omega, Lib.hid hB1⟩, ?_⟩
            simp [intOf]; omega
        · obtain rfl : k = os.length := by omega
          cases done
          · have HF : Hid (put3 ws lo hi x add = ps ++ [(lo, hi, S)]) := Lib.hid (HP.out.trans hI.out.end_wait.symm)
            clear hI
            have hne2 : w.heap.size + 1 ≠ wi.heap.size := by omega
            go_wp2_with (at_builtin; refine append_wire2 _ rfl _ _ rfl wr.heap.size wr _ ps (lo, hi, S) rfl (owns_later hown (by (repeat (first | exact Below.refl _ _ | (refine Below.setCell ?_ (by (first | exact Nat.le_refl _ | omega | (simp <;> omega) | simp)) _) | (refine Below.alloc ?_ (by (first | exact Nat.le_refl _ | omega | (simp <;> omega) | simp)) _) | (refine below_draws ?_ _))))) rfl (by simp) (by first | omega | (simp; omega)) (by first | omega | (simp; omega)) (by have hB := hBi.out; (repeat (first | exact Below.refl _ _ | (refine Below.setCell ?_ (by (first | exact Nat.le_refl _ | omega | (simp <;> omega) | simp)) _) | (refine Below.alloc ?_ (by (first | exact Nat.le_refl _ | omega | (simp <;> omega) | simp)) _) | (refine below_draws ?_ _) | exact hB | (refine Below.trans ?_ (Below.mono hB (by (first | exact Nat.le_refl _ | omega | (simp <;> omega) | simp))))))) ?_; intro v1 w1 hown1 hsz1 hB1 hG1 hat1)
            go_ret
            rw [HF.out]
            obtain ⟨p1, c1, rfl⟩ := owns_shape hown1
            exact ⟨p1, c1, rfl, owns_mono hown1 (by omega), by have hB := hB.out; (repeat (first | exact Below.refl _ _ | (refine Below.setCell ?_ (by (first | exact Nat.le_refl _ | omega | (simp <;> omega) | simp)) _) | (refine Below.alloc ?_ (by (first | exact Nat.le_refl _ | omega | (simp <;> omega) | simp)) _) | (refine below_draws ?_ _) | exact hB | (refine Below.trans ?_ (Below.mono hB (by (first | exact Nat.le_refl _ | omega | (simp <;> omega) | simp)))) | exact hB1 | (refine Below.trans ?_ (Below.mono hB1 (by (first | exact Nat.le_refl _ | omega | (simp <;> omega) | simp))))))⟩
          · have HF : Hid (put3 ws lo hi x add = ps) := Lib.hid (HP.out.trans hI.out.end_late.symm)
            clear hI
            go_wp2
            go_ret
            rw [HF.out]
            exact ⟨pu, cu, rfl, owns_mono hown (by omega), by have hB := hB.out; have hBi := hBi.out; (repeat (first | exact Below.refl _ _ | (refine Below.setCell ?_ (by (first | exact Nat.le_refl _ | omega | (simp <;> omega) | simp)) _) | (refine Below.alloc ?_ (by (first | exact Nat.le_refl _ | omega | (simp <;> omega) | simp)) _) | (refine below_draws ?_ _) | exact hB | (refine Below.trans ?_ (Below.mono hB (by (first | exact Nat.le_refl _ | omega | (simp <;> omega) | simp)))) | exact hBi | (refine Below.trans ?_ (Below.mono hBi (by (first | exact Nat.le_refl _ | omega | (simp <;> omega) | simp))))))⟩
end Go.Proofs.Ytaececpphdaciaa

namespace Go.Proofs.Ytaececpphdaciaa
open Go.RowKit

/-- V nodes, wires in order with weights from 1 to X, every node reached. -/
structure GoodW (V : Nat) (X : Int) (ws : List W3) : Prop where
  mem : ∀ e ∈ ws, 0 ≤ e.1 ∧ e.1 < e.2.1 ∧ e.2.1 < V ∧ 1 ≤ e.2.2 ∧ e.2.2 ≤ X
  srt : ws.Pairwise wLt
  con : Conn V ws
theorem GoodW.start (X : Int) : GoodW 1 X [] := ⟨by simp, by simp, fun v h0 h1 S hS _ => by
  have : v = 0 := by omega
  subst this; exact hS⟩
theorem put3_mem (ws : List W3) (lo hi x : Int) (t : W3) : t ∈ put3 ws lo hi x false ↔ t = (lo, hi, x) ∨ (t ∈ ws ∧ ¬ (t.1 = lo ∧ t.2.1 = hi)) := by
  unfold put3; rw [mem_insW, sumW_no, mem_rest]
theorem put3_srt {ws : List W3} (h : ws.Pairwise wLt) (lo hi x : Int) : (put3 ws lo hi x false).Pairwise wLt := by
  unfold put3
  refine sorted_insW _ _ (List.Pairwise.filter _ h) fun e he => ?_
  exact ((mem_rest ws lo hi e).1 he).2
theorem put3_rch {ws : List W3} {lo hi x y : Int} (h : Rch ws y) : Rch (put3 ws lo hi x false) y := fun S hS hc => by
  refine h S hS fun e he => ?_
  by_cases hk : e.1 = lo ∧ e.2.1 = hi
  · rw [hk.1, hk.2]
    exact hc (lo, hi, x) ((put3_mem ws lo hi x _).2 (.inl rfl))
  · exact hc e ((put3_mem ws lo hi x e).2 (.inr ⟨he, hk⟩))
theorem GoodW.grow {V : Nat} {X : Int} {ws : List W3} (h : GoodW V X ws) (u : Nat) (hu : u < V) (x : Int) (h1 : 1 ≤ x) (h2 : x ≤ X) : GoodW (V + 1) X (put3 ws (u : Int) (V : Int) x false) where
  mem e he := by
    rcases (put3_mem _ _ _ _ _).1 he with rfl | ⟨hm, -⟩
    · exact ⟨by omega, by show (u : Int) < V; omega, by show (V : Int) < (V + 1 : Nat); omega, h1, h2⟩
    · have := h.mem e hm; omega
  srt := put3_srt h.srt _ _ _
  con y h0 h1' := by
    by_cases hy : y < V
    · exact put3_rch (h.con y h0 hy)
    · have e : y = V := by omega
      intro S hS hc
      have h3 : S (u : Int) := put3_rch (h.con u (by omega) (by omega)) S hS hc
      have h4 := hc ((u : Int), (V : Int), x) ((put3_mem ws _ _ x _).2 (.inl rfl))
      rw [e]; exact h4.1 h3
theorem GoodW.put {V : Nat} {X : Int} {ws : List W3} (h : GoodW V X ws) (lo hi : Nat) (hlt : lo < hi) (hhi : hi < V) (x : Int) (h1 : 1 ≤ x) (h2 : x ≤ X) : GoodW V X (put3 ws (lo : Int) (hi : Int) x false) where
  mem e he := by
    rcases (put3_mem _ _ _ _ _).1 he with rfl | ⟨hm, -⟩
    · exact ⟨by omega, by show (lo : Int) < hi; omega, by show (hi : Int) < V; omega, h1, h2⟩
    · exact h.mem e hm
  srt := put3_srt h.srt _ _ _
  con y h0 h1' := put3_rch (h.con y h0 h1')
theorem GoodW.wires {V : Nat} {X : Int} {ws : List W3} (h : GoodW V X ws) (hX : X ≤ 200) : WiresV V ws :=
  ⟨fun k hk => by have := h.mem ws[k] (List.getElem_mem hk); exact ⟨this.1, this.2.1, this.2.2.1, this.2.2.2.1, by omega⟩,
    fun k hk => List.pairwise_iff_getElem.1 h.srt k (k + 1) (by omega) hk (by omega)⟩
theorem GoodW.net {V : Nat} {X e s : Int} {ws : List W3} (h : GoodW V X ws) (hX : X ≤ 200) (h1 : 1 ≤ V) (h5 : V ≤ 5) (e1 : 1 ≤ e) (e2 : e ≤ V) (s1 : 1 ≤ s) (s2 : s ≤ 1000) : netB V e s ws = true :=
  netB_true ⟨⟨by omega, by omega, e1, e2, s1, s2⟩, h.wires hX, h.con⟩
theorem put3_length (ws : List W3) (lo hi x : Int) : (put3 ws lo hi x false).length ≤ ws.length + 1 := by
  unfold put3; rw [insW_length]
  have := List.length_filter_le (fun e => !atEnds lo hi e) ws
  unfold restW; omega
end Go.Proofs.Ytaececpphdaciaa
