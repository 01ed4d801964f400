/-
  l03Put in the model: a wire put into a list.
-/
import Derived.Test.YthhnicbkldknlaaPutSpec
import Derived.BigGuardPart
import Derived.OneCell
import Derived.Lib.MinMax
namespace Go.Proofs.Ythhnicbkldknlaa
open Go.RowKit

theorem restW_snoc (ws : List W3) (k : Nat) (h : k < ws.length) (lo hi : Int) : restW (ws.take (k + 1)) lo hi = if atEnds lo hi ws[k] = true then restW (ws.take k) lo hi else restW (ws.take k) lo hi ++ [ws[k]] := by
  unfold restW
  rw [List.take_succ_eq_append_getElem h, List.filter_append]
  cases h0 : atEnds lo hi ws[k] <;> simp [h0]
theorem sumW_snoc (ws : List W3) (k : Nat) (h : k < ws.length) (lo hi x : Int) (add : Bool) : sumW (ws.take (k + 1)) lo hi x add = if (atEnds lo hi ws[k] && add) = true then wrap64 (sumW (ws.take k) lo hi x add + ws[k].2.2) else sumW (ws.take k) lo hi x add := by
  unfold sumW
  rw [List.take_succ_eq_append_getElem h, List.foldl_append]; rfl
theorem ins_none (x : W3) : ∀ L : List W3, (∀ e ∈ L, ¬ wLt x e) → insW x L = L ++ [x]
  | [], _ => rfl
  | e :: r, h => by
    unfold insW
    rw [if_neg (h e (by simp)), ins_none x r (fun t ht => h t (by simp [ht]))]
    rfl
theorem ins_late (x e' : W3) : ∀ L : List W3, (∃ e ∈ L, wLt x e) → insW x (L ++ [e']) = insW x L ++ [e']
  | [], h => by obtain ⟨e, he, _⟩ := h; simp at he
  | e :: r, h => by
    show insW x (e :: (r ++ [e'])) = _
    unfold insW
    by_cases hx : wLt x e
    · rw [if_pos hx, if_pos hx]; rfl
    · rw [if_neg hx, if_neg hx, ins_late x e' r (by
        obtain ⟨t, ht, htx⟩ := h
        rcases List.mem_cons.1 ht with rfl | ht
        · exact absurd htx hx
        · exact ⟨t, ht, htx⟩)]
      rfl
theorem ins_now (x e' : W3) : ∀ L : List W3, (∀ e ∈ L, ¬ wLt x e) → wLt x e' → insW x (L ++ [e']) = L ++ [x] ++ [e']
  | [], _, h => by simp [insW, h]
  | e :: r, hn, h => by
    show insW x (e :: (r ++ [e'])) = _
    unfold insW
    rw [if_neg (hn e (by simp)), ins_now x e' r (fun t ht => hn t (by simp [ht])) h]
    rfl
/-- The second pass: k wires done. -/
def InsAt (x : W3) (L os : List W3) (done : Bool) (k : Nat) : Prop :=
  (done = false ∧ os = L.take k ∧ ∀ e ∈ L.take k, ¬ wLt x e) ∨ (done = true ∧ os = insW x (L.take k) ∧ ∃ e ∈ L.take k, wLt x e)
theorem InsAt.start (x : W3) (L : List W3) : InsAt x L [] false 0 := .inl ⟨rfl, by simp, by simp⟩
theorem InsAt.late {x : W3} {L os : List W3} {k : Nat} (h : InsAt x L os true k) (hk : k < L.length) : InsAt x L (os ++ [L[k]]) true (k + 1) := by
  rcases h with ⟨h, _⟩ | ⟨-, h1, h2⟩
  · cases h
  · have ht := List.take_succ_eq_append_getElem hk
    exact .inr ⟨rfl, by rw [ht, ins_late _ _ _ h2, h1], by obtain ⟨e, he, hx⟩ := h2; exact ⟨e, by rw [ht]; exact List.mem_append_left _ he, hx⟩⟩
theorem InsAt.now {x : W3} {L os : List W3} {k : Nat} (h : InsAt x L os false k) (hk : k < L.length) (hx : wLt x L[k]) : InsAt x L (os ++ [x] ++ [L[k]]) true (k + 1) := by
  rcases h with ⟨-, h1, h2⟩ | ⟨h, _⟩
  · have ht := List.take_succ_eq_append_getElem hk
    exact .inr ⟨rfl, by rw [ht, ins_now _ _ _ h2 hx, h1], L[k], by rw [ht]; exact List.mem_append_right _ (List.mem_singleton.2 rfl), hx⟩
  · cases h
theorem InsAt.wait {x : W3} {L os : List W3} {k : Nat} (h : InsAt x L os false k) (hk : k < L.length) (hx : ¬ wLt x L[k]) : InsAt x L (os ++ [L[k]]) false (k + 1) := by
  rcases h with ⟨-, h1, h2⟩ | ⟨h, _⟩
  · left
    rw [List.take_succ_eq_append_getElem hk]
    refine ⟨rfl, by rw [h1], fun e he => ?_⟩
    rcases List.mem_append.1 he with he | he
    · exact h2 e he
    · rw [List.mem_singleton] at he; subst he; exact hx
  · cases h
theorem InsAt.len {x : W3} {L os : List W3} {done : Bool} {k : Nat} (h : InsAt x L os done k) : os.length ≤ k + 1 := by
  rcases h with ⟨-, h1, -⟩ | ⟨-, h1, -⟩
  · rw [h1]; simp; omega
  · rw [h1, insW_length]; simp; omega
theorem InsAt.end_late {x : W3} {L os : List W3} (h : InsAt x L os true L.length) : os = insW x L := by
  rcases h with ⟨h, _⟩ | ⟨-, h1, -⟩
  · cases h
  · rwa [List.take_length] at h1
theorem InsAt.end_wait {x : W3} {L os : List W3} (h : InsAt x L os false L.length) : os ++ [x] = insW x L := by
  rcases h with ⟨-, h1, h2⟩ | ⟨h, _⟩
  · rw [List.take_length] at h1 h2
    rw [h1, ins_none _ _ h2]
  · cases h

theorem reads_at {w : World} {p : Option Addr} {n c : Nat} {ws : List W3} (h : ReadsW w (.slice p n c) ws) : ∀ k, (h : k < ws.length) → ∃ g o, p = some ⟨g, o, none⟩ ∧ w.cell? ⟨g, o + k * 3, none⟩ = some (.int .i64 ws[k].1) ∧ w.cell? ⟨g, o + k * 3 + 1, none⟩ = some (.int .i64 ws[k].2.1) ∧ w.cell? ⟨g, o + k * 3 + 2, none⟩ = some (.int .i64 ws[k].2.2) := fun k hk => by
  rcases h.2 with ⟨hx, _⟩ | ⟨g, o, cap, hv, hc⟩
  · subst hx; simp at hk
  · simp only [Value.slice.injEq] at hv
    exact ⟨g, o, hv.1, hc k hk⟩
theorem lt_cases {lo hi c : Int} {e : W3} (h : wLt (lo, hi, c) e) : lo < e.1 ∨ (¬ lo < e.1 ∧ (e.1 == lo) = true ∧ hi < e.2.1) := by
  unfold wLt at h
  simp only at h
  rcases h with h | ⟨h1, h2⟩
  · exact .inl h
  · right
    have h1 : e.1 = lo := h1.symm
    refine ⟨by omega, by simpa using h1, h2⟩
theorem no_lt_cases {lo hi c : Int} {e : W3} (h : ¬ wLt (lo, hi, c) e) : (¬ lo < e.1 ∧ (e.1 == lo) = false) ∨ (¬ lo < e.1 ∧ (e.1 == lo) = true ∧ ¬ hi < e.2.1) := by
  unfold wLt at h
  simp only at h
  by_cases h1 : e.1 = lo
  · exact .inr ⟨by omega, by simpa using h1, by omega⟩
  · exact .inl ⟨by omega, by simpa using h1⟩

set_option maxRecDepth 8000 in
set_option maxHeartbeats 12800000 in
theorem spec_put3 (a b lo hi x : Int) (add : Bool) (he : Ends a b lo hi) (v : Value) (ws : List W3) (w : World) (hr : ReadsW w v ws) (hlen : ws.length ≤ 1048576) :
    Calls Try.prog 59 #[v, .int .i64 a, .int .i64 b, .int .i64 x, .bool add] w fun en w' => ∃ p c, en = .returned (.slice p (put3 ws lo hi x add).length c) ∧ w'.ownsRow w.heap.size 35 3 (.slice p (put3 ws lo hi x add).length c) (put3 ws lo hi x add).length (cellsW (put3 ws lo hi x add)) ∧ Below w.heap.size w w' := by
  obtain ⟨p0, cap0, rfl⟩ := hr.shape
  have hm := hr.1
  have HC := Lib.hid (reads_at hr); clear hr
  have o0 := Lib.hid (own_empty w w.heap.size (Nat.le_refl _))
  have HP : Hid (put3 ws lo hi x add = insW (lo, hi, sumW ws lo hi x add) (restW ws lo hi)) := Lib.hid rfl
  have M1 := Lib.hid (ends_min he).1
  have M2 := Lib.hid (ends_min he).2
  clear he
  go_enter Try.func59, Try.ntmps59
  go_wp2
  go_loopw [11, 29] (fun s11 i wr => ∃ (k : Nat) (os : List W3), k ≤ ws.length ∧ i = .int .i64 k ∧ os.length ≤ k ∧ Hid (os = restW (ws.take k) lo hi) ∧ wr.cell? ⟨w.heap.size + 1, 0, none⟩ = some (.int .i64 lo) ∧ wr.cell? ⟨w.heap.size + 1, 1, none⟩ = some (.int .i64 hi) ∧ wr.cell? ⟨w.heap.size + 1, 2, none⟩ = some (.int .i64 (sumW (ws.take k) lo hi x add)) ∧ wr.frozen? ⟨w.heap.size + 1, 2, none⟩ = false ∧ wr.ownsRow w.heap.size 35 3 s11 os.length (cellsW os) ∧ Hid (∀ j, s11.ownBlock = some j → j ≠ w.heap.size + 1) ∧ w.heap.size + 1 < wr.heap.size ∧ Hid (Below w.heap.size w wr)) (fun _ i _ => ws.length - (intOf i).toNat)
  case atStart => exact ⟨0, [], Nat.zero_le _, rfl, Nat.le_refl _, Lib.hid rfl, by simp [M1.out], by simp [M2.out], by simp [sumW], by simp, o0.out.alloc _, Lib.hid (fun j hj => by have : w.heap.size = j := Option.some.inj hj; omega), by simp, Lib.hid (by (repeat (first | exact Below.refl _ _ | (refine Below.setCell ?_ (by (first | exact Nat.le_refl _ | omega | (simp <;> omega) | simp)) _) | (refine Below.alloc ?_ (by (first | exact Nat.le_refl _ | omega | (simp <;> omega) | simp)) _) | (refine below_draws ?_ _))))⟩
  case round =>
    obtain ⟨k, os, hk, rfl, hol, hos, b0, b1, b2, bf, hown, hnb, hsz, hB⟩ := hrel
    obtain ⟨pv, cv, rfl⟩ := owns_shape hown
    by_cases hlt : k < ws.length
    · obtain ⟨g0, o, rfl, c0, c1, c2⟩ := HC.out k hlt
      have hg : g0 < w.heap.size := World.block_lt_of_cell? w _ c0
      rw [← hB.out.cell (p := ⟨g0, o + k * 3, none⟩) hg] at c0
      rw [← hB.out.cell (p := ⟨g0, o + k * 3 + 1, none⟩) hg] at c1
      rw [← hB.out.cell (p := ⟨g0, o + k * 3 + 2, none⟩) hg] at c2
      have hne : g0 ≠ wr.heap.size := by omega
      have hne2 : w.heap.size + 1 ≠ wr.heap.size := by omega
      have hrs := restW_snoc ws k hlt lo hi
      have hss := sumW_snoc ws k hlt lo hi x add
      generalize hS : sumW (ws.take k) lo hi x add = S at *
      by_cases hA : ws[k].1 = lo ∧ ws[k].2.1 = hi
      · have hAt : atEnds lo hi ws[k] = true := by simp [atEnds, hA]
        rw [if_pos hAt] at hrs
        rw [hAt, Bool.true_and] at hss
        have h1 : (ws[k].1 == lo) = true := by simpa using hA.1
        have h2 : (ws[k].2.1 == hi) = true := by simpa using hA.2
        have HS := Lib.hid hrs
        have HSS := Lib.hid hS
        cases add
        · rw [if_neg (by simp)] at hss
          have HT := Lib.hid hss
          clear hrs hss hA hAt hS
          go_wp2
          go_roundw
          case rel => exact ⟨k + 1, os, by omega, by go_num, by omega, Lib.hid (by rw [HS.out, hos.out]), by simp [go_sem, *], by simp [go_sem, *], by rw [HT.out]; simp [go_sem, *], by simp [go_sem, *], owns_later hown (by (repeat (first | exact Below.refl _ _ | (refine Below.setCell ?_ (by (first | exact Nat.le_refl _ | omega | (simp <;> omega) | simp)) _) | (refine Below.alloc ?_ (by (first | exact Nat.le_refl _ | omega | (simp <;> omega) | simp)) _) | (refine below_draws ?_ _)))), hnb, by simp; omega, Lib.hid (by have hB := hB.out; (repeat (first | exact Below.refl _ _ | (refine Below.setCell ?_ (by (first | exact Nat.le_refl _ | omega | (simp <;> omega) | simp)) _) | (refine Below.alloc ?_ (by (first | exact Nat.le_refl _ | omega | (simp <;> omega) | simp)) _) | (refine below_draws ?_ _) | exact hB | (refine Below.trans ?_ (Below.mono hB (by (first | exact Nat.le_refl _ | omega | (simp <;> omega) | simp)))))))⟩
          case measure => simp [intOf]; omega
        · rw [if_pos (by simp)] at hss
          have HT := Lib.hid hss
          clear hrs hss hA hAt hS
          go_wp2
          go_roundw
          case rel => exact ⟨k + 1, os, by omega, by go_num, by omega, Lib.hid (by rw [HS.out, hos.out]), by simp [go_sem, *], by simp [go_sem, *], by rw [HT.out]; simp [go_sem, *], by simp [go_sem, *], owns_later (ownsRow_setCell_other (a := ⟨w.heap.size + 1, 2, none⟩) hown (fun e => hnb.out _ e rfl) _) (by (repeat (first | exact Below.refl _ _ | (refine Below.setCell ?_ (by (first | exact Nat.le_refl _ | omega | (simp <;> omega) | simp)) _) | (refine Below.alloc ?_ (by (first | exact Nat.le_refl _ | omega | (simp <;> omega) | simp)) _) | (refine below_draws ?_ _)))), hnb, by simp; omega, Lib.hid (by have hB := hB.out; (repeat (first | exact Below.refl _ _ | (refine Below.setCell ?_ (by (first | exact Nat.le_refl _ | omega | (simp <;> omega) | simp)) _) | (refine Below.alloc ?_ (by (first | exact Nat.le_refl _ | omega | (simp <;> omega) | simp)) _) | (refine below_draws ?_ _) | exact hB | (refine Below.trans ?_ (Below.mono hB (by (first | exact Nat.le_refl _ | omega | (simp <;> omega) | simp)))))))⟩
          case measure => simp [intOf]; omega
      · have hAt : atEnds lo hi ws[k] = false := by
          unfold atEnds
          rcases no_hit hA with h1 | ⟨h1, h2⟩
          · rw [h1]; rfl
          · rw [h2, Bool.and_false]
        rw [if_neg (by rw [hAt]; simp)] at hrs
        rw [hAt, Bool.false_and, if_neg (by simp)] at hss
        have HS := Lib.hid hrs
        have HT := Lib.hid hss
        have hN := no_hit hA
        have hcn : some (w.heap.size + 1) ≠ (Value.slice pv os.length cv).ownBlock := fun e => hnb.out _ e.symm rfl
        clear hrs hss hA hAt hS
        rcases hN with h1 | ⟨h1, h2⟩
        all_goals
          go_wp2_with (at_builtin; refine append_wire2 _ rfl _ _ rfl w.heap.size w _ os ws[k] rfl (owns_later hown (by (repeat (first | exact Below.refl _ _ | (refine Below.setCell ?_ (by (first | exact Nat.le_refl _ | omega | (simp <;> omega) | simp)) _) | (refine Below.alloc ?_ (by (first | exact Nat.le_refl _ | omega | (simp <;> omega) | simp)) _) | (refine below_draws ?_ _))))) rfl (by simp) (by omega) (by simp; omega) (by have hB := hB.out; (repeat (first | exact Below.refl _ _ | (refine Below.setCell ?_ (by (first | exact Nat.le_refl _ | omega | (simp <;> omega) | simp)) _) | (refine Below.alloc ?_ (by (first | exact Nat.le_refl _ | omega | (simp <;> omega) | simp)) _) | (refine below_draws ?_ _) | exact hB | (refine Below.trans ?_ (Below.mono hB (by (first | exact Nat.le_refl _ | omega | (simp <;> omega) | simp))))))) ?_; intro v' w1 hown1 hsz1 hB1 hG1 hat1)
          simp at hsz1
          refine ⟨⟨k + 1, os ++ [ws[k]], by omega, by go_num, by simp; omega, Lib.hid (by rw [HS.out, hos.out]), hG1.cell ((World.cell?_alloc_old wr _ ⟨w.heap.size + 1, 0, none⟩ hne2).trans b0) hcn, hG1.cell ((World.cell?_alloc_old wr _ ⟨w.heap.size + 1, 1, none⟩ hne2).trans b1) hcn, by rw [HT.out]; exact hG1.cell ((World.cell?_alloc_old wr _ ⟨w.heap.size + 1, 2, none⟩ hne2).trans b2) hcn, (hG1.frozen_far ⟨w.heap.size + 1, 2, none⟩ (by simp; omega) hcn).trans (by simp [go_sem, *]), hown1, Lib.hid (fun j hj => by rcases hat1 j hj with h | h; exact hnb.out j h; simp at h; omega), by omega, Lib.hid hB1⟩, ?_⟩
          simp [intOf]; omega
    · obtain rfl : k = ws.length := by omega
      rw [List.take_length] at hos b2
      have hL := hos.out
      generalize hLd : restW ws lo hi = L at *
      generalize sumW ws lo hi x add = S at *
      subst hL
      clear hos hLd
      have hnb := Lib.hid (reads_at (ReadsW.of_own hown))
      have HR := hnb; clear hnb
      have o1 := Lib.hid (own_empty wr wr.heap.size (Nat.le_refl _))
      clear hown HC
      go_wp2
      go_loopw [11, 13, 61] (fun s11 s13 i wi => ∃ (k : Nat) (ps : List W3) (done : Bool), k ≤ os.length ∧ i = .int .i64 k ∧ ps.length ≤ k + 1 ∧ s13 = .bool done ∧ Hid (InsAt (lo, hi, S) os ps done k) ∧ wi.ownsRow wr.heap.size 35 3 s11 ps.length (cellsW ps) ∧ wr.heap.size < wi.heap.size ∧ Hid (Below wr.heap.size wr wi)) (fun _ _ i _ => os.length - (intOf i).toNat)
      case atStart => exact ⟨0, [], false, Nat.zero_le _, rfl, Nat.zero_le _, rfl, Lib.hid (InsAt.start _ _), o1.out, by simp, Lib.hid (by (repeat (first | exact Below.refl _ _ | (refine Below.setCell ?_ (by (first | exact Nat.le_refl _ | omega | (simp <;> omega) | simp)) _) | (refine Below.alloc ?_ (by (first | exact Nat.le_refl _ | omega | (simp <;> omega) | simp)) _) | (refine below_draws ?_ _))))⟩
      case round =>
        clear o1
        rename World => wi
        obtain ⟨k, ps, done, hk, rfl, hpl, rfl, hI, hown, hszi, hBi⟩ := hrel
        obtain ⟨pu, cu, rfl⟩ := owns_shape hown
        have x0 : wi.cell? ⟨w.heap.size + 1, 0, none⟩ = some (.int .i64 lo) := (hBi.out.cell (p := ⟨w.heap.size + 1, 0, none⟩) hsz).trans b0
        have x1 : wi.cell? ⟨w.heap.size + 1, 1, none⟩ = some (.int .i64 hi) := (hBi.out.cell (p := ⟨w.heap.size + 1, 1, none⟩) hsz).trans b1
        have x2 : wi.cell? ⟨w.heap.size + 1, 2, none⟩ = some (.int .i64 S) := (hBi.out.cell (p := ⟨w.heap.size + 1, 2, none⟩) hsz).trans b2
        clear b0 b1 b2 bf
        by_cases hlt : k < os.length
        · obtain ⟨g0, o, rfl, c0, c1, c2⟩ := HR.out k hlt
          have hg : g0 < wr.heap.size := World.block_lt_of_cell? wr _ c0
          rw [← hBi.out.cell (p := ⟨g0, o + k * 3, none⟩) hg] at c0
          rw [← hBi.out.cell (p := ⟨g0, o + k * 3 + 1, none⟩) hg] at c1
          rw [← hBi.out.cell (p := ⟨g0, o + k * 3 + 2, none⟩) hg] at c2
          have hne : g0 ≠ wi.heap.size := by omega
          have hne2 : w.heap.size + 1 ≠ wi.heap.size := by omega
          have z0 : (wi.alloc (.cells #[.int .i64 os[k].1, .int .i64 os[k].2.1, .int .i64 os[k].2.2] 35)).cell? ⟨w.heap.size + 1, 0, none⟩ = some (.int .i64 lo) := (World.cell?_alloc_old wi _ ⟨w.heap.size + 1, 0, none⟩ hne2).trans x0
          have z1 : (wi.alloc (.cells #[.int .i64 os[k].1, .int .i64 os[k].2.1, .int .i64 os[k].2.2] 35)).cell? ⟨w.heap.size + 1, 1, none⟩ = some (.int .i64 hi) := (World.cell?_alloc_old wi _ ⟨w.heap.size + 1, 1, none⟩ hne2).trans x1
          have z2 : (wi.alloc (.cells #[.int .i64 os[k].1, .int .i64 os[k].2.1, .int .i64 os[k].2.2] 35)).cell? ⟨w.heap.size + 1, 2, none⟩ = some (.int .i64 S) := (World.cell?_alloc_old wi _ ⟨w.heap.size + 1, 2, none⟩ hne2).trans x2
          have hcn : some wi.heap.size ≠ (Value.slice pu ps.length cu).ownBlock := fun e => by have := (hown.lt _ e.symm).2; omega
          cases done
          · by_cases hx : wLt (lo, hi, S) os[k]
            · have HI := Lib.hid (hI.out.now hlt hx)
              rcases lt_cases hx with h1 | ⟨h1, h2, h3⟩
              all_goals
                clear hx hI
                go_wp2_with (first | (at_builtin; refine append_wire2 _ rfl _ _ rfl wr.heap.size wr _ ps (lo, hi, S) rfl (owns_later hown (by (repeat (first | exact Below.refl _ _ | (refine Below.setCell ?_ (by (first | exact Nat.le_refl _ | omega | (simp <;> omega) | simp)) _) | (refine Below.alloc ?_ (by (first | exact Nat.le_refl _ | omega | (simp <;> omega) | simp)) _) | (refine below_draws ?_ _))))) rfl (by simp) (by first | omega | (simp; omega)) (by first | omega | (simp; omega)) (by have hB := hBi.out; (repeat (first | exact Below.refl _ _ | (refine Below.setCell ?_ (by (first | exact Nat.le_refl _ | omega | (simp <;> omega) | simp)) _) | (refine Below.alloc ?_ (by (first | exact Nat.le_refl _ | omega | (simp <;> omega) | simp)) _) | (refine below_draws ?_ _) | exact hB | (refine Below.trans ?_ (Below.mono hB (by (first | exact Nat.le_refl _ | omega | (simp <;> omega) | simp))))))) ?_; intro v1 w1 hown1 hsz1 hB1 hG1 hat1; have y0 : w1.cell? ⟨wi.heap.size, 0, none⟩ = some (.int .i64 os[k].1) := hG1.cell (by simp) hcn; have y1 : w1.cell? ⟨wi.heap.size, 1, none⟩ = some (.int .i64 os[k].2.1) := hG1.cell (by simp) hcn; have y2 : w1.cell? ⟨wi.heap.size, 2, none⟩ = some (.int .i64 os[k].2.2) := hG1.cell (by simp) hcn; simp at hsz1) | (at_builtin; refine append_wire2 _ rfl _ _ rfl wr.heap.size wr _ (ps ++ [(lo, hi, S)]) os[k] rfl (owns_later hown1 (by (repeat (first | exact Below.refl _ _ | (refine Below.setCell ?_ (by (first | exact Nat.le_refl _ | omega | (simp <;> omega) | simp)) _) | (refine Below.alloc ?_ (by (first | exact Nat.le_refl _ | omega | (simp <;> omega) | simp)) _) | (refine below_draws ?_ _))))) rfl (by simp) (by first | omega | (simp; omega)) (by first | omega | (simp; omega)) (by (repeat (first | exact Below.refl _ _ | (refine Below.setCell ?_ (by (first | exact Nat.le_refl _ | omega | (simp <;> omega) | simp)) _) | (refine Below.alloc ?_ (by (first | exact Nat.le_refl _ | omega | (simp <;> omega) | simp)) _) | (refine below_draws ?_ _) | exact hB1 | (refine Below.trans ?_ (Below.mono hB1 (by (first | exact Nat.le_refl _ | omega | (simp <;> omega) | simp))))))) ?_; intro v2 w2 hown2 hsz2 hB2 hG2 hat2))
                refine ⟨⟨k + 1, ps ++ [(lo, hi, S)] ++ [os[k]], true, by omega, by go_num, HI.out.len, rfl, HI, hown2, by omega, Lib.hid hB2⟩, ?_⟩
                simp [intOf]; omega
            · have HI := Lib.hid (hI.out.wait hlt hx)
              rcases no_lt_cases hx with ⟨h1, h2⟩ | ⟨h1, h2, h3⟩
              all_goals
                clear hx hI
                go_wp2_with (at_builtin; refine append_wire2 _ rfl _ _ rfl wr.heap.size wr _ ps os[k] rfl (owns_later hown (by (repeat (first | exact Below.refl _ _ | (refine Below.setCell ?_ (by (first | exact Nat.le_refl _ | omega | (simp <;> omega) | simp)) _) | (refine Below.alloc ?_ (by (first | exact Nat.le_refl _ | omega | (simp <;> omega) | simp)) _) | (refine below_draws ?_ _))))) rfl (by simp) (by first | omega | (simp; omega)) (by first | omega | (simp; omega)) (by have hB := hBi.out; (repeat (first | exact Below.refl _ _ | (refine Below.setCell ?_ (by (first | exact Nat.le_refl _ | omega | (simp <;> omega) | simp)) _) | (refine Below.alloc ?_ (by (first | exact Nat.le_refl _ | omega | (simp <;> omega) | simp)) _) | (refine below_draws ?_ _) | exact hB | (refine Below.trans ?_ (Below.mono hB (by (first | exact Nat.le_refl _ | omega | (simp <;> omega) | simp))))))) ?_; intro v1 w1 hown1 hsz1 hB1 hG1 hat1)
                simp at hsz1
                refine ⟨⟨k + 1, ps ++ [os[k]], false, by omega, by go_num, by simp; omega, rfl, HI, hown1, by omega, Lib.hid hB1⟩, ?_⟩
                simp [intOf]; omega
          · have HI := Lib.hid (hI.out.late hlt)
            clear hI
            go_wp2_with (at_builtin; refine append_wire2 _ rfl _ _ rfl wr.heap.size wr _ ps os[k] rfl (owns_later hown (by (repeat (first | exact Below.refl _ _ | (refine Below.setCell ?_ (by (first | exact Nat.le_refl _ | omega | (simp <;> omega) | simp)) _) | (refine Below.alloc ?_ (by (first | exact Nat.le_refl _ | omega | (simp <;> omega) | simp)) _) | (refine below_draws ?_ _))))) rfl (by simp) (by first | omega | (simp; omega)) (by first | omega | (simp; omega)) (by have hB := hBi.out; (repeat (first | exact Below.refl _ _ | (refine Below.setCell ?_ (by (first | exact Nat.le_refl _ | omega | (simp <;> omega) | simp)) _) | (refine Below.alloc ?_ (by (first | exact Nat.le_refl _ | omega | (simp <;> omega) | simp)) _) | (refine below_draws ?_ _) | exact hB | (refine Below.trans ?_ (Below.mono hB (by (first | exact Nat.le_refl _ | omega | (simp <;> omega) | simp))))))) ?_; intro v1 w1 hown1 hsz1 hB1 hG1 hat1)
            simp at hsz1
            refine ⟨⟨k + 1, ps ++ [os[k]], true, by omega, by go_num, by simp; omega, rfl, HI, hown1, by omega, Lib.hid hB1⟩, ?_⟩
            simp [intOf]; omega
        · obtain rfl : k = os.length := by omega
          cases done
          · have HF : Hid (put3 ws lo hi x add = ps ++ [(lo, hi, S)]) := Lib.hid (HP.out.trans hI.out.end_wait.symm)
            clear hI
            have hne2 : w.heap.size + 1 ≠ wi.heap.size := by omega
            go_wp2_with (at_builtin; refine append_wire2 _ rfl _ _ rfl wr.heap.size wr _ ps (lo, hi, S) rfl (owns_later hown (by (repeat (first | exact Below.refl _ _ | (refine Below.setCell ?_ (by (first | exact Nat.le_refl _ | omega | (simp <;> omega) | simp)) _) | (refine Below.alloc ?_ (by (first | exact Nat.le_refl _ | omega | (simp <;> omega) | simp)) _) | (refine below_draws ?_ _))))) rfl (by simp) (by first | omega | (simp; omega)) (by first | omega | (simp; omega)) (by have hB := hBi.out; (repeat (first | exact Below.refl _ _ | (refine Below.setCell ?_ (by (first | exact Nat.le_refl _ | omega | (simp <;> omega) | simp)) _) | (refine Below.alloc ?_ (by (first | exact Nat.le_refl _ | omega | (simp <;> omega) | simp)) _) | (refine below_draws ?_ _) | exact hB | (refine Below.trans ?_ (Below.mono hB (by (first | exact Nat.le_refl _ | omega | (simp <;> omega) | simp))))))) ?_; intro v1 w1 hown1 hsz1 hB1 hG1 hat1)
            go_ret
            rw [HF.out]
            obtain ⟨p1, c1, rfl⟩ := owns_shape hown1
            exact ⟨p1, c1, rfl, owns_mono hown1 (by omega), by have hB := hB.out; (repeat (first | exact Below.refl _ _ | (refine Below.setCell ?_ (by (first | exact Nat.le_refl _ | omega | (simp <;> omega) | simp)) _) | (refine Below.alloc ?_ (by (first | exact Nat.le_refl _ | omega | (simp <;> omega) | simp)) _) | (refine below_draws ?_ _) | exact hB | (refine Below.trans ?_ (Below.mono hB (by (first | exact Nat.le_refl _ | omega | (simp <;> omega) | simp)))) | exact hB1 | (refine Below.trans ?_ (Below.mono hB1 (by (first | exact Nat.le_refl _ | omega | (simp <;> omega) | simp))))))⟩
          · have HF : Hid (put3 ws lo hi x add = ps) := Lib.hid (HP.out.trans hI.out.end_late.symm)
            clear hI
            go_wp2
            go_ret
            rw [HF.out]
            exact ⟨pu, cu, rfl, owns_mono hown (by omega), by have hB := hB.out; have hBi := hBi.out; (repeat (first | exact Below.refl _ _ | (refine Below.setCell ?_ (by (first | exact Nat.le_refl _ | omega | (simp <;> omega) | simp)) _) | (refine Below.alloc ?_ (by (first | exact Nat.le_refl _ | omega | (simp <;> omega) | simp)) _) | (refine below_draws ?_ _) | exact hB | (refine Below.trans ?_ (Below.mono hB (by (first | exact Nat.le_refl _ | omega | (simp <;> omega) | simp)))) | exact hBi | (refine Below.trans ?_ (Below.mono hBi (by (first | exact Nat.le_refl _ | omega | (simp <;> omega) | simp))))))⟩
end Go.Proofs.Ythhnicbkldknlaa
