/-
  PowerOf in the program: the sum of the branches' powers.
-/
import Derived.Test.YtbeddnegmggleaaBranches
namespace Go.Proofs.Ytbeddnegmggleaa
open Go.RowKit

theorem sum_in' (n d m e : Int) : In (rSum n d m e).1 ∧ In (rSum n d m e).2 := by
  unfold rSum
  split
  · exact rOf_in _ _
  · exact ⟨⟨by decide, by decide⟩, ⟨by decide, by decide⟩⟩
theorem times_in' (n d m e : Int) : In (rTimes n d m e).1 ∧ In (rTimes n d m e).2 := times_in (Prod.eta _).symm
theorem powK_in (s : Int) (q : List P2) (ws : List W3) : ∀ k, k ≤ ws.length → In (powK s q ws k).1 ∧ In (powK s q ws k).2
  | 0, _ => by rw [powK_zero]; exact ⟨⟨by decide, by decide⟩, ⟨by decide, by decide⟩⟩
  | k + 1, h => by rw [powK_succ s q ws k (by omega)]; exact sum_in' _ _ _ _
theorem cellsR_get (gp op : Nat) (s : Int) : ∀ (ws : List W3) (k : Nat) (h : k < ws.length), (cellsR gp op s ws)[k * 4]? = some (.pointer (some ⟨gp, op + ws[k].1.toNat * 2, none⟩)) ∧ (cellsR gp op s ws)[k * 4 + 1]? = some (.pointer (some ⟨gp, op + ws[k].2.1.toNat * 2, none⟩)) ∧ (cellsR gp op s ws)[k * 4 + 2]? = some (.int .i64 (rOfN ws[k].2.2 s)) ∧ (cellsR gp op s ws)[k * 4 + 3]? = some (.int .i64 (rOfD ws[k].2.2 s))
  | [], k, h => absurd h (by simp)
  | x :: r, 0, _ => by simp [cellsR, cells4]
  | x :: r, k + 1, h => by
    have ih := cellsR_get gp op s r k (by simpa using h)
    have e : cellsR gp op s (x :: r) = cells4 gp op s x ++ cellsR gp op s r := by simp [cellsR]
    have e4 : (cells4 gp op s x).length = 4 := rfl
    have a0 : (k + 1) * 4 - 4 = k * 4 := by omega
    have a1 : (k + 1) * 4 + 1 - 4 = k * 4 + 1 := by omega
    have a2 : (k + 1) * 4 + 2 - 4 = k * 4 + 2 := by omega
    have a3 : (k + 1) * 4 + 3 - 4 = k * 4 + 3 := by omega
    refine ⟨?_, ?_, ?_, ?_⟩
    · rw [e, List.getElem?_append_right (by omega), e4, a0]; exact ih.1
    · rw [e, List.getElem?_append_right (by omega), e4, a1]; exact ih.2.1
    · rw [e, List.getElem?_append_right (by omega), e4, a2]; exact ih.2.2.1
    · rw [e, List.getElem?_append_right (by omega), e4, a3]; exact ih.2.2.2
theorem branches_at {w : World} {base : Nat} {v : Value} {gp op : Nat} {s : Int} {ws : List W3} (h : w.ownsRow base 94 4 v ws.length (cellsR gp op s ws)) : ∃ pv cv, v = .slice pv ws.length cv ∧ ∀ k, (hk : k < ws.length) → ∃ g, pv = some ⟨g, 0, none⟩ ∧ base ≤ g ∧ g < w.heap.size ∧ w.cell? ⟨g, k * 4, none⟩ = some (.pointer (some ⟨gp, op + ws[k].1.toNat * 2, none⟩)) ∧ w.cell? ⟨g, k * 4 + 1, none⟩ = some (.pointer (some ⟨gp, op + ws[k].2.1.toNat * 2, none⟩)) ∧ w.cell? ⟨g, k * 4 + 2, none⟩ = some (.int .i64 (rOfN ws[k].2.2 s)) ∧ w.cell? ⟨g, k * 4 + 3, none⟩ = some (.int .i64 (rOfD ws[k].2.2 s)) := by
  have hh := h
  obtain ⟨hl, h2⟩ := h
  rcases h2 with ⟨rfl, hn⟩ | ⟨g, cap, cur, rfl, hb, hg, hnc, hcm, hcs, ht⟩
  · exact ⟨none, 0, by rw [hn], fun k hk => by omega⟩
  · refine ⟨_, cap, rfl, fun k hk => ⟨g, rfl, hb, (hh.lt g rfl).2, ?_⟩⟩
    obtain ⟨a, b, c, d⟩ := cellsR_get gp op s ws k hk
    exact ⟨by rw [hh.cellAt (k * 4) (by omega), a], by rw [hh.cellAt (k * 4 + 1) (by omega), b], by rw [hh.cellAt (k * 4 + 2) (by omega), c], by rw [hh.cellAt (k * 4 + 3) (by omega), d]⟩
theorem power_at {q : List P2} {gp op N : Nat} {w : World} {s : Int} (hql : q.length = N) (hqc : gp < w.heap.size ∧ ∀ k, (h : k < q.length) → w.cell? ⟨gp, op + k * 2, none⟩ = some (.int .i64 q[k].1) ∧ w.cell? ⟨gp, op + k * 2 + 1, none⟩ = some (.int .i64 q[k].2)) (hwf : WfP q) (e : W3) (h1 : 0 ≤ e.1 ∧ e.1 < N) (h2 : 0 ≤ e.2.1 ∧ e.2.1 < N) (W : World) (hB : Below w.heap.size w W) :
    Calls Try.prog 72 #[.agg #[.pointer (some ⟨gp, op + e.1.toNat * 2, none⟩), .pointer (some ⟨gp, op + e.2.1.toNat * 2, none⟩), .int .i64 (rOfN e.2.2 s), .int .i64 (rOfD e.2.2 s)]] W fun en w' => en = .returned (.agg #[.int .i64 (pwE s q e).1, .int .i64 (pwE s q e).2]) ∧ Below W.heap.size W w' := by
  have l1 : e.1.toNat < q.length := by omega
  have l2 : e.2.1.toNat < q.length := by omega
  have e1 : getP q e.1 = q[e.1.toNat] := by simp [getP, l1]
  have e2 : getP q e.2.1 = q[e.2.1.toNat] := by simp [getP, l2]
  obtain ⟨a0, a1⟩ := hqc.2 _ l1
  obtain ⟨b0, b1⟩ := hqc.2 _ l2
  rw [← e1] at a0 a1
  rw [← e2] at b0 b1
  have i1 := hwf _ l1
  have i2 := hwf _ l2
  rw [← e1] at i1
  rw [← e2] at i2
  exact impl_power gp _ _ _ _ _ _ _ _ W ((hB.cell (p := ⟨gp, _, none⟩) hqc.1).trans a0) ((hB.cell (p := ⟨gp, _, none⟩) hqc.1).trans a1) ((hB.cell (p := ⟨gp, _, none⟩) hqc.1).trans b0) ((hB.cell (p := ⟨gp, _, none⟩) hqc.1).trans b1) i1 i2 (rOf_in _ _)
theorem sum_at {s : Int} {q : List P2} {ws : List W3} {k : Nat} (h : k < ws.length) (W : World) : Calls Try.prog 18 #[.agg #[.int .i64 (powK s q ws k).1, .int .i64 (powK s q ws k).2], .agg #[.int .i64 (pwE s q ws[k]).1, .int .i64 (pwE s q ws[k]).2]] W fun en w' => en = .returned (.agg #[.int .i64 (powK s q ws (k + 1)).1, .int .i64 (powK s q ws (k + 1)).2]) ∧ Below W.heap.size W w' :=
  c_sum (powK_succ s q ws k h).symm (powK_in s q ws k (by omega)) (times_in' _ _ _ _) W
theorem set2 {W : World} {S : Nat} {a b c d : Int} (h0 : W.cell? ⟨S, 0, none⟩ = some (.int .i64 c)) (h1 : W.cell? ⟨S, 1, none⟩ = some (.int .i64 d)) (hf : ∀ o, W.frozen? ⟨S, o, none⟩ = false) :
    ((W.setCell ⟨S, 0, none⟩ (.int .i64 a)).setCell ⟨S, 1, none⟩ (.int .i64 b)).cell? ⟨S, 0, none⟩ = some (.int .i64 a) ∧ ((W.setCell ⟨S, 0, none⟩ (.int .i64 a)).setCell ⟨S, 1, none⟩ (.int .i64 b)).cell? ⟨S, 1, none⟩ = some (.int .i64 b) ∧ (∀ o, ((W.setCell ⟨S, 0, none⟩ (.int .i64 a)).setCell ⟨S, 1, none⟩ (.int .i64 b)).frozen? ⟨S, o, none⟩ = false) ∧ (∀ x o, x ≠ S → ((W.setCell ⟨S, 0, none⟩ (.int .i64 a)).setCell ⟨S, 1, none⟩ (.int .i64 b)).cell? ⟨x, o, none⟩ = W.cell? ⟨x, o, none⟩) ∧ ((W.setCell ⟨S, 0, none⟩ (.int .i64 a)).setCell ⟨S, 1, none⟩ (.int .i64 b)).heap.size = W.heap.size := by
  refine ⟨by simp [go_sem, h0], by simp [go_sem, h1], fun o => by simp [go_sem, hf], fun x o hx => ?_, by simp [World.setCell]⟩
  rw [World.cell?_setCell_other _ _ _ _ (fun e => hx (by injection e with e1; exact e1.symm)), World.cell?_setCell_other _ _ _ _ (fun e => hx (by injection e with e1; exact e1.symm))]
theorem c_rOf01 (w : World) : Calls Try.prog 19 #[.int .i64 0, .int .i64 1] w fun e w' => e = .returned (.agg #[.int .i64 0, .int .i64 1]) ∧ Below w.heap.size w w' := by
  have h := impl_rOf 0 1 w (by omega) (by omega) (by omega) (by omega)
  rw [show rOfN 0 1 = 0 by decide, show rOfD 0 1 = 1 by decide] at h
  exact h
set_option maxRecDepth 8000 in
set_option maxHeartbeats 12800000 in
theorem impl_powOf_no1 (n e s : Int) (v pv : Value) (ws : List W3) (w : World) (hr : ReadsW w v ws) (hb : netB n e s ws = false) :
    Calls Try.prog 17 #[.agg #[.int .i64 n, .int .i64 e, .int .i64 s, v], pv] w fun en w' => en = .returned (.tuple #[.agg #[.int .i64 0, .int .i64 0], .bool false]) ∧ Below w.heap.size w w' := by
  have hok := impl_netOk n e s v ws _ (hr.later (show Below w.heap.size w ((w.alloc (.cells #[.int .i64 n, .int .i64 e, .int .i64 s, v] 25)).alloc (.cells #[.int .i64 0, .int .i64 0] 31)) by (repeat (first | exact Below.refl _ _ | (refine Below.setCell ?_ (by (first | exact Nat.le_refl _ | omega | (simp <;> omega) | simp)) _) | (refine Below.alloc ?_ (by (first | exact Nat.le_refl _ | omega | (simp <;> omega) | simp)) _) | (refine below_draws ?_ _)))))
  rw [hb] at hok
  obtain ⟨p, cap, rfl⟩ := hr.shape
  clear hr hb
  go_enter Try.func17, Try.ntmps17
  go_wp2_with fail
  refine hok.mono ?_
  rintro en w1 ⟨rfl, B1⟩
  obtain ⟨hc1, hf1⟩ := bcell B1
  have S1 := B1.size
  try simp at S1
  try (have _L1w : w.heap.size < w1.heap.size := by omega)
  have _M1w : w.heap.size ≤ w1.heap.size := by omega
  try (have _P1w_1 : w.heap.size + 1 < w1.heap.size := by omega)
  try (have _P1w_2 : w.heap.size + 1 + 1 < w1.heap.size := by omega)
  try (have _P1w_3 : w.heap.size + 1 + 1 + 1 < w1.heap.size := by omega)
  go_wp2
  exact bodyPost_ret (v := (.tuple #[.agg #[.int .i64 0, .int .i64 0], .bool false])) (by simp (maxDischargeDepth := 8) [results, Try.results17, go_sem, *]) rfl ⟨rfl, by (repeat (first | exact Below.refl _ _ | (refine Below.setCell ?_ (by (first | exact Nat.le_refl _ | omega | (simp <;> omega) | simp)) _) | (refine Below.alloc ?_ (by (first | exact Nat.le_refl _ | omega | (simp <;> omega) | simp)) _) | (refine below_draws ?_ _) | exact B1 | (refine Below.trans ?_ (Below.mono B1 (by (first | exact Nat.le_refl _ | omega | (simp <;> omega) | simp))))))⟩
set_option maxRecDepth 8000 in
set_option maxHeartbeats 12800000 in
theorem impl_powOf_no2 (n e s : Int) (v : Value) (pp : Option Addr) (m cp : Nat) (ws : List W3) (w : World) (hr : ReadsW w v ws) (hb : netB n e s ws = true) (hm : ¬ (m : Int) = n) :
    Calls Try.prog 17 #[.agg #[.int .i64 n, .int .i64 e, .int .i64 s, v], .slice pp m cp] w fun en w' => en = .returned (.tuple #[.agg #[.int .i64 0, .int .i64 0], .bool false]) ∧ Below w.heap.size w w' := by
  have hok := impl_netOk n e s v ws _ (hr.later (show Below w.heap.size w ((w.alloc (.cells #[.int .i64 n, .int .i64 e, .int .i64 s, v] 25)).alloc (.cells #[.int .i64 0, .int .i64 0] 31)) by (repeat (first | exact Below.refl _ _ | (refine Below.setCell ?_ (by (first | exact Nat.le_refl _ | omega | (simp <;> omega) | simp)) _) | (refine Below.alloc ?_ (by (first | exact Nat.le_refl _ | omega | (simp <;> omega) | simp)) _) | (refine below_draws ?_ _)))))
  rw [hb] at hok
  obtain ⟨p, cap, rfl⟩ := hr.shape
  clear hr hb
  go_enter Try.func17, Try.ntmps17
  go_wp2_with fail
  refine hok.mono ?_
  rintro en w1 ⟨rfl, B1⟩
  obtain ⟨hc1, hf1⟩ := bcell B1
  have S1 := B1.size
  try simp at S1
  try (have _L1w : w.heap.size < w1.heap.size := by omega)
  have _M1w : w.heap.size ≤ w1.heap.size := by omega
  try (have _P1w_1 : w.heap.size + 1 < w1.heap.size := by omega)
  try (have _P1w_2 : w.heap.size + 1 + 1 < w1.heap.size := by omega)
  try (have _P1w_3 : w.heap.size + 1 + 1 + 1 < w1.heap.size := by omega)
  have _ : w1.cell? ⟨w.heap.size, 0, none⟩ = some (.int .i64 n) := by rw [hc1 (w.heap.size) 0 (by first | omega | (simp; done) | (simp; omega))]; first | assumption | (simp; done) | simp [go_sem, *]
  have _ : w1.frozen? ⟨w.heap.size, 0, none⟩ = false := by rw [hf1 (w.heap.size) 0 (by first | omega | (simp; done) | (simp; omega))]; first | assumption | (simp; done) | simp [go_sem, *]
  have _ : w1.cell? ⟨w.heap.size, 1, none⟩ = some (.int .i64 e) := by rw [hc1 (w.heap.size) 1 (by first | omega | (simp; done) | (simp; omega))]; first | assumption | (simp; done) | simp [go_sem, *]
  have _ : w1.frozen? ⟨w.heap.size, 1, none⟩ = false := by rw [hf1 (w.heap.size) 1 (by first | omega | (simp; done) | (simp; omega))]; first | assumption | (simp; done) | simp [go_sem, *]
  have _ : w1.cell? ⟨w.heap.size, 2, none⟩ = some (.int .i64 s) := by rw [hc1 (w.heap.size) 2 (by first | omega | (simp; done) | (simp; omega))]; first | assumption | (simp; done) | simp [go_sem, *]
  have _ : w1.frozen? ⟨w.heap.size, 2, none⟩ = false := by rw [hf1 (w.heap.size) 2 (by first | omega | (simp; done) | (simp; omega))]; first | assumption | (simp; done) | simp [go_sem, *]
  have _ : w1.cell? ⟨w.heap.size, 3, none⟩ = some (.slice p ws.length cap) := by rw [hc1 (w.heap.size) 3 (by first | omega | (simp; done) | (simp; omega))]; first | assumption | (simp; done) | simp [go_sem, *]
  have _ : w1.frozen? ⟨w.heap.size, 3, none⟩ = false := by rw [hf1 (w.heap.size) 3 (by first | omega | (simp; done) | (simp; omega))]; first | assumption | (simp; done) | simp [go_sem, *]
  have _ : w1.cell? ⟨w.heap.size + 1, 0, none⟩ = some (.int .i64 0) := by rw [hc1 (w.heap.size + 1) 0 (by first | omega | (simp; done) | (simp; omega))]; first | assumption | (simp; done) | simp [go_sem, *]
  have _ : w1.frozen? ⟨w.heap.size + 1, 0, none⟩ = false := by rw [hf1 (w.heap.size + 1) 0 (by first | omega | (simp; done) | (simp; omega))]; first | assumption | (simp; done) | simp [go_sem, *]
  have _ : w1.cell? ⟨w.heap.size + 1, 1, none⟩ = some (.int .i64 0) := by rw [hc1 (w.heap.size + 1) 1 (by first | omega | (simp; done) | (simp; omega))]; first | assumption | (simp; done) | simp [go_sem, *]
  have _ : w1.frozen? ⟨w.heap.size + 1, 1, none⟩ = false := by rw [hf1 (w.heap.size + 1) 1 (by first | omega | (simp; done) | (simp; omega))]; first | assumption | (simp; done) | simp [go_sem, *]
  clear hc1 hf1
  go_wp2
  exact bodyPost_ret (v := (.tuple #[.agg #[.int .i64 0, .int .i64 0], .bool false])) (by simp (maxDischargeDepth := 8) [results, Try.results17, go_sem, *]) rfl ⟨rfl, by (repeat (first | exact Below.refl _ _ | (refine Below.setCell ?_ (by (first | exact Nat.le_refl _ | omega | (simp <;> omega) | simp)) _) | (refine Below.alloc ?_ (by (first | exact Nat.le_refl _ | omega | (simp <;> omega) | simp)) _) | (refine below_draws ?_ _) | exact B1 | (refine Below.trans ?_ (Below.mono B1 (by (first | exact Nat.le_refl _ | omega | (simp <;> omega) | simp))))))⟩
set_option maxRecDepth 8000 in
set_option maxHeartbeats 12800000 in
theorem impl_powOf_no3 (N : Nat) (e s : Int) (v : Value) (pp : Option Addr) (cp : Nat) (ws : List W3) (q : List P2) (w : World) (hr : ReadsW w v ws) (hb : netB N e s ws = true) (hq : ReadsP w (.slice pp N cp) q) (hwf : WfP q) (hok' : allOkP q = false) :
    Calls Try.prog 17 #[.agg #[.int .i64 N, .int .i64 e, .int .i64 s, v], .slice pp N cp] w fun en w' => en = .returned (.tuple #[.agg #[.int .i64 0, .int .i64 0], .bool false]) ∧ Below w.heap.size w w' := by
  have B0 : Below w.heap.size w ((w.alloc (.cells #[.int .i64 N, .int .i64 e, .int .i64 s, v] 25)).alloc (.cells #[.int .i64 0, .int .i64 0] 31)) := by (repeat (first | exact Below.refl _ _ | (refine Below.setCell ?_ (by (first | exact Nat.le_refl _ | omega | (simp <;> omega) | simp)) _) | (refine Below.alloc ?_ (by (first | exact Nat.le_refl _ | omega | (simp <;> omega) | simp)) _) | (refine below_draws ?_ _)))
  have hok := impl_netOk N e s v ws _ (hr.later B0)
  rw [hb] at hok
  obtain ⟨p, cap, rfl⟩ := hr.shape
  have cAll := fun (w' : World) (h : Below w.heap.size w w') => impl_allOk _ q w' (hq.later h) hwf
  rw [hok'] at cAll
  have HAll := Lib.hid cAll
  clear hr hb hq hwf hok' cAll
  go_enter Try.func17, Try.ntmps17
  go_wp2_with fail
  refine hok.mono ?_
  rintro en w1 ⟨rfl, B1⟩
  have HB1 := Lib.hid (show Below w.heap.size w w1 by (repeat (first | exact Below.refl _ _ | (refine Below.setCell ?_ (by (first | exact Nat.le_refl _ | omega | (simp <;> omega) | simp)) _) | (refine Below.alloc ?_ (by (first | exact Nat.le_refl _ | omega | (simp <;> omega) | simp)) _) | (refine below_draws ?_ _) | exact B1 | (refine Below.trans ?_ (Below.mono B1 (by (first | exact Nat.le_refl _ | omega | (simp <;> omega) | simp)))))))
  obtain ⟨hc1, hf1⟩ := bcell B1
  have S1 := B1.size
  try simp at S1
  try (have _L1w : w.heap.size < w1.heap.size := by omega)
  have _M1w : w.heap.size ≤ w1.heap.size := by omega
  try (have _P1w_1 : w.heap.size + 1 < w1.heap.size := by omega)
  try (have _P1w_2 : w.heap.size + 1 + 1 < w1.heap.size := by omega)
  try (have _P1w_3 : w.heap.size + 1 + 1 + 1 < w1.heap.size := by omega)
  have _ : w1.cell? ⟨w.heap.size, 0, none⟩ = some (.int .i64 N) := by rw [hc1 (w.heap.size) 0 (by first | omega | (simp; done) | (simp; omega))]; first | assumption | (simp; done) | simp [go_sem, *]
  have _ : w1.frozen? ⟨w.heap.size, 0, none⟩ = false := by rw [hf1 (w.heap.size) 0 (by first | omega | (simp; done) | (simp; omega))]; first | assumption | (simp; done) | simp [go_sem, *]
  have _ : w1.cell? ⟨w.heap.size, 1, none⟩ = some (.int .i64 e) := by rw [hc1 (w.heap.size) 1 (by first | omega | (simp; done) | (simp; omega))]; first | assumption | (simp; done) | simp [go_sem, *]
  have _ : w1.frozen? ⟨w.heap.size, 1, none⟩ = false := by rw [hf1 (w.heap.size) 1 (by first | omega | (simp; done) | (simp; omega))]; first | assumption | (simp; done) | simp [go_sem, *]
  have _ : w1.cell? ⟨w.heap.size, 2, none⟩ = some (.int .i64 s) := by rw [hc1 (w.heap.size) 2 (by first | omega | (simp; done) | (simp; omega))]; first | assumption | (simp; done) | simp [go_sem, *]
  have _ : w1.frozen? ⟨w.heap.size, 2, none⟩ = false := by rw [hf1 (w.heap.size) 2 (by first | omega | (simp; done) | (simp; omega))]; first | assumption | (simp; done) | simp [go_sem, *]
  have _ : w1.cell? ⟨w.heap.size, 3, none⟩ = some (.slice p ws.length cap) := by rw [hc1 (w.heap.size) 3 (by first | omega | (simp; done) | (simp; omega))]; first | assumption | (simp; done) | simp [go_sem, *]
  have _ : w1.frozen? ⟨w.heap.size, 3, none⟩ = false := by rw [hf1 (w.heap.size) 3 (by first | omega | (simp; done) | (simp; omega))]; first | assumption | (simp; done) | simp [go_sem, *]
  have _ : w1.cell? ⟨w.heap.size + 1, 0, none⟩ = some (.int .i64 0) := by rw [hc1 (w.heap.size + 1) 0 (by first | omega | (simp; done) | (simp; omega))]; first | assumption | (simp; done) | simp [go_sem, *]
  have _ : w1.frozen? ⟨w.heap.size + 1, 0, none⟩ = false := by rw [hf1 (w.heap.size + 1) 0 (by first | omega | (simp; done) | (simp; omega))]; first | assumption | (simp; done) | simp [go_sem, *]
  have _ : w1.cell? ⟨w.heap.size + 1, 1, none⟩ = some (.int .i64 0) := by rw [hc1 (w.heap.size + 1) 1 (by first | omega | (simp; done) | (simp; omega))]; first | assumption | (simp; done) | simp [go_sem, *]
  have _ : w1.frozen? ⟨w.heap.size + 1, 1, none⟩ = false := by rw [hf1 (w.heap.size + 1) 1 (by first | omega | (simp; done) | (simp; omega))]; first | assumption | (simp; done) | simp [go_sem, *]
  clear hc1 hf1
  go_wp2_with fail
  refine (HAll.out _ HB1.out).mono ?_
  rintro en w2 ⟨rfl, B2⟩
  obtain ⟨hc2, hf2⟩ := bcell B2
  have S2 := B2.size
  try simp at S2
  try (have _L2w : w.heap.size < w2.heap.size := by omega)
  have _M2w : w.heap.size ≤ w2.heap.size := by omega
  try (have _P2w_1 : w.heap.size + 1 < w2.heap.size := by omega)
  try (have _P2w_2 : w.heap.size + 1 + 1 < w2.heap.size := by omega)
  try (have _P2w_3 : w.heap.size + 1 + 1 + 1 < w2.heap.size := by omega)
  try (have _L2w1 : w1.heap.size < w2.heap.size := by omega)
  have _M2w1 : w1.heap.size ≤ w2.heap.size := by omega
  try (have _P2w1_1 : w1.heap.size + 1 < w2.heap.size := by omega)
  try (have _P2w1_2 : w1.heap.size + 1 + 1 < w2.heap.size := by omega)
  try (have _P2w1_3 : w1.heap.size + 1 + 1 + 1 < w2.heap.size := by omega)
  go_wp2
  exact bodyPost_ret (v := (.tuple #[.agg #[.int .i64 0, .int .i64 0], .bool false])) (by simp (maxDischargeDepth := 8) [results, Try.results17, go_sem, *]) rfl ⟨rfl, by (repeat (first | exact Below.refl _ _ | (refine Below.setCell ?_ (by (first | exact Nat.le_refl _ | omega | (simp <;> omega) | simp)) _) | (refine Below.alloc ?_ (by (first | exact Nat.le_refl _ | omega | (simp <;> omega) | simp)) _) | (refine below_draws ?_ _) | exact B1 | (refine Below.trans ?_ (Below.mono B1 (by (first | exact Nat.le_refl _ | omega | (simp <;> omega) | simp)))) | exact B2 | (refine Below.trans ?_ (Below.mono B2 (by (first | exact Nat.le_refl _ | omega | (simp <;> omega) | simp))))))⟩
set_option maxRecDepth 8000 in
set_option maxHeartbeats 12800000 in
theorem impl_powOf_yes (N : Nat) (e s : Int) (v : Value) (ws : List W3) (q : List P2) (gp op cp : Nat) (w : World) (hb : netB N e s ws = true) (hr : ReadsW w v ws) (hw : ws.length ≤ 20) (hql : q.length = N) (hqr : ReadsP w (.slice (some ⟨gp, op, none⟩) N cp) q) (hqc : gp < w.heap.size ∧ ∀ k, (h : k < q.length) → w.cell? ⟨gp, op + k * 2, none⟩ = some (.int .i64 q[k].1) ∧ w.cell? ⟨gp, op + k * 2 + 1, none⟩ = some (.int .i64 q[k].2)) (hwf : WfP q) (hok : allOkP q = true) :
    Calls Try.prog 17 #[.agg #[.int .i64 N, .int .i64 e, .int .i64 s, v], .slice (some ⟨gp, op, none⟩) N cp] w fun en w' => en = .returned (.tuple #[.agg #[.int .i64 (powK s q ws ws.length).1, .int .i64 (powK s q ws ws.length).2], .bool (rOk (powK s q ws ws.length).1 (powK s q ws ws.length).2)]) ∧ Below w.heap.size w w' := by
  obtain ⟨hN1, h5, hwv⟩ := net_nat hb
  obtain ⟨s1, s2⟩ := net_scale hb
  obtain ⟨p, cap, rfl⟩ := hr.shape
  obtain ⟨W1, hW1⟩ : ∃ W1, W1 = (w.alloc (.cells #[.int .i64 N, .int .i64 e, .int .i64 s, .slice p ws.length cap] 25)).alloc (.cells #[.int .i64 0, .int .i64 0] 31) := ⟨_, rfl⟩
  have hsW : W1.heap.size = w.heap.size + 1 + 1 := by rw [hW1]; simp
  have B0 : Below w.heap.size w W1 := by rw [hW1]; (repeat (first | exact Below.refl _ _ | (refine Below.setCell ?_ (by (first | exact Nat.le_refl _ | omega | (simp <;> omega) | simp)) _) | (refine Below.alloc ?_ (by (first | exact Nat.le_refl _ | omega | (simp <;> omega) | simp)) _) | (refine below_draws ?_ _)))
  have hbox : boxN W1 w.heap.size N e s (.slice p ws.length cap) := by rw [hW1]; exact (boxN.new w N e s _ 25).later ((Below.refl _ _).alloc (Nat.le_refl _) _)
  have z0 : W1.cell? ⟨w.heap.size + 1, 0, none⟩ = some (.int .i64 0) := by rw [hW1]; simp [go_sem]
  have z1 : W1.cell? ⟨w.heap.size + 1, 1, none⟩ = some (.int .i64 0) := by rw [hW1]; simp [go_sem]
  have zf : ∀ o, W1.frozen? ⟨w.heap.size + 1, o, none⟩ = false := by intro o; rw [hW1]; simp [go_sem]
  have cOk := impl_netOk N e s _ ws W1 (hr.later B0)
  rw [hb] at cOk
  have cAll := fun (w' : World) (h : Below w.heap.size w w') => impl_allOk _ q w' (hqr.later h) hwf
  rw [hok] at cAll
  have cBr := fun (w' : World) (h : Below w.heap.size w w') => impl_branches N e s _ ws gp op cp w' hb (hr.later h) hw
  have HBX := Lib.hid hbox; clear hbox
  have HZ := Lib.hid (And.intro z0 (And.intro z1 zf)); clear z0 z1 zf
  have HAll := Lib.hid cAll; clear cAll
  have HBr := Lib.hid cBr; clear cBr
  have HQ := Lib.hid hqc; clear hqc
  have HW := Lib.hid hwf; clear hwf
  have HWV := Lib.hid hwv; clear hwv
  have hlW : w.heap.size + 1 < W1.heap.size := by omega
  have HSW := Lib.hid hsW
  clear hb hr hqr hok hsW
  go_enter Try.func17, Try.ntmps17
  go_wp2_with fail
  rw [← hW1]
  refine cOk.mono ?_
  rintro en w1 ⟨rfl, B1⟩
  clear cOk hW1
  have hsz1 := B1.size
  have B1w : Below w.heap.size w w1 := B0.trans (B1.mono (by omega))
  obtain ⟨x0, x1, x2, x3⟩ := HBX.out.below B1 (by omega)
  go_wp2_with fail
  refine (HAll.out _ B1w).mono ?_
  rintro en w2 ⟨rfl, B2⟩
  have hsz2 := B2.size
  have B2w : Below w.heap.size w w2 := B1w.trans (B2.mono (by omega))
  have B12 : Below W1.heap.size W1 w2 := B1.trans (B2.mono hsz1)
  clear x0 x1 x2 x3
  obtain ⟨x0, x1, x2, x3⟩ := HBX.out.below B12 (by omega)
  go_wp2_with fail
  refine (c_rOf01 _).mono ?_
  rintro en w3 ⟨rfl, B3⟩
  have hsz3 := B3.size
  have B3w : Below w.heap.size w w3 := B2w.trans (B3.mono (by omega))
  have B13 : Below W1.heap.size W1 w3 := B12.trans (B3.mono (by omega))
  clear x0 x1 x2 x3
  obtain ⟨x0, x1, x2, x3⟩ := HBX.out.below B13 (by omega)
  have ne3 : w.heap.size ≠ w3.heap.size := by omega
  have y0 := fun ob => (World.cell?_alloc_old w3 ob ⟨w.heap.size, 0, none⟩ ne3).trans x0
  have y1 := fun ob => (World.cell?_alloc_old w3 ob ⟨w.heap.size, 1, none⟩ ne3).trans x1
  have y2 := fun ob => (World.cell?_alloc_old w3 ob ⟨w.heap.size, 2, none⟩ ne3).trans x2
  have y3 := fun ob => (World.cell?_alloc_old w3 ob ⟨w.heap.size, 3, none⟩ ne3).trans x3
  go_wp2_with fail
  refine (HBr.out _ (by have h := B3w; (repeat (first | exact Below.refl _ _ | (refine Below.setCell ?_ (by (first | exact Nat.le_refl _ | omega | (simp <;> omega) | simp)) _) | (refine Below.alloc ?_ (by (first | exact Nat.le_refl _ | omega | (simp <;> omega) | simp)) _) | (refine below_draws ?_ _) | exact h | (refine Below.trans ?_ (Below.mono h (by (first | exact Nat.le_refl _ | omega | (simp <;> omega) | simp)))))))).mono ?_
  rintro en w4 ⟨vb, rfl, own4, B4⟩
  clear y0 y1 y2 y3 x0 x1 x2 x3
  obtain ⟨pv, cv, rfl, hbr⟩ := branches_at own4
  have hsA : (w3.alloc (.cells #[.int .i64 0, .int .i64 1] 31)).heap.size = w3.heap.size + 1 := by simp
  have hsz4 := B4.size
  rw [hsA] at hsz4 B4
  have g0 : w4.cell? ⟨w3.heap.size, 0, none⟩ = some (.int .i64 0) := (B4.cell (p := ⟨w3.heap.size, 0, none⟩) (Nat.lt_succ_self _)).trans (by simp [go_sem])
  have g1 : w4.cell? ⟨w3.heap.size, 1, none⟩ = some (.int .i64 1) := (B4.cell (p := ⟨w3.heap.size, 1, none⟩) (Nat.lt_succ_self _)).trans (by simp [go_sem])
  have gf : ∀ o, w4.frozen? ⟨w3.heap.size, o, none⟩ = false := fun o => (B4.frozen (p := ⟨w3.heap.size, o, none⟩) (Nat.lt_succ_self _)).trans (by simp [go_sem])
  have B34 : Below w3.heap.size w3 w4 := ((Below.refl _ _).alloc (Nat.le_refl _) _).trans (B4.mono (Nat.le_succ _))
  have HBR : Hid (∀ k, (hk : k < ws.length) → ∃ g, pv = some ⟨g, 0, none⟩ ∧ w3.heap.size + 1 ≤ g ∧ g < w4.heap.size ∧ w4.cell? ⟨g, k * 4, none⟩ = some (.pointer (some ⟨gp, op + ws[k].1.toNat * 2, none⟩)) ∧ w4.cell? ⟨g, k * 4 + 1, none⟩ = some (.pointer (some ⟨gp, op + ws[k].2.1.toNat * 2, none⟩)) ∧ w4.cell? ⟨g, k * 4 + 2, none⟩ = some (.int .i64 (rOfN ws[k].2.2 s)) ∧ w4.cell? ⟨g, k * 4 + 3, none⟩ = some (.int .i64 (rOfD ws[k].2.2 s))) := Lib.hid (by rw [hsA] at hbr; exact hbr)
  have HG : Hid (w4.cell? ⟨w3.heap.size, 0, none⟩ = some (.int .i64 (powK s q ws 0).1) ∧ w4.cell? ⟨w3.heap.size, 1, none⟩ = some (.int .i64 (powK s q ws 0).2) ∧ ∀ o, w4.frozen? ⟨w3.heap.size, o, none⟩ = false) := Lib.hid (by rw [powK_zero]; exact ⟨g0, g1, gf⟩)
  have HB34 := Lib.hid B34
  clear own4 hbr g0 g1 gf B34 hsA ne3
  go_wp2
  go_loopw [30] (fun iv wr => ∃ k : Nat, k ≤ ws.length ∧ iv = .int .i64 k ∧ Hid (wr.cell? ⟨w3.heap.size, 0, none⟩ = some (.int .i64 (powK s q ws k).1) ∧ wr.cell? ⟨w3.heap.size, 1, none⟩ = some (.int .i64 (powK s q ws k).2) ∧ ∀ o, wr.frozen? ⟨w3.heap.size, o, none⟩ = false) ∧ Hid (Below w3.heap.size w3 wr) ∧ Hid (w4.heap.size ≤ wr.heap.size ∧ ∀ b o, b < w4.heap.size → b ≠ w3.heap.size → wr.cell? ⟨b, o, none⟩ = w4.cell? ⟨b, o, none⟩)) (fun iv _ => ws.length - (intOf iv).toNat)
  case atStart => exact ⟨0, Nat.zero_le _, rfl, HG, HB34, Lib.hid ⟨Nat.le_refl _, fun _ _ _ _ => rfl⟩⟩
  case round =>
    obtain ⟨k, hk, rfl, hS, hB, hK⟩ := hrel
    by_cases hlt : k < ws.length
    · obtain ⟨g, rfl, hgb, hgl, c0, c1, c2, c3⟩ := HBR.out k hlt
      have hgn : g ≠ w3.heap.size := by omega
      rw [← hK.out.2 g _ hgl hgn] at c0 c1 c2 c3
      obtain ⟨S0, S1, SF⟩ := hS.out
      have hsz := hK.out.1
      have hl3 : w3.heap.size < wr.heap.size := by omega
      have neW : w3.heap.size ≠ wr.heap.size := by omega
      have t0 := fun ob => (World.cell?_alloc_old wr ob ⟨w3.heap.size, 0, none⟩ neW).trans S0
      have t1 := fun ob => (World.cell?_alloc_old wr ob ⟨w3.heap.size, 1, none⟩ neW).trans S1
      obtain ⟨v1, v2, v3, v4, v5⟩ := HWV.out.1 k hlt
      have hBX : Below wr.heap.size wr (wr.alloc (.cells #[.pointer (some ⟨gp, op + ws[k].1.toNat * 2, none⟩), .pointer (some ⟨gp, op + ws[k].2.1.toNat * 2, none⟩), .int .i64 (rOfN ws[k].2.2 s), .int .i64 (rOfD ws[k].2.2 s)] 94)).drew := below_draws ((Below.refl _ _).alloc (Nat.le_refl _) _) 1
      have h3r := hB.out.size
      have hBw : Below w.heap.size w wr := B3w.trans (hB.out.mono B3w.size)
      have cP := power_at (s := s) hql HQ.out HW.out ws[k] ⟨v1, by omega⟩ ⟨by omega, v3⟩ _ (hBw.trans (hBX.mono hBw.size))
      have cS := sum_at (s := s) (q := q) hlt
      go_wp2
      go_region_law
        (first
          | (refine step_call (R := fun v w' => v = .agg #[.int .i64 (pwE s q ws[k]).1, .int .i64 (pwE s q ws[k]).2] ∧ Below _ _ w') (cP.mono (fun en w' h => ⟨_, h.1, rfl, h.2⟩)) (by rfl) (by go_simp) ?_; rintro v w5 ⟨rfl, B5⟩; have E5 := hBX.trans (B5.mono hBX.size); have t5 := (E5.cell (p := ⟨w3.heap.size, 0, none⟩) hl3).trans S0; have t6 := (E5.cell (p := ⟨w3.heap.size, 1, none⟩) hl3).trans S1)
          | (refine step_call (R := fun v w' => v = .agg #[.int .i64 (powK s q ws (k + 1)).1, .int .i64 (powK s q ws (k + 1)).2] ∧ Below _ _ w') ((cS _).mono (fun en w' h => ⟨_, h.1, rfl, h.2⟩)) (by rfl) (by go_simp) ?_; rintro v w6 ⟨rfl, B6⟩; have E6 := E5.trans (B6.mono E5.size); have t7 := (E6.cell (p := ⟨w3.heap.size, 0, none⟩) hl3).trans S0; have t8 := (E6.cell (p := ⟨w3.heap.size, 1, none⟩) hl3).trans S1; have t9 : ∀ o, w6.frozen? ⟨w3.heap.size, o, none⟩ = false := fun o => (E6.frozen (p := ⟨w3.heap.size, o, none⟩) hl3).trans (SF o)))
      all_goals
        obtain ⟨n0, n1, nf, nk, ns⟩ := set2 (a := (powK s q ws (k + 1)).1) (b := (powK s q ws (k + 1)).2) t7 t8 t9
        have HS2 := Lib.hid (And.intro n0 (And.intro n1 nf))
        have HB2 := Lib.hid (((hB.out.trans (E6.mono h3r)).setCell (p := ⟨w3.heap.size, 0, none⟩) (Nat.le_refl _) (.int .i64 (powK s q ws (k + 1)).1)).setCell (p := ⟨w3.heap.size, 1, none⟩) (Nat.le_refl _) (.int .i64 (powK s q ws (k + 1)).2))
        have HK2 : Hid (w4.heap.size ≤ ((w6.setCell ⟨w3.heap.size, 0, none⟩ (.int .i64 (powK s q ws (k + 1)).1)).setCell ⟨w3.heap.size, 1, none⟩ (.int .i64 (powK s q ws (k + 1)).2)).heap.size ∧ ∀ b o, b < w4.heap.size → b ≠ w3.heap.size → ((w6.setCell ⟨w3.heap.size, 0, none⟩ (.int .i64 (powK s q ws (k + 1)).1)).setCell ⟨w3.heap.size, 1, none⟩ (.int .i64 (powK s q ws (k + 1)).2)).cell? ⟨b, o, none⟩ = w4.cell? ⟨b, o, none⟩) := Lib.hid ⟨by rw [ns]; exact Nat.le_trans hsz E6.size, fun b o hb hn => ((nk b o hn).trans (E6.cell (p := ⟨b, o, none⟩) (Nat.lt_of_lt_of_le hb hsz))).trans (hK.out.2 b o hb hn)⟩
        clear n0 n1 nf nk ns t7 t8 t9 t5 t6 E5 E6 B5 B6 t0 t1 cP cS S0 S1 SF c0 c1 c2 c3 neW hBX hBw
        go_wp2
        go_roundw
        case rel => exact ⟨k + 1, by omega, by go_num, HS2, HB2, HK2⟩
        case measure => simp [intOf]; omega
    · obtain rfl : k = ws.length := by omega
      obtain ⟨S0, S1, SF⟩ := hS.out
      have h3r := hB.out.size
      have hsz := hK.out.1
      have hl3 : w3.heap.size < wr.heap.size := by omega
      have hBw : Below w.heap.size w wr := B3w.trans (hB.out.mono B3w.size)
      have B1r : Below W1.heap.size W1 wr := B13.trans (hB.out.mono B13.size)
      obtain ⟨z0, z1, zf⟩ := HZ.out
      have hlr : w.heap.size + 1 < wr.heap.size := Nat.lt_of_lt_of_le hlW B1r.size
      have r0 := (B1r.cell (p := ⟨w.heap.size + 1, 0, none⟩) hlW).trans z0
      have r1 := (B1r.cell (p := ⟨w.heap.size + 1, 1, none⟩) hlW).trans z1
      have rf := fun o => (B1r.frozen (p := ⟨w.heap.size + 1, o, none⟩) hlW).trans (zf o)
      obtain ⟨⟨i1, i2⟩, i3, i4⟩ := powK_in s q ws ws.length (Nat.le_refl _)
      have cK := fun W => impl_rOk (powK s q ws ws.length).1 (powK s q ws ws.length).2 W i1 i2 i3 i4
      go_wp2
      go_region_law
        (refine step_call (R := fun v w' => v = .bool (rOk (powK s q ws ws.length).1 (powK s q ws ws.length).2) ∧ Below _ _ w') ((cK wr.drew).mono (fun en w' h => ⟨_, h.1, rfl, h.2⟩)) (by rfl) (by go_simp) ?_; rintro v w5 ⟨rfl, B5⟩; have E5 : Below wr.heap.size wr w5 := (below_draws (Below.refl _ wr) 1).trans B5; have t5 := (E5.cell (p := ⟨w3.heap.size, 0, none⟩) hl3).trans S0; have t6 := (E5.cell (p := ⟨w3.heap.size, 1, none⟩) hl3).trans S1; have t7 := (E5.cell (p := ⟨w.heap.size + 1, 0, none⟩) hlr).trans r0; have t8 := (E5.cell (p := ⟨w.heap.size + 1, 1, none⟩) hlr).trans r1; have t9 : ∀ o, w5.frozen? ⟨w.heap.size + 1, o, none⟩ = false := fun o => (E5.frozen (p := ⟨w.heap.size + 1, o, none⟩) hlr).trans (rf o))
      all_goals
        obtain ⟨n0, n1, nf, nk, ns⟩ := set2 (a := (powK s q ws ws.length).1) (b := (powK s q ws ws.length).2) t7 t8 t9
        have HBB := Lib.hid (((hBw.trans (E5.mono hBw.size)).setCell (p := ⟨w.heap.size + 1, 0, none⟩) (Nat.le_succ _) (.int .i64 (powK s q ws ws.length).1)).setCell (p := ⟨w.heap.size + 1, 1, none⟩) (Nat.le_succ _) (.int .i64 (powK s q ws ws.length).2))
        clear nf nk ns t7 t8 t9 t5 t6 E5 B5 S0 S1 SF r0 r1 rf cK z0 z1 zf
        go_wp2
        exact bodyPost_ret (v := (.tuple #[.agg #[.int .i64 (powK s q ws ws.length).1, .int .i64 (powK s q ws ws.length).2], .bool (rOk (powK s q ws ws.length).1 (powK s q ws ws.length).2)])) (by simp (maxDischargeDepth := 8) [results, Try.results17, go_sem, *]) rfl ⟨rfl, HBB.out⟩
end Go.Proofs.Ytbeddnegmggleaa
