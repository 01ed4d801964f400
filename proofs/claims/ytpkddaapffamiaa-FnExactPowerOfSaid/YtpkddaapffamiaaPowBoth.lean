/-
  PowerOf in the model: at every network and every list of fractions.
-/
import Derived.Test.YtpkddaapffamiaaPowSpec
import Derived.Test.YtpkddaapffamiaaGPow
namespace Go.Proofs.Ytpkddaapffamiaa
open Go.RowKit

set_option maxRecDepth 8000 in
set_option maxHeartbeats 6400000 in
theorem spec_powOf_no1 (n e s : Int) (v pv : Value) (ws : List W3) (w : World) (hr : ReadsW w v ws) (hb : netB n e s ws = false) :
    Calls Try.prog 47 #[.agg #[.int .i64 n, .int .i64 e, .int .i64 s, v], pv] w fun en w' => en = .returned (.tuple #[.agg #[.int .i64 0, .int .i64 0], .bool false]) ∧ Below w.heap.size w w' := by
  have hok := spec_netOk n e s v ws _ (hr.later (show Below w.heap.size w ((w.alloc (.cells #[.int .i64 n, .int .i64 e, .int .i64 s, v] 25)).alloc (.cells #[.int .i64 0, .int .i64 0] 32)) by (repeat (first | exact Below.refl _ _ | (refine Below.setCell ?_ (by (first | exact Nat.le_refl _ | omega | (simp <;> omega) | simp)) _) | (refine Below.alloc ?_ (by (first | exact Nat.le_refl _ | omega | (simp <;> omega) | simp)) _) | (refine below_draws ?_ _)))))
  rw [hb] at hok
  obtain ⟨p, cap, rfl⟩ := hr.shape
  clear hr hb
  go_enter Try.func47, Try.ntmps47
  go_wp2_with fail
  refine hok.mono ?_
  rintro en w1 ⟨rfl, B1⟩
  obtain ⟨hc1, hf1⟩ := bcell B1
  have S1 := B1.size
  try simp at S1
  try (have _L1w : w.heap.size < w1.heap.size := by omega)
  have _M1w : w.heap.size ≤ w1.heap.size := by omega
  try (have _P1w_1 : w.heap.size + 1 < w1.heap.size := by omega)
  try (have _P1w_2 : w.heap.size + 1 + 1 < w1.heap.size := by omega)
  try (have _P1w_3 : w.heap.size + 1 + 1 + 1 < w1.heap.size := by omega)
  go_wp2
  exact bodyPost_ret (v := (.tuple #[.agg #[.int .i64 0, .int .i64 0], .bool false])) (by simp (maxDischargeDepth := 8) [results, Try.results47, go_sem, *]) rfl ⟨rfl, by (repeat (first | exact Below.refl _ _ | (refine Below.setCell ?_ (by (first | exact Nat.le_refl _ | omega | (simp <;> omega) | simp)) _) | (refine Below.alloc ?_ (by (first | exact Nat.le_refl _ | omega | (simp <;> omega) | simp)) _) | (refine below_draws ?_ _) | exact B1 | (refine Below.trans ?_ (Below.mono B1 (by (first | exact Nat.le_refl _ | omega | (simp <;> omega) | simp))))))⟩
set_option maxRecDepth 8000 in
set_option maxHeartbeats 6400000 in
theorem spec_powOf_no2 (n e s : Int) (v : Value) (pp : Option Addr) (m cp : Nat) (ws : List W3) (w : World) (hr : ReadsW w v ws) (hb : netB n e s ws = true) (hm : ¬ (m : Int) = n) :
    Calls Try.prog 47 #[.agg #[.int .i64 n, .int .i64 e, .int .i64 s, v], .slice pp m cp] w fun en w' => en = .returned (.tuple #[.agg #[.int .i64 0, .int .i64 0], .bool false]) ∧ Below w.heap.size w w' := by
  have hok := spec_netOk n e s v ws _ (hr.later (show Below w.heap.size w ((w.alloc (.cells #[.int .i64 n, .int .i64 e, .int .i64 s, v] 25)).alloc (.cells #[.int .i64 0, .int .i64 0] 32)) by (repeat (first | exact Below.refl _ _ | (refine Below.setCell ?_ (by (first | exact Nat.le_refl _ | omega | (simp <;> omega) | simp)) _) | (refine Below.alloc ?_ (by (first | exact Nat.le_refl _ | omega | (simp <;> omega) | simp)) _) | (refine below_draws ?_ _)))))
  rw [hb] at hok
  obtain ⟨p, cap, rfl⟩ := hr.shape
  clear hr hb
  go_enter Try.func47, Try.ntmps47
  go_wp2_with fail
  refine hok.mono ?_
  rintro en w1 ⟨rfl, B1⟩
  obtain ⟨hc1, hf1⟩ := bcell B1
  have S1 := B1.size
  try simp at S1
  try (have _L1w : w.heap.size < w1.heap.size := by omega)
  have _M1w : w.heap.size ≤ w1.heap.size := by omega
  try (have _P1w_1 : w.heap.size + 1 < w1.heap.size := by omega)
  try (have _P1w_2 : w.heap.size + 1 + 1 < w1.heap.size := by omega)
  try (have _P1w_3 : w.heap.size + 1 + 1 + 1 < w1.heap.size := by omega)
  have _ : w1.cell? ⟨w.heap.size, 0, none⟩ = some (.int .i64 n) := by rw [hc1 (w.heap.size) 0 (by first | omega | (simp; done) | (simp; omega))]; first | assumption | (simp; done) | simp [go_sem, *]
  have _ : w1.frozen? ⟨w.heap.size, 0, none⟩ = false := by rw [hf1 (w.heap.size) 0 (by first | omega | (simp; done) | (simp; omega))]; first | assumption | (simp; done) | simp [go_sem, *]
  have _ : w1.cell? ⟨w.heap.size, 1, none⟩ = some (.int .i64 e) := by rw [hc1 (w.heap.size) 1 (by first | omega | (simp; done) | (simp; omega))]; first | assumption | (simp; done) | simp [go_sem, *]
  have _ : w1.frozen? ⟨w.heap.size, 1, none⟩ = false := by rw [hf1 (w.heap.size) 1 (by first | omega | (simp; done) | (simp; omega))]; first | assumption | (simp; done) | simp [go_sem, *]
  have _ : w1.cell? ⟨w.heap.size, 2, none⟩ = some (.int .i64 s) := by rw [hc1 (w.heap.size) 2 (by first | omega | (simp; done) | (simp; omega))]; first | assumption | (simp; done) | simp [go_sem, *]
  have _ : w1.frozen? ⟨w.heap.size, 2, none⟩ = false := by rw [hf1 (w.heap.size) 2 (by first | omega | (simp; done) | (simp; omega))]; first | assumption | (simp; done) | simp [go_sem, *]
  have _ : w1.cell? ⟨w.heap.size, 3, none⟩ = some (.slice p ws.length cap) := by rw [hc1 (w.heap.size) 3 (by first | omega | (simp; done) | (simp; omega))]; first | assumption | (simp; done) | simp [go_sem, *]
  have _ : w1.frozen? ⟨w.heap.size, 3, none⟩ = false := by rw [hf1 (w.heap.size) 3 (by first | omega | (simp; done) | (simp; omega))]; first | assumption | (simp; done) | simp [go_sem, *]
  have _ : w1.cell? ⟨w.heap.size + 1, 0, none⟩ = some (.int .i64 0) := by rw [hc1 (w.heap.size + 1) 0 (by first | omega | (simp; done) | (simp; omega))]; first | assumption | (simp; done) | simp [go_sem, *]
  have _ : w1.frozen? ⟨w.heap.size + 1, 0, none⟩ = false := by rw [hf1 (w.heap.size + 1) 0 (by first | omega | (simp; done) | (simp; omega))]; first | assumption | (simp; done) | simp [go_sem, *]
  have _ : w1.cell? ⟨w.heap.size + 1, 1, none⟩ = some (.int .i64 0) := by rw [hc1 (w.heap.size + 1) 1 (by first | omega | (simp; done) | (simp; omega))]; first | assumption | (simp; done) | simp [go_sem, *]
  have _ : w1.frozen? ⟨w.heap.size + 1, 1, none⟩ = false := by rw [hf1 (w.heap.size + 1) 1 (by first | omega | (simp; done) | (simp; omega))]; first | assumption | (simp; done) | simp [go_sem, *]
  clear hc1 hf1
  go_wp2
  exact bodyPost_ret (v := (.tuple #[.agg #[.int .i64 0, .int .i64 0], .bool false])) (by simp (maxDischargeDepth := 8) [results, Try.results47, go_sem, *]) rfl ⟨rfl, by (repeat (first | exact Below.refl _ _ | (refine Below.setCell ?_ (by (first | exact Nat.le_refl _ | omega | (simp <;> omega) | simp)) _) | (refine Below.alloc ?_ (by (first | exact Nat.le_refl _ | omega | (simp <;> omega) | simp)) _) | (refine below_draws ?_ _) | exact B1 | (refine Below.trans ?_ (Below.mono B1 (by (first | exact Nat.le_refl _ | omega | (simp <;> omega) | simp))))))⟩
set_option maxRecDepth 8000 in
set_option maxHeartbeats 6400000 in
theorem spec_powOf_no3 (N : Nat) (e s : Int) (v : Value) (pp : Option Addr) (cp : Nat) (ws : List W3) (q : List P2) (w : World) (hr : ReadsW w v ws) (hb : netB N e s ws = true) (hql : q.length = N) (hq : ReadsP w (.slice pp N cp) q) (hwf : WfP q) (hok' : allOkP q = false) :
    Calls Try.prog 47 #[.agg #[.int .i64 N, .int .i64 e, .int .i64 s, v], .slice pp N cp] w fun en w' => en = .returned (.tuple #[.agg #[.int .i64 0, .int .i64 0], .bool false]) ∧ Below w.heap.size w w' := by
  obtain ⟨hN1, h5, -⟩ := net_nat hb
  obtain ⟨W1, hW1⟩ : ∃ W1, W1 = (w.alloc (.cells #[.int .i64 N, .int .i64 e, .int .i64 s, v] 25)).alloc (.cells #[.int .i64 0, .int .i64 0] 32) := ⟨_, rfl⟩
  have B0 : Below w.heap.size w W1 := by rw [hW1]; (repeat (first | exact Below.refl _ _ | (refine Below.setCell ?_ (by (first | exact Nat.le_refl _ | omega | (simp <;> omega) | simp)) _) | (refine Below.alloc ?_ (by (first | exact Nat.le_refl _ | omega | (simp <;> omega) | simp)) _) | (refine below_draws ?_ _)))
  have hsW : W1.heap.size = w.heap.size + 1 + 1 := by rw [hW1]; simp
  have hok := spec_netOk N e s v ws W1 (hr.later B0)
  rw [hb] at hok
  obtain ⟨p, cap, rfl⟩ := hr.shape
  have hbox : boxN W1 w.heap.size N e s (.slice p ws.length cap) := by rw [hW1]; exact (boxN.new w N e s _ 25).later ((Below.refl _ _).alloc (Nat.le_refl _) _)
  have z0 : W1.cell? ⟨w.heap.size + 1, 0, none⟩ = some (.int .i64 0) := by rw [hW1]; simp [go_sem]
  have z1 : W1.cell? ⟨w.heap.size + 1, 1, none⟩ = some (.int .i64 0) := by rw [hW1]; simp [go_sem]
  have zf : ∀ o, W1.frozen? ⟨w.heap.size + 1, o, none⟩ = false := by intro o; rw [hW1]; simp [go_sem]
  have HZ := Lib.hid (And.intro z0 (And.intro z1 zf)); clear z0 z1 zf
  obtain ⟨g, o, c, hv, hg, hc⟩ := hq.pos (by omega)
  simp only [Value.slice.injEq] at hv
  obtain ⟨rfl, -, rfl⟩ := hv
  obtain ⟨k0, hk0, hbad, hgood⟩ := allOk_bad hok'
  have HBX := Lib.hid hbox; clear hbox
  have HC := Lib.hid hc
  have HW := Lib.hid hwf
  have HBD := Lib.hid hbad
  have HO := Lib.hid hgood
  have hlW : w.heap.size + 1 < W1.heap.size := by omega
  have hlX : w.heap.size < W1.heap.size := by omega
  have HSW := Lib.hid hsW
  clear hr hb hq hwf hok' hbad hgood hc hsW
  go_enter Try.func47, Try.ntmps47
  go_wp2_with fail
  rw [← hW1]
  refine hok.mono ?_
  rintro en w1 ⟨rfl, B1⟩
  clear hok hW1
  have HB1 := Lib.hid B1
  obtain ⟨x0, x1, x2, x3⟩ := HBX.out.below B1 hlX
  clear B1
  go_wp2
  go_loopw [25] (fun iv wr => ∃ k : Nat, k ≤ k0 ∧ iv = .int .i64 k ∧ Hid (Below W1.heap.size W1 wr)) (fun iv _ => N - (intOf iv).toNat)
  case atStart => exact ⟨0, Nat.zero_le _, rfl, HB1⟩
  case round =>
    obtain ⟨k, hk, rfl, hB⟩ := hrel
    clear HB1 x0 x1 x2 x3
    have hsz := hB.out.size
    have hBw : Below w.heap.size w wr := B0.trans (hB.out.mono B0.size)
    have hlt : k < q.length := by omega
    have hltN : k < N := by omega
    obtain ⟨c0, c1⟩ := HC.out k hlt
    rw [← hBw.cell (p := ⟨g, o + k * 2, none⟩) hg] at c0
    rw [← hBw.cell (p := ⟨g, o + k * 2 + 1, none⟩) hg] at c1
    obtain ⟨i1, i2⟩ := HW.out k hlt
    have hcall := fun W => spec_rOk q[k].1 q[k].2 W i1.1 i1.2 i2.1 i2.2
    by_cases hkk : k < k0
    · rw [HO.out k hkk] at hcall
      go_wp2_with fail
      refine (hcall _).mono ?_
      rintro en w2 ⟨rfl, B2⟩
      have HB2 : Hid (Below W1.heap.size W1 w2) := Lib.hid (by have h := hB.out; (repeat (first | exact Below.refl _ _ | (refine Below.setCell ?_ (by (first | exact Nat.le_refl _ | omega | (simp <;> omega) | simp)) _) | (refine Below.alloc ?_ (by (first | exact Nat.le_refl _ | omega | (simp <;> omega) | simp)) _) | (refine below_draws ?_ _) | exact h | (refine Below.trans ?_ (Below.mono h (by (first | exact Nat.le_refl _ | omega | (simp <;> omega) | simp)))) | exact B2 | (refine Below.trans ?_ (Below.mono B2 (by (first | exact Nat.le_refl _ | omega | (simp <;> omega) | simp)))))))
      clear hcall B2 c0 c1
      go_wp2
      go_roundw
      case rel => exact ⟨k + 1, by omega, by go_num, HB2⟩
      case measure => simp [intOf] <;> omega
    · obtain rfl : k = k0 := by omega
      rw [HBD.out] at hcall
      go_wp2_with fail
      refine (hcall _).mono ?_
      rintro en w2 ⟨rfl, B2⟩
      have HB2 : Hid (Below W1.heap.size W1 w2) := Lib.hid (by have h := hB.out; (repeat (first | exact Below.refl _ _ | (refine Below.setCell ?_ (by (first | exact Nat.le_refl _ | omega | (simp <;> omega) | simp)) _) | (refine Below.alloc ?_ (by (first | exact Nat.le_refl _ | omega | (simp <;> omega) | simp)) _) | (refine below_draws ?_ _) | exact h | (refine Below.trans ?_ (Below.mono h (by (first | exact Nat.le_refl _ | omega | (simp <;> omega) | simp)))) | exact B2 | (refine Below.trans ?_ (Below.mono B2 (by (first | exact Nat.le_refl _ | omega | (simp <;> omega) | simp)))))))
      obtain ⟨y0, y1, yf⟩ := HZ.out
      have r0 := (HB2.out.cell (p := ⟨w.heap.size + 1, 0, none⟩) hlW).trans y0
      have r1 := (HB2.out.cell (p := ⟨w.heap.size + 1, 1, none⟩) hlW).trans y1
      have rf := fun o => (HB2.out.frozen (p := ⟨w.heap.size + 1, o, none⟩) hlW).trans (yf o)
      have HF := Lib.hid (B0.trans (HB2.out.mono B0.size))
      clear hcall B2 c0 c1 y0 y1 yf
      go_wp2
      exact bodyPost_ret (v := (.tuple #[.agg #[.int .i64 0, .int .i64 0], .bool false])) (by simp (maxDischargeDepth := 8) [results, Try.results47, go_sem, *]) rfl ⟨rfl, (HF.out.setCell (p := ⟨w.heap.size + 1, 0, none⟩) (Nat.le_succ _) _).setCell (p := ⟨w.heap.size + 1, 1, none⟩) (Nat.le_succ _) _⟩
theorem spec_powOf (n e s : Int) (v pv : Value) (ws : List W3) (q : List P2) (w : World) (hr : ReadsW w v ws) (hq : ReadsP w pv q) (hwf : WfP q) :
    Calls Try.prog 47 #[.agg #[.int .i64 n, .int .i64 e, .int .i64 s, v], pv] w fun en w' => en = .returned (.tuple #[.agg #[.int .i64 (powR n e s ws q).1, .int .i64 (powR n e s ws q).2.1], .bool (powR n e s ws q).2.2]) ∧ Below w.heap.size w w' := by
  cases hb : netB n e s ws
  · rw [powR_no (fun h => by rw [hb] at h; exact absurd h.1 (by simp))]
    exact spec_powOf_no1 n e s v pv ws w hr hb
  obtain ⟨N, rfl⟩ : ∃ N : Nat, n = N := ⟨n.toNat, by have := net_n hb; omega⟩
  obtain ⟨p, cap, rfl⟩ := hq.shape
  by_cases hl : q.length = N
  case neg =>
    have hm : ¬ ((q.length : Nat) : Int) = (N : Int) := by omega
    rw [powR_no (fun h => hm h.2.1)]
    exact spec_powOf_no2 N e s v p q.length cap ws w hr hb hm
  cases ha : allOkP q
  · rw [powR_no (fun h => by rw [ha] at h; exact absurd h.2.2 (by simp))]
    rw [hl] at hq ⊢
    exact spec_powOf_no3 N e s v p cap ws q w hr hb hl hq hwf ha
  rw [powR_yes hb hl ha]
  obtain ⟨hN1, h5, hwv⟩ := net_nat hb
  obtain ⟨g, o, c, hv, hg, hc⟩ := hq.pos (by omega)
  simp only [Value.slice.injEq] at hv
  obtain ⟨rfl, -, rfl⟩ := hv
  rw [hl] at hq ⊢
  exact spec_powOf_yes N e s v ws q g o cap w hb hr (wires_le hb) hl ⟨hg, hc⟩ hwf ha
end Go.Proofs.Ytpkddaapffamiaa
