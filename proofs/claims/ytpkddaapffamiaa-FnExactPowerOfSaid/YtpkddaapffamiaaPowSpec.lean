/-
  PowerOf in the model.
-/
import Derived.Test.YtpkddaapffamiaaGPow
namespace Go.Proofs.Ytpkddaapffamiaa
open Go.RowKit

theorem s_sum {n d m e x y : Int} (h : rSum n d m e = (x, y)) (hn : In n ∧ In d) (hm : In m ∧ In e) (w : World) : Calls Try.prog 88 #[.agg #[.int .i64 n, .int .i64 d], .agg #[.int .i64 m, .int .i64 e]] w fun en w' => en = .returned (.agg #[.int .i64 x, .int .i64 y]) ∧ Below w.heap.size w w' := by
  have hc := spec_rSum n d m e w hn.1.1 hn.1.2 hn.2.1 hn.2.2 hm.1.1 hm.1.2 hm.2.1 hm.2.2
  rw [h] at hc; exact hc
theorem s_diff {n d m e x y : Int} (h : rDiff n d m e = (x, y)) (hn : In n ∧ In d) (hm : In m ∧ In e) (w : World) : Calls Try.prog 87 #[.agg #[.int .i64 n, .int .i64 d], .agg #[.int .i64 m, .int .i64 e]] w fun en w' => en = .returned (.agg #[.int .i64 x, .int .i64 y]) ∧ Below w.heap.size w w' := by
  have hc := spec_rDiff n d m e w hn.1.1 hn.1.2 hn.2.1 hn.2.2 hm.1.1 hm.1.2 hm.2.1 hm.2.2
  rw [h] at hc; exact hc
theorem s_times {n d m e x y : Int} (h : rTimes n d m e = (x, y)) (hn : In n ∧ In d) (hm : In m ∧ In e) (w : World) : Calls Try.prog 89 #[.agg #[.int .i64 n, .int .i64 d], .agg #[.int .i64 m, .int .i64 e]] w fun en w' => en = .returned (.agg #[.int .i64 x, .int .i64 y]) ∧ Below w.heap.size w w' := by
  have hc := spec_rTimes n d m e w hn.1.1 hn.1.2 hn.2.1 hn.2.2 hm.1.1 hm.1.2 hm.2.1 hm.2.2
  rw [h] at hc; exact hc
theorem t2_keep {B : Nat} {wa wb : World} {v0 v1 : Value} (hb : Below wa.heap.size wa wb) (h : wa.cell? ⟨B, 0, none⟩ = some v0 ∧ wa.cell? ⟨B, 1, none⟩ = some v1 ∧ (∀ o, wa.frozen? ⟨B, o, none⟩ = false) ∧ B < wa.heap.size) :
    wb.cell? ⟨B, 0, none⟩ = some v0 ∧ wb.cell? ⟨B, 1, none⟩ = some v1 ∧ (∀ o, wb.frozen? ⟨B, o, none⟩ = false) ∧ B < wb.heap.size :=
  ⟨(hb.cell (p := ⟨B, 0, none⟩) h.2.2.2).trans h.1, (hb.cell (p := ⟨B, 1, none⟩) h.2.2.2).trans h.2.1, fun o => (hb.frozen (p := ⟨B, o, none⟩) h.2.2.2).trans (h.2.2.1 o), Nat.lt_of_lt_of_le h.2.2.2 hb.size⟩
theorem t2_drew {B : Nat} {wa : World} {v0 v1 : Value} (h : wa.cell? ⟨B, 0, none⟩ = some v0 ∧ wa.cell? ⟨B, 1, none⟩ = some v1 ∧ (∀ o, wa.frozen? ⟨B, o, none⟩ = false) ∧ B < wa.heap.size) :
    wa.drew.cell? ⟨B, 0, none⟩ = some v0 ∧ wa.drew.cell? ⟨B, 1, none⟩ = some v1 ∧ (∀ o, wa.drew.frozen? ⟨B, o, none⟩ = false) ∧ B < wa.drew.heap.size := h
theorem t2_set {B : Nat} {wa : World} {a b c d : Int} (h : wa.cell? ⟨B, 0, none⟩ = some (.int .i64 c) ∧ wa.cell? ⟨B, 1, none⟩ = some (.int .i64 d) ∧ (∀ o, wa.frozen? ⟨B, o, none⟩ = false) ∧ B < wa.heap.size) :
    ((wa.setCell ⟨B, 0, none⟩ (.int .i64 a)).setCell ⟨B, 1, none⟩ (.int .i64 b)).cell? ⟨B, 0, none⟩ = some (.int .i64 a) ∧ ((wa.setCell ⟨B, 0, none⟩ (.int .i64 a)).setCell ⟨B, 1, none⟩ (.int .i64 b)).cell? ⟨B, 1, none⟩ = some (.int .i64 b) ∧ (∀ o, ((wa.setCell ⟨B, 0, none⟩ (.int .i64 a)).setCell ⟨B, 1, none⟩ (.int .i64 b)).frozen? ⟨B, o, none⟩ = false) ∧ B < ((wa.setCell ⟨B, 0, none⟩ (.int .i64 a)).setCell ⟨B, 1, none⟩ (.int .i64 b)).heap.size := by
  obtain ⟨n0, n1, nf, nk, ns⟩ := set2 (a := a) (b := b) h.1 h.2.1 h.2.2.1
  exact ⟨n0, n1, nf, by rw [ns]; exact h.2.2.2⟩
theorem ret_bad {p : P2} (h : p = (0, 0)) : Ending.returned (.tuple #[.agg #[.int .i64 0, .int .i64 0], .bool false]) = .returned (.tuple #[.agg #[.int .i64 p.1, .int .i64 p.2], .bool (rOk p.1 p.2)]) := by
  subst h; rfl
theorem ret_good {p : P2} {a b : Int} (h : p = (a, b)) (hk : rOk a b = true) : Ending.returned (.tuple #[.agg #[.int .i64 a, .int .i64 b], .bool true]) = .returned (.tuple #[.agg #[.int .i64 p.1, .int .i64 p.2], .bool (rOk p.1 p.2)]) := by
  subst h; rw [hk]
set_option maxRecDepth 8000 in
set_option maxHeartbeats 12800000 in
theorem spec_powOf_yes (N : Nat) (e s : Int) (v : Value) (ws : List W3) (q : List P2) (gp op cp : Nat) (w : World) (hb : netB N e s ws = true) (hr : ReadsW w v ws) (hw : ws.length ≤ 20) (hql : q.length = N) (hqc : gp < w.heap.size ∧ ∀ k, (h : k < q.length) → w.cell? ⟨gp, op + k * 2, none⟩ = some (.int .i64 q[k].1) ∧ w.cell? ⟨gp, op + k * 2 + 1, none⟩ = some (.int .i64 q[k].2)) (hwf : WfP q) (hok : allOkP q = true) :
    Calls Try.prog 47 #[.agg #[.int .i64 N, .int .i64 e, .int .i64 s, v], .slice (some ⟨gp, op, none⟩) N cp] w fun en w' => en = .returned (.tuple #[.agg #[.int .i64 (powK s q ws ws.length).1, .int .i64 (powK s q ws ws.length).2], .bool (rOk (powK s q ws ws.length).1 (powK s q ws ws.length).2)]) ∧ Below w.heap.size w w' := by
  obtain ⟨hN1, h5, hwv⟩ := net_nat hb
  obtain ⟨s1, s2⟩ := net_scale hb
  obtain ⟨p, cap, rfl⟩ := hr.shape
  have HRA := Lib.hid (reads_atW hr)
  obtain ⟨W1, hW1⟩ : ∃ W1, W1 = (w.alloc (.cells #[.int .i64 N, .int .i64 e, .int .i64 s, .slice p ws.length cap] 25)).alloc (.cells #[.int .i64 0, .int .i64 0] 32) := ⟨_, rfl⟩
  have hsW : W1.heap.size = w.heap.size + 1 + 1 := by rw [hW1]; simp
  have B0 : Below w.heap.size w W1 := by rw [hW1]; (repeat (first | exact Below.refl _ _ | (refine Below.setCell ?_ (by (first | exact Nat.le_refl _ | omega | (simp <;> omega) | simp)) _) | (refine Below.alloc ?_ (by (first | exact Nat.le_refl _ | omega | (simp <;> omega) | simp)) _) | (refine below_draws ?_ _)))
  have hbox : boxN W1 w.heap.size N e s (.slice p ws.length cap) := by rw [hW1]; exact (boxN.new w N e s _ 25).later ((Below.refl _ _).alloc (Nat.le_refl _) _)
  have z0 : W1.cell? ⟨w.heap.size + 1, 0, none⟩ = some (.int .i64 0) := by rw [hW1]; simp [go_sem]
  have z1 : W1.cell? ⟨w.heap.size + 1, 1, none⟩ = some (.int .i64 0) := by rw [hW1]; simp [go_sem]
  have zf : ∀ o, W1.frozen? ⟨w.heap.size + 1, o, none⟩ = false := by intro o; rw [hW1]; simp [go_sem]
  have cOk := spec_netOk N e s _ ws W1 (hr.later B0)
  rw [hb] at cOk
  have HBX := Lib.hid hbox; clear hbox
  have HZ := Lib.hid (And.intro z0 (And.intro z1 zf)); clear z0 z1 zf
  have HQ := Lib.hid hqc; clear hqc
  have HW := Lib.hid hwf; clear hwf
  have HWV := Lib.hid hwv; clear hwv
  have HOK := Lib.hid hok; clear hok
  have hlW : w.heap.size + 1 < W1.heap.size := by omega
  have hlX : w.heap.size < W1.heap.size := by omega
  have HSW := Lib.hid hsW
  clear hb hr hsW
  go_enter Try.func47, Try.ntmps47
  go_wp2_with fail
  rw [← hW1]
  refine cOk.mono ?_
  rintro en w1 ⟨rfl, B1⟩
  clear cOk hW1
  have HB1 := Lib.hid B1
  have hsz1 := B1.size
  obtain ⟨x0, x1, x2, x3⟩ := HBX.out.below B1 hlX
  clear B1
  go_wp2
  go_loopw [25] (fun iv wr => ∃ k : Nat, k ≤ N ∧ iv = .int .i64 k ∧ Hid (Below W1.heap.size W1 wr)) (fun iv _ => N - (intOf iv).toNat)
  case atStart => exact ⟨0, Nat.zero_le _, rfl, HB1⟩
  case round =>
    obtain ⟨k, hk, rfl, hB⟩ := hrel
    clear HB1 x0 x1 x2 x3 hsz1
    have hsz := hB.out.size
    have hBw : Below w.heap.size w wr := B0.trans (hB.out.mono B0.size)
    by_cases hlt : k < q.length
    · obtain ⟨c0, c1⟩ := HQ.out.2 k hlt
      have hg := HQ.out.1
      rw [← hBw.cell (p := ⟨gp, op + k * 2, none⟩) hg] at c0
      rw [← hBw.cell (p := ⟨gp, op + k * 2 + 1, none⟩) hg] at c1
      obtain ⟨i1, i2⟩ := HW.out k hlt
      have hcall := fun W => spec_rOk q[k].1 q[k].2 W i1.1 i1.2 i2.1 i2.2
      rw [allOk_get HOK.out k hlt] at hcall
      have hkN : k < N := by omega
      go_wp2_with fail
      refine (hcall _).mono ?_
      rintro en w2 ⟨rfl, B2⟩
      have HB2 : Hid (Below W1.heap.size W1 w2) := Lib.hid (by have h := hB.out; (repeat (first | exact Below.refl _ _ | (refine Below.setCell ?_ (by (first | exact Nat.le_refl _ | omega | (simp <;> omega) | simp)) _) | (refine Below.alloc ?_ (by (first | exact Nat.le_refl _ | omega | (simp <;> omega) | simp)) _) | (refine below_draws ?_ _) | exact h | (refine Below.trans ?_ (Below.mono h (by (first | exact Nat.le_refl _ | omega | (simp <;> omega) | simp)))) | exact B2 | (refine Below.trans ?_ (Below.mono B2 (by (first | exact Nat.le_refl _ | omega | (simp <;> omega) | simp)))))))
      clear hcall B2 c0 c1
      go_wp2
      go_roundw
      case rel => exact ⟨k + 1, by omega, by go_num, HB2⟩
      case measure => simp [intOf] <;> omega
    · obtain rfl : N = k := by omega
      rename World => wp
      obtain ⟨x0, x1, x2, x3⟩ := HBX.out.below hB.out hlX
      have hlp : w.heap.size < wp.heap.size := by omega
      have hlp1 : w.heap.size + 1 < wp.heap.size := by omega
      have neP : w.heap.size ≠ wp.heap.size := by omega
      have y3 := fun ob => (World.cell?_alloc_old wp ob ⟨w.heap.size, 3, none⟩ neP).trans x3
      have HPB := Lib.hid hB.out
      have HPW := Lib.hid hBw
      have HG : Hid ((wp.alloc (.cells #[.int .i64 0, .int .i64 1] 32)).cell? ⟨wp.heap.size, 0, none⟩ = some (.int .i64 (powK s q ws 0).1) ∧ (wp.alloc (.cells #[.int .i64 0, .int .i64 1] 32)).cell? ⟨wp.heap.size, 1, none⟩ = some (.int .i64 (powK s q ws 0).2) ∧ (∀ o, (wp.alloc (.cells #[.int .i64 0, .int .i64 1] 32)).frozen? ⟨wp.heap.size, o, none⟩ = false) ∧ rOk (powK s q ws 0).1 (powK s q ws 0).2 = true ∧ wp.heap.size < (wp.alloc (.cells #[.int .i64 0, .int .i64 1] 32)).heap.size) := Lib.hid (by rw [powK_zero]; exact ⟨by simp [go_sem], by simp [go_sem], fun o => by simp [go_sem], by decide, by simp⟩)
      have HB0 : Hid (Below wp.heap.size wp (wp.alloc (.cells #[.int .i64 0, .int .i64 1] 32))) := Lib.hid ((Below.refl _ _).alloc (Nat.le_refl _) _)
      clear hB hBw x0 x1 x2 x3 hsz hk hlt
      go_wp2
      go_loopw [38] (fun iv wr => ∃ k : Nat, k ≤ ws.length ∧ iv = .int .i64 k ∧ Hid (wr.cell? ⟨wp.heap.size, 0, none⟩ = some (.int .i64 (powK s q ws k).1) ∧ wr.cell? ⟨wp.heap.size, 1, none⟩ = some (.int .i64 (powK s q ws k).2) ∧ (∀ o, wr.frozen? ⟨wp.heap.size, o, none⟩ = false) ∧ rOk (powK s q ws k).1 (powK s q ws k).2 = true ∧ wp.heap.size < wr.heap.size) ∧ Hid (Below wp.heap.size wp wr)) (fun iv _ => ws.length - (intOf iv).toNat)
      case atStart => exact ⟨0, Nat.zero_le _, rfl, HG, HB0⟩
      case round =>
        obtain ⟨k, hk, rfl, hS0, hB⟩ := hrel
        clear HG HB0 y3
        obtain ⟨S0, S1, SF, SK, hl3⟩ := hS0.out
        have hBw : Below w.heap.size w wr := HPW.out.trans (hB.out.mono HPW.out.size)
        have hB1r : Below W1.heap.size W1 wr := HPB.out.trans (hB.out.mono HPB.out.size)
        obtain ⟨z0, z1, zf⟩ := HZ.out
        have r0 := (hB1r.cell (p := ⟨w.heap.size + 1, 0, none⟩) hlW).trans z0
        have r1 := (hB1r.cell (p := ⟨w.heap.size + 1, 1, none⟩) hlW).trans z1
        have rf := fun o => (hB1r.frozen (p := ⟨w.heap.size + 1, o, none⟩) hlW).trans (zf o)
        clear z0 z1 zf
        by_cases hlt : k < ws.length
        · obtain ⟨gw, ow, rfl, hgw, c0, c1, c2⟩ := HRA.out k hlt
          rw [← hBw.cell (p := ⟨gw, ow + k * 3, none⟩) hgw] at c0
          rw [← hBw.cell (p := ⟨gw, ow + k * 3 + 1, none⟩) hgw] at c1
          rw [← hBw.cell (p := ⟨gw, ow + k * 3 + 2, none⟩) hgw] at c2
          obtain ⟨v1, v2, v3, v4, v5⟩ := HWV.out.1 k hlt
          have v6 : ws[k].1 < (N : Int) := by omega
          have v7 : (0 : Int) ≤ ws[k].2.1 := by omega
          have l1 : ws[k].1.toNat < q.length := by omega
          have l2 : ws[k].2.1.toNat < q.length := by omega
          have e1 : getP q ws[k].1 = q[ws[k].1.toNat] := by simp [getP, l1]
          have e2 : getP q ws[k].2.1 = q[ws[k].2.1.toNat] := by simp [getP, l2]
          obtain ⟨a0, a1⟩ := HQ.out.2 _ l1
          obtain ⟨b0, b1⟩ := HQ.out.2 _ l2
          have i1 := HW.out _ l1
          have i2 := HW.out _ l2
          rw [← e1] at a0 a1 i1
          rw [← e2] at b0 b1 i2
          have hgq := HQ.out.1
          rw [← hBw.cell (p := ⟨gp, _, none⟩) hgq] at a0 a1 b0 b1
          obtain ⟨x0, x1, x2, x3⟩ := HBX.out.below hB1r hlX
          have hsr := hBw.size
          have hgr : gp < wr.heap.size := by omega
          have hlr : w.heap.size < wr.heap.size := by omega
          have hlr1 : w.heap.size + 1 < wr.heap.size := by omega
          obtain ⟨K1, K2, hK⟩ : ∃ K1 K2, powK s q ws k = (K1, K2) := ⟨_, _, rfl⟩
          obtain ⟨D1, D2, hD⟩ : ∃ D1 D2, dropE q ws[k] = (D1, D2) := ⟨_, _, rfl⟩
          obtain ⟨Q1, Q2, hQ⟩ : ∃ Q1 Q2, sqE q ws[k] = (Q1, Q2) := ⟨_, _, rfl⟩
          obtain ⟨R1, R2, hR⟩ : ∃ R1 R2, pwE s q ws[k] = (R1, R2) := ⟨_, _, rfl⟩
          obtain ⟨N1, N2, hN⟩ : ∃ N1 N2, powK s q ws (k + 1) = (N1, N2) := ⟨_, _, rfl⟩
          have HPN := Lib.hid hN
          have iK := powK_in s q ws k (by omega)
          have iN := powK_in s q ws (k + 1) (by omega)
          rw [powK_succ s q ws k hlt, hK, hR] at hN
          rw [hK] at S0 S1 iK
          rw [HPN.out] at iN
          have iR : In R1 ∧ In R2 := by have h := times_in' (sqE q ws[k]).1 (sqE q ws[k]).2 (rOfN ws[k].2.2 s) (rOfD ws[k].2.2 s); unfold pwE at hR; rw [hR] at h; exact h
          have iQ : In Q1 ∧ In Q2 := by have h := times_in' (dropE q ws[k]).1 (dropE q ws[k]).2 (dropE q ws[k]).1 (dropE q ws[k]).2; unfold sqE at hQ; rw [hQ] at h; exact h
          have iD : In D1 ∧ In D2 := by have h := diff_in (getP q ws[k].1).1 (getP q ws[k].1).2 (getP q ws[k].2.1).1 (getP q ws[k].2.1).2; unfold dropE at hD; rw [hD] at h; exact h
          unfold pwE at hR; rw [hQ] at hR
          unfold sqE at hQ; rw [hD] at hQ
          unfold dropE at hD
          simp only at hN hR hQ iK iN S0 S1
          have Qd := Lib.hid (fun W => s_diff hD i1 i2 W)
          have Qq := Lib.hid (fun W => s_times hQ iD iD W)
          have Qr := Lib.hid (fun W => s_times hR iQ (rOf_in ws[k].2.2 s) W)
          have Qs := Lib.hid (fun W => s_sum hN iK iR W)
          have Qo := Lib.hid (fun W => spec_rOf ws[k].2.2 s W (by omega) (by omega) (by omega) (by omega))
          have Qk := fun W => spec_rOk N1 N2 W iN.1.1 iN.1.2 iN.2.1 iN.2.2
          clear hK hD hQ hR hN iK iN iR iQ iD i1 i2 e1 e2 l1 l2 SK
          have hA : Below wr.heap.size wr (wr.alloc (.cells #[.int .i64 ws[k].1, .int .i64 ws[k].2.1, .int .i64 ws[k].2.2] 80)) := (Below.refl _ _).alloc (Nat.le_refl _) _
          have hT : (wr.alloc (.cells #[.int .i64 ws[k].1, .int .i64 ws[k].2.1, .int .i64 ws[k].2.2] 80)).cell? ⟨wr.heap.size, 0, none⟩ = some (.int .i64 ws[k].1) ∧ (wr.alloc (.cells #[.int .i64 ws[k].1, .int .i64 ws[k].2.1, .int .i64 ws[k].2.2] 80)).cell? ⟨wr.heap.size, 1, none⟩ = some (.int .i64 ws[k].2.1) ∧ (wr.alloc (.cells #[.int .i64 ws[k].1, .int .i64 ws[k].2.1, .int .i64 ws[k].2.2] 80)).cell? ⟨wr.heap.size, 2, none⟩ = some (.int .i64 ws[k].2.2) ∧ (wr.alloc (.cells #[.int .i64 ws[k].1, .int .i64 ws[k].2.1, .int .i64 ws[k].2.2] 80)).cell? ⟨w.heap.size, 2, none⟩ = some (.int .i64 s) ∧ (wr.alloc (.cells #[.int .i64 ws[k].1, .int .i64 ws[k].2.1, .int .i64 ws[k].2.2] 80)).cell? ⟨gp, op + ws[k].1.toNat * 2, none⟩ = some (.int .i64 (getP q ws[k].1).1) ∧ (wr.alloc (.cells #[.int .i64 ws[k].1, .int .i64 ws[k].2.1, .int .i64 ws[k].2.2] 80)).cell? ⟨gp, op + ws[k].1.toNat * 2 + 1, none⟩ = some (.int .i64 (getP q ws[k].1).2) ∧ (wr.alloc (.cells #[.int .i64 ws[k].1, .int .i64 ws[k].2.1, .int .i64 ws[k].2.2] 80)).cell? ⟨gp, op + ws[k].2.1.toNat * 2, none⟩ = some (.int .i64 (getP q ws[k].2.1).1) ∧ (wr.alloc (.cells #[.int .i64 ws[k].1, .int .i64 ws[k].2.1, .int .i64 ws[k].2.2] 80)).cell? ⟨gp, op + ws[k].2.1.toNat * 2 + 1, none⟩ = some (.int .i64 (getP q ws[k].2.1).2) ∧ (wr.alloc (.cells #[.int .i64 ws[k].1, .int .i64 ws[k].2.1, .int .i64 ws[k].2.2] 80)).cell? ⟨wp.heap.size, 0, none⟩ = some (.int .i64 K1) ∧ (wr.alloc (.cells #[.int .i64 ws[k].1, .int .i64 ws[k].2.1, .int .i64 ws[k].2.2] 80)).cell? ⟨wp.heap.size, 1, none⟩ = some (.int .i64 K2) ∧ wr.heap.size + 1 ≤ (wr.alloc (.cells #[.int .i64 ws[k].1, .int .i64 ws[k].2.1, .int .i64 ws[k].2.2] 80)).heap.size ∧ wr.heap.size ≤ wr.heap.size + 1 ∧ Below wr.heap.size wr (wr.alloc (.cells #[.int .i64 ws[k].1, .int .i64 ws[k].2.1, .int .i64 ws[k].2.2] 80)) := ⟨by simp [go_sem], by simp [go_sem], by simp [go_sem], (hA.cell (p := ⟨w.heap.size, 2, none⟩) hlr).trans x2, (hA.cell (p := ⟨gp, _, none⟩) hgr).trans a0, (hA.cell (p := ⟨gp, _, none⟩) hgr).trans a1, (hA.cell (p := ⟨gp, _, none⟩) hgr).trans b0, (hA.cell (p := ⟨gp, _, none⟩) hgr).trans b1, (hA.cell (p := ⟨wp.heap.size, 0, none⟩) hl3).trans S0, (hA.cell (p := ⟨wp.heap.size, 1, none⟩) hl3).trans S1, by simp, Nat.le_succ _, hA⟩
          have hL : wr.heap.size < wr.heap.size + 1 ∧ wr.heap.size < wr.heap.size + 1 ∧ wr.heap.size < wr.heap.size + 1 ∧ w.heap.size < wr.heap.size + 1 ∧ gp < wr.heap.size + 1 ∧ gp < wr.heap.size + 1 ∧ gp < wr.heap.size + 1 ∧ gp < wr.heap.size + 1 ∧ wp.heap.size < wr.heap.size + 1 ∧ wp.heap.size < wr.heap.size + 1 := by omega
          clear a0 a1 b0 b1 S0 S1 x0 x1 x2 x3 hA
          go_upto_region 13 with fail
          go_cut [11] (fun s3 wx => ∃ q9 : Nat, s3 = .pointer (some ⟨q9, 0, none⟩) ∧ (wx.cell? ⟨q9, 0, none⟩ = some (.int .i64 D1) ∧ wx.cell? ⟨q9, 1, none⟩ = some (.int .i64 D2) ∧ wx.frozen? ⟨q9, 0, none⟩ = false ∧ wx.frozen? ⟨q9, 1, none⟩ = false ∧ q9 < wx.heap.size ∧ wr.heap.size + 1 ≤ q9) ∧ wx.cell? ⟨wr.heap.size, 0, none⟩ = some (.int .i64 ws[k].1) ∧ wx.cell? ⟨wr.heap.size, 1, none⟩ = some (.int .i64 ws[k].2.1) ∧ wx.cell? ⟨wr.heap.size, 2, none⟩ = some (.int .i64 ws[k].2.2) ∧ wx.cell? ⟨w.heap.size, 2, none⟩ = some (.int .i64 s) ∧ wx.cell? ⟨gp, op + ws[k].1.toNat * 2, none⟩ = some (.int .i64 (getP q ws[k].1).1) ∧ wx.cell? ⟨gp, op + ws[k].1.toNat * 2 + 1, none⟩ = some (.int .i64 (getP q ws[k].1).2) ∧ wx.cell? ⟨gp, op + ws[k].2.1.toNat * 2, none⟩ = some (.int .i64 (getP q ws[k].2.1).1) ∧ wx.cell? ⟨gp, op + ws[k].2.1.toNat * 2 + 1, none⟩ = some (.int .i64 (getP q ws[k].2.1).2) ∧ wx.cell? ⟨wp.heap.size, 0, none⟩ = some (.int .i64 K1) ∧ wx.cell? ⟨wp.heap.size, 1, none⟩ = some (.int .i64 K2) ∧ wr.heap.size + 1 ≤ wx.heap.size ∧ wr.heap.size ≤ wr.heap.size + 1 ∧ Below wr.heap.size wr wx)
          case first =>
            have hS := k10_drew hT
            go_region_held3 (fun w' => w'.cell? ⟨wr.heap.size, 0, none⟩ = some (.int .i64 ws[k].1) ∧ w'.cell? ⟨wr.heap.size, 1, none⟩ = some (.int .i64 ws[k].2.1) ∧ w'.cell? ⟨wr.heap.size, 2, none⟩ = some (.int .i64 ws[k].2.2) ∧ w'.cell? ⟨w.heap.size, 2, none⟩ = some (.int .i64 s) ∧ w'.cell? ⟨gp, op + ws[k].1.toNat * 2, none⟩ = some (.int .i64 (getP q ws[k].1).1) ∧ w'.cell? ⟨gp, op + ws[k].1.toNat * 2 + 1, none⟩ = some (.int .i64 (getP q ws[k].1).2) ∧ w'.cell? ⟨gp, op + ws[k].2.1.toNat * 2, none⟩ = some (.int .i64 (getP q ws[k].2.1).1) ∧ w'.cell? ⟨gp, op + ws[k].2.1.toNat * 2 + 1, none⟩ = some (.int .i64 (getP q ws[k].2.1).2) ∧ w'.cell? ⟨wp.heap.size, 0, none⟩ = some (.int .i64 K1) ∧ w'.cell? ⟨wp.heap.size, 1, none⟩ = some (.int .i64 K2) ∧ wr.heap.size + 1 ≤ w'.heap.size ∧ wr.heap.size ≤ wr.heap.size + 1 ∧ Below wr.heap.size wr w')
              (first | exact hS | exact k10_alloc hS | exact k10_set hN.2.2.2.2.2 hL (k10_set hN.2.2.2.2.2 hL hS) | exact k10_set hS.2.2.2.2.2.2.2.2.2.2.1 hL (k10_set hS.2.2.2.2.2.2.2.2.2.2.1 hL (k10_alloc hS)))
              (first
                | (go_at_call 87; with_reducible refine Calls.mono (Qd.out _) ?_; rintro en wa ⟨rfl, Ba⟩; (first | (have hN := kept_new Ba hS.2.2.2.2.2.2.2.2.2.2.1) | (have hN := kept_newd Ba hS.2.2.2.2.2.2.2.2.2.2.1; (try simp only [World.size_alloc] at hN)) | (have hN := kept_on Ba hN) | skip); (first | with_reducible (replace hS := k10_keep Ba hS) | with_reducible (replace hS := k10_keep Ba (k10_allocd hS)) | with_reducible (replace hS := k10_keep Ba (k10_alloc hS)))))
            all_goals
              go_wp2_with fail
              go_meet
              first
              | exact ⟨_, rfl, kept_laid (lo := wr.heap.size + 1) hS.2.2.2.2.2.2.2.2.2.2.1, k10_alloc hS⟩
              | exact ⟨_, rfl, kept_put hN, k10_set hN.2.2.2.2.2 hL (k10_set hN.2.2.2.2.2 hL hS)⟩
          case rest =>
            obtain ⟨q9, rfl, ⟨n1, n2, n3, n4, n5, n6⟩, hS⟩ := hcut
            obtain ⟨b0, b1, b2, b3, b4, b5, b6, b7, b8, b9, z1, z2, z3⟩ := hS
            have hsz9 := z3.size
            have hBp : Below wp.heap.size wp wc := hB.out.trans (z3.mono hB.out.size)
            have hT2 : wc.cell? ⟨wp.heap.size, 0, none⟩ = some (.int .i64 K1) ∧ wc.cell? ⟨wp.heap.size, 1, none⟩ = some (.int .i64 K2) ∧ (∀ o, wc.frozen? ⟨wp.heap.size, o, none⟩ = false) ∧ wp.heap.size < wc.heap.size := ⟨b8, b9, fun o => (z3.frozen (p := ⟨wp.heap.size, o, none⟩) hl3).trans (SF o), Nat.lt_of_lt_of_le hl3 hsz9⟩
            have hU : wc.cell? ⟨q9, 0, none⟩ = some (.int .i64 D1) ∧ wc.cell? ⟨q9, 1, none⟩ = some (.int .i64 D2) ∧ wc.cell? ⟨wr.heap.size, 2, none⟩ = some (.int .i64 ws[k].2.2) ∧ wc.cell? ⟨w.heap.size, 2, none⟩ = some (.int .i64 s) ∧ wc.cell? ⟨w.heap.size + 1, 0, none⟩ = some (.int .i64 0) ∧ wc.cell? ⟨w.heap.size + 1, 1, none⟩ = some (.int .i64 0) ∧ wp.heap.size ≤ wc.heap.size ∧ wp.heap.size ≤ wp.heap.size ∧ Below wp.heap.size wp wc := ⟨n1, n2, b2, b3, (z3.cell (p := ⟨w.heap.size + 1, 0, none⟩) hlr1).trans r0, (z3.cell (p := ⟨w.heap.size + 1, 1, none⟩) hlr1).trans r1, by omega, Nat.le_refl _, hBp⟩
            have hN6 : wp.heap.size ≠ q9 ∧ wp.heap.size ≠ q9 ∧ wp.heap.size ≠ wr.heap.size ∧ wp.heap.size ≠ w.heap.size ∧ wp.heap.size ≠ w.heap.size + 1 ∧ wp.heap.size ≠ w.heap.size + 1 := by omega
            have HSF : Hid (∀ o, wp.frozen? ⟨w.heap.size + 1, o, none⟩ = false) := Lib.hid (fun o => (HPB.out.frozen (p := ⟨w.heap.size + 1, o, none⟩) hlW).trans (HZ.out.2.2 o))
            clear b0 b1 b2 b3 b4 b5 b6 b7 b8 b9 z1 z2 z3 n1 n2 n3 n4 n5 n6 hT hL hS0 SF r0 r1 rf c0 c1 c2 hBp
            go_upto_region 14 with fail
            go_cut [63] (fun s63 wx => s63 = .agg #[.int .i64 N1, .int .i64 N2] ∧ (wx.cell? ⟨wp.heap.size, 0, none⟩ = some (.int .i64 N1) ∧ wx.cell? ⟨wp.heap.size, 1, none⟩ = some (.int .i64 N2) ∧ (∀ o, wx.frozen? ⟨wp.heap.size, o, none⟩ = false) ∧ wp.heap.size < wx.heap.size) ∧ wx.cell? ⟨q9, 0, none⟩ = some (.int .i64 D1) ∧ wx.cell? ⟨q9, 1, none⟩ = some (.int .i64 D2) ∧ wx.cell? ⟨wr.heap.size, 2, none⟩ = some (.int .i64 ws[k].2.2) ∧ wx.cell? ⟨w.heap.size, 2, none⟩ = some (.int .i64 s) ∧ wx.cell? ⟨w.heap.size + 1, 0, none⟩ = some (.int .i64 0) ∧ wx.cell? ⟨w.heap.size + 1, 1, none⟩ = some (.int .i64 0) ∧ wp.heap.size ≤ wx.heap.size ∧ wp.heap.size ≤ wp.heap.size ∧ Below wp.heap.size wp wx)
            case first =>
              have hS := k6_drew hU
              have hT := t2_drew hT2
              clear hU hT2
              refine wp_region_held_drew (S := fun w' => w'.cell? ⟨q9, 0, none⟩ = some (.int .i64 D1) ∧ w'.cell? ⟨q9, 1, none⟩ = some (.int .i64 D2) ∧ w'.cell? ⟨wr.heap.size, 2, none⟩ = some (.int .i64 ws[k].2.2) ∧ w'.cell? ⟨w.heap.size, 2, none⟩ = some (.int .i64 s) ∧ w'.cell? ⟨w.heap.size + 1, 0, none⟩ = some (.int .i64 0) ∧ w'.cell? ⟨w.heap.size + 1, 1, none⟩ = some (.int .i64 0) ∧ wp.heap.size ≤ w'.heap.size ∧ wp.heap.size ≤ wp.heap.size ∧ Below wp.heap.size wp w') (by kernel_rfl) hS (fun hHeld => ?_)
              refine take_on (i := 1) (d := some 54) (v := .agg #[.int .i64 D1, .int .i64 D2]) rfl rfl (by kernel_rfl) (by kernel_rfl) (by kernel_rfl) (fun _ _ _ h => h) (by rfl) (by (intro w hSw; (try dsimp only at hSw); go_simp)) (by assumption) ?_
              try simp only [Act.put, List.setIfInBounds_toArray, List.set_cons_zero, List.set_cons_succ]
              refine take_on (i := 2) (d := some 55) (v := .agg #[.int .i64 D1, .int .i64 D2]) rfl rfl (by kernel_rfl) (by kernel_rfl) (by kernel_rfl) (fun _ _ _ h => h) (by rfl) (by (intro w hSw; (try dsimp only at hSw); go_simp)) (by assumption) ?_
              try simp only [Act.put, List.setIfInBounds_toArray, List.set_cons_zero, List.set_cons_succ]
              refine take_on (i := 4) (d := some 57) (v := .pointer (some ⟨wr.heap.size, 2, none⟩)) rfl rfl (by kernel_rfl) (by kernel_rfl) (by kernel_rfl) (fun _ _ _ h => h) (by rfl) (by (intro w hSw; (try dsimp only at hSw); go_simp)) (by assumption) ?_
              try simp only [Act.put, List.setIfInBounds_toArray, List.set_cons_zero, List.set_cons_succ]
              refine take_on (i := 5) (d := some 58) (v := .int .i64 ws[k].2.2) rfl rfl (by kernel_rfl) (by kernel_rfl) (by kernel_rfl) (fun _ _ _ h => h) (by rfl) (by (intro w hSw; (try dsimp only at hSw); go_simp)) (by assumption) ?_
              try simp only [Act.put, List.setIfInBounds_toArray, List.set_cons_zero, List.set_cons_succ]
              refine take_on (i := 6) (d := some 59) (v := .pointer (some ⟨w.heap.size, 2, none⟩)) rfl rfl (by kernel_rfl) (by kernel_rfl) (by kernel_rfl) (fun _ _ _ h => h) (by rfl) (by (intro w hSw; (try dsimp only at hSw); go_simp)) (by assumption) ?_
              try simp only [Act.put, List.setIfInBounds_toArray, List.set_cons_zero, List.set_cons_succ]
              refine take_on (i := 7) (d := some 60) (v := .int .i64 s) rfl rfl (by kernel_rfl) (by kernel_rfl) (by kernel_rfl) (fun _ _ _ h => h) (by rfl) (by (intro w hSw; (try dsimp only at hSw); go_simp)) (by assumption) ?_
              try simp only [Act.put, List.setIfInBounds_toArray, List.set_cons_zero, List.set_cons_succ]
              refine wpAnyH_ready (rs := [0, 3]) (by kernel_rfl) (by simp) ?_
              refine AllReadyH.cons rfl (fun K hK => ?_) (AllReadyH.cons rfl (fun K hK => ?_) AllReadyH.nil)
              · go_simp
                refine hK.out _ _ hS (fun hHeld => ?_)
                clear hK K
                try simp only [Act.put, List.setIfInBounds_toArray, List.set_cons_zero, List.set_cons_succ]
                refine wpAnyH_ready (rs := [3]) (by kernel_rfl) (by simp) ?_
                refine AllReadyH.cons rfl (fun K hK => ?_) AllReadyH.nil
                go_simp
                with_reducible refine Calls.mono (Qq.out _) ?_
                rintro en wa ⟨rfl, Bwa⟩
                replace hS := k6_keep Bwa hS
                replace hT := t2_keep Bwa hT
                clear Bwa
                go_wp2_with fail
                refine hK.out _ _ hS (fun hHeld => ?_)
                clear hK K
                try simp only [Act.put, List.setIfInBounds_toArray, List.set_cons_zero, List.set_cons_succ]
                refine wpAnyH_ready (rs := [8]) (by kernel_rfl) (by simp) ?_
                refine AllReadyH.cons rfl (fun K hK => ?_) AllReadyH.nil
                go_simp
                with_reducible refine Calls.mono (Qo.out _) ?_
                rintro en wb ⟨rfl, Bwb⟩
                replace hS := k6_keep Bwb hS
                replace hT := t2_keep Bwb hT
                clear Bwb
                go_wp2_with fail
                refine hK.out _ _ hS (fun hHeld => ?_)
                clear hK K
                try simp only [Act.put, List.setIfInBounds_toArray, List.set_cons_zero, List.set_cons_succ]
                refine wpAnyH_ready (rs := [9]) (by kernel_rfl) (by simp) ?_
                refine AllReadyH.cons rfl (fun K hK => ?_) AllReadyH.nil
                go_simp
                with_reducible refine Calls.mono (Qr.out _) ?_
                rintro en wd ⟨rfl, Bwd⟩
                replace hS := k6_keep Bwd hS
                replace hT := t2_keep Bwd hT
                clear Bwd
                go_wp2_with fail
                refine hK.out _ _ hS (fun hHeld => ?_)
                clear hK K
                try simp only [Act.put, List.setIfInBounds_toArray, List.set_cons_zero, List.set_cons_succ]
                refine wpAnyH_ready (rs := [10]) (by kernel_rfl) (by simp) ?_
                refine AllReadyH.cons rfl (fun K hK => ?_) AllReadyH.nil
                go_simp
                with_reducible refine Calls.mono (Qs.out _) ?_
                rintro en we ⟨rfl, Bwe⟩
                replace hS := k6_keep Bwe hS
                replace hT := t2_keep Bwe hT
                clear Bwe
                go_wp2_with fail
                refine hK.out _ _ hS (fun hHeld => ?_)
                clear hK K
                try simp only [Act.put, List.setIfInBounds_toArray, List.set_cons_zero, List.set_cons_succ]
                refine wpAnyH_ready (rs := [11]) (by kernel_rfl) (by simp) ?_
                refine AllReadyH.cons rfl (fun K hK => ?_) AllReadyH.nil
                go_simp
                refine hK.out _ _ (k6_put hN6 (Nat.le_refl _) (k6_put hN6 (Nat.le_refl _) hS)) (fun hHeld => ?_)
                clear hK K
                try simp only [Act.put, List.setIfInBounds_toArray, List.set_cons_zero, List.set_cons_succ]
                refine wpAnyH_done (by kernel_rfl) ?_ _
                go_wp2_with fail
                go_meet
                exact ⟨rfl, t2_set hT, k6_put hN6 (Nat.le_refl _) (k6_put hN6 (Nat.le_refl _) hS)⟩
              · go_simp
                with_reducible refine Calls.mono (Qq.out _) ?_
                rintro en wa ⟨rfl, Bwa⟩
                replace hS := k6_keep Bwa hS
                replace hT := t2_keep Bwa hT
                clear Bwa
                go_wp2_with fail
                refine hK.out _ _ hS (fun hHeld => ?_)
                clear hK K
                try simp only [Act.put, List.setIfInBounds_toArray, List.set_cons_zero, List.set_cons_succ]
                refine wpAnyH_ready (rs := [0, 8]) (by kernel_rfl) (by simp) ?_
                refine AllReadyH.cons rfl (fun K hK => ?_) (AllReadyH.cons rfl (fun K hK => ?_) AllReadyH.nil)
                · go_simp
                  refine hK.out _ _ hS (fun hHeld => ?_)
                  clear hK K
                  try simp only [Act.put, List.setIfInBounds_toArray, List.set_cons_zero, List.set_cons_succ]
                  refine wpAnyH_ready (rs := [8]) (by kernel_rfl) (by simp) ?_
                  refine AllReadyH.cons rfl (fun K hK => ?_) AllReadyH.nil
                  go_simp
                  with_reducible refine Calls.mono (Qo.out _) ?_
                  rintro en wb ⟨rfl, Bwb⟩
                  replace hS := k6_keep Bwb hS
                  replace hT := t2_keep Bwb hT
                  clear Bwb
                  go_wp2_with fail
                  refine hK.out _ _ hS (fun hHeld => ?_)
                  clear hK K
                  try simp only [Act.put, List.setIfInBounds_toArray, List.set_cons_zero, List.set_cons_succ]
                  refine wpAnyH_ready (rs := [9]) (by kernel_rfl) (by simp) ?_
                  refine AllReadyH.cons rfl (fun K hK => ?_) AllReadyH.nil
                  go_simp
                  with_reducible refine Calls.mono (Qr.out _) ?_
                  rintro en wd ⟨rfl, Bwd⟩
                  replace hS := k6_keep Bwd hS
                  replace hT := t2_keep Bwd hT
                  clear Bwd
                  go_wp2_with fail
                  refine hK.out _ _ hS (fun hHeld => ?_)
                  clear hK K
                  try simp only [Act.put, List.setIfInBounds_toArray, List.set_cons_zero, List.set_cons_succ]
                  refine wpAnyH_ready (rs := [10]) (by kernel_rfl) (by simp) ?_
                  refine AllReadyH.cons rfl (fun K hK => ?_) AllReadyH.nil
                  go_simp
                  with_reducible refine Calls.mono (Qs.out _) ?_
                  rintro en we ⟨rfl, Bwe⟩
                  replace hS := k6_keep Bwe hS
                  replace hT := t2_keep Bwe hT
                  clear Bwe
                  go_wp2_with fail
                  refine hK.out _ _ hS (fun hHeld => ?_)
                  clear hK K
                  try simp only [Act.put, List.setIfInBounds_toArray, List.set_cons_zero, List.set_cons_succ]
                  refine wpAnyH_ready (rs := [11]) (by kernel_rfl) (by simp) ?_
                  refine AllReadyH.cons rfl (fun K hK => ?_) AllReadyH.nil
                  go_simp
                  refine hK.out _ _ (k6_put hN6 (Nat.le_refl _) (k6_put hN6 (Nat.le_refl _) hS)) (fun hHeld => ?_)
                  clear hK K
                  try simp only [Act.put, List.setIfInBounds_toArray, List.set_cons_zero, List.set_cons_succ]
                  refine wpAnyH_done (by kernel_rfl) ?_ _
                  go_wp2_with fail
                  go_meet
                  exact ⟨rfl, t2_set hT, k6_put hN6 (Nat.le_refl _) (k6_put hN6 (Nat.le_refl _) hS)⟩
                · go_simp
                  with_reducible refine Calls.mono (Qo.out _) ?_
                  rintro en wb ⟨rfl, Bwb⟩
                  replace hS := k6_keep Bwb hS
                  replace hT := t2_keep Bwb hT
                  clear Bwb
                  go_wp2_with fail
                  refine hK.out _ _ hS (fun hHeld => ?_)
                  clear hK K
                  try simp only [Act.put, List.setIfInBounds_toArray, List.set_cons_zero, List.set_cons_succ]
                  refine wpAnyH_ready (rs := [0, 9]) (by kernel_rfl) (by simp) ?_
                  refine AllReadyH.cons rfl (fun K hK => ?_) (AllReadyH.cons rfl (fun K hK => ?_) AllReadyH.nil)
                  · go_simp
                    refine hK.out _ _ hS (fun hHeld => ?_)
                    clear hK K
                    try simp only [Act.put, List.setIfInBounds_toArray, List.set_cons_zero, List.set_cons_succ]
                    refine wpAnyH_ready (rs := [9]) (by kernel_rfl) (by simp) ?_
                    refine AllReadyH.cons rfl (fun K hK => ?_) AllReadyH.nil
                    go_simp
                    with_reducible refine Calls.mono (Qr.out _) ?_
                    rintro en wd ⟨rfl, Bwd⟩
                    replace hS := k6_keep Bwd hS
                    replace hT := t2_keep Bwd hT
                    clear Bwd
                    go_wp2_with fail
                    refine hK.out _ _ hS (fun hHeld => ?_)
                    clear hK K
                    try simp only [Act.put, List.setIfInBounds_toArray, List.set_cons_zero, List.set_cons_succ]
                    refine wpAnyH_ready (rs := [10]) (by kernel_rfl) (by simp) ?_
                    refine AllReadyH.cons rfl (fun K hK => ?_) AllReadyH.nil
                    go_simp
                    with_reducible refine Calls.mono (Qs.out _) ?_
                    rintro en we ⟨rfl, Bwe⟩
                    replace hS := k6_keep Bwe hS
                    replace hT := t2_keep Bwe hT
                    clear Bwe
                    go_wp2_with fail
                    refine hK.out _ _ hS (fun hHeld => ?_)
                    clear hK K
                    try simp only [Act.put, List.setIfInBounds_toArray, List.set_cons_zero, List.set_cons_succ]
                    refine wpAnyH_ready (rs := [11]) (by kernel_rfl) (by simp) ?_
                    refine AllReadyH.cons rfl (fun K hK => ?_) AllReadyH.nil
                    go_simp
                    refine hK.out _ _ (k6_put hN6 (Nat.le_refl _) (k6_put hN6 (Nat.le_refl _) hS)) (fun hHeld => ?_)
                    clear hK K
                    try simp only [Act.put, List.setIfInBounds_toArray, List.set_cons_zero, List.set_cons_succ]
                    refine wpAnyH_done (by kernel_rfl) ?_ _
                    go_wp2_with fail
                    go_meet
                    exact ⟨rfl, t2_set hT, k6_put hN6 (Nat.le_refl _) (k6_put hN6 (Nat.le_refl _) hS)⟩
                  · go_simp
                    with_reducible refine Calls.mono (Qr.out _) ?_
                    rintro en wd ⟨rfl, Bwd⟩
                    replace hS := k6_keep Bwd hS
                    replace hT := t2_keep Bwd hT
                    clear Bwd
                    go_wp2_with fail
                    refine hK.out _ _ hS (fun hHeld => ?_)
                    clear hK K
                    try simp only [Act.put, List.setIfInBounds_toArray, List.set_cons_zero, List.set_cons_succ]
                    refine wpAnyH_ready (rs := [0]) (by kernel_rfl) (by simp) ?_
                    refine AllReadyH.cons rfl (fun K hK => ?_) AllReadyH.nil
                    go_simp
                    refine hK.out _ _ hS (fun hHeld => ?_)
                    clear hK K
                    try simp only [Act.put, List.setIfInBounds_toArray, List.set_cons_zero, List.set_cons_succ]
                    refine wpAnyH_ready (rs := [10]) (by kernel_rfl) (by simp) ?_
                    refine AllReadyH.cons rfl (fun K hK => ?_) AllReadyH.nil
                    go_simp
                    with_reducible refine Calls.mono (Qs.out _) ?_
                    rintro en we ⟨rfl, Bwe⟩
                    replace hS := k6_keep Bwe hS
                    replace hT := t2_keep Bwe hT
                    clear Bwe
                    go_wp2_with fail
                    refine hK.out _ _ hS (fun hHeld => ?_)
                    clear hK K
                    try simp only [Act.put, List.setIfInBounds_toArray, List.set_cons_zero, List.set_cons_succ]
                    refine wpAnyH_ready (rs := [11]) (by kernel_rfl) (by simp) ?_
                    refine AllReadyH.cons rfl (fun K hK => ?_) AllReadyH.nil
                    go_simp
                    refine hK.out _ _ (k6_put hN6 (Nat.le_refl _) (k6_put hN6 (Nat.le_refl _) hS)) (fun hHeld => ?_)
                    clear hK K
                    try simp only [Act.put, List.setIfInBounds_toArray, List.set_cons_zero, List.set_cons_succ]
                    refine wpAnyH_done (by kernel_rfl) ?_ _
                    go_wp2_with fail
                    go_meet
                    exact ⟨rfl, t2_set hT, k6_put hN6 (Nat.le_refl _) (k6_put hN6 (Nat.le_refl _) hS)⟩
            case rest =>
              rename World => X
              obtain ⟨rfl, ⟨m0, m1, mf, hlX2⟩, m2, m3, m4, m5, u0, u1, -, -, hE⟩ := hcut
              have uf : ∀ o, X.frozen? ⟨w.heap.size + 1, o, none⟩ = false := fun o => (hE.frozen (p := ⟨w.heap.size + 1, o, none⟩) hlp1).trans (HSF.out o)
              have HB2 := Lib.hid hE
              clear hE m2 m3 m4 m5 hU hT2
              cases hk9 : rOk N1 N2
              · rw [hk9] at Qk
                have HBAD := Lib.hid (powK_bad (s := s) (q := q) (ws := ws) (k := k + 1) (by rw [HPN.out]; exact hk9) ws.length (by omega) (Nat.le_refl _))
                have hXw : Hid (Below w.heap.size w X) := Lib.hid (HPW.out.trans (HB2.out.mono HPW.out.size))
                have hlX3 : w.heap.size + 1 < X.heap.size := by omega
                clear hk9 HB2
                go_wp2_with fail
                refine (Qk _).mono ?_
                rintro en wf ⟨rfl, Bf⟩
                have p0 := (Bf.cell (p := ⟨w.heap.size + 1, 0, none⟩) hlX3).trans u0
                have p1 := (Bf.cell (p := ⟨w.heap.size + 1, 1, none⟩) hlX3).trans u1
                have pf := fun o => (Bf.frozen (p := ⟨w.heap.size + 1, o, none⟩) hlX3).trans (uf o)
                have HF := Lib.hid (hXw.out.trans (Bf.mono hXw.out.size))
                clear u0 u1 uf m0 m1 mf Bf
                go_wp2
                exact bodyPost_ret (v := (.tuple #[.agg #[.int .i64 0, .int .i64 0], .bool false])) (by simp (maxDischargeDepth := 8) [results, Try.results47, go_sem, *]) rfl ⟨ret_bad HBAD.out, (HF.out.setCell (p := ⟨w.heap.size + 1, 0, none⟩) (Nat.le_succ _) _).setCell (p := ⟨w.heap.size + 1, 1, none⟩) (Nat.le_succ _) _⟩
              · rw [hk9] at Qk
                go_wp2_with fail
                refine (Qk _).mono ?_
                rintro en wf ⟨rfl, Bf⟩
                have HS2 : Hid (wf.cell? ⟨wp.heap.size, 0, none⟩ = some (.int .i64 (powK s q ws (k + 1)).1) ∧ wf.cell? ⟨wp.heap.size, 1, none⟩ = some (.int .i64 (powK s q ws (k + 1)).2) ∧ (∀ o, wf.frozen? ⟨wp.heap.size, o, none⟩ = false) ∧ rOk (powK s q ws (k + 1)).1 (powK s q ws (k + 1)).2 = true ∧ wp.heap.size < wf.heap.size) := Lib.hid (by rw [HPN.out]; exact ⟨(Bf.cell (p := ⟨wp.heap.size, 0, none⟩) hlX2).trans m0, (Bf.cell (p := ⟨wp.heap.size, 1, none⟩) hlX2).trans m1, fun o => (Bf.frozen (p := ⟨wp.heap.size, o, none⟩) hlX2).trans (mf o), hk9, Nat.lt_of_lt_of_le hlX2 Bf.size⟩)
                have HB3 := Lib.hid (HB2.out.trans (Bf.mono HB2.out.size))
                clear hk9 HB2 Bf u0 u1 uf m0 m1 mf
                go_wp2
                go_roundw
                case rel => exact ⟨k + 1, by omega, by go_num, HS2, HB3⟩
                case measure => simp [intOf]; omega
        · obtain rfl : k = ws.length := by omega
          obtain ⟨K1, K2, hK⟩ : ∃ K1 K2, powK s q ws ws.length = (K1, K2) := ⟨_, _, rfl⟩
          rw [hK] at S0 S1 SK
          have HK := Lib.hid hK
          have HSK := Lib.hid SK
          have hl1 : w.heap.size + 1 < wr.heap.size := by omega
          have HF := Lib.hid hBw
          clear hK SK hBw hB1r
          go_wp2
          exact bodyPost_ret (v := (.tuple #[.agg #[.int .i64 K1, .int .i64 K2], .bool true])) (by simp (maxDischargeDepth := 8) [results, Try.results47, go_sem, *]) rfl ⟨ret_good HK.out HSK.out, (HF.out.setCell (p := ⟨w.heap.size + 1, 0, none⟩) (Nat.le_succ _) _).setCell (p := ⟨w.heap.size + 1, 1, none⟩) (Nat.le_succ _) _⟩
end Go.Proofs.Ytpkddaapffamiaa
