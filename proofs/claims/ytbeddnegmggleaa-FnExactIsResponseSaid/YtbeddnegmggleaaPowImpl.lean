/-
  The power of one branch in the program.
-/
import Derived.Test.YtbeddnegmggleaaPowR
import Derived.Test.YtbeddnegmggleaaKeepN
import Derived.Test.YtbeddnegmggleaaKept
import Derived.Deep.RegionHeld3
import Derived.Deep.DeepCutAuto
namespace Go.Proofs.Ytbeddnegmggleaa
open Go.RowKit

theorem diff_in (n d m e : Int) : In (rDiff n d m e).1 ∧ In (rDiff n d m e).2 := by
  unfold rDiff
  split
  · exact rOf_in _ _
  · simp [In]
set_option maxRecDepth 8000 in
set_option maxHeartbeats 6400000 in
theorem impl_power (g o1 o2 : Nat) (n d m e c1 c2 : Int) (w : World) (f0 : w.cell? ⟨g, o1, none⟩ = some (.int .i64 n)) (f1 : w.cell? ⟨g, o1 + 1, none⟩ = some (.int .i64 d)) (t0 : w.cell? ⟨g, o2, none⟩ = some (.int .i64 m)) (t1 : w.cell? ⟨g, o2 + 1, none⟩ = some (.int .i64 e)) (hn : In n ∧ In d) (hm : In m ∧ In e) (hc : In c1 ∧ In c2) :
    Calls Try.prog 72 #[.agg #[.pointer (some ⟨g, o1, none⟩), .pointer (some ⟨g, o2, none⟩), .int .i64 c1, .int .i64 c2]] w fun en w' => en = .returned (.agg #[.int .i64 (rTimes (rTimes (rDiff n d m e).1 (rDiff n d m e).2 (rDiff n d m e).1 (rDiff n d m e).2).1 (rTimes (rDiff n d m e).1 (rDiff n d m e).2 (rDiff n d m e).1 (rDiff n d m e).2).2 c1 c2).1, .int .i64 (rTimes (rTimes (rDiff n d m e).1 (rDiff n d m e).2 (rDiff n d m e).1 (rDiff n d m e).2).1 (rTimes (rDiff n d m e).1 (rDiff n d m e).2 (rDiff n d m e).1 (rDiff n d m e).2).2 c1 c2).2]) ∧ Below w.heap.size w w' := by
  have hI := diff_in n d m e
  have hgl : g < w.heap.size := World.block_lt_of_cell? w _ f0
  obtain ⟨D1, D2, hD⟩ : ∃ D1 D2, rDiff n d m e = (D1, D2) := ⟨_, _, rfl⟩
  rw [hD] at hI ⊢
  simp only at hI ⊢
  obtain ⟨Q1, Q2, hQ⟩ : ∃ Q1 Q2, rTimes D1 D2 D1 D2 = (Q1, Q2) := ⟨_, _, rfl⟩
  rw [hQ]
  simp only
  obtain ⟨R1, R2, hR⟩ : ∃ R1 R2, rTimes Q1 Q2 c1 c2 = (R1, R2) := ⟨_, _, rfl⟩
  rw [hR]
  simp only
  have Qd := Lib.hid (c_diff hD hn hm)
  have Qq := Lib.hid (c_times hQ hI hI)
  have Qr := Lib.hid (c_times hR (times_in hQ) hc)
  clear hD hQ hR hn hm hc hI
  go_enter Try.func72, Try.ntmps72
  obtain ⟨W1, hW1⟩ : ∃ W1, W1 = (w.alloc (.cells #[.pointer (some ⟨g, o1, none⟩), .pointer (some ⟨g, o2, none⟩), .int .i64 c1, .int .i64 c2] 94)).alloc (.cells #[.int .i64 0, .int .i64 0] 31) := ⟨_, rfl⟩
  have hsW : W1.heap.size = w.heap.size + 1 + 1 := by rw [hW1]; simp
  have hBW : Below w.heap.size w W1 := by rw [hW1]; (repeat (first | exact Below.refl _ _ | (refine Below.setCell ?_ (by (first | exact Nat.le_refl _ | omega | (simp <;> omega) | simp)) _) | (refine Below.alloc ?_ (by (first | exact Nat.le_refl _ | omega | (simp <;> omega) | simp)) _) | (refine below_draws ?_ _)))
  have hT : W1.cell? ⟨w.heap.size, 0, none⟩ = some (.pointer (some ⟨g, o1, none⟩)) ∧ W1.cell? ⟨w.heap.size, 1, none⟩ = some (.pointer (some ⟨g, o2, none⟩)) ∧ W1.cell? ⟨w.heap.size, 2, none⟩ = some (.int .i64 c1) ∧ W1.cell? ⟨w.heap.size, 3, none⟩ = some (.int .i64 c2) ∧ W1.cell? ⟨g, o1, none⟩ = some (.int .i64 n) ∧ W1.cell? ⟨g, o1 + 1, none⟩ = some (.int .i64 d) ∧ W1.cell? ⟨g, o2, none⟩ = some (.int .i64 m) ∧ W1.cell? ⟨g, o2 + 1, none⟩ = some (.int .i64 e) ∧ w.heap.size + 1 + 1 ≤ W1.heap.size ∧ W1.heap.size ≤ w.heap.size + 1 + 1 ∧ Below W1.heap.size W1 W1 := ⟨by rw [hW1]; simp [go_sem], by rw [hW1]; simp [go_sem], by rw [hW1]; simp [go_sem], by rw [hW1]; simp [go_sem], (hBW.cell (p := ⟨g, o1, none⟩) hgl).trans f0, (hBW.cell (p := ⟨g, o1 + 1, none⟩) hgl).trans f1, (hBW.cell (p := ⟨g, o2, none⟩) hgl).trans t0, (hBW.cell (p := ⟨g, o2 + 1, none⟩) hgl).trans t1, by omega, by omega, Below.refl _ _⟩
  have hR0 : W1.cell? ⟨w.heap.size + 1, 0, none⟩ = some (.int .i64 0) ∧ W1.cell? ⟨w.heap.size + 1, 1, none⟩ = some (.int .i64 0) ∧ W1.frozen? ⟨w.heap.size + 1, 0, none⟩ = false ∧ W1.frozen? ⟨w.heap.size + 1, 1, none⟩ = false := by rw [hW1]; exact ⟨by simp [go_sem], by simp [go_sem], by simp [go_sem], by simp [go_sem]⟩
  have HR0 := Lib.hid hR0; clear hR0
  have hL : w.heap.size < w.heap.size + 1 + 1 ∧ w.heap.size < w.heap.size + 1 + 1 ∧ w.heap.size < w.heap.size + 1 + 1 ∧ w.heap.size < w.heap.size + 1 + 1 ∧ g < w.heap.size + 1 + 1 ∧ g < w.heap.size + 1 + 1 ∧ g < w.heap.size + 1 + 1 ∧ g < w.heap.size + 1 + 1 := by omega
  clear f0 f1 t0 t1
  go_upto_region 1 with fail
  rw [← hW1]
  have HSW := Lib.hid hsW
  clear hW1 hsW
  go_cut [3] (fun s3 wx => ∃ q : Nat, s3 = .pointer (some ⟨q, 0, none⟩) ∧ (wx.cell? ⟨q, 0, none⟩ = some (.int .i64 D1) ∧ wx.cell? ⟨q, 1, none⟩ = some (.int .i64 D2) ∧ wx.frozen? ⟨q, 0, none⟩ = false ∧ wx.frozen? ⟨q, 1, none⟩ = false ∧ q < wx.heap.size ∧ w.heap.size + 1 + 1 ≤ q) ∧ wx.cell? ⟨w.heap.size, 0, none⟩ = some (.pointer (some ⟨g, o1, none⟩)) ∧ wx.cell? ⟨w.heap.size, 1, none⟩ = some (.pointer (some ⟨g, o2, none⟩)) ∧ wx.cell? ⟨w.heap.size, 2, none⟩ = some (.int .i64 c1) ∧ wx.cell? ⟨w.heap.size, 3, none⟩ = some (.int .i64 c2) ∧ wx.cell? ⟨g, o1, none⟩ = some (.int .i64 n) ∧ wx.cell? ⟨g, o1 + 1, none⟩ = some (.int .i64 d) ∧ wx.cell? ⟨g, o2, none⟩ = some (.int .i64 m) ∧ wx.cell? ⟨g, o2 + 1, none⟩ = some (.int .i64 e) ∧ w.heap.size + 1 + 1 ≤ wx.heap.size ∧ W1.heap.size ≤ w.heap.size + 1 + 1 ∧ Below W1.heap.size W1 wx)
  case first =>
    have hS := k8_drew hT
    go_region_held3 (fun w' => w'.cell? ⟨w.heap.size, 0, none⟩ = some (.pointer (some ⟨g, o1, none⟩)) ∧ w'.cell? ⟨w.heap.size, 1, none⟩ = some (.pointer (some ⟨g, o2, none⟩)) ∧ w'.cell? ⟨w.heap.size, 2, none⟩ = some (.int .i64 c1) ∧ w'.cell? ⟨w.heap.size, 3, none⟩ = some (.int .i64 c2) ∧ w'.cell? ⟨g, o1, none⟩ = some (.int .i64 n) ∧ w'.cell? ⟨g, o1 + 1, none⟩ = some (.int .i64 d) ∧ w'.cell? ⟨g, o2, none⟩ = some (.int .i64 m) ∧ w'.cell? ⟨g, o2 + 1, none⟩ = some (.int .i64 e) ∧ w.heap.size + 1 + 1 ≤ w'.heap.size ∧ W1.heap.size ≤ w.heap.size + 1 + 1 ∧ Below W1.heap.size W1 w')
      (first | exact hS | exact k8_alloc hS | exact k8_set hN.2.2.2.2.2 hL (k8_set hN.2.2.2.2.2 hL hS) | exact k8_set hS.2.2.2.2.2.2.2.2.1 hL (k8_set hS.2.2.2.2.2.2.2.2.1 hL (k8_alloc hS)))
      (first
        | (go_at_call 114; with_reducible refine Calls.mono (Qd.out _) ?_; rintro en wa ⟨rfl, Ba⟩; (first | (have hN := kept_new Ba hS.2.2.2.2.2.2.2.2.1) | (have hN := kept_newd Ba hS.2.2.2.2.2.2.2.2.1; (try simp only [World.size_alloc] at hN)) | (have hN := kept_on Ba hN) | skip); (first | with_reducible (replace hS := k8_keep Ba hS) | with_reducible (replace hS := k8_keep Ba (k8_allocd hS)) | with_reducible (replace hS := k8_keep Ba (k8_alloc hS)))))
    all_goals
      go_wp2_with fail
      go_meet
      first
      | exact ⟨_, rfl, kept_laid (lo := w.heap.size + 1 + 1) hS.2.2.2.2.2.2.2.2.1, k8_alloc hS⟩
      | exact ⟨_, rfl, kept_put hN, k8_set hN.2.2.2.2.2 hL (k8_set hN.2.2.2.2.2 hL hS)⟩
  case rest =>
    obtain ⟨q, rfl, ⟨r1, r2, r3, r4, r5, r6⟩, hS⟩ := hcut
    have hsW := HSW.out
    obtain ⟨b0, b1, b2, b3, b4, b5, b6, b7, z1, z2, z3⟩ := hS
    have hU : wc.cell? ⟨w.heap.size, 2, none⟩ = some (.int .i64 c1) ∧ wc.cell? ⟨w.heap.size, 3, none⟩ = some (.int .i64 c2) ∧ wc.cell? ⟨q, 0, none⟩ = some (.int .i64 D1) ∧ wc.cell? ⟨q, 1, none⟩ = some (.int .i64 D2) ∧ wc.cell? ⟨w.heap.size, 0, none⟩ = some (.pointer (some ⟨g, o1, none⟩)) ∧ wc.cell? ⟨w.heap.size, 1, none⟩ = some (.pointer (some ⟨g, o2, none⟩)) ∧ w.heap.size ≤ wc.heap.size ∧ w.heap.size ≤ w.heap.size ∧ Below w.heap.size w wc := ⟨b2, b3, r1, r2, b0, b1, by (have := z3.size; omega), Nat.le_refl _, hBW.trans (z3.mono hBW.size)⟩
    have hN6 : w.heap.size + 1 ≠ w.heap.size ∧ w.heap.size + 1 ≠ w.heap.size ∧ w.heap.size + 1 ≠ q ∧ w.heap.size + 1 ≠ q ∧ w.heap.size + 1 ≠ w.heap.size ∧ w.heap.size + 1 ≠ w.heap.size := by omega
    have E0 : Below W1.heap.size W1 wc.drew := below_draws z3 1
    clear b4 b5 b6 b7
    go_wp2
    have hS := k6_drew hU
    clear hU
    go_region_held3 (fun w' => w'.cell? ⟨w.heap.size, 2, none⟩ = some (.int .i64 c1) ∧ w'.cell? ⟨w.heap.size, 3, none⟩ = some (.int .i64 c2) ∧ w'.cell? ⟨q, 0, none⟩ = some (.int .i64 D1) ∧ w'.cell? ⟨q, 1, none⟩ = some (.int .i64 D2) ∧ w'.cell? ⟨w.heap.size, 0, none⟩ = some (.pointer (some ⟨g, o1, none⟩)) ∧ w'.cell? ⟨w.heap.size, 1, none⟩ = some (.pointer (some ⟨g, o2, none⟩)) ∧ w.heap.size ≤ w'.heap.size ∧ w.heap.size ≤ w.heap.size ∧ Below w.heap.size w w')
      (first | exact hS | exact k6_put hN6 (show w.heap.size ≤ w.heap.size + 1 by omega) (k6_put hN6 (show w.heap.size ≤ w.heap.size + 1 by omega) hS))
      (first
        | (go_at_call 28; with_reducible refine Calls.mono (Qq.out _) ?_; rintro en wa ⟨rfl, Ba⟩; replace hS := k6_keep Ba hS; have E1 := E0.trans (Ba.mono E0.size))
        | (go_at_call 28; with_reducible refine Calls.mono (Qr.out _) ?_; rintro en wb ⟨rfl, Bb⟩; replace hS := k6_keep Bb hS; have hB9 := E1.trans (Bb.mono E1.size); have g0 := (hB9.cell (p := ⟨w.heap.size + 1, 0, none⟩) (show w.heap.size + 1 < W1.heap.size by omega)).trans HR0.out.1; have g1 := (hB9.cell (p := ⟨w.heap.size + 1, 1, none⟩) (show w.heap.size + 1 < W1.heap.size by omega)).trans HR0.out.2.1; have g2 := (hB9.frozen (p := ⟨w.heap.size + 1, 0, none⟩) (show w.heap.size + 1 < W1.heap.size by omega)).trans HR0.out.2.2.1; have g3 := (hB9.frozen (p := ⟨w.heap.size + 1, 1, none⟩) (show w.heap.size + 1 < W1.heap.size by omega)).trans HR0.out.2.2.2))
    all_goals
      go_wp2
      exact bodyPost_ret (v := (.agg #[.int .i64 R1, .int .i64 R2])) (by simp (maxDischargeDepth := 8) [results, Try.results72, go_sem, *]) rfl ⟨rfl, (hS.2.2.2.2.2.2.2.2.setCell (p := ⟨w.heap.size + 1, 0, none⟩) (show w.heap.size ≤ w.heap.size + 1 by omega) _).setCell (p := ⟨w.heap.size + 1, 1, none⟩) (show w.heap.size ≤ w.heap.size + 1 by omega) _⟩
end Go.Proofs.Ytbeddnegmggleaa
