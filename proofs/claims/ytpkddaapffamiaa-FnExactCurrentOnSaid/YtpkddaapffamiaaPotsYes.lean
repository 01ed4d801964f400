/-
  PotentialsOf in the model, where the nodes are there.
-/
import Derived.Test.YtpkddaapffamiaaGPots
namespace Go.Proofs.Ytpkddaapffamiaa
open Go.RowKit

set_option maxRecDepth 8000 in
set_option maxHeartbeats 12800000 in
theorem spec_pots_yes (N : Nat) (e s : Int) (i k0 : Nat) (v : Value) (ws : List W3) (w : World) (hb : netB N e s ws = true) (hi : i < N) (hk0 : k0 < N) (hne : i ≠ k0) (hr : ReadsW w v ws) :
    Calls Try.prog 40 #[.agg #[.int .i64 N, .int .i64 e, .int .i64 s, v], .int .i64 i, .int .i64 k0] w fun en w' => ∃ v', en = .returned (.tuple #[v', .bool (potsR N e s ws i k0).2]) ∧ w'.ownsRow w.heap.size 32 2 v' (potsR N e s ws i k0).1.length (cellsP (potsR N e s ws i k0).1) ∧ Below w.heap.size w w' := by
  obtain ⟨N1, N5⟩ := net_n hb
  have heq : ((i : Int) == (k0 : Int)) = false := by simp; omega
  have B0 : Below w.heap.size w (w.alloc (.cells #[.int .i64 N, .int .i64 e, .int .i64 s, v] 25)) := by (repeat (first | exact Below.refl _ _ | (refine Below.setCell ?_ (by (first | exact Nat.le_refl _ | omega | (simp <;> omega) | simp)) _) | (refine Below.alloc ?_ (by (first | exact Nat.le_refl _ | omega | (simp <;> omega) | simp)) _) | (refine below_draws ?_ _)))
  have hr0 := hr.later B0
  have hok := spec_netOk N e s v ws _ hr0
  rw [hb] at hok
  obtain ⟨p, cap, rfl⟩ := hr.shape
  have hf : feedB N e s ws i k0 = true := by unfold feedB hasB; simp [hb]; omega
  have HP := Lib.hid (potsR_yes hf)
  obtain ⟨s1, s2⟩ := net_scale hb
  have hpr := fun v (hv : v < N) => potI_range (net_nat hb).2.2 (by omega) i k0 v (by omega) (by omega) hv (by omega)
  have HPR := Lib.hid hpr; clear hpr hf
  obtain ⟨W0, hW0⟩ : ∃ W0, W0 = (w.alloc (.cells #[.int .i64 N, .int .i64 e, .int .i64 s, .slice p ws.length cap] 25)) := ⟨_, rfl⟩
  have hsW : W0.heap.size = w.heap.size + 1 := by rw [hW0]; simp
  have hbox : boxN W0 w.heap.size N e s (.slice p ws.length cap) := by rw [hW0]; exact boxN.new w N e s (.slice p ws.length cap) 25
  have B0' : Below w.heap.size w W0 := by rw [hW0]; exact B0
  have hcp := fun (w' : World) (j : Nat) (hj : j < N) (h1 : Below w.heap.size w w') => spec_pot N e s i k0 j _ ws w' hb (by omega) (by omega) hj (by omega) (hr.later h1)
  have HCP := Lib.hid hcp; clear hcp
  have HR := Lib.hid hr; clear hr hr0 hb B0
  have HBX := Lib.hid hbox; clear hbox
  rw [HP.out]
  go_enter Try.func40, Try.ntmps40
  go_wp2_with fail
  refine hok.mono ?_
  rintro en w1 ⟨rfl, B1⟩
  obtain ⟨hc1, hf1⟩ := bcell B1
  have S1 := B1.size
  try simp at S1
  try (have _L1w : w.heap.size < w1.heap.size := by omega)
  have _M1w : w.heap.size ≤ w1.heap.size := by omega
  try (have _P1w_1 : w.heap.size + 1 < w1.heap.size := by omega)
  try (have _P1w_2 : w.heap.size + 1 + 1 < w1.heap.size := by omega)
  try (have _P1w_3 : w.heap.size + 1 + 1 + 1 < w1.heap.size := by omega)
  have _ : w1.cell? ⟨w.heap.size, 0, none⟩ = some (.int .i64 N) := by rw [hc1 (w.heap.size) 0 (by first | omega | (simp; done) | (simp; omega))]; first | assumption | (simp; done) | simp [go_sem, *]
  have _ : w1.frozen? ⟨w.heap.size, 0, none⟩ = false := by rw [hf1 (w.heap.size) 0 (by first | omega | (simp; done) | (simp; omega))]; first | assumption | (simp; done) | simp [go_sem, *]
  have _ : w1.cell? ⟨w.heap.size, 1, none⟩ = some (.int .i64 e) := by rw [hc1 (w.heap.size) 1 (by first | omega | (simp; done) | (simp; omega))]; first | assumption | (simp; done) | simp [go_sem, *]
  have _ : w1.frozen? ⟨w.heap.size, 1, none⟩ = false := by rw [hf1 (w.heap.size) 1 (by first | omega | (simp; done) | (simp; omega))]; first | assumption | (simp; done) | simp [go_sem, *]
  have _ : w1.cell? ⟨w.heap.size, 2, none⟩ = some (.int .i64 s) := by rw [hc1 (w.heap.size) 2 (by first | omega | (simp; done) | (simp; omega))]; first | assumption | (simp; done) | simp [go_sem, *]
  have _ : w1.frozen? ⟨w.heap.size, 2, none⟩ = false := by rw [hf1 (w.heap.size) 2 (by first | omega | (simp; done) | (simp; omega))]; first | assumption | (simp; done) | simp [go_sem, *]
  have _ : w1.cell? ⟨w.heap.size, 3, none⟩ = some (.slice p ws.length cap) := by rw [hc1 (w.heap.size) 3 (by first | omega | (simp; done) | (simp; omega))]; first | assumption | (simp; done) | simp [go_sem, *]
  have _ : w1.frozen? ⟨w.heap.size, 3, none⟩ = false := by rw [hf1 (w.heap.size) 3 (by first | omega | (simp; done) | (simp; omega))]; first | assumption | (simp; done) | simp [go_sem, *]
  clear hc1 hf1
  rw [← hW0, hsW] at B1
  go_wp2_with fail
  refine (in_yes' i 0 ((N : Int) - 1) _ _ (by omega) (by omega) (by omega) (by omega) _).mono ?_
  rintro en wq ⟨rfl, rfl⟩
  go_wp2_with fail
  refine (in_yes' k0 0 ((N : Int) - 1) _ _ (by omega) (by omega) (by omega) (by omega) _).mono ?_
  rintro en wq ⟨rfl, rfl⟩
  have HB := Lib.hid B1; clear B1 hok
  have hs1 := HB.out.size
  go_wp2
  go_loopw [8, 9] (fun ov iv wr => ∃ (k : Nat), k ≤ N ∧ iv = .int .i64 k ∧ Hid (wr.ownsRow (w.heap.size + 1) 32 2 ov (potsK N e s ws i k0 k).length (cellsP (potsK N e s ws i k0 k))) ∧ Hid (Below (w.heap.size + 1) W0 wr)) (fun _ iv _ => N - (intOf iv).toNat)
  case atStart => exact ⟨0, Nat.zero_le _, rfl, Lib.hid (own_emptyP _ _ (by omega)), Lib.hid (by have h := HB.out; (repeat (first | exact Below.refl _ _ | (refine Below.setCell ?_ (by (first | exact Nat.le_refl _ | omega | (simp <;> omega) | simp)) _) | (refine Below.alloc ?_ (by (first | exact Nat.le_refl _ | omega | (simp <;> omega) | simp)) _) | (refine below_draws ?_ _) | exact h | (refine Below.trans ?_ (Below.mono h (by (first | exact Nat.le_refl _ | omega | (simp <;> omega) | simp)))))))⟩
  case round =>
    obtain ⟨k, hk, rfl, hown, hB⟩ := hrel
    have hsz := hB.out.size
    rw [hsW] at hsz
    have hBw : Below w.heap.size w wr := B0'.trans (hB.out.mono (by omega))
    have hX := HBX.out.below hB.out (Nat.lt_succ_self _)
    by_cases hlt : k < N
    · obtain ⟨q1, q2⟩ := HPR.out k hlt
      obtain ⟨r1, r2⟩ := scale_le s1 s2 q1 q2
      have hS : boxN wr.drew w.heap.size N e s (.slice p ws.length cap) := hX
      have hc1 := HCP.out wr.drew k hlt (below_draws hBw 1)
      have HSN := Lib.hid (potsK_snoc N e s ws i k0 k)
      have k1 : (potsK N e s ws i k0 k).length + 1 ≤ 1099511627776 := by rw [potsK_length]; omega
      obtain ⟨x0, x1, x2, x3⟩ := hX
      go_wp2
      obtain ⟨y0, y1, y2, y3⟩ := id hS
      go_region_law
        (first
          | (refine step_call (R := fun v w' => v = .int .i64 (potI (lapM N ws) N i k0 k) ∧ Below wr.drew.heap.size wr.drew w') (hc1.mono (fun en w' h => ⟨_, h.1, rfl, h.2⟩)) (by rfl) (by go_simp) ?_; rintro v w2 ⟨rfl, B2⟩; have B2' : Below wr.heap.size wr w2 := (below_draws (Below.refl _ wr) 1).trans B2; obtain ⟨z0, z1, z2, z3⟩ := hS.later B2)
          | (refine step_call (R := fun v w' => v = .agg #[.int .i64 (potAt N e s ws i k0 k).1, .int .i64 (potAt N e s ws i k0 k).2] ∧ Below w2.heap.size w2 w') ((spec_scaled N e s _ _ ws w2 (HR.out.later (hBw.trans (B2'.mono hBw.size))) (by omega) (by omega)).mono (fun en w' h => ⟨_, h.1, rfl, h.2⟩)) (by rfl) (by go_simp) ?_; rintro v w3 ⟨rfl, B3⟩; have B3' := B2'.trans (B3.mono B2'.size); have own3 := owns_later hown.out B3'; have k2 : w.heap.size + 1 ≤ w3.heap.size := Nat.le_trans hsz B3'.size)
          | ((refine step_append_ratio (u := potAt N e s ws i k0 k) own3 k1 k2 (by first | exact Or.inl rfl | exact Or.inr rfl) (by rfl) (by rfl) (by rfl) (by rfl) (by rfl) ?_); intro g4 c4 w4 hv4 hs4 hG4 hlie))
      all_goals
        have HV := Lib.hid hv4; clear hv4
        have HBB : Hid (Below (w.heap.size + 1) W0 w4) := Lib.hid ((hB.out.trans (B3'.mono hsz)).grown hG4 k2 (fun k hk => (own3.lt k hk).1))
        clear hG4 hlie own3 B3 B3' B2 B2'
        go_wp2
        go_roundw
        case rel => exact ⟨k + 1, by omega, by go_num, Lib.hid (by rw [HSN.out]; have h := HV.out; rw [List.length_append] at h ⊢; exact h), HBB⟩
        case measure => simp [intOf]; omega
    · obtain rfl : k = N := by omega
      obtain ⟨x0, x1, x2, x3⟩ := hX
      go_wp2
      go_ret2
      exact ⟨_, rfl, owns_mono hown.out (by omega), hBw⟩

end Go.Proofs.Ytpkddaapffamiaa
