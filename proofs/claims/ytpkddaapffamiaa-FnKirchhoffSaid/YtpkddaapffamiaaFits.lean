/-
  Whether two fractions can be combined, in the model and in the program.
-/
import Derived.Test.YtpkddaapffamiaaRatProd
namespace Go.Proofs.Ytpkddaapffamiaa
open Go.RowKit

set_option maxHeartbeats 3200000 in
theorem spec_fits (n d m e : Int) (w : World) (n0 : -9223372036854775808 ≤ n) (n1 : n ≤ 9223372036854775807) (d0 : -9223372036854775808 ≤ d) (d1 : d ≤ 9223372036854775807) (m0 : -9223372036854775808 ≤ m) (m1 : m ≤ 9223372036854775807) (e0 : -9223372036854775808 ≤ e) (e1 : e ≤ 9223372036854775807) :
    Calls Try.prog 118 #[.agg #[.int .i64 n, .int .i64 d], .agg #[.int .i64 m, .int .i64 e]] w fun en w' => en = .returned (.bool (fit4 n d m e)) ∧ Below w.heap.size w w' := by
  by_cases hk : rOk n d = true
  case neg =>
    have hk : rOk n d = false := by simpa using hk
    have hno : fit4 n d m e = false := by simp [fit4, hk]
    have HF := Lib.hid hno; clear hno
    go_enter Try.func118, Try.ntmps118
    go_wp2_with fail
    refine (spec_rOk n d _ n0 n1 d0 d1).mono ?_
    rintro en w1 ⟨rfl, B1⟩
    obtain ⟨hc1, hf1⟩ := bcell B1
    have S1 := B1.size
    try simp at S1
    try (have _L1w : w.heap.size < w1.heap.size := by omega)
    have _M1w : w.heap.size ≤ w1.heap.size := by omega
    try (have _P1w_1 : w.heap.size + 1 < w1.heap.size := by omega)
    try (have _P1w_2 : w.heap.size + 1 + 1 < w1.heap.size := by omega)
    try (have _P1w_3 : w.heap.size + 1 + 1 + 1 < w1.heap.size := by omega)
    have _ : w1.cell? ⟨w.heap.size, 0, none⟩ = some (.int .i64 n) := by rw [hc1 (w.heap.size) 0 (by first | omega | (simp; done) | (simp; omega))]; first | assumption | (simp; done) | simp [go_sem, *]
    have _ : w1.frozen? ⟨w.heap.size, 0, none⟩ = false := by rw [hf1 (w.heap.size) 0 (by first | omega | (simp; done) | (simp; omega))]; first | assumption | (simp; done) | simp [go_sem, *]
    have _ : w1.cell? ⟨w.heap.size, 1, none⟩ = some (.int .i64 d) := by rw [hc1 (w.heap.size) 1 (by first | omega | (simp; done) | (simp; omega))]; first | assumption | (simp; done) | simp [go_sem, *]
    have _ : w1.frozen? ⟨w.heap.size, 1, none⟩ = false := by rw [hf1 (w.heap.size) 1 (by first | omega | (simp; done) | (simp; omega))]; first | assumption | (simp; done) | simp [go_sem, *]
    have _ : w1.cell? ⟨w.heap.size + 1, 0, none⟩ = some (.int .i64 m) := by rw [hc1 (w.heap.size + 1) 0 (by first | omega | (simp; done) | (simp; omega))]; first | assumption | (simp; done) | simp [go_sem, *]
    have _ : w1.frozen? ⟨w.heap.size + 1, 0, none⟩ = false := by rw [hf1 (w.heap.size + 1) 0 (by first | omega | (simp; done) | (simp; omega))]; first | assumption | (simp; done) | simp [go_sem, *]
    have _ : w1.cell? ⟨w.heap.size + 1, 1, none⟩ = some (.int .i64 e) := by rw [hc1 (w.heap.size + 1) 1 (by first | omega | (simp; done) | (simp; omega))]; first | assumption | (simp; done) | simp [go_sem, *]
    have _ : w1.frozen? ⟨w.heap.size + 1, 1, none⟩ = false := by rw [hf1 (w.heap.size + 1) 1 (by first | omega | (simp; done) | (simp; omega))]; first | assumption | (simp; done) | simp [go_sem, *]
    clear hc1 hf1
    rw [hk]
    go_wp2
    go_ret
    exact ⟨ret_b HF.out.symm, by (repeat (first | exact Below.refl _ _ | (refine Below.setCell ?_ (by (first | exact Nat.le_refl _ | omega | (simp <;> omega) | simp)) _) | (refine Below.alloc ?_ (by (first | exact Nat.le_refl _ | omega | (simp <;> omega) | simp)) _) | (refine below_draws ?_ _) | exact B1 | (refine Below.trans ?_ (Below.mono B1 (by (first | exact Nat.le_refl _ | omega | (simp <;> omega) | simp))))))⟩
  by_cases hl : rOk m e = true
  case neg =>
    have hl : rOk m e = false := by simpa using hl
    have hno : fit4 n d m e = false := by simp [fit4, hl]
    have HF := Lib.hid hno; clear hno
    go_enter Try.func118, Try.ntmps118
    go_wp2_with fail
    refine (spec_rOk n d _ n0 n1 d0 d1).mono ?_
    rintro en w1 ⟨rfl, B1⟩
    obtain ⟨hc1, hf1⟩ := bcell B1
    have S1 := B1.size
    try simp at S1
    try (have _L1w : w.heap.size < w1.heap.size := by omega)
    have _M1w : w.heap.size ≤ w1.heap.size := by omega
    try (have _P1w_1 : w.heap.size + 1 < w1.heap.size := by omega)
    try (have _P1w_2 : w.heap.size + 1 + 1 < w1.heap.size := by omega)
    try (have _P1w_3 : w.heap.size + 1 + 1 + 1 < w1.heap.size := by omega)
    have _ : w1.cell? ⟨w.heap.size, 0, none⟩ = some (.int .i64 n) := by rw [hc1 (w.heap.size) 0 (by first | omega | (simp; done) | (simp; omega))]; first | assumption | (simp; done) | simp [go_sem, *]
    have _ : w1.frozen? ⟨w.heap.size, 0, none⟩ = false := by rw [hf1 (w.heap.size) 0 (by first | omega | (simp; done) | (simp; omega))]; first | assumption | (simp; done) | simp [go_sem, *]
    have _ : w1.cell? ⟨w.heap.size, 1, none⟩ = some (.int .i64 d) := by rw [hc1 (w.heap.size) 1 (by first | omega | (simp; done) | (simp; omega))]; first | assumption | (simp; done) | simp [go_sem, *]
    have _ : w1.frozen? ⟨w.heap.size, 1, none⟩ = false := by rw [hf1 (w.heap.size) 1 (by first | omega | (simp; done) | (simp; omega))]; first | assumption | (simp; done) | simp [go_sem, *]
    have _ : w1.cell? ⟨w.heap.size + 1, 0, none⟩ = some (.int .i64 m) := by rw [hc1 (w.heap.size + 1) 0 (by first | omega | (simp; done) | (simp; omega))]; first | assumption | (simp; done) | simp [go_sem, *]
    have _ : w1.frozen? ⟨w.heap.size + 1, 0, none⟩ = false := by rw [hf1 (w.heap.size + 1) 0 (by first | omega | (simp; done) | (simp; omega))]; first | assumption | (simp; done) | simp [go_sem, *]
    have _ : w1.cell? ⟨w.heap.size + 1, 1, none⟩ = some (.int .i64 e) := by rw [hc1 (w.heap.size + 1) 1 (by first | omega | (simp; done) | (simp; omega))]; first | assumption | (simp; done) | simp [go_sem, *]
    have _ : w1.frozen? ⟨w.heap.size + 1, 1, none⟩ = false := by rw [hf1 (w.heap.size + 1) 1 (by first | omega | (simp; done) | (simp; omega))]; first | assumption | (simp; done) | simp [go_sem, *]
    clear hc1 hf1
    rw [hk]
    go_wp2_with fail
    refine (spec_rOk m e _ m0 m1 e0 e1).mono ?_
    rintro en w2 ⟨rfl, B2⟩
    obtain ⟨hc2, hf2⟩ := bcell B2
    have S2 := B2.size
    try simp at S2
    try (have _L2w : w.heap.size < w2.heap.size := by omega)
    have _M2w : w.heap.size ≤ w2.heap.size := by omega
    try (have _P2w_1 : w.heap.size + 1 < w2.heap.size := by omega)
    try (have _P2w_2 : w.heap.size + 1 + 1 < w2.heap.size := by omega)
    try (have _P2w_3 : w.heap.size + 1 + 1 + 1 < w2.heap.size := by omega)
    try (have _L2w1 : w1.heap.size < w2.heap.size := by omega)
    have _M2w1 : w1.heap.size ≤ w2.heap.size := by omega
    try (have _P2w1_1 : w1.heap.size + 1 < w2.heap.size := by omega)
    try (have _P2w1_2 : w1.heap.size + 1 + 1 < w2.heap.size := by omega)
    try (have _P2w1_3 : w1.heap.size + 1 + 1 + 1 < w2.heap.size := by omega)
    have _ : w2.cell? ⟨w.heap.size, 0, none⟩ = some (.int .i64 n) := by rw [hc2 (w.heap.size) 0 (by first | omega | (simp; done) | (simp; omega))]; first | assumption | (simp; done) | simp [go_sem, *]
    have _ : w2.frozen? ⟨w.heap.size, 0, none⟩ = false := by rw [hf2 (w.heap.size) 0 (by first | omega | (simp; done) | (simp; omega))]; first | assumption | (simp; done) | simp [go_sem, *]
    have _ : w2.cell? ⟨w.heap.size, 1, none⟩ = some (.int .i64 d) := by rw [hc2 (w.heap.size) 1 (by first | omega | (simp; done) | (simp; omega))]; first | assumption | (simp; done) | simp [go_sem, *]
    have _ : w2.frozen? ⟨w.heap.size, 1, none⟩ = false := by rw [hf2 (w.heap.size) 1 (by first | omega | (simp; done) | (simp; omega))]; first | assumption | (simp; done) | simp [go_sem, *]
    have _ : w2.cell? ⟨w.heap.size + 1, 0, none⟩ = some (.int .i64 m) := by rw [hc2 (w.heap.size + 1) 0 (by first | omega | (simp; done) | (simp; omega))]; first | assumption | (simp; done) | simp [go_sem, *]
    have _ : w2.frozen? ⟨w.heap.size + 1, 0, none⟩ = false := by rw [hf2 (w.heap.size + 1) 0 (by first | omega | (simp; done) | (simp; omega))]; first | assumption | (simp; done) | simp [go_sem, *]
    have _ : w2.cell? ⟨w.heap.size + 1, 1, none⟩ = some (.int .i64 e) := by rw [hc2 (w.heap.size + 1) 1 (by first | omega | (simp; done) | (simp; omega))]; first | assumption | (simp; done) | simp [go_sem, *]
    have _ : w2.frozen? ⟨w.heap.size + 1, 1, none⟩ = false := by rw [hf2 (w.heap.size + 1) 1 (by first | omega | (simp; done) | (simp; omega))]; first | assumption | (simp; done) | simp [go_sem, *]
    clear hc2 hf2
    rw [hl]
    go_wp2
    go_ret
    exact ⟨ret_b HF.out.symm, by (repeat (first | exact Below.refl _ _ | (refine Below.setCell ?_ (by (first | exact Nat.le_refl _ | omega | (simp <;> omega) | simp)) _) | (refine Below.alloc ?_ (by (first | exact Nat.le_refl _ | omega | (simp <;> omega) | simp)) _) | (refine below_draws ?_ _) | exact B1 | (refine Below.trans ?_ (Below.mono B1 (by (first | exact Nat.le_refl _ | omega | (simp <;> omega) | simp)))) | exact B2 | (refine Below.trans ?_ (Below.mono B2 (by (first | exact Nat.le_refl _ | omega | (simp <;> omega) | simp))))))⟩
  obtain ⟨p1, p2, p3, p4, -⟩ := rOk_iff.1 hk
  obtain ⟨q1, q2, q3, q4, -⟩ := rOk_iff.1 hl
  by_cases h1 : fitP n e = true
  case neg =>
    have h1 : fitP n e = false := by simpa using h1
    have hno : fit4 n d m e = false := by simp [fit4, h1]
    have HF := Lib.hid hno; clear hno
    go_enter Try.func118, Try.ntmps118
    go_wp2_with fail
    refine (spec_rOk n d _ n0 n1 d0 d1).mono ?_
    rintro en w1 ⟨rfl, B1⟩
    obtain ⟨hc1, hf1⟩ := bcell B1
    have S1 := B1.size
    try simp at S1
    try (have _L1w : w.heap.size < w1.heap.size := by omega)
    have _M1w : w.heap.size ≤ w1.heap.size := by omega
    try (have _P1w_1 : w.heap.size + 1 < w1.heap.size := by omega)
    try (have _P1w_2 : w.heap.size + 1 + 1 < w1.heap.size := by omega)
    try (have _P1w_3 : w.heap.size + 1 + 1 + 1 < w1.heap.size := by omega)
    have _ : w1.cell? ⟨w.heap.size, 0, none⟩ = some (.int .i64 n) := by rw [hc1 (w.heap.size) 0 (by first | omega | (simp; done) | (simp; omega))]; first | assumption | (simp; done) | simp [go_sem, *]
    have _ : w1.frozen? ⟨w.heap.size, 0, none⟩ = false := by rw [hf1 (w.heap.size) 0 (by first | omega | (simp; done) | (simp; omega))]; first | assumption | (simp; done) | simp [go_sem, *]
    have _ : w1.cell? ⟨w.heap.size, 1, none⟩ = some (.int .i64 d) := by rw [hc1 (w.heap.size) 1 (by first | omega | (simp; done) | (simp; omega))]; first | assumption | (simp; done) | simp [go_sem, *]
    have _ : w1.frozen? ⟨w.heap.size, 1, none⟩ = false := by rw [hf1 (w.heap.size) 1 (by first | omega | (simp; done) | (simp; omega))]; first | assumption | (simp; done) | simp [go_sem, *]
    have _ : w1.cell? ⟨w.heap.size + 1, 0, none⟩ = some (.int .i64 m) := by rw [hc1 (w.heap.size + 1) 0 (by first | omega | (simp; done) | (simp; omega))]; first | assumption | (simp; done) | simp [go_sem, *]
    have _ : w1.frozen? ⟨w.heap.size + 1, 0, none⟩ = false := by rw [hf1 (w.heap.size + 1) 0 (by first | omega | (simp; done) | (simp; omega))]; first | assumption | (simp; done) | simp [go_sem, *]
    have _ : w1.cell? ⟨w.heap.size + 1, 1, none⟩ = some (.int .i64 e) := by rw [hc1 (w.heap.size + 1) 1 (by first | omega | (simp; done) | (simp; omega))]; first | assumption | (simp; done) | simp [go_sem, *]
    have _ : w1.frozen? ⟨w.heap.size + 1, 1, none⟩ = false := by rw [hf1 (w.heap.size + 1) 1 (by first | omega | (simp; done) | (simp; omega))]; first | assumption | (simp; done) | simp [go_sem, *]
    clear hc1 hf1
    rw [hk]
    go_wp2_with fail
    refine (spec_rOk m e _ m0 m1 e0 e1).mono ?_
    rintro en w2 ⟨rfl, B2⟩
    obtain ⟨hc2, hf2⟩ := bcell B2
    have S2 := B2.size
    try simp at S2
    try (have _L2w : w.heap.size < w2.heap.size := by omega)
    have _M2w : w.heap.size ≤ w2.heap.size := by omega
    try (have _P2w_1 : w.heap.size + 1 < w2.heap.size := by omega)
    try (have _P2w_2 : w.heap.size + 1 + 1 < w2.heap.size := by omega)
    try (have _P2w_3 : w.heap.size + 1 + 1 + 1 < w2.heap.size := by omega)
    try (have _L2w1 : w1.heap.size < w2.heap.size := by omega)
    have _M2w1 : w1.heap.size ≤ w2.heap.size := by omega
    try (have _P2w1_1 : w1.heap.size + 1 < w2.heap.size := by omega)
    try (have _P2w1_2 : w1.heap.size + 1 + 1 < w2.heap.size := by omega)
    try (have _P2w1_3 : w1.heap.size + 1 + 1 + 1 < w2.heap.size := by omega)
    have _ : w2.cell? ⟨w.heap.size, 0, none⟩ = some (.int .i64 n) := by rw [hc2 (w.heap.size) 0 (by first | omega | (simp; done) | (simp; omega))]; first | assumption | (simp; done) | simp [go_sem, *]
    have _ : w2.frozen? ⟨w.heap.size, 0, none⟩ = false := by rw [hf2 (w.heap.size) 0 (by first | omega | (simp; done) | (simp; omega))]; first | assumption | (simp; done) | simp [go_sem, *]
    have _ : w2.cell? ⟨w.heap.size, 1, none⟩ = some (.int .i64 d) := by rw [hc2 (w.heap.size) 1 (by first | omega | (simp; done) | (simp; omega))]; first | assumption | (simp; done) | simp [go_sem, *]
    have _ : w2.frozen? ⟨w.heap.size, 1, none⟩ = false := by rw [hf2 (w.heap.size) 1 (by first | omega | (simp; done) | (simp; omega))]; first | assumption | (simp; done) | simp [go_sem, *]
    have _ : w2.cell? ⟨w.heap.size + 1, 0, none⟩ = some (.int .i64 m) := by rw [hc2 (w.heap.size + 1) 0 (by first | omega | (simp; done) | (simp; omega))]; first | assumption | (simp; done) | simp [go_sem, *]
    have _ : w2.frozen? ⟨w.heap.size + 1, 0, none⟩ = false := by rw [hf2 (w.heap.size + 1) 0 (by first | omega | (simp; done) | (simp; omega))]; first | assumption | (simp; done) | simp [go_sem, *]
    have _ : w2.cell? ⟨w.heap.size + 1, 1, none⟩ = some (.int .i64 e) := by rw [hc2 (w.heap.size + 1) 1 (by first | omega | (simp; done) | (simp; omega))]; first | assumption | (simp; done) | simp [go_sem, *]
    have _ : w2.frozen? ⟨w.heap.size + 1, 1, none⟩ = false := by rw [hf2 (w.heap.size + 1) 1 (by first | omega | (simp; done) | (simp; omega))]; first | assumption | (simp; done) | simp [go_sem, *]
    clear hc2 hf2
    rw [hl]
    go_wp2_with fail
    refine (spec_prod_no n e _ (by omega) (by omega) (by omega) (by omega) h1).mono ?_
    rintro en wq ⟨rfl, rfl⟩
    go_wp2_with fail
    refine (spec_prod m d _ (by omega) (by omega) (by omega) (by omega)).mono ?_
    rintro en wq ⟨rfl, rfl⟩
    go_wp2_with fail
    refine (spec_prod d e _ (by omega) (by omega) (by omega) (by omega)).mono ?_
    rintro en wq ⟨rfl, rfl⟩
    go_wp2_with fail
    refine (spec_prod n m _ (by omega) (by omega) (by omega) (by omega)).mono ?_
    rintro en wq ⟨rfl, rfl⟩
    go_wp2
    go_ret
    exact ⟨ret_b HF.out.symm, by (repeat (first | exact Below.refl _ _ | (refine Below.setCell ?_ (by (first | exact Nat.le_refl _ | omega | (simp <;> omega) | simp)) _) | (refine Below.alloc ?_ (by (first | exact Nat.le_refl _ | omega | (simp <;> omega) | simp)) _) | (refine below_draws ?_ _) | exact B1 | (refine Below.trans ?_ (Below.mono B1 (by (first | exact Nat.le_refl _ | omega | (simp <;> omega) | simp)))) | exact B2 | (refine Below.trans ?_ (Below.mono B2 (by (first | exact Nat.le_refl _ | omega | (simp <;> omega) | simp))))))⟩
  by_cases h2 : fitP m d = true
  case neg =>
    have h2 : fitP m d = false := by simpa using h2
    have hno : fit4 n d m e = false := by simp [fit4, h2]
    have HF := Lib.hid hno; clear hno
    go_enter Try.func118, Try.ntmps118
    go_wp2_with fail
    refine (spec_rOk n d _ n0 n1 d0 d1).mono ?_
    rintro en w1 ⟨rfl, B1⟩
    obtain ⟨hc1, hf1⟩ := bcell B1
    have S1 := B1.size
    try simp at S1
    try (have _L1w : w.heap.size < w1.heap.size := by omega)
    have _M1w : w.heap.size ≤ w1.heap.size := by omega
    try (have _P1w_1 : w.heap.size + 1 < w1.heap.size := by omega)
    try (have _P1w_2 : w.heap.size + 1 + 1 < w1.heap.size := by omega)
    try (have _P1w_3 : w.heap.size + 1 + 1 + 1 < w1.heap.size := by omega)
    have _ : w1.cell? ⟨w.heap.size, 0, none⟩ = some (.int .i64 n) := by rw [hc1 (w.heap.size) 0 (by first | omega | (simp; done) | (simp; omega))]; first | assumption | (simp; done) | simp [go_sem, *]
    have _ : w1.frozen? ⟨w.heap.size, 0, none⟩ = false := by rw [hf1 (w.heap.size) 0 (by first | omega | (simp; done) | (simp; omega))]; first | assumption | (simp; done) | simp [go_sem, *]
    have _ : w1.cell? ⟨w.heap.size, 1, none⟩ = some (.int .i64 d) := by rw [hc1 (w.heap.size) 1 (by first | omega | (simp; done) | (simp; omega))]; first | assumption | (simp; done) | simp [go_sem, *]
    have _ : w1.frozen? ⟨w.heap.size, 1, none⟩ = false := by rw [hf1 (w.heap.size) 1 (by first | omega | (simp; done) | (simp; omega))]; first | assumption | (simp; done) | simp [go_sem, *]
    have _ : w1.cell? ⟨w.heap.size + 1, 0, none⟩ = some (.int .i64 m) := by rw [hc1 (w.heap.size + 1) 0 (by first | omega | (simp; done) | (simp; omega))]; first | assumption | (simp; done) | simp [go_sem, *]
    have _ : w1.frozen? ⟨w.heap.size + 1, 0, none⟩ = false := by rw [hf1 (w.heap.size + 1) 0 (by first | omega | (simp; done) | (simp; omega))]; first | assumption | (simp; done) | simp [go_sem, *]
    have _ : w1.cell? ⟨w.heap.size + 1, 1, none⟩ = some (.int .i64 e) := by rw [hc1 (w.heap.size + 1) 1 (by first | omega | (simp; done) | (simp; omega))]; first | assumption | (simp; done) | simp [go_sem, *]
    have _ : w1.frozen? ⟨w.heap.size + 1, 1, none⟩ = false := by rw [hf1 (w.heap.size + 1) 1 (by first | omega | (simp; done) | (simp; omega))]; first | assumption | (simp; done) | simp [go_sem, *]
    clear hc1 hf1
    rw [hk]
    go_wp2_with fail
    refine (spec_rOk m e _ m0 m1 e0 e1).mono ?_
    rintro en w2 ⟨rfl, B2⟩
    obtain ⟨hc2, hf2⟩ := bcell B2
    have S2 := B2.size
    try simp at S2
    try (have _L2w : w.heap.size < w2.heap.size := by omega)
    have _M2w : w.heap.size ≤ w2.heap.size := by omega
    try (have _P2w_1 : w.heap.size + 1 < w2.heap.size := by omega)
    try (have _P2w_2 : w.heap.size + 1 + 1 < w2.heap.size := by omega)
    try (have _P2w_3 : w.heap.size + 1 + 1 + 1 < w2.heap.size := by omega)
    try (have _L2w1 : w1.heap.size < w2.heap.size := by omega)
    have _M2w1 : w1.heap.size ≤ w2.heap.size := by omega
    try (have _P2w1_1 : w1.heap.size + 1 < w2.heap.size := by omega)
    try (have _P2w1_2 : w1.heap.size + 1 + 1 < w2.heap.size := by omega)
    try (have _P2w1_3 : w1.heap.size + 1 + 1 + 1 < w2.heap.size := by omega)
    have _ : w2.cell? ⟨w.heap.size, 0, none⟩ = some (.int .i64 n) := by rw [hc2 (w.heap.size) 0 (by first | omega | (simp; done) | (simp; omega))]; first | assumption | (simp; done) | simp [go_sem, *]
    have _ : w2.frozen? ⟨w.heap.size, 0, none⟩ = false := by rw [hf2 (w.heap.size) 0 (by first | omega | (simp; done) | (simp; omega))]; first | assumption | (simp; done) | simp [go_sem, *]
    have _ : w2.cell? ⟨w.heap.size, 1, none⟩ = some (.int .i64 d) := by rw [hc2 (w.heap.size) 1 (by first | omega | (simp; done) | (simp; omega))]; first | assumption | (simp; done) | simp [go_sem, *]
    have _ : w2.frozen? ⟨w.heap.size, 1, none⟩ = false := by rw [hf2 (w.heap.size) 1 (by first | omega | (simp; done) | (simp; omega))]; first | assumption | (simp; done) | simp [go_sem, *]
    have _ : w2.cell? ⟨w.heap.size + 1, 0, none⟩ = some (.int .i64 m) := by rw [hc2 (w.heap.size + 1) 0 (by first | omega | (simp; done) | (simp; omega))]; first | assumption | (simp; done) | simp [go_sem, *]
    have _ : w2.frozen? ⟨w.heap.size + 1, 0, none⟩ = false := by rw [hf2 (w.heap.size + 1) 0 (by first | omega | (simp; done) | (simp; omega))]; first | assumption | (simp; done) | simp [go_sem, *]
    have _ : w2.cell? ⟨w.heap.size + 1, 1, none⟩ = some (.int .i64 e) := by rw [hc2 (w.heap.size + 1) 1 (by first | omega | (simp; done) | (simp; omega))]; first | assumption | (simp; done) | simp [go_sem, *]
    have _ : w2.frozen? ⟨w.heap.size + 1, 1, none⟩ = false := by rw [hf2 (w.heap.size + 1) 1 (by first | omega | (simp; done) | (simp; omega))]; first | assumption | (simp; done) | simp [go_sem, *]
    clear hc2 hf2
    rw [hl]
    go_wp2_with fail
    refine (spec_prod_yes n e _ (by omega) (by omega) (by omega) (by omega) h1).mono ?_
    rintro en wq ⟨rfl, rfl⟩
    go_wp2_with fail
    refine (spec_prod_no m d _ (by omega) (by omega) (by omega) (by omega) h2).mono ?_
    rintro en wq ⟨rfl, rfl⟩
    go_wp2_with fail
    refine (spec_prod d e _ (by omega) (by omega) (by omega) (by omega)).mono ?_
    rintro en wq ⟨rfl, rfl⟩
    go_wp2_with fail
    refine (spec_prod n m _ (by omega) (by omega) (by omega) (by omega)).mono ?_
    rintro en wq ⟨rfl, rfl⟩
    go_wp2
    go_ret
    exact ⟨ret_b HF.out.symm, by (repeat (first | exact Below.refl _ _ | (refine Below.setCell ?_ (by (first | exact Nat.le_refl _ | omega | (simp <;> omega) | simp)) _) | (refine Below.alloc ?_ (by (first | exact Nat.le_refl _ | omega | (simp <;> omega) | simp)) _) | (refine below_draws ?_ _) | exact B1 | (refine Below.trans ?_ (Below.mono B1 (by (first | exact Nat.le_refl _ | omega | (simp <;> omega) | simp)))) | exact B2 | (refine Below.trans ?_ (Below.mono B2 (by (first | exact Nat.le_refl _ | omega | (simp <;> omega) | simp))))))⟩
  by_cases h3 : fitP d e = true
  case neg =>
    have h3 : fitP d e = false := by simpa using h3
    have hno : fit4 n d m e = false := by simp [fit4, h3]
    have HF := Lib.hid hno; clear hno
    go_enter Try.func118, Try.ntmps118
    go_wp2_with fail
    refine (spec_rOk n d _ n0 n1 d0 d1).mono ?_
    rintro en w1 ⟨rfl, B1⟩
    obtain ⟨hc1, hf1⟩ := bcell B1
    have S1 := B1.size
    try simp at S1
    try (have _L1w : w.heap.size < w1.heap.size := by omega)
    have _M1w : w.heap.size ≤ w1.heap.size := by omega
    try (have _P1w_1 : w.heap.size + 1 < w1.heap.size := by omega)
    try (have _P1w_2 : w.heap.size + 1 + 1 < w1.heap.size := by omega)
    try (have _P1w_3 : w.heap.size + 1 + 1 + 1 < w1.heap.size := by omega)
    have _ : w1.cell? ⟨w.heap.size, 0, none⟩ = some (.int .i64 n) := by rw [hc1 (w.heap.size) 0 (by first | omega | (simp; done) | (simp; omega))]; first | assumption | (simp; done) | simp [go_sem, *]
    have _ : w1.frozen? ⟨w.heap.size, 0, none⟩ = false := by rw [hf1 (w.heap.size) 0 (by first | omega | (simp; done) | (simp; omega))]; first | assumption | (simp; done) | simp [go_sem, *]
    have _ : w1.cell? ⟨w.heap.size, 1, none⟩ = some (.int .i64 d) := by rw [hc1 (w.heap.size) 1 (by first | omega | (simp; done) | (simp; omega))]; first | assumption | (simp; done) | simp [go_sem, *]
    have _ : w1.frozen? ⟨w.heap.size, 1, none⟩ = false := by rw [hf1 (w.heap.size) 1 (by first | omega | (simp; done) | (simp; omega))]; first | assumption | (simp; done) | simp [go_sem, *]
    have _ : w1.cell? ⟨w.heap.size + 1, 0, none⟩ = some (.int .i64 m) := by rw [hc1 (w.heap.size + 1) 0 (by first | omega | (simp; done) | (simp; omega))]; first | assumption | (simp; done) | simp [go_sem, *]
    have _ : w1.frozen? ⟨w.heap.size + 1, 0, none⟩ = false := by rw [hf1 (w.heap.size + 1) 0 (by first | omega | (simp; done) | (simp; omega))]; first | assumption | (simp; done) | simp [go_sem, *]
    have _ : w1.cell? ⟨w.heap.size + 1, 1, none⟩ = some (.int .i64 e) := by rw [hc1 (w.heap.size + 1) 1 (by first | omega | (simp; done) | (simp; omega))]; first | assumption | (simp; done) | simp [go_sem, *]
    have _ : w1.frozen? ⟨w.heap.size + 1, 1, none⟩ = false := by rw [hf1 (w.heap.size + 1) 1 (by first | omega | (simp; done) | (simp; omega))]; first | assumption | (simp; done) | simp [go_sem, *]
    clear hc1 hf1
    rw [hk]
    go_wp2_with fail
    refine (spec_rOk m e _ m0 m1 e0 e1).mono ?_
    rintro en w2 ⟨rfl, B2⟩
    obtain ⟨hc2, hf2⟩ := bcell B2
    have S2 := B2.size
    try simp at S2
    try (have _L2w : w.heap.size < w2.heap.size := by omega)
    have _M2w : w.heap.size ≤ w2.heap.size := by omega
    try (have _P2w_1 : w.heap.size + 1 < w2.heap.size := by omega)
    try (have _P2w_2 : w.heap.size + 1 + 1 < w2.heap.size := by omega)
    try (have _P2w_3 : w.heap.size + 1 + 1 + 1 < w2.heap.size := by omega)
    try (have _L2w1 : w1.heap.size < w2.heap.size := by omega)
    have _M2w1 : w1.heap.size ≤ w2.heap.size := by omega
    try (have _P2w1_1 : w1.heap.size + 1 < w2.heap.size := by omega)
    try (have _P2w1_2 : w1.heap.size + 1 + 1 < w2.heap.size := by omega)
    try (have _P2w1_3 : w1.heap.size + 1 + 1 + 1 < w2.heap.size := by omega)
    have _ : w2.cell? ⟨w.heap.size, 0, none⟩ = some (.int .i64 n) := by rw [hc2 (w.heap.size) 0 (by first | omega | (simp; done) | (simp; omega))]; first | assumption | (simp; done) | simp [go_sem, *]
    have _ : w2.frozen? ⟨w.heap.size, 0, none⟩ = false := by rw [hf2 (w.heap.size) 0 (by first | omega | (simp; done) | (simp; omega))]; first | assumption | (simp; done) | simp [go_sem, *]
    have _ : w2.cell? ⟨w.heap.size, 1, none⟩ = some (.int .i64 d) := by rw [hc2 (w.heap.size) 1 (by first | omega | (simp; done) | (simp; omega))]; first | assumption | (simp; done) | simp [go_sem, *]
    have _ : w2.frozen? ⟨w.heap.size, 1, none⟩ = false := by rw [hf2 (w.heap.size) 1 (by first | omega | (simp; done) | (simp; omega))]; first | assumption | (simp; done) | simp [go_sem, *]
    have _ : w2.cell? ⟨w.heap.size + 1, 0, none⟩ = some (.int .i64 m) := by rw [hc2 (w.heap.size + 1) 0 (by first | omega | (simp; done) | (simp; omega))]; first | assumption | (simp; done) | simp [go_sem, *]
    have _ : w2.frozen? ⟨w.heap.size + 1, 0, none⟩ = false := by rw [hf2 (w.heap.size + 1) 0 (by first | omega | (simp; done) | (simp; omega))]; first | assumption | (simp; done) | simp [go_sem, *]
    have _ : w2.cell? ⟨w.heap.size + 1, 1, none⟩ = some (.int .i64 e) := by rw [hc2 (w.heap.size + 1) 1 (by first | omega | (simp; done) | (simp; omega))]; first | assumption | (simp; done) | simp [go_sem, *]
    have _ : w2.frozen? ⟨w.heap.size + 1, 1, none⟩ = false := by rw [hf2 (w.heap.size + 1) 1 (by first | omega | (simp; done) | (simp; omega))]; first | assumption | (simp; done) | simp [go_sem, *]
    clear hc2 hf2
    rw [hl]
    go_wp2_with fail
    refine (spec_prod_yes n e _ (by omega) (by omega) (by omega) (by omega) h1).mono ?_
    rintro en wq ⟨rfl, rfl⟩
    go_wp2_with fail
    refine (spec_prod_yes m d _ (by omega) (by omega) (by omega) (by omega) h2).mono ?_
    rintro en wq ⟨rfl, rfl⟩
    go_wp2_with fail
    refine (spec_prod_no d e _ (by omega) (by omega) (by omega) (by omega) h3).mono ?_
    rintro en wq ⟨rfl, rfl⟩
    go_wp2_with fail
    refine (spec_prod n m _ (by omega) (by omega) (by omega) (by omega)).mono ?_
    rintro en wq ⟨rfl, rfl⟩
    go_wp2
    go_ret
    exact ⟨ret_b HF.out.symm, by (repeat (first | exact Below.refl _ _ | (refine Below.setCell ?_ (by (first | exact Nat.le_refl _ | omega | (simp <;> omega) | simp)) _) | (refine Below.alloc ?_ (by (first | exact Nat.le_refl _ | omega | (simp <;> omega) | simp)) _) | (refine below_draws ?_ _) | exact B1 | (refine Below.trans ?_ (Below.mono B1 (by (first | exact Nat.le_refl _ | omega | (simp <;> omega) | simp)))) | exact B2 | (refine Below.trans ?_ (Below.mono B2 (by (first | exact Nat.le_refl _ | omega | (simp <;> omega) | simp))))))⟩
  by_cases h4 : fitP n m = true
  case neg =>
    have h4 : fitP n m = false := by simpa using h4
    have hno : fit4 n d m e = false := by simp [fit4, h4]
    have HF := Lib.hid hno; clear hno
    go_enter Try.func118, Try.ntmps118
    go_wp2_with fail
    refine (spec_rOk n d _ n0 n1 d0 d1).mono ?_
    rintro en w1 ⟨rfl, B1⟩
    obtain ⟨hc1, hf1⟩ := bcell B1
    have S1 := B1.size
    try simp at S1
    try (have _L1w : w.heap.size < w1.heap.size := by omega)
    have _M1w : w.heap.size ≤ w1.heap.size := by omega
    try (have _P1w_1 : w.heap.size + 1 < w1.heap.size := by omega)
    try (have _P1w_2 : w.heap.size + 1 + 1 < w1.heap.size := by omega)
    try (have _P1w_3 : w.heap.size + 1 + 1 + 1 < w1.heap.size := by omega)
    have _ : w1.cell? ⟨w.heap.size, 0, none⟩ = some (.int .i64 n) := by rw [hc1 (w.heap.size) 0 (by first | omega | (simp; done) | (simp; omega))]; first | assumption | (simp; done) | simp [go_sem, *]
    have _ : w1.frozen? ⟨w.heap.size, 0, none⟩ = false := by rw [hf1 (w.heap.size) 0 (by first | omega | (simp; done) | (simp; omega))]; first | assumption | (simp; done) | simp [go_sem, *]
    have _ : w1.cell? ⟨w.heap.size, 1, none⟩ = some (.int .i64 d) := by rw [hc1 (w.heap.size) 1 (by first | omega | (simp; done) | (simp; omega))]; first | assumption | (simp; done) | simp [go_sem, *]
    have _ : w1.frozen? ⟨w.heap.size, 1, none⟩ = false := by rw [hf1 (w.heap.size) 1 (by first | omega | (simp; done) | (simp; omega))]; first | assumption | (simp; done) | simp [go_sem, *]
    have _ : w1.cell? ⟨w.heap.size + 1, 0, none⟩ = some (.int .i64 m) := by rw [hc1 (w.heap.size + 1) 0 (by first | omega | (simp; done) | (simp; omega))]; first | assumption | (simp; done) | simp [go_sem, *]
    have _ : w1.frozen? ⟨w.heap.size + 1, 0, none⟩ = false := by rw [hf1 (w.heap.size + 1) 0 (by first | omega | (simp; done) | (simp; omega))]; first | assumption | (simp; done) | simp [go_sem, *]
    have _ : w1.cell? ⟨w.heap.size + 1, 1, none⟩ = some (.int .i64 e) := by rw [hc1 (w.heap.size + 1) 1 (by first | omega | (simp; done) | (simp; omega))]; first | assumption | (simp; done) | simp [go_sem, *]
    have _ : w1.frozen? ⟨w.heap.size + 1, 1, none⟩ = false := by rw [hf1 (w.heap.size + 1) 1 (by first | omega | (simp; done) | (simp; omega))]; first | assumption | (simp; done) | simp [go_sem, *]
    clear hc1 hf1
    rw [hk]
    go_wp2_with fail
    refine (spec_rOk m e _ m0 m1 e0 e1).mono ?_
    rintro en w2 ⟨rfl, B2⟩
    obtain ⟨hc2, hf2⟩ := bcell B2
    have S2 := B2.size
    try simp at S2
    try (have _L2w : w.heap.size < w2.heap.size := by omega)
    have _M2w : w.heap.size ≤ w2.heap.size := by omega
    try (have _P2w_1 : w.heap.size + 1 < w2.heap.size := by omega)
    try (have _P2w_2 : w.heap.size + 1 + 1 < w2.heap.size := by omega)
    try (have _P2w_3 : w.heap.size + 1 + 1 + 1 < w2.heap.size := by omega)
    try (have _L2w1 : w1.heap.size < w2.heap.size := by omega)
    have _M2w1 : w1.heap.size ≤ w2.heap.size := by omega
    try (have _P2w1_1 : w1.heap.size + 1 < w2.heap.size := by omega)
    try (have _P2w1_2 : w1.heap.size + 1 + 1 < w2.heap.size := by omega)
    try (have _P2w1_3 : w1.heap.size + 1 + 1 + 1 < w2.heap.size := by omega)
    have _ : w2.cell? ⟨w.heap.size, 0, none⟩ = some (.int .i64 n) := by rw [hc2 (w.heap.size) 0 (by first | omega | (simp; done) | (simp; omega))]; first | assumption | (simp; done) | simp [go_sem, *]
    have _ : w2.frozen? ⟨w.heap.size, 0, none⟩ = false := by rw [hf2 (w.heap.size) 0 (by first | omega | (simp; done) | (simp; omega))]; first | assumption | (simp; done) | simp [go_sem, *]
    have _ : w2.cell? ⟨w.heap.size, 1, none⟩ = some (.int .i64 d) := by rw [hc2 (w.heap.size) 1 (by first | omega | (simp; done) | (simp; omega))]; first | assumption | (simp; done) | simp [go_sem, *]
    have _ : w2.frozen? ⟨w.heap.size, 1, none⟩ = false := by rw [hf2 (w.heap.size) 1 (by first | omega | (simp; done) | (simp; omega))]; first | assumption | (simp; done) | simp [go_sem, *]
    have _ : w2.cell? ⟨w.heap.size + 1, 0, none⟩ = some (.int .i64 m) := by rw [hc2 (w.heap.size + 1) 0 (by first | omega | (simp; done) | (simp; omega))]; first | assumption | (simp; done) | simp [go_sem, *]
    have _ : w2.frozen? ⟨w.heap.size + 1, 0, none⟩ = false := by rw [hf2 (w.heap.size + 1) 0 (by first | omega | (simp; done) | (simp; omega))]; first | assumption | (simp; done) | simp [go_sem, *]
    have _ : w2.cell? ⟨w.heap.size + 1, 1, none⟩ = some (.int .i64 e) := by rw [hc2 (w.heap.size + 1) 1 (by first | omega | (simp; done) | (simp; omega))]; first | assumption | (simp; done) | simp [go_sem, *]
    have _ : w2.frozen? ⟨w.heap.size + 1, 1, none⟩ = false := by rw [hf2 (w.heap.size + 1) 1 (by first | omega | (simp; done) | (simp; omega))]; first | assumption | (simp; done) | simp [go_sem, *]
    clear hc2 hf2
    rw [hl]
    go_wp2_with fail
    refine (spec_prod_yes n e _ (by omega) (by omega) (by omega) (by omega) h1).mono ?_
    rintro en wq ⟨rfl, rfl⟩
    go_wp2_with fail
    refine (spec_prod_yes m d _ (by omega) (by omega) (by omega) (by omega) h2).mono ?_
    rintro en wq ⟨rfl, rfl⟩
    go_wp2_with fail
    refine (spec_prod_yes d e _ (by omega) (by omega) (by omega) (by omega) h3).mono ?_
    rintro en wq ⟨rfl, rfl⟩
    go_wp2_with fail
    refine (spec_prod_no n m _ (by omega) (by omega) (by omega) (by omega) h4).mono ?_
    rintro en wq ⟨rfl, rfl⟩
    go_wp2
    go_ret
    exact ⟨ret_b HF.out.symm, by (repeat (first | exact Below.refl _ _ | (refine Below.setCell ?_ (by (first | exact Nat.le_refl _ | omega | (simp <;> omega) | simp)) _) | (refine Below.alloc ?_ (by (first | exact Nat.le_refl _ | omega | (simp <;> omega) | simp)) _) | (refine below_draws ?_ _) | exact B1 | (refine Below.trans ?_ (Below.mono B1 (by (first | exact Nat.le_refl _ | omega | (simp <;> omega) | simp)))) | exact B2 | (refine Below.trans ?_ (Below.mono B2 (by (first | exact Nat.le_refl _ | omega | (simp <;> omega) | simp))))))⟩
  have hyes : fit4 n d m e = true := by simp [fit4, hk, hl, h1, h2, h3, h4]
  have HF := Lib.hid hyes; clear hyes
  go_enter Try.func118, Try.ntmps118
  go_wp2_with fail
  refine (spec_rOk n d _ n0 n1 d0 d1).mono ?_
  rintro en w1 ⟨rfl, B1⟩
  obtain ⟨hc1, hf1⟩ := bcell B1
  have S1 := B1.size
  try simp at S1
  try (have _L1w : w.heap.size < w1.heap.size := by omega)
  have _M1w : w.heap.size ≤ w1.heap.size := by omega
  try (have _P1w_1 : w.heap.size + 1 < w1.heap.size := by omega)
  try (have _P1w_2 : w.heap.size + 1 + 1 < w1.heap.size := by omega)
  try (have _P1w_3 : w.heap.size + 1 + 1 + 1 < w1.heap.size := by omega)
  have _ : w1.cell? ⟨w.heap.size, 0, none⟩ = some (.int .i64 n) := by rw [hc1 (w.heap.size) 0 (by first | omega | (simp; done) | (simp; omega))]; first | assumption | (simp; done) | simp [go_sem, *]
  have _ : w1.frozen? ⟨w.heap.size, 0, none⟩ = false := by rw [hf1 (w.heap.size) 0 (by first | omega | (simp; done) | (simp; omega))]; first | assumption | (simp; done) | simp [go_sem, *]
  have _ : w1.cell? ⟨w.heap.size, 1, none⟩ = some (.int .i64 d) := by rw [hc1 (w.heap.size) 1 (by first | omega | (simp; done) | (simp; omega))]; first | assumption | (simp; done) | simp [go_sem, *]
  have _ : w1.frozen? ⟨w.heap.size, 1, none⟩ = false := by rw [hf1 (w.heap.size) 1 (by first | omega | (simp; done) | (simp; omega))]; first | assumption | (simp; done) | simp [go_sem, *]
  have _ : w1.cell? ⟨w.heap.size + 1, 0, none⟩ = some (.int .i64 m) := by rw [hc1 (w.heap.size + 1) 0 (by first | omega | (simp; done) | (simp; omega))]; first | assumption | (simp; done) | simp [go_sem, *]
  have _ : w1.frozen? ⟨w.heap.size + 1, 0, none⟩ = false := by rw [hf1 (w.heap.size + 1) 0 (by first | omega | (simp; done) | (simp; omega))]; first | assumption | (simp; done) | simp [go_sem, *]
  have _ : w1.cell? ⟨w.heap.size + 1, 1, none⟩ = some (.int .i64 e) := by rw [hc1 (w.heap.size + 1) 1 (by first | omega | (simp; done) | (simp; omega))]; first | assumption | (simp; done) | simp [go_sem, *]
  have _ : w1.frozen? ⟨w.heap.size + 1, 1, none⟩ = false := by rw [hf1 (w.heap.size + 1) 1 (by first | omega | (simp; done) | (simp; omega))]; first | assumption | (simp; done) | simp [go_sem, *]
  clear hc1 hf1
  rw [hk]
  go_wp2_with fail
  refine (spec_rOk m e _ m0 m1 e0 e1).mono ?_
  rintro en w2 ⟨rfl, B2⟩
  obtain ⟨hc2, hf2⟩ := bcell B2
  have S2 := B2.size
  try simp at S2
  try (have _L2w : w.heap.size < w2.heap.size := by omega)
  have _M2w : w.heap.size ≤ w2.heap.size := by omega
  try (have _P2w_1 : w.heap.size + 1 < w2.heap.size := by omega)
  try (have _P2w_2 : w.heap.size + 1 + 1 < w2.heap.size := by omega)
  try (have _P2w_3 : w.heap.size + 1 + 1 + 1 < w2.heap.size := by omega)
  try (have _L2w1 : w1.heap.size < w2.heap.size := by omega)
  have _M2w1 : w1.heap.size ≤ w2.heap.size := by omega
  try (have _P2w1_1 : w1.heap.size + 1 < w2.heap.size := by omega)
  try (have _P2w1_2 : w1.heap.size + 1 + 1 < w2.heap.size := by omega)
  try (have _P2w1_3 : w1.heap.size + 1 + 1 + 1 < w2.heap.size := by omega)
  have _ : w2.cell? ⟨w.heap.size, 0, none⟩ = some (.int .i64 n) := by rw [hc2 (w.heap.size) 0 (by first | omega | (simp; done) | (simp; omega))]; first | assumption | (simp; done) | simp [go_sem, *]
  have _ : w2.frozen? ⟨w.heap.size, 0, none⟩ = false := by rw [hf2 (w.heap.size) 0 (by first | omega | (simp; done) | (simp; omega))]; first | assumption | (simp; done) | simp [go_sem, *]
  have _ : w2.cell? ⟨w.heap.size, 1, none⟩ = some (.int .i64 d) := by rw [hc2 (w.heap.size) 1 (by first | omega | (simp; done) | (simp; omega))]; first | assumption | (simp; done) | simp [go_sem, *]
  have _ : w2.frozen? ⟨w.heap.size, 1, none⟩ = false := by rw [hf2 (w.heap.size) 1 (by first | omega | (simp; done) | (simp; omega))]; first | assumption | (simp; done) | simp [go_sem, *]
  have _ : w2.cell? ⟨w.heap.size + 1, 0, none⟩ = some (.int .i64 m) := by rw [hc2 (w.heap.size + 1) 0 (by first | omega | (simp; done) | (simp; omega))]; first | assumption | (simp; done) | simp [go_sem, *]
  have _ : w2.frozen? ⟨w.heap.size + 1, 0, none⟩ = false := by rw [hf2 (w.heap.size + 1) 0 (by first | omega | (simp; done) | (simp; omega))]; first | assumption | (simp; done) | simp [go_sem, *]
  have _ : w2.cell? ⟨w.heap.size + 1, 1, none⟩ = some (.int .i64 e) := by rw [hc2 (w.heap.size + 1) 1 (by first | omega | (simp; done) | (simp; omega))]; first | assumption | (simp; done) | simp [go_sem, *]
  have _ : w2.frozen? ⟨w.heap.size + 1, 1, none⟩ = false := by rw [hf2 (w.heap.size + 1) 1 (by first | omega | (simp; done) | (simp; omega))]; first | assumption | (simp; done) | simp [go_sem, *]
  clear hc2 hf2
  rw [hl]
  go_wp2_with fail
  refine (spec_prod_yes n e _ (by omega) (by omega) (by omega) (by omega) h1).mono ?_
  rintro en wq ⟨rfl, rfl⟩
  go_wp2_with fail
  refine (spec_prod_yes m d _ (by omega) (by omega) (by omega) (by omega) h2).mono ?_
  rintro en wq ⟨rfl, rfl⟩
  go_wp2_with fail
  refine (spec_prod_yes d e _ (by omega) (by omega) (by omega) (by omega) h3).mono ?_
  rintro en wq ⟨rfl, rfl⟩
  go_wp2_with fail
  refine (spec_prod_yes n m _ (by omega) (by omega) (by omega) (by omega) h4).mono ?_
  rintro en wq ⟨rfl, rfl⟩
  go_wp2
  go_ret
  exact ⟨ret_b HF.out.symm, by (repeat (first | exact Below.refl _ _ | (refine Below.setCell ?_ (by (first | exact Nat.le_refl _ | omega | (simp <;> omega) | simp)) _) | (refine Below.alloc ?_ (by (first | exact Nat.le_refl _ | omega | (simp <;> omega) | simp)) _) | (refine below_draws ?_ _) | exact B1 | (refine Below.trans ?_ (Below.mono B1 (by (first | exact Nat.le_refl _ | omega | (simp <;> omega) | simp)))) | exact B2 | (refine Below.trans ?_ (Below.mono B2 (by (first | exact Nat.le_refl _ | omega | (simp <;> omega) | simp))))))⟩
set_option maxHeartbeats 3200000 in
theorem impl_fits4 (n d m e : Int) (w : World) (n0 : -9223372036854775808 ≤ n) (n1 : n ≤ 9223372036854775807) (d0 : -9223372036854775808 ≤ d) (d1 : d ≤ 9223372036854775807) (m0 : -9223372036854775808 ≤ m) (m1 : m ≤ 9223372036854775807) (e0 : -9223372036854775808 ≤ e) (e1 : e ≤ 9223372036854775807) :
    Calls Try.prog 59 #[.agg #[.int .i64 n, .int .i64 d], .agg #[.int .i64 m, .int .i64 e]] w fun en w' => en = .returned (.bool (fit4 n d m e)) ∧ Below w.heap.size w w' := by
  by_cases hk : rOk n d = true
  case neg =>
    have hk : rOk n d = false := by simpa using hk
    have hno : fit4 n d m e = false := by simp [fit4, hk]
    have HF := Lib.hid hno; clear hno
    go_enter Try.func59, Try.ntmps59
    go_wp2_with fail
    refine (impl_rOk n d _ n0 n1 d0 d1).mono ?_
    rintro en w1 ⟨rfl, B1⟩
    obtain ⟨hc1, hf1⟩ := bcell B1
    have S1 := B1.size
    try simp at S1
    try (have _L1w : w.heap.size < w1.heap.size := by omega)
    have _M1w : w.heap.size ≤ w1.heap.size := by omega
    try (have _P1w_1 : w.heap.size + 1 < w1.heap.size := by omega)
    try (have _P1w_2 : w.heap.size + 1 + 1 < w1.heap.size := by omega)
    try (have _P1w_3 : w.heap.size + 1 + 1 + 1 < w1.heap.size := by omega)
    have _ : w1.cell? ⟨w.heap.size, 0, none⟩ = some (.int .i64 n) := by rw [hc1 (w.heap.size) 0 (by first | omega | (simp; done) | (simp; omega))]; first | assumption | (simp; done) | simp [go_sem, *]
    have _ : w1.frozen? ⟨w.heap.size, 0, none⟩ = false := by rw [hf1 (w.heap.size) 0 (by first | omega | (simp; done) | (simp; omega))]; first | assumption | (simp; done) | simp [go_sem, *]
    have _ : w1.cell? ⟨w.heap.size, 1, none⟩ = some (.int .i64 d) := by rw [hc1 (w.heap.size) 1 (by first | omega | (simp; done) | (simp; omega))]; first | assumption | (simp; done) | simp [go_sem, *]
    have _ : w1.frozen? ⟨w.heap.size, 1, none⟩ = false := by rw [hf1 (w.heap.size) 1 (by first | omega | (simp; done) | (simp; omega))]; first | assumption | (simp; done) | simp [go_sem, *]
    have _ : w1.cell? ⟨w.heap.size + 1, 0, none⟩ = some (.int .i64 m) := by rw [hc1 (w.heap.size + 1) 0 (by first | omega | (simp; done) | (simp; omega))]; first | assumption | (simp; done) | simp [go_sem, *]
    have _ : w1.frozen? ⟨w.heap.size + 1, 0, none⟩ = false := by rw [hf1 (w.heap.size + 1) 0 (by first | omega | (simp; done) | (simp; omega))]; first | assumption | (simp; done) | simp [go_sem, *]
    have _ : w1.cell? ⟨w.heap.size + 1, 1, none⟩ = some (.int .i64 e) := by rw [hc1 (w.heap.size + 1) 1 (by first | omega | (simp; done) | (simp; omega))]; first | assumption | (simp; done) | simp [go_sem, *]
    have _ : w1.frozen? ⟨w.heap.size + 1, 1, none⟩ = false := by rw [hf1 (w.heap.size + 1) 1 (by first | omega | (simp; done) | (simp; omega))]; first | assumption | (simp; done) | simp [go_sem, *]
    clear hc1 hf1
    rw [hk]
    go_wp2
    go_ret
    exact ⟨ret_b HF.out.symm, by (repeat (first | exact Below.refl _ _ | (refine Below.setCell ?_ (by (first | exact Nat.le_refl _ | omega | (simp <;> omega) | simp)) _) | (refine Below.alloc ?_ (by (first | exact Nat.le_refl _ | omega | (simp <;> omega) | simp)) _) | (refine below_draws ?_ _) | exact B1 | (refine Below.trans ?_ (Below.mono B1 (by (first | exact Nat.le_refl _ | omega | (simp <;> omega) | simp))))))⟩
  by_cases hl : rOk m e = true
  case neg =>
    have hl : rOk m e = false := by simpa using hl
    have hno : fit4 n d m e = false := by simp [fit4, hl]
    have HF := Lib.hid hno; clear hno
    go_enter Try.func59, Try.ntmps59
    go_wp2_with fail
    refine (impl_rOk n d _ n0 n1 d0 d1).mono ?_
    rintro en w1 ⟨rfl, B1⟩
    obtain ⟨hc1, hf1⟩ := bcell B1
    have S1 := B1.size
    try simp at S1
    try (have _L1w : w.heap.size < w1.heap.size := by omega)
    have _M1w : w.heap.size ≤ w1.heap.size := by omega
    try (have _P1w_1 : w.heap.size + 1 < w1.heap.size := by omega)
    try (have _P1w_2 : w.heap.size + 1 + 1 < w1.heap.size := by omega)
    try (have _P1w_3 : w.heap.size + 1 + 1 + 1 < w1.heap.size := by omega)
    have _ : w1.cell? ⟨w.heap.size, 0, none⟩ = some (.int .i64 n) := by rw [hc1 (w.heap.size) 0 (by first | omega | (simp; done) | (simp; omega))]; first | assumption | (simp; done) | simp [go_sem, *]
    have _ : w1.frozen? ⟨w.heap.size, 0, none⟩ = false := by rw [hf1 (w.heap.size) 0 (by first | omega | (simp; done) | (simp; omega))]; first | assumption | (simp; done) | simp [go_sem, *]
    have _ : w1.cell? ⟨w.heap.size, 1, none⟩ = some (.int .i64 d) := by rw [hc1 (w.heap.size) 1 (by first | omega | (simp; done) | (simp; omega))]; first | assumption | (simp; done) | simp [go_sem, *]
    have _ : w1.frozen? ⟨w.heap.size, 1, none⟩ = false := by rw [hf1 (w.heap.size) 1 (by first | omega | (simp; done) | (simp; omega))]; first | assumption | (simp; done) | simp [go_sem, *]
    have _ : w1.cell? ⟨w.heap.size + 1, 0, none⟩ = some (.int .i64 m) := by rw [hc1 (w.heap.size + 1) 0 (by first | omega | (simp; done) | (simp; omega))]; first | assumption | (simp; done) | simp [go_sem, *]
    have _ : w1.frozen? ⟨w.heap.size + 1, 0, none⟩ = false := by rw [hf1 (w.heap.size + 1) 0 (by first | omega | (simp; done) | (simp; omega))]; first | assumption | (simp; done) | simp [go_sem, *]
    have _ : w1.cell? ⟨w.heap.size + 1, 1, none⟩ = some (.int .i64 e) := by rw [hc1 (w.heap.size + 1) 1 (by first | omega | (simp; done) | (simp; omega))]; first | assumption | (simp; done) | simp [go_sem, *]
    have _ : w1.frozen? ⟨w.heap.size + 1, 1, none⟩ = false := by rw [hf1 (w.heap.size + 1) 1 (by first | omega | (simp; done) | (simp; omega))]; first | assumption | (simp; done) | simp [go_sem, *]
    clear hc1 hf1
    rw [hk]
    go_wp2_with fail
    refine (impl_rOk m e _ m0 m1 e0 e1).mono ?_
    rintro en w2 ⟨rfl, B2⟩
    obtain ⟨hc2, hf2⟩ := bcell B2
    have S2 := B2.size
    try simp at S2
    try (have _L2w : w.heap.size < w2.heap.size := by omega)
    have _M2w : w.heap.size ≤ w2.heap.size := by omega
    try (have _P2w_1 : w.heap.size + 1 < w2.heap.size := by omega)
    try (have _P2w_2 : w.heap.size + 1 + 1 < w2.heap.size := by omega)
    try (have _P2w_3 : w.heap.size + 1 + 1 + 1 < w2.heap.size := by omega)
    try (have _L2w1 : w1.heap.size < w2.heap.size := by omega)
    have _M2w1 : w1.heap.size ≤ w2.heap.size := by omega
    try (have _P2w1_1 : w1.heap.size + 1 < w2.heap.size := by omega)
    try (have _P2w1_2 : w1.heap.size + 1 + 1 < w2.heap.size := by omega)
    try (have _P2w1_3 : w1.heap.size + 1 + 1 + 1 < w2.heap.size := by omega)
    have _ : w2.cell? ⟨w.heap.size, 0, none⟩ = some (.int .i64 n) := by rw [hc2 (w.heap.size) 0 (by first | omega | (simp; done) | (simp; omega))]; first | assumption | (simp; done) | simp [go_sem, *]
    have _ : w2.frozen? ⟨w.heap.size, 0, none⟩ = false := by rw [hf2 (w.heap.size) 0 (by first | omega | (simp; done) | (simp; omega))]; first | assumption | (simp; done) | simp [go_sem, *]
    have _ : w2.cell? ⟨w.heap.size, 1, none⟩ = some (.int .i64 d) := by rw [hc2 (w.heap.size) 1 (by first | omega | (simp; done) | (simp; omega))]; first | assumption | (simp; done) | simp [go_sem, *]
    have _ : w2.frozen? ⟨w.heap.size, 1, none⟩ = false := by rw [hf2 (w.heap.size) 1 (by first | omega | (simp; done) | (simp; omega))]; first | assumption | (simp; done) | simp [go_sem, *]
    have _ : w2.cell? ⟨w.heap.size + 1, 0, none⟩ = some (.int .i64 m) := by rw [hc2 (w.heap.size + 1) 0 (by first | omega | (simp; done) | (simp; omega))]; first | assumption | (simp; done) | simp [go_sem, *]
    have _ : w2.frozen? ⟨w.heap.size + 1, 0, none⟩ = false := by rw [hf2 (w.heap.size + 1) 0 (by first | omega | (simp; done) | (simp; omega))]; first | assumption | (simp; done) | simp [go_sem, *]
    have _ : w2.cell? ⟨w.heap.size + 1, 1, none⟩ = some (.int .i64 e) := by rw [hc2 (w.heap.size + 1) 1 (by first | omega | (simp; done) | (simp; omega))]; first | assumption | (simp; done) | simp [go_sem, *]
    have _ : w2.frozen? ⟨w.heap.size + 1, 1, none⟩ = false := by rw [hf2 (w.heap.size + 1) 1 (by first | omega | (simp; done) | (simp; omega))]; first | assumption | (simp; done) | simp [go_sem, *]
    clear hc2 hf2
    rw [hl]
    go_wp2
    go_ret
    exact ⟨ret_b HF.out.symm, by (repeat (first | exact Below.refl _ _ | (refine Below.setCell ?_ (by (first | exact Nat.le_refl _ | omega | (simp <;> omega) | simp)) _) | (refine Below.alloc ?_ (by (first | exact Nat.le_refl _ | omega | (simp <;> omega) | simp)) _) | (refine below_draws ?_ _) | exact B1 | (refine Below.trans ?_ (Below.mono B1 (by (first | exact Nat.le_refl _ | omega | (simp <;> omega) | simp)))) | exact B2 | (refine Below.trans ?_ (Below.mono B2 (by (first | exact Nat.le_refl _ | omega | (simp <;> omega) | simp))))))⟩
  obtain ⟨p1, p2, p3, p4, -⟩ := rOk_iff.1 hk
  obtain ⟨q1, q2, q3, q4, -⟩ := rOk_iff.1 hl
  by_cases h1 : fitP n e = true
  case neg =>
    have h1 : fitP n e = false := by simpa using h1
    have hno : fit4 n d m e = false := by simp [fit4, h1]
    have HF := Lib.hid hno; clear hno
    go_enter Try.func59, Try.ntmps59
    go_wp2_with fail
    refine (impl_rOk n d _ n0 n1 d0 d1).mono ?_
    rintro en w1 ⟨rfl, B1⟩
    obtain ⟨hc1, hf1⟩ := bcell B1
    have S1 := B1.size
    try simp at S1
    try (have _L1w : w.heap.size < w1.heap.size := by omega)
    have _M1w : w.heap.size ≤ w1.heap.size := by omega
    try (have _P1w_1 : w.heap.size + 1 < w1.heap.size := by omega)
    try (have _P1w_2 : w.heap.size + 1 + 1 < w1.heap.size := by omega)
    try (have _P1w_3 : w.heap.size + 1 + 1 + 1 < w1.heap.size := by omega)
    have _ : w1.cell? ⟨w.heap.size, 0, none⟩ = some (.int .i64 n) := by rw [hc1 (w.heap.size) 0 (by first | omega | (simp; done) | (simp; omega))]; first | assumption | (simp; done) | simp [go_sem, *]
    have _ : w1.frozen? ⟨w.heap.size, 0, none⟩ = false := by rw [hf1 (w.heap.size) 0 (by first | omega | (simp; done) | (simp; omega))]; first | assumption | (simp; done) | simp [go_sem, *]
    have _ : w1.cell? ⟨w.heap.size, 1, none⟩ = some (.int .i64 d) := by rw [hc1 (w.heap.size) 1 (by first | omega | (simp; done) | (simp; omega))]; first | assumption | (simp; done) | simp [go_sem, *]
    have _ : w1.frozen? ⟨w.heap.size, 1, none⟩ = false := by rw [hf1 (w.heap.size) 1 (by first | omega | (simp; done) | (simp; omega))]; first | assumption | (simp; done) | simp [go_sem, *]
    have _ : w1.cell? ⟨w.heap.size + 1, 0, none⟩ = some (.int .i64 m) := by rw [hc1 (w.heap.size + 1) 0 (by first | omega | (simp; done) | (simp; omega))]; first | assumption | (simp; done) | simp [go_sem, *]
    have _ : w1.frozen? ⟨w.heap.size + 1, 0, none⟩ = false := by rw [hf1 (w.heap.size + 1) 0 (by first | omega | (simp; done) | (simp; omega))]; first | assumption | (simp; done) | simp [go_sem, *]
    have _ : w1.cell? ⟨w.heap.size + 1, 1, none⟩ = some (.int .i64 e) := by rw [hc1 (w.heap.size + 1) 1 (by first | omega | (simp; done) | (simp; omega))]; first | assumption | (simp; done) | simp [go_sem, *]
    have _ : w1.frozen? ⟨w.heap.size + 1, 1, none⟩ = false := by rw [hf1 (w.heap.size + 1) 1 (by first | omega | (simp; done) | (simp; omega))]; first | assumption | (simp; done) | simp [go_sem, *]
    clear hc1 hf1
    rw [hk]
    go_wp2_with fail
    refine (impl_rOk m e _ m0 m1 e0 e1).mono ?_
    rintro en w2 ⟨rfl, B2⟩
    obtain ⟨hc2, hf2⟩ := bcell B2
    have S2 := B2.size
    try simp at S2
    try (have _L2w : w.heap.size < w2.heap.size := by omega)
    have _M2w : w.heap.size ≤ w2.heap.size := by omega
    try (have _P2w_1 : w.heap.size + 1 < w2.heap.size := by omega)
    try (have _P2w_2 : w.heap.size + 1 + 1 < w2.heap.size := by omega)
    try (have _P2w_3 : w.heap.size + 1 + 1 + 1 < w2.heap.size := by omega)
    try (have _L2w1 : w1.heap.size < w2.heap.size := by omega)
    have _M2w1 : w1.heap.size ≤ w2.heap.size := by omega
    try (have _P2w1_1 : w1.heap.size + 1 < w2.heap.size := by omega)
    try (have _P2w1_2 : w1.heap.size + 1 + 1 < w2.heap.size := by omega)
    try (have _P2w1_3 : w1.heap.size + 1 + 1 + 1 < w2.heap.size := by omega)
    have _ : w2.cell? ⟨w.heap.size, 0, none⟩ = some (.int .i64 n) := by rw [hc2 (w.heap.size) 0 (by first | omega | (simp; done) | (simp; omega))]; first | assumption | (simp; done) | simp [go_sem, *]
    have _ : w2.frozen? ⟨w.heap.size, 0, none⟩ = false := by rw [hf2 (w.heap.size) 0 (by first | omega | (simp; done) | (simp; omega))]; first | assumption | (simp; done) | simp [go_sem, *]
    have _ : w2.cell? ⟨w.heap.size, 1, none⟩ = some (.int .i64 d) := by rw [hc2 (w.heap.size) 1 (by first | omega | (simp; done) | (simp; omega))]; first | assumption | (simp; done) | simp [go_sem, *]
    have _ : w2.frozen? ⟨w.heap.size, 1, none⟩ = false := by rw [hf2 (w.heap.size) 1 (by first | omega | (simp; done) | (simp; omega))]; first | assumption | (simp; done) | simp [go_sem, *]
    have _ : w2.cell? ⟨w.heap.size + 1, 0, none⟩ = some (.int .i64 m) := by rw [hc2 (w.heap.size + 1) 0 (by first | omega | (simp; done) | (simp; omega))]; first | assumption | (simp; done) | simp [go_sem, *]
    have _ : w2.frozen? ⟨w.heap.size + 1, 0, none⟩ = false := by rw [hf2 (w.heap.size + 1) 0 (by first | omega | (simp; done) | (simp; omega))]; first | assumption | (simp; done) | simp [go_sem, *]
    have _ : w2.cell? ⟨w.heap.size + 1, 1, none⟩ = some (.int .i64 e) := by rw [hc2 (w.heap.size + 1) 1 (by first | omega | (simp; done) | (simp; omega))]; first | assumption | (simp; done) | simp [go_sem, *]
    have _ : w2.frozen? ⟨w.heap.size + 1, 1, none⟩ = false := by rw [hf2 (w.heap.size + 1) 1 (by first | omega | (simp; done) | (simp; omega))]; first | assumption | (simp; done) | simp [go_sem, *]
    clear hc2 hf2
    rw [hl]
    go_wp2_with fail
    refine (impl_fits n e _ (by omega) (by omega) (by omega) (by omega)).mono ?_
    rintro en wq ⟨rfl, rfl⟩
    rw [h1]
    go_wp2
    go_ret
    exact ⟨ret_b HF.out.symm, by (repeat (first | exact Below.refl _ _ | (refine Below.setCell ?_ (by (first | exact Nat.le_refl _ | omega | (simp <;> omega) | simp)) _) | (refine Below.alloc ?_ (by (first | exact Nat.le_refl _ | omega | (simp <;> omega) | simp)) _) | (refine below_draws ?_ _) | exact B1 | (refine Below.trans ?_ (Below.mono B1 (by (first | exact Nat.le_refl _ | omega | (simp <;> omega) | simp)))) | exact B2 | (refine Below.trans ?_ (Below.mono B2 (by (first | exact Nat.le_refl _ | omega | (simp <;> omega) | simp))))))⟩
  by_cases h2 : fitP m d = true
  case neg =>
    have h2 : fitP m d = false := by simpa using h2
    have hno : fit4 n d m e = false := by simp [fit4, h2]
    have HF := Lib.hid hno; clear hno
    go_enter Try.func59, Try.ntmps59
    go_wp2_with fail
    refine (impl_rOk n d _ n0 n1 d0 d1).mono ?_
    rintro en w1 ⟨rfl, B1⟩
    obtain ⟨hc1, hf1⟩ := bcell B1
    have S1 := B1.size
    try simp at S1
    try (have _L1w : w.heap.size < w1.heap.size := by omega)
    have _M1w : w.heap.size ≤ w1.heap.size := by omega
    try (have _P1w_1 : w.heap.size + 1 < w1.heap.size := by omega)
    try (have _P1w_2 : w.heap.size + 1 + 1 < w1.heap.size := by omega)
    try (have _P1w_3 : w.heap.size + 1 + 1 + 1 < w1.heap.size := by omega)
    have _ : w1.cell? ⟨w.heap.size, 0, none⟩ = some (.int .i64 n) := by rw [hc1 (w.heap.size) 0 (by first | omega | (simp; done) | (simp; omega))]; first | assumption | (simp; done) | simp [go_sem, *]
    have _ : w1.frozen? ⟨w.heap.size, 0, none⟩ = false := by rw [hf1 (w.heap.size) 0 (by first | omega | (simp; done) | (simp; omega))]; first | assumption | (simp; done) | simp [go_sem, *]
    have _ : w1.cell? ⟨w.heap.size, 1, none⟩ = some (.int .i64 d) := by rw [hc1 (w.heap.size) 1 (by first | omega | (simp; done) | (simp; omega))]; first | assumption | (simp; done) | simp [go_sem, *]
    have _ : w1.frozen? ⟨w.heap.size, 1, none⟩ = false := by rw [hf1 (w.heap.size) 1 (by first | omega | (simp; done) | (simp; omega))]; first | assumption | (simp; done) | simp [go_sem, *]
    have _ : w1.cell? ⟨w.heap.size + 1, 0, none⟩ = some (.int .i64 m) := by rw [hc1 (w.heap.size + 1) 0 (by first | omega | (simp; done) | (simp; omega))]; first | assumption | (simp; done) | simp [go_sem, *]
    have _ : w1.frozen? ⟨w.heap.size + 1, 0, none⟩ = false := by rw [hf1 (w.heap.size + 1) 0 (by first | omega | (simp; done) | (simp; omega))]; first | assumption | (simp; done) | simp [go_sem, *]
    have _ : w1.cell? ⟨w.heap.size + 1, 1, none⟩ = some (.int .i64 e) := by rw [hc1 (w.heap.size + 1) 1 (by first | omega | (simp; done) | (simp; omega))]; first | assumption | (simp; done) | simp [go_sem, *]
    have _ : w1.frozen? ⟨w.heap.size + 1, 1, none⟩ = false := by rw [hf1 (w.heap.size + 1) 1 (by first | omega | (simp; done) | (simp; omega))]; first | assumption | (simp; done) | simp [go_sem, *]
    clear hc1 hf1
    rw [hk]
    go_wp2_with fail
    refine (impl_rOk m e _ m0 m1 e0 e1).mono ?_
    rintro en w2 ⟨rfl, B2⟩
    obtain ⟨hc2, hf2⟩ := bcell B2
    have S2 := B2.size
    try simp at S2
    try (have _L2w : w.heap.size < w2.heap.size := by omega)
    have _M2w : w.heap.size ≤ w2.heap.size := by omega
    try (have _P2w_1 : w.heap.size + 1 < w2.heap.size := by omega)
    try (have _P2w_2 : w.heap.size + 1 + 1 < w2.heap.size := by omega)
    try (have _P2w_3 : w.heap.size + 1 + 1 + 1 < w2.heap.size := by omega)
    try (have _L2w1 : w1.heap.size < w2.heap.size := by omega)
    have _M2w1 : w1.heap.size ≤ w2.heap.size := by omega
    try (have _P2w1_1 : w1.heap.size + 1 < w2.heap.size := by omega)
    try (have _P2w1_2 : w1.heap.size + 1 + 1 < w2.heap.size := by omega)
    try (have _P2w1_3 : w1.heap.size + 1 + 1 + 1 < w2.heap.size := by omega)
    have _ : w2.cell? ⟨w.heap.size, 0, none⟩ = some (.int .i64 n) := by rw [hc2 (w.heap.size) 0 (by first | omega | (simp; done) | (simp; omega))]; first | assumption | (simp; done) | simp [go_sem, *]
    have _ : w2.frozen? ⟨w.heap.size, 0, none⟩ = false := by rw [hf2 (w.heap.size) 0 (by first | omega | (simp; done) | (simp; omega))]; first | assumption | (simp; done) | simp [go_sem, *]
    have _ : w2.cell? ⟨w.heap.size, 1, none⟩ = some (.int .i64 d) := by rw [hc2 (w.heap.size) 1 (by first | omega | (simp; done) | (simp; omega))]; first | assumption | (simp; done) | simp [go_sem, *]
    have _ : w2.frozen? ⟨w.heap.size, 1, none⟩ = false := by rw [hf2 (w.heap.size) 1 (by first | omega | (simp; done) | (simp; omega))]; first | assumption | (simp; done) | simp [go_sem, *]
    have _ : w2.cell? ⟨w.heap.size + 1, 0, none⟩ = some (.int .i64 m) := by rw [hc2 (w.heap.size + 1) 0 (by first | omega | (simp; done) | (simp; omega))]; first | assumption | (simp; done) | simp [go_sem, *]
    have _ : w2.frozen? ⟨w.heap.size + 1, 0, none⟩ = false := by rw [hf2 (w.heap.size + 1) 0 (by first | omega | (simp; done) | (simp; omega))]; first | assumption | (simp; done) | simp [go_sem, *]
    have _ : w2.cell? ⟨w.heap.size + 1, 1, none⟩ = some (.int .i64 e) := by rw [hc2 (w.heap.size + 1) 1 (by first | omega | (simp; done) | (simp; omega))]; first | assumption | (simp; done) | simp [go_sem, *]
    have _ : w2.frozen? ⟨w.heap.size + 1, 1, none⟩ = false := by rw [hf2 (w.heap.size + 1) 1 (by first | omega | (simp; done) | (simp; omega))]; first | assumption | (simp; done) | simp [go_sem, *]
    clear hc2 hf2
    rw [hl]
    go_wp2_with fail
    refine (impl_fits n e _ (by omega) (by omega) (by omega) (by omega)).mono ?_
    rintro en wq ⟨rfl, rfl⟩
    rw [h1]
    go_wp2_with fail
    refine (impl_fits m d _ (by omega) (by omega) (by omega) (by omega)).mono ?_
    rintro en wq ⟨rfl, rfl⟩
    rw [h2]
    go_wp2
    go_ret
    exact ⟨ret_b HF.out.symm, by (repeat (first | exact Below.refl _ _ | (refine Below.setCell ?_ (by (first | exact Nat.le_refl _ | omega | (simp <;> omega) | simp)) _) | (refine Below.alloc ?_ (by (first | exact Nat.le_refl _ | omega | (simp <;> omega) | simp)) _) | (refine below_draws ?_ _) | exact B1 | (refine Below.trans ?_ (Below.mono B1 (by (first | exact Nat.le_refl _ | omega | (simp <;> omega) | simp)))) | exact B2 | (refine Below.trans ?_ (Below.mono B2 (by (first | exact Nat.le_refl _ | omega | (simp <;> omega) | simp))))))⟩
  by_cases h3 : fitP d e = true
  case neg =>
    have h3 : fitP d e = false := by simpa using h3
    have hno : fit4 n d m e = false := by simp [fit4, h3]
    have HF := Lib.hid hno; clear hno
    go_enter Try.func59, Try.ntmps59
    go_wp2_with fail
    refine (impl_rOk n d _ n0 n1 d0 d1).mono ?_
    rintro en w1 ⟨rfl, B1⟩
    obtain ⟨hc1, hf1⟩ := bcell B1
    have S1 := B1.size
    try simp at S1
    try (have _L1w : w.heap.size < w1.heap.size := by omega)
    have _M1w : w.heap.size ≤ w1.heap.size := by omega
    try (have _P1w_1 : w.heap.size + 1 < w1.heap.size := by omega)
    try (have _P1w_2 : w.heap.size + 1 + 1 < w1.heap.size := by omega)
    try (have _P1w_3 : w.heap.size + 1 + 1 + 1 < w1.heap.size := by omega)
    have _ : w1.cell? ⟨w.heap.size, 0, none⟩ = some (.int .i64 n) := by rw [hc1 (w.heap.size) 0 (by first | omega | (simp; done) | (simp; omega))]; first | assumption | (simp; done) | simp [go_sem, *]
    have _ : w1.frozen? ⟨w.heap.size, 0, none⟩ = false := by rw [hf1 (w.heap.size) 0 (by first | omega | (simp; done) | (simp; omega))]; first | assumption | (simp; done) | simp [go_sem, *]
    have _ : w1.cell? ⟨w.heap.size, 1, none⟩ = some (.int .i64 d) := by rw [hc1 (w.heap.size) 1 (by first | omega | (simp; done) | (simp; omega))]; first | assumption | (simp; done) | simp [go_sem, *]
    have _ : w1.frozen? ⟨w.heap.size, 1, none⟩ = false := by rw [hf1 (w.heap.size) 1 (by first | omega | (simp; done) | (simp; omega))]; first | assumption | (simp; done) | simp [go_sem, *]
    have _ : w1.cell? ⟨w.heap.size + 1, 0, none⟩ = some (.int .i64 m) := by rw [hc1 (w.heap.size + 1) 0 (by first | omega | (simp; done) | (simp; omega))]; first | assumption | (simp; done) | simp [go_sem, *]
    have _ : w1.frozen? ⟨w.heap.size + 1, 0, none⟩ = false := by rw [hf1 (w.heap.size + 1) 0 (by first | omega | (simp; done) | (simp; omega))]; first | assumption | (simp; done) | simp [go_sem, *]
    have _ : w1.cell? ⟨w.heap.size + 1, 1, none⟩ = some (.int .i64 e) := by rw [hc1 (w.heap.size + 1) 1 (by first | omega | (simp; done) | (simp; omega))]; first | assumption | (simp; done) | simp [go_sem, *]
    have _ : w1.frozen? ⟨w.heap.size + 1, 1, none⟩ = false := by rw [hf1 (w.heap.size + 1) 1 (by first | omega | (simp; done) | (simp; omega))]; first | assumption | (simp; done) | simp [go_sem, *]
    clear hc1 hf1
    rw [hk]
    go_wp2_with fail
    refine (impl_rOk m e _ m0 m1 e0 e1).mono ?_
    rintro en w2 ⟨rfl, B2⟩
    obtain ⟨hc2, hf2⟩ := bcell B2
    have S2 := B2.size
    try simp at S2
    try (have _L2w : w.heap.size < w2.heap.size := by omega)
    have _M2w : w.heap.size ≤ w2.heap.size := by omega
    try (have _P2w_1 : w.heap.size + 1 < w2.heap.size := by omega)
    try (have _P2w_2 : w.heap.size + 1 + 1 < w2.heap.size := by omega)
    try (have _P2w_3 : w.heap.size + 1 + 1 + 1 < w2.heap.size := by omega)
    try (have _L2w1 : w1.heap.size < w2.heap.size := by omega)
    have _M2w1 : w1.heap.size ≤ w2.heap.size := by omega
    try (have _P2w1_1 : w1.heap.size + 1 < w2.heap.size := by omega)
    try (have _P2w1_2 : w1.heap.size + 1 + 1 < w2.heap.size := by omega)
    try (have _P2w1_3 : w1.heap.size + 1 + 1 + 1 < w2.heap.size := by omega)
    have _ : w2.cell? ⟨w.heap.size, 0, none⟩ = some (.int .i64 n) := by rw [hc2 (w.heap.size) 0 (by first | omega | (simp; done) | (simp; omega))]; first | assumption | (simp; done) | simp [go_sem, *]
    have _ : w2.frozen? ⟨w.heap.size, 0, none⟩ = false := by rw [hf2 (w.heap.size) 0 (by first | omega | (simp; done) | (simp; omega))]; first | assumption | (simp; done) | simp [go_sem, *]
    have _ : w2.cell? ⟨w.heap.size, 1, none⟩ = some (.int .i64 d) := by rw [hc2 (w.heap.size) 1 (by first | omega | (simp; done) | (simp; omega))]; first | assumption | (simp; done) | simp [go_sem, *]
    have _ : w2.frozen? ⟨w.heap.size, 1, none⟩ = false := by rw [hf2 (w.heap.size) 1 (by first | omega | (simp; done) | (simp; omega))]; first | assumption | (simp; done) | simp [go_sem, *]
    have _ : w2.cell? ⟨w.heap.size + 1, 0, none⟩ = some (.int .i64 m) := by rw [hc2 (w.heap.size + 1) 0 (by first | omega | (simp; done) | (simp; omega))]; first | assumption | (simp; done) | simp [go_sem, *]
    have _ : w2.frozen? ⟨w.heap.size + 1, 0, none⟩ = false := by rw [hf2 (w.heap.size + 1) 0 (by first | omega | (simp; done) | (simp; omega))]; first | assumption | (simp; done) | simp [go_sem, *]
    have _ : w2.cell? ⟨w.heap.size + 1, 1, none⟩ = some (.int .i64 e) := by rw [hc2 (w.heap.size + 1) 1 (by first | omega | (simp; done) | (simp; omega))]; first | assumption | (simp; done) | simp [go_sem, *]
    have _ : w2.frozen? ⟨w.heap.size + 1, 1, none⟩ = false := by rw [hf2 (w.heap.size + 1) 1 (by first | omega | (simp; done) | (simp; omega))]; first | assumption | (simp; done) | simp [go_sem, *]
    clear hc2 hf2
    rw [hl]
    go_wp2_with fail
    refine (impl_fits n e _ (by omega) (by omega) (by omega) (by omega)).mono ?_
    rintro en wq ⟨rfl, rfl⟩
    rw [h1]
    go_wp2_with fail
    refine (impl_fits m d _ (by omega) (by omega) (by omega) (by omega)).mono ?_
    rintro en wq ⟨rfl, rfl⟩
    rw [h2]
    go_wp2_with fail
    refine (impl_fits d e _ (by omega) (by omega) (by omega) (by omega)).mono ?_
    rintro en wq ⟨rfl, rfl⟩
    rw [h3]
    go_wp2
    go_ret
    exact ⟨ret_b HF.out.symm, by (repeat (first | exact Below.refl _ _ | (refine Below.setCell ?_ (by (first | exact Nat.le_refl _ | omega | (simp <;> omega) | simp)) _) | (refine Below.alloc ?_ (by (first | exact Nat.le_refl _ | omega | (simp <;> omega) | simp)) _) | (refine below_draws ?_ _) | exact B1 | (refine Below.trans ?_ (Below.mono B1 (by (first | exact Nat.le_refl _ | omega | (simp <;> omega) | simp)))) | exact B2 | (refine Below.trans ?_ (Below.mono B2 (by (first | exact Nat.le_refl _ | omega | (simp <;> omega) | simp))))))⟩
  by_cases h4 : fitP n m = true
  case neg =>
    have h4 : fitP n m = false := by simpa using h4
    have hno : fit4 n d m e = false := by simp [fit4, h4]
    have HF := Lib.hid hno; clear hno
    go_enter Try.func59, Try.ntmps59
    go_wp2_with fail
    refine (impl_rOk n d _ n0 n1 d0 d1).mono ?_
    rintro en w1 ⟨rfl, B1⟩
    obtain ⟨hc1, hf1⟩ := bcell B1
    have S1 := B1.size
    try simp at S1
    try (have _L1w : w.heap.size < w1.heap.size := by omega)
    have _M1w : w.heap.size ≤ w1.heap.size := by omega
    try (have _P1w_1 : w.heap.size + 1 < w1.heap.size := by omega)
    try (have _P1w_2 : w.heap.size + 1 + 1 < w1.heap.size := by omega)
    try (have _P1w_3 : w.heap.size + 1 + 1 + 1 < w1.heap.size := by omega)
    have _ : w1.cell? ⟨w.heap.size, 0, none⟩ = some (.int .i64 n) := by rw [hc1 (w.heap.size) 0 (by first | omega | (simp; done) | (simp; omega))]; first | assumption | (simp; done) | simp [go_sem, *]
    have _ : w1.frozen? ⟨w.heap.size, 0, none⟩ = false := by rw [hf1 (w.heap.size) 0 (by first | omega | (simp; done) | (simp; omega))]; first | assumption | (simp; done) | simp [go_sem, *]
    have _ : w1.cell? ⟨w.heap.size, 1, none⟩ = some (.int .i64 d) := by rw [hc1 (w.heap.size) 1 (by first | omega | (simp; done) | (simp; omega))]; first | assumption | (simp; done) | simp [go_sem, *]
    have _ : w1.frozen? ⟨w.heap.size, 1, none⟩ = false := by rw [hf1 (w.heap.size) 1 (by first | omega | (simp; done) | (simp; omega))]; first | assumption | (simp; done) | simp [go_sem, *]
    have _ : w1.cell? ⟨w.heap.size + 1, 0, none⟩ = some (.int .i64 m) := by rw [hc1 (w.heap.size + 1) 0 (by first | omega | (simp; done) | (simp; omega))]; first | assumption | (simp; done) | simp [go_sem, *]
    have _ : w1.frozen? ⟨w.heap.size + 1, 0, none⟩ = false := by rw [hf1 (w.heap.size + 1) 0 (by first | omega | (simp; done) | (simp; omega))]; first | assumption | (simp; done) | simp [go_sem, *]
    have _ : w1.cell? ⟨w.heap.size + 1, 1, none⟩ = some (.int .i64 e) := by rw [hc1 (w.heap.size + 1) 1 (by first | omega | (simp; done) | (simp; omega))]; first | assumption | (simp; done) | simp [go_sem, *]
    have _ : w1.frozen? ⟨w.heap.size + 1, 1, none⟩ = false := by rw [hf1 (w.heap.size + 1) 1 (by first | omega | (simp; done) | (simp; omega))]; first | assumption | (simp; done) | simp [go_sem, *]
    clear hc1 hf1
    rw [hk]
    go_wp2_with fail
    refine (impl_rOk m e _ m0 m1 e0 e1).mono ?_
    rintro en w2 ⟨rfl, B2⟩
    obtain ⟨hc2, hf2⟩ := bcell B2
    have S2 := B2.size
    try simp at S2
    try (have _L2w : w.heap.size < w2.heap.size := by omega)
    have _M2w : w.heap.size ≤ w2.heap.size := by omega
    try (have _P2w_1 : w.heap.size + 1 < w2.heap.size := by omega)
    try (have _P2w_2 : w.heap.size + 1 + 1 < w2.heap.size := by omega)
    try (have _P2w_3 : w.heap.size + 1 + 1 + 1 < w2.heap.size := by omega)
    try (have _L2w1 : w1.heap.size < w2.heap.size := by omega)
    have _M2w1 : w1.heap.size ≤ w2.heap.size := by omega
    try (have _P2w1_1 : w1.heap.size + 1 < w2.heap.size := by omega)
    try (have _P2w1_2 : w1.heap.size + 1 + 1 < w2.heap.size := by omega)
    try (have _P2w1_3 : w1.heap.size + 1 + 1 + 1 < w2.heap.size := by omega)
    have _ : w2.cell? ⟨w.heap.size, 0, none⟩ = some (.int .i64 n) := by rw [hc2 (w.heap.size) 0 (by first | omega | (simp; done) | (simp; omega))]; first | assumption | (simp; done) | simp [go_sem, *]
    have _ : w2.frozen? ⟨w.heap.size, 0, none⟩ = false := by rw [hf2 (w.heap.size) 0 (by first | omega | (simp; done) | (simp; omega))]; first | assumption | (simp; done) | simp [go_sem, *]
    have _ : w2.cell? ⟨w.heap.size, 1, none⟩ = some (.int .i64 d) := by rw [hc2 (w.heap.size) 1 (by first | omega | (simp; done) | (simp; omega))]; first | assumption | (simp; done) | simp [go_sem, *]
    have _ : w2.frozen? ⟨w.heap.size, 1, none⟩ = false := by rw [hf2 (w.heap.size) 1 (by first | omega | (simp; done) | (simp; omega))]; first | assumption | (simp; done) | simp [go_sem, *]
    have _ : w2.cell? ⟨w.heap.size + 1, 0, none⟩ = some (.int .i64 m) := by rw [hc2 (w.heap.size + 1) 0 (by first | omega | (simp; done) | (simp; omega))]; first | assumption | (simp; done) | simp [go_sem, *]
    have _ : w2.frozen? ⟨w.heap.size + 1, 0, none⟩ = false := by rw [hf2 (w.heap.size + 1) 0 (by first | omega | (simp; done) | (simp; omega))]; first | assumption | (simp; done) | simp [go_sem, *]
    have _ : w2.cell? ⟨w.heap.size + 1, 1, none⟩ = some (.int .i64 e) := by rw [hc2 (w.heap.size + 1) 1 (by first | omega | (simp; done) | (simp; omega))]; first | assumption | (simp; done) | simp [go_sem, *]
    have _ : w2.frozen? ⟨w.heap.size + 1, 1, none⟩ = false := by rw [hf2 (w.heap.size + 1) 1 (by first | omega | (simp; done) | (simp; omega))]; first | assumption | (simp; done) | simp [go_sem, *]
    clear hc2 hf2
    rw [hl]
    go_wp2_with fail
    refine (impl_fits n e _ (by omega) (by omega) (by omega) (by omega)).mono ?_
    rintro en wq ⟨rfl, rfl⟩
    rw [h1]
    go_wp2_with fail
    refine (impl_fits m d _ (by omega) (by omega) (by omega) (by omega)).mono ?_
    rintro en wq ⟨rfl, rfl⟩
    rw [h2]
    go_wp2_with fail
    refine (impl_fits d e _ (by omega) (by omega) (by omega) (by omega)).mono ?_
    rintro en wq ⟨rfl, rfl⟩
    rw [h3]
    go_wp2_with fail
    refine (impl_fits n m _ (by omega) (by omega) (by omega) (by omega)).mono ?_
    rintro en wq ⟨rfl, rfl⟩
    rw [h4]
    go_wp2
    go_ret
    exact ⟨ret_b HF.out.symm, by (repeat (first | exact Below.refl _ _ | (refine Below.setCell ?_ (by (first | exact Nat.le_refl _ | omega | (simp <;> omega) | simp)) _) | (refine Below.alloc ?_ (by (first | exact Nat.le_refl _ | omega | (simp <;> omega) | simp)) _) | (refine below_draws ?_ _) | exact B1 | (refine Below.trans ?_ (Below.mono B1 (by (first | exact Nat.le_refl _ | omega | (simp <;> omega) | simp)))) | exact B2 | (refine Below.trans ?_ (Below.mono B2 (by (first | exact Nat.le_refl _ | omega | (simp <;> omega) | simp))))))⟩
  have hyes : fit4 n d m e = true := by simp [fit4, hk, hl, h1, h2, h3, h4]
  have HF := Lib.hid hyes; clear hyes
  go_enter Try.func59, Try.ntmps59
  go_wp2_with fail
  refine (impl_rOk n d _ n0 n1 d0 d1).mono ?_
  rintro en w1 ⟨rfl, B1⟩
  obtain ⟨hc1, hf1⟩ := bcell B1
  have S1 := B1.size
  try simp at S1
  try (have _L1w : w.heap.size < w1.heap.size := by omega)
  have _M1w : w.heap.size ≤ w1.heap.size := by omega
  try (have _P1w_1 : w.heap.size + 1 < w1.heap.size := by omega)
  try (have _P1w_2 : w.heap.size + 1 + 1 < w1.heap.size := by omega)
  try (have _P1w_3 : w.heap.size + 1 + 1 + 1 < w1.heap.size := by omega)
  have _ : w1.cell? ⟨w.heap.size, 0, none⟩ = some (.int .i64 n) := by rw [hc1 (w.heap.size) 0 (by first | omega | (simp; done) | (simp; omega))]; first | assumption | (simp; done) | simp [go_sem, *]
  have _ : w1.frozen? ⟨w.heap.size, 0, none⟩ = false := by rw [hf1 (w.heap.size) 0 (by first | omega | (simp; done) | (simp; omega))]; first | assumption | (simp; done) | simp [go_sem, *]
  have _ : w1.cell? ⟨w.heap.size, 1, none⟩ = some (.int .i64 d) := by rw [hc1 (w.heap.size) 1 (by first | omega | (simp; done) | (simp; omega))]; first | assumption | (simp; done) | simp [go_sem, *]
  have _ : w1.frozen? ⟨w.heap.size, 1, none⟩ = false := by rw [hf1 (w.heap.size) 1 (by first | omega | (simp; done) | (simp; omega))]; first | assumption | (simp; done) | simp [go_sem, *]
  have _ : w1.cell? ⟨w.heap.size + 1, 0, none⟩ = some (.int .i64 m) := by rw [hc1 (w.heap.size + 1) 0 (by first | omega | (simp; done) | (simp; omega))]; first | assumption | (simp; done) | simp [go_sem, *]
  have _ : w1.frozen? ⟨w.heap.size + 1, 0, none⟩ = false := by rw [hf1 (w.heap.size + 1) 0 (by first | omega | (simp; done) | (simp; omega))]; first | assumption | (simp; done) | simp [go_sem, *]
  have _ : w1.cell? ⟨w.heap.size + 1, 1, none⟩ = some (.int .i64 e) := by rw [hc1 (w.heap.size + 1) 1 (by first | omega | (simp; done) | (simp; omega))]; first | assumption | (simp; done) | simp [go_sem, *]
  have _ : w1.frozen? ⟨w.heap.size + 1, 1, none⟩ = false := by rw [hf1 (w.heap.size + 1) 1 (by first | omega | (simp; done) | (simp; omega))]; first | assumption | (simp; done) | simp [go_sem, *]
  clear hc1 hf1
  rw [hk]
  go_wp2_with fail
  refine (impl_rOk m e _ m0 m1 e0 e1).mono ?_
  rintro en w2 ⟨rfl, B2⟩
  obtain ⟨hc2, hf2⟩ := bcell B2
  have S2 := B2.size
  try simp at S2
  try (have _L2w : w.heap.size < w2.heap.size := by omega)
  have _M2w : w.heap.size ≤ w2.heap.size := by omega
  try (have _P2w_1 : w.heap.size + 1 < w2.heap.size := by omega)
  try (have _P2w_2 : w.heap.size + 1 + 1 < w2.heap.size := by omega)
  try (have _P2w_3 : w.heap.size + 1 + 1 + 1 < w2.heap.size := by omega)
  try (have _L2w1 : w1.heap.size < w2.heap.size := by omega)
  have _M2w1 : w1.heap.size ≤ w2.heap.size := by omega
  try (have _P2w1_1 : w1.heap.size + 1 < w2.heap.size := by omega)
  try (have _P2w1_2 : w1.heap.size + 1 + 1 < w2.heap.size := by omega)
  try (have _P2w1_3 : w1.heap.size + 1 + 1 + 1 < w2.heap.size := by omega)
  have _ : w2.cell? ⟨w.heap.size, 0, none⟩ = some (.int .i64 n) := by rw [hc2 (w.heap.size) 0 (by first | omega | (simp; done) | (simp; omega))]; first | assumption | (simp; done) | simp [go_sem, *]
  have _ : w2.frozen? ⟨w.heap.size, 0, none⟩ = false := by rw [hf2 (w.heap.size) 0 (by first | omega | (simp; done) | (simp; omega))]; first | assumption | (simp; done) | simp [go_sem, *]
  have _ : w2.cell? ⟨w.heap.size, 1, none⟩ = some (.int .i64 d) := by rw [hc2 (w.heap.size) 1 (by first | omega | (simp; done) | (simp; omega))]; first | assumption | (simp; done) | simp [go_sem, *]
  have _ : w2.frozen? ⟨w.heap.size, 1, none⟩ = false := by rw [hf2 (w.heap.size) 1 (by first | omega | (simp; done) | (simp; omega))]; first | assumption | (simp; done) | simp [go_sem, *]
  have _ : w2.cell? ⟨w.heap.size + 1, 0, none⟩ = some (.int .i64 m) := by rw [hc2 (w.heap.size + 1) 0 (by first | omega | (simp; done) | (simp; omega))]; first | assumption | (simp; done) | simp [go_sem, *]
  have _ : w2.frozen? ⟨w.heap.size + 1, 0, none⟩ = false := by rw [hf2 (w.heap.size + 1) 0 (by first | omega | (simp; done) | (simp; omega))]; first | assumption | (simp; done) | simp [go_sem, *]
  have _ : w2.cell? ⟨w.heap.size + 1, 1, none⟩ = some (.int .i64 e) := by rw [hc2 (w.heap.size + 1) 1 (by first | omega | (simp; done) | (simp; omega))]; first | assumption | (simp; done) | simp [go_sem, *]
  have _ : w2.frozen? ⟨w.heap.size + 1, 1, none⟩ = false := by rw [hf2 (w.heap.size + 1) 1 (by first | omega | (simp; done) | (simp; omega))]; first | assumption | (simp; done) | simp [go_sem, *]
  clear hc2 hf2
  rw [hl]
  go_wp2_with fail
  refine (impl_fits n e _ (by omega) (by omega) (by omega) (by omega)).mono ?_
  rintro en wq ⟨rfl, rfl⟩
  rw [h1]
  go_wp2_with fail
  refine (impl_fits m d _ (by omega) (by omega) (by omega) (by omega)).mono ?_
  rintro en wq ⟨rfl, rfl⟩
  rw [h2]
  go_wp2_with fail
  refine (impl_fits d e _ (by omega) (by omega) (by omega) (by omega)).mono ?_
  rintro en wq ⟨rfl, rfl⟩
  rw [h3]
  go_wp2_with fail
  refine (impl_fits n m _ (by omega) (by omega) (by omega) (by omega)).mono ?_
  rintro en wq ⟨rfl, rfl⟩
  rw [h4]
  go_wp2
  go_ret
  exact ⟨ret_b HF.out.symm, by (repeat (first | exact Below.refl _ _ | (refine Below.setCell ?_ (by (first | exact Nat.le_refl _ | omega | (simp <;> omega) | simp)) _) | (refine Below.alloc ?_ (by (first | exact Nat.le_refl _ | omega | (simp <;> omega) | simp)) _) | (refine below_draws ?_ _) | exact B1 | (refine Below.trans ?_ (Below.mono B1 (by (first | exact Nat.le_refl _ | omega | (simp <;> omega) | simp)))) | exact B2 | (refine Below.trans ?_ (Below.mono B2 (by (first | exact Nat.le_refl _ | omega | (simp <;> omega) | simp))))))⟩
end Go.Proofs.Ytpkddaapffamiaa
