/-
  FnExactTreeSum: for every network, valid or not, the reference model and the program give the same answer to TreeSum, and the network is not changed. No condition.
-/
import Derived.Test.YtpkddaapffamiaaRows
import Derived.Test.YtpkddaapffamiaaForestImpl
import Derived.Test.YtpkddaapffamiaaGForest
import Derived.Test.YtpkddaapffamiaaGNet
namespace Go.Proofs.Ytpkddaapffamiaa
open Go.ChangeShapes Go.WideShapes Go.ChangeAt Go.RowKit

namespace TreeSumLaw
set_option maxHeartbeats 1600000 in
theorem walk (n e s : Int) (v : Value) (ws : List W3) (w : World) (_hn : (Lit.int .i64 n).wf = true) (_he : (Lit.int .i64 e).wf = true) (_hs : (Lit.int .i64 s).wf = true) (hr : ReadsW w v ws) :
    Calls Try.prog 5 #[.agg #[.int .i64 n, .int .i64 e, .int .i64 s, v]] w fun en w' => en = .returned (.bool true) ∧ Below w.heap.size w w' := by
  have B0 := (Below.refl w.heap.size w).alloc (Nat.le_refl _) (.cells #[.int .i64 n, .int .i64 e, .int .i64 s, v] 44)
  have hr0 := hr.later B0
  have hsz := szNet_any n e s v ws 1048576 _ (by omega) (by omega) hr0
  obtain ⟨p, cap, rfl⟩ := hr.shape
  clear B0
  by_cases hneg : szW 1048576 ws < 0
  · go_enter Try.func5, Try.ntmps5
    go_wp2_with fail
    refine hsz.mono ?_
    rintro en w1 ⟨rfl, B1⟩
    obtain ⟨hc1, hf1⟩ := bcell B1
    have S1 := B1.size
    try simp at S1
    try (have _L1w : w.heap.size < w1.heap.size := by omega)
    have _M1w : w.heap.size ≤ w1.heap.size := by omega
    try (have _P1w_1 : w.heap.size + 1 < w1.heap.size := by omega)
    try (have _P1w_2 : w.heap.size + 1 + 1 < w1.heap.size := by omega)
    try (have _P1w_3 : w.heap.size + 1 + 1 + 1 < w1.heap.size := by omega)
    go_wp2
    go_ret
    exact ⟨rfl, by (repeat (first | exact Below.refl _ _ | (refine Below.setCell ?_ (by (first | exact Nat.le_refl _ | omega | (simp <;> omega) | simp)) _) | (refine Below.alloc ?_ (by (first | exact Nat.le_refl _ | omega | (simp <;> omega) | simp)) _) | (refine below_draws ?_ _) | exact B1 | (refine Below.trans ?_ (Below.mono B1 (by (first | exact Nat.le_refl _ | omega | (simp <;> omega) | simp))))))⟩
  have hle : ws.length ≤ 1048576 := by unfold szW at hneg; split at hneg <;> omega
  go_enter Try.func5, Try.ntmps5
  go_wp2_with fail
  refine hsz.mono ?_
  rintro en w1 ⟨rfl, B1⟩
  have hr1 := hr0.later B1
  clear hsz hr0
  obtain ⟨hc1, hf1⟩ := bcell B1
  have S1 := B1.size
  try simp at S1
  try (have _L1w : w.heap.size < w1.heap.size := by omega)
  have _M1w : w.heap.size ≤ w1.heap.size := by omega
  try (have _P1w_1 : w.heap.size + 1 < w1.heap.size := by omega)
  try (have _P1w_2 : w.heap.size + 1 + 1 < w1.heap.size := by omega)
  try (have _P1w_3 : w.heap.size + 1 + 1 + 1 < w1.heap.size := by omega)
  have _ : w1.cell? ⟨w.heap.size, 0, none⟩ = some (.int .i64 n) := by rw [hc1 (w.heap.size) 0 (by first | omega | (simp; done) | (simp; omega))]; first | assumption | (simp; done) | simp [go_sem, *]
  have _ : w1.frozen? ⟨w.heap.size, 0, none⟩ = false := by rw [hf1 (w.heap.size) 0 (by first | omega | (simp; done) | (simp; omega))]; first | assumption | (simp; done) | simp [go_sem, *]
  have _ : w1.cell? ⟨w.heap.size, 1, none⟩ = some (.int .i64 e) := by rw [hc1 (w.heap.size) 1 (by first | omega | (simp; done) | (simp; omega))]; first | assumption | (simp; done) | simp [go_sem, *]
  have _ : w1.frozen? ⟨w.heap.size, 1, none⟩ = false := by rw [hf1 (w.heap.size) 1 (by first | omega | (simp; done) | (simp; omega))]; first | assumption | (simp; done) | simp [go_sem, *]
  have _ : w1.cell? ⟨w.heap.size, 2, none⟩ = some (.int .i64 s) := by rw [hc1 (w.heap.size) 2 (by first | omega | (simp; done) | (simp; omega))]; first | assumption | (simp; done) | simp [go_sem, *]
  have _ : w1.frozen? ⟨w.heap.size, 2, none⟩ = false := by rw [hf1 (w.heap.size) 2 (by first | omega | (simp; done) | (simp; omega))]; first | assumption | (simp; done) | simp [go_sem, *]
  have _ : w1.cell? ⟨w.heap.size, 3, none⟩ = some (.slice p ws.length cap) := by rw [hc1 (w.heap.size) 3 (by first | omega | (simp; done) | (simp; omega))]; first | assumption | (simp; done) | simp [go_sem, *]
  have _ : w1.frozen? ⟨w.heap.size, 3, none⟩ = false := by rw [hf1 (w.heap.size) 3 (by first | omega | (simp; done) | (simp; omega))]; first | assumption | (simp; done) | simp [go_sem, *]
  clear hc1 hf1
  go_wp2_with fail
  refine (toNet_any n e s _ ws _ hle hr1).mono ?_
  rintro en w2 ⟨p2, cap2, rfl, o2, B2⟩
  have hr2 := hr1.later B2
  obtain ⟨hc2, hf2⟩ := bcell B2
  have S2 := B2.size
  try simp at S2
  try (have _L2w : w.heap.size < w2.heap.size := by omega)
  have _M2w : w.heap.size ≤ w2.heap.size := by omega
  try (have _P2w_1 : w.heap.size + 1 < w2.heap.size := by omega)
  try (have _P2w_2 : w.heap.size + 1 + 1 < w2.heap.size := by omega)
  try (have _P2w_3 : w.heap.size + 1 + 1 + 1 < w2.heap.size := by omega)
  try (have _L2w1 : w1.heap.size < w2.heap.size := by omega)
  have _M2w1 : w1.heap.size ≤ w2.heap.size := by omega
  try (have _P2w1_1 : w1.heap.size + 1 < w2.heap.size := by omega)
  try (have _P2w1_2 : w1.heap.size + 1 + 1 < w2.heap.size := by omega)
  try (have _P2w1_3 : w1.heap.size + 1 + 1 + 1 < w2.heap.size := by omega)
  have _ : w2.cell? ⟨w.heap.size, 0, none⟩ = some (.int .i64 n) := by rw [hc2 (w.heap.size) 0 (by first | omega | (simp; done) | (simp; omega))]; first | assumption | (simp; done) | simp [go_sem, *]
  have _ : w2.frozen? ⟨w.heap.size, 0, none⟩ = false := by rw [hf2 (w.heap.size) 0 (by first | omega | (simp; done) | (simp; omega))]; first | assumption | (simp; done) | simp [go_sem, *]
  have _ : w2.cell? ⟨w.heap.size, 1, none⟩ = some (.int .i64 e) := by rw [hc2 (w.heap.size) 1 (by first | omega | (simp; done) | (simp; omega))]; first | assumption | (simp; done) | simp [go_sem, *]
  have _ : w2.frozen? ⟨w.heap.size, 1, none⟩ = false := by rw [hf2 (w.heap.size) 1 (by first | omega | (simp; done) | (simp; omega))]; first | assumption | (simp; done) | simp [go_sem, *]
  have _ : w2.cell? ⟨w.heap.size, 2, none⟩ = some (.int .i64 s) := by rw [hc2 (w.heap.size) 2 (by first | omega | (simp; done) | (simp; omega))]; first | assumption | (simp; done) | simp [go_sem, *]
  have _ : w2.frozen? ⟨w.heap.size, 2, none⟩ = false := by rw [hf2 (w.heap.size) 2 (by first | omega | (simp; done) | (simp; omega))]; first | assumption | (simp; done) | simp [go_sem, *]
  have _ : w2.cell? ⟨w.heap.size, 3, none⟩ = some (.slice p ws.length cap) := by rw [hc2 (w.heap.size) 3 (by first | omega | (simp; done) | (simp; omega))]; first | assumption | (simp; done) | simp [go_sem, *]
  have _ : w2.frozen? ⟨w.heap.size, 3, none⟩ = false := by rw [hf2 (w.heap.size) 3 (by first | omega | (simp; done) | (simp; omega))]; first | assumption | (simp; done) | simp [go_sem, *]
  clear hc2 hf2
  go_wp2_with fail
  refine (spec_tree n e s _ ws _ (ReadsW.of_own o2)).mono ?_
  rintro en w3 ⟨rfl, B3⟩
  have hr3 := hr2.later B3
  obtain ⟨hc3, hf3⟩ := bcell B3
  have S3 := B3.size
  try simp at S3
  try (have _L3w : w.heap.size < w3.heap.size := by omega)
  have _M3w : w.heap.size ≤ w3.heap.size := by omega
  try (have _P3w_1 : w.heap.size + 1 < w3.heap.size := by omega)
  try (have _P3w_2 : w.heap.size + 1 + 1 < w3.heap.size := by omega)
  try (have _P3w_3 : w.heap.size + 1 + 1 + 1 < w3.heap.size := by omega)
  try (have _L3w1 : w1.heap.size < w3.heap.size := by omega)
  have _M3w1 : w1.heap.size ≤ w3.heap.size := by omega
  try (have _P3w1_1 : w1.heap.size + 1 < w3.heap.size := by omega)
  try (have _P3w1_2 : w1.heap.size + 1 + 1 < w3.heap.size := by omega)
  try (have _P3w1_3 : w1.heap.size + 1 + 1 + 1 < w3.heap.size := by omega)
  try (have _L3w2 : w2.heap.size < w3.heap.size := by omega)
  have _M3w2 : w2.heap.size ≤ w3.heap.size := by omega
  try (have _P3w2_1 : w2.heap.size + 1 < w3.heap.size := by omega)
  try (have _P3w2_2 : w2.heap.size + 1 + 1 < w3.heap.size := by omega)
  try (have _P3w2_3 : w2.heap.size + 1 + 1 + 1 < w3.heap.size := by omega)
  have _ : w3.cell? ⟨w.heap.size, 0, none⟩ = some (.int .i64 n) := by rw [hc3 (w.heap.size) 0 (by first | omega | (simp; done) | (simp; omega))]; first | assumption | (simp; done) | simp [go_sem, *]
  have _ : w3.frozen? ⟨w.heap.size, 0, none⟩ = false := by rw [hf3 (w.heap.size) 0 (by first | omega | (simp; done) | (simp; omega))]; first | assumption | (simp; done) | simp [go_sem, *]
  have _ : w3.cell? ⟨w.heap.size, 1, none⟩ = some (.int .i64 e) := by rw [hc3 (w.heap.size) 1 (by first | omega | (simp; done) | (simp; omega))]; first | assumption | (simp; done) | simp [go_sem, *]
  have _ : w3.frozen? ⟨w.heap.size, 1, none⟩ = false := by rw [hf3 (w.heap.size) 1 (by first | omega | (simp; done) | (simp; omega))]; first | assumption | (simp; done) | simp [go_sem, *]
  have _ : w3.cell? ⟨w.heap.size, 2, none⟩ = some (.int .i64 s) := by rw [hc3 (w.heap.size) 2 (by first | omega | (simp; done) | (simp; omega))]; first | assumption | (simp; done) | simp [go_sem, *]
  have _ : w3.frozen? ⟨w.heap.size, 2, none⟩ = false := by rw [hf3 (w.heap.size) 2 (by first | omega | (simp; done) | (simp; omega))]; first | assumption | (simp; done) | simp [go_sem, *]
  have _ : w3.cell? ⟨w.heap.size, 3, none⟩ = some (.slice p ws.length cap) := by rw [hc3 (w.heap.size) 3 (by first | omega | (simp; done) | (simp; omega))]; first | assumption | (simp; done) | simp [go_sem, *]
  have _ : w3.frozen? ⟨w.heap.size, 3, none⟩ = false := by rw [hf3 (w.heap.size) 3 (by first | omega | (simp; done) | (simp; omega))]; first | assumption | (simp; done) | simp [go_sem, *]
  clear hc3 hf3
  clear hr1 hr2 o2
  go_wp2_with fail
  refine (toNet_any n e s _ ws _ hle hr3).mono ?_
  rintro en w4 ⟨p4, cap4, rfl, o4, B4⟩
  have hr4 := hr3.later B4
  obtain ⟨hc4, hf4⟩ := bcell B4
  have S4 := B4.size
  try simp at S4
  try (have _L4w : w.heap.size < w4.heap.size := by omega)
  have _M4w : w.heap.size ≤ w4.heap.size := by omega
  try (have _P4w_1 : w.heap.size + 1 < w4.heap.size := by omega)
  try (have _P4w_2 : w.heap.size + 1 + 1 < w4.heap.size := by omega)
  try (have _P4w_3 : w.heap.size + 1 + 1 + 1 < w4.heap.size := by omega)
  try (have _L4w1 : w1.heap.size < w4.heap.size := by omega)
  have _M4w1 : w1.heap.size ≤ w4.heap.size := by omega
  try (have _P4w1_1 : w1.heap.size + 1 < w4.heap.size := by omega)
  try (have _P4w1_2 : w1.heap.size + 1 + 1 < w4.heap.size := by omega)
  try (have _P4w1_3 : w1.heap.size + 1 + 1 + 1 < w4.heap.size := by omega)
  try (have _L4w2 : w2.heap.size < w4.heap.size := by omega)
  have _M4w2 : w2.heap.size ≤ w4.heap.size := by omega
  try (have _P4w2_1 : w2.heap.size + 1 < w4.heap.size := by omega)
  try (have _P4w2_2 : w2.heap.size + 1 + 1 < w4.heap.size := by omega)
  try (have _P4w2_3 : w2.heap.size + 1 + 1 + 1 < w4.heap.size := by omega)
  try (have _L4w3 : w3.heap.size < w4.heap.size := by omega)
  have _M4w3 : w3.heap.size ≤ w4.heap.size := by omega
  try (have _P4w3_1 : w3.heap.size + 1 < w4.heap.size := by omega)
  try (have _P4w3_2 : w3.heap.size + 1 + 1 < w4.heap.size := by omega)
  try (have _P4w3_3 : w3.heap.size + 1 + 1 + 1 < w4.heap.size := by omega)
  have _ : w4.cell? ⟨w.heap.size, 0, none⟩ = some (.int .i64 n) := by rw [hc4 (w.heap.size) 0 (by first | omega | (simp; done) | (simp; omega))]; first | assumption | (simp; done) | simp [go_sem, *]
  have _ : w4.frozen? ⟨w.heap.size, 0, none⟩ = false := by rw [hf4 (w.heap.size) 0 (by first | omega | (simp; done) | (simp; omega))]; first | assumption | (simp; done) | simp [go_sem, *]
  have _ : w4.cell? ⟨w.heap.size, 1, none⟩ = some (.int .i64 e) := by rw [hc4 (w.heap.size) 1 (by first | omega | (simp; done) | (simp; omega))]; first | assumption | (simp; done) | simp [go_sem, *]
  have _ : w4.frozen? ⟨w.heap.size, 1, none⟩ = false := by rw [hf4 (w.heap.size) 1 (by first | omega | (simp; done) | (simp; omega))]; first | assumption | (simp; done) | simp [go_sem, *]
  have _ : w4.cell? ⟨w.heap.size, 2, none⟩ = some (.int .i64 s) := by rw [hc4 (w.heap.size) 2 (by first | omega | (simp; done) | (simp; omega))]; first | assumption | (simp; done) | simp [go_sem, *]
  have _ : w4.frozen? ⟨w.heap.size, 2, none⟩ = false := by rw [hf4 (w.heap.size) 2 (by first | omega | (simp; done) | (simp; omega))]; first | assumption | (simp; done) | simp [go_sem, *]
  have _ : w4.cell? ⟨w.heap.size, 3, none⟩ = some (.slice p ws.length cap) := by rw [hc4 (w.heap.size) 3 (by first | omega | (simp; done) | (simp; omega))]; first | assumption | (simp; done) | simp [go_sem, *]
  have _ : w4.frozen? ⟨w.heap.size, 3, none⟩ = false := by rw [hf4 (w.heap.size) 3 (by first | omega | (simp; done) | (simp; omega))]; first | assumption | (simp; done) | simp [go_sem, *]
  clear hc4 hf4
  clear hr3
  have hx4 := (ReadsW.of_own o4).later ((Below.refl w4.heap.size w4).alloc (Nat.le_refl _) (.cells #[.int .i64 n, .int .i64 e, .int .i64 s, .slice p4 ws.length cap4] 25))
  replace hr4 := hr4.later ((Below.refl w4.heap.size w4).alloc (Nat.le_refl _) (.cells #[.int .i64 n, .int .i64 e, .int .i64 s, .slice p4 ws.length cap4] 25))
  go_wp2_with fail
  refine (impl_tree n e s _ ws _ hx4).mono ?_
  rintro en w5 ⟨rfl, B5⟩
  have hr5 := hr4.later B5
  have hx5 := hx4.later B5
  obtain ⟨hc5, hf5⟩ := bcell B5
  have S5 := B5.size
  try simp at S5
  try (have _L5w : w.heap.size < w5.heap.size := by omega)
  have _M5w : w.heap.size ≤ w5.heap.size := by omega
  try (have _P5w_1 : w.heap.size + 1 < w5.heap.size := by omega)
  try (have _P5w_2 : w.heap.size + 1 + 1 < w5.heap.size := by omega)
  try (have _P5w_3 : w.heap.size + 1 + 1 + 1 < w5.heap.size := by omega)
  try (have _L5w1 : w1.heap.size < w5.heap.size := by omega)
  have _M5w1 : w1.heap.size ≤ w5.heap.size := by omega
  try (have _P5w1_1 : w1.heap.size + 1 < w5.heap.size := by omega)
  try (have _P5w1_2 : w1.heap.size + 1 + 1 < w5.heap.size := by omega)
  try (have _P5w1_3 : w1.heap.size + 1 + 1 + 1 < w5.heap.size := by omega)
  try (have _L5w2 : w2.heap.size < w5.heap.size := by omega)
  have _M5w2 : w2.heap.size ≤ w5.heap.size := by omega
  try (have _P5w2_1 : w2.heap.size + 1 < w5.heap.size := by omega)
  try (have _P5w2_2 : w2.heap.size + 1 + 1 < w5.heap.size := by omega)
  try (have _P5w2_3 : w2.heap.size + 1 + 1 + 1 < w5.heap.size := by omega)
  try (have _L5w3 : w3.heap.size < w5.heap.size := by omega)
  have _M5w3 : w3.heap.size ≤ w5.heap.size := by omega
  try (have _P5w3_1 : w3.heap.size + 1 < w5.heap.size := by omega)
  try (have _P5w3_2 : w3.heap.size + 1 + 1 < w5.heap.size := by omega)
  try (have _P5w3_3 : w3.heap.size + 1 + 1 + 1 < w5.heap.size := by omega)
  try (have _L5w4 : w4.heap.size < w5.heap.size := by omega)
  have _M5w4 : w4.heap.size ≤ w5.heap.size := by omega
  try (have _P5w4_1 : w4.heap.size + 1 < w5.heap.size := by omega)
  try (have _P5w4_2 : w4.heap.size + 1 + 1 < w5.heap.size := by omega)
  try (have _P5w4_3 : w4.heap.size + 1 + 1 + 1 < w5.heap.size := by omega)
  have _ : w5.cell? ⟨w.heap.size, 0, none⟩ = some (.int .i64 n) := by rw [hc5 (w.heap.size) 0 (by first | omega | (simp; done) | (simp; omega))]; first | assumption | (simp; done) | simp [go_sem, *]
  have _ : w5.frozen? ⟨w.heap.size, 0, none⟩ = false := by rw [hf5 (w.heap.size) 0 (by first | omega | (simp; done) | (simp; omega))]; first | assumption | (simp; done) | simp [go_sem, *]
  have _ : w5.cell? ⟨w.heap.size, 1, none⟩ = some (.int .i64 e) := by rw [hc5 (w.heap.size) 1 (by first | omega | (simp; done) | (simp; omega))]; first | assumption | (simp; done) | simp [go_sem, *]
  have _ : w5.frozen? ⟨w.heap.size, 1, none⟩ = false := by rw [hf5 (w.heap.size) 1 (by first | omega | (simp; done) | (simp; omega))]; first | assumption | (simp; done) | simp [go_sem, *]
  have _ : w5.cell? ⟨w.heap.size, 2, none⟩ = some (.int .i64 s) := by rw [hc5 (w.heap.size) 2 (by first | omega | (simp; done) | (simp; omega))]; first | assumption | (simp; done) | simp [go_sem, *]
  have _ : w5.frozen? ⟨w.heap.size, 2, none⟩ = false := by rw [hf5 (w.heap.size) 2 (by first | omega | (simp; done) | (simp; omega))]; first | assumption | (simp; done) | simp [go_sem, *]
  have _ : w5.cell? ⟨w.heap.size, 3, none⟩ = some (.slice p ws.length cap) := by rw [hc5 (w.heap.size) 3 (by first | omega | (simp; done) | (simp; omega))]; first | assumption | (simp; done) | simp [go_sem, *]
  have _ : w5.frozen? ⟨w.heap.size, 3, none⟩ = false := by rw [hf5 (w.heap.size) 3 (by first | omega | (simp; done) | (simp; omega))]; first | assumption | (simp; done) | simp [go_sem, *]
  have _ : w5.cell? ⟨w4.heap.size, 0, none⟩ = some (.int .i64 n) := by rw [hc5 (w4.heap.size) 0 (by first | omega | (simp; done) | (simp; omega))]; first | assumption | (simp; done) | simp [go_sem, *]
  have _ : w5.frozen? ⟨w4.heap.size, 0, none⟩ = false := by rw [hf5 (w4.heap.size) 0 (by first | omega | (simp; done) | (simp; omega))]; first | assumption | (simp; done) | simp [go_sem, *]
  have _ : w5.cell? ⟨w4.heap.size, 1, none⟩ = some (.int .i64 e) := by rw [hc5 (w4.heap.size) 1 (by first | omega | (simp; done) | (simp; omega))]; first | assumption | (simp; done) | simp [go_sem, *]
  have _ : w5.frozen? ⟨w4.heap.size, 1, none⟩ = false := by rw [hf5 (w4.heap.size) 1 (by first | omega | (simp; done) | (simp; omega))]; first | assumption | (simp; done) | simp [go_sem, *]
  have _ : w5.cell? ⟨w4.heap.size, 2, none⟩ = some (.int .i64 s) := by rw [hc5 (w4.heap.size) 2 (by first | omega | (simp; done) | (simp; omega))]; first | assumption | (simp; done) | simp [go_sem, *]
  have _ : w5.frozen? ⟨w4.heap.size, 2, none⟩ = false := by rw [hf5 (w4.heap.size) 2 (by first | omega | (simp; done) | (simp; omega))]; first | assumption | (simp; done) | simp [go_sem, *]
  have _ : w5.cell? ⟨w4.heap.size, 3, none⟩ = some (.slice p4 ws.length cap4) := by rw [hc5 (w4.heap.size) 3 (by first | omega | (simp; done) | (simp; omega))]; first | assumption | (simp; done) | simp [go_sem, *]
  have _ : w5.frozen? ⟨w4.heap.size, 3, none⟩ = false := by rw [hf5 (w4.heap.size) 3 (by first | omega | (simp; done) | (simp; omega))]; first | assumption | (simp; done) | simp [go_sem, *]
  clear hc5 hf5
  clear hr4 hx4
  have hB5 : Below w.heap.size w w5 := by (repeat (first | exact Below.refl _ _ | (refine Below.setCell ?_ (by (first | exact Nat.le_refl _ | omega | (simp <;> omega) | simp)) _) | (refine Below.alloc ?_ (by (first | exact Nat.le_refl _ | omega | (simp <;> omega) | simp)) _) | (refine below_draws ?_ _) | exact B1 | (refine Below.trans ?_ (Below.mono B1 (by (first | exact Nat.le_refl _ | omega | (simp <;> omega) | simp)))) | exact B2 | (refine Below.trans ?_ (Below.mono B2 (by (first | exact Nat.le_refl _ | omega | (simp <;> omega) | simp)))) | exact B3 | (refine Below.trans ?_ (Below.mono B3 (by (first | exact Nat.le_refl _ | omega | (simp <;> omega) | simp)))) | exact B4 | (refine Below.trans ?_ (Below.mono B4 (by (first | exact Nat.le_refl _ | omega | (simp <;> omega) | simp)))) | exact B5 | (refine Below.trans ?_ (Below.mono B5 (by (first | exact Nat.le_refl _ | omega | (simp <;> omega) | simp))))))
  have hS : (w5.cell? ⟨w.heap.size, 0, none⟩ = some (.int .i64 n) ∧ w5.cell? ⟨w.heap.size, 1, none⟩ = some (.int .i64 e) ∧ w5.cell? ⟨w.heap.size, 2, none⟩ = some (.int .i64 s) ∧ w5.cell? ⟨w.heap.size, 3, none⟩ = some (.slice p ws.length cap)) ∧ (w5.cell? ⟨w4.heap.size, 0, none⟩ = some (.int .i64 n) ∧ w5.cell? ⟨w4.heap.size, 1, none⟩ = some (.int .i64 e) ∧ w5.cell? ⟨w4.heap.size, 2, none⟩ = some (.int .i64 s) ∧ w5.cell? ⟨w4.heap.size, 3, none⟩ = some (.slice p4 ws.length cap4)) ∧ ReadsW w5 (.slice p ws.length cap) ws ∧ ReadsW w5 (.slice p4 ws.length cap4) ws ∧ w.heap.size ≤ w5.heap.size ∧ Below w.heap.size w w5 := ⟨⟨by assumption, by assumption, by assumption, by assumption⟩, ⟨by assumption, by assumption, by assumption, by assumption⟩, hr5, hx5, hB5.size, hB5⟩
  clear B1 B2 B3 B4 B5 o4 hr5 hx5 hB5
  go_wp2
  replace hS := net2_drew hS
  go_region_held3 (fun w' => (w'.cell? ⟨w.heap.size, 0, none⟩ = some (.int .i64 n) ∧ w'.cell? ⟨w.heap.size, 1, none⟩ = some (.int .i64 e) ∧ w'.cell? ⟨w.heap.size, 2, none⟩ = some (.int .i64 s) ∧ w'.cell? ⟨w.heap.size, 3, none⟩ = some (.slice p ws.length cap)) ∧ (w'.cell? ⟨w4.heap.size, 0, none⟩ = some (.int .i64 n) ∧ w'.cell? ⟨w4.heap.size, 1, none⟩ = some (.int .i64 e) ∧ w'.cell? ⟨w4.heap.size, 2, none⟩ = some (.int .i64 s) ∧ w'.cell? ⟨w4.heap.size, 3, none⟩ = some (.slice p4 ws.length cap4)) ∧ ReadsW w' (.slice p ws.length cap) ws ∧ ReadsW w' (.slice p4 ws.length cap4) ws ∧ w.heap.size ≤ w'.heap.size ∧ Below w.heap.size w w')
    (first | exact hS)
    (first | (go_at_call 29; refine (toNet_any n e s _ ws _ hle hS.2.2.1).mono ?_; rintro en w6 ⟨p6, cap6, rfl, o6, B6⟩; replace hS := net2_keep B6 hS; have hN := ReadsW.of_own o6) | (go_at_call 31; refine (eqNet_same n e s _ _ ws _ hS.2.2.2.1 hN).mono ?_; rintro en w6 ⟨rfl, B6⟩; replace hS := net2_keep B6 hS))
  all_goals
    go_wp2
    go_ret
    exact ⟨rfl, hS.2.2.2.2.2⟩

theorem own : ownKnob Try.prog.godebug = none := by kernel_rfl
theorem cells_net : Try.prog.cellsOf 44 = 4 := by kernel_rfl
theorem cells_wire : Try.prog.cellsOf 118 = 3 := by kernel_rfl
theorem laidOut : laidOutB Try.prog = true := by kernel_rfl
set_option maxRecDepth 100000 in
theorem lifted (os : Os) (started : os.Started) (H : Type) (enc : TypeId × Value → H) :
    ReturnsInHanded {} Try.checked os 5 .any (Rows.fnExactTreeSumSpec.pre6 enc Try.prog Try.f5 Rows.fnExactTreeSumRow.domain false) (Rows.fnExactTreeSumSpec.post enc Try.prog Try.f5 false true false false) := by
  refine returnsInHanded_of_change (C := Try.checked) own started (by kernel_rfl) Try.func5
    (ChangeSpec.witness6 (enc := enc) (C := Try.checked) false ⟨#[], #[.agg #[.int .i64 0, .int .i64 0, .int .i64 0, .slice none 0 0]], []⟩ 8 (by kernel_rfl) (by kernel_rfl) (by kernel_rfl) (by kernel_rfl)) ?_
  intro W base args ds gs before hval0 hW hcnd _
  have hval : ∀ (j : Nat) t v, Try.f5.params[j]? = some t → args[j]? = some v → Value.okWide Try.prog W .any base t v := hval0
  have hW' := hW
  obtain ⟨p, q, hA0, hV, rfl, hfz, hnd⟩ := hW
  have hA : DataW.TrodAll enc Try.prog W 0 (fun _ => true) true Try.f5.params.toList args.toList ds p := hA0
  rw [Try.params5] at hA hval
  obtain ⟨v0, d0, rfl, rfl, h0⟩ := trodAll_one hA
  obtain ⟨rfl, rfl⟩ := trodVars_none hV
  obtain ⟨c0a, c0b, c0c, c0d, y0a, y0b, y0c, y0d, m0, rfl, rfl, _, hy0a, hy0b, hy0c, hy0d⟩ := Go.Joins.open_agg4 Try.underlying44 (by kernel_rfl) cells_net (hval 0 44 v0 rfl rfl) h0
  obtain ⟨x0a, e0a, _, wx0a⟩ := DataW.trod_int Try.underlying3 hy0a
  simp at e0a
  subst e0a
  obtain ⟨x0b, e0b, _, wx0b⟩ := DataW.trod_int Try.underlying3 hy0b
  simp at e0b
  subst e0b
  obtain ⟨x0c, e0c, _, wx0c⟩ := DataW.trod_int Try.underlying3 hy0c
  simp at e0c
  subst e0c
  obtain ⟨ws0, wr0⟩ := open_wires Try.underlying42 Try.underlying118 (by kernel_rfl) cells_wire rfl rfl rfl Try.underlying3 hy0d
  clear hA0 hval0
  simp only [List.append_nil] at hW'
  refine (walk x0a x0b x0c c0d ws0 W wx0a wx0b wx0c wr0).mono fun e W' ⟨he, hB⟩ => ?_
  subst he
  refine ⟨_, rfl, _, _, _, [], (p), [], hW', ?_, ?_, ?_, hB.frame _, fun h => by cases h⟩
  · exact trodAll_mk1 (shut_bool Try.underlying4 true)
  · exact trodAll_mk1 (Below.trod laidOut (by kernel_rfl) (of_decide_eq_true (by kernel_rfl)) h0 hB (fun x hx => hW'.lt x (by simp [hx])))
  · rfl

theorem holds : Rows.FnExactTreeSumSaid :=
  OpenClaim.holds_of_wide 5 Try.f5 rfl rfl rfl rfl rfl rfl rfl ⟨rfl, rfl, rfl, rfl, rfl⟩ rfl rfl rfl rfl rfl (by kernel_rfl) Try.func5 (by kernel_rfl)
    (of_decide_eq_true (by kernel_rfl)) (by unfold Func.isWrapper; first | (rw [if_pos (by decide +kernel)]; kernel_rfl) | (rw [if_neg (by decide +kernel)]; exact ⟨rfl, rfl⟩))
    (fun os started H enc _ => lifted os started H enc)
end TreeSumLaw
end Go.Proofs.Ytpkddaapffamiaa
