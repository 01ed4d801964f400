/-
  FnExactPowerOf: for every network, valid or not, and every list of fractions the reference model and the program give the same answer to PowerOf; neither the network nor the list is changed. No condition.
-/
import Derived.Test.YtpkddaapffamiaaRows
import Derived.Test.YtpkddaapffamiaaPowBoth
import Derived.Test.YtpkddaapffamiaaRatArg
import Derived.Test.YtpkddaapffamiaaGNet
namespace Go.Proofs.Ytpkddaapffamiaa
open Go.ChangeShapes Go.WideShapes Go.ChangeAt Go.RowKit

namespace PowerOfLaw
theorem szR_at {k : Nat} {l : Int} (h : ¬ l - (k : Int) < 0) : (if l - (k : Int) < 0 then (-1 : Int) else l - k) = l - k := if_neg h
set_option maxRecDepth 8000 in
set_option maxHeartbeats 6400000 in
theorem walk (n e s : Int) (v : Value) (ws : List W3) (pv : Value) (q : List P2) (w : World) (_hn : (Lit.int .i64 n).wf = true) (_he : (Lit.int .i64 e).wf = true) (_hs : (Lit.int .i64 s).wf = true) (hr : ReadsW w v ws) (hq : ReadsP w pv q) (hwf : WfL q) :
    Calls Try.prog 12 #[.agg #[.int .i64 n, .int .i64 e, .int .i64 s, v], pv] w fun en w' => en = .returned (.bool true) ∧ Below w.heap.size w w' := by
  have B0 := (Below.refl w.heap.size w).alloc (Nat.le_refl _) (.cells #[.int .i64 n, .int .i64 e, .int .i64 s, v] 44)
  have hr0 := hr.later B0
  have hq0 := hq.later B0
  have hsz := szNet_any n e s v ws 1048576 _ (by omega) (by omega) hr0
  obtain ⟨p, cap, rfl⟩ := hr.shape
  obtain ⟨pp, cp, rfl⟩ := hq.shape
  have hW : WfP q := hwf
  clear B0 hr hq hwf
  by_cases hneg : szW 1048576 ws < 0
  · go_enter Try.func12, Try.ntmps12
    go_wp2_with fail
    refine hsz.mono ?_
    rintro en w1 ⟨rfl, B1⟩
    obtain ⟨hc1, hf1⟩ := bcell B1
    have S1 := B1.size
    try simp at S1
    try (have _L1w : w.heap.size < w1.heap.size := by omega)
    have _M1w : w.heap.size ≤ w1.heap.size := by omega
    try (have _P1w_1 : w.heap.size + 1 < w1.heap.size := by omega)
    try (have _P1w_2 : w.heap.size + 1 + 1 < w1.heap.size := by omega)
    try (have _P1w_3 : w.heap.size + 1 + 1 + 1 < w1.heap.size := by omega)
    go_wp2
    go_ret
    exact ⟨rfl, by (repeat (first | exact Below.refl _ _ | (refine Below.setCell ?_ (by (first | exact Nat.le_refl _ | omega | (simp <;> omega) | simp)) _) | (refine Below.alloc ?_ (by (first | exact Nat.le_refl _ | omega | (simp <;> omega) | simp)) _) | (refine below_draws ?_ _) | exact B1 | (refine Below.trans ?_ (Below.mono B1 (by (first | exact Nat.le_refl _ | omega | (simp <;> omega) | simp))))))⟩
  have hle : ws.length ≤ 1048576 := by unfold szW at hneg; split at hneg <;> omega
  have hsle : szW 1048576 ws ≤ 1048576 := by unfold szW at hneg ⊢; split <;> omega
  have hszq := fun W (h : ReadsP W (.slice pp q.length cp) q) => szRatioS_any _ q (szW 1048576 ws) W (by omega) hsle h
  have HSQ := Lib.hid hszq; clear hszq
  have HW := Lib.hid hW; clear hW
  by_cases hnq : szW 1048576 ws - (q.length : Int) < 0
  · rw [if_pos hnq] at HSQ
    go_enter Try.func12, Try.ntmps12
    go_wp2_with fail
    refine hsz.mono ?_
    rintro en w1 ⟨rfl, B1⟩
    obtain ⟨hc1, hf1⟩ := bcell B1
    have S1 := B1.size
    try simp at S1
    try (have _L1w : w.heap.size < w1.heap.size := by omega)
    have _M1w : w.heap.size ≤ w1.heap.size := by omega
    try (have _P1w_1 : w.heap.size + 1 < w1.heap.size := by omega)
    try (have _P1w_2 : w.heap.size + 1 + 1 < w1.heap.size := by omega)
    try (have _P1w_3 : w.heap.size + 1 + 1 + 1 < w1.heap.size := by omega)
    go_wp2_with fail
    refine (HSQ.out _ (hq0.later B1)).mono ?_
    rintro en w2 ⟨rfl, rfl⟩
    go_wp2
    go_ret
    exact ⟨rfl, by (repeat (first | exact Below.refl _ _ | (refine Below.setCell ?_ (by (first | exact Nat.le_refl _ | omega | (simp <;> omega) | simp)) _) | (refine Below.alloc ?_ (by (first | exact Nat.le_refl _ | omega | (simp <;> omega) | simp)) _) | (refine below_draws ?_ _) | exact B1 | (refine Below.trans ?_ (Below.mono B1 (by (first | exact Nat.le_refl _ | omega | (simp <;> omega) | simp))))))⟩
  rw [if_neg hnq] at HSQ
  have hlq : q.length ≤ 1048576 := by omega
  obtain ⟨R1, R2, R3, hR⟩ : ∃ R1 R2 R3, powR n e s ws q = (R1, R2, R3) := ⟨_, _, _, rfl⟩
  have hSP := fun W v1 v2 (h : ReadsW W v1 ws) (h2 : ReadsP W v2 q) => spec_powOf n e s v1 v2 ws q W h h2 HW.out
  have hIP := fun W v1 v2 (h : ReadsW W v1 ws) (h2 : ReadsP W v2 q) => impl_powOf n e s v1 v2 ws q W h h2 HW.out
  rw [hR] at hSP hIP
  have HSP := Lib.hid hSP
  have HIP := Lib.hid hIP
  have HNQ := Lib.hid hnq
  clear hSP hIP hR hnq
  go_enter Try.func12, Try.ntmps12
  go_wp2_with fail
  refine hsz.mono ?_
  rintro en w1 ⟨rfl, B1⟩
  have hr1 := hr0.later B1
  have hq1 := hq0.later B1
  clear hsz hr0 hq0
  obtain ⟨hc1, hf1⟩ := bcell B1
  have S1 := B1.size
  try simp at S1
  try (have _L1w : w.heap.size < w1.heap.size := by omega)
  have _M1w : w.heap.size ≤ w1.heap.size := by omega
  try (have _P1w_1 : w.heap.size + 1 < w1.heap.size := by omega)
  try (have _P1w_2 : w.heap.size + 1 + 1 < w1.heap.size := by omega)
  try (have _P1w_3 : w.heap.size + 1 + 1 + 1 < w1.heap.size := by omega)
  have _ : w1.cell? ⟨w.heap.size, 0, none⟩ = some (.int .i64 n) := by rw [hc1 (w.heap.size) 0 (by first | omega | (simp; done) | (simp; omega))]; first | assumption | (simp; done) | simp [go_sem, *]
  have _ : w1.frozen? ⟨w.heap.size, 0, none⟩ = false := by rw [hf1 (w.heap.size) 0 (by first | omega | (simp; done) | (simp; omega))]; first | assumption | (simp; done) | simp [go_sem, *]
  have _ : w1.cell? ⟨w.heap.size, 1, none⟩ = some (.int .i64 e) := by rw [hc1 (w.heap.size) 1 (by first | omega | (simp; done) | (simp; omega))]; first | assumption | (simp; done) | simp [go_sem, *]
  have _ : w1.frozen? ⟨w.heap.size, 1, none⟩ = false := by rw [hf1 (w.heap.size) 1 (by first | omega | (simp; done) | (simp; omega))]; first | assumption | (simp; done) | simp [go_sem, *]
  have _ : w1.cell? ⟨w.heap.size, 2, none⟩ = some (.int .i64 s) := by rw [hc1 (w.heap.size) 2 (by first | omega | (simp; done) | (simp; omega))]; first | assumption | (simp; done) | simp [go_sem, *]
  have _ : w1.frozen? ⟨w.heap.size, 2, none⟩ = false := by rw [hf1 (w.heap.size) 2 (by first | omega | (simp; done) | (simp; omega))]; first | assumption | (simp; done) | simp [go_sem, *]
  have _ : w1.cell? ⟨w.heap.size, 3, none⟩ = some (.slice p ws.length cap) := by rw [hc1 (w.heap.size) 3 (by first | omega | (simp; done) | (simp; omega))]; first | assumption | (simp; done) | simp [go_sem, *]
  have _ : w1.frozen? ⟨w.heap.size, 3, none⟩ = false := by rw [hf1 (w.heap.size) 3 (by first | omega | (simp; done) | (simp; omega))]; first | assumption | (simp; done) | simp [go_sem, *]
  clear hc1 hf1
  go_wp2_with fail
  refine (HSQ.out _ hq1).mono ?_
  rintro en wq ⟨rfl, rfl⟩
  have hnq := HNQ.out
  go_wp2_with fail
  refine (toNet_any n e s _ ws _ hle hr1).mono ?_
  rintro en w2 ⟨p2, cap2, rfl, o2, B2⟩
  have hr2 := hr1.later B2
  have hq2 := hq1.later B2
  obtain ⟨hc2, hf2⟩ := bcell B2
  have S2 := B2.size
  try simp at S2
  try (have _L2w : w.heap.size < w2.heap.size := by omega)
  have _M2w : w.heap.size ≤ w2.heap.size := by omega
  try (have _P2w_1 : w.heap.size + 1 < w2.heap.size := by omega)
  try (have _P2w_2 : w.heap.size + 1 + 1 < w2.heap.size := by omega)
  try (have _P2w_3 : w.heap.size + 1 + 1 + 1 < w2.heap.size := by omega)
  try (have _L2w1 : w1.heap.size < w2.heap.size := by omega)
  have _M2w1 : w1.heap.size ≤ w2.heap.size := by omega
  try (have _P2w1_1 : w1.heap.size + 1 < w2.heap.size := by omega)
  try (have _P2w1_2 : w1.heap.size + 1 + 1 < w2.heap.size := by omega)
  try (have _P2w1_3 : w1.heap.size + 1 + 1 + 1 < w2.heap.size := by omega)
  have _ : w2.cell? ⟨w.heap.size, 0, none⟩ = some (.int .i64 n) := by rw [hc2 (w.heap.size) 0 (by first | omega | (simp; done) | (simp; omega))]; first | assumption | (simp; done) | simp [go_sem, *]
  have _ : w2.frozen? ⟨w.heap.size, 0, none⟩ = false := by rw [hf2 (w.heap.size) 0 (by first | omega | (simp; done) | (simp; omega))]; first | assumption | (simp; done) | simp [go_sem, *]
  have _ : w2.cell? ⟨w.heap.size, 1, none⟩ = some (.int .i64 e) := by rw [hc2 (w.heap.size) 1 (by first | omega | (simp; done) | (simp; omega))]; first | assumption | (simp; done) | simp [go_sem, *]
  have _ : w2.frozen? ⟨w.heap.size, 1, none⟩ = false := by rw [hf2 (w.heap.size) 1 (by first | omega | (simp; done) | (simp; omega))]; first | assumption | (simp; done) | simp [go_sem, *]
  have _ : w2.cell? ⟨w.heap.size, 2, none⟩ = some (.int .i64 s) := by rw [hc2 (w.heap.size) 2 (by first | omega | (simp; done) | (simp; omega))]; first | assumption | (simp; done) | simp [go_sem, *]
  have _ : w2.frozen? ⟨w.heap.size, 2, none⟩ = false := by rw [hf2 (w.heap.size) 2 (by first | omega | (simp; done) | (simp; omega))]; first | assumption | (simp; done) | simp [go_sem, *]
  have _ : w2.cell? ⟨w.heap.size, 3, none⟩ = some (.slice p ws.length cap) := by rw [hc2 (w.heap.size) 3 (by first | omega | (simp; done) | (simp; omega))]; first | assumption | (simp; done) | simp [go_sem, *]
  have _ : w2.frozen? ⟨w.heap.size, 3, none⟩ = false := by rw [hf2 (w.heap.size) 3 (by first | omega | (simp; done) | (simp; omega))]; first | assumption | (simp; done) | simp [go_sem, *]
  clear hc2 hf2
  go_wp2_with fail
  refine (toRatioS_any _ q _ hlq hq2).mono ?_
  rintro en w3 ⟨v3, rfl, o3, B3⟩
  have hr3 := hr2.later B3
  have hq3 := hq2.later B3
  have hx3 := (ReadsW.of_own o2).later B3
  have hy3 := ReadsP.of_own o3
  obtain ⟨hc3, hf3⟩ := bcell B3
  have S3 := B3.size
  try simp at S3
  try (have _L3w : w.heap.size < w3.heap.size := by omega)
  have _M3w : w.heap.size ≤ w3.heap.size := by omega
  try (have _P3w_1 : w.heap.size + 1 < w3.heap.size := by omega)
  try (have _P3w_2 : w.heap.size + 1 + 1 < w3.heap.size := by omega)
  try (have _P3w_3 : w.heap.size + 1 + 1 + 1 < w3.heap.size := by omega)
  try (have _L3w1 : w1.heap.size < w3.heap.size := by omega)
  have _M3w1 : w1.heap.size ≤ w3.heap.size := by omega
  try (have _P3w1_1 : w1.heap.size + 1 < w3.heap.size := by omega)
  try (have _P3w1_2 : w1.heap.size + 1 + 1 < w3.heap.size := by omega)
  try (have _P3w1_3 : w1.heap.size + 1 + 1 + 1 < w3.heap.size := by omega)
  try (have _L3w2 : w2.heap.size < w3.heap.size := by omega)
  have _M3w2 : w2.heap.size ≤ w3.heap.size := by omega
  try (have _P3w2_1 : w2.heap.size + 1 < w3.heap.size := by omega)
  try (have _P3w2_2 : w2.heap.size + 1 + 1 < w3.heap.size := by omega)
  try (have _P3w2_3 : w2.heap.size + 1 + 1 + 1 < w3.heap.size := by omega)
  have _ : w3.cell? ⟨w.heap.size, 0, none⟩ = some (.int .i64 n) := by rw [hc3 (w.heap.size) 0 (by first | omega | (simp; done) | (simp; omega))]; first | assumption | (simp; done) | simp [go_sem, *]
  have _ : w3.frozen? ⟨w.heap.size, 0, none⟩ = false := by rw [hf3 (w.heap.size) 0 (by first | omega | (simp; done) | (simp; omega))]; first | assumption | (simp; done) | simp [go_sem, *]
  have _ : w3.cell? ⟨w.heap.size, 1, none⟩ = some (.int .i64 e) := by rw [hc3 (w.heap.size) 1 (by first | omega | (simp; done) | (simp; omega))]; first | assumption | (simp; done) | simp [go_sem, *]
  have _ : w3.frozen? ⟨w.heap.size, 1, none⟩ = false := by rw [hf3 (w.heap.size) 1 (by first | omega | (simp; done) | (simp; omega))]; first | assumption | (simp; done) | simp [go_sem, *]
  have _ : w3.cell? ⟨w.heap.size, 2, none⟩ = some (.int .i64 s) := by rw [hc3 (w.heap.size) 2 (by first | omega | (simp; done) | (simp; omega))]; first | assumption | (simp; done) | simp [go_sem, *]
  have _ : w3.frozen? ⟨w.heap.size, 2, none⟩ = false := by rw [hf3 (w.heap.size) 2 (by first | omega | (simp; done) | (simp; omega))]; first | assumption | (simp; done) | simp [go_sem, *]
  have _ : w3.cell? ⟨w.heap.size, 3, none⟩ = some (.slice p ws.length cap) := by rw [hc3 (w.heap.size) 3 (by first | omega | (simp; done) | (simp; omega))]; first | assumption | (simp; done) | simp [go_sem, *]
  have _ : w3.frozen? ⟨w.heap.size, 3, none⟩ = false := by rw [hf3 (w.heap.size) 3 (by first | omega | (simp; done) | (simp; omega))]; first | assumption | (simp; done) | simp [go_sem, *]
  clear hc3 hf3
  clear hr1 hr2 hq1 hq2 o2 o3
  go_wp2_with fail
  refine (HSP.out _ _ _ hx3 hy3).mono ?_
  rintro en w4 ⟨rfl, B4⟩
  have hr4 := hr3.later B4
  have hq4 := hq3.later B4
  obtain ⟨hc4, hf4⟩ := bcell B4
  have S4 := B4.size
  try simp at S4
  try (have _L4w : w.heap.size < w4.heap.size := by omega)
  have _M4w : w.heap.size ≤ w4.heap.size := by omega
  try (have _P4w_1 : w.heap.size + 1 < w4.heap.size := by omega)
  try (have _P4w_2 : w.heap.size + 1 + 1 < w4.heap.size := by omega)
  try (have _P4w_3 : w.heap.size + 1 + 1 + 1 < w4.heap.size := by omega)
  try (have _L4w1 : w1.heap.size < w4.heap.size := by omega)
  have _M4w1 : w1.heap.size ≤ w4.heap.size := by omega
  try (have _P4w1_1 : w1.heap.size + 1 < w4.heap.size := by omega)
  try (have _P4w1_2 : w1.heap.size + 1 + 1 < w4.heap.size := by omega)
  try (have _P4w1_3 : w1.heap.size + 1 + 1 + 1 < w4.heap.size := by omega)
  try (have _L4w2 : w2.heap.size < w4.heap.size := by omega)
  have _M4w2 : w2.heap.size ≤ w4.heap.size := by omega
  try (have _P4w2_1 : w2.heap.size + 1 < w4.heap.size := by omega)
  try (have _P4w2_2 : w2.heap.size + 1 + 1 < w4.heap.size := by omega)
  try (have _P4w2_3 : w2.heap.size + 1 + 1 + 1 < w4.heap.size := by omega)
  try (have _L4w3 : w3.heap.size < w4.heap.size := by omega)
  have _M4w3 : w3.heap.size ≤ w4.heap.size := by omega
  try (have _P4w3_1 : w3.heap.size + 1 < w4.heap.size := by omega)
  try (have _P4w3_2 : w3.heap.size + 1 + 1 < w4.heap.size := by omega)
  try (have _P4w3_3 : w3.heap.size + 1 + 1 + 1 < w4.heap.size := by omega)
  have _ : w4.cell? ⟨w.heap.size, 0, none⟩ = some (.int .i64 n) := by rw [hc4 (w.heap.size) 0 (by first | omega | (simp; done) | (simp; omega))]; first | assumption | (simp; done) | simp [go_sem, *]
  have _ : w4.frozen? ⟨w.heap.size, 0, none⟩ = false := by rw [hf4 (w.heap.size) 0 (by first | omega | (simp; done) | (simp; omega))]; first | assumption | (simp; done) | simp [go_sem, *]
  have _ : w4.cell? ⟨w.heap.size, 1, none⟩ = some (.int .i64 e) := by rw [hc4 (w.heap.size) 1 (by first | omega | (simp; done) | (simp; omega))]; first | assumption | (simp; done) | simp [go_sem, *]
  have _ : w4.frozen? ⟨w.heap.size, 1, none⟩ = false := by rw [hf4 (w.heap.size) 1 (by first | omega | (simp; done) | (simp; omega))]; first | assumption | (simp; done) | simp [go_sem, *]
  have _ : w4.cell? ⟨w.heap.size, 2, none⟩ = some (.int .i64 s) := by rw [hc4 (w.heap.size) 2 (by first | omega | (simp; done) | (simp; omega))]; first | assumption | (simp; done) | simp [go_sem, *]
  have _ : w4.frozen? ⟨w.heap.size, 2, none⟩ = false := by rw [hf4 (w.heap.size) 2 (by first | omega | (simp; done) | (simp; omega))]; first | assumption | (simp; done) | simp [go_sem, *]
  have _ : w4.cell? ⟨w.heap.size, 3, none⟩ = some (.slice p ws.length cap) := by rw [hc4 (w.heap.size) 3 (by first | omega | (simp; done) | (simp; omega))]; first | assumption | (simp; done) | simp [go_sem, *]
  have _ : w4.frozen? ⟨w.heap.size, 3, none⟩ = false := by rw [hf4 (w.heap.size) 3 (by first | omega | (simp; done) | (simp; omega))]; first | assumption | (simp; done) | simp [go_sem, *]
  clear hc4 hf4
  clear hr3 hq3 hx3 hy3
  replace hr4 := hr4.later ((Below.refl w4.heap.size w4).alloc (Nat.le_refl _) (.cells #[.int .i64 R1, .int .i64 R2] 32))
  replace hq4 := hq4.later ((Below.refl w4.heap.size w4).alloc (Nat.le_refl _) (.cells #[.int .i64 R1, .int .i64 R2] 32))
  go_wp2_with fail
  refine (toNet_any n e s _ ws _ hle hr4).mono ?_
  rintro en w5 ⟨p5, cap5, rfl, o5, B5⟩
  have hr5 := hr4.later B5
  have hq5 := hq4.later B5
  obtain ⟨hc5, hf5⟩ := bcell B5
  have S5 := B5.size
  try simp at S5
  try (have _L5w : w.heap.size < w5.heap.size := by omega)
  have _M5w : w.heap.size ≤ w5.heap.size := by omega
  try (have _P5w_1 : w.heap.size + 1 < w5.heap.size := by omega)
  try (have _P5w_2 : w.heap.size + 1 + 1 < w5.heap.size := by omega)
  try (have _P5w_3 : w.heap.size + 1 + 1 + 1 < w5.heap.size := by omega)
  try (have _L5w1 : w1.heap.size < w5.heap.size := by omega)
  have _M5w1 : w1.heap.size ≤ w5.heap.size := by omega
  try (have _P5w1_1 : w1.heap.size + 1 < w5.heap.size := by omega)
  try (have _P5w1_2 : w1.heap.size + 1 + 1 < w5.heap.size := by omega)
  try (have _P5w1_3 : w1.heap.size + 1 + 1 + 1 < w5.heap.size := by omega)
  try (have _L5w2 : w2.heap.size < w5.heap.size := by omega)
  have _M5w2 : w2.heap.size ≤ w5.heap.size := by omega
  try (have _P5w2_1 : w2.heap.size + 1 < w5.heap.size := by omega)
  try (have _P5w2_2 : w2.heap.size + 1 + 1 < w5.heap.size := by omega)
  try (have _P5w2_3 : w2.heap.size + 1 + 1 + 1 < w5.heap.size := by omega)
  try (have _L5w3 : w3.heap.size < w5.heap.size := by omega)
  have _M5w3 : w3.heap.size ≤ w5.heap.size := by omega
  try (have _P5w3_1 : w3.heap.size + 1 < w5.heap.size := by omega)
  try (have _P5w3_2 : w3.heap.size + 1 + 1 < w5.heap.size := by omega)
  try (have _P5w3_3 : w3.heap.size + 1 + 1 + 1 < w5.heap.size := by omega)
  try (have _L5w4 : w4.heap.size < w5.heap.size := by omega)
  have _M5w4 : w4.heap.size ≤ w5.heap.size := by omega
  try (have _P5w4_1 : w4.heap.size + 1 < w5.heap.size := by omega)
  try (have _P5w4_2 : w4.heap.size + 1 + 1 < w5.heap.size := by omega)
  try (have _P5w4_3 : w4.heap.size + 1 + 1 + 1 < w5.heap.size := by omega)
  have _ : w5.cell? ⟨w.heap.size, 0, none⟩ = some (.int .i64 n) := by rw [hc5 (w.heap.size) 0 (by first | omega | (simp; done) | (simp; omega))]; first | assumption | (simp; done) | simp [go_sem, *]
  have _ : w5.frozen? ⟨w.heap.size, 0, none⟩ = false := by rw [hf5 (w.heap.size) 0 (by first | omega | (simp; done) | (simp; omega))]; first | assumption | (simp; done) | simp [go_sem, *]
  have _ : w5.cell? ⟨w.heap.size, 1, none⟩ = some (.int .i64 e) := by rw [hc5 (w.heap.size) 1 (by first | omega | (simp; done) | (simp; omega))]; first | assumption | (simp; done) | simp [go_sem, *]
  have _ : w5.frozen? ⟨w.heap.size, 1, none⟩ = false := by rw [hf5 (w.heap.size) 1 (by first | omega | (simp; done) | (simp; omega))]; first | assumption | (simp; done) | simp [go_sem, *]
  have _ : w5.cell? ⟨w.heap.size, 2, none⟩ = some (.int .i64 s) := by rw [hc5 (w.heap.size) 2 (by first | omega | (simp; done) | (simp; omega))]; first | assumption | (simp; done) | simp [go_sem, *]
  have _ : w5.frozen? ⟨w.heap.size, 2, none⟩ = false := by rw [hf5 (w.heap.size) 2 (by first | omega | (simp; done) | (simp; omega))]; first | assumption | (simp; done) | simp [go_sem, *]
  have _ : w5.cell? ⟨w.heap.size, 3, none⟩ = some (.slice p ws.length cap) := by rw [hc5 (w.heap.size) 3 (by first | omega | (simp; done) | (simp; omega))]; first | assumption | (simp; done) | simp [go_sem, *]
  have _ : w5.frozen? ⟨w.heap.size, 3, none⟩ = false := by rw [hf5 (w.heap.size) 3 (by first | omega | (simp; done) | (simp; omega))]; first | assumption | (simp; done) | simp [go_sem, *]
  have _ : w5.cell? ⟨w4.heap.size, 0, none⟩ = some (.int .i64 R1) := by rw [hc5 (w4.heap.size) 0 (by first | omega | (simp; done) | (simp; omega))]; first | assumption | (simp; done) | simp [go_sem, *]
  have _ : w5.frozen? ⟨w4.heap.size, 0, none⟩ = false := by rw [hf5 (w4.heap.size) 0 (by first | omega | (simp; done) | (simp; omega))]; first | assumption | (simp; done) | simp [go_sem, *]
  have _ : w5.cell? ⟨w4.heap.size, 1, none⟩ = some (.int .i64 R2) := by rw [hc5 (w4.heap.size) 1 (by first | omega | (simp; done) | (simp; omega))]; first | assumption | (simp; done) | simp [go_sem, *]
  have _ : w5.frozen? ⟨w4.heap.size, 1, none⟩ = false := by rw [hf5 (w4.heap.size) 1 (by first | omega | (simp; done) | (simp; omega))]; first | assumption | (simp; done) | simp [go_sem, *]
  clear hc5 hf5
  clear hr4 hq4
  have hx5 := (ReadsW.of_own o5).later ((Below.refl w5.heap.size w5).alloc (Nat.le_refl _) (.cells #[.int .i64 n, .int .i64 e, .int .i64 s, .slice p5 ws.length cap5] 25))
  replace hr5 := hr5.later ((Below.refl w5.heap.size w5).alloc (Nat.le_refl _) (.cells #[.int .i64 n, .int .i64 e, .int .i64 s, .slice p5 ws.length cap5] 25))
  replace hq5 := hq5.later ((Below.refl w5.heap.size w5).alloc (Nat.le_refl _) (.cells #[.int .i64 n, .int .i64 e, .int .i64 s, .slice p5 ws.length cap5] 25))
  go_wp2_with fail
  refine (toRatioS_any _ q _ hlq hq5).mono ?_
  rintro en w6 ⟨v6, rfl, o6, B6⟩
  obtain ⟨p6, cap6, rfl⟩ := owns_shape o6
  have hr6 := hr5.later B6
  have hq6 := hq5.later B6
  have hx6 := hx5.later B6
  have hy6 := ReadsP.of_own o6
  obtain ⟨hc6, hf6⟩ := bcell B6
  have S6 := B6.size
  try simp at S6
  try (have _L6w : w.heap.size < w6.heap.size := by omega)
  have _M6w : w.heap.size ≤ w6.heap.size := by omega
  try (have _P6w_1 : w.heap.size + 1 < w6.heap.size := by omega)
  try (have _P6w_2 : w.heap.size + 1 + 1 < w6.heap.size := by omega)
  try (have _P6w_3 : w.heap.size + 1 + 1 + 1 < w6.heap.size := by omega)
  try (have _L6w1 : w1.heap.size < w6.heap.size := by omega)
  have _M6w1 : w1.heap.size ≤ w6.heap.size := by omega
  try (have _P6w1_1 : w1.heap.size + 1 < w6.heap.size := by omega)
  try (have _P6w1_2 : w1.heap.size + 1 + 1 < w6.heap.size := by omega)
  try (have _P6w1_3 : w1.heap.size + 1 + 1 + 1 < w6.heap.size := by omega)
  try (have _L6w2 : w2.heap.size < w6.heap.size := by omega)
  have _M6w2 : w2.heap.size ≤ w6.heap.size := by omega
  try (have _P6w2_1 : w2.heap.size + 1 < w6.heap.size := by omega)
  try (have _P6w2_2 : w2.heap.size + 1 + 1 < w6.heap.size := by omega)
  try (have _P6w2_3 : w2.heap.size + 1 + 1 + 1 < w6.heap.size := by omega)
  try (have _L6w3 : w3.heap.size < w6.heap.size := by omega)
  have _M6w3 : w3.heap.size ≤ w6.heap.size := by omega
  try (have _P6w3_1 : w3.heap.size + 1 < w6.heap.size := by omega)
  try (have _P6w3_2 : w3.heap.size + 1 + 1 < w6.heap.size := by omega)
  try (have _P6w3_3 : w3.heap.size + 1 + 1 + 1 < w6.heap.size := by omega)
  try (have _L6w4 : w4.heap.size < w6.heap.size := by omega)
  have _M6w4 : w4.heap.size ≤ w6.heap.size := by omega
  try (have _P6w4_1 : w4.heap.size + 1 < w6.heap.size := by omega)
  try (have _P6w4_2 : w4.heap.size + 1 + 1 < w6.heap.size := by omega)
  try (have _P6w4_3 : w4.heap.size + 1 + 1 + 1 < w6.heap.size := by omega)
  try (have _L6w5 : w5.heap.size < w6.heap.size := by omega)
  have _M6w5 : w5.heap.size ≤ w6.heap.size := by omega
  try (have _P6w5_1 : w5.heap.size + 1 < w6.heap.size := by omega)
  try (have _P6w5_2 : w5.heap.size + 1 + 1 < w6.heap.size := by omega)
  try (have _P6w5_3 : w5.heap.size + 1 + 1 + 1 < w6.heap.size := by omega)
  have _ : w6.cell? ⟨w.heap.size, 0, none⟩ = some (.int .i64 n) := by rw [hc6 (w.heap.size) 0 (by first | omega | (simp; done) | (simp; omega))]; first | assumption | (simp; done) | simp [go_sem, *]
  have _ : w6.frozen? ⟨w.heap.size, 0, none⟩ = false := by rw [hf6 (w.heap.size) 0 (by first | omega | (simp; done) | (simp; omega))]; first | assumption | (simp; done) | simp [go_sem, *]
  have _ : w6.cell? ⟨w.heap.size, 1, none⟩ = some (.int .i64 e) := by rw [hc6 (w.heap.size) 1 (by first | omega | (simp; done) | (simp; omega))]; first | assumption | (simp; done) | simp [go_sem, *]
  have _ : w6.frozen? ⟨w.heap.size, 1, none⟩ = false := by rw [hf6 (w.heap.size) 1 (by first | omega | (simp; done) | (simp; omega))]; first | assumption | (simp; done) | simp [go_sem, *]
  have _ : w6.cell? ⟨w.heap.size, 2, none⟩ = some (.int .i64 s) := by rw [hc6 (w.heap.size) 2 (by first | omega | (simp; done) | (simp; omega))]; first | assumption | (simp; done) | simp [go_sem, *]
  have _ : w6.frozen? ⟨w.heap.size, 2, none⟩ = false := by rw [hf6 (w.heap.size) 2 (by first | omega | (simp; done) | (simp; omega))]; first | assumption | (simp; done) | simp [go_sem, *]
  have _ : w6.cell? ⟨w.heap.size, 3, none⟩ = some (.slice p ws.length cap) := by rw [hc6 (w.heap.size) 3 (by first | omega | (simp; done) | (simp; omega))]; first | assumption | (simp; done) | simp [go_sem, *]
  have _ : w6.frozen? ⟨w.heap.size, 3, none⟩ = false := by rw [hf6 (w.heap.size) 3 (by first | omega | (simp; done) | (simp; omega))]; first | assumption | (simp; done) | simp [go_sem, *]
  have _ : w6.cell? ⟨w4.heap.size, 0, none⟩ = some (.int .i64 R1) := by rw [hc6 (w4.heap.size) 0 (by first | omega | (simp; done) | (simp; omega))]; first | assumption | (simp; done) | simp [go_sem, *]
  have _ : w6.frozen? ⟨w4.heap.size, 0, none⟩ = false := by rw [hf6 (w4.heap.size) 0 (by first | omega | (simp; done) | (simp; omega))]; first | assumption | (simp; done) | simp [go_sem, *]
  have _ : w6.cell? ⟨w4.heap.size, 1, none⟩ = some (.int .i64 R2) := by rw [hc6 (w4.heap.size) 1 (by first | omega | (simp; done) | (simp; omega))]; first | assumption | (simp; done) | simp [go_sem, *]
  have _ : w6.frozen? ⟨w4.heap.size, 1, none⟩ = false := by rw [hf6 (w4.heap.size) 1 (by first | omega | (simp; done) | (simp; omega))]; first | assumption | (simp; done) | simp [go_sem, *]
  have _ : w6.cell? ⟨w5.heap.size, 0, none⟩ = some (.int .i64 n) := by rw [hc6 (w5.heap.size) 0 (by first | omega | (simp; done) | (simp; omega))]; first | assumption | (simp; done) | simp [go_sem, *]
  have _ : w6.cell? ⟨w5.heap.size, 1, none⟩ = some (.int .i64 e) := by rw [hc6 (w5.heap.size) 1 (by first | omega | (simp; done) | (simp; omega))]; first | assumption | (simp; done) | simp [go_sem, *]
  have _ : w6.cell? ⟨w5.heap.size, 2, none⟩ = some (.int .i64 s) := by rw [hc6 (w5.heap.size) 2 (by first | omega | (simp; done) | (simp; omega))]; first | assumption | (simp; done) | simp [go_sem, *]
  have _ : w6.cell? ⟨w5.heap.size, 3, none⟩ = some (.slice p5 ws.length cap5) := by rw [hc6 (w5.heap.size) 3 (by first | omega | (simp; done) | (simp; omega))]; first | assumption | (simp; done) | simp [go_sem, *]
  clear hc6 hf6
  clear hr5 hq5 hx5 o5 o6
  go_wp2_with fail
  refine (HIP.out _ _ _ hx6 hy6).mono ?_
  rintro en w7 ⟨rfl, B7⟩
  have hr7 := hr6.later B7
  have hq7 := hq6.later B7
  have hx7 := hx6.later B7
  have hy7 := hy6.later B7
  obtain ⟨hc7, hf7⟩ := bcell B7
  have S7 := B7.size
  try simp at S7
  try (have _L7w : w.heap.size < w7.heap.size := by omega)
  have _M7w : w.heap.size ≤ w7.heap.size := by omega
  try (have _P7w_1 : w.heap.size + 1 < w7.heap.size := by omega)
  try (have _P7w_2 : w.heap.size + 1 + 1 < w7.heap.size := by omega)
  try (have _P7w_3 : w.heap.size + 1 + 1 + 1 < w7.heap.size := by omega)
  try (have _L7w1 : w1.heap.size < w7.heap.size := by omega)
  have _M7w1 : w1.heap.size ≤ w7.heap.size := by omega
  try (have _P7w1_1 : w1.heap.size + 1 < w7.heap.size := by omega)
  try (have _P7w1_2 : w1.heap.size + 1 + 1 < w7.heap.size := by omega)
  try (have _P7w1_3 : w1.heap.size + 1 + 1 + 1 < w7.heap.size := by omega)
  try (have _L7w2 : w2.heap.size < w7.heap.size := by omega)
  have _M7w2 : w2.heap.size ≤ w7.heap.size := by omega
  try (have _P7w2_1 : w2.heap.size + 1 < w7.heap.size := by omega)
  try (have _P7w2_2 : w2.heap.size + 1 + 1 < w7.heap.size := by omega)
  try (have _P7w2_3 : w2.heap.size + 1 + 1 + 1 < w7.heap.size := by omega)
  try (have _L7w3 : w3.heap.size < w7.heap.size := by omega)
  have _M7w3 : w3.heap.size ≤ w7.heap.size := by omega
  try (have _P7w3_1 : w3.heap.size + 1 < w7.heap.size := by omega)
  try (have _P7w3_2 : w3.heap.size + 1 + 1 < w7.heap.size := by omega)
  try (have _P7w3_3 : w3.heap.size + 1 + 1 + 1 < w7.heap.size := by omega)
  try (have _L7w4 : w4.heap.size < w7.heap.size := by omega)
  have _M7w4 : w4.heap.size ≤ w7.heap.size := by omega
  try (have _P7w4_1 : w4.heap.size + 1 < w7.heap.size := by omega)
  try (have _P7w4_2 : w4.heap.size + 1 + 1 < w7.heap.size := by omega)
  try (have _P7w4_3 : w4.heap.size + 1 + 1 + 1 < w7.heap.size := by omega)
  try (have _L7w5 : w5.heap.size < w7.heap.size := by omega)
  have _M7w5 : w5.heap.size ≤ w7.heap.size := by omega
  try (have _P7w5_1 : w5.heap.size + 1 < w7.heap.size := by omega)
  try (have _P7w5_2 : w5.heap.size + 1 + 1 < w7.heap.size := by omega)
  try (have _P7w5_3 : w5.heap.size + 1 + 1 + 1 < w7.heap.size := by omega)
  try (have _L7w6 : w6.heap.size < w7.heap.size := by omega)
  have _M7w6 : w6.heap.size ≤ w7.heap.size := by omega
  try (have _P7w6_1 : w6.heap.size + 1 < w7.heap.size := by omega)
  try (have _P7w6_2 : w6.heap.size + 1 + 1 < w7.heap.size := by omega)
  try (have _P7w6_3 : w6.heap.size + 1 + 1 + 1 < w7.heap.size := by omega)
  have _ : w7.cell? ⟨w.heap.size, 0, none⟩ = some (.int .i64 n) := by rw [hc7 (w.heap.size) 0 (by first | omega | (simp; done) | (simp; omega))]; first | assumption | (simp; done) | simp [go_sem, *]
  have _ : w7.frozen? ⟨w.heap.size, 0, none⟩ = false := by rw [hf7 (w.heap.size) 0 (by first | omega | (simp; done) | (simp; omega))]; first | assumption | (simp; done) | simp [go_sem, *]
  have _ : w7.cell? ⟨w.heap.size, 1, none⟩ = some (.int .i64 e) := by rw [hc7 (w.heap.size) 1 (by first | omega | (simp; done) | (simp; omega))]; first | assumption | (simp; done) | simp [go_sem, *]
  have _ : w7.frozen? ⟨w.heap.size, 1, none⟩ = false := by rw [hf7 (w.heap.size) 1 (by first | omega | (simp; done) | (simp; omega))]; first | assumption | (simp; done) | simp [go_sem, *]
  have _ : w7.cell? ⟨w.heap.size, 2, none⟩ = some (.int .i64 s) := by rw [hc7 (w.heap.size) 2 (by first | omega | (simp; done) | (simp; omega))]; first | assumption | (simp; done) | simp [go_sem, *]
  have _ : w7.frozen? ⟨w.heap.size, 2, none⟩ = false := by rw [hf7 (w.heap.size) 2 (by first | omega | (simp; done) | (simp; omega))]; first | assumption | (simp; done) | simp [go_sem, *]
  have _ : w7.cell? ⟨w.heap.size, 3, none⟩ = some (.slice p ws.length cap) := by rw [hc7 (w.heap.size) 3 (by first | omega | (simp; done) | (simp; omega))]; first | assumption | (simp; done) | simp [go_sem, *]
  have _ : w7.frozen? ⟨w.heap.size, 3, none⟩ = false := by rw [hf7 (w.heap.size) 3 (by first | omega | (simp; done) | (simp; omega))]; first | assumption | (simp; done) | simp [go_sem, *]
  have _ : w7.cell? ⟨w4.heap.size, 0, none⟩ = some (.int .i64 R1) := by rw [hc7 (w4.heap.size) 0 (by first | omega | (simp; done) | (simp; omega))]; first | assumption | (simp; done) | simp [go_sem, *]
  have _ : w7.frozen? ⟨w4.heap.size, 0, none⟩ = false := by rw [hf7 (w4.heap.size) 0 (by first | omega | (simp; done) | (simp; omega))]; first | assumption | (simp; done) | simp [go_sem, *]
  have _ : w7.cell? ⟨w4.heap.size, 1, none⟩ = some (.int .i64 R2) := by rw [hc7 (w4.heap.size) 1 (by first | omega | (simp; done) | (simp; omega))]; first | assumption | (simp; done) | simp [go_sem, *]
  have _ : w7.frozen? ⟨w4.heap.size, 1, none⟩ = false := by rw [hf7 (w4.heap.size) 1 (by first | omega | (simp; done) | (simp; omega))]; first | assumption | (simp; done) | simp [go_sem, *]
  have _ : w7.cell? ⟨w5.heap.size, 0, none⟩ = some (.int .i64 n) := by rw [hc7 (w5.heap.size) 0 (by first | omega | (simp; done) | (simp; omega))]; first | assumption | (simp; done) | simp [go_sem, *]
  have _ : w7.cell? ⟨w5.heap.size, 1, none⟩ = some (.int .i64 e) := by rw [hc7 (w5.heap.size) 1 (by first | omega | (simp; done) | (simp; omega))]; first | assumption | (simp; done) | simp [go_sem, *]
  have _ : w7.cell? ⟨w5.heap.size, 2, none⟩ = some (.int .i64 s) := by rw [hc7 (w5.heap.size) 2 (by first | omega | (simp; done) | (simp; omega))]; first | assumption | (simp; done) | simp [go_sem, *]
  have _ : w7.cell? ⟨w5.heap.size, 3, none⟩ = some (.slice p5 ws.length cap5) := by rw [hc7 (w5.heap.size) 3 (by first | omega | (simp; done) | (simp; omega))]; first | assumption | (simp; done) | simp [go_sem, *]
  clear hc7 hf7
  clear hr6 hq6 hx6 hy6
  replace hr7 := hr7.later ((Below.refl w7.heap.size w7).alloc (Nat.le_refl _) (.cells #[.int .i64 R1, .int .i64 R2] 32))
  replace hq7 := hq7.later ((Below.refl w7.heap.size w7).alloc (Nat.le_refl _) (.cells #[.int .i64 R1, .int .i64 R2] 32))
  replace hx7 := hx7.later ((Below.refl w7.heap.size w7).alloc (Nat.le_refl _) (.cells #[.int .i64 R1, .int .i64 R2] 32))
  replace hy7 := hy7.later ((Below.refl w7.heap.size w7).alloc (Nat.le_refl _) (.cells #[.int .i64 R1, .int .i64 R2] 32))
  go_wp2_with fail
  refine (eq_ratio _ _ _).mono ?_
  rintro en w8 ⟨rfl, B8⟩
  have hr8 := hr7.later B8
  have hq8 := hq7.later B8
  have hx8 := hx7.later B8
  have hy8 := hy7.later B8
  obtain ⟨hc8, hf8⟩ := bcell B8
  have S8 := B8.size
  try simp at S8
  try (have _L8w : w.heap.size < w8.heap.size := by omega)
  have _M8w : w.heap.size ≤ w8.heap.size := by omega
  try (have _P8w_1 : w.heap.size + 1 < w8.heap.size := by omega)
  try (have _P8w_2 : w.heap.size + 1 + 1 < w8.heap.size := by omega)
  try (have _P8w_3 : w.heap.size + 1 + 1 + 1 < w8.heap.size := by omega)
  try (have _L8w1 : w1.heap.size < w8.heap.size := by omega)
  have _M8w1 : w1.heap.size ≤ w8.heap.size := by omega
  try (have _P8w1_1 : w1.heap.size + 1 < w8.heap.size := by omega)
  try (have _P8w1_2 : w1.heap.size + 1 + 1 < w8.heap.size := by omega)
  try (have _P8w1_3 : w1.heap.size + 1 + 1 + 1 < w8.heap.size := by omega)
  try (have _L8w2 : w2.heap.size < w8.heap.size := by omega)
  have _M8w2 : w2.heap.size ≤ w8.heap.size := by omega
  try (have _P8w2_1 : w2.heap.size + 1 < w8.heap.size := by omega)
  try (have _P8w2_2 : w2.heap.size + 1 + 1 < w8.heap.size := by omega)
  try (have _P8w2_3 : w2.heap.size + 1 + 1 + 1 < w8.heap.size := by omega)
  try (have _L8w3 : w3.heap.size < w8.heap.size := by omega)
  have _M8w3 : w3.heap.size ≤ w8.heap.size := by omega
  try (have _P8w3_1 : w3.heap.size + 1 < w8.heap.size := by omega)
  try (have _P8w3_2 : w3.heap.size + 1 + 1 < w8.heap.size := by omega)
  try (have _P8w3_3 : w3.heap.size + 1 + 1 + 1 < w8.heap.size := by omega)
  try (have _L8w4 : w4.heap.size < w8.heap.size := by omega)
  have _M8w4 : w4.heap.size ≤ w8.heap.size := by omega
  try (have _P8w4_1 : w4.heap.size + 1 < w8.heap.size := by omega)
  try (have _P8w4_2 : w4.heap.size + 1 + 1 < w8.heap.size := by omega)
  try (have _P8w4_3 : w4.heap.size + 1 + 1 + 1 < w8.heap.size := by omega)
  try (have _L8w5 : w5.heap.size < w8.heap.size := by omega)
  have _M8w5 : w5.heap.size ≤ w8.heap.size := by omega
  try (have _P8w5_1 : w5.heap.size + 1 < w8.heap.size := by omega)
  try (have _P8w5_2 : w5.heap.size + 1 + 1 < w8.heap.size := by omega)
  try (have _P8w5_3 : w5.heap.size + 1 + 1 + 1 < w8.heap.size := by omega)
  try (have _L8w6 : w6.heap.size < w8.heap.size := by omega)
  have _M8w6 : w6.heap.size ≤ w8.heap.size := by omega
  try (have _P8w6_1 : w6.heap.size + 1 < w8.heap.size := by omega)
  try (have _P8w6_2 : w6.heap.size + 1 + 1 < w8.heap.size := by omega)
  try (have _P8w6_3 : w6.heap.size + 1 + 1 + 1 < w8.heap.size := by omega)
  try (have _L8w7 : w7.heap.size < w8.heap.size := by omega)
  have _M8w7 : w7.heap.size ≤ w8.heap.size := by omega
  try (have _P8w7_1 : w7.heap.size + 1 < w8.heap.size := by omega)
  try (have _P8w7_2 : w7.heap.size + 1 + 1 < w8.heap.size := by omega)
  try (have _P8w7_3 : w7.heap.size + 1 + 1 + 1 < w8.heap.size := by omega)
  have _ : w8.cell? ⟨w.heap.size, 0, none⟩ = some (.int .i64 n) := by rw [hc8 (w.heap.size) 0 (by first | omega | (simp; done) | (simp; omega))]; first | assumption | (simp; done) | simp [go_sem, *]
  have _ : w8.frozen? ⟨w.heap.size, 0, none⟩ = false := by rw [hf8 (w.heap.size) 0 (by first | omega | (simp; done) | (simp; omega))]; first | assumption | (simp; done) | simp [go_sem, *]
  have _ : w8.cell? ⟨w.heap.size, 1, none⟩ = some (.int .i64 e) := by rw [hc8 (w.heap.size) 1 (by first | omega | (simp; done) | (simp; omega))]; first | assumption | (simp; done) | simp [go_sem, *]
  have _ : w8.frozen? ⟨w.heap.size, 1, none⟩ = false := by rw [hf8 (w.heap.size) 1 (by first | omega | (simp; done) | (simp; omega))]; first | assumption | (simp; done) | simp [go_sem, *]
  have _ : w8.cell? ⟨w.heap.size, 2, none⟩ = some (.int .i64 s) := by rw [hc8 (w.heap.size) 2 (by first | omega | (simp; done) | (simp; omega))]; first | assumption | (simp; done) | simp [go_sem, *]
  have _ : w8.frozen? ⟨w.heap.size, 2, none⟩ = false := by rw [hf8 (w.heap.size) 2 (by first | omega | (simp; done) | (simp; omega))]; first | assumption | (simp; done) | simp [go_sem, *]
  have _ : w8.cell? ⟨w.heap.size, 3, none⟩ = some (.slice p ws.length cap) := by rw [hc8 (w.heap.size) 3 (by first | omega | (simp; done) | (simp; omega))]; first | assumption | (simp; done) | simp [go_sem, *]
  have _ : w8.frozen? ⟨w.heap.size, 3, none⟩ = false := by rw [hf8 (w.heap.size) 3 (by first | omega | (simp; done) | (simp; omega))]; first | assumption | (simp; done) | simp [go_sem, *]
  have _ : w8.cell? ⟨w5.heap.size, 0, none⟩ = some (.int .i64 n) := by rw [hc8 (w5.heap.size) 0 (by first | omega | (simp; done) | (simp; omega))]; first | assumption | (simp; done) | simp [go_sem, *]
  have _ : w8.cell? ⟨w5.heap.size, 1, none⟩ = some (.int .i64 e) := by rw [hc8 (w5.heap.size) 1 (by first | omega | (simp; done) | (simp; omega))]; first | assumption | (simp; done) | simp [go_sem, *]
  have _ : w8.cell? ⟨w5.heap.size, 2, none⟩ = some (.int .i64 s) := by rw [hc8 (w5.heap.size) 2 (by first | omega | (simp; done) | (simp; omega))]; first | assumption | (simp; done) | simp [go_sem, *]
  have _ : w8.cell? ⟨w5.heap.size, 3, none⟩ = some (.slice p5 ws.length cap5) := by rw [hc8 (w5.heap.size) 3 (by first | omega | (simp; done) | (simp; omega))]; first | assumption | (simp; done) | simp [go_sem, *]
  clear hc8 hf8
  clear hr7 hq7 hx7 hy7
  have hB8 : Below w.heap.size w w8 := by (repeat (first | exact Below.refl _ _ | (refine Below.setCell ?_ (by (first | exact Nat.le_refl _ | omega | (simp <;> omega) | simp)) _) | (refine Below.alloc ?_ (by (first | exact Nat.le_refl _ | omega | (simp <;> omega) | simp)) _) | (refine below_draws ?_ _) | exact B1 | (refine Below.trans ?_ (Below.mono B1 (by (first | exact Nat.le_refl _ | omega | (simp <;> omega) | simp)))) | exact B2 | (refine Below.trans ?_ (Below.mono B2 (by (first | exact Nat.le_refl _ | omega | (simp <;> omega) | simp)))) | exact B3 | (refine Below.trans ?_ (Below.mono B3 (by (first | exact Nat.le_refl _ | omega | (simp <;> omega) | simp)))) | exact B4 | (refine Below.trans ?_ (Below.mono B4 (by (first | exact Nat.le_refl _ | omega | (simp <;> omega) | simp)))) | exact B5 | (refine Below.trans ?_ (Below.mono B5 (by (first | exact Nat.le_refl _ | omega | (simp <;> omega) | simp)))) | exact B6 | (refine Below.trans ?_ (Below.mono B6 (by (first | exact Nat.le_refl _ | omega | (simp <;> omega) | simp)))) | exact B7 | (refine Below.trans ?_ (Below.mono B7 (by (first | exact Nat.le_refl _ | omega | (simp <;> omega) | simp)))) | exact B8 | (refine Below.trans ?_ (Below.mono B8 (by (first | exact Nat.le_refl _ | omega | (simp <;> omega) | simp))))))
  have hS : (w8.cell? ⟨w.heap.size, 0, none⟩ = some (.int .i64 n) ∧ w8.cell? ⟨w.heap.size, 1, none⟩ = some (.int .i64 e) ∧ w8.cell? ⟨w.heap.size, 2, none⟩ = some (.int .i64 s) ∧ w8.cell? ⟨w.heap.size, 3, none⟩ = some (.slice p ws.length cap)) ∧ (w8.cell? ⟨w5.heap.size, 0, none⟩ = some (.int .i64 n) ∧ w8.cell? ⟨w5.heap.size, 1, none⟩ = some (.int .i64 e) ∧ w8.cell? ⟨w5.heap.size, 2, none⟩ = some (.int .i64 s) ∧ w8.cell? ⟨w5.heap.size, 3, none⟩ = some (.slice p5 ws.length cap5)) ∧ ReadsW w8 (.slice p ws.length cap) ws ∧ ReadsW w8 (.slice p5 ws.length cap5) ws ∧ w.heap.size ≤ w8.heap.size ∧ Below w.heap.size w w8 := ⟨⟨by assumption, by assumption, by assumption, by assumption⟩, ⟨by assumption, by assumption, by assumption, by assumption⟩, hr8, hx8, hB8.size, hB8⟩
  have HQ8 := Lib.hid hq8
  have HY8 := Lib.hid hy8
  clear B1 B2 B3 B4 B5 B6 B7 B8 hr8 hx8 hB8 hq8 hy8
  have hE : Below w8.heap.size w8 w8.drew := below_draws (Below.refl _ _) 1
  go_wp2
  replace hS := net2_drew hS
  go_region_held3 (fun w' => (w'.cell? ⟨w.heap.size, 0, none⟩ = some (.int .i64 n) ∧ w'.cell? ⟨w.heap.size, 1, none⟩ = some (.int .i64 e) ∧ w'.cell? ⟨w.heap.size, 2, none⟩ = some (.int .i64 s) ∧ w'.cell? ⟨w.heap.size, 3, none⟩ = some (.slice p ws.length cap)) ∧ (w'.cell? ⟨w5.heap.size, 0, none⟩ = some (.int .i64 n) ∧ w'.cell? ⟨w5.heap.size, 1, none⟩ = some (.int .i64 e) ∧ w'.cell? ⟨w5.heap.size, 2, none⟩ = some (.int .i64 s) ∧ w'.cell? ⟨w5.heap.size, 3, none⟩ = some (.slice p5 ws.length cap5)) ∧ ReadsW w' (.slice p ws.length cap) ws ∧ ReadsW w' (.slice p5 ws.length cap5) ws ∧ w.heap.size ≤ w'.heap.size ∧ Below w.heap.size w w')
    (first | exact hS)
    (first | (go_at_call 29; refine (toNet_any n e s _ ws _ hle hS.2.2.1).mono ?_; rintro en w9 ⟨p9, cap9, rfl, o9, B9⟩; replace hS := net2_keep B9 hS; have hN := ReadsW.of_own o9; have hE9 := hE.trans (B9.mono hE.size)) | (go_at_call 31; refine (eqNet_same n e s _ _ ws _ hS.2.2.2.1 hN).mono ?_; rintro en wa ⟨rfl, Ba⟩; replace hS := net2_keep Ba hS; have hEa := hE9.trans (Ba.mono hE9.size)))
  all_goals
    have hqa := HQ8.out.later hEa
    have hya := HY8.out.later hEa
    have hBa := hS.2.2.2.2.2
    clear hS hE hEa
    go_wp2_with fail
    refine (toRatioS_any _ q _ hlq hqa).mono ?_
    rintro en wb ⟨vb, rfl, ob, Bb⟩
    have hyb := hya.later Bb
    have hzb := ReadsP.of_own ob
    have hBb := hBa.trans (Bb.mono hBa.size)
    go_wp2_with fail
    refine (eqRatioS_same _ _ q _ hyb hzb).mono ?_
    rintro en wc ⟨rfl, Bc⟩
    have hBc := hBb.trans (Bc.mono hBb.size)
    go_wp2
    go_ret
    exact ⟨rfl, hBc⟩

theorem own : ownKnob Try.prog.godebug = none := by kernel_rfl
theorem cells_ratio : Try.prog.cellsOf 103 = 2 := by kernel_rfl
theorem trod_i {H : Type} {enc : TypeId × Value → H} {w : World} {base : Nat} {spare : Nat → Bool} {held : Bool} {x : Int} (h : (Lit.int .i64 x).wf = true) : DataW.trod enc Try.prog w base spare held 1 3 [.int .i64 x] = some (.lit (.int .i64 x), []) := by
  simp [DataW.trod, Try.underlying3, h]
theorem cells_net : Try.prog.cellsOf 44 = 4 := by kernel_rfl
theorem cells_wire : Try.prog.cellsOf 118 = 3 := by kernel_rfl
theorem laidOut : laidOutB Try.prog = true := by kernel_rfl
set_option maxRecDepth 100000 in
theorem lifted (os : Os) (started : os.Started) (H : Type) (enc : TypeId × Value → H) :
    ReturnsInHanded {} Try.checked os 12 .any (Rows.fnExactPowerOfSpec.pre6 enc Try.prog Try.f12 Rows.fnExactPowerOfRow.domain false) (Rows.fnExactPowerOfSpec.post enc Try.prog Try.f12 false true false false) := by
  refine returnsInHanded_of_change (C := Try.checked) own started (by kernel_rfl) Try.func12
    (ChangeSpec.witness6 (enc := enc) (C := Try.checked) false ⟨#[], #[.agg #[.int .i64 0, .int .i64 0, .int .i64 0, .slice none 0 0], .slice none 0 0], []⟩ 8 (by kernel_rfl) (by kernel_rfl) (by kernel_rfl) (by kernel_rfl)) ?_
  intro W base args ds gs before hval0 hW hcnd _
  have hval : ∀ (j : Nat) t v, Try.f12.params[j]? = some t → args[j]? = some v → Value.okWide Try.prog W .any base t v := hval0
  have hW' := hW
  obtain ⟨p, q, hA0, hV, rfl, hfz, hnd⟩ := hW
  have hA : DataW.TrodAll enc Try.prog W 0 (fun _ => true) true Try.f12.params.toList args.toList ds p := hA0
  rw [Try.params12] at hA hval
  obtain ⟨v0, v1, d0, d1, p0, p1, rfl, rfl, rfl, h0, h1⟩ := trodAll_two hA
  obtain ⟨rfl, rfl⟩ := trodVars_none hV
  obtain ⟨c0a, c0b, c0c, c0d, y0a, y0b, y0c, y0d, m0, rfl, rfl, _, hy0a, hy0b, hy0c, hy0d⟩ := Go.Joins.open_agg4 Try.underlying44 (by kernel_rfl) cells_net (hval 0 44 v0 rfl rfl) h0
  obtain ⟨x0a, e0a, _, wx0a⟩ := DataW.trod_int Try.underlying3 hy0a
  simp at e0a
  subst e0a
  obtain ⟨x0b, e0b, _, wx0b⟩ := DataW.trod_int Try.underlying3 hy0b
  simp at e0b
  subst e0b
  obtain ⟨x0c, e0c, _, wx0c⟩ := DataW.trod_int Try.underlying3 hy0c
  simp at e0c
  subst e0c
  obtain ⟨ws0, wr0⟩ := open_wires Try.underlying42 Try.underlying118 (by kernel_rfl) cells_wire rfl rfl rfl Try.underlying3 hy0d
  obtain ⟨a1, n1, c1, rfl⟩ := okWide_slice Try.underlying58 (hval 1 58 v1 rfl rfl)
  obtain ⟨fu1, hf1⟩ := id h1
  obtain ⟨x1, wx1, wy1⟩ := open_ratios Try.underlying58 Try.underlying103 (by kernel_rfl) cells_ratio rfl rfl Try.underlying3 hf1
  clear hA0 hval0
  simp only [List.append_nil] at hW'
  refine (walk x0a x0b x0c c0d ws0 (.slice a1 n1 c1) x1 W wx0a wx0b wx0c wr0 wx1 wy1).mono fun e W' ⟨he, hB⟩ => ?_
  subst he
  refine ⟨_, rfl, _, _, _, [], (p0 ++ (p1)), [], hW', ?_, ?_, ?_, hB.frame _, fun h => by cases h⟩
  · exact trodAll_mk1 (shut_bool Try.underlying4 true)
  · exact trodAll_mk2 (Below.trod laidOut (by kernel_rfl) (of_decide_eq_true (by kernel_rfl)) h0 hB (fun x hx => hW'.lt x (by simp [hx]))) (Below.trod laidOut (by kernel_rfl) (of_decide_eq_true (by kernel_rfl)) h1 hB (fun x hx => hW'.lt x (by simp [hx])))
  · rfl

theorem holds : Rows.FnExactPowerOfSaid :=
  OpenClaim.holds_of_wide 12 Try.f12 rfl rfl rfl rfl rfl rfl rfl ⟨rfl, rfl, rfl, rfl, rfl⟩ rfl rfl rfl rfl rfl (by kernel_rfl) Try.func12 (by kernel_rfl)
    (of_decide_eq_true (by kernel_rfl)) (by unfold Func.isWrapper; first | (rw [if_pos (by decide +kernel)]; kernel_rfl) | (rw [if_neg (by decide +kernel)]; exact ⟨rfl, rfl⟩))
    (fun os started H enc _ => lifted os started H enc)
end PowerOfLaw
end Go.Proofs.Ytpkddaapffamiaa
