/-
  FnExactSameNet: for every two networks, valid or not, the reference model and the program give the same answer to SameNet, and neither network is changed. No condition.
-/
import Derived.Test.YtlehbfacepmnfaaRows
import Derived.Test.YtlehbfacepmnfaaSame
import Derived.Test.YtlehbfacepmnfaaNetEq
import Derived.Test.YtlehbfacepmnfaaNetArg
import Derived.Test.YtlehbfacepmnfaaNetKept2
import Derived.Deep.DeepCutAuto
namespace Go.Proofs.Ytlehbfacepmnfaa
open Go.ChangeShapes Go.WideShapes Go.ChangeAt Go.RowKit

namespace SameNetLaw
set_option maxHeartbeats 3200000 in
theorem walk (n e s : Int) (va : Value) (ws : List W3) (n' e' s' : Int) (vb : Value) (vs : List W3) (w : World) (_hn : (Lit.int .i64 n).wf = true) (_he : (Lit.int .i64 e).wf = true) (_hs : (Lit.int .i64 s).wf = true) (hr : ReadsW w va ws) (_hn' : (Lit.int .i64 n').wf = true) (_he' : (Lit.int .i64 e').wf = true) (_hs' : (Lit.int .i64 s').wf = true) (hq : ReadsW w vb vs) :
    Calls Try.prog 8 #[.agg #[.int .i64 n, .int .i64 e, .int .i64 s, va], .agg #[.int .i64 n', .int .i64 e', .int .i64 s', vb]] w fun en w' => en = .returned (.bool true) ∧ Below w.heap.size w w' := by
  have B0 : Below w.heap.size w ((w.alloc (.cells #[.int .i64 n, .int .i64 e, .int .i64 s, va] 24)).alloc (.cells #[.int .i64 n', .int .i64 e', .int .i64 s', vb] 24)) := by (repeat (first | exact Below.refl _ _ | (refine Below.setCell ?_ (by (first | exact Nat.le_refl _ | omega | (simp <;> omega) | simp)) _) | (refine Below.alloc ?_ (by (first | exact Nat.le_refl _ | omega | (simp <;> omega) | simp)) _) | (refine below_draws ?_ _)))
  have hr0 := hr.later B0
  have hq0 := hq.later B0
  have hsz := szNet_any n e s va ws 1048576 _ (by omega) (by omega) hr0
  obtain ⟨p, cap, rfl⟩ := hr.shape
  obtain ⟨q, cbp, rfl⟩ := hq.shape
  clear B0 hr hq
  by_cases hneg : szW 1048576 ws < 0
  · go_enter Try.func8, Try.ntmps8
    go_wp2_with fail
    refine hsz.mono ?_
    rintro en w1 ⟨rfl, B1⟩
    obtain ⟨hc1, hf1⟩ := bcell B1
    have S1 := B1.size
    try simp at S1
    try (have _L1w : w.heap.size < w1.heap.size := by omega)
    have _M1w : w.heap.size ≤ w1.heap.size := by omega
    try (have _P1w_1 : w.heap.size + 1 < w1.heap.size := by omega)
    try (have _P1w_2 : w.heap.size + 1 + 1 < w1.heap.size := by omega)
    try (have _P1w_3 : w.heap.size + 1 + 1 + 1 < w1.heap.size := by omega)
    go_wp2
    go_ret
    exact ⟨rfl, by (repeat (first | exact Below.refl _ _ | (refine Below.setCell ?_ (by (first | exact Nat.le_refl _ | omega | (simp <;> omega) | simp)) _) | (refine Below.alloc ?_ (by (first | exact Nat.le_refl _ | omega | (simp <;> omega) | simp)) _) | (refine below_draws ?_ _) | exact B1 | (refine Below.trans ?_ (Below.mono B1 (by (first | exact Nat.le_refl _ | omega | (simp <;> omega) | simp))))))⟩
  have hw : 0 ≤ szW 1048576 ws ∧ szW 1048576 ws ≤ 1048576 ∧ ws.length ≤ 1048576 := by unfold szW at *; split at hneg <;> split <;> omega
  obtain ⟨hw0, hw1, hle⟩ := hw
  by_cases hneg2 : szW (szW 1048576 ws) vs < 0
  · go_enter Try.func8, Try.ntmps8
    go_wp2_with fail
    refine hsz.mono ?_
    rintro en w1 ⟨rfl, B1⟩
    replace hq0 := hq0.later B1
    obtain ⟨hc1, hf1⟩ := bcell B1
    have S1 := B1.size
    try simp at S1
    try (have _L1w : w.heap.size < w1.heap.size := by omega)
    have _M1w : w.heap.size ≤ w1.heap.size := by omega
    try (have _P1w_1 : w.heap.size + 1 < w1.heap.size := by omega)
    try (have _P1w_2 : w.heap.size + 1 + 1 < w1.heap.size := by omega)
    try (have _P1w_3 : w.heap.size + 1 + 1 + 1 < w1.heap.size := by omega)
    have _ : w1.cell? ⟨w.heap.size + 1, 0, none⟩ = some (.int .i64 n') := by rw [hc1 (w.heap.size + 1) 0 (by first | omega | (simp; done) | (simp; omega))]; first | assumption | (simp; done) | simp [go_sem, *]
    have _ : w1.frozen? ⟨w.heap.size + 1, 0, none⟩ = false := by rw [hf1 (w.heap.size + 1) 0 (by first | omega | (simp; done) | (simp; omega))]; first | assumption | (simp; done) | simp [go_sem, *]
    have _ : w1.cell? ⟨w.heap.size + 1, 1, none⟩ = some (.int .i64 e') := by rw [hc1 (w.heap.size + 1) 1 (by first | omega | (simp; done) | (simp; omega))]; first | assumption | (simp; done) | simp [go_sem, *]
    have _ : w1.frozen? ⟨w.heap.size + 1, 1, none⟩ = false := by rw [hf1 (w.heap.size + 1) 1 (by first | omega | (simp; done) | (simp; omega))]; first | assumption | (simp; done) | simp [go_sem, *]
    have _ : w1.cell? ⟨w.heap.size + 1, 2, none⟩ = some (.int .i64 s') := by rw [hc1 (w.heap.size + 1) 2 (by first | omega | (simp; done) | (simp; omega))]; first | assumption | (simp; done) | simp [go_sem, *]
    have _ : w1.frozen? ⟨w.heap.size + 1, 2, none⟩ = false := by rw [hf1 (w.heap.size + 1) 2 (by first | omega | (simp; done) | (simp; omega))]; first | assumption | (simp; done) | simp [go_sem, *]
    have _ : w1.cell? ⟨w.heap.size + 1, 3, none⟩ = some (.slice q vs.length cbp) := by rw [hc1 (w.heap.size + 1) 3 (by first | omega | (simp; done) | (simp; omega))]; first | assumption | (simp; done) | simp [go_sem, *]
    have _ : w1.frozen? ⟨w.heap.size + 1, 3, none⟩ = false := by rw [hf1 (w.heap.size + 1) 3 (by first | omega | (simp; done) | (simp; omega))]; first | assumption | (simp; done) | simp [go_sem, *]
    clear hc1 hf1
    go_wp2_with fail
    refine (szNet_any n' e' s' _ vs _ _ hw0 hw1 hq0).mono ?_
    rintro en w2 ⟨rfl, B2⟩
    obtain ⟨hc2, hf2⟩ := bcell B2
    have S2 := B2.size
    try simp at S2
    try (have _L2w : w.heap.size < w2.heap.size := by omega)
    have _M2w : w.heap.size ≤ w2.heap.size := by omega
    try (have _P2w_1 : w.heap.size + 1 < w2.heap.size := by omega)
    try (have _P2w_2 : w.heap.size + 1 + 1 < w2.heap.size := by omega)
    try (have _P2w_3 : w.heap.size + 1 + 1 + 1 < w2.heap.size := by omega)
    try (have _L2w1 : w1.heap.size < w2.heap.size := by omega)
    have _M2w1 : w1.heap.size ≤ w2.heap.size := by omega
    try (have _P2w1_1 : w1.heap.size + 1 < w2.heap.size := by omega)
    try (have _P2w1_2 : w1.heap.size + 1 + 1 < w2.heap.size := by omega)
    try (have _P2w1_3 : w1.heap.size + 1 + 1 + 1 < w2.heap.size := by omega)
    go_wp2
    go_ret
    exact ⟨rfl, by (repeat (first | exact Below.refl _ _ | (refine Below.setCell ?_ (by (first | exact Nat.le_refl _ | omega | (simp <;> omega) | simp)) _) | (refine Below.alloc ?_ (by (first | exact Nat.le_refl _ | omega | (simp <;> omega) | simp)) _) | (refine below_draws ?_ _) | exact B1 | (refine Below.trans ?_ (Below.mono B1 (by (first | exact Nat.le_refl _ | omega | (simp <;> omega) | simp)))) | exact B2 | (refine Below.trans ?_ (Below.mono B2 (by (first | exact Nat.le_refl _ | omega | (simp <;> omega) | simp))))))⟩
  have hle2 : vs.length ≤ 1048576 := by
    generalize szW 1048576 ws = L at *
    unfold szW at hneg2; split at hneg2 <;> omega
  go_enter Try.func8, Try.ntmps8
  go_wp2_with fail
  refine hsz.mono ?_
  rintro en w1 ⟨rfl, B1⟩
  replace hr0 := hr0.later B1
  replace hq0 := hq0.later B1
  clear hsz
  obtain ⟨hc1, hf1⟩ := bcell B1
  have S1 := B1.size
  try simp at S1
  try (have _L1w : w.heap.size < w1.heap.size := by omega)
  have _M1w : w.heap.size ≤ w1.heap.size := by omega
  try (have _P1w_1 : w.heap.size + 1 < w1.heap.size := by omega)
  try (have _P1w_2 : w.heap.size + 1 + 1 < w1.heap.size := by omega)
  try (have _P1w_3 : w.heap.size + 1 + 1 + 1 < w1.heap.size := by omega)
  have _ : w1.cell? ⟨w.heap.size, 0, none⟩ = some (.int .i64 n) := by rw [hc1 (w.heap.size) 0 (by first | omega | (simp; done) | (simp; omega))]; first | assumption | (simp; done) | simp [go_sem, *]
  have _ : w1.frozen? ⟨w.heap.size, 0, none⟩ = false := by rw [hf1 (w.heap.size) 0 (by first | omega | (simp; done) | (simp; omega))]; first | assumption | (simp; done) | simp [go_sem, *]
  have _ : w1.cell? ⟨w.heap.size, 1, none⟩ = some (.int .i64 e) := by rw [hc1 (w.heap.size) 1 (by first | omega | (simp; done) | (simp; omega))]; first | assumption | (simp; done) | simp [go_sem, *]
  have _ : w1.frozen? ⟨w.heap.size, 1, none⟩ = false := by rw [hf1 (w.heap.size) 1 (by first | omega | (simp; done) | (simp; omega))]; first | assumption | (simp; done) | simp [go_sem, *]
  have _ : w1.cell? ⟨w.heap.size, 2, none⟩ = some (.int .i64 s) := by rw [hc1 (w.heap.size) 2 (by first | omega | (simp; done) | (simp; omega))]; first | assumption | (simp; done) | simp [go_sem, *]
  have _ : w1.frozen? ⟨w.heap.size, 2, none⟩ = false := by rw [hf1 (w.heap.size) 2 (by first | omega | (simp; done) | (simp; omega))]; first | assumption | (simp; done) | simp [go_sem, *]
  have _ : w1.cell? ⟨w.heap.size, 3, none⟩ = some (.slice p ws.length cap) := by rw [hc1 (w.heap.size) 3 (by first | omega | (simp; done) | (simp; omega))]; first | assumption | (simp; done) | simp [go_sem, *]
  have _ : w1.frozen? ⟨w.heap.size, 3, none⟩ = false := by rw [hf1 (w.heap.size) 3 (by first | omega | (simp; done) | (simp; omega))]; first | assumption | (simp; done) | simp [go_sem, *]
  have _ : w1.cell? ⟨w.heap.size + 1, 0, none⟩ = some (.int .i64 n') := by rw [hc1 (w.heap.size + 1) 0 (by first | omega | (simp; done) | (simp; omega))]; first | assumption | (simp; done) | simp [go_sem, *]
  have _ : w1.frozen? ⟨w.heap.size + 1, 0, none⟩ = false := by rw [hf1 (w.heap.size + 1) 0 (by first | omega | (simp; done) | (simp; omega))]; first | assumption | (simp; done) | simp [go_sem, *]
  have _ : w1.cell? ⟨w.heap.size + 1, 1, none⟩ = some (.int .i64 e') := by rw [hc1 (w.heap.size + 1) 1 (by first | omega | (simp; done) | (simp; omega))]; first | assumption | (simp; done) | simp [go_sem, *]
  have _ : w1.frozen? ⟨w.heap.size + 1, 1, none⟩ = false := by rw [hf1 (w.heap.size + 1) 1 (by first | omega | (simp; done) | (simp; omega))]; first | assumption | (simp; done) | simp [go_sem, *]
  have _ : w1.cell? ⟨w.heap.size + 1, 2, none⟩ = some (.int .i64 s') := by rw [hc1 (w.heap.size + 1) 2 (by first | omega | (simp; done) | (simp; omega))]; first | assumption | (simp; done) | simp [go_sem, *]
  have _ : w1.frozen? ⟨w.heap.size + 1, 2, none⟩ = false := by rw [hf1 (w.heap.size + 1) 2 (by first | omega | (simp; done) | (simp; omega))]; first | assumption | (simp; done) | simp [go_sem, *]
  have _ : w1.cell? ⟨w.heap.size + 1, 3, none⟩ = some (.slice q vs.length cbp) := by rw [hc1 (w.heap.size + 1) 3 (by first | omega | (simp; done) | (simp; omega))]; first | assumption | (simp; done) | simp [go_sem, *]
  have _ : w1.frozen? ⟨w.heap.size + 1, 3, none⟩ = false := by rw [hf1 (w.heap.size + 1) 3 (by first | omega | (simp; done) | (simp; omega))]; first | assumption | (simp; done) | simp [go_sem, *]
  clear hc1 hf1
  go_wp2_with fail
  refine (szNet_any n' e' s' _ vs _ _ hw0 hw1 hq0).mono ?_
  rintro en w2 ⟨rfl, B2⟩
  replace hr0 := hr0.later B2
  replace hq0 := hq0.later B2
  obtain ⟨hc2, hf2⟩ := bcell B2
  have S2 := B2.size
  try simp at S2
  try (have _L2w : w.heap.size < w2.heap.size := by omega)
  have _M2w : w.heap.size ≤ w2.heap.size := by omega
  try (have _P2w_1 : w.heap.size + 1 < w2.heap.size := by omega)
  try (have _P2w_2 : w.heap.size + 1 + 1 < w2.heap.size := by omega)
  try (have _P2w_3 : w.heap.size + 1 + 1 + 1 < w2.heap.size := by omega)
  try (have _L2w1 : w1.heap.size < w2.heap.size := by omega)
  have _M2w1 : w1.heap.size ≤ w2.heap.size := by omega
  try (have _P2w1_1 : w1.heap.size + 1 < w2.heap.size := by omega)
  try (have _P2w1_2 : w1.heap.size + 1 + 1 < w2.heap.size := by omega)
  try (have _P2w1_3 : w1.heap.size + 1 + 1 + 1 < w2.heap.size := by omega)
  have _ : w2.cell? ⟨w.heap.size, 0, none⟩ = some (.int .i64 n) := by rw [hc2 (w.heap.size) 0 (by first | omega | (simp; done) | (simp; omega))]; first | assumption | (simp; done) | simp [go_sem, *]
  have _ : w2.frozen? ⟨w.heap.size, 0, none⟩ = false := by rw [hf2 (w.heap.size) 0 (by first | omega | (simp; done) | (simp; omega))]; first | assumption | (simp; done) | simp [go_sem, *]
  have _ : w2.cell? ⟨w.heap.size, 1, none⟩ = some (.int .i64 e) := by rw [hc2 (w.heap.size) 1 (by first | omega | (simp; done) | (simp; omega))]; first | assumption | (simp; done) | simp [go_sem, *]
  have _ : w2.frozen? ⟨w.heap.size, 1, none⟩ = false := by rw [hf2 (w.heap.size) 1 (by first | omega | (simp; done) | (simp; omega))]; first | assumption | (simp; done) | simp [go_sem, *]
  have _ : w2.cell? ⟨w.heap.size, 2, none⟩ = some (.int .i64 s) := by rw [hc2 (w.heap.size) 2 (by first | omega | (simp; done) | (simp; omega))]; first | assumption | (simp; done) | simp [go_sem, *]
  have _ : w2.frozen? ⟨w.heap.size, 2, none⟩ = false := by rw [hf2 (w.heap.size) 2 (by first | omega | (simp; done) | (simp; omega))]; first | assumption | (simp; done) | simp [go_sem, *]
  have _ : w2.cell? ⟨w.heap.size, 3, none⟩ = some (.slice p ws.length cap) := by rw [hc2 (w.heap.size) 3 (by first | omega | (simp; done) | (simp; omega))]; first | assumption | (simp; done) | simp [go_sem, *]
  have _ : w2.frozen? ⟨w.heap.size, 3, none⟩ = false := by rw [hf2 (w.heap.size) 3 (by first | omega | (simp; done) | (simp; omega))]; first | assumption | (simp; done) | simp [go_sem, *]
  have _ : w2.cell? ⟨w.heap.size + 1, 0, none⟩ = some (.int .i64 n') := by rw [hc2 (w.heap.size + 1) 0 (by first | omega | (simp; done) | (simp; omega))]; first | assumption | (simp; done) | simp [go_sem, *]
  have _ : w2.frozen? ⟨w.heap.size + 1, 0, none⟩ = false := by rw [hf2 (w.heap.size + 1) 0 (by first | omega | (simp; done) | (simp; omega))]; first | assumption | (simp; done) | simp [go_sem, *]
  have _ : w2.cell? ⟨w.heap.size + 1, 1, none⟩ = some (.int .i64 e') := by rw [hc2 (w.heap.size + 1) 1 (by first | omega | (simp; done) | (simp; omega))]; first | assumption | (simp; done) | simp [go_sem, *]
  have _ : w2.frozen? ⟨w.heap.size + 1, 1, none⟩ = false := by rw [hf2 (w.heap.size + 1) 1 (by first | omega | (simp; done) | (simp; omega))]; first | assumption | (simp; done) | simp [go_sem, *]
  have _ : w2.cell? ⟨w.heap.size + 1, 2, none⟩ = some (.int .i64 s') := by rw [hc2 (w.heap.size + 1) 2 (by first | omega | (simp; done) | (simp; omega))]; first | assumption | (simp; done) | simp [go_sem, *]
  have _ : w2.frozen? ⟨w.heap.size + 1, 2, none⟩ = false := by rw [hf2 (w.heap.size + 1) 2 (by first | omega | (simp; done) | (simp; omega))]; first | assumption | (simp; done) | simp [go_sem, *]
  have _ : w2.cell? ⟨w.heap.size + 1, 3, none⟩ = some (.slice q vs.length cbp) := by rw [hc2 (w.heap.size + 1) 3 (by first | omega | (simp; done) | (simp; omega))]; first | assumption | (simp; done) | simp [go_sem, *]
  have _ : w2.frozen? ⟨w.heap.size + 1, 3, none⟩ = false := by rw [hf2 (w.heap.size + 1) 3 (by first | omega | (simp; done) | (simp; omega))]; first | assumption | (simp; done) | simp [go_sem, *]
  clear hc2 hf2
  have hB2 : Below w.heap.size w w2 := by (repeat (first | exact Below.refl _ _ | (refine Below.setCell ?_ (by (first | exact Nat.le_refl _ | omega | (simp <;> omega) | simp)) _) | (refine Below.alloc ?_ (by (first | exact Nat.le_refl _ | omega | (simp <;> omega) | simp)) _) | (refine below_draws ?_ _) | exact B1 | (refine Below.trans ?_ (Below.mono B1 (by (first | exact Nat.le_refl _ | omega | (simp <;> omega) | simp)))) | exact B2 | (refine Below.trans ?_ (Below.mono B2 (by (first | exact Nat.le_refl _ | omega | (simp <;> omega) | simp))))))
  have hS : (w2.cell? ⟨w.heap.size, 0, none⟩ = some (.int .i64 n) ∧ w2.cell? ⟨w.heap.size, 1, none⟩ = some (.int .i64 e) ∧ w2.cell? ⟨w.heap.size, 2, none⟩ = some (.int .i64 s) ∧ w2.cell? ⟨w.heap.size, 3, none⟩ = some (.slice p ws.length cap)) ∧ (w2.cell? ⟨w.heap.size + 1, 0, none⟩ = some (.int .i64 n') ∧ w2.cell? ⟨w.heap.size + 1, 1, none⟩ = some (.int .i64 e') ∧ w2.cell? ⟨w.heap.size + 1, 2, none⟩ = some (.int .i64 s') ∧ w2.cell? ⟨w.heap.size + 1, 3, none⟩ = some (.slice q vs.length cbp)) ∧ ReadsW w2 (.slice p ws.length cap) ws ∧ ReadsW w2 (.slice q vs.length cbp) vs ∧ w.heap.size ≤ w2.heap.size ∧ Below w.heap.size w w2 := ⟨⟨by assumption, by assumption, by assumption, by assumption⟩, ⟨by assumption, by assumption, by assumption, by assumption⟩, hr0, hq0, hB2.size, hB2⟩
  clear hr0 hq0 hB2 B1 B2
  go_upto_region 1 with fail
  go_cut [6] (fun s6 wx => s6 = .bool (sameB n e s n' e' s' ws vs) ∧ (wx.cell? ⟨w.heap.size, 0, none⟩ = some (.int .i64 n) ∧ wx.cell? ⟨w.heap.size, 1, none⟩ = some (.int .i64 e) ∧ wx.cell? ⟨w.heap.size, 2, none⟩ = some (.int .i64 s) ∧ wx.cell? ⟨w.heap.size, 3, none⟩ = some (.slice p ws.length cap)) ∧ (wx.cell? ⟨w.heap.size + 1, 0, none⟩ = some (.int .i64 n') ∧ wx.cell? ⟨w.heap.size + 1, 1, none⟩ = some (.int .i64 e') ∧ wx.cell? ⟨w.heap.size + 1, 2, none⟩ = some (.int .i64 s') ∧ wx.cell? ⟨w.heap.size + 1, 3, none⟩ = some (.slice q vs.length cbp)) ∧ ReadsW wx (.slice p ws.length cap) ws ∧ ReadsW wx (.slice q vs.length cbp) vs ∧ w.heap.size ≤ wx.heap.size ∧ Below w.heap.size w wx)
  case first =>
    replace hS := netd2_2 hS
    go_region_held3 (fun w' => (w'.cell? ⟨w.heap.size, 0, none⟩ = some (.int .i64 n) ∧ w'.cell? ⟨w.heap.size, 1, none⟩ = some (.int .i64 e) ∧ w'.cell? ⟨w.heap.size, 2, none⟩ = some (.int .i64 s) ∧ w'.cell? ⟨w.heap.size, 3, none⟩ = some (.slice p ws.length cap)) ∧ (w'.cell? ⟨w.heap.size + 1, 0, none⟩ = some (.int .i64 n') ∧ w'.cell? ⟨w.heap.size + 1, 1, none⟩ = some (.int .i64 e') ∧ w'.cell? ⟨w.heap.size + 1, 2, none⟩ = some (.int .i64 s') ∧ w'.cell? ⟨w.heap.size + 1, 3, none⟩ = some (.slice q vs.length cbp)) ∧ ReadsW w' (.slice p ws.length cap) ws ∧ ReadsW w' (.slice q vs.length cbp) vs ∧ w.heap.size ≤ w'.heap.size ∧ Below w.heap.size w w')
      (first | exact hS)
      (first | (go_at_call 13; (with_reducible refine (toNet_any n e s _ ws _ hle hS.2.2.1).mono ?_); rintro en w6 ⟨p6, cap6, rfl, o6, B6⟩; replace hS := netk2_2 B6 hS; (try replace hNb := ReadsW.later hNb B6); have hNa := ReadsW.of_own o6) | (go_at_call 13; (with_reducible refine (toNet_any n' e' s' _ vs _ hle2 hS.2.2.2.1).mono ?_); rintro en w6 ⟨p7, cap7, rfl, o6, B6⟩; replace hS := netk2_2 B6 hS; (try replace hNa := ReadsW.later hNa B6); have hNb := ReadsW.of_own o6) | (go_at_call 26; refine (spec_same n e s n' e' s' _ _ ws vs _ hNa hNb).mono ?_; rintro en w6 ⟨rfl, B6⟩; replace hS := netk2_2 B6 hS))
    all_goals
      go_wp2_with fail
      go_meet
      exact ⟨rfl, hS⟩
  case rest =>
    obtain ⟨rfl, hS⟩ := hcut
    obtain ⟨⟨_, _, _, _⟩, ⟨b0, _, _, _⟩, hr3, hq3, hz3, hB3⟩ := hS
    have hz4 : w.heap.size + 1 < wc.heap.size := World.block_lt_of_cell? wc _ b0
    go_wp2_with fail
    refine (toNet_any n e s _ ws _ hle hr3).mono ?_
    rintro en w4 ⟨p4, cap4, rfl, o4, B4⟩
    replace hr3 := hr3.later B4
    replace hq3 := hq3.later B4
    obtain ⟨hc4, hf4⟩ := bcell B4
    have S4 := B4.size
    try simp at S4
    try (have _L4w : w.heap.size < w4.heap.size := by omega)
    have _M4w : w.heap.size ≤ w4.heap.size := by omega
    try (have _P4w_1 : w.heap.size + 1 < w4.heap.size := by omega)
    try (have _P4w_2 : w.heap.size + 1 + 1 < w4.heap.size := by omega)
    try (have _P4w_3 : w.heap.size + 1 + 1 + 1 < w4.heap.size := by omega)
    try (have _L4wc : wc.heap.size < w4.heap.size := by omega)
    have _M4wc : wc.heap.size ≤ w4.heap.size := by omega
    try (have _P4wc_1 : wc.heap.size + 1 < w4.heap.size := by omega)
    try (have _P4wc_2 : wc.heap.size + 1 + 1 < w4.heap.size := by omega)
    try (have _P4wc_3 : wc.heap.size + 1 + 1 + 1 < w4.heap.size := by omega)
    have _ : w4.cell? ⟨w.heap.size, 0, none⟩ = some (.int .i64 n) := by rw [hc4 (w.heap.size) 0 (by first | omega | (simp; done) | (simp; omega))]; first | assumption | (simp; done) | simp [go_sem, *]
    have _ : w4.cell? ⟨w.heap.size, 1, none⟩ = some (.int .i64 e) := by rw [hc4 (w.heap.size) 1 (by first | omega | (simp; done) | (simp; omega))]; first | assumption | (simp; done) | simp [go_sem, *]
    have _ : w4.cell? ⟨w.heap.size, 2, none⟩ = some (.int .i64 s) := by rw [hc4 (w.heap.size) 2 (by first | omega | (simp; done) | (simp; omega))]; first | assumption | (simp; done) | simp [go_sem, *]
    have _ : w4.cell? ⟨w.heap.size, 3, none⟩ = some (.slice p ws.length cap) := by rw [hc4 (w.heap.size) 3 (by first | omega | (simp; done) | (simp; omega))]; first | assumption | (simp; done) | simp [go_sem, *]
    have _ : w4.cell? ⟨w.heap.size + 1, 0, none⟩ = some (.int .i64 n') := by rw [hc4 (w.heap.size + 1) 0 (by first | omega | (simp; done) | (simp; omega))]; first | assumption | (simp; done) | simp [go_sem, *]
    have _ : w4.cell? ⟨w.heap.size + 1, 1, none⟩ = some (.int .i64 e') := by rw [hc4 (w.heap.size + 1) 1 (by first | omega | (simp; done) | (simp; omega))]; first | assumption | (simp; done) | simp [go_sem, *]
    have _ : w4.cell? ⟨w.heap.size + 1, 2, none⟩ = some (.int .i64 s') := by rw [hc4 (w.heap.size + 1) 2 (by first | omega | (simp; done) | (simp; omega))]; first | assumption | (simp; done) | simp [go_sem, *]
    have _ : w4.cell? ⟨w.heap.size + 1, 3, none⟩ = some (.slice q vs.length cbp) := by rw [hc4 (w.heap.size + 1) 3 (by first | omega | (simp; done) | (simp; omega))]; first | assumption | (simp; done) | simp [go_sem, *]
    clear hc4 hf4
    have hx4 := (ReadsW.of_own o4).later ((Below.refl w4.heap.size w4).alloc (Nat.le_refl _) (.cells #[.int .i64 n, .int .i64 e, .int .i64 s, .slice p4 ws.length cap4] 29))
    replace hr3 := hr3.later ((Below.refl w4.heap.size w4).alloc (Nat.le_refl _) (.cells #[.int .i64 n, .int .i64 e, .int .i64 s, .slice p4 ws.length cap4] 29))
    replace hq3 := hq3.later ((Below.refl w4.heap.size w4).alloc (Nat.le_refl _) (.cells #[.int .i64 n, .int .i64 e, .int .i64 s, .slice p4 ws.length cap4] 29))
    clear o4
    go_wp2_with fail
    refine (toNet_any n' e' s' _ vs _ hle2 hq3).mono ?_
    rintro en w5 ⟨p5, cap5, rfl, o5, B5⟩
    replace hr3 := hr3.later B5
    replace hq3 := hq3.later B5
    replace hx4 := hx4.later B5
    obtain ⟨hc5, hf5⟩ := bcell B5
    have S5 := B5.size
    try simp at S5
    try (have _L5w : w.heap.size < w5.heap.size := by omega)
    have _M5w : w.heap.size ≤ w5.heap.size := by omega
    try (have _P5w_1 : w.heap.size + 1 < w5.heap.size := by omega)
    try (have _P5w_2 : w.heap.size + 1 + 1 < w5.heap.size := by omega)
    try (have _P5w_3 : w.heap.size + 1 + 1 + 1 < w5.heap.size := by omega)
    try (have _L5wc : wc.heap.size < w5.heap.size := by omega)
    have _M5wc : wc.heap.size ≤ w5.heap.size := by omega
    try (have _P5wc_1 : wc.heap.size + 1 < w5.heap.size := by omega)
    try (have _P5wc_2 : wc.heap.size + 1 + 1 < w5.heap.size := by omega)
    try (have _P5wc_3 : wc.heap.size + 1 + 1 + 1 < w5.heap.size := by omega)
    try (have _L5w4 : w4.heap.size < w5.heap.size := by omega)
    have _M5w4 : w4.heap.size ≤ w5.heap.size := by omega
    try (have _P5w4_1 : w4.heap.size + 1 < w5.heap.size := by omega)
    try (have _P5w4_2 : w4.heap.size + 1 + 1 < w5.heap.size := by omega)
    try (have _P5w4_3 : w4.heap.size + 1 + 1 + 1 < w5.heap.size := by omega)
    have _ : w5.cell? ⟨w.heap.size, 0, none⟩ = some (.int .i64 n) := by rw [hc5 (w.heap.size) 0 (by first | omega | (simp; done) | (simp; omega))]; first | assumption | (simp; done) | simp [go_sem, *]
    have _ : w5.cell? ⟨w.heap.size, 1, none⟩ = some (.int .i64 e) := by rw [hc5 (w.heap.size) 1 (by first | omega | (simp; done) | (simp; omega))]; first | assumption | (simp; done) | simp [go_sem, *]
    have _ : w5.cell? ⟨w.heap.size, 2, none⟩ = some (.int .i64 s) := by rw [hc5 (w.heap.size) 2 (by first | omega | (simp; done) | (simp; omega))]; first | assumption | (simp; done) | simp [go_sem, *]
    have _ : w5.cell? ⟨w.heap.size, 3, none⟩ = some (.slice p ws.length cap) := by rw [hc5 (w.heap.size) 3 (by first | omega | (simp; done) | (simp; omega))]; first | assumption | (simp; done) | simp [go_sem, *]
    have _ : w5.cell? ⟨w.heap.size + 1, 0, none⟩ = some (.int .i64 n') := by rw [hc5 (w.heap.size + 1) 0 (by first | omega | (simp; done) | (simp; omega))]; first | assumption | (simp; done) | simp [go_sem, *]
    have _ : w5.cell? ⟨w.heap.size + 1, 1, none⟩ = some (.int .i64 e') := by rw [hc5 (w.heap.size + 1) 1 (by first | omega | (simp; done) | (simp; omega))]; first | assumption | (simp; done) | simp [go_sem, *]
    have _ : w5.cell? ⟨w.heap.size + 1, 2, none⟩ = some (.int .i64 s') := by rw [hc5 (w.heap.size + 1) 2 (by first | omega | (simp; done) | (simp; omega))]; first | assumption | (simp; done) | simp [go_sem, *]
    have _ : w5.cell? ⟨w.heap.size + 1, 3, none⟩ = some (.slice q vs.length cbp) := by rw [hc5 (w.heap.size + 1) 3 (by first | omega | (simp; done) | (simp; omega))]; first | assumption | (simp; done) | simp [go_sem, *]
    have _ : w5.cell? ⟨w4.heap.size, 0, none⟩ = some (.int .i64 n) := by rw [hc5 (w4.heap.size) 0 (by first | omega | (simp; done) | (simp; omega))]; first | assumption | (simp; done) | simp [go_sem, *]
    have _ : w5.cell? ⟨w4.heap.size, 1, none⟩ = some (.int .i64 e) := by rw [hc5 (w4.heap.size) 1 (by first | omega | (simp; done) | (simp; omega))]; first | assumption | (simp; done) | simp [go_sem, *]
    have _ : w5.cell? ⟨w4.heap.size, 2, none⟩ = some (.int .i64 s) := by rw [hc5 (w4.heap.size) 2 (by first | omega | (simp; done) | (simp; omega))]; first | assumption | (simp; done) | simp [go_sem, *]
    have _ : w5.cell? ⟨w4.heap.size, 3, none⟩ = some (.slice p4 ws.length cap4) := by rw [hc5 (w4.heap.size) 3 (by first | omega | (simp; done) | (simp; omega))]; first | assumption | (simp; done) | simp [go_sem, *]
    clear hc5 hf5
    have hx5 := (ReadsW.of_own o5).later ((Below.refl w5.heap.size w5).alloc (Nat.le_refl _) (.cells #[.int .i64 n', .int .i64 e', .int .i64 s', .slice p5 vs.length cap5] 29))
    replace hr3 := hr3.later ((Below.refl w5.heap.size w5).alloc (Nat.le_refl _) (.cells #[.int .i64 n', .int .i64 e', .int .i64 s', .slice p5 vs.length cap5] 29))
    replace hq3 := hq3.later ((Below.refl w5.heap.size w5).alloc (Nat.le_refl _) (.cells #[.int .i64 n', .int .i64 e', .int .i64 s', .slice p5 vs.length cap5] 29))
    replace hx4 := hx4.later ((Below.refl w5.heap.size w5).alloc (Nat.le_refl _) (.cells #[.int .i64 n', .int .i64 e', .int .i64 s', .slice p5 vs.length cap5] 29))
    clear o5
    go_wp2_with fail
    refine (impl_same n e s n' e' s' _ _ ws vs _ hx4 hx5).mono ?_
    rintro en w6 ⟨rfl, B6⟩
    replace hr3 := hr3.later B6
    replace hq3 := hq3.later B6
    replace hx4 := hx4.later B6
    replace hx5 := hx5.later B6
    obtain ⟨hc6, hf6⟩ := bcell B6
    have S6 := B6.size
    try simp at S6
    try (have _L6w : w.heap.size < w6.heap.size := by omega)
    have _M6w : w.heap.size ≤ w6.heap.size := by omega
    try (have _P6w_1 : w.heap.size + 1 < w6.heap.size := by omega)
    try (have _P6w_2 : w.heap.size + 1 + 1 < w6.heap.size := by omega)
    try (have _P6w_3 : w.heap.size + 1 + 1 + 1 < w6.heap.size := by omega)
    try (have _L6wc : wc.heap.size < w6.heap.size := by omega)
    have _M6wc : wc.heap.size ≤ w6.heap.size := by omega
    try (have _P6wc_1 : wc.heap.size + 1 < w6.heap.size := by omega)
    try (have _P6wc_2 : wc.heap.size + 1 + 1 < w6.heap.size := by omega)
    try (have _P6wc_3 : wc.heap.size + 1 + 1 + 1 < w6.heap.size := by omega)
    try (have _L6w4 : w4.heap.size < w6.heap.size := by omega)
    have _M6w4 : w4.heap.size ≤ w6.heap.size := by omega
    try (have _P6w4_1 : w4.heap.size + 1 < w6.heap.size := by omega)
    try (have _P6w4_2 : w4.heap.size + 1 + 1 < w6.heap.size := by omega)
    try (have _P6w4_3 : w4.heap.size + 1 + 1 + 1 < w6.heap.size := by omega)
    try (have _L6w5 : w5.heap.size < w6.heap.size := by omega)
    have _M6w5 : w5.heap.size ≤ w6.heap.size := by omega
    try (have _P6w5_1 : w5.heap.size + 1 < w6.heap.size := by omega)
    try (have _P6w5_2 : w5.heap.size + 1 + 1 < w6.heap.size := by omega)
    try (have _P6w5_3 : w5.heap.size + 1 + 1 + 1 < w6.heap.size := by omega)
    have _ : w6.cell? ⟨w.heap.size, 0, none⟩ = some (.int .i64 n) := by rw [hc6 (w.heap.size) 0 (by first | omega | (simp; done) | (simp; omega))]; first | assumption | (simp; done) | simp [go_sem, *]
    have _ : w6.cell? ⟨w.heap.size, 1, none⟩ = some (.int .i64 e) := by rw [hc6 (w.heap.size) 1 (by first | omega | (simp; done) | (simp; omega))]; first | assumption | (simp; done) | simp [go_sem, *]
    have _ : w6.cell? ⟨w.heap.size, 2, none⟩ = some (.int .i64 s) := by rw [hc6 (w.heap.size) 2 (by first | omega | (simp; done) | (simp; omega))]; first | assumption | (simp; done) | simp [go_sem, *]
    have _ : w6.cell? ⟨w.heap.size, 3, none⟩ = some (.slice p ws.length cap) := by rw [hc6 (w.heap.size) 3 (by first | omega | (simp; done) | (simp; omega))]; first | assumption | (simp; done) | simp [go_sem, *]
    have _ : w6.cell? ⟨w.heap.size + 1, 0, none⟩ = some (.int .i64 n') := by rw [hc6 (w.heap.size + 1) 0 (by first | omega | (simp; done) | (simp; omega))]; first | assumption | (simp; done) | simp [go_sem, *]
    have _ : w6.cell? ⟨w.heap.size + 1, 1, none⟩ = some (.int .i64 e') := by rw [hc6 (w.heap.size + 1) 1 (by first | omega | (simp; done) | (simp; omega))]; first | assumption | (simp; done) | simp [go_sem, *]
    have _ : w6.cell? ⟨w.heap.size + 1, 2, none⟩ = some (.int .i64 s') := by rw [hc6 (w.heap.size + 1) 2 (by first | omega | (simp; done) | (simp; omega))]; first | assumption | (simp; done) | simp [go_sem, *]
    have _ : w6.cell? ⟨w.heap.size + 1, 3, none⟩ = some (.slice q vs.length cbp) := by rw [hc6 (w.heap.size + 1) 3 (by first | omega | (simp; done) | (simp; omega))]; first | assumption | (simp; done) | simp [go_sem, *]
    have _ : w6.cell? ⟨w4.heap.size, 0, none⟩ = some (.int .i64 n) := by rw [hc6 (w4.heap.size) 0 (by first | omega | (simp; done) | (simp; omega))]; first | assumption | (simp; done) | simp [go_sem, *]
    have _ : w6.cell? ⟨w4.heap.size, 1, none⟩ = some (.int .i64 e) := by rw [hc6 (w4.heap.size) 1 (by first | omega | (simp; done) | (simp; omega))]; first | assumption | (simp; done) | simp [go_sem, *]
    have _ : w6.cell? ⟨w4.heap.size, 2, none⟩ = some (.int .i64 s) := by rw [hc6 (w4.heap.size) 2 (by first | omega | (simp; done) | (simp; omega))]; first | assumption | (simp; done) | simp [go_sem, *]
    have _ : w6.cell? ⟨w4.heap.size, 3, none⟩ = some (.slice p4 ws.length cap4) := by rw [hc6 (w4.heap.size) 3 (by first | omega | (simp; done) | (simp; omega))]; first | assumption | (simp; done) | simp [go_sem, *]
    have _ : w6.cell? ⟨w5.heap.size, 0, none⟩ = some (.int .i64 n') := by rw [hc6 (w5.heap.size) 0 (by first | omega | (simp; done) | (simp; omega))]; first | assumption | (simp; done) | simp [go_sem, *]
    have _ : w6.cell? ⟨w5.heap.size, 1, none⟩ = some (.int .i64 e') := by rw [hc6 (w5.heap.size) 1 (by first | omega | (simp; done) | (simp; omega))]; first | assumption | (simp; done) | simp [go_sem, *]
    have _ : w6.cell? ⟨w5.heap.size, 2, none⟩ = some (.int .i64 s') := by rw [hc6 (w5.heap.size) 2 (by first | omega | (simp; done) | (simp; omega))]; first | assumption | (simp; done) | simp [go_sem, *]
    have _ : w6.cell? ⟨w5.heap.size, 3, none⟩ = some (.slice p5 vs.length cap5) := by rw [hc6 (w5.heap.size) 3 (by first | omega | (simp; done) | (simp; omega))]; first | assumption | (simp; done) | simp [go_sem, *]
    clear hc6 hf6
    have hB6 : Below w.heap.size w w6 := by (repeat (first | exact Below.refl _ _ | (refine Below.setCell ?_ (by (first | exact Nat.le_refl _ | omega | (simp <;> omega) | simp)) _) | (refine Below.alloc ?_ (by (first | exact Nat.le_refl _ | omega | (simp <;> omega) | simp)) _) | (refine below_draws ?_ _) | exact hB3 | (refine Below.trans ?_ (Below.mono hB3 (by (first | exact Nat.le_refl _ | omega | (simp <;> omega) | simp)))) | exact B4 | (refine Below.trans ?_ (Below.mono B4 (by (first | exact Nat.le_refl _ | omega | (simp <;> omega) | simp)))) | exact B5 | (refine Below.trans ?_ (Below.mono B5 (by (first | exact Nat.le_refl _ | omega | (simp <;> omega) | simp)))) | exact B6 | (refine Below.trans ?_ (Below.mono B6 (by (first | exact Nat.le_refl _ | omega | (simp <;> omega) | simp))))))
    have hS : (w6.cell? ⟨w.heap.size, 0, none⟩ = some (.int .i64 n) ∧ w6.cell? ⟨w.heap.size, 1, none⟩ = some (.int .i64 e) ∧ w6.cell? ⟨w.heap.size, 2, none⟩ = some (.int .i64 s) ∧ w6.cell? ⟨w.heap.size, 3, none⟩ = some (.slice p ws.length cap)) ∧ (w6.cell? ⟨w.heap.size + 1, 0, none⟩ = some (.int .i64 n') ∧ w6.cell? ⟨w.heap.size + 1, 1, none⟩ = some (.int .i64 e') ∧ w6.cell? ⟨w.heap.size + 1, 2, none⟩ = some (.int .i64 s') ∧ w6.cell? ⟨w.heap.size + 1, 3, none⟩ = some (.slice q vs.length cbp)) ∧ (w6.cell? ⟨w4.heap.size, 0, none⟩ = some (.int .i64 n) ∧ w6.cell? ⟨w4.heap.size, 1, none⟩ = some (.int .i64 e) ∧ w6.cell? ⟨w4.heap.size, 2, none⟩ = some (.int .i64 s) ∧ w6.cell? ⟨w4.heap.size, 3, none⟩ = some (.slice p4 ws.length cap4)) ∧ (w6.cell? ⟨w5.heap.size, 0, none⟩ = some (.int .i64 n') ∧ w6.cell? ⟨w5.heap.size, 1, none⟩ = some (.int .i64 e') ∧ w6.cell? ⟨w5.heap.size, 2, none⟩ = some (.int .i64 s') ∧ w6.cell? ⟨w5.heap.size, 3, none⟩ = some (.slice p5 vs.length cap5)) ∧ ReadsW w6 (.slice p ws.length cap) ws ∧ ReadsW w6 (.slice q vs.length cbp) vs ∧ ReadsW w6 (.slice p4 ws.length cap4) ws ∧ ReadsW w6 (.slice p5 vs.length cap5) vs ∧ w.heap.size ≤ w6.heap.size ∧ Below w.heap.size w w6 := ⟨⟨by assumption, by assumption, by assumption, by assumption⟩, ⟨by assumption, by assumption, by assumption, by assumption⟩, ⟨by assumption, by assumption, by assumption, by assumption⟩, ⟨by assumption, by assumption, by assumption, by assumption⟩, hr3, hq3, hx4, hx5, hB6.size, hB6⟩
    clear hB3 B4 B5 B6 hr3 hq3 hx4 hx5 hB6
    go_upto_region 2 with fail
    go_cut [39] (fun s39 wx => s39 = .bool false ∧ (wx.cell? ⟨w.heap.size, 0, none⟩ = some (.int .i64 n) ∧ wx.cell? ⟨w.heap.size, 1, none⟩ = some (.int .i64 e) ∧ wx.cell? ⟨w.heap.size, 2, none⟩ = some (.int .i64 s) ∧ wx.cell? ⟨w.heap.size, 3, none⟩ = some (.slice p ws.length cap)) ∧ (wx.cell? ⟨w.heap.size + 1, 0, none⟩ = some (.int .i64 n') ∧ wx.cell? ⟨w.heap.size + 1, 1, none⟩ = some (.int .i64 e') ∧ wx.cell? ⟨w.heap.size + 1, 2, none⟩ = some (.int .i64 s') ∧ wx.cell? ⟨w.heap.size + 1, 3, none⟩ = some (.slice q vs.length cbp)) ∧ (wx.cell? ⟨w4.heap.size, 0, none⟩ = some (.int .i64 n) ∧ wx.cell? ⟨w4.heap.size, 1, none⟩ = some (.int .i64 e) ∧ wx.cell? ⟨w4.heap.size, 2, none⟩ = some (.int .i64 s) ∧ wx.cell? ⟨w4.heap.size, 3, none⟩ = some (.slice p4 ws.length cap4)) ∧ (wx.cell? ⟨w5.heap.size, 0, none⟩ = some (.int .i64 n') ∧ wx.cell? ⟨w5.heap.size, 1, none⟩ = some (.int .i64 e') ∧ wx.cell? ⟨w5.heap.size, 2, none⟩ = some (.int .i64 s') ∧ wx.cell? ⟨w5.heap.size, 3, none⟩ = some (.slice p5 vs.length cap5)) ∧ ReadsW wx (.slice p ws.length cap) ws ∧ ReadsW wx (.slice q vs.length cbp) vs ∧ ReadsW wx (.slice p4 ws.length cap4) ws ∧ ReadsW wx (.slice p5 vs.length cap5) vs ∧ w.heap.size ≤ wx.heap.size ∧ Below w.heap.size w wx)
    case first =>
      replace hS := netd4_4 hS
      go_region_held3 (fun w' => (w'.cell? ⟨w.heap.size, 0, none⟩ = some (.int .i64 n) ∧ w'.cell? ⟨w.heap.size, 1, none⟩ = some (.int .i64 e) ∧ w'.cell? ⟨w.heap.size, 2, none⟩ = some (.int .i64 s) ∧ w'.cell? ⟨w.heap.size, 3, none⟩ = some (.slice p ws.length cap)) ∧ (w'.cell? ⟨w.heap.size + 1, 0, none⟩ = some (.int .i64 n') ∧ w'.cell? ⟨w.heap.size + 1, 1, none⟩ = some (.int .i64 e') ∧ w'.cell? ⟨w.heap.size + 1, 2, none⟩ = some (.int .i64 s') ∧ w'.cell? ⟨w.heap.size + 1, 3, none⟩ = some (.slice q vs.length cbp)) ∧ (w'.cell? ⟨w4.heap.size, 0, none⟩ = some (.int .i64 n) ∧ w'.cell? ⟨w4.heap.size, 1, none⟩ = some (.int .i64 e) ∧ w'.cell? ⟨w4.heap.size, 2, none⟩ = some (.int .i64 s) ∧ w'.cell? ⟨w4.heap.size, 3, none⟩ = some (.slice p4 ws.length cap4)) ∧ (w'.cell? ⟨w5.heap.size, 0, none⟩ = some (.int .i64 n') ∧ w'.cell? ⟨w5.heap.size, 1, none⟩ = some (.int .i64 e') ∧ w'.cell? ⟨w5.heap.size, 2, none⟩ = some (.int .i64 s') ∧ w'.cell? ⟨w5.heap.size, 3, none⟩ = some (.slice p5 vs.length cap5)) ∧ ReadsW w' (.slice p ws.length cap) ws ∧ ReadsW w' (.slice q vs.length cbp) vs ∧ ReadsW w' (.slice p4 ws.length cap4) ws ∧ ReadsW w' (.slice p5 vs.length cap5) vs ∧ w.heap.size ≤ w'.heap.size ∧ Below w.heap.size w w')
        (first | exact hS)
        (first | (go_at_call 13; refine (toNet_any n e s _ ws _ hle hS.2.2.2.2.1).mono ?_; rintro en wa ⟨p6, cap6, rfl, o6, B6⟩; replace hS := netk4_4 B6 hS; have hN := ReadsW.of_own o6) | (go_at_call 15; refine (eqNet_same n e s _ _ ws _ hS.2.2.2.2.2.2.1 hN).mono ?_; rintro en wa ⟨rfl, B6⟩; replace hS := netk4_4 B6 hS))
      all_goals
        go_wp2_with fail
        go_meet
        exact ⟨rfl, hS⟩
    case rest =>
      obtain ⟨rfl, hS0⟩ := hcut
      have hS := netd4_4 hS0
      obtain ⟨⟨_, _, _, _⟩, ⟨_, _, _, _⟩, ⟨_, _, _, _⟩, ⟨_, _, _, _⟩, _⟩ := hS0
      go_wp2
      go_region_held3 (fun w' => (w'.cell? ⟨w.heap.size, 0, none⟩ = some (.int .i64 n) ∧ w'.cell? ⟨w.heap.size, 1, none⟩ = some (.int .i64 e) ∧ w'.cell? ⟨w.heap.size, 2, none⟩ = some (.int .i64 s) ∧ w'.cell? ⟨w.heap.size, 3, none⟩ = some (.slice p ws.length cap)) ∧ (w'.cell? ⟨w.heap.size + 1, 0, none⟩ = some (.int .i64 n') ∧ w'.cell? ⟨w.heap.size + 1, 1, none⟩ = some (.int .i64 e') ∧ w'.cell? ⟨w.heap.size + 1, 2, none⟩ = some (.int .i64 s') ∧ w'.cell? ⟨w.heap.size + 1, 3, none⟩ = some (.slice q vs.length cbp)) ∧ (w'.cell? ⟨w4.heap.size, 0, none⟩ = some (.int .i64 n) ∧ w'.cell? ⟨w4.heap.size, 1, none⟩ = some (.int .i64 e) ∧ w'.cell? ⟨w4.heap.size, 2, none⟩ = some (.int .i64 s) ∧ w'.cell? ⟨w4.heap.size, 3, none⟩ = some (.slice p4 ws.length cap4)) ∧ (w'.cell? ⟨w5.heap.size, 0, none⟩ = some (.int .i64 n') ∧ w'.cell? ⟨w5.heap.size, 1, none⟩ = some (.int .i64 e') ∧ w'.cell? ⟨w5.heap.size, 2, none⟩ = some (.int .i64 s') ∧ w'.cell? ⟨w5.heap.size, 3, none⟩ = some (.slice p5 vs.length cap5)) ∧ ReadsW w' (.slice p ws.length cap) ws ∧ ReadsW w' (.slice q vs.length cbp) vs ∧ ReadsW w' (.slice p4 ws.length cap4) ws ∧ ReadsW w' (.slice p5 vs.length cap5) vs ∧ w.heap.size ≤ w'.heap.size ∧ Below w.heap.size w w')
        (first | exact hS)
        (first | (go_at_call 13; refine (toNet_any n' e' s' _ vs _ hle2 hS.2.2.2.2.2.1).mono ?_; rintro en wa ⟨p6, cap6, rfl, o6, B6⟩; replace hS := netk4_4 B6 hS; have hN := ReadsW.of_own o6) | (go_at_call 15; refine (eqNet_same n' e' s' _ _ vs _ hS.2.2.2.2.2.2.2.1 hN).mono ?_; rintro en wa ⟨rfl, B6⟩; replace hS := netk4_4 B6 hS))
      all_goals
        go_wp2
        go_ret
        exact ⟨rfl, hS.2.2.2.2.2.2.2.2.2⟩

theorem own : ownKnob Try.prog.godebug = none := by kernel_rfl
theorem cells_net : Try.prog.cellsOf 24 = 4 := by kernel_rfl
theorem cells_wire : Try.prog.cellsOf 69 = 3 := by kernel_rfl
theorem laidOut : laidOutB Try.prog = true := by kernel_rfl
set_option maxRecDepth 100000 in
theorem lifted (os : Os) (started : os.Started) (H : Type) (enc : TypeId × Value → H) :
    ReturnsInHanded {} Try.checked os 8 .any (Rows.fnExactSameNetSpec.pre6 enc Try.prog Try.f8 Rows.fnExactSameNetRow.domain false) (Rows.fnExactSameNetSpec.post enc Try.prog Try.f8 false true false false) := by
  refine returnsInHanded_of_change (C := Try.checked) own started (by kernel_rfl) Try.func8
    (ChangeSpec.witness6 (enc := enc) (C := Try.checked) false ⟨#[], #[.agg #[.int .i64 0, .int .i64 0, .int .i64 0, .slice none 0 0], .agg #[.int .i64 0, .int .i64 0, .int .i64 0, .slice none 0 0]], []⟩ 8 (by kernel_rfl) (by kernel_rfl) (by kernel_rfl) (by kernel_rfl)) ?_
  intro W base args ds gs before hval0 hW hcnd _
  have hval : ∀ (j : Nat) t v, Try.f8.params[j]? = some t → args[j]? = some v → Value.okWide Try.prog W .any base t v := hval0
  have hW' := hW
  obtain ⟨p, q, hA0, hV, rfl, hfz, hnd⟩ := hW
  have hA : DataW.TrodAll enc Try.prog W 0 (fun _ => true) true Try.f8.params.toList args.toList ds p := hA0
  rw [Try.params8] at hA hval
  obtain ⟨v0, v1, d0, d1, p0, p1, rfl, rfl, rfl, h0, h1⟩ := trodAll_two hA
  obtain ⟨rfl, rfl⟩ := trodVars_none hV
  obtain ⟨c0a, c0b, c0c, c0d, y0a, y0b, y0c, y0d, m0, rfl, rfl, _, hy0a, hy0b, hy0c, hy0d⟩ := Go.Joins.open_agg4 Try.underlying24 (by kernel_rfl) cells_net (hval 0 24 v0 rfl rfl) h0
  obtain ⟨x0a, e0a, _, wx0a⟩ := DataW.trod_int Try.underlying3 hy0a
  simp at e0a
  subst e0a
  obtain ⟨x0b, e0b, _, wx0b⟩ := DataW.trod_int Try.underlying3 hy0b
  simp at e0b
  subst e0b
  obtain ⟨x0c, e0c, _, wx0c⟩ := DataW.trod_int Try.underlying3 hy0c
  simp at e0c
  subst e0c
  obtain ⟨ws0, wr0⟩ := open_wires Try.underlying22 Try.underlying69 (by kernel_rfl) cells_wire rfl rfl rfl Try.underlying3 hy0d
  obtain ⟨c1a, c1b, c1c, c1d, y1a, y1b, y1c, y1d, m1, rfl, rfl, _, hy1a, hy1b, hy1c, hy1d⟩ := Go.Joins.open_agg4 Try.underlying24 (by kernel_rfl) cells_net (hval 1 24 v1 rfl rfl) h1
  obtain ⟨x1a, e1a, _, wx1a⟩ := DataW.trod_int Try.underlying3 hy1a
  simp at e1a
  subst e1a
  obtain ⟨x1b, e1b, _, wx1b⟩ := DataW.trod_int Try.underlying3 hy1b
  simp at e1b
  subst e1b
  obtain ⟨x1c, e1c, _, wx1c⟩ := DataW.trod_int Try.underlying3 hy1c
  simp at e1c
  subst e1c
  obtain ⟨ws1, wr1⟩ := open_wires Try.underlying22 Try.underlying69 (by kernel_rfl) cells_wire rfl rfl rfl Try.underlying3 hy1d
  clear hA0 hval0
  simp only [List.append_nil] at hW'
  refine (walk x0a x0b x0c c0d ws0 x1a x1b x1c c1d ws1 W wx0a wx0b wx0c wr0 wx1a wx1b wx1c wr1).mono fun e W' ⟨he, hB⟩ => ?_
  subst he
  refine ⟨_, rfl, _, _, _, [], (p0 ++ (p1)), [], hW', ?_, ?_, ?_, hB.frame _, fun h => by cases h⟩
  · exact trodAll_mk1 (shut_bool Try.underlying4 true)
  · exact trodAll_mk2 (Below.trod laidOut (by kernel_rfl) (of_decide_eq_true (by kernel_rfl)) h0 hB (fun x hx => hW'.lt x (by simp [hx]))) (Below.trod laidOut (by kernel_rfl) (of_decide_eq_true (by kernel_rfl)) h1 hB (fun x hx => hW'.lt x (by simp [hx])))
  · rfl

theorem holds : Rows.FnExactSameNetSaid :=
  OpenClaim.holds_of_wide 8 Try.f8 rfl rfl rfl rfl rfl rfl rfl ⟨rfl, rfl, rfl, rfl, rfl⟩ rfl rfl rfl rfl rfl (by kernel_rfl) Try.func8 (by kernel_rfl)
    (of_decide_eq_true (by kernel_rfl)) (by unfold Func.isWrapper; first | (rw [if_pos (by decide +kernel)]; kernel_rfl) | (rw [if_neg (by decide +kernel)]; exact ⟨rfl, rfl⟩))
    (fun os started H enc _ => lifted os started H enc)
end SameNetLaw
end Go.Proofs.Ytlehbfacepmnfaa
