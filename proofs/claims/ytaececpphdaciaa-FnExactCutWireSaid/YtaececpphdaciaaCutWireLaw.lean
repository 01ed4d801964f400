/-
  FnExactCutWire: for every network, valid or not, and every number the reference model and the program give the same answer to CutWire in every field; the program changes no argument, and its answer shares memory with nothing. No condition.
-/
import Derived.Test.YtaececpphdaciaaRows
import Derived.Test.YtaececpphdaciaaLeaves
import Derived.Test.YtaececpphdaciaaCutSpec
import Derived.Test.YtaececpphdaciaaCutImpl
import Derived.Test.YtaececpphdaciaaGNet
import Derived.Deep.DeepCutAuto
namespace Go.Proofs.Ytaececpphdaciaa
open Go.ChangeShapes Go.WideShapes Go.ChangeAt Go.RowKit

namespace CutWireLaw
set_option maxRecDepth 4000 in
set_option maxHeartbeats 12800000 in
theorem walk (n e s : Int) (v : Value) (ws : List W3) (nx : Int) (w : World) (_hn : (Lit.int .i64 n).wf = true) (_he : (Lit.int .i64 e).wf = true) (_hs : (Lit.int .i64 s).wf = true) (hr : ReadsW w v ws) (_hnx : (Lit.int .i64 nx).wf = true) :
    Calls Try.prog 11 #[.agg #[.int .i64 n, .int .i64 e, .int .i64 s, v], .int .i64 nx] w fun en w' => en = .returned (.bool true) ∧ Below w.heap.size w w' := by
  have hsz := szNet_any n e s v ws 1048576 _ (by omega) (by omega) (hr.later ((Below.refl w.heap.size w).alloc (Nat.le_refl _) (.cells #[.int .i64 n, .int .i64 e, .int .i64 s, v] 56)))
  obtain ⟨p, cap, rfl⟩ := hr.shape
  by_cases hneg : szW 1048576 ws < 0
  · go_enter Try.func11, Try.ntmps11
    go_wp2_with fail
    refine hsz.mono ?_
    rintro en w1 ⟨rfl, B1⟩
    obtain ⟨hc1, hf1⟩ := bcell B1
    have S1 := B1.size
    try simp at S1
    try (have _L1w : w.heap.size < w1.heap.size := by omega)
    have _M1w : w.heap.size ≤ w1.heap.size := by omega
    try (have _P1w_1 : w.heap.size + 1 < w1.heap.size := by omega)
    try (have _P1w_2 : w.heap.size + 1 + 1 < w1.heap.size := by omega)
    try (have _P1w_3 : w.heap.size + 1 + 1 + 1 < w1.heap.size := by omega)
    go_wp2
    go_ret
    exact ⟨rfl, by (repeat (first | exact Below.refl _ _ | (refine Below.setCell ?_ (by (first | exact Nat.le_refl _ | omega | (simp <;> omega) | simp)) _) | (refine Below.alloc ?_ (by (first | exact Nat.le_refl _ | omega | (simp <;> omega) | simp)) _) | (refine below_draws ?_ _) | exact B1 | (refine Below.trans ?_ (Below.mono B1 (by (first | exact Nat.le_refl _ | omega | (simp <;> omega) | simp))))))⟩
  have hle : ws.length ≤ 1048576 := by unfold szW at hneg; split at hneg <;> omega
  obtain ⟨n', e', s', out, bb, hR⟩ : ∃ n' e' s' out bb, faultR n e s nx 0 ws = (n', e', s', out, bb) := ⟨_, _, _, _, _, rfl⟩
  have hol : out.length ≤ 1048576 := by have := (Nat.le_trans (faultR_len n e s nx 0 ws) (by decide) : _ ≤ 1048576); rw [hR] at this; exact this
  have hsp : ∀ (W : World) (u : Value), ReadsW W u ws → Calls Try.prog 48 #[.agg #[.int .i64 n, .int .i64 e, .int .i64 s, u], .int .i64 nx] W fun en w' => ∃ p c, en = .returned (.tuple #[.agg #[.int .i64 n', .int .i64 e', .int .i64 s', .slice p out.length c], .bool bb]) ∧ w'.ownsRow W.heap.size 29 3 (.slice p out.length c) out.length (cellsW out) ∧ Below W.heap.size W w' := fun W u hu => by
    have := spec_cut n e s nx u ws W hu hle; rw [hR] at this; exact this
  have him : ∀ (W : World) (u : Value), ReadsW W u ws → Calls Try.prog 15 #[.agg #[.int .i64 n, .int .i64 e, .int .i64 s, u], .int .i64 nx] W fun en w' => ∃ p c, en = .returned (.tuple #[.agg #[.int .i64 n', .int .i64 e', .int .i64 s', .slice p out.length c], .bool bb]) ∧ w'.ownsRow W.heap.size 29 3 (.slice p out.length c) out.length (cellsW out) ∧ Below W.heap.size W w' := fun W u hu => by
    have := impl_cut n e s nx u ws W hu hle; rw [hR] at this; exact this
  clear hR
  have HSP := Lib.hid hsp; clear hsp
  have HIM := Lib.hid him; clear him
  have HR := Lib.hid hr; clear hr
  go_enter Try.func11, Try.ntmps11
  go_wp2_with fail
  refine hsz.mono ?_
  rintro en w1 ⟨rfl, B1⟩
  clear hsz
  obtain ⟨hc1, hf1⟩ := bcell B1
  have S1 := B1.size
  try simp at S1
  try (have _L1w : w.heap.size < w1.heap.size := by omega)
  have _M1w : w.heap.size ≤ w1.heap.size := by omega
  try (have _P1w_1 : w.heap.size + 1 < w1.heap.size := by omega)
  try (have _P1w_2 : w.heap.size + 1 + 1 < w1.heap.size := by omega)
  try (have _P1w_3 : w.heap.size + 1 + 1 + 1 < w1.heap.size := by omega)
  have k1a0 : w1.cell? ⟨w.heap.size, 0, none⟩ = some (.int .i64 n) := by rw [hc1 (w.heap.size) 0 (by first | omega | (simp; done) | (simp; omega))]; first | assumption | (simp; done) | simp [go_sem, *]
  have k1a1 : w1.cell? ⟨w.heap.size, 1, none⟩ = some (.int .i64 e) := by rw [hc1 (w.heap.size) 1 (by first | omega | (simp; done) | (simp; omega))]; first | assumption | (simp; done) | simp [go_sem, *]
  have k1a2 : w1.cell? ⟨w.heap.size, 2, none⟩ = some (.int .i64 s) := by rw [hc1 (w.heap.size) 2 (by first | omega | (simp; done) | (simp; omega))]; first | assumption | (simp; done) | simp [go_sem, *]
  have k1a3 : w1.cell? ⟨w.heap.size, 3, none⟩ = some (.slice p ws.length cap) := by rw [hc1 (w.heap.size) 3 (by first | omega | (simp; done) | (simp; omega))]; first | assumption | (simp; done) | simp [go_sem, *]
  clear hc1 hf1
  go_wp2_with fail
  refine (toNet_any n e s _ ws _ hle (HR.out.later (by (repeat (first | exact Below.refl _ _ | (refine Below.setCell ?_ (by (first | exact Nat.le_refl _ | omega | (simp <;> omega) | simp)) _) | (refine Below.alloc ?_ (by (first | exact Nat.le_refl _ | omega | (simp <;> omega) | simp)) _) | (refine below_draws ?_ _) | exact B1 | (refine Below.trans ?_ (Below.mono B1 (by (first | exact Nat.le_refl _ | omega | (simp <;> omega) | simp))))))))).mono ?_
  rintro en w2 ⟨p2, cap2, rfl, o2, B2⟩
  obtain ⟨hc2, hf2⟩ := bcell B2
  have S2 := B2.size
  try simp at S2
  try (have _L2w : w.heap.size < w2.heap.size := by omega)
  have _M2w : w.heap.size ≤ w2.heap.size := by omega
  try (have _P2w_1 : w.heap.size + 1 < w2.heap.size := by omega)
  try (have _P2w_2 : w.heap.size + 1 + 1 < w2.heap.size := by omega)
  try (have _P2w_3 : w.heap.size + 1 + 1 + 1 < w2.heap.size := by omega)
  try (have _L2w1 : w1.heap.size < w2.heap.size := by omega)
  have _M2w1 : w1.heap.size ≤ w2.heap.size := by omega
  try (have _P2w1_1 : w1.heap.size + 1 < w2.heap.size := by omega)
  try (have _P2w1_2 : w1.heap.size + 1 + 1 < w2.heap.size := by omega)
  try (have _P2w1_3 : w1.heap.size + 1 + 1 + 1 < w2.heap.size := by omega)
  have k2a0 : w2.cell? ⟨w.heap.size, 0, none⟩ = some (.int .i64 n) := by rw [hc2 (w.heap.size) 0 (by first | omega | (simp; done) | (simp; omega))]; first | assumption | (simp; done) | simp [go_sem, *]
  have k2a1 : w2.cell? ⟨w.heap.size, 1, none⟩ = some (.int .i64 e) := by rw [hc2 (w.heap.size) 1 (by first | omega | (simp; done) | (simp; omega))]; first | assumption | (simp; done) | simp [go_sem, *]
  have k2a2 : w2.cell? ⟨w.heap.size, 2, none⟩ = some (.int .i64 s) := by rw [hc2 (w.heap.size) 2 (by first | omega | (simp; done) | (simp; omega))]; first | assumption | (simp; done) | simp [go_sem, *]
  have k2a3 : w2.cell? ⟨w.heap.size, 3, none⟩ = some (.slice p ws.length cap) := by rw [hc2 (w.heap.size) 3 (by first | omega | (simp; done) | (simp; omega))]; first | assumption | (simp; done) | simp [go_sem, *]
  clear hc2 hf2 k1a0 k1a1 k1a2 k1a3
  go_wp2_with fail
  refine (HSP.out _ _ (ReadsW.of_own o2)).mono ?_
  rintro en w3 ⟨q1, c1, rfl, o3, B3⟩
  clear o2
  obtain ⟨hc3, hf3⟩ := bcell B3
  have S3 := B3.size
  try simp at S3
  try (have _L3w : w.heap.size < w3.heap.size := by omega)
  have _M3w : w.heap.size ≤ w3.heap.size := by omega
  try (have _P3w_1 : w.heap.size + 1 < w3.heap.size := by omega)
  try (have _P3w_2 : w.heap.size + 1 + 1 < w3.heap.size := by omega)
  try (have _P3w_3 : w.heap.size + 1 + 1 + 1 < w3.heap.size := by omega)
  try (have _L3w1 : w1.heap.size < w3.heap.size := by omega)
  have _M3w1 : w1.heap.size ≤ w3.heap.size := by omega
  try (have _P3w1_1 : w1.heap.size + 1 < w3.heap.size := by omega)
  try (have _P3w1_2 : w1.heap.size + 1 + 1 < w3.heap.size := by omega)
  try (have _P3w1_3 : w1.heap.size + 1 + 1 + 1 < w3.heap.size := by omega)
  try (have _L3w2 : w2.heap.size < w3.heap.size := by omega)
  have _M3w2 : w2.heap.size ≤ w3.heap.size := by omega
  try (have _P3w2_1 : w2.heap.size + 1 < w3.heap.size := by omega)
  try (have _P3w2_2 : w2.heap.size + 1 + 1 < w3.heap.size := by omega)
  try (have _P3w2_3 : w2.heap.size + 1 + 1 + 1 < w3.heap.size := by omega)
  have k3a0 : w3.cell? ⟨w.heap.size, 0, none⟩ = some (.int .i64 n) := by rw [hc3 (w.heap.size) 0 (by first | omega | (simp; done) | (simp; omega))]; first | assumption | (simp; done) | simp [go_sem, *]
  have k3a1 : w3.cell? ⟨w.heap.size, 1, none⟩ = some (.int .i64 e) := by rw [hc3 (w.heap.size) 1 (by first | omega | (simp; done) | (simp; omega))]; first | assumption | (simp; done) | simp [go_sem, *]
  have k3a2 : w3.cell? ⟨w.heap.size, 2, none⟩ = some (.int .i64 s) := by rw [hc3 (w.heap.size) 2 (by first | omega | (simp; done) | (simp; omega))]; first | assumption | (simp; done) | simp [go_sem, *]
  have k3a3 : w3.cell? ⟨w.heap.size, 3, none⟩ = some (.slice p ws.length cap) := by rw [hc3 (w.heap.size) 3 (by first | omega | (simp; done) | (simp; omega))]; first | assumption | (simp; done) | simp [go_sem, *]
  clear hc3 hf3 k2a0 k2a1 k2a2 k2a3
  have hB3 : Below w.heap.size w w3 := by (repeat (first | exact Below.refl _ _ | (refine Below.setCell ?_ (by (first | exact Nat.le_refl _ | omega | (simp <;> omega) | simp)) _) | (refine Below.alloc ?_ (by (first | exact Nat.le_refl _ | omega | (simp <;> omega) | simp)) _) | (refine below_draws ?_ _) | exact B1 | (refine Below.trans ?_ (Below.mono B1 (by (first | exact Nat.le_refl _ | omega | (simp <;> omega) | simp)))) | exact B2 | (refine Below.trans ?_ (Below.mono B2 (by (first | exact Nat.le_refl _ | omega | (simp <;> omega) | simp)))) | exact B3 | (refine Below.trans ?_ (Below.mono B3 (by (first | exact Nat.le_refl _ | omega | (simp <;> omega) | simp))))))
  have O3 := Lib.hid o3; clear o3 B1 B2 B3
  go_wp2_with fail
  refine (toNet_any n e s _ ws _ hle (HR.out.later (by (repeat (first | exact Below.refl _ _ | (refine Below.setCell ?_ (by (first | exact Nat.le_refl _ | omega | (simp <;> omega) | simp)) _) | (refine Below.alloc ?_ (by (first | exact Nat.le_refl _ | omega | (simp <;> omega) | simp)) _) | (refine below_draws ?_ _) | exact hB3 | (refine Below.trans ?_ (Below.mono hB3 (by (first | exact Nat.le_refl _ | omega | (simp <;> omega) | simp))))))))).mono ?_
  rintro en w4 ⟨p4, cap4, rfl, o4, B4⟩
  obtain ⟨hc4, hf4⟩ := bcell B4
  have S4 := B4.size
  try simp at S4
  try (have _L4w : w.heap.size < w4.heap.size := by omega)
  have _M4w : w.heap.size ≤ w4.heap.size := by omega
  try (have _P4w_1 : w.heap.size + 1 < w4.heap.size := by omega)
  try (have _P4w_2 : w.heap.size + 1 + 1 < w4.heap.size := by omega)
  try (have _P4w_3 : w.heap.size + 1 + 1 + 1 < w4.heap.size := by omega)
  try (have _L4w3 : w3.heap.size < w4.heap.size := by omega)
  have _M4w3 : w3.heap.size ≤ w4.heap.size := by omega
  try (have _P4w3_1 : w3.heap.size + 1 < w4.heap.size := by omega)
  try (have _P4w3_2 : w3.heap.size + 1 + 1 < w4.heap.size := by omega)
  try (have _P4w3_3 : w3.heap.size + 1 + 1 + 1 < w4.heap.size := by omega)
  have k4a0 : w4.cell? ⟨w.heap.size, 0, none⟩ = some (.int .i64 n) := by rw [hc4 (w.heap.size) 0 (by first | omega | (simp; done) | (simp; omega))]; first | assumption | (simp; done) | simp [go_sem, *]
  have k4a1 : w4.cell? ⟨w.heap.size, 1, none⟩ = some (.int .i64 e) := by rw [hc4 (w.heap.size) 1 (by first | omega | (simp; done) | (simp; omega))]; first | assumption | (simp; done) | simp [go_sem, *]
  have k4a2 : w4.cell? ⟨w.heap.size, 2, none⟩ = some (.int .i64 s) := by rw [hc4 (w.heap.size) 2 (by first | omega | (simp; done) | (simp; omega))]; first | assumption | (simp; done) | simp [go_sem, *]
  have k4a3 : w4.cell? ⟨w.heap.size, 3, none⟩ = some (.slice p ws.length cap) := by rw [hc4 (w.heap.size) 3 (by first | omega | (simp; done) | (simp; omega))]; first | assumption | (simp; done) | simp [go_sem, *]
  have k4w0 : w4.cell? ⟨w3.heap.size, 0, none⟩ = some (.int .i64 n') := by rw [hc4 (w3.heap.size) 0 (by first | omega | (simp; done) | (simp; omega))]; first | assumption | (simp; done) | simp [go_sem, *]
  have k4w1 : w4.cell? ⟨w3.heap.size, 1, none⟩ = some (.int .i64 e') := by rw [hc4 (w3.heap.size) 1 (by first | omega | (simp; done) | (simp; omega))]; first | assumption | (simp; done) | simp [go_sem, *]
  have k4w2 : w4.cell? ⟨w3.heap.size, 2, none⟩ = some (.int .i64 s') := by rw [hc4 (w3.heap.size) 2 (by first | omega | (simp; done) | (simp; omega))]; first | assumption | (simp; done) | simp [go_sem, *]
  have k4w3 : w4.cell? ⟨w3.heap.size, 3, none⟩ = some (.slice q1 out.length c1) := by rw [hc4 (w3.heap.size) 3 (by first | omega | (simp; done) | (simp; omega))]; first | assumption | (simp; done) | simp [go_sem, *]
  clear hc4 hf4 k3a0 k3a1 k3a2 k3a3
  go_wp2_with fail
  refine (HIM.out _ _ ((ReadsW.of_own o4).later (by (repeat (first | exact Below.refl _ _ | (refine Below.setCell ?_ (by (first | exact Nat.le_refl _ | omega | (simp <;> omega) | simp)) _) | (refine Below.alloc ?_ (by (first | exact Nat.le_refl _ | omega | (simp <;> omega) | simp)) _) | (refine below_draws ?_ _)))))).mono ?_
  rintro en w5 ⟨q5, c5, rfl, o5, B5⟩
  obtain ⟨hc5, hf5⟩ := bcell B5
  have S5 := B5.size
  try simp at S5
  try (have _L5w : w.heap.size < w5.heap.size := by omega)
  have _M5w : w.heap.size ≤ w5.heap.size := by omega
  try (have _P5w_1 : w.heap.size + 1 < w5.heap.size := by omega)
  try (have _P5w_2 : w.heap.size + 1 + 1 < w5.heap.size := by omega)
  try (have _P5w_3 : w.heap.size + 1 + 1 + 1 < w5.heap.size := by omega)
  try (have _L5w3 : w3.heap.size < w5.heap.size := by omega)
  have _M5w3 : w3.heap.size ≤ w5.heap.size := by omega
  try (have _P5w3_1 : w3.heap.size + 1 < w5.heap.size := by omega)
  try (have _P5w3_2 : w3.heap.size + 1 + 1 < w5.heap.size := by omega)
  try (have _P5w3_3 : w3.heap.size + 1 + 1 + 1 < w5.heap.size := by omega)
  try (have _L5w4 : w4.heap.size < w5.heap.size := by omega)
  have _M5w4 : w4.heap.size ≤ w5.heap.size := by omega
  try (have _P5w4_1 : w4.heap.size + 1 < w5.heap.size := by omega)
  try (have _P5w4_2 : w4.heap.size + 1 + 1 < w5.heap.size := by omega)
  try (have _P5w4_3 : w4.heap.size + 1 + 1 + 1 < w5.heap.size := by omega)
  have k5a0 : w5.cell? ⟨w.heap.size, 0, none⟩ = some (.int .i64 n) := by rw [hc5 (w.heap.size) 0 (by first | omega | (simp; done) | (simp; omega))]; first | assumption | (simp; done) | simp [go_sem, *]
  have k5a1 : w5.cell? ⟨w.heap.size, 1, none⟩ = some (.int .i64 e) := by rw [hc5 (w.heap.size) 1 (by first | omega | (simp; done) | (simp; omega))]; first | assumption | (simp; done) | simp [go_sem, *]
  have k5a2 : w5.cell? ⟨w.heap.size, 2, none⟩ = some (.int .i64 s) := by rw [hc5 (w.heap.size) 2 (by first | omega | (simp; done) | (simp; omega))]; first | assumption | (simp; done) | simp [go_sem, *]
  have k5a3 : w5.cell? ⟨w.heap.size, 3, none⟩ = some (.slice p ws.length cap) := by rw [hc5 (w.heap.size) 3 (by first | omega | (simp; done) | (simp; omega))]; first | assumption | (simp; done) | simp [go_sem, *]
  have k5w0 : w5.cell? ⟨w3.heap.size, 0, none⟩ = some (.int .i64 n') := by rw [hc5 (w3.heap.size) 0 (by first | omega | (simp; done) | (simp; omega))]; first | assumption | (simp; done) | simp [go_sem, *]
  have k5w1 : w5.cell? ⟨w3.heap.size, 1, none⟩ = some (.int .i64 e') := by rw [hc5 (w3.heap.size) 1 (by first | omega | (simp; done) | (simp; omega))]; first | assumption | (simp; done) | simp [go_sem, *]
  have k5w2 : w5.cell? ⟨w3.heap.size, 2, none⟩ = some (.int .i64 s') := by rw [hc5 (w3.heap.size) 2 (by first | omega | (simp; done) | (simp; omega))]; first | assumption | (simp; done) | simp [go_sem, *]
  have k5w3 : w5.cell? ⟨w3.heap.size, 3, none⟩ = some (.slice q1 out.length c1) := by rw [hc5 (w3.heap.size) 3 (by first | omega | (simp; done) | (simp; omega))]; first | assumption | (simp; done) | simp [go_sem, *]
  have k5x0 : w5.cell? ⟨w4.heap.size, 0, none⟩ = some (.int .i64 n) := by rw [hc5 (w4.heap.size) 0 (by first | omega | (simp; done) | (simp; omega))]; first | assumption | (simp; done) | simp [go_sem, *]
  have k5x1 : w5.cell? ⟨w4.heap.size, 1, none⟩ = some (.int .i64 e) := by rw [hc5 (w4.heap.size) 1 (by first | omega | (simp; done) | (simp; omega))]; first | assumption | (simp; done) | simp [go_sem, *]
  have k5x2 : w5.cell? ⟨w4.heap.size, 2, none⟩ = some (.int .i64 s) := by rw [hc5 (w4.heap.size) 2 (by first | omega | (simp; done) | (simp; omega))]; first | assumption | (simp; done) | simp [go_sem, *]
  have k5x3 : w5.cell? ⟨w4.heap.size, 3, none⟩ = some (.slice p4 ws.length cap4) := by rw [hc5 (w4.heap.size) 3 (by first | omega | (simp; done) | (simp; omega))]; first | assumption | (simp; done) | simp [go_sem, *]
  clear hc5 hf5 k4a0 k4a1 k4a2 k4a3 k4w0 k4w1 k4w2 k4w3
  have hlt4 := o4.lt
  have hlt5 := o5.lt
  have hb4 : ∀ k, (Value.slice p4 ws.length cap4).ownBlock = some k → w3.heap.size + 1 ≤ k ∧ k < w4.heap.size := fun k hk => by have := hlt4 k hk; simp at this; omega
  have hb5 : ∀ k, (Value.slice q5 out.length c5).ownBlock = some k → w4.heap.size + 1 ≤ k ∧ k < w5.heap.size := fun k hk => by have := hlt5 k hk; simp at this; omega
  have HB4 := Lib.hid hb4; have HB5 := Lib.hid hb5
  clear hb4 hb5 hlt4 hlt5
  have O4 : Hid (w4.ownsRow (w3.heap.size + 1) 29 3 (.slice p4 ws.length cap4) ws.length (cellsW ws)) := Lib.hid (by simpa using o4)
  have O5 : Hid (w5.ownsRow (w4.heap.size + 1) 29 3 (.slice q5 out.length c5) out.length (cellsW out)) := Lib.hid (by simpa using o5)
  clear o4 o5
  go_wp2_with fail
  refine (eqNet_same n' e' s' _ _ out _ ((ReadsW.of_own O5.out).later (by (repeat (first | exact Below.refl _ _ | (refine Below.setCell ?_ (by (first | exact Nat.le_refl _ | omega | (simp <;> omega) | simp)) _) | (refine Below.alloc ?_ (by (first | exact Nat.le_refl _ | omega | (simp <;> omega) | simp)) _) | (refine below_draws ?_ _))))) ((ReadsW.of_own O3.out).later (by (repeat (first | exact Below.refl _ _ | (refine Below.setCell ?_ (by (first | exact Nat.le_refl _ | omega | (simp <;> omega) | simp)) _) | (refine Below.alloc ?_ (by (first | exact Nat.le_refl _ | omega | (simp <;> omega) | simp)) _) | (refine below_draws ?_ _) | exact B4 | (refine Below.trans ?_ (Below.mono B4 (by (first | exact Nat.le_refl _ | omega | (simp <;> omega) | simp)))) | exact B5 | (refine Below.trans ?_ (Below.mono B5 (by (first | exact Nat.le_refl _ | omega | (simp <;> omega) | simp))))))))).mono ?_
  rintro en w6 ⟨rfl, B6⟩
  obtain ⟨hc6, hf6⟩ := bcell B6
  have S6 := B6.size
  try simp at S6
  try (have _L6w : w.heap.size < w6.heap.size := by omega)
  have _M6w : w.heap.size ≤ w6.heap.size := by omega
  try (have _P6w_1 : w.heap.size + 1 < w6.heap.size := by omega)
  try (have _P6w_2 : w.heap.size + 1 + 1 < w6.heap.size := by omega)
  try (have _P6w_3 : w.heap.size + 1 + 1 + 1 < w6.heap.size := by omega)
  try (have _L6w3 : w3.heap.size < w6.heap.size := by omega)
  have _M6w3 : w3.heap.size ≤ w6.heap.size := by omega
  try (have _P6w3_1 : w3.heap.size + 1 < w6.heap.size := by omega)
  try (have _P6w3_2 : w3.heap.size + 1 + 1 < w6.heap.size := by omega)
  try (have _P6w3_3 : w3.heap.size + 1 + 1 + 1 < w6.heap.size := by omega)
  try (have _L6w4 : w4.heap.size < w6.heap.size := by omega)
  have _M6w4 : w4.heap.size ≤ w6.heap.size := by omega
  try (have _P6w4_1 : w4.heap.size + 1 < w6.heap.size := by omega)
  try (have _P6w4_2 : w4.heap.size + 1 + 1 < w6.heap.size := by omega)
  try (have _P6w4_3 : w4.heap.size + 1 + 1 + 1 < w6.heap.size := by omega)
  try (have _L6w5 : w5.heap.size < w6.heap.size := by omega)
  have _M6w5 : w5.heap.size ≤ w6.heap.size := by omega
  try (have _P6w5_1 : w5.heap.size + 1 < w6.heap.size := by omega)
  try (have _P6w5_2 : w5.heap.size + 1 + 1 < w6.heap.size := by omega)
  try (have _P6w5_3 : w5.heap.size + 1 + 1 + 1 < w6.heap.size := by omega)
  have k6a0 : w6.cell? ⟨w.heap.size, 0, none⟩ = some (.int .i64 n) := by rw [hc6 (w.heap.size) 0 (by first | omega | (simp; done) | (simp; omega))]; first | assumption | (simp; done) | simp [go_sem, *]
  have k6a1 : w6.cell? ⟨w.heap.size, 1, none⟩ = some (.int .i64 e) := by rw [hc6 (w.heap.size) 1 (by first | omega | (simp; done) | (simp; omega))]; first | assumption | (simp; done) | simp [go_sem, *]
  have k6a2 : w6.cell? ⟨w.heap.size, 2, none⟩ = some (.int .i64 s) := by rw [hc6 (w.heap.size) 2 (by first | omega | (simp; done) | (simp; omega))]; first | assumption | (simp; done) | simp [go_sem, *]
  have k6a3 : w6.cell? ⟨w.heap.size, 3, none⟩ = some (.slice p ws.length cap) := by rw [hc6 (w.heap.size) 3 (by first | omega | (simp; done) | (simp; omega))]; first | assumption | (simp; done) | simp [go_sem, *]
  have k6w0 : w6.cell? ⟨w3.heap.size, 0, none⟩ = some (.int .i64 n') := by rw [hc6 (w3.heap.size) 0 (by first | omega | (simp; done) | (simp; omega))]; first | assumption | (simp; done) | simp [go_sem, *]
  have k6w1 : w6.cell? ⟨w3.heap.size, 1, none⟩ = some (.int .i64 e') := by rw [hc6 (w3.heap.size) 1 (by first | omega | (simp; done) | (simp; omega))]; first | assumption | (simp; done) | simp [go_sem, *]
  have k6w2 : w6.cell? ⟨w3.heap.size, 2, none⟩ = some (.int .i64 s') := by rw [hc6 (w3.heap.size) 2 (by first | omega | (simp; done) | (simp; omega))]; first | assumption | (simp; done) | simp [go_sem, *]
  have k6w3 : w6.cell? ⟨w3.heap.size, 3, none⟩ = some (.slice q1 out.length c1) := by rw [hc6 (w3.heap.size) 3 (by first | omega | (simp; done) | (simp; omega))]; first | assumption | (simp; done) | simp [go_sem, *]
  have k6x0 : w6.cell? ⟨w4.heap.size, 0, none⟩ = some (.int .i64 n) := by rw [hc6 (w4.heap.size) 0 (by first | omega | (simp; done) | (simp; omega))]; first | assumption | (simp; done) | simp [go_sem, *]
  have k6x1 : w6.cell? ⟨w4.heap.size, 1, none⟩ = some (.int .i64 e) := by rw [hc6 (w4.heap.size) 1 (by first | omega | (simp; done) | (simp; omega))]; first | assumption | (simp; done) | simp [go_sem, *]
  have k6x2 : w6.cell? ⟨w4.heap.size, 2, none⟩ = some (.int .i64 s) := by rw [hc6 (w4.heap.size) 2 (by first | omega | (simp; done) | (simp; omega))]; first | assumption | (simp; done) | simp [go_sem, *]
  have k6x3 : w6.cell? ⟨w4.heap.size, 3, none⟩ = some (.slice p4 ws.length cap4) := by rw [hc6 (w4.heap.size) 3 (by first | omega | (simp; done) | (simp; omega))]; first | assumption | (simp; done) | simp [go_sem, *]
  have k6g0 : w6.cell? ⟨w5.heap.size, 0, none⟩ = some (.int .i64 n') := by rw [hc6 (w5.heap.size) 0 (by first | omega | (simp; done) | (simp; omega))]; first | assumption | (simp; done) | simp [go_sem, *]
  have k6g1 : w6.cell? ⟨w5.heap.size, 1, none⟩ = some (.int .i64 e') := by rw [hc6 (w5.heap.size) 1 (by first | omega | (simp; done) | (simp; omega))]; first | assumption | (simp; done) | simp [go_sem, *]
  have k6g2 : w6.cell? ⟨w5.heap.size, 2, none⟩ = some (.int .i64 s') := by rw [hc6 (w5.heap.size) 2 (by first | omega | (simp; done) | (simp; omega))]; first | assumption | (simp; done) | simp [go_sem, *]
  have k6g3 : w6.cell? ⟨w5.heap.size, 3, none⟩ = some (.slice q5 out.length c5) := by rw [hc6 (w5.heap.size) 3 (by first | omega | (simp; done) | (simp; omega))]; first | assumption | (simp; done) | simp [go_sem, *]
  clear hc6 hf6 k5a0 k5a1 k5a2 k5a3 k5w0 k5w1 k5w2 k5w3 k5x0 k5x1 k5x2 k5x3
  have hB6 : Below w3.heap.size w3 w6 := by (repeat (first | exact Below.refl _ _ | (refine Below.setCell ?_ (by (first | exact Nat.le_refl _ | omega | (simp <;> omega) | simp)) _) | (refine Below.alloc ?_ (by (first | exact Nat.le_refl _ | omega | (simp <;> omega) | simp)) _) | (refine below_draws ?_ _) | exact B4 | (refine Below.trans ?_ (Below.mono B4 (by (first | exact Nat.le_refl _ | omega | (simp <;> omega) | simp)))) | exact B5 | (refine Below.trans ?_ (Below.mono B5 (by (first | exact Nat.le_refl _ | omega | (simp <;> omega) | simp)))) | exact B6 | (refine Below.trans ?_ (Below.mono B6 (by (first | exact Nat.le_refl _ | omega | (simp <;> omega) | simp))))))
  have hB46 : Below w4.heap.size w4 w6 := by (repeat (first | exact Below.refl _ _ | (refine Below.setCell ?_ (by (first | exact Nat.le_refl _ | omega | (simp <;> omega) | simp)) _) | (refine Below.alloc ?_ (by (first | exact Nat.le_refl _ | omega | (simp <;> omega) | simp)) _) | (refine below_draws ?_ _) | exact B5 | (refine Below.trans ?_ (Below.mono B5 (by (first | exact Nat.le_refl _ | omega | (simp <;> omega) | simp)))) | exact B6 | (refine Below.trans ?_ (Below.mono B6 (by (first | exact Nat.le_refl _ | omega | (simp <;> omega) | simp))))))
  have hB56 : Below w5.heap.size w5 w6 := by (repeat (first | exact Below.refl _ _ | (refine Below.setCell ?_ (by (first | exact Nat.le_refl _ | omega | (simp <;> omega) | simp)) _) | (refine Below.alloc ?_ (by (first | exact Nat.le_refl _ | omega | (simp <;> omega) | simp)) _) | (refine below_draws ?_ _) | exact B6 | (refine Below.trans ?_ (Below.mono B6 (by (first | exact Nat.le_refl _ | omega | (simp <;> omega) | simp))))))
  have hS : (w6.cell? ⟨w.heap.size, 0, none⟩ = some (.int .i64 n) ∧ w6.cell? ⟨w.heap.size, 1, none⟩ = some (.int .i64 e) ∧ w6.cell? ⟨w.heap.size, 2, none⟩ = some (.int .i64 s) ∧ w6.cell? ⟨w.heap.size, 3, none⟩ = some (.slice p ws.length cap)) ∧ (w6.cell? ⟨w4.heap.size, 0, none⟩ = some (.int .i64 n) ∧ w6.cell? ⟨w4.heap.size, 1, none⟩ = some (.int .i64 e) ∧ w6.cell? ⟨w4.heap.size, 2, none⟩ = some (.int .i64 s) ∧ w6.cell? ⟨w4.heap.size, 3, none⟩ = some (.slice p4 ws.length cap4)) ∧ ReadsW w6 (.slice p ws.length cap) ws ∧ ReadsW w6 (.slice p4 ws.length cap4) ws ∧ w6.heap.size ≤ w6.heap.size ∧ Below w6.heap.size w6 w6 := ⟨⟨k6a0, k6a1, k6a2, k6a3⟩, ⟨k6x0, k6x1, k6x2, k6x3⟩, HR.out.later (by (repeat (first | exact Below.refl _ _ | (refine Below.setCell ?_ (by (first | exact Nat.le_refl _ | omega | (simp <;> omega) | simp)) _) | (refine Below.alloc ?_ (by (first | exact Nat.le_refl _ | omega | (simp <;> omega) | simp)) _) | (refine below_draws ?_ _) | exact hB3 | (refine Below.trans ?_ (Below.mono hB3 (by (first | exact Nat.le_refl _ | omega | (simp <;> omega) | simp)))) | exact hB6 | (refine Below.trans ?_ (Below.mono hB6 (by (first | exact Nat.le_refl _ | omega | (simp <;> omega) | simp))))))), (ReadsW.of_own O4.out).later hB46, Nat.le_refl _, Below.refl _ _⟩
  clear B4 B5 B6
  go_upto_region 1 with fail
  go_cut [49] (fun s45 wx => s45 = .bool false ∧ Below w6.heap.size w6 wx)
  case first =>
    replace hS := net2_drew hS
    clear hB3 hB6 hB46 hB56
    go_region_held3 (fun w' => (w'.cell? ⟨w.heap.size, 0, none⟩ = some (.int .i64 n) ∧ w'.cell? ⟨w.heap.size, 1, none⟩ = some (.int .i64 e) ∧ w'.cell? ⟨w.heap.size, 2, none⟩ = some (.int .i64 s) ∧ w'.cell? ⟨w.heap.size, 3, none⟩ = some (.slice p ws.length cap)) ∧ (w'.cell? ⟨w4.heap.size, 0, none⟩ = some (.int .i64 n) ∧ w'.cell? ⟨w4.heap.size, 1, none⟩ = some (.int .i64 e) ∧ w'.cell? ⟨w4.heap.size, 2, none⟩ = some (.int .i64 s) ∧ w'.cell? ⟨w4.heap.size, 3, none⟩ = some (.slice p4 ws.length cap4)) ∧ ReadsW w' (.slice p ws.length cap) ws ∧ ReadsW w' (.slice p4 ws.length cap4) ws ∧ w6.heap.size ≤ w'.heap.size ∧ Below w6.heap.size w6 w')
      (first | exact hS)
      (first | (go_at_call 31; refine (toNet_any n e s _ ws _ hle hS.2.2.1).mono ?_; rintro en wa ⟨p6, cap6, rfl, o6, Ba⟩; replace hS := net2_keep Ba hS; have hN := ReadsW.of_own o6) | (go_at_call 34; refine (eqNet_same n e s _ _ ws _ hS.2.2.2.1 hN).mono ?_; rintro en wa ⟨rfl, Ba⟩; replace hS := net2_keep Ba hS))
    all_goals
      go_wp2_with fail
      go_meet
      exact ⟨rfl, hS.2.2.2.2.2⟩
  case rest =>
    obtain ⟨rfl, Bc⟩ := hcut
    clear hS
    obtain ⟨hcc, hfc⟩ := bcell Bc
    have Sc := Bc.size
    try simp at Sc
    try (have _Lcw : w.heap.size < wc.heap.size := by omega)
    have _Mcw : w.heap.size ≤ wc.heap.size := by omega
    try (have _Pcw_1 : w.heap.size + 1 < wc.heap.size := by omega)
    try (have _Pcw_2 : w.heap.size + 1 + 1 < wc.heap.size := by omega)
    try (have _Pcw_3 : w.heap.size + 1 + 1 + 1 < wc.heap.size := by omega)
    try (have _Lcw3 : w3.heap.size < wc.heap.size := by omega)
    have _Mcw3 : w3.heap.size ≤ wc.heap.size := by omega
    try (have _Pcw3_1 : w3.heap.size + 1 < wc.heap.size := by omega)
    try (have _Pcw3_2 : w3.heap.size + 1 + 1 < wc.heap.size := by omega)
    try (have _Pcw3_3 : w3.heap.size + 1 + 1 + 1 < wc.heap.size := by omega)
    try (have _Lcw4 : w4.heap.size < wc.heap.size := by omega)
    have _Mcw4 : w4.heap.size ≤ wc.heap.size := by omega
    try (have _Pcw4_1 : w4.heap.size + 1 < wc.heap.size := by omega)
    try (have _Pcw4_2 : w4.heap.size + 1 + 1 < wc.heap.size := by omega)
    try (have _Pcw4_3 : w4.heap.size + 1 + 1 + 1 < wc.heap.size := by omega)
    try (have _Lcw5 : w5.heap.size < wc.heap.size := by omega)
    have _Mcw5 : w5.heap.size ≤ wc.heap.size := by omega
    try (have _Pcw5_1 : w5.heap.size + 1 < wc.heap.size := by omega)
    try (have _Pcw5_2 : w5.heap.size + 1 + 1 < wc.heap.size := by omega)
    try (have _Pcw5_3 : w5.heap.size + 1 + 1 + 1 < wc.heap.size := by omega)
    try (have _Lcw6 : w6.heap.size < wc.heap.size := by omega)
    have _Mcw6 : w6.heap.size ≤ wc.heap.size := by omega
    try (have _Pcw6_1 : w6.heap.size + 1 < wc.heap.size := by omega)
    try (have _Pcw6_2 : w6.heap.size + 1 + 1 < wc.heap.size := by omega)
    try (have _Pcw6_3 : w6.heap.size + 1 + 1 + 1 < wc.heap.size := by omega)
    have kca0 : wc.cell? ⟨w.heap.size, 0, none⟩ = some (.int .i64 n) := by rw [hcc (w.heap.size) 0 (by first | omega | (simp; done) | (simp; omega))]; first | assumption | (simp; done) | simp [go_sem, *]
    have kca1 : wc.cell? ⟨w.heap.size, 1, none⟩ = some (.int .i64 e) := by rw [hcc (w.heap.size) 1 (by first | omega | (simp; done) | (simp; omega))]; first | assumption | (simp; done) | simp [go_sem, *]
    have kca2 : wc.cell? ⟨w.heap.size, 2, none⟩ = some (.int .i64 s) := by rw [hcc (w.heap.size) 2 (by first | omega | (simp; done) | (simp; omega))]; first | assumption | (simp; done) | simp [go_sem, *]
    have kca3 : wc.cell? ⟨w.heap.size, 3, none⟩ = some (.slice p ws.length cap) := by rw [hcc (w.heap.size) 3 (by first | omega | (simp; done) | (simp; omega))]; first | assumption | (simp; done) | simp [go_sem, *]
    have kcw0 : wc.cell? ⟨w3.heap.size, 0, none⟩ = some (.int .i64 n') := by rw [hcc (w3.heap.size) 0 (by first | omega | (simp; done) | (simp; omega))]; first | assumption | (simp; done) | simp [go_sem, *]
    have kcw1 : wc.cell? ⟨w3.heap.size, 1, none⟩ = some (.int .i64 e') := by rw [hcc (w3.heap.size) 1 (by first | omega | (simp; done) | (simp; omega))]; first | assumption | (simp; done) | simp [go_sem, *]
    have kcw2 : wc.cell? ⟨w3.heap.size, 2, none⟩ = some (.int .i64 s') := by rw [hcc (w3.heap.size) 2 (by first | omega | (simp; done) | (simp; omega))]; first | assumption | (simp; done) | simp [go_sem, *]
    have kcw3 : wc.cell? ⟨w3.heap.size, 3, none⟩ = some (.slice q1 out.length c1) := by rw [hcc (w3.heap.size) 3 (by first | omega | (simp; done) | (simp; omega))]; first | assumption | (simp; done) | simp [go_sem, *]
    have kcx0 : wc.cell? ⟨w4.heap.size, 0, none⟩ = some (.int .i64 n) := by rw [hcc (w4.heap.size) 0 (by first | omega | (simp; done) | (simp; omega))]; first | assumption | (simp; done) | simp [go_sem, *]
    have kcx1 : wc.cell? ⟨w4.heap.size, 1, none⟩ = some (.int .i64 e) := by rw [hcc (w4.heap.size) 1 (by first | omega | (simp; done) | (simp; omega))]; first | assumption | (simp; done) | simp [go_sem, *]
    have kcx2 : wc.cell? ⟨w4.heap.size, 2, none⟩ = some (.int .i64 s) := by rw [hcc (w4.heap.size) 2 (by first | omega | (simp; done) | (simp; omega))]; first | assumption | (simp; done) | simp [go_sem, *]
    have kcx3 : wc.cell? ⟨w4.heap.size, 3, none⟩ = some (.slice p4 ws.length cap4) := by rw [hcc (w4.heap.size) 3 (by first | omega | (simp; done) | (simp; omega))]; first | assumption | (simp; done) | simp [go_sem, *]
    have kcg0 : wc.cell? ⟨w5.heap.size, 0, none⟩ = some (.int .i64 n') := by rw [hcc (w5.heap.size) 0 (by first | omega | (simp; done) | (simp; omega))]; first | assumption | (simp; done) | simp [go_sem, *]
    have kcg1 : wc.cell? ⟨w5.heap.size, 1, none⟩ = some (.int .i64 e') := by rw [hcc (w5.heap.size) 1 (by first | omega | (simp; done) | (simp; omega))]; first | assumption | (simp; done) | simp [go_sem, *]
    have kcg2 : wc.cell? ⟨w5.heap.size, 2, none⟩ = some (.int .i64 s') := by rw [hcc (w5.heap.size) 2 (by first | omega | (simp; done) | (simp; omega))]; first | assumption | (simp; done) | simp [go_sem, *]
    have kcg3 : wc.cell? ⟨w5.heap.size, 3, none⟩ = some (.slice q5 out.length c5) := by rw [hcc (w5.heap.size) 3 (by first | omega | (simp; done) | (simp; omega))]; first | assumption | (simp; done) | simp [go_sem, *]
    clear hcc hfc k6a0 k6a1 k6a2 k6a3 k6w0 k6w1 k6w2 k6w3 k6x0 k6x1 k6x2 k6x3 k6g0 k6g1 k6g2 k6g3
    have O4c := owns_later O4.out (show Below w4.heap.size w4 wc by (repeat (first | exact Below.refl _ _ | (refine Below.setCell ?_ (by (first | exact Nat.le_refl _ | omega | (simp <;> omega) | simp)) _) | (refine Below.alloc ?_ (by (first | exact Nat.le_refl _ | omega | (simp <;> omega) | simp)) _) | (refine below_draws ?_ _) | exact hB46 | (refine Below.trans ?_ (Below.mono hB46 (by (first | exact Nat.le_refl _ | omega | (simp <;> omega) | simp)))) | exact Bc | (refine Below.trans ?_ (Below.mono Bc (by (first | exact Nat.le_refl _ | omega | (simp <;> omega) | simp)))))))
    have O5c := owns_later O5.out (show Below w5.heap.size w5 wc by (repeat (first | exact Below.refl _ _ | (refine Below.setCell ?_ (by (first | exact Nat.le_refl _ | omega | (simp <;> omega) | simp)) _) | (refine Below.alloc ?_ (by (first | exact Nat.le_refl _ | omega | (simp <;> omega) | simp)) _) | (refine below_draws ?_ _) | exact hB56 | (refine Below.trans ?_ (Below.mono hB56 (by (first | exact Nat.le_refl _ | omega | (simp <;> omega) | simp)))) | exact Bc | (refine Below.trans ?_ (Below.mono Bc (by (first | exact Nat.le_refl _ | omega | (simp <;> omega) | simp)))))))
    have hB3c : Below w3.heap.size w3 wc := by (repeat (first | exact Below.refl _ _ | (refine Below.setCell ?_ (by (first | exact Nat.le_refl _ | omega | (simp <;> omega) | simp)) _) | (refine Below.alloc ?_ (by (first | exact Nat.le_refl _ | omega | (simp <;> omega) | simp)) _) | (refine below_draws ?_ _) | exact hB6 | (refine Below.trans ?_ (Below.mono hB6 (by (first | exact Nat.le_refl _ | omega | (simp <;> omega) | simp)))) | exact Bc | (refine Below.trans ?_ (Below.mono Bc (by (first | exact Nat.le_refl _ | omega | (simp <;> omega) | simp))))))
    clear hB46 hB56 hB6 Bc
    go_wp2_with fail
    refine (markNet_at 1 n e s p4 cap4 ws.length 1 _ _ _ rfl (by omega) (by omega) O4c).mono ?_
    rintro en w8 ⟨rfl, o8, g8⟩
    have mf8 := mark_far g8 HB4.out
    have M8 := mark_below g8 HB4.out (by omega)
    have S8 := g8.size
    have O5d := Lib.hid (O5c.kept g8 (ne_own (hi := w4.heap.size) (fun k hk => by have := HB5.out k hk; omega) (fun k hk => (HB4.out k hk).2)))
    clear O4c O5c o8 g8
    have k8a0 : w8.cell? ⟨w.heap.size, 0, none⟩ = some (.int .i64 n) := mf8 _ _ _ (Or.inl (by omega)) kca0
    have k8a1 : w8.cell? ⟨w.heap.size, 1, none⟩ = some (.int .i64 e) := mf8 _ _ _ (Or.inl (by omega)) kca1
    have k8a2 : w8.cell? ⟨w.heap.size, 2, none⟩ = some (.int .i64 s) := mf8 _ _ _ (Or.inl (by omega)) kca2
    have k8a3 : w8.cell? ⟨w.heap.size, 3, none⟩ = some (.slice p ws.length cap) := mf8 _ _ _ (Or.inl (by omega)) kca3
    have k8w0 : w8.cell? ⟨w3.heap.size, 0, none⟩ = some (.int .i64 n') := mf8 _ _ _ (Or.inl (by omega)) kcw0
    have k8w1 : w8.cell? ⟨w3.heap.size, 1, none⟩ = some (.int .i64 e') := mf8 _ _ _ (Or.inl (by omega)) kcw1
    have k8w2 : w8.cell? ⟨w3.heap.size, 2, none⟩ = some (.int .i64 s') := mf8 _ _ _ (Or.inl (by omega)) kcw2
    have k8w3 : w8.cell? ⟨w3.heap.size, 3, none⟩ = some (.slice q1 out.length c1) := mf8 _ _ _ (Or.inl (by omega)) kcw3
    have k8x0 : w8.cell? ⟨w4.heap.size, 0, none⟩ = some (.int .i64 n) := mf8 _ _ _ (Or.inr (by omega)) kcx0
    have k8x1 : w8.cell? ⟨w4.heap.size, 1, none⟩ = some (.int .i64 e) := mf8 _ _ _ (Or.inr (by omega)) kcx1
    have k8x2 : w8.cell? ⟨w4.heap.size, 2, none⟩ = some (.int .i64 s) := mf8 _ _ _ (Or.inr (by omega)) kcx2
    have k8x3 : w8.cell? ⟨w4.heap.size, 3, none⟩ = some (.slice p4 ws.length cap4) := mf8 _ _ _ (Or.inr (by omega)) kcx3
    have k8g0 : w8.cell? ⟨w5.heap.size, 0, none⟩ = some (.int .i64 n') := mf8 _ _ _ (Or.inr (by omega)) kcg0
    have k8g1 : w8.cell? ⟨w5.heap.size, 1, none⟩ = some (.int .i64 e') := mf8 _ _ _ (Or.inr (by omega)) kcg1
    have k8g2 : w8.cell? ⟨w5.heap.size, 2, none⟩ = some (.int .i64 s') := mf8 _ _ _ (Or.inr (by omega)) kcg2
    have k8g3 : w8.cell? ⟨w5.heap.size, 3, none⟩ = some (.slice q5 out.length c5) := mf8 _ _ _ (Or.inr (by omega)) kcg3
    clear mf8 kca0 kca1 kca2 kca3 kcw0 kcw1 kcw2 kcw3 kcx0 kcx1 kcx2 kcx3 kcg0 kcg1 kcg2 kcg3
    have hB38 : Below w3.heap.size w3 w8 := by (repeat (first | exact Below.refl _ _ | (refine Below.setCell ?_ (by (first | exact Nat.le_refl _ | omega | (simp <;> omega) | simp)) _) | (refine Below.alloc ?_ (by (first | exact Nat.le_refl _ | omega | (simp <;> omega) | simp)) _) | (refine below_draws ?_ _) | exact hB3c | (refine Below.trans ?_ (Below.mono hB3c (by (first | exact Nat.le_refl _ | omega | (simp <;> omega) | simp)))) | exact M8 | (refine Below.trans ?_ (Below.mono M8 (by (first | exact Nat.le_refl _ | omega | (simp <;> omega) | simp))))))
    clear M8 hB3c
    go_wp2_with fail
    refine (eqNet_same n' e' s' _ _ out _ (ReadsW.of_own O5d.out) ((ReadsW.of_own O3.out).later hB38)).mono ?_
    rintro en w9 ⟨rfl, B9⟩
    obtain ⟨hc9, hf9⟩ := bcell B9
    have S9 := B9.size
    try simp at S9
    try (have _L9w : w.heap.size < w9.heap.size := by omega)
    have _M9w : w.heap.size ≤ w9.heap.size := by omega
    try (have _P9w_1 : w.heap.size + 1 < w9.heap.size := by omega)
    try (have _P9w_2 : w.heap.size + 1 + 1 < w9.heap.size := by omega)
    try (have _P9w_3 : w.heap.size + 1 + 1 + 1 < w9.heap.size := by omega)
    try (have _L9w3 : w3.heap.size < w9.heap.size := by omega)
    have _M9w3 : w3.heap.size ≤ w9.heap.size := by omega
    try (have _P9w3_1 : w3.heap.size + 1 < w9.heap.size := by omega)
    try (have _P9w3_2 : w3.heap.size + 1 + 1 < w9.heap.size := by omega)
    try (have _P9w3_3 : w3.heap.size + 1 + 1 + 1 < w9.heap.size := by omega)
    try (have _L9w4 : w4.heap.size < w9.heap.size := by omega)
    have _M9w4 : w4.heap.size ≤ w9.heap.size := by omega
    try (have _P9w4_1 : w4.heap.size + 1 < w9.heap.size := by omega)
    try (have _P9w4_2 : w4.heap.size + 1 + 1 < w9.heap.size := by omega)
    try (have _P9w4_3 : w4.heap.size + 1 + 1 + 1 < w9.heap.size := by omega)
    try (have _L9w5 : w5.heap.size < w9.heap.size := by omega)
    have _M9w5 : w5.heap.size ≤ w9.heap.size := by omega
    try (have _P9w5_1 : w5.heap.size + 1 < w9.heap.size := by omega)
    try (have _P9w5_2 : w5.heap.size + 1 + 1 < w9.heap.size := by omega)
    try (have _P9w5_3 : w5.heap.size + 1 + 1 + 1 < w9.heap.size := by omega)
    try (have _L9w8 : w8.heap.size < w9.heap.size := by omega)
    have _M9w8 : w8.heap.size ≤ w9.heap.size := by omega
    try (have _P9w8_1 : w8.heap.size + 1 < w9.heap.size := by omega)
    try (have _P9w8_2 : w8.heap.size + 1 + 1 < w9.heap.size := by omega)
    try (have _P9w8_3 : w8.heap.size + 1 + 1 + 1 < w9.heap.size := by omega)
    have k9a0 : w9.cell? ⟨w.heap.size, 0, none⟩ = some (.int .i64 n) := by rw [hc9 (w.heap.size) 0 (by first | omega | (simp; done) | (simp; omega))]; first | assumption | (simp; done) | simp [go_sem, *]
    have k9a1 : w9.cell? ⟨w.heap.size, 1, none⟩ = some (.int .i64 e) := by rw [hc9 (w.heap.size) 1 (by first | omega | (simp; done) | (simp; omega))]; first | assumption | (simp; done) | simp [go_sem, *]
    have k9a2 : w9.cell? ⟨w.heap.size, 2, none⟩ = some (.int .i64 s) := by rw [hc9 (w.heap.size) 2 (by first | omega | (simp; done) | (simp; omega))]; first | assumption | (simp; done) | simp [go_sem, *]
    have k9a3 : w9.cell? ⟨w.heap.size, 3, none⟩ = some (.slice p ws.length cap) := by rw [hc9 (w.heap.size) 3 (by first | omega | (simp; done) | (simp; omega))]; first | assumption | (simp; done) | simp [go_sem, *]
    have k9w0 : w9.cell? ⟨w3.heap.size, 0, none⟩ = some (.int .i64 n') := by rw [hc9 (w3.heap.size) 0 (by first | omega | (simp; done) | (simp; omega))]; first | assumption | (simp; done) | simp [go_sem, *]
    have k9w1 : w9.cell? ⟨w3.heap.size, 1, none⟩ = some (.int .i64 e') := by rw [hc9 (w3.heap.size) 1 (by first | omega | (simp; done) | (simp; omega))]; first | assumption | (simp; done) | simp [go_sem, *]
    have k9w2 : w9.cell? ⟨w3.heap.size, 2, none⟩ = some (.int .i64 s') := by rw [hc9 (w3.heap.size) 2 (by first | omega | (simp; done) | (simp; omega))]; first | assumption | (simp; done) | simp [go_sem, *]
    have k9w3 : w9.cell? ⟨w3.heap.size, 3, none⟩ = some (.slice q1 out.length c1) := by rw [hc9 (w3.heap.size) 3 (by first | omega | (simp; done) | (simp; omega))]; first | assumption | (simp; done) | simp [go_sem, *]
    have k9g0 : w9.cell? ⟨w5.heap.size, 0, none⟩ = some (.int .i64 n') := by rw [hc9 (w5.heap.size) 0 (by first | omega | (simp; done) | (simp; omega))]; first | assumption | (simp; done) | simp [go_sem, *]
    have k9g1 : w9.cell? ⟨w5.heap.size, 1, none⟩ = some (.int .i64 e') := by rw [hc9 (w5.heap.size) 1 (by first | omega | (simp; done) | (simp; omega))]; first | assumption | (simp; done) | simp [go_sem, *]
    have k9g2 : w9.cell? ⟨w5.heap.size, 2, none⟩ = some (.int .i64 s') := by rw [hc9 (w5.heap.size) 2 (by first | omega | (simp; done) | (simp; omega))]; first | assumption | (simp; done) | simp [go_sem, *]
    have k9g3 : w9.cell? ⟨w5.heap.size, 3, none⟩ = some (.slice q5 out.length c5) := by rw [hc9 (w5.heap.size) 3 (by first | omega | (simp; done) | (simp; omega))]; first | assumption | (simp; done) | simp [go_sem, *]
    clear hc9 hf9 k8a0 k8a1 k8a2 k8a3 k8w0 k8w1 k8w2 k8w3 k8x0 k8x1 k8x2 k8x3 k8g0 k8g1 k8g2 k8g3
    have O59 := owns_later O5d.out B9
    have hB39 : Below w3.heap.size w3 w9 := by (repeat (first | exact Below.refl _ _ | (refine Below.setCell ?_ (by (first | exact Nat.le_refl _ | omega | (simp <;> omega) | simp)) _) | (refine Below.alloc ?_ (by (first | exact Nat.le_refl _ | omega | (simp <;> omega) | simp)) _) | (refine below_draws ?_ _) | exact hB38 | (refine Below.trans ?_ (Below.mono hB38 (by (first | exact Nat.le_refl _ | omega | (simp <;> omega) | simp)))) | exact B9 | (refine Below.trans ?_ (Below.mono B9 (by (first | exact Nat.le_refl _ | omega | (simp <;> omega) | simp))))))
    clear hB38 B9 O5d
    go_wp2_with fail
    refine (markNet_at 1 n' e' s' q5 c5 out.length 1 _ _ _ rfl (by omega) (by omega) O59).mono ?_
    rintro en w10 ⟨rfl, o10, g10⟩
    have mf10 := mark_far g10 HB5.out
    have M10 := mark_below g10 HB5.out (by omega)
    have S10 := g10.size
    have O10 := Lib.hid o10
    clear O59 o10 g10
    have k10a0 : w10.cell? ⟨w.heap.size, 0, none⟩ = some (.int .i64 n) := mf10 _ _ _ (Or.inl (by omega)) k9a0
    have k10a1 : w10.cell? ⟨w.heap.size, 1, none⟩ = some (.int .i64 e) := mf10 _ _ _ (Or.inl (by omega)) k9a1
    have k10a2 : w10.cell? ⟨w.heap.size, 2, none⟩ = some (.int .i64 s) := mf10 _ _ _ (Or.inl (by omega)) k9a2
    have k10a3 : w10.cell? ⟨w.heap.size, 3, none⟩ = some (.slice p ws.length cap) := mf10 _ _ _ (Or.inl (by omega)) k9a3
    have k10w0 : w10.cell? ⟨w3.heap.size, 0, none⟩ = some (.int .i64 n') := mf10 _ _ _ (Or.inl (by omega)) k9w0
    have k10w1 : w10.cell? ⟨w3.heap.size, 1, none⟩ = some (.int .i64 e') := mf10 _ _ _ (Or.inl (by omega)) k9w1
    have k10w2 : w10.cell? ⟨w3.heap.size, 2, none⟩ = some (.int .i64 s') := mf10 _ _ _ (Or.inl (by omega)) k9w2
    have k10w3 : w10.cell? ⟨w3.heap.size, 3, none⟩ = some (.slice q1 out.length c1) := mf10 _ _ _ (Or.inl (by omega)) k9w3
    have k10g0 : w10.cell? ⟨w5.heap.size, 0, none⟩ = some (.int .i64 n') := mf10 _ _ _ (Or.inr (by omega)) k9g0
    have k10g1 : w10.cell? ⟨w5.heap.size, 1, none⟩ = some (.int .i64 e') := mf10 _ _ _ (Or.inr (by omega)) k9g1
    have k10g2 : w10.cell? ⟨w5.heap.size, 2, none⟩ = some (.int .i64 s') := mf10 _ _ _ (Or.inr (by omega)) k9g2
    have k10g3 : w10.cell? ⟨w5.heap.size, 3, none⟩ = some (.slice q5 out.length c5) := mf10 _ _ _ (Or.inr (by omega)) k9g3
    clear mf10 k9a0 k9a1 k9a2 k9a3 k9w0 k9w1 k9w2 k9w3 k9g0 k9g1 k9g2 k9g3
    have hB310 : Below w3.heap.size w3 w10 := by (repeat (first | exact Below.refl _ _ | (refine Below.setCell ?_ (by (first | exact Nat.le_refl _ | omega | (simp <;> omega) | simp)) _) | (refine Below.alloc ?_ (by (first | exact Nat.le_refl _ | omega | (simp <;> omega) | simp)) _) | (refine below_draws ?_ _) | exact hB39 | (refine Below.trans ?_ (Below.mono hB39 (by (first | exact Nat.le_refl _ | omega | (simp <;> omega) | simp)))) | exact M10 | (refine Below.trans ?_ (Below.mono M10 (by (first | exact Nat.le_refl _ | omega | (simp <;> omega) | simp))))))
    clear M10 hB39
    go_wp2_with fail
    refine (heldNet_at 1 n' e' s' q5 c5 out.length 1 _ rfl (by omega) (by omega) (ReadsW.of_own' O10.out)).mono ?_
    rintro en w11 ⟨rfl, B11⟩
    obtain ⟨hc11, hf11⟩ := bcell B11
    have S11 := B11.size
    try simp at S11
    try (have _L11w : w.heap.size < w11.heap.size := by omega)
    have _M11w : w.heap.size ≤ w11.heap.size := by omega
    try (have _P11w_1 : w.heap.size + 1 < w11.heap.size := by omega)
    try (have _P11w_2 : w.heap.size + 1 + 1 < w11.heap.size := by omega)
    try (have _P11w_3 : w.heap.size + 1 + 1 + 1 < w11.heap.size := by omega)
    try (have _L11w3 : w3.heap.size < w11.heap.size := by omega)
    have _M11w3 : w3.heap.size ≤ w11.heap.size := by omega
    try (have _P11w3_1 : w3.heap.size + 1 < w11.heap.size := by omega)
    try (have _P11w3_2 : w3.heap.size + 1 + 1 < w11.heap.size := by omega)
    try (have _P11w3_3 : w3.heap.size + 1 + 1 + 1 < w11.heap.size := by omega)
    try (have _L11w4 : w4.heap.size < w11.heap.size := by omega)
    have _M11w4 : w4.heap.size ≤ w11.heap.size := by omega
    try (have _P11w4_1 : w4.heap.size + 1 < w11.heap.size := by omega)
    try (have _P11w4_2 : w4.heap.size + 1 + 1 < w11.heap.size := by omega)
    try (have _P11w4_3 : w4.heap.size + 1 + 1 + 1 < w11.heap.size := by omega)
    try (have _L11w5 : w5.heap.size < w11.heap.size := by omega)
    have _M11w5 : w5.heap.size ≤ w11.heap.size := by omega
    try (have _P11w5_1 : w5.heap.size + 1 < w11.heap.size := by omega)
    try (have _P11w5_2 : w5.heap.size + 1 + 1 < w11.heap.size := by omega)
    try (have _P11w5_3 : w5.heap.size + 1 + 1 + 1 < w11.heap.size := by omega)
    try (have _L11w10 : w10.heap.size < w11.heap.size := by omega)
    have _M11w10 : w10.heap.size ≤ w11.heap.size := by omega
    try (have _P11w10_1 : w10.heap.size + 1 < w11.heap.size := by omega)
    try (have _P11w10_2 : w10.heap.size + 1 + 1 < w11.heap.size := by omega)
    try (have _P11w10_3 : w10.heap.size + 1 + 1 + 1 < w11.heap.size := by omega)
    have k11a0 : w11.cell? ⟨w.heap.size, 0, none⟩ = some (.int .i64 n) := by rw [hc11 (w.heap.size) 0 (by first | omega | (simp; done) | (simp; omega))]; first | assumption | (simp; done) | simp [go_sem, *]
    have k11a1 : w11.cell? ⟨w.heap.size, 1, none⟩ = some (.int .i64 e) := by rw [hc11 (w.heap.size) 1 (by first | omega | (simp; done) | (simp; omega))]; first | assumption | (simp; done) | simp [go_sem, *]
    have k11a2 : w11.cell? ⟨w.heap.size, 2, none⟩ = some (.int .i64 s) := by rw [hc11 (w.heap.size) 2 (by first | omega | (simp; done) | (simp; omega))]; first | assumption | (simp; done) | simp [go_sem, *]
    have k11a3 : w11.cell? ⟨w.heap.size, 3, none⟩ = some (.slice p ws.length cap) := by rw [hc11 (w.heap.size) 3 (by first | omega | (simp; done) | (simp; omega))]; first | assumption | (simp; done) | simp [go_sem, *]
    have k11w0 : w11.cell? ⟨w3.heap.size, 0, none⟩ = some (.int .i64 n') := by rw [hc11 (w3.heap.size) 0 (by first | omega | (simp; done) | (simp; omega))]; first | assumption | (simp; done) | simp [go_sem, *]
    have k11w1 : w11.cell? ⟨w3.heap.size, 1, none⟩ = some (.int .i64 e') := by rw [hc11 (w3.heap.size) 1 (by first | omega | (simp; done) | (simp; omega))]; first | assumption | (simp; done) | simp [go_sem, *]
    have k11w2 : w11.cell? ⟨w3.heap.size, 2, none⟩ = some (.int .i64 s') := by rw [hc11 (w3.heap.size) 2 (by first | omega | (simp; done) | (simp; omega))]; first | assumption | (simp; done) | simp [go_sem, *]
    have k11w3 : w11.cell? ⟨w3.heap.size, 3, none⟩ = some (.slice q1 out.length c1) := by rw [hc11 (w3.heap.size) 3 (by first | omega | (simp; done) | (simp; omega))]; first | assumption | (simp; done) | simp [go_sem, *]
    have k11g0 : w11.cell? ⟨w5.heap.size, 0, none⟩ = some (.int .i64 n') := by rw [hc11 (w5.heap.size) 0 (by first | omega | (simp; done) | (simp; omega))]; first | assumption | (simp; done) | simp [go_sem, *]
    have k11g1 : w11.cell? ⟨w5.heap.size, 1, none⟩ = some (.int .i64 e') := by rw [hc11 (w5.heap.size) 1 (by first | omega | (simp; done) | (simp; omega))]; first | assumption | (simp; done) | simp [go_sem, *]
    have k11g2 : w11.cell? ⟨w5.heap.size, 2, none⟩ = some (.int .i64 s') := by rw [hc11 (w5.heap.size) 2 (by first | omega | (simp; done) | (simp; omega))]; first | assumption | (simp; done) | simp [go_sem, *]
    have k11g3 : w11.cell? ⟨w5.heap.size, 3, none⟩ = some (.slice q5 out.length c5) := by rw [hc11 (w5.heap.size) 3 (by first | omega | (simp; done) | (simp; omega))]; first | assumption | (simp; done) | simp [go_sem, *]
    clear hc11 hf11 k10a0 k10a1 k10a2 k10a3 k10w0 k10w1 k10w2 k10w3 k10g0 k10g1 k10g2 k10g3
    have hB311 : Below w3.heap.size w3 w11 := by (repeat (first | exact Below.refl _ _ | (refine Below.setCell ?_ (by (first | exact Nat.le_refl _ | omega | (simp <;> omega) | simp)) _) | (refine Below.alloc ?_ (by (first | exact Nat.le_refl _ | omega | (simp <;> omega) | simp)) _) | (refine below_draws ?_ _) | exact hB310 | (refine Below.trans ?_ (Below.mono hB310 (by (first | exact Nat.le_refl _ | omega | (simp <;> omega) | simp)))) | exact B11 | (refine Below.trans ?_ (Below.mono B11 (by (first | exact Nat.le_refl _ | omega | (simp <;> omega) | simp))))))
    have hB1011 : Below w10.heap.size w10 w11 := B11
    clear hB310 B11
    go_wp2_with fail
    refine (toNet_any n e s _ ws _ hle (HR.out.later (by (repeat (first | exact Below.refl _ _ | (refine Below.setCell ?_ (by (first | exact Nat.le_refl _ | omega | (simp <;> omega) | simp)) _) | (refine Below.alloc ?_ (by (first | exact Nat.le_refl _ | omega | (simp <;> omega) | simp)) _) | (refine below_draws ?_ _) | exact hB3 | (refine Below.trans ?_ (Below.mono hB3 (by (first | exact Nat.le_refl _ | omega | (simp <;> omega) | simp)))) | exact hB311 | (refine Below.trans ?_ (Below.mono hB311 (by (first | exact Nat.le_refl _ | omega | (simp <;> omega) | simp))))))))).mono ?_
    rintro en w12 ⟨p12, cap12, rfl, o12, B12⟩
    obtain ⟨hc12, hf12⟩ := bcell B12
    have S12 := B12.size
    try simp at S12
    try (have _L12w : w.heap.size < w12.heap.size := by omega)
    have _M12w : w.heap.size ≤ w12.heap.size := by omega
    try (have _P12w_1 : w.heap.size + 1 < w12.heap.size := by omega)
    try (have _P12w_2 : w.heap.size + 1 + 1 < w12.heap.size := by omega)
    try (have _P12w_3 : w.heap.size + 1 + 1 + 1 < w12.heap.size := by omega)
    try (have _L12w3 : w3.heap.size < w12.heap.size := by omega)
    have _M12w3 : w3.heap.size ≤ w12.heap.size := by omega
    try (have _P12w3_1 : w3.heap.size + 1 < w12.heap.size := by omega)
    try (have _P12w3_2 : w3.heap.size + 1 + 1 < w12.heap.size := by omega)
    try (have _P12w3_3 : w3.heap.size + 1 + 1 + 1 < w12.heap.size := by omega)
    try (have _L12w5 : w5.heap.size < w12.heap.size := by omega)
    have _M12w5 : w5.heap.size ≤ w12.heap.size := by omega
    try (have _P12w5_1 : w5.heap.size + 1 < w12.heap.size := by omega)
    try (have _P12w5_2 : w5.heap.size + 1 + 1 < w12.heap.size := by omega)
    try (have _P12w5_3 : w5.heap.size + 1 + 1 + 1 < w12.heap.size := by omega)
    try (have _L12w10 : w10.heap.size < w12.heap.size := by omega)
    have _M12w10 : w10.heap.size ≤ w12.heap.size := by omega
    try (have _P12w10_1 : w10.heap.size + 1 < w12.heap.size := by omega)
    try (have _P12w10_2 : w10.heap.size + 1 + 1 < w12.heap.size := by omega)
    try (have _P12w10_3 : w10.heap.size + 1 + 1 + 1 < w12.heap.size := by omega)
    try (have _L12w11 : w11.heap.size < w12.heap.size := by omega)
    have _M12w11 : w11.heap.size ≤ w12.heap.size := by omega
    try (have _P12w11_1 : w11.heap.size + 1 < w12.heap.size := by omega)
    try (have _P12w11_2 : w11.heap.size + 1 + 1 < w12.heap.size := by omega)
    try (have _P12w11_3 : w11.heap.size + 1 + 1 + 1 < w12.heap.size := by omega)
    have k12a0 : w12.cell? ⟨w.heap.size, 0, none⟩ = some (.int .i64 n) := by rw [hc12 (w.heap.size) 0 (by first | omega | (simp; done) | (simp; omega))]; first | assumption | (simp; done) | simp [go_sem, *]
    have k12a1 : w12.cell? ⟨w.heap.size, 1, none⟩ = some (.int .i64 e) := by rw [hc12 (w.heap.size) 1 (by first | omega | (simp; done) | (simp; omega))]; first | assumption | (simp; done) | simp [go_sem, *]
    have k12a2 : w12.cell? ⟨w.heap.size, 2, none⟩ = some (.int .i64 s) := by rw [hc12 (w.heap.size) 2 (by first | omega | (simp; done) | (simp; omega))]; first | assumption | (simp; done) | simp [go_sem, *]
    have k12a3 : w12.cell? ⟨w.heap.size, 3, none⟩ = some (.slice p ws.length cap) := by rw [hc12 (w.heap.size) 3 (by first | omega | (simp; done) | (simp; omega))]; first | assumption | (simp; done) | simp [go_sem, *]
    have k12w0 : w12.cell? ⟨w3.heap.size, 0, none⟩ = some (.int .i64 n') := by rw [hc12 (w3.heap.size) 0 (by first | omega | (simp; done) | (simp; omega))]; first | assumption | (simp; done) | simp [go_sem, *]
    have k12w1 : w12.cell? ⟨w3.heap.size, 1, none⟩ = some (.int .i64 e') := by rw [hc12 (w3.heap.size) 1 (by first | omega | (simp; done) | (simp; omega))]; first | assumption | (simp; done) | simp [go_sem, *]
    have k12w2 : w12.cell? ⟨w3.heap.size, 2, none⟩ = some (.int .i64 s') := by rw [hc12 (w3.heap.size) 2 (by first | omega | (simp; done) | (simp; omega))]; first | assumption | (simp; done) | simp [go_sem, *]
    have k12w3 : w12.cell? ⟨w3.heap.size, 3, none⟩ = some (.slice q1 out.length c1) := by rw [hc12 (w3.heap.size) 3 (by first | omega | (simp; done) | (simp; omega))]; first | assumption | (simp; done) | simp [go_sem, *]
    have k12g0 : w12.cell? ⟨w5.heap.size, 0, none⟩ = some (.int .i64 n') := by rw [hc12 (w5.heap.size) 0 (by first | omega | (simp; done) | (simp; omega))]; first | assumption | (simp; done) | simp [go_sem, *]
    have k12g1 : w12.cell? ⟨w5.heap.size, 1, none⟩ = some (.int .i64 e') := by rw [hc12 (w5.heap.size) 1 (by first | omega | (simp; done) | (simp; omega))]; first | assumption | (simp; done) | simp [go_sem, *]
    have k12g2 : w12.cell? ⟨w5.heap.size, 2, none⟩ = some (.int .i64 s') := by rw [hc12 (w5.heap.size) 2 (by first | omega | (simp; done) | (simp; omega))]; first | assumption | (simp; done) | simp [go_sem, *]
    have k12g3 : w12.cell? ⟨w5.heap.size, 3, none⟩ = some (.slice q5 out.length c5) := by rw [hc12 (w5.heap.size) 3 (by first | omega | (simp; done) | (simp; omega))]; first | assumption | (simp; done) | simp [go_sem, *]
    clear hc12 hf12 k11a0 k11a1 k11a2 k11a3 k11w0 k11w1 k11w2 k11w3 k11g0 k11g1 k11g2 k11g3
    go_wp2_with fail
    refine (HIM.out _ _ (ReadsW.of_own o12)).mono ?_
    rintro en w13 ⟨q13, c13, rfl, o13, B13⟩
    clear o12
    obtain ⟨hc13, hf13⟩ := bcell B13
    have S13 := B13.size
    try simp at S13
    try (have _L13w : w.heap.size < w13.heap.size := by omega)
    have _M13w : w.heap.size ≤ w13.heap.size := by omega
    try (have _P13w_1 : w.heap.size + 1 < w13.heap.size := by omega)
    try (have _P13w_2 : w.heap.size + 1 + 1 < w13.heap.size := by omega)
    try (have _P13w_3 : w.heap.size + 1 + 1 + 1 < w13.heap.size := by omega)
    try (have _L13w3 : w3.heap.size < w13.heap.size := by omega)
    have _M13w3 : w3.heap.size ≤ w13.heap.size := by omega
    try (have _P13w3_1 : w3.heap.size + 1 < w13.heap.size := by omega)
    try (have _P13w3_2 : w3.heap.size + 1 + 1 < w13.heap.size := by omega)
    try (have _P13w3_3 : w3.heap.size + 1 + 1 + 1 < w13.heap.size := by omega)
    try (have _L13w5 : w5.heap.size < w13.heap.size := by omega)
    have _M13w5 : w5.heap.size ≤ w13.heap.size := by omega
    try (have _P13w5_1 : w5.heap.size + 1 < w13.heap.size := by omega)
    try (have _P13w5_2 : w5.heap.size + 1 + 1 < w13.heap.size := by omega)
    try (have _P13w5_3 : w5.heap.size + 1 + 1 + 1 < w13.heap.size := by omega)
    try (have _L13w10 : w10.heap.size < w13.heap.size := by omega)
    have _M13w10 : w10.heap.size ≤ w13.heap.size := by omega
    try (have _P13w10_1 : w10.heap.size + 1 < w13.heap.size := by omega)
    try (have _P13w10_2 : w10.heap.size + 1 + 1 < w13.heap.size := by omega)
    try (have _P13w10_3 : w10.heap.size + 1 + 1 + 1 < w13.heap.size := by omega)
    try (have _L13w11 : w11.heap.size < w13.heap.size := by omega)
    have _M13w11 : w11.heap.size ≤ w13.heap.size := by omega
    try (have _P13w11_1 : w11.heap.size + 1 < w13.heap.size := by omega)
    try (have _P13w11_2 : w11.heap.size + 1 + 1 < w13.heap.size := by omega)
    try (have _P13w11_3 : w11.heap.size + 1 + 1 + 1 < w13.heap.size := by omega)
    try (have _L13w12 : w12.heap.size < w13.heap.size := by omega)
    have _M13w12 : w12.heap.size ≤ w13.heap.size := by omega
    try (have _P13w12_1 : w12.heap.size + 1 < w13.heap.size := by omega)
    try (have _P13w12_2 : w12.heap.size + 1 + 1 < w13.heap.size := by omega)
    try (have _P13w12_3 : w12.heap.size + 1 + 1 + 1 < w13.heap.size := by omega)
    have k13a0 : w13.cell? ⟨w.heap.size, 0, none⟩ = some (.int .i64 n) := by rw [hc13 (w.heap.size) 0 (by first | omega | (simp; done) | (simp; omega))]; first | assumption | (simp; done) | simp [go_sem, *]
    have k13a1 : w13.cell? ⟨w.heap.size, 1, none⟩ = some (.int .i64 e) := by rw [hc13 (w.heap.size) 1 (by first | omega | (simp; done) | (simp; omega))]; first | assumption | (simp; done) | simp [go_sem, *]
    have k13a2 : w13.cell? ⟨w.heap.size, 2, none⟩ = some (.int .i64 s) := by rw [hc13 (w.heap.size) 2 (by first | omega | (simp; done) | (simp; omega))]; first | assumption | (simp; done) | simp [go_sem, *]
    have k13a3 : w13.cell? ⟨w.heap.size, 3, none⟩ = some (.slice p ws.length cap) := by rw [hc13 (w.heap.size) 3 (by first | omega | (simp; done) | (simp; omega))]; first | assumption | (simp; done) | simp [go_sem, *]
    have k13w0 : w13.cell? ⟨w3.heap.size, 0, none⟩ = some (.int .i64 n') := by rw [hc13 (w3.heap.size) 0 (by first | omega | (simp; done) | (simp; omega))]; first | assumption | (simp; done) | simp [go_sem, *]
    have k13w1 : w13.cell? ⟨w3.heap.size, 1, none⟩ = some (.int .i64 e') := by rw [hc13 (w3.heap.size) 1 (by first | omega | (simp; done) | (simp; omega))]; first | assumption | (simp; done) | simp [go_sem, *]
    have k13w2 : w13.cell? ⟨w3.heap.size, 2, none⟩ = some (.int .i64 s') := by rw [hc13 (w3.heap.size) 2 (by first | omega | (simp; done) | (simp; omega))]; first | assumption | (simp; done) | simp [go_sem, *]
    have k13w3 : w13.cell? ⟨w3.heap.size, 3, none⟩ = some (.slice q1 out.length c1) := by rw [hc13 (w3.heap.size) 3 (by first | omega | (simp; done) | (simp; omega))]; first | assumption | (simp; done) | simp [go_sem, *]
    have k13g0 : w13.cell? ⟨w5.heap.size, 0, none⟩ = some (.int .i64 n') := by rw [hc13 (w5.heap.size) 0 (by first | omega | (simp; done) | (simp; omega))]; first | assumption | (simp; done) | simp [go_sem, *]
    have k13g1 : w13.cell? ⟨w5.heap.size, 1, none⟩ = some (.int .i64 e') := by rw [hc13 (w5.heap.size) 1 (by first | omega | (simp; done) | (simp; omega))]; first | assumption | (simp; done) | simp [go_sem, *]
    have k13g2 : w13.cell? ⟨w5.heap.size, 2, none⟩ = some (.int .i64 s') := by rw [hc13 (w5.heap.size) 2 (by first | omega | (simp; done) | (simp; omega))]; first | assumption | (simp; done) | simp [go_sem, *]
    have k13g3 : w13.cell? ⟨w5.heap.size, 3, none⟩ = some (.slice q5 out.length c5) := by rw [hc13 (w5.heap.size) 3 (by first | omega | (simp; done) | (simp; omega))]; first | assumption | (simp; done) | simp [go_sem, *]
    clear hc13 hf13 k12a0 k12a1 k12a2 k12a3 k12w0 k12w1 k12w2 k12w3 k12g0 k12g1 k12g2 k12g3
    go_wp2_with fail
    refine (eqNet_same n' e' s' _ _ out _ ((ReadsW.of_own o13).later (by (repeat (first | exact Below.refl _ _ | (refine Below.setCell ?_ (by (first | exact Nat.le_refl _ | omega | (simp <;> omega) | simp)) _) | (refine Below.alloc ?_ (by (first | exact Nat.le_refl _ | omega | (simp <;> omega) | simp)) _) | (refine below_draws ?_ _))))) ((ReadsW.of_own O3.out).later (by (repeat (first | exact Below.refl _ _ | (refine Below.setCell ?_ (by (first | exact Nat.le_refl _ | omega | (simp <;> omega) | simp)) _) | (refine Below.alloc ?_ (by (first | exact Nat.le_refl _ | omega | (simp <;> omega) | simp)) _) | (refine below_draws ?_ _) | exact hB311 | (refine Below.trans ?_ (Below.mono hB311 (by (first | exact Nat.le_refl _ | omega | (simp <;> omega) | simp)))) | exact B12 | (refine Below.trans ?_ (Below.mono B12 (by (first | exact Nat.le_refl _ | omega | (simp <;> omega) | simp)))) | exact B13 | (refine Below.trans ?_ (Below.mono B13 (by (first | exact Nat.le_refl _ | omega | (simp <;> omega) | simp))))))))).mono ?_
    rintro en w14 ⟨rfl, B14⟩
    obtain ⟨hc14, hf14⟩ := bcell B14
    have S14 := B14.size
    try simp at S14
    try (have _L14w : w.heap.size < w14.heap.size := by omega)
    have _M14w : w.heap.size ≤ w14.heap.size := by omega
    try (have _P14w_1 : w.heap.size + 1 < w14.heap.size := by omega)
    try (have _P14w_2 : w.heap.size + 1 + 1 < w14.heap.size := by omega)
    try (have _P14w_3 : w.heap.size + 1 + 1 + 1 < w14.heap.size := by omega)
    try (have _L14w3 : w3.heap.size < w14.heap.size := by omega)
    have _M14w3 : w3.heap.size ≤ w14.heap.size := by omega
    try (have _P14w3_1 : w3.heap.size + 1 < w14.heap.size := by omega)
    try (have _P14w3_2 : w3.heap.size + 1 + 1 < w14.heap.size := by omega)
    try (have _P14w3_3 : w3.heap.size + 1 + 1 + 1 < w14.heap.size := by omega)
    try (have _L14w5 : w5.heap.size < w14.heap.size := by omega)
    have _M14w5 : w5.heap.size ≤ w14.heap.size := by omega
    try (have _P14w5_1 : w5.heap.size + 1 < w14.heap.size := by omega)
    try (have _P14w5_2 : w5.heap.size + 1 + 1 < w14.heap.size := by omega)
    try (have _P14w5_3 : w5.heap.size + 1 + 1 + 1 < w14.heap.size := by omega)
    try (have _L14w10 : w10.heap.size < w14.heap.size := by omega)
    have _M14w10 : w10.heap.size ≤ w14.heap.size := by omega
    try (have _P14w10_1 : w10.heap.size + 1 < w14.heap.size := by omega)
    try (have _P14w10_2 : w10.heap.size + 1 + 1 < w14.heap.size := by omega)
    try (have _P14w10_3 : w10.heap.size + 1 + 1 + 1 < w14.heap.size := by omega)
    try (have _L14w11 : w11.heap.size < w14.heap.size := by omega)
    have _M14w11 : w11.heap.size ≤ w14.heap.size := by omega
    try (have _P14w11_1 : w11.heap.size + 1 < w14.heap.size := by omega)
    try (have _P14w11_2 : w11.heap.size + 1 + 1 < w14.heap.size := by omega)
    try (have _P14w11_3 : w11.heap.size + 1 + 1 + 1 < w14.heap.size := by omega)
    try (have _L14w12 : w12.heap.size < w14.heap.size := by omega)
    have _M14w12 : w12.heap.size ≤ w14.heap.size := by omega
    try (have _P14w12_1 : w12.heap.size + 1 < w14.heap.size := by omega)
    try (have _P14w12_2 : w12.heap.size + 1 + 1 < w14.heap.size := by omega)
    try (have _P14w12_3 : w12.heap.size + 1 + 1 + 1 < w14.heap.size := by omega)
    try (have _L14w13 : w13.heap.size < w14.heap.size := by omega)
    have _M14w13 : w13.heap.size ≤ w14.heap.size := by omega
    try (have _P14w13_1 : w13.heap.size + 1 < w14.heap.size := by omega)
    try (have _P14w13_2 : w13.heap.size + 1 + 1 < w14.heap.size := by omega)
    try (have _P14w13_3 : w13.heap.size + 1 + 1 + 1 < w14.heap.size := by omega)
    have k14a0 : w14.cell? ⟨w.heap.size, 0, none⟩ = some (.int .i64 n) := by rw [hc14 (w.heap.size) 0 (by first | omega | (simp; done) | (simp; omega))]; first | assumption | (simp; done) | simp [go_sem, *]
    have k14a1 : w14.cell? ⟨w.heap.size, 1, none⟩ = some (.int .i64 e) := by rw [hc14 (w.heap.size) 1 (by first | omega | (simp; done) | (simp; omega))]; first | assumption | (simp; done) | simp [go_sem, *]
    have k14a2 : w14.cell? ⟨w.heap.size, 2, none⟩ = some (.int .i64 s) := by rw [hc14 (w.heap.size) 2 (by first | omega | (simp; done) | (simp; omega))]; first | assumption | (simp; done) | simp [go_sem, *]
    have k14a3 : w14.cell? ⟨w.heap.size, 3, none⟩ = some (.slice p ws.length cap) := by rw [hc14 (w.heap.size) 3 (by first | omega | (simp; done) | (simp; omega))]; first | assumption | (simp; done) | simp [go_sem, *]
    have k14g0 : w14.cell? ⟨w5.heap.size, 0, none⟩ = some (.int .i64 n') := by rw [hc14 (w5.heap.size) 0 (by first | omega | (simp; done) | (simp; omega))]; first | assumption | (simp; done) | simp [go_sem, *]
    have k14g1 : w14.cell? ⟨w5.heap.size, 1, none⟩ = some (.int .i64 e') := by rw [hc14 (w5.heap.size) 1 (by first | omega | (simp; done) | (simp; omega))]; first | assumption | (simp; done) | simp [go_sem, *]
    have k14g2 : w14.cell? ⟨w5.heap.size, 2, none⟩ = some (.int .i64 s') := by rw [hc14 (w5.heap.size) 2 (by first | omega | (simp; done) | (simp; omega))]; first | assumption | (simp; done) | simp [go_sem, *]
    have k14g3 : w14.cell? ⟨w5.heap.size, 3, none⟩ = some (.slice q5 out.length c5) := by rw [hc14 (w5.heap.size) 3 (by first | omega | (simp; done) | (simp; omega))]; first | assumption | (simp; done) | simp [go_sem, *]
    clear hc14 hf14 k13a0 k13a1 k13a2 k13a3 k13w0 k13w1 k13w2 k13w3 k13g0 k13g1 k13g2 k13g3
    have hB1014 : Below w10.heap.size w10 w14 := by (repeat (first | exact Below.refl _ _ | (refine Below.setCell ?_ (by (first | exact Nat.le_refl _ | omega | (simp <;> omega) | simp)) _) | (refine Below.alloc ?_ (by (first | exact Nat.le_refl _ | omega | (simp <;> omega) | simp)) _) | (refine below_draws ?_ _) | exact hB1011 | (refine Below.trans ?_ (Below.mono hB1011 (by (first | exact Nat.le_refl _ | omega | (simp <;> omega) | simp)))) | exact B12 | (refine Below.trans ?_ (Below.mono B12 (by (first | exact Nat.le_refl _ | omega | (simp <;> omega) | simp)))) | exact B13 | (refine Below.trans ?_ (Below.mono B13 (by (first | exact Nat.le_refl _ | omega | (simp <;> omega) | simp)))) | exact B14 | (refine Below.trans ?_ (Below.mono B14 (by (first | exact Nat.le_refl _ | omega | (simp <;> omega) | simp))))))
    have hB314 : Below w3.heap.size w3 w14 := by (repeat (first | exact Below.refl _ _ | (refine Below.setCell ?_ (by (first | exact Nat.le_refl _ | omega | (simp <;> omega) | simp)) _) | (refine Below.alloc ?_ (by (first | exact Nat.le_refl _ | omega | (simp <;> omega) | simp)) _) | (refine below_draws ?_ _) | exact hB311 | (refine Below.trans ?_ (Below.mono hB311 (by (first | exact Nat.le_refl _ | omega | (simp <;> omega) | simp)))) | exact B12 | (refine Below.trans ?_ (Below.mono B12 (by (first | exact Nat.le_refl _ | omega | (simp <;> omega) | simp)))) | exact B13 | (refine Below.trans ?_ (Below.mono B13 (by (first | exact Nat.le_refl _ | omega | (simp <;> omega) | simp)))) | exact B14 | (refine Below.trans ?_ (Below.mono B14 (by (first | exact Nat.le_refl _ | omega | (simp <;> omega) | simp))))))
    clear hB311 B12 B13 B14 o13 hB1011
    go_wp2_with fail
    refine (heldNet_at 1 n' e' s' q5 c5 out.length 1 _ rfl (by omega) (by omega) ((ReadsW.of_own' O10.out).later hB1014)).mono ?_
    rintro en w15 ⟨rfl, B15⟩
    obtain ⟨hc15, hf15⟩ := bcell B15
    have S15 := B15.size
    try simp at S15
    try (have _L15w : w.heap.size < w15.heap.size := by omega)
    have _M15w : w.heap.size ≤ w15.heap.size := by omega
    try (have _P15w_1 : w.heap.size + 1 < w15.heap.size := by omega)
    try (have _P15w_2 : w.heap.size + 1 + 1 < w15.heap.size := by omega)
    try (have _P15w_3 : w.heap.size + 1 + 1 + 1 < w15.heap.size := by omega)
    try (have _L15w3 : w3.heap.size < w15.heap.size := by omega)
    have _M15w3 : w3.heap.size ≤ w15.heap.size := by omega
    try (have _P15w3_1 : w3.heap.size + 1 < w15.heap.size := by omega)
    try (have _P15w3_2 : w3.heap.size + 1 + 1 < w15.heap.size := by omega)
    try (have _P15w3_3 : w3.heap.size + 1 + 1 + 1 < w15.heap.size := by omega)
    try (have _L15w14 : w14.heap.size < w15.heap.size := by omega)
    have _M15w14 : w14.heap.size ≤ w15.heap.size := by omega
    try (have _P15w14_1 : w14.heap.size + 1 < w15.heap.size := by omega)
    try (have _P15w14_2 : w14.heap.size + 1 + 1 < w15.heap.size := by omega)
    try (have _P15w14_3 : w14.heap.size + 1 + 1 + 1 < w15.heap.size := by omega)
    go_wp2
    go_ret
    exact ⟨rfl, by (repeat (first | exact Below.refl _ _ | (refine Below.setCell ?_ (by (first | exact Nat.le_refl _ | omega | (simp <;> omega) | simp)) _) | (refine Below.alloc ?_ (by (first | exact Nat.le_refl _ | omega | (simp <;> omega) | simp)) _) | (refine below_draws ?_ _) | exact hB3 | (refine Below.trans ?_ (Below.mono hB3 (by (first | exact Nat.le_refl _ | omega | (simp <;> omega) | simp)))) | exact hB314 | (refine Below.trans ?_ (Below.mono hB314 (by (first | exact Nat.le_refl _ | omega | (simp <;> omega) | simp)))) | exact B15 | (refine Below.trans ?_ (Below.mono B15 (by (first | exact Nat.le_refl _ | omega | (simp <;> omega) | simp))))))⟩

theorem own : ownKnob Try.prog.godebug = none := by kernel_rfl
theorem cells_net : Try.prog.cellsOf 56 = 4 := by kernel_rfl
theorem cells_wire : Try.prog.cellsOf 131 = 3 := by kernel_rfl
theorem laidOut : laidOutB Try.prog = true := by kernel_rfl
set_option maxRecDepth 100000 in
theorem lifted (os : Os) (started : os.Started) (H : Type) (enc : TypeId × Value → H) :
    ReturnsInHanded {} Try.checked os 11 .any (Rows.fnExactCutWireSpec.pre6 enc Try.prog Try.f11 Rows.fnExactCutWireRow.domain false) (Rows.fnExactCutWireSpec.post enc Try.prog Try.f11 false true false false) := by
  refine returnsInHanded_of_change (C := Try.checked) own started (by kernel_rfl) Try.func11
    (ChangeSpec.witness6 (enc := enc) (C := Try.checked) false ⟨#[], #[.agg #[.int .i64 0, .int .i64 0, .int .i64 0, .slice none 0 0], .int .i64 0], []⟩ 8 (by kernel_rfl) (by kernel_rfl) (by kernel_rfl) (by kernel_rfl)) ?_
  intro W base args ds gs before hval0 hW hcnd _
  have hval : ∀ (j : Nat) t v, Try.f11.params[j]? = some t → args[j]? = some v → Value.okWide Try.prog W .any base t v := hval0
  have hW' := hW
  obtain ⟨p, q, hA0, hV, rfl, hfz, hnd⟩ := hW
  have hA : DataW.TrodAll enc Try.prog W 0 (fun _ => true) true Try.f11.params.toList args.toList ds p := hA0
  rw [Try.params11] at hA hval
  obtain ⟨v0, v1, d0, d1, p0, p1, rfl, rfl, rfl, h0, h1⟩ := trodAll_two hA
  obtain ⟨rfl, rfl⟩ := trodVars_none hV
  obtain ⟨c0a, c0b, c0c, c0d, y0a, y0b, y0c, y0d, m0, rfl, rfl, _, hy0a, hy0b, hy0c, hy0d⟩ := Go.Joins.open_agg4 Try.underlying56 (by kernel_rfl) cells_net (hval 0 56 v0 rfl rfl) h0
  obtain ⟨x0a, e0a, _, wx0a⟩ := DataW.trod_int Try.underlying3 hy0a
  simp at e0a
  subst e0a
  obtain ⟨x0b, e0b, _, wx0b⟩ := DataW.trod_int Try.underlying3 hy0b
  simp at e0b
  subst e0b
  obtain ⟨x0c, e0c, _, wx0c⟩ := DataW.trod_int Try.underlying3 hy0c
  simp at e0c
  subst e0c
  obtain ⟨ws0, wr0⟩ := open_wires Try.underlying54 Try.underlying131 (by kernel_rfl) cells_wire rfl rfl rfl Try.underlying3 hy0d
  obtain ⟨x1, rfl, rfl, rfl, wx1⟩ := open_int Try.underlying3 (hval 1 3 v1 rfl rfl) h1
  clear hA0 hval0
  simp only [List.append_nil] at hW'
  refine (walk x0a x0b x0c c0d ws0 x1 W wx0a wx0b wx0c wr0 wx1).mono fun e W' ⟨he, hB⟩ => ?_
  subst he
  refine ⟨_, rfl, _, _, _, [], (p0 ++ ([])), [], hW', ?_, ?_, ?_, hB.frame _, fun h => by cases h⟩
  · exact trodAll_mk1 (shut_bool Try.underlying4 true)
  · exact trodAll_mk2 (Below.trod laidOut (by kernel_rfl) (of_decide_eq_true (by kernel_rfl)) h0 hB (fun x hx => hW'.lt x (by simp [hx]))) (shut_int Try.underlying3 wx1)
  · rfl

theorem q0 : Try.checked.prog.funcNamed Rows.fnExactCutWireRow.func = some 11 := by kernel_rfl
theorem q1 : (Rows.fnExactCutWireRow.inPlace == Try.prog.inPlace 11) = true := by kernel_rfl
theorem q2 : (Rows.fnExactCutWireRow.unfollowed == Try.prog.unfollowed 11) = true := by kernel_rfl
theorem q3 : (Rows.fnExactCutWireRow.recurses == Try.prog.recurses 11) = true := by kernel_rfl
theorem q4 : (Rows.fnExactCutWireRow.named == Try.prog.varsNamed 11) = true := by kernel_rfl
theorem q5 : (Rows.fnExactCutWireRow.plainKeys == Try.prog.plainKeys) = true := by kernel_rfl
theorem q6 : laidOutB Try.prog = true := by kernel_rfl
theorem q7 : mapsRowed Try.prog = true := by kernel_rfl
theorem q8 : namedTie Try.prog Rows.fnExactCutWireRow.named Rows.fnExactCutWireSpec.vars = true := by kernel_rfl
theorem closedFacts : joinedFacts Try.prog 11 Try.f11 Rows.fnExactCutWireSpec Rows.fnExactCutWireRow = true := by
  unfold joinedFacts
  simp only [Bool.and_eq_true]
  repeat' apply And.intro
  all_goals first | with_reducible exact q1 | with_reducible exact q2 | with_reducible exact q3 | with_reducible exact q4 | with_reducible exact q5 | with_reducible exact q6 | with_reducible exact q7 | with_reducible exact q8 | kernel_rfl

theorem holds : Rows.FnExactCutWireSaid :=
  OpenClaim.holds_of_wide 11 Try.f11 rfl rfl rfl rfl rfl rfl rfl ⟨rfl, rfl, rfl, rfl, rfl⟩ rfl rfl rfl rfl rfl q0 Try.func11 closedFacts
    (of_decide_eq_true (by kernel_rfl)) (by unfold Func.isWrapper; first | (rw [if_pos (by decide +kernel)]; kernel_rfl) | (rw [if_neg (by decide +kernel)]; exact ⟨rfl, rfl⟩))
    (fun os started H enc _ => lifted os started H enc)
end CutWireLaw
end Go.Proofs.Ytaececpphdaciaa
