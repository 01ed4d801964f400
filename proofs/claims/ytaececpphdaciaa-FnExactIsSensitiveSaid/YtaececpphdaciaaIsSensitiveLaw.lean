/-
  FnExactIsSensitive: for every network, valid or not, and every two nodes and number of a wire the reference model and the program give the same answer to IsSensitive, and the network is not changed. No condition.
-/
import Derived.Test.YtaececpphdaciaaRows
import Derived.Test.YtaececpphdaciaaSens
import Derived.Test.YtaececpphdaciaaGNet
import Derived.Test.YtaececpphdaciaaLeaves
namespace Go.Proofs.Ytaececpphdaciaa
open Go.ChangeShapes Go.WideShapes Go.ChangeAt Go.RowKit

namespace IsSensitiveLaw
set_option maxRecDepth 8000 in
set_option maxHeartbeats 12800000 in
theorem walk (n e s : Int) (v : Value) (ws : List W3) (x1 : Int) (x2 : Int) (x3 : Int) (w : World) (_hn : (Lit.int .i64 n).wf = true) (_he : (Lit.int .i64 e).wf = true) (_hs : (Lit.int .i64 s).wf = true) (hr : ReadsW w v ws) (_hx1 : (Lit.int .i64 x1).wf = true) (_hx2 : (Lit.int .i64 x2).wf = true) (_hx3 : (Lit.int .i64 x3).wf = true) :
    Calls Try.prog 10 #[.agg #[.int .i64 n, .int .i64 e, .int .i64 s, v], .int .i64 x1, .int .i64 x2, .int .i64 x3] w fun en w' => en = .returned (.bool true) ∧ Below w.heap.size w w' := by
  have B0 := (Below.refl w.heap.size w).alloc (Nat.le_refl _) (.cells #[.int .i64 n, .int .i64 e, .int .i64 s, v] 56)
  have hsz := szNet_any n e s v ws 1048576 _ (by omega) (by omega) (hr.later B0)
  obtain ⟨p, cap, rfl⟩ := hr.shape
  have HR := Lib.hid hr; clear hr
  clear B0
  by_cases hneg : szW 1048576 ws < 0
  · go_enter Try.func10, Try.ntmps10
    go_wp2_with fail
    refine hsz.mono ?_
    rintro en w1 ⟨rfl, B1⟩
    obtain ⟨hc1, hf1⟩ := bcell B1
    have S1 := B1.size
    try simp at S1
    try (have _L1w : w.heap.size < w1.heap.size := by omega)
    have _M1w : w.heap.size ≤ w1.heap.size := by omega
    try (have _P1w_1 : w.heap.size + 1 < w1.heap.size := by omega)
    try (have _P1w_2 : w.heap.size + 1 + 1 < w1.heap.size := by omega)
    try (have _P1w_3 : w.heap.size + 1 + 1 + 1 < w1.heap.size := by omega)
    go_wp2
    go_ret
    exact ⟨rfl, by (repeat (first | exact Below.refl _ _ | (refine Below.setCell ?_ (by (first | exact Nat.le_refl _ | omega | (simp <;> omega) | simp)) _) | (refine Below.alloc ?_ (by (first | exact Nat.le_refl _ | omega | (simp <;> omega) | simp)) _) | (refine below_draws ?_ _) | exact B1 | (refine Below.trans ?_ (Below.mono B1 (by (first | exact Nat.le_refl _ | omega | (simp <;> omega) | simp))))))⟩
  have hle : ws.length ≤ 1048576 := by unfold szW at hneg; split at hneg <;> omega
  obtain ⟨d, hd⟩ : ∃ d, sensB n e s ws x1 x2 x3 = d := ⟨_, rfl⟩
  have hSP : ∀ (W : World) (v : Value), ReadsW W v ws → Calls Try.prog 46 #[.agg #[.int .i64 n, .int .i64 e, .int .i64 s, v], .int .i64 x1, .int .i64 x2, .int .i64 x3] W fun en w' => en = .returned (.bool d) ∧ Below W.heap.size W w' := fun W v h => by
    have h9 := spec_sens n e s x1 x2 x3 v ws W h hle
    rw [hd] at h9
    exact h9
  have HSP := Lib.hid hSP; clear hSP
  have hIP : ∀ (W : World) (v : Value), ReadsW W v ws → Calls Try.prog 47 #[.agg #[.int .i64 n, .int .i64 e, .int .i64 s, v], .int .i64 x1, .int .i64 x2, .int .i64 x3] W fun en w' => en = .returned (.bool d) ∧ Below W.heap.size W w' := fun W v h => by
    have h9 := impl_sens n e s x1 x2 x3 v ws W h
    rw [hd] at h9
    exact h9
  have HIP := Lib.hid hIP; clear hIP
  clear hd
  go_enter Try.func10, Try.ntmps10
  go_wp2_with fail
  refine hsz.mono ?_
  rintro en w1 ⟨rfl, B1⟩
  clear hsz
  obtain ⟨hc1, hf1⟩ := bcell B1
  have S1 := B1.size
  try simp at S1
  try (have _L1w : w.heap.size < w1.heap.size := by omega)
  have _M1w : w.heap.size ≤ w1.heap.size := by omega
  try (have _P1w_1 : w.heap.size + 1 < w1.heap.size := by omega)
  try (have _P1w_2 : w.heap.size + 1 + 1 < w1.heap.size := by omega)
  try (have _P1w_3 : w.heap.size + 1 + 1 + 1 < w1.heap.size := by omega)
  have _ : w1.cell? ⟨w.heap.size, 0, none⟩ = some (.int .i64 n) := by rw [hc1 (w.heap.size) 0 (by first | omega | (simp; done) | (simp; omega))]; first | assumption | (simp; done) | simp [go_sem, *]
  have _ : w1.frozen? ⟨w.heap.size, 0, none⟩ = false := by rw [hf1 (w.heap.size) 0 (by first | omega | (simp; done) | (simp; omega))]; first | assumption | (simp; done) | simp [go_sem, *]
  have _ : w1.cell? ⟨w.heap.size, 1, none⟩ = some (.int .i64 e) := by rw [hc1 (w.heap.size) 1 (by first | omega | (simp; done) | (simp; omega))]; first | assumption | (simp; done) | simp [go_sem, *]
  have _ : w1.frozen? ⟨w.heap.size, 1, none⟩ = false := by rw [hf1 (w.heap.size) 1 (by first | omega | (simp; done) | (simp; omega))]; first | assumption | (simp; done) | simp [go_sem, *]
  have _ : w1.cell? ⟨w.heap.size, 2, none⟩ = some (.int .i64 s) := by rw [hc1 (w.heap.size) 2 (by first | omega | (simp; done) | (simp; omega))]; first | assumption | (simp; done) | simp [go_sem, *]
  have _ : w1.frozen? ⟨w.heap.size, 2, none⟩ = false := by rw [hf1 (w.heap.size) 2 (by first | omega | (simp; done) | (simp; omega))]; first | assumption | (simp; done) | simp [go_sem, *]
  have _ : w1.cell? ⟨w.heap.size, 3, none⟩ = some (.slice p ws.length cap) := by rw [hc1 (w.heap.size) 3 (by first | omega | (simp; done) | (simp; omega))]; first | assumption | (simp; done) | simp [go_sem, *]
  have _ : w1.frozen? ⟨w.heap.size, 3, none⟩ = false := by rw [hf1 (w.heap.size) 3 (by first | omega | (simp; done) | (simp; omega))]; first | assumption | (simp; done) | simp [go_sem, *]
  clear hc1 hf1
  have C1 : Below w.heap.size w w1 := by (repeat (first | exact Below.refl _ _ | (refine Below.setCell ?_ (by (first | exact Nat.le_refl _ | omega | (simp <;> omega) | simp)) _) | (refine Below.alloc ?_ (by (first | exact Nat.le_refl _ | omega | (simp <;> omega) | simp)) _) | (refine below_draws ?_ _) | exact B1 | (refine Below.trans ?_ (Below.mono B1 (by (first | exact Nat.le_refl _ | omega | (simp <;> omega) | simp))))))
  go_wp2_with fail
  refine (toNet_any n e s _ ws _ hle (HR.out.later C1)).mono ?_
  rintro en w2 ⟨p2, cap2, rfl, o2, B2⟩
  obtain ⟨hc2, hf2⟩ := bcell B2
  have S2 := B2.size
  try simp at S2
  try (have _L2w : w.heap.size < w2.heap.size := by omega)
  have _M2w : w.heap.size ≤ w2.heap.size := by omega
  try (have _P2w_1 : w.heap.size + 1 < w2.heap.size := by omega)
  try (have _P2w_2 : w.heap.size + 1 + 1 < w2.heap.size := by omega)
  try (have _P2w_3 : w.heap.size + 1 + 1 + 1 < w2.heap.size := by omega)
  try (have _L2w1 : w1.heap.size < w2.heap.size := by omega)
  have _M2w1 : w1.heap.size ≤ w2.heap.size := by omega
  try (have _P2w1_1 : w1.heap.size + 1 < w2.heap.size := by omega)
  try (have _P2w1_2 : w1.heap.size + 1 + 1 < w2.heap.size := by omega)
  try (have _P2w1_3 : w1.heap.size + 1 + 1 + 1 < w2.heap.size := by omega)
  have _ : w2.cell? ⟨w.heap.size, 0, none⟩ = some (.int .i64 n) := by rw [hc2 (w.heap.size) 0 (by first | omega | (simp; done) | (simp; omega))]; first | assumption | (simp; done) | simp [go_sem, *]
  have _ : w2.frozen? ⟨w.heap.size, 0, none⟩ = false := by rw [hf2 (w.heap.size) 0 (by first | omega | (simp; done) | (simp; omega))]; first | assumption | (simp; done) | simp [go_sem, *]
  have _ : w2.cell? ⟨w.heap.size, 1, none⟩ = some (.int .i64 e) := by rw [hc2 (w.heap.size) 1 (by first | omega | (simp; done) | (simp; omega))]; first | assumption | (simp; done) | simp [go_sem, *]
  have _ : w2.frozen? ⟨w.heap.size, 1, none⟩ = false := by rw [hf2 (w.heap.size) 1 (by first | omega | (simp; done) | (simp; omega))]; first | assumption | (simp; done) | simp [go_sem, *]
  have _ : w2.cell? ⟨w.heap.size, 2, none⟩ = some (.int .i64 s) := by rw [hc2 (w.heap.size) 2 (by first | omega | (simp; done) | (simp; omega))]; first | assumption | (simp; done) | simp [go_sem, *]
  have _ : w2.frozen? ⟨w.heap.size, 2, none⟩ = false := by rw [hf2 (w.heap.size) 2 (by first | omega | (simp; done) | (simp; omega))]; first | assumption | (simp; done) | simp [go_sem, *]
  have _ : w2.cell? ⟨w.heap.size, 3, none⟩ = some (.slice p ws.length cap) := by rw [hc2 (w.heap.size) 3 (by first | omega | (simp; done) | (simp; omega))]; first | assumption | (simp; done) | simp [go_sem, *]
  have _ : w2.frozen? ⟨w.heap.size, 3, none⟩ = false := by rw [hf2 (w.heap.size) 3 (by first | omega | (simp; done) | (simp; omega))]; first | assumption | (simp; done) | simp [go_sem, *]
  clear hc2 hf2
  have C2 : Below w.heap.size w w2 := C1.trans (B2.mono C1.size)
  have rn2 := ReadsW.of_own o2
  clear o2
  go_wp2_with fail
  refine (HSP.out _ _ rn2).mono ?_
  rintro en w3 ⟨rfl, B3⟩
  obtain ⟨hc3, hf3⟩ := bcell B3
  have S3 := B3.size
  try simp at S3
  try (have _L3w : w.heap.size < w3.heap.size := by omega)
  have _M3w : w.heap.size ≤ w3.heap.size := by omega
  try (have _P3w_1 : w.heap.size + 1 < w3.heap.size := by omega)
  try (have _P3w_2 : w.heap.size + 1 + 1 < w3.heap.size := by omega)
  try (have _P3w_3 : w.heap.size + 1 + 1 + 1 < w3.heap.size := by omega)
  try (have _L3w1 : w1.heap.size < w3.heap.size := by omega)
  have _M3w1 : w1.heap.size ≤ w3.heap.size := by omega
  try (have _P3w1_1 : w1.heap.size + 1 < w3.heap.size := by omega)
  try (have _P3w1_2 : w1.heap.size + 1 + 1 < w3.heap.size := by omega)
  try (have _P3w1_3 : w1.heap.size + 1 + 1 + 1 < w3.heap.size := by omega)
  try (have _L3w2 : w2.heap.size < w3.heap.size := by omega)
  have _M3w2 : w2.heap.size ≤ w3.heap.size := by omega
  try (have _P3w2_1 : w2.heap.size + 1 < w3.heap.size := by omega)
  try (have _P3w2_2 : w2.heap.size + 1 + 1 < w3.heap.size := by omega)
  try (have _P3w2_3 : w2.heap.size + 1 + 1 + 1 < w3.heap.size := by omega)
  have _ : w3.cell? ⟨w.heap.size, 0, none⟩ = some (.int .i64 n) := by rw [hc3 (w.heap.size) 0 (by first | omega | (simp; done) | (simp; omega))]; first | assumption | (simp; done) | simp [go_sem, *]
  have _ : w3.frozen? ⟨w.heap.size, 0, none⟩ = false := by rw [hf3 (w.heap.size) 0 (by first | omega | (simp; done) | (simp; omega))]; first | assumption | (simp; done) | simp [go_sem, *]
  have _ : w3.cell? ⟨w.heap.size, 1, none⟩ = some (.int .i64 e) := by rw [hc3 (w.heap.size) 1 (by first | omega | (simp; done) | (simp; omega))]; first | assumption | (simp; done) | simp [go_sem, *]
  have _ : w3.frozen? ⟨w.heap.size, 1, none⟩ = false := by rw [hf3 (w.heap.size) 1 (by first | omega | (simp; done) | (simp; omega))]; first | assumption | (simp; done) | simp [go_sem, *]
  have _ : w3.cell? ⟨w.heap.size, 2, none⟩ = some (.int .i64 s) := by rw [hc3 (w.heap.size) 2 (by first | omega | (simp; done) | (simp; omega))]; first | assumption | (simp; done) | simp [go_sem, *]
  have _ : w3.frozen? ⟨w.heap.size, 2, none⟩ = false := by rw [hf3 (w.heap.size) 2 (by first | omega | (simp; done) | (simp; omega))]; first | assumption | (simp; done) | simp [go_sem, *]
  have _ : w3.cell? ⟨w.heap.size, 3, none⟩ = some (.slice p ws.length cap) := by rw [hc3 (w.heap.size) 3 (by first | omega | (simp; done) | (simp; omega))]; first | assumption | (simp; done) | simp [go_sem, *]
  have _ : w3.frozen? ⟨w.heap.size, 3, none⟩ = false := by rw [hf3 (w.heap.size) 3 (by first | omega | (simp; done) | (simp; omega))]; first | assumption | (simp; done) | simp [go_sem, *]
  clear hc3 hf3
  have C3 : Below w.heap.size w w3 := C2.trans (B3.mono C2.size)
  replace rn2 := rn2.later B3
  clear rn2
  go_wp2_with fail
  refine (toNet_any n e s _ ws _ hle (HR.out.later C3)).mono ?_
  rintro en w4 ⟨p4, cap4, rfl, o4, B4⟩
  obtain ⟨hc4, hf4⟩ := bcell B4
  have S4 := B4.size
  try simp at S4
  try (have _L4w : w.heap.size < w4.heap.size := by omega)
  have _M4w : w.heap.size ≤ w4.heap.size := by omega
  try (have _P4w_1 : w.heap.size + 1 < w4.heap.size := by omega)
  try (have _P4w_2 : w.heap.size + 1 + 1 < w4.heap.size := by omega)
  try (have _P4w_3 : w.heap.size + 1 + 1 + 1 < w4.heap.size := by omega)
  try (have _L4w1 : w1.heap.size < w4.heap.size := by omega)
  have _M4w1 : w1.heap.size ≤ w4.heap.size := by omega
  try (have _P4w1_1 : w1.heap.size + 1 < w4.heap.size := by omega)
  try (have _P4w1_2 : w1.heap.size + 1 + 1 < w4.heap.size := by omega)
  try (have _P4w1_3 : w1.heap.size + 1 + 1 + 1 < w4.heap.size := by omega)
  try (have _L4w2 : w2.heap.size < w4.heap.size := by omega)
  have _M4w2 : w2.heap.size ≤ w4.heap.size := by omega
  try (have _P4w2_1 : w2.heap.size + 1 < w4.heap.size := by omega)
  try (have _P4w2_2 : w2.heap.size + 1 + 1 < w4.heap.size := by omega)
  try (have _P4w2_3 : w2.heap.size + 1 + 1 + 1 < w4.heap.size := by omega)
  try (have _L4w3 : w3.heap.size < w4.heap.size := by omega)
  have _M4w3 : w3.heap.size ≤ w4.heap.size := by omega
  try (have _P4w3_1 : w3.heap.size + 1 < w4.heap.size := by omega)
  try (have _P4w3_2 : w3.heap.size + 1 + 1 < w4.heap.size := by omega)
  try (have _P4w3_3 : w3.heap.size + 1 + 1 + 1 < w4.heap.size := by omega)
  have _ : w4.cell? ⟨w.heap.size, 0, none⟩ = some (.int .i64 n) := by rw [hc4 (w.heap.size) 0 (by first | omega | (simp; done) | (simp; omega))]; first | assumption | (simp; done) | simp [go_sem, *]
  have _ : w4.frozen? ⟨w.heap.size, 0, none⟩ = false := by rw [hf4 (w.heap.size) 0 (by first | omega | (simp; done) | (simp; omega))]; first | assumption | (simp; done) | simp [go_sem, *]
  have _ : w4.cell? ⟨w.heap.size, 1, none⟩ = some (.int .i64 e) := by rw [hc4 (w.heap.size) 1 (by first | omega | (simp; done) | (simp; omega))]; first | assumption | (simp; done) | simp [go_sem, *]
  have _ : w4.frozen? ⟨w.heap.size, 1, none⟩ = false := by rw [hf4 (w.heap.size) 1 (by first | omega | (simp; done) | (simp; omega))]; first | assumption | (simp; done) | simp [go_sem, *]
  have _ : w4.cell? ⟨w.heap.size, 2, none⟩ = some (.int .i64 s) := by rw [hc4 (w.heap.size) 2 (by first | omega | (simp; done) | (simp; omega))]; first | assumption | (simp; done) | simp [go_sem, *]
  have _ : w4.frozen? ⟨w.heap.size, 2, none⟩ = false := by rw [hf4 (w.heap.size) 2 (by first | omega | (simp; done) | (simp; omega))]; first | assumption | (simp; done) | simp [go_sem, *]
  have _ : w4.cell? ⟨w.heap.size, 3, none⟩ = some (.slice p ws.length cap) := by rw [hc4 (w.heap.size) 3 (by first | omega | (simp; done) | (simp; omega))]; first | assumption | (simp; done) | simp [go_sem, *]
  have _ : w4.frozen? ⟨w.heap.size, 3, none⟩ = false := by rw [hf4 (w.heap.size) 3 (by first | omega | (simp; done) | (simp; omega))]; first | assumption | (simp; done) | simp [go_sem, *]
  clear hc4 hf4
  have C4 : Below w.heap.size w w4 := C3.trans (B4.mono C3.size)
  have rn4 := ReadsW.of_own o4
  clear o4
  have C4a := C4.alloc C4.size (.cells #[.int .i64 n, .int .i64 e, .int .i64 s, .slice p4 ws.length cap4] 25)
  replace rn4 := rn4.later ((Below.refl _ w4).alloc (Nat.le_refl _) (.cells #[.int .i64 n, .int .i64 e, .int .i64 s, .slice p4 ws.length cap4] 25))
  go_wp2_with fail
  refine (HIP.out _ _ rn4).mono ?_
  rintro en w5 ⟨rfl, B5⟩
  obtain ⟨hc5, hf5⟩ := bcell B5
  have S5 := B5.size
  try simp at S5
  try (have _L5w : w.heap.size < w5.heap.size := by omega)
  have _M5w : w.heap.size ≤ w5.heap.size := by omega
  try (have _P5w_1 : w.heap.size + 1 < w5.heap.size := by omega)
  try (have _P5w_2 : w.heap.size + 1 + 1 < w5.heap.size := by omega)
  try (have _P5w_3 : w.heap.size + 1 + 1 + 1 < w5.heap.size := by omega)
  try (have _L5w1 : w1.heap.size < w5.heap.size := by omega)
  have _M5w1 : w1.heap.size ≤ w5.heap.size := by omega
  try (have _P5w1_1 : w1.heap.size + 1 < w5.heap.size := by omega)
  try (have _P5w1_2 : w1.heap.size + 1 + 1 < w5.heap.size := by omega)
  try (have _P5w1_3 : w1.heap.size + 1 + 1 + 1 < w5.heap.size := by omega)
  try (have _L5w2 : w2.heap.size < w5.heap.size := by omega)
  have _M5w2 : w2.heap.size ≤ w5.heap.size := by omega
  try (have _P5w2_1 : w2.heap.size + 1 < w5.heap.size := by omega)
  try (have _P5w2_2 : w2.heap.size + 1 + 1 < w5.heap.size := by omega)
  try (have _P5w2_3 : w2.heap.size + 1 + 1 + 1 < w5.heap.size := by omega)
  try (have _L5w3 : w3.heap.size < w5.heap.size := by omega)
  have _M5w3 : w3.heap.size ≤ w5.heap.size := by omega
  try (have _P5w3_1 : w3.heap.size + 1 < w5.heap.size := by omega)
  try (have _P5w3_2 : w3.heap.size + 1 + 1 < w5.heap.size := by omega)
  try (have _P5w3_3 : w3.heap.size + 1 + 1 + 1 < w5.heap.size := by omega)
  try (have _L5w4 : w4.heap.size < w5.heap.size := by omega)
  have _M5w4 : w4.heap.size ≤ w5.heap.size := by omega
  try (have _P5w4_1 : w4.heap.size + 1 < w5.heap.size := by omega)
  try (have _P5w4_2 : w4.heap.size + 1 + 1 < w5.heap.size := by omega)
  try (have _P5w4_3 : w4.heap.size + 1 + 1 + 1 < w5.heap.size := by omega)
  have _ : w5.cell? ⟨w.heap.size, 0, none⟩ = some (.int .i64 n) := by rw [hc5 (w.heap.size) 0 (by first | omega | (simp; done) | (simp; omega))]; first | assumption | (simp; done) | simp [go_sem, *]
  have _ : w5.frozen? ⟨w.heap.size, 0, none⟩ = false := by rw [hf5 (w.heap.size) 0 (by first | omega | (simp; done) | (simp; omega))]; first | assumption | (simp; done) | simp [go_sem, *]
  have _ : w5.cell? ⟨w.heap.size, 1, none⟩ = some (.int .i64 e) := by rw [hc5 (w.heap.size) 1 (by first | omega | (simp; done) | (simp; omega))]; first | assumption | (simp; done) | simp [go_sem, *]
  have _ : w5.frozen? ⟨w.heap.size, 1, none⟩ = false := by rw [hf5 (w.heap.size) 1 (by first | omega | (simp; done) | (simp; omega))]; first | assumption | (simp; done) | simp [go_sem, *]
  have _ : w5.cell? ⟨w.heap.size, 2, none⟩ = some (.int .i64 s) := by rw [hc5 (w.heap.size) 2 (by first | omega | (simp; done) | (simp; omega))]; first | assumption | (simp; done) | simp [go_sem, *]
  have _ : w5.frozen? ⟨w.heap.size, 2, none⟩ = false := by rw [hf5 (w.heap.size) 2 (by first | omega | (simp; done) | (simp; omega))]; first | assumption | (simp; done) | simp [go_sem, *]
  have _ : w5.cell? ⟨w.heap.size, 3, none⟩ = some (.slice p ws.length cap) := by rw [hc5 (w.heap.size) 3 (by first | omega | (simp; done) | (simp; omega))]; first | assumption | (simp; done) | simp [go_sem, *]
  have _ : w5.frozen? ⟨w.heap.size, 3, none⟩ = false := by rw [hf5 (w.heap.size) 3 (by first | omega | (simp; done) | (simp; omega))]; first | assumption | (simp; done) | simp [go_sem, *]
  have _ : w5.cell? ⟨w4.heap.size, 0, none⟩ = some (.int .i64 n) := by rw [hc5 (w4.heap.size) 0 (by first | omega | (simp; done) | (simp; omega))]; first | assumption | (simp; done) | simp [go_sem, *]
  have _ : w5.frozen? ⟨w4.heap.size, 0, none⟩ = false := by rw [hf5 (w4.heap.size) 0 (by first | omega | (simp; done) | (simp; omega))]; first | assumption | (simp; done) | simp [go_sem, *]
  have _ : w5.cell? ⟨w4.heap.size, 1, none⟩ = some (.int .i64 e) := by rw [hc5 (w4.heap.size) 1 (by first | omega | (simp; done) | (simp; omega))]; first | assumption | (simp; done) | simp [go_sem, *]
  have _ : w5.frozen? ⟨w4.heap.size, 1, none⟩ = false := by rw [hf5 (w4.heap.size) 1 (by first | omega | (simp; done) | (simp; omega))]; first | assumption | (simp; done) | simp [go_sem, *]
  have _ : w5.cell? ⟨w4.heap.size, 2, none⟩ = some (.int .i64 s) := by rw [hc5 (w4.heap.size) 2 (by first | omega | (simp; done) | (simp; omega))]; first | assumption | (simp; done) | simp [go_sem, *]
  have _ : w5.frozen? ⟨w4.heap.size, 2, none⟩ = false := by rw [hf5 (w4.heap.size) 2 (by first | omega | (simp; done) | (simp; omega))]; first | assumption | (simp; done) | simp [go_sem, *]
  have _ : w5.cell? ⟨w4.heap.size, 3, none⟩ = some (.slice p4 ws.length cap4) := by rw [hc5 (w4.heap.size) 3 (by first | omega | (simp; done) | (simp; omega))]; first | assumption | (simp; done) | simp [go_sem, *]
  have _ : w5.frozen? ⟨w4.heap.size, 3, none⟩ = false := by rw [hf5 (w4.heap.size) 3 (by first | omega | (simp; done) | (simp; omega))]; first | assumption | (simp; done) | simp [go_sem, *]
  clear hc5 hf5
  have C5 : Below w.heap.size w w5 := C4a.trans (B5.mono C4a.size)
  replace rn4 := rn4.later B5
  have HRe : Hid (ReadsW w5 (.slice p ws.length cap) ws) := Lib.hid (HR.out.later C5)
  cases d
  all_goals
    have hS : (w5.cell? ⟨w.heap.size, 0, none⟩ = some (.int .i64 n) ∧ w5.cell? ⟨w.heap.size, 1, none⟩ = some (.int .i64 e) ∧ w5.cell? ⟨w.heap.size, 2, none⟩ = some (.int .i64 s) ∧ w5.cell? ⟨w.heap.size, 3, none⟩ = some (.slice p ws.length cap)) ∧ (w5.cell? ⟨w4.heap.size, 0, none⟩ = some (.int .i64 n) ∧ w5.cell? ⟨w4.heap.size, 1, none⟩ = some (.int .i64 e) ∧ w5.cell? ⟨w4.heap.size, 2, none⟩ = some (.int .i64 s) ∧ w5.cell? ⟨w4.heap.size, 3, none⟩ = some (.slice p4 ws.length cap4)) ∧ ReadsW w5 (.slice p ws.length cap) ws ∧ ReadsW w5 (.slice p4 ws.length cap4) ws ∧ w5.heap.size ≤ w5.heap.size ∧ Below w5.heap.size w5 w5 := ⟨⟨by assumption, by assumption, by assumption, by assumption⟩, ⟨by assumption, by assumption, by assumption, by assumption⟩, HR.out.later C5, rn4, Nat.le_refl _, Below.refl _ _⟩
    go_wp2
    replace hS := net2_drew hS
    go_region_held3 (fun w' => (w'.cell? ⟨w.heap.size, 0, none⟩ = some (.int .i64 n) ∧ w'.cell? ⟨w.heap.size, 1, none⟩ = some (.int .i64 e) ∧ w'.cell? ⟨w.heap.size, 2, none⟩ = some (.int .i64 s) ∧ w'.cell? ⟨w.heap.size, 3, none⟩ = some (.slice p ws.length cap)) ∧ (w'.cell? ⟨w4.heap.size, 0, none⟩ = some (.int .i64 n) ∧ w'.cell? ⟨w4.heap.size, 1, none⟩ = some (.int .i64 e) ∧ w'.cell? ⟨w4.heap.size, 2, none⟩ = some (.int .i64 s) ∧ w'.cell? ⟨w4.heap.size, 3, none⟩ = some (.slice p4 ws.length cap4)) ∧ ReadsW w' (.slice p ws.length cap) ws ∧ ReadsW w' (.slice p4 ws.length cap4) ws ∧ w5.heap.size ≤ w'.heap.size ∧ Below w5.heap.size w5 w')
      (first | exact hS)
      (first | (go_at_call 31; with_reducible refine Calls.mono (toNet_any n e s _ ws _ hle hS.2.2.1) ?_; rintro en wa ⟨p96, cap96, rfl, o96, B96⟩; replace hS := net2_keep B96 hS; have hN := ReadsW.of_own o96) | (go_at_call 34; with_reducible refine Calls.mono (eqNet_same n e s _ _ ws _ hS.2.2.2.1 hN) ?_; rintro en wa ⟨rfl, B96⟩; replace hS := net2_keep B96 hS))
    all_goals
      have Cq := C5.trans (hS.2.2.2.2.2.mono C5.size)
      clear hS
      go_wp2
      go_ret
      exact ⟨rfl, by (repeat (first | exact Below.refl _ _ | (refine Below.setCell ?_ (by (first | exact Nat.le_refl _ | omega | (simp <;> omega) | simp)) _) | (refine Below.alloc ?_ (by (first | exact Nat.le_refl _ | omega | (simp <;> omega) | simp)) _) | (refine below_draws ?_ _) | exact Cq | (refine Below.trans ?_ (Below.mono Cq (by (first | exact Nat.le_refl _ | omega | (simp <;> omega) | simp))))))⟩

theorem own : ownKnob Try.prog.godebug = none := by kernel_rfl
theorem cells_net : Try.prog.cellsOf 56 = 4 := by kernel_rfl
theorem cells_wire : Try.prog.cellsOf 131 = 3 := by kernel_rfl
theorem laidOut : laidOutB Try.prog = true := by kernel_rfl
set_option maxRecDepth 100000 in
theorem lifted (os : Os) (started : os.Started) (H : Type) (enc : TypeId × Value → H) :
    ReturnsInHanded {} Try.checked os 10 .any (Rows.fnExactIsSensitiveSpec.pre6 enc Try.prog Try.f10 Rows.fnExactIsSensitiveRow.domain false) (Rows.fnExactIsSensitiveSpec.post enc Try.prog Try.f10 false true false false) := by
  refine returnsInHanded_of_change (C := Try.checked) own started (by kernel_rfl) Try.func10
    (ChangeSpec.witness6 (enc := enc) (C := Try.checked) false ⟨#[], #[.agg #[.int .i64 0, .int .i64 0, .int .i64 0, .slice none 0 0], .int .i64 0, .int .i64 0, .int .i64 0], []⟩ 8 (by kernel_rfl) (by kernel_rfl) (by kernel_rfl) (by kernel_rfl)) ?_
  intro W base args ds gs before hval0 hW hcnd _
  have hval : ∀ (j : Nat) t v, Try.f10.params[j]? = some t → args[j]? = some v → Value.okWide Try.prog W .any base t v := hval0
  have hW' := hW
  obtain ⟨p, q, hA0, hV, rfl, hfz, hnd⟩ := hW
  have hA : DataW.TrodAll enc Try.prog W 0 (fun _ => true) true Try.f10.params.toList args.toList ds p := hA0
  rw [Try.params10] at hA hval
  obtain ⟨v0, v1, v2, v3, d0, d1, d2, d3, p0, p1, p2, p3, rfl, rfl, rfl, h0, h1, h2, h3⟩ := trodAll_four hA
  obtain ⟨rfl, rfl⟩ := trodVars_none hV
  obtain ⟨c0a, c0b, c0c, c0d, y0a, y0b, y0c, y0d, m0, rfl, rfl, _, hy0a, hy0b, hy0c, hy0d⟩ := Go.Joins.open_agg4 Try.underlying56 (by kernel_rfl) cells_net (hval 0 56 v0 rfl rfl) h0
  obtain ⟨x0a, e0a, _, wx0a⟩ := DataW.trod_int Try.underlying3 hy0a
  simp at e0a
  subst e0a
  obtain ⟨x0b, e0b, _, wx0b⟩ := DataW.trod_int Try.underlying3 hy0b
  simp at e0b
  subst e0b
  obtain ⟨x0c, e0c, _, wx0c⟩ := DataW.trod_int Try.underlying3 hy0c
  simp at e0c
  subst e0c
  obtain ⟨ws0, wr0⟩ := open_wires Try.underlying54 Try.underlying131 (by kernel_rfl) cells_wire rfl rfl rfl Try.underlying3 hy0d
  obtain ⟨x1, rfl, rfl, rfl, wx1⟩ := open_int Try.underlying3 (hval 1 3 v1 rfl rfl) h1
  obtain ⟨x2, rfl, rfl, rfl, wx2⟩ := open_int Try.underlying3 (hval 2 3 v2 rfl rfl) h2
  obtain ⟨x3, rfl, rfl, rfl, wx3⟩ := open_int Try.underlying3 (hval 3 3 v3 rfl rfl) h3
  clear hA0 hval0
  simp only [List.append_nil] at hW'
  refine (walk x0a x0b x0c c0d ws0 x1 x2 x3 W wx0a wx0b wx0c wr0 wx1 wx2 wx3).mono fun e W' ⟨he, hB⟩ => ?_
  subst he
  refine ⟨_, rfl, _, _, _, [], (p0 ++ ([] ++ ([] ++ ([])))), [], hW', ?_, ?_, ?_, hB.frame _, fun h => by cases h⟩
  · exact trodAll_mk1 (shut_bool Try.underlying4 true)
  · exact trodAll_mk4 (Below.trod laidOut (by kernel_rfl) (of_decide_eq_true (by kernel_rfl)) h0 hB (fun x hx => hW'.lt x (by simp [hx]))) (shut_int Try.underlying3 wx1) (shut_int Try.underlying3 wx2) (shut_int Try.underlying3 wx3)
  · rfl

theorem q0 : Try.checked.prog.funcNamed Rows.fnExactIsSensitiveRow.func = some 10 := by kernel_rfl
theorem q1 : (Rows.fnExactIsSensitiveRow.inPlace == Try.prog.inPlace 10) = true := by kernel_rfl
theorem q2 : (Rows.fnExactIsSensitiveRow.unfollowed == Try.prog.unfollowed 10) = true := by kernel_rfl
theorem q3 : (Rows.fnExactIsSensitiveRow.recurses == Try.prog.recurses 10) = true := by kernel_rfl
theorem q4 : (Rows.fnExactIsSensitiveRow.named == Try.prog.varsNamed 10) = true := by kernel_rfl
theorem q5 : (Rows.fnExactIsSensitiveRow.plainKeys == Try.prog.plainKeys) = true := by kernel_rfl
theorem q6 : laidOutB Try.prog = true := by kernel_rfl
theorem q7 : mapsRowed Try.prog = true := by kernel_rfl
theorem q8 : namedTie Try.prog Rows.fnExactIsSensitiveRow.named Rows.fnExactIsSensitiveSpec.vars = true := by kernel_rfl
theorem closedFacts : joinedFacts Try.prog 10 Try.f10 Rows.fnExactIsSensitiveSpec Rows.fnExactIsSensitiveRow = true := by
  unfold joinedFacts
  simp only [Bool.and_eq_true]
  repeat' apply And.intro
  all_goals first | with_reducible exact q1 | with_reducible exact q2 | with_reducible exact q3 | with_reducible exact q4 | with_reducible exact q5 | with_reducible exact q6 | with_reducible exact q7 | with_reducible exact q8 | kernel_rfl

theorem holds : Rows.FnExactIsSensitiveSaid :=
  OpenClaim.holds_of_wide 10 Try.f10 rfl rfl rfl rfl rfl rfl rfl ⟨rfl, rfl, rfl, rfl, rfl⟩ rfl rfl rfl rfl rfl q0 Try.func10 closedFacts
    (of_decide_eq_true (by kernel_rfl)) (by unfold Func.isWrapper; first | (rw [if_pos (by decide +kernel)]; kernel_rfl) | (rw [if_neg (by decide +kernel)]; exact ⟨rfl, rfl⟩))
    (fun os started H enc _ => lifted os started H enc)
end IsSensitiveLaw
end Go.Proofs.Ytaececpphdaciaa
