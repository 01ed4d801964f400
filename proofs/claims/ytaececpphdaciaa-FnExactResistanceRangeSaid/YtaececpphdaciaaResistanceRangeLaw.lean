/-
  FnExactResistanceRange: for every network, valid or not, every two lists of numbers and every two nodes the reference model and the program give the same answer to ResistanceRange, and no argument is changed. No condition.
-/
import Derived.Test.YtaececpphdaciaaRows
import Derived.Test.YtaececpphdaciaaResRange
import Derived.Test.YtaececpphdaciaaGNet
import Derived.Test.YtaececpphdaciaaMatArg
import Derived.Test.YtaececpphdaciaaGRatS
import Derived.Test.YtaececpphdaciaaLeaves
namespace Go.Proofs.Ytaececpphdaciaa
open Go.ChangeShapes Go.WideShapes Go.ChangeAt Go.RowKit

namespace ResistanceRangeLaw
set_option maxRecDepth 8000 in
set_option maxHeartbeats 12800000 in
theorem walk (n e s : Int) (v : Value) (ws : List W3) (vl1 : Value) (l1 : List Int) (vl2 : Value) (l2 : List Int) (x3 : Int) (x4 : Int) (w : World) (_hn : (Lit.int .i64 n).wf = true) (_he : (Lit.int .i64 e).wf = true) (_hs : (Lit.int .i64 s).wf = true) (hr : ReadsW w v ws) (hl1 : ReadsI w vl1 l1) (hl2 : ReadsI w vl2 l2) (_hx3 : (Lit.int .i64 x3).wf = true) (_hx4 : (Lit.int .i64 x4).wf = true) :
    Calls Try.prog 9 #[.agg #[.int .i64 n, .int .i64 e, .int .i64 s, v], vl1, vl2, .int .i64 x3, .int .i64 x4] w fun en w' => en = .returned (.bool true) ∧ Below w.heap.size w w' := by
  have B0 := (Below.refl w.heap.size w).alloc (Nat.le_refl _) (.cells #[.int .i64 n, .int .i64 e, .int .i64 s, v] 56)
  have hsz := szNet_any n e s v ws 1048576 _ (by omega) (by omega) (hr.later B0)
  obtain ⟨p, cap, rfl⟩ := hr.shape
  obtain ⟨pl1, cl1, rfl, _, _⟩ := hl1.shape
  obtain ⟨pl2, cl2, rfl, _, _⟩ := hl2.shape
  have HR := Lib.hid hr; clear hr
  have Hl1 := Lib.hid hl1; clear hl1
  have Hl2 := Lib.hid hl2; clear hl2
  clear B0
  by_cases ql1 : (l1.length : Int) ≤ 1048576
  case neg =>
    clear hsz
    go_enter Try.func9, Try.ntmps9
    go_wp2
    go_ret
    exact ⟨rfl, by (repeat (first | exact Below.refl _ _ | (refine Below.setCell ?_ (by (first | exact Nat.le_refl _ | omega | (simp <;> omega) | simp)) _) | (refine Below.alloc ?_ (by (first | exact Nat.le_refl _ | omega | (simp <;> omega) | simp)) _) | (refine below_draws ?_ _)))⟩
  by_cases ql2 : (l2.length : Int) ≤ 1048576
  case neg =>
    clear hsz
    go_enter Try.func9, Try.ntmps9
    go_wp2
    go_ret
    exact ⟨rfl, by (repeat (first | exact Below.refl _ _ | (refine Below.setCell ?_ (by (first | exact Nat.le_refl _ | omega | (simp <;> omega) | simp)) _) | (refine Below.alloc ?_ (by (first | exact Nat.le_refl _ | omega | (simp <;> omega) | simp)) _) | (refine below_draws ?_ _)))⟩
  by_cases hneg : szW 1048576 ws < 0
  · go_enter Try.func9, Try.ntmps9
    go_wp2_with fail
    refine hsz.mono ?_
    rintro en w1 ⟨rfl, B1⟩
    obtain ⟨hc1, hf1⟩ := bcell B1
    have S1 := B1.size
    try simp at S1
    try (have _L1w : w.heap.size < w1.heap.size := by omega)
    have _M1w : w.heap.size ≤ w1.heap.size := by omega
    try (have _P1w_1 : w.heap.size + 1 < w1.heap.size := by omega)
    try (have _P1w_2 : w.heap.size + 1 + 1 < w1.heap.size := by omega)
    try (have _P1w_3 : w.heap.size + 1 + 1 + 1 < w1.heap.size := by omega)
    go_wp2
    go_ret
    exact ⟨rfl, by (repeat (first | exact Below.refl _ _ | (refine Below.setCell ?_ (by (first | exact Nat.le_refl _ | omega | (simp <;> omega) | simp)) _) | (refine Below.alloc ?_ (by (first | exact Nat.le_refl _ | omega | (simp <;> omega) | simp)) _) | (refine below_draws ?_ _) | exact B1 | (refine Below.trans ?_ (Below.mono B1 (by (first | exact Nat.le_refl _ | omega | (simp <;> omega) | simp))))))⟩
  have hle : ws.length ≤ 1048576 := by unfold szW at hneg; split at hneg <;> omega
  obtain ⟨a0, b0, a1, b1, d, hd⟩ : ∃ a0 b0 a1 b1 d, rngR n e s ws l1 l2 x3 x4 = (a0, b0, a1, b1, d) := ⟨_, _, _, _, _, rfl⟩
  have hSP : ∀ (W : World) (v vl1 vl2 : Value), ReadsW W v ws → ReadsI W vl1 l1 → ReadsI W vl2 l2 → Calls Try.prog 44 #[.agg #[.int .i64 n, .int .i64 e, .int .i64 s, v], vl1, vl2, .int .i64 x3, .int .i64 x4] W fun en w' => en = .returned (.tuple #[.agg #[.int .i64 a0, .int .i64 b0], .agg #[.int .i64 a1, .int .i64 b1], .bool d]) ∧ Below W.heap.size W w' := fun W v vl1 vl2 h hl1 hl2 => by
    have h9 := spec_rng n e s x3 x4 v vl1 vl2 ws l1 l2 W h hl1 hl2
    rw [hd] at h9
    exact h9
  have HSP := Lib.hid hSP; clear hSP
  have hIP : ∀ (W : World) (v vl1 vl2 : Value), ReadsW W v ws → ReadsI W vl1 l1 → ReadsI W vl2 l2 → Calls Try.prog 26 #[.agg #[.int .i64 n, .int .i64 e, .int .i64 s, v], vl1, vl2, .int .i64 x3, .int .i64 x4] W fun en w' => en = .returned (.tuple #[.agg #[.int .i64 a0, .int .i64 b0], .agg #[.int .i64 a1, .int .i64 b1], .bool d]) ∧ Below W.heap.size W w' := fun W v vl1 vl2 h hl1 hl2 => by
    have h9 := impl_rng n e s x3 x4 v vl1 vl2 ws l1 l2 W h hl1 hl2
    rw [hd] at h9
    exact h9
  have HIP := Lib.hid hIP; clear hIP
  clear hd
  go_enter Try.func9, Try.ntmps9
  go_wp2_with fail
  refine hsz.mono ?_
  rintro en w1 ⟨rfl, B1⟩
  clear hsz
  obtain ⟨hc1, hf1⟩ := bcell B1
  have S1 := B1.size
  try simp at S1
  try (have _L1w : w.heap.size < w1.heap.size := by omega)
  have _M1w : w.heap.size ≤ w1.heap.size := by omega
  try (have _P1w_1 : w.heap.size + 1 < w1.heap.size := by omega)
  try (have _P1w_2 : w.heap.size + 1 + 1 < w1.heap.size := by omega)
  try (have _P1w_3 : w.heap.size + 1 + 1 + 1 < w1.heap.size := by omega)
  have _ : w1.cell? ⟨w.heap.size, 0, none⟩ = some (.int .i64 n) := by rw [hc1 (w.heap.size) 0 (by first | omega | (simp; done) | (simp; omega))]; first | assumption | (simp; done) | simp [go_sem, *]
  have _ : w1.frozen? ⟨w.heap.size, 0, none⟩ = false := by rw [hf1 (w.heap.size) 0 (by first | omega | (simp; done) | (simp; omega))]; first | assumption | (simp; done) | simp [go_sem, *]
  have _ : w1.cell? ⟨w.heap.size, 1, none⟩ = some (.int .i64 e) := by rw [hc1 (w.heap.size) 1 (by first | omega | (simp; done) | (simp; omega))]; first | assumption | (simp; done) | simp [go_sem, *]
  have _ : w1.frozen? ⟨w.heap.size, 1, none⟩ = false := by rw [hf1 (w.heap.size) 1 (by first | omega | (simp; done) | (simp; omega))]; first | assumption | (simp; done) | simp [go_sem, *]
  have _ : w1.cell? ⟨w.heap.size, 2, none⟩ = some (.int .i64 s) := by rw [hc1 (w.heap.size) 2 (by first | omega | (simp; done) | (simp; omega))]; first | assumption | (simp; done) | simp [go_sem, *]
  have _ : w1.frozen? ⟨w.heap.size, 2, none⟩ = false := by rw [hf1 (w.heap.size) 2 (by first | omega | (simp; done) | (simp; omega))]; first | assumption | (simp; done) | simp [go_sem, *]
  have _ : w1.cell? ⟨w.heap.size, 3, none⟩ = some (.slice p ws.length cap) := by rw [hc1 (w.heap.size) 3 (by first | omega | (simp; done) | (simp; omega))]; first | assumption | (simp; done) | simp [go_sem, *]
  have _ : w1.frozen? ⟨w.heap.size, 3, none⟩ = false := by rw [hf1 (w.heap.size) 3 (by first | omega | (simp; done) | (simp; omega))]; first | assumption | (simp; done) | simp [go_sem, *]
  clear hc1 hf1
  have C1 : Below w.heap.size w w1 := by (repeat (first | exact Below.refl _ _ | (refine Below.setCell ?_ (by (first | exact Nat.le_refl _ | omega | (simp <;> omega) | simp)) _) | (refine Below.alloc ?_ (by (first | exact Nat.le_refl _ | omega | (simp <;> omega) | simp)) _) | (refine below_draws ?_ _) | exact B1 | (refine Below.trans ?_ (Below.mono B1 (by (first | exact Nat.le_refl _ | omega | (simp <;> omega) | simp))))))
  go_wp2_with fail
  refine (toNet_any n e s _ ws _ hle (HR.out.later C1)).mono ?_
  rintro en w2 ⟨p2, cap2, rfl, o2, B2⟩
  obtain ⟨hc2, hf2⟩ := bcell B2
  have S2 := B2.size
  try simp at S2
  try (have _L2w : w.heap.size < w2.heap.size := by omega)
  have _M2w : w.heap.size ≤ w2.heap.size := by omega
  try (have _P2w_1 : w.heap.size + 1 < w2.heap.size := by omega)
  try (have _P2w_2 : w.heap.size + 1 + 1 < w2.heap.size := by omega)
  try (have _P2w_3 : w.heap.size + 1 + 1 + 1 < w2.heap.size := by omega)
  try (have _L2w1 : w1.heap.size < w2.heap.size := by omega)
  have _M2w1 : w1.heap.size ≤ w2.heap.size := by omega
  try (have _P2w1_1 : w1.heap.size + 1 < w2.heap.size := by omega)
  try (have _P2w1_2 : w1.heap.size + 1 + 1 < w2.heap.size := by omega)
  try (have _P2w1_3 : w1.heap.size + 1 + 1 + 1 < w2.heap.size := by omega)
  have _ : w2.cell? ⟨w.heap.size, 0, none⟩ = some (.int .i64 n) := by rw [hc2 (w.heap.size) 0 (by first | omega | (simp; done) | (simp; omega))]; first | assumption | (simp; done) | simp [go_sem, *]
  have _ : w2.frozen? ⟨w.heap.size, 0, none⟩ = false := by rw [hf2 (w.heap.size) 0 (by first | omega | (simp; done) | (simp; omega))]; first | assumption | (simp; done) | simp [go_sem, *]
  have _ : w2.cell? ⟨w.heap.size, 1, none⟩ = some (.int .i64 e) := by rw [hc2 (w.heap.size) 1 (by first | omega | (simp; done) | (simp; omega))]; first | assumption | (simp; done) | simp [go_sem, *]
  have _ : w2.frozen? ⟨w.heap.size, 1, none⟩ = false := by rw [hf2 (w.heap.size) 1 (by first | omega | (simp; done) | (simp; omega))]; first | assumption | (simp; done) | simp [go_sem, *]
  have _ : w2.cell? ⟨w.heap.size, 2, none⟩ = some (.int .i64 s) := by rw [hc2 (w.heap.size) 2 (by first | omega | (simp; done) | (simp; omega))]; first | assumption | (simp; done) | simp [go_sem, *]
  have _ : w2.frozen? ⟨w.heap.size, 2, none⟩ = false := by rw [hf2 (w.heap.size) 2 (by first | omega | (simp; done) | (simp; omega))]; first | assumption | (simp; done) | simp [go_sem, *]
  have _ : w2.cell? ⟨w.heap.size, 3, none⟩ = some (.slice p ws.length cap) := by rw [hc2 (w.heap.size) 3 (by first | omega | (simp; done) | (simp; omega))]; first | assumption | (simp; done) | simp [go_sem, *]
  have _ : w2.frozen? ⟨w.heap.size, 3, none⟩ = false := by rw [hf2 (w.heap.size) 3 (by first | omega | (simp; done) | (simp; omega))]; first | assumption | (simp; done) | simp [go_sem, *]
  clear hc2 hf2
  have C2 : Below w.heap.size w w2 := C1.trans (B2.mono C1.size)
  have rn2 := ReadsW.of_own o2
  clear o2
  go_wp2_with fail
  refine (toIntS_any _ l1 _ (by omega) (Hl1.out.later C2)).mono ?_
  rintro en w3 ⟨v3, rfl, o3, B3⟩
  obtain ⟨hc3, hf3⟩ := bcell B3
  have S3 := B3.size
  try simp at S3
  try (have _L3w : w.heap.size < w3.heap.size := by omega)
  have _M3w : w.heap.size ≤ w3.heap.size := by omega
  try (have _P3w_1 : w.heap.size + 1 < w3.heap.size := by omega)
  try (have _P3w_2 : w.heap.size + 1 + 1 < w3.heap.size := by omega)
  try (have _P3w_3 : w.heap.size + 1 + 1 + 1 < w3.heap.size := by omega)
  try (have _L3w1 : w1.heap.size < w3.heap.size := by omega)
  have _M3w1 : w1.heap.size ≤ w3.heap.size := by omega
  try (have _P3w1_1 : w1.heap.size + 1 < w3.heap.size := by omega)
  try (have _P3w1_2 : w1.heap.size + 1 + 1 < w3.heap.size := by omega)
  try (have _P3w1_3 : w1.heap.size + 1 + 1 + 1 < w3.heap.size := by omega)
  try (have _L3w2 : w2.heap.size < w3.heap.size := by omega)
  have _M3w2 : w2.heap.size ≤ w3.heap.size := by omega
  try (have _P3w2_1 : w2.heap.size + 1 < w3.heap.size := by omega)
  try (have _P3w2_2 : w2.heap.size + 1 + 1 < w3.heap.size := by omega)
  try (have _P3w2_3 : w2.heap.size + 1 + 1 + 1 < w3.heap.size := by omega)
  have _ : w3.cell? ⟨w.heap.size, 0, none⟩ = some (.int .i64 n) := by rw [hc3 (w.heap.size) 0 (by first | omega | (simp; done) | (simp; omega))]; first | assumption | (simp; done) | simp [go_sem, *]
  have _ : w3.frozen? ⟨w.heap.size, 0, none⟩ = false := by rw [hf3 (w.heap.size) 0 (by first | omega | (simp; done) | (simp; omega))]; first | assumption | (simp; done) | simp [go_sem, *]
  have _ : w3.cell? ⟨w.heap.size, 1, none⟩ = some (.int .i64 e) := by rw [hc3 (w.heap.size) 1 (by first | omega | (simp; done) | (simp; omega))]; first | assumption | (simp; done) | simp [go_sem, *]
  have _ : w3.frozen? ⟨w.heap.size, 1, none⟩ = false := by rw [hf3 (w.heap.size) 1 (by first | omega | (simp; done) | (simp; omega))]; first | assumption | (simp; done) | simp [go_sem, *]
  have _ : w3.cell? ⟨w.heap.size, 2, none⟩ = some (.int .i64 s) := by rw [hc3 (w.heap.size) 2 (by first | omega | (simp; done) | (simp; omega))]; first | assumption | (simp; done) | simp [go_sem, *]
  have _ : w3.frozen? ⟨w.heap.size, 2, none⟩ = false := by rw [hf3 (w.heap.size) 2 (by first | omega | (simp; done) | (simp; omega))]; first | assumption | (simp; done) | simp [go_sem, *]
  have _ : w3.cell? ⟨w.heap.size, 3, none⟩ = some (.slice p ws.length cap) := by rw [hc3 (w.heap.size) 3 (by first | omega | (simp; done) | (simp; omega))]; first | assumption | (simp; done) | simp [go_sem, *]
  have _ : w3.frozen? ⟨w.heap.size, 3, none⟩ = false := by rw [hf3 (w.heap.size) 3 (by first | omega | (simp; done) | (simp; omega))]; first | assumption | (simp; done) | simp [go_sem, *]
  clear hc3 hf3
  have C3 : Below w.heap.size w w3 := C2.trans (B3.mono C2.size)
  replace rn2 := rn2.later B3
  have rl3 := ReadsI.of_own o3
  clear o3
  go_wp2_with fail
  refine (toIntS_any _ l2 _ (by omega) (Hl2.out.later C3)).mono ?_
  rintro en w4 ⟨v4, rfl, o4, B4⟩
  obtain ⟨hc4, hf4⟩ := bcell B4
  have S4 := B4.size
  try simp at S4
  try (have _L4w : w.heap.size < w4.heap.size := by omega)
  have _M4w : w.heap.size ≤ w4.heap.size := by omega
  try (have _P4w_1 : w.heap.size + 1 < w4.heap.size := by omega)
  try (have _P4w_2 : w.heap.size + 1 + 1 < w4.heap.size := by omega)
  try (have _P4w_3 : w.heap.size + 1 + 1 + 1 < w4.heap.size := by omega)
  try (have _L4w1 : w1.heap.size < w4.heap.size := by omega)
  have _M4w1 : w1.heap.size ≤ w4.heap.size := by omega
  try (have _P4w1_1 : w1.heap.size + 1 < w4.heap.size := by omega)
  try (have _P4w1_2 : w1.heap.size + 1 + 1 < w4.heap.size := by omega)
  try (have _P4w1_3 : w1.heap.size + 1 + 1 + 1 < w4.heap.size := by omega)
  try (have _L4w2 : w2.heap.size < w4.heap.size := by omega)
  have _M4w2 : w2.heap.size ≤ w4.heap.size := by omega
  try (have _P4w2_1 : w2.heap.size + 1 < w4.heap.size := by omega)
  try (have _P4w2_2 : w2.heap.size + 1 + 1 < w4.heap.size := by omega)
  try (have _P4w2_3 : w2.heap.size + 1 + 1 + 1 < w4.heap.size := by omega)
  try (have _L4w3 : w3.heap.size < w4.heap.size := by omega)
  have _M4w3 : w3.heap.size ≤ w4.heap.size := by omega
  try (have _P4w3_1 : w3.heap.size + 1 < w4.heap.size := by omega)
  try (have _P4w3_2 : w3.heap.size + 1 + 1 < w4.heap.size := by omega)
  try (have _P4w3_3 : w3.heap.size + 1 + 1 + 1 < w4.heap.size := by omega)
  have _ : w4.cell? ⟨w.heap.size, 0, none⟩ = some (.int .i64 n) := by rw [hc4 (w.heap.size) 0 (by first | omega | (simp; done) | (simp; omega))]; first | assumption | (simp; done) | simp [go_sem, *]
  have _ : w4.frozen? ⟨w.heap.size, 0, none⟩ = false := by rw [hf4 (w.heap.size) 0 (by first | omega | (simp; done) | (simp; omega))]; first | assumption | (simp; done) | simp [go_sem, *]
  have _ : w4.cell? ⟨w.heap.size, 1, none⟩ = some (.int .i64 e) := by rw [hc4 (w.heap.size) 1 (by first | omega | (simp; done) | (simp; omega))]; first | assumption | (simp; done) | simp [go_sem, *]
  have _ : w4.frozen? ⟨w.heap.size, 1, none⟩ = false := by rw [hf4 (w.heap.size) 1 (by first | omega | (simp; done) | (simp; omega))]; first | assumption | (simp; done) | simp [go_sem, *]
  have _ : w4.cell? ⟨w.heap.size, 2, none⟩ = some (.int .i64 s) := by rw [hc4 (w.heap.size) 2 (by first | omega | (simp; done) | (simp; omega))]; first | assumption | (simp; done) | simp [go_sem, *]
  have _ : w4.frozen? ⟨w.heap.size, 2, none⟩ = false := by rw [hf4 (w.heap.size) 2 (by first | omega | (simp; done) | (simp; omega))]; first | assumption | (simp; done) | simp [go_sem, *]
  have _ : w4.cell? ⟨w.heap.size, 3, none⟩ = some (.slice p ws.length cap) := by rw [hc4 (w.heap.size) 3 (by first | omega | (simp; done) | (simp; omega))]; first | assumption | (simp; done) | simp [go_sem, *]
  have _ : w4.frozen? ⟨w.heap.size, 3, none⟩ = false := by rw [hf4 (w.heap.size) 3 (by first | omega | (simp; done) | (simp; omega))]; first | assumption | (simp; done) | simp [go_sem, *]
  clear hc4 hf4
  have C4 : Below w.heap.size w w4 := C3.trans (B4.mono C3.size)
  replace rn2 := rn2.later B4
  replace rl3 := rl3.later B4
  have rl4 := ReadsI.of_own o4
  clear o4
  go_wp2_with fail
  refine (HSP.out _ _ _ _ rn2 rl3 rl4).mono ?_
  rintro en w5 ⟨rfl, B5⟩
  obtain ⟨hc5, hf5⟩ := bcell B5
  have S5 := B5.size
  try simp at S5
  try (have _L5w : w.heap.size < w5.heap.size := by omega)
  have _M5w : w.heap.size ≤ w5.heap.size := by omega
  try (have _P5w_1 : w.heap.size + 1 < w5.heap.size := by omega)
  try (have _P5w_2 : w.heap.size + 1 + 1 < w5.heap.size := by omega)
  try (have _P5w_3 : w.heap.size + 1 + 1 + 1 < w5.heap.size := by omega)
  try (have _L5w1 : w1.heap.size < w5.heap.size := by omega)
  have _M5w1 : w1.heap.size ≤ w5.heap.size := by omega
  try (have _P5w1_1 : w1.heap.size + 1 < w5.heap.size := by omega)
  try (have _P5w1_2 : w1.heap.size + 1 + 1 < w5.heap.size := by omega)
  try (have _P5w1_3 : w1.heap.size + 1 + 1 + 1 < w5.heap.size := by omega)
  try (have _L5w2 : w2.heap.size < w5.heap.size := by omega)
  have _M5w2 : w2.heap.size ≤ w5.heap.size := by omega
  try (have _P5w2_1 : w2.heap.size + 1 < w5.heap.size := by omega)
  try (have _P5w2_2 : w2.heap.size + 1 + 1 < w5.heap.size := by omega)
  try (have _P5w2_3 : w2.heap.size + 1 + 1 + 1 < w5.heap.size := by omega)
  try (have _L5w3 : w3.heap.size < w5.heap.size := by omega)
  have _M5w3 : w3.heap.size ≤ w5.heap.size := by omega
  try (have _P5w3_1 : w3.heap.size + 1 < w5.heap.size := by omega)
  try (have _P5w3_2 : w3.heap.size + 1 + 1 < w5.heap.size := by omega)
  try (have _P5w3_3 : w3.heap.size + 1 + 1 + 1 < w5.heap.size := by omega)
  try (have _L5w4 : w4.heap.size < w5.heap.size := by omega)
  have _M5w4 : w4.heap.size ≤ w5.heap.size := by omega
  try (have _P5w4_1 : w4.heap.size + 1 < w5.heap.size := by omega)
  try (have _P5w4_2 : w4.heap.size + 1 + 1 < w5.heap.size := by omega)
  try (have _P5w4_3 : w4.heap.size + 1 + 1 + 1 < w5.heap.size := by omega)
  have _ : w5.cell? ⟨w.heap.size, 0, none⟩ = some (.int .i64 n) := by rw [hc5 (w.heap.size) 0 (by first | omega | (simp; done) | (simp; omega))]; first | assumption | (simp; done) | simp [go_sem, *]
  have _ : w5.frozen? ⟨w.heap.size, 0, none⟩ = false := by rw [hf5 (w.heap.size) 0 (by first | omega | (simp; done) | (simp; omega))]; first | assumption | (simp; done) | simp [go_sem, *]
  have _ : w5.cell? ⟨w.heap.size, 1, none⟩ = some (.int .i64 e) := by rw [hc5 (w.heap.size) 1 (by first | omega | (simp; done) | (simp; omega))]; first | assumption | (simp; done) | simp [go_sem, *]
  have _ : w5.frozen? ⟨w.heap.size, 1, none⟩ = false := by rw [hf5 (w.heap.size) 1 (by first | omega | (simp; done) | (simp; omega))]; first | assumption | (simp; done) | simp [go_sem, *]
  have _ : w5.cell? ⟨w.heap.size, 2, none⟩ = some (.int .i64 s) := by rw [hc5 (w.heap.size) 2 (by first | omega | (simp; done) | (simp; omega))]; first | assumption | (simp; done) | simp [go_sem, *]
  have _ : w5.frozen? ⟨w.heap.size, 2, none⟩ = false := by rw [hf5 (w.heap.size) 2 (by first | omega | (simp; done) | (simp; omega))]; first | assumption | (simp; done) | simp [go_sem, *]
  have _ : w5.cell? ⟨w.heap.size, 3, none⟩ = some (.slice p ws.length cap) := by rw [hc5 (w.heap.size) 3 (by first | omega | (simp; done) | (simp; omega))]; first | assumption | (simp; done) | simp [go_sem, *]
  have _ : w5.frozen? ⟨w.heap.size, 3, none⟩ = false := by rw [hf5 (w.heap.size) 3 (by first | omega | (simp; done) | (simp; omega))]; first | assumption | (simp; done) | simp [go_sem, *]
  clear hc5 hf5
  have C5 : Below w.heap.size w w5 := C4.trans (B5.mono C4.size)
  replace rn2 := rn2.later B5
  replace rl3 := rl3.later B5
  replace rl4 := rl4.later B5
  clear rn2 rl3 rl4
  have C5a := ((C5.alloc (by first | exact C5.size | (have := C5.size; simp; omega)) (.cells #[.int .i64 a0, .int .i64 b0] 43)).alloc (by first | exact C5.size | (have := C5.size; simp; omega)) (.cells #[.int .i64 a1, .int .i64 b1] 43))
  go_wp2_with fail
  refine (toNet_any n e s _ ws _ hle (HR.out.later C5a)).mono ?_
  rintro en w6 ⟨p6, cap6, rfl, o6, B6⟩
  obtain ⟨hc6, hf6⟩ := bcell B6
  have S6 := B6.size
  try simp at S6
  try (have _L6w : w.heap.size < w6.heap.size := by omega)
  have _M6w : w.heap.size ≤ w6.heap.size := by omega
  try (have _P6w_1 : w.heap.size + 1 < w6.heap.size := by omega)
  try (have _P6w_2 : w.heap.size + 1 + 1 < w6.heap.size := by omega)
  try (have _P6w_3 : w.heap.size + 1 + 1 + 1 < w6.heap.size := by omega)
  try (have _L6w1 : w1.heap.size < w6.heap.size := by omega)
  have _M6w1 : w1.heap.size ≤ w6.heap.size := by omega
  try (have _P6w1_1 : w1.heap.size + 1 < w6.heap.size := by omega)
  try (have _P6w1_2 : w1.heap.size + 1 + 1 < w6.heap.size := by omega)
  try (have _P6w1_3 : w1.heap.size + 1 + 1 + 1 < w6.heap.size := by omega)
  try (have _L6w2 : w2.heap.size < w6.heap.size := by omega)
  have _M6w2 : w2.heap.size ≤ w6.heap.size := by omega
  try (have _P6w2_1 : w2.heap.size + 1 < w6.heap.size := by omega)
  try (have _P6w2_2 : w2.heap.size + 1 + 1 < w6.heap.size := by omega)
  try (have _P6w2_3 : w2.heap.size + 1 + 1 + 1 < w6.heap.size := by omega)
  try (have _L6w3 : w3.heap.size < w6.heap.size := by omega)
  have _M6w3 : w3.heap.size ≤ w6.heap.size := by omega
  try (have _P6w3_1 : w3.heap.size + 1 < w6.heap.size := by omega)
  try (have _P6w3_2 : w3.heap.size + 1 + 1 < w6.heap.size := by omega)
  try (have _P6w3_3 : w3.heap.size + 1 + 1 + 1 < w6.heap.size := by omega)
  try (have _L6w4 : w4.heap.size < w6.heap.size := by omega)
  have _M6w4 : w4.heap.size ≤ w6.heap.size := by omega
  try (have _P6w4_1 : w4.heap.size + 1 < w6.heap.size := by omega)
  try (have _P6w4_2 : w4.heap.size + 1 + 1 < w6.heap.size := by omega)
  try (have _P6w4_3 : w4.heap.size + 1 + 1 + 1 < w6.heap.size := by omega)
  try (have _L6w5 : w5.heap.size < w6.heap.size := by omega)
  have _M6w5 : w5.heap.size ≤ w6.heap.size := by omega
  try (have _P6w5_1 : w5.heap.size + 1 < w6.heap.size := by omega)
  try (have _P6w5_2 : w5.heap.size + 1 + 1 < w6.heap.size := by omega)
  try (have _P6w5_3 : w5.heap.size + 1 + 1 + 1 < w6.heap.size := by omega)
  have _ : w6.cell? ⟨w.heap.size, 0, none⟩ = some (.int .i64 n) := by rw [hc6 (w.heap.size) 0 (by first | omega | (simp; done) | (simp; omega))]; first | assumption | (simp; done) | simp [go_sem, *]
  have _ : w6.frozen? ⟨w.heap.size, 0, none⟩ = false := by rw [hf6 (w.heap.size) 0 (by first | omega | (simp; done) | (simp; omega))]; first | assumption | (simp; done) | simp [go_sem, *]
  have _ : w6.cell? ⟨w.heap.size, 1, none⟩ = some (.int .i64 e) := by rw [hc6 (w.heap.size) 1 (by first | omega | (simp; done) | (simp; omega))]; first | assumption | (simp; done) | simp [go_sem, *]
  have _ : w6.frozen? ⟨w.heap.size, 1, none⟩ = false := by rw [hf6 (w.heap.size) 1 (by first | omega | (simp; done) | (simp; omega))]; first | assumption | (simp; done) | simp [go_sem, *]
  have _ : w6.cell? ⟨w.heap.size, 2, none⟩ = some (.int .i64 s) := by rw [hc6 (w.heap.size) 2 (by first | omega | (simp; done) | (simp; omega))]; first | assumption | (simp; done) | simp [go_sem, *]
  have _ : w6.frozen? ⟨w.heap.size, 2, none⟩ = false := by rw [hf6 (w.heap.size) 2 (by first | omega | (simp; done) | (simp; omega))]; first | assumption | (simp; done) | simp [go_sem, *]
  have _ : w6.cell? ⟨w.heap.size, 3, none⟩ = some (.slice p ws.length cap) := by rw [hc6 (w.heap.size) 3 (by first | omega | (simp; done) | (simp; omega))]; first | assumption | (simp; done) | simp [go_sem, *]
  have _ : w6.frozen? ⟨w.heap.size, 3, none⟩ = false := by rw [hf6 (w.heap.size) 3 (by first | omega | (simp; done) | (simp; omega))]; first | assumption | (simp; done) | simp [go_sem, *]
  have _ : w6.cell? ⟨w5.heap.size, 0, none⟩ = some (.int .i64 a0) := by rw [hc6 (w5.heap.size) 0 (by first | omega | (simp; done) | (simp; omega))]; first | assumption | (simp; done) | simp [go_sem, *]
  have _ : w6.frozen? ⟨w5.heap.size, 0, none⟩ = false := by rw [hf6 (w5.heap.size) 0 (by first | omega | (simp; done) | (simp; omega))]; first | assumption | (simp; done) | simp [go_sem, *]
  have _ : w6.cell? ⟨w5.heap.size, 1, none⟩ = some (.int .i64 b0) := by rw [hc6 (w5.heap.size) 1 (by first | omega | (simp; done) | (simp; omega))]; first | assumption | (simp; done) | simp [go_sem, *]
  have _ : w6.frozen? ⟨w5.heap.size, 1, none⟩ = false := by rw [hf6 (w5.heap.size) 1 (by first | omega | (simp; done) | (simp; omega))]; first | assumption | (simp; done) | simp [go_sem, *]
  have _ : w6.cell? ⟨w5.heap.size + 1, 0, none⟩ = some (.int .i64 a1) := by rw [hc6 (w5.heap.size + 1) 0 (by first | omega | (simp; done) | (simp; omega))]; first | assumption | (simp; done) | simp [go_sem, *]
  have _ : w6.frozen? ⟨w5.heap.size + 1, 0, none⟩ = false := by rw [hf6 (w5.heap.size + 1) 0 (by first | omega | (simp; done) | (simp; omega))]; first | assumption | (simp; done) | simp [go_sem, *]
  have _ : w6.cell? ⟨w5.heap.size + 1, 1, none⟩ = some (.int .i64 b1) := by rw [hc6 (w5.heap.size + 1) 1 (by first | omega | (simp; done) | (simp; omega))]; first | assumption | (simp; done) | simp [go_sem, *]
  have _ : w6.frozen? ⟨w5.heap.size + 1, 1, none⟩ = false := by rw [hf6 (w5.heap.size + 1) 1 (by first | omega | (simp; done) | (simp; omega))]; first | assumption | (simp; done) | simp [go_sem, *]
  clear hc6 hf6
  have C6 : Below w.heap.size w w6 := C5a.trans (B6.mono C5a.size)
  have rn6 := ReadsW.of_own o6
  clear o6
  have C6a := C6.alloc C6.size (.cells #[.int .i64 n, .int .i64 e, .int .i64 s, .slice p6 ws.length cap6] 25)
  replace rn6 := rn6.later ((Below.refl _ w6).alloc (Nat.le_refl _) (.cells #[.int .i64 n, .int .i64 e, .int .i64 s, .slice p6 ws.length cap6] 25))
  go_wp2_with fail
  refine (toIntS_any _ l1 _ (by omega) (Hl1.out.later C6a)).mono ?_
  rintro en w7 ⟨v7, rfl, o7, B7⟩
  obtain ⟨hc7, hf7⟩ := bcell B7
  have S7 := B7.size
  try simp at S7
  try (have _L7w : w.heap.size < w7.heap.size := by omega)
  have _M7w : w.heap.size ≤ w7.heap.size := by omega
  try (have _P7w_1 : w.heap.size + 1 < w7.heap.size := by omega)
  try (have _P7w_2 : w.heap.size + 1 + 1 < w7.heap.size := by omega)
  try (have _P7w_3 : w.heap.size + 1 + 1 + 1 < w7.heap.size := by omega)
  try (have _L7w1 : w1.heap.size < w7.heap.size := by omega)
  have _M7w1 : w1.heap.size ≤ w7.heap.size := by omega
  try (have _P7w1_1 : w1.heap.size + 1 < w7.heap.size := by omega)
  try (have _P7w1_2 : w1.heap.size + 1 + 1 < w7.heap.size := by omega)
  try (have _P7w1_3 : w1.heap.size + 1 + 1 + 1 < w7.heap.size := by omega)
  try (have _L7w2 : w2.heap.size < w7.heap.size := by omega)
  have _M7w2 : w2.heap.size ≤ w7.heap.size := by omega
  try (have _P7w2_1 : w2.heap.size + 1 < w7.heap.size := by omega)
  try (have _P7w2_2 : w2.heap.size + 1 + 1 < w7.heap.size := by omega)
  try (have _P7w2_3 : w2.heap.size + 1 + 1 + 1 < w7.heap.size := by omega)
  try (have _L7w3 : w3.heap.size < w7.heap.size := by omega)
  have _M7w3 : w3.heap.size ≤ w7.heap.size := by omega
  try (have _P7w3_1 : w3.heap.size + 1 < w7.heap.size := by omega)
  try (have _P7w3_2 : w3.heap.size + 1 + 1 < w7.heap.size := by omega)
  try (have _P7w3_3 : w3.heap.size + 1 + 1 + 1 < w7.heap.size := by omega)
  try (have _L7w4 : w4.heap.size < w7.heap.size := by omega)
  have _M7w4 : w4.heap.size ≤ w7.heap.size := by omega
  try (have _P7w4_1 : w4.heap.size + 1 < w7.heap.size := by omega)
  try (have _P7w4_2 : w4.heap.size + 1 + 1 < w7.heap.size := by omega)
  try (have _P7w4_3 : w4.heap.size + 1 + 1 + 1 < w7.heap.size := by omega)
  try (have _L7w5 : w5.heap.size < w7.heap.size := by omega)
  have _M7w5 : w5.heap.size ≤ w7.heap.size := by omega
  try (have _P7w5_1 : w5.heap.size + 1 < w7.heap.size := by omega)
  try (have _P7w5_2 : w5.heap.size + 1 + 1 < w7.heap.size := by omega)
  try (have _P7w5_3 : w5.heap.size + 1 + 1 + 1 < w7.heap.size := by omega)
  try (have _L7w6 : w6.heap.size < w7.heap.size := by omega)
  have _M7w6 : w6.heap.size ≤ w7.heap.size := by omega
  try (have _P7w6_1 : w6.heap.size + 1 < w7.heap.size := by omega)
  try (have _P7w6_2 : w6.heap.size + 1 + 1 < w7.heap.size := by omega)
  try (have _P7w6_3 : w6.heap.size + 1 + 1 + 1 < w7.heap.size := by omega)
  have _ : w7.cell? ⟨w.heap.size, 0, none⟩ = some (.int .i64 n) := by rw [hc7 (w.heap.size) 0 (by first | omega | (simp; done) | (simp; omega))]; first | assumption | (simp; done) | simp [go_sem, *]
  have _ : w7.frozen? ⟨w.heap.size, 0, none⟩ = false := by rw [hf7 (w.heap.size) 0 (by first | omega | (simp; done) | (simp; omega))]; first | assumption | (simp; done) | simp [go_sem, *]
  have _ : w7.cell? ⟨w.heap.size, 1, none⟩ = some (.int .i64 e) := by rw [hc7 (w.heap.size) 1 (by first | omega | (simp; done) | (simp; omega))]; first | assumption | (simp; done) | simp [go_sem, *]
  have _ : w7.frozen? ⟨w.heap.size, 1, none⟩ = false := by rw [hf7 (w.heap.size) 1 (by first | omega | (simp; done) | (simp; omega))]; first | assumption | (simp; done) | simp [go_sem, *]
  have _ : w7.cell? ⟨w.heap.size, 2, none⟩ = some (.int .i64 s) := by rw [hc7 (w.heap.size) 2 (by first | omega | (simp; done) | (simp; omega))]; first | assumption | (simp; done) | simp [go_sem, *]
  have _ : w7.frozen? ⟨w.heap.size, 2, none⟩ = false := by rw [hf7 (w.heap.size) 2 (by first | omega | (simp; done) | (simp; omega))]; first | assumption | (simp; done) | simp [go_sem, *]
  have _ : w7.cell? ⟨w.heap.size, 3, none⟩ = some (.slice p ws.length cap) := by rw [hc7 (w.heap.size) 3 (by first | omega | (simp; done) | (simp; omega))]; first | assumption | (simp; done) | simp [go_sem, *]
  have _ : w7.frozen? ⟨w.heap.size, 3, none⟩ = false := by rw [hf7 (w.heap.size) 3 (by first | omega | (simp; done) | (simp; omega))]; first | assumption | (simp; done) | simp [go_sem, *]
  have _ : w7.cell? ⟨w5.heap.size, 0, none⟩ = some (.int .i64 a0) := by rw [hc7 (w5.heap.size) 0 (by first | omega | (simp; done) | (simp; omega))]; first | assumption | (simp; done) | simp [go_sem, *]
  have _ : w7.frozen? ⟨w5.heap.size, 0, none⟩ = false := by rw [hf7 (w5.heap.size) 0 (by first | omega | (simp; done) | (simp; omega))]; first | assumption | (simp; done) | simp [go_sem, *]
  have _ : w7.cell? ⟨w5.heap.size, 1, none⟩ = some (.int .i64 b0) := by rw [hc7 (w5.heap.size) 1 (by first | omega | (simp; done) | (simp; omega))]; first | assumption | (simp; done) | simp [go_sem, *]
  have _ : w7.frozen? ⟨w5.heap.size, 1, none⟩ = false := by rw [hf7 (w5.heap.size) 1 (by first | omega | (simp; done) | (simp; omega))]; first | assumption | (simp; done) | simp [go_sem, *]
  have _ : w7.cell? ⟨w5.heap.size + 1, 0, none⟩ = some (.int .i64 a1) := by rw [hc7 (w5.heap.size + 1) 0 (by first | omega | (simp; done) | (simp; omega))]; first | assumption | (simp; done) | simp [go_sem, *]
  have _ : w7.frozen? ⟨w5.heap.size + 1, 0, none⟩ = false := by rw [hf7 (w5.heap.size + 1) 0 (by first | omega | (simp; done) | (simp; omega))]; first | assumption | (simp; done) | simp [go_sem, *]
  have _ : w7.cell? ⟨w5.heap.size + 1, 1, none⟩ = some (.int .i64 b1) := by rw [hc7 (w5.heap.size + 1) 1 (by first | omega | (simp; done) | (simp; omega))]; first | assumption | (simp; done) | simp [go_sem, *]
  have _ : w7.frozen? ⟨w5.heap.size + 1, 1, none⟩ = false := by rw [hf7 (w5.heap.size + 1) 1 (by first | omega | (simp; done) | (simp; omega))]; first | assumption | (simp; done) | simp [go_sem, *]
  have _ : w7.cell? ⟨w6.heap.size, 0, none⟩ = some (.int .i64 n) := by rw [hc7 (w6.heap.size) 0 (by first | omega | (simp; done) | (simp; omega))]; first | assumption | (simp; done) | simp [go_sem, *]
  have _ : w7.frozen? ⟨w6.heap.size, 0, none⟩ = false := by rw [hf7 (w6.heap.size) 0 (by first | omega | (simp; done) | (simp; omega))]; first | assumption | (simp; done) | simp [go_sem, *]
  have _ : w7.cell? ⟨w6.heap.size, 1, none⟩ = some (.int .i64 e) := by rw [hc7 (w6.heap.size) 1 (by first | omega | (simp; done) | (simp; omega))]; first | assumption | (simp; done) | simp [go_sem, *]
  have _ : w7.frozen? ⟨w6.heap.size, 1, none⟩ = false := by rw [hf7 (w6.heap.size) 1 (by first | omega | (simp; done) | (simp; omega))]; first | assumption | (simp; done) | simp [go_sem, *]
  have _ : w7.cell? ⟨w6.heap.size, 2, none⟩ = some (.int .i64 s) := by rw [hc7 (w6.heap.size) 2 (by first | omega | (simp; done) | (simp; omega))]; first | assumption | (simp; done) | simp [go_sem, *]
  have _ : w7.frozen? ⟨w6.heap.size, 2, none⟩ = false := by rw [hf7 (w6.heap.size) 2 (by first | omega | (simp; done) | (simp; omega))]; first | assumption | (simp; done) | simp [go_sem, *]
  have _ : w7.cell? ⟨w6.heap.size, 3, none⟩ = some (.slice p6 ws.length cap6) := by rw [hc7 (w6.heap.size) 3 (by first | omega | (simp; done) | (simp; omega))]; first | assumption | (simp; done) | simp [go_sem, *]
  have _ : w7.frozen? ⟨w6.heap.size, 3, none⟩ = false := by rw [hf7 (w6.heap.size) 3 (by first | omega | (simp; done) | (simp; omega))]; first | assumption | (simp; done) | simp [go_sem, *]
  clear hc7 hf7
  have C7 : Below w.heap.size w w7 := C6a.trans (B7.mono C6a.size)
  replace rn6 := rn6.later B7
  have rl7 := ReadsI.of_own o7
  clear o7
  go_wp2_with fail
  refine (toIntS_any _ l2 _ (by omega) (Hl2.out.later C7)).mono ?_
  rintro en w8 ⟨v8, rfl, o8, B8⟩
  obtain ⟨hc8, hf8⟩ := bcell B8
  have S8 := B8.size
  try simp at S8
  try (have _L8w : w.heap.size < w8.heap.size := by omega)
  have _M8w : w.heap.size ≤ w8.heap.size := by omega
  try (have _P8w_1 : w.heap.size + 1 < w8.heap.size := by omega)
  try (have _P8w_2 : w.heap.size + 1 + 1 < w8.heap.size := by omega)
  try (have _P8w_3 : w.heap.size + 1 + 1 + 1 < w8.heap.size := by omega)
  try (have _L8w1 : w1.heap.size < w8.heap.size := by omega)
  have _M8w1 : w1.heap.size ≤ w8.heap.size := by omega
  try (have _P8w1_1 : w1.heap.size + 1 < w8.heap.size := by omega)
  try (have _P8w1_2 : w1.heap.size + 1 + 1 < w8.heap.size := by omega)
  try (have _P8w1_3 : w1.heap.size + 1 + 1 + 1 < w8.heap.size := by omega)
  try (have _L8w2 : w2.heap.size < w8.heap.size := by omega)
  have _M8w2 : w2.heap.size ≤ w8.heap.size := by omega
  try (have _P8w2_1 : w2.heap.size + 1 < w8.heap.size := by omega)
  try (have _P8w2_2 : w2.heap.size + 1 + 1 < w8.heap.size := by omega)
  try (have _P8w2_3 : w2.heap.size + 1 + 1 + 1 < w8.heap.size := by omega)
  try (have _L8w3 : w3.heap.size < w8.heap.size := by omega)
  have _M8w3 : w3.heap.size ≤ w8.heap.size := by omega
  try (have _P8w3_1 : w3.heap.size + 1 < w8.heap.size := by omega)
  try (have _P8w3_2 : w3.heap.size + 1 + 1 < w8.heap.size := by omega)
  try (have _P8w3_3 : w3.heap.size + 1 + 1 + 1 < w8.heap.size := by omega)
  try (have _L8w4 : w4.heap.size < w8.heap.size := by omega)
  have _M8w4 : w4.heap.size ≤ w8.heap.size := by omega
  try (have _P8w4_1 : w4.heap.size + 1 < w8.heap.size := by omega)
  try (have _P8w4_2 : w4.heap.size + 1 + 1 < w8.heap.size := by omega)
  try (have _P8w4_3 : w4.heap.size + 1 + 1 + 1 < w8.heap.size := by omega)
  try (have _L8w5 : w5.heap.size < w8.heap.size := by omega)
  have _M8w5 : w5.heap.size ≤ w8.heap.size := by omega
  try (have _P8w5_1 : w5.heap.size + 1 < w8.heap.size := by omega)
  try (have _P8w5_2 : w5.heap.size + 1 + 1 < w8.heap.size := by omega)
  try (have _P8w5_3 : w5.heap.size + 1 + 1 + 1 < w8.heap.size := by omega)
  try (have _L8w6 : w6.heap.size < w8.heap.size := by omega)
  have _M8w6 : w6.heap.size ≤ w8.heap.size := by omega
  try (have _P8w6_1 : w6.heap.size + 1 < w8.heap.size := by omega)
  try (have _P8w6_2 : w6.heap.size + 1 + 1 < w8.heap.size := by omega)
  try (have _P8w6_3 : w6.heap.size + 1 + 1 + 1 < w8.heap.size := by omega)
  try (have _L8w7 : w7.heap.size < w8.heap.size := by omega)
  have _M8w7 : w7.heap.size ≤ w8.heap.size := by omega
  try (have _P8w7_1 : w7.heap.size + 1 < w8.heap.size := by omega)
  try (have _P8w7_2 : w7.heap.size + 1 + 1 < w8.heap.size := by omega)
  try (have _P8w7_3 : w7.heap.size + 1 + 1 + 1 < w8.heap.size := by omega)
  have _ : w8.cell? ⟨w.heap.size, 0, none⟩ = some (.int .i64 n) := by rw [hc8 (w.heap.size) 0 (by first | omega | (simp; done) | (simp; omega))]; first | assumption | (simp; done) | simp [go_sem, *]
  have _ : w8.frozen? ⟨w.heap.size, 0, none⟩ = false := by rw [hf8 (w.heap.size) 0 (by first | omega | (simp; done) | (simp; omega))]; first | assumption | (simp; done) | simp [go_sem, *]
  have _ : w8.cell? ⟨w.heap.size, 1, none⟩ = some (.int .i64 e) := by rw [hc8 (w.heap.size) 1 (by first | omega | (simp; done) | (simp; omega))]; first | assumption | (simp; done) | simp [go_sem, *]
  have _ : w8.frozen? ⟨w.heap.size, 1, none⟩ = false := by rw [hf8 (w.heap.size) 1 (by first | omega | (simp; done) | (simp; omega))]; first | assumption | (simp; done) | simp [go_sem, *]
  have _ : w8.cell? ⟨w.heap.size, 2, none⟩ = some (.int .i64 s) := by rw [hc8 (w.heap.size) 2 (by first | omega | (simp; done) | (simp; omega))]; first | assumption | (simp; done) | simp [go_sem, *]
  have _ : w8.frozen? ⟨w.heap.size, 2, none⟩ = false := by rw [hf8 (w.heap.size) 2 (by first | omega | (simp; done) | (simp; omega))]; first | assumption | (simp; done) | simp [go_sem, *]
  have _ : w8.cell? ⟨w.heap.size, 3, none⟩ = some (.slice p ws.length cap) := by rw [hc8 (w.heap.size) 3 (by first | omega | (simp; done) | (simp; omega))]; first | assumption | (simp; done) | simp [go_sem, *]
  have _ : w8.frozen? ⟨w.heap.size, 3, none⟩ = false := by rw [hf8 (w.heap.size) 3 (by first | omega | (simp; done) | (simp; omega))]; first | assumption | (simp; done) | simp [go_sem, *]
  have _ : w8.cell? ⟨w5.heap.size, 0, none⟩ = some (.int .i64 a0) := by rw [hc8 (w5.heap.size) 0 (by first | omega | (simp; done) | (simp; omega))]; first | assumption | (simp; done) | simp [go_sem, *]
  have _ : w8.frozen? ⟨w5.heap.size, 0, none⟩ = false := by rw [hf8 (w5.heap.size) 0 (by first | omega | (simp; done) | (simp; omega))]; first | assumption | (simp; done) | simp [go_sem, *]
  have _ : w8.cell? ⟨w5.heap.size, 1, none⟩ = some (.int .i64 b0) := by rw [hc8 (w5.heap.size) 1 (by first | omega | (simp; done) | (simp; omega))]; first | assumption | (simp; done) | simp [go_sem, *]
  have _ : w8.frozen? ⟨w5.heap.size, 1, none⟩ = false := by rw [hf8 (w5.heap.size) 1 (by first | omega | (simp; done) | (simp; omega))]; first | assumption | (simp; done) | simp [go_sem, *]
  have _ : w8.cell? ⟨w5.heap.size + 1, 0, none⟩ = some (.int .i64 a1) := by rw [hc8 (w5.heap.size + 1) 0 (by first | omega | (simp; done) | (simp; omega))]; first | assumption | (simp; done) | simp [go_sem, *]
  have _ : w8.frozen? ⟨w5.heap.size + 1, 0, none⟩ = false := by rw [hf8 (w5.heap.size + 1) 0 (by first | omega | (simp; done) | (simp; omega))]; first | assumption | (simp; done) | simp [go_sem, *]
  have _ : w8.cell? ⟨w5.heap.size + 1, 1, none⟩ = some (.int .i64 b1) := by rw [hc8 (w5.heap.size + 1) 1 (by first | omega | (simp; done) | (simp; omega))]; first | assumption | (simp; done) | simp [go_sem, *]
  have _ : w8.frozen? ⟨w5.heap.size + 1, 1, none⟩ = false := by rw [hf8 (w5.heap.size + 1) 1 (by first | omega | (simp; done) | (simp; omega))]; first | assumption | (simp; done) | simp [go_sem, *]
  have _ : w8.cell? ⟨w6.heap.size, 0, none⟩ = some (.int .i64 n) := by rw [hc8 (w6.heap.size) 0 (by first | omega | (simp; done) | (simp; omega))]; first | assumption | (simp; done) | simp [go_sem, *]
  have _ : w8.frozen? ⟨w6.heap.size, 0, none⟩ = false := by rw [hf8 (w6.heap.size) 0 (by first | omega | (simp; done) | (simp; omega))]; first | assumption | (simp; done) | simp [go_sem, *]
  have _ : w8.cell? ⟨w6.heap.size, 1, none⟩ = some (.int .i64 e) := by rw [hc8 (w6.heap.size) 1 (by first | omega | (simp; done) | (simp; omega))]; first | assumption | (simp; done) | simp [go_sem, *]
  have _ : w8.frozen? ⟨w6.heap.size, 1, none⟩ = false := by rw [hf8 (w6.heap.size) 1 (by first | omega | (simp; done) | (simp; omega))]; first | assumption | (simp; done) | simp [go_sem, *]
  have _ : w8.cell? ⟨w6.heap.size, 2, none⟩ = some (.int .i64 s) := by rw [hc8 (w6.heap.size) 2 (by first | omega | (simp; done) | (simp; omega))]; first | assumption | (simp; done) | simp [go_sem, *]
  have _ : w8.frozen? ⟨w6.heap.size, 2, none⟩ = false := by rw [hf8 (w6.heap.size) 2 (by first | omega | (simp; done) | (simp; omega))]; first | assumption | (simp; done) | simp [go_sem, *]
  have _ : w8.cell? ⟨w6.heap.size, 3, none⟩ = some (.slice p6 ws.length cap6) := by rw [hc8 (w6.heap.size) 3 (by first | omega | (simp; done) | (simp; omega))]; first | assumption | (simp; done) | simp [go_sem, *]
  have _ : w8.frozen? ⟨w6.heap.size, 3, none⟩ = false := by rw [hf8 (w6.heap.size) 3 (by first | omega | (simp; done) | (simp; omega))]; first | assumption | (simp; done) | simp [go_sem, *]
  clear hc8 hf8
  have C8 : Below w.heap.size w w8 := C7.trans (B8.mono C7.size)
  replace rn6 := rn6.later B8
  replace rl7 := rl7.later B8
  have rl8 := ReadsI.of_own o8
  clear o8
  go_wp2_with fail
  refine (HIP.out _ _ _ _ rn6 rl7 rl8).mono ?_
  rintro en w9 ⟨rfl, B9⟩
  obtain ⟨hc9, hf9⟩ := bcell B9
  have S9 := B9.size
  try simp at S9
  try (have _L9w : w.heap.size < w9.heap.size := by omega)
  have _M9w : w.heap.size ≤ w9.heap.size := by omega
  try (have _P9w_1 : w.heap.size + 1 < w9.heap.size := by omega)
  try (have _P9w_2 : w.heap.size + 1 + 1 < w9.heap.size := by omega)
  try (have _P9w_3 : w.heap.size + 1 + 1 + 1 < w9.heap.size := by omega)
  try (have _L9w1 : w1.heap.size < w9.heap.size := by omega)
  have _M9w1 : w1.heap.size ≤ w9.heap.size := by omega
  try (have _P9w1_1 : w1.heap.size + 1 < w9.heap.size := by omega)
  try (have _P9w1_2 : w1.heap.size + 1 + 1 < w9.heap.size := by omega)
  try (have _P9w1_3 : w1.heap.size + 1 + 1 + 1 < w9.heap.size := by omega)
  try (have _L9w2 : w2.heap.size < w9.heap.size := by omega)
  have _M9w2 : w2.heap.size ≤ w9.heap.size := by omega
  try (have _P9w2_1 : w2.heap.size + 1 < w9.heap.size := by omega)
  try (have _P9w2_2 : w2.heap.size + 1 + 1 < w9.heap.size := by omega)
  try (have _P9w2_3 : w2.heap.size + 1 + 1 + 1 < w9.heap.size := by omega)
  try (have _L9w3 : w3.heap.size < w9.heap.size := by omega)
  have _M9w3 : w3.heap.size ≤ w9.heap.size := by omega
  try (have _P9w3_1 : w3.heap.size + 1 < w9.heap.size := by omega)
  try (have _P9w3_2 : w3.heap.size + 1 + 1 < w9.heap.size := by omega)
  try (have _P9w3_3 : w3.heap.size + 1 + 1 + 1 < w9.heap.size := by omega)
  try (have _L9w4 : w4.heap.size < w9.heap.size := by omega)
  have _M9w4 : w4.heap.size ≤ w9.heap.size := by omega
  try (have _P9w4_1 : w4.heap.size + 1 < w9.heap.size := by omega)
  try (have _P9w4_2 : w4.heap.size + 1 + 1 < w9.heap.size := by omega)
  try (have _P9w4_3 : w4.heap.size + 1 + 1 + 1 < w9.heap.size := by omega)
  try (have _L9w5 : w5.heap.size < w9.heap.size := by omega)
  have _M9w5 : w5.heap.size ≤ w9.heap.size := by omega
  try (have _P9w5_1 : w5.heap.size + 1 < w9.heap.size := by omega)
  try (have _P9w5_2 : w5.heap.size + 1 + 1 < w9.heap.size := by omega)
  try (have _P9w5_3 : w5.heap.size + 1 + 1 + 1 < w9.heap.size := by omega)
  try (have _L9w6 : w6.heap.size < w9.heap.size := by omega)
  have _M9w6 : w6.heap.size ≤ w9.heap.size := by omega
  try (have _P9w6_1 : w6.heap.size + 1 < w9.heap.size := by omega)
  try (have _P9w6_2 : w6.heap.size + 1 + 1 < w9.heap.size := by omega)
  try (have _P9w6_3 : w6.heap.size + 1 + 1 + 1 < w9.heap.size := by omega)
  try (have _L9w7 : w7.heap.size < w9.heap.size := by omega)
  have _M9w7 : w7.heap.size ≤ w9.heap.size := by omega
  try (have _P9w7_1 : w7.heap.size + 1 < w9.heap.size := by omega)
  try (have _P9w7_2 : w7.heap.size + 1 + 1 < w9.heap.size := by omega)
  try (have _P9w7_3 : w7.heap.size + 1 + 1 + 1 < w9.heap.size := by omega)
  try (have _L9w8 : w8.heap.size < w9.heap.size := by omega)
  have _M9w8 : w8.heap.size ≤ w9.heap.size := by omega
  try (have _P9w8_1 : w8.heap.size + 1 < w9.heap.size := by omega)
  try (have _P9w8_2 : w8.heap.size + 1 + 1 < w9.heap.size := by omega)
  try (have _P9w8_3 : w8.heap.size + 1 + 1 + 1 < w9.heap.size := by omega)
  have _ : w9.cell? ⟨w.heap.size, 0, none⟩ = some (.int .i64 n) := by rw [hc9 (w.heap.size) 0 (by first | omega | (simp; done) | (simp; omega))]; first | assumption | (simp; done) | simp [go_sem, *]
  have _ : w9.frozen? ⟨w.heap.size, 0, none⟩ = false := by rw [hf9 (w.heap.size) 0 (by first | omega | (simp; done) | (simp; omega))]; first | assumption | (simp; done) | simp [go_sem, *]
  have _ : w9.cell? ⟨w.heap.size, 1, none⟩ = some (.int .i64 e) := by rw [hc9 (w.heap.size) 1 (by first | omega | (simp; done) | (simp; omega))]; first | assumption | (simp; done) | simp [go_sem, *]
  have _ : w9.frozen? ⟨w.heap.size, 1, none⟩ = false := by rw [hf9 (w.heap.size) 1 (by first | omega | (simp; done) | (simp; omega))]; first | assumption | (simp; done) | simp [go_sem, *]
  have _ : w9.cell? ⟨w.heap.size, 2, none⟩ = some (.int .i64 s) := by rw [hc9 (w.heap.size) 2 (by first | omega | (simp; done) | (simp; omega))]; first | assumption | (simp; done) | simp [go_sem, *]
  have _ : w9.frozen? ⟨w.heap.size, 2, none⟩ = false := by rw [hf9 (w.heap.size) 2 (by first | omega | (simp; done) | (simp; omega))]; first | assumption | (simp; done) | simp [go_sem, *]
  have _ : w9.cell? ⟨w.heap.size, 3, none⟩ = some (.slice p ws.length cap) := by rw [hc9 (w.heap.size) 3 (by first | omega | (simp; done) | (simp; omega))]; first | assumption | (simp; done) | simp [go_sem, *]
  have _ : w9.frozen? ⟨w.heap.size, 3, none⟩ = false := by rw [hf9 (w.heap.size) 3 (by first | omega | (simp; done) | (simp; omega))]; first | assumption | (simp; done) | simp [go_sem, *]
  have _ : w9.cell? ⟨w5.heap.size, 0, none⟩ = some (.int .i64 a0) := by rw [hc9 (w5.heap.size) 0 (by first | omega | (simp; done) | (simp; omega))]; first | assumption | (simp; done) | simp [go_sem, *]
  have _ : w9.frozen? ⟨w5.heap.size, 0, none⟩ = false := by rw [hf9 (w5.heap.size) 0 (by first | omega | (simp; done) | (simp; omega))]; first | assumption | (simp; done) | simp [go_sem, *]
  have _ : w9.cell? ⟨w5.heap.size, 1, none⟩ = some (.int .i64 b0) := by rw [hc9 (w5.heap.size) 1 (by first | omega | (simp; done) | (simp; omega))]; first | assumption | (simp; done) | simp [go_sem, *]
  have _ : w9.frozen? ⟨w5.heap.size, 1, none⟩ = false := by rw [hf9 (w5.heap.size) 1 (by first | omega | (simp; done) | (simp; omega))]; first | assumption | (simp; done) | simp [go_sem, *]
  have _ : w9.cell? ⟨w5.heap.size + 1, 0, none⟩ = some (.int .i64 a1) := by rw [hc9 (w5.heap.size + 1) 0 (by first | omega | (simp; done) | (simp; omega))]; first | assumption | (simp; done) | simp [go_sem, *]
  have _ : w9.frozen? ⟨w5.heap.size + 1, 0, none⟩ = false := by rw [hf9 (w5.heap.size + 1) 0 (by first | omega | (simp; done) | (simp; omega))]; first | assumption | (simp; done) | simp [go_sem, *]
  have _ : w9.cell? ⟨w5.heap.size + 1, 1, none⟩ = some (.int .i64 b1) := by rw [hc9 (w5.heap.size + 1) 1 (by first | omega | (simp; done) | (simp; omega))]; first | assumption | (simp; done) | simp [go_sem, *]
  have _ : w9.frozen? ⟨w5.heap.size + 1, 1, none⟩ = false := by rw [hf9 (w5.heap.size + 1) 1 (by first | omega | (simp; done) | (simp; omega))]; first | assumption | (simp; done) | simp [go_sem, *]
  have _ : w9.cell? ⟨w6.heap.size, 0, none⟩ = some (.int .i64 n) := by rw [hc9 (w6.heap.size) 0 (by first | omega | (simp; done) | (simp; omega))]; first | assumption | (simp; done) | simp [go_sem, *]
  have _ : w9.frozen? ⟨w6.heap.size, 0, none⟩ = false := by rw [hf9 (w6.heap.size) 0 (by first | omega | (simp; done) | (simp; omega))]; first | assumption | (simp; done) | simp [go_sem, *]
  have _ : w9.cell? ⟨w6.heap.size, 1, none⟩ = some (.int .i64 e) := by rw [hc9 (w6.heap.size) 1 (by first | omega | (simp; done) | (simp; omega))]; first | assumption | (simp; done) | simp [go_sem, *]
  have _ : w9.frozen? ⟨w6.heap.size, 1, none⟩ = false := by rw [hf9 (w6.heap.size) 1 (by first | omega | (simp; done) | (simp; omega))]; first | assumption | (simp; done) | simp [go_sem, *]
  have _ : w9.cell? ⟨w6.heap.size, 2, none⟩ = some (.int .i64 s) := by rw [hc9 (w6.heap.size) 2 (by first | omega | (simp; done) | (simp; omega))]; first | assumption | (simp; done) | simp [go_sem, *]
  have _ : w9.frozen? ⟨w6.heap.size, 2, none⟩ = false := by rw [hf9 (w6.heap.size) 2 (by first | omega | (simp; done) | (simp; omega))]; first | assumption | (simp; done) | simp [go_sem, *]
  have _ : w9.cell? ⟨w6.heap.size, 3, none⟩ = some (.slice p6 ws.length cap6) := by rw [hc9 (w6.heap.size) 3 (by first | omega | (simp; done) | (simp; omega))]; first | assumption | (simp; done) | simp [go_sem, *]
  have _ : w9.frozen? ⟨w6.heap.size, 3, none⟩ = false := by rw [hf9 (w6.heap.size) 3 (by first | omega | (simp; done) | (simp; omega))]; first | assumption | (simp; done) | simp [go_sem, *]
  clear hc9 hf9
  have C9 : Below w.heap.size w w9 := C8.trans (B9.mono C8.size)
  replace rn6 := rn6.later B9
  replace rl7 := rl7.later B9
  replace rl8 := rl8.later B9
  have HRe : Hid (ReadsW w9 (.slice p ws.length cap) ws) := Lib.hid (HR.out.later C9)
  replace rn6 := rn6.later ((Below.refl _ w9).alloc (Nat.le_refl _) (.cells #[.int .i64 a0, .int .i64 b0] 43))
  replace rl7 := rl7.later ((Below.refl _ w9).alloc (Nat.le_refl _) (.cells #[.int .i64 a0, .int .i64 b0] 43))
  replace rl8 := rl8.later ((Below.refl _ w9).alloc (Nat.le_refl _) (.cells #[.int .i64 a0, .int .i64 b0] 43))
  replace rn6 := rn6.later ((Below.refl _ (w9.alloc (.cells #[.int .i64 a0, .int .i64 b0] 43))).alloc (Nat.le_refl _) (.cells #[.int .i64 a1, .int .i64 b1] 43))
  replace rl7 := rl7.later ((Below.refl _ (w9.alloc (.cells #[.int .i64 a0, .int .i64 b0] 43))).alloc (Nat.le_refl _) (.cells #[.int .i64 a1, .int .i64 b1] 43))
  replace rl8 := rl8.later ((Below.refl _ (w9.alloc (.cells #[.int .i64 a0, .int .i64 b0] 43))).alloc (Nat.le_refl _) (.cells #[.int .i64 a1, .int .i64 b1] 43))
  have C9a := ((C9.alloc (by first | exact C9.size | (have := C9.size; simp; omega)) (.cells #[.int .i64 a0, .int .i64 b0] 43)).alloc (by first | exact C9.size | (have := C9.size; simp; omega)) (.cells #[.int .i64 a1, .int .i64 b1] 43))
  go_wp2_with fail
  refine (eq_ratio _ _ _).mono ?_
  rintro en w10 ⟨rfl, B10⟩
  obtain ⟨hc10, hf10⟩ := bcell B10
  have S10 := B10.size
  try simp at S10
  try (have _L10w : w.heap.size < w10.heap.size := by omega)
  have _M10w : w.heap.size ≤ w10.heap.size := by omega
  try (have _P10w_1 : w.heap.size + 1 < w10.heap.size := by omega)
  try (have _P10w_2 : w.heap.size + 1 + 1 < w10.heap.size := by omega)
  try (have _P10w_3 : w.heap.size + 1 + 1 + 1 < w10.heap.size := by omega)
  try (have _L10w1 : w1.heap.size < w10.heap.size := by omega)
  have _M10w1 : w1.heap.size ≤ w10.heap.size := by omega
  try (have _P10w1_1 : w1.heap.size + 1 < w10.heap.size := by omega)
  try (have _P10w1_2 : w1.heap.size + 1 + 1 < w10.heap.size := by omega)
  try (have _P10w1_3 : w1.heap.size + 1 + 1 + 1 < w10.heap.size := by omega)
  try (have _L10w2 : w2.heap.size < w10.heap.size := by omega)
  have _M10w2 : w2.heap.size ≤ w10.heap.size := by omega
  try (have _P10w2_1 : w2.heap.size + 1 < w10.heap.size := by omega)
  try (have _P10w2_2 : w2.heap.size + 1 + 1 < w10.heap.size := by omega)
  try (have _P10w2_3 : w2.heap.size + 1 + 1 + 1 < w10.heap.size := by omega)
  try (have _L10w3 : w3.heap.size < w10.heap.size := by omega)
  have _M10w3 : w3.heap.size ≤ w10.heap.size := by omega
  try (have _P10w3_1 : w3.heap.size + 1 < w10.heap.size := by omega)
  try (have _P10w3_2 : w3.heap.size + 1 + 1 < w10.heap.size := by omega)
  try (have _P10w3_3 : w3.heap.size + 1 + 1 + 1 < w10.heap.size := by omega)
  try (have _L10w4 : w4.heap.size < w10.heap.size := by omega)
  have _M10w4 : w4.heap.size ≤ w10.heap.size := by omega
  try (have _P10w4_1 : w4.heap.size + 1 < w10.heap.size := by omega)
  try (have _P10w4_2 : w4.heap.size + 1 + 1 < w10.heap.size := by omega)
  try (have _P10w4_3 : w4.heap.size + 1 + 1 + 1 < w10.heap.size := by omega)
  try (have _L10w5 : w5.heap.size < w10.heap.size := by omega)
  have _M10w5 : w5.heap.size ≤ w10.heap.size := by omega
  try (have _P10w5_1 : w5.heap.size + 1 < w10.heap.size := by omega)
  try (have _P10w5_2 : w5.heap.size + 1 + 1 < w10.heap.size := by omega)
  try (have _P10w5_3 : w5.heap.size + 1 + 1 + 1 < w10.heap.size := by omega)
  try (have _L10w6 : w6.heap.size < w10.heap.size := by omega)
  have _M10w6 : w6.heap.size ≤ w10.heap.size := by omega
  try (have _P10w6_1 : w6.heap.size + 1 < w10.heap.size := by omega)
  try (have _P10w6_2 : w6.heap.size + 1 + 1 < w10.heap.size := by omega)
  try (have _P10w6_3 : w6.heap.size + 1 + 1 + 1 < w10.heap.size := by omega)
  try (have _L10w7 : w7.heap.size < w10.heap.size := by omega)
  have _M10w7 : w7.heap.size ≤ w10.heap.size := by omega
  try (have _P10w7_1 : w7.heap.size + 1 < w10.heap.size := by omega)
  try (have _P10w7_2 : w7.heap.size + 1 + 1 < w10.heap.size := by omega)
  try (have _P10w7_3 : w7.heap.size + 1 + 1 + 1 < w10.heap.size := by omega)
  try (have _L10w8 : w8.heap.size < w10.heap.size := by omega)
  have _M10w8 : w8.heap.size ≤ w10.heap.size := by omega
  try (have _P10w8_1 : w8.heap.size + 1 < w10.heap.size := by omega)
  try (have _P10w8_2 : w8.heap.size + 1 + 1 < w10.heap.size := by omega)
  try (have _P10w8_3 : w8.heap.size + 1 + 1 + 1 < w10.heap.size := by omega)
  try (have _L10w9 : w9.heap.size < w10.heap.size := by omega)
  have _M10w9 : w9.heap.size ≤ w10.heap.size := by omega
  try (have _P10w9_1 : w9.heap.size + 1 < w10.heap.size := by omega)
  try (have _P10w9_2 : w9.heap.size + 1 + 1 < w10.heap.size := by omega)
  try (have _P10w9_3 : w9.heap.size + 1 + 1 + 1 < w10.heap.size := by omega)
  have _ : w10.cell? ⟨w.heap.size, 0, none⟩ = some (.int .i64 n) := by rw [hc10 (w.heap.size) 0 (by first | omega | (simp; done) | (simp; omega))]; first | assumption | (simp; done) | simp [go_sem, *]
  have _ : w10.frozen? ⟨w.heap.size, 0, none⟩ = false := by rw [hf10 (w.heap.size) 0 (by first | omega | (simp; done) | (simp; omega))]; first | assumption | (simp; done) | simp [go_sem, *]
  have _ : w10.cell? ⟨w.heap.size, 1, none⟩ = some (.int .i64 e) := by rw [hc10 (w.heap.size) 1 (by first | omega | (simp; done) | (simp; omega))]; first | assumption | (simp; done) | simp [go_sem, *]
  have _ : w10.frozen? ⟨w.heap.size, 1, none⟩ = false := by rw [hf10 (w.heap.size) 1 (by first | omega | (simp; done) | (simp; omega))]; first | assumption | (simp; done) | simp [go_sem, *]
  have _ : w10.cell? ⟨w.heap.size, 2, none⟩ = some (.int .i64 s) := by rw [hc10 (w.heap.size) 2 (by first | omega | (simp; done) | (simp; omega))]; first | assumption | (simp; done) | simp [go_sem, *]
  have _ : w10.frozen? ⟨w.heap.size, 2, none⟩ = false := by rw [hf10 (w.heap.size) 2 (by first | omega | (simp; done) | (simp; omega))]; first | assumption | (simp; done) | simp [go_sem, *]
  have _ : w10.cell? ⟨w.heap.size, 3, none⟩ = some (.slice p ws.length cap) := by rw [hc10 (w.heap.size) 3 (by first | omega | (simp; done) | (simp; omega))]; first | assumption | (simp; done) | simp [go_sem, *]
  have _ : w10.frozen? ⟨w.heap.size, 3, none⟩ = false := by rw [hf10 (w.heap.size) 3 (by first | omega | (simp; done) | (simp; omega))]; first | assumption | (simp; done) | simp [go_sem, *]
  have _ : w10.cell? ⟨w5.heap.size, 0, none⟩ = some (.int .i64 a0) := by rw [hc10 (w5.heap.size) 0 (by first | omega | (simp; done) | (simp; omega))]; first | assumption | (simp; done) | simp [go_sem, *]
  have _ : w10.frozen? ⟨w5.heap.size, 0, none⟩ = false := by rw [hf10 (w5.heap.size) 0 (by first | omega | (simp; done) | (simp; omega))]; first | assumption | (simp; done) | simp [go_sem, *]
  have _ : w10.cell? ⟨w5.heap.size, 1, none⟩ = some (.int .i64 b0) := by rw [hc10 (w5.heap.size) 1 (by first | omega | (simp; done) | (simp; omega))]; first | assumption | (simp; done) | simp [go_sem, *]
  have _ : w10.frozen? ⟨w5.heap.size, 1, none⟩ = false := by rw [hf10 (w5.heap.size) 1 (by first | omega | (simp; done) | (simp; omega))]; first | assumption | (simp; done) | simp [go_sem, *]
  have _ : w10.cell? ⟨w5.heap.size + 1, 0, none⟩ = some (.int .i64 a1) := by rw [hc10 (w5.heap.size + 1) 0 (by first | omega | (simp; done) | (simp; omega))]; first | assumption | (simp; done) | simp [go_sem, *]
  have _ : w10.frozen? ⟨w5.heap.size + 1, 0, none⟩ = false := by rw [hf10 (w5.heap.size + 1) 0 (by first | omega | (simp; done) | (simp; omega))]; first | assumption | (simp; done) | simp [go_sem, *]
  have _ : w10.cell? ⟨w5.heap.size + 1, 1, none⟩ = some (.int .i64 b1) := by rw [hc10 (w5.heap.size + 1) 1 (by first | omega | (simp; done) | (simp; omega))]; first | assumption | (simp; done) | simp [go_sem, *]
  have _ : w10.frozen? ⟨w5.heap.size + 1, 1, none⟩ = false := by rw [hf10 (w5.heap.size + 1) 1 (by first | omega | (simp; done) | (simp; omega))]; first | assumption | (simp; done) | simp [go_sem, *]
  have _ : w10.cell? ⟨w6.heap.size, 0, none⟩ = some (.int .i64 n) := by rw [hc10 (w6.heap.size) 0 (by first | omega | (simp; done) | (simp; omega))]; first | assumption | (simp; done) | simp [go_sem, *]
  have _ : w10.frozen? ⟨w6.heap.size, 0, none⟩ = false := by rw [hf10 (w6.heap.size) 0 (by first | omega | (simp; done) | (simp; omega))]; first | assumption | (simp; done) | simp [go_sem, *]
  have _ : w10.cell? ⟨w6.heap.size, 1, none⟩ = some (.int .i64 e) := by rw [hc10 (w6.heap.size) 1 (by first | omega | (simp; done) | (simp; omega))]; first | assumption | (simp; done) | simp [go_sem, *]
  have _ : w10.frozen? ⟨w6.heap.size, 1, none⟩ = false := by rw [hf10 (w6.heap.size) 1 (by first | omega | (simp; done) | (simp; omega))]; first | assumption | (simp; done) | simp [go_sem, *]
  have _ : w10.cell? ⟨w6.heap.size, 2, none⟩ = some (.int .i64 s) := by rw [hc10 (w6.heap.size) 2 (by first | omega | (simp; done) | (simp; omega))]; first | assumption | (simp; done) | simp [go_sem, *]
  have _ : w10.frozen? ⟨w6.heap.size, 2, none⟩ = false := by rw [hf10 (w6.heap.size) 2 (by first | omega | (simp; done) | (simp; omega))]; first | assumption | (simp; done) | simp [go_sem, *]
  have _ : w10.cell? ⟨w6.heap.size, 3, none⟩ = some (.slice p6 ws.length cap6) := by rw [hc10 (w6.heap.size) 3 (by first | omega | (simp; done) | (simp; omega))]; first | assumption | (simp; done) | simp [go_sem, *]
  have _ : w10.frozen? ⟨w6.heap.size, 3, none⟩ = false := by rw [hf10 (w6.heap.size) 3 (by first | omega | (simp; done) | (simp; omega))]; first | assumption | (simp; done) | simp [go_sem, *]
  have _ : w10.cell? ⟨w9.heap.size, 0, none⟩ = some (.int .i64 a0) := by rw [hc10 (w9.heap.size) 0 (by first | omega | (simp; done) | (simp; omega))]; first | assumption | (simp; done) | simp [go_sem, *]
  have _ : w10.frozen? ⟨w9.heap.size, 0, none⟩ = false := by rw [hf10 (w9.heap.size) 0 (by first | omega | (simp; done) | (simp; omega))]; first | assumption | (simp; done) | simp [go_sem, *]
  have _ : w10.cell? ⟨w9.heap.size, 1, none⟩ = some (.int .i64 b0) := by rw [hc10 (w9.heap.size) 1 (by first | omega | (simp; done) | (simp; omega))]; first | assumption | (simp; done) | simp [go_sem, *]
  have _ : w10.frozen? ⟨w9.heap.size, 1, none⟩ = false := by rw [hf10 (w9.heap.size) 1 (by first | omega | (simp; done) | (simp; omega))]; first | assumption | (simp; done) | simp [go_sem, *]
  have _ : w10.cell? ⟨w9.heap.size + 1, 0, none⟩ = some (.int .i64 a1) := by rw [hc10 (w9.heap.size + 1) 0 (by first | omega | (simp; done) | (simp; omega))]; first | assumption | (simp; done) | simp [go_sem, *]
  have _ : w10.frozen? ⟨w9.heap.size + 1, 0, none⟩ = false := by rw [hf10 (w9.heap.size + 1) 0 (by first | omega | (simp; done) | (simp; omega))]; first | assumption | (simp; done) | simp [go_sem, *]
  have _ : w10.cell? ⟨w9.heap.size + 1, 1, none⟩ = some (.int .i64 b1) := by rw [hc10 (w9.heap.size + 1) 1 (by first | omega | (simp; done) | (simp; omega))]; first | assumption | (simp; done) | simp [go_sem, *]
  have _ : w10.frozen? ⟨w9.heap.size + 1, 1, none⟩ = false := by rw [hf10 (w9.heap.size + 1) 1 (by first | omega | (simp; done) | (simp; omega))]; first | assumption | (simp; done) | simp [go_sem, *]
  clear hc10 hf10
  have C10 : Below w.heap.size w w10 := C9a.trans (B10.mono C9a.size)
  replace rn6 := rn6.later B10
  replace rl7 := rl7.later B10
  replace rl8 := rl8.later B10
  go_wp2_with fail
  refine (eq_ratio _ _ _).mono ?_
  rintro en w11 ⟨rfl, B11⟩
  obtain ⟨hc11, hf11⟩ := bcell B11
  have S11 := B11.size
  try simp at S11
  try (have _L11w : w.heap.size < w11.heap.size := by omega)
  have _M11w : w.heap.size ≤ w11.heap.size := by omega
  try (have _P11w_1 : w.heap.size + 1 < w11.heap.size := by omega)
  try (have _P11w_2 : w.heap.size + 1 + 1 < w11.heap.size := by omega)
  try (have _P11w_3 : w.heap.size + 1 + 1 + 1 < w11.heap.size := by omega)
  try (have _L11w1 : w1.heap.size < w11.heap.size := by omega)
  have _M11w1 : w1.heap.size ≤ w11.heap.size := by omega
  try (have _P11w1_1 : w1.heap.size + 1 < w11.heap.size := by omega)
  try (have _P11w1_2 : w1.heap.size + 1 + 1 < w11.heap.size := by omega)
  try (have _P11w1_3 : w1.heap.size + 1 + 1 + 1 < w11.heap.size := by omega)
  try (have _L11w2 : w2.heap.size < w11.heap.size := by omega)
  have _M11w2 : w2.heap.size ≤ w11.heap.size := by omega
  try (have _P11w2_1 : w2.heap.size + 1 < w11.heap.size := by omega)
  try (have _P11w2_2 : w2.heap.size + 1 + 1 < w11.heap.size := by omega)
  try (have _P11w2_3 : w2.heap.size + 1 + 1 + 1 < w11.heap.size := by omega)
  try (have _L11w3 : w3.heap.size < w11.heap.size := by omega)
  have _M11w3 : w3.heap.size ≤ w11.heap.size := by omega
  try (have _P11w3_1 : w3.heap.size + 1 < w11.heap.size := by omega)
  try (have _P11w3_2 : w3.heap.size + 1 + 1 < w11.heap.size := by omega)
  try (have _P11w3_3 : w3.heap.size + 1 + 1 + 1 < w11.heap.size := by omega)
  try (have _L11w4 : w4.heap.size < w11.heap.size := by omega)
  have _M11w4 : w4.heap.size ≤ w11.heap.size := by omega
  try (have _P11w4_1 : w4.heap.size + 1 < w11.heap.size := by omega)
  try (have _P11w4_2 : w4.heap.size + 1 + 1 < w11.heap.size := by omega)
  try (have _P11w4_3 : w4.heap.size + 1 + 1 + 1 < w11.heap.size := by omega)
  try (have _L11w5 : w5.heap.size < w11.heap.size := by omega)
  have _M11w5 : w5.heap.size ≤ w11.heap.size := by omega
  try (have _P11w5_1 : w5.heap.size + 1 < w11.heap.size := by omega)
  try (have _P11w5_2 : w5.heap.size + 1 + 1 < w11.heap.size := by omega)
  try (have _P11w5_3 : w5.heap.size + 1 + 1 + 1 < w11.heap.size := by omega)
  try (have _L11w6 : w6.heap.size < w11.heap.size := by omega)
  have _M11w6 : w6.heap.size ≤ w11.heap.size := by omega
  try (have _P11w6_1 : w6.heap.size + 1 < w11.heap.size := by omega)
  try (have _P11w6_2 : w6.heap.size + 1 + 1 < w11.heap.size := by omega)
  try (have _P11w6_3 : w6.heap.size + 1 + 1 + 1 < w11.heap.size := by omega)
  try (have _L11w7 : w7.heap.size < w11.heap.size := by omega)
  have _M11w7 : w7.heap.size ≤ w11.heap.size := by omega
  try (have _P11w7_1 : w7.heap.size + 1 < w11.heap.size := by omega)
  try (have _P11w7_2 : w7.heap.size + 1 + 1 < w11.heap.size := by omega)
  try (have _P11w7_3 : w7.heap.size + 1 + 1 + 1 < w11.heap.size := by omega)
  try (have _L11w8 : w8.heap.size < w11.heap.size := by omega)
  have _M11w8 : w8.heap.size ≤ w11.heap.size := by omega
  try (have _P11w8_1 : w8.heap.size + 1 < w11.heap.size := by omega)
  try (have _P11w8_2 : w8.heap.size + 1 + 1 < w11.heap.size := by omega)
  try (have _P11w8_3 : w8.heap.size + 1 + 1 + 1 < w11.heap.size := by omega)
  try (have _L11w9 : w9.heap.size < w11.heap.size := by omega)
  have _M11w9 : w9.heap.size ≤ w11.heap.size := by omega
  try (have _P11w9_1 : w9.heap.size + 1 < w11.heap.size := by omega)
  try (have _P11w9_2 : w9.heap.size + 1 + 1 < w11.heap.size := by omega)
  try (have _P11w9_3 : w9.heap.size + 1 + 1 + 1 < w11.heap.size := by omega)
  try (have _L11w10 : w10.heap.size < w11.heap.size := by omega)
  have _M11w10 : w10.heap.size ≤ w11.heap.size := by omega
  try (have _P11w10_1 : w10.heap.size + 1 < w11.heap.size := by omega)
  try (have _P11w10_2 : w10.heap.size + 1 + 1 < w11.heap.size := by omega)
  try (have _P11w10_3 : w10.heap.size + 1 + 1 + 1 < w11.heap.size := by omega)
  have _ : w11.cell? ⟨w.heap.size, 0, none⟩ = some (.int .i64 n) := by rw [hc11 (w.heap.size) 0 (by first | omega | (simp; done) | (simp; omega))]; first | assumption | (simp; done) | simp [go_sem, *]
  have _ : w11.frozen? ⟨w.heap.size, 0, none⟩ = false := by rw [hf11 (w.heap.size) 0 (by first | omega | (simp; done) | (simp; omega))]; first | assumption | (simp; done) | simp [go_sem, *]
  have _ : w11.cell? ⟨w.heap.size, 1, none⟩ = some (.int .i64 e) := by rw [hc11 (w.heap.size) 1 (by first | omega | (simp; done) | (simp; omega))]; first | assumption | (simp; done) | simp [go_sem, *]
  have _ : w11.frozen? ⟨w.heap.size, 1, none⟩ = false := by rw [hf11 (w.heap.size) 1 (by first | omega | (simp; done) | (simp; omega))]; first | assumption | (simp; done) | simp [go_sem, *]
  have _ : w11.cell? ⟨w.heap.size, 2, none⟩ = some (.int .i64 s) := by rw [hc11 (w.heap.size) 2 (by first | omega | (simp; done) | (simp; omega))]; first | assumption | (simp; done) | simp [go_sem, *]
  have _ : w11.frozen? ⟨w.heap.size, 2, none⟩ = false := by rw [hf11 (w.heap.size) 2 (by first | omega | (simp; done) | (simp; omega))]; first | assumption | (simp; done) | simp [go_sem, *]
  have _ : w11.cell? ⟨w.heap.size, 3, none⟩ = some (.slice p ws.length cap) := by rw [hc11 (w.heap.size) 3 (by first | omega | (simp; done) | (simp; omega))]; first | assumption | (simp; done) | simp [go_sem, *]
  have _ : w11.frozen? ⟨w.heap.size, 3, none⟩ = false := by rw [hf11 (w.heap.size) 3 (by first | omega | (simp; done) | (simp; omega))]; first | assumption | (simp; done) | simp [go_sem, *]
  have _ : w11.cell? ⟨w5.heap.size, 0, none⟩ = some (.int .i64 a0) := by rw [hc11 (w5.heap.size) 0 (by first | omega | (simp; done) | (simp; omega))]; first | assumption | (simp; done) | simp [go_sem, *]
  have _ : w11.frozen? ⟨w5.heap.size, 0, none⟩ = false := by rw [hf11 (w5.heap.size) 0 (by first | omega | (simp; done) | (simp; omega))]; first | assumption | (simp; done) | simp [go_sem, *]
  have _ : w11.cell? ⟨w5.heap.size, 1, none⟩ = some (.int .i64 b0) := by rw [hc11 (w5.heap.size) 1 (by first | omega | (simp; done) | (simp; omega))]; first | assumption | (simp; done) | simp [go_sem, *]
  have _ : w11.frozen? ⟨w5.heap.size, 1, none⟩ = false := by rw [hf11 (w5.heap.size) 1 (by first | omega | (simp; done) | (simp; omega))]; first | assumption | (simp; done) | simp [go_sem, *]
  have _ : w11.cell? ⟨w5.heap.size + 1, 0, none⟩ = some (.int .i64 a1) := by rw [hc11 (w5.heap.size + 1) 0 (by first | omega | (simp; done) | (simp; omega))]; first | assumption | (simp; done) | simp [go_sem, *]
  have _ : w11.frozen? ⟨w5.heap.size + 1, 0, none⟩ = false := by rw [hf11 (w5.heap.size + 1) 0 (by first | omega | (simp; done) | (simp; omega))]; first | assumption | (simp; done) | simp [go_sem, *]
  have _ : w11.cell? ⟨w5.heap.size + 1, 1, none⟩ = some (.int .i64 b1) := by rw [hc11 (w5.heap.size + 1) 1 (by first | omega | (simp; done) | (simp; omega))]; first | assumption | (simp; done) | simp [go_sem, *]
  have _ : w11.frozen? ⟨w5.heap.size + 1, 1, none⟩ = false := by rw [hf11 (w5.heap.size + 1) 1 (by first | omega | (simp; done) | (simp; omega))]; first | assumption | (simp; done) | simp [go_sem, *]
  have _ : w11.cell? ⟨w6.heap.size, 0, none⟩ = some (.int .i64 n) := by rw [hc11 (w6.heap.size) 0 (by first | omega | (simp; done) | (simp; omega))]; first | assumption | (simp; done) | simp [go_sem, *]
  have _ : w11.frozen? ⟨w6.heap.size, 0, none⟩ = false := by rw [hf11 (w6.heap.size) 0 (by first | omega | (simp; done) | (simp; omega))]; first | assumption | (simp; done) | simp [go_sem, *]
  have _ : w11.cell? ⟨w6.heap.size, 1, none⟩ = some (.int .i64 e) := by rw [hc11 (w6.heap.size) 1 (by first | omega | (simp; done) | (simp; omega))]; first | assumption | (simp; done) | simp [go_sem, *]
  have _ : w11.frozen? ⟨w6.heap.size, 1, none⟩ = false := by rw [hf11 (w6.heap.size) 1 (by first | omega | (simp; done) | (simp; omega))]; first | assumption | (simp; done) | simp [go_sem, *]
  have _ : w11.cell? ⟨w6.heap.size, 2, none⟩ = some (.int .i64 s) := by rw [hc11 (w6.heap.size) 2 (by first | omega | (simp; done) | (simp; omega))]; first | assumption | (simp; done) | simp [go_sem, *]
  have _ : w11.frozen? ⟨w6.heap.size, 2, none⟩ = false := by rw [hf11 (w6.heap.size) 2 (by first | omega | (simp; done) | (simp; omega))]; first | assumption | (simp; done) | simp [go_sem, *]
  have _ : w11.cell? ⟨w6.heap.size, 3, none⟩ = some (.slice p6 ws.length cap6) := by rw [hc11 (w6.heap.size) 3 (by first | omega | (simp; done) | (simp; omega))]; first | assumption | (simp; done) | simp [go_sem, *]
  have _ : w11.frozen? ⟨w6.heap.size, 3, none⟩ = false := by rw [hf11 (w6.heap.size) 3 (by first | omega | (simp; done) | (simp; omega))]; first | assumption | (simp; done) | simp [go_sem, *]
  have _ : w11.cell? ⟨w9.heap.size, 0, none⟩ = some (.int .i64 a0) := by rw [hc11 (w9.heap.size) 0 (by first | omega | (simp; done) | (simp; omega))]; first | assumption | (simp; done) | simp [go_sem, *]
  have _ : w11.frozen? ⟨w9.heap.size, 0, none⟩ = false := by rw [hf11 (w9.heap.size) 0 (by first | omega | (simp; done) | (simp; omega))]; first | assumption | (simp; done) | simp [go_sem, *]
  have _ : w11.cell? ⟨w9.heap.size, 1, none⟩ = some (.int .i64 b0) := by rw [hc11 (w9.heap.size) 1 (by first | omega | (simp; done) | (simp; omega))]; first | assumption | (simp; done) | simp [go_sem, *]
  have _ : w11.frozen? ⟨w9.heap.size, 1, none⟩ = false := by rw [hf11 (w9.heap.size) 1 (by first | omega | (simp; done) | (simp; omega))]; first | assumption | (simp; done) | simp [go_sem, *]
  have _ : w11.cell? ⟨w9.heap.size + 1, 0, none⟩ = some (.int .i64 a1) := by rw [hc11 (w9.heap.size + 1) 0 (by first | omega | (simp; done) | (simp; omega))]; first | assumption | (simp; done) | simp [go_sem, *]
  have _ : w11.frozen? ⟨w9.heap.size + 1, 0, none⟩ = false := by rw [hf11 (w9.heap.size + 1) 0 (by first | omega | (simp; done) | (simp; omega))]; first | assumption | (simp; done) | simp [go_sem, *]
  have _ : w11.cell? ⟨w9.heap.size + 1, 1, none⟩ = some (.int .i64 b1) := by rw [hc11 (w9.heap.size + 1) 1 (by first | omega | (simp; done) | (simp; omega))]; first | assumption | (simp; done) | simp [go_sem, *]
  have _ : w11.frozen? ⟨w9.heap.size + 1, 1, none⟩ = false := by rw [hf11 (w9.heap.size + 1) 1 (by first | omega | (simp; done) | (simp; omega))]; first | assumption | (simp; done) | simp [go_sem, *]
  clear hc11 hf11
  have C11 : Below w.heap.size w w11 := C10.trans (B11.mono C10.size)
  replace rn6 := rn6.later B11
  replace rl7 := rl7.later B11
  replace rl8 := rl8.later B11
  have hS : (w11.cell? ⟨w.heap.size, 0, none⟩ = some (.int .i64 n) ∧ w11.cell? ⟨w.heap.size, 1, none⟩ = some (.int .i64 e) ∧ w11.cell? ⟨w.heap.size, 2, none⟩ = some (.int .i64 s) ∧ w11.cell? ⟨w.heap.size, 3, none⟩ = some (.slice p ws.length cap)) ∧ (w11.cell? ⟨w6.heap.size, 0, none⟩ = some (.int .i64 n) ∧ w11.cell? ⟨w6.heap.size, 1, none⟩ = some (.int .i64 e) ∧ w11.cell? ⟨w6.heap.size, 2, none⟩ = some (.int .i64 s) ∧ w11.cell? ⟨w6.heap.size, 3, none⟩ = some (.slice p6 ws.length cap6)) ∧ ReadsW w11 (.slice p ws.length cap) ws ∧ ReadsW w11 (.slice p6 ws.length cap6) ws ∧ w11.heap.size ≤ w11.heap.size ∧ Below w11.heap.size w11 w11 := ⟨⟨by assumption, by assumption, by assumption, by assumption⟩, ⟨by assumption, by assumption, by assumption, by assumption⟩, HR.out.later C11, rn6, Nat.le_refl _, Below.refl _ _⟩
  go_wp2
  replace hS := net2_drew hS
  go_region_held3 (fun w' => (w'.cell? ⟨w.heap.size, 0, none⟩ = some (.int .i64 n) ∧ w'.cell? ⟨w.heap.size, 1, none⟩ = some (.int .i64 e) ∧ w'.cell? ⟨w.heap.size, 2, none⟩ = some (.int .i64 s) ∧ w'.cell? ⟨w.heap.size, 3, none⟩ = some (.slice p ws.length cap)) ∧ (w'.cell? ⟨w6.heap.size, 0, none⟩ = some (.int .i64 n) ∧ w'.cell? ⟨w6.heap.size, 1, none⟩ = some (.int .i64 e) ∧ w'.cell? ⟨w6.heap.size, 2, none⟩ = some (.int .i64 s) ∧ w'.cell? ⟨w6.heap.size, 3, none⟩ = some (.slice p6 ws.length cap6)) ∧ ReadsW w' (.slice p ws.length cap) ws ∧ ReadsW w' (.slice p6 ws.length cap6) ws ∧ w11.heap.size ≤ w'.heap.size ∧ Below w11.heap.size w11 w')
    (first | exact hS)
    (first | (go_at_call 31; with_reducible refine Calls.mono (toNet_any n e s _ ws _ hle hS.2.2.1) ?_; rintro en wa ⟨p96, cap96, rfl, o96, B96⟩; replace hS := net2_keep B96 hS; have hN := ReadsW.of_own o96) | (go_at_call 34; with_reducible refine Calls.mono (eqNet_same n e s _ _ ws _ hS.2.2.2.1 hN) ?_; rintro en wa ⟨rfl, B96⟩; replace hS := net2_keep B96 hS))
  all_goals
    have Cq := C11.trans (hS.2.2.2.2.2.mono C11.size)
    replace rl7 := rl7.later hS.2.2.2.2.2
    replace rl8 := rl8.later hS.2.2.2.2.2
    clear hS
    go_wp2_with fail
    refine (toIntS_any _ l1 _ (by omega) (Hl1.out.later Cq)).mono ?_
    rintro en wc0 ⟨vc0, rfl, oc0, Bc0⟩
    have Cc0 : Below w.heap.size w wc0 := Cq.trans (Bc0.mono Cq.size)
    replace rl7 := rl7.later Bc0
    replace rl8 := rl8.later Bc0
    go_wp2_with fail
    refine (eqIntS_same _ _ l1 _ rl7 (ReadsI.of_own oc0)).mono ?_
    rintro en wd0 ⟨rfl, Bd0⟩
    have Cd0 : Below w.heap.size w wd0 := Cc0.trans (Bd0.mono Cc0.size)
    replace rl8 := rl8.later Bd0
    go_wp2_with fail
    refine (toIntS_any _ l2 _ (by omega) (Hl2.out.later Cd0)).mono ?_
    rintro en wc1 ⟨vc1, rfl, oc1, Bc1⟩
    have Cc1 : Below w.heap.size w wc1 := Cd0.trans (Bc1.mono Cd0.size)
    replace rl8 := rl8.later Bc1
    go_wp2_with fail
    refine (eqIntS_same _ _ l2 _ rl8 (ReadsI.of_own oc1)).mono ?_
    rintro en wd1 ⟨rfl, Bd1⟩
    have Cd1 : Below w.heap.size w wd1 := Cc1.trans (Bd1.mono Cc1.size)
    go_wp2
    go_ret
    exact ⟨rfl, Cd1⟩

theorem own : ownKnob Try.prog.godebug = none := by kernel_rfl
theorem cells_net : Try.prog.cellsOf 56 = 4 := by kernel_rfl
theorem cells_wire : Try.prog.cellsOf 131 = 3 := by kernel_rfl
theorem laidOut : laidOutB Try.prog = true := by kernel_rfl
set_option maxRecDepth 100000 in
theorem lifted (os : Os) (started : os.Started) (H : Type) (enc : TypeId × Value → H) :
    ReturnsInHanded {} Try.checked os 9 .any (Rows.fnExactResistanceRangeSpec.pre6 enc Try.prog Try.f9 Rows.fnExactResistanceRangeRow.domain false) (Rows.fnExactResistanceRangeSpec.post enc Try.prog Try.f9 false true false false) := by
  refine returnsInHanded_of_change (C := Try.checked) own started (by kernel_rfl) Try.func9
    (ChangeSpec.witness6 (enc := enc) (C := Try.checked) false ⟨#[], #[.agg #[.int .i64 0, .int .i64 0, .int .i64 0, .slice none 0 0], .slice none 0 0, .slice none 0 0, .int .i64 0, .int .i64 0], []⟩ 8 (by kernel_rfl) (by kernel_rfl) (by kernel_rfl) (by kernel_rfl)) ?_
  intro W base args ds gs before hval0 hW hcnd _
  have hval : ∀ (j : Nat) t v, Try.f9.params[j]? = some t → args[j]? = some v → Value.okWide Try.prog W .any base t v := hval0
  have hW' := hW
  obtain ⟨p, q, hA0, hV, rfl, hfz, hnd⟩ := hW
  have hA : DataW.TrodAll enc Try.prog W 0 (fun _ => true) true Try.f9.params.toList args.toList ds p := hA0
  rw [Try.params9] at hA hval
  obtain ⟨v0, v1, v2, v3, v4, d0, d1, d2, d3, d4, p0, p1, p2, p3, p4, rfl, rfl, rfl, h0, h1, h2, h3, h4⟩ := trodAll_five hA
  obtain ⟨rfl, rfl⟩ := trodVars_none hV
  obtain ⟨c0a, c0b, c0c, c0d, y0a, y0b, y0c, y0d, m0, rfl, rfl, _, hy0a, hy0b, hy0c, hy0d⟩ := Go.Joins.open_agg4 Try.underlying56 (by kernel_rfl) cells_net (hval 0 56 v0 rfl rfl) h0
  obtain ⟨x0a, e0a, _, wx0a⟩ := DataW.trod_int Try.underlying3 hy0a
  simp at e0a
  subst e0a
  obtain ⟨x0b, e0b, _, wx0b⟩ := DataW.trod_int Try.underlying3 hy0b
  simp at e0b
  subst e0b
  obtain ⟨x0c, e0c, _, wx0c⟩ := DataW.trod_int Try.underlying3 hy0c
  simp at e0c
  subst e0c
  obtain ⟨ws0, wr0⟩ := open_wires Try.underlying54 Try.underlying131 (by kernel_rfl) cells_wire rfl rfl rfl Try.underlying3 hy0d
  obtain ⟨a1, n1, c1, rfl⟩ := okWide_slice Try.underlying38 (hval 1 38 v1 rfl rfl)
  obtain ⟨fu1, hf1⟩ := id h1
  obtain ⟨x1, wx1⟩ := open_ints Try.underlying38 Try.underlying3 (by kernel_rfl) hf1
  obtain ⟨a2, n2, c2, rfl⟩ := okWide_slice Try.underlying38 (hval 2 38 v2 rfl rfl)
  obtain ⟨fu2, hf2⟩ := id h2
  obtain ⟨x2, wx2⟩ := open_ints Try.underlying38 Try.underlying3 (by kernel_rfl) hf2
  obtain ⟨x3, rfl, rfl, rfl, wx3⟩ := open_int Try.underlying3 (hval 3 3 v3 rfl rfl) h3
  obtain ⟨x4, rfl, rfl, rfl, wx4⟩ := open_int Try.underlying3 (hval 4 3 v4 rfl rfl) h4
  clear hA0 hval0
  simp only [List.append_nil] at hW'
  refine (walk x0a x0b x0c c0d ws0 (.slice a1 n1 c1) x1 (.slice a2 n2 c2) x2 x3 x4 W wx0a wx0b wx0c wr0 wx1 wx2 wx3 wx4).mono fun e W' ⟨he, hB⟩ => ?_
  subst he
  refine ⟨_, rfl, _, _, _, [], (p0 ++ (p1 ++ (p2 ++ ([] ++ ([]))))), [], hW', ?_, ?_, ?_, hB.frame _, fun h => by cases h⟩
  · exact trodAll_mk1 (shut_bool Try.underlying4 true)
  · exact trodAll_mk5 (Below.trod laidOut (by kernel_rfl) (of_decide_eq_true (by kernel_rfl)) h0 hB (fun x hx => hW'.lt x (by simp [hx]))) (Below.trod laidOut (by kernel_rfl) (of_decide_eq_true (by kernel_rfl)) h1 hB (fun x hx => hW'.lt x (by simp [hx]))) (Below.trod laidOut (by kernel_rfl) (of_decide_eq_true (by kernel_rfl)) h2 hB (fun x hx => hW'.lt x (by simp [hx]))) (shut_int Try.underlying3 wx3) (shut_int Try.underlying3 wx4)
  · rfl

theorem q0 : Try.checked.prog.funcNamed Rows.fnExactResistanceRangeRow.func = some 9 := by kernel_rfl
theorem q1 : (Rows.fnExactResistanceRangeRow.inPlace == Try.prog.inPlace 9) = true := by kernel_rfl
theorem q2 : (Rows.fnExactResistanceRangeRow.unfollowed == Try.prog.unfollowed 9) = true := by kernel_rfl
theorem q3 : (Rows.fnExactResistanceRangeRow.recurses == Try.prog.recurses 9) = true := by kernel_rfl
theorem q4 : (Rows.fnExactResistanceRangeRow.named == Try.prog.varsNamed 9) = true := by kernel_rfl
theorem q5 : (Rows.fnExactResistanceRangeRow.plainKeys == Try.prog.plainKeys) = true := by kernel_rfl
theorem q6 : laidOutB Try.prog = true := by kernel_rfl
theorem q7 : mapsRowed Try.prog = true := by kernel_rfl
theorem q8 : namedTie Try.prog Rows.fnExactResistanceRangeRow.named Rows.fnExactResistanceRangeSpec.vars = true := by kernel_rfl
theorem closedFacts : joinedFacts Try.prog 9 Try.f9 Rows.fnExactResistanceRangeSpec Rows.fnExactResistanceRangeRow = true := by
  unfold joinedFacts
  simp only [Bool.and_eq_true]
  repeat' apply And.intro
  all_goals first | with_reducible exact q1 | with_reducible exact q2 | with_reducible exact q3 | with_reducible exact q4 | with_reducible exact q5 | with_reducible exact q6 | with_reducible exact q7 | with_reducible exact q8 | kernel_rfl

theorem holds : Rows.FnExactResistanceRangeSaid :=
  OpenClaim.holds_of_wide 9 Try.f9 rfl rfl rfl rfl rfl rfl rfl ⟨rfl, rfl, rfl, rfl, rfl⟩ rfl rfl rfl rfl rfl q0 Try.func9 closedFacts
    (of_decide_eq_true (by kernel_rfl)) (by unfold Func.isWrapper; first | (rw [if_pos (by decide +kernel)]; kernel_rfl) | (rw [if_neg (by decide +kernel)]; exact ⟨rfl, rfl⟩))
    (fun os started H enc _ => lifted os started H enc)
end ResistanceRangeLaw
end Go.Proofs.Ytaececpphdaciaa
