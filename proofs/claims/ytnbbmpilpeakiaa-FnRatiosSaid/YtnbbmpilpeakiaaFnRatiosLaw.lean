/-
  FnRatios: for every code the sums, differences, products and inverses of three small fractions obey the laws of arithmetic. No condition.
-/
import Derived.Test.YtnbbmpilpeakiaaRows
import Derived.Test.YtnbbmpilpeakiaaRatCalls
namespace Go.Proofs.Ytnbbmpilpeakiaa
open Go.ChangeShapes Go.WideShapes Go.ChangeAt Go.RowKit

namespace FnRatiosLaw
set_option maxRecDepth 8000 in
set_option maxHeartbeats 6400000 in
theorem walk (v : Value) (k : Nat) (w : World) (hv : BytesAt w v k) :
    Calls Try.prog 3 #[v] w fun en w' => en = .returned (.bool true) ∧ Below w.heap.size w w' := by
  obtain ⟨a0, cap, rfl⟩ : ∃ a0 cap, v = .slice a0 k cap := by
    rcases hv.2 with ⟨rfl, p, cap, rfl⟩ | ⟨g, o, cap, rfl, _⟩
    · exact ⟨_, _, rfl⟩
    · exact ⟨_, _, rfl⟩
  have hnm := hv.1
  by_cases hb : 1048576 < k
  · go_enter Try.func3, Try.ntmps3
    go_wp2
    go_ret
    exact ⟨rfl, Below.refl _ _⟩
  have hk : k ≤ 1048576 := by omega
  have hat := fun (w' : World) (h : Below w.heap.size w w') => hv.on h
  have HAT := Lib.hid hat; clear hat
  go_enter Try.func3, Try.ntmps3
  go_wp2_with fail
  refine (makeRatio_any _ k 0 _ rfl (by omega) _ (HAT.out _ (Below.refl _ _)) hk).mono ?_
  rintro en w1 ⟨⟨n, d, p, q, rfl, ha⟩, B1⟩
  have S1 := B1.size
  have HA := Lib.hid ha; clear ha
  go_wp2_with fail
  refine (makeRatio_any _ k 4 _ rfl (by omega) _ (HAT.out _ (by (repeat (first | exact Below.refl _ _ | (refine Below.setCell ?_ (by (first | exact Nat.le_refl _ | omega | (simp <;> omega) | simp)) _) | (refine Below.alloc ?_ (by (first | exact Nat.le_refl _ | omega | (simp <;> omega) | simp)) _) | (refine below_draws ?_ _) | exact B1 | (refine Below.trans ?_ (Below.mono B1 (by (first | exact Nat.le_refl _ | omega | (simp <;> omega) | simp)))))))) hk).mono ?_
  rintro en w2 ⟨⟨m, e, r, t, rfl, hb'⟩, B2⟩
  have C2 : Below w.heap.size w w2 := by (repeat (first | exact Below.refl _ _ | (refine Below.setCell ?_ (by (first | exact Nat.le_refl _ | omega | (simp <;> omega) | simp)) _) | (refine Below.alloc ?_ (by (first | exact Nat.le_refl _ | omega | (simp <;> omega) | simp)) _) | (refine below_draws ?_ _) | exact B1 | (refine Below.trans ?_ (Below.mono B1 (by (first | exact Nat.le_refl _ | omega | (simp <;> omega) | simp)))) | exact B2 | (refine Below.trans ?_ (Below.mono B2 (by (first | exact Nat.le_refl _ | omega | (simp <;> omega) | simp))))))
  have HB := Lib.hid hb'; clear hb'
  obtain ⟨hc2, hf2⟩ := bcell B2
  have S2 := B2.size
  try simp at S2
  try (have _L2w : w.heap.size < w2.heap.size := by omega)
  have _M2w : w.heap.size ≤ w2.heap.size := by omega
  try (have _P2w_1 : w.heap.size + 1 < w2.heap.size := by omega)
  try (have _P2w_2 : w.heap.size + 1 + 1 < w2.heap.size := by omega)
  try (have _P2w_3 : w.heap.size + 1 + 1 + 1 < w2.heap.size := by omega)
  try (have _L2w1 : w1.heap.size < w2.heap.size := by omega)
  have _M2w1 : w1.heap.size ≤ w2.heap.size := by omega
  try (have _P2w1_1 : w1.heap.size + 1 < w2.heap.size := by omega)
  try (have _P2w1_2 : w1.heap.size + 1 + 1 < w2.heap.size := by omega)
  try (have _P2w1_3 : w1.heap.size + 1 + 1 + 1 < w2.heap.size := by omega)
  have _ : w2.cell? ⟨w1.heap.size, 0, none⟩ = some (.int .i64 n) := by rw [hc2 (w1.heap.size) 0 (by first | omega | (simp; done) | (simp; omega))]; first | assumption | (simp; done) | simp [go_sem, *]
  have _ : w2.cell? ⟨w1.heap.size, 1, none⟩ = some (.int .i64 d) := by rw [hc2 (w1.heap.size) 1 (by first | omega | (simp; done) | (simp; omega))]; first | assumption | (simp; done) | simp [go_sem, *]
  clear hc2 hf2
  go_wp2_with fail
  refine (makeRatio_any _ k 8 _ rfl (by omega) _ (HAT.out _ (by (repeat (first | exact Below.refl _ _ | (refine Below.setCell ?_ (by (first | exact Nat.le_refl _ | omega | (simp <;> omega) | simp)) _) | (refine Below.alloc ?_ (by (first | exact Nat.le_refl _ | omega | (simp <;> omega) | simp)) _) | (refine below_draws ?_ _) | exact C2 | (refine Below.trans ?_ (Below.mono C2 (by (first | exact Nat.le_refl _ | omega | (simp <;> omega) | simp)))))))) hk).mono ?_
  rintro en w3 ⟨⟨f, g, x, y, rfl, hc⟩, B3⟩
  have C3 : Below w.heap.size w w3 := by (repeat (first | exact Below.refl _ _ | (refine Below.setCell ?_ (by (first | exact Nat.le_refl _ | omega | (simp <;> omega) | simp)) _) | (refine Below.alloc ?_ (by (first | exact Nat.le_refl _ | omega | (simp <;> omega) | simp)) _) | (refine below_draws ?_ _) | exact C2 | (refine Below.trans ?_ (Below.mono C2 (by (first | exact Nat.le_refl _ | omega | (simp <;> omega) | simp)))) | exact B3 | (refine Below.trans ?_ (Below.mono B3 (by (first | exact Nat.le_refl _ | omega | (simp <;> omega) | simp))))))
  have HC := Lib.hid hc; clear hc
  obtain ⟨hc3, hf3⟩ := bcell B3
  have S3 := B3.size
  try simp at S3
  try (have _L3w : w.heap.size < w3.heap.size := by omega)
  have _M3w : w.heap.size ≤ w3.heap.size := by omega
  try (have _P3w_1 : w.heap.size + 1 < w3.heap.size := by omega)
  try (have _P3w_2 : w.heap.size + 1 + 1 < w3.heap.size := by omega)
  try (have _P3w_3 : w.heap.size + 1 + 1 + 1 < w3.heap.size := by omega)
  try (have _L3w1 : w1.heap.size < w3.heap.size := by omega)
  have _M3w1 : w1.heap.size ≤ w3.heap.size := by omega
  try (have _P3w1_1 : w1.heap.size + 1 < w3.heap.size := by omega)
  try (have _P3w1_2 : w1.heap.size + 1 + 1 < w3.heap.size := by omega)
  try (have _P3w1_3 : w1.heap.size + 1 + 1 + 1 < w3.heap.size := by omega)
  try (have _L3w2 : w2.heap.size < w3.heap.size := by omega)
  have _M3w2 : w2.heap.size ≤ w3.heap.size := by omega
  try (have _P3w2_1 : w2.heap.size + 1 < w3.heap.size := by omega)
  try (have _P3w2_2 : w2.heap.size + 1 + 1 < w3.heap.size := by omega)
  try (have _P3w2_3 : w2.heap.size + 1 + 1 + 1 < w3.heap.size := by omega)
  have _ : w3.cell? ⟨w1.heap.size, 0, none⟩ = some (.int .i64 n) := by rw [hc3 (w1.heap.size) 0 (by first | omega | (simp; done) | (simp; omega))]; first | assumption | (simp; done) | simp [go_sem, *]
  have _ : w3.cell? ⟨w1.heap.size, 1, none⟩ = some (.int .i64 d) := by rw [hc3 (w1.heap.size) 1 (by first | omega | (simp; done) | (simp; omega))]; first | assumption | (simp; done) | simp [go_sem, *]
  have _ : w3.cell? ⟨w2.heap.size, 0, none⟩ = some (.int .i64 m) := by rw [hc3 (w2.heap.size) 0 (by first | omega | (simp; done) | (simp; omega))]; first | assumption | (simp; done) | simp [go_sem, *]
  have _ : w3.cell? ⟨w2.heap.size, 1, none⟩ = some (.int .i64 e) := by rw [hc3 (w2.heap.size) 1 (by first | omega | (simp; done) | (simp; omega))]; first | assumption | (simp; done) | simp [go_sem, *]
  clear hc3 hf3
  obtain ⟨s1, s2, p1, p2, l1, l2, u1, u2, v1, v2, c, R⟩ := rat_run HA.out HB.out HC.out
  have ia := ok_in HA.out.is.1
  have ib := ok_in HB.out.is.1
  have ic := ok_in HC.out.is.1
  have is_ := ok_in R.oks
  have il := ok_in R.okl
  have iu := times_in R.tac
  have iv := times_in R.tbc
  have iz : In 0 ∧ In 1 := by simp [In]
  have Qab := Lib.hid (c_sum R.sab ia ib); have Qba := Lib.hid (c_sum R.sba ib ia)
  have Qos := Lib.hid (c_ok R.oks); have Qol := Lib.hid (c_ok R.okl)
  have Qsb := Lib.hid (c_diff R.dsb is_ ib); have Qaa := Lib.hid (c_diff R.daa ia ia)
  have Qtab := Lib.hid (c_times R.tab ia ib); have Qtba := Lib.hid (c_times R.tba ib ia)
  have Qtsc := Lib.hid (c_times R.tsc is_ ic); have Qtac := Lib.hid (c_times R.tac ia ic); have Qtbc := Lib.hid (c_times R.tbc ib ic)
  have Quv := Lib.hid (c_sum R.suv iu iv)
  have Qca := Lib.hid (c_cmp R.csa is_ ia); have Qcz := Lib.hid (c_cmp R.cbz ib iz)
  have QI := Lib.hid R.inv
  have IA := Lib.hid ia
  clear R ia ib ic is_ il iu iv iz HA HB HC B1 B2 B3
  go_wp2_with fail
  with_reducible refine Calls.mono (Qab.out _) ?_
  rintro en w4 ⟨rfl, B4⟩
  have C4 : Below w.heap.size w w4 := by (repeat (first | exact Below.refl _ _ | (refine Below.setCell ?_ (by (first | exact Nat.le_refl _ | omega | (simp <;> omega) | simp)) _) | (refine Below.alloc ?_ (by (first | exact Nat.le_refl _ | omega | (simp <;> omega) | simp)) _) | (refine below_draws ?_ _) | exact C3 | (refine Below.trans ?_ (Below.mono C3 (by (first | exact Nat.le_refl _ | omega | (simp <;> omega) | simp)))) | exact B4 | (refine Below.trans ?_ (Below.mono B4 (by (first | exact Nat.le_refl _ | omega | (simp <;> omega) | simp))))))
  obtain ⟨hc4, hf4⟩ := bcell B4
  have S4 := B4.size
  try simp at S4
  try (have _L4w : w.heap.size < w4.heap.size := by omega)
  have _M4w : w.heap.size ≤ w4.heap.size := by omega
  try (have _P4w_1 : w.heap.size + 1 < w4.heap.size := by omega)
  try (have _P4w_2 : w.heap.size + 1 + 1 < w4.heap.size := by omega)
  try (have _P4w_3 : w.heap.size + 1 + 1 + 1 < w4.heap.size := by omega)
  try (have _L4w1 : w1.heap.size < w4.heap.size := by omega)
  have _M4w1 : w1.heap.size ≤ w4.heap.size := by omega
  try (have _P4w1_1 : w1.heap.size + 1 < w4.heap.size := by omega)
  try (have _P4w1_2 : w1.heap.size + 1 + 1 < w4.heap.size := by omega)
  try (have _P4w1_3 : w1.heap.size + 1 + 1 + 1 < w4.heap.size := by omega)
  try (have _L4w2 : w2.heap.size < w4.heap.size := by omega)
  have _M4w2 : w2.heap.size ≤ w4.heap.size := by omega
  try (have _P4w2_1 : w2.heap.size + 1 < w4.heap.size := by omega)
  try (have _P4w2_2 : w2.heap.size + 1 + 1 < w4.heap.size := by omega)
  try (have _P4w2_3 : w2.heap.size + 1 + 1 + 1 < w4.heap.size := by omega)
  try (have _L4w3 : w3.heap.size < w4.heap.size := by omega)
  have _M4w3 : w3.heap.size ≤ w4.heap.size := by omega
  try (have _P4w3_1 : w3.heap.size + 1 < w4.heap.size := by omega)
  try (have _P4w3_2 : w3.heap.size + 1 + 1 < w4.heap.size := by omega)
  try (have _P4w3_3 : w3.heap.size + 1 + 1 + 1 < w4.heap.size := by omega)
  have _ : w4.cell? ⟨w1.heap.size, 0, none⟩ = some (.int .i64 n) := by rw [hc4 (w1.heap.size) 0 (by first | omega | (simp; done) | (simp; omega))]; first | assumption | (simp; done) | simp [go_sem, *]
  have _ : w4.cell? ⟨w1.heap.size, 1, none⟩ = some (.int .i64 d) := by rw [hc4 (w1.heap.size) 1 (by first | omega | (simp; done) | (simp; omega))]; first | assumption | (simp; done) | simp [go_sem, *]
  have _ : w4.cell? ⟨w2.heap.size, 0, none⟩ = some (.int .i64 m) := by rw [hc4 (w2.heap.size) 0 (by first | omega | (simp; done) | (simp; omega))]; first | assumption | (simp; done) | simp [go_sem, *]
  have _ : w4.cell? ⟨w2.heap.size, 1, none⟩ = some (.int .i64 e) := by rw [hc4 (w2.heap.size) 1 (by first | omega | (simp; done) | (simp; omega))]; first | assumption | (simp; done) | simp [go_sem, *]
  have _ : w4.cell? ⟨w3.heap.size, 0, none⟩ = some (.int .i64 f) := by rw [hc4 (w3.heap.size) 0 (by first | omega | (simp; done) | (simp; omega))]; first | assumption | (simp; done) | simp [go_sem, *]
  have _ : w4.cell? ⟨w3.heap.size, 1, none⟩ = some (.int .i64 g) := by rw [hc4 (w3.heap.size) 1 (by first | omega | (simp; done) | (simp; omega))]; first | assumption | (simp; done) | simp [go_sem, *]
  clear hc4 hf4
  clear B4 C2 C3

  have hS0 : (w4.alloc (.cells #[.int .i64 s1, .int .i64 s2] 24)).cell? ⟨w1.heap.size, 0, none⟩ = some (.int .i64 n) ∧ (w4.alloc (.cells #[.int .i64 s1, .int .i64 s2] 24)).cell? ⟨w1.heap.size, 1, none⟩ = some (.int .i64 d) ∧ (w4.alloc (.cells #[.int .i64 s1, .int .i64 s2] 24)).cell? ⟨w2.heap.size, 0, none⟩ = some (.int .i64 m) ∧ (w4.alloc (.cells #[.int .i64 s1, .int .i64 s2] 24)).cell? ⟨w2.heap.size, 1, none⟩ = some (.int .i64 e) ∧ (w4.alloc (.cells #[.int .i64 s1, .int .i64 s2] 24)).cell? ⟨w3.heap.size, 0, none⟩ = some (.int .i64 f) ∧ (w4.alloc (.cells #[.int .i64 s1, .int .i64 s2] 24)).cell? ⟨w3.heap.size, 1, none⟩ = some (.int .i64 g) ∧ (w4.alloc (.cells #[.int .i64 s1, .int .i64 s2] 24)).cell? ⟨w4.heap.size, 0, none⟩ = some (.int .i64 s1) ∧ (w4.alloc (.cells #[.int .i64 s1, .int .i64 s2] 24)).cell? ⟨w4.heap.size, 1, none⟩ = some (.int .i64 s2) ∧ w4.heap.size ≤ (w4.alloc (.cells #[.int .i64 s1, .int .i64 s2] 24)).heap.size ∧ w.heap.size ≤ w4.heap.size ∧ Below w.heap.size w (w4.alloc (.cells #[.int .i64 s1, .int .i64 s2] 24)) := ⟨by first | assumption | (simp; done) | simp [go_sem, *], by first | assumption | (simp; done) | simp [go_sem, *], by first | assumption | (simp; done) | simp [go_sem, *], by first | assumption | (simp; done) | simp [go_sem, *], by first | assumption | (simp; done) | simp [go_sem, *], by first | assumption | (simp; done) | simp [go_sem, *], by first | assumption | (simp; done) | simp [go_sem, *], by first | assumption | (simp; done) | simp [go_sem, *], by first | (simp; done) | (simp; omega), by omega, by (repeat (first | exact Below.refl _ _ | (refine Below.setCell ?_ (by (first | exact Nat.le_refl _ | omega | (simp <;> omega) | simp)) _) | (refine Below.alloc ?_ (by (first | exact Nat.le_refl _ | omega | (simp <;> omega) | simp)) _) | (refine below_draws ?_ _) | exact C4 | (refine Below.trans ?_ (Below.mono C4 (by (first | exact Nat.le_refl _ | omega | (simp <;> omega) | simp))))))⟩
  go_wp2
  have hS := k8_drew hS0
  clear hS0
  go_region_held3 (fun w' => w'.cell? ⟨w1.heap.size, 0, none⟩ = some (.int .i64 n) ∧ w'.cell? ⟨w1.heap.size, 1, none⟩ = some (.int .i64 d) ∧ w'.cell? ⟨w2.heap.size, 0, none⟩ = some (.int .i64 m) ∧ w'.cell? ⟨w2.heap.size, 1, none⟩ = some (.int .i64 e) ∧ w'.cell? ⟨w3.heap.size, 0, none⟩ = some (.int .i64 f) ∧ w'.cell? ⟨w3.heap.size, 1, none⟩ = some (.int .i64 g) ∧ w'.cell? ⟨w4.heap.size, 0, none⟩ = some (.int .i64 s1) ∧ w'.cell? ⟨w4.heap.size, 1, none⟩ = some (.int .i64 s2) ∧ w4.heap.size ≤ w'.heap.size ∧ w.heap.size ≤ w4.heap.size ∧ Below w.heap.size w w')
    (first | exact hS)
    (first
      | (go_at_call 16; with_reducible refine Calls.mono (Qos.out _) ?_; rintro en wa ⟨rfl, Ba⟩; replace hS := k8_keep Ba hS)
      | (go_at_call 15; with_reducible refine Calls.mono (Qba.out _) ?_; rintro en wb ⟨rfl, Bb⟩; replace hS := k8_keep Bb hS)
      | (go_at_call 17; with_reducible refine Calls.mono (Qsb.out _) ?_; rintro en wc ⟨rfl, Bc⟩; replace hS := k8_keep Bc hS)
      | (go_at_call 18; with_reducible refine Calls.mono (Qtab.out _) ?_; rintro en wd ⟨rfl, Bd⟩; replace hS := k8_keep Bd hS)
      | (go_at_call 18; with_reducible refine Calls.mono (Qtba.out _) ?_; rintro en we ⟨rfl, Be⟩; replace hS := k8_keep Be hS))
  obtain ⟨b0, b1, b2, b3, b4, b5, b6, b7, z1, z2, z3⟩ := id hS
  go_wp2_with fail
  with_reducible refine Calls.mono (Qtsc.out _) ?_
  rintro en w5 ⟨rfl, B5⟩
  replace hS := k8_keep B5 hS
  have z0 := hS.2.2.2.2.2.2.2.2.1
  clear b0 b1 b2 b3 b4 b5 b6 b7 z1 z2 z3
  obtain ⟨b0, b1, b2, b3, b4, b5, b6, b7, z1, z2, z3⟩ := k8_alloc (o := .cells #[.int .i64 l1, .int .i64 l2] 24) hS
  have hT : (w5.alloc (.cells #[.int .i64 l1, .int .i64 l2] 24)).cell? ⟨w1.heap.size, 0, none⟩ = some (.int .i64 n) ∧ (w5.alloc (.cells #[.int .i64 l1, .int .i64 l2] 24)).cell? ⟨w1.heap.size, 1, none⟩ = some (.int .i64 d) ∧ (w5.alloc (.cells #[.int .i64 l1, .int .i64 l2] 24)).cell? ⟨w2.heap.size, 0, none⟩ = some (.int .i64 m) ∧ (w5.alloc (.cells #[.int .i64 l1, .int .i64 l2] 24)).cell? ⟨w2.heap.size, 1, none⟩ = some (.int .i64 e) ∧ (w5.alloc (.cells #[.int .i64 l1, .int .i64 l2] 24)).cell? ⟨w3.heap.size, 0, none⟩ = some (.int .i64 f) ∧ (w5.alloc (.cells #[.int .i64 l1, .int .i64 l2] 24)).cell? ⟨w3.heap.size, 1, none⟩ = some (.int .i64 g) ∧ (w5.alloc (.cells #[.int .i64 l1, .int .i64 l2] 24)).cell? ⟨w4.heap.size, 0, none⟩ = some (.int .i64 s1) ∧ (w5.alloc (.cells #[.int .i64 l1, .int .i64 l2] 24)).cell? ⟨w4.heap.size, 1, none⟩ = some (.int .i64 s2) ∧ (w5.alloc (.cells #[.int .i64 l1, .int .i64 l2] 24)).cell? ⟨w5.heap.size, 0, none⟩ = some (.int .i64 l1) ∧ (w5.alloc (.cells #[.int .i64 l1, .int .i64 l2] 24)).cell? ⟨w5.heap.size, 1, none⟩ = some (.int .i64 l2) ∧ w5.heap.size + 1 ≤ (w5.alloc (.cells #[.int .i64 l1, .int .i64 l2] 24)).heap.size ∧ w.heap.size ≤ w5.heap.size + 1 ∧ Below w.heap.size w (w5.alloc (.cells #[.int .i64 l1, .int .i64 l2] 24)) := ⟨b0, b1, b2, b3, b4, b5, b6, b7, by simp [go_sem], by simp [go_sem], by simp, by omega, z3⟩
  clear hS b0 b1 b2 b3 b4 b5 b6 b7 z1 z2 z3 B5
  have hL : w1.heap.size < w5.heap.size + 1 ∧ w1.heap.size < w5.heap.size + 1 ∧ w2.heap.size < w5.heap.size + 1 ∧ w2.heap.size < w5.heap.size + 1 ∧ w3.heap.size < w5.heap.size + 1 ∧ w3.heap.size < w5.heap.size + 1 ∧ w4.heap.size < w5.heap.size + 1 ∧ w4.heap.size < w5.heap.size + 1 ∧ w5.heap.size < w5.heap.size + 1 ∧ w5.heap.size < w5.heap.size + 1 := by omega
  go_upto_region 10 with fail
  go_cut [8] (fun s8 wx => ∃ q : Nat, s8 = .pointer (some ⟨q, 0, none⟩) ∧ (wx.cell? ⟨q, 0, none⟩ = some (.int .i64 l1) ∧ wx.cell? ⟨q, 1, none⟩ = some (.int .i64 l2) ∧ wx.frozen? ⟨q, 0, none⟩ = false ∧ wx.frozen? ⟨q, 1, none⟩ = false ∧ q < wx.heap.size ∧ w5.heap.size + 1 ≤ q) ∧ wx.cell? ⟨w1.heap.size, 0, none⟩ = some (.int .i64 n) ∧ wx.cell? ⟨w1.heap.size, 1, none⟩ = some (.int .i64 d) ∧ wx.cell? ⟨w2.heap.size, 0, none⟩ = some (.int .i64 m) ∧ wx.cell? ⟨w2.heap.size, 1, none⟩ = some (.int .i64 e) ∧ wx.cell? ⟨w3.heap.size, 0, none⟩ = some (.int .i64 f) ∧ wx.cell? ⟨w3.heap.size, 1, none⟩ = some (.int .i64 g) ∧ wx.cell? ⟨w4.heap.size, 0, none⟩ = some (.int .i64 s1) ∧ wx.cell? ⟨w4.heap.size, 1, none⟩ = some (.int .i64 s2) ∧ wx.cell? ⟨w5.heap.size, 0, none⟩ = some (.int .i64 l1) ∧ wx.cell? ⟨w5.heap.size, 1, none⟩ = some (.int .i64 l2) ∧ w5.heap.size + 1 ≤ wx.heap.size ∧ w.heap.size ≤ w5.heap.size + 1 ∧ Below w.heap.size w wx)
  case first =>
    have hS := k10_drew hT
    go_region_held3 (fun w' => w'.cell? ⟨w1.heap.size, 0, none⟩ = some (.int .i64 n) ∧ w'.cell? ⟨w1.heap.size, 1, none⟩ = some (.int .i64 d) ∧ w'.cell? ⟨w2.heap.size, 0, none⟩ = some (.int .i64 m) ∧ w'.cell? ⟨w2.heap.size, 1, none⟩ = some (.int .i64 e) ∧ w'.cell? ⟨w3.heap.size, 0, none⟩ = some (.int .i64 f) ∧ w'.cell? ⟨w3.heap.size, 1, none⟩ = some (.int .i64 g) ∧ w'.cell? ⟨w4.heap.size, 0, none⟩ = some (.int .i64 s1) ∧ w'.cell? ⟨w4.heap.size, 1, none⟩ = some (.int .i64 s2) ∧ w'.cell? ⟨w5.heap.size, 0, none⟩ = some (.int .i64 l1) ∧ w'.cell? ⟨w5.heap.size, 1, none⟩ = some (.int .i64 l2) ∧ w5.heap.size + 1 ≤ w'.heap.size ∧ w.heap.size ≤ w5.heap.size + 1 ∧ Below w.heap.size w w')
      (first | exact hS | exact k10_alloc hS | exact k10_set hN.2.2.2.2.2 hL (k10_set hN.2.2.2.2.2 hL hS) | exact k10_set hS.2.2.2.2.2.2.2.2.2.2.1 hL (k10_set hS.2.2.2.2.2.2.2.2.2.2.1 hL (k10_alloc hS)))
      (first
        | (go_at_call 18; with_reducible refine Calls.mono (Qtac.out _) ?_; rintro en wa ⟨rfl, Ba⟩; (first | with_reducible (have hN := kept_new Ba hS.2.2.2.2.2.2.2.2.2.2.1) | (with_reducible (have hN := kept_newd Ba hS.2.2.2.2.2.2.2.2.2.2.1); (try simp only [World.size_alloc] at hN)) | with_reducible (have hN := kept_on Ba hN) | skip); (first | with_reducible (replace hS := k10_keep Ba hS) | with_reducible (replace hS := k10_keep Ba (k10_allocd hS)) | with_reducible (replace hS := k10_keep Ba (k10_alloc hS))))
        | (go_at_call 18; with_reducible refine Calls.mono (Qtbc.out _) ?_; rintro en wb ⟨rfl, Bb⟩; (first | with_reducible (have hN := kept_new Bb hS.2.2.2.2.2.2.2.2.2.2.1) | (with_reducible (have hN := kept_newd Bb hS.2.2.2.2.2.2.2.2.2.2.1); (try simp only [World.size_alloc] at hN)) | with_reducible (have hN := kept_on Bb hN) | skip); (first | with_reducible (replace hS := k10_keep Bb hS) | with_reducible (replace hS := k10_keep Bb (k10_allocd hS)) | with_reducible (replace hS := k10_keep Bb (k10_alloc hS))))
        | (go_at_call 15; with_reducible refine Calls.mono (Quv.out _) ?_; rintro en wc ⟨rfl, Bc⟩; (first | with_reducible (have hN := kept_new Bc hS.2.2.2.2.2.2.2.2.2.2.1) | (with_reducible (have hN := kept_newd Bc hS.2.2.2.2.2.2.2.2.2.2.1); (try simp only [World.size_alloc] at hN)) | with_reducible (have hN := kept_on Bc hN) | skip); (first | with_reducible (replace hS := k10_keep Bc hS) | with_reducible (replace hS := k10_keep Bc (k10_allocd hS)) | with_reducible (replace hS := k10_keep Bc (k10_alloc hS)))))
    all_goals
      go_wp2_with fail
      go_meet
      first
      | exact ⟨_, rfl, kept_laid (lo := w5.heap.size + 1) hS.2.2.2.2.2.2.2.2.2.2.1, k10_alloc hS⟩
      | exact ⟨_, rfl, kept_put hN, k10_set hN.2.2.2.2.2 hL (k10_set hN.2.2.2.2.2 hL hS)⟩
  case rest =>
    obtain ⟨q, rfl, ⟨r1, r2, r3, r4, r5, r6⟩, hS⟩ := hcut
    obtain ⟨b0, b1, b2, b3, b4, b5, b6, b7, b8, b9, z1, z2, z3⟩ := id hS
    have hq := kept_on (lo := w5.heap.size + 1) (show Below wc.heap.size wc wc from Below.refl _ _) ⟨r1, r2, r3, r4, r5, r6⟩
    go_wp2_with fail
    with_reducible refine Calls.mono (Qaa.out _) ?_
    rintro en w6 ⟨rfl, B6⟩
    replace hq := kept_alloc (o := .cells #[.int .i64 0, .int .i64 1] 24) (kept_on B6 hq)
    replace hS := k10_alloc (o := .cells #[.int .i64 0, .int .i64 1] 24) (k10_keep B6 hS)
    clear b0 b1 b2 b3 b4 b5 b6 b7 b8 b9 z1 z2 z3 r1 r2 r3 r4
    obtain ⟨b0, b1, b2, b3, b4, b5, b6, b7, b8, b9, z1, z2, z3⟩ := hS
    obtain ⟨q1, q2, q3, q4, q5, q6⟩ := hq
    have hU : (w6.alloc (.cells #[.int .i64 0, .int .i64 1] 24)).cell? ⟨w1.heap.size, 0, none⟩ = some (.int .i64 n) ∧ (w6.alloc (.cells #[.int .i64 0, .int .i64 1] 24)).cell? ⟨w1.heap.size, 1, none⟩ = some (.int .i64 d) ∧ (w6.alloc (.cells #[.int .i64 0, .int .i64 1] 24)).cell? ⟨w2.heap.size, 0, none⟩ = some (.int .i64 m) ∧ (w6.alloc (.cells #[.int .i64 0, .int .i64 1] 24)).cell? ⟨w2.heap.size, 1, none⟩ = some (.int .i64 e) ∧ (w6.alloc (.cells #[.int .i64 0, .int .i64 1] 24)).cell? ⟨w4.heap.size, 0, none⟩ = some (.int .i64 s1) ∧ (w6.alloc (.cells #[.int .i64 0, .int .i64 1] 24)).cell? ⟨w4.heap.size, 1, none⟩ = some (.int .i64 s2) ∧ (w6.alloc (.cells #[.int .i64 0, .int .i64 1] 24)).cell? ⟨w5.heap.size, 0, none⟩ = some (.int .i64 l1) ∧ (w6.alloc (.cells #[.int .i64 0, .int .i64 1] 24)).cell? ⟨w5.heap.size, 1, none⟩ = some (.int .i64 l2) ∧ (w6.alloc (.cells #[.int .i64 0, .int .i64 1] 24)).cell? ⟨q, 0, none⟩ = some (.int .i64 l1) ∧ (w6.alloc (.cells #[.int .i64 0, .int .i64 1] 24)).cell? ⟨q, 1, none⟩ = some (.int .i64 l2) ∧ (w6.alloc (.cells #[.int .i64 0, .int .i64 1] 24)).cell? ⟨w6.heap.size, 0, none⟩ = some (.int .i64 0) ∧ (w6.alloc (.cells #[.int .i64 0, .int .i64 1] 24)).cell? ⟨w6.heap.size, 1, none⟩ = some (.int .i64 1) ∧ w.heap.size ≤ (w6.alloc (.cells #[.int .i64 0, .int .i64 1] 24)).heap.size ∧ w.heap.size ≤ w.heap.size ∧ Below w.heap.size w (w6.alloc (.cells #[.int .i64 0, .int .i64 1] 24)) := ⟨b0, b1, b2, b3, b6, b7, b8, b9, q1, q2, by simp [go_sem], by simp [go_sem], z3.size, Nat.le_refl _, z3⟩
    clear b0 b1 b2 b3 b4 b5 b6 b7 b8 b9 z1 z2 z3 q1 q2 q3 q4 B6
    by_cases hn : n = 0
    case pos =>
      subst hn
      obtain ⟨b0, b1, b2, b3, b6, b7, b8, b9, q1, q2, y1, y2, z1, z2, z3⟩ := id hU
      go_wp2
      have hS := k12_drew hU
      clear hU
      refine wp_region_held_drew (S := fun w' => w'.cell? ⟨w1.heap.size, 0, none⟩ = some (.int .i64 0) ∧ w'.cell? ⟨w1.heap.size, 1, none⟩ = some (.int .i64 d) ∧ w'.cell? ⟨w2.heap.size, 0, none⟩ = some (.int .i64 m) ∧ w'.cell? ⟨w2.heap.size, 1, none⟩ = some (.int .i64 e) ∧ w'.cell? ⟨w4.heap.size, 0, none⟩ = some (.int .i64 s1) ∧ w'.cell? ⟨w4.heap.size, 1, none⟩ = some (.int .i64 s2) ∧ w'.cell? ⟨w5.heap.size, 0, none⟩ = some (.int .i64 l1) ∧ w'.cell? ⟨w5.heap.size, 1, none⟩ = some (.int .i64 l2) ∧ w'.cell? ⟨q, 0, none⟩ = some (.int .i64 l1) ∧ w'.cell? ⟨q, 1, none⟩ = some (.int .i64 l2) ∧ w'.cell? ⟨w6.heap.size, 0, none⟩ = some (.int .i64 0) ∧ w'.cell? ⟨w6.heap.size, 1, none⟩ = some (.int .i64 1) ∧ w.heap.size ≤ w'.heap.size ∧ w.heap.size ≤ w.heap.size ∧ Below w.heap.size w w') (by kernel_rfl) hS (fun hHeld => ?_)
      refine take_on (i := 0) (d := some 61) (v := .agg #[.int .i64 l1, .int .i64 l2]) rfl rfl (by kernel_rfl) (by kernel_rfl) (by kernel_rfl) (fun _ _ _ h => h) (by rfl) (by (intro w hSw; (try dsimp only at hSw); go_simp)) (by assumption) ?_
      try simp only [Act.put, List.setIfInBounds_toArray, List.set_cons_zero, List.set_cons_succ]
      refine take_on (i := 1) (d := some 62) (v := .agg #[.int .i64 l1, .int .i64 l2]) rfl rfl (by kernel_rfl) (by kernel_rfl) (by kernel_rfl) (fun _ _ _ h => h) (by rfl) (by (intro w hSw; (try dsimp only at hSw); go_simp)) (by assumption) ?_
      try simp only [Act.put, List.setIfInBounds_toArray, List.set_cons_zero, List.set_cons_succ]
      refine take_on (i := 2) (d := some 63) (v := .bool true) rfl rfl (by kernel_rfl) (by kernel_rfl) (by kernel_rfl) (fun _ _ _ h => h) (by rfl) (by (intro w hSw; (try dsimp only at hSw); go_simp)) (by assumption) ?_
      try simp only [Act.put, List.setIfInBounds_toArray, List.set_cons_zero, List.set_cons_succ]
      refine take_on (i := 3) (d := some 64) (v := .bool true) rfl rfl (by kernel_rfl) (by kernel_rfl) (by kernel_rfl) (fun _ _ _ h => h) (by rfl) (by (intro w hSw; (try dsimp only at hSw); go_simp)) (by assumption) ?_
      try simp only [Act.put, List.setIfInBounds_toArray, List.set_cons_zero, List.set_cons_succ]
      refine take_on (i := 4) (d := some 65) (v := .agg #[.int .i64 l1, .int .i64 l2]) rfl rfl (by kernel_rfl) (by kernel_rfl) (by kernel_rfl) (fun _ _ _ h => h) (by rfl) (by (intro w hSw; (try dsimp only at hSw); go_simp)) (by assumption) ?_
      try simp only [Act.put, List.setIfInBounds_toArray, List.set_cons_zero, List.set_cons_succ]
      refine wpAnyH_ready (rs := [5]) (by kernel_rfl) (by simp) ?_
      refine AllReadyH.cons rfl (fun K hK => ?_) AllReadyH.nil
      go_simp
      with_reducible refine Calls.mono (Qol.out _) ?_
      rintro en wa ⟨rfl, Bwa⟩
      replace hS := k12_keep Bwa hS
      go_wp2_with fail
      refine hK.out _ _ hS (fun hHeld => ?_)
      clear hK K
      try simp only [Act.put, List.setIfInBounds_toArray, List.set_cons_zero, List.set_cons_succ]
      refine take_on (i := 6) (d := some 67) (v := .bool true) rfl rfl (by kernel_rfl) (by kernel_rfl) (by kernel_rfl) (fun _ _ _ h => h) (by rfl) (by (intro w hSw; (try dsimp only at hSw); go_simp)) (by assumption) ?_
      try simp only [Act.put, List.setIfInBounds_toArray, List.set_cons_zero, List.set_cons_succ]
      refine take_on (i := 7) (d := some 68) (v := .bool true) rfl rfl (by kernel_rfl) (by kernel_rfl) (by kernel_rfl) (fun _ _ _ h => h) (by rfl) (by (intro w hSw; (try dsimp only at hSw); go_simp)) (by assumption) ?_
      try simp only [Act.put, List.setIfInBounds_toArray, List.set_cons_zero, List.set_cons_succ]
      refine take_on (i := 8) (d := some 69) (v := .agg #[.int .i64 0, .int .i64 1]) rfl rfl (by kernel_rfl) (by kernel_rfl) (by kernel_rfl) (fun _ _ _ h => h) (by rfl) (by (intro w hSw; (try dsimp only at hSw); go_simp)) (by assumption) ?_
      try simp only [Act.put, List.setIfInBounds_toArray, List.set_cons_zero, List.set_cons_succ]
      refine take_on (i := 9) (d := some 70) (v := .agg #[.int .i64 0, .int .i64 1]) rfl rfl (by kernel_rfl) (by kernel_rfl) (by kernel_rfl) (fun _ _ _ h => h) (by rfl) (by (intro w hSw; (try dsimp only at hSw); go_simp)) (by assumption) ?_
      try simp only [Act.put, List.setIfInBounds_toArray, List.set_cons_zero, List.set_cons_succ]
      refine take_on (i := 10) (d := some 71) (v := .bool true) rfl rfl (by kernel_rfl) (by kernel_rfl) (by kernel_rfl) (fun _ _ _ h => h) (by rfl) (by (intro w hSw; (try dsimp only at hSw); go_simp)) (by assumption) ?_
      try simp only [Act.put, List.setIfInBounds_toArray, List.set_cons_zero, List.set_cons_succ]
      refine take_on (i := 11) (d := some 72) (v := .bool true) rfl rfl (by kernel_rfl) (by kernel_rfl) (by kernel_rfl) (fun _ _ _ h => h) (by rfl) (by (intro w hSw; (try dsimp only at hSw); go_simp)) (by assumption) ?_
      try simp only [Act.put, List.setIfInBounds_toArray, List.set_cons_zero, List.set_cons_succ]
      refine take_on (i := 12) (d := some 73) (v := .bool true) rfl rfl (by kernel_rfl) (by kernel_rfl) (by kernel_rfl) (fun _ _ _ h => h) (by rfl) (by (intro w hSw; (try dsimp only at hSw); go_simp)) (by assumption) ?_
      try simp only [Act.put, List.setIfInBounds_toArray, List.set_cons_zero, List.set_cons_succ]
      refine take_on (i := 13) (d := some 74) (v := .pointer (some ⟨w1.heap.size, 0, none⟩)) rfl rfl (by kernel_rfl) (by kernel_rfl) (by kernel_rfl) (fun _ _ _ h => h) (by rfl) (by (intro w hSw; (try dsimp only at hSw); go_simp)) (by assumption) ?_
      try simp only [Act.put, List.setIfInBounds_toArray, List.set_cons_zero, List.set_cons_succ]
      refine take_on (i := 14) (d := some 75) (v := .int .i64 0) rfl rfl (by kernel_rfl) (by kernel_rfl) (by kernel_rfl) (fun _ _ _ h => h) (by rfl) (by (intro w hSw; (try dsimp only at hSw); go_simp)) (by assumption) ?_
      try simp only [Act.put, List.setIfInBounds_toArray, List.set_cons_zero, List.set_cons_succ]
      refine take_on (i := 15) (d := some 76) (v := .bool true) rfl rfl (by kernel_rfl) (by kernel_rfl) (by kernel_rfl) (fun _ _ _ h => h) (by rfl) (by (intro w hSw; (try dsimp only at hSw); go_simp)) (by assumption) ?_
      try simp only [Act.put, List.setIfInBounds_toArray, List.set_cons_zero, List.set_cons_succ]
      refine take_on (i := 16) (d := some 77) (v := .bool true) rfl rfl (by kernel_rfl) (by kernel_rfl) (by kernel_rfl) (fun _ _ _ h => h) (by rfl) (by (intro w hSw; (try dsimp only at hSw); go_simp)) (by assumption) ?_
      try simp only [Act.put, List.setIfInBounds_toArray, List.set_cons_zero, List.set_cons_succ]
      refine take_off (i := 17) (d := some 78) rfl rfl (by kernel_rfl) (by kernel_rfl) (by kernel_rfl) (fun _ _ _ h => h) (by rfl) (by assumption) ?_
      try simp only [Act.put, List.setIfInBounds_toArray, List.set_cons_zero, List.set_cons_succ]
      refine take_off (i := 18) (d := some 79) rfl rfl (by kernel_rfl) (by kernel_rfl) (by kernel_rfl) (fun _ _ _ h => h) (by rfl) (by assumption) ?_
      try simp only [Act.put, List.setIfInBounds_toArray, List.set_cons_zero, List.set_cons_succ]
      refine take_off (i := 19) (d := some 80) rfl rfl (by kernel_rfl) (by kernel_rfl) (by kernel_rfl) (fun _ _ _ h => h) (by rfl) (by assumption) ?_
      try simp only [Act.put, List.setIfInBounds_toArray, List.set_cons_zero, List.set_cons_succ]
      refine take_off (i := 20) (d := some 81) rfl rfl (by kernel_rfl) (by kernel_rfl) (by kernel_rfl) (fun _ _ _ h => h) (by rfl) (by assumption) ?_
      try simp only [Act.put, List.setIfInBounds_toArray, List.set_cons_zero, List.set_cons_succ]
      refine take_off (i := 21) (d := some 82) rfl rfl (by kernel_rfl) (by kernel_rfl) (by kernel_rfl) (fun _ _ _ h => h) (by rfl) (by assumption) ?_
      try simp only [Act.put, List.setIfInBounds_toArray, List.set_cons_zero, List.set_cons_succ]
      refine take_off (i := 22) (d := some 83) rfl rfl (by kernel_rfl) (by kernel_rfl) (by kernel_rfl) (fun _ _ _ h => h) (by rfl) (by assumption) ?_
      try simp only [Act.put, List.setIfInBounds_toArray, List.set_cons_zero, List.set_cons_succ]
      refine take_on (i := 23) (d := some 84) (v := .bool true) rfl rfl (by kernel_rfl) (by kernel_rfl) (by kernel_rfl) (fun _ _ _ h => h) (by rfl) (by (intro w hSw; (try dsimp only at hSw); go_simp)) (by assumption) ?_
      try simp only [Act.put, List.setIfInBounds_toArray, List.set_cons_zero, List.set_cons_succ]
      refine take_on (i := 24) (d := some 85) (v := .bool true) rfl rfl (by kernel_rfl) (by kernel_rfl) (by kernel_rfl) (fun _ _ _ h => h) (by rfl) (by (intro w hSw; (try dsimp only at hSw); go_simp)) (by assumption) ?_
      try simp only [Act.put, List.setIfInBounds_toArray, List.set_cons_zero, List.set_cons_succ]
      refine take_on (i := 25) (d := some 86) (v := .bool true) rfl rfl (by kernel_rfl) (by kernel_rfl) (by kernel_rfl) (fun _ _ _ h => h) (by rfl) (by (intro w hSw; (try dsimp only at hSw); go_simp)) (by assumption) ?_
      try simp only [Act.put, List.setIfInBounds_toArray, List.set_cons_zero, List.set_cons_succ]
      refine take_on (i := 26) (d := some 87) (v := .agg #[.int .i64 s1, .int .i64 s2]) rfl rfl (by kernel_rfl) (by kernel_rfl) (by kernel_rfl) (fun _ _ _ h => h) (by rfl) (by (intro w hSw; (try dsimp only at hSw); go_simp)) (by assumption) ?_
      try simp only [Act.put, List.setIfInBounds_toArray, List.set_cons_zero, List.set_cons_succ]
      refine take_on (i := 27) (d := some 88) (v := .agg #[.int .i64 0, .int .i64 d]) rfl rfl (by kernel_rfl) (by kernel_rfl) (by kernel_rfl) (fun _ _ _ h => h) (by rfl) (by (intro w hSw; (try dsimp only at hSw); go_simp)) (by assumption) ?_
      try simp only [Act.put, List.setIfInBounds_toArray, List.set_cons_zero, List.set_cons_succ]
      refine take_on (i := 29) (d := some 90) (v := .agg #[.int .i64 m, .int .i64 e]) rfl rfl (by kernel_rfl) (by kernel_rfl) (by kernel_rfl) (fun _ _ _ h => h) (by rfl) (by (intro w hSw; (try dsimp only at hSw); go_simp)) (by assumption) ?_
      try simp only [Act.put, List.setIfInBounds_toArray, List.set_cons_zero, List.set_cons_succ]
      refine take_on (i := 30) (d := some 91) (v := .agg #[.int .i64 0, .int .i64 1]) rfl rfl (by kernel_rfl) (by kernel_rfl) (by kernel_rfl) (fun _ _ _ h => h) (by rfl) (by (intro w hSw; (try dsimp only at hSw); go_simp)) (by assumption) ?_
      try simp only [Act.put, List.setIfInBounds_toArray, List.set_cons_zero, List.set_cons_succ]
      refine wpAnyH_ready (rs := [28]) (by kernel_rfl) (by simp) ?_
      refine AllReadyH.cons rfl (fun K hK => ?_) AllReadyH.nil
      go_simp
      with_reducible refine Calls.mono (Qca.out _) ?_
      rintro en wd ⟨rfl, Bwd⟩
      replace hS := k12_keep Bwd hS
      go_wp2_with fail
      refine hK.out _ _ hS (fun hHeld => ?_)
      clear hK K
      try simp only [Act.put, List.setIfInBounds_toArray, List.set_cons_zero, List.set_cons_succ]
      refine wpAnyH_ready (rs := [31]) (by kernel_rfl) (by simp) ?_
      refine AllReadyH.cons rfl (fun K hK => ?_) AllReadyH.nil
      go_simp
      with_reducible refine Calls.mono (Qcz.out _) ?_
      rintro en we ⟨rfl, Bwe⟩
      replace hS := k12_keep Bwe hS
      go_wp2_with fail
      refine hK.out _ _ hS (fun hHeld => ?_)
      clear hK K
      try simp only [Act.put, List.setIfInBounds_toArray, List.set_cons_zero, List.set_cons_succ]
      refine take_on (i := 32) (d := some 93) (v := .bool true) rfl rfl (by kernel_rfl) (by kernel_rfl) (by kernel_rfl) (fun _ _ _ h => h) (by rfl) (by (intro w hSw; (try dsimp only at hSw); go_simp)) (by assumption) ?_
      try simp only [Act.put, List.setIfInBounds_toArray, List.set_cons_zero, List.set_cons_succ]
      refine take_on (i := 33) (d := some 94) (v := .bool true) rfl rfl (by kernel_rfl) (by kernel_rfl) (by kernel_rfl) (fun _ _ _ h => h) (by rfl) (by (intro w hSw; (try dsimp only at hSw); go_simp)) (by assumption) ?_
      try simp only [Act.put, List.setIfInBounds_toArray, List.set_cons_zero, List.set_cons_succ]
      refine take_on (i := 34) (d := some 2) (v := .bool true) rfl rfl (by kernel_rfl) (by kernel_rfl) (by kernel_rfl) (fun _ _ _ h => h) (by rfl) (by (intro w hSw; (try dsimp only at hSw); go_simp)) (by assumption) ?_
      try simp only [Act.put, List.setIfInBounds_toArray, List.set_cons_zero, List.set_cons_succ]
      refine wpAnyH_done (by kernel_rfl) ?_ _
      go_wp2
      go_ret
      exact ⟨rfl, hS.2.2.2.2.2.2.2.2.2.2.2.2.2.2⟩
    case neg =>
      have hn0 : (n == 0) = false := by simpa using hn
      obtain ⟨i1, i2, hi, ht, j1, j2, j3, j4⟩ := QI.out hn
      have Qi := Lib.hid (c_inv hi IA.out)
      have Qt := Lib.hid (c_times ht IA.out (show In i1 ∧ In i2 from ⟨⟨by omega, by omega⟩, ⟨by omega, by omega⟩⟩))
      clear hn hi ht j1 j2 j3 j4
      obtain ⟨b0, b1, b2, b3, b6, b7, b8, b9, q1, q2, y1, y2, z1, z2, z3⟩ := id hU
      go_wp2
      have hS := k12_drew hU
      clear hU
      go_region_held3 (fun w' => w'.cell? ⟨w1.heap.size, 0, none⟩ = some (.int .i64 n) ∧ w'.cell? ⟨w1.heap.size, 1, none⟩ = some (.int .i64 d) ∧ w'.cell? ⟨w2.heap.size, 0, none⟩ = some (.int .i64 m) ∧ w'.cell? ⟨w2.heap.size, 1, none⟩ = some (.int .i64 e) ∧ w'.cell? ⟨w4.heap.size, 0, none⟩ = some (.int .i64 s1) ∧ w'.cell? ⟨w4.heap.size, 1, none⟩ = some (.int .i64 s2) ∧ w'.cell? ⟨w5.heap.size, 0, none⟩ = some (.int .i64 l1) ∧ w'.cell? ⟨w5.heap.size, 1, none⟩ = some (.int .i64 l2) ∧ w'.cell? ⟨q, 0, none⟩ = some (.int .i64 l1) ∧ w'.cell? ⟨q, 1, none⟩ = some (.int .i64 l2) ∧ w'.cell? ⟨w6.heap.size, 0, none⟩ = some (.int .i64 0) ∧ w'.cell? ⟨w6.heap.size, 1, none⟩ = some (.int .i64 1) ∧ w.heap.size ≤ w'.heap.size ∧ w.heap.size ≤ w.heap.size ∧ Below w.heap.size w w')
        (first | exact hS)
        (first
          | (go_at_call 16; with_reducible refine Calls.mono (Qol.out _) ?_; rintro en wa ⟨rfl, Ba⟩; replace hS := k12_keep Ba hS)
          | (go_at_call 20; with_reducible refine Calls.mono (Qca.out _) ?_; rintro en wd ⟨rfl, Bd⟩; replace hS := k12_keep Bd hS)
          | (go_at_call 20; with_reducible refine Calls.mono (Qcz.out _) ?_; rintro en we ⟨rfl, Be⟩; replace hS := k12_keep Be hS)
          | (go_at_call 19; with_reducible refine Calls.mono (Qi.out _) ?_; rintro en wb ⟨rfl, Bb⟩; replace hS := k12_keep Bb hS)
          | (go_at_call 18; with_reducible refine Calls.mono (Qt.out _) ?_; rintro en wc' ⟨rfl, Bc⟩; replace hS := k12_keep Bc hS))
      all_goals
        go_wp2
        go_ret
        exact ⟨rfl, hS.2.2.2.2.2.2.2.2.2.2.2.2.2.2⟩

theorem own : ownKnob Try.prog.godebug = none := by kernel_rfl
theorem laidOut : laidOutB Try.prog = true := by kernel_rfl
set_option maxRecDepth 100000 in
theorem lifted (os : Os) (started : os.Started) (H : Type) (enc : TypeId × Value → H) :
    ReturnsInHanded {} Try.checked os 3 .any (Rows.fnRatiosSpec.pre6 enc Try.prog Try.f3 Rows.fnRatiosRow.domain false) (Rows.fnRatiosSpec.post enc Try.prog Try.f3 false true false false) := by
  refine returnsInHanded_of_change (C := Try.checked) own started (by kernel_rfl) Try.func3
    (ChangeSpec.witness6 (enc := enc) (C := Try.checked) false ⟨#[], #[.slice none 0 0], []⟩ 8 (by kernel_rfl) (by kernel_rfl) (by kernel_rfl) (by kernel_rfl)) ?_
  intro W base args ds gs before hval0 hW hcnd _
  have hval : ∀ (j : Nat) t v, Try.f3.params[j]? = some t → args[j]? = some v → Value.okWide Try.prog W .any base t v := hval0
  have hW' := hW
  obtain ⟨p, q, hA0, hV, rfl, hfz, hnd⟩ := hW
  have hA : DataW.TrodAll enc Try.prog W 0 (fun _ => true) true Try.f3.params.toList args.toList ds p := hA0
  rw [Try.params3] at hA hval
  obtain ⟨v0, d0, rfl, rfl, h0⟩ := trodAll_one hA
  obtain ⟨rfl, rfl⟩ := trodVars_none hV
  obtain ⟨a0, n0, c0, rfl⟩ := okWide_slice Try.underlying22 (hval 0 22 v0 rfl rfl)
  have wx0 := open_bytes Try.underlying22 Try.underlying5 (by kernel_rfl) h0
  clear hA0 hval0
  simp only [List.append_nil] at hW'
  refine (walk (.slice a0 n0 c0) n0 W wx0).mono fun e W' ⟨he, hB⟩ => ?_
  subst he
  refine ⟨_, rfl, _, _, _, [], (p), [], hW', ?_, ?_, ?_, hB.frame _, fun h => by cases h⟩
  · exact trodAll_mk1 (shut_bool Try.underlying4 true)
  · exact trodAll_mk1 (Below.trod laidOut (by kernel_rfl) (of_decide_eq_true (by kernel_rfl)) h0 hB (fun x hx => hW'.lt x (by simp [hx])))
  · rfl

theorem holds : Rows.FnRatiosSaid :=
  OpenClaim.holds_of_wide 3 Try.f3 rfl rfl rfl rfl rfl rfl rfl ⟨rfl, rfl, rfl, rfl, rfl⟩ rfl rfl rfl rfl rfl (by kernel_rfl) Try.func3 (by kernel_rfl)
    (of_decide_eq_true (by kernel_rfl)) (by unfold Func.isWrapper; first | (rw [if_pos (by decide +kernel)]; kernel_rfl) | (rw [if_neg (by decide +kernel)]; exact ⟨rfl, rfl⟩))
    (fun os started H enc _ => lifted os started H enc)
end FnRatiosLaw
end Go.Proofs.Ytnbbmpilpeakiaa
