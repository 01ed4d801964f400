/-
  The resistance with a greater weight of one wire, in the program.
-/
import Derived.Test.YtaececpphdaciaaHasWire
import Derived.Test.YtaececpphdaciaaPutWireImpl
import Derived.Test.YtaececpphdaciaaReweigh
import Derived.Test.YtaececpphdaciaaBox2
import Derived.Test.YtaececpphdaciaaResist
import Derived.StillTactics
namespace Go.Proofs.Ytaececpphdaciaa
open Go.RowKit

/-- What is left between two nodes where a wire's weight is greater by one. -/
noncomputable def moreR (n e s : Int) (ws : List W3) (a b i : Int) : Int × Int × Bool :=
  if 0 ≤ i ∧ i < ws.length then resR (putR n e s (ws.getD i.toNat (0, 0, 0)).1 (ws.getD i.toNat (0, 0, 0)).2.1 ((ws.getD i.toNat (0, 0, 0)).2.2 + 1) ws).1 (putR n e s (ws.getD i.toNat (0, 0, 0)).1 (ws.getD i.toNat (0, 0, 0)).2.1 ((ws.getD i.toNat (0, 0, 0)).2.2 + 1) ws).2.1 (putR n e s (ws.getD i.toNat (0, 0, 0)).1 (ws.getD i.toNat (0, 0, 0)).2.1 ((ws.getD i.toNat (0, 0, 0)).2.2 + 1) ws).2.2.1 (putR n e s (ws.getD i.toNat (0, 0, 0)).1 (ws.getD i.toNat (0, 0, 0)).2.1 ((ws.getD i.toNat (0, 0, 0)).2.2 + 1) ws).2.2.2.1 a b
  else (0, 0, false)
theorem moreR_no {n e s a b i : Int} {ws : List W3} (h : ¬ (0 ≤ i ∧ i < ws.length)) : moreR n e s ws a b i = (0, 0, false) := if_neg h
theorem moreR_at {n e s a b : Int} {j : Nat} {ws : List W3} (h : j < ws.length) : moreR n e s ws a b (j : Int) = resR (putR n e s ws[j].1 ws[j].2.1 (ws[j].2.2 + 1) ws).1 (putR n e s ws[j].1 ws[j].2.1 (ws[j].2.2 + 1) ws).2.1 (putR n e s ws[j].1 ws[j].2.1 (ws[j].2.2 + 1) ws).2.2.1 (putR n e s ws[j].1 ws[j].2.1 (ws[j].2.2 + 1) ws).2.2.2.1 a b := by
  have hg : ws.getD ((j : Int)).toNat (0, 0, 0) = ws[j] := by rw [Int.toNat_natCast, List.getD_eq_getElem?_getD, List.getElem?_eq_getElem h]; rfl
  unfold moreR
  rw [if_pos (by omega), hg]
set_option maxRecDepth 8000 in
set_option maxHeartbeats 12800000 in
theorem impl_more (n e s a b i : Int) (v : Value) (ws : List W3) (w : World) (hr : ReadsW w v ws) :
    Calls Try.prog 92 #[.agg #[.int .i64 n, .int .i64 e, .int .i64 s, v], .int .i64 a, .int .i64 b, .int .i64 i] w fun en w' => en = .returned (.tuple #[.agg #[.int .i64 (moreR n e s ws a b i).1, .int .i64 (moreR n e s ws a b i).2.1], .bool (moreR n e s ws a b i).2.2]) ∧ Below w.heap.size w w' := by
  have B0 : Below w.heap.size w ((w.alloc (.cells #[.int .i64 n, .int .i64 e, .int .i64 s, v] 25)).alloc (.cells #[.int .i64 0, .int .i64 0] 43)) := by (repeat (first | exact Below.refl _ _ | (refine Below.setCell ?_ (by (first | exact Nat.le_refl _ | omega | (simp <;> omega) | simp)) _) | (refine Below.alloc ?_ (by (first | exact Nat.le_refl _ | omega | (simp <;> omega) | simp)) _) | (refine below_draws ?_ _)))
  have hok := hasWire_any n e s i v ws _ (hr.later B0)
  obtain ⟨p0, cap0, rfl⟩ := hr.shape
  by_cases hi : 0 ≤ i ∧ i < ws.length
  case neg =>
    rw [moreR_no hi]
    rw [decide_eq_false hi] at hok
    clear hr B0 hi
    go_enter Try.func92, Try.ntmps92
    go_wp2_with fail
    refine hok.mono ?_
    rintro en w1 ⟨rfl, B1⟩
    obtain ⟨hc1, hf1⟩ := bcell B1
    have S1 := B1.size
    try simp at S1
    try (have _L1w : w.heap.size < w1.heap.size := by omega)
    have _M1w : w.heap.size ≤ w1.heap.size := by omega
    try (have _P1w_1 : w.heap.size + 1 < w1.heap.size := by omega)
    try (have _P1w_2 : w.heap.size + 1 + 1 < w1.heap.size := by omega)
    try (have _P1w_3 : w.heap.size + 1 + 1 + 1 < w1.heap.size := by omega)
    have _ : w1.cell? ⟨w.heap.size, 0, none⟩ = some (.int .i64 n) := by rw [hc1 (w.heap.size) 0 (by first | omega | (simp; done) | (simp; omega))]; first | assumption | (simp; done) | simp [go_sem, *]
    have _ : w1.frozen? ⟨w.heap.size, 0, none⟩ = false := by rw [hf1 (w.heap.size) 0 (by first | omega | (simp; done) | (simp; omega))]; first | assumption | (simp; done) | simp [go_sem, *]
    have _ : w1.cell? ⟨w.heap.size, 1, none⟩ = some (.int .i64 e) := by rw [hc1 (w.heap.size) 1 (by first | omega | (simp; done) | (simp; omega))]; first | assumption | (simp; done) | simp [go_sem, *]
    have _ : w1.frozen? ⟨w.heap.size, 1, none⟩ = false := by rw [hf1 (w.heap.size) 1 (by first | omega | (simp; done) | (simp; omega))]; first | assumption | (simp; done) | simp [go_sem, *]
    have _ : w1.cell? ⟨w.heap.size, 2, none⟩ = some (.int .i64 s) := by rw [hc1 (w.heap.size) 2 (by first | omega | (simp; done) | (simp; omega))]; first | assumption | (simp; done) | simp [go_sem, *]
    have _ : w1.frozen? ⟨w.heap.size, 2, none⟩ = false := by rw [hf1 (w.heap.size) 2 (by first | omega | (simp; done) | (simp; omega))]; first | assumption | (simp; done) | simp [go_sem, *]
    have _ : w1.cell? ⟨w.heap.size, 3, none⟩ = some (.slice p0 ws.length cap0) := by rw [hc1 (w.heap.size) 3 (by first | omega | (simp; done) | (simp; omega))]; first | assumption | (simp; done) | simp [go_sem, *]
    have _ : w1.frozen? ⟨w.heap.size, 3, none⟩ = false := by rw [hf1 (w.heap.size) 3 (by first | omega | (simp; done) | (simp; omega))]; first | assumption | (simp; done) | simp [go_sem, *]
    have _ : w1.cell? ⟨w.heap.size + 1, 0, none⟩ = some (.int .i64 0) := by rw [hc1 (w.heap.size + 1) 0 (by first | omega | (simp; done) | (simp; omega))]; first | assumption | (simp; done) | simp [go_sem, *]
    have _ : w1.frozen? ⟨w.heap.size + 1, 0, none⟩ = false := by rw [hf1 (w.heap.size + 1) 0 (by first | omega | (simp; done) | (simp; omega))]; first | assumption | (simp; done) | simp [go_sem, *]
    have _ : w1.cell? ⟨w.heap.size + 1, 1, none⟩ = some (.int .i64 0) := by rw [hc1 (w.heap.size + 1) 1 (by first | omega | (simp; done) | (simp; omega))]; first | assumption | (simp; done) | simp [go_sem, *]
    have _ : w1.frozen? ⟨w.heap.size + 1, 1, none⟩ = false := by rw [hf1 (w.heap.size + 1) 1 (by first | omega | (simp; done) | (simp; omega))]; first | assumption | (simp; done) | simp [go_sem, *]
    clear hc1 hf1
    go_wp2
    exact bodyPost_ret (v := (.tuple #[.agg #[.int .i64 0, .int .i64 0], .bool false])) (by simp (maxDischargeDepth := 8) [results, Try.results92, go_sem, *]) rfl ⟨rfl, by (repeat (first | exact Below.refl _ _ | (refine Below.setCell ?_ (by (first | exact Nat.le_refl _ | omega | (simp <;> omega) | simp)) _) | (refine Below.alloc ?_ (by (first | exact Nat.le_refl _ | omega | (simp <;> omega) | simp)) _) | (refine below_draws ?_ _) | exact B1 | (refine Below.trans ?_ (Below.mono B1 (by (first | exact Nat.le_refl _ | omega | (simp <;> omega) | simp))))))⟩
  rw [decide_eq_true hi] at hok
  obtain ⟨j, rfl⟩ : ∃ j : Nat, i = (j : Int) := ⟨i.toNat, by omega⟩
  have hj : j < ws.length := by omega
  obtain ⟨g, o, rfl, c0, c1, c2⟩ := reads_at hr j hj
  have hg : g < w.heap.size := World.block_lt_of_cell? w _ c0
  have hpx : putR n e s ws[j].1 ws[j].2.1 (IntKind.i64.wrap (ws[j].2.2 + 1)) ws = putR n e s ws[j].1 ws[j].2.1 (ws[j].2.2 + 1) ws := by
    by_cases hb : netB n e s ws = true
    · have hv := (netB_iff.1 hb).2.1.1 j hj
      unfold wireV at hv
      rw [wrap_in (x := ws[j].2.2 + 1) (by omega) (by omega)]
    · rw [putR_no (fun h => hb h.1), putR_no (fun h => hb h.1)]
  have him := fun W X (hX : X = IntKind.i64.wrap (ws[j].2.2 + 1)) (hB : Below w.heap.size w W) => impl_putWire n e s ws[j].1 ws[j].2.1 X _ ws W (hr.later hB)
  rw [moreR_at hj]
  obtain ⟨R, hR⟩ : ∃ R, putR n e s ws[j].1 ws[j].2.1 (ws[j].2.2 + 1) ws = R := ⟨_, rfl⟩
  rw [hR] at hpx ⊢
  have him2 : ∀ (W : World) (X : Int), X = IntKind.i64.wrap (ws[j].2.2 + 1) → Below w.heap.size w W → Calls Try.prog 55 #[.agg #[.int .i64 n, .int .i64 e, .int .i64 s, .slice (some ⟨g, o, none⟩) ws.length cap0], .int .i64 ws[j].1, .int .i64 ws[j].2.1, .int .i64 X] W (AnsN W R) := fun W X hX hB => by
    have h := him W X hX hB
    rw [hX, hpx] at h
    rw [hX]
    exact h
  obtain ⟨Y, hYe⟩ : ∃ Y, ws[j].2.2 = Y := ⟨_, rfl⟩
  rw [hYe] at c2 him2
  have HIM := Lib.hid him2
  have HB0 := Lib.hid B0
  have HC0 := Lib.hid c0; have HC1 := Lib.hid c1; have HC2 := Lib.hid c2
  have hji : (j : Int) < (ws.length : Int) := by omega
  clear him him2 hpx hr hR hi B0 c0 c1 c2 hYe
  go_enter Try.func92, Try.ntmps92
  go_wp2_with fail
  refine hok.mono ?_
  rintro en w1 ⟨rfl, B1⟩
  have HB1 : Hid (Below w.heap.size w w1) := Lib.hid (HB0.out.trans (B1.mono HB0.out.size))
  have c0 := (HB1.out.cell (p := ⟨g, o + j * 3, none⟩) hg).trans HC0.out
  have c1 := (HB1.out.cell (p := ⟨g, o + j * 3 + 1, none⟩) hg).trans HC1.out
  have c2 := (HB1.out.cell (p := ⟨g, o + j * 3 + 2, none⟩) hg).trans HC2.out
  obtain ⟨hc1, hf1⟩ := bcell B1
  have S1 := B1.size
  try simp at S1
  try (have _L1w : w.heap.size < w1.heap.size := by omega)
  have _M1w : w.heap.size ≤ w1.heap.size := by omega
  try (have _P1w_1 : w.heap.size + 1 < w1.heap.size := by omega)
  try (have _P1w_2 : w.heap.size + 1 + 1 < w1.heap.size := by omega)
  try (have _P1w_3 : w.heap.size + 1 + 1 + 1 < w1.heap.size := by omega)
  have _ : w1.cell? ⟨w.heap.size, 0, none⟩ = some (.int .i64 n) := by rw [hc1 (w.heap.size) 0 (by first | omega | (simp; done) | (simp; omega))]; first | assumption | (simp; done) | simp [go_sem, *]
  have _ : w1.frozen? ⟨w.heap.size, 0, none⟩ = false := by rw [hf1 (w.heap.size) 0 (by first | omega | (simp; done) | (simp; omega))]; first | assumption | (simp; done) | simp [go_sem, *]
  have _ : w1.cell? ⟨w.heap.size, 1, none⟩ = some (.int .i64 e) := by rw [hc1 (w.heap.size) 1 (by first | omega | (simp; done) | (simp; omega))]; first | assumption | (simp; done) | simp [go_sem, *]
  have _ : w1.frozen? ⟨w.heap.size, 1, none⟩ = false := by rw [hf1 (w.heap.size) 1 (by first | omega | (simp; done) | (simp; omega))]; first | assumption | (simp; done) | simp [go_sem, *]
  have _ : w1.cell? ⟨w.heap.size, 2, none⟩ = some (.int .i64 s) := by rw [hc1 (w.heap.size) 2 (by first | omega | (simp; done) | (simp; omega))]; first | assumption | (simp; done) | simp [go_sem, *]
  have _ : w1.frozen? ⟨w.heap.size, 2, none⟩ = false := by rw [hf1 (w.heap.size) 2 (by first | omega | (simp; done) | (simp; omega))]; first | assumption | (simp; done) | simp [go_sem, *]
  have _ : w1.cell? ⟨w.heap.size, 3, none⟩ = some (.slice (some ⟨g, o, none⟩) ws.length cap0) := by rw [hc1 (w.heap.size) 3 (by first | omega | (simp; done) | (simp; omega))]; first | assumption | (simp; done) | simp [go_sem, *]
  have _ : w1.frozen? ⟨w.heap.size, 3, none⟩ = false := by rw [hf1 (w.heap.size) 3 (by first | omega | (simp; done) | (simp; omega))]; first | assumption | (simp; done) | simp [go_sem, *]
  have _ : w1.cell? ⟨w.heap.size + 1, 0, none⟩ = some (.int .i64 0) := by rw [hc1 (w.heap.size + 1) 0 (by first | omega | (simp; done) | (simp; omega))]; first | assumption | (simp; done) | simp [go_sem, *]
  have _ : w1.frozen? ⟨w.heap.size + 1, 0, none⟩ = false := by rw [hf1 (w.heap.size + 1) 0 (by first | omega | (simp; done) | (simp; omega))]; first | assumption | (simp; done) | simp [go_sem, *]
  have _ : w1.cell? ⟨w.heap.size + 1, 1, none⟩ = some (.int .i64 0) := by rw [hc1 (w.heap.size + 1) 1 (by first | omega | (simp; done) | (simp; omega))]; first | assumption | (simp; done) | simp [go_sem, *]
  have _ : w1.frozen? ⟨w.heap.size + 1, 1, none⟩ = false := by rw [hf1 (w.heap.size + 1) 1 (by first | omega | (simp; done) | (simp; omega))]; first | assumption | (simp; done) | simp [go_sem, *]
  clear hc1 hf1
  clear hok B1 HB0 HC0 HC1 HC2
  have hS1 := HB1.out.size
  go_wp2_with fail
  refine (HIM.out _ _ (IntWalk.i64_left _).symm (by have h1 := HB1.out; (repeat (first | exact Below.refl _ _ | (refine Below.setCell ?_ (by (first | exact Nat.le_refl _ | omega | (simp <;> omega) | simp)) _) | (refine Below.alloc ?_ (by (first | exact Nat.le_refl _ | omega | (simp <;> omega) | simp)) _) | (refine below_draws ?_ _) | exact h1 | (refine Below.trans ?_ (Below.mono h1 (by (first | exact Nat.le_refl _ | omega | (simp <;> omega) | simp)))))))).mono ?_
  rintro en w5 ⟨p5, c5, rfl, o5, B5⟩
  have HB5 : Hid (Below w.heap.size w w5) := Lib.hid (by have h1 := HB1.out; (repeat (first | exact Below.refl _ _ | (refine Below.setCell ?_ (by (first | exact Nat.le_refl _ | omega | (simp <;> omega) | simp)) _) | (refine Below.alloc ?_ (by (first | exact Nat.le_refl _ | omega | (simp <;> omega) | simp)) _) | (refine below_draws ?_ _) | exact h1 | (refine Below.trans ?_ (Below.mono h1 (by (first | exact Nat.le_refl _ | omega | (simp <;> omega) | simp)))) | exact B5 | (refine Below.trans ?_ (Below.mono B5 (by (first | exact Nat.le_refl _ | omega | (simp <;> omega) | simp)))))))
  have HR5 : Hid (ReadsW w5 (.slice p5 R.2.2.2.1.length c5) R.2.2.2.1) := Lib.hid (ReadsW.of_own o5)
  obtain ⟨hc5, hf5⟩ := bcell B5
  have S5 := B5.size
  try simp at S5
  try (have _L5w : w.heap.size < w5.heap.size := by omega)
  have _M5w : w.heap.size ≤ w5.heap.size := by omega
  try (have _P5w_1 : w.heap.size + 1 < w5.heap.size := by omega)
  try (have _P5w_2 : w.heap.size + 1 + 1 < w5.heap.size := by omega)
  try (have _P5w_3 : w.heap.size + 1 + 1 + 1 < w5.heap.size := by omega)
  try (have _L5w1 : w1.heap.size < w5.heap.size := by omega)
  have _M5w1 : w1.heap.size ≤ w5.heap.size := by omega
  try (have _P5w1_1 : w1.heap.size + 1 < w5.heap.size := by omega)
  try (have _P5w1_2 : w1.heap.size + 1 + 1 < w5.heap.size := by omega)
  try (have _P5w1_3 : w1.heap.size + 1 + 1 + 1 < w5.heap.size := by omega)
  have _ : w5.cell? ⟨w.heap.size + 1, 0, none⟩ = some (.int .i64 0) := by rw [hc5 (w.heap.size + 1) 0 (by first | omega | (simp; done) | (simp; omega))]; first | assumption | (simp; done) | simp [go_sem, *]
  have _ : w5.frozen? ⟨w.heap.size + 1, 0, none⟩ = false := by rw [hf5 (w.heap.size + 1) 0 (by first | omega | (simp; done) | (simp; omega))]; first | assumption | (simp; done) | simp [go_sem, *]
  have _ : w5.cell? ⟨w.heap.size + 1, 1, none⟩ = some (.int .i64 0) := by rw [hc5 (w.heap.size + 1) 1 (by first | omega | (simp; done) | (simp; omega))]; first | assumption | (simp; done) | simp [go_sem, *]
  have _ : w5.frozen? ⟨w.heap.size + 1, 1, none⟩ = false := by rw [hf5 (w.heap.size + 1) 1 (by first | omega | (simp; done) | (simp; omega))]; first | assumption | (simp; done) | simp [go_sem, *]
  clear hc5 hf5
  clear o5 B5 c0 c1 c2 HIM HB1
  have hS5 := HB5.out.size
  go_wp2_with fail
  refine (impl_res R.1 R.2.1 R.2.2.1 a b _ R.2.2.2.1 _ (HR5.out.later (by (repeat (first | exact Below.refl _ _ | (refine Below.setCell ?_ (by (first | exact Nat.le_refl _ | omega | (simp <;> omega) | simp)) _) | (refine Below.alloc ?_ (by (first | exact Nat.le_refl _ | omega | (simp <;> omega) | simp)) _) | (refine below_draws ?_ _)))))).mono ?_
  rintro en w6 ⟨rfl, B6⟩
  have HB6 : Hid (Below w.heap.size w w6) := Lib.hid (by have h1 := HB5.out; (repeat (first | exact Below.refl _ _ | (refine Below.setCell ?_ (by (first | exact Nat.le_refl _ | omega | (simp <;> omega) | simp)) _) | (refine Below.alloc ?_ (by (first | exact Nat.le_refl _ | omega | (simp <;> omega) | simp)) _) | (refine below_draws ?_ _) | exact h1 | (refine Below.trans ?_ (Below.mono h1 (by (first | exact Nat.le_refl _ | omega | (simp <;> omega) | simp)))) | exact B6 | (refine Below.trans ?_ (Below.mono B6 (by (first | exact Nat.le_refl _ | omega | (simp <;> omega) | simp)))))))
  obtain ⟨hc6, hf6⟩ := bcell B6
  have S6 := B6.size
  try simp at S6
  try (have _L6w : w.heap.size < w6.heap.size := by omega)
  have _M6w : w.heap.size ≤ w6.heap.size := by omega
  try (have _P6w_1 : w.heap.size + 1 < w6.heap.size := by omega)
  try (have _P6w_2 : w.heap.size + 1 + 1 < w6.heap.size := by omega)
  try (have _P6w_3 : w.heap.size + 1 + 1 + 1 < w6.heap.size := by omega)
  try (have _L6w1 : w1.heap.size < w6.heap.size := by omega)
  have _M6w1 : w1.heap.size ≤ w6.heap.size := by omega
  try (have _P6w1_1 : w1.heap.size + 1 < w6.heap.size := by omega)
  try (have _P6w1_2 : w1.heap.size + 1 + 1 < w6.heap.size := by omega)
  try (have _P6w1_3 : w1.heap.size + 1 + 1 + 1 < w6.heap.size := by omega)
  try (have _L6w5 : w5.heap.size < w6.heap.size := by omega)
  have _M6w5 : w5.heap.size ≤ w6.heap.size := by omega
  try (have _P6w5_1 : w5.heap.size + 1 < w6.heap.size := by omega)
  try (have _P6w5_2 : w5.heap.size + 1 + 1 < w6.heap.size := by omega)
  try (have _P6w5_3 : w5.heap.size + 1 + 1 + 1 < w6.heap.size := by omega)
  have _ : w6.cell? ⟨w.heap.size + 1, 0, none⟩ = some (.int .i64 0) := by rw [hc6 (w.heap.size + 1) 0 (by first | omega | (simp; done) | (simp; omega))]; first | assumption | (simp; done) | simp [go_sem, *]
  have _ : w6.frozen? ⟨w.heap.size + 1, 0, none⟩ = false := by rw [hf6 (w.heap.size + 1) 0 (by first | omega | (simp; done) | (simp; omega))]; first | assumption | (simp; done) | simp [go_sem, *]
  have _ : w6.cell? ⟨w.heap.size + 1, 1, none⟩ = some (.int .i64 0) := by rw [hc6 (w.heap.size + 1) 1 (by first | omega | (simp; done) | (simp; omega))]; first | assumption | (simp; done) | simp [go_sem, *]
  have _ : w6.frozen? ⟨w.heap.size + 1, 1, none⟩ = false := by rw [hf6 (w.heap.size + 1) 1 (by first | omega | (simp; done) | (simp; omega))]; first | assumption | (simp; done) | simp [go_sem, *]
  clear hc6 hf6
  clear B6 HR5 HB5
  go_wp2
  have h6 := HB6.out
  exact bodyPost_ret (v := (.tuple #[.agg #[.int .i64 (resR R.1 R.2.1 R.2.2.1 R.2.2.2.1 a b).1, .int .i64 (resR R.1 R.2.1 R.2.2.1 R.2.2.2.1 a b).2.1], .bool (resR R.1 R.2.1 R.2.2.1 R.2.2.2.1 a b).2.2])) (by simp (maxDischargeDepth := 8) [results, Try.results92, go_sem, *]) rfl ⟨rfl, by (repeat (first | exact Below.refl _ _ | (refine Below.setCell ?_ (by (first | exact Nat.le_refl _ | omega | (simp <;> omega) | simp)) _) | (refine Below.alloc ?_ (by (first | exact Nat.le_refl _ | omega | (simp <;> omega) | simp)) _) | (refine below_draws ?_ _) | exact h6 | (refine Below.trans ?_ (Below.mono h6 (by (first | exact Nat.le_refl _ | omega | (simp <;> omega) | simp))))))⟩
end Go.Proofs.Ytaececpphdaciaa
