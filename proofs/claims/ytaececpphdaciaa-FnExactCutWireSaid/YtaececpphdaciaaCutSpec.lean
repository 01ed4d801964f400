/-
  CutWire in the model.
-/
import Derived.Test.YtaececpphdaciaaFaultSpec
namespace Go.Proofs.Ytaececpphdaciaa
open Go.RowKit

/-- CutWire is the fault of the weight 0. -/
theorem cut_yes {n e s : Int} {j : Nat} {ws : List W3} (hb : netB n e s ws = true) (hj : j < ws.length) : faultR n e s (j : Int) 0 ws = withR n e s (dropZ (fltW ws j 0)) := by
  have hgd : ws.getD ((j : Int)).toNat (0, 0, 0) = ws[j] := by rw [Int.toNat_natCast, List.getD_eq_getElem?_getD, List.getElem?_eq_getElem hj]; rfl
  have hw := (netB_iff.1 hb).2.1.1 j hj
  unfold wireV at hw
  rw [faultR_yes hb ⟨by omega, by omega, by rw [hgd]; omega⟩, Int.toNat_natCast]
set_option maxRecDepth 8000 in
set_option maxHeartbeats 12800000 in
theorem spec_cut (n e s i : Int) (v : Value) (ws : List W3) (w : World) (hr : ReadsW w v ws) (hlen : ws.length ≤ 1048576) :
    Calls Try.prog 48 #[.agg #[.int .i64 n, .int .i64 e, .int .i64 s, v], .int .i64 i] w (AnsN w (faultR n e s i 0 ws)) := by
  have B0 : Below w.heap.size w ((w.alloc (.cells #[.int .i64 n, .int .i64 e, .int .i64 s, v] 25)).alloc (.cells #[.int .i64 0, .int .i64 0, .int .i64 0, .slice none 0 0] 25)) := by (repeat (first | exact Below.refl _ _ | (refine Below.setCell ?_ (by (first | exact Nat.le_refl _ | omega | (simp <;> omega) | simp)) _) | (refine Below.alloc ?_ (by (first | exact Nat.le_refl _ | omega | (simp <;> omega) | simp)) _) | (refine below_draws ?_ _)))
  have hok := spec_netOk n e s v ws _ (hr.later B0)
  obtain ⟨p0, cap0, rfl⟩ := hr.shape
  have hwr : IntKind.i64.wrap ((ws.length : Int) - 1) = (ws.length : Int) - 1 := by rw [IntKind.wrap_i64]; omega
  clear B0
  cases hb : netB n e s ws
  case false =>
    rw [faultR_no (fun h => by rw [hb] at h; cases h.1)]
    clear hr
    go_enter Try.func48, Try.ntmps48
    go_wp2_with fail
    refine hok.mono ?_
    rintro en w1 ⟨rfl, B1⟩
    obtain ⟨hc1, hf1⟩ := bcell B1
    have S1 := B1.size
    try simp at S1
    try (have _L1w : w.heap.size < w1.heap.size := by omega)
    have _M1w : w.heap.size ≤ w1.heap.size := by omega
    try (have _P1w_1 : w.heap.size + 1 < w1.heap.size := by omega)
    try (have _P1w_2 : w.heap.size + 1 + 1 < w1.heap.size := by omega)
    try (have _P1w_3 : w.heap.size + 1 + 1 + 1 < w1.heap.size := by omega)
    have _ : w1.cell? ⟨w.heap.size, 0, none⟩ = some (.int .i64 n) := by rw [hc1 (w.heap.size) 0 (by first | omega | (simp; done) | (simp; omega))]; first | assumption | (simp; done) | simp [go_sem, *]
    have _ : w1.frozen? ⟨w.heap.size, 0, none⟩ = false := by rw [hf1 (w.heap.size) 0 (by first | omega | (simp; done) | (simp; omega))]; first | assumption | (simp; done) | simp [go_sem, *]
    have _ : w1.cell? ⟨w.heap.size, 1, none⟩ = some (.int .i64 e) := by rw [hc1 (w.heap.size) 1 (by first | omega | (simp; done) | (simp; omega))]; first | assumption | (simp; done) | simp [go_sem, *]
    have _ : w1.frozen? ⟨w.heap.size, 1, none⟩ = false := by rw [hf1 (w.heap.size) 1 (by first | omega | (simp; done) | (simp; omega))]; first | assumption | (simp; done) | simp [go_sem, *]
    have _ : w1.cell? ⟨w.heap.size, 2, none⟩ = some (.int .i64 s) := by rw [hc1 (w.heap.size) 2 (by first | omega | (simp; done) | (simp; omega))]; first | assumption | (simp; done) | simp [go_sem, *]
    have _ : w1.frozen? ⟨w.heap.size, 2, none⟩ = false := by rw [hf1 (w.heap.size) 2 (by first | omega | (simp; done) | (simp; omega))]; first | assumption | (simp; done) | simp [go_sem, *]
    have _ : w1.cell? ⟨w.heap.size, 3, none⟩ = some (.slice p0 ws.length cap0) := by rw [hc1 (w.heap.size) 3 (by first | omega | (simp; done) | (simp; omega))]; first | assumption | (simp; done) | simp [go_sem, *]
    have _ : w1.frozen? ⟨w.heap.size, 3, none⟩ = false := by rw [hf1 (w.heap.size) 3 (by first | omega | (simp; done) | (simp; omega))]; first | assumption | (simp; done) | simp [go_sem, *]
    have _ : w1.cell? ⟨w.heap.size + 1, 0, none⟩ = some (.int .i64 0) := by rw [hc1 (w.heap.size + 1) 0 (by first | omega | (simp; done) | (simp; omega))]; first | assumption | (simp; done) | simp [go_sem, *]
    have _ : w1.frozen? ⟨w.heap.size + 1, 0, none⟩ = false := by rw [hf1 (w.heap.size + 1) 0 (by first | omega | (simp; done) | (simp; omega))]; first | assumption | (simp; done) | simp [go_sem, *]
    have _ : w1.cell? ⟨w.heap.size + 1, 1, none⟩ = some (.int .i64 0) := by rw [hc1 (w.heap.size + 1) 1 (by first | omega | (simp; done) | (simp; omega))]; first | assumption | (simp; done) | simp [go_sem, *]
    have _ : w1.frozen? ⟨w.heap.size + 1, 1, none⟩ = false := by rw [hf1 (w.heap.size + 1) 1 (by first | omega | (simp; done) | (simp; omega))]; first | assumption | (simp; done) | simp [go_sem, *]
    have _ : w1.cell? ⟨w.heap.size + 1, 2, none⟩ = some (.int .i64 0) := by rw [hc1 (w.heap.size + 1) 2 (by first | omega | (simp; done) | (simp; omega))]; first | assumption | (simp; done) | simp [go_sem, *]
    have _ : w1.frozen? ⟨w.heap.size + 1, 2, none⟩ = false := by rw [hf1 (w.heap.size + 1) 2 (by first | omega | (simp; done) | (simp; omega))]; first | assumption | (simp; done) | simp [go_sem, *]
    have _ : w1.cell? ⟨w.heap.size + 1, 3, none⟩ = some (.slice none 0 0) := by rw [hc1 (w.heap.size + 1) 3 (by first | omega | (simp; done) | (simp; omega))]; first | assumption | (simp; done) | simp [go_sem, *]
    have _ : w1.frozen? ⟨w.heap.size + 1, 3, none⟩ = false := by rw [hf1 (w.heap.size + 1) 3 (by first | omega | (simp; done) | (simp; omega))]; first | assumption | (simp; done) | simp [go_sem, *]
    clear hc1 hf1
    rw [hb]
    go_wp2
    exact bodyPost_ret (v := .tuple #[.agg #[.int .i64 0, .int .i64 0, .int .i64 0, .slice none 0 0], .bool false]) (by simp (maxDischargeDepth := 8) [results, Try.results48, go_sem, *]) rfl (ansN_no (by (repeat (first | exact Below.refl _ _ | (refine Below.setCell ?_ (by (first | exact Nat.le_refl _ | omega | (simp <;> omega) | simp)) _) | (refine Below.alloc ?_ (by (first | exact Nat.le_refl _ | omega | (simp <;> omega) | simp)) _) | (refine below_draws ?_ _) | exact B1 | (refine Below.trans ?_ (Below.mono B1 (by (first | exact Nat.le_refl _ | omega | (simp <;> omega) | simp))))))))
  by_cases h1 : 0 ≤ i ∧ i ≤ (ws.length : Int) - 1
  case neg =>
    rw [faultR_no (fun h => by have := h.2.1; omega)]
    clear hr
    go_enter Try.func48, Try.ntmps48
    go_wp2_with fail
    refine hok.mono ?_
    rintro en w1 ⟨rfl, B1⟩
    obtain ⟨hc1, hf1⟩ := bcell B1
    have S1 := B1.size
    try simp at S1
    try (have _L1w : w.heap.size < w1.heap.size := by omega)
    have _M1w : w.heap.size ≤ w1.heap.size := by omega
    try (have _P1w_1 : w.heap.size + 1 < w1.heap.size := by omega)
    try (have _P1w_2 : w.heap.size + 1 + 1 < w1.heap.size := by omega)
    try (have _P1w_3 : w.heap.size + 1 + 1 + 1 < w1.heap.size := by omega)
    have _ : w1.cell? ⟨w.heap.size, 0, none⟩ = some (.int .i64 n) := by rw [hc1 (w.heap.size) 0 (by first | omega | (simp; done) | (simp; omega))]; first | assumption | (simp; done) | simp [go_sem, *]
    have _ : w1.frozen? ⟨w.heap.size, 0, none⟩ = false := by rw [hf1 (w.heap.size) 0 (by first | omega | (simp; done) | (simp; omega))]; first | assumption | (simp; done) | simp [go_sem, *]
    have _ : w1.cell? ⟨w.heap.size, 1, none⟩ = some (.int .i64 e) := by rw [hc1 (w.heap.size) 1 (by first | omega | (simp; done) | (simp; omega))]; first | assumption | (simp; done) | simp [go_sem, *]
    have _ : w1.frozen? ⟨w.heap.size, 1, none⟩ = false := by rw [hf1 (w.heap.size) 1 (by first | omega | (simp; done) | (simp; omega))]; first | assumption | (simp; done) | simp [go_sem, *]
    have _ : w1.cell? ⟨w.heap.size, 2, none⟩ = some (.int .i64 s) := by rw [hc1 (w.heap.size) 2 (by first | omega | (simp; done) | (simp; omega))]; first | assumption | (simp; done) | simp [go_sem, *]
    have _ : w1.frozen? ⟨w.heap.size, 2, none⟩ = false := by rw [hf1 (w.heap.size) 2 (by first | omega | (simp; done) | (simp; omega))]; first | assumption | (simp; done) | simp [go_sem, *]
    have _ : w1.cell? ⟨w.heap.size, 3, none⟩ = some (.slice p0 ws.length cap0) := by rw [hc1 (w.heap.size) 3 (by first | omega | (simp; done) | (simp; omega))]; first | assumption | (simp; done) | simp [go_sem, *]
    have _ : w1.frozen? ⟨w.heap.size, 3, none⟩ = false := by rw [hf1 (w.heap.size) 3 (by first | omega | (simp; done) | (simp; omega))]; first | assumption | (simp; done) | simp [go_sem, *]
    have _ : w1.cell? ⟨w.heap.size + 1, 0, none⟩ = some (.int .i64 0) := by rw [hc1 (w.heap.size + 1) 0 (by first | omega | (simp; done) | (simp; omega))]; first | assumption | (simp; done) | simp [go_sem, *]
    have _ : w1.frozen? ⟨w.heap.size + 1, 0, none⟩ = false := by rw [hf1 (w.heap.size + 1) 0 (by first | omega | (simp; done) | (simp; omega))]; first | assumption | (simp; done) | simp [go_sem, *]
    have _ : w1.cell? ⟨w.heap.size + 1, 1, none⟩ = some (.int .i64 0) := by rw [hc1 (w.heap.size + 1) 1 (by first | omega | (simp; done) | (simp; omega))]; first | assumption | (simp; done) | simp [go_sem, *]
    have _ : w1.frozen? ⟨w.heap.size + 1, 1, none⟩ = false := by rw [hf1 (w.heap.size + 1) 1 (by first | omega | (simp; done) | (simp; omega))]; first | assumption | (simp; done) | simp [go_sem, *]
    have _ : w1.cell? ⟨w.heap.size + 1, 2, none⟩ = some (.int .i64 0) := by rw [hc1 (w.heap.size + 1) 2 (by first | omega | (simp; done) | (simp; omega))]; first | assumption | (simp; done) | simp [go_sem, *]
    have _ : w1.frozen? ⟨w.heap.size + 1, 2, none⟩ = false := by rw [hf1 (w.heap.size + 1) 2 (by first | omega | (simp; done) | (simp; omega))]; first | assumption | (simp; done) | simp [go_sem, *]
    have _ : w1.cell? ⟨w.heap.size + 1, 3, none⟩ = some (.slice none 0 0) := by rw [hc1 (w.heap.size + 1) 3 (by first | omega | (simp; done) | (simp; omega))]; first | assumption | (simp; done) | simp [go_sem, *]
    have _ : w1.frozen? ⟨w.heap.size + 1, 3, none⟩ = false := by rw [hf1 (w.heap.size + 1) 3 (by first | omega | (simp; done) | (simp; omega))]; first | assumption | (simp; done) | simp [go_sem, *]
    clear hc1 hf1
    rw [hb]
    go_wp2_with fail
    with_reducible refine Calls.mono (in_no _ _ _ _ h1) ?_
    rintro en wq ⟨rfl, rfl⟩
    go_wp2
    exact bodyPost_ret (v := .tuple #[.agg #[.int .i64 0, .int .i64 0, .int .i64 0, .slice none 0 0], .bool false]) (by simp (maxDischargeDepth := 8) [results, Try.results48, go_sem, *]) rfl (ansN_no (by (repeat (first | exact Below.refl _ _ | (refine Below.setCell ?_ (by (first | exact Nat.le_refl _ | omega | (simp <;> omega) | simp)) _) | (refine Below.alloc ?_ (by (first | exact Nat.le_refl _ | omega | (simp <;> omega) | simp)) _) | (refine below_draws ?_ _) | exact B1 | (refine Below.trans ?_ (Below.mono B1 (by (first | exact Nat.le_refl _ | omega | (simp <;> omega) | simp))))))))
  obtain ⟨j, rfl⟩ : ∃ j : Nat, i = (j : Int) := ⟨i.toNat, by omega⟩
  have hj : j < ws.length := by omega
  obtain ⟨g, o, rfl, c0, c1, c2⟩ := reads_at hr j hj
  clear c0 c1 c2
  rw [cut_yes hb hj]
  obtain ⟨W0, hW0⟩ : ∃ W0, W0 = (w.alloc (.cells #[.int .i64 n, .int .i64 e, .int .i64 s, .slice (some ⟨g, o, none⟩) ws.length cap0] 25)).alloc (.cells #[.int .i64 0, .int .i64 0, .int .i64 0, .slice none 0 0] 25) := ⟨_, rfl⟩
  have hs0 : W0.heap.size = w.heap.size + 2 := by rw [hW0]; simp
  have HS0 := Lib.hid hs0
  have HX : Hid (boxN W0 w.heap.size n e s (.slice (some ⟨g, o, none⟩) ws.length cap0)) := Lib.hid (by rw [hW0]; exact (boxN.new w n e s (.slice (some ⟨g, o, none⟩) ws.length cap0) 25).later (by (repeat (first | exact Below.refl _ _ | (refine Below.setCell ?_ (by (first | exact Nat.le_refl _ | omega | (simp <;> omega) | simp)) _) | (refine Below.alloc ?_ (by (first | exact Nat.le_refl _ | omega | (simp <;> omega) | simp)) _) | (refine below_draws ?_ _)))))
  have HZ : Hid (box4 W0 (w.heap.size + 1) (.int .i64 0) (.int .i64 0) (.int .i64 0) (.slice none 0 0)) := Lib.hid (by rw [hW0]; have h := box4.new (w.alloc (.cells #[.int .i64 n, .int .i64 e, .int .i64 s, .slice (some ⟨g, o, none⟩) ws.length cap0] 25)) (.int .i64 0) (.int .i64 0) (.int .i64 0) (.slice none 0 0) 25; simpa using h)
  have HB0 : Hid (Below w.heap.size w W0) := Lib.hid (by rw [hW0]; (repeat (first | exact Below.refl _ _ | (refine Below.setCell ?_ (by (first | exact Nat.le_refl _ | omega | (simp <;> omega) | simp)) _) | (refine Below.alloc ?_ (by (first | exact Nat.le_refl _ | omega | (simp <;> omega) | simp)) _) | (refine below_draws ?_ _))))
  have HRD : Hid (∀ W, Below W0.heap.size W0 W → ReadsW W (.slice (some ⟨g, o, none⟩) ws.length cap0) ws) := Lib.hid (fun W hB => hr.later (HB0.out.trans (hB.mono HB0.out.size)))
  obtain ⟨M, hM⟩ : ∃ M, fltW ws j 0 = M := ⟨_, rfl⟩
  have hMl : M.length = ws.length := by rw [← hM, fltW_length]
  have hMc : cellsW M = (cellsW ws).set (j * 3 + 2) (.int .i64 0) := by rw [← hM, cells_fltW ws j 0 hj]
  rw [hM]
  have HMC := Lib.hid hMc; have HML := Lib.hid hMl
  obtain ⟨h1a, h1b⟩ := h1
  rw [hb] at hok
  clear hr hs0 hM hMc hMl
  go_enter Try.func48, Try.ntmps48
  go_wp2_with fail
  refine hok.mono ?_
  rintro en w1 ⟨rfl, B1⟩
  rw [← hW0] at B1
  have hBW := B1
  obtain ⟨x0, x1, x2, x3⟩ := HX.out.later B1
  clear hok hW0 B1
  go_wp2_with fail
  with_reducible refine Calls.mono (in_yes _ _ _ _ h1a h1b) ?_
  rintro en wq ⟨rfl, rfl⟩
  have HZ1 := Lib.hid (HZ.out.later hBW)
  have HB1 : Hid (Below w.heap.size w w1) := Lib.hid (HB0.out.trans (hBW.mono HB0.out.size))
  have S1 : w.heap.size + 2 ≤ w1.heap.size := by have := hBW.size; have := HS0.out; omega
  have HR1 := Lib.hid (HRD.out w1 hBW)
  clear hBW
  go_wp2_with fail
  refine (spec_copy n e s _ ws _ HR1.out hlen).mono ?_
  rintro en w2 ⟨p2, cc2, rfl, o2, B2⟩
  obtain ⟨g2, cc, hv, hg1, hg2⟩ := o2.form (by omega)
  simp only [Value.slice.injEq] at hv
  obtain ⟨rfl, -, rfl⟩ := hv
  have S2 := B2.size
  have BA : Below w2.heap.size w2 (w2.alloc (.cells #[.int .i64 n, .int .i64 e, .int .i64 s, .slice (some ⟨g2, 0, none⟩) ws.length cc2] 25)) := (Below.refl _ _).alloc (Nat.le_refl _) _
  have hlt2 : g2 < w2.heap.size := (o2.lt g2 rfl).2
  have hb4 := HZ1.out.later B2
  have HZ2 : Hid (box4 ((w2.setCell ⟨g2, j * 3 + 2, none⟩ (.int .i64 0)).alloc (.cells #[.int .i64 n, .int .i64 e, .int .i64 s, .slice (some ⟨g2, 0, none⟩) ws.length cc2] 25)) (w.heap.size + 1) (.int .i64 0) (.int .i64 0) (.int .i64 0) (.slice none 0 0)) := Lib.hid ((hb4.setCell (p := ⟨g2, j * 3 + 2, none⟩) (show g2 ≠ w.heap.size + 1 by omega)).alloc _)
  have HN2 : Hid (box4 ((w2.setCell ⟨g2, j * 3 + 2, none⟩ (.int .i64 0)).alloc (.cells #[.int .i64 n, .int .i64 e, .int .i64 s, .slice (some ⟨g2, 0, none⟩) ws.length cc2] 25)) w2.heap.size (.int .i64 n) (.int .i64 e) (.int .i64 s) (.slice (some ⟨g2, 0, none⟩) ws.length cc2)) := Lib.hid (by have h := box4.new (w2.setCell ⟨g2, j * 3 + 2, none⟩ (.int .i64 0)) (.int .i64 n) (.int .i64 e) (.int .i64 s) (.slice (some ⟨g2, 0, none⟩) ws.length cc2) 25; simpa using h)
  have HB2 : Hid (Below w.heap.size w ((w2.setCell ⟨g2, j * 3 + 2, none⟩ (.int .i64 0)).alloc (.cells #[.int .i64 n, .int .i64 e, .int .i64 s, .slice (some ⟨g2, 0, none⟩) ws.length cc2] 25))) := Lib.hid (((HB1.out.trans (B2.mono (by omega))).setCell (p := ⟨g2, j * 3 + 2, none⟩) (by show w.heap.size ≤ g2; omega) _).alloc (by simp; omega) _)
  have o3 := o2.alloc (.cells #[.int .i64 n, .int .i64 e, .int .i64 s, .slice (some ⟨g2, 0, none⟩) ws.length cc2] 25)
  have t2 := o3.cellAt (j * 3 + 2) (by omega)
  rw [List.getElem?_eq_getElem (by rw [cellsW_length]; omega)] at t2
  have f2 := o3.frozenAt (j * 3 + 2)
  have hst := (o2.stored (j * 3 + 2) (.int .i64 0)).1.alloc (.cells #[.int .i64 n, .int .i64 e, .int .i64 s, .slice (some ⟨g2, 0, none⟩) ws.length cc2] 25)
  rw [← HMC.out] at hst
  have HRM : Hid (ReadsW ((w2.setCell ⟨g2, j * 3 + 2, none⟩ (.int .i64 0)).alloc (.cells #[.int .i64 n, .int .i64 e, .int .i64 s, .slice (some ⟨g2, 0, none⟩) ws.length cc2] 25)) (.slice (some ⟨g2, 0, none⟩) ws.length cc2) M) := Lib.hid (ReadsW.of_own (e := 29) (base := w1.heap.size) (by rw [HML.out]; exact hst))
  have hne2 : ¬ g2 = w2.heap.size := by omega
  have hji : (j : Int) < (ws.length : Int) := by omega
  have HSZ : Hid (w.heap.size + 2 ≤ w2.heap.size) := Lib.hid (by omega)
  clear x0 x1 x2 x3 B2 BA o2 o3 hst hb4 HR1 HX HZ HZ1 HB0 HRD HMC HB1
  go_wp2_with fail
  clear t2 f2
  obtain ⟨W3, hW3⟩ : ∃ W3, (w2.setCell ⟨g2, j * 3 + 2, none⟩ (.int .i64 0)).alloc (.cells #[.int .i64 n, .int .i64 e, .int .i64 s, .slice (some ⟨g2, 0, none⟩) ws.length cc2] 25) = W3 := ⟨_, rfl⟩
  have S3 : W3.heap.size = w2.heap.size + 1 := by rw [← hW3]; simp
  have HS3 := Lib.hid S3
  rw [hW3] at HZ2 HN2 HB2 HRM ⊢
  clear hW3 S3
  have hMl : M.length ≤ 1048580 := by rw [HML.out]; omega
  refine (spec_drop _ M _ HRM.out hMl).mono ?_
  rintro en w4 ⟨p4, c4, rfl, o4, B4⟩
  obtain ⟨n0, n1, n2, n3, g0, g1, g2', g3, -⟩ := HN2.out.later B4
  have HN5 := Lib.hid ((HN2.out.later B4).set3 (v := .slice p4 (dropZ M).length c4))
  have HZ5 := Lib.hid ((HZ2.out.later B4).setCell (p := ⟨w2.heap.size, 3, none⟩) (v := .slice p4 (dropZ M).length c4) (show w2.heap.size ≠ w.heap.size + 1 by have := HSZ.out; omega))
  have S4 := B4.size
  have HB5 : Hid (Below w.heap.size w (w4.setCell ⟨w2.heap.size, 3, none⟩ (.slice p4 (dropZ M).length c4))) := Lib.hid ((HB2.out.trans (B4.mono (by have := HS3.out; have := HSZ.out; omega))).setCell (p := ⟨w2.heap.size, 3, none⟩) (by show w.heap.size ≤ w2.heap.size; have := HSZ.out; omega) _)
  have HO5 : Hid ((w4.setCell ⟨w2.heap.size, 3, none⟩ (.slice p4 (dropZ M).length c4)).ownsRow W3.heap.size 29 3 (.slice p4 (dropZ M).length c4) (dropZ M).length (cellsW (dropZ M))) := Lib.hid (ownsRow_setCell_below o4 (show w2.heap.size < W3.heap.size by have := HS3.out; omega) _)
  clear B4 o4 HRM HN2 HZ2 HB2
  go_wp2_with fail
  clear n0 n1 n2 n3 g0 g1 g2' g3
  obtain ⟨W5, hW5⟩ : ∃ W5, w4.setCell ⟨w2.heap.size, 3, none⟩ (.slice p4 (dropZ M).length c4) = W5 := ⟨_, rfl⟩
  rw [hW5] at HN5 HZ5 HB5 HO5 ⊢
  clear hW5
  have hok2 := spec_netOk n e s (.slice p4 (dropZ M).length c4) (dropZ M) W5 (ReadsW.of_own HO5.out)
  cases hb2 : netB n e s (dropZ M)
  · rw [hb2] at hok2
    have HBB := Lib.hid (withR_no hb2)
    clear hb2
    refine hok2.mono ?_
    rintro en w6 ⟨rfl, B6⟩
    obtain ⟨z0, z1, z2, z3, f0, f1, f2, f3, -⟩ := HZ5.out.later B6
    have HB6 : Hid (Below w.heap.size w w6) := Lib.hid (HB5.out.trans (B6.mono HB5.out.size))
    clear B6 hok2
    go_wp2
    exact bodyPost_ret (v := .tuple #[.agg #[.int .i64 0, .int .i64 0, .int .i64 0, .slice none 0 0], .bool false]) (by simp (maxDischargeDepth := 8) [results, Try.results48, go_sem, *]) rfl (by rw [HBB.out]; exact ansN_no (by have h6 := HB6.out; (repeat (first | exact Below.refl _ _ | (refine Below.setCell ?_ (by (first | exact Nat.le_refl _ | omega | (simp <;> omega) | simp)) _) | (refine Below.alloc ?_ (by (first | exact Nat.le_refl _ | omega | (simp <;> omega) | simp)) _) | (refine below_draws ?_ _) | exact h6 | (refine Below.trans ?_ (Below.mono h6 (by (first | exact Nat.le_refl _ | omega | (simp <;> omega) | simp))))))))
  · rw [hb2] at hok2
    have HBB := Lib.hid (withR_yes hb2)
    clear hb2
    refine hok2.mono ?_
    rintro en w6 ⟨rfl, B6⟩
    obtain ⟨z0, z1, z2, z3, f0, f1, f2, f3, -⟩ := HZ5.out.later B6
    obtain ⟨n0, n1, n2, n3, -⟩ := HN5.out.later B6
    have HB6 : Hid (Below w.heap.size w w6) := Lib.hid (HB5.out.trans (B6.mono HB5.out.size))
    have HO6 := Lib.hid (owns_later HO5.out B6)
    clear B6 hok2
    go_wp2
    exact bodyPost_ret (v := .tuple #[.agg #[.int .i64 n, .int .i64 e, .int .i64 s, .slice p4 (dropZ M).length c4], .bool true]) (by simp (maxDischargeDepth := 8) [results, Try.results48, go_sem, *]) rfl (by rw [HBB.out]; exact ⟨p4, c4, rfl, (by refine owns_mono (base := W3.heap.size) ?_ (by have := HS3.out; have := HSZ.out; omega); have o6 := HO6.out; have h3 := HS3.out; have h4 := HSZ.out; ((repeat (refine ownsRow_setCell_below ?_ ?_ _; rotate_left; focus (first | omega | (simp; done) | (simp; omega)))); with_reducible exact o6)), (by have h6 := HB6.out; (repeat (first | exact Below.refl _ _ | (refine Below.setCell ?_ (by (first | exact Nat.le_refl _ | omega | (simp <;> omega) | simp)) _) | (refine Below.alloc ?_ (by (first | exact Nat.le_refl _ | omega | (simp <;> omega) | simp)) _) | (refine below_draws ?_ _) | exact h6 | (refine Below.trans ?_ (Below.mono h6 (by (first | exact Nat.le_refl _ | omega | (simp <;> omega) | simp)))))))⟩)
end Go.Proofs.Ytaececpphdaciaa
