/-
  The resistance with a greater weight of one wire, in the model.
-/
import Derived.Test.YtaececpphdaciaaFaultSpec
import Derived.Test.YtaececpphdaciaaReweigh
import Derived.Test.YtaececpphdaciaaBox2
import Derived.Test.YtaececpphdaciaaPotential
namespace Go.Proofs.Ytaececpphdaciaa
open Go.RowKit

set_option maxRecDepth 8000 in
set_option maxHeartbeats 12800000 in
theorem spec_more (n e s a b : Int) (j : Nat) (v : Value) (ws : List W3) (w : World) (hr : ReadsW w v ws) (hlen : ws.length ≤ 1048576) (hj : j < ws.length) (hW : 0 ≤ ws[j].2.2 ∧ ws[j].2.2 ≤ 200) :
    Calls Try.prog 91 #[.agg #[.int .i64 n, .int .i64 e, .int .i64 s, v], .int .i64 a, .int .i64 b, .int .i64 (j : Int)] w fun en w' => en = .returned (.agg #[.int .i64 (resR n e s (fltW ws j (ws[j].2.2 + 1)) a b).1, .int .i64 (resR n e s (fltW ws j (ws[j].2.2 + 1)) a b).2.1]) ∧ Below w.heap.size w w' := by
  obtain ⟨p0, cap0, rfl⟩ := hr.shape
  have B0 : Below w.heap.size w ((w.alloc (.cells #[.int .i64 n, .int .i64 e, .int .i64 s, .slice p0 ws.length cap0] 25)).alloc (.cells #[.int .i64 0, .int .i64 0] 43)) := by (repeat (first | exact Below.refl _ _ | (refine Below.setCell ?_ (by (first | exact Nat.le_refl _ | omega | (simp <;> omega) | simp)) _) | (refine Below.alloc ?_ (by (first | exact Nat.le_refl _ | omega | (simp <;> omega) | simp)) _) | (refine below_draws ?_ _)))
  have HB0 := Lib.hid B0
  have HX : Hid (box2 ((w.alloc (.cells #[.int .i64 n, .int .i64 e, .int .i64 s, .slice p0 ws.length cap0] 25)).alloc (.cells #[.int .i64 0, .int .i64 0] 43)) (w.heap.size + 1) (.int .i64 0) (.int .i64 0)) := Lib.hid (by have h := box2.new (w.alloc (.cells #[.int .i64 n, .int .i64 e, .int .i64 s, .slice p0 ws.length cap0] 25)) (.int .i64 0) (.int .i64 0) 43; simpa using h)
  have hcp := spec_copy n e s _ ws _ (hr.later B0) hlen
  obtain ⟨Y, hY⟩ : ∃ Y, ws[j].2.2 = Y := ⟨_, rfl⟩
  have hcg := (cellsW_get ws j hj).2.2
  rw [hY] at hW hcg ⊢
  obtain ⟨y0, y1⟩ := hW
  obtain ⟨M, hM⟩ : ∃ M, fltW ws j (Y + 1) = M := ⟨_, rfl⟩
  have hMl : M.length = ws.length := by rw [← hM, fltW_length]
  have hMc : cellsW M = (cellsW ws).set (j * 3 + 2) (.int .i64 (Y + 1)) := by rw [← hM, cells_fltW ws j (Y + 1) hj]
  rw [hM]
  have HMC := Lib.hid hMc; have HML := Lib.hid hMl; have HCG := Lib.hid hcg
  clear hr hM hMc hMl hcg B0 hY
  go_enter Try.func91, Try.ntmps91
  go_wp2_with fail
  refine hcp.mono ?_
  rintro en w2 ⟨p2, cc2, rfl, o2, B2⟩
  obtain ⟨g2, cc, hv, hg1, hg2⟩ := o2.form (by omega)
  simp only [Value.slice.injEq] at hv
  obtain ⟨rfl, -, rfl⟩ := hv
  have S2 := B2.size
  simp at S2
  have hlt2 : g2 < w2.heap.size := (o2.lt g2 rfl).2
  have hge2 : w.heap.size + 2 ≤ g2 := by have h := (o2.lt g2 rfl).1; simp at h; omega
  have hb4 := HX.out.later B2
  have HB1 : Hid (Below w.heap.size w w2) := Lib.hid (HB0.out.trans (B2.mono HB0.out.size))
  have HZ2 : Hid (box2 ((w2.setCell ⟨g2, j * 3 + 2, none⟩ (.int .i64 (Y + 1))).alloc (.cells #[.int .i64 n, .int .i64 e, .int .i64 s, .slice (some ⟨g2, 0, none⟩) ws.length cc2] 25)) (w.heap.size + 1) (.int .i64 0) (.int .i64 0)) := Lib.hid ((hb4.setCell (p := ⟨g2, j * 3 + 2, none⟩) (show g2 ≠ w.heap.size + 1 by omega)).alloc _)
  have HB2 : Hid (Below w.heap.size w ((w2.setCell ⟨g2, j * 3 + 2, none⟩ (.int .i64 (Y + 1))).alloc (.cells #[.int .i64 n, .int .i64 e, .int .i64 s, .slice (some ⟨g2, 0, none⟩) ws.length cc2] 25))) := Lib.hid ((HB1.out.setCell (p := ⟨g2, j * 3 + 2, none⟩) (by show w.heap.size ≤ g2; omega) _).alloc (by simp; omega) _)
  have o3 := o2.alloc (.cells #[.int .i64 n, .int .i64 e, .int .i64 s, .slice (some ⟨g2, 0, none⟩) ws.length cc2] 25)
  have t2 := o3.cellAt (j * 3 + 2) (by omega)
  rw [HCG.out] at t2
  have f2 := o3.frozenAt (j * 3 + 2)
  have hst := (o2.stored (j * 3 + 2) (.int .i64 (Y + 1))).1.alloc (.cells #[.int .i64 n, .int .i64 e, .int .i64 s, .slice (some ⟨g2, 0, none⟩) ws.length cc2] 25)
  rw [← HMC.out] at hst
  have HRM : Hid (ReadsW ((w2.setCell ⟨g2, j * 3 + 2, none⟩ (.int .i64 (Y + 1))).alloc (.cells #[.int .i64 n, .int .i64 e, .int .i64 s, .slice (some ⟨g2, 0, none⟩) ws.length cc2] 25)) (.slice (some ⟨g2, 0, none⟩) ws.length cc2) M) := Lib.hid (ReadsW.of_own (e := 29) (base := w.heap.size + 2) (by rw [HML.out]; simpa using hst))
  have hne2 : ¬ g2 = w2.heap.size := by omega
  have hji : (j : Int) < (ws.length : Int) := by omega
  have HSZ : Hid (w.heap.size + 2 ≤ w2.heap.size) := Lib.hid (by omega)
  clear B2 o2 o3 hst hb4 HX HB0 HMC HCG HB1 hcp S2 hge2
  go_wp2_with fail
  clear t2 f2
  obtain ⟨W3, hW3⟩ : ∃ W3, (w2.setCell ⟨g2, j * 3 + 2, none⟩ (.int .i64 (Y + 1))).alloc (.cells #[.int .i64 n, .int .i64 e, .int .i64 s, .slice (some ⟨g2, 0, none⟩) ws.length cc2] 25) = W3 := ⟨_, rfl⟩
  rw [hW3] at HZ2 HB2 HRM ⊢
  clear hW3
  refine (spec_res n e s a b _ M _ HRM.out).mono ?_
  rintro en w4 ⟨rfl, B4⟩
  obtain ⟨z0, z1, f0, f1, -⟩ := HZ2.out.later B4
  have hs4 : w.heap.size + 1 < w4.heap.size := by have h1 := (HZ2.out.later B4).2.2.2.2; exact h1
  have HB4 : Hid (Below w.heap.size w w4) := Lib.hid (HB2.out.trans (B4.mono HB2.out.size))
  clear B4 HRM HZ2 HB2
  go_wp2
  have h6 := HB4.out
  exact bodyPost_ret (v := (.agg #[.int .i64 (resR n e s M a b).1, .int .i64 (resR n e s M a b).2.1])) (by simp (maxDischargeDepth := 8) [results, Try.results91, go_sem, *]) rfl ⟨rfl, by (repeat (first | exact Below.refl _ _ | (refine Below.setCell ?_ (by (first | exact Nat.le_refl _ | omega | (simp <;> omega) | simp)) _) | (refine Below.alloc ?_ (by (first | exact Nat.le_refl _ | omega | (simp <;> omega) | simp)) _) | (refine below_draws ?_ _) | exact h6 | (refine Below.trans ?_ (Below.mono h6 (by (first | exact Nat.le_refl _ | omega | (simp <;> omega) | simp))))))⟩
set_option maxHeartbeats 6400000 in
theorem spec_l11Ok (n e s a b : Int) (v : Value) (ws : List W3) (w : World) (hr : ReadsW w v ws) :
    Calls Try.prog 90 #[.agg #[.int .i64 n, .int .i64 e, .int .i64 s, v], .int .i64 a, .int .i64 b] w fun en w' => en = .returned (.bool (feedB n e s ws a b)) ∧ Below w.heap.size w w' := by
  have hok := spec_netOk n e s v ws _ (hr.later (show Below w.heap.size w (w.alloc (.cells #[.int .i64 n, .int .i64 e, .int .i64 s, v] 25)) by (repeat (first | exact Below.refl _ _ | (refine Below.setCell ?_ (by (first | exact Nat.le_refl _ | omega | (simp <;> omega) | simp)) _) | (refine Below.alloc ?_ (by (first | exact Nat.le_refl _ | omega | (simp <;> omega) | simp)) _) | (refine below_draws ?_ _)))))
  obtain ⟨p, cap, rfl⟩ := hr.shape
  clear hr
  cases hb : netB n e s ws
  · rw [hb] at hok
    have HF : Hid (feedB n e s ws a b = false) := Lib.hid (by unfold feedB; rw [hb]; rfl)
    clear hb
    go_enter Try.func90, Try.ntmps90
    go_wp2_with fail
    refine hok.mono ?_
    rintro en w1 ⟨rfl, B1⟩
    obtain ⟨hc1, hf1⟩ := bcell B1
    have S1 := B1.size
    try simp at S1
    try (have _L1w : w.heap.size < w1.heap.size := by omega)
    have _M1w : w.heap.size ≤ w1.heap.size := by omega
    try (have _P1w_1 : w.heap.size + 1 < w1.heap.size := by omega)
    try (have _P1w_2 : w.heap.size + 1 + 1 < w1.heap.size := by omega)
    try (have _P1w_3 : w.heap.size + 1 + 1 + 1 < w1.heap.size := by omega)
    go_wp2
    go_ret
    exact ⟨ret_b HF.out.symm, by (repeat (first | exact Below.refl _ _ | (refine Below.setCell ?_ (by (first | exact Nat.le_refl _ | omega | (simp <;> omega) | simp)) _) | (refine Below.alloc ?_ (by (first | exact Nat.le_refl _ | omega | (simp <;> omega) | simp)) _) | (refine below_draws ?_ _) | exact B1 | (refine Below.trans ?_ (Below.mono B1 (by (first | exact Nat.le_refl _ | omega | (simp <;> omega) | simp))))))⟩
  rw [hb] at hok
  obtain ⟨N1, N5⟩ := net_n hb
  by_cases ga : 0 ≤ a ∧ a ≤ n - 1
  case neg =>
    have HF : Hid (feedB n e s ws a b = false) := Lib.hid (by unfold feedB; rw [hb, show hasB n a = false by simp [hasB]; omega]; rfl)
    clear hb
    go_enter Try.func90, Try.ntmps90
    go_wp2_with fail
    refine hok.mono ?_
    rintro en w1 ⟨rfl, B1⟩
    obtain ⟨hc1, hf1⟩ := bcell B1
    have S1 := B1.size
    try simp at S1
    try (have _L1w : w.heap.size < w1.heap.size := by omega)
    have _M1w : w.heap.size ≤ w1.heap.size := by omega
    try (have _P1w_1 : w.heap.size + 1 < w1.heap.size := by omega)
    try (have _P1w_2 : w.heap.size + 1 + 1 < w1.heap.size := by omega)
    try (have _P1w_3 : w.heap.size + 1 + 1 + 1 < w1.heap.size := by omega)
    have _ : w1.cell? ⟨w.heap.size, 0, none⟩ = some (.int .i64 n) := by rw [hc1 (w.heap.size) 0 (by first | omega | (simp; done) | (simp; omega))]; first | assumption | (simp; done) | simp [go_sem, *]
    have _ : w1.frozen? ⟨w.heap.size, 0, none⟩ = false := by rw [hf1 (w.heap.size) 0 (by first | omega | (simp; done) | (simp; omega))]; first | assumption | (simp; done) | simp [go_sem, *]
    have _ : w1.cell? ⟨w.heap.size, 1, none⟩ = some (.int .i64 e) := by rw [hc1 (w.heap.size) 1 (by first | omega | (simp; done) | (simp; omega))]; first | assumption | (simp; done) | simp [go_sem, *]
    have _ : w1.frozen? ⟨w.heap.size, 1, none⟩ = false := by rw [hf1 (w.heap.size) 1 (by first | omega | (simp; done) | (simp; omega))]; first | assumption | (simp; done) | simp [go_sem, *]
    have _ : w1.cell? ⟨w.heap.size, 2, none⟩ = some (.int .i64 s) := by rw [hc1 (w.heap.size) 2 (by first | omega | (simp; done) | (simp; omega))]; first | assumption | (simp; done) | simp [go_sem, *]
    have _ : w1.frozen? ⟨w.heap.size, 2, none⟩ = false := by rw [hf1 (w.heap.size) 2 (by first | omega | (simp; done) | (simp; omega))]; first | assumption | (simp; done) | simp [go_sem, *]
    have _ : w1.cell? ⟨w.heap.size, 3, none⟩ = some (.slice p ws.length cap) := by rw [hc1 (w.heap.size) 3 (by first | omega | (simp; done) | (simp; omega))]; first | assumption | (simp; done) | simp [go_sem, *]
    have _ : w1.frozen? ⟨w.heap.size, 3, none⟩ = false := by rw [hf1 (w.heap.size) 3 (by first | omega | (simp; done) | (simp; omega))]; first | assumption | (simp; done) | simp [go_sem, *]
    clear hc1 hf1
    go_wp2_with fail
    with_reducible refine Calls.mono (in_no _ _ _ _ ga) ?_
    rintro en wq ⟨rfl, rfl⟩
    go_wp2
    go_ret
    exact ⟨ret_b HF.out.symm, by (repeat (first | exact Below.refl _ _ | (refine Below.setCell ?_ (by (first | exact Nat.le_refl _ | omega | (simp <;> omega) | simp)) _) | (refine Below.alloc ?_ (by (first | exact Nat.le_refl _ | omega | (simp <;> omega) | simp)) _) | (refine below_draws ?_ _) | exact B1 | (refine Below.trans ?_ (Below.mono B1 (by (first | exact Nat.le_refl _ | omega | (simp <;> omega) | simp))))))⟩
  by_cases gb : 0 ≤ b ∧ b ≤ n - 1
  case neg =>
    have HF : Hid (feedB n e s ws a b = false) := Lib.hid (by unfold feedB; rw [hb, show hasB n a = true by simp [hasB]; omega, show hasB n b = false by simp [hasB]; omega]; rfl)
    obtain ⟨ga1, ga2⟩ := ga
    clear hb
    go_enter Try.func90, Try.ntmps90
    go_wp2_with fail
    refine hok.mono ?_
    rintro en w1 ⟨rfl, B1⟩
    obtain ⟨hc1, hf1⟩ := bcell B1
    have S1 := B1.size
    try simp at S1
    try (have _L1w : w.heap.size < w1.heap.size := by omega)
    have _M1w : w.heap.size ≤ w1.heap.size := by omega
    try (have _P1w_1 : w.heap.size + 1 < w1.heap.size := by omega)
    try (have _P1w_2 : w.heap.size + 1 + 1 < w1.heap.size := by omega)
    try (have _P1w_3 : w.heap.size + 1 + 1 + 1 < w1.heap.size := by omega)
    have _ : w1.cell? ⟨w.heap.size, 0, none⟩ = some (.int .i64 n) := by rw [hc1 (w.heap.size) 0 (by first | omega | (simp; done) | (simp; omega))]; first | assumption | (simp; done) | simp [go_sem, *]
    have _ : w1.frozen? ⟨w.heap.size, 0, none⟩ = false := by rw [hf1 (w.heap.size) 0 (by first | omega | (simp; done) | (simp; omega))]; first | assumption | (simp; done) | simp [go_sem, *]
    have _ : w1.cell? ⟨w.heap.size, 1, none⟩ = some (.int .i64 e) := by rw [hc1 (w.heap.size) 1 (by first | omega | (simp; done) | (simp; omega))]; first | assumption | (simp; done) | simp [go_sem, *]
    have _ : w1.frozen? ⟨w.heap.size, 1, none⟩ = false := by rw [hf1 (w.heap.size) 1 (by first | omega | (simp; done) | (simp; omega))]; first | assumption | (simp; done) | simp [go_sem, *]
    have _ : w1.cell? ⟨w.heap.size, 2, none⟩ = some (.int .i64 s) := by rw [hc1 (w.heap.size) 2 (by first | omega | (simp; done) | (simp; omega))]; first | assumption | (simp; done) | simp [go_sem, *]
    have _ : w1.frozen? ⟨w.heap.size, 2, none⟩ = false := by rw [hf1 (w.heap.size) 2 (by first | omega | (simp; done) | (simp; omega))]; first | assumption | (simp; done) | simp [go_sem, *]
    have _ : w1.cell? ⟨w.heap.size, 3, none⟩ = some (.slice p ws.length cap) := by rw [hc1 (w.heap.size) 3 (by first | omega | (simp; done) | (simp; omega))]; first | assumption | (simp; done) | simp [go_sem, *]
    have _ : w1.frozen? ⟨w.heap.size, 3, none⟩ = false := by rw [hf1 (w.heap.size) 3 (by first | omega | (simp; done) | (simp; omega))]; first | assumption | (simp; done) | simp [go_sem, *]
    clear hc1 hf1
    go_wp2_with fail
    with_reducible refine Calls.mono (in_yes _ _ _ _ ga1 ga2) ?_
    rintro en wq ⟨rfl, rfl⟩
    go_wp2_with fail
    with_reducible refine Calls.mono (in_no _ _ _ _ gb) ?_
    rintro en wq ⟨rfl, rfl⟩
    go_wp2
    go_ret
    exact ⟨ret_b HF.out.symm, by (repeat (first | exact Below.refl _ _ | (refine Below.setCell ?_ (by (first | exact Nat.le_refl _ | omega | (simp <;> omega) | simp)) _) | (refine Below.alloc ?_ (by (first | exact Nat.le_refl _ | omega | (simp <;> omega) | simp)) _) | (refine below_draws ?_ _) | exact B1 | (refine Below.trans ?_ (Below.mono B1 (by (first | exact Nat.le_refl _ | omega | (simp <;> omega) | simp))))))⟩
  have HF : Hid (feedB n e s ws a b = !(a == b)) := Lib.hid (by unfold feedB; rw [hb, show hasB n a = true by simp [hasB]; omega, show hasB n b = true by simp [hasB]; omega]; rfl)
  obtain ⟨ga1, ga2⟩ := ga
  obtain ⟨gb1, gb2⟩ := gb
  clear hb
  go_enter Try.func90, Try.ntmps90
  go_wp2_with fail
  refine hok.mono ?_
  rintro en w1 ⟨rfl, B1⟩
  obtain ⟨hc1, hf1⟩ := bcell B1
  have S1 := B1.size
  try simp at S1
  try (have _L1w : w.heap.size < w1.heap.size := by omega)
  have _M1w : w.heap.size ≤ w1.heap.size := by omega
  try (have _P1w_1 : w.heap.size + 1 < w1.heap.size := by omega)
  try (have _P1w_2 : w.heap.size + 1 + 1 < w1.heap.size := by omega)
  try (have _P1w_3 : w.heap.size + 1 + 1 + 1 < w1.heap.size := by omega)
  have _ : w1.cell? ⟨w.heap.size, 0, none⟩ = some (.int .i64 n) := by rw [hc1 (w.heap.size) 0 (by first | omega | (simp; done) | (simp; omega))]; first | assumption | (simp; done) | simp [go_sem, *]
  have _ : w1.frozen? ⟨w.heap.size, 0, none⟩ = false := by rw [hf1 (w.heap.size) 0 (by first | omega | (simp; done) | (simp; omega))]; first | assumption | (simp; done) | simp [go_sem, *]
  have _ : w1.cell? ⟨w.heap.size, 1, none⟩ = some (.int .i64 e) := by rw [hc1 (w.heap.size) 1 (by first | omega | (simp; done) | (simp; omega))]; first | assumption | (simp; done) | simp [go_sem, *]
  have _ : w1.frozen? ⟨w.heap.size, 1, none⟩ = false := by rw [hf1 (w.heap.size) 1 (by first | omega | (simp; done) | (simp; omega))]; first | assumption | (simp; done) | simp [go_sem, *]
  have _ : w1.cell? ⟨w.heap.size, 2, none⟩ = some (.int .i64 s) := by rw [hc1 (w.heap.size) 2 (by first | omega | (simp; done) | (simp; omega))]; first | assumption | (simp; done) | simp [go_sem, *]
  have _ : w1.frozen? ⟨w.heap.size, 2, none⟩ = false := by rw [hf1 (w.heap.size) 2 (by first | omega | (simp; done) | (simp; omega))]; first | assumption | (simp; done) | simp [go_sem, *]
  have _ : w1.cell? ⟨w.heap.size, 3, none⟩ = some (.slice p ws.length cap) := by rw [hc1 (w.heap.size) 3 (by first | omega | (simp; done) | (simp; omega))]; first | assumption | (simp; done) | simp [go_sem, *]
  have _ : w1.frozen? ⟨w.heap.size, 3, none⟩ = false := by rw [hf1 (w.heap.size) 3 (by first | omega | (simp; done) | (simp; omega))]; first | assumption | (simp; done) | simp [go_sem, *]
  clear hc1 hf1
  go_wp2_with fail
  with_reducible refine Calls.mono (in_yes _ _ _ _ ga1 ga2) ?_
  rintro en wq ⟨rfl, rfl⟩
  go_wp2_with fail
  with_reducible refine Calls.mono (in_yes _ _ _ _ gb1 gb2) ?_
  rintro en wq ⟨rfl, rfl⟩
  go_wp2
  go_ret
  exact ⟨ret_b HF.out.symm, by (repeat (first | exact Below.refl _ _ | (refine Below.setCell ?_ (by (first | exact Nat.le_refl _ | omega | (simp <;> omega) | simp)) _) | (refine Below.alloc ?_ (by (first | exact Nat.le_refl _ | omega | (simp <;> omega) | simp)) _) | (refine below_draws ?_ _) | exact B1 | (refine Below.trans ?_ (Below.mono B1 (by (first | exact Nat.le_refl _ | omega | (simp <;> omega) | simp))))))⟩
end Go.Proofs.Ytaececpphdaciaa
