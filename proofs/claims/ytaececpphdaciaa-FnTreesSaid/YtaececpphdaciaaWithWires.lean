/-
  withWires: a network with the wires of a map, if it is valid.
-/
import Derived.Test.YtaececpphdaciaaWiresOf
import Derived.Test.YtaececpphdaciaaGLap
namespace Go.Proofs.Ytaececpphdaciaa
open Go.RowKit Go.Maps

/-- A network with these wires, if it is valid. -/
noncomputable def withR (n e s : Int) (M : List W3) : Int × Int × Int × List W3 × Bool := if netB n e s M = true then (n, e, s, M, true) else (0, 0, 0, [], false)
theorem withR_yes {n e s : Int} {M : List W3} (h : netB n e s M = true) : withR n e s M = (n, e, s, M, true) := if_pos h
theorem withR_no {n e s : Int} {M : List W3} (h : netB n e s M = false) : withR n e s M = (0, 0, 0, [], false) := by simp [withR, h]

set_option maxRecDepth 4000 in
set_option maxHeartbeats 6400000 in
/-- A network whose wires are memory of one's own, if it is valid. -/
theorem onlyValid_own (n e s : Int) (base : Nat) (p : Option Addr) (cap : Nat) (M : List W3) (w : World) (h : w.ownsRow base 29 3 (.slice p M.length cap) M.length (cellsW M)) :
    Calls Try.prog 102 #[.agg #[.int .i64 n, .int .i64 e, .int .i64 s, .slice p M.length cap]] w fun en w' => ∃ p c, en = .returned (.tuple #[.agg #[.int .i64 (withR n e s M).1, .int .i64 (withR n e s M).2.1, .int .i64 (withR n e s M).2.2.1, .slice p (withR n e s M).2.2.2.1.length c], .bool (withR n e s M).2.2.2.2]) ∧ w'.ownsRow base 29 3 (.slice p (withR n e s M).2.2.2.1.length c) (withR n e s M).2.2.2.1.length (cellsW (withR n e s M).2.2.2.1) ∧ Below w.heap.size w w' := by
  have hB0 : Below w.heap.size w ((w.alloc (.cells #[.int .i64 n, .int .i64 e, .int .i64 s, .slice p M.length cap] 25)).alloc (.cells #[.int .i64 0, .int .i64 0, .int .i64 0, .slice none 0 0] 25)) := by (repeat (first | exact Below.refl _ _ | (refine Below.setCell ?_ (by (first | exact Nat.le_refl _ | omega | (simp <;> omega) | simp)) _) | (refine Below.alloc ?_ (by (first | exact Nat.le_refl _ | omega | (simp <;> omega) | simp)) _) | (refine below_draws ?_ _)))
  have hok := impl_netOk n e s (.slice p M.length cap) M _ ((ReadsW.of_own h).later hB0)
  have O1 := Lib.hid h; clear h hB0
  by_cases hb : netB n e s M = true
  · rw [withR_yes hb]
    rw [hb] at hok
    have HOK := Lib.hid hok; clear hok hb
    go_enter Try.func102, Try.ntmps102
    go_wp2_with fail
    refine HOK.out.mono ?_
    rintro en w1 ⟨rfl, B1⟩
    obtain ⟨hc1, hf1⟩ := bcell B1
    have S1 := B1.size
    try simp at S1
    try (have _L1w : w.heap.size < w1.heap.size := by omega)
    have _M1w : w.heap.size ≤ w1.heap.size := by omega
    try (have _P1w_1 : w.heap.size + 1 < w1.heap.size := by omega)
    try (have _P1w_2 : w.heap.size + 1 + 1 < w1.heap.size := by omega)
    try (have _P1w_3 : w.heap.size + 1 + 1 + 1 < w1.heap.size := by omega)
    have _ : w1.cell? ⟨w.heap.size, 0, none⟩ = some (.int .i64 n) := by rw [hc1 (w.heap.size) 0 (by first | omega | (simp; done) | (simp; omega))]; first | assumption | (simp; done) | simp [go_sem, *]
    have _ : w1.frozen? ⟨w.heap.size, 0, none⟩ = false := by rw [hf1 (w.heap.size) 0 (by first | omega | (simp; done) | (simp; omega))]; first | assumption | (simp; done) | simp [go_sem, *]
    have _ : w1.cell? ⟨w.heap.size, 1, none⟩ = some (.int .i64 e) := by rw [hc1 (w.heap.size) 1 (by first | omega | (simp; done) | (simp; omega))]; first | assumption | (simp; done) | simp [go_sem, *]
    have _ : w1.frozen? ⟨w.heap.size, 1, none⟩ = false := by rw [hf1 (w.heap.size) 1 (by first | omega | (simp; done) | (simp; omega))]; first | assumption | (simp; done) | simp [go_sem, *]
    have _ : w1.cell? ⟨w.heap.size, 2, none⟩ = some (.int .i64 s) := by rw [hc1 (w.heap.size) 2 (by first | omega | (simp; done) | (simp; omega))]; first | assumption | (simp; done) | simp [go_sem, *]
    have _ : w1.frozen? ⟨w.heap.size, 2, none⟩ = false := by rw [hf1 (w.heap.size) 2 (by first | omega | (simp; done) | (simp; omega))]; first | assumption | (simp; done) | simp [go_sem, *]
    have _ : w1.cell? ⟨w.heap.size, 3, none⟩ = some (.slice p M.length cap) := by rw [hc1 (w.heap.size) 3 (by first | omega | (simp; done) | (simp; omega))]; first | assumption | (simp; done) | simp [go_sem, *]
    have _ : w1.frozen? ⟨w.heap.size, 3, none⟩ = false := by rw [hf1 (w.heap.size) 3 (by first | omega | (simp; done) | (simp; omega))]; first | assumption | (simp; done) | simp [go_sem, *]
    have _ : w1.cell? ⟨w.heap.size + 1, 0, none⟩ = some (.int .i64 0) := by rw [hc1 (w.heap.size + 1) 0 (by first | omega | (simp; done) | (simp; omega))]; first | assumption | (simp; done) | simp [go_sem, *]
    have _ : w1.frozen? ⟨w.heap.size + 1, 0, none⟩ = false := by rw [hf1 (w.heap.size + 1) 0 (by first | omega | (simp; done) | (simp; omega))]; first | assumption | (simp; done) | simp [go_sem, *]
    have _ : w1.cell? ⟨w.heap.size + 1, 1, none⟩ = some (.int .i64 0) := by rw [hc1 (w.heap.size + 1) 1 (by first | omega | (simp; done) | (simp; omega))]; first | assumption | (simp; done) | simp [go_sem, *]
    have _ : w1.frozen? ⟨w.heap.size + 1, 1, none⟩ = false := by rw [hf1 (w.heap.size + 1) 1 (by first | omega | (simp; done) | (simp; omega))]; first | assumption | (simp; done) | simp [go_sem, *]
    have _ : w1.cell? ⟨w.heap.size + 1, 2, none⟩ = some (.int .i64 0) := by rw [hc1 (w.heap.size + 1) 2 (by first | omega | (simp; done) | (simp; omega))]; first | assumption | (simp; done) | simp [go_sem, *]
    have _ : w1.frozen? ⟨w.heap.size + 1, 2, none⟩ = false := by rw [hf1 (w.heap.size + 1) 2 (by first | omega | (simp; done) | (simp; omega))]; first | assumption | (simp; done) | simp [go_sem, *]
    have _ : w1.cell? ⟨w.heap.size + 1, 3, none⟩ = some (.slice none 0 0) := by rw [hc1 (w.heap.size + 1) 3 (by first | omega | (simp; done) | (simp; omega))]; first | assumption | (simp; done) | simp [go_sem, *]
    have _ : w1.frozen? ⟨w.heap.size + 1, 3, none⟩ = false := by rw [hf1 (w.heap.size + 1) 3 (by first | omega | (simp; done) | (simp; omega))]; first | assumption | (simp; done) | simp [go_sem, *]
    clear hc1 hf1
    go_wp2
    exact bodyPost_ret (v := .tuple #[.agg #[.int .i64 n, .int .i64 e, .int .i64 s, .slice p M.length cap], .bool true]) (by simp (maxDischargeDepth := 8) [results, Try.results102, go_sem, *]) rfl ⟨p, cap, rfl, owns_later O1.out (by (repeat (first | exact Below.refl _ _ | (refine Below.setCell ?_ (by (first | exact Nat.le_refl _ | omega | (simp <;> omega) | simp)) _) | (refine Below.alloc ?_ (by (first | exact Nat.le_refl _ | omega | (simp <;> omega) | simp)) _) | (refine below_draws ?_ _) | exact B1 | (refine Below.trans ?_ (Below.mono B1 (by (first | exact Nat.le_refl _ | omega | (simp <;> omega) | simp))))))), by (repeat (first | exact Below.refl _ _ | (refine Below.setCell ?_ (by (first | exact Nat.le_refl _ | omega | (simp <;> omega) | simp)) _) | (refine Below.alloc ?_ (by (first | exact Nat.le_refl _ | omega | (simp <;> omega) | simp)) _) | (refine below_draws ?_ _) | exact B1 | (refine Below.trans ?_ (Below.mono B1 (by (first | exact Nat.le_refl _ | omega | (simp <;> omega) | simp))))))⟩
  · have hb : netB n e s M = false := by simpa using hb
    rw [withR_no hb]
    rw [hb] at hok
    have HOK := Lib.hid hok; clear hok hb
    go_enter Try.func102, Try.ntmps102
    go_wp2_with fail
    refine HOK.out.mono ?_
    rintro en w1 ⟨rfl, B1⟩
    obtain ⟨hc1, hf1⟩ := bcell B1
    have S1 := B1.size
    try simp at S1
    try (have _L1w : w.heap.size < w1.heap.size := by omega)
    have _M1w : w.heap.size ≤ w1.heap.size := by omega
    try (have _P1w_1 : w.heap.size + 1 < w1.heap.size := by omega)
    try (have _P1w_2 : w.heap.size + 1 + 1 < w1.heap.size := by omega)
    try (have _P1w_3 : w.heap.size + 1 + 1 + 1 < w1.heap.size := by omega)
    have _ : w1.cell? ⟨w.heap.size + 1, 0, none⟩ = some (.int .i64 0) := by rw [hc1 (w.heap.size + 1) 0 (by first | omega | (simp; done) | (simp; omega))]; first | assumption | (simp; done) | simp [go_sem, *]
    have _ : w1.frozen? ⟨w.heap.size + 1, 0, none⟩ = false := by rw [hf1 (w.heap.size + 1) 0 (by first | omega | (simp; done) | (simp; omega))]; first | assumption | (simp; done) | simp [go_sem, *]
    have _ : w1.cell? ⟨w.heap.size + 1, 1, none⟩ = some (.int .i64 0) := by rw [hc1 (w.heap.size + 1) 1 (by first | omega | (simp; done) | (simp; omega))]; first | assumption | (simp; done) | simp [go_sem, *]
    have _ : w1.frozen? ⟨w.heap.size + 1, 1, none⟩ = false := by rw [hf1 (w.heap.size + 1) 1 (by first | omega | (simp; done) | (simp; omega))]; first | assumption | (simp; done) | simp [go_sem, *]
    have _ : w1.cell? ⟨w.heap.size + 1, 2, none⟩ = some (.int .i64 0) := by rw [hc1 (w.heap.size + 1) 2 (by first | omega | (simp; done) | (simp; omega))]; first | assumption | (simp; done) | simp [go_sem, *]
    have _ : w1.frozen? ⟨w.heap.size + 1, 2, none⟩ = false := by rw [hf1 (w.heap.size + 1) 2 (by first | omega | (simp; done) | (simp; omega))]; first | assumption | (simp; done) | simp [go_sem, *]
    have _ : w1.cell? ⟨w.heap.size + 1, 3, none⟩ = some (.slice none 0 0) := by rw [hc1 (w.heap.size + 1) 3 (by first | omega | (simp; done) | (simp; omega))]; first | assumption | (simp; done) | simp [go_sem, *]
    have _ : w1.frozen? ⟨w.heap.size + 1, 3, none⟩ = false := by rw [hf1 (w.heap.size + 1) 3 (by first | omega | (simp; done) | (simp; omega))]; first | assumption | (simp; done) | simp [go_sem, *]
    clear hc1 hf1
    go_wp2
    exact bodyPost_ret (v := .tuple #[.agg #[.int .i64 0, .int .i64 0, .int .i64 0, .slice none 0 0], .bool false]) (by simp (maxDischargeDepth := 8) [results, Try.results102, go_sem, *]) rfl ⟨none, 0, rfl, World.ownsRow_nil _ _ _ _, by (repeat (first | exact Below.refl _ _ | (refine Below.setCell ?_ (by (first | exact Nat.le_refl _ | omega | (simp <;> omega) | simp)) _) | (refine Below.alloc ?_ (by (first | exact Nat.le_refl _ | omega | (simp <;> omega) | simp)) _) | (refine below_draws ?_ _) | exact B1 | (refine Below.trans ?_ (Below.mono B1 (by (first | exact Nat.le_refl _ | omega | (simp <;> omega) | simp))))))⟩
set_option maxRecDepth 4000 in
set_option maxHeartbeats 6400000 in
theorem withWires_any (n e s : Int) (v : Value) (b N : Nat) (f : Int → Int → Option Int) (M : List W3) (w : World) (hN : N ≤ 1000000) (h : owns2 w b N f) (hM : Lists f M) (wM : ∀ t ∈ M, (Lit.int .i64 t.1).wf = true ∧ (Lit.int .i64 t.2.1).wf = true) :
    Calls Try.prog 60 #[.agg #[.int .i64 n, .int .i64 e, .int .i64 s, v], .map (some b)] w fun en w' => ∃ p c, en = .returned (.tuple #[.agg #[.int .i64 (withR n e s M).1, .int .i64 (withR n e s M).2.1, .int .i64 (withR n e s M).2.2.1, .slice p (withR n e s M).2.2.2.1.length c], .bool (withR n e s M).2.2.2.2]) ∧ w'.ownsRow w.heap.size 29 3 (.slice p (withR n e s M).2.2.2.1.length c) (withR n e s M).2.2.2.1.length (cellsW (withR n e s M).2.2.2.1) ∧ Below w.heap.size w w' := by
  have hB0 : Below w.heap.size w ((w.alloc (.cells #[.int .i64 n, .int .i64 e, .int .i64 s, v] 25)).alloc (.cells #[.int .i64 0, .int .i64 0, .int .i64 0, .slice none 0 0] 25)) := by (repeat (first | exact Below.refl _ _ | (refine Below.setCell ?_ (by (first | exact Nat.le_refl _ | omega | (simp <;> omega) | simp)) _) | (refine Below.alloc ?_ (by (first | exact Nat.le_refl _ | omega | (simp <;> omega) | simp)) _) | (refine below_draws ?_ _)))
  have hwo := wiresOf_any b N f _ hN (h.later hB0)
  have HM := Lib.hid hM; have HW := Lib.hid wM
  obtain ⟨n', e', s', out, bb, hR⟩ : ∃ n' e' s' out bb, withR n e s M = (n', e', s', out, bb) := ⟨_, _, _, _, _, rfl⟩
  rw [hR]
  have HRR := Lib.hid hR
  clear hM wM h hB0 hR
  go_enter Try.func60, Try.ntmps60
  go_wp2_with fail
  refine hwo.mono ?_
  rintro en w1 ⟨p, cap, L, rfl, o1, hL, wL, B1⟩
  obtain rfl := lists_unique hL HM.out wL HW.out
  clear hL wL
  have O1 := Lib.hid o1; clear o1
  obtain ⟨hc1, hf1⟩ := bcell B1
  have S1 := B1.size
  try simp at S1
  try (have _L1w : w.heap.size < w1.heap.size := by omega)
  have _M1w : w.heap.size ≤ w1.heap.size := by omega
  try (have _P1w_1 : w.heap.size + 1 < w1.heap.size := by omega)
  try (have _P1w_2 : w.heap.size + 1 + 1 < w1.heap.size := by omega)
  try (have _P1w_3 : w.heap.size + 1 + 1 + 1 < w1.heap.size := by omega)
  have _ : w1.cell? ⟨w.heap.size, 0, none⟩ = some (.int .i64 n) := by rw [hc1 (w.heap.size) 0 (by first | omega | (simp; done) | (simp; omega))]; first | assumption | (simp; done) | simp [go_sem, *]
  have _ : w1.frozen? ⟨w.heap.size, 0, none⟩ = false := by rw [hf1 (w.heap.size) 0 (by first | omega | (simp; done) | (simp; omega))]; first | assumption | (simp; done) | simp [go_sem, *]
  have _ : w1.cell? ⟨w.heap.size, 1, none⟩ = some (.int .i64 e) := by rw [hc1 (w.heap.size) 1 (by first | omega | (simp; done) | (simp; omega))]; first | assumption | (simp; done) | simp [go_sem, *]
  have _ : w1.frozen? ⟨w.heap.size, 1, none⟩ = false := by rw [hf1 (w.heap.size) 1 (by first | omega | (simp; done) | (simp; omega))]; first | assumption | (simp; done) | simp [go_sem, *]
  have _ : w1.cell? ⟨w.heap.size, 2, none⟩ = some (.int .i64 s) := by rw [hc1 (w.heap.size) 2 (by first | omega | (simp; done) | (simp; omega))]; first | assumption | (simp; done) | simp [go_sem, *]
  have _ : w1.frozen? ⟨w.heap.size, 2, none⟩ = false := by rw [hf1 (w.heap.size) 2 (by first | omega | (simp; done) | (simp; omega))]; first | assumption | (simp; done) | simp [go_sem, *]
  have _ : w1.cell? ⟨w.heap.size, 3, none⟩ = some (v) := by rw [hc1 (w.heap.size) 3 (by first | omega | (simp; done) | (simp; omega))]; first | assumption | (simp; done) | simp [go_sem, *]
  have _ : w1.frozen? ⟨w.heap.size, 3, none⟩ = false := by rw [hf1 (w.heap.size) 3 (by first | omega | (simp; done) | (simp; omega))]; first | assumption | (simp; done) | simp [go_sem, *]
  have _ : w1.cell? ⟨w.heap.size + 1, 0, none⟩ = some (.int .i64 0) := by rw [hc1 (w.heap.size + 1) 0 (by first | omega | (simp; done) | (simp; omega))]; first | assumption | (simp; done) | simp [go_sem, *]
  have _ : w1.frozen? ⟨w.heap.size + 1, 0, none⟩ = false := by rw [hf1 (w.heap.size + 1) 0 (by first | omega | (simp; done) | (simp; omega))]; first | assumption | (simp; done) | simp [go_sem, *]
  have _ : w1.cell? ⟨w.heap.size + 1, 1, none⟩ = some (.int .i64 0) := by rw [hc1 (w.heap.size + 1) 1 (by first | omega | (simp; done) | (simp; omega))]; first | assumption | (simp; done) | simp [go_sem, *]
  have _ : w1.frozen? ⟨w.heap.size + 1, 1, none⟩ = false := by rw [hf1 (w.heap.size + 1) 1 (by first | omega | (simp; done) | (simp; omega))]; first | assumption | (simp; done) | simp [go_sem, *]
  have _ : w1.cell? ⟨w.heap.size + 1, 2, none⟩ = some (.int .i64 0) := by rw [hc1 (w.heap.size + 1) 2 (by first | omega | (simp; done) | (simp; omega))]; first | assumption | (simp; done) | simp [go_sem, *]
  have _ : w1.frozen? ⟨w.heap.size + 1, 2, none⟩ = false := by rw [hf1 (w.heap.size + 1) 2 (by first | omega | (simp; done) | (simp; omega))]; first | assumption | (simp; done) | simp [go_sem, *]
  have _ : w1.cell? ⟨w.heap.size + 1, 3, none⟩ = some (.slice none 0 0) := by rw [hc1 (w.heap.size + 1) 3 (by first | omega | (simp; done) | (simp; omega))]; first | assumption | (simp; done) | simp [go_sem, *]
  have _ : w1.frozen? ⟨w.heap.size + 1, 3, none⟩ = false := by rw [hf1 (w.heap.size + 1) 3 (by first | omega | (simp; done) | (simp; omega))]; first | assumption | (simp; done) | simp [go_sem, *]
  clear hc1 hf1
  have O2 : Hid (World.ownsRow (w1.setCell ⟨w.heap.size, 3, none⟩ (.slice p L.length cap)) (w.heap.size + 2) 29 3 (.slice p L.length cap) L.length (cellsW L)) := Lib.hid (by have o1 := O1.out; simp only [World.size_alloc] at o1; ((repeat (refine ownsRow_setCell_below ?_ ?_ _; rotate_left; focus (first | omega | (simp; done) | (simp; omega)))); with_reducible exact o1))
  have hov := onlyValid_own n e s _ p cap L _ O2.out
  rw [HRR.out] at hov
  have HOV := Lib.hid hov; clear hov
  go_wp2_with fail
  refine HOV.out.mono ?_
  rintro en w2 ⟨p2, cap2, rfl, o2, B2⟩
  obtain ⟨hc2, hf2⟩ := bcell B2
  have S2 := B2.size
  try simp at S2
  try (have _L2w : w.heap.size < w2.heap.size := by omega)
  have _M2w : w.heap.size ≤ w2.heap.size := by omega
  try (have _P2w_1 : w.heap.size + 1 < w2.heap.size := by omega)
  try (have _P2w_2 : w.heap.size + 1 + 1 < w2.heap.size := by omega)
  try (have _P2w_3 : w.heap.size + 1 + 1 + 1 < w2.heap.size := by omega)
  try (have _L2w1 : w1.heap.size < w2.heap.size := by omega)
  have _M2w1 : w1.heap.size ≤ w2.heap.size := by omega
  try (have _P2w1_1 : w1.heap.size + 1 < w2.heap.size := by omega)
  try (have _P2w1_2 : w1.heap.size + 1 + 1 < w2.heap.size := by omega)
  try (have _P2w1_3 : w1.heap.size + 1 + 1 + 1 < w2.heap.size := by omega)
  have _ : w2.cell? ⟨w.heap.size, 0, none⟩ = some (.int .i64 n) := by rw [hc2 (w.heap.size) 0 (by first | omega | (simp; done) | (simp; omega))]; first | assumption | (simp; done) | simp [go_sem, *]
  have _ : w2.frozen? ⟨w.heap.size, 0, none⟩ = false := by rw [hf2 (w.heap.size) 0 (by first | omega | (simp; done) | (simp; omega))]; first | assumption | (simp; done) | simp [go_sem, *]
  have _ : w2.cell? ⟨w.heap.size, 1, none⟩ = some (.int .i64 e) := by rw [hc2 (w.heap.size) 1 (by first | omega | (simp; done) | (simp; omega))]; first | assumption | (simp; done) | simp [go_sem, *]
  have _ : w2.frozen? ⟨w.heap.size, 1, none⟩ = false := by rw [hf2 (w.heap.size) 1 (by first | omega | (simp; done) | (simp; omega))]; first | assumption | (simp; done) | simp [go_sem, *]
  have _ : w2.cell? ⟨w.heap.size, 2, none⟩ = some (.int .i64 s) := by rw [hc2 (w.heap.size) 2 (by first | omega | (simp; done) | (simp; omega))]; first | assumption | (simp; done) | simp [go_sem, *]
  have _ : w2.frozen? ⟨w.heap.size, 2, none⟩ = false := by rw [hf2 (w.heap.size) 2 (by first | omega | (simp; done) | (simp; omega))]; first | assumption | (simp; done) | simp [go_sem, *]
  have _ : w2.cell? ⟨w.heap.size, 3, none⟩ = some (.slice p L.length cap) := by rw [hc2 (w.heap.size) 3 (by first | omega | (simp; done) | (simp; omega))]; first | assumption | (simp; done) | simp [go_sem, *]
  have _ : w2.frozen? ⟨w.heap.size, 3, none⟩ = false := by rw [hf2 (w.heap.size) 3 (by first | omega | (simp; done) | (simp; omega))]; first | assumption | (simp; done) | simp [go_sem, *]
  have _ : w2.cell? ⟨w.heap.size + 1, 0, none⟩ = some (.int .i64 0) := by rw [hc2 (w.heap.size + 1) 0 (by first | omega | (simp; done) | (simp; omega))]; first | assumption | (simp; done) | simp [go_sem, *]
  have _ : w2.frozen? ⟨w.heap.size + 1, 0, none⟩ = false := by rw [hf2 (w.heap.size + 1) 0 (by first | omega | (simp; done) | (simp; omega))]; first | assumption | (simp; done) | simp [go_sem, *]
  have _ : w2.cell? ⟨w.heap.size + 1, 1, none⟩ = some (.int .i64 0) := by rw [hc2 (w.heap.size + 1) 1 (by first | omega | (simp; done) | (simp; omega))]; first | assumption | (simp; done) | simp [go_sem, *]
  have _ : w2.frozen? ⟨w.heap.size + 1, 1, none⟩ = false := by rw [hf2 (w.heap.size + 1) 1 (by first | omega | (simp; done) | (simp; omega))]; first | assumption | (simp; done) | simp [go_sem, *]
  have _ : w2.cell? ⟨w.heap.size + 1, 2, none⟩ = some (.int .i64 0) := by rw [hc2 (w.heap.size + 1) 2 (by first | omega | (simp; done) | (simp; omega))]; first | assumption | (simp; done) | simp [go_sem, *]
  have _ : w2.frozen? ⟨w.heap.size + 1, 2, none⟩ = false := by rw [hf2 (w.heap.size + 1) 2 (by first | omega | (simp; done) | (simp; omega))]; first | assumption | (simp; done) | simp [go_sem, *]
  have _ : w2.cell? ⟨w.heap.size + 1, 3, none⟩ = some (.slice none 0 0) := by rw [hc2 (w.heap.size + 1) 3 (by first | omega | (simp; done) | (simp; omega))]; first | assumption | (simp; done) | simp [go_sem, *]
  have _ : w2.frozen? ⟨w.heap.size + 1, 3, none⟩ = false := by rw [hf2 (w.heap.size + 1) 3 (by first | omega | (simp; done) | (simp; omega))]; first | assumption | (simp; done) | simp [go_sem, *]
  clear hc2 hf2
  have O3 := Lib.hid o2; clear o2
  go_wp2
  exact bodyPost_ret (v := .tuple #[.agg #[.int .i64 n', .int .i64 e', .int .i64 s', .slice p2 out.length cap2], .bool bb]) (by simp (maxDischargeDepth := 8) [results, Try.results60, go_sem, *]) rfl ⟨p2, cap2, rfl, by refine owns_mono (base := w.heap.size + 2) ?_ (by omega); have o2 := O3.out; ((repeat (refine ownsRow_setCell_below ?_ ?_ _; rotate_left; focus (first | omega | (simp; done) | (simp; omega)))); with_reducible exact o2), by (repeat (first | exact Below.refl _ _ | (refine Below.setCell ?_ (by (first | exact Nat.le_refl _ | omega | (simp <;> omega) | simp)) _) | (refine Below.alloc ?_ (by (first | exact Nat.le_refl _ | omega | (simp <;> omega) | simp)) _) | (refine below_draws ?_ _) | exact B1 | (refine Below.trans ?_ (Below.mono B1 (by (first | exact Nat.le_refl _ | omega | (simp <;> omega) | simp)))) | exact B2 | (refine Below.trans ?_ (Below.mono B2 (by (first | exact Nat.le_refl _ | omega | (simp <;> omega) | simp))))))⟩
end Go.Proofs.Ytaececpphdaciaa
