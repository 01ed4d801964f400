/-
  withWires: a network with the wires of a map, if it is valid.
-/
import Derived.Test.YtpkddaapffamiaaWiresOf
import Derived.Test.YtpkddaapffamiaaGLap
namespace Go.Proofs.Ytpkddaapffamiaa
open Go.RowKit Go.Maps

/-- A network with these wires, if it is valid. -/
noncomputable def withR (n e s : Int) (M : List W3) : Int × Int × Int × List W3 × Bool := if netB n e s M = true then (n, e, s, M, true) else (0, 0, 0, [], false)
theorem withR_yes {n e s : Int} {M : List W3} (h : netB n e s M = true) : withR n e s M = (n, e, s, M, true) := if_pos h
theorem withR_no {n e s : Int} {M : List W3} (h : netB n e s M = false) : withR n e s M = (0, 0, 0, [], false) := by simp [withR, h]

set_option maxRecDepth 4000 in
set_option maxHeartbeats 6400000 in
/-- A network whose wires are memory of one's own, if it is valid. -/
theorem onlyValid_own (n e s : Int) (base : Nat) (p : Option Addr) (cap : Nat) (M : List W3) (w : World) (h : w.ownsRow base 80 3 (.slice p M.length cap) M.length (cellsW M)) :
    Calls Try.prog 137 #[.agg #[.int .i64 n, .int .i64 e, .int .i64 s, .slice p M.length cap]] w fun en w' => ∃ p c, en = .returned (.tuple #[.agg #[.int .i64 (withR n e s M).1, .int .i64 (withR n e s M).2.1, .int .i64 (withR n e s M).2.2.1, .slice p (withR n e s M).2.2.2.1.length c], .bool (withR n e s M).2.2.2.2]) ∧ w'.ownsRow base 80 3 (.slice p (withR n e s M).2.2.2.1.length c) (withR n e s M).2.2.2.1.length (cellsW (withR n e s M).2.2.2.1) ∧ Below w.heap.size w w' := by
  have hB0 : Below w.heap.size w ((w.alloc (.cells #[.int .i64 n, .int .i64 e, .int .i64 s, .slice p M.length cap] 25)).alloc (.cells #[.int .i64 0, .int .i64 0, .int .i64 0, .slice none 0 0] 25)) := by (repeat (first | exact Below.refl _ _ | (refine Below.setCell ?_ (by (first | exact Nat.le_refl _ | omega | (simp <;> omega) | simp)) _) | (refine Below.alloc ?_ (by (first | exact Nat.le_refl _ | omega | (simp <;> omega) | simp)) _) | (refine below_draws ?_ _)))
  have hok := impl_netOk n e s (.slice p M.length cap) M _ ((ReadsW.of_own h).later hB0)
  have O1 := Lib.hid h; clear h hB0
  by_cases hb : netB n e s M = true
  · rw [withR_yes hb]
    rw [hb] at hok
    have HOK := Lib.hid hok; clear hok hb
    go_enter Try.func137, Try.ntmps137
    go_wp2_with fail
    refine HOK.out.mono ?_
    rintro en w1 ⟨rfl, B1⟩
    obtain ⟨hc1, hf1⟩ := bcell B1
    have S1 := B1.size
    try simp at S1
    try (have _L1w : w.heap.size < w1.heap.size := by omega)
    have _M1w : w.heap.size ≤ w1.heap.size := by omega
    try (have _P1w_1 : w.heap.size + 1 < w1.heap.size := by omega)
    try (have _P1w_2 : w.heap.size + 1 + 1 < w1.heap.size := by omega)
    try (have _P1w_3 : w.heap.size + 1 + 1 + 1 < w1.heap.size := by omega)
    have _ : w1.cell? ⟨w.heap.size, 0, none⟩ = some (.int .i64 n) := by rw [hc1 (w.heap.size) 0 (by first | omega | (simp; done) | (simp; omega))]; first | assumption | (simp; done) | simp [go_sem, *]
    have _ : w1.frozen? ⟨w.heap.size, 0, none⟩ = false := by rw [hf1 (w.heap.size) 0 (by first | omega | (simp; done) | (simp; omega))]; first | assumption | (simp; done) | simp [go_sem, *]
    have _ : w1.cell? ⟨w.heap.size, 1, none⟩ = some (.int .i64 e) := by rw [hc1 (w.heap.size) 1 (by first | omega | (simp; done) | (simp; omega))]; first | assumption | (simp; done) | simp [go_sem, *]
    have _ : w1.frozen? ⟨w.heap.size, 1, none⟩ = false := by rw [hf1 (w.heap.size) 1 (by first | omega | (simp; done) | (simp; omega))]; first | assumption | (simp; done) | simp [go_sem, *]
    have _ : w1.cell? ⟨w.heap.size, 2, none⟩ = some (.int .i64 s) := by rw [hc1 (w.heap.size) 2 (by first | omega | (simp; done) | (simp; omega))]; first | assumption | (simp; done) | simp [go_sem, *]
    have _ : w1.frozen? ⟨w.heap.size, 2, none⟩ = false := by rw [hf1 (w.heap.size) 2 (by first | omega | (simp; done) | (simp; omega))]; first | assumption | (simp; done) | simp [go_sem, *]
    have _ : w1.cell? ⟨w.heap.size, 3, none⟩ = some (.slice p M.length cap) := by rw [hc1 (w.heap.size) 3 (by first | omega | (simp; done) | (simp; omega))]; first | assumption | (simp; done) | simp [go_sem, *]
    have _ : w1.frozen? ⟨w.heap.size, 3, none⟩ = false := by rw [hf1 (w.heap.size) 3 (by first | omega | (simp; done) | (simp; omega))]; first | assumption | (simp; done) | simp [go_sem, *]
    have _ : w1.cell? ⟨w.heap.size + 1, 0, none⟩ = some (.int .i64 0) := by rw [hc1 (w.heap.size + 1) 0 (by first | omega | (simp; done) | (simp; omega))]; first | assumption | (simp; done) | simp [go_sem, *]
    have _ : w1.frozen? ⟨w.heap.size + 1, 0, none⟩ = false := by rw [hf1 (w.heap.size + 1) 0 (by first | omega | (simp; done) | (simp; omega))]; first | assumption | (simp; done) | simp [go_sem, *]
    have _ : w1.cell? ⟨w.heap.size + 1, 1, none⟩ = some (.int .i64 0) := by rw [hc1 (w.heap.size + 1) 1 (by first | omega | (simp; done) | (simp; omega))]; first | assumption | (simp; done) | simp [go_sem, *]
    have _ : w1.frozen? ⟨w.heap.size + 1, 1, none⟩ = false := by rw [hf1 (w.heap.size + 1) 1 (by first | omega | (simp; done) | (simp; omega))]; first | assumption | (simp; done) | simp [go_sem, *]
    have _ : w1.cell? ⟨w.heap.size + 1, 2, none⟩ = some (.int .i64 0) := by rw [hc1 (w.heap.size + 1) 2 (by first | omega | (simp; done) | (simp; omega))]; first | assumption | (simp; done) | simp [go_sem, *]
    have _ : w1.frozen? ⟨w.heap.size + 1, 2, none⟩ = false := by rw [hf1 (w.heap.size + 1) 2 (by first | omega | (simp; done) | (simp; omega))]; first | assumption | (simp; done) | simp [go_sem, *]
    have _ : w1.cell? ⟨w.heap.size + 1, 3, none⟩ = some (.slice none 0 0) := by rw [hc1 (w.heap.size + 1) 3 (by first | omega | (simp; done) | (simp; omega))]; first | assumption | (simp; done) | simp [go_sem, *]
    have _ : w1.frozen? ⟨w.heap.size + 1, 3, none⟩ = false := by rw [hf1 (w.heap.size + 1) 3 (by first | omega | (simp; done) | (simp; omega))]; first | assumption | (simp; done) | simp [go_sem, *]
    clear hc1 hf1
    go_wp2
    exact bodyPost_ret (v := .tuple #[.agg #[.int .i64 n, .int .i64 e, .int .i64 s, .slice p M.length cap], .bool true]) (by simp (maxDischargeDepth := 8) [results, Try.results137, go_sem, *]) rfl ⟨p, cap, rfl, owns_later O1.out (by (repeat (first | exact Below.refl _ _ | (refine Below.setCell ?_ (by (first | exact Nat.le_refl _ | omega | (simp <;> omega) | simp)) _) | (refine Below.alloc ?_ (by (first | exact Nat.le_refl _ | omega | (simp <;> omega) | simp)) _) | (refine below_draws ?_ _) | exact B1 | (refine Below.trans ?_ (Below.mono B1 (by (first | exact Nat.le_refl _ | omega | (simp <;> omega) | simp))))))), by (repeat (first | exact Below.refl _ _ | (refine Below.setCell ?_ (by (first | exact Nat.le_refl _ | omega | (simp <;> omega) | simp)) _) | (refine Below.alloc ?_ (by (first | exact Nat.le_refl _ | omega | (simp <;> omega) | simp)) _) | (refine below_draws ?_ _) | exact B1 | (refine Below.trans ?_ (Below.mono B1 (by (first | exact Nat.le_refl _ | omega | (simp <;> omega) | simp))))))⟩
  · have hb : netB n e s M = false := by simpa using hb
    rw [withR_no hb]
    rw [hb] at hok
    have HOK := Lib.hid hok; clear hok hb
    go_enter Try.func137, Try.ntmps137
    go_wp2_with fail
    refine HOK.out.mono ?_
    rintro en w1 ⟨rfl, B1⟩
    obtain ⟨hc1, hf1⟩ := bcell B1
    have S1 := B1.size
    try simp at S1
    try (have _L1w : w.heap.size < w1.heap.size := by omega)
    have _M1w : w.heap.size ≤ w1.heap.size := by omega
    try (have _P1w_1 : w.heap.size + 1 < w1.heap.size := by omega)
    try (have _P1w_2 : w.heap.size + 1 + 1 < w1.heap.size := by omega)
    try (have _P1w_3 : w.heap.size + 1 + 1 + 1 < w1.heap.size := by omega)
    have _ : w1.cell? ⟨w.heap.size + 1, 0, none⟩ = some (.int .i64 0) := by rw [hc1 (w.heap.size + 1) 0 (by first | omega | (simp; done) | (simp; omega))]; first | assumption | (simp; done) | simp [go_sem, *]
    have _ : w1.frozen? ⟨w.heap.size + 1, 0, none⟩ = false := by rw [hf1 (w.heap.size + 1) 0 (by first | omega | (simp; done) | (simp; omega))]; first | assumption | (simp; done) | simp [go_sem, *]
    have _ : w1.cell? ⟨w.heap.size + 1, 1, none⟩ = some (.int .i64 0) := by rw [hc1 (w.heap.size + 1) 1 (by first | omega | (simp; done) | (simp; omega))]; first | assumption | (simp; done) | simp [go_sem, *]
    have _ : w1.frozen? ⟨w.heap.size + 1, 1, none⟩ = false := by rw [hf1 (w.heap.size + 1) 1 (by first | omega | (simp; done) | (simp; omega))]; first | assumption | (simp; done) | simp [go_sem, *]
    have _ : w1.cell? ⟨w.heap.size + 1, 2, none⟩ = some (.int .i64 0) := by rw [hc1 (w.heap.size + 1) 2 (by first | omega | (simp; done) | (simp; omega))]; first | assumption | (simp; done) | simp [go_sem, *]
    have _ : w1.frozen? ⟨w.heap.size + 1, 2, none⟩ = false := by rw [hf1 (w.heap.size + 1) 2 (by first | omega | (simp; done) | (simp; omega))]; first | assumption | (simp; done) | simp [go_sem, *]
    have _ : w1.cell? ⟨w.heap.size + 1, 3, none⟩ = some (.slice none 0 0) := by rw [hc1 (w.heap.size + 1) 3 (by first | omega | (simp; done) | (simp; omega))]; first | assumption | (simp; done) | simp [go_sem, *]
    have _ : w1.frozen? ⟨w.heap.size + 1, 3, none⟩ = false := by rw [hf1 (w.heap.size + 1) 3 (by first | omega | (simp; done) | (simp; omega))]; first | assumption | (simp; done) | simp [go_sem, *]
    clear hc1 hf1
    go_wp2
    exact bodyPost_ret (v := .tuple #[.agg #[.int .i64 0, .int .i64 0, .int .i64 0, .slice none 0 0], .bool false]) (by simp (maxDischargeDepth := 8) [results, Try.results137, go_sem, *]) rfl ⟨none, 0, rfl, World.ownsRow_nil _ _ _ _, by (repeat (first | exact Below.refl _ _ | (refine Below.setCell ?_ (by (first | exact Nat.le_refl _ | omega | (simp <;> omega) | simp)) _) | (refine Below.alloc ?_ (by (first | exact Nat.le_refl _ | omega | (simp <;> omega) | simp)) _) | (refine below_draws ?_ _) | exact B1 | (refine Below.trans ?_ (Below.mono B1 (by (first | exact Nat.le_refl _ | omega | (simp <;> omega) | simp))))))⟩
end Go.Proofs.Ytpkddaapffamiaa
