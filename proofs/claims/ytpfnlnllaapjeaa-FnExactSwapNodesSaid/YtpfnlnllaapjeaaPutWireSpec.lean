/-
  PutWire, in the model and in the program.
-/
import Derived.Test.YtpfnlnllaapjeaaGIns
import Derived.Test.YtpfnlnllaapjeaaGPut
import Derived.Test.YtpfnlnllaapjeaaNetOkSpec
namespace Go.Proofs.Ytpfnlnllaapjeaa
open Go.RowKit Go.Maps

/-- An answer that is a network and a bool. -/
def AnsN (w : World) (R : Int × Int × Int × List W3 × Bool) (en : Ending) (w' : World) : Prop :=
  ∃ p c, en = .returned (.tuple #[.agg #[.int .i64 R.1, .int .i64 R.2.1, .int .i64 R.2.2.1, .slice p R.2.2.2.1.length c], .bool R.2.2.2.2]) ∧ w'.ownsRow w.heap.size 107 3 (.slice p R.2.2.2.1.length c) R.2.2.2.1.length (cellsW R.2.2.2.1) ∧ Below w.heap.size w w'
theorem ansN_no {w w' : World} (h : Below w.heap.size w w') : AnsN w (0, 0, 0, [], false) (.returned (.tuple #[.agg #[.int .i64 0, .int .i64 0, .int .i64 0, .slice none 0 0], .bool false])) w' :=
  ⟨none, 0, rfl, World.ownsRow_nil _ _ _ _, h⟩
theorem key_ge {n : Int} {ws : List W3} (hw : WiresV n ws) (hn : n ≤ 5) : ∀ k, (h : k < ws.length) → (k : Int) ≤ 5 * ws[k].1 + ws[k].2.1
  | 0, h => by have := hw.1 0 h; unfold wireV at this; omega
  | k + 1, h => by
    have ih := key_ge hw hn k (by omega)
    have h1 := hw.2 k h
    have h2 := hw.1 k (by omega)
    have h3 := hw.1 (k + 1) h
    unfold wLt at h1
    unfold wireV at h2 h3
    omega
theorem wiresV_len {n : Int} {ws : List W3} (hw : WiresV n ws) (hn : n ≤ 5) : ws.length ≤ 25 := by
  by_cases h : ws.length ≤ 25
  · exact h
  · have h1 := key_ge hw hn 25 (by omega)
    have h2 := hw.1 25 (by omega)
    unfold wireV at h2
    omega
theorem withR_len {n e s : Int} {M : List W3} : (withR n e s M).2.2.2.1.length ≤ 25 := by
  by_cases h : netB n e s M = true
  · rw [withR_yes h]
    have hv := netB_iff.1 h
    exact wiresV_len hv.2.1 hv.1.2.1
  · rw [withR_no (by simpa using h)]; simp

def PutOk (n a b x : Int) : Prop := (0 ≤ a ∧ a < n) ∧ (0 ≤ b ∧ b < n) ∧ a ≠ b ∧ 0 ≤ x ∧ x ≤ 200
instance (n a b x : Int) : Decidable (PutOk n a b x) := by unfold PutOk; infer_instance
/-- What PutWire answers. -/
noncomputable def putR (n e s a b x : Int) (ws : List W3) : Int × Int × Int × List W3 × Bool :=
  if netB n e s ws = true ∧ PutOk n a b x then withR n e s (dropZ (put3 ws (min a b) (max a b) x false)) else (0, 0, 0, [], false)
theorem putR_yes {n e s a b x : Int} {ws : List W3} (h : netB n e s ws = true) (h1 : PutOk n a b x) : putR n e s a b x ws = withR n e s (dropZ (put3 ws (min a b) (max a b) x false)) := if_pos ⟨h, h1⟩
theorem putR_no {n e s a b x : Int} {ws : List W3} (h : ¬ (netB n e s ws = true ∧ PutOk n a b x)) : putR n e s a b x ws = (0, 0, 0, [], false) := if_neg h
theorem putR_len (n e s a b x : Int) (ws : List W3) : (putR n e s a b x ws).2.2.2.1.length ≤ 25 := by
  by_cases h : netB n e s ws = true ∧ PutOk n a b x
  · rw [putR_yes h.1 h.2]; exact withR_len
  · rw [putR_no h]; simp

set_option maxRecDepth 4000 in
set_option maxHeartbeats 6400000 in
theorem spec_putWire (n e s a b x : Int) (v : Value) (ws : List W3) (w : World) (hr : ReadsW w v ws) (hlen : ws.length ≤ 1048576) :
    Calls Try.prog 20 #[.agg #[.int .i64 n, .int .i64 e, .int .i64 s, v], .int .i64 a, .int .i64 b, .int .i64 x] w (AnsN w (putR n e s a b x ws)) := by
  have hB0 : Below w.heap.size w ((w.alloc (.cells #[.int .i64 n, .int .i64 e, .int .i64 s, v] 25)).alloc (.cells #[.int .i64 0, .int .i64 0, .int .i64 0, .slice none 0 0] 25)) := by (repeat (first | exact Below.refl _ _ | (refine Below.setCell ?_ (by (first | exact Nat.le_refl _ | omega | (simp <;> omega) | simp)) _) | (refine Below.alloc ?_ (by (first | exact Nat.le_refl _ | omega | (simp <;> omega) | simp)) _) | (refine below_draws ?_ _)))
  have hok := spec_netOk n e s v ws _ (hr.later hB0)
  by_cases hb : netB n e s ws = true
  case neg =>
    have hb : netB n e s ws = false := by simpa using hb
    rw [putR_no (by rw [hb]; simp)]
    rw [hb] at hok
    have HOK := Lib.hid hok
    clear hb hr hok
    go_enter Try.func20, Try.ntmps20
    go_wp2_with fail
    refine HOK.out.mono ?_
    rintro en w1 ⟨rfl, B1⟩
    obtain ⟨hc1, hf1⟩ := bcell B1
    have S1 := B1.size
    try simp at S1
    try (have _L1w : w.heap.size < w1.heap.size := by omega)
    have _M1w : w.heap.size ≤ w1.heap.size := by omega
    try (have _P1w_1 : w.heap.size + 1 < w1.heap.size := by omega)
    try (have _P1w_2 : w.heap.size + 1 + 1 < w1.heap.size := by omega)
    try (have _P1w_3 : w.heap.size + 1 + 1 + 1 < w1.heap.size := by omega)
    have _ : w1.cell? ⟨w.heap.size, 0, none⟩ = some (.int .i64 n) := by rw [hc1 (w.heap.size) 0 (by first | omega | (simp; done) | (simp; omega))]; first | assumption | (simp; done) | simp [go_sem, *]
    have _ : w1.cell? ⟨w.heap.size, 1, none⟩ = some (.int .i64 e) := by rw [hc1 (w.heap.size) 1 (by first | omega | (simp; done) | (simp; omega))]; first | assumption | (simp; done) | simp [go_sem, *]
    have _ : w1.cell? ⟨w.heap.size, 2, none⟩ = some (.int .i64 s) := by rw [hc1 (w.heap.size) 2 (by first | omega | (simp; done) | (simp; omega))]; first | assumption | (simp; done) | simp [go_sem, *]
    have _ : w1.cell? ⟨w.heap.size, 3, none⟩ = some (v) := by rw [hc1 (w.heap.size) 3 (by first | omega | (simp; done) | (simp; omega))]; first | assumption | (simp; done) | simp [go_sem, *]
    have _ : w1.cell? ⟨w.heap.size + 1, 0, none⟩ = some (.int .i64 0) := by rw [hc1 (w.heap.size + 1) 0 (by first | omega | (simp; done) | (simp; omega))]; first | assumption | (simp; done) | simp [go_sem, *]
    have _ : w1.frozen? ⟨w.heap.size + 1, 0, none⟩ = false := by rw [hf1 (w.heap.size + 1) 0 (by first | omega | (simp; done) | (simp; omega))]; first | assumption | (simp; done) | simp [go_sem, *]
    have _ : w1.cell? ⟨w.heap.size + 1, 1, none⟩ = some (.int .i64 0) := by rw [hc1 (w.heap.size + 1) 1 (by first | omega | (simp; done) | (simp; omega))]; first | assumption | (simp; done) | simp [go_sem, *]
    have _ : w1.frozen? ⟨w.heap.size + 1, 1, none⟩ = false := by rw [hf1 (w.heap.size + 1) 1 (by first | omega | (simp; done) | (simp; omega))]; first | assumption | (simp; done) | simp [go_sem, *]
    have _ : w1.cell? ⟨w.heap.size + 1, 2, none⟩ = some (.int .i64 0) := by rw [hc1 (w.heap.size + 1) 2 (by first | omega | (simp; done) | (simp; omega))]; first | assumption | (simp; done) | simp [go_sem, *]
    have _ : w1.frozen? ⟨w.heap.size + 1, 2, none⟩ = false := by rw [hf1 (w.heap.size + 1) 2 (by first | omega | (simp; done) | (simp; omega))]; first | assumption | (simp; done) | simp [go_sem, *]
    have _ : w1.cell? ⟨w.heap.size + 1, 3, none⟩ = some (.slice none 0 0) := by rw [hc1 (w.heap.size + 1) 3 (by first | omega | (simp; done) | (simp; omega))]; first | assumption | (simp; done) | simp [go_sem, *]
    have _ : w1.frozen? ⟨w.heap.size + 1, 3, none⟩ = false := by rw [hf1 (w.heap.size + 1) 3 (by first | omega | (simp; done) | (simp; omega))]; first | assumption | (simp; done) | simp [go_sem, *]
    clear hc1 hf1
    go_wp2
    exact bodyPost_ret (v := .tuple #[.agg #[.int .i64 0, .int .i64 0, .int .i64 0, .slice none 0 0], .bool false]) (by simp (maxDischargeDepth := 8) [results, Try.results20, go_sem, *]) rfl (ansN_no (by (repeat (first | exact Below.refl _ _ | (refine Below.setCell ?_ (by (first | exact Nat.le_refl _ | omega | (simp <;> omega) | simp)) _) | (refine Below.alloc ?_ (by (first | exact Nat.le_refl _ | omega | (simp <;> omega) | simp)) _) | (refine below_draws ?_ _) | exact B1 | (refine Below.trans ?_ (Below.mono B1 (by (first | exact Nat.le_refl _ | omega | (simp <;> omega) | simp))))))))
  rw [hb] at hok
  have HOK := Lib.hid hok; clear hok
  have hV := netB_iff.1 hb
  have n1 := hV.1.1
  have n5 := hV.1.2.1
  have HW := Lib.hid hV.2.1
  clear hV
  by_cases hP : PutOk n a b x
  case neg =>
    rw [putR_no (fun h => hP h.2)]
    clear hr
    unfold PutOk at hP
    by_cases hA : 0 ≤ a ∧ a < n
    case neg =>
      clear hP
      go_enter Try.func20, Try.ntmps20
      go_wp2_with fail
      refine HOK.out.mono ?_
      rintro en w1 ⟨rfl, B1⟩
      obtain ⟨hc1, hf1⟩ := bcell B1
      have S1 := B1.size
      try simp at S1
      try (have _L1w : w.heap.size < w1.heap.size := by omega)
      have _M1w : w.heap.size ≤ w1.heap.size := by omega
      try (have _P1w_1 : w.heap.size + 1 < w1.heap.size := by omega)
      try (have _P1w_2 : w.heap.size + 1 + 1 < w1.heap.size := by omega)
      try (have _P1w_3 : w.heap.size + 1 + 1 + 1 < w1.heap.size := by omega)
      have _ : w1.cell? ⟨w.heap.size, 0, none⟩ = some (.int .i64 n) := by rw [hc1 (w.heap.size) 0 (by first | omega | (simp; done) | (simp; omega))]; first | assumption | (simp; done) | simp [go_sem, *]
      have _ : w1.cell? ⟨w.heap.size, 1, none⟩ = some (.int .i64 e) := by rw [hc1 (w.heap.size) 1 (by first | omega | (simp; done) | (simp; omega))]; first | assumption | (simp; done) | simp [go_sem, *]
      have _ : w1.cell? ⟨w.heap.size, 2, none⟩ = some (.int .i64 s) := by rw [hc1 (w.heap.size) 2 (by first | omega | (simp; done) | (simp; omega))]; first | assumption | (simp; done) | simp [go_sem, *]
      have _ : w1.cell? ⟨w.heap.size, 3, none⟩ = some (v) := by rw [hc1 (w.heap.size) 3 (by first | omega | (simp; done) | (simp; omega))]; first | assumption | (simp; done) | simp [go_sem, *]
      have _ : w1.cell? ⟨w.heap.size + 1, 0, none⟩ = some (.int .i64 0) := by rw [hc1 (w.heap.size + 1) 0 (by first | omega | (simp; done) | (simp; omega))]; first | assumption | (simp; done) | simp [go_sem, *]
      have _ : w1.frozen? ⟨w.heap.size + 1, 0, none⟩ = false := by rw [hf1 (w.heap.size + 1) 0 (by first | omega | (simp; done) | (simp; omega))]; first | assumption | (simp; done) | simp [go_sem, *]
      have _ : w1.cell? ⟨w.heap.size + 1, 1, none⟩ = some (.int .i64 0) := by rw [hc1 (w.heap.size + 1) 1 (by first | omega | (simp; done) | (simp; omega))]; first | assumption | (simp; done) | simp [go_sem, *]
      have _ : w1.frozen? ⟨w.heap.size + 1, 1, none⟩ = false := by rw [hf1 (w.heap.size + 1) 1 (by first | omega | (simp; done) | (simp; omega))]; first | assumption | (simp; done) | simp [go_sem, *]
      have _ : w1.cell? ⟨w.heap.size + 1, 2, none⟩ = some (.int .i64 0) := by rw [hc1 (w.heap.size + 1) 2 (by first | omega | (simp; done) | (simp; omega))]; first | assumption | (simp; done) | simp [go_sem, *]
      have _ : w1.frozen? ⟨w.heap.size + 1, 2, none⟩ = false := by rw [hf1 (w.heap.size + 1) 2 (by first | omega | (simp; done) | (simp; omega))]; first | assumption | (simp; done) | simp [go_sem, *]
      have _ : w1.cell? ⟨w.heap.size + 1, 3, none⟩ = some (.slice none 0 0) := by rw [hc1 (w.heap.size + 1) 3 (by first | omega | (simp; done) | (simp; omega))]; first | assumption | (simp; done) | simp [go_sem, *]
      have _ : w1.frozen? ⟨w.heap.size + 1, 3, none⟩ = false := by rw [hf1 (w.heap.size + 1) 3 (by first | omega | (simp; done) | (simp; omega))]; first | assumption | (simp; done) | simp [go_sem, *]
      clear hc1 hf1
      go_wp2_with (go_at_call 77; first | (refine (in_yes _ _ _ _ (by omega) (by omega)).mono ?_; rintro en wz ⟨rfl, rfl⟩) | (refine (in_no _ _ _ _ (by omega)).mono ?_; rintro en wz ⟨rfl, rfl⟩))
      exact bodyPost_ret (v := .tuple #[.agg #[.int .i64 0, .int .i64 0, .int .i64 0, .slice none 0 0], .bool false]) (by simp (maxDischargeDepth := 8) [results, Try.results20, go_sem, *]) rfl (ansN_no (by (repeat (first | exact Below.refl _ _ | (refine Below.setCell ?_ (by (first | exact Nat.le_refl _ | omega | (simp <;> omega) | simp)) _) | (refine Below.alloc ?_ (by (first | exact Nat.le_refl _ | omega | (simp <;> omega) | simp)) _) | (refine below_draws ?_ _) | exact B1 | (refine Below.trans ?_ (Below.mono B1 (by (first | exact Nat.le_refl _ | omega | (simp <;> omega) | simp))))))))
    by_cases hE : 0 ≤ b ∧ b < n
    case neg =>
      clear hP
      go_enter Try.func20, Try.ntmps20
      go_wp2_with fail
      refine HOK.out.mono ?_
      rintro en w1 ⟨rfl, B1⟩
      obtain ⟨hc1, hf1⟩ := bcell B1
      have S1 := B1.size
      try simp at S1
      try (have _L1w : w.heap.size < w1.heap.size := by omega)
      have _M1w : w.heap.size ≤ w1.heap.size := by omega
      try (have _P1w_1 : w.heap.size + 1 < w1.heap.size := by omega)
      try (have _P1w_2 : w.heap.size + 1 + 1 < w1.heap.size := by omega)
      try (have _P1w_3 : w.heap.size + 1 + 1 + 1 < w1.heap.size := by omega)
      have _ : w1.cell? ⟨w.heap.size, 0, none⟩ = some (.int .i64 n) := by rw [hc1 (w.heap.size) 0 (by first | omega | (simp; done) | (simp; omega))]; first | assumption | (simp; done) | simp [go_sem, *]
      have _ : w1.cell? ⟨w.heap.size, 1, none⟩ = some (.int .i64 e) := by rw [hc1 (w.heap.size) 1 (by first | omega | (simp; done) | (simp; omega))]; first | assumption | (simp; done) | simp [go_sem, *]
      have _ : w1.cell? ⟨w.heap.size, 2, none⟩ = some (.int .i64 s) := by rw [hc1 (w.heap.size) 2 (by first | omega | (simp; done) | (simp; omega))]; first | assumption | (simp; done) | simp [go_sem, *]
      have _ : w1.cell? ⟨w.heap.size, 3, none⟩ = some (v) := by rw [hc1 (w.heap.size) 3 (by first | omega | (simp; done) | (simp; omega))]; first | assumption | (simp; done) | simp [go_sem, *]
      have _ : w1.cell? ⟨w.heap.size + 1, 0, none⟩ = some (.int .i64 0) := by rw [hc1 (w.heap.size + 1) 0 (by first | omega | (simp; done) | (simp; omega))]; first | assumption | (simp; done) | simp [go_sem, *]
      have _ : w1.frozen? ⟨w.heap.size + 1, 0, none⟩ = false := by rw [hf1 (w.heap.size + 1) 0 (by first | omega | (simp; done) | (simp; omega))]; first | assumption | (simp; done) | simp [go_sem, *]
      have _ : w1.cell? ⟨w.heap.size + 1, 1, none⟩ = some (.int .i64 0) := by rw [hc1 (w.heap.size + 1) 1 (by first | omega | (simp; done) | (simp; omega))]; first | assumption | (simp; done) | simp [go_sem, *]
      have _ : w1.frozen? ⟨w.heap.size + 1, 1, none⟩ = false := by rw [hf1 (w.heap.size + 1) 1 (by first | omega | (simp; done) | (simp; omega))]; first | assumption | (simp; done) | simp [go_sem, *]
      have _ : w1.cell? ⟨w.heap.size + 1, 2, none⟩ = some (.int .i64 0) := by rw [hc1 (w.heap.size + 1) 2 (by first | omega | (simp; done) | (simp; omega))]; first | assumption | (simp; done) | simp [go_sem, *]
      have _ : w1.frozen? ⟨w.heap.size + 1, 2, none⟩ = false := by rw [hf1 (w.heap.size + 1) 2 (by first | omega | (simp; done) | (simp; omega))]; first | assumption | (simp; done) | simp [go_sem, *]
      have _ : w1.cell? ⟨w.heap.size + 1, 3, none⟩ = some (.slice none 0 0) := by rw [hc1 (w.heap.size + 1) 3 (by first | omega | (simp; done) | (simp; omega))]; first | assumption | (simp; done) | simp [go_sem, *]
      have _ : w1.frozen? ⟨w.heap.size + 1, 3, none⟩ = false := by rw [hf1 (w.heap.size + 1) 3 (by first | omega | (simp; done) | (simp; omega))]; first | assumption | (simp; done) | simp [go_sem, *]
      clear hc1 hf1
      go_wp2_with (go_at_call 77; first | (refine (in_yes _ _ _ _ (by omega) (by omega)).mono ?_; rintro en wz ⟨rfl, rfl⟩) | (refine (in_no _ _ _ _ (by omega)).mono ?_; rintro en wz ⟨rfl, rfl⟩))
      exact bodyPost_ret (v := .tuple #[.agg #[.int .i64 0, .int .i64 0, .int .i64 0, .slice none 0 0], .bool false]) (by simp (maxDischargeDepth := 8) [results, Try.results20, go_sem, *]) rfl (ansN_no (by (repeat (first | exact Below.refl _ _ | (refine Below.setCell ?_ (by (first | exact Nat.le_refl _ | omega | (simp <;> omega) | simp)) _) | (refine Below.alloc ?_ (by (first | exact Nat.le_refl _ | omega | (simp <;> omega) | simp)) _) | (refine below_draws ?_ _) | exact B1 | (refine Below.trans ?_ (Below.mono B1 (by (first | exact Nat.le_refl _ | omega | (simp <;> omega) | simp))))))))
    by_cases hab : a = b
    case pos =>
      have hab' : (a == b) = true := by simpa using hab
      clear hP
      go_enter Try.func20, Try.ntmps20
      go_wp2_with fail
      refine HOK.out.mono ?_
      rintro en w1 ⟨rfl, B1⟩
      obtain ⟨hc1, hf1⟩ := bcell B1
      have S1 := B1.size
      try simp at S1
      try (have _L1w : w.heap.size < w1.heap.size := by omega)
      have _M1w : w.heap.size ≤ w1.heap.size := by omega
      try (have _P1w_1 : w.heap.size + 1 < w1.heap.size := by omega)
      try (have _P1w_2 : w.heap.size + 1 + 1 < w1.heap.size := by omega)
      try (have _P1w_3 : w.heap.size + 1 + 1 + 1 < w1.heap.size := by omega)
      have _ : w1.cell? ⟨w.heap.size, 0, none⟩ = some (.int .i64 n) := by rw [hc1 (w.heap.size) 0 (by first | omega | (simp; done) | (simp; omega))]; first | assumption | (simp; done) | simp [go_sem, *]
      have _ : w1.cell? ⟨w.heap.size, 1, none⟩ = some (.int .i64 e) := by rw [hc1 (w.heap.size) 1 (by first | omega | (simp; done) | (simp; omega))]; first | assumption | (simp; done) | simp [go_sem, *]
      have _ : w1.cell? ⟨w.heap.size, 2, none⟩ = some (.int .i64 s) := by rw [hc1 (w.heap.size) 2 (by first | omega | (simp; done) | (simp; omega))]; first | assumption | (simp; done) | simp [go_sem, *]
      have _ : w1.cell? ⟨w.heap.size, 3, none⟩ = some (v) := by rw [hc1 (w.heap.size) 3 (by first | omega | (simp; done) | (simp; omega))]; first | assumption | (simp; done) | simp [go_sem, *]
      have _ : w1.cell? ⟨w.heap.size + 1, 0, none⟩ = some (.int .i64 0) := by rw [hc1 (w.heap.size + 1) 0 (by first | omega | (simp; done) | (simp; omega))]; first | assumption | (simp; done) | simp [go_sem, *]
      have _ : w1.frozen? ⟨w.heap.size + 1, 0, none⟩ = false := by rw [hf1 (w.heap.size + 1) 0 (by first | omega | (simp; done) | (simp; omega))]; first | assumption | (simp; done) | simp [go_sem, *]
      have _ : w1.cell? ⟨w.heap.size + 1, 1, none⟩ = some (.int .i64 0) := by rw [hc1 (w.heap.size + 1) 1 (by first | omega | (simp; done) | (simp; omega))]; first | assumption | (simp; done) | simp [go_sem, *]
      have _ : w1.frozen? ⟨w.heap.size + 1, 1, none⟩ = false := by rw [hf1 (w.heap.size + 1) 1 (by first | omega | (simp; done) | (simp; omega))]; first | assumption | (simp; done) | simp [go_sem, *]
      have _ : w1.cell? ⟨w.heap.size + 1, 2, none⟩ = some (.int .i64 0) := by rw [hc1 (w.heap.size + 1) 2 (by first | omega | (simp; done) | (simp; omega))]; first | assumption | (simp; done) | simp [go_sem, *]
      have _ : w1.frozen? ⟨w.heap.size + 1, 2, none⟩ = false := by rw [hf1 (w.heap.size + 1) 2 (by first | omega | (simp; done) | (simp; omega))]; first | assumption | (simp; done) | simp [go_sem, *]
      have _ : w1.cell? ⟨w.heap.size + 1, 3, none⟩ = some (.slice none 0 0) := by rw [hc1 (w.heap.size + 1) 3 (by first | omega | (simp; done) | (simp; omega))]; first | assumption | (simp; done) | simp [go_sem, *]
      have _ : w1.frozen? ⟨w.heap.size + 1, 3, none⟩ = false := by rw [hf1 (w.heap.size + 1) 3 (by first | omega | (simp; done) | (simp; omega))]; first | assumption | (simp; done) | simp [go_sem, *]
      clear hc1 hf1
      go_wp2_with (go_at_call 77; first | (refine (in_yes _ _ _ _ (by omega) (by omega)).mono ?_; rintro en wz ⟨rfl, rfl⟩) | (refine (in_no _ _ _ _ (by omega)).mono ?_; rintro en wz ⟨rfl, rfl⟩))
      exact bodyPost_ret (v := .tuple #[.agg #[.int .i64 0, .int .i64 0, .int .i64 0, .slice none 0 0], .bool false]) (by simp (maxDischargeDepth := 8) [results, Try.results20, go_sem, *]) rfl (ansN_no (by (repeat (first | exact Below.refl _ _ | (refine Below.setCell ?_ (by (first | exact Nat.le_refl _ | omega | (simp <;> omega) | simp)) _) | (refine Below.alloc ?_ (by (first | exact Nat.le_refl _ | omega | (simp <;> omega) | simp)) _) | (refine below_draws ?_ _) | exact B1 | (refine Below.trans ?_ (Below.mono B1 (by (first | exact Nat.le_refl _ | omega | (simp <;> omega) | simp))))))))
    have hab' : (a == b) = false := by simpa using hab
    have hx : ¬ (0 ≤ x ∧ x ≤ 200) := fun h => hP ⟨hA, hE, hab, h⟩
    clear hP
    go_enter Try.func20, Try.ntmps20
    go_wp2_with fail
    refine HOK.out.mono ?_
    rintro en w1 ⟨rfl, B1⟩
    obtain ⟨hc1, hf1⟩ := bcell B1
    have S1 := B1.size
    try simp at S1
    try (have _L1w : w.heap.size < w1.heap.size := by omega)
    have _M1w : w.heap.size ≤ w1.heap.size := by omega
    try (have _P1w_1 : w.heap.size + 1 < w1.heap.size := by omega)
    try (have _P1w_2 : w.heap.size + 1 + 1 < w1.heap.size := by omega)
    try (have _P1w_3 : w.heap.size + 1 + 1 + 1 < w1.heap.size := by omega)
    have _ : w1.cell? ⟨w.heap.size, 0, none⟩ = some (.int .i64 n) := by rw [hc1 (w.heap.size) 0 (by first | omega | (simp; done) | (simp; omega))]; first | assumption | (simp; done) | simp [go_sem, *]
    have _ : w1.cell? ⟨w.heap.size, 1, none⟩ = some (.int .i64 e) := by rw [hc1 (w.heap.size) 1 (by first | omega | (simp; done) | (simp; omega))]; first | assumption | (simp; done) | simp [go_sem, *]
    have _ : w1.cell? ⟨w.heap.size, 2, none⟩ = some (.int .i64 s) := by rw [hc1 (w.heap.size) 2 (by first | omega | (simp; done) | (simp; omega))]; first | assumption | (simp; done) | simp [go_sem, *]
    have _ : w1.cell? ⟨w.heap.size, 3, none⟩ = some (v) := by rw [hc1 (w.heap.size) 3 (by first | omega | (simp; done) | (simp; omega))]; first | assumption | (simp; done) | simp [go_sem, *]
    have _ : w1.cell? ⟨w.heap.size + 1, 0, none⟩ = some (.int .i64 0) := by rw [hc1 (w.heap.size + 1) 0 (by first | omega | (simp; done) | (simp; omega))]; first | assumption | (simp; done) | simp [go_sem, *]
    have _ : w1.frozen? ⟨w.heap.size + 1, 0, none⟩ = false := by rw [hf1 (w.heap.size + 1) 0 (by first | omega | (simp; done) | (simp; omega))]; first | assumption | (simp; done) | simp [go_sem, *]
    have _ : w1.cell? ⟨w.heap.size + 1, 1, none⟩ = some (.int .i64 0) := by rw [hc1 (w.heap.size + 1) 1 (by first | omega | (simp; done) | (simp; omega))]; first | assumption | (simp; done) | simp [go_sem, *]
    have _ : w1.frozen? ⟨w.heap.size + 1, 1, none⟩ = false := by rw [hf1 (w.heap.size + 1) 1 (by first | omega | (simp; done) | (simp; omega))]; first | assumption | (simp; done) | simp [go_sem, *]
    have _ : w1.cell? ⟨w.heap.size + 1, 2, none⟩ = some (.int .i64 0) := by rw [hc1 (w.heap.size + 1) 2 (by first | omega | (simp; done) | (simp; omega))]; first | assumption | (simp; done) | simp [go_sem, *]
    have _ : w1.frozen? ⟨w.heap.size + 1, 2, none⟩ = false := by rw [hf1 (w.heap.size + 1) 2 (by first | omega | (simp; done) | (simp; omega))]; first | assumption | (simp; done) | simp [go_sem, *]
    have _ : w1.cell? ⟨w.heap.size + 1, 3, none⟩ = some (.slice none 0 0) := by rw [hc1 (w.heap.size + 1) 3 (by first | omega | (simp; done) | (simp; omega))]; first | assumption | (simp; done) | simp [go_sem, *]
    have _ : w1.frozen? ⟨w.heap.size + 1, 3, none⟩ = false := by rw [hf1 (w.heap.size + 1) 3 (by first | omega | (simp; done) | (simp; omega))]; first | assumption | (simp; done) | simp [go_sem, *]
    clear hc1 hf1
    go_wp2_with (go_at_call 77; first | (refine (in_yes _ _ _ _ (by omega) (by omega)).mono ?_; rintro en wz ⟨rfl, rfl⟩) | (refine (in_no _ _ _ _ (by omega)).mono ?_; rintro en wz ⟨rfl, rfl⟩))
    exact bodyPost_ret (v := .tuple #[.agg #[.int .i64 0, .int .i64 0, .int .i64 0, .slice none 0 0], .bool false]) (by simp (maxDischargeDepth := 8) [results, Try.results20, go_sem, *]) rfl (ansN_no (by (repeat (first | exact Below.refl _ _ | (refine Below.setCell ?_ (by (first | exact Nat.le_refl _ | omega | (simp <;> omega) | simp)) _) | (refine Below.alloc ?_ (by (first | exact Nat.le_refl _ | omega | (simp <;> omega) | simp)) _) | (refine below_draws ?_ _) | exact B1 | (refine Below.trans ?_ (Below.mono B1 (by (first | exact Nat.le_refl _ | omega | (simp <;> omega) | simp))))))))
  rw [putR_yes hb hP]
  obtain ⟨hA, hE, hab, hx⟩ := hP
  obtain ⟨lo, hi, he⟩ := ends_of a b
  obtain ⟨m1, m2⟩ := ends_min he
  rw [m1, m2]
  have HE := Lib.hid he
  have hab' : (a == b) = false := by simpa using hab
  have hM : (dropZ (put3 ws lo hi x false)).length ≤ 1048580 := by
    have h1 : (dropZ (put3 ws lo hi x false)).length ≤ (put3 ws lo hi x false).length := List.length_filter_le _ _
    have h2 : (put3 ws lo hi x false).length ≤ ws.length + 1 := by unfold put3; rw [insW_length]; exact Nat.succ_le_succ (List.length_filter_le _ _)
    omega
  have hM3 : (put3 ws lo hi x false).length ≤ 1048580 := by unfold put3; rw [insW_length]; have := List.length_filter_le (fun e => !atEnds lo hi e) ws; unfold restW; omega
  generalize hMe : dropZ (put3 ws lo hi x false) = M at *
  have HME := Lib.hid hMe
  have HR := Lib.hid hr
  clear hMe hr he m1 m2 hb
  by_cases hb2 : netB n e s M = true
  · rw [withR_yes hb2]
    have HB := Lib.hid hb2; clear hb2
    go_enter Try.func20, Try.ntmps20
    go_wp2_with fail
    refine HOK.out.mono ?_
    rintro en w1 ⟨rfl, B1⟩
    obtain ⟨hc1, hf1⟩ := bcell B1
    have S1 := B1.size
    try simp at S1
    try (have _L1w : w.heap.size < w1.heap.size := by omega)
    have _M1w : w.heap.size ≤ w1.heap.size := by omega
    try (have _P1w_1 : w.heap.size + 1 < w1.heap.size := by omega)
    try (have _P1w_2 : w.heap.size + 1 + 1 < w1.heap.size := by omega)
    try (have _P1w_3 : w.heap.size + 1 + 1 + 1 < w1.heap.size := by omega)
    have _ : w1.cell? ⟨w.heap.size, 0, none⟩ = some (.int .i64 n) := by rw [hc1 (w.heap.size) 0 (by first | omega | (simp; done) | (simp; omega))]; first | assumption | (simp; done) | simp [go_sem, *]
    have _ : w1.frozen? ⟨w.heap.size, 0, none⟩ = false := by rw [hf1 (w.heap.size) 0 (by first | omega | (simp; done) | (simp; omega))]; first | assumption | (simp; done) | simp [go_sem, *]
    have _ : w1.cell? ⟨w.heap.size, 1, none⟩ = some (.int .i64 e) := by rw [hc1 (w.heap.size) 1 (by first | omega | (simp; done) | (simp; omega))]; first | assumption | (simp; done) | simp [go_sem, *]
    have _ : w1.frozen? ⟨w.heap.size, 1, none⟩ = false := by rw [hf1 (w.heap.size) 1 (by first | omega | (simp; done) | (simp; omega))]; first | assumption | (simp; done) | simp [go_sem, *]
    have _ : w1.cell? ⟨w.heap.size, 2, none⟩ = some (.int .i64 s) := by rw [hc1 (w.heap.size) 2 (by first | omega | (simp; done) | (simp; omega))]; first | assumption | (simp; done) | simp [go_sem, *]
    have _ : w1.frozen? ⟨w.heap.size, 2, none⟩ = false := by rw [hf1 (w.heap.size) 2 (by first | omega | (simp; done) | (simp; omega))]; first | assumption | (simp; done) | simp [go_sem, *]
    have _ : w1.cell? ⟨w.heap.size, 3, none⟩ = some (v) := by rw [hc1 (w.heap.size) 3 (by first | omega | (simp; done) | (simp; omega))]; first | assumption | (simp; done) | simp [go_sem, *]
    have _ : w1.frozen? ⟨w.heap.size, 3, none⟩ = false := by rw [hf1 (w.heap.size) 3 (by first | omega | (simp; done) | (simp; omega))]; first | assumption | (simp; done) | simp [go_sem, *]
    have _ : w1.cell? ⟨w.heap.size + 1, 0, none⟩ = some (.int .i64 0) := by rw [hc1 (w.heap.size + 1) 0 (by first | omega | (simp; done) | (simp; omega))]; first | assumption | (simp; done) | simp [go_sem, *]
    have _ : w1.frozen? ⟨w.heap.size + 1, 0, none⟩ = false := by rw [hf1 (w.heap.size + 1) 0 (by first | omega | (simp; done) | (simp; omega))]; first | assumption | (simp; done) | simp [go_sem, *]
    have _ : w1.cell? ⟨w.heap.size + 1, 1, none⟩ = some (.int .i64 0) := by rw [hc1 (w.heap.size + 1) 1 (by first | omega | (simp; done) | (simp; omega))]; first | assumption | (simp; done) | simp [go_sem, *]
    have _ : w1.frozen? ⟨w.heap.size + 1, 1, none⟩ = false := by rw [hf1 (w.heap.size + 1) 1 (by first | omega | (simp; done) | (simp; omega))]; first | assumption | (simp; done) | simp [go_sem, *]
    have _ : w1.cell? ⟨w.heap.size + 1, 2, none⟩ = some (.int .i64 0) := by rw [hc1 (w.heap.size + 1) 2 (by first | omega | (simp; done) | (simp; omega))]; first | assumption | (simp; done) | simp [go_sem, *]
    have _ : w1.frozen? ⟨w.heap.size + 1, 2, none⟩ = false := by rw [hf1 (w.heap.size + 1) 2 (by first | omega | (simp; done) | (simp; omega))]; first | assumption | (simp; done) | simp [go_sem, *]
    have _ : w1.cell? ⟨w.heap.size + 1, 3, none⟩ = some (.slice none 0 0) := by rw [hc1 (w.heap.size + 1) 3 (by first | omega | (simp; done) | (simp; omega))]; first | assumption | (simp; done) | simp [go_sem, *]
    have _ : w1.frozen? ⟨w.heap.size + 1, 3, none⟩ = false := by rw [hf1 (w.heap.size + 1) 3 (by first | omega | (simp; done) | (simp; omega))]; first | assumption | (simp; done) | simp [go_sem, *]
    clear hc1 hf1
    go_wp2_with (go_at_call 77; first | (refine (in_yes _ _ _ _ (by omega) (by omega)).mono ?_; rintro en wz ⟨rfl, rfl⟩) | (refine (in_no _ _ _ _ (by omega)).mono ?_; rintro en wz ⟨rfl, rfl⟩))
    refine (spec_put3 a b lo hi x false HE.out v ws _ (HR.out.later (by (repeat (first | exact Below.refl _ _ | (refine Below.setCell ?_ (by (first | exact Nat.le_refl _ | omega | (simp <;> omega) | simp)) _) | (refine Below.alloc ?_ (by (first | exact Nat.le_refl _ | omega | (simp <;> omega) | simp)) _) | (refine below_draws ?_ _) | exact B1 | (refine Below.trans ?_ (Below.mono B1 (by (first | exact Nat.le_refl _ | omega | (simp <;> omega) | simp)))))))) hlen).mono ?_
    rintro en w2 ⟨p2, c2, rfl, o2, B2⟩
    have hr2 := ReadsW.of_own o2
    clear o2
    obtain ⟨hc2, hf2⟩ := bcell B2
    have S2 := B2.size
    try simp at S2
    try (have _L2w : w.heap.size < w2.heap.size := by omega)
    have _M2w : w.heap.size ≤ w2.heap.size := by omega
    try (have _P2w_1 : w.heap.size + 1 < w2.heap.size := by omega)
    try (have _P2w_2 : w.heap.size + 1 + 1 < w2.heap.size := by omega)
    try (have _P2w_3 : w.heap.size + 1 + 1 + 1 < w2.heap.size := by omega)
    try (have _L2w1 : w1.heap.size < w2.heap.size := by omega)
    have _M2w1 : w1.heap.size ≤ w2.heap.size := by omega
    try (have _P2w1_1 : w1.heap.size + 1 < w2.heap.size := by omega)
    try (have _P2w1_2 : w1.heap.size + 1 + 1 < w2.heap.size := by omega)
    try (have _P2w1_3 : w1.heap.size + 1 + 1 + 1 < w2.heap.size := by omega)
    have _ : w2.cell? ⟨w.heap.size, 0, none⟩ = some (.int .i64 n) := by rw [hc2 (w.heap.size) 0 (by first | omega | (simp; done) | (simp; omega))]; first | assumption | (simp; done) | simp [go_sem, *]
    have _ : w2.frozen? ⟨w.heap.size, 0, none⟩ = false := by rw [hf2 (w.heap.size) 0 (by first | omega | (simp; done) | (simp; omega))]; first | assumption | (simp; done) | simp [go_sem, *]
    have _ : w2.cell? ⟨w.heap.size, 1, none⟩ = some (.int .i64 e) := by rw [hc2 (w.heap.size) 1 (by first | omega | (simp; done) | (simp; omega))]; first | assumption | (simp; done) | simp [go_sem, *]
    have _ : w2.frozen? ⟨w.heap.size, 1, none⟩ = false := by rw [hf2 (w.heap.size) 1 (by first | omega | (simp; done) | (simp; omega))]; first | assumption | (simp; done) | simp [go_sem, *]
    have _ : w2.cell? ⟨w.heap.size, 2, none⟩ = some (.int .i64 s) := by rw [hc2 (w.heap.size) 2 (by first | omega | (simp; done) | (simp; omega))]; first | assumption | (simp; done) | simp [go_sem, *]
    have _ : w2.frozen? ⟨w.heap.size, 2, none⟩ = false := by rw [hf2 (w.heap.size) 2 (by first | omega | (simp; done) | (simp; omega))]; first | assumption | (simp; done) | simp [go_sem, *]
    have _ : w2.cell? ⟨w.heap.size, 3, none⟩ = some (v) := by rw [hc2 (w.heap.size) 3 (by first | omega | (simp; done) | (simp; omega))]; first | assumption | (simp; done) | simp [go_sem, *]
    have _ : w2.frozen? ⟨w.heap.size, 3, none⟩ = false := by rw [hf2 (w.heap.size) 3 (by first | omega | (simp; done) | (simp; omega))]; first | assumption | (simp; done) | simp [go_sem, *]
    have _ : w2.cell? ⟨w.heap.size + 1, 0, none⟩ = some (.int .i64 0) := by rw [hc2 (w.heap.size + 1) 0 (by first | omega | (simp; done) | (simp; omega))]; first | assumption | (simp; done) | simp [go_sem, *]
    have _ : w2.frozen? ⟨w.heap.size + 1, 0, none⟩ = false := by rw [hf2 (w.heap.size + 1) 0 (by first | omega | (simp; done) | (simp; omega))]; first | assumption | (simp; done) | simp [go_sem, *]
    have _ : w2.cell? ⟨w.heap.size + 1, 1, none⟩ = some (.int .i64 0) := by rw [hc2 (w.heap.size + 1) 1 (by first | omega | (simp; done) | (simp; omega))]; first | assumption | (simp; done) | simp [go_sem, *]
    have _ : w2.frozen? ⟨w.heap.size + 1, 1, none⟩ = false := by rw [hf2 (w.heap.size + 1) 1 (by first | omega | (simp; done) | (simp; omega))]; first | assumption | (simp; done) | simp [go_sem, *]
    have _ : w2.cell? ⟨w.heap.size + 1, 2, none⟩ = some (.int .i64 0) := by rw [hc2 (w.heap.size + 1) 2 (by first | omega | (simp; done) | (simp; omega))]; first | assumption | (simp; done) | simp [go_sem, *]
    have _ : w2.frozen? ⟨w.heap.size + 1, 2, none⟩ = false := by rw [hf2 (w.heap.size + 1) 2 (by first | omega | (simp; done) | (simp; omega))]; first | assumption | (simp; done) | simp [go_sem, *]
    have _ : w2.cell? ⟨w.heap.size + 1, 3, none⟩ = some (.slice none 0 0) := by rw [hc2 (w.heap.size + 1) 3 (by first | omega | (simp; done) | (simp; omega))]; first | assumption | (simp; done) | simp [go_sem, *]
    have _ : w2.frozen? ⟨w.heap.size + 1, 3, none⟩ = false := by rw [hf2 (w.heap.size + 1) 3 (by first | omega | (simp; done) | (simp; omega))]; first | assumption | (simp; done) | simp [go_sem, *]
    clear hc2 hf2
    go_wp2_with fail
    refine (spec_drop _ _ _ hr2 hM3).mono ?_
    rintro en w3 ⟨p3, c3, rfl, o3, B3⟩
    rw [HME.out] at o3 ⊢
    clear hr2
    obtain ⟨hc3, hf3⟩ := bcell B3
    have S3 := B3.size
    try simp at S3
    try (have _L3w : w.heap.size < w3.heap.size := by omega)
    have _M3w : w.heap.size ≤ w3.heap.size := by omega
    try (have _P3w_1 : w.heap.size + 1 < w3.heap.size := by omega)
    try (have _P3w_2 : w.heap.size + 1 + 1 < w3.heap.size := by omega)
    try (have _P3w_3 : w.heap.size + 1 + 1 + 1 < w3.heap.size := by omega)
    try (have _L3w1 : w1.heap.size < w3.heap.size := by omega)
    have _M3w1 : w1.heap.size ≤ w3.heap.size := by omega
    try (have _P3w1_1 : w1.heap.size + 1 < w3.heap.size := by omega)
    try (have _P3w1_2 : w1.heap.size + 1 + 1 < w3.heap.size := by omega)
    try (have _P3w1_3 : w1.heap.size + 1 + 1 + 1 < w3.heap.size := by omega)
    try (have _L3w2 : w2.heap.size < w3.heap.size := by omega)
    have _M3w2 : w2.heap.size ≤ w3.heap.size := by omega
    try (have _P3w2_1 : w2.heap.size + 1 < w3.heap.size := by omega)
    try (have _P3w2_2 : w2.heap.size + 1 + 1 < w3.heap.size := by omega)
    try (have _P3w2_3 : w2.heap.size + 1 + 1 + 1 < w3.heap.size := by omega)
    have _ : w3.cell? ⟨w.heap.size, 0, none⟩ = some (.int .i64 n) := by rw [hc3 (w.heap.size) 0 (by first | omega | (simp; done) | (simp; omega))]; first | assumption | (simp; done) | simp [go_sem, *]
    have _ : w3.frozen? ⟨w.heap.size, 0, none⟩ = false := by rw [hf3 (w.heap.size) 0 (by first | omega | (simp; done) | (simp; omega))]; first | assumption | (simp; done) | simp [go_sem, *]
    have _ : w3.cell? ⟨w.heap.size, 1, none⟩ = some (.int .i64 e) := by rw [hc3 (w.heap.size) 1 (by first | omega | (simp; done) | (simp; omega))]; first | assumption | (simp; done) | simp [go_sem, *]
    have _ : w3.frozen? ⟨w.heap.size, 1, none⟩ = false := by rw [hf3 (w.heap.size) 1 (by first | omega | (simp; done) | (simp; omega))]; first | assumption | (simp; done) | simp [go_sem, *]
    have _ : w3.cell? ⟨w.heap.size, 2, none⟩ = some (.int .i64 s) := by rw [hc3 (w.heap.size) 2 (by first | omega | (simp; done) | (simp; omega))]; first | assumption | (simp; done) | simp [go_sem, *]
    have _ : w3.frozen? ⟨w.heap.size, 2, none⟩ = false := by rw [hf3 (w.heap.size) 2 (by first | omega | (simp; done) | (simp; omega))]; first | assumption | (simp; done) | simp [go_sem, *]
    have _ : w3.cell? ⟨w.heap.size, 3, none⟩ = some (v) := by rw [hc3 (w.heap.size) 3 (by first | omega | (simp; done) | (simp; omega))]; first | assumption | (simp; done) | simp [go_sem, *]
    have _ : w3.frozen? ⟨w.heap.size, 3, none⟩ = false := by rw [hf3 (w.heap.size) 3 (by first | omega | (simp; done) | (simp; omega))]; first | assumption | (simp; done) | simp [go_sem, *]
    have _ : w3.cell? ⟨w.heap.size + 1, 0, none⟩ = some (.int .i64 0) := by rw [hc3 (w.heap.size + 1) 0 (by first | omega | (simp; done) | (simp; omega))]; first | assumption | (simp; done) | simp [go_sem, *]
    have _ : w3.frozen? ⟨w.heap.size + 1, 0, none⟩ = false := by rw [hf3 (w.heap.size + 1) 0 (by first | omega | (simp; done) | (simp; omega))]; first | assumption | (simp; done) | simp [go_sem, *]
    have _ : w3.cell? ⟨w.heap.size + 1, 1, none⟩ = some (.int .i64 0) := by rw [hc3 (w.heap.size + 1) 1 (by first | omega | (simp; done) | (simp; omega))]; first | assumption | (simp; done) | simp [go_sem, *]
    have _ : w3.frozen? ⟨w.heap.size + 1, 1, none⟩ = false := by rw [hf3 (w.heap.size + 1) 1 (by first | omega | (simp; done) | (simp; omega))]; first | assumption | (simp; done) | simp [go_sem, *]
    have _ : w3.cell? ⟨w.heap.size + 1, 2, none⟩ = some (.int .i64 0) := by rw [hc3 (w.heap.size + 1) 2 (by first | omega | (simp; done) | (simp; omega))]; first | assumption | (simp; done) | simp [go_sem, *]
    have _ : w3.frozen? ⟨w.heap.size + 1, 2, none⟩ = false := by rw [hf3 (w.heap.size + 1) 2 (by first | omega | (simp; done) | (simp; omega))]; first | assumption | (simp; done) | simp [go_sem, *]
    have _ : w3.cell? ⟨w.heap.size + 1, 3, none⟩ = some (.slice none 0 0) := by rw [hc3 (w.heap.size + 1) 3 (by first | omega | (simp; done) | (simp; omega))]; first | assumption | (simp; done) | simp [go_sem, *]
    have _ : w3.frozen? ⟨w.heap.size + 1, 3, none⟩ = false := by rw [hf3 (w.heap.size + 1) 3 (by first | omega | (simp; done) | (simp; omega))]; first | assumption | (simp; done) | simp [go_sem, *]
    clear hc3 hf3
    have O3 : Hid (World.ownsRow (w3.setCell ⟨w.heap.size, 3, none⟩ (.slice p3 M.length c3)) w2.heap.size 107 3 (.slice p3 M.length c3) M.length (cellsW M)) := Lib.hid (by ((repeat (refine ownsRow_setCell_below ?_ ?_ _; rotate_left; focus (first | omega | (simp; done) | (simp; omega)))); with_reducible exact o3))
    have hok2 := spec_netOk n e s (.slice p3 M.length c3) M _ (ReadsW.of_own O3.out)
    rw [HB.out] at hok2
    have HOK2 := Lib.hid hok2; clear hok2 o3
    go_wp2_with fail
    refine HOK2.out.mono ?_
    rintro en w4 ⟨rfl, B4⟩
    obtain ⟨hc4, hf4⟩ := bcell B4
    have S4 := B4.size
    try simp at S4
    try (have _L4w : w.heap.size < w4.heap.size := by omega)
    have _M4w : w.heap.size ≤ w4.heap.size := by omega
    try (have _P4w_1 : w.heap.size + 1 < w4.heap.size := by omega)
    try (have _P4w_2 : w.heap.size + 1 + 1 < w4.heap.size := by omega)
    try (have _P4w_3 : w.heap.size + 1 + 1 + 1 < w4.heap.size := by omega)
    try (have _L4w1 : w1.heap.size < w4.heap.size := by omega)
    have _M4w1 : w1.heap.size ≤ w4.heap.size := by omega
    try (have _P4w1_1 : w1.heap.size + 1 < w4.heap.size := by omega)
    try (have _P4w1_2 : w1.heap.size + 1 + 1 < w4.heap.size := by omega)
    try (have _P4w1_3 : w1.heap.size + 1 + 1 + 1 < w4.heap.size := by omega)
    try (have _L4w2 : w2.heap.size < w4.heap.size := by omega)
    have _M4w2 : w2.heap.size ≤ w4.heap.size := by omega
    try (have _P4w2_1 : w2.heap.size + 1 < w4.heap.size := by omega)
    try (have _P4w2_2 : w2.heap.size + 1 + 1 < w4.heap.size := by omega)
    try (have _P4w2_3 : w2.heap.size + 1 + 1 + 1 < w4.heap.size := by omega)
    try (have _L4w3 : w3.heap.size < w4.heap.size := by omega)
    have _M4w3 : w3.heap.size ≤ w4.heap.size := by omega
    try (have _P4w3_1 : w3.heap.size + 1 < w4.heap.size := by omega)
    try (have _P4w3_2 : w3.heap.size + 1 + 1 < w4.heap.size := by omega)
    try (have _P4w3_3 : w3.heap.size + 1 + 1 + 1 < w4.heap.size := by omega)
    have _ : w4.cell? ⟨w.heap.size, 0, none⟩ = some (.int .i64 n) := by rw [hc4 (w.heap.size) 0 (by first | omega | (simp; done) | (simp; omega))]; first | assumption | (simp; done) | simp [go_sem, *]
    have _ : w4.frozen? ⟨w.heap.size, 0, none⟩ = false := by rw [hf4 (w.heap.size) 0 (by first | omega | (simp; done) | (simp; omega))]; first | assumption | (simp; done) | simp [go_sem, *]
    have _ : w4.cell? ⟨w.heap.size, 1, none⟩ = some (.int .i64 e) := by rw [hc4 (w.heap.size) 1 (by first | omega | (simp; done) | (simp; omega))]; first | assumption | (simp; done) | simp [go_sem, *]
    have _ : w4.frozen? ⟨w.heap.size, 1, none⟩ = false := by rw [hf4 (w.heap.size) 1 (by first | omega | (simp; done) | (simp; omega))]; first | assumption | (simp; done) | simp [go_sem, *]
    have _ : w4.cell? ⟨w.heap.size, 2, none⟩ = some (.int .i64 s) := by rw [hc4 (w.heap.size) 2 (by first | omega | (simp; done) | (simp; omega))]; first | assumption | (simp; done) | simp [go_sem, *]
    have _ : w4.frozen? ⟨w.heap.size, 2, none⟩ = false := by rw [hf4 (w.heap.size) 2 (by first | omega | (simp; done) | (simp; omega))]; first | assumption | (simp; done) | simp [go_sem, *]
    have _ : w4.cell? ⟨w.heap.size, 3, none⟩ = some (.slice p3 M.length c3) := by rw [hc4 (w.heap.size) 3 (by first | omega | (simp; done) | (simp; omega))]; first | assumption | (simp; done) | simp [go_sem, *]
    have _ : w4.frozen? ⟨w.heap.size, 3, none⟩ = false := by rw [hf4 (w.heap.size) 3 (by first | omega | (simp; done) | (simp; omega))]; first | assumption | (simp; done) | simp [go_sem, *]
    have _ : w4.cell? ⟨w.heap.size + 1, 0, none⟩ = some (.int .i64 0) := by rw [hc4 (w.heap.size + 1) 0 (by first | omega | (simp; done) | (simp; omega))]; first | assumption | (simp; done) | simp [go_sem, *]
    have _ : w4.frozen? ⟨w.heap.size + 1, 0, none⟩ = false := by rw [hf4 (w.heap.size + 1) 0 (by first | omega | (simp; done) | (simp; omega))]; first | assumption | (simp; done) | simp [go_sem, *]
    have _ : w4.cell? ⟨w.heap.size + 1, 1, none⟩ = some (.int .i64 0) := by rw [hc4 (w.heap.size + 1) 1 (by first | omega | (simp; done) | (simp; omega))]; first | assumption | (simp; done) | simp [go_sem, *]
    have _ : w4.frozen? ⟨w.heap.size + 1, 1, none⟩ = false := by rw [hf4 (w.heap.size + 1) 1 (by first | omega | (simp; done) | (simp; omega))]; first | assumption | (simp; done) | simp [go_sem, *]
    have _ : w4.cell? ⟨w.heap.size + 1, 2, none⟩ = some (.int .i64 0) := by rw [hc4 (w.heap.size + 1) 2 (by first | omega | (simp; done) | (simp; omega))]; first | assumption | (simp; done) | simp [go_sem, *]
    have _ : w4.frozen? ⟨w.heap.size + 1, 2, none⟩ = false := by rw [hf4 (w.heap.size + 1) 2 (by first | omega | (simp; done) | (simp; omega))]; first | assumption | (simp; done) | simp [go_sem, *]
    have _ : w4.cell? ⟨w.heap.size + 1, 3, none⟩ = some (.slice none 0 0) := by rw [hc4 (w.heap.size + 1) 3 (by first | omega | (simp; done) | (simp; omega))]; first | assumption | (simp; done) | simp [go_sem, *]
    have _ : w4.frozen? ⟨w.heap.size + 1, 3, none⟩ = false := by rw [hf4 (w.heap.size + 1) 3 (by first | omega | (simp; done) | (simp; omega))]; first | assumption | (simp; done) | simp [go_sem, *]
    clear hc4 hf4
    go_wp2
    exact bodyPost_ret (v := .tuple #[.agg #[.int .i64 n, .int .i64 e, .int .i64 s, .slice p3 M.length c3], .bool true]) (by simp (maxDischargeDepth := 8) [results, Try.results20, go_sem, *]) rfl ⟨p3, c3, rfl, by refine owns_mono (base := w2.heap.size) ?_ (by omega); have o1 := owns_later O3.out B4; ((repeat (refine ownsRow_setCell_below ?_ ?_ _; rotate_left; focus (first | omega | (simp; done) | (simp; omega)))); with_reducible exact o1), by (repeat (first | exact Below.refl _ _ | (refine Below.setCell ?_ (by (first | exact Nat.le_refl _ | omega | (simp <;> omega) | simp)) _) | (refine Below.alloc ?_ (by (first | exact Nat.le_refl _ | omega | (simp <;> omega) | simp)) _) | (refine below_draws ?_ _) | exact B1 | (refine Below.trans ?_ (Below.mono B1 (by (first | exact Nat.le_refl _ | omega | (simp <;> omega) | simp)))) | exact B2 | (refine Below.trans ?_ (Below.mono B2 (by (first | exact Nat.le_refl _ | omega | (simp <;> omega) | simp)))) | exact B3 | (refine Below.trans ?_ (Below.mono B3 (by (first | exact Nat.le_refl _ | omega | (simp <;> omega) | simp)))) | exact B4 | (refine Below.trans ?_ (Below.mono B4 (by (first | exact Nat.le_refl _ | omega | (simp <;> omega) | simp))))))⟩
  · have hb2 : netB n e s M = false := by simpa using hb2
    rw [withR_no hb2]
    have HB := Lib.hid hb2; clear hb2
    go_enter Try.func20, Try.ntmps20
    go_wp2_with fail
    refine HOK.out.mono ?_
    rintro en w1 ⟨rfl, B1⟩
    obtain ⟨hc1, hf1⟩ := bcell B1
    have S1 := B1.size
    try simp at S1
    try (have _L1w : w.heap.size < w1.heap.size := by omega)
    have _M1w : w.heap.size ≤ w1.heap.size := by omega
    try (have _P1w_1 : w.heap.size + 1 < w1.heap.size := by omega)
    try (have _P1w_2 : w.heap.size + 1 + 1 < w1.heap.size := by omega)
    try (have _P1w_3 : w.heap.size + 1 + 1 + 1 < w1.heap.size := by omega)
    have _ : w1.cell? ⟨w.heap.size, 0, none⟩ = some (.int .i64 n) := by rw [hc1 (w.heap.size) 0 (by first | omega | (simp; done) | (simp; omega))]; first | assumption | (simp; done) | simp [go_sem, *]
    have _ : w1.frozen? ⟨w.heap.size, 0, none⟩ = false := by rw [hf1 (w.heap.size) 0 (by first | omega | (simp; done) | (simp; omega))]; first | assumption | (simp; done) | simp [go_sem, *]
    have _ : w1.cell? ⟨w.heap.size, 1, none⟩ = some (.int .i64 e) := by rw [hc1 (w.heap.size) 1 (by first | omega | (simp; done) | (simp; omega))]; first | assumption | (simp; done) | simp [go_sem, *]
    have _ : w1.frozen? ⟨w.heap.size, 1, none⟩ = false := by rw [hf1 (w.heap.size) 1 (by first | omega | (simp; done) | (simp; omega))]; first | assumption | (simp; done) | simp [go_sem, *]
    have _ : w1.cell? ⟨w.heap.size, 2, none⟩ = some (.int .i64 s) := by rw [hc1 (w.heap.size) 2 (by first | omega | (simp; done) | (simp; omega))]; first | assumption | (simp; done) | simp [go_sem, *]
    have _ : w1.frozen? ⟨w.heap.size, 2, none⟩ = false := by rw [hf1 (w.heap.size) 2 (by first | omega | (simp; done) | (simp; omega))]; first | assumption | (simp; done) | simp [go_sem, *]
    have _ : w1.cell? ⟨w.heap.size, 3, none⟩ = some (v) := by rw [hc1 (w.heap.size) 3 (by first | omega | (simp; done) | (simp; omega))]; first | assumption | (simp; done) | simp [go_sem, *]
    have _ : w1.frozen? ⟨w.heap.size, 3, none⟩ = false := by rw [hf1 (w.heap.size) 3 (by first | omega | (simp; done) | (simp; omega))]; first | assumption | (simp; done) | simp [go_sem, *]
    have _ : w1.cell? ⟨w.heap.size + 1, 0, none⟩ = some (.int .i64 0) := by rw [hc1 (w.heap.size + 1) 0 (by first | omega | (simp; done) | (simp; omega))]; first | assumption | (simp; done) | simp [go_sem, *]
    have _ : w1.frozen? ⟨w.heap.size + 1, 0, none⟩ = false := by rw [hf1 (w.heap.size + 1) 0 (by first | omega | (simp; done) | (simp; omega))]; first | assumption | (simp; done) | simp [go_sem, *]
    have _ : w1.cell? ⟨w.heap.size + 1, 1, none⟩ = some (.int .i64 0) := by rw [hc1 (w.heap.size + 1) 1 (by first | omega | (simp; done) | (simp; omega))]; first | assumption | (simp; done) | simp [go_sem, *]
    have _ : w1.frozen? ⟨w.heap.size + 1, 1, none⟩ = false := by rw [hf1 (w.heap.size + 1) 1 (by first | omega | (simp; done) | (simp; omega))]; first | assumption | (simp; done) | simp [go_sem, *]
    have _ : w1.cell? ⟨w.heap.size + 1, 2, none⟩ = some (.int .i64 0) := by rw [hc1 (w.heap.size + 1) 2 (by first | omega | (simp; done) | (simp; omega))]; first | assumption | (simp; done) | simp [go_sem, *]
    have _ : w1.frozen? ⟨w.heap.size + 1, 2, none⟩ = false := by rw [hf1 (w.heap.size + 1) 2 (by first | omega | (simp; done) | (simp; omega))]; first | assumption | (simp; done) | simp [go_sem, *]
    have _ : w1.cell? ⟨w.heap.size + 1, 3, none⟩ = some (.slice none 0 0) := by rw [hc1 (w.heap.size + 1) 3 (by first | omega | (simp; done) | (simp; omega))]; first | assumption | (simp; done) | simp [go_sem, *]
    have _ : w1.frozen? ⟨w.heap.size + 1, 3, none⟩ = false := by rw [hf1 (w.heap.size + 1) 3 (by first | omega | (simp; done) | (simp; omega))]; first | assumption | (simp; done) | simp [go_sem, *]
    clear hc1 hf1
    go_wp2_with (go_at_call 77; first | (refine (in_yes _ _ _ _ (by omega) (by omega)).mono ?_; rintro en wz ⟨rfl, rfl⟩) | (refine (in_no _ _ _ _ (by omega)).mono ?_; rintro en wz ⟨rfl, rfl⟩))
    refine (spec_put3 a b lo hi x false HE.out v ws _ (HR.out.later (by (repeat (first | exact Below.refl _ _ | (refine Below.setCell ?_ (by (first | exact Nat.le_refl _ | omega | (simp <;> omega) | simp)) _) | (refine Below.alloc ?_ (by (first | exact Nat.le_refl _ | omega | (simp <;> omega) | simp)) _) | (refine below_draws ?_ _) | exact B1 | (refine Below.trans ?_ (Below.mono B1 (by (first | exact Nat.le_refl _ | omega | (simp <;> omega) | simp)))))))) hlen).mono ?_
    rintro en w2 ⟨p2, c2, rfl, o2, B2⟩
    have hr2 := ReadsW.of_own o2
    clear o2
    obtain ⟨hc2, hf2⟩ := bcell B2
    have S2 := B2.size
    try simp at S2
    try (have _L2w : w.heap.size < w2.heap.size := by omega)
    have _M2w : w.heap.size ≤ w2.heap.size := by omega
    try (have _P2w_1 : w.heap.size + 1 < w2.heap.size := by omega)
    try (have _P2w_2 : w.heap.size + 1 + 1 < w2.heap.size := by omega)
    try (have _P2w_3 : w.heap.size + 1 + 1 + 1 < w2.heap.size := by omega)
    try (have _L2w1 : w1.heap.size < w2.heap.size := by omega)
    have _M2w1 : w1.heap.size ≤ w2.heap.size := by omega
    try (have _P2w1_1 : w1.heap.size + 1 < w2.heap.size := by omega)
    try (have _P2w1_2 : w1.heap.size + 1 + 1 < w2.heap.size := by omega)
    try (have _P2w1_3 : w1.heap.size + 1 + 1 + 1 < w2.heap.size := by omega)
    have _ : w2.cell? ⟨w.heap.size, 0, none⟩ = some (.int .i64 n) := by rw [hc2 (w.heap.size) 0 (by first | omega | (simp; done) | (simp; omega))]; first | assumption | (simp; done) | simp [go_sem, *]
    have _ : w2.frozen? ⟨w.heap.size, 0, none⟩ = false := by rw [hf2 (w.heap.size) 0 (by first | omega | (simp; done) | (simp; omega))]; first | assumption | (simp; done) | simp [go_sem, *]
    have _ : w2.cell? ⟨w.heap.size, 1, none⟩ = some (.int .i64 e) := by rw [hc2 (w.heap.size) 1 (by first | omega | (simp; done) | (simp; omega))]; first | assumption | (simp; done) | simp [go_sem, *]
    have _ : w2.frozen? ⟨w.heap.size, 1, none⟩ = false := by rw [hf2 (w.heap.size) 1 (by first | omega | (simp; done) | (simp; omega))]; first | assumption | (simp; done) | simp [go_sem, *]
    have _ : w2.cell? ⟨w.heap.size, 2, none⟩ = some (.int .i64 s) := by rw [hc2 (w.heap.size) 2 (by first | omega | (simp; done) | (simp; omega))]; first | assumption | (simp; done) | simp [go_sem, *]
    have _ : w2.frozen? ⟨w.heap.size, 2, none⟩ = false := by rw [hf2 (w.heap.size) 2 (by first | omega | (simp; done) | (simp; omega))]; first | assumption | (simp; done) | simp [go_sem, *]
    have _ : w2.cell? ⟨w.heap.size, 3, none⟩ = some (v) := by rw [hc2 (w.heap.size) 3 (by first | omega | (simp; done) | (simp; omega))]; first | assumption | (simp; done) | simp [go_sem, *]
    have _ : w2.frozen? ⟨w.heap.size, 3, none⟩ = false := by rw [hf2 (w.heap.size) 3 (by first | omega | (simp; done) | (simp; omega))]; first | assumption | (simp; done) | simp [go_sem, *]
    have _ : w2.cell? ⟨w.heap.size + 1, 0, none⟩ = some (.int .i64 0) := by rw [hc2 (w.heap.size + 1) 0 (by first | omega | (simp; done) | (simp; omega))]; first | assumption | (simp; done) | simp [go_sem, *]
    have _ : w2.frozen? ⟨w.heap.size + 1, 0, none⟩ = false := by rw [hf2 (w.heap.size + 1) 0 (by first | omega | (simp; done) | (simp; omega))]; first | assumption | (simp; done) | simp [go_sem, *]
    have _ : w2.cell? ⟨w.heap.size + 1, 1, none⟩ = some (.int .i64 0) := by rw [hc2 (w.heap.size + 1) 1 (by first | omega | (simp; done) | (simp; omega))]; first | assumption | (simp; done) | simp [go_sem, *]
    have _ : w2.frozen? ⟨w.heap.size + 1, 1, none⟩ = false := by rw [hf2 (w.heap.size + 1) 1 (by first | omega | (simp; done) | (simp; omega))]; first | assumption | (simp; done) | simp [go_sem, *]
    have _ : w2.cell? ⟨w.heap.size + 1, 2, none⟩ = some (.int .i64 0) := by rw [hc2 (w.heap.size + 1) 2 (by first | omega | (simp; done) | (simp; omega))]; first | assumption | (simp; done) | simp [go_sem, *]
    have _ : w2.frozen? ⟨w.heap.size + 1, 2, none⟩ = false := by rw [hf2 (w.heap.size + 1) 2 (by first | omega | (simp; done) | (simp; omega))]; first | assumption | (simp; done) | simp [go_sem, *]
    have _ : w2.cell? ⟨w.heap.size + 1, 3, none⟩ = some (.slice none 0 0) := by rw [hc2 (w.heap.size + 1) 3 (by first | omega | (simp; done) | (simp; omega))]; first | assumption | (simp; done) | simp [go_sem, *]
    have _ : w2.frozen? ⟨w.heap.size + 1, 3, none⟩ = false := by rw [hf2 (w.heap.size + 1) 3 (by first | omega | (simp; done) | (simp; omega))]; first | assumption | (simp; done) | simp [go_sem, *]
    clear hc2 hf2
    go_wp2_with fail
    refine (spec_drop _ _ _ hr2 hM3).mono ?_
    rintro en w3 ⟨p3, c3, rfl, o3, B3⟩
    rw [HME.out] at o3 ⊢
    clear hr2
    obtain ⟨hc3, hf3⟩ := bcell B3
    have S3 := B3.size
    try simp at S3
    try (have _L3w : w.heap.size < w3.heap.size := by omega)
    have _M3w : w.heap.size ≤ w3.heap.size := by omega
    try (have _P3w_1 : w.heap.size + 1 < w3.heap.size := by omega)
    try (have _P3w_2 : w.heap.size + 1 + 1 < w3.heap.size := by omega)
    try (have _P3w_3 : w.heap.size + 1 + 1 + 1 < w3.heap.size := by omega)
    try (have _L3w1 : w1.heap.size < w3.heap.size := by omega)
    have _M3w1 : w1.heap.size ≤ w3.heap.size := by omega
    try (have _P3w1_1 : w1.heap.size + 1 < w3.heap.size := by omega)
    try (have _P3w1_2 : w1.heap.size + 1 + 1 < w3.heap.size := by omega)
    try (have _P3w1_3 : w1.heap.size + 1 + 1 + 1 < w3.heap.size := by omega)
    try (have _L3w2 : w2.heap.size < w3.heap.size := by omega)
    have _M3w2 : w2.heap.size ≤ w3.heap.size := by omega
    try (have _P3w2_1 : w2.heap.size + 1 < w3.heap.size := by omega)
    try (have _P3w2_2 : w2.heap.size + 1 + 1 < w3.heap.size := by omega)
    try (have _P3w2_3 : w2.heap.size + 1 + 1 + 1 < w3.heap.size := by omega)
    have _ : w3.cell? ⟨w.heap.size, 0, none⟩ = some (.int .i64 n) := by rw [hc3 (w.heap.size) 0 (by first | omega | (simp; done) | (simp; omega))]; first | assumption | (simp; done) | simp [go_sem, *]
    have _ : w3.frozen? ⟨w.heap.size, 0, none⟩ = false := by rw [hf3 (w.heap.size) 0 (by first | omega | (simp; done) | (simp; omega))]; first | assumption | (simp; done) | simp [go_sem, *]
    have _ : w3.cell? ⟨w.heap.size, 1, none⟩ = some (.int .i64 e) := by rw [hc3 (w.heap.size) 1 (by first | omega | (simp; done) | (simp; omega))]; first | assumption | (simp; done) | simp [go_sem, *]
    have _ : w3.frozen? ⟨w.heap.size, 1, none⟩ = false := by rw [hf3 (w.heap.size) 1 (by first | omega | (simp; done) | (simp; omega))]; first | assumption | (simp; done) | simp [go_sem, *]
    have _ : w3.cell? ⟨w.heap.size, 2, none⟩ = some (.int .i64 s) := by rw [hc3 (w.heap.size) 2 (by first | omega | (simp; done) | (simp; omega))]; first | assumption | (simp; done) | simp [go_sem, *]
    have _ : w3.frozen? ⟨w.heap.size, 2, none⟩ = false := by rw [hf3 (w.heap.size) 2 (by first | omega | (simp; done) | (simp; omega))]; first | assumption | (simp; done) | simp [go_sem, *]
    have _ : w3.cell? ⟨w.heap.size, 3, none⟩ = some (v) := by rw [hc3 (w.heap.size) 3 (by first | omega | (simp; done) | (simp; omega))]; first | assumption | (simp; done) | simp [go_sem, *]
    have _ : w3.frozen? ⟨w.heap.size, 3, none⟩ = false := by rw [hf3 (w.heap.size) 3 (by first | omega | (simp; done) | (simp; omega))]; first | assumption | (simp; done) | simp [go_sem, *]
    have _ : w3.cell? ⟨w.heap.size + 1, 0, none⟩ = some (.int .i64 0) := by rw [hc3 (w.heap.size + 1) 0 (by first | omega | (simp; done) | (simp; omega))]; first | assumption | (simp; done) | simp [go_sem, *]
    have _ : w3.frozen? ⟨w.heap.size + 1, 0, none⟩ = false := by rw [hf3 (w.heap.size + 1) 0 (by first | omega | (simp; done) | (simp; omega))]; first | assumption | (simp; done) | simp [go_sem, *]
    have _ : w3.cell? ⟨w.heap.size + 1, 1, none⟩ = some (.int .i64 0) := by rw [hc3 (w.heap.size + 1) 1 (by first | omega | (simp; done) | (simp; omega))]; first | assumption | (simp; done) | simp [go_sem, *]
    have _ : w3.frozen? ⟨w.heap.size + 1, 1, none⟩ = false := by rw [hf3 (w.heap.size + 1) 1 (by first | omega | (simp; done) | (simp; omega))]; first | assumption | (simp; done) | simp [go_sem, *]
    have _ : w3.cell? ⟨w.heap.size + 1, 2, none⟩ = some (.int .i64 0) := by rw [hc3 (w.heap.size + 1) 2 (by first | omega | (simp; done) | (simp; omega))]; first | assumption | (simp; done) | simp [go_sem, *]
    have _ : w3.frozen? ⟨w.heap.size + 1, 2, none⟩ = false := by rw [hf3 (w.heap.size + 1) 2 (by first | omega | (simp; done) | (simp; omega))]; first | assumption | (simp; done) | simp [go_sem, *]
    have _ : w3.cell? ⟨w.heap.size + 1, 3, none⟩ = some (.slice none 0 0) := by rw [hc3 (w.heap.size + 1) 3 (by first | omega | (simp; done) | (simp; omega))]; first | assumption | (simp; done) | simp [go_sem, *]
    have _ : w3.frozen? ⟨w.heap.size + 1, 3, none⟩ = false := by rw [hf3 (w.heap.size + 1) 3 (by first | omega | (simp; done) | (simp; omega))]; first | assumption | (simp; done) | simp [go_sem, *]
    clear hc3 hf3
    have O3 : Hid (World.ownsRow (w3.setCell ⟨w.heap.size, 3, none⟩ (.slice p3 M.length c3)) w2.heap.size 107 3 (.slice p3 M.length c3) M.length (cellsW M)) := Lib.hid (by ((repeat (refine ownsRow_setCell_below ?_ ?_ _; rotate_left; focus (first | omega | (simp; done) | (simp; omega)))); with_reducible exact o3))
    have hok2 := spec_netOk n e s (.slice p3 M.length c3) M _ (ReadsW.of_own O3.out)
    rw [HB.out] at hok2
    have HOK2 := Lib.hid hok2; clear hok2 o3
    go_wp2_with fail
    refine HOK2.out.mono ?_
    rintro en w4 ⟨rfl, B4⟩
    obtain ⟨hc4, hf4⟩ := bcell B4
    have S4 := B4.size
    try simp at S4
    try (have _L4w : w.heap.size < w4.heap.size := by omega)
    have _M4w : w.heap.size ≤ w4.heap.size := by omega
    try (have _P4w_1 : w.heap.size + 1 < w4.heap.size := by omega)
    try (have _P4w_2 : w.heap.size + 1 + 1 < w4.heap.size := by omega)
    try (have _P4w_3 : w.heap.size + 1 + 1 + 1 < w4.heap.size := by omega)
    try (have _L4w1 : w1.heap.size < w4.heap.size := by omega)
    have _M4w1 : w1.heap.size ≤ w4.heap.size := by omega
    try (have _P4w1_1 : w1.heap.size + 1 < w4.heap.size := by omega)
    try (have _P4w1_2 : w1.heap.size + 1 + 1 < w4.heap.size := by omega)
    try (have _P4w1_3 : w1.heap.size + 1 + 1 + 1 < w4.heap.size := by omega)
    try (have _L4w2 : w2.heap.size < w4.heap.size := by omega)
    have _M4w2 : w2.heap.size ≤ w4.heap.size := by omega
    try (have _P4w2_1 : w2.heap.size + 1 < w4.heap.size := by omega)
    try (have _P4w2_2 : w2.heap.size + 1 + 1 < w4.heap.size := by omega)
    try (have _P4w2_3 : w2.heap.size + 1 + 1 + 1 < w4.heap.size := by omega)
    try (have _L4w3 : w3.heap.size < w4.heap.size := by omega)
    have _M4w3 : w3.heap.size ≤ w4.heap.size := by omega
    try (have _P4w3_1 : w3.heap.size + 1 < w4.heap.size := by omega)
    try (have _P4w3_2 : w3.heap.size + 1 + 1 < w4.heap.size := by omega)
    try (have _P4w3_3 : w3.heap.size + 1 + 1 + 1 < w4.heap.size := by omega)
    have _ : w4.cell? ⟨w.heap.size + 1, 0, none⟩ = some (.int .i64 0) := by rw [hc4 (w.heap.size + 1) 0 (by first | omega | (simp; done) | (simp; omega))]; first | assumption | (simp; done) | simp [go_sem, *]
    have _ : w4.frozen? ⟨w.heap.size + 1, 0, none⟩ = false := by rw [hf4 (w.heap.size + 1) 0 (by first | omega | (simp; done) | (simp; omega))]; first | assumption | (simp; done) | simp [go_sem, *]
    have _ : w4.cell? ⟨w.heap.size + 1, 1, none⟩ = some (.int .i64 0) := by rw [hc4 (w.heap.size + 1) 1 (by first | omega | (simp; done) | (simp; omega))]; first | assumption | (simp; done) | simp [go_sem, *]
    have _ : w4.frozen? ⟨w.heap.size + 1, 1, none⟩ = false := by rw [hf4 (w.heap.size + 1) 1 (by first | omega | (simp; done) | (simp; omega))]; first | assumption | (simp; done) | simp [go_sem, *]
    have _ : w4.cell? ⟨w.heap.size + 1, 2, none⟩ = some (.int .i64 0) := by rw [hc4 (w.heap.size + 1) 2 (by first | omega | (simp; done) | (simp; omega))]; first | assumption | (simp; done) | simp [go_sem, *]
    have _ : w4.frozen? ⟨w.heap.size + 1, 2, none⟩ = false := by rw [hf4 (w.heap.size + 1) 2 (by first | omega | (simp; done) | (simp; omega))]; first | assumption | (simp; done) | simp [go_sem, *]
    have _ : w4.cell? ⟨w.heap.size + 1, 3, none⟩ = some (.slice none 0 0) := by rw [hc4 (w.heap.size + 1) 3 (by first | omega | (simp; done) | (simp; omega))]; first | assumption | (simp; done) | simp [go_sem, *]
    have _ : w4.frozen? ⟨w.heap.size + 1, 3, none⟩ = false := by rw [hf4 (w.heap.size + 1) 3 (by first | omega | (simp; done) | (simp; omega))]; first | assumption | (simp; done) | simp [go_sem, *]
    clear hc4 hf4
    go_wp2
    exact bodyPost_ret (v := .tuple #[.agg #[.int .i64 0, .int .i64 0, .int .i64 0, .slice none 0 0], .bool false]) (by simp (maxDischargeDepth := 8) [results, Try.results20, go_sem, *]) rfl (ansN_no (by (repeat (first | exact Below.refl _ _ | (refine Below.setCell ?_ (by (first | exact Nat.le_refl _ | omega | (simp <;> omega) | simp)) _) | (refine Below.alloc ?_ (by (first | exact Nat.le_refl _ | omega | (simp <;> omega) | simp)) _) | (refine below_draws ?_ _) | exact B1 | (refine Below.trans ?_ (Below.mono B1 (by (first | exact Nat.le_refl _ | omega | (simp <;> omega) | simp)))) | exact B2 | (refine Below.trans ?_ (Below.mono B2 (by (first | exact Nat.le_refl _ | omega | (simp <;> omega) | simp)))) | exact B3 | (refine Below.trans ?_ (Below.mono B3 (by (first | exact Nat.le_refl _ | omega | (simp <;> omega) | simp)))) | exact B4 | (refine Below.trans ?_ (Below.mono B4 (by (first | exact Nat.le_refl _ | omega | (simp <;> omega) | simp))))))))
end Go.Proofs.Ytpfnlnllaapjeaa
