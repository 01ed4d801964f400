/-
  BoundsOk, in the model and in the program.
-/
import Derived.Test.YtaececpphdaciaaGLap
import Derived.Test.YtaececpphdaciaaGKir
import Derived.Test.YtaececpphdaciaaGLists
namespace Go.Proofs.Ytaececpphdaciaa
open Go.RowKit

/-- The bounds of the k-th wire. -/
def bndV (ws : List W3) (lo hi : List Int) (k : Nat) : Prop := ∃ (h : k < ws.length) (h1 : k < lo.length) (h2 : k < hi.length), 1 ≤ lo[k] ∧ lo[k] ≤ ws[k].2.2 ∧ ws[k].2.2 ≤ hi[k] ∧ hi[k] ≤ 200
/-- Whether the bounds are good. -/
noncomputable def bndB (n e s : Int) (ws : List W3) (lo hi : List Int) : Bool := by
  classical exact netB n e s ws && decide (lo.length = ws.length ∧ hi.length = ws.length ∧ ∀ k, k < ws.length → bndV ws lo hi k)
theorem bndB_net {n e s : Int} {ws : List W3} {lo hi : List Int} (h : netB n e s ws = false) : bndB n e s ws lo hi = false := by simp [bndB, h]
theorem bndB_no {n e s : Int} {ws : List W3} {lo hi : List Int} (h : ¬ (lo.length = ws.length ∧ hi.length = ws.length ∧ ∀ k, k < ws.length → bndV ws lo hi k)) : bndB n e s ws lo hi = false := by simp only [bndB, h, decide_false, Bool.and_false]
theorem bndB_yes {n e s : Int} {ws : List W3} {lo hi : List Int} (hb : netB n e s ws = true) (h : lo.length = ws.length ∧ hi.length = ws.length ∧ ∀ k, k < ws.length → bndV ws lo hi k) : bndB n e s ws lo hi = true := by simp only [bndB, h, hb, Bool.true_and, decide_eq_true_eq]; exact ⟨trivial, trivial, h.2.2⟩
theorem bndB_iff {n e s : Int} {ws : List W3} {lo hi : List Int} : bndB n e s ws lo hi = true ↔ netB n e s ws = true ∧ lo.length = ws.length ∧ hi.length = ws.length ∧ ∀ k, k < ws.length → bndV ws lo hi k := by simp only [bndB, Bool.and_eq_true, decide_eq_true_eq]
/-- Where the walk over the wires ends. -/
theorem bnd_end (n e s : Int) (ws : List W3) (lo hi : List Int) (hb : netB n e s ws = true) (h1 : lo.length = ws.length) (h2 : hi.length = ws.length) : ∃ K, K ≤ ws.length ∧ (∀ j, j < K → bndV ws lo hi j) ∧ ((K = ws.length ∧ bndB n e s ws lo hi = true) ∨ (K < ws.length ∧ ¬ bndV ws lo hi K ∧ bndB n e s ws lo hi = false)) := by
  by_cases h : ∀ k, k < ws.length → bndV ws lo hi k
  · exact ⟨ws.length, Nat.le_refl _, h, .inl ⟨rfl, bndB_yes hb ⟨h1, h2, h⟩⟩⟩
  · obtain ⟨k, hk⟩ := Classical.not_forall.1 h
    obtain ⟨hk1, hk2⟩ := Classical.not_imp.1 hk
    obtain ⟨j, ⟨hj1, hj2⟩, hm⟩ := least (fun k => k < ws.length ∧ ¬ bndV ws lo hi k) k ⟨hk1, hk2⟩
    refine ⟨j, by omega, fun i hi => Classical.byContradiction fun hx => hm i hi ⟨by omega, hx⟩, .inr ⟨hj1, hj2, bndB_no fun hh => h hh.2.2⟩⟩
set_option maxHeartbeats 12800000 in
set_option maxRecDepth 8000 in
theorem spec_bounds (n e s : Int) (v vl vh : Value) (ws : List W3) (lo hi : List Int) (w : World) (hr : ReadsW w v ws) (hl : ReadsI w vl lo) (hh : ReadsI w vh hi) :
    Calls Try.prog 42 #[.agg #[.int .i64 n, .int .i64 e, .int .i64 s, v], vl, vh] w fun en w' => en = .returned (.bool (bndB n e s ws lo hi)) ∧ Below w.heap.size w w' := by
  have B0 : Below w.heap.size w (w.alloc (.cells #[.int .i64 n, .int .i64 e, .int .i64 s, v] 25)) := by (repeat (first | exact Below.refl _ _ | (refine Below.setCell ?_ (by (first | exact Nat.le_refl _ | omega | (simp <;> omega) | simp)) _) | (refine Below.alloc ?_ (by (first | exact Nat.le_refl _ | omega | (simp <;> omega) | simp)) _) | (refine below_draws ?_ _)))
  have hok := spec_netOk n e s v ws _ (hr.later B0)
  obtain ⟨p, cap, rfl⟩ := hr.shape
  obtain ⟨pl, cl, rfl, l1, l2⟩ := hl.shape
  obtain ⟨ph, ch, rfl, g1, g2⟩ := hh.shape
  obtain ⟨hm, hr1⟩ := id hr
  cases hb : netB n e s ws
  case false =>
    have HF : Hid (false = bndB n e s ws lo hi) := Lib.hid (bndB_net hb).symm
    clear hr hl hh hr1
    go_enter Try.func42, Try.ntmps42
    go_wp2_with fail
    refine hok.mono ?_
    rintro en w1 ⟨rfl, B1⟩
    obtain ⟨hc1, hf1⟩ := bcell B1
    have S1 := B1.size
    try simp at S1
    try (have _L1w : w.heap.size < w1.heap.size := by omega)
    have _M1w : w.heap.size ≤ w1.heap.size := by omega
    try (have _P1w_1 : w.heap.size + 1 < w1.heap.size := by omega)
    try (have _P1w_2 : w.heap.size + 1 + 1 < w1.heap.size := by omega)
    try (have _P1w_3 : w.heap.size + 1 + 1 + 1 < w1.heap.size := by omega)
    have _ : w1.cell? ⟨w.heap.size, 0, none⟩ = some (.int .i64 n) := by rw [hc1 (w.heap.size) 0 (by first | omega | (simp; done) | (simp; omega))]; first | assumption | (simp; done) | simp [go_sem, *]
    have _ : w1.frozen? ⟨w.heap.size, 0, none⟩ = false := by rw [hf1 (w.heap.size) 0 (by first | omega | (simp; done) | (simp; omega))]; first | assumption | (simp; done) | simp [go_sem, *]
    have _ : w1.cell? ⟨w.heap.size, 1, none⟩ = some (.int .i64 e) := by rw [hc1 (w.heap.size) 1 (by first | omega | (simp; done) | (simp; omega))]; first | assumption | (simp; done) | simp [go_sem, *]
    have _ : w1.frozen? ⟨w.heap.size, 1, none⟩ = false := by rw [hf1 (w.heap.size) 1 (by first | omega | (simp; done) | (simp; omega))]; first | assumption | (simp; done) | simp [go_sem, *]
    have _ : w1.cell? ⟨w.heap.size, 2, none⟩ = some (.int .i64 s) := by rw [hc1 (w.heap.size) 2 (by first | omega | (simp; done) | (simp; omega))]; first | assumption | (simp; done) | simp [go_sem, *]
    have _ : w1.frozen? ⟨w.heap.size, 2, none⟩ = false := by rw [hf1 (w.heap.size) 2 (by first | omega | (simp; done) | (simp; omega))]; first | assumption | (simp; done) | simp [go_sem, *]
    have _ : w1.cell? ⟨w.heap.size, 3, none⟩ = some (.slice p ws.length cap) := by rw [hc1 (w.heap.size) 3 (by first | omega | (simp; done) | (simp; omega))]; first | assumption | (simp; done) | simp [go_sem, *]
    have _ : w1.frozen? ⟨w.heap.size, 3, none⟩ = false := by rw [hf1 (w.heap.size) 3 (by first | omega | (simp; done) | (simp; omega))]; first | assumption | (simp; done) | simp [go_sem, *]
    clear hc1 hf1
    rw [hb]
    go_wp2
    go_ret
    exact ⟨ret_b HF.out, by (repeat (first | exact Below.refl _ _ | (refine Below.setCell ?_ (by (first | exact Nat.le_refl _ | omega | (simp <;> omega) | simp)) _) | (refine Below.alloc ?_ (by (first | exact Nat.le_refl _ | omega | (simp <;> omega) | simp)) _) | (refine below_draws ?_ _) | exact B1 | (refine Below.trans ?_ (Below.mono B1 (by (first | exact Nat.le_refl _ | omega | (simp <;> omega) | simp))))))⟩
  by_cases e1 : lo.length = ws.length
  case neg =>
    have HF : Hid (false = bndB n e s ws lo hi) := Lib.hid (bndB_no fun h => e1 h.1).symm
    have e2 : ¬ (lo.length : Int) = (ws.length : Int) := by omega
    clear hr hl hh hr1 e1
    go_enter Try.func42, Try.ntmps42
    go_wp2_with fail
    refine hok.mono ?_
    rintro en w1 ⟨rfl, B1⟩
    obtain ⟨hc1, hf1⟩ := bcell B1
    have S1 := B1.size
    try simp at S1
    try (have _L1w : w.heap.size < w1.heap.size := by omega)
    have _M1w : w.heap.size ≤ w1.heap.size := by omega
    try (have _P1w_1 : w.heap.size + 1 < w1.heap.size := by omega)
    try (have _P1w_2 : w.heap.size + 1 + 1 < w1.heap.size := by omega)
    try (have _P1w_3 : w.heap.size + 1 + 1 + 1 < w1.heap.size := by omega)
    have _ : w1.cell? ⟨w.heap.size, 0, none⟩ = some (.int .i64 n) := by rw [hc1 (w.heap.size) 0 (by first | omega | (simp; done) | (simp; omega))]; first | assumption | (simp; done) | simp [go_sem, *]
    have _ : w1.frozen? ⟨w.heap.size, 0, none⟩ = false := by rw [hf1 (w.heap.size) 0 (by first | omega | (simp; done) | (simp; omega))]; first | assumption | (simp; done) | simp [go_sem, *]
    have _ : w1.cell? ⟨w.heap.size, 1, none⟩ = some (.int .i64 e) := by rw [hc1 (w.heap.size) 1 (by first | omega | (simp; done) | (simp; omega))]; first | assumption | (simp; done) | simp [go_sem, *]
    have _ : w1.frozen? ⟨w.heap.size, 1, none⟩ = false := by rw [hf1 (w.heap.size) 1 (by first | omega | (simp; done) | (simp; omega))]; first | assumption | (simp; done) | simp [go_sem, *]
    have _ : w1.cell? ⟨w.heap.size, 2, none⟩ = some (.int .i64 s) := by rw [hc1 (w.heap.size) 2 (by first | omega | (simp; done) | (simp; omega))]; first | assumption | (simp; done) | simp [go_sem, *]
    have _ : w1.frozen? ⟨w.heap.size, 2, none⟩ = false := by rw [hf1 (w.heap.size) 2 (by first | omega | (simp; done) | (simp; omega))]; first | assumption | (simp; done) | simp [go_sem, *]
    have _ : w1.cell? ⟨w.heap.size, 3, none⟩ = some (.slice p ws.length cap) := by rw [hc1 (w.heap.size) 3 (by first | omega | (simp; done) | (simp; omega))]; first | assumption | (simp; done) | simp [go_sem, *]
    have _ : w1.frozen? ⟨w.heap.size, 3, none⟩ = false := by rw [hf1 (w.heap.size) 3 (by first | omega | (simp; done) | (simp; omega))]; first | assumption | (simp; done) | simp [go_sem, *]
    clear hc1 hf1
    rw [hb]
    go_wp2
    go_ret
    exact ⟨ret_b HF.out, by (repeat (first | exact Below.refl _ _ | (refine Below.setCell ?_ (by (first | exact Nat.le_refl _ | omega | (simp <;> omega) | simp)) _) | (refine Below.alloc ?_ (by (first | exact Nat.le_refl _ | omega | (simp <;> omega) | simp)) _) | (refine below_draws ?_ _) | exact B1 | (refine Below.trans ?_ (Below.mono B1 (by (first | exact Nat.le_refl _ | omega | (simp <;> omega) | simp))))))⟩
  by_cases e2 : hi.length = ws.length
  case neg =>
    have HF : Hid (false = bndB n e s ws lo hi) := Lib.hid (bndB_no fun h => e2 h.2.1).symm
    have e3 : ¬ (hi.length : Int) = (ws.length : Int) := by omega
    rw [e1]
    clear hr hl hh hr1 e2 e1
    go_enter Try.func42, Try.ntmps42
    go_wp2_with fail
    refine hok.mono ?_
    rintro en w1 ⟨rfl, B1⟩
    obtain ⟨hc1, hf1⟩ := bcell B1
    have S1 := B1.size
    try simp at S1
    try (have _L1w : w.heap.size < w1.heap.size := by omega)
    have _M1w : w.heap.size ≤ w1.heap.size := by omega
    try (have _P1w_1 : w.heap.size + 1 < w1.heap.size := by omega)
    try (have _P1w_2 : w.heap.size + 1 + 1 < w1.heap.size := by omega)
    try (have _P1w_3 : w.heap.size + 1 + 1 + 1 < w1.heap.size := by omega)
    have _ : w1.cell? ⟨w.heap.size, 0, none⟩ = some (.int .i64 n) := by rw [hc1 (w.heap.size) 0 (by first | omega | (simp; done) | (simp; omega))]; first | assumption | (simp; done) | simp [go_sem, *]
    have _ : w1.frozen? ⟨w.heap.size, 0, none⟩ = false := by rw [hf1 (w.heap.size) 0 (by first | omega | (simp; done) | (simp; omega))]; first | assumption | (simp; done) | simp [go_sem, *]
    have _ : w1.cell? ⟨w.heap.size, 1, none⟩ = some (.int .i64 e) := by rw [hc1 (w.heap.size) 1 (by first | omega | (simp; done) | (simp; omega))]; first | assumption | (simp; done) | simp [go_sem, *]
    have _ : w1.frozen? ⟨w.heap.size, 1, none⟩ = false := by rw [hf1 (w.heap.size) 1 (by first | omega | (simp; done) | (simp; omega))]; first | assumption | (simp; done) | simp [go_sem, *]
    have _ : w1.cell? ⟨w.heap.size, 2, none⟩ = some (.int .i64 s) := by rw [hc1 (w.heap.size) 2 (by first | omega | (simp; done) | (simp; omega))]; first | assumption | (simp; done) | simp [go_sem, *]
    have _ : w1.frozen? ⟨w.heap.size, 2, none⟩ = false := by rw [hf1 (w.heap.size) 2 (by first | omega | (simp; done) | (simp; omega))]; first | assumption | (simp; done) | simp [go_sem, *]
    have _ : w1.cell? ⟨w.heap.size, 3, none⟩ = some (.slice p ws.length cap) := by rw [hc1 (w.heap.size) 3 (by first | omega | (simp; done) | (simp; omega))]; first | assumption | (simp; done) | simp [go_sem, *]
    have _ : w1.frozen? ⟨w.heap.size, 3, none⟩ = false := by rw [hf1 (w.heap.size) 3 (by first | omega | (simp; done) | (simp; omega))]; first | assumption | (simp; done) | simp [go_sem, *]
    clear hc1 hf1
    rw [hb]
    go_wp2
    go_ret
    exact ⟨ret_b HF.out, by (repeat (first | exact Below.refl _ _ | (refine Below.setCell ?_ (by (first | exact Nat.le_refl _ | omega | (simp <;> omega) | simp)) _) | (refine Below.alloc ?_ (by (first | exact Nat.le_refl _ | omega | (simp <;> omega) | simp)) _) | (refine below_draws ?_ _) | exact B1 | (refine Below.trans ?_ (Below.mono B1 (by (first | exact Nat.le_refl _ | omega | (simp <;> omega) | simp))))))⟩
  obtain ⟨K, hK, hgood, hend⟩ := bnd_end n e s ws lo hi hb e1 e2
  have LO := Lib.hid hl; have LH := Lib.hid hh; have HG := Lib.hid hgood; have HE := Lib.hid hend
  clear hl hh hgood hend
  have E1 := Lib.hid e1; have E2 := Lib.hid e2
  rw [e1, e2]
  clear e1 e2
  rcases hr1 with ⟨hx, _⟩ | ⟨g, o, cap', hv, hc⟩
  · have h0 : ws.length = 0 := by rw [hx]; rfl
    have HF : Hid (true = bndB n e s ws lo hi) := Lib.hid (by rcases HE.out with ⟨_, h⟩ | ⟨h, _⟩ <;> first | exact h.symm | omega)
    rw [h0] at hok ⊢
    clear hr hx hm
    go_enter Try.func42, Try.ntmps42
    go_wp2_with fail
    refine hok.mono ?_
    rintro en w1 ⟨rfl, B1⟩
    obtain ⟨hc1, hf1⟩ := bcell B1
    have S1 := B1.size
    try simp at S1
    try (have _L1w : w.heap.size < w1.heap.size := by omega)
    have _M1w : w.heap.size ≤ w1.heap.size := by omega
    try (have _P1w_1 : w.heap.size + 1 < w1.heap.size := by omega)
    try (have _P1w_2 : w.heap.size + 1 + 1 < w1.heap.size := by omega)
    try (have _P1w_3 : w.heap.size + 1 + 1 + 1 < w1.heap.size := by omega)
    have _ : w1.cell? ⟨w.heap.size, 0, none⟩ = some (.int .i64 n) := by rw [hc1 (w.heap.size) 0 (by first | omega | (simp; done) | (simp; omega))]; first | assumption | (simp; done) | simp [go_sem, *]
    have _ : w1.frozen? ⟨w.heap.size, 0, none⟩ = false := by rw [hf1 (w.heap.size) 0 (by first | omega | (simp; done) | (simp; omega))]; first | assumption | (simp; done) | simp [go_sem, *]
    have _ : w1.cell? ⟨w.heap.size, 1, none⟩ = some (.int .i64 e) := by rw [hc1 (w.heap.size) 1 (by first | omega | (simp; done) | (simp; omega))]; first | assumption | (simp; done) | simp [go_sem, *]
    have _ : w1.frozen? ⟨w.heap.size, 1, none⟩ = false := by rw [hf1 (w.heap.size) 1 (by first | omega | (simp; done) | (simp; omega))]; first | assumption | (simp; done) | simp [go_sem, *]
    have _ : w1.cell? ⟨w.heap.size, 2, none⟩ = some (.int .i64 s) := by rw [hc1 (w.heap.size) 2 (by first | omega | (simp; done) | (simp; omega))]; first | assumption | (simp; done) | simp [go_sem, *]
    have _ : w1.frozen? ⟨w.heap.size, 2, none⟩ = false := by rw [hf1 (w.heap.size) 2 (by first | omega | (simp; done) | (simp; omega))]; first | assumption | (simp; done) | simp [go_sem, *]
    have _ : w1.cell? ⟨w.heap.size, 3, none⟩ = some (.slice p 0 cap) := by rw [hc1 (w.heap.size) 3 (by first | omega | (simp; done) | (simp; omega))]; first | assumption | (simp; done) | simp [go_sem, *]
    have _ : w1.frozen? ⟨w.heap.size, 3, none⟩ = false := by rw [hf1 (w.heap.size) 3 (by first | omega | (simp; done) | (simp; omega))]; first | assumption | (simp; done) | simp [go_sem, *]
    clear hc1 hf1
    rw [hb]
    go_wp2
    refine wp_loop_rounds 1 ?_
    rw [rounds_succ]
    go_wp2
    go_ret
    exact ⟨ret_b HF.out, by (repeat (first | exact Below.refl _ _ | (refine Below.setCell ?_ (by (first | exact Nat.le_refl _ | omega | (simp <;> omega) | simp)) _) | (refine Below.alloc ?_ (by (first | exact Nat.le_refl _ | omega | (simp <;> omega) | simp)) _) | (refine below_draws ?_ _) | exact B1 | (refine Below.trans ?_ (Below.mono B1 (by (first | exact Nat.le_refl _ | omega | (simp <;> omega) | simp))))))⟩
  cases hv
  have HC := Lib.hid hc; clear hc hr
  go_enter Try.func42, Try.ntmps42
  go_wp2_with fail
  refine hok.mono ?_
  rintro en w1 ⟨rfl, B1⟩
  obtain ⟨hc1, hf1⟩ := bcell B1
  have S1 := B1.size
  try simp at S1
  try (have _L1w : w.heap.size < w1.heap.size := by omega)
  have _M1w : w.heap.size ≤ w1.heap.size := by omega
  try (have _P1w_1 : w.heap.size + 1 < w1.heap.size := by omega)
  try (have _P1w_2 : w.heap.size + 1 + 1 < w1.heap.size := by omega)
  try (have _P1w_3 : w.heap.size + 1 + 1 + 1 < w1.heap.size := by omega)
  have _ : w1.cell? ⟨w.heap.size, 0, none⟩ = some (.int .i64 n) := by rw [hc1 (w.heap.size) 0 (by first | omega | (simp; done) | (simp; omega))]; first | assumption | (simp; done) | simp [go_sem, *]
  have _ : w1.frozen? ⟨w.heap.size, 0, none⟩ = false := by rw [hf1 (w.heap.size) 0 (by first | omega | (simp; done) | (simp; omega))]; first | assumption | (simp; done) | simp [go_sem, *]
  have _ : w1.cell? ⟨w.heap.size, 1, none⟩ = some (.int .i64 e) := by rw [hc1 (w.heap.size) 1 (by first | omega | (simp; done) | (simp; omega))]; first | assumption | (simp; done) | simp [go_sem, *]
  have _ : w1.frozen? ⟨w.heap.size, 1, none⟩ = false := by rw [hf1 (w.heap.size) 1 (by first | omega | (simp; done) | (simp; omega))]; first | assumption | (simp; done) | simp [go_sem, *]
  have _ : w1.cell? ⟨w.heap.size, 2, none⟩ = some (.int .i64 s) := by rw [hc1 (w.heap.size) 2 (by first | omega | (simp; done) | (simp; omega))]; first | assumption | (simp; done) | simp [go_sem, *]
  have _ : w1.frozen? ⟨w.heap.size, 2, none⟩ = false := by rw [hf1 (w.heap.size) 2 (by first | omega | (simp; done) | (simp; omega))]; first | assumption | (simp; done) | simp [go_sem, *]
  have _ : w1.cell? ⟨w.heap.size, 3, none⟩ = some (.slice (some ⟨g, o, none⟩) ws.length cap) := by rw [hc1 (w.heap.size) 3 (by first | omega | (simp; done) | (simp; omega))]; first | assumption | (simp; done) | simp [go_sem, *]
  have _ : w1.frozen? ⟨w.heap.size, 3, none⟩ = false := by rw [hf1 (w.heap.size) 3 (by first | omega | (simp; done) | (simp; omega))]; first | assumption | (simp; done) | simp [go_sem, *]
  clear hc1 hf1
  rw [hb]
  have hB1 : Below w.heap.size w w1 := by (repeat (first | exact Below.refl _ _ | (refine Below.setCell ?_ (by (first | exact Nat.le_refl _ | omega | (simp <;> omega) | simp)) _) | (refine Below.alloc ?_ (by (first | exact Nat.le_refl _ | omega | (simp <;> omega) | simp)) _) | (refine below_draws ?_ _) | exact B1 | (refine Below.trans ?_ (Below.mono B1 (by (first | exact Nat.le_refl _ | omega | (simp <;> omega) | simp))))))
  clear hok
  go_wp2
  go_loopw [31] (fun i wr => ∃ (k : Nat), k ≤ K ∧ i = .int .i64 k ∧ Below w.heap.size w wr) (fun i _ => ws.length - (intOf i).toNat)
  case atStart => exact ⟨0, Nat.zero_le _, rfl, hB1⟩
  case round =>
    obtain ⟨k, hk, rfl, hB⟩ := hrel
    by_cases hlt : k < ws.length
    · obtain ⟨c0, c1, c2⟩ := HC.out k hlt
      obtain ⟨g1, o1, cc1, r1, q1, q2, m1, d1⟩ := LO.out.pos (by have := E1.out; omega)
      obtain ⟨g2, o2, cc2, r2, u1, u2, m2, d2⟩ := LH.out.pos (by have := E2.out; omega)
      cases r1; cases r2
      replace d1 := d1 k (by have := E1.out; omega)
      replace d2 := d2 k (by have := E2.out; omega)
      have hg : g < w.heap.size := World.block_lt_of_cell? w _ c0
      rw [← hB.cell (p := ⟨g, o + k * 3, none⟩) hg] at c0
      rw [← hB.cell (p := ⟨g, o + k * 3 + 1, none⟩) hg] at c1
      rw [← hB.cell (p := ⟨g, o + k * 3 + 2, none⟩) hg] at c2
      rw [← hB.cell (p := ⟨g1, o1 + k, none⟩) m1] at d1
      rw [← hB.cell (p := ⟨g2, o2 + k, none⟩) m2] at d2
      have hs := hB.size
      have hgr : g ≠ wr.heap.size := by omega
      have hgr1 : g1 ≠ wr.heap.size := by omega
      have hgr2 : g2 ≠ wr.heap.size := by omega
      have BA := (Below.refl wr.heap.size wr).alloc (Nat.le_refl _) (.cells #[.int .i64 ws[k].1, .int .i64 ws[k].2.1, .int .i64 ws[k].2.2] 29)
      have D1 := Lib.hid ((BA.cell (p := ⟨g1, o1 + k, none⟩) (show g1 < wr.heap.size by omega)).trans d1)
      have D2 := Lib.hid ((BA.cell (p := ⟨g2, o2 + k, none⟩) (show g2 < wr.heap.size by omega)).trans d2)
      have HBA : Hid (Below w.heap.size w (wr.alloc (.cells #[.int .i64 ws[k].1, .int .i64 ws[k].2.1, .int .i64 ws[k].2.2] 29))) := Lib.hid (hB.alloc hs _)
      clear hg m1 m2 hs q1 q2 u1 u2 BA d1 d2
      have x1 : k < lo.length := by have := E1.out; omega
      have x2 : k < hi.length := by have := E2.out; omega
      generalize hA : lo[k] = A at D1
      generalize hZ : hi[k] = Z at D2
      generalize hY : ws[k].2.2 = Y at c2 D1 D2 HBA
      by_cases hkK : k < K
      · obtain ⟨y0, y1, y2, v1, v2, v3, v4⟩ := HG.out k hkK
        rw [hA] at v1 v2; rw [hY] at v2 v3; rw [hZ] at v3 v4
        clear hA hZ hY x1 x2 y0 y1 y2
        have HI1 := in_yes' A 1 Y 1 Y rfl rfl v1 v2
        have HI2 := in_yes' Z Y 200 Y 200 rfl rfl v3 v4
        clear v1 v2 v3 v4
        go_wp2
        have d1 := D1.out
        have d2 := D2.out
        go_quiet (first | (go_at_call 79; with_reducible refine Calls.mono (HI1 _) ?_; rintro _ _ ⟨rfl, rfl⟩; (first | exact ⟨rfl, _, rfl⟩ | exact ⟨rfl, _, (World.drewN_drewN _ _ _).symm⟩)) | (go_at_call 79; with_reducible refine Calls.mono (HI2 _) ?_; rintro _ _ ⟨rfl, rfl⟩; (first | exact ⟨rfl, _, rfl⟩ | exact ⟨rfl, _, (World.drewN_drewN _ _ _).symm⟩)))
        go_wp2
        go_roundw
        case rel => exact ⟨k + 1, by omega, by go_num, by have h7 := HBA.out; (repeat (first | exact Below.refl _ _ | (refine Below.setCell ?_ (by (first | exact Nat.le_refl _ | omega | (simp <;> omega) | simp)) _) | (refine Below.alloc ?_ (by (first | exact Nat.le_refl _ | omega | (simp <;> omega) | simp)) _) | (refine below_draws ?_ _) | exact h7 | (refine Below.trans ?_ (Below.mono h7 (by (first | exact Nat.le_refl _ | omega | (simp <;> omega) | simp))))))⟩
        case measure => simp [intOf]; omega
      · obtain rfl : k = K := by omega
        have HF : Hid (false = bndB n e s ws lo hi) := Lib.hid (by rcases HE.out with ⟨h, _⟩ | ⟨_, _, h⟩ <;> first | exact h.symm | omega)
        have hbad : ¬ (1 ≤ A ∧ A ≤ Y ∧ Y ≤ Z ∧ Z ≤ 200) := by
          rcases HE.out with ⟨h, _⟩ | ⟨_, h, _⟩
          · omega
          · intro hh; exact h ⟨hlt, x1, x2, by rw [hA]; exact hh.1, by rw [hA, hY]; exact hh.2.1, by rw [hY, hZ]; exact hh.2.2.1, by rw [hZ]; exact hh.2.2.2⟩
        clear hA hZ hY x1 x2
        by_cases v1 : 1 ≤ A ∧ A ≤ Y
        · have HI1 := in_yes' A 1 Y 1 Y rfl rfl v1.1 v1.2
          have HI2 := in_no' Z Y 200 Y 200 rfl rfl (by omega)
          clear v1 hbad
          go_wp2
          have d1 := D1.out
          have d2 := D2.out
          go_quiet (first | (go_at_call 79; with_reducible refine Calls.mono (HI1 _) ?_; rintro _ _ ⟨rfl, rfl⟩; (first | exact ⟨rfl, _, rfl⟩ | exact ⟨rfl, _, (World.drewN_drewN _ _ _).symm⟩)) | (go_at_call 79; with_reducible refine Calls.mono (HI2 _) ?_; rintro _ _ ⟨rfl, rfl⟩; (first | exact ⟨rfl, _, rfl⟩ | exact ⟨rfl, _, (World.drewN_drewN _ _ _).symm⟩)))
          go_wp2
          go_ret
          exact ⟨ret_b HF.out, by have h7 := HBA.out; (repeat (first | exact Below.refl _ _ | (refine Below.setCell ?_ (by (first | exact Nat.le_refl _ | omega | (simp <;> omega) | simp)) _) | (refine Below.alloc ?_ (by (first | exact Nat.le_refl _ | omega | (simp <;> omega) | simp)) _) | (refine below_draws ?_ _) | exact h7 | (refine Below.trans ?_ (Below.mono h7 (by (first | exact Nat.le_refl _ | omega | (simp <;> omega) | simp))))))⟩
        · have HI1 := in_no' A 1 Y 1 Y rfl rfl v1
          clear v1 hbad
          go_wp2
          have d1 := D1.out
          have d2 := D2.out
          go_quiet (first | (go_at_call 79; with_reducible refine Calls.mono (HI1 _) ?_; rintro _ _ ⟨rfl, rfl⟩; (first | exact ⟨rfl, _, rfl⟩ | exact ⟨rfl, _, (World.drewN_drewN _ _ _).symm⟩)))
          go_wp2
          go_ret
          exact ⟨ret_b HF.out, by have h7 := HBA.out; (repeat (first | exact Below.refl _ _ | (refine Below.setCell ?_ (by (first | exact Nat.le_refl _ | omega | (simp <;> omega) | simp)) _) | (refine Below.alloc ?_ (by (first | exact Nat.le_refl _ | omega | (simp <;> omega) | simp)) _) | (refine below_draws ?_ _) | exact h7 | (refine Below.trans ?_ (Below.mono h7 (by (first | exact Nat.le_refl _ | omega | (simp <;> omega) | simp))))))⟩
    · obtain rfl : k = ws.length := by omega
      have HF : Hid (true = bndB n e s ws lo hi) := Lib.hid (by rcases HE.out with ⟨_, h⟩ | ⟨h, _⟩ <;> first | exact h.symm | omega)
      go_wp2
      go_ret
      exact ⟨ret_b HF.out, by (repeat (first | exact Below.refl _ _ | (refine Below.setCell ?_ (by (first | exact Nat.le_refl _ | omega | (simp <;> omega) | simp)) _) | (refine Below.alloc ?_ (by (first | exact Nat.le_refl _ | omega | (simp <;> omega) | simp)) _) | (refine below_draws ?_ _) | exact hB | (refine Below.trans ?_ (Below.mono hB (by (first | exact Nat.le_refl _ | omega | (simp <;> omega) | simp))))))⟩
set_option maxHeartbeats 12800000 in
set_option maxRecDepth 8000 in
theorem impl_bounds (n e s : Int) (v vl vh : Value) (ws : List W3) (lo hi : List Int) (w : World) (hr : ReadsW w v ws) (hl : ReadsI w vl lo) (hh : ReadsI w vh hi) :
    Calls Try.prog 27 #[.agg #[.int .i64 n, .int .i64 e, .int .i64 s, v], vl, vh] w fun en w' => en = .returned (.bool (bndB n e s ws lo hi)) ∧ Below w.heap.size w w' := by
  have B0 : Below w.heap.size w (w.alloc (.cells #[.int .i64 n, .int .i64 e, .int .i64 s, v] 25)) := by (repeat (first | exact Below.refl _ _ | (refine Below.setCell ?_ (by (first | exact Nat.le_refl _ | omega | (simp <;> omega) | simp)) _) | (refine Below.alloc ?_ (by (first | exact Nat.le_refl _ | omega | (simp <;> omega) | simp)) _) | (refine below_draws ?_ _)))
  have hok := impl_netOk n e s v ws _ (hr.later B0)
  obtain ⟨p, cap, rfl⟩ := hr.shape
  obtain ⟨pl, cl, rfl, l1, l2⟩ := hl.shape
  obtain ⟨ph, ch, rfl, g1, g2⟩ := hh.shape
  obtain ⟨hm, hr1⟩ := id hr
  cases hb : netB n e s ws
  case false =>
    have HF : Hid (false = bndB n e s ws lo hi) := Lib.hid (bndB_net hb).symm
    clear hr hl hh hr1
    go_enter Try.func27, Try.ntmps27
    go_wp2_with fail
    refine hok.mono ?_
    rintro en w1 ⟨rfl, B1⟩
    obtain ⟨hc1, hf1⟩ := bcell B1
    have S1 := B1.size
    try simp at S1
    try (have _L1w : w.heap.size < w1.heap.size := by omega)
    have _M1w : w.heap.size ≤ w1.heap.size := by omega
    try (have _P1w_1 : w.heap.size + 1 < w1.heap.size := by omega)
    try (have _P1w_2 : w.heap.size + 1 + 1 < w1.heap.size := by omega)
    try (have _P1w_3 : w.heap.size + 1 + 1 + 1 < w1.heap.size := by omega)
    have _ : w1.cell? ⟨w.heap.size, 0, none⟩ = some (.int .i64 n) := by rw [hc1 (w.heap.size) 0 (by first | omega | (simp; done) | (simp; omega))]; first | assumption | (simp; done) | simp [go_sem, *]
    have _ : w1.frozen? ⟨w.heap.size, 0, none⟩ = false := by rw [hf1 (w.heap.size) 0 (by first | omega | (simp; done) | (simp; omega))]; first | assumption | (simp; done) | simp [go_sem, *]
    have _ : w1.cell? ⟨w.heap.size, 1, none⟩ = some (.int .i64 e) := by rw [hc1 (w.heap.size) 1 (by first | omega | (simp; done) | (simp; omega))]; first | assumption | (simp; done) | simp [go_sem, *]
    have _ : w1.frozen? ⟨w.heap.size, 1, none⟩ = false := by rw [hf1 (w.heap.size) 1 (by first | omega | (simp; done) | (simp; omega))]; first | assumption | (simp; done) | simp [go_sem, *]
    have _ : w1.cell? ⟨w.heap.size, 2, none⟩ = some (.int .i64 s) := by rw [hc1 (w.heap.size) 2 (by first | omega | (simp; done) | (simp; omega))]; first | assumption | (simp; done) | simp [go_sem, *]
    have _ : w1.frozen? ⟨w.heap.size, 2, none⟩ = false := by rw [hf1 (w.heap.size) 2 (by first | omega | (simp; done) | (simp; omega))]; first | assumption | (simp; done) | simp [go_sem, *]
    have _ : w1.cell? ⟨w.heap.size, 3, none⟩ = some (.slice p ws.length cap) := by rw [hc1 (w.heap.size) 3 (by first | omega | (simp; done) | (simp; omega))]; first | assumption | (simp; done) | simp [go_sem, *]
    have _ : w1.frozen? ⟨w.heap.size, 3, none⟩ = false := by rw [hf1 (w.heap.size) 3 (by first | omega | (simp; done) | (simp; omega))]; first | assumption | (simp; done) | simp [go_sem, *]
    clear hc1 hf1
    rw [hb]
    go_wp2
    go_ret
    exact ⟨ret_b HF.out, by (repeat (first | exact Below.refl _ _ | (refine Below.setCell ?_ (by (first | exact Nat.le_refl _ | omega | (simp <;> omega) | simp)) _) | (refine Below.alloc ?_ (by (first | exact Nat.le_refl _ | omega | (simp <;> omega) | simp)) _) | (refine below_draws ?_ _) | exact B1 | (refine Below.trans ?_ (Below.mono B1 (by (first | exact Nat.le_refl _ | omega | (simp <;> omega) | simp))))))⟩
  by_cases e1 : lo.length = ws.length
  case neg =>
    have HF : Hid (false = bndB n e s ws lo hi) := Lib.hid (bndB_no fun h => e1 h.1).symm
    have e2 : ¬ (lo.length : Int) = (ws.length : Int) := by omega
    clear hr hl hh hr1 e1
    go_enter Try.func27, Try.ntmps27
    go_wp2_with fail
    refine hok.mono ?_
    rintro en w1 ⟨rfl, B1⟩
    obtain ⟨hc1, hf1⟩ := bcell B1
    have S1 := B1.size
    try simp at S1
    try (have _L1w : w.heap.size < w1.heap.size := by omega)
    have _M1w : w.heap.size ≤ w1.heap.size := by omega
    try (have _P1w_1 : w.heap.size + 1 < w1.heap.size := by omega)
    try (have _P1w_2 : w.heap.size + 1 + 1 < w1.heap.size := by omega)
    try (have _P1w_3 : w.heap.size + 1 + 1 + 1 < w1.heap.size := by omega)
    have _ : w1.cell? ⟨w.heap.size, 0, none⟩ = some (.int .i64 n) := by rw [hc1 (w.heap.size) 0 (by first | omega | (simp; done) | (simp; omega))]; first | assumption | (simp; done) | simp [go_sem, *]
    have _ : w1.frozen? ⟨w.heap.size, 0, none⟩ = false := by rw [hf1 (w.heap.size) 0 (by first | omega | (simp; done) | (simp; omega))]; first | assumption | (simp; done) | simp [go_sem, *]
    have _ : w1.cell? ⟨w.heap.size, 1, none⟩ = some (.int .i64 e) := by rw [hc1 (w.heap.size) 1 (by first | omega | (simp; done) | (simp; omega))]; first | assumption | (simp; done) | simp [go_sem, *]
    have _ : w1.frozen? ⟨w.heap.size, 1, none⟩ = false := by rw [hf1 (w.heap.size) 1 (by first | omega | (simp; done) | (simp; omega))]; first | assumption | (simp; done) | simp [go_sem, *]
    have _ : w1.cell? ⟨w.heap.size, 2, none⟩ = some (.int .i64 s) := by rw [hc1 (w.heap.size) 2 (by first | omega | (simp; done) | (simp; omega))]; first | assumption | (simp; done) | simp [go_sem, *]
    have _ : w1.frozen? ⟨w.heap.size, 2, none⟩ = false := by rw [hf1 (w.heap.size) 2 (by first | omega | (simp; done) | (simp; omega))]; first | assumption | (simp; done) | simp [go_sem, *]
    have _ : w1.cell? ⟨w.heap.size, 3, none⟩ = some (.slice p ws.length cap) := by rw [hc1 (w.heap.size) 3 (by first | omega | (simp; done) | (simp; omega))]; first | assumption | (simp; done) | simp [go_sem, *]
    have _ : w1.frozen? ⟨w.heap.size, 3, none⟩ = false := by rw [hf1 (w.heap.size) 3 (by first | omega | (simp; done) | (simp; omega))]; first | assumption | (simp; done) | simp [go_sem, *]
    clear hc1 hf1
    rw [hb]
    go_wp2
    go_ret
    exact ⟨ret_b HF.out, by (repeat (first | exact Below.refl _ _ | (refine Below.setCell ?_ (by (first | exact Nat.le_refl _ | omega | (simp <;> omega) | simp)) _) | (refine Below.alloc ?_ (by (first | exact Nat.le_refl _ | omega | (simp <;> omega) | simp)) _) | (refine below_draws ?_ _) | exact B1 | (refine Below.trans ?_ (Below.mono B1 (by (first | exact Nat.le_refl _ | omega | (simp <;> omega) | simp))))))⟩
  by_cases e2 : hi.length = ws.length
  case neg =>
    have HF : Hid (false = bndB n e s ws lo hi) := Lib.hid (bndB_no fun h => e2 h.2.1).symm
    have e3 : ¬ (hi.length : Int) = (ws.length : Int) := by omega
    rw [e1]
    clear hr hl hh hr1 e2 e1
    go_enter Try.func27, Try.ntmps27
    go_wp2_with fail
    refine hok.mono ?_
    rintro en w1 ⟨rfl, B1⟩
    obtain ⟨hc1, hf1⟩ := bcell B1
    have S1 := B1.size
    try simp at S1
    try (have _L1w : w.heap.size < w1.heap.size := by omega)
    have _M1w : w.heap.size ≤ w1.heap.size := by omega
    try (have _P1w_1 : w.heap.size + 1 < w1.heap.size := by omega)
    try (have _P1w_2 : w.heap.size + 1 + 1 < w1.heap.size := by omega)
    try (have _P1w_3 : w.heap.size + 1 + 1 + 1 < w1.heap.size := by omega)
    have _ : w1.cell? ⟨w.heap.size, 0, none⟩ = some (.int .i64 n) := by rw [hc1 (w.heap.size) 0 (by first | omega | (simp; done) | (simp; omega))]; first | assumption | (simp; done) | simp [go_sem, *]
    have _ : w1.frozen? ⟨w.heap.size, 0, none⟩ = false := by rw [hf1 (w.heap.size) 0 (by first | omega | (simp; done) | (simp; omega))]; first | assumption | (simp; done) | simp [go_sem, *]
    have _ : w1.cell? ⟨w.heap.size, 1, none⟩ = some (.int .i64 e) := by rw [hc1 (w.heap.size) 1 (by first | omega | (simp; done) | (simp; omega))]; first | assumption | (simp; done) | simp [go_sem, *]
    have _ : w1.frozen? ⟨w.heap.size, 1, none⟩ = false := by rw [hf1 (w.heap.size) 1 (by first | omega | (simp; done) | (simp; omega))]; first | assumption | (simp; done) | simp [go_sem, *]
    have _ : w1.cell? ⟨w.heap.size, 2, none⟩ = some (.int .i64 s) := by rw [hc1 (w.heap.size) 2 (by first | omega | (simp; done) | (simp; omega))]; first | assumption | (simp; done) | simp [go_sem, *]
    have _ : w1.frozen? ⟨w.heap.size, 2, none⟩ = false := by rw [hf1 (w.heap.size) 2 (by first | omega | (simp; done) | (simp; omega))]; first | assumption | (simp; done) | simp [go_sem, *]
    have _ : w1.cell? ⟨w.heap.size, 3, none⟩ = some (.slice p ws.length cap) := by rw [hc1 (w.heap.size) 3 (by first | omega | (simp; done) | (simp; omega))]; first | assumption | (simp; done) | simp [go_sem, *]
    have _ : w1.frozen? ⟨w.heap.size, 3, none⟩ = false := by rw [hf1 (w.heap.size) 3 (by first | omega | (simp; done) | (simp; omega))]; first | assumption | (simp; done) | simp [go_sem, *]
    clear hc1 hf1
    rw [hb]
    go_wp2
    go_ret
    exact ⟨ret_b HF.out, by (repeat (first | exact Below.refl _ _ | (refine Below.setCell ?_ (by (first | exact Nat.le_refl _ | omega | (simp <;> omega) | simp)) _) | (refine Below.alloc ?_ (by (first | exact Nat.le_refl _ | omega | (simp <;> omega) | simp)) _) | (refine below_draws ?_ _) | exact B1 | (refine Below.trans ?_ (Below.mono B1 (by (first | exact Nat.le_refl _ | omega | (simp <;> omega) | simp))))))⟩
  obtain ⟨K, hK, hgood, hend⟩ := bnd_end n e s ws lo hi hb e1 e2
  have LO := Lib.hid hl; have LH := Lib.hid hh; have HG := Lib.hid hgood; have HE := Lib.hid hend
  clear hl hh hgood hend
  have E1 := Lib.hid e1; have E2 := Lib.hid e2
  rw [e1, e2]
  clear e1 e2
  rcases hr1 with ⟨hx, _⟩ | ⟨g, o, cap', hv, hc⟩
  · have h0 : ws.length = 0 := by rw [hx]; rfl
    have HF : Hid (true = bndB n e s ws lo hi) := Lib.hid (by rcases HE.out with ⟨_, h⟩ | ⟨h, _⟩ <;> first | exact h.symm | omega)
    rw [h0] at hok ⊢
    clear hr hx hm
    go_enter Try.func27, Try.ntmps27
    go_wp2_with fail
    refine hok.mono ?_
    rintro en w1 ⟨rfl, B1⟩
    obtain ⟨hc1, hf1⟩ := bcell B1
    have S1 := B1.size
    try simp at S1
    try (have _L1w : w.heap.size < w1.heap.size := by omega)
    have _M1w : w.heap.size ≤ w1.heap.size := by omega
    try (have _P1w_1 : w.heap.size + 1 < w1.heap.size := by omega)
    try (have _P1w_2 : w.heap.size + 1 + 1 < w1.heap.size := by omega)
    try (have _P1w_3 : w.heap.size + 1 + 1 + 1 < w1.heap.size := by omega)
    have _ : w1.cell? ⟨w.heap.size, 0, none⟩ = some (.int .i64 n) := by rw [hc1 (w.heap.size) 0 (by first | omega | (simp; done) | (simp; omega))]; first | assumption | (simp; done) | simp [go_sem, *]
    have _ : w1.frozen? ⟨w.heap.size, 0, none⟩ = false := by rw [hf1 (w.heap.size) 0 (by first | omega | (simp; done) | (simp; omega))]; first | assumption | (simp; done) | simp [go_sem, *]
    have _ : w1.cell? ⟨w.heap.size, 1, none⟩ = some (.int .i64 e) := by rw [hc1 (w.heap.size) 1 (by first | omega | (simp; done) | (simp; omega))]; first | assumption | (simp; done) | simp [go_sem, *]
    have _ : w1.frozen? ⟨w.heap.size, 1, none⟩ = false := by rw [hf1 (w.heap.size) 1 (by first | omega | (simp; done) | (simp; omega))]; first | assumption | (simp; done) | simp [go_sem, *]
    have _ : w1.cell? ⟨w.heap.size, 2, none⟩ = some (.int .i64 s) := by rw [hc1 (w.heap.size) 2 (by first | omega | (simp; done) | (simp; omega))]; first | assumption | (simp; done) | simp [go_sem, *]
    have _ : w1.frozen? ⟨w.heap.size, 2, none⟩ = false := by rw [hf1 (w.heap.size) 2 (by first | omega | (simp; done) | (simp; omega))]; first | assumption | (simp; done) | simp [go_sem, *]
    have _ : w1.cell? ⟨w.heap.size, 3, none⟩ = some (.slice p 0 cap) := by rw [hc1 (w.heap.size) 3 (by first | omega | (simp; done) | (simp; omega))]; first | assumption | (simp; done) | simp [go_sem, *]
    have _ : w1.frozen? ⟨w.heap.size, 3, none⟩ = false := by rw [hf1 (w.heap.size) 3 (by first | omega | (simp; done) | (simp; omega))]; first | assumption | (simp; done) | simp [go_sem, *]
    clear hc1 hf1
    rw [hb]
    go_wp2
    refine wp_loop_rounds 1 ?_
    rw [rounds_succ]
    go_wp2
    go_ret
    exact ⟨ret_b HF.out, by (repeat (first | exact Below.refl _ _ | (refine Below.setCell ?_ (by (first | exact Nat.le_refl _ | omega | (simp <;> omega) | simp)) _) | (refine Below.alloc ?_ (by (first | exact Nat.le_refl _ | omega | (simp <;> omega) | simp)) _) | (refine below_draws ?_ _) | exact B1 | (refine Below.trans ?_ (Below.mono B1 (by (first | exact Nat.le_refl _ | omega | (simp <;> omega) | simp))))))⟩
  cases hv
  have HC := Lib.hid hc; clear hc hr
  go_enter Try.func27, Try.ntmps27
  go_wp2_with fail
  refine hok.mono ?_
  rintro en w1 ⟨rfl, B1⟩
  obtain ⟨hc1, hf1⟩ := bcell B1
  have S1 := B1.size
  try simp at S1
  try (have _L1w : w.heap.size < w1.heap.size := by omega)
  have _M1w : w.heap.size ≤ w1.heap.size := by omega
  try (have _P1w_1 : w.heap.size + 1 < w1.heap.size := by omega)
  try (have _P1w_2 : w.heap.size + 1 + 1 < w1.heap.size := by omega)
  try (have _P1w_3 : w.heap.size + 1 + 1 + 1 < w1.heap.size := by omega)
  have _ : w1.cell? ⟨w.heap.size, 0, none⟩ = some (.int .i64 n) := by rw [hc1 (w.heap.size) 0 (by first | omega | (simp; done) | (simp; omega))]; first | assumption | (simp; done) | simp [go_sem, *]
  have _ : w1.frozen? ⟨w.heap.size, 0, none⟩ = false := by rw [hf1 (w.heap.size) 0 (by first | omega | (simp; done) | (simp; omega))]; first | assumption | (simp; done) | simp [go_sem, *]
  have _ : w1.cell? ⟨w.heap.size, 1, none⟩ = some (.int .i64 e) := by rw [hc1 (w.heap.size) 1 (by first | omega | (simp; done) | (simp; omega))]; first | assumption | (simp; done) | simp [go_sem, *]
  have _ : w1.frozen? ⟨w.heap.size, 1, none⟩ = false := by rw [hf1 (w.heap.size) 1 (by first | omega | (simp; done) | (simp; omega))]; first | assumption | (simp; done) | simp [go_sem, *]
  have _ : w1.cell? ⟨w.heap.size, 2, none⟩ = some (.int .i64 s) := by rw [hc1 (w.heap.size) 2 (by first | omega | (simp; done) | (simp; omega))]; first | assumption | (simp; done) | simp [go_sem, *]
  have _ : w1.frozen? ⟨w.heap.size, 2, none⟩ = false := by rw [hf1 (w.heap.size) 2 (by first | omega | (simp; done) | (simp; omega))]; first | assumption | (simp; done) | simp [go_sem, *]
  have _ : w1.cell? ⟨w.heap.size, 3, none⟩ = some (.slice (some ⟨g, o, none⟩) ws.length cap) := by rw [hc1 (w.heap.size) 3 (by first | omega | (simp; done) | (simp; omega))]; first | assumption | (simp; done) | simp [go_sem, *]
  have _ : w1.frozen? ⟨w.heap.size, 3, none⟩ = false := by rw [hf1 (w.heap.size) 3 (by first | omega | (simp; done) | (simp; omega))]; first | assumption | (simp; done) | simp [go_sem, *]
  clear hc1 hf1
  rw [hb]
  have hB1 : Below w.heap.size w w1 := by (repeat (first | exact Below.refl _ _ | (refine Below.setCell ?_ (by (first | exact Nat.le_refl _ | omega | (simp <;> omega) | simp)) _) | (refine Below.alloc ?_ (by (first | exact Nat.le_refl _ | omega | (simp <;> omega) | simp)) _) | (refine below_draws ?_ _) | exact B1 | (refine Below.trans ?_ (Below.mono B1 (by (first | exact Nat.le_refl _ | omega | (simp <;> omega) | simp))))))
  clear hok
  go_wp2
  go_loopw [31] (fun i wr => ∃ (k : Nat), k ≤ K ∧ i = .int .i64 k ∧ Below w.heap.size w wr) (fun i _ => ws.length - (intOf i).toNat)
  case atStart => exact ⟨0, Nat.zero_le _, rfl, hB1⟩
  case round =>
    obtain ⟨k, hk, rfl, hB⟩ := hrel
    by_cases hlt : k < ws.length
    · obtain ⟨c0, c1, c2⟩ := HC.out k hlt
      obtain ⟨g1, o1, cc1, r1, q1, q2, m1, d1⟩ := LO.out.pos (by have := E1.out; omega)
      obtain ⟨g2, o2, cc2, r2, u1, u2, m2, d2⟩ := LH.out.pos (by have := E2.out; omega)
      cases r1; cases r2
      replace d1 := d1 k (by have := E1.out; omega)
      replace d2 := d2 k (by have := E2.out; omega)
      have hg : g < w.heap.size := World.block_lt_of_cell? w _ c0
      rw [← hB.cell (p := ⟨g, o + k * 3, none⟩) hg] at c0
      rw [← hB.cell (p := ⟨g, o + k * 3 + 1, none⟩) hg] at c1
      rw [← hB.cell (p := ⟨g, o + k * 3 + 2, none⟩) hg] at c2
      rw [← hB.cell (p := ⟨g1, o1 + k, none⟩) m1] at d1
      rw [← hB.cell (p := ⟨g2, o2 + k, none⟩) m2] at d2
      have hs := hB.size
      have hgr : g ≠ wr.heap.size := by omega
      have hgr1 : g1 ≠ wr.heap.size := by omega
      have hgr2 : g2 ≠ wr.heap.size := by omega
      have BA := (Below.refl wr.heap.size wr).alloc (Nat.le_refl _) (.cells #[.int .i64 ws[k].1, .int .i64 ws[k].2.1, .int .i64 ws[k].2.2] 29)
      have D1 := Lib.hid ((BA.cell (p := ⟨g1, o1 + k, none⟩) (show g1 < wr.heap.size by omega)).trans d1)
      have D2 := Lib.hid ((BA.cell (p := ⟨g2, o2 + k, none⟩) (show g2 < wr.heap.size by omega)).trans d2)
      have HBA : Hid (Below w.heap.size w (wr.alloc (.cells #[.int .i64 ws[k].1, .int .i64 ws[k].2.1, .int .i64 ws[k].2.2] 29))) := Lib.hid (hB.alloc hs _)
      clear hg m1 m2 hs q1 q2 u1 u2 BA d1 d2
      have x1 : k < lo.length := by have := E1.out; omega
      have x2 : k < hi.length := by have := E2.out; omega
      generalize hA : lo[k] = A at D1
      generalize hZ : hi[k] = Z at D2
      generalize hY : ws[k].2.2 = Y at c2 D1 D2 HBA
      by_cases hkK : k < K
      · obtain ⟨y0, y1, y2, v1, v2, v3, v4⟩ := HG.out k hkK
        rw [hA] at v1 v2; rw [hY] at v2 v3; rw [hZ] at v3 v4
        clear hA hZ hY x1 x2 y0 y1 y2
        have z1 : ¬ A < 1 := by omega
        have z2 : ¬ Y < A := by omega
        have z3 : ¬ Z < Y := by omega
        have z4 : ¬ 200 < Z := by omega
        clear v1 v2 v3 v4
        go_wp2
        have d1 := D1.out
        have d2 := D2.out
        go_quiet (fail)
        go_wp2
        go_roundw
        case rel => exact ⟨k + 1, by omega, by go_num, by have h7 := HBA.out; (repeat (first | exact Below.refl _ _ | (refine Below.setCell ?_ (by (first | exact Nat.le_refl _ | omega | (simp <;> omega) | simp)) _) | (refine Below.alloc ?_ (by (first | exact Nat.le_refl _ | omega | (simp <;> omega) | simp)) _) | (refine below_draws ?_ _) | exact h7 | (refine Below.trans ?_ (Below.mono h7 (by (first | exact Nat.le_refl _ | omega | (simp <;> omega) | simp))))))⟩
        case measure => simp [intOf]; omega
      · obtain rfl : k = K := by omega
        have HF : Hid (false = bndB n e s ws lo hi) := Lib.hid (by rcases HE.out with ⟨h, _⟩ | ⟨_, _, h⟩ <;> first | exact h.symm | omega)
        have hbad : ¬ (1 ≤ A ∧ A ≤ Y ∧ Y ≤ Z ∧ Z ≤ 200) := by
          rcases HE.out with ⟨h, _⟩ | ⟨_, h, _⟩
          · omega
          · intro hh; exact h ⟨hlt, x1, x2, by rw [hA]; exact hh.1, by rw [hA, hY]; exact hh.2.1, by rw [hY, hZ]; exact hh.2.2.1, by rw [hZ]; exact hh.2.2.2⟩
        clear hA hZ hY x1 x2
        by_cases z1 : A < 1
        · clear hbad
          go_wp2
          have d1 := D1.out
          have d2 := D2.out
          go_quiet (fail)
          go_wp2
          go_ret
          exact ⟨ret_b HF.out, by have h7 := HBA.out; (repeat (first | exact Below.refl _ _ | (refine Below.setCell ?_ (by (first | exact Nat.le_refl _ | omega | (simp <;> omega) | simp)) _) | (refine Below.alloc ?_ (by (first | exact Nat.le_refl _ | omega | (simp <;> omega) | simp)) _) | (refine below_draws ?_ _) | exact h7 | (refine Below.trans ?_ (Below.mono h7 (by (first | exact Nat.le_refl _ | omega | (simp <;> omega) | simp))))))⟩
        by_cases z2 : Y < A
        · clear hbad
          go_wp2
          have d1 := D1.out
          have d2 := D2.out
          go_quiet (fail)
          go_wp2
          go_ret
          exact ⟨ret_b HF.out, by have h7 := HBA.out; (repeat (first | exact Below.refl _ _ | (refine Below.setCell ?_ (by (first | exact Nat.le_refl _ | omega | (simp <;> omega) | simp)) _) | (refine Below.alloc ?_ (by (first | exact Nat.le_refl _ | omega | (simp <;> omega) | simp)) _) | (refine below_draws ?_ _) | exact h7 | (refine Below.trans ?_ (Below.mono h7 (by (first | exact Nat.le_refl _ | omega | (simp <;> omega) | simp))))))⟩
        by_cases z3 : Z < Y
        · clear hbad
          go_wp2
          have d1 := D1.out
          have d2 := D2.out
          go_quiet (fail)
          go_wp2
          go_ret
          exact ⟨ret_b HF.out, by have h7 := HBA.out; (repeat (first | exact Below.refl _ _ | (refine Below.setCell ?_ (by (first | exact Nat.le_refl _ | omega | (simp <;> omega) | simp)) _) | (refine Below.alloc ?_ (by (first | exact Nat.le_refl _ | omega | (simp <;> omega) | simp)) _) | (refine below_draws ?_ _) | exact h7 | (refine Below.trans ?_ (Below.mono h7 (by (first | exact Nat.le_refl _ | omega | (simp <;> omega) | simp))))))⟩
        have z4 : 200 < Z := by omega
        clear hbad
        go_wp2
        have d1 := D1.out
        have d2 := D2.out
        go_quiet (fail)
        go_wp2
        go_ret
        exact ⟨ret_b HF.out, by have h7 := HBA.out; (repeat (first | exact Below.refl _ _ | (refine Below.setCell ?_ (by (first | exact Nat.le_refl _ | omega | (simp <;> omega) | simp)) _) | (refine Below.alloc ?_ (by (first | exact Nat.le_refl _ | omega | (simp <;> omega) | simp)) _) | (refine below_draws ?_ _) | exact h7 | (refine Below.trans ?_ (Below.mono h7 (by (first | exact Nat.le_refl _ | omega | (simp <;> omega) | simp))))))⟩
    · obtain rfl : k = ws.length := by omega
      have HF : Hid (true = bndB n e s ws lo hi) := Lib.hid (by rcases HE.out with ⟨_, h⟩ | ⟨h, _⟩ <;> first | exact h.symm | omega)
      go_wp2
      go_ret
      exact ⟨ret_b HF.out, by (repeat (first | exact Below.refl _ _ | (refine Below.setCell ?_ (by (first | exact Nat.le_refl _ | omega | (simp <;> omega) | simp)) _) | (refine Below.alloc ?_ (by (first | exact Nat.le_refl _ | omega | (simp <;> omega) | simp)) _) | (refine below_draws ?_ _) | exact hB | (refine Below.trans ?_ (Below.mono hB (by (first | exact Nat.le_refl _ | omega | (simp <;> omega) | simp))))))⟩
end Go.Proofs.Ytaececpphdaciaa
