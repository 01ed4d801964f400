/-
  ResistanceOf, in the model and in the program.
-/
import Derived.Test.YtaececpphdaciaaNetRat
import Derived.Deep.RegionHeld3
namespace Go.Proofs.Ytaececpphdaciaa
open Go.RowKit

noncomputable def resR (n e s : Int) (ws : List W3) (a b : Int) : Int × Int × Bool := if netB n e s ws = true ∧ 0 ≤ a ∧ a < n ∧ 0 ≤ b ∧ b < n then (rOfN (s * forestR n e s ws a b) (treeR n e s ws), rOfD (s * forestR n e s ws a b) (treeR n e s ws), true) else (0, 0, false)
theorem ret_ratio {a b c d : Int} {x y : Bool} (h : (a, b, x) = (c, d, y)) : Ending.returned (.tuple #[.agg #[.int .i64 a, .int .i64 b], .bool x]) = .returned (.tuple #[.agg #[.int .i64 c, .int .i64 d], .bool y]) := by cases h; rfl
theorem spec_rOf_at (q n d : Int) (hq : q = n) (w : World) (n0 : -9223372036854775808 ≤ n) (n1 : n ≤ 9223372036854775807) (d0 : -9223372036854775808 ≤ d) (d1 : d ≤ 9223372036854775807) :
    Calls Try.prog 93 #[.int .i64 q, .int .i64 d] w fun e w' => e = .returned (.agg #[.int .i64 (rOfN n d), .int .i64 (rOfD n d)]) ∧ Below w.heap.size w w' := by
  subst hq; exact spec_rOf q d w n0 n1 d0 d1
theorem impl_rOf_at (q n d : Int) (hq : q = n) (w : World) (n0 : -9223372036854775808 ≤ n) (n1 : n ≤ 9223372036854775807) (d0 : -9223372036854775808 ≤ d) (d1 : d ≤ 9223372036854775807) :
    Calls Try.prog 71 #[.int .i64 q, .int .i64 d] w fun e w' => e = .returned (.agg #[.int .i64 (rOfN n d), .int .i64 (rOfD n d)]) ∧ Below w.heap.size w w' := by
  subst hq; exact impl_rOf q d w n0 n1 d0 d1
theorem wrap_in {x : Int} (h0 : -9223372036854775808 ≤ x) (h1 : x ≤ 9223372036854775807) : IntKind.i64.wrap x = x := by rw [IntKind.wrap_i64]; omega
theorem net_scale {n e s : Int} {ws : List W3} (h : netB n e s ws = true) : 1 ≤ s ∧ s ≤ 1000 := by
  obtain ⟨⟨_, _, _, _, h1, h2⟩, _⟩ := netB_iff.1 h
  exact ⟨h1, h2⟩

set_option maxHeartbeats 3200000 in
theorem spec_scaled (n e s x : Int) (v : Value) (ws : List W3) (w : World) (hr : ReadsW w v ws) (h0 : -9223372036854775808 ≤ s * x) (h1 : s * x ≤ 9223372036854775807) :
    Calls Try.prog 115 #[.agg #[.int .i64 n, .int .i64 e, .int .i64 s, v], .int .i64 x] w fun en w' => en = .returned (.agg #[.int .i64 (rOfN (s * x) (treeR n e s ws)), .int .i64 (rOfD (s * x) (treeR n e s ws))]) ∧ Below w.heap.size w w' := by
  obtain ⟨p, cap, rfl⟩ := hr.shape
  obtain ⟨t0, t1⟩ := tree_range n e s ws
  have HR := Lib.hid hr; clear hr
  have hW := Lib.hid (wrap_in h0 h1)
  go_enter Try.func115, Try.ntmps115
  go_wp2
  have hS := nb_drew (nb_new (n := n) (e := e) (s := s) (p := p) (ws := ws) (cap := cap) (w := w) (t := 25) (u := 43))
  go_region_held3 (fun w' => w'.cell? ⟨w.heap.size, 0, none⟩ = some (.int .i64 n) ∧ w'.cell? ⟨w.heap.size, 1, none⟩ = some (.int .i64 e) ∧ w'.cell? ⟨w.heap.size, 2, none⟩ = some (.int .i64 s) ∧ w'.cell? ⟨w.heap.size, 3, none⟩ = some (.slice p ws.length cap) ∧ (∃ z0 z1, w'.cell? ⟨w.heap.size + 1, 0, none⟩ = some z0 ∧ w'.cell? ⟨w.heap.size + 1, 1, none⟩ = some z1 ∧ w'.frozen? ⟨w.heap.size + 1, 0, none⟩ = false ∧ w'.frozen? ⟨w.heap.size + 1, 1, none⟩ = false) ∧ w.heap.size + 1 < w'.heap.size ∧ Below w.heap.size w w')
    (first | exact hS | exact nb_set (nb_set hS))
    (first | (go_at_call 95; refine (spec_tree n e s _ ws _ (HR.out.later hS.2.2.2.2.2.2)).mono ?_; rintro en w1 ⟨rfl, B1⟩; replace hS := nb_keep B1 hS; obtain ⟨x1, x2, x3, x4, ⟨u0, u1, x5, x6, x7, x8⟩, x9, x10⟩ := id hS) | (go_at_call 93; refine (spec_rOf_at _ (s * x) _ hW.out _ (by omega) (by omega) (by omega) (by omega)).mono ?_; rintro en w1 ⟨rfl, B1⟩; replace hS := nb_keep B1 hS; obtain ⟨x1, x2, x3, x4, ⟨u0, u1, x5, x6, x7, x8⟩, x9, x10⟩ := id hS))
  all_goals
    go_wp2
    exact bodyPost_ret (v := (.agg #[.int .i64 (rOfN (s * x) (treeR n e s ws)), .int .i64 (rOfD (s * x) (treeR n e s ws))])) (by simp (maxDischargeDepth := 8) [results, Try.results115, go_sem, *]) rfl ⟨rfl, (x10.setCell (by first | omega | (simp; done) | (simp; omega)) _).setCell (by first | omega | (simp; done) | (simp; omega)) _⟩

theorem net_n {n e s : Int} {ws : List W3} (h : netB n e s ws = true) : 1 ≤ n ∧ n ≤ 5 := by
  obtain ⟨⟨h1, h2, _⟩, _⟩ := netB_iff.1 h
  exact ⟨h1, h2⟩
set_option maxHeartbeats 6400000 in
theorem spec_res (n e s a b : Int) (v : Value) (ws : List W3) (w : World) (hr : ReadsW w v ws) :
    Calls Try.prog 88 #[.agg #[.int .i64 n, .int .i64 e, .int .i64 s, v], .int .i64 a, .int .i64 b] w fun en w' => en = .returned (.tuple #[.agg #[.int .i64 (resR n e s ws a b).1, .int .i64 (resR n e s ws a b).2.1], .bool (resR n e s ws a b).2.2]) ∧ Below w.heap.size w w' := by
  have B0 : Below w.heap.size w ((w.alloc (.cells #[.int .i64 n, .int .i64 e, .int .i64 s, v] 25)).alloc (.cells #[.int .i64 0, .int .i64 0] 43)) := by (repeat (first | exact Below.refl _ _ | (refine Below.setCell ?_ (by (first | exact Nat.le_refl _ | omega | (simp <;> omega) | simp)) _) | (refine Below.alloc ?_ (by (first | exact Nat.le_refl _ | omega | (simp <;> omega) | simp)) _) | (refine below_draws ?_ _)))
  have hr0 := hr.later B0
  have hok := spec_netOk n e s v ws _ hr0
  obtain ⟨p, cap, rfl⟩ := hr.shape
  cases hb : netB n e s ws
  case false =>
    have HF : Hid (resR n e s ws a b = (0, 0, false)) := Lib.hid (by unfold resR; rw [if_neg (by simp [hb])])
    clear hr0 hr
    go_enter Try.func88, Try.ntmps88
    go_wp2_with fail
    refine hok.mono ?_
    rintro en w1 ⟨rfl, B1⟩
    obtain ⟨hc1, hf1⟩ := bcell B1
    have S1 := B1.size
    try simp at S1
    try (have _L1w : w.heap.size < w1.heap.size := by omega)
    have _M1w : w.heap.size ≤ w1.heap.size := by omega
    try (have _P1w_1 : w.heap.size + 1 < w1.heap.size := by omega)
    try (have _P1w_2 : w.heap.size + 1 + 1 < w1.heap.size := by omega)
    try (have _P1w_3 : w.heap.size + 1 + 1 + 1 < w1.heap.size := by omega)
    have _ : w1.cell? ⟨w.heap.size, 0, none⟩ = some (.int .i64 n) := by rw [hc1 (w.heap.size) 0 (by first | omega | (simp; done) | (simp; omega))]; first | assumption | (simp; done) | simp [go_sem, *]
    have _ : w1.frozen? ⟨w.heap.size, 0, none⟩ = false := by rw [hf1 (w.heap.size) 0 (by first | omega | (simp; done) | (simp; omega))]; first | assumption | (simp; done) | simp [go_sem, *]
    have _ : w1.cell? ⟨w.heap.size, 1, none⟩ = some (.int .i64 e) := by rw [hc1 (w.heap.size) 1 (by first | omega | (simp; done) | (simp; omega))]; first | assumption | (simp; done) | simp [go_sem, *]
    have _ : w1.frozen? ⟨w.heap.size, 1, none⟩ = false := by rw [hf1 (w.heap.size) 1 (by first | omega | (simp; done) | (simp; omega))]; first | assumption | (simp; done) | simp [go_sem, *]
    have _ : w1.cell? ⟨w.heap.size, 2, none⟩ = some (.int .i64 s) := by rw [hc1 (w.heap.size) 2 (by first | omega | (simp; done) | (simp; omega))]; first | assumption | (simp; done) | simp [go_sem, *]
    have _ : w1.frozen? ⟨w.heap.size, 2, none⟩ = false := by rw [hf1 (w.heap.size) 2 (by first | omega | (simp; done) | (simp; omega))]; first | assumption | (simp; done) | simp [go_sem, *]
    have _ : w1.cell? ⟨w.heap.size, 3, none⟩ = some (.slice p ws.length cap) := by rw [hc1 (w.heap.size) 3 (by first | omega | (simp; done) | (simp; omega))]; first | assumption | (simp; done) | simp [go_sem, *]
    have _ : w1.frozen? ⟨w.heap.size, 3, none⟩ = false := by rw [hf1 (w.heap.size) 3 (by first | omega | (simp; done) | (simp; omega))]; first | assumption | (simp; done) | simp [go_sem, *]
    have _ : w1.cell? ⟨w.heap.size + 1, 0, none⟩ = some (.int .i64 0) := by rw [hc1 (w.heap.size + 1) 0 (by first | omega | (simp; done) | (simp; omega))]; first | assumption | (simp; done) | simp [go_sem, *]
    have _ : w1.frozen? ⟨w.heap.size + 1, 0, none⟩ = false := by rw [hf1 (w.heap.size + 1) 0 (by first | omega | (simp; done) | (simp; omega))]; first | assumption | (simp; done) | simp [go_sem, *]
    have _ : w1.cell? ⟨w.heap.size + 1, 1, none⟩ = some (.int .i64 0) := by rw [hc1 (w.heap.size + 1) 1 (by first | omega | (simp; done) | (simp; omega))]; first | assumption | (simp; done) | simp [go_sem, *]
    have _ : w1.frozen? ⟨w.heap.size + 1, 1, none⟩ = false := by rw [hf1 (w.heap.size + 1) 1 (by first | omega | (simp; done) | (simp; omega))]; first | assumption | (simp; done) | simp [go_sem, *]
    clear hc1 hf1
    rw [hb]
    go_wp2
    exact bodyPost_ret (v := (.tuple #[.agg #[.int .i64 0, .int .i64 0], .bool false])) (by simp (maxDischargeDepth := 8) [results, Try.results88, go_sem, *]) rfl ⟨ret_ratio (by rw [HF.out]), by (repeat (first | exact Below.refl _ _ | (refine Below.setCell ?_ (by (first | exact Nat.le_refl _ | omega | (simp <;> omega) | simp)) _) | (refine Below.alloc ?_ (by (first | exact Nat.le_refl _ | omega | (simp <;> omega) | simp)) _) | (refine below_draws ?_ _) | exact B1 | (refine Below.trans ?_ (Below.mono B1 (by (first | exact Nat.le_refl _ | omega | (simp <;> omega) | simp))))))⟩
  case true =>
    obtain ⟨N1, N5⟩ := net_n hb
    by_cases ga : 0 ≤ a ∧ a < n
    case neg =>
      have HF : Hid (resR n e s ws a b = (0, 0, false)) := Lib.hid (by unfold resR; rw [if_neg (by omega)])
      clear hr0 hr
      go_enter Try.func88, Try.ntmps88
      go_wp2_with fail
      refine hok.mono ?_
      rintro en w1 ⟨rfl, B1⟩
      obtain ⟨hc1, hf1⟩ := bcell B1
      have S1 := B1.size
      try simp at S1
      try (have _L1w : w.heap.size < w1.heap.size := by omega)
      have _M1w : w.heap.size ≤ w1.heap.size := by omega
      try (have _P1w_1 : w.heap.size + 1 < w1.heap.size := by omega)
      try (have _P1w_2 : w.heap.size + 1 + 1 < w1.heap.size := by omega)
      try (have _P1w_3 : w.heap.size + 1 + 1 + 1 < w1.heap.size := by omega)
      have _ : w1.cell? ⟨w.heap.size, 0, none⟩ = some (.int .i64 n) := by rw [hc1 (w.heap.size) 0 (by first | omega | (simp; done) | (simp; omega))]; first | assumption | (simp; done) | simp [go_sem, *]
      have _ : w1.frozen? ⟨w.heap.size, 0, none⟩ = false := by rw [hf1 (w.heap.size) 0 (by first | omega | (simp; done) | (simp; omega))]; first | assumption | (simp; done) | simp [go_sem, *]
      have _ : w1.cell? ⟨w.heap.size, 1, none⟩ = some (.int .i64 e) := by rw [hc1 (w.heap.size) 1 (by first | omega | (simp; done) | (simp; omega))]; first | assumption | (simp; done) | simp [go_sem, *]
      have _ : w1.frozen? ⟨w.heap.size, 1, none⟩ = false := by rw [hf1 (w.heap.size) 1 (by first | omega | (simp; done) | (simp; omega))]; first | assumption | (simp; done) | simp [go_sem, *]
      have _ : w1.cell? ⟨w.heap.size, 2, none⟩ = some (.int .i64 s) := by rw [hc1 (w.heap.size) 2 (by first | omega | (simp; done) | (simp; omega))]; first | assumption | (simp; done) | simp [go_sem, *]
      have _ : w1.frozen? ⟨w.heap.size, 2, none⟩ = false := by rw [hf1 (w.heap.size) 2 (by first | omega | (simp; done) | (simp; omega))]; first | assumption | (simp; done) | simp [go_sem, *]
      have _ : w1.cell? ⟨w.heap.size, 3, none⟩ = some (.slice p ws.length cap) := by rw [hc1 (w.heap.size) 3 (by first | omega | (simp; done) | (simp; omega))]; first | assumption | (simp; done) | simp [go_sem, *]
      have _ : w1.frozen? ⟨w.heap.size, 3, none⟩ = false := by rw [hf1 (w.heap.size) 3 (by first | omega | (simp; done) | (simp; omega))]; first | assumption | (simp; done) | simp [go_sem, *]
      have _ : w1.cell? ⟨w.heap.size + 1, 0, none⟩ = some (.int .i64 0) := by rw [hc1 (w.heap.size + 1) 0 (by first | omega | (simp; done) | (simp; omega))]; first | assumption | (simp; done) | simp [go_sem, *]
      have _ : w1.frozen? ⟨w.heap.size + 1, 0, none⟩ = false := by rw [hf1 (w.heap.size + 1) 0 (by first | omega | (simp; done) | (simp; omega))]; first | assumption | (simp; done) | simp [go_sem, *]
      have _ : w1.cell? ⟨w.heap.size + 1, 1, none⟩ = some (.int .i64 0) := by rw [hc1 (w.heap.size + 1) 1 (by first | omega | (simp; done) | (simp; omega))]; first | assumption | (simp; done) | simp [go_sem, *]
      have _ : w1.frozen? ⟨w.heap.size + 1, 1, none⟩ = false := by rw [hf1 (w.heap.size + 1) 1 (by first | omega | (simp; done) | (simp; omega))]; first | assumption | (simp; done) | simp [go_sem, *]
      clear hc1 hf1
      rw [hb]
      go_wp2_with fail
      refine (in_no' a 0 (n - 1) _ _ (by omega) (by omega) (by omega) _).mono ?_
      rintro en wq ⟨rfl, rfl⟩
      go_wp2
      exact bodyPost_ret (v := (.tuple #[.agg #[.int .i64 0, .int .i64 0], .bool false])) (by simp (maxDischargeDepth := 8) [results, Try.results88, go_sem, *]) rfl ⟨ret_ratio (by rw [HF.out]), by (repeat (first | exact Below.refl _ _ | (refine Below.setCell ?_ (by (first | exact Nat.le_refl _ | omega | (simp <;> omega) | simp)) _) | (refine Below.alloc ?_ (by (first | exact Nat.le_refl _ | omega | (simp <;> omega) | simp)) _) | (refine below_draws ?_ _) | exact B1 | (refine Below.trans ?_ (Below.mono B1 (by (first | exact Nat.le_refl _ | omega | (simp <;> omega) | simp))))))⟩
    by_cases gb : 0 ≤ b ∧ b < n
    case neg =>
      have HF : Hid (resR n e s ws a b = (0, 0, false)) := Lib.hid (by unfold resR; rw [if_neg (by omega)])
      clear hr0 hr
      go_enter Try.func88, Try.ntmps88
      go_wp2_with fail
      refine hok.mono ?_
      rintro en w1 ⟨rfl, B1⟩
      obtain ⟨hc1, hf1⟩ := bcell B1
      have S1 := B1.size
      try simp at S1
      try (have _L1w : w.heap.size < w1.heap.size := by omega)
      have _M1w : w.heap.size ≤ w1.heap.size := by omega
      try (have _P1w_1 : w.heap.size + 1 < w1.heap.size := by omega)
      try (have _P1w_2 : w.heap.size + 1 + 1 < w1.heap.size := by omega)
      try (have _P1w_3 : w.heap.size + 1 + 1 + 1 < w1.heap.size := by omega)
      have _ : w1.cell? ⟨w.heap.size, 0, none⟩ = some (.int .i64 n) := by rw [hc1 (w.heap.size) 0 (by first | omega | (simp; done) | (simp; omega))]; first | assumption | (simp; done) | simp [go_sem, *]
      have _ : w1.frozen? ⟨w.heap.size, 0, none⟩ = false := by rw [hf1 (w.heap.size) 0 (by first | omega | (simp; done) | (simp; omega))]; first | assumption | (simp; done) | simp [go_sem, *]
      have _ : w1.cell? ⟨w.heap.size, 1, none⟩ = some (.int .i64 e) := by rw [hc1 (w.heap.size) 1 (by first | omega | (simp; done) | (simp; omega))]; first | assumption | (simp; done) | simp [go_sem, *]
      have _ : w1.frozen? ⟨w.heap.size, 1, none⟩ = false := by rw [hf1 (w.heap.size) 1 (by first | omega | (simp; done) | (simp; omega))]; first | assumption | (simp; done) | simp [go_sem, *]
      have _ : w1.cell? ⟨w.heap.size, 2, none⟩ = some (.int .i64 s) := by rw [hc1 (w.heap.size) 2 (by first | omega | (simp; done) | (simp; omega))]; first | assumption | (simp; done) | simp [go_sem, *]
      have _ : w1.frozen? ⟨w.heap.size, 2, none⟩ = false := by rw [hf1 (w.heap.size) 2 (by first | omega | (simp; done) | (simp; omega))]; first | assumption | (simp; done) | simp [go_sem, *]
      have _ : w1.cell? ⟨w.heap.size, 3, none⟩ = some (.slice p ws.length cap) := by rw [hc1 (w.heap.size) 3 (by first | omega | (simp; done) | (simp; omega))]; first | assumption | (simp; done) | simp [go_sem, *]
      have _ : w1.frozen? ⟨w.heap.size, 3, none⟩ = false := by rw [hf1 (w.heap.size) 3 (by first | omega | (simp; done) | (simp; omega))]; first | assumption | (simp; done) | simp [go_sem, *]
      have _ : w1.cell? ⟨w.heap.size + 1, 0, none⟩ = some (.int .i64 0) := by rw [hc1 (w.heap.size + 1) 0 (by first | omega | (simp; done) | (simp; omega))]; first | assumption | (simp; done) | simp [go_sem, *]
      have _ : w1.frozen? ⟨w.heap.size + 1, 0, none⟩ = false := by rw [hf1 (w.heap.size + 1) 0 (by first | omega | (simp; done) | (simp; omega))]; first | assumption | (simp; done) | simp [go_sem, *]
      have _ : w1.cell? ⟨w.heap.size + 1, 1, none⟩ = some (.int .i64 0) := by rw [hc1 (w.heap.size + 1) 1 (by first | omega | (simp; done) | (simp; omega))]; first | assumption | (simp; done) | simp [go_sem, *]
      have _ : w1.frozen? ⟨w.heap.size + 1, 1, none⟩ = false := by rw [hf1 (w.heap.size + 1) 1 (by first | omega | (simp; done) | (simp; omega))]; first | assumption | (simp; done) | simp [go_sem, *]
      clear hc1 hf1
      rw [hb]
      go_wp2_with fail
      refine (in_yes' a 0 (n - 1) _ _ (by omega) (by omega) (by omega) (by omega) _).mono ?_
      rintro en wq ⟨rfl, rfl⟩
      go_wp2_with fail
      refine (in_no' b 0 (n - 1) _ _ (by omega) (by omega) (by omega) _).mono ?_
      rintro en wq ⟨rfl, rfl⟩
      go_wp2
      exact bodyPost_ret (v := (.tuple #[.agg #[.int .i64 0, .int .i64 0], .bool false])) (by simp (maxDischargeDepth := 8) [results, Try.results88, go_sem, *]) rfl ⟨ret_ratio (by rw [HF.out]), by (repeat (first | exact Below.refl _ _ | (refine Below.setCell ?_ (by (first | exact Nat.le_refl _ | omega | (simp <;> omega) | simp)) _) | (refine Below.alloc ?_ (by (first | exact Nat.le_refl _ | omega | (simp <;> omega) | simp)) _) | (refine below_draws ?_ _) | exact B1 | (refine Below.trans ?_ (Below.mono B1 (by (first | exact Nat.le_refl _ | omega | (simp <;> omega) | simp))))))⟩
    have HF : Hid (resR n e s ws a b = (rOfN (s * forestR n e s ws a b) (treeR n e s ws), rOfD (s * forestR n e s ws a b) (treeR n e s ws), true)) := Lib.hid (by unfold resR; rw [if_pos ⟨hb, by omega⟩])
    obtain ⟨s1, s2⟩ := net_scale hb
    obtain ⟨f1, f2⟩ := forest_range n e s ws a b
    obtain ⟨t0, t1⟩ := tree_range n e s ws
    obtain ⟨q1, q2⟩ := scale_le s1 s2 f1 f2
    have HR := Lib.hid hr; clear hr hr0
    have hW := Lib.hid (wrap_in (x := s * forestR n e s ws a b) (by omega) (by omega))
    go_enter Try.func88, Try.ntmps88
    go_wp2_with fail
    refine hok.mono ?_
    rintro en w1 ⟨rfl, B1⟩
    obtain ⟨hc1, hf1⟩ := bcell B1
    have S1 := B1.size
    try simp at S1
    try (have _L1w : w.heap.size < w1.heap.size := by omega)
    have _M1w : w.heap.size ≤ w1.heap.size := by omega
    try (have _P1w_1 : w.heap.size + 1 < w1.heap.size := by omega)
    try (have _P1w_2 : w.heap.size + 1 + 1 < w1.heap.size := by omega)
    try (have _P1w_3 : w.heap.size + 1 + 1 + 1 < w1.heap.size := by omega)
    have _ : w1.cell? ⟨w.heap.size, 0, none⟩ = some (.int .i64 n) := by rw [hc1 (w.heap.size) 0 (by first | omega | (simp; done) | (simp; omega))]; first | assumption | (simp; done) | simp [go_sem, *]
    have _ : w1.frozen? ⟨w.heap.size, 0, none⟩ = false := by rw [hf1 (w.heap.size) 0 (by first | omega | (simp; done) | (simp; omega))]; first | assumption | (simp; done) | simp [go_sem, *]
    have _ : w1.cell? ⟨w.heap.size, 1, none⟩ = some (.int .i64 e) := by rw [hc1 (w.heap.size) 1 (by first | omega | (simp; done) | (simp; omega))]; first | assumption | (simp; done) | simp [go_sem, *]
    have _ : w1.frozen? ⟨w.heap.size, 1, none⟩ = false := by rw [hf1 (w.heap.size) 1 (by first | omega | (simp; done) | (simp; omega))]; first | assumption | (simp; done) | simp [go_sem, *]
    have _ : w1.cell? ⟨w.heap.size, 2, none⟩ = some (.int .i64 s) := by rw [hc1 (w.heap.size) 2 (by first | omega | (simp; done) | (simp; omega))]; first | assumption | (simp; done) | simp [go_sem, *]
    have _ : w1.frozen? ⟨w.heap.size, 2, none⟩ = false := by rw [hf1 (w.heap.size) 2 (by first | omega | (simp; done) | (simp; omega))]; first | assumption | (simp; done) | simp [go_sem, *]
    have _ : w1.cell? ⟨w.heap.size, 3, none⟩ = some (.slice p ws.length cap) := by rw [hc1 (w.heap.size) 3 (by first | omega | (simp; done) | (simp; omega))]; first | assumption | (simp; done) | simp [go_sem, *]
    have _ : w1.frozen? ⟨w.heap.size, 3, none⟩ = false := by rw [hf1 (w.heap.size) 3 (by first | omega | (simp; done) | (simp; omega))]; first | assumption | (simp; done) | simp [go_sem, *]
    have _ : w1.cell? ⟨w.heap.size + 1, 0, none⟩ = some (.int .i64 0) := by rw [hc1 (w.heap.size + 1) 0 (by first | omega | (simp; done) | (simp; omega))]; first | assumption | (simp; done) | simp [go_sem, *]
    have _ : w1.frozen? ⟨w.heap.size + 1, 0, none⟩ = false := by rw [hf1 (w.heap.size + 1) 0 (by first | omega | (simp; done) | (simp; omega))]; first | assumption | (simp; done) | simp [go_sem, *]
    have _ : w1.cell? ⟨w.heap.size + 1, 1, none⟩ = some (.int .i64 0) := by rw [hc1 (w.heap.size + 1) 1 (by first | omega | (simp; done) | (simp; omega))]; first | assumption | (simp; done) | simp [go_sem, *]
    have _ : w1.frozen? ⟨w.heap.size + 1, 1, none⟩ = false := by rw [hf1 (w.heap.size + 1) 1 (by first | omega | (simp; done) | (simp; omega))]; first | assumption | (simp; done) | simp [go_sem, *]
    clear hc1 hf1
    rw [hb]
    go_wp2_with fail
    refine (in_yes' a 0 (n - 1) _ _ (by omega) (by omega) (by omega) (by omega) _).mono ?_
    rintro en wq ⟨rfl, rfl⟩
    go_wp2_with fail
    refine (in_yes' b 0 (n - 1) _ _ (by omega) (by omega) (by omega) (by omega) _).mono ?_
    rintro en wq ⟨rfl, rfl⟩
    go_wp2
    have hS : w1.drew.cell? ⟨w.heap.size, 0, none⟩ = some (.int .i64 n) ∧ w1.drew.cell? ⟨w.heap.size, 1, none⟩ = some (.int .i64 e) ∧ w1.drew.cell? ⟨w.heap.size, 2, none⟩ = some (.int .i64 s) ∧ w1.drew.cell? ⟨w.heap.size, 3, none⟩ = some (.slice p ws.length cap) ∧ (∃ z0 z1, w1.drew.cell? ⟨w.heap.size + 1, 0, none⟩ = some z0 ∧ w1.drew.cell? ⟨w.heap.size + 1, 1, none⟩ = some z1 ∧ w1.drew.frozen? ⟨w.heap.size + 1, 0, none⟩ = false ∧ w1.drew.frozen? ⟨w.heap.size + 1, 1, none⟩ = false) ∧ w.heap.size + 1 < w1.drew.heap.size ∧ Below w.heap.size w w1.drew := ⟨by assumption, by assumption, by assumption, by assumption, ⟨_, _, by assumption, by assumption, by assumption, by assumption⟩, by (simp; omega), by (repeat (first | exact Below.refl _ _ | (refine Below.setCell ?_ (by (first | exact Nat.le_refl _ | omega | (simp <;> omega) | simp)) _) | (refine Below.alloc ?_ (by (first | exact Nat.le_refl _ | omega | (simp <;> omega) | simp)) _) | (refine below_draws ?_ _) | exact B1 | (refine Below.trans ?_ (Below.mono B1 (by (first | exact Nat.le_refl _ | omega | (simp <;> omega) | simp))))))⟩
    go_region_held3 (fun w' => w'.cell? ⟨w.heap.size, 0, none⟩ = some (.int .i64 n) ∧ w'.cell? ⟨w.heap.size, 1, none⟩ = some (.int .i64 e) ∧ w'.cell? ⟨w.heap.size, 2, none⟩ = some (.int .i64 s) ∧ w'.cell? ⟨w.heap.size, 3, none⟩ = some (.slice p ws.length cap) ∧ (∃ z0 z1, w'.cell? ⟨w.heap.size + 1, 0, none⟩ = some z0 ∧ w'.cell? ⟨w.heap.size + 1, 1, none⟩ = some z1 ∧ w'.frozen? ⟨w.heap.size + 1, 0, none⟩ = false ∧ w'.frozen? ⟨w.heap.size + 1, 1, none⟩ = false) ∧ w.heap.size + 1 < w'.heap.size ∧ Below w.heap.size w w')
      (first | exact hS | exact nb_set (nb_set hS))
      (first | (go_at_call 94; refine (spec_forest n e s a b _ ws _ (HR.out.later hS.2.2.2.2.2.2)).mono ?_; rintro en w9 ⟨rfl, B9⟩; replace hS := nb_keep B9 hS; obtain ⟨x1, x2, x3, x4, ⟨u0, u1, x5, x6, x7, x8⟩, x9, x10⟩ := id hS) | (go_at_call 115; refine (spec_scaled n e s _ _ ws _ (HR.out.later hS.2.2.2.2.2.2) (by omega) (by omega)).mono ?_; rintro en w9 ⟨rfl, B9⟩; replace hS := nb_keep B9 hS; obtain ⟨x1, x2, x3, x4, ⟨u0, u1, x5, x6, x7, x8⟩, x9, x10⟩ := id hS))
    all_goals
      go_wp2
      exact bodyPost_ret (v := (.tuple #[.agg #[.int .i64 (rOfN (s * forestR n e s ws a b) (treeR n e s ws)), .int .i64 (rOfD (s * forestR n e s ws a b) (treeR n e s ws))], .bool true])) (by simp (maxDischargeDepth := 8) [results, Try.results88, go_sem, *]) rfl ⟨ret_ratio (by rw [HF.out]), (x10.setCell (by first | omega | (simp; done) | (simp; omega)) _).setCell (by first | omega | (simp; done) | (simp; omega)) _⟩
set_option maxHeartbeats 6400000 in
theorem impl_res (n e s a b : Int) (v : Value) (ws : List W3) (w : World) (hr : ReadsW w v ws) :
    Calls Try.prog 23 #[.agg #[.int .i64 n, .int .i64 e, .int .i64 s, v], .int .i64 a, .int .i64 b] w fun en w' => en = .returned (.tuple #[.agg #[.int .i64 (resR n e s ws a b).1, .int .i64 (resR n e s ws a b).2.1], .bool (resR n e s ws a b).2.2]) ∧ Below w.heap.size w w' := by
  have B0 : Below w.heap.size w ((w.alloc (.cells #[.int .i64 n, .int .i64 e, .int .i64 s, v] 25)).alloc (.cells #[.int .i64 0, .int .i64 0] 43)) := by (repeat (first | exact Below.refl _ _ | (refine Below.setCell ?_ (by (first | exact Nat.le_refl _ | omega | (simp <;> omega) | simp)) _) | (refine Below.alloc ?_ (by (first | exact Nat.le_refl _ | omega | (simp <;> omega) | simp)) _) | (refine below_draws ?_ _)))
  have hr0 := hr.later B0
  have hok := impl_netOk n e s v ws _ hr0
  obtain ⟨p, cap, rfl⟩ := hr.shape
  cases hb : netB n e s ws
  case false =>
    have HF : Hid (resR n e s ws a b = (0, 0, false)) := Lib.hid (by unfold resR; rw [if_neg (by simp [hb])])
    clear hr0 hr
    go_enter Try.func23, Try.ntmps23
    go_wp2_with fail
    refine hok.mono ?_
    rintro en w1 ⟨rfl, B1⟩
    obtain ⟨hc1, hf1⟩ := bcell B1
    have S1 := B1.size
    try simp at S1
    try (have _L1w : w.heap.size < w1.heap.size := by omega)
    have _M1w : w.heap.size ≤ w1.heap.size := by omega
    try (have _P1w_1 : w.heap.size + 1 < w1.heap.size := by omega)
    try (have _P1w_2 : w.heap.size + 1 + 1 < w1.heap.size := by omega)
    try (have _P1w_3 : w.heap.size + 1 + 1 + 1 < w1.heap.size := by omega)
    have _ : w1.cell? ⟨w.heap.size, 0, none⟩ = some (.int .i64 n) := by rw [hc1 (w.heap.size) 0 (by first | omega | (simp; done) | (simp; omega))]; first | assumption | (simp; done) | simp [go_sem, *]
    have _ : w1.frozen? ⟨w.heap.size, 0, none⟩ = false := by rw [hf1 (w.heap.size) 0 (by first | omega | (simp; done) | (simp; omega))]; first | assumption | (simp; done) | simp [go_sem, *]
    have _ : w1.cell? ⟨w.heap.size, 1, none⟩ = some (.int .i64 e) := by rw [hc1 (w.heap.size) 1 (by first | omega | (simp; done) | (simp; omega))]; first | assumption | (simp; done) | simp [go_sem, *]
    have _ : w1.frozen? ⟨w.heap.size, 1, none⟩ = false := by rw [hf1 (w.heap.size) 1 (by first | omega | (simp; done) | (simp; omega))]; first | assumption | (simp; done) | simp [go_sem, *]
    have _ : w1.cell? ⟨w.heap.size, 2, none⟩ = some (.int .i64 s) := by rw [hc1 (w.heap.size) 2 (by first | omega | (simp; done) | (simp; omega))]; first | assumption | (simp; done) | simp [go_sem, *]
    have _ : w1.frozen? ⟨w.heap.size, 2, none⟩ = false := by rw [hf1 (w.heap.size) 2 (by first | omega | (simp; done) | (simp; omega))]; first | assumption | (simp; done) | simp [go_sem, *]
    have _ : w1.cell? ⟨w.heap.size, 3, none⟩ = some (.slice p ws.length cap) := by rw [hc1 (w.heap.size) 3 (by first | omega | (simp; done) | (simp; omega))]; first | assumption | (simp; done) | simp [go_sem, *]
    have _ : w1.frozen? ⟨w.heap.size, 3, none⟩ = false := by rw [hf1 (w.heap.size) 3 (by first | omega | (simp; done) | (simp; omega))]; first | assumption | (simp; done) | simp [go_sem, *]
    have _ : w1.cell? ⟨w.heap.size + 1, 0, none⟩ = some (.int .i64 0) := by rw [hc1 (w.heap.size + 1) 0 (by first | omega | (simp; done) | (simp; omega))]; first | assumption | (simp; done) | simp [go_sem, *]
    have _ : w1.frozen? ⟨w.heap.size + 1, 0, none⟩ = false := by rw [hf1 (w.heap.size + 1) 0 (by first | omega | (simp; done) | (simp; omega))]; first | assumption | (simp; done) | simp [go_sem, *]
    have _ : w1.cell? ⟨w.heap.size + 1, 1, none⟩ = some (.int .i64 0) := by rw [hc1 (w.heap.size + 1) 1 (by first | omega | (simp; done) | (simp; omega))]; first | assumption | (simp; done) | simp [go_sem, *]
    have _ : w1.frozen? ⟨w.heap.size + 1, 1, none⟩ = false := by rw [hf1 (w.heap.size + 1) 1 (by first | omega | (simp; done) | (simp; omega))]; first | assumption | (simp; done) | simp [go_sem, *]
    clear hc1 hf1
    rw [hb]
    go_wp2
    exact bodyPost_ret (v := (.tuple #[.agg #[.int .i64 0, .int .i64 0], .bool false])) (by simp (maxDischargeDepth := 8) [results, Try.results23, go_sem, *]) rfl ⟨ret_ratio (by rw [HF.out]), by (repeat (first | exact Below.refl _ _ | (refine Below.setCell ?_ (by (first | exact Nat.le_refl _ | omega | (simp <;> omega) | simp)) _) | (refine Below.alloc ?_ (by (first | exact Nat.le_refl _ | omega | (simp <;> omega) | simp)) _) | (refine below_draws ?_ _) | exact B1 | (refine Below.trans ?_ (Below.mono B1 (by (first | exact Nat.le_refl _ | omega | (simp <;> omega) | simp))))))⟩
  case true =>
    obtain ⟨N1, N5⟩ := net_n hb
    by_cases ga : 0 ≤ a ∧ a < n
    case neg =>
      have HF : Hid (resR n e s ws a b = (0, 0, false)) := Lib.hid (by unfold resR; rw [if_neg (by omega)])
      clear hr0 hr
      go_enter Try.func23, Try.ntmps23
      go_wp2_with fail
      refine hok.mono ?_
      rintro en w1 ⟨rfl, B1⟩
      obtain ⟨hc1, hf1⟩ := bcell B1
      have S1 := B1.size
      try simp at S1
      try (have _L1w : w.heap.size < w1.heap.size := by omega)
      have _M1w : w.heap.size ≤ w1.heap.size := by omega
      try (have _P1w_1 : w.heap.size + 1 < w1.heap.size := by omega)
      try (have _P1w_2 : w.heap.size + 1 + 1 < w1.heap.size := by omega)
      try (have _P1w_3 : w.heap.size + 1 + 1 + 1 < w1.heap.size := by omega)
      have _ : w1.cell? ⟨w.heap.size, 0, none⟩ = some (.int .i64 n) := by rw [hc1 (w.heap.size) 0 (by first | omega | (simp; done) | (simp; omega))]; first | assumption | (simp; done) | simp [go_sem, *]
      have _ : w1.frozen? ⟨w.heap.size, 0, none⟩ = false := by rw [hf1 (w.heap.size) 0 (by first | omega | (simp; done) | (simp; omega))]; first | assumption | (simp; done) | simp [go_sem, *]
      have _ : w1.cell? ⟨w.heap.size, 1, none⟩ = some (.int .i64 e) := by rw [hc1 (w.heap.size) 1 (by first | omega | (simp; done) | (simp; omega))]; first | assumption | (simp; done) | simp [go_sem, *]
      have _ : w1.frozen? ⟨w.heap.size, 1, none⟩ = false := by rw [hf1 (w.heap.size) 1 (by first | omega | (simp; done) | (simp; omega))]; first | assumption | (simp; done) | simp [go_sem, *]
      have _ : w1.cell? ⟨w.heap.size, 2, none⟩ = some (.int .i64 s) := by rw [hc1 (w.heap.size) 2 (by first | omega | (simp; done) | (simp; omega))]; first | assumption | (simp; done) | simp [go_sem, *]
      have _ : w1.frozen? ⟨w.heap.size, 2, none⟩ = false := by rw [hf1 (w.heap.size) 2 (by first | omega | (simp; done) | (simp; omega))]; first | assumption | (simp; done) | simp [go_sem, *]
      have _ : w1.cell? ⟨w.heap.size, 3, none⟩ = some (.slice p ws.length cap) := by rw [hc1 (w.heap.size) 3 (by first | omega | (simp; done) | (simp; omega))]; first | assumption | (simp; done) | simp [go_sem, *]
      have _ : w1.frozen? ⟨w.heap.size, 3, none⟩ = false := by rw [hf1 (w.heap.size) 3 (by first | omega | (simp; done) | (simp; omega))]; first | assumption | (simp; done) | simp [go_sem, *]
      have _ : w1.cell? ⟨w.heap.size + 1, 0, none⟩ = some (.int .i64 0) := by rw [hc1 (w.heap.size + 1) 0 (by first | omega | (simp; done) | (simp; omega))]; first | assumption | (simp; done) | simp [go_sem, *]
      have _ : w1.frozen? ⟨w.heap.size + 1, 0, none⟩ = false := by rw [hf1 (w.heap.size + 1) 0 (by first | omega | (simp; done) | (simp; omega))]; first | assumption | (simp; done) | simp [go_sem, *]
      have _ : w1.cell? ⟨w.heap.size + 1, 1, none⟩ = some (.int .i64 0) := by rw [hc1 (w.heap.size + 1) 1 (by first | omega | (simp; done) | (simp; omega))]; first | assumption | (simp; done) | simp [go_sem, *]
      have _ : w1.frozen? ⟨w.heap.size + 1, 1, none⟩ = false := by rw [hf1 (w.heap.size + 1) 1 (by first | omega | (simp; done) | (simp; omega))]; first | assumption | (simp; done) | simp [go_sem, *]
      clear hc1 hf1
      rw [hb]
      go_wp2_with fail
      refine (hasN_any n e s a _ _).mono ?_
      rintro en w2 ⟨rfl, B2⟩
      obtain ⟨hc2, hf2⟩ := bcell B2
      have S2 := B2.size
      try simp at S2
      try (have _L2w : w.heap.size < w2.heap.size := by omega)
      have _M2w : w.heap.size ≤ w2.heap.size := by omega
      try (have _P2w_1 : w.heap.size + 1 < w2.heap.size := by omega)
      try (have _P2w_2 : w.heap.size + 1 + 1 < w2.heap.size := by omega)
      try (have _P2w_3 : w.heap.size + 1 + 1 + 1 < w2.heap.size := by omega)
      try (have _L2w1 : w1.heap.size < w2.heap.size := by omega)
      have _M2w1 : w1.heap.size ≤ w2.heap.size := by omega
      try (have _P2w1_1 : w1.heap.size + 1 < w2.heap.size := by omega)
      try (have _P2w1_2 : w1.heap.size + 1 + 1 < w2.heap.size := by omega)
      try (have _P2w1_3 : w1.heap.size + 1 + 1 + 1 < w2.heap.size := by omega)
      have _ : w2.cell? ⟨w.heap.size, 0, none⟩ = some (.int .i64 n) := by rw [hc2 (w.heap.size) 0 (by first | omega | (simp; done) | (simp; omega))]; first | assumption | (simp; done) | simp [go_sem, *]
      have _ : w2.frozen? ⟨w.heap.size, 0, none⟩ = false := by rw [hf2 (w.heap.size) 0 (by first | omega | (simp; done) | (simp; omega))]; first | assumption | (simp; done) | simp [go_sem, *]
      have _ : w2.cell? ⟨w.heap.size, 1, none⟩ = some (.int .i64 e) := by rw [hc2 (w.heap.size) 1 (by first | omega | (simp; done) | (simp; omega))]; first | assumption | (simp; done) | simp [go_sem, *]
      have _ : w2.frozen? ⟨w.heap.size, 1, none⟩ = false := by rw [hf2 (w.heap.size) 1 (by first | omega | (simp; done) | (simp; omega))]; first | assumption | (simp; done) | simp [go_sem, *]
      have _ : w2.cell? ⟨w.heap.size, 2, none⟩ = some (.int .i64 s) := by rw [hc2 (w.heap.size) 2 (by first | omega | (simp; done) | (simp; omega))]; first | assumption | (simp; done) | simp [go_sem, *]
      have _ : w2.frozen? ⟨w.heap.size, 2, none⟩ = false := by rw [hf2 (w.heap.size) 2 (by first | omega | (simp; done) | (simp; omega))]; first | assumption | (simp; done) | simp [go_sem, *]
      have _ : w2.cell? ⟨w.heap.size, 3, none⟩ = some (.slice p ws.length cap) := by rw [hc2 (w.heap.size) 3 (by first | omega | (simp; done) | (simp; omega))]; first | assumption | (simp; done) | simp [go_sem, *]
      have _ : w2.frozen? ⟨w.heap.size, 3, none⟩ = false := by rw [hf2 (w.heap.size) 3 (by first | omega | (simp; done) | (simp; omega))]; first | assumption | (simp; done) | simp [go_sem, *]
      have _ : w2.cell? ⟨w.heap.size + 1, 0, none⟩ = some (.int .i64 0) := by rw [hc2 (w.heap.size + 1) 0 (by first | omega | (simp; done) | (simp; omega))]; first | assumption | (simp; done) | simp [go_sem, *]
      have _ : w2.frozen? ⟨w.heap.size + 1, 0, none⟩ = false := by rw [hf2 (w.heap.size + 1) 0 (by first | omega | (simp; done) | (simp; omega))]; first | assumption | (simp; done) | simp [go_sem, *]
      have _ : w2.cell? ⟨w.heap.size + 1, 1, none⟩ = some (.int .i64 0) := by rw [hc2 (w.heap.size + 1) 1 (by first | omega | (simp; done) | (simp; omega))]; first | assumption | (simp; done) | simp [go_sem, *]
      have _ : w2.frozen? ⟨w.heap.size + 1, 1, none⟩ = false := by rw [hf2 (w.heap.size + 1) 1 (by first | omega | (simp; done) | (simp; omega))]; first | assumption | (simp; done) | simp [go_sem, *]
      clear hc2 hf2
      rw [show hasB n a = false by simp [hasB]; omega]
      go_wp2
      exact bodyPost_ret (v := (.tuple #[.agg #[.int .i64 0, .int .i64 0], .bool false])) (by simp (maxDischargeDepth := 8) [results, Try.results23, go_sem, *]) rfl ⟨ret_ratio (by rw [HF.out]), by (repeat (first | exact Below.refl _ _ | (refine Below.setCell ?_ (by (first | exact Nat.le_refl _ | omega | (simp <;> omega) | simp)) _) | (refine Below.alloc ?_ (by (first | exact Nat.le_refl _ | omega | (simp <;> omega) | simp)) _) | (refine below_draws ?_ _) | exact B1 | (refine Below.trans ?_ (Below.mono B1 (by (first | exact Nat.le_refl _ | omega | (simp <;> omega) | simp)))) | exact B2 | (refine Below.trans ?_ (Below.mono B2 (by (first | exact Nat.le_refl _ | omega | (simp <;> omega) | simp))))))⟩
    by_cases gb : 0 ≤ b ∧ b < n
    case neg =>
      have HF : Hid (resR n e s ws a b = (0, 0, false)) := Lib.hid (by unfold resR; rw [if_neg (by omega)])
      clear hr0 hr
      go_enter Try.func23, Try.ntmps23
      go_wp2_with fail
      refine hok.mono ?_
      rintro en w1 ⟨rfl, B1⟩
      obtain ⟨hc1, hf1⟩ := bcell B1
      have S1 := B1.size
      try simp at S1
      try (have _L1w : w.heap.size < w1.heap.size := by omega)
      have _M1w : w.heap.size ≤ w1.heap.size := by omega
      try (have _P1w_1 : w.heap.size + 1 < w1.heap.size := by omega)
      try (have _P1w_2 : w.heap.size + 1 + 1 < w1.heap.size := by omega)
      try (have _P1w_3 : w.heap.size + 1 + 1 + 1 < w1.heap.size := by omega)
      have _ : w1.cell? ⟨w.heap.size, 0, none⟩ = some (.int .i64 n) := by rw [hc1 (w.heap.size) 0 (by first | omega | (simp; done) | (simp; omega))]; first | assumption | (simp; done) | simp [go_sem, *]
      have _ : w1.frozen? ⟨w.heap.size, 0, none⟩ = false := by rw [hf1 (w.heap.size) 0 (by first | omega | (simp; done) | (simp; omega))]; first | assumption | (simp; done) | simp [go_sem, *]
      have _ : w1.cell? ⟨w.heap.size, 1, none⟩ = some (.int .i64 e) := by rw [hc1 (w.heap.size) 1 (by first | omega | (simp; done) | (simp; omega))]; first | assumption | (simp; done) | simp [go_sem, *]
      have _ : w1.frozen? ⟨w.heap.size, 1, none⟩ = false := by rw [hf1 (w.heap.size) 1 (by first | omega | (simp; done) | (simp; omega))]; first | assumption | (simp; done) | simp [go_sem, *]
      have _ : w1.cell? ⟨w.heap.size, 2, none⟩ = some (.int .i64 s) := by rw [hc1 (w.heap.size) 2 (by first | omega | (simp; done) | (simp; omega))]; first | assumption | (simp; done) | simp [go_sem, *]
      have _ : w1.frozen? ⟨w.heap.size, 2, none⟩ = false := by rw [hf1 (w.heap.size) 2 (by first | omega | (simp; done) | (simp; omega))]; first | assumption | (simp; done) | simp [go_sem, *]
      have _ : w1.cell? ⟨w.heap.size, 3, none⟩ = some (.slice p ws.length cap) := by rw [hc1 (w.heap.size) 3 (by first | omega | (simp; done) | (simp; omega))]; first | assumption | (simp; done) | simp [go_sem, *]
      have _ : w1.frozen? ⟨w.heap.size, 3, none⟩ = false := by rw [hf1 (w.heap.size) 3 (by first | omega | (simp; done) | (simp; omega))]; first | assumption | (simp; done) | simp [go_sem, *]
      have _ : w1.cell? ⟨w.heap.size + 1, 0, none⟩ = some (.int .i64 0) := by rw [hc1 (w.heap.size + 1) 0 (by first | omega | (simp; done) | (simp; omega))]; first | assumption | (simp; done) | simp [go_sem, *]
      have _ : w1.frozen? ⟨w.heap.size + 1, 0, none⟩ = false := by rw [hf1 (w.heap.size + 1) 0 (by first | omega | (simp; done) | (simp; omega))]; first | assumption | (simp; done) | simp [go_sem, *]
      have _ : w1.cell? ⟨w.heap.size + 1, 1, none⟩ = some (.int .i64 0) := by rw [hc1 (w.heap.size + 1) 1 (by first | omega | (simp; done) | (simp; omega))]; first | assumption | (simp; done) | simp [go_sem, *]
      have _ : w1.frozen? ⟨w.heap.size + 1, 1, none⟩ = false := by rw [hf1 (w.heap.size + 1) 1 (by first | omega | (simp; done) | (simp; omega))]; first | assumption | (simp; done) | simp [go_sem, *]
      clear hc1 hf1
      rw [hb]
      go_wp2_with fail
      refine (hasN_any n e s a _ _).mono ?_
      rintro en w2 ⟨rfl, B2⟩
      obtain ⟨hc2, hf2⟩ := bcell B2
      have S2 := B2.size
      try simp at S2
      try (have _L2w : w.heap.size < w2.heap.size := by omega)
      have _M2w : w.heap.size ≤ w2.heap.size := by omega
      try (have _P2w_1 : w.heap.size + 1 < w2.heap.size := by omega)
      try (have _P2w_2 : w.heap.size + 1 + 1 < w2.heap.size := by omega)
      try (have _P2w_3 : w.heap.size + 1 + 1 + 1 < w2.heap.size := by omega)
      try (have _L2w1 : w1.heap.size < w2.heap.size := by omega)
      have _M2w1 : w1.heap.size ≤ w2.heap.size := by omega
      try (have _P2w1_1 : w1.heap.size + 1 < w2.heap.size := by omega)
      try (have _P2w1_2 : w1.heap.size + 1 + 1 < w2.heap.size := by omega)
      try (have _P2w1_3 : w1.heap.size + 1 + 1 + 1 < w2.heap.size := by omega)
      have _ : w2.cell? ⟨w.heap.size, 0, none⟩ = some (.int .i64 n) := by rw [hc2 (w.heap.size) 0 (by first | omega | (simp; done) | (simp; omega))]; first | assumption | (simp; done) | simp [go_sem, *]
      have _ : w2.frozen? ⟨w.heap.size, 0, none⟩ = false := by rw [hf2 (w.heap.size) 0 (by first | omega | (simp; done) | (simp; omega))]; first | assumption | (simp; done) | simp [go_sem, *]
      have _ : w2.cell? ⟨w.heap.size, 1, none⟩ = some (.int .i64 e) := by rw [hc2 (w.heap.size) 1 (by first | omega | (simp; done) | (simp; omega))]; first | assumption | (simp; done) | simp [go_sem, *]
      have _ : w2.frozen? ⟨w.heap.size, 1, none⟩ = false := by rw [hf2 (w.heap.size) 1 (by first | omega | (simp; done) | (simp; omega))]; first | assumption | (simp; done) | simp [go_sem, *]
      have _ : w2.cell? ⟨w.heap.size, 2, none⟩ = some (.int .i64 s) := by rw [hc2 (w.heap.size) 2 (by first | omega | (simp; done) | (simp; omega))]; first | assumption | (simp; done) | simp [go_sem, *]
      have _ : w2.frozen? ⟨w.heap.size, 2, none⟩ = false := by rw [hf2 (w.heap.size) 2 (by first | omega | (simp; done) | (simp; omega))]; first | assumption | (simp; done) | simp [go_sem, *]
      have _ : w2.cell? ⟨w.heap.size, 3, none⟩ = some (.slice p ws.length cap) := by rw [hc2 (w.heap.size) 3 (by first | omega | (simp; done) | (simp; omega))]; first | assumption | (simp; done) | simp [go_sem, *]
      have _ : w2.frozen? ⟨w.heap.size, 3, none⟩ = false := by rw [hf2 (w.heap.size) 3 (by first | omega | (simp; done) | (simp; omega))]; first | assumption | (simp; done) | simp [go_sem, *]
      have _ : w2.cell? ⟨w.heap.size + 1, 0, none⟩ = some (.int .i64 0) := by rw [hc2 (w.heap.size + 1) 0 (by first | omega | (simp; done) | (simp; omega))]; first | assumption | (simp; done) | simp [go_sem, *]
      have _ : w2.frozen? ⟨w.heap.size + 1, 0, none⟩ = false := by rw [hf2 (w.heap.size + 1) 0 (by first | omega | (simp; done) | (simp; omega))]; first | assumption | (simp; done) | simp [go_sem, *]
      have _ : w2.cell? ⟨w.heap.size + 1, 1, none⟩ = some (.int .i64 0) := by rw [hc2 (w.heap.size + 1) 1 (by first | omega | (simp; done) | (simp; omega))]; first | assumption | (simp; done) | simp [go_sem, *]
      have _ : w2.frozen? ⟨w.heap.size + 1, 1, none⟩ = false := by rw [hf2 (w.heap.size + 1) 1 (by first | omega | (simp; done) | (simp; omega))]; first | assumption | (simp; done) | simp [go_sem, *]
      clear hc2 hf2
      rw [show hasB n a = true by simp [hasB]; omega]
      go_wp2_with fail
      refine (hasN_any n e s b _ _).mono ?_
      rintro en w3 ⟨rfl, B3⟩
      obtain ⟨hc3, hf3⟩ := bcell B3
      have S3 := B3.size
      try simp at S3
      try (have _L3w : w.heap.size < w3.heap.size := by omega)
      have _M3w : w.heap.size ≤ w3.heap.size := by omega
      try (have _P3w_1 : w.heap.size + 1 < w3.heap.size := by omega)
      try (have _P3w_2 : w.heap.size + 1 + 1 < w3.heap.size := by omega)
      try (have _P3w_3 : w.heap.size + 1 + 1 + 1 < w3.heap.size := by omega)
      try (have _L3w1 : w1.heap.size < w3.heap.size := by omega)
      have _M3w1 : w1.heap.size ≤ w3.heap.size := by omega
      try (have _P3w1_1 : w1.heap.size + 1 < w3.heap.size := by omega)
      try (have _P3w1_2 : w1.heap.size + 1 + 1 < w3.heap.size := by omega)
      try (have _P3w1_3 : w1.heap.size + 1 + 1 + 1 < w3.heap.size := by omega)
      try (have _L3w2 : w2.heap.size < w3.heap.size := by omega)
      have _M3w2 : w2.heap.size ≤ w3.heap.size := by omega
      try (have _P3w2_1 : w2.heap.size + 1 < w3.heap.size := by omega)
      try (have _P3w2_2 : w2.heap.size + 1 + 1 < w3.heap.size := by omega)
      try (have _P3w2_3 : w2.heap.size + 1 + 1 + 1 < w3.heap.size := by omega)
      have _ : w3.cell? ⟨w.heap.size, 0, none⟩ = some (.int .i64 n) := by rw [hc3 (w.heap.size) 0 (by first | omega | (simp; done) | (simp; omega))]; first | assumption | (simp; done) | simp [go_sem, *]
      have _ : w3.frozen? ⟨w.heap.size, 0, none⟩ = false := by rw [hf3 (w.heap.size) 0 (by first | omega | (simp; done) | (simp; omega))]; first | assumption | (simp; done) | simp [go_sem, *]
      have _ : w3.cell? ⟨w.heap.size, 1, none⟩ = some (.int .i64 e) := by rw [hc3 (w.heap.size) 1 (by first | omega | (simp; done) | (simp; omega))]; first | assumption | (simp; done) | simp [go_sem, *]
      have _ : w3.frozen? ⟨w.heap.size, 1, none⟩ = false := by rw [hf3 (w.heap.size) 1 (by first | omega | (simp; done) | (simp; omega))]; first | assumption | (simp; done) | simp [go_sem, *]
      have _ : w3.cell? ⟨w.heap.size, 2, none⟩ = some (.int .i64 s) := by rw [hc3 (w.heap.size) 2 (by first | omega | (simp; done) | (simp; omega))]; first | assumption | (simp; done) | simp [go_sem, *]
      have _ : w3.frozen? ⟨w.heap.size, 2, none⟩ = false := by rw [hf3 (w.heap.size) 2 (by first | omega | (simp; done) | (simp; omega))]; first | assumption | (simp; done) | simp [go_sem, *]
      have _ : w3.cell? ⟨w.heap.size, 3, none⟩ = some (.slice p ws.length cap) := by rw [hc3 (w.heap.size) 3 (by first | omega | (simp; done) | (simp; omega))]; first | assumption | (simp; done) | simp [go_sem, *]
      have _ : w3.frozen? ⟨w.heap.size, 3, none⟩ = false := by rw [hf3 (w.heap.size) 3 (by first | omega | (simp; done) | (simp; omega))]; first | assumption | (simp; done) | simp [go_sem, *]
      have _ : w3.cell? ⟨w.heap.size + 1, 0, none⟩ = some (.int .i64 0) := by rw [hc3 (w.heap.size + 1) 0 (by first | omega | (simp; done) | (simp; omega))]; first | assumption | (simp; done) | simp [go_sem, *]
      have _ : w3.frozen? ⟨w.heap.size + 1, 0, none⟩ = false := by rw [hf3 (w.heap.size + 1) 0 (by first | omega | (simp; done) | (simp; omega))]; first | assumption | (simp; done) | simp [go_sem, *]
      have _ : w3.cell? ⟨w.heap.size + 1, 1, none⟩ = some (.int .i64 0) := by rw [hc3 (w.heap.size + 1) 1 (by first | omega | (simp; done) | (simp; omega))]; first | assumption | (simp; done) | simp [go_sem, *]
      have _ : w3.frozen? ⟨w.heap.size + 1, 1, none⟩ = false := by rw [hf3 (w.heap.size + 1) 1 (by first | omega | (simp; done) | (simp; omega))]; first | assumption | (simp; done) | simp [go_sem, *]
      clear hc3 hf3
      rw [show hasB n b = false by simp [hasB]; omega]
      go_wp2
      exact bodyPost_ret (v := (.tuple #[.agg #[.int .i64 0, .int .i64 0], .bool false])) (by simp (maxDischargeDepth := 8) [results, Try.results23, go_sem, *]) rfl ⟨ret_ratio (by rw [HF.out]), by (repeat (first | exact Below.refl _ _ | (refine Below.setCell ?_ (by (first | exact Nat.le_refl _ | omega | (simp <;> omega) | simp)) _) | (refine Below.alloc ?_ (by (first | exact Nat.le_refl _ | omega | (simp <;> omega) | simp)) _) | (refine below_draws ?_ _) | exact B1 | (refine Below.trans ?_ (Below.mono B1 (by (first | exact Nat.le_refl _ | omega | (simp <;> omega) | simp)))) | exact B2 | (refine Below.trans ?_ (Below.mono B2 (by (first | exact Nat.le_refl _ | omega | (simp <;> omega) | simp)))) | exact B3 | (refine Below.trans ?_ (Below.mono B3 (by (first | exact Nat.le_refl _ | omega | (simp <;> omega) | simp))))))⟩
    have HF : Hid (resR n e s ws a b = (rOfN (s * forestR n e s ws a b) (treeR n e s ws), rOfD (s * forestR n e s ws a b) (treeR n e s ws), true)) := Lib.hid (by unfold resR; rw [if_pos ⟨hb, by omega⟩])
    obtain ⟨s1, s2⟩ := net_scale hb
    obtain ⟨f1, f2⟩ := forest_range n e s ws a b
    obtain ⟨t0, t1⟩ := tree_range n e s ws
    obtain ⟨q1, q2⟩ := scale_le s1 s2 f1 f2
    have HR := Lib.hid hr; clear hr hr0
    have hW := Lib.hid (wrap_in (x := s * forestR n e s ws a b) (by omega) (by omega))
    go_enter Try.func23, Try.ntmps23
    go_wp2_with fail
    refine hok.mono ?_
    rintro en w1 ⟨rfl, B1⟩
    obtain ⟨hc1, hf1⟩ := bcell B1
    have S1 := B1.size
    try simp at S1
    try (have _L1w : w.heap.size < w1.heap.size := by omega)
    have _M1w : w.heap.size ≤ w1.heap.size := by omega
    try (have _P1w_1 : w.heap.size + 1 < w1.heap.size := by omega)
    try (have _P1w_2 : w.heap.size + 1 + 1 < w1.heap.size := by omega)
    try (have _P1w_3 : w.heap.size + 1 + 1 + 1 < w1.heap.size := by omega)
    have _ : w1.cell? ⟨w.heap.size, 0, none⟩ = some (.int .i64 n) := by rw [hc1 (w.heap.size) 0 (by first | omega | (simp; done) | (simp; omega))]; first | assumption | (simp; done) | simp [go_sem, *]
    have _ : w1.frozen? ⟨w.heap.size, 0, none⟩ = false := by rw [hf1 (w.heap.size) 0 (by first | omega | (simp; done) | (simp; omega))]; first | assumption | (simp; done) | simp [go_sem, *]
    have _ : w1.cell? ⟨w.heap.size, 1, none⟩ = some (.int .i64 e) := by rw [hc1 (w.heap.size) 1 (by first | omega | (simp; done) | (simp; omega))]; first | assumption | (simp; done) | simp [go_sem, *]
    have _ : w1.frozen? ⟨w.heap.size, 1, none⟩ = false := by rw [hf1 (w.heap.size) 1 (by first | omega | (simp; done) | (simp; omega))]; first | assumption | (simp; done) | simp [go_sem, *]
    have _ : w1.cell? ⟨w.heap.size, 2, none⟩ = some (.int .i64 s) := by rw [hc1 (w.heap.size) 2 (by first | omega | (simp; done) | (simp; omega))]; first | assumption | (simp; done) | simp [go_sem, *]
    have _ : w1.frozen? ⟨w.heap.size, 2, none⟩ = false := by rw [hf1 (w.heap.size) 2 (by first | omega | (simp; done) | (simp; omega))]; first | assumption | (simp; done) | simp [go_sem, *]
    have _ : w1.cell? ⟨w.heap.size, 3, none⟩ = some (.slice p ws.length cap) := by rw [hc1 (w.heap.size) 3 (by first | omega | (simp; done) | (simp; omega))]; first | assumption | (simp; done) | simp [go_sem, *]
    have _ : w1.frozen? ⟨w.heap.size, 3, none⟩ = false := by rw [hf1 (w.heap.size) 3 (by first | omega | (simp; done) | (simp; omega))]; first | assumption | (simp; done) | simp [go_sem, *]
    have _ : w1.cell? ⟨w.heap.size + 1, 0, none⟩ = some (.int .i64 0) := by rw [hc1 (w.heap.size + 1) 0 (by first | omega | (simp; done) | (simp; omega))]; first | assumption | (simp; done) | simp [go_sem, *]
    have _ : w1.frozen? ⟨w.heap.size + 1, 0, none⟩ = false := by rw [hf1 (w.heap.size + 1) 0 (by first | omega | (simp; done) | (simp; omega))]; first | assumption | (simp; done) | simp [go_sem, *]
    have _ : w1.cell? ⟨w.heap.size + 1, 1, none⟩ = some (.int .i64 0) := by rw [hc1 (w.heap.size + 1) 1 (by first | omega | (simp; done) | (simp; omega))]; first | assumption | (simp; done) | simp [go_sem, *]
    have _ : w1.frozen? ⟨w.heap.size + 1, 1, none⟩ = false := by rw [hf1 (w.heap.size + 1) 1 (by first | omega | (simp; done) | (simp; omega))]; first | assumption | (simp; done) | simp [go_sem, *]
    clear hc1 hf1
    rw [hb]
    go_wp2_with fail
    refine (hasN_any n e s a _ _).mono ?_
    rintro en w2 ⟨rfl, B2⟩
    obtain ⟨hc2, hf2⟩ := bcell B2
    have S2 := B2.size
    try simp at S2
    try (have _L2w : w.heap.size < w2.heap.size := by omega)
    have _M2w : w.heap.size ≤ w2.heap.size := by omega
    try (have _P2w_1 : w.heap.size + 1 < w2.heap.size := by omega)
    try (have _P2w_2 : w.heap.size + 1 + 1 < w2.heap.size := by omega)
    try (have _P2w_3 : w.heap.size + 1 + 1 + 1 < w2.heap.size := by omega)
    try (have _L2w1 : w1.heap.size < w2.heap.size := by omega)
    have _M2w1 : w1.heap.size ≤ w2.heap.size := by omega
    try (have _P2w1_1 : w1.heap.size + 1 < w2.heap.size := by omega)
    try (have _P2w1_2 : w1.heap.size + 1 + 1 < w2.heap.size := by omega)
    try (have _P2w1_3 : w1.heap.size + 1 + 1 + 1 < w2.heap.size := by omega)
    have _ : w2.cell? ⟨w.heap.size, 0, none⟩ = some (.int .i64 n) := by rw [hc2 (w.heap.size) 0 (by first | omega | (simp; done) | (simp; omega))]; first | assumption | (simp; done) | simp [go_sem, *]
    have _ : w2.frozen? ⟨w.heap.size, 0, none⟩ = false := by rw [hf2 (w.heap.size) 0 (by first | omega | (simp; done) | (simp; omega))]; first | assumption | (simp; done) | simp [go_sem, *]
    have _ : w2.cell? ⟨w.heap.size, 1, none⟩ = some (.int .i64 e) := by rw [hc2 (w.heap.size) 1 (by first | omega | (simp; done) | (simp; omega))]; first | assumption | (simp; done) | simp [go_sem, *]
    have _ : w2.frozen? ⟨w.heap.size, 1, none⟩ = false := by rw [hf2 (w.heap.size) 1 (by first | omega | (simp; done) | (simp; omega))]; first | assumption | (simp; done) | simp [go_sem, *]
    have _ : w2.cell? ⟨w.heap.size, 2, none⟩ = some (.int .i64 s) := by rw [hc2 (w.heap.size) 2 (by first | omega | (simp; done) | (simp; omega))]; first | assumption | (simp; done) | simp [go_sem, *]
    have _ : w2.frozen? ⟨w.heap.size, 2, none⟩ = false := by rw [hf2 (w.heap.size) 2 (by first | omega | (simp; done) | (simp; omega))]; first | assumption | (simp; done) | simp [go_sem, *]
    have _ : w2.cell? ⟨w.heap.size, 3, none⟩ = some (.slice p ws.length cap) := by rw [hc2 (w.heap.size) 3 (by first | omega | (simp; done) | (simp; omega))]; first | assumption | (simp; done) | simp [go_sem, *]
    have _ : w2.frozen? ⟨w.heap.size, 3, none⟩ = false := by rw [hf2 (w.heap.size) 3 (by first | omega | (simp; done) | (simp; omega))]; first | assumption | (simp; done) | simp [go_sem, *]
    have _ : w2.cell? ⟨w.heap.size + 1, 0, none⟩ = some (.int .i64 0) := by rw [hc2 (w.heap.size + 1) 0 (by first | omega | (simp; done) | (simp; omega))]; first | assumption | (simp; done) | simp [go_sem, *]
    have _ : w2.frozen? ⟨w.heap.size + 1, 0, none⟩ = false := by rw [hf2 (w.heap.size + 1) 0 (by first | omega | (simp; done) | (simp; omega))]; first | assumption | (simp; done) | simp [go_sem, *]
    have _ : w2.cell? ⟨w.heap.size + 1, 1, none⟩ = some (.int .i64 0) := by rw [hc2 (w.heap.size + 1) 1 (by first | omega | (simp; done) | (simp; omega))]; first | assumption | (simp; done) | simp [go_sem, *]
    have _ : w2.frozen? ⟨w.heap.size + 1, 1, none⟩ = false := by rw [hf2 (w.heap.size + 1) 1 (by first | omega | (simp; done) | (simp; omega))]; first | assumption | (simp; done) | simp [go_sem, *]
    clear hc2 hf2
    rw [show hasB n a = true by simp [hasB]; omega]
    go_wp2_with fail
    refine (hasN_any n e s b _ _).mono ?_
    rintro en w3 ⟨rfl, B3⟩
    obtain ⟨hc3, hf3⟩ := bcell B3
    have S3 := B3.size
    try simp at S3
    try (have _L3w : w.heap.size < w3.heap.size := by omega)
    have _M3w : w.heap.size ≤ w3.heap.size := by omega
    try (have _P3w_1 : w.heap.size + 1 < w3.heap.size := by omega)
    try (have _P3w_2 : w.heap.size + 1 + 1 < w3.heap.size := by omega)
    try (have _P3w_3 : w.heap.size + 1 + 1 + 1 < w3.heap.size := by omega)
    try (have _L3w1 : w1.heap.size < w3.heap.size := by omega)
    have _M3w1 : w1.heap.size ≤ w3.heap.size := by omega
    try (have _P3w1_1 : w1.heap.size + 1 < w3.heap.size := by omega)
    try (have _P3w1_2 : w1.heap.size + 1 + 1 < w3.heap.size := by omega)
    try (have _P3w1_3 : w1.heap.size + 1 + 1 + 1 < w3.heap.size := by omega)
    try (have _L3w2 : w2.heap.size < w3.heap.size := by omega)
    have _M3w2 : w2.heap.size ≤ w3.heap.size := by omega
    try (have _P3w2_1 : w2.heap.size + 1 < w3.heap.size := by omega)
    try (have _P3w2_2 : w2.heap.size + 1 + 1 < w3.heap.size := by omega)
    try (have _P3w2_3 : w2.heap.size + 1 + 1 + 1 < w3.heap.size := by omega)
    have _ : w3.cell? ⟨w.heap.size, 0, none⟩ = some (.int .i64 n) := by rw [hc3 (w.heap.size) 0 (by first | omega | (simp; done) | (simp; omega))]; first | assumption | (simp; done) | simp [go_sem, *]
    have _ : w3.frozen? ⟨w.heap.size, 0, none⟩ = false := by rw [hf3 (w.heap.size) 0 (by first | omega | (simp; done) | (simp; omega))]; first | assumption | (simp; done) | simp [go_sem, *]
    have _ : w3.cell? ⟨w.heap.size, 1, none⟩ = some (.int .i64 e) := by rw [hc3 (w.heap.size) 1 (by first | omega | (simp; done) | (simp; omega))]; first | assumption | (simp; done) | simp [go_sem, *]
    have _ : w3.frozen? ⟨w.heap.size, 1, none⟩ = false := by rw [hf3 (w.heap.size) 1 (by first | omega | (simp; done) | (simp; omega))]; first | assumption | (simp; done) | simp [go_sem, *]
    have _ : w3.cell? ⟨w.heap.size, 2, none⟩ = some (.int .i64 s) := by rw [hc3 (w.heap.size) 2 (by first | omega | (simp; done) | (simp; omega))]; first | assumption | (simp; done) | simp [go_sem, *]
    have _ : w3.frozen? ⟨w.heap.size, 2, none⟩ = false := by rw [hf3 (w.heap.size) 2 (by first | omega | (simp; done) | (simp; omega))]; first | assumption | (simp; done) | simp [go_sem, *]
    have _ : w3.cell? ⟨w.heap.size, 3, none⟩ = some (.slice p ws.length cap) := by rw [hc3 (w.heap.size) 3 (by first | omega | (simp; done) | (simp; omega))]; first | assumption | (simp; done) | simp [go_sem, *]
    have _ : w3.frozen? ⟨w.heap.size, 3, none⟩ = false := by rw [hf3 (w.heap.size) 3 (by first | omega | (simp; done) | (simp; omega))]; first | assumption | (simp; done) | simp [go_sem, *]
    have _ : w3.cell? ⟨w.heap.size + 1, 0, none⟩ = some (.int .i64 0) := by rw [hc3 (w.heap.size + 1) 0 (by first | omega | (simp; done) | (simp; omega))]; first | assumption | (simp; done) | simp [go_sem, *]
    have _ : w3.frozen? ⟨w.heap.size + 1, 0, none⟩ = false := by rw [hf3 (w.heap.size + 1) 0 (by first | omega | (simp; done) | (simp; omega))]; first | assumption | (simp; done) | simp [go_sem, *]
    have _ : w3.cell? ⟨w.heap.size + 1, 1, none⟩ = some (.int .i64 0) := by rw [hc3 (w.heap.size + 1) 1 (by first | omega | (simp; done) | (simp; omega))]; first | assumption | (simp; done) | simp [go_sem, *]
    have _ : w3.frozen? ⟨w.heap.size + 1, 1, none⟩ = false := by rw [hf3 (w.heap.size + 1) 1 (by first | omega | (simp; done) | (simp; omega))]; first | assumption | (simp; done) | simp [go_sem, *]
    clear hc3 hf3
    rw [show hasB n b = true by simp [hasB]; omega]
    go_wp2
    have hS : w3.drew.cell? ⟨w.heap.size, 0, none⟩ = some (.int .i64 n) ∧ w3.drew.cell? ⟨w.heap.size, 1, none⟩ = some (.int .i64 e) ∧ w3.drew.cell? ⟨w.heap.size, 2, none⟩ = some (.int .i64 s) ∧ w3.drew.cell? ⟨w.heap.size, 3, none⟩ = some (.slice p ws.length cap) ∧ (∃ z0 z1, w3.drew.cell? ⟨w.heap.size + 1, 0, none⟩ = some z0 ∧ w3.drew.cell? ⟨w.heap.size + 1, 1, none⟩ = some z1 ∧ w3.drew.frozen? ⟨w.heap.size + 1, 0, none⟩ = false ∧ w3.drew.frozen? ⟨w.heap.size + 1, 1, none⟩ = false) ∧ w.heap.size + 1 < w3.drew.heap.size ∧ Below w.heap.size w w3.drew := ⟨by assumption, by assumption, by assumption, by assumption, ⟨_, _, by assumption, by assumption, by assumption, by assumption⟩, by (simp; omega), by (repeat (first | exact Below.refl _ _ | (refine Below.setCell ?_ (by (first | exact Nat.le_refl _ | omega | (simp <;> omega) | simp)) _) | (refine Below.alloc ?_ (by (first | exact Nat.le_refl _ | omega | (simp <;> omega) | simp)) _) | (refine below_draws ?_ _) | exact B1 | (refine Below.trans ?_ (Below.mono B1 (by (first | exact Nat.le_refl _ | omega | (simp <;> omega) | simp)))) | exact B2 | (refine Below.trans ?_ (Below.mono B2 (by (first | exact Nat.le_refl _ | omega | (simp <;> omega) | simp)))) | exact B3 | (refine Below.trans ?_ (Below.mono B3 (by (first | exact Nat.le_refl _ | omega | (simp <;> omega) | simp))))))⟩
    go_region_held3 (fun w' => w'.cell? ⟨w.heap.size, 0, none⟩ = some (.int .i64 n) ∧ w'.cell? ⟨w.heap.size, 1, none⟩ = some (.int .i64 e) ∧ w'.cell? ⟨w.heap.size, 2, none⟩ = some (.int .i64 s) ∧ w'.cell? ⟨w.heap.size, 3, none⟩ = some (.slice p ws.length cap) ∧ (∃ z0 z1, w'.cell? ⟨w.heap.size + 1, 0, none⟩ = some z0 ∧ w'.cell? ⟨w.heap.size + 1, 1, none⟩ = some z1 ∧ w'.frozen? ⟨w.heap.size + 1, 0, none⟩ = false ∧ w'.frozen? ⟨w.heap.size + 1, 1, none⟩ = false) ∧ w.heap.size + 1 < w'.heap.size ∧ Below w.heap.size w w')
      (first | exact hS | exact nb_set (nb_set hS))
      (first | (go_at_call 22; refine (impl_forest n e s a b _ ws _ (HR.out.later hS.2.2.2.2.2.2)).mono ?_; rintro en w9 ⟨rfl, B9⟩; replace hS := nb_keep B9 hS; obtain ⟨x1, x2, x3, x4, ⟨u0, u1, x5, x6, x7, x8⟩, x9, x10⟩ := id hS) | (go_at_call 18; refine (impl_tree n e s _ ws _ (HR.out.later hS.2.2.2.2.2.2)).mono ?_; rintro en w9 ⟨rfl, B9⟩; replace hS := nb_keep B9 hS; obtain ⟨x1, x2, x3, x4, ⟨u0, u1, x5, x6, x7, x8⟩, x9, x10⟩ := id hS) | (go_at_call 71; refine (impl_rOf_at _ (s * forestR n e s ws a b) _ hW.out _ (by omega) (by omega) (by omega) (by omega)).mono ?_; rintro en w9 ⟨rfl, B9⟩; replace hS := nb_keep B9 hS; obtain ⟨x1, x2, x3, x4, ⟨u0, u1, x5, x6, x7, x8⟩, x9, x10⟩ := id hS))
    all_goals
      go_wp2
      exact bodyPost_ret (v := (.tuple #[.agg #[.int .i64 (rOfN (s * forestR n e s ws a b) (treeR n e s ws)), .int .i64 (rOfD (s * forestR n e s ws a b) (treeR n e s ws))], .bool true])) (by simp (maxDischargeDepth := 8) [results, Try.results23, go_sem, *]) rfl ⟨ret_ratio (by rw [HF.out]), (x10.setCell (by first | omega | (simp; done) | (simp; omega)) _).setCell (by first | omega | (simp; done) | (simp; omega)) _⟩
end Go.Proofs.Ytaececpphdaciaa
