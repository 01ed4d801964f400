/-
  TriangleGap, in the model and in the program.
-/
import Derived.Test.YtaececpphdaciaaPotential
namespace Go.Proofs.Ytaececpphdaciaa
open Go.RowKit

/-- The gap's forests. -/
noncomputable def gapF (n e s : Int) (ws : List W3) (a b c : Int) : Int := forestR n e s ws a b + forestR n e s ws b c - forestR n e s ws a c
noncomputable def gapR (n e s : Int) (ws : List W3) (a b c : Int) : Int × Int × Bool := if netB n e s ws = true ∧ (0 ≤ a ∧ a < n) ∧ (0 ≤ b ∧ b < n) ∧ 0 ≤ c ∧ c < n then (rOfN (s * gapF n e s ws a b c) (treeR n e s ws), rOfD (s * gapF n e s ws a b c) (treeR n e s ws), true) else (0, 0, false)
theorem gap_range (n e s : Int) (ws : List W3) (a b c : Int) : -18000000000 ≤ gapF n e s ws a b c ∧ gapF n e s ws a b c ≤ 18000000000 := by
  have h1 := forest_range n e s ws a b
  have h2 := forest_range n e s ws b c
  have h3 := forest_range n e s ws a c
  unfold gapF
  omega
theorem forest_same {n e s : Int} {ws : List W3} {a : Int} : forestR n e s ws a a = 0 := by unfold forestR; rw [if_neg (by omega)]
theorem forest_comm {n e s : Int} {ws : List W3} {a b : Int} : forestR n e s ws a b = forestR n e s ws b a := by
  unfold forestR
  by_cases h : netB n e s ws = true ∧ 0 ≤ a ∧ a < n ∧ 0 ≤ b ∧ b < n ∧ a ≠ b
  · rw [if_pos h, if_pos ⟨h.1, h.2.2.2.1, h.2.2.2.2.1, h.2.1, h.2.2.1, fun e => h.2.2.2.2.2 e.symm⟩]
    rw [woL_same (N := n.toNat) (q := [a, b]) (r := [b, a]) fun x => by simp only [List.mem_cons, List.not_mem_nil, or_false]; omega]
  · rw [if_neg h, if_neg (fun g => h ⟨g.1, g.2.2.2.1, g.2.2.2.2.1, g.2.1, g.2.2.1, fun e => g.2.2.2.2.2 e.symm⟩)]
/-- The gap is twice the sum of the forests on one side. -/
theorem gap_even {n e s : Int} {ws : List W3} (hb : netB n e s ws = true) {a b c : Int} (ha : 0 ≤ a ∧ a < n) (hb' : 0 ≤ b ∧ b < n) (hc : 0 ≤ c ∧ c < n) : ∃ q, gapF n e s ws a b c = 2 * q := by
  by_cases hab : a = b
  · subst hab; exact ⟨0, by unfold gapF; rw [forest_same]; omega⟩
  obtain ⟨N, rfl, _, h5, hw⟩ := net_small hb
  obtain ⟨x, rfl⟩ : ∃ x : Nat, a = x := ⟨a.toNat, by omega⟩
  obtain ⟨y, rfl⟩ : ∃ x : Nat, b = x := ⟨b.toNat, by omega⟩
  obtain ⟨z, rfl⟩ : ∃ x : Nat, c = x := ⟨c.toNat, by omega⟩
  refine ⟨potI (lapM N ws) N x y z, ?_⟩
  rw [← side_pot hw h5 x y z (by omega) (by omega) (by omega) (by omega)]
  unfold gapF
  rw [forest_comm (a := (y : Int)), forest_forD hb x y (by omega) (by omega), forest_forD hb z y (by omega) (by omega), forest_forD hb x z (by omega) (by omega)]

set_option maxHeartbeats 6400000 in
theorem impl_sideF (n e s a b c : Int) (vn : Value) (ws : List W3) (w : World) (hb : netB n e s ws = true) (ha : 0 ≤ a ∧ a < n) (hb' : 0 ≤ b ∧ b < n) (hc : 0 ≤ c ∧ c < n) (hr : ReadsW w vn ws) :
    Calls Try.prog 72 #[.agg #[.int .i64 n, .int .i64 e, .int .i64 s, vn], .int .i64 a, .int .i64 b, .int .i64 c] w fun en w' => (∃ q, en = .returned (.int .i64 q) ∧ gapF n e s ws a b c = 2 * q) ∧ Below w.heap.size w w' := by
  obtain ⟨p, cap, rfl⟩ := hr.shape
  obtain ⟨q, hq⟩ := gap_even hb ha hb' hc
  have hsp : forestR n e s ws a b + forestR n e s ws c b - forestR n e s ws a c = 2 * q := by rw [forest_comm (a := c)]; exact hq
  obtain ⟨f1, f2⟩ := forest_range n e s ws a b
  obtain ⟨f3, f4⟩ := forest_range n e s ws c b
  obtain ⟨f5, f6⟩ := forest_range n e s ws a c
  have c1 := fun (w' : World) (h1 : Below w.heap.size w w') => impl_forest n e s a b _ ws w' (hr.later h1)
  have c2 := fun (w' : World) (h1 : Below w.heap.size w w') => impl_forest n e s c b _ ws w' (hr.later h1)
  have c3 := fun (w' : World) (h1 : Below w.heap.size w w') => impl_forest n e s a c _ ws w' (hr.later h1)
  have HQ := Lib.hid hq
  clear hq
  generalize forestR n e s ws a b = F1 at *
  generalize forestR n e s ws c b = F2 at *
  generalize forestR n e s ws a c = F3 at *
  have HW : Hid (IntKind.i64.wrap (Int.tdiv (IntKind.i64.wrap (IntKind.i64.wrap (F1 + F2) - F3)) 2) = q) := Lib.hid (by
    rw [wrap_in (x := F1 + F2) (by omega) (by omega), wrap_in (x := F1 + F2 - F3) (by omega) (by omega), hsp, Int.mul_tdiv_cancel_left _ (by decide), wrap_in (by omega) (by omega)])
  have G1 := Lib.hid c1; have G2 := Lib.hid c2; have G3 := Lib.hid c3
  have HB : Below w.heap.size w ((w.alloc (.cells #[.int .i64 n, .int .i64 e, .int .i64 s, .slice p ws.length cap] 25)).drew) := by (repeat (first | exact Below.refl _ _ | (refine Below.setCell ?_ (by (first | exact Nat.le_refl _ | omega | (simp <;> omega) | simp)) _) | (refine Below.alloc ?_ (by (first | exact Nat.le_refl _ | omega | (simp <;> omega) | simp)) _) | (refine below_draws ?_ _)))
  have hS : boxN ((w.alloc (.cells #[.int .i64 n, .int .i64 e, .int .i64 s, .slice p ws.length cap] 25)).drew) w.heap.size n e s (.slice p ws.length cap) := boxN.new w n e s (.slice p ws.length cap) 25
  unfold boxN at hS
  clear c1 c2 c3 hsp hb hr ha hb' hc
  go_enter Try.func72, Try.ntmps72
  go_wp2
  go_region_held3 (fun w' => w'.cell? ⟨w.heap.size, 0, none⟩ = some (.int .i64 n) ∧ w'.cell? ⟨w.heap.size, 1, none⟩ = some (.int .i64 e) ∧ w'.cell? ⟨w.heap.size, 2, none⟩ = some (.int .i64 s) ∧ w'.cell? ⟨w.heap.size, 3, none⟩ = some (.slice p ws.length cap))
    (first | exact hS)
    (first
      | (go_at_call 22; with_reducible refine Calls.mono (G1.out _ HB) ?_; rintro en w3 ⟨rfl, B3⟩; replace hS := four_keep B3 hS; have C3 := HB.trans (B3.mono HB.size))
      | (go_at_call 22; with_reducible refine Calls.mono (G2.out _ C3) ?_; rintro en w4 ⟨rfl, B4⟩; replace hS := four_keep B4 hS; have C4 := C3.trans (B4.mono C3.size))
      | (go_at_call 22; with_reducible refine Calls.mono (G3.out _ C4) ?_; rintro en w5 ⟨rfl, B5⟩; replace hS := four_keep B5 hS; have C5 := C4.trans (B5.mono C4.size)))
  all_goals
    rw [HW.out]
    go_wp2
    go_ret
    exact ⟨⟨_, rfl, HQ.out⟩, C5⟩

set_option maxHeartbeats 12800000 in
theorem spec_gap (n e s a b c : Int) (v : Value) (ws : List W3) (w : World) (hr : ReadsW w v ws) :
    Calls Try.prog 49 #[.agg #[.int .i64 n, .int .i64 e, .int .i64 s, v], .int .i64 a, .int .i64 b, .int .i64 c] w fun en w' => en = .returned (.tuple #[.agg #[.int .i64 (gapR n e s ws a b c).1, .int .i64 (gapR n e s ws a b c).2.1], .bool (gapR n e s ws a b c).2.2]) ∧ Below w.heap.size w w' := by
  have B0 : Below w.heap.size w ((w.alloc (.cells #[.int .i64 n, .int .i64 e, .int .i64 s, v] 25)).alloc (.cells #[.int .i64 0, .int .i64 0] 43)) := by (repeat (first | exact Below.refl _ _ | (refine Below.setCell ?_ (by (first | exact Nat.le_refl _ | omega | (simp <;> omega) | simp)) _) | (refine Below.alloc ?_ (by (first | exact Nat.le_refl _ | omega | (simp <;> omega) | simp)) _) | (refine below_draws ?_ _)))
  have hr0 := hr.later B0
  have hok := spec_netOk n e s v ws _ hr0
  obtain ⟨p, cap, rfl⟩ := hr.shape
  cases hb : netB n e s ws
  case false =>
    have HF : Hid (gapR n e s ws a b c = (0, 0, false)) := Lib.hid (by unfold gapR; rw [if_neg (by simp [hb])])
    clear hr0 hr
    go_enter Try.func49, Try.ntmps49
    go_wp2_with fail
    refine hok.mono ?_
    rintro en w1 ⟨rfl, B1⟩
    obtain ⟨hc1, hf1⟩ := bcell B1
    have S1 := B1.size
    try simp at S1
    try (have _L1w : w.heap.size < w1.heap.size := by omega)
    have _M1w : w.heap.size ≤ w1.heap.size := by omega
    try (have _P1w_1 : w.heap.size + 1 < w1.heap.size := by omega)
    try (have _P1w_2 : w.heap.size + 1 + 1 < w1.heap.size := by omega)
    try (have _P1w_3 : w.heap.size + 1 + 1 + 1 < w1.heap.size := by omega)
    have _ : w1.cell? ⟨w.heap.size, 0, none⟩ = some (.int .i64 n) := by rw [hc1 (w.heap.size) 0 (by first | omega | (simp; done) | (simp; omega))]; first | assumption | (simp; done) | simp [go_sem, *]
    have _ : w1.frozen? ⟨w.heap.size, 0, none⟩ = false := by rw [hf1 (w.heap.size) 0 (by first | omega | (simp; done) | (simp; omega))]; first | assumption | (simp; done) | simp [go_sem, *]
    have _ : w1.cell? ⟨w.heap.size, 1, none⟩ = some (.int .i64 e) := by rw [hc1 (w.heap.size) 1 (by first | omega | (simp; done) | (simp; omega))]; first | assumption | (simp; done) | simp [go_sem, *]
    have _ : w1.frozen? ⟨w.heap.size, 1, none⟩ = false := by rw [hf1 (w.heap.size) 1 (by first | omega | (simp; done) | (simp; omega))]; first | assumption | (simp; done) | simp [go_sem, *]
    have _ : w1.cell? ⟨w.heap.size, 2, none⟩ = some (.int .i64 s) := by rw [hc1 (w.heap.size) 2 (by first | omega | (simp; done) | (simp; omega))]; first | assumption | (simp; done) | simp [go_sem, *]
    have _ : w1.frozen? ⟨w.heap.size, 2, none⟩ = false := by rw [hf1 (w.heap.size) 2 (by first | omega | (simp; done) | (simp; omega))]; first | assumption | (simp; done) | simp [go_sem, *]
    have _ : w1.cell? ⟨w.heap.size, 3, none⟩ = some (.slice p ws.length cap) := by rw [hc1 (w.heap.size) 3 (by first | omega | (simp; done) | (simp; omega))]; first | assumption | (simp; done) | simp [go_sem, *]
    have _ : w1.frozen? ⟨w.heap.size, 3, none⟩ = false := by rw [hf1 (w.heap.size) 3 (by first | omega | (simp; done) | (simp; omega))]; first | assumption | (simp; done) | simp [go_sem, *]
    have _ : w1.cell? ⟨w.heap.size + 1, 0, none⟩ = some (.int .i64 0) := by rw [hc1 (w.heap.size + 1) 0 (by first | omega | (simp; done) | (simp; omega))]; first | assumption | (simp; done) | simp [go_sem, *]
    have _ : w1.frozen? ⟨w.heap.size + 1, 0, none⟩ = false := by rw [hf1 (w.heap.size + 1) 0 (by first | omega | (simp; done) | (simp; omega))]; first | assumption | (simp; done) | simp [go_sem, *]
    have _ : w1.cell? ⟨w.heap.size + 1, 1, none⟩ = some (.int .i64 0) := by rw [hc1 (w.heap.size + 1) 1 (by first | omega | (simp; done) | (simp; omega))]; first | assumption | (simp; done) | simp [go_sem, *]
    have _ : w1.frozen? ⟨w.heap.size + 1, 1, none⟩ = false := by rw [hf1 (w.heap.size + 1) 1 (by first | omega | (simp; done) | (simp; omega))]; first | assumption | (simp; done) | simp [go_sem, *]
    clear hc1 hf1
    rw [hb]
    go_wp2
    exact bodyPost_ret (v := (.tuple #[.agg #[.int .i64 0, .int .i64 0], .bool false])) (by simp (maxDischargeDepth := 8) [results, Try.results49, go_sem, *]) rfl ⟨ret_ratio (by rw [HF.out]), by (repeat (first | exact Below.refl _ _ | (refine Below.setCell ?_ (by (first | exact Nat.le_refl _ | omega | (simp <;> omega) | simp)) _) | (refine Below.alloc ?_ (by (first | exact Nat.le_refl _ | omega | (simp <;> omega) | simp)) _) | (refine below_draws ?_ _) | exact B1 | (refine Below.trans ?_ (Below.mono B1 (by (first | exact Nat.le_refl _ | omega | (simp <;> omega) | simp))))))⟩
  case true =>
    obtain ⟨N1, N5⟩ := net_n hb
    by_cases ga : 0 ≤ a ∧ a < n
    case neg =>
      have HF : Hid (gapR n e s ws a b c = (0, 0, false)) := Lib.hid (by unfold gapR; rw [if_neg (by omega)])
      clear hr0 hr
      go_enter Try.func49, Try.ntmps49
      go_wp2_with fail
      refine hok.mono ?_
      rintro en w1 ⟨rfl, B1⟩
      obtain ⟨hc1, hf1⟩ := bcell B1
      have S1 := B1.size
      try simp at S1
      try (have _L1w : w.heap.size < w1.heap.size := by omega)
      have _M1w : w.heap.size ≤ w1.heap.size := by omega
      try (have _P1w_1 : w.heap.size + 1 < w1.heap.size := by omega)
      try (have _P1w_2 : w.heap.size + 1 + 1 < w1.heap.size := by omega)
      try (have _P1w_3 : w.heap.size + 1 + 1 + 1 < w1.heap.size := by omega)
      have _ : w1.cell? ⟨w.heap.size, 0, none⟩ = some (.int .i64 n) := by rw [hc1 (w.heap.size) 0 (by first | omega | (simp; done) | (simp; omega))]; first | assumption | (simp; done) | simp [go_sem, *]
      have _ : w1.frozen? ⟨w.heap.size, 0, none⟩ = false := by rw [hf1 (w.heap.size) 0 (by first | omega | (simp; done) | (simp; omega))]; first | assumption | (simp; done) | simp [go_sem, *]
      have _ : w1.cell? ⟨w.heap.size, 1, none⟩ = some (.int .i64 e) := by rw [hc1 (w.heap.size) 1 (by first | omega | (simp; done) | (simp; omega))]; first | assumption | (simp; done) | simp [go_sem, *]
      have _ : w1.frozen? ⟨w.heap.size, 1, none⟩ = false := by rw [hf1 (w.heap.size) 1 (by first | omega | (simp; done) | (simp; omega))]; first | assumption | (simp; done) | simp [go_sem, *]
      have _ : w1.cell? ⟨w.heap.size, 2, none⟩ = some (.int .i64 s) := by rw [hc1 (w.heap.size) 2 (by first | omega | (simp; done) | (simp; omega))]; first | assumption | (simp; done) | simp [go_sem, *]
      have _ : w1.frozen? ⟨w.heap.size, 2, none⟩ = false := by rw [hf1 (w.heap.size) 2 (by first | omega | (simp; done) | (simp; omega))]; first | assumption | (simp; done) | simp [go_sem, *]
      have _ : w1.cell? ⟨w.heap.size, 3, none⟩ = some (.slice p ws.length cap) := by rw [hc1 (w.heap.size) 3 (by first | omega | (simp; done) | (simp; omega))]; first | assumption | (simp; done) | simp [go_sem, *]
      have _ : w1.frozen? ⟨w.heap.size, 3, none⟩ = false := by rw [hf1 (w.heap.size) 3 (by first | omega | (simp; done) | (simp; omega))]; first | assumption | (simp; done) | simp [go_sem, *]
      have _ : w1.cell? ⟨w.heap.size + 1, 0, none⟩ = some (.int .i64 0) := by rw [hc1 (w.heap.size + 1) 0 (by first | omega | (simp; done) | (simp; omega))]; first | assumption | (simp; done) | simp [go_sem, *]
      have _ : w1.frozen? ⟨w.heap.size + 1, 0, none⟩ = false := by rw [hf1 (w.heap.size + 1) 0 (by first | omega | (simp; done) | (simp; omega))]; first | assumption | (simp; done) | simp [go_sem, *]
      have _ : w1.cell? ⟨w.heap.size + 1, 1, none⟩ = some (.int .i64 0) := by rw [hc1 (w.heap.size + 1) 1 (by first | omega | (simp; done) | (simp; omega))]; first | assumption | (simp; done) | simp [go_sem, *]
      have _ : w1.frozen? ⟨w.heap.size + 1, 1, none⟩ = false := by rw [hf1 (w.heap.size + 1) 1 (by first | omega | (simp; done) | (simp; omega))]; first | assumption | (simp; done) | simp [go_sem, *]
      clear hc1 hf1
      rw [hb]
      go_wp2_with fail
      refine (in_no' a 0 (n - 1) _ _ (by omega) (by omega) (by omega) _).mono ?_
      rintro en wq ⟨rfl, rfl⟩
      go_wp2
      exact bodyPost_ret (v := (.tuple #[.agg #[.int .i64 0, .int .i64 0], .bool false])) (by simp (maxDischargeDepth := 8) [results, Try.results49, go_sem, *]) rfl ⟨ret_ratio (by rw [HF.out]), by (repeat (first | exact Below.refl _ _ | (refine Below.setCell ?_ (by (first | exact Nat.le_refl _ | omega | (simp <;> omega) | simp)) _) | (refine Below.alloc ?_ (by (first | exact Nat.le_refl _ | omega | (simp <;> omega) | simp)) _) | (refine below_draws ?_ _) | exact B1 | (refine Below.trans ?_ (Below.mono B1 (by (first | exact Nat.le_refl _ | omega | (simp <;> omega) | simp))))))⟩
    by_cases gb : 0 ≤ b ∧ b < n
    case neg =>
      have HF : Hid (gapR n e s ws a b c = (0, 0, false)) := Lib.hid (by unfold gapR; rw [if_neg (by omega)])
      clear hr0 hr
      go_enter Try.func49, Try.ntmps49
      go_wp2_with fail
      refine hok.mono ?_
      rintro en w1 ⟨rfl, B1⟩
      obtain ⟨hc1, hf1⟩ := bcell B1
      have S1 := B1.size
      try simp at S1
      try (have _L1w : w.heap.size < w1.heap.size := by omega)
      have _M1w : w.heap.size ≤ w1.heap.size := by omega
      try (have _P1w_1 : w.heap.size + 1 < w1.heap.size := by omega)
      try (have _P1w_2 : w.heap.size + 1 + 1 < w1.heap.size := by omega)
      try (have _P1w_3 : w.heap.size + 1 + 1 + 1 < w1.heap.size := by omega)
      have _ : w1.cell? ⟨w.heap.size, 0, none⟩ = some (.int .i64 n) := by rw [hc1 (w.heap.size) 0 (by first | omega | (simp; done) | (simp; omega))]; first | assumption | (simp; done) | simp [go_sem, *]
      have _ : w1.frozen? ⟨w.heap.size, 0, none⟩ = false := by rw [hf1 (w.heap.size) 0 (by first | omega | (simp; done) | (simp; omega))]; first | assumption | (simp; done) | simp [go_sem, *]
      have _ : w1.cell? ⟨w.heap.size, 1, none⟩ = some (.int .i64 e) := by rw [hc1 (w.heap.size) 1 (by first | omega | (simp; done) | (simp; omega))]; first | assumption | (simp; done) | simp [go_sem, *]
      have _ : w1.frozen? ⟨w.heap.size, 1, none⟩ = false := by rw [hf1 (w.heap.size) 1 (by first | omega | (simp; done) | (simp; omega))]; first | assumption | (simp; done) | simp [go_sem, *]
      have _ : w1.cell? ⟨w.heap.size, 2, none⟩ = some (.int .i64 s) := by rw [hc1 (w.heap.size) 2 (by first | omega | (simp; done) | (simp; omega))]; first | assumption | (simp; done) | simp [go_sem, *]
      have _ : w1.frozen? ⟨w.heap.size, 2, none⟩ = false := by rw [hf1 (w.heap.size) 2 (by first | omega | (simp; done) | (simp; omega))]; first | assumption | (simp; done) | simp [go_sem, *]
      have _ : w1.cell? ⟨w.heap.size, 3, none⟩ = some (.slice p ws.length cap) := by rw [hc1 (w.heap.size) 3 (by first | omega | (simp; done) | (simp; omega))]; first | assumption | (simp; done) | simp [go_sem, *]
      have _ : w1.frozen? ⟨w.heap.size, 3, none⟩ = false := by rw [hf1 (w.heap.size) 3 (by first | omega | (simp; done) | (simp; omega))]; first | assumption | (simp; done) | simp [go_sem, *]
      have _ : w1.cell? ⟨w.heap.size + 1, 0, none⟩ = some (.int .i64 0) := by rw [hc1 (w.heap.size + 1) 0 (by first | omega | (simp; done) | (simp; omega))]; first | assumption | (simp; done) | simp [go_sem, *]
      have _ : w1.frozen? ⟨w.heap.size + 1, 0, none⟩ = false := by rw [hf1 (w.heap.size + 1) 0 (by first | omega | (simp; done) | (simp; omega))]; first | assumption | (simp; done) | simp [go_sem, *]
      have _ : w1.cell? ⟨w.heap.size + 1, 1, none⟩ = some (.int .i64 0) := by rw [hc1 (w.heap.size + 1) 1 (by first | omega | (simp; done) | (simp; omega))]; first | assumption | (simp; done) | simp [go_sem, *]
      have _ : w1.frozen? ⟨w.heap.size + 1, 1, none⟩ = false := by rw [hf1 (w.heap.size + 1) 1 (by first | omega | (simp; done) | (simp; omega))]; first | assumption | (simp; done) | simp [go_sem, *]
      clear hc1 hf1
      rw [hb]
      go_wp2_with fail
      refine (in_yes' a 0 (n - 1) _ _ (by omega) (by omega) (by omega) (by omega) _).mono ?_
      rintro en wq ⟨rfl, rfl⟩
      go_wp2_with fail
      refine (in_no' b 0 (n - 1) _ _ (by omega) (by omega) (by omega) _).mono ?_
      rintro en wq ⟨rfl, rfl⟩
      go_wp2
      exact bodyPost_ret (v := (.tuple #[.agg #[.int .i64 0, .int .i64 0], .bool false])) (by simp (maxDischargeDepth := 8) [results, Try.results49, go_sem, *]) rfl ⟨ret_ratio (by rw [HF.out]), by (repeat (first | exact Below.refl _ _ | (refine Below.setCell ?_ (by (first | exact Nat.le_refl _ | omega | (simp <;> omega) | simp)) _) | (refine Below.alloc ?_ (by (first | exact Nat.le_refl _ | omega | (simp <;> omega) | simp)) _) | (refine below_draws ?_ _) | exact B1 | (refine Below.trans ?_ (Below.mono B1 (by (first | exact Nat.le_refl _ | omega | (simp <;> omega) | simp))))))⟩
    by_cases gc : 0 ≤ c ∧ c < n
    case neg =>
      have HF : Hid (gapR n e s ws a b c = (0, 0, false)) := Lib.hid (by unfold gapR; rw [if_neg (by omega)])
      clear hr0 hr
      go_enter Try.func49, Try.ntmps49
      go_wp2_with fail
      refine hok.mono ?_
      rintro en w1 ⟨rfl, B1⟩
      obtain ⟨hc1, hf1⟩ := bcell B1
      have S1 := B1.size
      try simp at S1
      try (have _L1w : w.heap.size < w1.heap.size := by omega)
      have _M1w : w.heap.size ≤ w1.heap.size := by omega
      try (have _P1w_1 : w.heap.size + 1 < w1.heap.size := by omega)
      try (have _P1w_2 : w.heap.size + 1 + 1 < w1.heap.size := by omega)
      try (have _P1w_3 : w.heap.size + 1 + 1 + 1 < w1.heap.size := by omega)
      have _ : w1.cell? ⟨w.heap.size, 0, none⟩ = some (.int .i64 n) := by rw [hc1 (w.heap.size) 0 (by first | omega | (simp; done) | (simp; omega))]; first | assumption | (simp; done) | simp [go_sem, *]
      have _ : w1.frozen? ⟨w.heap.size, 0, none⟩ = false := by rw [hf1 (w.heap.size) 0 (by first | omega | (simp; done) | (simp; omega))]; first | assumption | (simp; done) | simp [go_sem, *]
      have _ : w1.cell? ⟨w.heap.size, 1, none⟩ = some (.int .i64 e) := by rw [hc1 (w.heap.size) 1 (by first | omega | (simp; done) | (simp; omega))]; first | assumption | (simp; done) | simp [go_sem, *]
      have _ : w1.frozen? ⟨w.heap.size, 1, none⟩ = false := by rw [hf1 (w.heap.size) 1 (by first | omega | (simp; done) | (simp; omega))]; first | assumption | (simp; done) | simp [go_sem, *]
      have _ : w1.cell? ⟨w.heap.size, 2, none⟩ = some (.int .i64 s) := by rw [hc1 (w.heap.size) 2 (by first | omega | (simp; done) | (simp; omega))]; first | assumption | (simp; done) | simp [go_sem, *]
      have _ : w1.frozen? ⟨w.heap.size, 2, none⟩ = false := by rw [hf1 (w.heap.size) 2 (by first | omega | (simp; done) | (simp; omega))]; first | assumption | (simp; done) | simp [go_sem, *]
      have _ : w1.cell? ⟨w.heap.size, 3, none⟩ = some (.slice p ws.length cap) := by rw [hc1 (w.heap.size) 3 (by first | omega | (simp; done) | (simp; omega))]; first | assumption | (simp; done) | simp [go_sem, *]
      have _ : w1.frozen? ⟨w.heap.size, 3, none⟩ = false := by rw [hf1 (w.heap.size) 3 (by first | omega | (simp; done) | (simp; omega))]; first | assumption | (simp; done) | simp [go_sem, *]
      have _ : w1.cell? ⟨w.heap.size + 1, 0, none⟩ = some (.int .i64 0) := by rw [hc1 (w.heap.size + 1) 0 (by first | omega | (simp; done) | (simp; omega))]; first | assumption | (simp; done) | simp [go_sem, *]
      have _ : w1.frozen? ⟨w.heap.size + 1, 0, none⟩ = false := by rw [hf1 (w.heap.size + 1) 0 (by first | omega | (simp; done) | (simp; omega))]; first | assumption | (simp; done) | simp [go_sem, *]
      have _ : w1.cell? ⟨w.heap.size + 1, 1, none⟩ = some (.int .i64 0) := by rw [hc1 (w.heap.size + 1) 1 (by first | omega | (simp; done) | (simp; omega))]; first | assumption | (simp; done) | simp [go_sem, *]
      have _ : w1.frozen? ⟨w.heap.size + 1, 1, none⟩ = false := by rw [hf1 (w.heap.size + 1) 1 (by first | omega | (simp; done) | (simp; omega))]; first | assumption | (simp; done) | simp [go_sem, *]
      clear hc1 hf1
      rw [hb]
      go_wp2_with fail
      refine (in_yes' a 0 (n - 1) _ _ (by omega) (by omega) (by omega) (by omega) _).mono ?_
      rintro en wq ⟨rfl, rfl⟩
      go_wp2_with fail
      refine (in_yes' b 0 (n - 1) _ _ (by omega) (by omega) (by omega) (by omega) _).mono ?_
      rintro en wq ⟨rfl, rfl⟩
      go_wp2_with fail
      refine (in_no' c 0 (n - 1) _ _ (by omega) (by omega) (by omega) _).mono ?_
      rintro en wq ⟨rfl, rfl⟩
      go_wp2
      exact bodyPost_ret (v := (.tuple #[.agg #[.int .i64 0, .int .i64 0], .bool false])) (by simp (maxDischargeDepth := 8) [results, Try.results49, go_sem, *]) rfl ⟨ret_ratio (by rw [HF.out]), by (repeat (first | exact Below.refl _ _ | (refine Below.setCell ?_ (by (first | exact Nat.le_refl _ | omega | (simp <;> omega) | simp)) _) | (refine Below.alloc ?_ (by (first | exact Nat.le_refl _ | omega | (simp <;> omega) | simp)) _) | (refine below_draws ?_ _) | exact B1 | (refine Below.trans ?_ (Below.mono B1 (by (first | exact Nat.le_refl _ | omega | (simp <;> omega) | simp))))))⟩
    have HF : Hid (gapR n e s ws a b c = (rOfN (s * gapF n e s ws a b c) (treeR n e s ws), rOfD (s * gapF n e s ws a b c) (treeR n e s ws), true)) := Lib.hid (by unfold gapR; rw [if_pos ⟨hb, ga, gb, gc⟩])
    obtain ⟨s1, s2⟩ := net_scale hb
    obtain ⟨f1, f2⟩ := gap_range n e s ws a b c
    obtain ⟨t0, t1⟩ := tree_range n e s ws
    obtain ⟨q1, q2⟩ := scale_le s1 s2 f1 f2
    have HR := Lib.hid hr; clear hr hr0
    obtain ⟨f3, f4⟩ := forest_range n e s ws a b
    obtain ⟨f5, f6⟩ := forest_range n e s ws b c
    obtain ⟨f7, f8⟩ := forest_range n e s ws a c
    have hW : Hid (IntKind.i64.wrap (s * IntKind.i64.wrap (IntKind.i64.wrap (forestR n e s ws a b + forestR n e s ws b c) - forestR n e s ws a c)) = s * gapF n e s ws a b c) := Lib.hid (by
      rw [wrap_in (x := forestR n e s ws a b + forestR n e s ws b c) (by omega) (by omega), wrap_in (x := forestR n e s ws a b + forestR n e s ws b c - forestR n e s ws a c) (by omega) (by omega)]
      exact wrap_in (x := s * gapF n e s ws a b c) (by omega) (by omega))
    have HQ := Lib.hid (show -9223372036854775808 ≤ s * gapF n e s ws a b c ∧ s * gapF n e s ws a b c ≤ 9223372036854775807 ∧ -9223372036854775808 ≤ treeR n e s ws ∧ treeR n e s ws ≤ 9223372036854775807 by omega)
    clear f1 f2 f3 f4 f5 f6 f7 f8 q1 q2 t0 t1
    go_enter Try.func49, Try.ntmps49
    go_wp2_with fail
    refine hok.mono ?_
    rintro en w1 ⟨rfl, B1⟩
    obtain ⟨hc1, hf1⟩ := bcell B1
    have S1 := B1.size
    try simp at S1
    try (have _L1w : w.heap.size < w1.heap.size := by omega)
    have _M1w : w.heap.size ≤ w1.heap.size := by omega
    try (have _P1w_1 : w.heap.size + 1 < w1.heap.size := by omega)
    try (have _P1w_2 : w.heap.size + 1 + 1 < w1.heap.size := by omega)
    try (have _P1w_3 : w.heap.size + 1 + 1 + 1 < w1.heap.size := by omega)
    have _ : w1.cell? ⟨w.heap.size, 0, none⟩ = some (.int .i64 n) := by rw [hc1 (w.heap.size) 0 (by first | omega | (simp; done) | (simp; omega))]; first | assumption | (simp; done) | simp [go_sem, *]
    have _ : w1.frozen? ⟨w.heap.size, 0, none⟩ = false := by rw [hf1 (w.heap.size) 0 (by first | omega | (simp; done) | (simp; omega))]; first | assumption | (simp; done) | simp [go_sem, *]
    have _ : w1.cell? ⟨w.heap.size, 1, none⟩ = some (.int .i64 e) := by rw [hc1 (w.heap.size) 1 (by first | omega | (simp; done) | (simp; omega))]; first | assumption | (simp; done) | simp [go_sem, *]
    have _ : w1.frozen? ⟨w.heap.size, 1, none⟩ = false := by rw [hf1 (w.heap.size) 1 (by first | omega | (simp; done) | (simp; omega))]; first | assumption | (simp; done) | simp [go_sem, *]
    have _ : w1.cell? ⟨w.heap.size, 2, none⟩ = some (.int .i64 s) := by rw [hc1 (w.heap.size) 2 (by first | omega | (simp; done) | (simp; omega))]; first | assumption | (simp; done) | simp [go_sem, *]
    have _ : w1.frozen? ⟨w.heap.size, 2, none⟩ = false := by rw [hf1 (w.heap.size) 2 (by first | omega | (simp; done) | (simp; omega))]; first | assumption | (simp; done) | simp [go_sem, *]
    have _ : w1.cell? ⟨w.heap.size, 3, none⟩ = some (.slice p ws.length cap) := by rw [hc1 (w.heap.size) 3 (by first | omega | (simp; done) | (simp; omega))]; first | assumption | (simp; done) | simp [go_sem, *]
    have _ : w1.frozen? ⟨w.heap.size, 3, none⟩ = false := by rw [hf1 (w.heap.size) 3 (by first | omega | (simp; done) | (simp; omega))]; first | assumption | (simp; done) | simp [go_sem, *]
    have _ : w1.cell? ⟨w.heap.size + 1, 0, none⟩ = some (.int .i64 0) := by rw [hc1 (w.heap.size + 1) 0 (by first | omega | (simp; done) | (simp; omega))]; first | assumption | (simp; done) | simp [go_sem, *]
    have _ : w1.frozen? ⟨w.heap.size + 1, 0, none⟩ = false := by rw [hf1 (w.heap.size + 1) 0 (by first | omega | (simp; done) | (simp; omega))]; first | assumption | (simp; done) | simp [go_sem, *]
    have _ : w1.cell? ⟨w.heap.size + 1, 1, none⟩ = some (.int .i64 0) := by rw [hc1 (w.heap.size + 1) 1 (by first | omega | (simp; done) | (simp; omega))]; first | assumption | (simp; done) | simp [go_sem, *]
    have _ : w1.frozen? ⟨w.heap.size + 1, 1, none⟩ = false := by rw [hf1 (w.heap.size + 1) 1 (by first | omega | (simp; done) | (simp; omega))]; first | assumption | (simp; done) | simp [go_sem, *]
    clear hc1 hf1
    rw [hb]
    go_wp2_with fail
    refine (in_yes' a 0 (n - 1) _ _ (by omega) (by omega) (by omega) (by omega) _).mono ?_
    rintro en wq ⟨rfl, rfl⟩
    go_wp2_with fail
    refine (in_yes' b 0 (n - 1) _ _ (by omega) (by omega) (by omega) (by omega) _).mono ?_
    rintro en wq ⟨rfl, rfl⟩
    go_wp2_with fail
    refine (in_yes' c 0 (n - 1) _ _ (by omega) (by omega) (by omega) (by omega) _).mono ?_
    rintro en wq ⟨rfl, rfl⟩
    clear hok
    go_wp2
    have hS : w1.drew.cell? ⟨w.heap.size, 0, none⟩ = some (.int .i64 n) ∧ w1.drew.cell? ⟨w.heap.size, 1, none⟩ = some (.int .i64 e) ∧ w1.drew.cell? ⟨w.heap.size, 2, none⟩ = some (.int .i64 s) ∧ w1.drew.cell? ⟨w.heap.size, 3, none⟩ = some (.slice p ws.length cap) ∧ (∃ z0 z1, w1.drew.cell? ⟨w.heap.size + 1, 0, none⟩ = some z0 ∧ w1.drew.cell? ⟨w.heap.size + 1, 1, none⟩ = some z1 ∧ w1.drew.frozen? ⟨w.heap.size + 1, 0, none⟩ = false ∧ w1.drew.frozen? ⟨w.heap.size + 1, 1, none⟩ = false) ∧ w.heap.size + 1 < w1.drew.heap.size ∧ Below w.heap.size w w1.drew := ⟨by assumption, by assumption, by assumption, by assumption, ⟨_, _, by assumption, by assumption, by assumption, by assumption⟩, by (simp; omega), by (repeat (first | exact Below.refl _ _ | (refine Below.setCell ?_ (by (first | exact Nat.le_refl _ | omega | (simp <;> omega) | simp)) _) | (refine Below.alloc ?_ (by (first | exact Nat.le_refl _ | omega | (simp <;> omega) | simp)) _) | (refine below_draws ?_ _) | exact B1 | (refine Below.trans ?_ (Below.mono B1 (by (first | exact Nat.le_refl _ | omega | (simp <;> omega) | simp))))))⟩
    go_region_held3 (fun w' => w'.cell? ⟨w.heap.size, 0, none⟩ = some (.int .i64 n) ∧ w'.cell? ⟨w.heap.size, 1, none⟩ = some (.int .i64 e) ∧ w'.cell? ⟨w.heap.size, 2, none⟩ = some (.int .i64 s) ∧ w'.cell? ⟨w.heap.size, 3, none⟩ = some (.slice p ws.length cap) ∧ (∃ z0 z1, w'.cell? ⟨w.heap.size + 1, 0, none⟩ = some z0 ∧ w'.cell? ⟨w.heap.size + 1, 1, none⟩ = some z1 ∧ w'.frozen? ⟨w.heap.size + 1, 0, none⟩ = false ∧ w'.frozen? ⟨w.heap.size + 1, 1, none⟩ = false) ∧ w.heap.size + 1 < w'.heap.size ∧ Below w.heap.size w w')
      (first | exact hS | exact nb_set (nb_set hS))
      (first
        | (go_at_call 94; with_reducible refine Calls.mono (spec_forest n e s a b _ ws _ (HR.out.later hS.2.2.2.2.2.2)) ?_; rintro en w9 ⟨rfl, B9⟩; replace hS := nb_keep B9 hS; obtain ⟨x1, x2, x3, x4, ⟨u0, u1, x5, x6, x7, x8⟩, x9, x10⟩ := id hS)
        | (go_at_call 94; with_reducible refine Calls.mono (spec_forest n e s b c _ ws _ (HR.out.later hS.2.2.2.2.2.2)) ?_; rintro en w9 ⟨rfl, B9⟩; replace hS := nb_keep B9 hS; obtain ⟨x1, x2, x3, x4, ⟨u0, u1, x5, x6, x7, x8⟩, x9, x10⟩ := id hS)
        | (go_at_call 94; with_reducible refine Calls.mono (spec_forest n e s a c _ ws _ (HR.out.later hS.2.2.2.2.2.2)) ?_; rintro en w9 ⟨rfl, B9⟩; replace hS := nb_keep B9 hS; obtain ⟨x1, x2, x3, x4, ⟨u0, u1, x5, x6, x7, x8⟩, x9, x10⟩ := id hS)
        | (go_at_call 95; with_reducible refine Calls.mono (spec_tree n e s _ ws _ (HR.out.later hS.2.2.2.2.2.2)) ?_; rintro en w9 ⟨rfl, B9⟩; replace hS := nb_keep B9 hS; obtain ⟨x1, x2, x3, x4, ⟨u0, u1, x5, x6, x7, x8⟩, x9, x10⟩ := id hS)
        | (go_at_call 93; with_reducible refine Calls.mono (spec_rOf_at _ (s * gapF n e s ws a b c) _ hW.out _ HQ.out.1 HQ.out.2.1 HQ.out.2.2.1 HQ.out.2.2.2) ?_; rintro en w9 ⟨rfl, B9⟩; replace hS := nb_keep B9 hS; obtain ⟨x1, x2, x3, x4, ⟨u0, u1, x5, x6, x7, x8⟩, x9, x10⟩ := id hS))
    all_goals
      go_wp2
      exact bodyPost_ret (v := (.tuple #[.agg #[.int .i64 (rOfN (s * gapF n e s ws a b c) (treeR n e s ws)), .int .i64 (rOfD (s * gapF n e s ws a b c) (treeR n e s ws))], .bool true])) (by simp (maxDischargeDepth := 8) [results, Try.results49, go_sem, *]) rfl ⟨ret_ratio (by rw [HF.out]), (x10.setCell (by first | omega | (simp; done) | (simp; omega)) _).setCell (by first | omega | (simp; done) | (simp; omega)) _⟩
set_option maxHeartbeats 12800000 in
theorem impl_gap (n e s a b c : Int) (v : Value) (ws : List W3) (w : World) (hr : ReadsW w v ws) :
    Calls Try.prog 24 #[.agg #[.int .i64 n, .int .i64 e, .int .i64 s, v], .int .i64 a, .int .i64 b, .int .i64 c] w fun en w' => en = .returned (.tuple #[.agg #[.int .i64 (gapR n e s ws a b c).1, .int .i64 (gapR n e s ws a b c).2.1], .bool (gapR n e s ws a b c).2.2]) ∧ Below w.heap.size w w' := by
  have B0 : Below w.heap.size w ((w.alloc (.cells #[.int .i64 n, .int .i64 e, .int .i64 s, v] 25)).alloc (.cells #[.int .i64 0, .int .i64 0] 43)) := by (repeat (first | exact Below.refl _ _ | (refine Below.setCell ?_ (by (first | exact Nat.le_refl _ | omega | (simp <;> omega) | simp)) _) | (refine Below.alloc ?_ (by (first | exact Nat.le_refl _ | omega | (simp <;> omega) | simp)) _) | (refine below_draws ?_ _)))
  have hr0 := hr.later B0
  have hok := impl_netOk n e s v ws _ hr0
  obtain ⟨p, cap, rfl⟩ := hr.shape
  cases hb : netB n e s ws
  case false =>
    have HF : Hid (gapR n e s ws a b c = (0, 0, false)) := Lib.hid (by unfold gapR; rw [if_neg (by simp [hb])])
    clear hr0 hr
    go_enter Try.func24, Try.ntmps24
    go_wp2_with fail
    refine hok.mono ?_
    rintro en w1 ⟨rfl, B1⟩
    obtain ⟨hc1, hf1⟩ := bcell B1
    have S1 := B1.size
    try simp at S1
    try (have _L1w : w.heap.size < w1.heap.size := by omega)
    have _M1w : w.heap.size ≤ w1.heap.size := by omega
    try (have _P1w_1 : w.heap.size + 1 < w1.heap.size := by omega)
    try (have _P1w_2 : w.heap.size + 1 + 1 < w1.heap.size := by omega)
    try (have _P1w_3 : w.heap.size + 1 + 1 + 1 < w1.heap.size := by omega)
    have _ : w1.cell? ⟨w.heap.size, 0, none⟩ = some (.int .i64 n) := by rw [hc1 (w.heap.size) 0 (by first | omega | (simp; done) | (simp; omega))]; first | assumption | (simp; done) | simp [go_sem, *]
    have _ : w1.frozen? ⟨w.heap.size, 0, none⟩ = false := by rw [hf1 (w.heap.size) 0 (by first | omega | (simp; done) | (simp; omega))]; first | assumption | (simp; done) | simp [go_sem, *]
    have _ : w1.cell? ⟨w.heap.size, 1, none⟩ = some (.int .i64 e) := by rw [hc1 (w.heap.size) 1 (by first | omega | (simp; done) | (simp; omega))]; first | assumption | (simp; done) | simp [go_sem, *]
    have _ : w1.frozen? ⟨w.heap.size, 1, none⟩ = false := by rw [hf1 (w.heap.size) 1 (by first | omega | (simp; done) | (simp; omega))]; first | assumption | (simp; done) | simp [go_sem, *]
    have _ : w1.cell? ⟨w.heap.size, 2, none⟩ = some (.int .i64 s) := by rw [hc1 (w.heap.size) 2 (by first | omega | (simp; done) | (simp; omega))]; first | assumption | (simp; done) | simp [go_sem, *]
    have _ : w1.frozen? ⟨w.heap.size, 2, none⟩ = false := by rw [hf1 (w.heap.size) 2 (by first | omega | (simp; done) | (simp; omega))]; first | assumption | (simp; done) | simp [go_sem, *]
    have _ : w1.cell? ⟨w.heap.size, 3, none⟩ = some (.slice p ws.length cap) := by rw [hc1 (w.heap.size) 3 (by first | omega | (simp; done) | (simp; omega))]; first | assumption | (simp; done) | simp [go_sem, *]
    have _ : w1.frozen? ⟨w.heap.size, 3, none⟩ = false := by rw [hf1 (w.heap.size) 3 (by first | omega | (simp; done) | (simp; omega))]; first | assumption | (simp; done) | simp [go_sem, *]
    have _ : w1.cell? ⟨w.heap.size + 1, 0, none⟩ = some (.int .i64 0) := by rw [hc1 (w.heap.size + 1) 0 (by first | omega | (simp; done) | (simp; omega))]; first | assumption | (simp; done) | simp [go_sem, *]
    have _ : w1.frozen? ⟨w.heap.size + 1, 0, none⟩ = false := by rw [hf1 (w.heap.size + 1) 0 (by first | omega | (simp; done) | (simp; omega))]; first | assumption | (simp; done) | simp [go_sem, *]
    have _ : w1.cell? ⟨w.heap.size + 1, 1, none⟩ = some (.int .i64 0) := by rw [hc1 (w.heap.size + 1) 1 (by first | omega | (simp; done) | (simp; omega))]; first | assumption | (simp; done) | simp [go_sem, *]
    have _ : w1.frozen? ⟨w.heap.size + 1, 1, none⟩ = false := by rw [hf1 (w.heap.size + 1) 1 (by first | omega | (simp; done) | (simp; omega))]; first | assumption | (simp; done) | simp [go_sem, *]
    clear hc1 hf1
    rw [hb]
    go_wp2
    exact bodyPost_ret (v := (.tuple #[.agg #[.int .i64 0, .int .i64 0], .bool false])) (by simp (maxDischargeDepth := 8) [results, Try.results24, go_sem, *]) rfl ⟨ret_ratio (by rw [HF.out]), by (repeat (first | exact Below.refl _ _ | (refine Below.setCell ?_ (by (first | exact Nat.le_refl _ | omega | (simp <;> omega) | simp)) _) | (refine Below.alloc ?_ (by (first | exact Nat.le_refl _ | omega | (simp <;> omega) | simp)) _) | (refine below_draws ?_ _) | exact B1 | (refine Below.trans ?_ (Below.mono B1 (by (first | exact Nat.le_refl _ | omega | (simp <;> omega) | simp))))))⟩
  case true =>
    obtain ⟨N1, N5⟩ := net_n hb
    by_cases ga : 0 ≤ a ∧ a < n
    case neg =>
      have HF : Hid (gapR n e s ws a b c = (0, 0, false)) := Lib.hid (by unfold gapR; rw [if_neg (by omega)])
      clear hr0 hr
      go_enter Try.func24, Try.ntmps24
      go_wp2_with fail
      refine hok.mono ?_
      rintro en w1 ⟨rfl, B1⟩
      obtain ⟨hc1, hf1⟩ := bcell B1
      have S1 := B1.size
      try simp at S1
      try (have _L1w : w.heap.size < w1.heap.size := by omega)
      have _M1w : w.heap.size ≤ w1.heap.size := by omega
      try (have _P1w_1 : w.heap.size + 1 < w1.heap.size := by omega)
      try (have _P1w_2 : w.heap.size + 1 + 1 < w1.heap.size := by omega)
      try (have _P1w_3 : w.heap.size + 1 + 1 + 1 < w1.heap.size := by omega)
      have _ : w1.cell? ⟨w.heap.size, 0, none⟩ = some (.int .i64 n) := by rw [hc1 (w.heap.size) 0 (by first | omega | (simp; done) | (simp; omega))]; first | assumption | (simp; done) | simp [go_sem, *]
      have _ : w1.frozen? ⟨w.heap.size, 0, none⟩ = false := by rw [hf1 (w.heap.size) 0 (by first | omega | (simp; done) | (simp; omega))]; first | assumption | (simp; done) | simp [go_sem, *]
      have _ : w1.cell? ⟨w.heap.size, 1, none⟩ = some (.int .i64 e) := by rw [hc1 (w.heap.size) 1 (by first | omega | (simp; done) | (simp; omega))]; first | assumption | (simp; done) | simp [go_sem, *]
      have _ : w1.frozen? ⟨w.heap.size, 1, none⟩ = false := by rw [hf1 (w.heap.size) 1 (by first | omega | (simp; done) | (simp; omega))]; first | assumption | (simp; done) | simp [go_sem, *]
      have _ : w1.cell? ⟨w.heap.size, 2, none⟩ = some (.int .i64 s) := by rw [hc1 (w.heap.size) 2 (by first | omega | (simp; done) | (simp; omega))]; first | assumption | (simp; done) | simp [go_sem, *]
      have _ : w1.frozen? ⟨w.heap.size, 2, none⟩ = false := by rw [hf1 (w.heap.size) 2 (by first | omega | (simp; done) | (simp; omega))]; first | assumption | (simp; done) | simp [go_sem, *]
      have _ : w1.cell? ⟨w.heap.size, 3, none⟩ = some (.slice p ws.length cap) := by rw [hc1 (w.heap.size) 3 (by first | omega | (simp; done) | (simp; omega))]; first | assumption | (simp; done) | simp [go_sem, *]
      have _ : w1.frozen? ⟨w.heap.size, 3, none⟩ = false := by rw [hf1 (w.heap.size) 3 (by first | omega | (simp; done) | (simp; omega))]; first | assumption | (simp; done) | simp [go_sem, *]
      have _ : w1.cell? ⟨w.heap.size + 1, 0, none⟩ = some (.int .i64 0) := by rw [hc1 (w.heap.size + 1) 0 (by first | omega | (simp; done) | (simp; omega))]; first | assumption | (simp; done) | simp [go_sem, *]
      have _ : w1.frozen? ⟨w.heap.size + 1, 0, none⟩ = false := by rw [hf1 (w.heap.size + 1) 0 (by first | omega | (simp; done) | (simp; omega))]; first | assumption | (simp; done) | simp [go_sem, *]
      have _ : w1.cell? ⟨w.heap.size + 1, 1, none⟩ = some (.int .i64 0) := by rw [hc1 (w.heap.size + 1) 1 (by first | omega | (simp; done) | (simp; omega))]; first | assumption | (simp; done) | simp [go_sem, *]
      have _ : w1.frozen? ⟨w.heap.size + 1, 1, none⟩ = false := by rw [hf1 (w.heap.size + 1) 1 (by first | omega | (simp; done) | (simp; omega))]; first | assumption | (simp; done) | simp [go_sem, *]
      clear hc1 hf1
      rw [hb]
      go_wp2_with fail
      refine (hasN_any n e s a _ _).mono ?_
      rintro en w2 ⟨rfl, B2⟩
      obtain ⟨hc2, hf2⟩ := bcell B2
      have S2 := B2.size
      try simp at S2
      try (have _L2w : w.heap.size < w2.heap.size := by omega)
      have _M2w : w.heap.size ≤ w2.heap.size := by omega
      try (have _P2w_1 : w.heap.size + 1 < w2.heap.size := by omega)
      try (have _P2w_2 : w.heap.size + 1 + 1 < w2.heap.size := by omega)
      try (have _P2w_3 : w.heap.size + 1 + 1 + 1 < w2.heap.size := by omega)
      try (have _L2w1 : w1.heap.size < w2.heap.size := by omega)
      have _M2w1 : w1.heap.size ≤ w2.heap.size := by omega
      try (have _P2w1_1 : w1.heap.size + 1 < w2.heap.size := by omega)
      try (have _P2w1_2 : w1.heap.size + 1 + 1 < w2.heap.size := by omega)
      try (have _P2w1_3 : w1.heap.size + 1 + 1 + 1 < w2.heap.size := by omega)
      have _ : w2.cell? ⟨w.heap.size, 0, none⟩ = some (.int .i64 n) := by rw [hc2 (w.heap.size) 0 (by first | omega | (simp; done) | (simp; omega))]; first | assumption | (simp; done) | simp [go_sem, *]
      have _ : w2.frozen? ⟨w.heap.size, 0, none⟩ = false := by rw [hf2 (w.heap.size) 0 (by first | omega | (simp; done) | (simp; omega))]; first | assumption | (simp; done) | simp [go_sem, *]
      have _ : w2.cell? ⟨w.heap.size, 1, none⟩ = some (.int .i64 e) := by rw [hc2 (w.heap.size) 1 (by first | omega | (simp; done) | (simp; omega))]; first | assumption | (simp; done) | simp [go_sem, *]
      have _ : w2.frozen? ⟨w.heap.size, 1, none⟩ = false := by rw [hf2 (w.heap.size) 1 (by first | omega | (simp; done) | (simp; omega))]; first | assumption | (simp; done) | simp [go_sem, *]
      have _ : w2.cell? ⟨w.heap.size, 2, none⟩ = some (.int .i64 s) := by rw [hc2 (w.heap.size) 2 (by first | omega | (simp; done) | (simp; omega))]; first | assumption | (simp; done) | simp [go_sem, *]
      have _ : w2.frozen? ⟨w.heap.size, 2, none⟩ = false := by rw [hf2 (w.heap.size) 2 (by first | omega | (simp; done) | (simp; omega))]; first | assumption | (simp; done) | simp [go_sem, *]
      have _ : w2.cell? ⟨w.heap.size, 3, none⟩ = some (.slice p ws.length cap) := by rw [hc2 (w.heap.size) 3 (by first | omega | (simp; done) | (simp; omega))]; first | assumption | (simp; done) | simp [go_sem, *]
      have _ : w2.frozen? ⟨w.heap.size, 3, none⟩ = false := by rw [hf2 (w.heap.size) 3 (by first | omega | (simp; done) | (simp; omega))]; first | assumption | (simp; done) | simp [go_sem, *]
      have _ : w2.cell? ⟨w.heap.size + 1, 0, none⟩ = some (.int .i64 0) := by rw [hc2 (w.heap.size + 1) 0 (by first | omega | (simp; done) | (simp; omega))]; first | assumption | (simp; done) | simp [go_sem, *]
      have _ : w2.frozen? ⟨w.heap.size + 1, 0, none⟩ = false := by rw [hf2 (w.heap.size + 1) 0 (by first | omega | (simp; done) | (simp; omega))]; first | assumption | (simp; done) | simp [go_sem, *]
      have _ : w2.cell? ⟨w.heap.size + 1, 1, none⟩ = some (.int .i64 0) := by rw [hc2 (w.heap.size + 1) 1 (by first | omega | (simp; done) | (simp; omega))]; first | assumption | (simp; done) | simp [go_sem, *]
      have _ : w2.frozen? ⟨w.heap.size + 1, 1, none⟩ = false := by rw [hf2 (w.heap.size + 1) 1 (by first | omega | (simp; done) | (simp; omega))]; first | assumption | (simp; done) | simp [go_sem, *]
      clear hc2 hf2
      rw [show hasB n a = false by simp [hasB]; omega]
      go_wp2
      exact bodyPost_ret (v := (.tuple #[.agg #[.int .i64 0, .int .i64 0], .bool false])) (by simp (maxDischargeDepth := 8) [results, Try.results24, go_sem, *]) rfl ⟨ret_ratio (by rw [HF.out]), by (repeat (first | exact Below.refl _ _ | (refine Below.setCell ?_ (by (first | exact Nat.le_refl _ | omega | (simp <;> omega) | simp)) _) | (refine Below.alloc ?_ (by (first | exact Nat.le_refl _ | omega | (simp <;> omega) | simp)) _) | (refine below_draws ?_ _) | exact B1 | (refine Below.trans ?_ (Below.mono B1 (by (first | exact Nat.le_refl _ | omega | (simp <;> omega) | simp)))) | exact B2 | (refine Below.trans ?_ (Below.mono B2 (by (first | exact Nat.le_refl _ | omega | (simp <;> omega) | simp))))))⟩
    by_cases gb : 0 ≤ b ∧ b < n
    case neg =>
      have HF : Hid (gapR n e s ws a b c = (0, 0, false)) := Lib.hid (by unfold gapR; rw [if_neg (by omega)])
      clear hr0 hr
      go_enter Try.func24, Try.ntmps24
      go_wp2_with fail
      refine hok.mono ?_
      rintro en w1 ⟨rfl, B1⟩
      obtain ⟨hc1, hf1⟩ := bcell B1
      have S1 := B1.size
      try simp at S1
      try (have _L1w : w.heap.size < w1.heap.size := by omega)
      have _M1w : w.heap.size ≤ w1.heap.size := by omega
      try (have _P1w_1 : w.heap.size + 1 < w1.heap.size := by omega)
      try (have _P1w_2 : w.heap.size + 1 + 1 < w1.heap.size := by omega)
      try (have _P1w_3 : w.heap.size + 1 + 1 + 1 < w1.heap.size := by omega)
      have _ : w1.cell? ⟨w.heap.size, 0, none⟩ = some (.int .i64 n) := by rw [hc1 (w.heap.size) 0 (by first | omega | (simp; done) | (simp; omega))]; first | assumption | (simp; done) | simp [go_sem, *]
      have _ : w1.frozen? ⟨w.heap.size, 0, none⟩ = false := by rw [hf1 (w.heap.size) 0 (by first | omega | (simp; done) | (simp; omega))]; first | assumption | (simp; done) | simp [go_sem, *]
      have _ : w1.cell? ⟨w.heap.size, 1, none⟩ = some (.int .i64 e) := by rw [hc1 (w.heap.size) 1 (by first | omega | (simp; done) | (simp; omega))]; first | assumption | (simp; done) | simp [go_sem, *]
      have _ : w1.frozen? ⟨w.heap.size, 1, none⟩ = false := by rw [hf1 (w.heap.size) 1 (by first | omega | (simp; done) | (simp; omega))]; first | assumption | (simp; done) | simp [go_sem, *]
      have _ : w1.cell? ⟨w.heap.size, 2, none⟩ = some (.int .i64 s) := by rw [hc1 (w.heap.size) 2 (by first | omega | (simp; done) | (simp; omega))]; first | assumption | (simp; done) | simp [go_sem, *]
      have _ : w1.frozen? ⟨w.heap.size, 2, none⟩ = false := by rw [hf1 (w.heap.size) 2 (by first | omega | (simp; done) | (simp; omega))]; first | assumption | (simp; done) | simp [go_sem, *]
      have _ : w1.cell? ⟨w.heap.size, 3, none⟩ = some (.slice p ws.length cap) := by rw [hc1 (w.heap.size) 3 (by first | omega | (simp; done) | (simp; omega))]; first | assumption | (simp; done) | simp [go_sem, *]
      have _ : w1.frozen? ⟨w.heap.size, 3, none⟩ = false := by rw [hf1 (w.heap.size) 3 (by first | omega | (simp; done) | (simp; omega))]; first | assumption | (simp; done) | simp [go_sem, *]
      have _ : w1.cell? ⟨w.heap.size + 1, 0, none⟩ = some (.int .i64 0) := by rw [hc1 (w.heap.size + 1) 0 (by first | omega | (simp; done) | (simp; omega))]; first | assumption | (simp; done) | simp [go_sem, *]
      have _ : w1.frozen? ⟨w.heap.size + 1, 0, none⟩ = false := by rw [hf1 (w.heap.size + 1) 0 (by first | omega | (simp; done) | (simp; omega))]; first | assumption | (simp; done) | simp [go_sem, *]
      have _ : w1.cell? ⟨w.heap.size + 1, 1, none⟩ = some (.int .i64 0) := by rw [hc1 (w.heap.size + 1) 1 (by first | omega | (simp; done) | (simp; omega))]; first | assumption | (simp; done) | simp [go_sem, *]
      have _ : w1.frozen? ⟨w.heap.size + 1, 1, none⟩ = false := by rw [hf1 (w.heap.size + 1) 1 (by first | omega | (simp; done) | (simp; omega))]; first | assumption | (simp; done) | simp [go_sem, *]
      clear hc1 hf1
      rw [hb]
      go_wp2_with fail
      refine (hasN_any n e s a _ _).mono ?_
      rintro en w2 ⟨rfl, B2⟩
      obtain ⟨hc2, hf2⟩ := bcell B2
      have S2 := B2.size
      try simp at S2
      try (have _L2w : w.heap.size < w2.heap.size := by omega)
      have _M2w : w.heap.size ≤ w2.heap.size := by omega
      try (have _P2w_1 : w.heap.size + 1 < w2.heap.size := by omega)
      try (have _P2w_2 : w.heap.size + 1 + 1 < w2.heap.size := by omega)
      try (have _P2w_3 : w.heap.size + 1 + 1 + 1 < w2.heap.size := by omega)
      try (have _L2w1 : w1.heap.size < w2.heap.size := by omega)
      have _M2w1 : w1.heap.size ≤ w2.heap.size := by omega
      try (have _P2w1_1 : w1.heap.size + 1 < w2.heap.size := by omega)
      try (have _P2w1_2 : w1.heap.size + 1 + 1 < w2.heap.size := by omega)
      try (have _P2w1_3 : w1.heap.size + 1 + 1 + 1 < w2.heap.size := by omega)
      have _ : w2.cell? ⟨w.heap.size, 0, none⟩ = some (.int .i64 n) := by rw [hc2 (w.heap.size) 0 (by first | omega | (simp; done) | (simp; omega))]; first | assumption | (simp; done) | simp [go_sem, *]
      have _ : w2.frozen? ⟨w.heap.size, 0, none⟩ = false := by rw [hf2 (w.heap.size) 0 (by first | omega | (simp; done) | (simp; omega))]; first | assumption | (simp; done) | simp [go_sem, *]
      have _ : w2.cell? ⟨w.heap.size, 1, none⟩ = some (.int .i64 e) := by rw [hc2 (w.heap.size) 1 (by first | omega | (simp; done) | (simp; omega))]; first | assumption | (simp; done) | simp [go_sem, *]
      have _ : w2.frozen? ⟨w.heap.size, 1, none⟩ = false := by rw [hf2 (w.heap.size) 1 (by first | omega | (simp; done) | (simp; omega))]; first | assumption | (simp; done) | simp [go_sem, *]
      have _ : w2.cell? ⟨w.heap.size, 2, none⟩ = some (.int .i64 s) := by rw [hc2 (w.heap.size) 2 (by first | omega | (simp; done) | (simp; omega))]; first | assumption | (simp; done) | simp [go_sem, *]
      have _ : w2.frozen? ⟨w.heap.size, 2, none⟩ = false := by rw [hf2 (w.heap.size) 2 (by first | omega | (simp; done) | (simp; omega))]; first | assumption | (simp; done) | simp [go_sem, *]
      have _ : w2.cell? ⟨w.heap.size, 3, none⟩ = some (.slice p ws.length cap) := by rw [hc2 (w.heap.size) 3 (by first | omega | (simp; done) | (simp; omega))]; first | assumption | (simp; done) | simp [go_sem, *]
      have _ : w2.frozen? ⟨w.heap.size, 3, none⟩ = false := by rw [hf2 (w.heap.size) 3 (by first | omega | (simp; done) | (simp; omega))]; first | assumption | (simp; done) | simp [go_sem, *]
      have _ : w2.cell? ⟨w.heap.size + 1, 0, none⟩ = some (.int .i64 0) := by rw [hc2 (w.heap.size + 1) 0 (by first | omega | (simp; done) | (simp; omega))]; first | assumption | (simp; done) | simp [go_sem, *]
      have _ : w2.frozen? ⟨w.heap.size + 1, 0, none⟩ = false := by rw [hf2 (w.heap.size + 1) 0 (by first | omega | (simp; done) | (simp; omega))]; first | assumption | (simp; done) | simp [go_sem, *]
      have _ : w2.cell? ⟨w.heap.size + 1, 1, none⟩ = some (.int .i64 0) := by rw [hc2 (w.heap.size + 1) 1 (by first | omega | (simp; done) | (simp; omega))]; first | assumption | (simp; done) | simp [go_sem, *]
      have _ : w2.frozen? ⟨w.heap.size + 1, 1, none⟩ = false := by rw [hf2 (w.heap.size + 1) 1 (by first | omega | (simp; done) | (simp; omega))]; first | assumption | (simp; done) | simp [go_sem, *]
      clear hc2 hf2
      rw [show hasB n a = true by simp [hasB]; omega]
      go_wp2_with fail
      refine (hasN_any n e s b _ _).mono ?_
      rintro en w3 ⟨rfl, B3⟩
      obtain ⟨hc3, hf3⟩ := bcell B3
      have S3 := B3.size
      try simp at S3
      try (have _L3w : w.heap.size < w3.heap.size := by omega)
      have _M3w : w.heap.size ≤ w3.heap.size := by omega
      try (have _P3w_1 : w.heap.size + 1 < w3.heap.size := by omega)
      try (have _P3w_2 : w.heap.size + 1 + 1 < w3.heap.size := by omega)
      try (have _P3w_3 : w.heap.size + 1 + 1 + 1 < w3.heap.size := by omega)
      try (have _L3w1 : w1.heap.size < w3.heap.size := by omega)
      have _M3w1 : w1.heap.size ≤ w3.heap.size := by omega
      try (have _P3w1_1 : w1.heap.size + 1 < w3.heap.size := by omega)
      try (have _P3w1_2 : w1.heap.size + 1 + 1 < w3.heap.size := by omega)
      try (have _P3w1_3 : w1.heap.size + 1 + 1 + 1 < w3.heap.size := by omega)
      try (have _L3w2 : w2.heap.size < w3.heap.size := by omega)
      have _M3w2 : w2.heap.size ≤ w3.heap.size := by omega
      try (have _P3w2_1 : w2.heap.size + 1 < w3.heap.size := by omega)
      try (have _P3w2_2 : w2.heap.size + 1 + 1 < w3.heap.size := by omega)
      try (have _P3w2_3 : w2.heap.size + 1 + 1 + 1 < w3.heap.size := by omega)
      have _ : w3.cell? ⟨w.heap.size, 0, none⟩ = some (.int .i64 n) := by rw [hc3 (w.heap.size) 0 (by first | omega | (simp; done) | (simp; omega))]; first | assumption | (simp; done) | simp [go_sem, *]
      have _ : w3.frozen? ⟨w.heap.size, 0, none⟩ = false := by rw [hf3 (w.heap.size) 0 (by first | omega | (simp; done) | (simp; omega))]; first | assumption | (simp; done) | simp [go_sem, *]
      have _ : w3.cell? ⟨w.heap.size, 1, none⟩ = some (.int .i64 e) := by rw [hc3 (w.heap.size) 1 (by first | omega | (simp; done) | (simp; omega))]; first | assumption | (simp; done) | simp [go_sem, *]
      have _ : w3.frozen? ⟨w.heap.size, 1, none⟩ = false := by rw [hf3 (w.heap.size) 1 (by first | omega | (simp; done) | (simp; omega))]; first | assumption | (simp; done) | simp [go_sem, *]
      have _ : w3.cell? ⟨w.heap.size, 2, none⟩ = some (.int .i64 s) := by rw [hc3 (w.heap.size) 2 (by first | omega | (simp; done) | (simp; omega))]; first | assumption | (simp; done) | simp [go_sem, *]
      have _ : w3.frozen? ⟨w.heap.size, 2, none⟩ = false := by rw [hf3 (w.heap.size) 2 (by first | omega | (simp; done) | (simp; omega))]; first | assumption | (simp; done) | simp [go_sem, *]
      have _ : w3.cell? ⟨w.heap.size, 3, none⟩ = some (.slice p ws.length cap) := by rw [hc3 (w.heap.size) 3 (by first | omega | (simp; done) | (simp; omega))]; first | assumption | (simp; done) | simp [go_sem, *]
      have _ : w3.frozen? ⟨w.heap.size, 3, none⟩ = false := by rw [hf3 (w.heap.size) 3 (by first | omega | (simp; done) | (simp; omega))]; first | assumption | (simp; done) | simp [go_sem, *]
      have _ : w3.cell? ⟨w.heap.size + 1, 0, none⟩ = some (.int .i64 0) := by rw [hc3 (w.heap.size + 1) 0 (by first | omega | (simp; done) | (simp; omega))]; first | assumption | (simp; done) | simp [go_sem, *]
      have _ : w3.frozen? ⟨w.heap.size + 1, 0, none⟩ = false := by rw [hf3 (w.heap.size + 1) 0 (by first | omega | (simp; done) | (simp; omega))]; first | assumption | (simp; done) | simp [go_sem, *]
      have _ : w3.cell? ⟨w.heap.size + 1, 1, none⟩ = some (.int .i64 0) := by rw [hc3 (w.heap.size + 1) 1 (by first | omega | (simp; done) | (simp; omega))]; first | assumption | (simp; done) | simp [go_sem, *]
      have _ : w3.frozen? ⟨w.heap.size + 1, 1, none⟩ = false := by rw [hf3 (w.heap.size + 1) 1 (by first | omega | (simp; done) | (simp; omega))]; first | assumption | (simp; done) | simp [go_sem, *]
      clear hc3 hf3
      rw [show hasB n b = false by simp [hasB]; omega]
      go_wp2
      exact bodyPost_ret (v := (.tuple #[.agg #[.int .i64 0, .int .i64 0], .bool false])) (by simp (maxDischargeDepth := 8) [results, Try.results24, go_sem, *]) rfl ⟨ret_ratio (by rw [HF.out]), by (repeat (first | exact Below.refl _ _ | (refine Below.setCell ?_ (by (first | exact Nat.le_refl _ | omega | (simp <;> omega) | simp)) _) | (refine Below.alloc ?_ (by (first | exact Nat.le_refl _ | omega | (simp <;> omega) | simp)) _) | (refine below_draws ?_ _) | exact B1 | (refine Below.trans ?_ (Below.mono B1 (by (first | exact Nat.le_refl _ | omega | (simp <;> omega) | simp)))) | exact B2 | (refine Below.trans ?_ (Below.mono B2 (by (first | exact Nat.le_refl _ | omega | (simp <;> omega) | simp)))) | exact B3 | (refine Below.trans ?_ (Below.mono B3 (by (first | exact Nat.le_refl _ | omega | (simp <;> omega) | simp))))))⟩
    by_cases gc : 0 ≤ c ∧ c < n
    case neg =>
      have HF : Hid (gapR n e s ws a b c = (0, 0, false)) := Lib.hid (by unfold gapR; rw [if_neg (by omega)])
      clear hr0 hr
      go_enter Try.func24, Try.ntmps24
      go_wp2_with fail
      refine hok.mono ?_
      rintro en w1 ⟨rfl, B1⟩
      obtain ⟨hc1, hf1⟩ := bcell B1
      have S1 := B1.size
      try simp at S1
      try (have _L1w : w.heap.size < w1.heap.size := by omega)
      have _M1w : w.heap.size ≤ w1.heap.size := by omega
      try (have _P1w_1 : w.heap.size + 1 < w1.heap.size := by omega)
      try (have _P1w_2 : w.heap.size + 1 + 1 < w1.heap.size := by omega)
      try (have _P1w_3 : w.heap.size + 1 + 1 + 1 < w1.heap.size := by omega)
      have _ : w1.cell? ⟨w.heap.size, 0, none⟩ = some (.int .i64 n) := by rw [hc1 (w.heap.size) 0 (by first | omega | (simp; done) | (simp; omega))]; first | assumption | (simp; done) | simp [go_sem, *]
      have _ : w1.frozen? ⟨w.heap.size, 0, none⟩ = false := by rw [hf1 (w.heap.size) 0 (by first | omega | (simp; done) | (simp; omega))]; first | assumption | (simp; done) | simp [go_sem, *]
      have _ : w1.cell? ⟨w.heap.size, 1, none⟩ = some (.int .i64 e) := by rw [hc1 (w.heap.size) 1 (by first | omega | (simp; done) | (simp; omega))]; first | assumption | (simp; done) | simp [go_sem, *]
      have _ : w1.frozen? ⟨w.heap.size, 1, none⟩ = false := by rw [hf1 (w.heap.size) 1 (by first | omega | (simp; done) | (simp; omega))]; first | assumption | (simp; done) | simp [go_sem, *]
      have _ : w1.cell? ⟨w.heap.size, 2, none⟩ = some (.int .i64 s) := by rw [hc1 (w.heap.size) 2 (by first | omega | (simp; done) | (simp; omega))]; first | assumption | (simp; done) | simp [go_sem, *]
      have _ : w1.frozen? ⟨w.heap.size, 2, none⟩ = false := by rw [hf1 (w.heap.size) 2 (by first | omega | (simp; done) | (simp; omega))]; first | assumption | (simp; done) | simp [go_sem, *]
      have _ : w1.cell? ⟨w.heap.size, 3, none⟩ = some (.slice p ws.length cap) := by rw [hc1 (w.heap.size) 3 (by first | omega | (simp; done) | (simp; omega))]; first | assumption | (simp; done) | simp [go_sem, *]
      have _ : w1.frozen? ⟨w.heap.size, 3, none⟩ = false := by rw [hf1 (w.heap.size) 3 (by first | omega | (simp; done) | (simp; omega))]; first | assumption | (simp; done) | simp [go_sem, *]
      have _ : w1.cell? ⟨w.heap.size + 1, 0, none⟩ = some (.int .i64 0) := by rw [hc1 (w.heap.size + 1) 0 (by first | omega | (simp; done) | (simp; omega))]; first | assumption | (simp; done) | simp [go_sem, *]
      have _ : w1.frozen? ⟨w.heap.size + 1, 0, none⟩ = false := by rw [hf1 (w.heap.size + 1) 0 (by first | omega | (simp; done) | (simp; omega))]; first | assumption | (simp; done) | simp [go_sem, *]
      have _ : w1.cell? ⟨w.heap.size + 1, 1, none⟩ = some (.int .i64 0) := by rw [hc1 (w.heap.size + 1) 1 (by first | omega | (simp; done) | (simp; omega))]; first | assumption | (simp; done) | simp [go_sem, *]
      have _ : w1.frozen? ⟨w.heap.size + 1, 1, none⟩ = false := by rw [hf1 (w.heap.size + 1) 1 (by first | omega | (simp; done) | (simp; omega))]; first | assumption | (simp; done) | simp [go_sem, *]
      clear hc1 hf1
      rw [hb]
      go_wp2_with fail
      refine (hasN_any n e s a _ _).mono ?_
      rintro en w2 ⟨rfl, B2⟩
      obtain ⟨hc2, hf2⟩ := bcell B2
      have S2 := B2.size
      try simp at S2
      try (have _L2w : w.heap.size < w2.heap.size := by omega)
      have _M2w : w.heap.size ≤ w2.heap.size := by omega
      try (have _P2w_1 : w.heap.size + 1 < w2.heap.size := by omega)
      try (have _P2w_2 : w.heap.size + 1 + 1 < w2.heap.size := by omega)
      try (have _P2w_3 : w.heap.size + 1 + 1 + 1 < w2.heap.size := by omega)
      try (have _L2w1 : w1.heap.size < w2.heap.size := by omega)
      have _M2w1 : w1.heap.size ≤ w2.heap.size := by omega
      try (have _P2w1_1 : w1.heap.size + 1 < w2.heap.size := by omega)
      try (have _P2w1_2 : w1.heap.size + 1 + 1 < w2.heap.size := by omega)
      try (have _P2w1_3 : w1.heap.size + 1 + 1 + 1 < w2.heap.size := by omega)
      have _ : w2.cell? ⟨w.heap.size, 0, none⟩ = some (.int .i64 n) := by rw [hc2 (w.heap.size) 0 (by first | omega | (simp; done) | (simp; omega))]; first | assumption | (simp; done) | simp [go_sem, *]
      have _ : w2.frozen? ⟨w.heap.size, 0, none⟩ = false := by rw [hf2 (w.heap.size) 0 (by first | omega | (simp; done) | (simp; omega))]; first | assumption | (simp; done) | simp [go_sem, *]
      have _ : w2.cell? ⟨w.heap.size, 1, none⟩ = some (.int .i64 e) := by rw [hc2 (w.heap.size) 1 (by first | omega | (simp; done) | (simp; omega))]; first | assumption | (simp; done) | simp [go_sem, *]
      have _ : w2.frozen? ⟨w.heap.size, 1, none⟩ = false := by rw [hf2 (w.heap.size) 1 (by first | omega | (simp; done) | (simp; omega))]; first | assumption | (simp; done) | simp [go_sem, *]
      have _ : w2.cell? ⟨w.heap.size, 2, none⟩ = some (.int .i64 s) := by rw [hc2 (w.heap.size) 2 (by first | omega | (simp; done) | (simp; omega))]; first | assumption | (simp; done) | simp [go_sem, *]
      have _ : w2.frozen? ⟨w.heap.size, 2, none⟩ = false := by rw [hf2 (w.heap.size) 2 (by first | omega | (simp; done) | (simp; omega))]; first | assumption | (simp; done) | simp [go_sem, *]
      have _ : w2.cell? ⟨w.heap.size, 3, none⟩ = some (.slice p ws.length cap) := by rw [hc2 (w.heap.size) 3 (by first | omega | (simp; done) | (simp; omega))]; first | assumption | (simp; done) | simp [go_sem, *]
      have _ : w2.frozen? ⟨w.heap.size, 3, none⟩ = false := by rw [hf2 (w.heap.size) 3 (by first | omega | (simp; done) | (simp; omega))]; first | assumption | (simp; done) | simp [go_sem, *]
      have _ : w2.cell? ⟨w.heap.size + 1, 0, none⟩ = some (.int .i64 0) := by rw [hc2 (w.heap.size + 1) 0 (by first | omega | (simp; done) | (simp; omega))]; first | assumption | (simp; done) | simp [go_sem, *]
      have _ : w2.frozen? ⟨w.heap.size + 1, 0, none⟩ = false := by rw [hf2 (w.heap.size + 1) 0 (by first | omega | (simp; done) | (simp; omega))]; first | assumption | (simp; done) | simp [go_sem, *]
      have _ : w2.cell? ⟨w.heap.size + 1, 1, none⟩ = some (.int .i64 0) := by rw [hc2 (w.heap.size + 1) 1 (by first | omega | (simp; done) | (simp; omega))]; first | assumption | (simp; done) | simp [go_sem, *]
      have _ : w2.frozen? ⟨w.heap.size + 1, 1, none⟩ = false := by rw [hf2 (w.heap.size + 1) 1 (by first | omega | (simp; done) | (simp; omega))]; first | assumption | (simp; done) | simp [go_sem, *]
      clear hc2 hf2
      rw [show hasB n a = true by simp [hasB]; omega]
      go_wp2_with fail
      refine (hasN_any n e s b _ _).mono ?_
      rintro en w3 ⟨rfl, B3⟩
      obtain ⟨hc3, hf3⟩ := bcell B3
      have S3 := B3.size
      try simp at S3
      try (have _L3w : w.heap.size < w3.heap.size := by omega)
      have _M3w : w.heap.size ≤ w3.heap.size := by omega
      try (have _P3w_1 : w.heap.size + 1 < w3.heap.size := by omega)
      try (have _P3w_2 : w.heap.size + 1 + 1 < w3.heap.size := by omega)
      try (have _P3w_3 : w.heap.size + 1 + 1 + 1 < w3.heap.size := by omega)
      try (have _L3w1 : w1.heap.size < w3.heap.size := by omega)
      have _M3w1 : w1.heap.size ≤ w3.heap.size := by omega
      try (have _P3w1_1 : w1.heap.size + 1 < w3.heap.size := by omega)
      try (have _P3w1_2 : w1.heap.size + 1 + 1 < w3.heap.size := by omega)
      try (have _P3w1_3 : w1.heap.size + 1 + 1 + 1 < w3.heap.size := by omega)
      try (have _L3w2 : w2.heap.size < w3.heap.size := by omega)
      have _M3w2 : w2.heap.size ≤ w3.heap.size := by omega
      try (have _P3w2_1 : w2.heap.size + 1 < w3.heap.size := by omega)
      try (have _P3w2_2 : w2.heap.size + 1 + 1 < w3.heap.size := by omega)
      try (have _P3w2_3 : w2.heap.size + 1 + 1 + 1 < w3.heap.size := by omega)
      have _ : w3.cell? ⟨w.heap.size, 0, none⟩ = some (.int .i64 n) := by rw [hc3 (w.heap.size) 0 (by first | omega | (simp; done) | (simp; omega))]; first | assumption | (simp; done) | simp [go_sem, *]
      have _ : w3.frozen? ⟨w.heap.size, 0, none⟩ = false := by rw [hf3 (w.heap.size) 0 (by first | omega | (simp; done) | (simp; omega))]; first | assumption | (simp; done) | simp [go_sem, *]
      have _ : w3.cell? ⟨w.heap.size, 1, none⟩ = some (.int .i64 e) := by rw [hc3 (w.heap.size) 1 (by first | omega | (simp; done) | (simp; omega))]; first | assumption | (simp; done) | simp [go_sem, *]
      have _ : w3.frozen? ⟨w.heap.size, 1, none⟩ = false := by rw [hf3 (w.heap.size) 1 (by first | omega | (simp; done) | (simp; omega))]; first | assumption | (simp; done) | simp [go_sem, *]
      have _ : w3.cell? ⟨w.heap.size, 2, none⟩ = some (.int .i64 s) := by rw [hc3 (w.heap.size) 2 (by first | omega | (simp; done) | (simp; omega))]; first | assumption | (simp; done) | simp [go_sem, *]
      have _ : w3.frozen? ⟨w.heap.size, 2, none⟩ = false := by rw [hf3 (w.heap.size) 2 (by first | omega | (simp; done) | (simp; omega))]; first | assumption | (simp; done) | simp [go_sem, *]
      have _ : w3.cell? ⟨w.heap.size, 3, none⟩ = some (.slice p ws.length cap) := by rw [hc3 (w.heap.size) 3 (by first | omega | (simp; done) | (simp; omega))]; first | assumption | (simp; done) | simp [go_sem, *]
      have _ : w3.frozen? ⟨w.heap.size, 3, none⟩ = false := by rw [hf3 (w.heap.size) 3 (by first | omega | (simp; done) | (simp; omega))]; first | assumption | (simp; done) | simp [go_sem, *]
      have _ : w3.cell? ⟨w.heap.size + 1, 0, none⟩ = some (.int .i64 0) := by rw [hc3 (w.heap.size + 1) 0 (by first | omega | (simp; done) | (simp; omega))]; first | assumption | (simp; done) | simp [go_sem, *]
      have _ : w3.frozen? ⟨w.heap.size + 1, 0, none⟩ = false := by rw [hf3 (w.heap.size + 1) 0 (by first | omega | (simp; done) | (simp; omega))]; first | assumption | (simp; done) | simp [go_sem, *]
      have _ : w3.cell? ⟨w.heap.size + 1, 1, none⟩ = some (.int .i64 0) := by rw [hc3 (w.heap.size + 1) 1 (by first | omega | (simp; done) | (simp; omega))]; first | assumption | (simp; done) | simp [go_sem, *]
      have _ : w3.frozen? ⟨w.heap.size + 1, 1, none⟩ = false := by rw [hf3 (w.heap.size + 1) 1 (by first | omega | (simp; done) | (simp; omega))]; first | assumption | (simp; done) | simp [go_sem, *]
      clear hc3 hf3
      rw [show hasB n b = true by simp [hasB]; omega]
      go_wp2_with fail
      refine (hasN_any n e s c _ _).mono ?_
      rintro en w4 ⟨rfl, B4⟩
      obtain ⟨hc4, hf4⟩ := bcell B4
      have S4 := B4.size
      try simp at S4
      try (have _L4w : w.heap.size < w4.heap.size := by omega)
      have _M4w : w.heap.size ≤ w4.heap.size := by omega
      try (have _P4w_1 : w.heap.size + 1 < w4.heap.size := by omega)
      try (have _P4w_2 : w.heap.size + 1 + 1 < w4.heap.size := by omega)
      try (have _P4w_3 : w.heap.size + 1 + 1 + 1 < w4.heap.size := by omega)
      try (have _L4w1 : w1.heap.size < w4.heap.size := by omega)
      have _M4w1 : w1.heap.size ≤ w4.heap.size := by omega
      try (have _P4w1_1 : w1.heap.size + 1 < w4.heap.size := by omega)
      try (have _P4w1_2 : w1.heap.size + 1 + 1 < w4.heap.size := by omega)
      try (have _P4w1_3 : w1.heap.size + 1 + 1 + 1 < w4.heap.size := by omega)
      try (have _L4w2 : w2.heap.size < w4.heap.size := by omega)
      have _M4w2 : w2.heap.size ≤ w4.heap.size := by omega
      try (have _P4w2_1 : w2.heap.size + 1 < w4.heap.size := by omega)
      try (have _P4w2_2 : w2.heap.size + 1 + 1 < w4.heap.size := by omega)
      try (have _P4w2_3 : w2.heap.size + 1 + 1 + 1 < w4.heap.size := by omega)
      try (have _L4w3 : w3.heap.size < w4.heap.size := by omega)
      have _M4w3 : w3.heap.size ≤ w4.heap.size := by omega
      try (have _P4w3_1 : w3.heap.size + 1 < w4.heap.size := by omega)
      try (have _P4w3_2 : w3.heap.size + 1 + 1 < w4.heap.size := by omega)
      try (have _P4w3_3 : w3.heap.size + 1 + 1 + 1 < w4.heap.size := by omega)
      have _ : w4.cell? ⟨w.heap.size, 0, none⟩ = some (.int .i64 n) := by rw [hc4 (w.heap.size) 0 (by first | omega | (simp; done) | (simp; omega))]; first | assumption | (simp; done) | simp [go_sem, *]
      have _ : w4.frozen? ⟨w.heap.size, 0, none⟩ = false := by rw [hf4 (w.heap.size) 0 (by first | omega | (simp; done) | (simp; omega))]; first | assumption | (simp; done) | simp [go_sem, *]
      have _ : w4.cell? ⟨w.heap.size, 1, none⟩ = some (.int .i64 e) := by rw [hc4 (w.heap.size) 1 (by first | omega | (simp; done) | (simp; omega))]; first | assumption | (simp; done) | simp [go_sem, *]
      have _ : w4.frozen? ⟨w.heap.size, 1, none⟩ = false := by rw [hf4 (w.heap.size) 1 (by first | omega | (simp; done) | (simp; omega))]; first | assumption | (simp; done) | simp [go_sem, *]
      have _ : w4.cell? ⟨w.heap.size, 2, none⟩ = some (.int .i64 s) := by rw [hc4 (w.heap.size) 2 (by first | omega | (simp; done) | (simp; omega))]; first | assumption | (simp; done) | simp [go_sem, *]
      have _ : w4.frozen? ⟨w.heap.size, 2, none⟩ = false := by rw [hf4 (w.heap.size) 2 (by first | omega | (simp; done) | (simp; omega))]; first | assumption | (simp; done) | simp [go_sem, *]
      have _ : w4.cell? ⟨w.heap.size, 3, none⟩ = some (.slice p ws.length cap) := by rw [hc4 (w.heap.size) 3 (by first | omega | (simp; done) | (simp; omega))]; first | assumption | (simp; done) | simp [go_sem, *]
      have _ : w4.frozen? ⟨w.heap.size, 3, none⟩ = false := by rw [hf4 (w.heap.size) 3 (by first | omega | (simp; done) | (simp; omega))]; first | assumption | (simp; done) | simp [go_sem, *]
      have _ : w4.cell? ⟨w.heap.size + 1, 0, none⟩ = some (.int .i64 0) := by rw [hc4 (w.heap.size + 1) 0 (by first | omega | (simp; done) | (simp; omega))]; first | assumption | (simp; done) | simp [go_sem, *]
      have _ : w4.frozen? ⟨w.heap.size + 1, 0, none⟩ = false := by rw [hf4 (w.heap.size + 1) 0 (by first | omega | (simp; done) | (simp; omega))]; first | assumption | (simp; done) | simp [go_sem, *]
      have _ : w4.cell? ⟨w.heap.size + 1, 1, none⟩ = some (.int .i64 0) := by rw [hc4 (w.heap.size + 1) 1 (by first | omega | (simp; done) | (simp; omega))]; first | assumption | (simp; done) | simp [go_sem, *]
      have _ : w4.frozen? ⟨w.heap.size + 1, 1, none⟩ = false := by rw [hf4 (w.heap.size + 1) 1 (by first | omega | (simp; done) | (simp; omega))]; first | assumption | (simp; done) | simp [go_sem, *]
      clear hc4 hf4
      rw [show hasB n c = false by simp [hasB]; omega]
      go_wp2
      exact bodyPost_ret (v := (.tuple #[.agg #[.int .i64 0, .int .i64 0], .bool false])) (by simp (maxDischargeDepth := 8) [results, Try.results24, go_sem, *]) rfl ⟨ret_ratio (by rw [HF.out]), by (repeat (first | exact Below.refl _ _ | (refine Below.setCell ?_ (by (first | exact Nat.le_refl _ | omega | (simp <;> omega) | simp)) _) | (refine Below.alloc ?_ (by (first | exact Nat.le_refl _ | omega | (simp <;> omega) | simp)) _) | (refine below_draws ?_ _) | exact B1 | (refine Below.trans ?_ (Below.mono B1 (by (first | exact Nat.le_refl _ | omega | (simp <;> omega) | simp)))) | exact B2 | (refine Below.trans ?_ (Below.mono B2 (by (first | exact Nat.le_refl _ | omega | (simp <;> omega) | simp)))) | exact B3 | (refine Below.trans ?_ (Below.mono B3 (by (first | exact Nat.le_refl _ | omega | (simp <;> omega) | simp)))) | exact B4 | (refine Below.trans ?_ (Below.mono B4 (by (first | exact Nat.le_refl _ | omega | (simp <;> omega) | simp))))))⟩
    have HF : Hid (gapR n e s ws a b c = (rOfN (s * gapF n e s ws a b c) (treeR n e s ws), rOfD (s * gapF n e s ws a b c) (treeR n e s ws), true)) := Lib.hid (by unfold gapR; rw [if_pos ⟨hb, ga, gb, gc⟩])
    obtain ⟨s1, s2⟩ := net_scale hb
    obtain ⟨f1, f2⟩ := gap_range n e s ws a b c
    obtain ⟨t0, t1⟩ := tree_range n e s ws
    obtain ⟨q1, q2⟩ := scale_le s1 s2 f1 f2
    have HR := Lib.hid hr; clear hr hr0
    have hW : Hid (∀ q, gapF n e s ws a b c = 2 * q → IntKind.i64.wrap (IntKind.i64.wrap (2 * s) * q) = s * gapF n e s ws a b c) := Lib.hid (fun q hq => by
      have h : 2 * s * q = s * gapF n e s ws a b c := by rw [hq, Int.mul_comm 2 s, Int.mul_assoc]
      rw [wrap_in (x := 2 * s) (by omega) (by omega), h]
      exact wrap_in (x := s * gapF n e s ws a b c) (by omega) (by omega))
    have HQ := Lib.hid (show -9223372036854775808 ≤ s * gapF n e s ws a b c ∧ s * gapF n e s ws a b c ≤ 9223372036854775807 ∧ -9223372036854775808 ≤ treeR n e s ws ∧ treeR n e s ws ≤ 9223372036854775807 by omega)
    have HSd : Hid (∀ W, ReadsW W (.slice p ws.length cap) ws → Calls Try.prog 72 #[.agg #[.int .i64 n, .int .i64 e, .int .i64 s, .slice p ws.length cap], .int .i64 a, .int .i64 b, .int .i64 c] W fun en w' => (∃ q, en = .returned (.int .i64 q) ∧ gapF n e s ws a b c = 2 * q) ∧ Below W.heap.size W w') := Lib.hid (fun W hW' => impl_sideF n e s a b c _ ws W hb ga gb gc hW')
    clear f1 f2 q1 q2 t0 t1
    go_enter Try.func24, Try.ntmps24
    go_wp2_with fail
    refine hok.mono ?_
    rintro en w1 ⟨rfl, B1⟩
    obtain ⟨hc1, hf1⟩ := bcell B1
    have S1 := B1.size
    try simp at S1
    try (have _L1w : w.heap.size < w1.heap.size := by omega)
    have _M1w : w.heap.size ≤ w1.heap.size := by omega
    try (have _P1w_1 : w.heap.size + 1 < w1.heap.size := by omega)
    try (have _P1w_2 : w.heap.size + 1 + 1 < w1.heap.size := by omega)
    try (have _P1w_3 : w.heap.size + 1 + 1 + 1 < w1.heap.size := by omega)
    have _ : w1.cell? ⟨w.heap.size, 0, none⟩ = some (.int .i64 n) := by rw [hc1 (w.heap.size) 0 (by first | omega | (simp; done) | (simp; omega))]; first | assumption | (simp; done) | simp [go_sem, *]
    have _ : w1.frozen? ⟨w.heap.size, 0, none⟩ = false := by rw [hf1 (w.heap.size) 0 (by first | omega | (simp; done) | (simp; omega))]; first | assumption | (simp; done) | simp [go_sem, *]
    have _ : w1.cell? ⟨w.heap.size, 1, none⟩ = some (.int .i64 e) := by rw [hc1 (w.heap.size) 1 (by first | omega | (simp; done) | (simp; omega))]; first | assumption | (simp; done) | simp [go_sem, *]
    have _ : w1.frozen? ⟨w.heap.size, 1, none⟩ = false := by rw [hf1 (w.heap.size) 1 (by first | omega | (simp; done) | (simp; omega))]; first | assumption | (simp; done) | simp [go_sem, *]
    have _ : w1.cell? ⟨w.heap.size, 2, none⟩ = some (.int .i64 s) := by rw [hc1 (w.heap.size) 2 (by first | omega | (simp; done) | (simp; omega))]; first | assumption | (simp; done) | simp [go_sem, *]
    have _ : w1.frozen? ⟨w.heap.size, 2, none⟩ = false := by rw [hf1 (w.heap.size) 2 (by first | omega | (simp; done) | (simp; omega))]; first | assumption | (simp; done) | simp [go_sem, *]
    have _ : w1.cell? ⟨w.heap.size, 3, none⟩ = some (.slice p ws.length cap) := by rw [hc1 (w.heap.size) 3 (by first | omega | (simp; done) | (simp; omega))]; first | assumption | (simp; done) | simp [go_sem, *]
    have _ : w1.frozen? ⟨w.heap.size, 3, none⟩ = false := by rw [hf1 (w.heap.size) 3 (by first | omega | (simp; done) | (simp; omega))]; first | assumption | (simp; done) | simp [go_sem, *]
    have _ : w1.cell? ⟨w.heap.size + 1, 0, none⟩ = some (.int .i64 0) := by rw [hc1 (w.heap.size + 1) 0 (by first | omega | (simp; done) | (simp; omega))]; first | assumption | (simp; done) | simp [go_sem, *]
    have _ : w1.frozen? ⟨w.heap.size + 1, 0, none⟩ = false := by rw [hf1 (w.heap.size + 1) 0 (by first | omega | (simp; done) | (simp; omega))]; first | assumption | (simp; done) | simp [go_sem, *]
    have _ : w1.cell? ⟨w.heap.size + 1, 1, none⟩ = some (.int .i64 0) := by rw [hc1 (w.heap.size + 1) 1 (by first | omega | (simp; done) | (simp; omega))]; first | assumption | (simp; done) | simp [go_sem, *]
    have _ : w1.frozen? ⟨w.heap.size + 1, 1, none⟩ = false := by rw [hf1 (w.heap.size + 1) 1 (by first | omega | (simp; done) | (simp; omega))]; first | assumption | (simp; done) | simp [go_sem, *]
    clear hc1 hf1
    rw [hb]
    go_wp2_with fail
    refine (hasN_any n e s a _ _).mono ?_
    rintro en w2 ⟨rfl, B2⟩
    obtain ⟨hc2, hf2⟩ := bcell B2
    have S2 := B2.size
    try simp at S2
    try (have _L2w : w.heap.size < w2.heap.size := by omega)
    have _M2w : w.heap.size ≤ w2.heap.size := by omega
    try (have _P2w_1 : w.heap.size + 1 < w2.heap.size := by omega)
    try (have _P2w_2 : w.heap.size + 1 + 1 < w2.heap.size := by omega)
    try (have _P2w_3 : w.heap.size + 1 + 1 + 1 < w2.heap.size := by omega)
    try (have _L2w1 : w1.heap.size < w2.heap.size := by omega)
    have _M2w1 : w1.heap.size ≤ w2.heap.size := by omega
    try (have _P2w1_1 : w1.heap.size + 1 < w2.heap.size := by omega)
    try (have _P2w1_2 : w1.heap.size + 1 + 1 < w2.heap.size := by omega)
    try (have _P2w1_3 : w1.heap.size + 1 + 1 + 1 < w2.heap.size := by omega)
    have _ : w2.cell? ⟨w.heap.size, 0, none⟩ = some (.int .i64 n) := by rw [hc2 (w.heap.size) 0 (by first | omega | (simp; done) | (simp; omega))]; first | assumption | (simp; done) | simp [go_sem, *]
    have _ : w2.frozen? ⟨w.heap.size, 0, none⟩ = false := by rw [hf2 (w.heap.size) 0 (by first | omega | (simp; done) | (simp; omega))]; first | assumption | (simp; done) | simp [go_sem, *]
    have _ : w2.cell? ⟨w.heap.size, 1, none⟩ = some (.int .i64 e) := by rw [hc2 (w.heap.size) 1 (by first | omega | (simp; done) | (simp; omega))]; first | assumption | (simp; done) | simp [go_sem, *]
    have _ : w2.frozen? ⟨w.heap.size, 1, none⟩ = false := by rw [hf2 (w.heap.size) 1 (by first | omega | (simp; done) | (simp; omega))]; first | assumption | (simp; done) | simp [go_sem, *]
    have _ : w2.cell? ⟨w.heap.size, 2, none⟩ = some (.int .i64 s) := by rw [hc2 (w.heap.size) 2 (by first | omega | (simp; done) | (simp; omega))]; first | assumption | (simp; done) | simp [go_sem, *]
    have _ : w2.frozen? ⟨w.heap.size, 2, none⟩ = false := by rw [hf2 (w.heap.size) 2 (by first | omega | (simp; done) | (simp; omega))]; first | assumption | (simp; done) | simp [go_sem, *]
    have _ : w2.cell? ⟨w.heap.size, 3, none⟩ = some (.slice p ws.length cap) := by rw [hc2 (w.heap.size) 3 (by first | omega | (simp; done) | (simp; omega))]; first | assumption | (simp; done) | simp [go_sem, *]
    have _ : w2.frozen? ⟨w.heap.size, 3, none⟩ = false := by rw [hf2 (w.heap.size) 3 (by first | omega | (simp; done) | (simp; omega))]; first | assumption | (simp; done) | simp [go_sem, *]
    have _ : w2.cell? ⟨w.heap.size + 1, 0, none⟩ = some (.int .i64 0) := by rw [hc2 (w.heap.size + 1) 0 (by first | omega | (simp; done) | (simp; omega))]; first | assumption | (simp; done) | simp [go_sem, *]
    have _ : w2.frozen? ⟨w.heap.size + 1, 0, none⟩ = false := by rw [hf2 (w.heap.size + 1) 0 (by first | omega | (simp; done) | (simp; omega))]; first | assumption | (simp; done) | simp [go_sem, *]
    have _ : w2.cell? ⟨w.heap.size + 1, 1, none⟩ = some (.int .i64 0) := by rw [hc2 (w.heap.size + 1) 1 (by first | omega | (simp; done) | (simp; omega))]; first | assumption | (simp; done) | simp [go_sem, *]
    have _ : w2.frozen? ⟨w.heap.size + 1, 1, none⟩ = false := by rw [hf2 (w.heap.size + 1) 1 (by first | omega | (simp; done) | (simp; omega))]; first | assumption | (simp; done) | simp [go_sem, *]
    clear hc2 hf2
    rw [show hasB n a = true by simp [hasB]; omega]
    go_wp2_with fail
    refine (hasN_any n e s b _ _).mono ?_
    rintro en w3 ⟨rfl, B3⟩
    obtain ⟨hc3, hf3⟩ := bcell B3
    have S3 := B3.size
    try simp at S3
    try (have _L3w : w.heap.size < w3.heap.size := by omega)
    have _M3w : w.heap.size ≤ w3.heap.size := by omega
    try (have _P3w_1 : w.heap.size + 1 < w3.heap.size := by omega)
    try (have _P3w_2 : w.heap.size + 1 + 1 < w3.heap.size := by omega)
    try (have _P3w_3 : w.heap.size + 1 + 1 + 1 < w3.heap.size := by omega)
    try (have _L3w1 : w1.heap.size < w3.heap.size := by omega)
    have _M3w1 : w1.heap.size ≤ w3.heap.size := by omega
    try (have _P3w1_1 : w1.heap.size + 1 < w3.heap.size := by omega)
    try (have _P3w1_2 : w1.heap.size + 1 + 1 < w3.heap.size := by omega)
    try (have _P3w1_3 : w1.heap.size + 1 + 1 + 1 < w3.heap.size := by omega)
    try (have _L3w2 : w2.heap.size < w3.heap.size := by omega)
    have _M3w2 : w2.heap.size ≤ w3.heap.size := by omega
    try (have _P3w2_1 : w2.heap.size + 1 < w3.heap.size := by omega)
    try (have _P3w2_2 : w2.heap.size + 1 + 1 < w3.heap.size := by omega)
    try (have _P3w2_3 : w2.heap.size + 1 + 1 + 1 < w3.heap.size := by omega)
    have _ : w3.cell? ⟨w.heap.size, 0, none⟩ = some (.int .i64 n) := by rw [hc3 (w.heap.size) 0 (by first | omega | (simp; done) | (simp; omega))]; first | assumption | (simp; done) | simp [go_sem, *]
    have _ : w3.frozen? ⟨w.heap.size, 0, none⟩ = false := by rw [hf3 (w.heap.size) 0 (by first | omega | (simp; done) | (simp; omega))]; first | assumption | (simp; done) | simp [go_sem, *]
    have _ : w3.cell? ⟨w.heap.size, 1, none⟩ = some (.int .i64 e) := by rw [hc3 (w.heap.size) 1 (by first | omega | (simp; done) | (simp; omega))]; first | assumption | (simp; done) | simp [go_sem, *]
    have _ : w3.frozen? ⟨w.heap.size, 1, none⟩ = false := by rw [hf3 (w.heap.size) 1 (by first | omega | (simp; done) | (simp; omega))]; first | assumption | (simp; done) | simp [go_sem, *]
    have _ : w3.cell? ⟨w.heap.size, 2, none⟩ = some (.int .i64 s) := by rw [hc3 (w.heap.size) 2 (by first | omega | (simp; done) | (simp; omega))]; first | assumption | (simp; done) | simp [go_sem, *]
    have _ : w3.frozen? ⟨w.heap.size, 2, none⟩ = false := by rw [hf3 (w.heap.size) 2 (by first | omega | (simp; done) | (simp; omega))]; first | assumption | (simp; done) | simp [go_sem, *]
    have _ : w3.cell? ⟨w.heap.size, 3, none⟩ = some (.slice p ws.length cap) := by rw [hc3 (w.heap.size) 3 (by first | omega | (simp; done) | (simp; omega))]; first | assumption | (simp; done) | simp [go_sem, *]
    have _ : w3.frozen? ⟨w.heap.size, 3, none⟩ = false := by rw [hf3 (w.heap.size) 3 (by first | omega | (simp; done) | (simp; omega))]; first | assumption | (simp; done) | simp [go_sem, *]
    have _ : w3.cell? ⟨w.heap.size + 1, 0, none⟩ = some (.int .i64 0) := by rw [hc3 (w.heap.size + 1) 0 (by first | omega | (simp; done) | (simp; omega))]; first | assumption | (simp; done) | simp [go_sem, *]
    have _ : w3.frozen? ⟨w.heap.size + 1, 0, none⟩ = false := by rw [hf3 (w.heap.size + 1) 0 (by first | omega | (simp; done) | (simp; omega))]; first | assumption | (simp; done) | simp [go_sem, *]
    have _ : w3.cell? ⟨w.heap.size + 1, 1, none⟩ = some (.int .i64 0) := by rw [hc3 (w.heap.size + 1) 1 (by first | omega | (simp; done) | (simp; omega))]; first | assumption | (simp; done) | simp [go_sem, *]
    have _ : w3.frozen? ⟨w.heap.size + 1, 1, none⟩ = false := by rw [hf3 (w.heap.size + 1) 1 (by first | omega | (simp; done) | (simp; omega))]; first | assumption | (simp; done) | simp [go_sem, *]
    clear hc3 hf3
    rw [show hasB n b = true by simp [hasB]; omega]
    go_wp2_with fail
    refine (hasN_any n e s c _ _).mono ?_
    rintro en w4 ⟨rfl, B4⟩
    obtain ⟨hc4, hf4⟩ := bcell B4
    have S4 := B4.size
    try simp at S4
    try (have _L4w : w.heap.size < w4.heap.size := by omega)
    have _M4w : w.heap.size ≤ w4.heap.size := by omega
    try (have _P4w_1 : w.heap.size + 1 < w4.heap.size := by omega)
    try (have _P4w_2 : w.heap.size + 1 + 1 < w4.heap.size := by omega)
    try (have _P4w_3 : w.heap.size + 1 + 1 + 1 < w4.heap.size := by omega)
    try (have _L4w1 : w1.heap.size < w4.heap.size := by omega)
    have _M4w1 : w1.heap.size ≤ w4.heap.size := by omega
    try (have _P4w1_1 : w1.heap.size + 1 < w4.heap.size := by omega)
    try (have _P4w1_2 : w1.heap.size + 1 + 1 < w4.heap.size := by omega)
    try (have _P4w1_3 : w1.heap.size + 1 + 1 + 1 < w4.heap.size := by omega)
    try (have _L4w2 : w2.heap.size < w4.heap.size := by omega)
    have _M4w2 : w2.heap.size ≤ w4.heap.size := by omega
    try (have _P4w2_1 : w2.heap.size + 1 < w4.heap.size := by omega)
    try (have _P4w2_2 : w2.heap.size + 1 + 1 < w4.heap.size := by omega)
    try (have _P4w2_3 : w2.heap.size + 1 + 1 + 1 < w4.heap.size := by omega)
    try (have _L4w3 : w3.heap.size < w4.heap.size := by omega)
    have _M4w3 : w3.heap.size ≤ w4.heap.size := by omega
    try (have _P4w3_1 : w3.heap.size + 1 < w4.heap.size := by omega)
    try (have _P4w3_2 : w3.heap.size + 1 + 1 < w4.heap.size := by omega)
    try (have _P4w3_3 : w3.heap.size + 1 + 1 + 1 < w4.heap.size := by omega)
    have _ : w4.cell? ⟨w.heap.size, 0, none⟩ = some (.int .i64 n) := by rw [hc4 (w.heap.size) 0 (by first | omega | (simp; done) | (simp; omega))]; first | assumption | (simp; done) | simp [go_sem, *]
    have _ : w4.frozen? ⟨w.heap.size, 0, none⟩ = false := by rw [hf4 (w.heap.size) 0 (by first | omega | (simp; done) | (simp; omega))]; first | assumption | (simp; done) | simp [go_sem, *]
    have _ : w4.cell? ⟨w.heap.size, 1, none⟩ = some (.int .i64 e) := by rw [hc4 (w.heap.size) 1 (by first | omega | (simp; done) | (simp; omega))]; first | assumption | (simp; done) | simp [go_sem, *]
    have _ : w4.frozen? ⟨w.heap.size, 1, none⟩ = false := by rw [hf4 (w.heap.size) 1 (by first | omega | (simp; done) | (simp; omega))]; first | assumption | (simp; done) | simp [go_sem, *]
    have _ : w4.cell? ⟨w.heap.size, 2, none⟩ = some (.int .i64 s) := by rw [hc4 (w.heap.size) 2 (by first | omega | (simp; done) | (simp; omega))]; first | assumption | (simp; done) | simp [go_sem, *]
    have _ : w4.frozen? ⟨w.heap.size, 2, none⟩ = false := by rw [hf4 (w.heap.size) 2 (by first | omega | (simp; done) | (simp; omega))]; first | assumption | (simp; done) | simp [go_sem, *]
    have _ : w4.cell? ⟨w.heap.size, 3, none⟩ = some (.slice p ws.length cap) := by rw [hc4 (w.heap.size) 3 (by first | omega | (simp; done) | (simp; omega))]; first | assumption | (simp; done) | simp [go_sem, *]
    have _ : w4.frozen? ⟨w.heap.size, 3, none⟩ = false := by rw [hf4 (w.heap.size) 3 (by first | omega | (simp; done) | (simp; omega))]; first | assumption | (simp; done) | simp [go_sem, *]
    have _ : w4.cell? ⟨w.heap.size + 1, 0, none⟩ = some (.int .i64 0) := by rw [hc4 (w.heap.size + 1) 0 (by first | omega | (simp; done) | (simp; omega))]; first | assumption | (simp; done) | simp [go_sem, *]
    have _ : w4.frozen? ⟨w.heap.size + 1, 0, none⟩ = false := by rw [hf4 (w.heap.size + 1) 0 (by first | omega | (simp; done) | (simp; omega))]; first | assumption | (simp; done) | simp [go_sem, *]
    have _ : w4.cell? ⟨w.heap.size + 1, 1, none⟩ = some (.int .i64 0) := by rw [hc4 (w.heap.size + 1) 1 (by first | omega | (simp; done) | (simp; omega))]; first | assumption | (simp; done) | simp [go_sem, *]
    have _ : w4.frozen? ⟨w.heap.size + 1, 1, none⟩ = false := by rw [hf4 (w.heap.size + 1) 1 (by first | omega | (simp; done) | (simp; omega))]; first | assumption | (simp; done) | simp [go_sem, *]
    clear hc4 hf4
    rw [show hasB n c = true by simp [hasB]; omega]
    clear hok
    go_wp2
    have hS : w4.drew.cell? ⟨w.heap.size, 0, none⟩ = some (.int .i64 n) ∧ w4.drew.cell? ⟨w.heap.size, 1, none⟩ = some (.int .i64 e) ∧ w4.drew.cell? ⟨w.heap.size, 2, none⟩ = some (.int .i64 s) ∧ w4.drew.cell? ⟨w.heap.size, 3, none⟩ = some (.slice p ws.length cap) ∧ (∃ z0 z1, w4.drew.cell? ⟨w.heap.size + 1, 0, none⟩ = some z0 ∧ w4.drew.cell? ⟨w.heap.size + 1, 1, none⟩ = some z1 ∧ w4.drew.frozen? ⟨w.heap.size + 1, 0, none⟩ = false ∧ w4.drew.frozen? ⟨w.heap.size + 1, 1, none⟩ = false) ∧ w.heap.size + 1 < w4.drew.heap.size ∧ Below w.heap.size w w4.drew := ⟨by assumption, by assumption, by assumption, by assumption, ⟨_, _, by assumption, by assumption, by assumption, by assumption⟩, by (simp; omega), by (repeat (first | exact Below.refl _ _ | (refine Below.setCell ?_ (by (first | exact Nat.le_refl _ | omega | (simp <;> omega) | simp)) _) | (refine Below.alloc ?_ (by (first | exact Nat.le_refl _ | omega | (simp <;> omega) | simp)) _) | (refine below_draws ?_ _) | exact B1 | (refine Below.trans ?_ (Below.mono B1 (by (first | exact Nat.le_refl _ | omega | (simp <;> omega) | simp)))) | exact B2 | (refine Below.trans ?_ (Below.mono B2 (by (first | exact Nat.le_refl _ | omega | (simp <;> omega) | simp)))) | exact B3 | (refine Below.trans ?_ (Below.mono B3 (by (first | exact Nat.le_refl _ | omega | (simp <;> omega) | simp)))) | exact B4 | (refine Below.trans ?_ (Below.mono B4 (by (first | exact Nat.le_refl _ | omega | (simp <;> omega) | simp))))))⟩
    go_region_held3 (fun w' => w'.cell? ⟨w.heap.size, 0, none⟩ = some (.int .i64 n) ∧ w'.cell? ⟨w.heap.size, 1, none⟩ = some (.int .i64 e) ∧ w'.cell? ⟨w.heap.size, 2, none⟩ = some (.int .i64 s) ∧ w'.cell? ⟨w.heap.size, 3, none⟩ = some (.slice p ws.length cap) ∧ (∃ z0 z1, w'.cell? ⟨w.heap.size + 1, 0, none⟩ = some z0 ∧ w'.cell? ⟨w.heap.size + 1, 1, none⟩ = some z1 ∧ w'.frozen? ⟨w.heap.size + 1, 0, none⟩ = false ∧ w'.frozen? ⟨w.heap.size + 1, 1, none⟩ = false) ∧ w.heap.size + 1 < w'.heap.size ∧ Below w.heap.size w w')
      (first | exact hS | exact nb_set (nb_set hS))
      (first
        | (go_at_call 72; with_reducible refine Calls.mono (HSd.out _ (HR.out.later hS.2.2.2.2.2.2)) ?_; rintro en w9 ⟨⟨q, rfl, hq⟩, B9⟩; replace hq := Lib.hid hq; replace hS := nb_keep B9 hS; obtain ⟨x1, x2, x3, x4, ⟨u0, u1, x5, x6, x7, x8⟩, x9, x10⟩ := id hS)
        | (go_at_call 18; with_reducible refine Calls.mono (impl_tree n e s _ ws _ (HR.out.later hS.2.2.2.2.2.2)) ?_; rintro en w9 ⟨rfl, B9⟩; replace hS := nb_keep B9 hS; obtain ⟨x1, x2, x3, x4, ⟨u0, u1, x5, x6, x7, x8⟩, x9, x10⟩ := id hS)
        | (go_at_call 71; with_reducible refine Calls.mono (impl_rOf_at _ (s * gapF n e s ws a b c) _ (hW.out _ hq.out) _ HQ.out.1 HQ.out.2.1 HQ.out.2.2.1 HQ.out.2.2.2) ?_; rintro en w9 ⟨rfl, B9⟩; replace hS := nb_keep B9 hS; obtain ⟨x1, x2, x3, x4, ⟨u0, u1, x5, x6, x7, x8⟩, x9, x10⟩ := id hS))
    all_goals
      go_wp2
      exact bodyPost_ret (v := (.tuple #[.agg #[.int .i64 (rOfN (s * gapF n e s ws a b c) (treeR n e s ws)), .int .i64 (rOfD (s * gapF n e s ws a b c) (treeR n e s ws))], .bool true])) (by simp (maxDischargeDepth := 8) [results, Try.results24, go_sem, *]) rfl ⟨ret_ratio (by rw [HF.out]), (x10.setCell (by first | omega | (simp; done) | (simp; omega)) _).setCell (by first | omega | (simp; done) | (simp; omega)) _⟩
end Go.Proofs.Ytaececpphdaciaa
