/-
  CurrentOn in the model.
-/
import Derived.Test.YtpkddaapffamiaaGPots
import Derived.Test.YtpkddaapffamiaaPots
import Derived.Deep.RegionHeld3
namespace Go.Proofs.Ytpkddaapffamiaa
open Go.RowKit

set_option maxRecDepth 8000 in
set_option maxHeartbeats 12800000 in
theorem spec_cur_yes (n e s a b x y : Int) (p : Option Addr) (cap : Nat) (ws : List W3) (w : World) (hr : ReadsW w (.slice p ws.length cap) ws) (hf : feedB n e s ws a b = true) (gx : 0 ≤ x ∧ x < n) (gy : 0 ≤ y ∧ y < n) :
    Calls Try.prog 45 #[.agg #[.int .i64 n, .int .i64 e, .int .i64 s, .slice p ws.length cap], .int .i64 a, .int .i64 b, .int .i64 x, .int .i64 y] w fun en w' => en = .returned (.tuple #[.agg #[.int .i64 (curR n e s ws a b x y).1, .int .i64 (curR n e s ws a b x y).2.1], .bool (curR n e s ws a b x y).2.2]) ∧ Below w.heap.size w w' := by
  have B0 : Below w.heap.size w ((w.alloc (.cells #[.int .i64 n, .int .i64 e, .int .i64 s, .slice p ws.length cap] 25)).alloc (.cells #[.int .i64 0, .int .i64 0] 32)) := by (repeat (first | exact Below.refl _ _ | (refine Below.setCell ?_ (by (first | exact Nat.le_refl _ | omega | (simp <;> omega) | simp)) _) | (refine Below.alloc ?_ (by (first | exact Nat.le_refl _ | omega | (simp <;> omega) | simp)) _) | (refine below_draws ?_ _)))
  have hok := spec_pots n e s a b _ ws _ (hr.later B0)
  obtain ⟨N, i, k0, rfl, rfl, rfl, hb, hi, hk0, hne⟩ := feed_yes hf
  obtain ⟨j, rfl⟩ : ∃ j : Nat, x = j := ⟨x.toNat, by omega⟩
  obtain ⟨l, rfl⟩ : ∃ l : Nat, y = l := ⟨y.toNat, by omega⟩
  obtain ⟨N1, N5⟩ := net_n hb
  have hw := (net_nat hb).2.2
  have HF := Lib.hid (curR_yes (x := j) (y := l) hf (by omega) (by omega))
  obtain ⟨t0, t1⟩ := tree_range N e s ws
  obtain ⟨q1, q2⟩ := potI_range hw (by omega) i k0 j hi hk0 (by omega) hne
  obtain ⟨q3, q4⟩ := potI_range hw (by omega) i k0 l hi hk0 (by omega) hne
  obtain ⟨g1, g2⟩ := cur_range hb hi hk0 hne (x := j) (y := l) (by omega) (by omega)
  have hcp := fun (w' : World) (z : Nat) (hz : z < N) (h1 : Below w.heap.size w w') => spec_pot N e s i k0 z _ ws w' hb hi hk0 hz hne (hr.later h1)
  have HCP := Lib.hid hcp; clear hcp
  have hct := fun (w' : World) (h1 : Below w.heap.size w w') => spec_tree N e s _ ws w' (hr.later h1)
  have HCT := Lib.hid hct; clear hct
  have hcw := fun (w' : World) (h1 : Below w.heap.size w w') => spec_wBtw N e s j l _ ws w' (hr.later h1)
  have HCW := Lib.hid hcw; clear hcw
  rw [potsR_yes hf] at hok
  simp only [potsK_length] at hok
  have hN0 : ((N : Int) == 0) = false := by simp; omega
  rw [HF.out]
  have hgx : (j : Int) < N := by omega
  have hgy : (l : Int) < N := by omega
  unfold curN at g1 g2
  have hW := Lib.hid (wrap_in (x := potI (lapM N ws) N i k0 j - potI (lapM N ws) N i k0 l) (by omega) (by omega))
  have hW2 := Lib.hid (wrap_in (x := wBtw ws (j : Int) (l : Int) * (potI (lapM N ws) N i k0 j - potI (lapM N ws) N i k0 l)) (by omega) (by omega))
  clear hr hf hb hw B0 gx gy HF
  go_enter Try.func45, Try.ntmps45
  go_wp2_with fail
  refine hok.mono ?_
  rintro en w1 ⟨v1, rfl, o1, B1⟩
  obtain ⟨hc1, hf1⟩ := bcell B1
  have S1 := B1.size
  try simp at S1
  try (have _L1w : w.heap.size < w1.heap.size := by omega)
  have _M1w : w.heap.size ≤ w1.heap.size := by omega
  try (have _P1w_1 : w.heap.size + 1 < w1.heap.size := by omega)
  try (have _P1w_2 : w.heap.size + 1 + 1 < w1.heap.size := by omega)
  try (have _P1w_3 : w.heap.size + 1 + 1 + 1 < w1.heap.size := by omega)
  have _ : w1.cell? ⟨w.heap.size, 0, none⟩ = some (.int .i64 N) := by rw [hc1 (w.heap.size) 0 (by first | omega | (simp; done) | (simp; omega))]; first | assumption | (simp; done) | simp [go_sem, *]
  have _ : w1.frozen? ⟨w.heap.size, 0, none⟩ = false := by rw [hf1 (w.heap.size) 0 (by first | omega | (simp; done) | (simp; omega))]; first | assumption | (simp; done) | simp [go_sem, *]
  have _ : w1.cell? ⟨w.heap.size, 1, none⟩ = some (.int .i64 e) := by rw [hc1 (w.heap.size) 1 (by first | omega | (simp; done) | (simp; omega))]; first | assumption | (simp; done) | simp [go_sem, *]
  have _ : w1.frozen? ⟨w.heap.size, 1, none⟩ = false := by rw [hf1 (w.heap.size) 1 (by first | omega | (simp; done) | (simp; omega))]; first | assumption | (simp; done) | simp [go_sem, *]
  have _ : w1.cell? ⟨w.heap.size, 2, none⟩ = some (.int .i64 s) := by rw [hc1 (w.heap.size) 2 (by first | omega | (simp; done) | (simp; omega))]; first | assumption | (simp; done) | simp [go_sem, *]
  have _ : w1.frozen? ⟨w.heap.size, 2, none⟩ = false := by rw [hf1 (w.heap.size) 2 (by first | omega | (simp; done) | (simp; omega))]; first | assumption | (simp; done) | simp [go_sem, *]
  have _ : w1.cell? ⟨w.heap.size, 3, none⟩ = some (.slice p ws.length cap) := by rw [hc1 (w.heap.size) 3 (by first | omega | (simp; done) | (simp; omega))]; first | assumption | (simp; done) | simp [go_sem, *]
  have _ : w1.frozen? ⟨w.heap.size, 3, none⟩ = false := by rw [hf1 (w.heap.size) 3 (by first | omega | (simp; done) | (simp; omega))]; first | assumption | (simp; done) | simp [go_sem, *]
  have _ : w1.cell? ⟨w.heap.size + 1, 0, none⟩ = some (.int .i64 0) := by rw [hc1 (w.heap.size + 1) 0 (by first | omega | (simp; done) | (simp; omega))]; first | assumption | (simp; done) | simp [go_sem, *]
  have _ : w1.frozen? ⟨w.heap.size + 1, 0, none⟩ = false := by rw [hf1 (w.heap.size + 1) 0 (by first | omega | (simp; done) | (simp; omega))]; first | assumption | (simp; done) | simp [go_sem, *]
  have _ : w1.cell? ⟨w.heap.size + 1, 1, none⟩ = some (.int .i64 0) := by rw [hc1 (w.heap.size + 1) 1 (by first | omega | (simp; done) | (simp; omega))]; first | assumption | (simp; done) | simp [go_sem, *]
  have _ : w1.frozen? ⟨w.heap.size + 1, 1, none⟩ = false := by rw [hf1 (w.heap.size + 1) 1 (by first | omega | (simp; done) | (simp; omega))]; first | assumption | (simp; done) | simp [go_sem, *]
  clear hc1 hf1
  obtain ⟨p1, c1, rfl⟩ := owns_shape o1
  clear o1
  go_wp2_with fail
  refine (in_yes' j 0 ((N : Int) - 1) _ _ (by omega) (by omega) (by omega) (by omega) _).mono ?_
  rintro en wq ⟨rfl, rfl⟩
  go_wp2_with fail
  refine (in_yes' l 0 ((N : Int) - 1) _ _ (by omega) (by omega) (by omega) (by omega) _).mono ?_
  rintro en wq ⟨rfl, rfl⟩
  go_wp2
  have hS : w1.drew.cell? ⟨w.heap.size, 0, none⟩ = some (.int .i64 N) ∧ w1.drew.cell? ⟨w.heap.size, 1, none⟩ = some (.int .i64 e) ∧ w1.drew.cell? ⟨w.heap.size, 2, none⟩ = some (.int .i64 s) ∧ w1.drew.cell? ⟨w.heap.size, 3, none⟩ = some (.slice p ws.length cap) ∧ (∃ z0 z1, w1.drew.cell? ⟨w.heap.size + 1, 0, none⟩ = some z0 ∧ w1.drew.cell? ⟨w.heap.size + 1, 1, none⟩ = some z1 ∧ w1.drew.frozen? ⟨w.heap.size + 1, 0, none⟩ = false ∧ w1.drew.frozen? ⟨w.heap.size + 1, 1, none⟩ = false) ∧ w.heap.size + 1 < w1.drew.heap.size ∧ Below w.heap.size w w1.drew := ⟨by assumption, by assumption, by assumption, by assumption, ⟨_, _, by assumption, by assumption, by assumption, by assumption⟩, by (simp; omega), by (repeat (first | exact Below.refl _ _ | (refine Below.setCell ?_ (by (first | exact Nat.le_refl _ | omega | (simp <;> omega) | simp)) _) | (refine Below.alloc ?_ (by (first | exact Nat.le_refl _ | omega | (simp <;> omega) | simp)) _) | (refine below_draws ?_ _) | exact B1 | (refine Below.trans ?_ (Below.mono B1 (by (first | exact Nat.le_refl _ | omega | (simp <;> omega) | simp))))))⟩
  go_region_held3 (fun w' => w'.cell? ⟨w.heap.size, 0, none⟩ = some (.int .i64 N) ∧ w'.cell? ⟨w.heap.size, 1, none⟩ = some (.int .i64 e) ∧ w'.cell? ⟨w.heap.size, 2, none⟩ = some (.int .i64 s) ∧ w'.cell? ⟨w.heap.size, 3, none⟩ = some (.slice p ws.length cap) ∧ (∃ z0 z1, w'.cell? ⟨w.heap.size + 1, 0, none⟩ = some z0 ∧ w'.cell? ⟨w.heap.size + 1, 1, none⟩ = some z1 ∧ w'.frozen? ⟨w.heap.size + 1, 0, none⟩ = false ∧ w'.frozen? ⟨w.heap.size + 1, 1, none⟩ = false) ∧ w.heap.size + 1 < w'.heap.size ∧ Below w.heap.size w w')
    (first | exact hS)
    (first
      | (go_at_call 82; with_reducible refine Calls.mono (HCP.out _ j (by omega) hS.2.2.2.2.2.2) ?_; rintro en w8 ⟨rfl, B8⟩; replace hS := nb_keep B8 hS)
      | (go_at_call 82; with_reducible refine Calls.mono (HCP.out _ l (by omega) hS.2.2.2.2.2.2) ?_; rintro en w9 ⟨rfl, B9⟩; replace hS := nb_keep B9 hS))
  all_goals
    rw [hW.out]
    obtain ⟨z1, z2, z3, z4, ⟨u0, u1, z5, z6, z7, z8⟩, z9, z10⟩ := id hS
    clear hS B8 B9
    have S9 := z10.size
    go_wp2_with fail
    with_reducible refine Calls.mono (HCW.out _ z10) ?_
    rintro en w5 ⟨rfl, B5⟩
    obtain ⟨hc5, hf5⟩ := bcell B5
    have S5 := B5.size
    try simp at S5
    try (have _L5w : w.heap.size < w5.heap.size := by omega)
    have _M5w : w.heap.size ≤ w5.heap.size := by omega
    try (have _P5w_1 : w.heap.size + 1 < w5.heap.size := by omega)
    try (have _P5w_2 : w.heap.size + 1 + 1 < w5.heap.size := by omega)
    try (have _P5w_3 : w.heap.size + 1 + 1 + 1 < w5.heap.size := by omega)
    try (have _L5w9 : w9.heap.size < w5.heap.size := by omega)
    have _M5w9 : w9.heap.size ≤ w5.heap.size := by omega
    try (have _P5w9_1 : w9.heap.size + 1 < w5.heap.size := by omega)
    try (have _P5w9_2 : w9.heap.size + 1 + 1 < w5.heap.size := by omega)
    try (have _P5w9_3 : w9.heap.size + 1 + 1 + 1 < w5.heap.size := by omega)
    have _ : w5.cell? ⟨w.heap.size, 0, none⟩ = some (.int .i64 N) := by rw [hc5 (w.heap.size) 0 (by first | omega | (simp; done) | (simp; omega))]; first | assumption | (simp; done) | simp [go_sem, *]
    have _ : w5.cell? ⟨w.heap.size, 1, none⟩ = some (.int .i64 e) := by rw [hc5 (w.heap.size) 1 (by first | omega | (simp; done) | (simp; omega))]; first | assumption | (simp; done) | simp [go_sem, *]
    have _ : w5.cell? ⟨w.heap.size, 2, none⟩ = some (.int .i64 s) := by rw [hc5 (w.heap.size) 2 (by first | omega | (simp; done) | (simp; omega))]; first | assumption | (simp; done) | simp [go_sem, *]
    have _ : w5.cell? ⟨w.heap.size, 3, none⟩ = some (.slice p ws.length cap) := by rw [hc5 (w.heap.size) 3 (by first | omega | (simp; done) | (simp; omega))]; first | assumption | (simp; done) | simp [go_sem, *]
    have _ : w5.cell? ⟨w.heap.size + 1, 0, none⟩ = some (u0) := by rw [hc5 (w.heap.size + 1) 0 (by first | omega | (simp; done) | (simp; omega))]; first | assumption | (simp; done) | simp [go_sem, *]
    have _ : w5.frozen? ⟨w.heap.size + 1, 0, none⟩ = false := by rw [hf5 (w.heap.size + 1) 0 (by first | omega | (simp; done) | (simp; omega))]; first | assumption | (simp; done) | simp [go_sem, *]
    have _ : w5.cell? ⟨w.heap.size + 1, 1, none⟩ = some (u1) := by rw [hc5 (w.heap.size + 1) 1 (by first | omega | (simp; done) | (simp; omega))]; first | assumption | (simp; done) | simp [go_sem, *]
    have _ : w5.frozen? ⟨w.heap.size + 1, 1, none⟩ = false := by rw [hf5 (w.heap.size + 1) 1 (by first | omega | (simp; done) | (simp; omega))]; first | assumption | (simp; done) | simp [go_sem, *]
    clear hc5 hf5
    have C5 := z10.trans (B5.mono S9)
    have S5' := C5.size
    go_wp2_with fail
    with_reducible refine Calls.mono (HCT.out _ C5) ?_
    rintro en w6 ⟨rfl, B6⟩
    obtain ⟨hc6, hf6⟩ := bcell B6
    have S6 := B6.size
    try simp at S6
    try (have _L6w : w.heap.size < w6.heap.size := by omega)
    have _M6w : w.heap.size ≤ w6.heap.size := by omega
    try (have _P6w_1 : w.heap.size + 1 < w6.heap.size := by omega)
    try (have _P6w_2 : w.heap.size + 1 + 1 < w6.heap.size := by omega)
    try (have _P6w_3 : w.heap.size + 1 + 1 + 1 < w6.heap.size := by omega)
    try (have _L6w9 : w9.heap.size < w6.heap.size := by omega)
    have _M6w9 : w9.heap.size ≤ w6.heap.size := by omega
    try (have _P6w9_1 : w9.heap.size + 1 < w6.heap.size := by omega)
    try (have _P6w9_2 : w9.heap.size + 1 + 1 < w6.heap.size := by omega)
    try (have _P6w9_3 : w9.heap.size + 1 + 1 + 1 < w6.heap.size := by omega)
    try (have _L6w5 : w5.heap.size < w6.heap.size := by omega)
    have _M6w5 : w5.heap.size ≤ w6.heap.size := by omega
    try (have _P6w5_1 : w5.heap.size + 1 < w6.heap.size := by omega)
    try (have _P6w5_2 : w5.heap.size + 1 + 1 < w6.heap.size := by omega)
    try (have _P6w5_3 : w5.heap.size + 1 + 1 + 1 < w6.heap.size := by omega)
    have _ : w6.cell? ⟨w.heap.size, 0, none⟩ = some (.int .i64 N) := by rw [hc6 (w.heap.size) 0 (by first | omega | (simp; done) | (simp; omega))]; first | assumption | (simp; done) | simp [go_sem, *]
    have _ : w6.cell? ⟨w.heap.size, 1, none⟩ = some (.int .i64 e) := by rw [hc6 (w.heap.size) 1 (by first | omega | (simp; done) | (simp; omega))]; first | assumption | (simp; done) | simp [go_sem, *]
    have _ : w6.cell? ⟨w.heap.size, 2, none⟩ = some (.int .i64 s) := by rw [hc6 (w.heap.size) 2 (by first | omega | (simp; done) | (simp; omega))]; first | assumption | (simp; done) | simp [go_sem, *]
    have _ : w6.cell? ⟨w.heap.size, 3, none⟩ = some (.slice p ws.length cap) := by rw [hc6 (w.heap.size) 3 (by first | omega | (simp; done) | (simp; omega))]; first | assumption | (simp; done) | simp [go_sem, *]
    have _ : w6.cell? ⟨w.heap.size + 1, 0, none⟩ = some (u0) := by rw [hc6 (w.heap.size + 1) 0 (by first | omega | (simp; done) | (simp; omega))]; first | assumption | (simp; done) | simp [go_sem, *]
    have _ : w6.frozen? ⟨w.heap.size + 1, 0, none⟩ = false := by rw [hf6 (w.heap.size + 1) 0 (by first | omega | (simp; done) | (simp; omega))]; first | assumption | (simp; done) | simp [go_sem, *]
    have _ : w6.cell? ⟨w.heap.size + 1, 1, none⟩ = some (u1) := by rw [hc6 (w.heap.size + 1) 1 (by first | omega | (simp; done) | (simp; omega))]; first | assumption | (simp; done) | simp [go_sem, *]
    have _ : w6.frozen? ⟨w.heap.size + 1, 1, none⟩ = false := by rw [hf6 (w.heap.size + 1) 1 (by first | omega | (simp; done) | (simp; omega))]; first | assumption | (simp; done) | simp [go_sem, *]
    clear hc6 hf6
    have C6 := C5.trans (B6.mono S5')
    have S6' := C6.size
    go_wp2_with fail
    refine (spec_rOf_at _ (wBtw ws (j : Int) (l : Int) * (potI (lapM N ws) N i k0 j - potI (lapM N ws) N i k0 l)) _ (by first | rfl | exact hW2.out | omega) _ (by omega) (by omega) (by omega) (by omega)).mono ?_
    rintro en w7 ⟨rfl, B7⟩
    obtain ⟨hc7, hf7⟩ := bcell B7
    have S7 := B7.size
    try simp at S7
    try (have _L7w : w.heap.size < w7.heap.size := by omega)
    have _M7w : w.heap.size ≤ w7.heap.size := by omega
    try (have _P7w_1 : w.heap.size + 1 < w7.heap.size := by omega)
    try (have _P7w_2 : w.heap.size + 1 + 1 < w7.heap.size := by omega)
    try (have _P7w_3 : w.heap.size + 1 + 1 + 1 < w7.heap.size := by omega)
    try (have _L7w9 : w9.heap.size < w7.heap.size := by omega)
    have _M7w9 : w9.heap.size ≤ w7.heap.size := by omega
    try (have _P7w9_1 : w9.heap.size + 1 < w7.heap.size := by omega)
    try (have _P7w9_2 : w9.heap.size + 1 + 1 < w7.heap.size := by omega)
    try (have _P7w9_3 : w9.heap.size + 1 + 1 + 1 < w7.heap.size := by omega)
    try (have _L7w5 : w5.heap.size < w7.heap.size := by omega)
    have _M7w5 : w5.heap.size ≤ w7.heap.size := by omega
    try (have _P7w5_1 : w5.heap.size + 1 < w7.heap.size := by omega)
    try (have _P7w5_2 : w5.heap.size + 1 + 1 < w7.heap.size := by omega)
    try (have _P7w5_3 : w5.heap.size + 1 + 1 + 1 < w7.heap.size := by omega)
    try (have _L7w6 : w6.heap.size < w7.heap.size := by omega)
    have _M7w6 : w6.heap.size ≤ w7.heap.size := by omega
    try (have _P7w6_1 : w6.heap.size + 1 < w7.heap.size := by omega)
    try (have _P7w6_2 : w6.heap.size + 1 + 1 < w7.heap.size := by omega)
    try (have _P7w6_3 : w6.heap.size + 1 + 1 + 1 < w7.heap.size := by omega)
    have _ : w7.cell? ⟨w.heap.size, 0, none⟩ = some (.int .i64 N) := by rw [hc7 (w.heap.size) 0 (by first | omega | (simp; done) | (simp; omega))]; first | assumption | (simp; done) | simp [go_sem, *]
    have _ : w7.cell? ⟨w.heap.size, 1, none⟩ = some (.int .i64 e) := by rw [hc7 (w.heap.size) 1 (by first | omega | (simp; done) | (simp; omega))]; first | assumption | (simp; done) | simp [go_sem, *]
    have _ : w7.cell? ⟨w.heap.size, 2, none⟩ = some (.int .i64 s) := by rw [hc7 (w.heap.size) 2 (by first | omega | (simp; done) | (simp; omega))]; first | assumption | (simp; done) | simp [go_sem, *]
    have _ : w7.cell? ⟨w.heap.size, 3, none⟩ = some (.slice p ws.length cap) := by rw [hc7 (w.heap.size) 3 (by first | omega | (simp; done) | (simp; omega))]; first | assumption | (simp; done) | simp [go_sem, *]
    have _ : w7.cell? ⟨w.heap.size + 1, 0, none⟩ = some (u0) := by rw [hc7 (w.heap.size + 1) 0 (by first | omega | (simp; done) | (simp; omega))]; first | assumption | (simp; done) | simp [go_sem, *]
    have _ : w7.frozen? ⟨w.heap.size + 1, 0, none⟩ = false := by rw [hf7 (w.heap.size + 1) 0 (by first | omega | (simp; done) | (simp; omega))]; first | assumption | (simp; done) | simp [go_sem, *]
    have _ : w7.cell? ⟨w.heap.size + 1, 1, none⟩ = some (u1) := by rw [hc7 (w.heap.size + 1) 1 (by first | omega | (simp; done) | (simp; omega))]; first | assumption | (simp; done) | simp [go_sem, *]
    have _ : w7.frozen? ⟨w.heap.size + 1, 1, none⟩ = false := by rw [hf7 (w.heap.size + 1) 1 (by first | omega | (simp; done) | (simp; omega))]; first | assumption | (simp; done) | simp [go_sem, *]
    clear hc7 hf7
    have C7 := C6.trans (B7.mono S6')
    go_wp2
    exact bodyPost_ret (v := (.tuple #[.agg #[.int .i64 (rOfN (wBtw ws (j : Int) (l : Int) * (potI (lapM N ws) N i k0 j - potI (lapM N ws) N i k0 l)) (treeR N e s ws)), .int .i64 (rOfD (wBtw ws (j : Int) (l : Int) * (potI (lapM N ws) N i k0 j - potI (lapM N ws) N i k0 l)) (treeR N e s ws))], .bool true])) (by simp (maxDischargeDepth := 8) [results, Try.results45, go_sem, *]) rfl ⟨rfl, (C7.setCell (by first | omega | (simp; done) | (simp; omega)) _).setCell (by first | omega | (simp; done) | (simp; omega)) _⟩
set_option maxRecDepth 8000 in
set_option maxHeartbeats 12800000 in
theorem spec_cur (n e s a b x y : Int) (v : Value) (ws : List W3) (w : World) (hr : ReadsW w v ws) :
    Calls Try.prog 45 #[.agg #[.int .i64 n, .int .i64 e, .int .i64 s, v], .int .i64 a, .int .i64 b, .int .i64 x, .int .i64 y] w fun en w' => en = .returned (.tuple #[.agg #[.int .i64 (curR n e s ws a b x y).1, .int .i64 (curR n e s ws a b x y).2.1], .bool (curR n e s ws a b x y).2.2]) ∧ Below w.heap.size w w' := by
  have B0 : Below w.heap.size w ((w.alloc (.cells #[.int .i64 n, .int .i64 e, .int .i64 s, v] 25)).alloc (.cells #[.int .i64 0, .int .i64 0] 32)) := by (repeat (first | exact Below.refl _ _ | (refine Below.setCell ?_ (by (first | exact Nat.le_refl _ | omega | (simp <;> omega) | simp)) _) | (refine Below.alloc ?_ (by (first | exact Nat.le_refl _ | omega | (simp <;> omega) | simp)) _) | (refine below_draws ?_ _)))
  have hr0 := hr.later B0
  have hok := spec_pots n e s a b v ws _ hr0
  obtain ⟨p, cap, rfl⟩ := hr.shape
  cases hf : feedB n e s ws a b
  case false =>
    rw [potsR_no hf] at hok
    have HF := Lib.hid (curR_no (x := x) (y := y) (show ¬ (feedB n e s ws a b = true ∧ 0 ≤ x ∧ x < n ∧ 0 ≤ y ∧ y < n) by simp [hf]))
    clear hr0 hr hf
    go_enter Try.func45, Try.ntmps45
    go_wp2_with fail
    refine hok.mono ?_
    rintro en w1 ⟨v1, rfl, o1, B1⟩
    obtain ⟨hc1, hf1⟩ := bcell B1
    have S1 := B1.size
    try simp at S1
    try (have _L1w : w.heap.size < w1.heap.size := by omega)
    have _M1w : w.heap.size ≤ w1.heap.size := by omega
    try (have _P1w_1 : w.heap.size + 1 < w1.heap.size := by omega)
    try (have _P1w_2 : w.heap.size + 1 + 1 < w1.heap.size := by omega)
    try (have _P1w_3 : w.heap.size + 1 + 1 + 1 < w1.heap.size := by omega)
    have _ : w1.cell? ⟨w.heap.size, 0, none⟩ = some (.int .i64 n) := by rw [hc1 (w.heap.size) 0 (by first | omega | (simp; done) | (simp; omega))]; first | assumption | (simp; done) | simp [go_sem, *]
    have _ : w1.frozen? ⟨w.heap.size, 0, none⟩ = false := by rw [hf1 (w.heap.size) 0 (by first | omega | (simp; done) | (simp; omega))]; first | assumption | (simp; done) | simp [go_sem, *]
    have _ : w1.cell? ⟨w.heap.size, 1, none⟩ = some (.int .i64 e) := by rw [hc1 (w.heap.size) 1 (by first | omega | (simp; done) | (simp; omega))]; first | assumption | (simp; done) | simp [go_sem, *]
    have _ : w1.frozen? ⟨w.heap.size, 1, none⟩ = false := by rw [hf1 (w.heap.size) 1 (by first | omega | (simp; done) | (simp; omega))]; first | assumption | (simp; done) | simp [go_sem, *]
    have _ : w1.cell? ⟨w.heap.size, 2, none⟩ = some (.int .i64 s) := by rw [hc1 (w.heap.size) 2 (by first | omega | (simp; done) | (simp; omega))]; first | assumption | (simp; done) | simp [go_sem, *]
    have _ : w1.frozen? ⟨w.heap.size, 2, none⟩ = false := by rw [hf1 (w.heap.size) 2 (by first | omega | (simp; done) | (simp; omega))]; first | assumption | (simp; done) | simp [go_sem, *]
    have _ : w1.cell? ⟨w.heap.size, 3, none⟩ = some (.slice p ws.length cap) := by rw [hc1 (w.heap.size) 3 (by first | omega | (simp; done) | (simp; omega))]; first | assumption | (simp; done) | simp [go_sem, *]
    have _ : w1.frozen? ⟨w.heap.size, 3, none⟩ = false := by rw [hf1 (w.heap.size) 3 (by first | omega | (simp; done) | (simp; omega))]; first | assumption | (simp; done) | simp [go_sem, *]
    have _ : w1.cell? ⟨w.heap.size + 1, 0, none⟩ = some (.int .i64 0) := by rw [hc1 (w.heap.size + 1) 0 (by first | omega | (simp; done) | (simp; omega))]; first | assumption | (simp; done) | simp [go_sem, *]
    have _ : w1.frozen? ⟨w.heap.size + 1, 0, none⟩ = false := by rw [hf1 (w.heap.size + 1) 0 (by first | omega | (simp; done) | (simp; omega))]; first | assumption | (simp; done) | simp [go_sem, *]
    have _ : w1.cell? ⟨w.heap.size + 1, 1, none⟩ = some (.int .i64 0) := by rw [hc1 (w.heap.size + 1) 1 (by first | omega | (simp; done) | (simp; omega))]; first | assumption | (simp; done) | simp [go_sem, *]
    have _ : w1.frozen? ⟨w.heap.size + 1, 1, none⟩ = false := by rw [hf1 (w.heap.size + 1) 1 (by first | omega | (simp; done) | (simp; omega))]; first | assumption | (simp; done) | simp [go_sem, *]
    clear hc1 hf1
    obtain ⟨p1, c1, rfl⟩ := owns_shape o1
    clear o1
    go_wp2
    exact bodyPost_ret (v := (.tuple #[.agg #[.int .i64 0, .int .i64 0], .bool false])) (by simp (maxDischargeDepth := 8) [results, Try.results45, go_sem, *]) rfl ⟨ret_ratio (by rw [HF.out]), by (repeat (first | exact Below.refl _ _ | (refine Below.setCell ?_ (by (first | exact Nat.le_refl _ | omega | (simp <;> omega) | simp)) _) | (refine Below.alloc ?_ (by (first | exact Nat.le_refl _ | omega | (simp <;> omega) | simp)) _) | (refine below_draws ?_ _) | exact B1 | (refine Below.trans ?_ (Below.mono B1 (by (first | exact Nat.le_refl _ | omega | (simp <;> omega) | simp))))))⟩
  have hn5 : 1 ≤ n ∧ n ≤ 5 := by
    obtain ⟨N, i, k0, rfl, rfl, rfl, hb, hi, hk0, hne⟩ := feed_yes hf
    exact net_n hb
  have hlen : ∃ N : Nat, n = N ∧ potsR n e s ws a b = (potsK N e s ws a.toNat b.toNat N, true) := by
    obtain ⟨N, i, k0, rfl, rfl, rfl, hb, hi, hk0, hne⟩ := feed_yes hf
    exact ⟨N, rfl, by rw [potsR_yes hf]; simp⟩
  obtain ⟨N, -, hpots⟩ := hlen
  rw [hpots] at hok
  clear hpots
  simp only [potsK_length] at hok
  by_cases gx : 0 ≤ x ∧ x < n
  case neg =>
    have HF := Lib.hid (curR_no (x := x) (y := y) (show ¬ (feedB n e s ws a b = true ∧ 0 ≤ x ∧ x < n ∧ 0 ≤ y ∧ y < n) by omega))
    clear hr0 hr hf
    go_enter Try.func45, Try.ntmps45
    go_wp2_with fail
    refine hok.mono ?_
    rintro en w1 ⟨v1, rfl, o1, B1⟩
    obtain ⟨hc1, hf1⟩ := bcell B1
    have S1 := B1.size
    try simp at S1
    try (have _L1w : w.heap.size < w1.heap.size := by omega)
    have _M1w : w.heap.size ≤ w1.heap.size := by omega
    try (have _P1w_1 : w.heap.size + 1 < w1.heap.size := by omega)
    try (have _P1w_2 : w.heap.size + 1 + 1 < w1.heap.size := by omega)
    try (have _P1w_3 : w.heap.size + 1 + 1 + 1 < w1.heap.size := by omega)
    have _ : w1.cell? ⟨w.heap.size, 0, none⟩ = some (.int .i64 n) := by rw [hc1 (w.heap.size) 0 (by first | omega | (simp; done) | (simp; omega))]; first | assumption | (simp; done) | simp [go_sem, *]
    have _ : w1.frozen? ⟨w.heap.size, 0, none⟩ = false := by rw [hf1 (w.heap.size) 0 (by first | omega | (simp; done) | (simp; omega))]; first | assumption | (simp; done) | simp [go_sem, *]
    have _ : w1.cell? ⟨w.heap.size, 1, none⟩ = some (.int .i64 e) := by rw [hc1 (w.heap.size) 1 (by first | omega | (simp; done) | (simp; omega))]; first | assumption | (simp; done) | simp [go_sem, *]
    have _ : w1.frozen? ⟨w.heap.size, 1, none⟩ = false := by rw [hf1 (w.heap.size) 1 (by first | omega | (simp; done) | (simp; omega))]; first | assumption | (simp; done) | simp [go_sem, *]
    have _ : w1.cell? ⟨w.heap.size, 2, none⟩ = some (.int .i64 s) := by rw [hc1 (w.heap.size) 2 (by first | omega | (simp; done) | (simp; omega))]; first | assumption | (simp; done) | simp [go_sem, *]
    have _ : w1.frozen? ⟨w.heap.size, 2, none⟩ = false := by rw [hf1 (w.heap.size) 2 (by first | omega | (simp; done) | (simp; omega))]; first | assumption | (simp; done) | simp [go_sem, *]
    have _ : w1.cell? ⟨w.heap.size, 3, none⟩ = some (.slice p ws.length cap) := by rw [hc1 (w.heap.size) 3 (by first | omega | (simp; done) | (simp; omega))]; first | assumption | (simp; done) | simp [go_sem, *]
    have _ : w1.frozen? ⟨w.heap.size, 3, none⟩ = false := by rw [hf1 (w.heap.size) 3 (by first | omega | (simp; done) | (simp; omega))]; first | assumption | (simp; done) | simp [go_sem, *]
    have _ : w1.cell? ⟨w.heap.size + 1, 0, none⟩ = some (.int .i64 0) := by rw [hc1 (w.heap.size + 1) 0 (by first | omega | (simp; done) | (simp; omega))]; first | assumption | (simp; done) | simp [go_sem, *]
    have _ : w1.frozen? ⟨w.heap.size + 1, 0, none⟩ = false := by rw [hf1 (w.heap.size + 1) 0 (by first | omega | (simp; done) | (simp; omega))]; first | assumption | (simp; done) | simp [go_sem, *]
    have _ : w1.cell? ⟨w.heap.size + 1, 1, none⟩ = some (.int .i64 0) := by rw [hc1 (w.heap.size + 1) 1 (by first | omega | (simp; done) | (simp; omega))]; first | assumption | (simp; done) | simp [go_sem, *]
    have _ : w1.frozen? ⟨w.heap.size + 1, 1, none⟩ = false := by rw [hf1 (w.heap.size + 1) 1 (by first | omega | (simp; done) | (simp; omega))]; first | assumption | (simp; done) | simp [go_sem, *]
    clear hc1 hf1
    obtain ⟨p1, c1, rfl⟩ := owns_shape o1
    clear o1
    go_wp2_with fail
    refine (in_no' x 0 (n - 1) _ _ (by omega) (by omega) (by omega) _).mono ?_
    rintro en wq ⟨rfl, rfl⟩
    go_wp2
    exact bodyPost_ret (v := (.tuple #[.agg #[.int .i64 0, .int .i64 0], .bool false])) (by simp (maxDischargeDepth := 8) [results, Try.results45, go_sem, *]) rfl ⟨ret_ratio (by rw [HF.out]), by (repeat (first | exact Below.refl _ _ | (refine Below.setCell ?_ (by (first | exact Nat.le_refl _ | omega | (simp <;> omega) | simp)) _) | (refine Below.alloc ?_ (by (first | exact Nat.le_refl _ | omega | (simp <;> omega) | simp)) _) | (refine below_draws ?_ _) | exact B1 | (refine Below.trans ?_ (Below.mono B1 (by (first | exact Nat.le_refl _ | omega | (simp <;> omega) | simp))))))⟩
  by_cases gy : 0 ≤ y ∧ y < n
  case neg =>
    have HF := Lib.hid (curR_no (x := x) (y := y) (show ¬ (feedB n e s ws a b = true ∧ 0 ≤ x ∧ x < n ∧ 0 ≤ y ∧ y < n) by omega))
    clear hr0 hr hf
    go_enter Try.func45, Try.ntmps45
    go_wp2_with fail
    refine hok.mono ?_
    rintro en w1 ⟨v1, rfl, o1, B1⟩
    obtain ⟨hc1, hf1⟩ := bcell B1
    have S1 := B1.size
    try simp at S1
    try (have _L1w : w.heap.size < w1.heap.size := by omega)
    have _M1w : w.heap.size ≤ w1.heap.size := by omega
    try (have _P1w_1 : w.heap.size + 1 < w1.heap.size := by omega)
    try (have _P1w_2 : w.heap.size + 1 + 1 < w1.heap.size := by omega)
    try (have _P1w_3 : w.heap.size + 1 + 1 + 1 < w1.heap.size := by omega)
    have _ : w1.cell? ⟨w.heap.size, 0, none⟩ = some (.int .i64 n) := by rw [hc1 (w.heap.size) 0 (by first | omega | (simp; done) | (simp; omega))]; first | assumption | (simp; done) | simp [go_sem, *]
    have _ : w1.frozen? ⟨w.heap.size, 0, none⟩ = false := by rw [hf1 (w.heap.size) 0 (by first | omega | (simp; done) | (simp; omega))]; first | assumption | (simp; done) | simp [go_sem, *]
    have _ : w1.cell? ⟨w.heap.size, 1, none⟩ = some (.int .i64 e) := by rw [hc1 (w.heap.size) 1 (by first | omega | (simp; done) | (simp; omega))]; first | assumption | (simp; done) | simp [go_sem, *]
    have _ : w1.frozen? ⟨w.heap.size, 1, none⟩ = false := by rw [hf1 (w.heap.size) 1 (by first | omega | (simp; done) | (simp; omega))]; first | assumption | (simp; done) | simp [go_sem, *]
    have _ : w1.cell? ⟨w.heap.size, 2, none⟩ = some (.int .i64 s) := by rw [hc1 (w.heap.size) 2 (by first | omega | (simp; done) | (simp; omega))]; first | assumption | (simp; done) | simp [go_sem, *]
    have _ : w1.frozen? ⟨w.heap.size, 2, none⟩ = false := by rw [hf1 (w.heap.size) 2 (by first | omega | (simp; done) | (simp; omega))]; first | assumption | (simp; done) | simp [go_sem, *]
    have _ : w1.cell? ⟨w.heap.size, 3, none⟩ = some (.slice p ws.length cap) := by rw [hc1 (w.heap.size) 3 (by first | omega | (simp; done) | (simp; omega))]; first | assumption | (simp; done) | simp [go_sem, *]
    have _ : w1.frozen? ⟨w.heap.size, 3, none⟩ = false := by rw [hf1 (w.heap.size) 3 (by first | omega | (simp; done) | (simp; omega))]; first | assumption | (simp; done) | simp [go_sem, *]
    have _ : w1.cell? ⟨w.heap.size + 1, 0, none⟩ = some (.int .i64 0) := by rw [hc1 (w.heap.size + 1) 0 (by first | omega | (simp; done) | (simp; omega))]; first | assumption | (simp; done) | simp [go_sem, *]
    have _ : w1.frozen? ⟨w.heap.size + 1, 0, none⟩ = false := by rw [hf1 (w.heap.size + 1) 0 (by first | omega | (simp; done) | (simp; omega))]; first | assumption | (simp; done) | simp [go_sem, *]
    have _ : w1.cell? ⟨w.heap.size + 1, 1, none⟩ = some (.int .i64 0) := by rw [hc1 (w.heap.size + 1) 1 (by first | omega | (simp; done) | (simp; omega))]; first | assumption | (simp; done) | simp [go_sem, *]
    have _ : w1.frozen? ⟨w.heap.size + 1, 1, none⟩ = false := by rw [hf1 (w.heap.size + 1) 1 (by first | omega | (simp; done) | (simp; omega))]; first | assumption | (simp; done) | simp [go_sem, *]
    clear hc1 hf1
    obtain ⟨p1, c1, rfl⟩ := owns_shape o1
    clear o1
    go_wp2_with fail
    refine (in_yes' x 0 (n - 1) _ _ (by omega) (by omega) (by omega) (by omega) _).mono ?_
    rintro en wq ⟨rfl, rfl⟩
    go_wp2_with fail
    refine (in_no' y 0 (n - 1) _ _ (by omega) (by omega) (by omega) _).mono ?_
    rintro en wq ⟨rfl, rfl⟩
    go_wp2
    exact bodyPost_ret (v := (.tuple #[.agg #[.int .i64 0, .int .i64 0], .bool false])) (by simp (maxDischargeDepth := 8) [results, Try.results45, go_sem, *]) rfl ⟨ret_ratio (by rw [HF.out]), by (repeat (first | exact Below.refl _ _ | (refine Below.setCell ?_ (by (first | exact Nat.le_refl _ | omega | (simp <;> omega) | simp)) _) | (refine Below.alloc ?_ (by (first | exact Nat.le_refl _ | omega | (simp <;> omega) | simp)) _) | (refine below_draws ?_ _) | exact B1 | (refine Below.trans ?_ (Below.mono B1 (by (first | exact Nat.le_refl _ | omega | (simp <;> omega) | simp))))))⟩
  exact spec_cur_yes n e s a b x y p cap ws w hr hf gx gy
end Go.Proofs.Ytpkddaapffamiaa
