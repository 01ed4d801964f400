/-
  The potential of a node, times the tree sum: by minors in the model, by sums of forests in the program.
-/
import Derived.Test.YtaececpphdaciaaResist
import Derived.Test.YtaececpphdaciaaPotMath
namespace Go.Proofs.Ytaececpphdaciaa
open Go.RowKit
theorem potI_yes {m : MatI} {N a b v : Nat} (h : v ≠ b) : potI m N a b v = sgn (idx a b + idx v b) * detD m (woL N [((min a b : Nat) : Int), ((max a b : Nat) : Int)]) (woL N [((min v b : Nat) : Int), ((max v b : Nat) : Int)]) := if_neg h
theorem forest_forD {N : Nat} {e s : Int} {ws : List W3} (hb : netB N e s ws = true) (a b : Nat) (ha : a < N) (hb' : b < N) : forestR N e s ws a b = forD (lapM N ws) N a b := by
  unfold forestR forD
  by_cases h : a = b
  · rw [if_pos h, if_neg (by omega)]
  · rw [if_neg h, if_pos ⟨hb, by omega⟩, Int.toNat_natCast]
    have hs : woL N [(a : Int), (b : Int)] = woL N [((min a b : Nat) : Int), ((max a b : Nat) : Int)] := woL_same fun x => by
      simp only [List.mem_cons, List.not_mem_nil, or_false]
      omega
    rw [hs]
theorem potI_range {N : Nat} {ws : List W3} (h : WiresV N ws) (hN : N ≤ 5) (a b v : Nat) (ha : a < N) (hb : b < N) (hv : v < N) (hab : a ≠ b) : -6000000000 ≤ potI (lapM N ws) N a b v ∧ potI (lapM N ws) N a b v ≤ 6000000000 := by
  by_cases hvb : v = b
  · unfold potI; rw [if_pos hvb]; omega
  · rw [potI_yes hvb]
    have l1 := woL_two (N := N) (a := ((min a b : Nat) : Int)) (b := ((max a b : Nat) : Int)) (by omega) (by omega) (by omega)
    have l2 := woL_two (N := N) (a := ((min v b : Nat) : Int)) (b := ((max v b : Nat) : Int)) (by omega) (by omega) (by omega)
    have hr := det_range3 h hN (woL N [((min a b : Nat) : Int), ((max a b : Nat) : Int)]) (woL N [((min v b : Nat) : Int), ((max v b : Nat) : Int)]) (by rw [l1, l2]) (by rw [l1]; omega)
    rcases sgn_cases (idx a b + idx v b) with e | e <;> rw [e] <;> omega

set_option maxHeartbeats 6400000 in
theorem impl_side (N : Nat) (e s : Int) (a b v : Nat) (vn : Value) (ws : List W3) (w : World) (hb : netB N e s ws = true) (ha : a < N) (hb' : b < N) (hv : v < N) (hab : a ≠ b) (hr : ReadsW w vn ws) :
    Calls Try.prog 72 #[.agg #[.int .i64 N, .int .i64 e, .int .i64 s, vn], .int .i64 a, .int .i64 b, .int .i64 v] w fun en w' => en = .returned (.int .i64 (potI (lapM N ws) N a b v)) ∧ Below w.heap.size w w' := by
  obtain ⟨_, h5, hw⟩ := net_nat hb
  obtain ⟨p, cap, rfl⟩ := hr.shape
  have hsp := side_pot hw h5 a b v ha hb' hv hab
  rw [← forest_forD hb a b ha hb', ← forest_forD hb v b hv hb', ← forest_forD hb a v ha hv] at hsp
  obtain ⟨f1, f2⟩ := forest_range N e s ws a b
  obtain ⟨f3, f4⟩ := forest_range N e s ws v b
  obtain ⟨f5, f6⟩ := forest_range N e s ws a v
  have c1 := fun (w' : World) (h1 : Below w.heap.size w w') => impl_forest N e s a b _ ws w' (hr.later h1)
  have c2 := fun (w' : World) (h1 : Below w.heap.size w w') => impl_forest N e s v b _ ws w' (hr.later h1)
  have c3 := fun (w' : World) (h1 : Below w.heap.size w w') => impl_forest N e s a v _ ws w' (hr.later h1)
  generalize forestR N e s ws a b = F1 at *
  generalize forestR N e s ws v b = F2 at *
  generalize forestR N e s ws a v = F3 at *
  generalize potI (lapM N ws) N a b v = PI at *
  have HW : Hid (IntKind.i64.wrap (Int.tdiv (IntKind.i64.wrap (IntKind.i64.wrap (F1 + F2) - F3)) 2) = PI) := Lib.hid (by
    rw [wrap_in (x := F1 + F2) (by omega) (by omega), wrap_in (x := F1 + F2 - F3) (by omega) (by omega), hsp, Int.mul_tdiv_cancel_left _ (by decide), wrap_in (by omega) (by omega)])
  have G1 := Lib.hid c1; have G2 := Lib.hid c2; have G3 := Lib.hid c3
  have HSP := Lib.hid hsp
  have HB : Below w.heap.size w ((w.alloc (.cells #[.int .i64 N, .int .i64 e, .int .i64 s, .slice p ws.length cap] 25)).drew) := by (repeat (first | exact Below.refl _ _ | (refine Below.setCell ?_ (by (first | exact Nat.le_refl _ | omega | (simp <;> omega) | simp)) _) | (refine Below.alloc ?_ (by (first | exact Nat.le_refl _ | omega | (simp <;> omega) | simp)) _) | (refine below_draws ?_ _)))
  have hS : boxN ((w.alloc (.cells #[.int .i64 N, .int .i64 e, .int .i64 s, .slice p ws.length cap] 25)).drew) w.heap.size N e s (.slice p ws.length cap) := boxN.new w N e s (.slice p ws.length cap) 25
  unfold boxN at hS
  clear c1 c2 c3 hsp hb hw hr
  go_enter Try.func72, Try.ntmps72
  go_wp2
  go_region_held3 (fun w' => w'.cell? ⟨w.heap.size, 0, none⟩ = some (.int .i64 N) ∧ w'.cell? ⟨w.heap.size, 1, none⟩ = some (.int .i64 e) ∧ w'.cell? ⟨w.heap.size, 2, none⟩ = some (.int .i64 s) ∧ w'.cell? ⟨w.heap.size, 3, none⟩ = some (.slice p ws.length cap))
    (first | exact hS)
    (first
      | (go_at_call 22; with_reducible refine Calls.mono (G1.out _ HB) ?_; rintro en w3 ⟨rfl, B3⟩; replace hS := four_keep B3 hS; have C3 := HB.trans (B3.mono HB.size))
      | (go_at_call 22; with_reducible refine Calls.mono (G2.out _ C3) ?_; rintro en w4 ⟨rfl, B4⟩; replace hS := four_keep B4 hS; have C4 := C3.trans (B4.mono C3.size))
      | (go_at_call 22; with_reducible refine Calls.mono (G3.out _ C4) ?_; rintro en w5 ⟨rfl, B5⟩; replace hS := four_keep B5 hS; have C5 := C4.trans (B5.mono C4.size)))
  all_goals
    rw [HW.out]
    go_wp2
    go_ret
    exact ⟨rfl, C5⟩

noncomputable def feedB (n e s : Int) (ws : List W3) (a b : Int) : Bool := netB n e s ws && (hasB n a && (hasB n b && !(a == b)))
set_option maxHeartbeats 3200000 in
theorem impl_feed (n e s a b : Int) (v : Value) (ws : List W3) (w : World) (hr : ReadsW w v ws) :
    Calls Try.prog 73 #[.agg #[.int .i64 n, .int .i64 e, .int .i64 s, v], .int .i64 a, .int .i64 b] w fun en w' => en = .returned (.bool (feedB n e s ws a b)) ∧ Below w.heap.size w w' := by
  have hok := impl_netOk n e s v ws _ (hr.later (show Below w.heap.size w (w.alloc (.cells #[.int .i64 n, .int .i64 e, .int .i64 s, v] 25)) by (repeat (first | exact Below.refl _ _ | (refine Below.setCell ?_ (by (first | exact Nat.le_refl _ | omega | (simp <;> omega) | simp)) _) | (refine Below.alloc ?_ (by (first | exact Nat.le_refl _ | omega | (simp <;> omega) | simp)) _) | (refine below_draws ?_ _)))))
  obtain ⟨p, cap, rfl⟩ := hr.shape
  clear hr
  cases hb : netB n e s ws
  · rw [hb] at hok
    have HF : Hid (feedB n e s ws a b = false) := Lib.hid (by unfold feedB; rw [hb]; rfl)
    clear hb
    go_enter Try.func73, Try.ntmps73
    go_wp2_with fail
    refine hok.mono ?_
    rintro en w1 ⟨rfl, B1⟩
    go_wp2
    go_ret
    exact ⟨ret_b HF.out.symm, by (repeat (first | exact Below.refl _ _ | (refine Below.setCell ?_ (by (first | exact Nat.le_refl _ | omega | (simp <;> omega) | simp)) _) | (refine Below.alloc ?_ (by (first | exact Nat.le_refl _ | omega | (simp <;> omega) | simp)) _) | (refine below_draws ?_ _) | exact B1 | (refine Below.trans ?_ (Below.mono B1 (by (first | exact Nat.le_refl _ | omega | (simp <;> omega) | simp))))))⟩
  rw [hb] at hok
  have c1 := fun w => hasN_any n e s a (.slice p ws.length cap) w
  have c2 := fun w => hasN_any n e s b (.slice p ws.length cap) w
  cases ha : hasB n a
  · rw [ha] at c1
    have HF : Hid (feedB n e s ws a b = false) := Lib.hid (by unfold feedB; rw [hb, ha]; rfl)
    have C1 := Lib.hid c1
    clear hb c1 c2 ha
    go_enter Try.func73, Try.ntmps73
    go_wp2_with fail
    refine hok.mono ?_
    rintro en w1 ⟨rfl, B1⟩
    obtain ⟨hc1, hf1⟩ := bcell B1
    have S1 := B1.size
    try simp at S1
    try (have _L1w : w.heap.size < w1.heap.size := by omega)
    have _M1w : w.heap.size ≤ w1.heap.size := by omega
    try (have _P1w_1 : w.heap.size + 1 < w1.heap.size := by omega)
    try (have _P1w_2 : w.heap.size + 1 + 1 < w1.heap.size := by omega)
    try (have _P1w_3 : w.heap.size + 1 + 1 + 1 < w1.heap.size := by omega)
    have _ : w1.cell? ⟨w.heap.size, 0, none⟩ = some (.int .i64 n) := by rw [hc1 (w.heap.size) 0 (by first | omega | (simp; done) | (simp; omega))]; first | assumption | (simp; done) | simp [go_sem, *]
    have _ : w1.frozen? ⟨w.heap.size, 0, none⟩ = false := by rw [hf1 (w.heap.size) 0 (by first | omega | (simp; done) | (simp; omega))]; first | assumption | (simp; done) | simp [go_sem, *]
    have _ : w1.cell? ⟨w.heap.size, 1, none⟩ = some (.int .i64 e) := by rw [hc1 (w.heap.size) 1 (by first | omega | (simp; done) | (simp; omega))]; first | assumption | (simp; done) | simp [go_sem, *]
    have _ : w1.frozen? ⟨w.heap.size, 1, none⟩ = false := by rw [hf1 (w.heap.size) 1 (by first | omega | (simp; done) | (simp; omega))]; first | assumption | (simp; done) | simp [go_sem, *]
    have _ : w1.cell? ⟨w.heap.size, 2, none⟩ = some (.int .i64 s) := by rw [hc1 (w.heap.size) 2 (by first | omega | (simp; done) | (simp; omega))]; first | assumption | (simp; done) | simp [go_sem, *]
    have _ : w1.frozen? ⟨w.heap.size, 2, none⟩ = false := by rw [hf1 (w.heap.size) 2 (by first | omega | (simp; done) | (simp; omega))]; first | assumption | (simp; done) | simp [go_sem, *]
    have _ : w1.cell? ⟨w.heap.size, 3, none⟩ = some (.slice p ws.length cap) := by rw [hc1 (w.heap.size) 3 (by first | omega | (simp; done) | (simp; omega))]; first | assumption | (simp; done) | simp [go_sem, *]
    have _ : w1.frozen? ⟨w.heap.size, 3, none⟩ = false := by rw [hf1 (w.heap.size) 3 (by first | omega | (simp; done) | (simp; omega))]; first | assumption | (simp; done) | simp [go_sem, *]
    clear hc1 hf1
    go_wp2_with fail
    refine (C1.out _).mono ?_
    rintro en w2 ⟨rfl, B2⟩
    obtain ⟨hc2, hf2⟩ := bcell B2
    have S2 := B2.size
    try simp at S2
    try (have _L2w : w.heap.size < w2.heap.size := by omega)
    have _M2w : w.heap.size ≤ w2.heap.size := by omega
    try (have _P2w_1 : w.heap.size + 1 < w2.heap.size := by omega)
    try (have _P2w_2 : w.heap.size + 1 + 1 < w2.heap.size := by omega)
    try (have _P2w_3 : w.heap.size + 1 + 1 + 1 < w2.heap.size := by omega)
    try (have _L2w1 : w1.heap.size < w2.heap.size := by omega)
    have _M2w1 : w1.heap.size ≤ w2.heap.size := by omega
    try (have _P2w1_1 : w1.heap.size + 1 < w2.heap.size := by omega)
    try (have _P2w1_2 : w1.heap.size + 1 + 1 < w2.heap.size := by omega)
    try (have _P2w1_3 : w1.heap.size + 1 + 1 + 1 < w2.heap.size := by omega)
    go_wp2
    go_ret
    exact ⟨ret_b HF.out.symm, by (repeat (first | exact Below.refl _ _ | (refine Below.setCell ?_ (by (first | exact Nat.le_refl _ | omega | (simp <;> omega) | simp)) _) | (refine Below.alloc ?_ (by (first | exact Nat.le_refl _ | omega | (simp <;> omega) | simp)) _) | (refine below_draws ?_ _) | exact B1 | (refine Below.trans ?_ (Below.mono B1 (by (first | exact Nat.le_refl _ | omega | (simp <;> omega) | simp)))) | exact B2 | (refine Below.trans ?_ (Below.mono B2 (by (first | exact Nat.le_refl _ | omega | (simp <;> omega) | simp))))))⟩
  rw [ha] at c1
  cases hb' : hasB n b
  · rw [hb'] at c2
    have HF : Hid (feedB n e s ws a b = false) := Lib.hid (by unfold feedB; rw [hb, ha, hb']; rfl)
    have C1 := Lib.hid c1
    have C2 := Lib.hid c2
    clear hb c1 c2 ha hb'
    go_enter Try.func73, Try.ntmps73
    go_wp2_with fail
    refine hok.mono ?_
    rintro en w1 ⟨rfl, B1⟩
    obtain ⟨hc1, hf1⟩ := bcell B1
    have S1 := B1.size
    try simp at S1
    try (have _L1w : w.heap.size < w1.heap.size := by omega)
    have _M1w : w.heap.size ≤ w1.heap.size := by omega
    try (have _P1w_1 : w.heap.size + 1 < w1.heap.size := by omega)
    try (have _P1w_2 : w.heap.size + 1 + 1 < w1.heap.size := by omega)
    try (have _P1w_3 : w.heap.size + 1 + 1 + 1 < w1.heap.size := by omega)
    have _ : w1.cell? ⟨w.heap.size, 0, none⟩ = some (.int .i64 n) := by rw [hc1 (w.heap.size) 0 (by first | omega | (simp; done) | (simp; omega))]; first | assumption | (simp; done) | simp [go_sem, *]
    have _ : w1.frozen? ⟨w.heap.size, 0, none⟩ = false := by rw [hf1 (w.heap.size) 0 (by first | omega | (simp; done) | (simp; omega))]; first | assumption | (simp; done) | simp [go_sem, *]
    have _ : w1.cell? ⟨w.heap.size, 1, none⟩ = some (.int .i64 e) := by rw [hc1 (w.heap.size) 1 (by first | omega | (simp; done) | (simp; omega))]; first | assumption | (simp; done) | simp [go_sem, *]
    have _ : w1.frozen? ⟨w.heap.size, 1, none⟩ = false := by rw [hf1 (w.heap.size) 1 (by first | omega | (simp; done) | (simp; omega))]; first | assumption | (simp; done) | simp [go_sem, *]
    have _ : w1.cell? ⟨w.heap.size, 2, none⟩ = some (.int .i64 s) := by rw [hc1 (w.heap.size) 2 (by first | omega | (simp; done) | (simp; omega))]; first | assumption | (simp; done) | simp [go_sem, *]
    have _ : w1.frozen? ⟨w.heap.size, 2, none⟩ = false := by rw [hf1 (w.heap.size) 2 (by first | omega | (simp; done) | (simp; omega))]; first | assumption | (simp; done) | simp [go_sem, *]
    have _ : w1.cell? ⟨w.heap.size, 3, none⟩ = some (.slice p ws.length cap) := by rw [hc1 (w.heap.size) 3 (by first | omega | (simp; done) | (simp; omega))]; first | assumption | (simp; done) | simp [go_sem, *]
    have _ : w1.frozen? ⟨w.heap.size, 3, none⟩ = false := by rw [hf1 (w.heap.size) 3 (by first | omega | (simp; done) | (simp; omega))]; first | assumption | (simp; done) | simp [go_sem, *]
    clear hc1 hf1
    go_wp2_with fail
    refine (C1.out _).mono ?_
    rintro en w2 ⟨rfl, B2⟩
    obtain ⟨hc2, hf2⟩ := bcell B2
    have S2 := B2.size
    try simp at S2
    try (have _L2w : w.heap.size < w2.heap.size := by omega)
    have _M2w : w.heap.size ≤ w2.heap.size := by omega
    try (have _P2w_1 : w.heap.size + 1 < w2.heap.size := by omega)
    try (have _P2w_2 : w.heap.size + 1 + 1 < w2.heap.size := by omega)
    try (have _P2w_3 : w.heap.size + 1 + 1 + 1 < w2.heap.size := by omega)
    try (have _L2w1 : w1.heap.size < w2.heap.size := by omega)
    have _M2w1 : w1.heap.size ≤ w2.heap.size := by omega
    try (have _P2w1_1 : w1.heap.size + 1 < w2.heap.size := by omega)
    try (have _P2w1_2 : w1.heap.size + 1 + 1 < w2.heap.size := by omega)
    try (have _P2w1_3 : w1.heap.size + 1 + 1 + 1 < w2.heap.size := by omega)
    have _ : w2.cell? ⟨w.heap.size, 0, none⟩ = some (.int .i64 n) := by rw [hc2 (w.heap.size) 0 (by first | omega | (simp; done) | (simp; omega))]; first | assumption | (simp; done) | simp [go_sem, *]
    have _ : w2.frozen? ⟨w.heap.size, 0, none⟩ = false := by rw [hf2 (w.heap.size) 0 (by first | omega | (simp; done) | (simp; omega))]; first | assumption | (simp; done) | simp [go_sem, *]
    have _ : w2.cell? ⟨w.heap.size, 1, none⟩ = some (.int .i64 e) := by rw [hc2 (w.heap.size) 1 (by first | omega | (simp; done) | (simp; omega))]; first | assumption | (simp; done) | simp [go_sem, *]
    have _ : w2.frozen? ⟨w.heap.size, 1, none⟩ = false := by rw [hf2 (w.heap.size) 1 (by first | omega | (simp; done) | (simp; omega))]; first | assumption | (simp; done) | simp [go_sem, *]
    have _ : w2.cell? ⟨w.heap.size, 2, none⟩ = some (.int .i64 s) := by rw [hc2 (w.heap.size) 2 (by first | omega | (simp; done) | (simp; omega))]; first | assumption | (simp; done) | simp [go_sem, *]
    have _ : w2.frozen? ⟨w.heap.size, 2, none⟩ = false := by rw [hf2 (w.heap.size) 2 (by first | omega | (simp; done) | (simp; omega))]; first | assumption | (simp; done) | simp [go_sem, *]
    have _ : w2.cell? ⟨w.heap.size, 3, none⟩ = some (.slice p ws.length cap) := by rw [hc2 (w.heap.size) 3 (by first | omega | (simp; done) | (simp; omega))]; first | assumption | (simp; done) | simp [go_sem, *]
    have _ : w2.frozen? ⟨w.heap.size, 3, none⟩ = false := by rw [hf2 (w.heap.size) 3 (by first | omega | (simp; done) | (simp; omega))]; first | assumption | (simp; done) | simp [go_sem, *]
    clear hc2 hf2
    go_wp2_with fail
    refine (C2.out _).mono ?_
    rintro en w3 ⟨rfl, B3⟩
    obtain ⟨hc3, hf3⟩ := bcell B3
    have S3 := B3.size
    try simp at S3
    try (have _L3w : w.heap.size < w3.heap.size := by omega)
    have _M3w : w.heap.size ≤ w3.heap.size := by omega
    try (have _P3w_1 : w.heap.size + 1 < w3.heap.size := by omega)
    try (have _P3w_2 : w.heap.size + 1 + 1 < w3.heap.size := by omega)
    try (have _P3w_3 : w.heap.size + 1 + 1 + 1 < w3.heap.size := by omega)
    try (have _L3w1 : w1.heap.size < w3.heap.size := by omega)
    have _M3w1 : w1.heap.size ≤ w3.heap.size := by omega
    try (have _P3w1_1 : w1.heap.size + 1 < w3.heap.size := by omega)
    try (have _P3w1_2 : w1.heap.size + 1 + 1 < w3.heap.size := by omega)
    try (have _P3w1_3 : w1.heap.size + 1 + 1 + 1 < w3.heap.size := by omega)
    try (have _L3w2 : w2.heap.size < w3.heap.size := by omega)
    have _M3w2 : w2.heap.size ≤ w3.heap.size := by omega
    try (have _P3w2_1 : w2.heap.size + 1 < w3.heap.size := by omega)
    try (have _P3w2_2 : w2.heap.size + 1 + 1 < w3.heap.size := by omega)
    try (have _P3w2_3 : w2.heap.size + 1 + 1 + 1 < w3.heap.size := by omega)
    go_wp2
    go_ret
    exact ⟨ret_b HF.out.symm, by (repeat (first | exact Below.refl _ _ | (refine Below.setCell ?_ (by (first | exact Nat.le_refl _ | omega | (simp <;> omega) | simp)) _) | (refine Below.alloc ?_ (by (first | exact Nat.le_refl _ | omega | (simp <;> omega) | simp)) _) | (refine below_draws ?_ _) | exact B1 | (refine Below.trans ?_ (Below.mono B1 (by (first | exact Nat.le_refl _ | omega | (simp <;> omega) | simp)))) | exact B2 | (refine Below.trans ?_ (Below.mono B2 (by (first | exact Nat.le_refl _ | omega | (simp <;> omega) | simp)))) | exact B3 | (refine Below.trans ?_ (Below.mono B3 (by (first | exact Nat.le_refl _ | omega | (simp <;> omega) | simp))))))⟩
  rw [hb'] at c2
  have HF : Hid (feedB n e s ws a b = !(a == b)) := Lib.hid (by unfold feedB; rw [hb, ha, hb']; rfl)
  have C1 := Lib.hid c1
  have C2 := Lib.hid c2
  clear hb c1 c2 ha hb'
  go_enter Try.func73, Try.ntmps73
  go_wp2_with fail
  refine hok.mono ?_
  rintro en w1 ⟨rfl, B1⟩
  obtain ⟨hc1, hf1⟩ := bcell B1
  have S1 := B1.size
  try simp at S1
  try (have _L1w : w.heap.size < w1.heap.size := by omega)
  have _M1w : w.heap.size ≤ w1.heap.size := by omega
  try (have _P1w_1 : w.heap.size + 1 < w1.heap.size := by omega)
  try (have _P1w_2 : w.heap.size + 1 + 1 < w1.heap.size := by omega)
  try (have _P1w_3 : w.heap.size + 1 + 1 + 1 < w1.heap.size := by omega)
  have _ : w1.cell? ⟨w.heap.size, 0, none⟩ = some (.int .i64 n) := by rw [hc1 (w.heap.size) 0 (by first | omega | (simp; done) | (simp; omega))]; first | assumption | (simp; done) | simp [go_sem, *]
  have _ : w1.frozen? ⟨w.heap.size, 0, none⟩ = false := by rw [hf1 (w.heap.size) 0 (by first | omega | (simp; done) | (simp; omega))]; first | assumption | (simp; done) | simp [go_sem, *]
  have _ : w1.cell? ⟨w.heap.size, 1, none⟩ = some (.int .i64 e) := by rw [hc1 (w.heap.size) 1 (by first | omega | (simp; done) | (simp; omega))]; first | assumption | (simp; done) | simp [go_sem, *]
  have _ : w1.frozen? ⟨w.heap.size, 1, none⟩ = false := by rw [hf1 (w.heap.size) 1 (by first | omega | (simp; done) | (simp; omega))]; first | assumption | (simp; done) | simp [go_sem, *]
  have _ : w1.cell? ⟨w.heap.size, 2, none⟩ = some (.int .i64 s) := by rw [hc1 (w.heap.size) 2 (by first | omega | (simp; done) | (simp; omega))]; first | assumption | (simp; done) | simp [go_sem, *]
  have _ : w1.frozen? ⟨w.heap.size, 2, none⟩ = false := by rw [hf1 (w.heap.size) 2 (by first | omega | (simp; done) | (simp; omega))]; first | assumption | (simp; done) | simp [go_sem, *]
  have _ : w1.cell? ⟨w.heap.size, 3, none⟩ = some (.slice p ws.length cap) := by rw [hc1 (w.heap.size) 3 (by first | omega | (simp; done) | (simp; omega))]; first | assumption | (simp; done) | simp [go_sem, *]
  have _ : w1.frozen? ⟨w.heap.size, 3, none⟩ = false := by rw [hf1 (w.heap.size) 3 (by first | omega | (simp; done) | (simp; omega))]; first | assumption | (simp; done) | simp [go_sem, *]
  clear hc1 hf1
  go_wp2_with fail
  refine (C1.out _).mono ?_
  rintro en w2 ⟨rfl, B2⟩
  obtain ⟨hc2, hf2⟩ := bcell B2
  have S2 := B2.size
  try simp at S2
  try (have _L2w : w.heap.size < w2.heap.size := by omega)
  have _M2w : w.heap.size ≤ w2.heap.size := by omega
  try (have _P2w_1 : w.heap.size + 1 < w2.heap.size := by omega)
  try (have _P2w_2 : w.heap.size + 1 + 1 < w2.heap.size := by omega)
  try (have _P2w_3 : w.heap.size + 1 + 1 + 1 < w2.heap.size := by omega)
  try (have _L2w1 : w1.heap.size < w2.heap.size := by omega)
  have _M2w1 : w1.heap.size ≤ w2.heap.size := by omega
  try (have _P2w1_1 : w1.heap.size + 1 < w2.heap.size := by omega)
  try (have _P2w1_2 : w1.heap.size + 1 + 1 < w2.heap.size := by omega)
  try (have _P2w1_3 : w1.heap.size + 1 + 1 + 1 < w2.heap.size := by omega)
  have _ : w2.cell? ⟨w.heap.size, 0, none⟩ = some (.int .i64 n) := by rw [hc2 (w.heap.size) 0 (by first | omega | (simp; done) | (simp; omega))]; first | assumption | (simp; done) | simp [go_sem, *]
  have _ : w2.frozen? ⟨w.heap.size, 0, none⟩ = false := by rw [hf2 (w.heap.size) 0 (by first | omega | (simp; done) | (simp; omega))]; first | assumption | (simp; done) | simp [go_sem, *]
  have _ : w2.cell? ⟨w.heap.size, 1, none⟩ = some (.int .i64 e) := by rw [hc2 (w.heap.size) 1 (by first | omega | (simp; done) | (simp; omega))]; first | assumption | (simp; done) | simp [go_sem, *]
  have _ : w2.frozen? ⟨w.heap.size, 1, none⟩ = false := by rw [hf2 (w.heap.size) 1 (by first | omega | (simp; done) | (simp; omega))]; first | assumption | (simp; done) | simp [go_sem, *]
  have _ : w2.cell? ⟨w.heap.size, 2, none⟩ = some (.int .i64 s) := by rw [hc2 (w.heap.size) 2 (by first | omega | (simp; done) | (simp; omega))]; first | assumption | (simp; done) | simp [go_sem, *]
  have _ : w2.frozen? ⟨w.heap.size, 2, none⟩ = false := by rw [hf2 (w.heap.size) 2 (by first | omega | (simp; done) | (simp; omega))]; first | assumption | (simp; done) | simp [go_sem, *]
  have _ : w2.cell? ⟨w.heap.size, 3, none⟩ = some (.slice p ws.length cap) := by rw [hc2 (w.heap.size) 3 (by first | omega | (simp; done) | (simp; omega))]; first | assumption | (simp; done) | simp [go_sem, *]
  have _ : w2.frozen? ⟨w.heap.size, 3, none⟩ = false := by rw [hf2 (w.heap.size) 3 (by first | omega | (simp; done) | (simp; omega))]; first | assumption | (simp; done) | simp [go_sem, *]
  clear hc2 hf2
  go_wp2_with fail
  refine (C2.out _).mono ?_
  rintro en w3 ⟨rfl, B3⟩
  obtain ⟨hc3, hf3⟩ := bcell B3
  have S3 := B3.size
  try simp at S3
  try (have _L3w : w.heap.size < w3.heap.size := by omega)
  have _M3w : w.heap.size ≤ w3.heap.size := by omega
  try (have _P3w_1 : w.heap.size + 1 < w3.heap.size := by omega)
  try (have _P3w_2 : w.heap.size + 1 + 1 < w3.heap.size := by omega)
  try (have _P3w_3 : w.heap.size + 1 + 1 + 1 < w3.heap.size := by omega)
  try (have _L3w1 : w1.heap.size < w3.heap.size := by omega)
  have _M3w1 : w1.heap.size ≤ w3.heap.size := by omega
  try (have _P3w1_1 : w1.heap.size + 1 < w3.heap.size := by omega)
  try (have _P3w1_2 : w1.heap.size + 1 + 1 < w3.heap.size := by omega)
  try (have _P3w1_3 : w1.heap.size + 1 + 1 + 1 < w3.heap.size := by omega)
  try (have _L3w2 : w2.heap.size < w3.heap.size := by omega)
  have _M3w2 : w2.heap.size ≤ w3.heap.size := by omega
  try (have _P3w2_1 : w2.heap.size + 1 < w3.heap.size := by omega)
  try (have _P3w2_2 : w2.heap.size + 1 + 1 < w3.heap.size := by omega)
  try (have _P3w2_3 : w2.heap.size + 1 + 1 + 1 < w3.heap.size := by omega)
  go_wp2
  go_ret
  exact ⟨ret_b HF.out.symm, by (repeat (first | exact Below.refl _ _ | (refine Below.setCell ?_ (by (first | exact Nat.le_refl _ | omega | (simp <;> omega) | simp)) _) | (refine Below.alloc ?_ (by (first | exact Nat.le_refl _ | omega | (simp <;> omega) | simp)) _) | (refine below_draws ?_ _) | exact B1 | (refine Below.trans ?_ (Below.mono B1 (by (first | exact Nat.le_refl _ | omega | (simp <;> omega) | simp)))) | exact B2 | (refine Below.trans ?_ (Below.mono B2 (by (first | exact Nat.le_refl _ | omega | (simp <;> omega) | simp)))) | exact B3 | (refine Below.trans ?_ (Below.mono B3 (by (first | exact Nat.le_refl _ | omega | (simp <;> omega) | simp))))))⟩
theorem feed_yes {n e s a b : Int} {ws : List W3} (h : feedB n e s ws a b = true) : ∃ (N a' b' : Nat), n = N ∧ a = a' ∧ b = b' ∧ netB N e s ws = true ∧ a' < N ∧ b' < N ∧ a' ≠ b' := by
  unfold feedB hasB at h
  simp only [Bool.and_eq_true, decide_eq_true_eq, Bool.not_eq_true', beq_eq_false_iff_ne] at h
  obtain ⟨h1, ⟨h2, h3⟩, ⟨h4, h5⟩, h6⟩ := h
  refine ⟨n.toNat, a.toNat, b.toNat, by omega, by omega, by omega, ?_, by omega, by omega, by omega⟩
  rw [Int.toNat_of_nonneg (by omega)]; exact h1
end Go.Proofs.Ytaececpphdaciaa
