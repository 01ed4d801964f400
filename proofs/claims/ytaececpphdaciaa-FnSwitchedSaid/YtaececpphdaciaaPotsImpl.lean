/-
  PotentialsOf in the program.
-/
import Derived.Test.YtaececpphdaciaaGPots
namespace Go.Proofs.Ytaececpphdaciaa
open Go.RowKit

set_option maxRecDepth 8000 in
set_option maxHeartbeats 12800000 in
theorem impl_pots (n e s a b : Int) (v : Value) (ws : List W3) (w : World) (hr : ReadsW w v ws) :
    Calls Try.prog 25 #[.agg #[.int .i64 n, .int .i64 e, .int .i64 s, v], .int .i64 a, .int .i64 b] w fun en w' => ∃ v', en = .returned (.tuple #[v', .bool (potsR n e s ws a b).2]) ∧ w'.ownsRow w.heap.size 43 2 v' (potsR n e s ws a b).1.length (cellsP (potsR n e s ws a b).1) ∧ Below w.heap.size w w' := by
  have B0 : Below w.heap.size w (w.alloc (.cells #[.int .i64 n, .int .i64 e, .int .i64 s, v] 25)) := by (repeat (first | exact Below.refl _ _ | (refine Below.setCell ?_ (by (first | exact Nat.le_refl _ | omega | (simp <;> omega) | simp)) _) | (refine Below.alloc ?_ (by (first | exact Nat.le_refl _ | omega | (simp <;> omega) | simp)) _) | (refine below_draws ?_ _)))
  have hr0 := hr.later B0
  have hok := impl_feed n e s a b v ws _ hr0
  obtain ⟨p, cap, rfl⟩ := hr.shape
  cases hf : feedB n e s ws a b
  · rw [hf] at hok
    rw [potsR_no hf]
    clear hr0 hr hf
    go_enter Try.func25, Try.ntmps25
    go_wp2_with fail
    refine hok.mono ?_
    rintro en w1 ⟨rfl, B1⟩
    go_wp2
    go_ret2
    exact ⟨_, rfl, World.ownsRow_nil _ _ _ _, by (repeat (first | exact Below.refl _ _ | (refine Below.setCell ?_ (by (first | exact Nat.le_refl _ | omega | (simp <;> omega) | simp)) _) | (refine Below.alloc ?_ (by (first | exact Nat.le_refl _ | omega | (simp <;> omega) | simp)) _) | (refine below_draws ?_ _) | exact B1 | (refine Below.trans ?_ (Below.mono B1 (by (first | exact Nat.le_refl _ | omega | (simp <;> omega) | simp))))))⟩
  rw [hf] at hok
  obtain ⟨N, i, k0, rfl, rfl, rfl, hb, hi, hk0, hne⟩ := feed_yes hf
  obtain ⟨N1, N5⟩ := net_n hb
  have HP := Lib.hid (potsR_yes hf)
  obtain ⟨s1, s2⟩ := net_scale hb
  obtain ⟨t0, t1⟩ := tree_range N e s ws
  have hpr := fun v (hv : v < N) => potI_range (net_nat hb).2.2 (by omega) i k0 v hi hk0 hv hne
  have HPR := Lib.hid hpr; clear hpr hf
  obtain ⟨W0, hW0⟩ : ∃ W0, W0 = (w.alloc (.cells #[.int .i64 N, .int .i64 e, .int .i64 s, .slice p ws.length cap] 25)) := ⟨_, rfl⟩
  have hsW : W0.heap.size = w.heap.size + 1 := by rw [hW0]; simp
  have hbox : boxN W0 w.heap.size N e s (.slice p ws.length cap) := by rw [hW0]; exact boxN.new w N e s (.slice p ws.length cap) 25
  have B0' : Below w.heap.size w W0 := by rw [hW0]; exact B0
  have hcp := fun (w' : World) (j : Nat) (hj : j < N) (h1 : Below w.heap.size w w') => impl_side N e s i k0 j _ ws w' hb hi hk0 hj hne (hr.later h1)
  have HCP := Lib.hid hcp; clear hcp
  have hct := fun (w' : World) (h1 : Below w.heap.size w w') => impl_tree N e s _ ws w' (hr.later h1)
  have HCT := Lib.hid hct; clear hct
  have HBX := Lib.hid hbox; clear hbox
  clear hr hr0 hb B0
  rw [HP.out]
  go_enter Try.func25, Try.ntmps25
  go_wp2_with fail
  refine hok.mono ?_
  rintro en w1 ⟨rfl, B1⟩
  clear hok
  rw [← hW0, hsW] at B1
  have hsz1 := B1.size
  rw [hsW] at hsz1
  have B1w : Below w.heap.size w w1 := B0'.trans (B1.mono (by omega))
  obtain ⟨x0, x1, x2, x3⟩ := HBX.out.below B1 (Nat.lt_succ_self _)
  obtain ⟨i0, hi0, hz0, hz1, hz2⟩ := info_parts Try.infoRatio
  obtain ⟨w2, hmk, own2, grow2⟩ := run_makeSlice_full w1 w1.heap.size 47 43 i0 (.agg #[.int .i64 0, .int .i64 0]) 2 Try.underlying47 hi0 hz0 hz1 .i64 .i64 N (by omega) (by rw [hz2]; omega) (by unfold maxLen; omega) (Nat.le_refl _)
  have B2 : Below w1.heap.size w1 w2 := (Below.refl _ _).grown grow2 (Nat.le_refl _) (fun k hk => by cases hk)
  clear grow2 hi0 hz0 hz1 hz2
  have B2w : Hid (Below (w.heap.size + 1) W0 w2) := Lib.hid (B1.trans (B2.mono hsz1))
  have Hown := Lib.hid own2; clear own2
  clear B1 B2
  go_wp2
  go_loopw [20] (fun iv wr => ∃ (k : Nat) (ys : List Value), k ≤ N ∧ iv = .int .i64 k ∧ Hid (wr.ownsRow w1.heap.size 43 2 (.slice (some ⟨w1.heap.size, 0, none⟩) N N) N ys) ∧ Hid (ys.take (k * 2) = cellsP ((potsK N e s ws i k0 N).take k)) ∧ Hid (Below (w.heap.size + 1) W0 wr)) (fun iv _ => N - (intOf iv).toNat)
  case atStart => exact ⟨0, _, Nat.zero_le _, rfl, Hown, rfl, B2w⟩
  case round =>
    obtain ⟨k, ys, hk, rfl, hown, hh, hB⟩ := hrel
    have hsz := hB.out.size
    rw [hsW] at hsz
    have hBw : Below w.heap.size w wr := B0'.trans (hB.out.mono (by omega))
    have hX := HBX.out.below hB.out (Nat.lt_succ_self _)
    have hyl : ys.length = N * 2 := by have := hown.out.1; omega
    by_cases hlt : k < N
    · obtain ⟨q1, q2⟩ := HPR.out k hlt
      obtain ⟨r1, r2⟩ := scale_le s1 s2 q1 q2
      have d0 := hown.out.cellAt (k * 2) (by omega)
      have d1 := hown.out.cellAt (k * 2 + 1) (by omega)
      rw [List.getElem?_eq_getElem (by omega)] at d0 d1
      have f0 := hown.out.frozenAt (k * 2)
      have f1 := hown.out.frozenAt (k * 2 + 1)
      have hgl := (hown.out.lt w1.heap.size rfl).2
      have hW := Lib.hid (wrap_in (x := s * potI (lapM N ws) N i k0 k) (by omega) (by omega))
      have hS : wr.drew.cell? ⟨w.heap.size, 0, none⟩ = some (.int .i64 N) ∧ wr.drew.cell? ⟨w.heap.size, 1, none⟩ = some (.int .i64 e) ∧ wr.drew.cell? ⟨w.heap.size, 2, none⟩ = some (.int .i64 s) ∧ wr.drew.cell? ⟨w.heap.size, 3, none⟩ = some (.slice p ws.length cap) ∧ (∃ z0 z1, wr.drew.cell? ⟨w1.heap.size, k * 2, none⟩ = some z0 ∧ wr.drew.cell? ⟨w1.heap.size, k * 2 + 1, none⟩ = some z1 ∧ wr.drew.frozen? ⟨w1.heap.size, k * 2, none⟩ = false ∧ wr.drew.frozen? ⟨w1.heap.size, k * 2 + 1, none⟩ = false) ∧ w.heap.size < w1.heap.size ∧ w1.heap.size < wr.drew.heap.size := ⟨hX.1, hX.2.1, hX.2.2.1, hX.2.2.2, ⟨_, _, d0, d1, f0, f1⟩, by omega, hgl⟩
      have hBd : Below w.heap.size w wr.drew := below_draws hBw 1
      have hB1 : Below wr.heap.size wr wr.drew := below_draws (Below.refl _ wr) 1
      obtain ⟨x0, x1, x2, x3⟩ := hX
      go_wp2
      go_region_held3 (fun w' => w'.cell? ⟨w.heap.size, 0, none⟩ = some (.int .i64 N) ∧ w'.cell? ⟨w.heap.size, 1, none⟩ = some (.int .i64 e) ∧ w'.cell? ⟨w.heap.size, 2, none⟩ = some (.int .i64 s) ∧ w'.cell? ⟨w.heap.size, 3, none⟩ = some (.slice p ws.length cap) ∧ (∃ z0 z1, w'.cell? ⟨w1.heap.size, k * 2, none⟩ = some z0 ∧ w'.cell? ⟨w1.heap.size, k * 2 + 1, none⟩ = some z1 ∧ w'.frozen? ⟨w1.heap.size, k * 2, none⟩ = false ∧ w'.frozen? ⟨w1.heap.size, k * 2 + 1, none⟩ = false) ∧ w.heap.size < w1.heap.size ∧ w1.heap.size < w'.heap.size)
        (first | exact hS | exact el_set (el_set hS))
        (first
          | (go_at_call 72; with_reducible refine Calls.mono (HCP.out _ k hlt hBd) ?_; rintro en w3 ⟨rfl, B3⟩; replace hS := el_keep B3 hS; have C3 := hBd.trans (B3.mono hBd.size); have E3 := hB1.trans (B3.mono hB1.size))
          | (go_at_call 18; with_reducible refine Calls.mono (HCT.out _ C3) ?_; rintro en w4 ⟨rfl, B4⟩; replace hS := el_keep B4 hS; have E4 := E3.trans (B4.mono E3.size))
          | (go_at_call 71; refine (impl_rOf_at _ (s * potI (lapM N ws) N i k0 k) _ hW.out _ (by omega) (by omega) (by omega) (by omega)).mono ?_; rintro en w5 ⟨rfl, B5⟩; replace hS := el_keep B5 hS; have E5 := E4.trans (B5.mono E4.size); obtain ⟨z1, z2, z3, z4, ⟨u0, u1, z5, z6, z7, z8⟩, z9, z10⟩ := id hS))
      all_goals
        have own5 := owns_later hown.out E5
        have t1 := (own5.stored (k * 2) (.int .i64 (rOfN (s * potI (lapM N ws) N i k0 k) (treeR N e s ws)))).1
        have t2 := (t1.stored (k * 2 + 1) (.int .i64 (rOfD (s * potI (lapM N ws) N i k0 k) (treeR N e s ws)))).1
        have HO := Lib.hid t2
        have HBB : Hid (Below (w.heap.size + 1) W0 ((w5.setCell ⟨w1.heap.size, k * 2, none⟩ (.int .i64 (rOfN (s * potI (lapM N ws) N i k0 k) (treeR N e s ws)))).setCell ⟨w1.heap.size, k * 2 + 1, none⟩ (.int .i64 (rOfD (s * potI (lapM N ws) N i k0 k) (treeR N e s ws))))) := Lib.hid (((hB.out.trans (E5.mono hsz)).setCell hsz1 _).setCell hsz1 _)
        have HT := Lib.hid (set2_take ys (potsK N e s ws i k0 N) k (by rw [potsK_length]; exact hlt) (by rw [potsK_length]; exact hyl) hh.out)
        rw [potsK_get] at HT
        clear t1 t2 own5
        go_wp2
        go_roundw
        case rel => exact ⟨k + 1, _, by omega, by go_num, HO, HT, HBB⟩
        case measure => simp [intOf]; omega
    · obtain rfl : k = N := by omega
      go_wp2
      go_ret2
      have e := hh.out
      rw [List.take_of_length_le (by omega), List.take_of_length_le (by rw [potsK_length]; exact Nat.le_refl _)] at e
      refine ⟨_, rfl, ?_, hBw⟩
      have h := hown.out
      rw [e] at h
      rw [potsK_length]
      exact owns_mono h (by omega)

end Go.Proofs.Ytaececpphdaciaa
