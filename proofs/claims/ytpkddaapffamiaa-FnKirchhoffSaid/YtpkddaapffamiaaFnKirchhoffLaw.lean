/-
  FnKirchhoff: for every code the currents of a small network add up to what comes in from outside at every node, and follow the potentials. No condition.
-/
import Derived.Test.YtpkddaapffamiaaRows
import Derived.Test.YtpkddaapffamiaaMakeRatio
import Derived.Test.YtpkddaapffamiaaMakeNetTop
import Derived.Test.YtpkddaapffamiaaGKirP
import Derived.Test.YtpkddaapffamiaaCurImpl
import Derived.Test.YtpkddaapffamiaaPotsImpl
import Derived.Test.YtpkddaapffamiaaRatCalls
import Derived.Test.YtpkddaapffamiaaKept
import Derived.Deep.RegionHeld3
import Derived.Laws.StructEq
namespace Go.Proofs.Ytpkddaapffamiaa
open Go.ChangeShapes Go.WideShapes Go.ChangeAt Go.RowKit

namespace FnKirchhoffLaw
theorem diff_in (n d m e : Int) : In (rDiff n d m e).1 ∧ In (rDiff n d m e).2 := by
  unfold rDiff
  split
  · exact rOf_in _ _
  · simp [In]
theorem mod_other {N i r : Int} (h0 : 0 ≤ i) (h1 : i < N) (r0 : 0 ≤ r) (r1 : r < N - 1) (h : (i + 1 + r) % N = i) : False := by
  by_cases hl : i + 1 + r < N
  · rw [Int.emod_eq_of_lt (by omega) hl] at h; omega
  · have e : i + 1 + r = (i + 1 + r - N) + N := by omega
    rw [e, Int.add_emod_right, Int.emod_eq_of_lt (by omega) (by omega)] at h; omega
set_option maxRecDepth 8000 in
set_option maxHeartbeats 12800000 in
theorem walk (v : Value) (k : Nat) (w : World) (hv : BytesAt w v k) :
    Calls Try.prog 3 #[v] w fun en w' => en = .returned (.bool true) ∧ Below w.heap.size w w' := by
  obtain ⟨a0, cap0, rfl⟩ : ∃ a0 cap, v = .slice a0 k cap := by
    rcases hv.2 with ⟨rfl, p, cap, rfl⟩ | ⟨g, o, cap, rfl, _⟩
    · exact ⟨_, _, rfl⟩
    · exact ⟨_, _, rfl⟩
  have hnm := hv.1
  by_cases hb : 1048576 < k
  · go_enter Try.func3, Try.ntmps3
    go_wp2
    go_ret
    exact ⟨rfl, Below.refl _ _⟩
  have hk : k ≤ 1048576 := by omega
  have hat := fun (w' : World) (h : Below w.heap.size w w') => hv.on h
  have HAT := Lib.hid hat; clear hat
  go_enter Try.func3, Try.ntmps3
  go_wp2_with fail
  refine (makeNet_any _ k _ (HAT.out _ (Below.refl _ _)) hk).mono ?_
  rintro en w1 ⟨N, e, s, p, cap, ws, rfl, ⟨n2, n5, e1, e2, s1, s3⟩, hgood, hlen, o1, B1⟩
  have S1 := B1.size
  obtain ⟨W2, hW2⟩ : ∃ W2, W2 = w1.alloc (.cells #[.int .i64 N, .int .i64 e, .int .i64 s, .slice p ws.length cap] 25) := ⟨_, rfl⟩
  have hsW : W2.heap.size = w1.heap.size + 1 := by rw [hW2]; simp
  have hbox : boxN W2 w1.heap.size N e s (.slice p ws.length cap) := by rw [hW2]; exact boxN.new w1 N e s _ 25
  have hB12 : Below w1.heap.size w1 W2 := by rw [hW2]; exact (Below.refl _ _).alloc (Nat.le_refl _) _
  have hB2 : Below w.heap.size w W2 := B1.trans (hB12.mono S1)
  have hrd : ReadsW W2 (.slice p ws.length cap) ws := (ReadsW.of_own o1).later hB12
  have hnet := hgood.net (e := e) (s := s) (by omega) (by omega) (by omega) (by omega) e2 s1 (by omega)
  have HG := Lib.hid hgood; have HNET := Lib.hid hnet; have HR := Lib.hid hrd; have HBX := Lib.hid hbox
  clear hgood hnet o1 hrd hB12 B1
  have hN0 : ((N : Int) == 0) = false := by simp; omega
  have iqn : ¬ N = 0 := by omega
  have hN1 : (((N : Int) - 1) == 0) = false := by simp; omega
  have hS : W2.drew.cell? ⟨w1.heap.size, 0, none⟩ = some (.int .i64 N) ∧ W2.drew.cell? ⟨w1.heap.size, 1, none⟩ = some (.int .i64 e) ∧ W2.drew.cell? ⟨w1.heap.size, 2, none⟩ = some (.int .i64 s) ∧ W2.drew.cell? ⟨w1.heap.size, 3, none⟩ = some (.slice p ws.length cap) := hbox
  obtain ⟨x0, x1, x2, x3⟩ := hbox
  have hBd : Below w.heap.size w W2.drew := below_draws hB2 1
  go_wp2
  rw [← hW2]
  clear hW2
  go_region_held3 (fun w' => w'.cell? ⟨w1.heap.size, 0, none⟩ = some (.int .i64 N) ∧ w'.cell? ⟨w1.heap.size, 1, none⟩ = some (.int .i64 e) ∧ w'.cell? ⟨w1.heap.size, 2, none⟩ = some (.int .i64 s) ∧ w'.cell? ⟨w1.heap.size, 3, none⟩ = some (.slice p ws.length cap))
    (first | exact hS)
    (first | (go_at_call 15; refine (makeNum_any _ k 30 30 rfl (by omega) W2.drew (HAT.out _ hBd) hk).mono ?_; rintro en w3 ⟨⟨x, rfl, hx0, hx1⟩, B3⟩; replace hS := four_keep B3 hS; have hB3 := hBd.trans (B3.mono hBd.size); have B23 : Below W2.heap.size W2 w3 := (below_draws (Below.refl _ W2) 1).trans B3; have i0 : 0 ≤ x % (N : Int) := Int.emod_nonneg _ (by omega); have i1 : x % (N : Int) < N := Int.emod_lt_of_pos _ (by omega); have it : x.tmod (N : Int) = x % (N : Int) := Int.tmod_eq_emod_of_nonneg hx0; have iw := wrap_in (x := x % (N : Int)) (by omega) (by omega); have iq : ¬ (N : Int) = 0 := by omega))
  obtain ⟨i, hi⟩ : ∃ i : Nat, x % (N : Int) = i := ⟨(x % (N : Int)).toNat, by omega⟩
  have hiN : i < N := by omega
  rw [hi]
  clear hi i0 i1 it iw iq hx0 hx1 B3 hBd
  obtain ⟨y0, y1, y2, y3⟩ := id hS
  have iw1 := wrap_in (x := (i : Int) + 1) (by omega) (by omega)
  have iw2 := wrap_in (x := (N : Int) - 1) (by omega) (by omega)
  have iq1 : ¬ ((N : Int) - 1 = 0) := by omega
  have iq2 : ¬ (N = 1) := by omega
  have iq3 : ¬ ((N : Int) = 1) := by omega
  have hBd : Below w.heap.size w w3.drew := below_draws hB3 1
  have hBE : Below W2.heap.size W2 w3 := B23
  go_wp2
  go_region_held3 (fun w' => w'.cell? ⟨w1.heap.size, 0, none⟩ = some (.int .i64 N) ∧ w'.cell? ⟨w1.heap.size, 1, none⟩ = some (.int .i64 e) ∧ w'.cell? ⟨w1.heap.size, 2, none⟩ = some (.int .i64 s) ∧ w'.cell? ⟨w1.heap.size, 3, none⟩ = some (.slice p ws.length cap))
    (first | exact hS)
    (first | (go_at_call 15; refine (makeNum_any _ k 32 32 rfl (by omega) w3.drew (HAT.out _ hBd) hk).mono ?_; rintro en w4 ⟨⟨y, rfl, hy0, hy1⟩, B4⟩; replace hS := four_keep B4 hS; have hB4 := hBd.trans (B4.mono hBd.size); have j0 : 0 ≤ y % ((N : Int) - 1) := Int.emod_nonneg _ (by omega); have j1 : y % ((N : Int) - 1) < (N : Int) - 1 := Int.emod_lt_of_pos _ (by omega); have jt : y.tmod ((N : Int) - 1) = y % ((N : Int) - 1) := Int.tmod_eq_emod_of_nonneg hy0; have jw := wrap_in (x := (i : Int) + 1 + y % ((N : Int) - 1)) (by omega) (by omega); have l0 : 0 ≤ ((i : Int) + 1 + y % ((N : Int) - 1)) % (N : Int) := Int.emod_nonneg _ (by omega); have l1 : ((i : Int) + 1 + y % ((N : Int) - 1)) % (N : Int) < N := Int.emod_lt_of_pos _ (by omega); have lt : ((i : Int) + 1 + y % ((N : Int) - 1)).tmod (N : Int) = ((i : Int) + 1 + y % ((N : Int) - 1)) % (N : Int) := Int.tmod_eq_emod_of_nonneg (by omega)))
  obtain ⟨j, hj⟩ : ∃ j : Nat, ((i : Int) + 1 + y % ((N : Int) - 1)) % (N : Int) = j := ⟨(((i : Int) + 1 + y % ((N : Int) - 1)) % (N : Int)).toNat, by omega⟩
  have hjN : j < N := by omega
  have hij : i ≠ j := fun h => mod_other (by omega) (by omega) j0 j1 (hj.trans (by omega))
  rw [hj]
  have hBE4 : Below W2.heap.size W2 w4 := hBE.trans (((below_draws (Below.refl _ w3) 1).trans B4).mono hBE.size)
  have hB4' := hB4
  clear hj j0 j1 jt jw l0 l1 lt hy0 hy1 iw1 iw2 iq1 iq2 iq3 y0 y1 y2 y3 B23 hBE hB3 hBd
  have K : KirNet N e s ws i j := ⟨HG.out, HNET.out, n2, by omega, s1, s3, hiN, hjN, hij⟩
  have hfeed : feedB N e s ws i j = true := by unfold feedB hasB; simp [HNET.out]; omega
  have HK := Lib.hid K; clear K
  have HF := Lib.hid hfeed
  have hp5 := fun w' (h : Below W2.heap.size W2 w') => impl_pots N e s i j _ ws w' (HR.out.later h)
  rw [potsR_yes hfeed] at hp5
  clear hfeed
  obtain ⟨y0, y1, y2, y3⟩ := id hS
  go_wp2_with fail
  refine (hp5 w4 hBE4).mono ?_
  rintro en w5 ⟨v5, rfl, o5, B5⟩
  have rp := ReadsP.of_own o5
  obtain ⟨gp, op, cp, hv5, hgp, hcp⟩ := rp.pos (by simp only [potsK_length]; omega)
  simp only [potsK_length] at hv5
  subst hv5
  have hcp' : ∀ u, u < N → w5.cell? ⟨gp, op + u * 2, none⟩ = some (.int .i64 (potAt N e s ws i j u).1) ∧ w5.cell? ⟨gp, op + u * 2 + 1, none⟩ = some (.int .i64 (potAt N e s ws i j u).2) := fun u hu => by
    have h := hcp u (by simp only [potsK_length]; exact hu)
    rw [potsK_get] at h; exact h
  have HCP := Lib.hid hcp'
  have hBE5 : Below W2.heap.size W2 w5 := hBE4.trans (B5.mono hBE4.size)
  have hB5 : Below w.heap.size w w5 := hB4.trans (B5.mono hB4.size)
  have HB5 := Lib.hid hB5
  have HE5 := Lib.hid hBE5
  have hcpos : (0 : Int) ≤ (cp : Int) := by omega
  clear hp5 hcp hcp' o5 rp B5 y0 y1 y2 y3 hBE4 hB4 hB4' hS B4
  have SZ5 := hBE5.size
  rw [hsW] at SZ5
  have HNB : Hid (∀ X, Below w5.heap.size w5 X → boxN X w1.heap.size N e s (.slice p ws.length cap)) := Lib.hid fun X h => (HBX.out.later HE5.out).below h (by omega)
  obtain ⟨y0, y1, y2, y3⟩ := HNB.out w5 (Below.refl _ _)
  clear hBE5 hB5
  go_wp2
  go_loopw [8] (fun iv wr => ∃ v : Nat, v ≤ N ∧ iv = .int .i64 v ∧ Hid (Below w5.heap.size w5 wr)) (fun iv _ => N - (intOf iv).toNat)
  case atStart => exact ⟨0, Nat.zero_le _, rfl, Lib.hid (by (repeat (first | exact Below.refl _ _ | (refine Below.setCell ?_ (by (first | exact Nat.le_refl _ | omega | (simp <;> omega) | simp)) _) | (refine Below.alloc ?_ (by (first | exact Nat.le_refl _ | omega | (simp <;> omega) | simp)) _) | (refine below_draws ?_ _))))⟩
  case round =>
    clear y0 y1 y2 y3
    obtain ⟨v, hv, rfl, hB⟩ := hrel
    obtain ⟨y0, y1, y2, y3⟩ := HNB.out wr hB.out
    have hsz := hB.out.size
    by_cases hlt : v < N
    · have hz := HK.out.flow_zero v hlt
      obtain ⟨wo, hwo⟩ : ∃ wo, wo = wr := ⟨_, rfl⟩
      subst hwo
      go_wp2
      go_loopw [10] (fun jv wi => ∃ u : Nat, u ≤ N ∧ jv = .int .i64 u ∧ wi.cell? ⟨wo.heap.size, 0, none⟩ = some (.int .i64 (flowAt N e s ws i j v u).1) ∧ wi.cell? ⟨wo.heap.size, 1, none⟩ = some (.int .i64 (flowAt N e s ws i j v u).2) ∧ wi.frozen? ⟨wo.heap.size, 0, none⟩ = false ∧ wi.frozen? ⟨wo.heap.size, 1, none⟩ = false ∧ wo.heap.size < wi.heap.size ∧ Hid (Below wo.heap.size wo wi)) (fun jv _ => N - (intOf jv).toNat)
      case atStart => exact ⟨0, Nat.zero_le _, rfl, by rw [hz]; simp [go_sem], by rw [hz]; simp [go_sem], by simp [go_sem], by simp [go_sem], by simp, Lib.hid (by (repeat (first | exact Below.refl _ _ | (refine Below.setCell ?_ (by (first | exact Nat.le_refl _ | omega | (simp <;> omega) | simp)) _) | (refine Below.alloc ?_ (by (first | exact Nat.le_refl _ | omega | (simp <;> omega) | simp)) _) | (refine below_draws ?_ _))))⟩
      case round =>
        clear y0 y1 y2 y3
        obtain ⟨u, hu, rfl, s0, s1', s2, s3', hso, hBi⟩ := hrel
        have hBw : Below w5.heap.size w5 wr := hB.out.trans (hBi.out.mono hsz)
        obtain ⟨y0, y1, y2, y3⟩ := HNB.out wr hBw
        by_cases hul : u < N
        · have hcur := impl_cur N e s i j v u _ ws wr (HR.out.later (HE5.out.trans (hBw.mono HE5.out.size)))
          rw [curR_yes HF.out hlt hul] at hcur
          go_wp2_with fail
          refine hcur.mono ?_
          rintro en w7 ⟨rfl, B7⟩
          clear hcur
          have S7 := B7.size
          have hBw7 : Below w5.heap.size w5 w7 := hBw.trans (B7.mono hBw.size)
          clear y0 y1 y2 y3
          obtain ⟨y0, y1, y2, y3⟩ := HNB.out w7 hBw7
          obtain ⟨pv0, pv1⟩ := HCP.out v hlt
          obtain ⟨pu0, pu1⟩ := HCP.out u hul
          rw [← hBw7.cell (p := ⟨gp, op + v * 2, none⟩) hgp] at pv0
          rw [← hBw7.cell (p := ⟨gp, op + v * 2 + 1, none⟩) hgp] at pv1
          rw [← hBw7.cell (p := ⟨gp, op + u * 2, none⟩) hgp] at pu0
          rw [← hBw7.cell (p := ⟨gp, op + u * 2 + 1, none⟩) hgp] at pu1
          have hB7w : Below w.heap.size w w7 := HB5.out.trans (hBw7.mono HB5.out.size)
          have hT0 : w7.cell? ⟨w1.heap.size, 0, none⟩ = some (.int .i64 N) ∧ w7.cell? ⟨w1.heap.size, 1, none⟩ = some (.int .i64 e) ∧ w7.cell? ⟨w1.heap.size, 2, none⟩ = some (.int .i64 s) ∧ w7.cell? ⟨w1.heap.size, 3, none⟩ = some (.slice p ws.length cap) ∧ w7.cell? ⟨gp, op + v * 2, none⟩ = some (.int .i64 (potAt N e s ws i j v).1) ∧ w7.cell? ⟨gp, op + v * 2 + 1, none⟩ = some (.int .i64 (potAt N e s ws i j v).2) ∧ w7.cell? ⟨gp, op + u * 2, none⟩ = some (.int .i64 (potAt N e s ws i j u).1) ∧ w7.cell? ⟨gp, op + u * 2 + 1, none⟩ = some (.int .i64 (potAt N e s ws i j u).2) ∧ w.heap.size ≤ w7.heap.size ∧ w.heap.size ≤ w.heap.size ∧ Below w.heap.size w w7 := ⟨y0, y1, y2, y3, pv0, pv1, pu0, pu1, hB7w.size, Nat.le_refl _, hB7w⟩
          obtain ⟨b0, b1, b2, b3, b4, b5, b6, b7, q1, q2, q3⟩ := k8_alloc (o := .cells #[.int .i64 (curAt N e s ws i j v u).1, .int .i64 (curAt N e s ws i j v u).2] 32) hT0
          have hT : (w7.alloc (.cells #[.int .i64 (curAt N e s ws i j v u).1, .int .i64 (curAt N e s ws i j v u).2] 32)).cell? ⟨w1.heap.size, 0, none⟩ = some (.int .i64 N) ∧ (w7.alloc (.cells #[.int .i64 (curAt N e s ws i j v u).1, .int .i64 (curAt N e s ws i j v u).2] 32)).cell? ⟨w1.heap.size, 1, none⟩ = some (.int .i64 e) ∧ (w7.alloc (.cells #[.int .i64 (curAt N e s ws i j v u).1, .int .i64 (curAt N e s ws i j v u).2] 32)).cell? ⟨w1.heap.size, 2, none⟩ = some (.int .i64 s) ∧ (w7.alloc (.cells #[.int .i64 (curAt N e s ws i j v u).1, .int .i64 (curAt N e s ws i j v u).2] 32)).cell? ⟨w1.heap.size, 3, none⟩ = some (.slice p ws.length cap) ∧ (w7.alloc (.cells #[.int .i64 (curAt N e s ws i j v u).1, .int .i64 (curAt N e s ws i j v u).2] 32)).cell? ⟨gp, op + v * 2, none⟩ = some (.int .i64 (potAt N e s ws i j v).1) ∧ (w7.alloc (.cells #[.int .i64 (curAt N e s ws i j v u).1, .int .i64 (curAt N e s ws i j v u).2] 32)).cell? ⟨gp, op + v * 2 + 1, none⟩ = some (.int .i64 (potAt N e s ws i j v).2) ∧ (w7.alloc (.cells #[.int .i64 (curAt N e s ws i j v u).1, .int .i64 (curAt N e s ws i j v u).2] 32)).cell? ⟨gp, op + u * 2, none⟩ = some (.int .i64 (potAt N e s ws i j u).1) ∧ (w7.alloc (.cells #[.int .i64 (curAt N e s ws i j v u).1, .int .i64 (curAt N e s ws i j v u).2] 32)).cell? ⟨gp, op + u * 2 + 1, none⟩ = some (.int .i64 (potAt N e s ws i j u).2) ∧ (w7.alloc (.cells #[.int .i64 (curAt N e s ws i j v u).1, .int .i64 (curAt N e s ws i j v u).2] 32)).cell? ⟨w7.heap.size, 0, none⟩ = some (.int .i64 (curAt N e s ws i j v u).1) ∧ (w7.alloc (.cells #[.int .i64 (curAt N e s ws i j v u).1, .int .i64 (curAt N e s ws i j v u).2] 32)).cell? ⟨w7.heap.size, 1, none⟩ = some (.int .i64 (curAt N e s ws i j v u).2) ∧ w.heap.size ≤ (w7.alloc (.cells #[.int .i64 (curAt N e s ws i j v u).1, .int .i64 (curAt N e s ws i j v u).2] 32)).heap.size ∧ w.heap.size ≤ w.heap.size ∧ Below w.heap.size w (w7.alloc (.cells #[.int .i64 (curAt N e s ws i j v u).1, .int .i64 (curAt N e s ws i j v u).2] 32)) := ⟨b0, b1, b2, b3, b4, b5, b6, b7, by simp [go_sem], by simp [go_sem], q1, q2, q3⟩
          have E0 : Below wr.heap.size wr ((w7.alloc (.cells #[.int .i64 (curAt N e s ws i j v u).1, .int .i64 (curAt N e s ws i j v u).2] 32))).drew := below_draws (B7.alloc B7.size _) 1
          have Vv := ok_in (HK.out.potV v hlt).1
          have Vu := ok_in (HK.out.potV u hul).1
          have hfol := HK.out.follows v u hlt hul
          have Idd := diff_in (potAt N e s ws i j v).1 (potAt N e s ws i j v).2 (potAt N e s ws i j u).1 (potAt N e s ws i j u).2
          obtain ⟨D1, D2, hD⟩ : ∃ D1 D2, rDiff (potAt N e s ws i j v).1 (potAt N e s ws i j v).2 (potAt N e s ws i j u).1 (potAt N e s ws i j u).2 = (D1, D2) := ⟨_, _, rfl⟩
          rw [hD] at hfol Idd
          have Qd := Lib.hid (c_diff hD Vv Vu)
          have Qt := Lib.hid (c_times (n := D1) (d := D2) (x := (curAt N e s ws i j v u).1) (y := (curAt N e s ws i j v u).2) hfol Idd (rOf_in _ _))
          have Qs := Lib.hid (c_sum (x := (flowAt N e s ws i j v (u + 1)).1) (y := (flowAt N e s ws i j v (u + 1)).2) (HK.out.flow_step v u hlt hul) (ok_in (HK.out.flowV v u hlt (by omega)).1) (ok_in (HK.out.curV v u hlt hul).1))
          clear hD hfol
          have hWb := HG.out.btw (by omega) (v : Int) (u : Int)
          have Qw := Lib.hid (fun X (h : Below wr.heap.size wr X) => impl_wBtw N e s v u _ ws X (HR.out.later (HE5.out.trans ((hBw.trans (h.mono hBw.size)).mono HE5.out.size))))
          clear Vv Vu Idd hT0 b0 b1 b2 b3 b4 b5 b6 b7 q1 q2 q3
          obtain ⟨b0, b1, b2, b3, b4, b5, b6, b7, b8, b9, q1, q2, q3⟩ := id hT
          go_wp2
          have hS := k10_drew hT
          clear hT
          go_region_held3 (fun w' => w'.cell? ⟨w1.heap.size, 0, none⟩ = some (.int .i64 N) ∧ w'.cell? ⟨w1.heap.size, 1, none⟩ = some (.int .i64 e) ∧ w'.cell? ⟨w1.heap.size, 2, none⟩ = some (.int .i64 s) ∧ w'.cell? ⟨w1.heap.size, 3, none⟩ = some (.slice p ws.length cap) ∧ w'.cell? ⟨gp, op + v * 2, none⟩ = some (.int .i64 (potAt N e s ws i j v).1) ∧ w'.cell? ⟨gp, op + v * 2 + 1, none⟩ = some (.int .i64 (potAt N e s ws i j v).2) ∧ w'.cell? ⟨gp, op + u * 2, none⟩ = some (.int .i64 (potAt N e s ws i j u).1) ∧ w'.cell? ⟨gp, op + u * 2 + 1, none⟩ = some (.int .i64 (potAt N e s ws i j u).2) ∧ w'.cell? ⟨w7.heap.size, 0, none⟩ = some (.int .i64 (curAt N e s ws i j v u).1) ∧ w'.cell? ⟨w7.heap.size, 1, none⟩ = some (.int .i64 (curAt N e s ws i j v u).2) ∧ w.heap.size ≤ w'.heap.size ∧ w.heap.size ≤ w.heap.size ∧ Below w.heap.size w w')
            (first | exact hS)
            (first
              | (go_at_call 19; with_reducible refine Calls.mono (Qd.out _) ?_; rintro en wa ⟨rfl, Ba⟩; replace hS := k10_keep Ba hS; have E1 := E0.trans (Ba.mono E0.size))
              | (go_at_call 21; with_reducible refine Calls.mono (Qw.out _ E1) ?_; rintro en wb ⟨rfl, Bb⟩; replace hS := k10_keep Bb hS; have E2 := E1.trans (Bb.mono E1.size))
              | (go_at_call 20; with_reducible refine Calls.mono (impl_rOf (wBtw ws (v : Int) (u : Int)) s _ (by omega) (by omega) (by omega) (by omega)) ?_; rintro en wc ⟨rfl, Bc⟩; replace hS := k10_keep Bc hS; have E3 := E2.trans (Bc.mono E2.size))
              | (go_at_call 18; with_reducible refine Calls.mono (Qt.out _) ?_; rintro en wd ⟨rfl, Bd⟩; replace hS := k10_keep Bd hS; have E4 := E3.trans (Bd.mono E3.size)))
          clear y0 y1 y2 y3 pv0 pv1 pu0 pu1 b0 b1 b2 b3 b4 b5 b6 b7 b8 b9 q1 q2 q3
          obtain ⟨b0, b1, b2, b3, b4, b5, b6, b7, b8, b9, q1, q2, q3⟩ := hS
          have hk4 := kept_on (lo := 0) (show Below wr.heap.size wr wd from E4) ⟨s0, s1', s2, s3', hso, Nat.zero_le _⟩
          obtain ⟨t0, t1, t2, t3, t4, -⟩ := id hk4
          go_wp2_with fail
          with_reducible refine Calls.mono (Qs.out _) ?_
          rintro en we ⟨rfl, Be⟩
          replace hk4 := kept_on Be hk4
          clear t0 t1 t2 t3 t4
          obtain ⟨t0, t1, t2, t3, t4, -⟩ := id hk4
          have hput := kept_put (v0 := .int .i64 (flowAt N e s ws i j v (u + 1)).1) (v1 := .int .i64 (flowAt N e s ws i j v (u + 1)).2) hk4
          have hBz := Lib.hid (((hBi.out.trans (E4.mono (by omega))).trans (Be.mono (Nat.le_trans (Nat.le_of_lt hso) E4.size))).setCell (p := ⟨wo.heap.size, 0, none⟩) (Nat.le_refl _) (.int .i64 (flowAt N e s ws i j v (u + 1)).1))
          have hBy := Lib.hid (hBz.out.setCell (p := ⟨wo.heap.size, 1, none⟩) (Nat.le_refl _) (.int .i64 (flowAt N e s ws i j v (u + 1)).2))
          obtain ⟨f0, f1, f2, f3, f4, -⟩ := hput
          have HP := Lib.hid (And.intro f0 (And.intro f1 (And.intro f2 (And.intro f3 f4))))
          clear f0 f1 f2 f3 f4 b0 b1 b2 b3 b4 b5 b6 b7 hBz
          go_wp2
          go_roundw
          case rel => exact ⟨u + 1, by omega, by go_num, HP.out.1, HP.out.2.1, HP.out.2.2.1, HP.out.2.2.2.1, HP.out.2.2.2.2, hBy⟩
          case measure => simp [intOf] <;> omega
        · obtain rfl : u = N := by omega
          have he := HK.out.flow_end v hlt
          have HBO : Hid (Below w5.heap.size w5 wr) := Lib.hid hBw
          by_cases hvi : v = i
          · have q1 : ((v : Int) == (i : Int)) = true := by simp; omega
            have q2 : ((v : Int) == (j : Int)) = false := by simp; omega
            rw [if_pos hvi] at he
            rw [he] at s0 s1'
            clear hvi he
            go_wp2
            go_roundw
            case rel => exact ⟨v + 1, by omega, by go_num, Lib.hid (by have h := HBO.out; (repeat (first | exact Below.refl _ _ | (refine Below.setCell ?_ (by (first | exact Nat.le_refl _ | omega | (simp <;> omega) | simp)) _) | (refine Below.alloc ?_ (by (first | exact Nat.le_refl _ | omega | (simp <;> omega) | simp)) _) | (refine below_draws ?_ _) | exact h | (refine Below.trans ?_ (Below.mono h (by (first | exact Nat.le_refl _ | omega | (simp <;> omega) | simp)))))))⟩
            case measure => simp [intOf] <;> omega
          · rw [if_neg hvi] at he
            have q1 : ((v : Int) == (i : Int)) = false := by simp; omega
            by_cases hvj : v = j
            · have q2 : ((v : Int) == (j : Int)) = true := by simp; omega
              rw [if_pos hvj] at he
              rw [he] at s0 s1'
              clear hvj hvi he
              go_wp2
              go_roundw
              case rel => exact ⟨v + 1, by omega, by go_num, Lib.hid (by have h := HBO.out; (repeat (first | exact Below.refl _ _ | (refine Below.setCell ?_ (by (first | exact Nat.le_refl _ | omega | (simp <;> omega) | simp)) _) | (refine Below.alloc ?_ (by (first | exact Nat.le_refl _ | omega | (simp <;> omega) | simp)) _) | (refine below_draws ?_ _) | exact h | (refine Below.trans ?_ (Below.mono h (by (first | exact Nat.le_refl _ | omega | (simp <;> omega) | simp)))))))⟩
              case measure => simp [intOf] <;> omega
            · have q2 : ((v : Int) == (j : Int)) = false := by simp; omega
              rw [if_neg hvj] at he
              rw [he] at s0 s1'
              clear hvj hvi he
              go_wp2
              go_roundw
              case rel => exact ⟨v + 1, by omega, by go_num, Lib.hid (by have h := HBO.out; (repeat (first | exact Below.refl _ _ | (refine Below.setCell ?_ (by (first | exact Nat.le_refl _ | omega | (simp <;> omega) | simp)) _) | (refine Below.alloc ?_ (by (first | exact Nat.le_refl _ | omega | (simp <;> omega) | simp)) _) | (refine below_draws ?_ _) | exact h | (refine Below.trans ?_ (Below.mono h (by (first | exact Nat.le_refl _ | omega | (simp <;> omega) | simp)))))))⟩
              case measure => simp [intOf] <;> omega
    · obtain rfl : v = N := by omega
      have hres := impl_res v e s i j _ ws wr (HR.out.later (HE5.out.trans (hB.out.mono HE5.out.size)))
      rw [HK.out.at_a] at hres
      go_wp2_with fail
      refine hres.mono ?_
      rintro en w7 ⟨rfl, B7⟩
      clear hres
      have hBw7 : Below w5.heap.size w5 w7 := hB.out.trans (B7.mono hsz)
      obtain ⟨pv0, pv1⟩ := HCP.out i hiN
      obtain ⟨pu0, pu1⟩ := HCP.out j hjN
      rw [HK.out.at_b] at pu0 pu1
      rw [← hBw7.cell (p := ⟨gp, op + i * 2, none⟩) hgp] at pv0
      rw [← hBw7.cell (p := ⟨gp, op + i * 2 + 1, none⟩) hgp] at pv1
      rw [← hBw7.cell (p := ⟨gp, op + j * 2, none⟩) hgp] at pu0
      rw [← hBw7.cell (p := ⟨gp, op + j * 2 + 1, none⟩) hgp] at pu1
      have hB7w : Below w.heap.size w w7 := HB5.out.trans (hBw7.mono HB5.out.size)
      have hA : Below w7.heap.size w7 (w7.alloc (.cells #[.int .i64 (potAt v e s ws i j i).1, .int .i64 (potAt v e s ws i j i).2] 32)) := (Below.refl _ _).alloc (Nat.le_refl _) _
      have hgp7 : gp < w7.heap.size := Nat.lt_of_lt_of_le hgp hBw7.size
      have hT : (w7.alloc (.cells #[.int .i64 (potAt v e s ws i j i).1, .int .i64 (potAt v e s ws i j i).2] 32)).cell? ⟨gp, op + i * 2, none⟩ = some (.int .i64 (potAt v e s ws i j i).1) ∧ (w7.alloc (.cells #[.int .i64 (potAt v e s ws i j i).1, .int .i64 (potAt v e s ws i j i).2] 32)).cell? ⟨gp, op + i * 2 + 1, none⟩ = some (.int .i64 (potAt v e s ws i j i).2) ∧ (w7.alloc (.cells #[.int .i64 (potAt v e s ws i j i).1, .int .i64 (potAt v e s ws i j i).2] 32)).cell? ⟨gp, op + j * 2, none⟩ = some (.int .i64 0) ∧ (w7.alloc (.cells #[.int .i64 (potAt v e s ws i j i).1, .int .i64 (potAt v e s ws i j i).2] 32)).cell? ⟨gp, op + j * 2 + 1, none⟩ = some (.int .i64 1) ∧ (w7.alloc (.cells #[.int .i64 (potAt v e s ws i j i).1, .int .i64 (potAt v e s ws i j i).2] 32)).cell? ⟨w7.heap.size, 0, none⟩ = some (.int .i64 (potAt v e s ws i j i).1) ∧ (w7.alloc (.cells #[.int .i64 (potAt v e s ws i j i).1, .int .i64 (potAt v e s ws i j i).2] 32)).cell? ⟨w7.heap.size, 1, none⟩ = some (.int .i64 (potAt v e s ws i j i).2) ∧ w.heap.size ≤ (w7.alloc (.cells #[.int .i64 (potAt v e s ws i j i).1, .int .i64 (potAt v e s ws i j i).2] 32)).heap.size ∧ w.heap.size ≤ w.heap.size ∧ Below w.heap.size w (w7.alloc (.cells #[.int .i64 (potAt v e s ws i j i).1, .int .i64 (potAt v e s ws i j i).2] 32)) := ⟨(hA.cell (p := ⟨gp, op + i * 2, none⟩) hgp7).trans pv0, (hA.cell (p := ⟨gp, op + i * 2 + 1, none⟩) hgp7).trans pv1, (hA.cell (p := ⟨gp, op + j * 2, none⟩) hgp7).trans pu0, (hA.cell (p := ⟨gp, op + j * 2 + 1, none⟩) hgp7).trans pu1, by simp [go_sem], by simp [go_sem], by (have h1 := hB7w.size; have h2 := hA.size; omega), Nat.le_refl _, hB7w.trans (hA.mono hB7w.size)⟩
      clear y0 y1 y2 y3
      go_wp2
      have hS := k6_drew hT
      go_region_held3 (fun w' => w'.cell? ⟨gp, op + i * 2, none⟩ = some (.int .i64 (potAt v e s ws i j i).1) ∧ w'.cell? ⟨gp, op + i * 2 + 1, none⟩ = some (.int .i64 (potAt v e s ws i j i).2) ∧ w'.cell? ⟨gp, op + j * 2, none⟩ = some (.int .i64 0) ∧ w'.cell? ⟨gp, op + j * 2 + 1, none⟩ = some (.int .i64 1) ∧ w'.cell? ⟨w7.heap.size, 0, none⟩ = some (.int .i64 (potAt v e s ws i j i).1) ∧ w'.cell? ⟨w7.heap.size, 1, none⟩ = some (.int .i64 (potAt v e s ws i j i).2) ∧ w.heap.size ≤ w'.heap.size ∧ w.heap.size ≤ w.heap.size ∧ Below w.heap.size w w')
        (first | exact hS)
        (fail)
      all_goals
        go_wp2
        go_ret
        exact ⟨rfl, hS.2.2.2.2.2.2.2.2⟩
theorem own : ownKnob Try.prog.godebug = none := by kernel_rfl
theorem laidOut : laidOutB Try.prog = true := by kernel_rfl
set_option maxRecDepth 100000 in
theorem lifted (os : Os) (started : os.Started) (H : Type) (enc : TypeId × Value → H) :
    ReturnsInHanded {} Try.checked os 3 .any (Rows.fnKirchhoffSpec.pre6 enc Try.prog Try.f3 Rows.fnKirchhoffRow.domain false) (Rows.fnKirchhoffSpec.post enc Try.prog Try.f3 false true false false) := by
  refine returnsInHanded_of_change (C := Try.checked) own started (by kernel_rfl) Try.func3
    (ChangeSpec.witness6 (enc := enc) (C := Try.checked) false ⟨#[], #[.slice none 0 0], []⟩ 8 (by kernel_rfl) (by kernel_rfl) (by kernel_rfl) (by kernel_rfl)) ?_
  intro W base args ds gs before hval0 hW hcnd _
  have hval : ∀ (j : Nat) t v, Try.f3.params[j]? = some t → args[j]? = some v → Value.okWide Try.prog W .any base t v := hval0
  have hW' := hW
  obtain ⟨p, q, hA0, hV, rfl, hfz, hnd⟩ := hW
  have hA : DataW.TrodAll enc Try.prog W 0 (fun _ => true) true Try.f3.params.toList args.toList ds p := hA0
  rw [Try.params3] at hA hval
  obtain ⟨v0, d0, rfl, rfl, h0⟩ := trodAll_one hA
  obtain ⟨rfl, rfl⟩ := trodVars_none hV
  obtain ⟨a0, n0, c0, rfl⟩ := okWide_slice Try.underlying22 (hval 0 22 v0 rfl rfl)
  have wx0 := open_bytes Try.underlying22 Try.underlying5 (by kernel_rfl) h0
  clear hA0 hval0
  simp only [List.append_nil] at hW'
  refine (walk (.slice a0 n0 c0) n0 W wx0).mono fun e W' ⟨he, hB⟩ => ?_
  subst he
  refine ⟨_, rfl, _, _, _, [], (p), [], hW', ?_, ?_, ?_, hB.frame _, fun h => by cases h⟩
  · exact trodAll_mk1 (shut_bool Try.underlying4 true)
  · exact trodAll_mk1 (Below.trod laidOut (by kernel_rfl) (of_decide_eq_true (by kernel_rfl)) h0 hB (fun x hx => hW'.lt x (by simp [hx])))
  · rfl

theorem holds : Rows.FnKirchhoffSaid :=
  OpenClaim.holds_of_wide 3 Try.f3 rfl rfl rfl rfl rfl rfl rfl ⟨rfl, rfl, rfl, rfl, rfl⟩ rfl rfl rfl rfl rfl (by kernel_rfl) Try.func3 (by kernel_rfl)
    (of_decide_eq_true (by kernel_rfl)) (by unfold Func.isWrapper; first | (rw [if_pos (by decide +kernel)]; kernel_rfl) | (rw [if_neg (by decide +kernel)]; exact ⟨rfl, rfl⟩))
    (fun os started H enc _ => lifted os started H enc)
end FnKirchhoffLaw
end Go.Proofs.Ytpkddaapffamiaa
