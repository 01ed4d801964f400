/-
  FnSwitched: for every code the resistances of a small network are symmetric, 0 only between equal nodes and never more than the way round, and the potential at one node for a current at another one is the same the other way round. No condition.
-/
import Derived.Test.YtaececpphdaciaaRows
import Derived.Test.YtaececpphdaciaaMakeRatio
import Derived.Test.YtaececpphdaciaaMakeNetTop
import Derived.Test.YtaececpphdaciaaSwitchMath
import Derived.Test.YtaececpphdaciaaPotsImpl
import Derived.Test.YtaececpphdaciaaKept
import Derived.Test.YtaececpphdaciaaBox2
import Derived.Deep.RegionHeld3
import Derived.Laws.StructEq
namespace Go.Proofs.Ytaececpphdaciaa
open Go.ChangeShapes Go.WideShapes Go.ChangeAt Go.RowKit

namespace FnSwitchedLaw
set_option maxRecDepth 8000 in
set_option maxHeartbeats 12800000 in
theorem walk (v : Value) (k : Nat) (w : World) (hv : BytesAt w v k) :
    Calls Try.prog 4 #[v] w fun en w' => en = .returned (.bool true) ∧ Below w.heap.size w w' := by
  obtain ⟨a0, cap0, rfl⟩ : ∃ a0 cap, v = .slice a0 k cap := by
    rcases hv.2 with ⟨rfl, p, cap, rfl⟩ | ⟨g, o, cap, rfl, _⟩
    · exact ⟨_, _, rfl⟩
    · exact ⟨_, _, rfl⟩
  have hnm := hv.1
  by_cases hb : 1048576 < k
  · go_enter Try.func4, Try.ntmps4
    go_wp2
    go_ret
    exact ⟨rfl, Below.refl _ _⟩
  have hk : k ≤ 1048576 := by omega
  have hat := fun (w' : World) (h : Below w.heap.size w w') => hv.on h
  have HAT := Lib.hid hat; clear hat
  go_enter Try.func4, Try.ntmps4
  go_wp2_with fail
  refine (makeNet_any _ k _ (HAT.out _ (Below.refl _ _)) hk).mono ?_
  rintro en w1 ⟨N, e, s, p, cap, ws, rfl, ⟨n2, n5, e1, e2, s1, s3⟩, hgood, hlen, o1, B1⟩
  have S1 := B1.size
  obtain ⟨W2, hW2⟩ : ∃ W2, W2 = w1.alloc (.cells #[.int .i64 N, .int .i64 e, .int .i64 s, .slice p ws.length cap] 25) := ⟨_, rfl⟩
  have hsW : W2.heap.size = w1.heap.size + 1 := by rw [hW2]; simp
  have hbox : boxN W2 w1.heap.size N e s (.slice p ws.length cap) := by rw [hW2]; exact boxN.new w1 N e s _ 25
  have hB12 : Below w1.heap.size w1 W2 := by rw [hW2]; exact (Below.refl _ _).alloc (Nat.le_refl _) _
  have hB2 : Below w.heap.size w W2 := B1.trans (hB12.mono S1)
  have hrd : ReadsW W2 (.slice p ws.length cap) ws := (ReadsW.of_own o1).later hB12
  have hnet := hgood.net (e := e) (s := s) (by omega) (by omega) (by omega) (by omega) e2 s1 (by omega)
  have HG := Lib.hid hgood; have HNET := Lib.hid hnet; have HR := Lib.hid hrd; have HBX := Lib.hid hbox
  clear hgood hnet o1 hrd hB12 B1
  have hN0 : ((N : Int) == 0) = false := by simp; omega
  have iqn : ¬ N = 0 := by omega
  have hS : W2.drew.cell? ⟨w1.heap.size, 0, none⟩ = some (.int .i64 N) ∧ W2.drew.cell? ⟨w1.heap.size, 1, none⟩ = some (.int .i64 e) ∧ W2.drew.cell? ⟨w1.heap.size, 2, none⟩ = some (.int .i64 s) ∧ W2.drew.cell? ⟨w1.heap.size, 3, none⟩ = some (.slice p ws.length cap) := hbox
  obtain ⟨x0, x1, x2, x3⟩ := hbox
  have hBE : Below W2.heap.size W2 W2 := Below.refl _ _
  have hBd : Below w.heap.size w W2.drew := below_draws hB2 1
  go_wp2
  rw [← hW2]
  clear hW2 x0 x1 x2 x3
  obtain ⟨y0, y1, y2, y3⟩ := id hS
  go_region_held3 (fun w' => w'.cell? ⟨w1.heap.size, 0, none⟩ = some (.int .i64 N) ∧ w'.cell? ⟨w1.heap.size, 1, none⟩ = some (.int .i64 e) ∧ w'.cell? ⟨w1.heap.size, 2, none⟩ = some (.int .i64 s) ∧ w'.cell? ⟨w1.heap.size, 3, none⟩ = some (.slice p ws.length cap))
    (first | exact hS)
    (first | (go_at_call 14; refine (makeNum_any _ k 30 30 rfl (by omega) W2.drew (HAT.out _ hBd) hk).mono ?_; rintro en w3 ⟨⟨x, rfl, hx0, hx1⟩, B3⟩; replace hS := four_keep B3 hS; have hBn := hBd.trans (B3.mono hBd.size); have hBEn : Below W2.heap.size W2 w3 := hBE.trans (((below_draws (Below.refl _ W2) 1).trans B3).mono hBE.size); have i0 : 0 ≤ x % (N : Int) := Int.emod_nonneg _ (by omega); have i1 : x % (N : Int) < N := Int.emod_lt_of_pos _ (by omega); have it : x.tmod (N : Int) = x % (N : Int) := Int.tmod_eq_emod_of_nonneg hx0; have iw := wrap_in (x := x % (N : Int)) (by omega) (by omega); have iq : ¬ (N : Int) = 0 := by omega))
  obtain ⟨i, hi⟩ : ∃ i : Nat, x % (N : Int) = i := ⟨(x % (N : Int)).toNat, by omega⟩
  have hiN : i < N := by omega
  rw [hi]
  clear hi i0 i1 it iw iq hx0 hx1 B3 hBd y0 y1 y2 y3 hBE
  have hB := hBn
  have hBE := hBEn
  clear hBn hBEn
  obtain ⟨y0, y1, y2, y3⟩ := id hS
  have hBd : Below w.heap.size w w3.drew := below_draws hB 1
  go_wp2
  go_region_held3 (fun w' => w'.cell? ⟨w1.heap.size, 0, none⟩ = some (.int .i64 N) ∧ w'.cell? ⟨w1.heap.size, 1, none⟩ = some (.int .i64 e) ∧ w'.cell? ⟨w1.heap.size, 2, none⟩ = some (.int .i64 s) ∧ w'.cell? ⟨w1.heap.size, 3, none⟩ = some (.slice p ws.length cap))
    (first | exact hS)
    (first | (go_at_call 14; refine (makeNum_any _ k 32 32 rfl (by omega) w3.drew (HAT.out _ hBd) hk).mono ?_; rintro en w4 ⟨⟨x, rfl, hx0, hx1⟩, B3⟩; replace hS := four_keep B3 hS; have hBn := hBd.trans (B3.mono hBd.size); have hBEn : Below W2.heap.size W2 w4 := hBE.trans (((below_draws (Below.refl _ w3) 1).trans B3).mono hBE.size); have i0 : 0 ≤ x % (N : Int) := Int.emod_nonneg _ (by omega); have i1 : x % (N : Int) < N := Int.emod_lt_of_pos _ (by omega); have it : x.tmod (N : Int) = x % (N : Int) := Int.tmod_eq_emod_of_nonneg hx0; have iw := wrap_in (x := x % (N : Int)) (by omega) (by omega); have iq : ¬ (N : Int) = 0 := by omega))
  obtain ⟨j, hj⟩ : ∃ j : Nat, x % (N : Int) = j := ⟨(x % (N : Int)).toNat, by omega⟩
  have hjN : j < N := by omega
  rw [hj]
  clear hj i0 i1 it iw iq hx0 hx1 B3 hBd y0 y1 y2 y3 hBE hB
  have hB := hBn
  have hBE := hBEn
  clear hBn hBEn
  obtain ⟨y0, y1, y2, y3⟩ := id hS
  have hBd : Below w.heap.size w w4.drew := below_draws hB 1
  go_wp2
  go_region_held3 (fun w' => w'.cell? ⟨w1.heap.size, 0, none⟩ = some (.int .i64 N) ∧ w'.cell? ⟨w1.heap.size, 1, none⟩ = some (.int .i64 e) ∧ w'.cell? ⟨w1.heap.size, 2, none⟩ = some (.int .i64 s) ∧ w'.cell? ⟨w1.heap.size, 3, none⟩ = some (.slice p ws.length cap))
    (first | exact hS)
    (first | (go_at_call 14; refine (makeNum_any _ k 34 34 rfl (by omega) w4.drew (HAT.out _ hBd) hk).mono ?_; rintro en w5 ⟨⟨x, rfl, hx0, hx1⟩, B3⟩; replace hS := four_keep B3 hS; have hBn := hBd.trans (B3.mono hBd.size); have hBEn : Below W2.heap.size W2 w5 := hBE.trans (((below_draws (Below.refl _ w4) 1).trans B3).mono hBE.size); have i0 : 0 ≤ x % (N : Int) := Int.emod_nonneg _ (by omega); have i1 : x % (N : Int) < N := Int.emod_lt_of_pos _ (by omega); have it : x.tmod (N : Int) = x % (N : Int) := Int.tmod_eq_emod_of_nonneg hx0; have iw := wrap_in (x := x % (N : Int)) (by omega) (by omega); have iq : ¬ (N : Int) = 0 := by omega))
  obtain ⟨c, hc⟩ : ∃ c : Nat, x % (N : Int) = c := ⟨(x % (N : Int)).toNat, by omega⟩
  have hcN : c < N := by omega
  rw [hc]
  clear hc i0 i1 it iw iq hx0 hx1 B3 hBd y0 y1 y2 y3 hBE hB
  have hB := hBn
  have hBE := hBEn
  clear hBn hBEn
  have SZ := hBE.size
  rw [hsW] at SZ
  have HB := Lib.hid hB
  have HE := Lib.hid hBE
  have HNB : Hid (∀ X, Below w5.heap.size w5 X → boxN X w1.heap.size N e s (.slice p ws.length cap)) := Lib.hid fun X h => (HBX.out.later HE.out).below h (by omega)
  have HRR : Hid (∀ X, Below w5.heap.size w5 X → ReadsW X (.slice p ws.length cap) ws) := Lib.hid fun X h => HR.out.later (HE.out.trans (h.mono HE.out.size))
  clear hS hB hBE HBX
  have hz1 := res_zero HNET.out i j hiN hjN
  have hz2 := gap_sign HNET.out i c j hiN hcN hjN
  have HR1 : Hid (∀ X, Below w5.heap.size w5 X → Calls Try.prog 23 #[.agg #[.int .i64 N, .int .i64 e, .int .i64 s, .slice p ws.length cap], .int .i64 i, .int .i64 j] X fun en w' => en = .returned (.tuple #[.agg #[.int .i64 (resR N e s ws i j).1, .int .i64 (resR N e s ws i j).2.1], .bool (resR N e s ws i j).2.2]) ∧ Below X.heap.size X w') := Lib.hid (fun X h => impl_res N e s i j _ ws X (HRR.out X h))
  have HR2 : Hid (∀ X, Below w5.heap.size w5 X → Calls Try.prog 23 #[.agg #[.int .i64 N, .int .i64 e, .int .i64 s, .slice p ws.length cap], .int .i64 j, .int .i64 i] X fun en w' => en = .returned (.tuple #[.agg #[.int .i64 (resR N e s ws i j).1, .int .i64 (resR N e s ws i j).2.1], .bool (resR N e s ws i j).2.2]) ∧ Below X.heap.size X w') := Lib.hid (fun X h => by rw [resR_comm (a := (i : Int))]; exact impl_res N e s j i _ ws X (HRR.out X h))
  have HR3 : Hid (∀ X, Below w5.heap.size w5 X → Calls Try.prog 24 #[.agg #[.int .i64 N, .int .i64 e, .int .i64 s, .slice p ws.length cap], .int .i64 i, .int .i64 c, .int .i64 j] X fun en w' => en = .returned (.tuple #[.agg #[.int .i64 (gapR N e s ws i c j).1, .int .i64 (gapR N e s ws i c j).2.1], .bool (gapR N e s ws i c j).2.2]) ∧ Below X.heap.size X w') := Lib.hid (fun X h => impl_gap N e s i c j _ ws X (HRR.out X h))
  obtain ⟨hz1, hz1b⟩ := hz1
  obtain ⟨hz2, hz3, hz2b⟩ := hz2
  rw [hz1b] at HR1 HR2
  rw [hz2b] at HR3
  generalize (resR N e s ws i j).1 = P1 at *
  generalize (resR N e s ws i j).2.1 = P2 at *
  generalize (gapR N e s ws i c j).1 = G1 at *
  generalize (gapR N e s ws i c j).2.1 = G2 at *
  have HZ1 := Lib.hid hz1; have HZ2 := Lib.hid hz2; have HZ3 := Lib.hid hz3
  clear hz1 hz2 hz3 hz1b hz2b
  obtain ⟨y0, y1, y2, y3⟩ := HNB.out w5 (Below.refl _ _)
  go_wp2_with fail
  with_reducible refine Calls.mono (HR1.out _ (Below.refl _ _)) ?_
  rintro en w6 ⟨rfl, B6⟩
  clear y0 y1 y2 y3
  have C6 : Hid (Below w5.heap.size w5 (w6.alloc (.cells #[.int .i64 P1, .int .i64 P2] 43))) := Lib.hid (B6.alloc B6.size _)
  have X6 : Hid (box2 (w6.alloc (.cells #[.int .i64 P1, .int .i64 P2] 43)) w6.heap.size (.int .i64 P1) (.int .i64 P2)) := Lib.hid (box2.new _ _ _ _)
  obtain ⟨y0, y1, y2, y3⟩ := HNB.out _ C6.out
  clear B6
  go_wp2_with fail
  with_reducible refine Calls.mono (HR2.out _ C6.out) ?_
  rintro en w7 ⟨rfl, B7⟩
  clear y0 y1 y2 y3
  have C7 : Hid (Below w5.heap.size w5 (w7.alloc (.cells #[.int .i64 P1, .int .i64 P2] 43))) := Lib.hid ((C6.out.trans (B7.mono C6.out.size)).alloc (C6.out.trans (B7.mono C6.out.size)).size _)
  have Y6 : Hid (box2 (w7.alloc (.cells #[.int .i64 P1, .int .i64 P2] 43)) w6.heap.size (.int .i64 P1) (.int .i64 P2)) := Lib.hid ((X6.out.later B7).alloc _)
  have Y7 : Hid (box2 (w7.alloc (.cells #[.int .i64 P1, .int .i64 P2] 43)) w7.heap.size (.int .i64 P1) (.int .i64 P2)) := Lib.hid (box2.new _ _ _ _)
  obtain ⟨y0, y1, y2, y3⟩ := HNB.out _ C7.out
  clear B7 X6 C6
  go_wp2_with fail
  with_reducible refine Calls.mono (HR3.out _ C7.out) ?_
  rintro en w8 ⟨rfl, B8⟩
  clear y0 y1 y2 y3
  have C8 : Hid (Below w5.heap.size w5 (w8.alloc (.cells #[.int .i64 G1, .int .i64 G2] 43))) := Lib.hid ((C7.out.trans (B8.mono C7.out.size)).alloc (C7.out.trans (B8.mono C7.out.size)).size _)
  have Z6 := (Y6.out.later B8).alloc (.cells #[.int .i64 G1, .int .i64 G2] 43)
  have Z7 := (Y7.out.later B8).alloc (.cells #[.int .i64 G1, .int .i64 G2] 43)
  have Z8 := box2.new w8 (.int .i64 G1) (.int .i64 G2) 43
  obtain ⟨r0, r1, -, -, -⟩ := Z6
  obtain ⟨t0, t1, -, -, -⟩ := Z7
  obtain ⟨g0, g1, -, -, -⟩ := Z8
  have HB8 : Hid (Below w.heap.size w (w8.alloc (.cells #[.int .i64 G1, .int .i64 G2] 43))) := Lib.hid (HB.out.trans (C8.out.mono HB.out.size))
  have hG1 : ¬ G1 < 0 := by have := HZ2.out; omega
  clear B8 Y6 Y7 C7 HR1 HR2 HR3
  by_cases hij : i = j
  · have hp : (P1 == 0) = true := by simpa using HZ1.out.2 hij
    subst hij
    clear HZ1 HZ2
    by_cases hic : i = c
    · have hg : G1 = 0 := HZ3.out (.inl hic)
      have hg' : (G1 == 0) = true := by simpa using hg
      have hic' : ((i : Int) == (c : Int)) = true := by simp; omega
      clear hg hic HZ3
      go_wp2
      go_ret
      exact ⟨rfl, HB8.out⟩
    have hic' : ((i : Int) == (c : Int)) = false := by simp; omega
    have hjc := hic
    have hf1 : feedB N e s ws i c = true := by unfold feedB hasB; simp [HNET.out]; omega
    have hp1 := fun X (h : Below w5.heap.size w5 X) => impl_pots N e s i c _ ws X (HRR.out X h)
    rw [potsR_yes hf1] at hp1
    have HP1 := Lib.hid hp1
    clear hf1 hp1
    have hf2 : feedB N e s ws i c = true := by unfold feedB hasB; simp [HNET.out]; omega
    have hp2 := fun X (h : Below w5.heap.size w5 X) => impl_pots N e s i c _ ws X (HRR.out X h)
    rw [potsR_yes hf2] at hp2
    have HP2 := Lib.hid hp2
    clear hf2 hp2
    have HSW := Lib.hid (pot_switch HNET.out i i c hiN hjN hcN hic hjc)
    clear hic hjc HZ3
    obtain ⟨y0, y1, y2, y3⟩ := HNB.out _ C8.out
    go_wp2_with fail
    refine (HP1.out _ C8.out).mono ?_
    rintro en w9 ⟨v9, rfl, o9, B9⟩
    clear y0 y1 y2 y3 r0 r1 t0 t1 g0 g1
    have C9 : Hid (Below w5.heap.size w5 w9) := Lib.hid (C8.out.trans (B9.mono C8.out.size))
    have rp9 := ReadsP.of_own o9
    obtain ⟨y0, y1, y2, y3⟩ := HNB.out _ C9.out
    clear B9 o9 HP1 HB8 C8
    go_wp2_with fail
    refine (HP2.out _ C9.out).mono ?_
    rintro en wa ⟨va, rfl, oa, Ba⟩
    clear y0 y1 y2 y3
    have Ca : Hid (Below w5.heap.size w5 wa) := Lib.hid (C9.out.trans (Ba.mono C9.out.size))
    have rpa := ReadsP.of_own oa
    replace rp9 := rp9.later Ba
    obtain ⟨y0, y1, y2, y3⟩ := HNB.out _ Ca.out
    obtain ⟨gp, op, cp, hvp, hgp, hcp⟩ := rp9.pos (by simp only [potsK_length]; omega)
    simp only [potsK_length] at hvp
    subst hvp
    obtain ⟨cp0, cp1⟩ := hcp i (by simp only [potsK_length]; omega)
    simp only [potsK_get] at cp0 cp1
    obtain ⟨gq, oq, cq, hvq, hgq, hcq⟩ := rpa.pos (by simp only [potsK_length]; omega)
    simp only [potsK_length] at hvq
    subst hvq
    obtain ⟨cq0, cq1⟩ := hcq i (by simp only [potsK_length]; omega)
    simp only [potsK_get] at cq0 cq1
    generalize (potAt N e s ws i c i).1 = A1 at *
    generalize (potAt N e s ws i c i).2 = A2 at *
    have hB9 : Below w.heap.size w wa := HB.out.trans (Ca.out.mono HB.out.size)
    have ji1 : (i : Int) < (N : Int) := by omega
    have ii1 : (i : Int) < (N : Int) := by omega
    clear hcp hcq rp9 rpa oa Ba C9 Ca HP2 HSW HNB HRR HB
    go_wp2
    go_quiet (fail)
    go_wp2
    go_ret
    exact ⟨rfl, by (repeat (first | exact Below.refl _ _ | (refine Below.setCell ?_ (by (first | exact Nat.le_refl _ | omega | (simp <;> omega) | simp)) _) | (refine Below.alloc ?_ (by (first | exact Nat.le_refl _ | omega | (simp <;> omega) | simp)) _) | (refine below_draws ?_ _) | exact hB9 | (refine Below.trans ?_ (Below.mono hB9 (by (first | exact Nat.le_refl _ | omega | (simp <;> omega) | simp))))))⟩
  · have hp : (P1 == 0) = false := by rw [beq_eq_false_iff_ne]; exact fun h => hij (HZ1.out.1 h)
    have hij' : ((i : Int) == (j : Int)) = false := by simp; omega
    clear hij HZ1 HZ2
    by_cases hic : i = c
    · have hg : G1 = 0 := HZ3.out (.inl hic)
      have hg' : (G1 == 0) = true := by simpa using hg
      have hic' : ((i : Int) == (c : Int)) = true := by simp; omega
      clear hg hic HZ3
      go_wp2
      go_ret
      exact ⟨rfl, HB8.out⟩
    have hic' : ((i : Int) == (c : Int)) = false := by simp; omega
    by_cases hjc : j = c
    · have hg : G1 = 0 := HZ3.out (.inr hjc.symm)
      have hg' : (G1 == 0) = true := by simpa using hg
      have hjc' : ((j : Int) == (c : Int)) = true := by simp; omega
      clear hg hic hjc HZ3
      go_wp2
      go_ret
      exact ⟨rfl, HB8.out⟩
    have hjc' : ((j : Int) == (c : Int)) = false := by simp; omega
    have hf1 : feedB N e s ws i c = true := by unfold feedB hasB; simp [HNET.out]; omega
    have hp1 := fun X (h : Below w5.heap.size w5 X) => impl_pots N e s i c _ ws X (HRR.out X h)
    rw [potsR_yes hf1] at hp1
    have HP1 := Lib.hid hp1
    clear hf1 hp1
    have hf2 : feedB N e s ws j c = true := by unfold feedB hasB; simp [HNET.out]; omega
    have hp2 := fun X (h : Below w5.heap.size w5 X) => impl_pots N e s j c _ ws X (HRR.out X h)
    rw [potsR_yes hf2] at hp2
    have HP2 := Lib.hid hp2
    clear hf2 hp2
    have HSW := Lib.hid (pot_switch HNET.out i j c hiN hjN hcN hic hjc)
    clear hic hjc HZ3
    obtain ⟨y0, y1, y2, y3⟩ := HNB.out _ C8.out
    go_wp2_with fail
    refine (HP1.out _ C8.out).mono ?_
    rintro en w9 ⟨v9, rfl, o9, B9⟩
    clear y0 y1 y2 y3 r0 r1 t0 t1 g0 g1
    have C9 : Hid (Below w5.heap.size w5 w9) := Lib.hid (C8.out.trans (B9.mono C8.out.size))
    have rp9 := ReadsP.of_own o9
    obtain ⟨y0, y1, y2, y3⟩ := HNB.out _ C9.out
    clear B9 o9 HP1 HB8 C8
    go_wp2_with fail
    refine (HP2.out _ C9.out).mono ?_
    rintro en wa ⟨va, rfl, oa, Ba⟩
    clear y0 y1 y2 y3
    have Ca : Hid (Below w5.heap.size w5 wa) := Lib.hid (C9.out.trans (Ba.mono C9.out.size))
    have rpa := ReadsP.of_own oa
    replace rp9 := rp9.later Ba
    obtain ⟨y0, y1, y2, y3⟩ := HNB.out _ Ca.out
    obtain ⟨gp, op, cp, hvp, hgp, hcp⟩ := rp9.pos (by simp only [potsK_length]; omega)
    simp only [potsK_length] at hvp
    subst hvp
    obtain ⟨cp0, cp1⟩ := hcp j (by simp only [potsK_length]; omega)
    simp only [potsK_get] at cp0 cp1
    obtain ⟨gq, oq, cq, hvq, hgq, hcq⟩ := rpa.pos (by simp only [potsK_length]; omega)
    simp only [potsK_length] at hvq
    subst hvq
    obtain ⟨cq0, cq1⟩ := hcq i (by simp only [potsK_length]; omega)
    simp only [potsK_get] at cq0 cq1
    rw [HSW.out] at cp0 cp1
    generalize (potAt N e s ws j c i).1 = A1 at *
    generalize (potAt N e s ws j c i).2 = A2 at *
    have hB9 : Below w.heap.size w wa := HB.out.trans (Ca.out.mono HB.out.size)
    have ji1 : (j : Int) < (N : Int) := by omega
    have ii1 : (i : Int) < (N : Int) := by omega
    clear hcp hcq rp9 rpa oa Ba C9 Ca HP2 HSW HNB HRR HB
    go_wp2
    go_quiet (fail)
    go_wp2
    go_ret
    exact ⟨rfl, by (repeat (first | exact Below.refl _ _ | (refine Below.setCell ?_ (by (first | exact Nat.le_refl _ | omega | (simp <;> omega) | simp)) _) | (refine Below.alloc ?_ (by (first | exact Nat.le_refl _ | omega | (simp <;> omega) | simp)) _) | (refine below_draws ?_ _) | exact hB9 | (refine Below.trans ?_ (Below.mono hB9 (by (first | exact Nat.le_refl _ | omega | (simp <;> omega) | simp))))))⟩

theorem own : ownKnob Try.prog.godebug = none := by kernel_rfl
theorem laidOut : laidOutB Try.prog = true := by kernel_rfl
set_option maxRecDepth 100000 in
theorem lifted (os : Os) (started : os.Started) (H : Type) (enc : TypeId × Value → H) :
    ReturnsInHanded {} Try.checked os 4 .any (Rows.fnSwitchedSpec.pre6 enc Try.prog Try.f4 Rows.fnSwitchedRow.domain false) (Rows.fnSwitchedSpec.post enc Try.prog Try.f4 false true false false) := by
  refine returnsInHanded_of_change (C := Try.checked) own started (by kernel_rfl) Try.func4
    (ChangeSpec.witness6 (enc := enc) (C := Try.checked) false ⟨#[], #[.slice none 0 0], []⟩ 8 (by kernel_rfl) (by kernel_rfl) (by kernel_rfl) (by kernel_rfl)) ?_
  intro W base args ds gs before hval0 hW hcnd _
  have hval : ∀ (j : Nat) t v, Try.f4.params[j]? = some t → args[j]? = some v → Value.okWide Try.prog W .any base t v := hval0
  have hW' := hW
  obtain ⟨p, q, hA0, hV, rfl, hfz, hnd⟩ := hW
  have hA : DataW.TrodAll enc Try.prog W 0 (fun _ => true) true Try.f4.params.toList args.toList ds p := hA0
  rw [Try.params4] at hA hval
  obtain ⟨v0, d0, rfl, rfl, h0⟩ := trodAll_one hA
  obtain ⟨rfl, rfl⟩ := trodVars_none hV
  obtain ⟨a0, n0, c0, rfl⟩ := okWide_slice Try.underlying22 (hval 0 22 v0 rfl rfl)
  have wx0 := open_bytes Try.underlying22 Try.underlying5 (by kernel_rfl) h0
  clear hA0 hval0
  simp only [List.append_nil] at hW'
  refine (walk (.slice a0 n0 c0) n0 W wx0).mono fun e W' ⟨he, hB⟩ => ?_
  subst he
  refine ⟨_, rfl, _, _, _, [], (p), [], hW', ?_, ?_, ?_, hB.frame _, fun h => by cases h⟩
  · exact trodAll_mk1 (shut_bool Try.underlying4 true)
  · exact trodAll_mk1 (Below.trod laidOut (by kernel_rfl) (of_decide_eq_true (by kernel_rfl)) h0 hB (fun x hx => hW'.lt x (by simp [hx])))
  · rfl

theorem q0 : Try.checked.prog.funcNamed Rows.fnSwitchedRow.func = some 4 := by kernel_rfl
theorem q1 : (Rows.fnSwitchedRow.inPlace == Try.prog.inPlace 4) = true := by kernel_rfl
theorem q2 : (Rows.fnSwitchedRow.unfollowed == Try.prog.unfollowed 4) = true := by kernel_rfl
theorem q3 : (Rows.fnSwitchedRow.recurses == Try.prog.recurses 4) = true := by kernel_rfl
theorem q4 : (Rows.fnSwitchedRow.named == Try.prog.varsNamed 4) = true := by kernel_rfl
theorem q5 : (Rows.fnSwitchedRow.plainKeys == Try.prog.plainKeys) = true := by kernel_rfl
theorem q6 : laidOutB Try.prog = true := by kernel_rfl
theorem q7 : mapsRowed Try.prog = true := by kernel_rfl
theorem q8 : namedTie Try.prog Rows.fnSwitchedRow.named Rows.fnSwitchedSpec.vars = true := by kernel_rfl
theorem closedFacts : joinedFacts Try.prog 4 Try.f4 Rows.fnSwitchedSpec Rows.fnSwitchedRow = true := by
  unfold joinedFacts
  simp only [Bool.and_eq_true]
  repeat' apply And.intro
  all_goals first | with_reducible exact q1 | with_reducible exact q2 | with_reducible exact q3 | with_reducible exact q4 | with_reducible exact q5 | with_reducible exact q6 | with_reducible exact q7 | with_reducible exact q8 | kernel_rfl

theorem holds : Rows.FnSwitchedSaid :=
  OpenClaim.holds_of_wide 4 Try.f4 rfl rfl rfl rfl rfl rfl rfl ⟨rfl, rfl, rfl, rfl, rfl⟩ rfl rfl rfl rfl rfl q0 Try.func4 closedFacts
    (of_decide_eq_true (by kernel_rfl)) (by unfold Func.isWrapper; first | (rw [if_pos (by decide +kernel)]; kernel_rfl) | (rw [if_neg (by decide +kernel)]; exact ⟨rfl, rfl⟩))
    (fun os started H enc _ => lifted os started H enc)
end FnSwitchedLaw
end Go.Proofs.Ytaececpphdaciaa
