/-
  TriangleStar in the model.
-/
import Derived.Test.YthhnicbkldknlaaTriMath
namespace Go.Proofs.Ythhnicbkldknlaa
open Go.RowKit Go.Maps

set_option maxRecDepth 8000 in
set_option maxHeartbeats 12800000 in
theorem spec_triangle_yes (N : Nat) (e s a b c : Int) (v : Value) (ws : List W3) (w : World) (hr : ReadsW w v ws) (hOk : TriOk N e s a b c ws) (hn : ¬ (N : Int) = 5) :
    Calls Try.prog 23 #[.agg #[.int .i64 N, .int .i64 e, .int .i64 s, v], .int .i64 a, .int .i64 b, .int .i64 c] w (AnsN w (redR ((N : Int) + 1) e (s * triF ws a b c) (triL N ws a b c))) := by
  obtain ⟨hb, ha0, hab, hbc, hcn, px, py, pz⟩ := hOk
  obtain ⟨p0, cap0, rfl⟩ := hr.shape
  have hV := netB_iff.1 hb
  have n5 := hV.1.2.1
  have hlen := wiresV_len hV.2.1 n5
  have hTN := triN_of hV.2.1 px py pz hV.1.2.2.2.2.1 hV.1.2.2.2.2.2
  have hHG := triL_held hV.2.1 ha0 hab hbc hcn px py pz
  have hTL := triL_len N ws a b c
  have hRED := fun v' W (h : ReadsW W v' (triL N ws a b c)) => spec_reduced ((N : Int) + 1) e (s * triF ws a b c) v' (triL N ws a b c) W h (heldG_B hHG (by omega)) hTN.sF_le.1 (by have := hTN.sF_le.2; omega) (by omega)
  have HTK := Lib.hid (fun k (h : k < ws.length) (hy : notTri a b c ws[k] = true) => tri_yes (x := triF ws a b c) h hy (pairW hV.2.1))
  have HTO := Lib.hid (fun k (h : k < ws.length) (hy : notTri a b c ws[k] = false) => tri_no (x := triF ws a b c) h hy)
  have HWX := Lib.hid (fun W h => spec_wBtw N e s a b (.slice p0 ws.length cap0) ws W h)
  have HWY := Lib.hid (fun W h => spec_wBtw N e s b c (.slice p0 ws.length cap0) ws W h)
  have HWZ := Lib.hid (fun W h => spec_wBtw N e s a c (.slice p0 ws.length cap0) ws W h)
  have HC := Lib.hid (reads_at hr)
  have HW := Lib.hid hV.2.1
  have hTE : triL N ws a b c = put3 (put3 (put3 (triK ws a b c (triF ws a b c)) a N (triC1 ws a b c) true) b N (triC2 ws a b c) true) c N (triC3 ws a b c) true := rfl
  rw [hTE] at hRED ⊢
  generalize triF ws a b c = F at *
  generalize triS ws a b c = S at *
  generalize triC1 ws a b c = C1 at *
  generalize triC2 ws a b c = C2 at *
  generalize triC3 ws a b c = C3 at *
  generalize wBtw ws a b = x at *
  generalize wBtw ws b c = y at *
  generalize wBtw ws a c = z at *
  obtain ⟨n', e', s', out, bb, hR⟩ : ∃ n' e' s' out bb, redR ((N : Int) + 1) e (s * F) (put3 (put3 (put3 (triK ws a b c F) a N C1 true) b N C2 true) c N C3 true) = (n', e', s', out, bb) := ⟨_, _, _, _, _, rfl⟩
  simp only [hR] at hRED
  rw [hR]
  have HTW := Lib.hid hTN
  have hmn : IntKind.i64.wrap ((N : Int) - 1) = (N : Int) - 1 := IntWalk.i64_in _ (by omega)
  have hmn2 : wrap64 ((N : Int) - 1) = (N : Int) - 1 := by unfold wrap64; omega
  have mna : wrap64 ((N : Int) + 1) = (N : Int) + 1 := by unfold wrap64; omega
  have mnb : IntKind.i64.wrap ((N : Int) + 1) = (N : Int) + 1 := IntWalk.i64_in _ (by omega)
  have hma : IntKind.i64.wrap (a + 1) = a + 1 := IntWalk.i64_in _ (by omega)
  have hma2 : wrap64 (a + 1) = a + 1 := by unfold wrap64; omega
  have hmb : IntKind.i64.wrap (b + 1) = b + 1 := IntWalk.i64_in _ (by omega)
  have hmb2 : wrap64 (b + 1) = b + 1 := by unfold wrap64; omega
  have hn' : ((N : Int) == 5) = false := by simpa using hn
  have px' : (x == 0) = false := by simpa using px
  have py' : (y == 0) = false := by simpa using py
  have pz' : (z == 0) = false := by simpa using pz
  have HA := Lib.hid (fun W => spec_in_yes a 0 ((N : Int) - 1) W ha0 (by omega))
  have HBI := Lib.hid (fun W => spec_in_yes b (a + 1) ((N : Int) - 1) W (by omega) (by omega))
  have HCI := Lib.hid (fun W => spec_in_yes c (b + 1) ((N : Int) - 1) W (by omega) (by omega))
  have HORD : Hid (0 ≤ a ∧ a < b ∧ b < c ∧ c < (N : Int) ∧ (N : Int) ≤ 5 ∧ ws.length ≤ 25) := Lib.hid ⟨ha0, hab, hbc, hcn, n5, hlen⟩
  have HRED := Lib.hid hRED
  have HTL : Hid ((triK ws a b c F).length ≤ 25) := Lib.hid (by unfold triK; rw [mulW_length]; have := List.length_filter_le (notTri a b c) ws; omega)
  obtain ⟨W0, hW0⟩ : ∃ W0, W0 = (w.alloc (.cells #[.int .i64 N, .int .i64 e, .int .i64 s, .slice p0 ws.length cap0] 25)).alloc (.cells #[.int .i64 0, .int .i64 0, .int .i64 0, .slice none 0 0] 25) := ⟨_, rfl⟩
  have hs0 : W0.heap.size = w.heap.size + 2 := by rw [hW0]; simp
  have HX : Hid (boxN W0 w.heap.size N e s (.slice p0 ws.length cap0)) := Lib.hid (by rw [hW0]; exact (boxN.new w N e s (.slice p0 ws.length cap0) 25).later (by (repeat (first | exact Below.refl _ _ | (refine Below.setCell ?_ (by (first | exact Nat.le_refl _ | omega | (simp <;> omega) | simp)) _) | (refine Below.alloc ?_ (by (first | exact Nat.le_refl _ | omega | (simp <;> omega) | simp)) _) | (refine below_draws ?_ _)))))
  have HZ : Hid (box4 W0 (w.heap.size + 1) (.int .i64 0) (.int .i64 0) (.int .i64 0) (.slice none 0 0)) := Lib.hid (by rw [hW0]; have h := box4.new (w.alloc (.cells #[.int .i64 N, .int .i64 e, .int .i64 s, .slice p0 ws.length cap0] 25)) (.int .i64 0) (.int .i64 0) (.int .i64 0) (.slice none 0 0) 25; simpa using h)
  have HB0 : Hid (Below w.heap.size w W0) := Lib.hid (by rw [hW0]; (repeat (first | exact Below.refl _ _ | (refine Below.setCell ?_ (by (first | exact Nat.le_refl _ | omega | (simp <;> omega) | simp)) _) | (refine Below.alloc ?_ (by (first | exact Nat.le_refl _ | omega | (simp <;> omega) | simp)) _) | (refine below_draws ?_ _))))
  have HR0 := Lib.hid (hr.later HB0.out)
  have hok := spec_netOk N e s _ ws W0 HR0.out
  rw [hb] at hok
  have HOK := Lib.hid hok
  obtain ⟨x0, x1, x2, x3⟩ := HX.out
  obtain ⟨⟨m0a, m0b⟩, ⟨m1a, m1b⟩, ⟨m2a, m2b⟩, ⟨m3a, m3b⟩, ⟨m4a, m4b⟩, ⟨m5a, m5b⟩, ⟨m6a, m6b⟩, ⟨m7a, m7b⟩, ⟨m8a, m8b⟩, ⟨m9a, m9b⟩, ⟨m10a, m10b⟩, ⟨m11a, m11b⟩, ⟨m12a, m12b⟩⟩ := HTW.out.wraps
  clear hb hr hV hlen hTN hHG hTL hRED hTE hR hok ha0 hab hbc hcn n5 hn px py pz
  go_enter Try.func23, Try.ntmps23
  go_wp2_with fail
  rw [← hW0]
  clear hW0
  refine HOK.out.mono ?_
  rintro en w1 ⟨rfl, B1⟩
  have S1 := B1.size
  clear x0 x1 x2 x3
  obtain ⟨x0, x1, x2, x3⟩ := HX.out.later B1
  go_wp2_with fail
  refine (HA.out _).mono ?_
  rintro en wq ⟨rfl, rfl⟩
  go_wp2_with fail
  refine (HBI.out _).mono ?_
  rintro en wq ⟨rfl, rfl⟩
  go_wp2_with fail
  refine (HCI.out _).mono ?_
  rintro en wq ⟨rfl, rfl⟩
  go_wp2_with fail
  refine (HWX.out _ (HR0.out.later B1)).mono ?_
  rintro en w2 ⟨rfl, B2⟩
  have S2 := B2.size
  clear x0 x1 x2 x3
  obtain ⟨x0, x1, x2, x3⟩ := (HX.out.later B1).later B2
  go_wp2_with fail
  refine (HWY.out _ ((HR0.out.later B1).later B2)).mono ?_
  rintro en w3 ⟨rfl, B3⟩
  have S3 := B3.size
  clear x0 x1 x2 x3
  obtain ⟨x0, x1, x2, x3⟩ := ((HX.out.later B1).later B2).later B3
  go_wp2_with fail
  refine (HWZ.out _ (((HR0.out.later B1).later B2).later B3)).mono ?_
  rintro en w4 ⟨rfl, B4⟩
  have S4 := B4.size
  clear x0 x1 x2 x3
  have HX4 := Lib.hid ((((HX.out.later B1).later B2).later B3).later B4)
  have HB4 : Hid (Below w.heap.size w w4) := Lib.hid (by have h0 := HB0.out; (repeat (first | exact Below.refl _ _ | (refine Below.setCell ?_ (by (first | exact Nat.le_refl _ | omega | (simp <;> omega) | simp)) _) | (refine Below.alloc ?_ (by (first | exact Nat.le_refl _ | omega | (simp <;> omega) | simp)) _) | (refine below_draws ?_ _) | exact h0 | (refine Below.trans ?_ (Below.mono h0 (by (first | exact Nat.le_refl _ | omega | (simp <;> omega) | simp)))) | exact B1 | (refine Below.trans ?_ (Below.mono B1 (by (first | exact Nat.le_refl _ | omega | (simp <;> omega) | simp)))) | exact B2 | (refine Below.trans ?_ (Below.mono B2 (by (first | exact Nat.le_refl _ | omega | (simp <;> omega) | simp)))) | exact B3 | (refine Below.trans ?_ (Below.mono B3 (by (first | exact Nat.le_refl _ | omega | (simp <;> omega) | simp)))) | exact B4 | (refine Below.trans ?_ (Below.mono B4 (by (first | exact Nat.le_refl _ | omega | (simp <;> omega) | simp)))))))
  have HZ4 := Lib.hid ((((HZ.out.later B1).later B2).later B3).later B4)
  have hnw : w.heap.size ≠ w4.heap.size := by omega
  have hsz4 : w.heap.size + 2 ≤ w4.heap.size := by omega
  obtain ⟨x0, x1, x2, x3⟩ := HX4.out
  have x3a := fun ob => (World.cell?_alloc_old w4 ob ⟨w.heap.size, 3, none⟩ hnw).trans x3
  clear B1 B2 B3 B4 S1 S2 S3 S4
  go_wp2
  clear m0a m0b m1a m1b m2a m2b m3a m3b m4a m4b m5a m5b m6a m6b m7a m7b m8a m8b m9a m9b m10a m10b m11a m11b m12a m12b hmn hmn2 mna mnb hma hma2 hmb hmb2 hn' px' py' pz'
  go_loopw [105] (fun i wi => ∃ (k : Nat) (q : Option Addr) (c' : Nat) (os : List W3), k ≤ ws.length ∧ i = .int .i64 k ∧ os.length ≤ k ∧ Hid (os = triK (ws.take k) a b c F) ∧ Hid (box4 wi w4.heap.size (.int .i64 ((N : Int) + 1)) (.int .i64 e) (.int .i64 (s * F)) (.slice q os.length c')) ∧ Hid (wi.ownsRow (w4.heap.size + 1) 35 3 (.slice q os.length c') os.length (cellsW os)) ∧ w4.heap.size < wi.heap.size ∧ Hid (Below w4.heap.size w4 wi)) (fun i _ => ws.length - (intOf i).toNat)
  case atStart => exact ⟨0, none, 0, [], Nat.zero_le _, rfl, Nat.le_refl _, Lib.hid rfl, Lib.hid (box4.new _ _ _ _ _ _), Lib.hid (World.ownsRow_nil _ _ _ _), by simp, Lib.hid (by (repeat (first | exact Below.refl _ _ | (refine Below.setCell ?_ (by (first | exact Nat.le_refl _ | omega | (simp <;> omega) | simp)) _) | (refine Below.alloc ?_ (by (first | exact Nat.le_refl _ | omega | (simp <;> omega) | simp)) _) | (refine below_draws ?_ _))))⟩
  case round =>
    clear x0 x1 x2 x3 x3a
    obtain ⟨k, q, c', os, hk, rfl, hol, hos, hx4, hown, hsz, hB⟩ := hrel
    obtain ⟨x0, x1, x2, x3⟩ := HX4.out.later hB.out
    by_cases hlt : k < ws.length
    · obtain ⟨g0, o, rfl, c0, c1, c2⟩ := HC.out k hlt
      have hg : g0 < w.heap.size := World.block_lt_of_cell? w _ c0
      have hBw : Hid (Below w.heap.size w wr) := Lib.hid (HB4.out.trans (hB.out.mono (by omega)))
      have hBs := hBw.out.size
      rw [← hBw.out.cell (p := ⟨g0, o + k * 3, none⟩) hg] at c0
      rw [← hBw.out.cell (p := ⟨g0, o + k * 3 + 1, none⟩) hg] at c1
      rw [← hBw.out.cell (p := ⟨g0, o + k * 3 + 2, none⟩) hg] at c2
      have hne : g0 ≠ wr.heap.size := by omega
      have hne4 : w4.heap.size ≠ wr.heap.size := by omega
      obtain ⟨v0, v1, v2, v3, v4⟩ := HW.out.1 k hlt
      have HYES := Lib.hid (HTK.out k hlt)
      have HNO := Lib.hid (HTO.out k hlt)
      have hnt : notTri a b c ws[k] = decide (¬ (ws[k].1 = a ∧ ws[k].2.1 = b) ∧ ¬ (ws[k].1 = b ∧ ws[k].2.1 = c) ∧ ¬ (ws[k].1 = a ∧ ws[k].2.1 = c)) := by
        unfold notTri atEnds
        rw [Bool.eq_iff_iff]
        simp only [Bool.and_eq_true, Bool.not_eq_true', Bool.and_eq_false_imp, beq_iff_eq, decide_eq_true_eq, beq_eq_false_iff_ne, ne_eq, not_and]
        exact and_assoc
      rw [hnt] at HYES HNO
      obtain ⟨A, hA⟩ : ∃ A, ws[k].1 = A := ⟨_, rfl⟩
      obtain ⟨E, hE⟩ : ∃ E, ws[k].2.1 = E := ⟨_, rfl⟩
      obtain ⟨U, hU⟩ : ∃ U, ws[k].2.2 = U := ⟨_, rfl⟩
      rw [hA] at c0 v0 v1 HYES HNO
      rw [hE] at c1 v1 v2 HYES HNO
      rw [hU] at c2 v3 v4 HYES
      clear hA hE hU hnt
      have hwl := HORD.out.2.2.2.2.2
      have hord := HORD.out
      have hcase : (¬ A = a ∧ ¬ A = b) ∨ (A = a ∧ ¬ E = b ∧ ¬ E = c) ∨ (¬ A = a ∧ A = b ∧ ¬ E = b ∧ ¬ E = c) ∨ (A = a ∧ E = b) ∨ (A = a ∧ ¬ E = b ∧ E = c) ∨ (¬ A = a ∧ A = b ∧ ¬ E = b ∧ E = c) := by omega
      rcases hcase with ⟨h1, h2⟩ | ⟨rfl, h2, h3⟩ | ⟨h1, rfl, h2, h3⟩ | ⟨rfl, rfl⟩ | ⟨rfl, h2, rfl⟩ | ⟨h1, rfl, h2, rfl⟩
      · have HSN := Lib.hid (HYES.out (by rw [decide_eq_true_eq]; omega))
        have hE : Ends A E A E := .inl ⟨v1, by omega, rfl, rfl⟩
        have HE := Lib.hid hE
        obtain ⟨⟨n0a, n0b⟩, ⟨n1a, n1b⟩, ⟨n2a, n2b⟩⟩ := HTW.out.wire (u := U) v3 v4
        have hpl := put3_len os A E (U * F) true
        have HXA := Lib.hid (hx4.out.alloc (.cells #[.int .i64 A, .int .i64 E, .int .i64 U] 35))
        have HRA := Lib.hid (ReadsW.of_own (owns_later hown.out ((Below.refl _ wr).alloc (Nat.le_refl _) (.cells #[.int .i64 A, .int .i64 E, .int .i64 U] 35))))
        obtain ⟨b0, b1, b2, b3, -⟩ := HXA.out
        clear hE hord v0 v1 v2 v3 v4 hx4 hown x0 x1 x2 x3 HYES HNO
        go_wp2_with fail
        clear n0a n0b n1a n1b n2a n2b
        refine (spec_put3 _ _ A E _ true HE.out _ os _ HRA.out (by omega)).mono ?_
        rintro en w5 ⟨p2, c2', rfl, o2, B2⟩
        have HXB := Lib.hid (box4.later HXA.out B2)
        obtain ⟨d0, d1, d2, d3, e0, e1', e2', e3, -⟩ := HXB.out
        have S3 := B2.size
        simp at S3
        have HO2 := Lib.hid o2
        have HB5 : Hid (Below wr.heap.size wr w5) := Lib.hid (by (repeat (first | exact Below.refl _ _ | (refine Below.setCell ?_ (by (first | exact Nat.le_refl _ | omega | (simp <;> omega) | simp)) _) | (refine Below.alloc ?_ (by (first | exact Nat.le_refl _ | omega | (simp <;> omega) | simp)) _) | (refine below_draws ?_ _) | exact B2 | (refine Below.trans ?_ (Below.mono B2 (by (first | exact Nat.le_refl _ | omega | (simp <;> omega) | simp)))))))
        clear b0 b1 b2 b3 o2 B2
        go_wp2
        go_roundw
        case rel => exact ⟨k + 1, p2, c2', put3 os A E (U * F) true, by omega, by go_num, by omega, Lib.hid (by rw [HSN.out, ← hos.out]), Lib.hid HXB.out.set3, Lib.hid (by have o2 := HO2.out; refine owns_mono (base := wr.heap.size + 1) ?_ (by omega); simp only [World.size_alloc] at o2; ((repeat (refine ownsRow_setCell_below ?_ ?_ _; rotate_left; focus (first | omega | (simp; done) | (simp; omega)))); with_reducible exact o2)), by simp; omega, Lib.hid (by have hB := hB.out; have h5 := HB5.out; (repeat (first | exact Below.refl _ _ | (refine Below.setCell ?_ (by (first | exact Nat.le_refl _ | omega | (simp <;> omega) | simp)) _) | (refine Below.alloc ?_ (by (first | exact Nat.le_refl _ | omega | (simp <;> omega) | simp)) _) | (refine below_draws ?_ _) | exact hB | (refine Below.trans ?_ (Below.mono hB (by (first | exact Nat.le_refl _ | omega | (simp <;> omega) | simp)))) | exact h5 | (refine Below.trans ?_ (Below.mono h5 (by (first | exact Nat.le_refl _ | omega | (simp <;> omega) | simp)))))))⟩
        case measure => simp [intOf]; omega
      · have HSN := Lib.hid (HYES.out (by rw [decide_eq_true_eq]; omega))
        have hE : Ends A E A E := .inl ⟨v1, by omega, rfl, rfl⟩
        have HE := Lib.hid hE
        obtain ⟨⟨n0a, n0b⟩, ⟨n1a, n1b⟩, ⟨n2a, n2b⟩⟩ := HTW.out.wire (u := U) v3 v4
        have hpl := put3_len os A E (U * F) true
        have HXA := Lib.hid (hx4.out.alloc (.cells #[.int .i64 A, .int .i64 E, .int .i64 U] 35))
        have HRA := Lib.hid (ReadsW.of_own (owns_later hown.out ((Below.refl _ wr).alloc (Nat.le_refl _) (.cells #[.int .i64 A, .int .i64 E, .int .i64 U] 35))))
        obtain ⟨b0, b1, b2, b3, -⟩ := HXA.out
        clear hE hord v0 v1 v2 v3 v4 hx4 hown x0 x1 x2 x3 HYES HNO
        go_wp2_with fail
        clear n0a n0b n1a n1b n2a n2b
        refine (spec_put3 _ _ A E _ true HE.out _ os _ HRA.out (by omega)).mono ?_
        rintro en w5 ⟨p2, c2', rfl, o2, B2⟩
        have HXB := Lib.hid (box4.later HXA.out B2)
        obtain ⟨d0, d1, d2, d3, e0, e1', e2', e3, -⟩ := HXB.out
        have S3 := B2.size
        simp at S3
        have HO2 := Lib.hid o2
        have HB5 : Hid (Below wr.heap.size wr w5) := Lib.hid (by (repeat (first | exact Below.refl _ _ | (refine Below.setCell ?_ (by (first | exact Nat.le_refl _ | omega | (simp <;> omega) | simp)) _) | (refine Below.alloc ?_ (by (first | exact Nat.le_refl _ | omega | (simp <;> omega) | simp)) _) | (refine below_draws ?_ _) | exact B2 | (refine Below.trans ?_ (Below.mono B2 (by (first | exact Nat.le_refl _ | omega | (simp <;> omega) | simp)))))))
        clear b0 b1 b2 b3 o2 B2
        go_wp2
        go_roundw
        case rel => exact ⟨k + 1, p2, c2', put3 os A E (U * F) true, by omega, by go_num, by omega, Lib.hid (by rw [HSN.out, ← hos.out]), Lib.hid HXB.out.set3, Lib.hid (by have o2 := HO2.out; refine owns_mono (base := wr.heap.size + 1) ?_ (by omega); simp only [World.size_alloc] at o2; ((repeat (refine ownsRow_setCell_below ?_ ?_ _; rotate_left; focus (first | omega | (simp; done) | (simp; omega)))); with_reducible exact o2)), by simp; omega, Lib.hid (by have hB := hB.out; have h5 := HB5.out; (repeat (first | exact Below.refl _ _ | (refine Below.setCell ?_ (by (first | exact Nat.le_refl _ | omega | (simp <;> omega) | simp)) _) | (refine Below.alloc ?_ (by (first | exact Nat.le_refl _ | omega | (simp <;> omega) | simp)) _) | (refine below_draws ?_ _) | exact hB | (refine Below.trans ?_ (Below.mono hB (by (first | exact Nat.le_refl _ | omega | (simp <;> omega) | simp)))) | exact h5 | (refine Below.trans ?_ (Below.mono h5 (by (first | exact Nat.le_refl _ | omega | (simp <;> omega) | simp)))))))⟩
        case measure => simp [intOf]; omega
      · have HSN := Lib.hid (HYES.out (by rw [decide_eq_true_eq]; omega))
        have hE : Ends A E A E := .inl ⟨v1, by omega, rfl, rfl⟩
        have HE := Lib.hid hE
        obtain ⟨⟨n0a, n0b⟩, ⟨n1a, n1b⟩, ⟨n2a, n2b⟩⟩ := HTW.out.wire (u := U) v3 v4
        have hpl := put3_len os A E (U * F) true
        have HXA := Lib.hid (hx4.out.alloc (.cells #[.int .i64 A, .int .i64 E, .int .i64 U] 35))
        have HRA := Lib.hid (ReadsW.of_own (owns_later hown.out ((Below.refl _ wr).alloc (Nat.le_refl _) (.cells #[.int .i64 A, .int .i64 E, .int .i64 U] 35))))
        obtain ⟨b0, b1, b2, b3, -⟩ := HXA.out
        clear hE hord v0 v1 v2 v3 v4 hx4 hown x0 x1 x2 x3 HYES HNO
        go_wp2_with fail
        clear n0a n0b n1a n1b n2a n2b
        refine (spec_put3 _ _ A E _ true HE.out _ os _ HRA.out (by omega)).mono ?_
        rintro en w5 ⟨p2, c2', rfl, o2, B2⟩
        have HXB := Lib.hid (box4.later HXA.out B2)
        obtain ⟨d0, d1, d2, d3, e0, e1', e2', e3, -⟩ := HXB.out
        have S3 := B2.size
        simp at S3
        have HO2 := Lib.hid o2
        have HB5 : Hid (Below wr.heap.size wr w5) := Lib.hid (by (repeat (first | exact Below.refl _ _ | (refine Below.setCell ?_ (by (first | exact Nat.le_refl _ | omega | (simp <;> omega) | simp)) _) | (refine Below.alloc ?_ (by (first | exact Nat.le_refl _ | omega | (simp <;> omega) | simp)) _) | (refine below_draws ?_ _) | exact B2 | (refine Below.trans ?_ (Below.mono B2 (by (first | exact Nat.le_refl _ | omega | (simp <;> omega) | simp)))))))
        clear b0 b1 b2 b3 o2 B2
        go_wp2
        go_roundw
        case rel => exact ⟨k + 1, p2, c2', put3 os A E (U * F) true, by omega, by go_num, by omega, Lib.hid (by rw [HSN.out, ← hos.out]), Lib.hid HXB.out.set3, Lib.hid (by have o2 := HO2.out; refine owns_mono (base := wr.heap.size + 1) ?_ (by omega); simp only [World.size_alloc] at o2; ((repeat (refine ownsRow_setCell_below ?_ ?_ _; rotate_left; focus (first | omega | (simp; done) | (simp; omega)))); with_reducible exact o2)), by simp; omega, Lib.hid (by have hB := hB.out; have h5 := HB5.out; (repeat (first | exact Below.refl _ _ | (refine Below.setCell ?_ (by (first | exact Nat.le_refl _ | omega | (simp <;> omega) | simp)) _) | (refine Below.alloc ?_ (by (first | exact Nat.le_refl _ | omega | (simp <;> omega) | simp)) _) | (refine below_draws ?_ _) | exact hB | (refine Below.trans ?_ (Below.mono hB (by (first | exact Nat.le_refl _ | omega | (simp <;> omega) | simp)))) | exact h5 | (refine Below.trans ?_ (Below.mono h5 (by (first | exact Nat.le_refl _ | omega | (simp <;> omega) | simp)))))))⟩
        case measure => simp [intOf]; omega
      · have HSN := Lib.hid (HNO.out (by rw [decide_eq_false_iff_not]; omega))
        have HXA := Lib.hid (hx4.out)
        clear hord v3 v4 hx4 x0 x1 x2 x3 HYES HNO
        go_wp2
        go_roundw
        case rel => exact ⟨k + 1, q, c', os, by omega, by go_num, by omega, Lib.hid (by rw [HSN.out]; exact hos.out), Lib.hid (HXA.out.alloc _), Lib.hid (owns_later hown.out (by (repeat (first | exact Below.refl _ _ | (refine Below.setCell ?_ (by (first | exact Nat.le_refl _ | omega | (simp <;> omega) | simp)) _) | (refine Below.alloc ?_ (by (first | exact Nat.le_refl _ | omega | (simp <;> omega) | simp)) _) | (refine below_draws ?_ _))))), by simp; omega, Lib.hid (by have hB := hB.out; (repeat (first | exact Below.refl _ _ | (refine Below.setCell ?_ (by (first | exact Nat.le_refl _ | omega | (simp <;> omega) | simp)) _) | (refine Below.alloc ?_ (by (first | exact Nat.le_refl _ | omega | (simp <;> omega) | simp)) _) | (refine below_draws ?_ _) | exact hB | (refine Below.trans ?_ (Below.mono hB (by (first | exact Nat.le_refl _ | omega | (simp <;> omega) | simp)))))))⟩
        case measure => simp [intOf]; omega
      · have HSN := Lib.hid (HNO.out (by rw [decide_eq_false_iff_not]; omega))
        have HXA := Lib.hid (hx4.out)
        clear hord v3 v4 hx4 x0 x1 x2 x3 HYES HNO
        go_wp2
        go_roundw
        case rel => exact ⟨k + 1, q, c', os, by omega, by go_num, by omega, Lib.hid (by rw [HSN.out]; exact hos.out), Lib.hid (HXA.out.alloc _), Lib.hid (owns_later hown.out (by (repeat (first | exact Below.refl _ _ | (refine Below.setCell ?_ (by (first | exact Nat.le_refl _ | omega | (simp <;> omega) | simp)) _) | (refine Below.alloc ?_ (by (first | exact Nat.le_refl _ | omega | (simp <;> omega) | simp)) _) | (refine below_draws ?_ _))))), by simp; omega, Lib.hid (by have hB := hB.out; (repeat (first | exact Below.refl _ _ | (refine Below.setCell ?_ (by (first | exact Nat.le_refl _ | omega | (simp <;> omega) | simp)) _) | (refine Below.alloc ?_ (by (first | exact Nat.le_refl _ | omega | (simp <;> omega) | simp)) _) | (refine below_draws ?_ _) | exact hB | (refine Below.trans ?_ (Below.mono hB (by (first | exact Nat.le_refl _ | omega | (simp <;> omega) | simp)))))))⟩
        case measure => simp [intOf]; omega
      · have HSN := Lib.hid (HNO.out (by rw [decide_eq_false_iff_not]; omega))
        have HXA := Lib.hid (hx4.out)
        clear hord v3 v4 hx4 x0 x1 x2 x3 HYES HNO
        go_wp2
        go_roundw
        case rel => exact ⟨k + 1, q, c', os, by omega, by go_num, by omega, Lib.hid (by rw [HSN.out]; exact hos.out), Lib.hid (HXA.out.alloc _), Lib.hid (owns_later hown.out (by (repeat (first | exact Below.refl _ _ | (refine Below.setCell ?_ (by (first | exact Nat.le_refl _ | omega | (simp <;> omega) | simp)) _) | (refine Below.alloc ?_ (by (first | exact Nat.le_refl _ | omega | (simp <;> omega) | simp)) _) | (refine below_draws ?_ _))))), by simp; omega, Lib.hid (by have hB := hB.out; (repeat (first | exact Below.refl _ _ | (refine Below.setCell ?_ (by (first | exact Nat.le_refl _ | omega | (simp <;> omega) | simp)) _) | (refine Below.alloc ?_ (by (first | exact Nat.le_refl _ | omega | (simp <;> omega) | simp)) _) | (refine below_draws ?_ _) | exact hB | (refine Below.trans ?_ (Below.mono hB (by (first | exact Nat.le_refl _ | omega | (simp <;> omega) | simp)))))))⟩
        case measure => simp [intOf]; omega
    · obtain rfl : k = ws.length := by omega
      rw [List.take_length] at hos
      have hoe : os = triK ws a b c F := hos.out
      subst hoe
      obtain ⟨⟨m0a, m0b⟩, ⟨m1a, m1b⟩, ⟨m2a, m2b⟩, ⟨m3a, m3b⟩, ⟨m4a, m4b⟩, ⟨m5a, m5b⟩, ⟨m6a, m6b⟩, ⟨m7a, m7b⟩, ⟨m8a, m8b⟩, ⟨m9a, m9b⟩, ⟨m10a, m10b⟩, ⟨m11a, m11b⟩, ⟨m12a, m12b⟩⟩ := HTW.out.wraps
      have HE1 : Hid (Ends a (N : Int) a (N : Int)) := Lib.hid (.inl ⟨by have := HORD.out; clear m0a m0b m1a m1b m2a m2b m3a m3b m4a m4b m5a m5b m6a m6b m7a m7b m8a m8b m9a m9b m10a m10b m11a m11b m12a m12b; omega, by have := HORD.out; clear m0a m0b m1a m1b m2a m2b m3a m3b m4a m4b m5a m5b m6a m6b m7a m7b m8a m8b m9a m9b m10a m10b m11a m11b m12a m12b; omega, rfl, rfl⟩)
      have HE2 : Hid (Ends b (N : Int) b (N : Int)) := Lib.hid (.inl ⟨by have := HORD.out; clear m0a m0b m1a m1b m2a m2b m3a m3b m4a m4b m5a m5b m6a m6b m7a m7b m8a m8b m9a m9b m10a m10b m11a m11b m12a m12b; omega, by have := HORD.out; clear m0a m0b m1a m1b m2a m2b m3a m3b m4a m4b m5a m5b m6a m6b m7a m7b m8a m8b m9a m9b m10a m10b m11a m11b m12a m12b; omega, rfl, rfl⟩)
      have HE3 : Hid (Ends c (N : Int) c (N : Int)) := Lib.hid (.inl ⟨by have := HORD.out; clear m0a m0b m1a m1b m2a m2b m3a m3b m4a m4b m5a m5b m6a m6b m7a m7b m8a m8b m9a m9b m10a m10b m11a m11b m12a m12b; omega, by have := HORD.out; clear m0a m0b m1a m1b m2a m2b m3a m3b m4a m4b m5a m5b m6a m6b m7a m7b m8a m8b m9a m9b m10a m10b m11a m11b m12a m12b; omega, rfl, rfl⟩)
      have HL1 := Lib.hid (put3_len (triK ws a b c F) a N C1 true)
      have HL2 := Lib.hid (put3_len (put3 (triK ws a b c F) a N C1 true) b N C2 true)
      have HL3 := Lib.hid (put3_len (put3 (put3 (triK ws a b c F) a N C1 true) b N C2 true) c N C3 true)
      clear m0a m0b m1a m1b m2a m2b m3a m3b m5a m5b m6a m6b m7a m7b hos
      have HP1 := Lib.hid (fun W u (h : ReadsW W u (triK ws a b c F)) => spec_put3 a N a N C1 true HE1.out u (triK ws a b c F) W h (by have := HTL.out; clear m4a m4b; omega))
      have HP2 := Lib.hid (fun W u (h : ReadsW W u (put3 (triK ws a b c F) a N C1 true)) => spec_put3 b N b N C2 true HE2.out u (put3 (triK ws a b c F) a N C1 true) W h (by have := HTL.out; have := HL1.out; clear m4a m4b; omega))
      have HP3 := Lib.hid (fun W u (h : ReadsW W u (put3 (put3 (triK ws a b c F) a N C1 true) b N C2 true)) => spec_put3 c N c N C3 true HE3.out u (put3 (put3 (triK ws a b c F) a N C1 true) b N C2 true) W h (by have := HTL.out; have := HL1.out; have := HL2.out; clear m4a m4b; omega))
      clear HL1 HL2 HL3 HTL
      generalize triK ws a b c F = K at *
      generalize put3 K a N C1 true = K1 at *
      generalize put3 K1 b N C2 true = K2 at *
      generalize put3 K2 c N C3 true = K3 at *
      clear m4a m4b
      have HHX := hx4
      have HBr := hB
      have HOr := hown
      obtain ⟨b0, b1, b2, b3, bf0, bf1, bf2, bf3, bl⟩ := hx4.out
      clear hx4 hown hB
      go_wp2_with fail
      refine (HP1.out _ _ (ReadsW.of_own HOr.out)).mono ?_
      rintro en w5 ⟨p5, c5, rfl, o5, B5⟩
      have S5 := B5.size
      obtain ⟨W5, hW5⟩ : ∃ W5, W5 = w5.setCell ⟨w4.heap.size, 3, none⟩ (.slice p5 K1.length c5) := ⟨_, rfl⟩
      have HX5 := Lib.hid (show box4 W5 w4.heap.size (.int .i64 ((N : Int) + 1)) (.int .i64 e) (.int .i64 (s * F)) (.slice p5 K1.length c5) by rw [hW5]; exact (HHX.out.later B5).set3)
      have HO5 := Lib.hid (show World.ownsRow W5 (w4.heap.size + 1) 35 3 (.slice p5 K1.length c5) K1.length (cellsW K1) by rw [hW5]; refine owns_mono (base := wr.heap.size) ?_ (by omega); ((repeat (refine ownsRow_setCell_below ?_ ?_ _; rotate_left; focus (first | omega | (simp; done) | (simp; omega)))); with_reducible exact o5))
      have hBB5 : Below w4.heap.size w4 w5 := by have hB := HBr.out; (repeat (first | exact Below.refl _ _ | (refine Below.setCell ?_ (by (first | exact Nat.le_refl _ | omega | (simp <;> omega) | simp)) _) | (refine Below.alloc ?_ (by (first | exact Nat.le_refl _ | omega | (simp <;> omega) | simp)) _) | (refine below_draws ?_ _) | exact hB | (refine Below.trans ?_ (Below.mono hB (by (first | exact Nat.le_refl _ | omega | (simp <;> omega) | simp)))) | exact B5 | (refine Below.trans ?_ (Below.mono B5 (by (first | exact Nat.le_refl _ | omega | (simp <;> omega) | simp))))))
      have HB5 := Lib.hid (show Below w4.heap.size w4 W5 by rw [hW5]; exact hBB5.setCell (p := ⟨w4.heap.size, 3, none⟩) (Nat.le_refl _) _)
      have hsW5 : w4.heap.size < W5.heap.size := by rw [hW5]; simp; omega
      clear b0 b1 b2 b3 bf0 bf1 bf2 bf3 bl x0 x1 x2 x3
      obtain ⟨b0, b1, b2, b3, bf0, bf1, bf2, bf3, bl⟩ := HHX.out.later B5
      obtain ⟨x0, x1, x2, x3⟩ := HX4.out.later hBB5
      clear o5 B5 hBB5
      go_wp2_with fail
      rw [← hW5]
      clear hW5
      refine (HP2.out _ _ (ReadsW.of_own HO5.out)).mono ?_
      rintro en w6 ⟨p6, c6, rfl, o6, B6⟩
      have S6 := B6.size
      obtain ⟨W6, hW6⟩ : ∃ W6, W6 = w6.setCell ⟨w4.heap.size, 3, none⟩ (.slice p6 K2.length c6) := ⟨_, rfl⟩
      have HX6 := Lib.hid (show box4 W6 w4.heap.size (.int .i64 ((N : Int) + 1)) (.int .i64 e) (.int .i64 (s * F)) (.slice p6 K2.length c6) by rw [hW6]; exact (HX5.out.later B6).set3)
      have HO6 := Lib.hid (show World.ownsRow W6 (w4.heap.size + 1) 35 3 (.slice p6 K2.length c6) K2.length (cellsW K2) by rw [hW6]; refine owns_mono (base := W5.heap.size) ?_ (by omega); ((repeat (refine ownsRow_setCell_below ?_ ?_ _; rotate_left; focus (first | omega | (simp; done) | (simp; omega)))); with_reducible exact o6))
      have hBB6 : Below w4.heap.size w4 w6 := by have hB := HB5.out; (repeat (first | exact Below.refl _ _ | (refine Below.setCell ?_ (by (first | exact Nat.le_refl _ | omega | (simp <;> omega) | simp)) _) | (refine Below.alloc ?_ (by (first | exact Nat.le_refl _ | omega | (simp <;> omega) | simp)) _) | (refine below_draws ?_ _) | exact hB | (refine Below.trans ?_ (Below.mono hB (by (first | exact Nat.le_refl _ | omega | (simp <;> omega) | simp)))) | exact B6 | (refine Below.trans ?_ (Below.mono B6 (by (first | exact Nat.le_refl _ | omega | (simp <;> omega) | simp))))))
      have HB6 := Lib.hid (show Below w4.heap.size w4 W6 by rw [hW6]; exact hBB6.setCell (p := ⟨w4.heap.size, 3, none⟩) (Nat.le_refl _) _)
      have hsW6 : w4.heap.size < W6.heap.size := by rw [hW6]; simp; omega
      clear b0 b1 b2 b3 bf0 bf1 bf2 bf3 bl x0 x1 x2 x3
      obtain ⟨b0, b1, b2, b3, bf0, bf1, bf2, bf3, bl⟩ := HX5.out.later B6
      obtain ⟨x0, x1, x2, x3⟩ := HX4.out.later hBB6
      clear o6 B6 hBB6
      go_wp2_with fail
      rw [← hW6]
      clear hW6
      refine (HP3.out _ _ (ReadsW.of_own HO6.out)).mono ?_
      rintro en w7 ⟨p7, c7, rfl, o7, B7⟩
      have S7 := B7.size
      obtain ⟨W7, hW7⟩ : ∃ W7, W7 = w7.setCell ⟨w4.heap.size, 3, none⟩ (.slice p7 K3.length c7) := ⟨_, rfl⟩
      have HX7 := Lib.hid (show box4 W7 w4.heap.size (.int .i64 ((N : Int) + 1)) (.int .i64 e) (.int .i64 (s * F)) (.slice p7 K3.length c7) by rw [hW7]; exact (HX6.out.later B7).set3)
      have HO7 := Lib.hid (show World.ownsRow W7 (w4.heap.size + 1) 35 3 (.slice p7 K3.length c7) K3.length (cellsW K3) by rw [hW7]; refine owns_mono (base := W6.heap.size) ?_ (by omega); ((repeat (refine ownsRow_setCell_below ?_ ?_ _; rotate_left; focus (first | omega | (simp; done) | (simp; omega)))); with_reducible exact o7))
      have hBB7 : Below w4.heap.size w4 w7 := by have hB := HB6.out; (repeat (first | exact Below.refl _ _ | (refine Below.setCell ?_ (by (first | exact Nat.le_refl _ | omega | (simp <;> omega) | simp)) _) | (refine Below.alloc ?_ (by (first | exact Nat.le_refl _ | omega | (simp <;> omega) | simp)) _) | (refine below_draws ?_ _) | exact hB | (refine Below.trans ?_ (Below.mono hB (by (first | exact Nat.le_refl _ | omega | (simp <;> omega) | simp)))) | exact B7 | (refine Below.trans ?_ (Below.mono B7 (by (first | exact Nat.le_refl _ | omega | (simp <;> omega) | simp))))))
      have HB7 := Lib.hid (show Below w4.heap.size w4 W7 by rw [hW7]; exact hBB7.setCell (p := ⟨w4.heap.size, 3, none⟩) (Nat.le_refl _) _)
      have hsW7 : w4.heap.size < W7.heap.size := by rw [hW7]; simp; omega
      clear b0 b1 b2 b3 bf0 bf1 bf2 bf3 bl x0 x1 x2 x3
      obtain ⟨b0, b1, b2, b3, bf0, bf1, bf2, bf3, bl⟩ := HX6.out.later B7
      obtain ⟨x0, x1, x2, x3⟩ := HX4.out.later hBB7
      clear o7 B7 hBB7
      go_wp2_with fail
      rw [← hW7]
      clear hW7
      refine (HRED.out _ _ (ReadsW.of_own HO7.out)).mono ?_
      rintro en w8 ⟨p8, c8, rfl, o8, B8⟩
      have S8 := B8.size
      obtain ⟨z0, z1, z2, z3, f0, f1, f2, f3, -⟩ := (HZ4.out.below HB7.out (by omega)).later B8
      have HO8 := Lib.hid o8
      clear b0 b1 b2 b3 bf0 bf1 bf2 bf3 bl x0 x1 x2 x3 o8
      go_wp2
      exact bodyPost_ret (v := .tuple #[.agg #[.int .i64 n', .int .i64 e', .int .i64 s', .slice p8 out.length c8], .bool bb]) (by simp (maxDischargeDepth := 8) [results, Try.results23, go_sem, *]) rfl ⟨p8, c8, rfl, by refine owns_mono (base := W7.heap.size) ?_ (by omega); have o8 := HO8.out; ((repeat (refine ownsRow_setCell_below ?_ ?_ _; rotate_left; focus (first | omega | (simp; done) | (simp; omega)))); with_reducible exact o8), by have h4 := HB4.out; have h7 := HB7.out; have h8 : Below w.heap.size w W7 := h4.trans (h7.mono (by omega)); (repeat (first | exact Below.refl _ _ | (refine Below.setCell ?_ (by (first | exact Nat.le_refl _ | omega | (simp <;> omega) | simp)) _) | (refine Below.alloc ?_ (by (first | exact Nat.le_refl _ | omega | (simp <;> omega) | simp)) _) | (refine below_draws ?_ _) | exact h8 | (refine Below.trans ?_ (Below.mono h8 (by (first | exact Nat.le_refl _ | omega | (simp <;> omega) | simp)))) | exact B8 | (refine Below.trans ?_ (Below.mono B8 (by (first | exact Nat.le_refl _ | omega | (simp <;> omega) | simp))))))⟩
set_option maxRecDepth 8000 in
set_option maxHeartbeats 12800000 in
theorem spec_triangle (n e s a b c : Int) (v : Value) (ws : List W3) (w : World) (hr : ReadsW w v ws) :
    Calls Try.prog 23 #[.agg #[.int .i64 n, .int .i64 e, .int .i64 s, v], .int .i64 a, .int .i64 b, .int .i64 c] w (AnsN w (triR n e s a b c ws)) := by
  obtain ⟨W0, hW0⟩ : ∃ W0, W0 = (w.alloc (.cells #[.int .i64 n, .int .i64 e, .int .i64 s, v] 25)).alloc (.cells #[.int .i64 0, .int .i64 0, .int .i64 0, .slice none 0 0] 25) := ⟨_, rfl⟩
  have hs0 : W0.heap.size = w.heap.size + 2 := by rw [hW0]; simp
  have HX : Hid (boxN W0 w.heap.size n e s v) := Lib.hid (by rw [hW0]; exact (boxN.new w n e s v 25).later (by (repeat (first | exact Below.refl _ _ | (refine Below.setCell ?_ (by (first | exact Nat.le_refl _ | omega | (simp <;> omega) | simp)) _) | (refine Below.alloc ?_ (by (first | exact Nat.le_refl _ | omega | (simp <;> omega) | simp)) _) | (refine below_draws ?_ _)))))
  have HZ : Hid (box4 W0 (w.heap.size + 1) (.int .i64 0) (.int .i64 0) (.int .i64 0) (.slice none 0 0)) := Lib.hid (by rw [hW0]; have h := box4.new (w.alloc (.cells #[.int .i64 n, .int .i64 e, .int .i64 s, v] 25)) (.int .i64 0) (.int .i64 0) (.int .i64 0) (.slice none 0 0) 25; simpa using h)
  have HB0 : Hid (Below w.heap.size w W0) := Lib.hid (by rw [hW0]; (repeat (first | exact Below.refl _ _ | (refine Below.setCell ?_ (by (first | exact Nat.le_refl _ | omega | (simp <;> omega) | simp)) _) | (refine Below.alloc ?_ (by (first | exact Nat.le_refl _ | omega | (simp <;> omega) | simp)) _) | (refine below_draws ?_ _))))
  have HR0 := Lib.hid (hr.later HB0.out)
  have HOK := Lib.hid (spec_netOk n e s v ws W0 HR0.out)
  obtain ⟨x0, x1, x2, x3⟩ := HX.out
  by_cases hb : netB n e s ws = true
  case neg =>
    rw [triR_no (fun h => hb h.1)]
    rw [show netB n e s ws = false by simpa using hb] at HOK
    clear hb hr
    go_enter Try.func23, Try.ntmps23
    go_wp2_with fail
    rw [← hW0]
    clear hW0
    refine HOK.out.mono ?_
    rintro en w1 ⟨rfl, B1⟩
    have S1 := B1.size
    clear x0 x1 x2 x3
    obtain ⟨z0, z1, z2, z3, f0, f1, f2, f3, -⟩ := HZ.out.later B1
    go_wp2
    exact bodyPost_ret (v := .tuple #[.agg #[.int .i64 0, .int .i64 0, .int .i64 0, .slice none 0 0], .bool false]) (by simp (maxDischargeDepth := 8) [results, Try.results23, go_sem, *]) rfl (ansN_no (by have h0 := HB0.out; (repeat (first | exact Below.refl _ _ | (refine Below.setCell ?_ (by (first | exact Nat.le_refl _ | omega | (simp <;> omega) | simp)) _) | (refine Below.alloc ?_ (by (first | exact Nat.le_refl _ | omega | (simp <;> omega) | simp)) _) | (refine below_draws ?_ _) | exact h0 | (refine Below.trans ?_ (Below.mono h0 (by (first | exact Nat.le_refl _ | omega | (simp <;> omega) | simp)))) | exact B1 | (refine Below.trans ?_ (Below.mono B1 (by (first | exact Nat.le_refl _ | omega | (simp <;> omega) | simp))))))))

  rw [hb] at HOK
  have hV := netB_iff.1 hb
  obtain ⟨n1, n5, e1, e2, s1, s2⟩ := id hV.1
  have hlen := wiresV_len hV.2.1 n5
  by_cases hn : n = 5
  · subst hn
    have h0 : triR 5 e s a b c ws = (0, 0, 0, [], false) := by
      by_cases h : TriOk 5 e s a b c ws
      · rw [triR_yes h]; exact redR_many (by omega)
      · exact triR_no h
    rw [h0]
    clear h0 hb hr hV
    go_enter Try.func23, Try.ntmps23
    go_wp2_with fail
    rw [← hW0]
    clear hW0
    refine HOK.out.mono ?_
    rintro en w1 ⟨rfl, B1⟩
    have S1 := B1.size
    clear x0 x1 x2 x3
    obtain ⟨x0, x1, x2, x3⟩ := HX.out.later B1
    obtain ⟨z0, z1, z2, z3, f0, f1, f2, f3, -⟩ := HZ.out.later B1
    go_wp2
    exact bodyPost_ret (v := .tuple #[.agg #[.int .i64 0, .int .i64 0, .int .i64 0, .slice none 0 0], .bool false]) (by simp (maxDischargeDepth := 8) [results, Try.results23, go_sem, *]) rfl (ansN_no (by have h0 := HB0.out; (repeat (first | exact Below.refl _ _ | (refine Below.setCell ?_ (by (first | exact Nat.le_refl _ | omega | (simp <;> omega) | simp)) _) | (refine Below.alloc ?_ (by (first | exact Nat.le_refl _ | omega | (simp <;> omega) | simp)) _) | (refine below_draws ?_ _) | exact h0 | (refine Below.trans ?_ (Below.mono h0 (by (first | exact Nat.le_refl _ | omega | (simp <;> omega) | simp)))) | exact B1 | (refine Below.trans ?_ (Below.mono B1 (by (first | exact Nat.le_refl _ | omega | (simp <;> omega) | simp))))))))

  have hn' : (n == 5) = false := by simpa using hn
  have hmn : IntKind.i64.wrap (n - 1) = n - 1 := IntWalk.i64_in _ (by omega)
  have hmn2 : wrap64 (n - 1) = n - 1 := by unfold wrap64; omega
  by_cases ha : 0 ≤ a ∧ a ≤ n - 1
  case neg =>
    rw [triR_no (fun h => ha ⟨h.2.1, by have := h.2.2.1; have := h.2.2.2.1; have := h.2.2.2.2.1; omega⟩)]
    have HA := Lib.hid (fun W => spec_in_no a 0 (n - 1) W (by omega))
    clear hb hr hV ha
    go_enter Try.func23, Try.ntmps23
    go_wp2_with fail
    rw [← hW0]
    clear hW0
    refine HOK.out.mono ?_
    rintro en w1 ⟨rfl, B1⟩
    have S1 := B1.size
    clear x0 x1 x2 x3
    obtain ⟨x0, x1, x2, x3⟩ := HX.out.later B1
    go_wp2_with fail
    refine (HA.out _).mono ?_
    rintro en wq ⟨rfl, rfl⟩
    obtain ⟨z0, z1, z2, z3, f0, f1, f2, f3, -⟩ := HZ.out.later B1
    go_wp2
    exact bodyPost_ret (v := .tuple #[.agg #[.int .i64 0, .int .i64 0, .int .i64 0, .slice none 0 0], .bool false]) (by simp (maxDischargeDepth := 8) [results, Try.results23, go_sem, *]) rfl (ansN_no (by have h0 := HB0.out; (repeat (first | exact Below.refl _ _ | (refine Below.setCell ?_ (by (first | exact Nat.le_refl _ | omega | (simp <;> omega) | simp)) _) | (refine Below.alloc ?_ (by (first | exact Nat.le_refl _ | omega | (simp <;> omega) | simp)) _) | (refine below_draws ?_ _) | exact h0 | (refine Below.trans ?_ (Below.mono h0 (by (first | exact Nat.le_refl _ | omega | (simp <;> omega) | simp)))) | exact B1 | (refine Below.trans ?_ (Below.mono B1 (by (first | exact Nat.le_refl _ | omega | (simp <;> omega) | simp))))))))

  have HA := Lib.hid (fun W => spec_in_yes a 0 (n - 1) W ha.1 ha.2)
  have hma : IntKind.i64.wrap (a + 1) = a + 1 := IntWalk.i64_in _ (by omega)
  have hma2 : wrap64 (a + 1) = a + 1 := by unfold wrap64; omega
  by_cases hB : a + 1 ≤ b ∧ b ≤ n - 1
  case neg =>
    rw [triR_no (fun h => hB ⟨by have := h.2.2.1; omega, by have := h.2.2.2.1; have := h.2.2.2.2.1; omega⟩)]
    have HBI := Lib.hid (fun W => spec_in_no b (a + 1) (n - 1) W (by omega))
    clear hb hr hV ha hB
    go_enter Try.func23, Try.ntmps23
    go_wp2_with fail
    rw [← hW0]
    clear hW0
    refine HOK.out.mono ?_
    rintro en w1 ⟨rfl, B1⟩
    have S1 := B1.size
    clear x0 x1 x2 x3
    obtain ⟨x0, x1, x2, x3⟩ := HX.out.later B1
    go_wp2_with fail
    refine (HA.out _).mono ?_
    rintro en wq ⟨rfl, rfl⟩
    go_wp2_with fail
    refine (HBI.out _).mono ?_
    rintro en wq ⟨rfl, rfl⟩
    obtain ⟨z0, z1, z2, z3, f0, f1, f2, f3, -⟩ := HZ.out.later B1
    go_wp2
    exact bodyPost_ret (v := .tuple #[.agg #[.int .i64 0, .int .i64 0, .int .i64 0, .slice none 0 0], .bool false]) (by simp (maxDischargeDepth := 8) [results, Try.results23, go_sem, *]) rfl (ansN_no (by have h0 := HB0.out; (repeat (first | exact Below.refl _ _ | (refine Below.setCell ?_ (by (first | exact Nat.le_refl _ | omega | (simp <;> omega) | simp)) _) | (refine Below.alloc ?_ (by (first | exact Nat.le_refl _ | omega | (simp <;> omega) | simp)) _) | (refine below_draws ?_ _) | exact h0 | (refine Below.trans ?_ (Below.mono h0 (by (first | exact Nat.le_refl _ | omega | (simp <;> omega) | simp)))) | exact B1 | (refine Below.trans ?_ (Below.mono B1 (by (first | exact Nat.le_refl _ | omega | (simp <;> omega) | simp))))))))

  have HBI := Lib.hid (fun W => spec_in_yes b (a + 1) (n - 1) W hB.1 hB.2)
  have hmb : IntKind.i64.wrap (b + 1) = b + 1 := IntWalk.i64_in _ (by omega)
  have hmb2 : wrap64 (b + 1) = b + 1 := by unfold wrap64; omega
  by_cases hC : b + 1 ≤ c ∧ c ≤ n - 1
  case neg =>
    rw [triR_no (fun h => hC ⟨by have := h.2.2.2.1; omega, by have := h.2.2.2.2.1; omega⟩)]
    have HCI := Lib.hid (fun W => spec_in_no c (b + 1) (n - 1) W (by omega))
    clear hb hr hV ha hB hC
    go_enter Try.func23, Try.ntmps23
    go_wp2_with fail
    rw [← hW0]
    clear hW0
    refine HOK.out.mono ?_
    rintro en w1 ⟨rfl, B1⟩
    have S1 := B1.size
    clear x0 x1 x2 x3
    obtain ⟨x0, x1, x2, x3⟩ := HX.out.later B1
    go_wp2_with fail
    refine (HA.out _).mono ?_
    rintro en wq ⟨rfl, rfl⟩
    go_wp2_with fail
    refine (HBI.out _).mono ?_
    rintro en wq ⟨rfl, rfl⟩
    go_wp2_with fail
    refine (HCI.out _).mono ?_
    rintro en wq ⟨rfl, rfl⟩
    obtain ⟨z0, z1, z2, z3, f0, f1, f2, f3, -⟩ := HZ.out.later B1
    go_wp2
    exact bodyPost_ret (v := .tuple #[.agg #[.int .i64 0, .int .i64 0, .int .i64 0, .slice none 0 0], .bool false]) (by simp (maxDischargeDepth := 8) [results, Try.results23, go_sem, *]) rfl (ansN_no (by have h0 := HB0.out; (repeat (first | exact Below.refl _ _ | (refine Below.setCell ?_ (by (first | exact Nat.le_refl _ | omega | (simp <;> omega) | simp)) _) | (refine Below.alloc ?_ (by (first | exact Nat.le_refl _ | omega | (simp <;> omega) | simp)) _) | (refine below_draws ?_ _) | exact h0 | (refine Below.trans ?_ (Below.mono h0 (by (first | exact Nat.le_refl _ | omega | (simp <;> omega) | simp)))) | exact B1 | (refine Below.trans ?_ (Below.mono B1 (by (first | exact Nat.le_refl _ | omega | (simp <;> omega) | simp))))))))

  have HCI := Lib.hid (fun W => spec_in_yes c (b + 1) (n - 1) W hC.1 hC.2)
  have HWX := Lib.hid (fun W h => spec_wBtw n e s a b v ws W h)
  have HWY := Lib.hid (fun W h => spec_wBtw n e s b c v ws W h)
  have HWZ := Lib.hid (fun W h => spec_wBtw n e s a c v ws W h)
  by_cases hx : wBtw ws a b = 0 ∨ wBtw ws b c = 0 ∨ wBtw ws a c = 0
  · rw [triR_no (fun h => by
      obtain ⟨_, _, _, _, _, q1, q2, q3⟩ := h
      rcases hx with h | h | h
      · exact q1 h
      · exact q2 h
      · exact q3 h)]
    generalize wBtw ws a b = x at *
    generalize wBtw ws b c = y at *
    generalize wBtw ws a c = z at *
    clear hb hr hV ha hB hC
    have hd : x = 0 ∨ (x ≠ 0 ∧ y = 0) ∨ (x ≠ 0 ∧ y ≠ 0 ∧ z = 0) := by omega
    clear hx
    rcases hd with rfl | ⟨q1, rfl⟩ | ⟨q1, q2, rfl⟩
    · skip
      go_enter Try.func23, Try.ntmps23
      go_wp2_with fail
      rw [← hW0]
      clear hW0
      refine HOK.out.mono ?_
      rintro en w1 ⟨rfl, B1⟩
      have S1 := B1.size
      clear x0 x1 x2 x3
      obtain ⟨x0, x1, x2, x3⟩ := HX.out.later B1
      go_wp2_with fail
      refine (HA.out _).mono ?_
      rintro en wq ⟨rfl, rfl⟩
      go_wp2_with fail
      refine (HBI.out _).mono ?_
      rintro en wq ⟨rfl, rfl⟩
      go_wp2_with fail
      refine (HCI.out _).mono ?_
      rintro en wq ⟨rfl, rfl⟩
      go_wp2_with fail
      refine (HWX.out _ (HR0.out.later B1)).mono ?_
      rintro en w2 ⟨rfl, B2⟩
      have S2 := B2.size
      clear x0 x1 x2 x3
      obtain ⟨x0, x1, x2, x3⟩ := (HX.out.later B1).later B2
      go_wp2_with fail
      refine (HWY.out _ ((HR0.out.later B1).later B2)).mono ?_
      rintro en w3 ⟨rfl, B3⟩
      have S3 := B3.size
      clear x0 x1 x2 x3
      obtain ⟨x0, x1, x2, x3⟩ := ((HX.out.later B1).later B2).later B3
      go_wp2_with fail
      refine (HWZ.out _ (((HR0.out.later B1).later B2).later B3)).mono ?_
      rintro en w4 ⟨rfl, B4⟩
      have S4 := B4.size
      clear x0 x1 x2 x3
      obtain ⟨z0, z1, z2, z3, f0, f1, f2, f3, -⟩ := (((HZ.out.later B1).later B2).later B3).later B4
      go_wp2
      exact bodyPost_ret (v := .tuple #[.agg #[.int .i64 0, .int .i64 0, .int .i64 0, .slice none 0 0], .bool false]) (by simp (maxDischargeDepth := 8) [results, Try.results23, go_sem, *]) rfl (ansN_no (by have h0 := HB0.out; (repeat (first | exact Below.refl _ _ | (refine Below.setCell ?_ (by (first | exact Nat.le_refl _ | omega | (simp <;> omega) | simp)) _) | (refine Below.alloc ?_ (by (first | exact Nat.le_refl _ | omega | (simp <;> omega) | simp)) _) | (refine below_draws ?_ _) | exact h0 | (refine Below.trans ?_ (Below.mono h0 (by (first | exact Nat.le_refl _ | omega | (simp <;> omega) | simp)))) | exact B1 | (refine Below.trans ?_ (Below.mono B1 (by (first | exact Nat.le_refl _ | omega | (simp <;> omega) | simp)))) | exact B2 | (refine Below.trans ?_ (Below.mono B2 (by (first | exact Nat.le_refl _ | omega | (simp <;> omega) | simp)))) | exact B3 | (refine Below.trans ?_ (Below.mono B3 (by (first | exact Nat.le_refl _ | omega | (simp <;> omega) | simp)))) | exact B4 | (refine Below.trans ?_ (Below.mono B4 (by (first | exact Nat.le_refl _ | omega | (simp <;> omega) | simp))))))))

    · have q1' : (x == 0) = false := by simpa using q1
      go_enter Try.func23, Try.ntmps23
      go_wp2_with fail
      rw [← hW0]
      clear hW0
      refine HOK.out.mono ?_
      rintro en w1 ⟨rfl, B1⟩
      have S1 := B1.size
      clear x0 x1 x2 x3
      obtain ⟨x0, x1, x2, x3⟩ := HX.out.later B1
      go_wp2_with fail
      refine (HA.out _).mono ?_
      rintro en wq ⟨rfl, rfl⟩
      go_wp2_with fail
      refine (HBI.out _).mono ?_
      rintro en wq ⟨rfl, rfl⟩
      go_wp2_with fail
      refine (HCI.out _).mono ?_
      rintro en wq ⟨rfl, rfl⟩
      go_wp2_with fail
      refine (HWX.out _ (HR0.out.later B1)).mono ?_
      rintro en w2 ⟨rfl, B2⟩
      have S2 := B2.size
      clear x0 x1 x2 x3
      obtain ⟨x0, x1, x2, x3⟩ := (HX.out.later B1).later B2
      go_wp2_with fail
      refine (HWY.out _ ((HR0.out.later B1).later B2)).mono ?_
      rintro en w3 ⟨rfl, B3⟩
      have S3 := B3.size
      clear x0 x1 x2 x3
      obtain ⟨x0, x1, x2, x3⟩ := ((HX.out.later B1).later B2).later B3
      go_wp2_with fail
      refine (HWZ.out _ (((HR0.out.later B1).later B2).later B3)).mono ?_
      rintro en w4 ⟨rfl, B4⟩
      have S4 := B4.size
      clear x0 x1 x2 x3
      obtain ⟨z0, z1, z2, z3, f0, f1, f2, f3, -⟩ := (((HZ.out.later B1).later B2).later B3).later B4
      go_wp2
      exact bodyPost_ret (v := .tuple #[.agg #[.int .i64 0, .int .i64 0, .int .i64 0, .slice none 0 0], .bool false]) (by simp (maxDischargeDepth := 8) [results, Try.results23, go_sem, *]) rfl (ansN_no (by have h0 := HB0.out; (repeat (first | exact Below.refl _ _ | (refine Below.setCell ?_ (by (first | exact Nat.le_refl _ | omega | (simp <;> omega) | simp)) _) | (refine Below.alloc ?_ (by (first | exact Nat.le_refl _ | omega | (simp <;> omega) | simp)) _) | (refine below_draws ?_ _) | exact h0 | (refine Below.trans ?_ (Below.mono h0 (by (first | exact Nat.le_refl _ | omega | (simp <;> omega) | simp)))) | exact B1 | (refine Below.trans ?_ (Below.mono B1 (by (first | exact Nat.le_refl _ | omega | (simp <;> omega) | simp)))) | exact B2 | (refine Below.trans ?_ (Below.mono B2 (by (first | exact Nat.le_refl _ | omega | (simp <;> omega) | simp)))) | exact B3 | (refine Below.trans ?_ (Below.mono B3 (by (first | exact Nat.le_refl _ | omega | (simp <;> omega) | simp)))) | exact B4 | (refine Below.trans ?_ (Below.mono B4 (by (first | exact Nat.le_refl _ | omega | (simp <;> omega) | simp))))))))

    · have q1' : (x == 0) = false := by simpa using q1
      have q2' : (y == 0) = false := by simpa using q2
      go_enter Try.func23, Try.ntmps23
      go_wp2_with fail
      rw [← hW0]
      clear hW0
      refine HOK.out.mono ?_
      rintro en w1 ⟨rfl, B1⟩
      have S1 := B1.size
      clear x0 x1 x2 x3
      obtain ⟨x0, x1, x2, x3⟩ := HX.out.later B1
      go_wp2_with fail
      refine (HA.out _).mono ?_
      rintro en wq ⟨rfl, rfl⟩
      go_wp2_with fail
      refine (HBI.out _).mono ?_
      rintro en wq ⟨rfl, rfl⟩
      go_wp2_with fail
      refine (HCI.out _).mono ?_
      rintro en wq ⟨rfl, rfl⟩
      go_wp2_with fail
      refine (HWX.out _ (HR0.out.later B1)).mono ?_
      rintro en w2 ⟨rfl, B2⟩
      have S2 := B2.size
      clear x0 x1 x2 x3
      obtain ⟨x0, x1, x2, x3⟩ := (HX.out.later B1).later B2
      go_wp2_with fail
      refine (HWY.out _ ((HR0.out.later B1).later B2)).mono ?_
      rintro en w3 ⟨rfl, B3⟩
      have S3 := B3.size
      clear x0 x1 x2 x3
      obtain ⟨x0, x1, x2, x3⟩ := ((HX.out.later B1).later B2).later B3
      go_wp2_with fail
      refine (HWZ.out _ (((HR0.out.later B1).later B2).later B3)).mono ?_
      rintro en w4 ⟨rfl, B4⟩
      have S4 := B4.size
      clear x0 x1 x2 x3
      obtain ⟨z0, z1, z2, z3, f0, f1, f2, f3, -⟩ := (((HZ.out.later B1).later B2).later B3).later B4
      go_wp2
      exact bodyPost_ret (v := .tuple #[.agg #[.int .i64 0, .int .i64 0, .int .i64 0, .slice none 0 0], .bool false]) (by simp (maxDischargeDepth := 8) [results, Try.results23, go_sem, *]) rfl (ansN_no (by have h0 := HB0.out; (repeat (first | exact Below.refl _ _ | (refine Below.setCell ?_ (by (first | exact Nat.le_refl _ | omega | (simp <;> omega) | simp)) _) | (refine Below.alloc ?_ (by (first | exact Nat.le_refl _ | omega | (simp <;> omega) | simp)) _) | (refine below_draws ?_ _) | exact h0 | (refine Below.trans ?_ (Below.mono h0 (by (first | exact Nat.le_refl _ | omega | (simp <;> omega) | simp)))) | exact B1 | (refine Below.trans ?_ (Below.mono B1 (by (first | exact Nat.le_refl _ | omega | (simp <;> omega) | simp)))) | exact B2 | (refine Below.trans ?_ (Below.mono B2 (by (first | exact Nat.le_refl _ | omega | (simp <;> omega) | simp)))) | exact B3 | (refine Below.trans ?_ (Below.mono B3 (by (first | exact Nat.le_refl _ | omega | (simp <;> omega) | simp)))) | exact B4 | (refine Below.trans ?_ (Below.mono B4 (by (first | exact Nat.le_refl _ | omega | (simp <;> omega) | simp))))))))

  have hOk : TriOk n e s a b c ws := ⟨hb, ha.1, by omega, by omega, by omega, fun h => hx (.inl h), fun h => hx (.inr (.inl h)), fun h => hx (.inr (.inr h))⟩
  rw [triR_yes hOk]
  obtain ⟨N, rfl⟩ : ∃ N : Nat, n = N := ⟨n.toNat, by omega⟩
  exact spec_triangle_yes N e s a b c v ws w hr hOk hn
end Go.Proofs.Ythhnicbkldknlaa
