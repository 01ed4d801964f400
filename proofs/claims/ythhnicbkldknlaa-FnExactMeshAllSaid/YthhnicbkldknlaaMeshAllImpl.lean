/-
  MeshAll in the program.
-/
import Derived.Test.YthhnicbkldknlaaMeshAllSpec
import Derived.Test.YthhnicbkldknlaaStarMeshImpl
import Derived.Test.YthhnicbkldknlaaCanonBoth
namespace Go.Proofs.Ythhnicbkldknlaa
open Go.RowKit Go.Maps

theorem redR_false {n e s a b c : Int} {ws d : List W3} (h : redR n e s ws = (a, b, c, d, false)) : (a, b, c, d, false) = ((0 : Int), (0 : Int), (0 : Int), ([] : List W3), false) := by
  unfold redR at h
  split at h
  · simp at h
  · exact h.symm
theorem ownsW_set4 {W : World} {base B n : Nat} {v u0 u1 u2 u3 : Value} {xs : List Value} (h : W.ownsRow base 35 3 v n xs) (hne : v.ownBlock ≠ some B) : ((((W.setCell ⟨B, 0, none⟩ u0).setCell ⟨B, 1, none⟩ u1).setCell ⟨B, 2, none⟩ u2).setCell ⟨B, 3, none⟩ u3).ownsRow base 35 3 v n xs :=
  (((h.kept (grown_set _ B 0 u0) (.inr hne)).kept (grown_set _ B 1 u1) (.inr hne)).kept (grown_set _ B 2 u2) (.inr hne)).kept (grown_set _ B 3 u3) (.inr hne)
set_option maxRecDepth 8000 in
set_option maxHeartbeats 12800000 in
theorem impl_meshAll_yes (N : Nat) (e s : Int) (v : Value) (ws : List W3) (w : World) (hr : ReadsW w v ws) (hb : netB N e s ws = true) :
    Calls Try.prog 22 #[.agg #[.int .i64 N, .int .i64 e, .int .i64 s, v]] w (AnsN w (allR e N s ws)) := by
  have hV := netB_iff.1 hb
  have hlen := wiresV_len hV.2.1 hV.1.2.1
  obtain ⟨g1, -, -, hVc, hRc⟩ := canon_facts hV
  have hB0 := WiresB.of hV.2.1
  have hR1 := (redR_twice hV.1.2.2.2.2.1 (by have := hV.1.2.2.2.2.2; omega) hB0 hRc).2.2.2
  rw [allR_canon hV]
  have hcan := fun W h => impl_canon N e s v ws W h (by omega)
  rw [canR_yes hb] at hcan
  simp only at hcan
  generalize s.tdiv (gAll s ws) = S1 at *
  generalize ws.map (divW (gAll s ws)) = WS1 at *
  obtain ⟨n', e', s', out, bb, hR⟩ : ∃ n' e' s' out bb, allR e N S1 WS1 = (n', e', s', out, bb) := ⟨_, _, _, _, _, rfl⟩
  rw [hR]
  have HCAN := Lib.hid hcan
  have HST : Hid (∃ M : Nat, (N : Int) = M ∧ NetV M e S1 WS1 ∧ redR (M : Int) e S1 WS1 = ((M : Int), e, S1, WS1, true) ∧ allR e M S1 WS1 = (n', e', s', out, bb)) := Lib.hid ⟨N, rfl, hVc, hR1, hR⟩
  obtain ⟨W0, hW0⟩ : ∃ W0, W0 = (w.alloc (.cells #[.int .i64 N, .int .i64 e, .int .i64 s, v] 25)).alloc (.cells #[.int .i64 0, .int .i64 0, .int .i64 0, .slice none 0 0] 25) := ⟨_, rfl⟩
  have hs0 : W0.heap.size = w.heap.size + 2 := by rw [hW0]; simp
  have HX : Hid (boxN W0 w.heap.size N e s v) := Lib.hid (by rw [hW0]; exact (boxN.new w N e s v 25).later (by (repeat (first | exact Below.refl _ _ | (refine Below.setCell ?_ (by (first | exact Nat.le_refl _ | omega | (simp <;> omega) | simp)) _) | (refine Below.alloc ?_ (by (first | exact Nat.le_refl _ | omega | (simp <;> omega) | simp)) _) | (refine below_draws ?_ _)))))
  have HZ : Hid (box4 W0 (w.heap.size + 1) (.int .i64 0) (.int .i64 0) (.int .i64 0) (.slice none 0 0)) := Lib.hid (by rw [hW0]; have h := box4.new (w.alloc (.cells #[.int .i64 N, .int .i64 e, .int .i64 s, v] 25)) (.int .i64 0) (.int .i64 0) (.int .i64 0) (.slice none 0 0) 25; simpa using h)
  have HB0 : Hid (Below w.heap.size w W0) := Lib.hid (by rw [hW0]; (repeat (first | exact Below.refl _ _ | (refine Below.setCell ?_ (by (first | exact Nat.le_refl _ | omega | (simp <;> omega) | simp)) _) | (refine Below.alloc ?_ (by (first | exact Nat.le_refl _ | omega | (simp <;> omega) | simp)) _) | (refine below_draws ?_ _))))
  have HR0 := Lib.hid (hr.later HB0.out)
  obtain ⟨x0, x1, x2, x3⟩ := HX.out
  clear hb hr hV hcan hVc hRc hR1 hR hB0 g1
  go_enter Try.func22, Try.ntmps22
  go_wp2_with fail
  rw [← hW0]
  clear hW0
  refine (HCAN.out _ HR0.out).mono ?_
  rintro en w1 ⟨p1, c1, rfl, o1, B1⟩
  have S1' := B1.size
  have HA1 : Hid ((Value.slice p1 WS1.length c1).ownBlock ≠ some w1.heap.size) := Lib.hid (fun hh => by have h9 := (o1.lt _ hh).2; omega)
  have HBX := Lib.hid (box4.new w1 (.int .i64 N) (.int .i64 e) (.int .i64 S1) (.slice p1 WS1.length c1) 25)
  have HO1 : Hid (World.ownsRow (w1.alloc (.cells #[.int .i64 N, .int .i64 e, .int .i64 S1, .slice p1 WS1.length c1] 25)) (w.heap.size + 2) 35 3 (.slice p1 WS1.length c1) WS1.length (cellsW WS1)) := Lib.hid ((owns_mono o1 (by omega)).alloc _)
  have HB01 : Hid (Below W0.heap.size W0 (w1.alloc (.cells #[.int .i64 N, .int .i64 e, .int .i64 S1, .slice p1 WS1.length c1] 25))) := Lib.hid (by (repeat (first | exact Below.refl _ _ | (refine Below.setCell ?_ (by (first | exact Nat.le_refl _ | omega | (simp <;> omega) | simp)) _) | (refine Below.alloc ?_ (by (first | exact Nat.le_refl _ | omega | (simp <;> omega) | simp)) _) | (refine below_draws ?_ _) | exact B1 | (refine Below.trans ?_ (Below.mono B1 (by (first | exact Nat.le_refl _ | omega | (simp <;> omega) | simp)))))))
  have hsw : W0.heap.size ≤ (w1.alloc (.cells #[.int .i64 N, .int .i64 e, .int .i64 S1, .slice p1 WS1.length c1] 25)).heap.size := by simp; omega
  obtain ⟨B, hB⟩ : ∃ B, B = w1.heap.size := ⟨_, rfl⟩
  have hBl : W0.heap.size ≤ B := by omega
  clear x0 x1 x2 x3 o1 B1
  go_wp2
  rw [← hB] at HBX HA1 ⊢
  clear hB
  go_loopw [5] (fun ov wi => ∃ (okb : Bool) (n1 e1 s1 : Int) (ws1 : List W3) (q1 : Option Addr) (c1 : Nat), ov = .bool okb ∧ Hid (box4 wi B (.int .i64 n1) (.int .i64 e1) (.int .i64 s1) (.slice q1 ws1.length c1)) ∧ Hid (wi.ownsRow (w.heap.size + 2) 35 3 (.slice q1 ws1.length c1) ws1.length (cellsW ws1)) ∧ Hid ((Value.slice q1 ws1.length c1).ownBlock ≠ some B) ∧ Hid (okb = true → ∃ M : Nat, n1 = M ∧ e1 = e ∧ NetV M e s1 ws1 ∧ redR (M : Int) e s1 ws1 = ((M : Int), e, s1, ws1, true) ∧ allR e M s1 ws1 = (n', e', s', out, bb)) ∧ Hid (okb = false → (n1, e1, s1, ws1, false) = (n', e', s', out, bb)) ∧ W0.heap.size ≤ wi.heap.size ∧ Hid (Below W0.heap.size W0 wi)) (fun ov wi => match ov, wi.cell? ⟨B, 0, none⟩ with | .bool true, some (.int _ m) => m.toNat + 1 | _, _ => 0)
  case atStart => exact ⟨true, N, e, S1, WS1, p1, c1, rfl, HBX, HO1, HA1, Lib.hid (fun _ => let ⟨M, a, b, c, d⟩ := HST.out; ⟨M, a, rfl, b, c, d⟩), Lib.hid (fun h => by cases h), hsw, HB01⟩
  case round =>
    clear HBX HO1 HA1 HST hsw HB01
    obtain ⟨okb, n1, e1, s1, ws1, q1, c1, rfl, hbx, hown, hap, hyes, hno, hsz, hB⟩ := hrel
    obtain ⟨b0, b1, b2, b3, bf0, bf1, bf2, bf3, bl⟩ := hbx.out
    cases okb
    · have hres := hno.out rfl
      simp only [Prod.mk.injEq] at hres
      obtain ⟨rfl, rfl, rfl, rfl, rfl⟩ := hres
      have hz := (HZ.out.later hB.out)
      obtain ⟨z0, z1, z2, z3, f0, f1, f2, f3, -⟩ := hz
      go_wp2
      exact bodyPost_ret (v := .tuple #[.agg #[.int .i64 n1, .int .i64 e1, .int .i64 s1, .slice q1 ws1.length c1], .bool false]) (by simp (maxDischargeDepth := 8) [results, Try.results22, go_sem, *]) rfl ⟨q1, c1, rfl, by have o4 := hown.out; have hsz' := hsz; refine owns_mono (base := w.heap.size + 2) ?_ (by omega); ((repeat (refine ownsRow_setCell_below ?_ ?_ _; rotate_left; focus (first | omega | (simp; done) | (simp; omega)))); with_reducible exact o4), by have h1 := HB0.out; have h2 := hB.out; (repeat (first | exact Below.refl _ _ | (refine Below.setCell ?_ (by (first | exact Nat.le_refl _ | omega | (simp <;> omega) | simp)) _) | (refine Below.alloc ?_ (by (first | exact Nat.le_refl _ | omega | (simp <;> omega) | simp)) _) | (refine below_draws ?_ _) | exact h1 | (refine Below.trans ?_ (Below.mono h1 (by (first | exact Nat.le_refl _ | omega | (simp <;> omega) | simp)))) | exact h2 | (refine Below.trans ?_ (Below.mono h2 (by (first | exact Nat.le_refl _ | omega | (simp <;> omega) | simp))))))⟩
    · obtain ⟨M, rfl, rfl, hVV, hRd, hAll⟩ := hyes.out rfl
      have hM1 := hVV.1.1
      have hM5 := hVV.1.2.1
      have hrd := ReadsW.of_own hown.out
      by_cases hlt : e1 < (M : Int)
      · obtain ⟨M, rfl⟩ : ∃ M', M = M' + 1 := ⟨M - 1, by omega⟩
        have hOk : StarOk ((M + 1 : Nat) : Int) e1 s1 (M : Nat) ws1 := ⟨netB_true hVV, by omega, by omega⟩
        have hfa := star_facts hOk
        have hsa := fun W h => impl_starAt_yes (M + 1) e1 s1 M (.slice q1 ws1.length c1) ws1 W h hOk
        have hrs := fun W h => impl_replStar (M + 1) e1 s1 M (.slice q1 ws1.length c1) ws1 W h hOk
        have hml := wiresV_len hVV.2.1 hM5
        have hwa := wAt_le hVV.2.1 hM5 (M : Int) (by omega) (by omega)
        have hsr := (meshR_srt (v := M) hVV.2.1 (by omega) (by omega) hml).1
        have hsB1 := hVV.1.2.2.2.2.1
        have hsB2 := hVV.1.2.2.2.2.2
        have hwp := hfa.2.2.2
        have hsm : 1 ≤ s1 * wAt ws1 (M : Int) ∧ s1 * wAt ws1 (M : Int) ≤ 800000 := by
          have a1 := Int.mul_le_mul hsB2 hwa.2 hwa.1 (by omega : (0 : Int) ≤ 1000)
          have a2 := Int.mul_le_mul hsB1 hwp (by omega) (by omega : (0 : Int) ≤ s1)
          omega
        obtain ⟨n2, e2, s2, out2, bb2, hR2⟩ : ∃ n2 e2 s2 out2 bb2, redR (((M + 1 : Nat) : Int) - 1) e1 (s1 * wAt ws1 (M : Int)) (meshR (M + 1) ws1 M) = (n2, e2, s2, out2, bb2) := ⟨_, _, _, _, _, rfl⟩
        rw [hR2] at hrs
        have HSA := Lib.hid hsa
        have HRS := Lib.hid hrs
        have HNEW : Hid ((bb2 = true → ∃ K : Nat, n2 = K ∧ e2 = e1 ∧ NetV K e1 s2 out2 ∧ redR (K : Int) e1 s2 out2 = ((K : Int), e1, s2, out2, true) ∧ allR e1 K s2 out2 = (n', e', s', out, bb)) ∧ (bb2 = false → (n2, e2, s2, out2, false) = (n', e', s', out, bb)) ∧ (bb2 = true → n2 = (M : Int))) := Lib.hid (by
          refine ⟨fun h => ?_, fun h => ?_, fun h => ?_⟩
          · subst h
            obtain ⟨a1, a2, a3, a4⟩ := redR_twice hsm.1 (by omega) (hsr.bound (by omega)) hR2
            rw [show ((M + 1 : Nat) : Int) - 1 = (M : Int) by omega] at a1 a3 a4
            exact ⟨M, a1, a2, a3, a4, (allR_go hlt hR2).symm.trans hAll⟩
          · subst h
            rw [redR_false hR2]
            exact (allR_stop hlt hR2).symm.trans hAll
          · subst h
            obtain ⟨a1, -⟩ := redR_twice hsm.1 (by omega) (hsr.bound (by omega)) hR2
            omega)
        have hmm : IntKind.i64.wrap (((M + 1 : Nat) : Int) - 1) = (M : Int) := by rw [IntWalk.i64_in _ (by omega)]; omega
        have hmm2 : wrap64 (((M + 1 : Nat) : Int) - 1) = (M : Int) := by unfold wrap64; omega
        have hss := as_ss
        have HRD := Lib.hid hrd
        clear hsa hrs hml hwa hsr hsB1 hsB2 hwp hsm hR2 hfa hOk hVV hRd hAll hrd hlt
        go_wp2_with fail
        refine (HSA.out _ HRD.out).mono ?_
        rintro en w4 ⟨rfl, B4⟩
        have S4 := B4.size
        have HBX4 := Lib.hid (hbx.out.later B4)
        have HB4 := Lib.hid (hB.out.trans (B4.mono hsz))
        have hr4 := HRD.out.later B4
        have hbne : B ≠ w4.heap.size := by omega
        have y0 := fun ob => (HBX4.out.alloc ob).1
        have y1 := fun ob => (HBX4.out.alloc ob).2.1
        have y2 := fun ob => (HBX4.out.alloc ob).2.2.1
        have y3 := fun ob => (HBX4.out.alloc ob).2.2.2.1
        have hr5 := hr4.later ((Below.refl _ _).alloc (Nat.le_refl _) (.cells #[.int .i64 M] 86))
        have HRR5 := Lib.hid hr5
        clear b0 b1 b2 b3 bf0 bf1 bf2 bf3 B4 hr4 hr5
        go_wp2_with fail
        refine (HRS.out _ HRR5.out).mono ?_
        rintro en w5 ⟨p5, c5, rfl, o5, B5⟩
        have S5 := B5.size
        simp at S5
        have HBX5 := Lib.hid ((HBX4.out.alloc (.cells #[.int .i64 M] 86)).later B5)
        have HB5 : Hid (Below W0.heap.size W0 w5) := Lib.hid (by have h4 := HB4.out; (repeat (first | exact Below.refl _ _ | (refine Below.setCell ?_ (by (first | exact Nat.le_refl _ | omega | (simp <;> omega) | simp)) _) | (refine Below.alloc ?_ (by (first | exact Nat.le_refl _ | omega | (simp <;> omega) | simp)) _) | (refine below_draws ?_ _) | exact h4 | (refine Below.trans ?_ (Below.mono h4 (by (first | exact Nat.le_refl _ | omega | (simp <;> omega) | simp)))) | exact B5 | (refine Below.trans ?_ (Below.mono B5 (by (first | exact Nat.le_refl _ | omega | (simp <;> omega) | simp)))))))
        have HO5 := Lib.hid o5
        obtain ⟨x0, x1, x2, x3, xf0, xf1, xf2, xf3, xl⟩ := HBX5.out
        clear y0 y1 y2 y3 o5 B5
        go_wp2
        have q1' := HBX5.out.put4 (a' := .int .i64 n2) (b' := .int .i64 e2) (c' := .int .i64 s2) (d' := .slice p5 out2.length c5)
        have hne5 : (Value.slice p5 out2.length c5).ownBlock ≠ some B := fun hh => by have h9 := (HO5.out.lt _ hh).1; simp at h9; omega
        have r1 := ownsW_set4 (B := B) (u0 := .int .i64 n2) (u1 := .int .i64 e2) (u2 := .int .i64 s2) (u3 := .slice p5 out2.length c5) (owns_mono (base := _) (base' := w.heap.size + 2) HO5.out (by simp; omega)) hne5
        have b1 := below_put4 (g := B) (a' := .int .i64 n2) (b' := .int .i64 e2) (c' := .int .i64 s2) (d' := .slice p5 out2.length c5) HB5.out (by omega)
        have g1 := hbx.out.1
        clear x0 x1 x2 x3 xf0 xf1 xf2 xf3 HBX5 HO5 HB5
        generalize (((w5.setCell ⟨B, 0, none⟩ (.int .i64 n2)).setCell ⟨B, 1, none⟩ (.int .i64 e2)).setCell ⟨B, 2, none⟩ (.int .i64 s2)).setCell ⟨B, 3, none⟩ (.slice p5 out2.length c5) = W6 at *
        refine ⟨⟨bb2, n2, e2, s2, out2, p5, c5, rfl, Lib.hid q1', Lib.hid r1, Lib.hid hne5, Lib.hid HNEW.out.1, Lib.hid HNEW.out.2.1, b1.size, Lib.hid b1⟩, ?_⟩
        rw [q1'.1, g1]
        cases bb2
        · simp
        · rw [HNEW.out.2.2 rfl]; simp
      · have hOk : ¬ StarOk (M : Int) e1 s1 ((M : Int) - 1) ws1 := fun h => by have := h.2.1; omega
        have hME : (M : Int) = e1 := by have := hVV.1.2.2.2.1; omega
        have hres : ((M : Int), e1, s1, ws1, true) = (n', e', s', out, bb) := by rw [← hRd, ← allR_end (ws := ws1) (s := s1) (show 1 ≤ M by omega) hlt]; exact hAll
        simp only [Prod.mk.injEq] at hres
        obtain ⟨rfl, rfl, rfl, rfl, rfl⟩ := hres
        have HSN := Lib.hid (fun W h => impl_starAt_no (M : Int) e1 s1 ((M : Int) - 1) (.slice q1 ws1.length c1) ws1 W h hOk)
        have hmm : IntKind.i64.wrap ((M : Int) - 1) = (M : Int) - 1 := IntWalk.i64_in _ (by omega)
        have hmm2 : wrap64 ((M : Int) - 1) = (M : Int) - 1 := by unfold wrap64; omega
        have hns := as_ns
        have HRD := Lib.hid hrd
        clear hOk hlt hME hVV hRd hAll hrd
        go_wp2_with fail
        refine (HSN.out _ HRD.out).mono ?_
        rintro en w4 ⟨rfl, B4⟩
        have S4 := B4.size
        have HBX4 := Lib.hid (hbx.out.later B4)
        have hbne : B ≠ w4.heap.size := by omega
        have hzne : w.heap.size + 1 ≠ w4.heap.size := by omega
        have hz := ((HZ.out.later hB.out).later B4)
        have y0 := fun ob => (HBX4.out.alloc ob).1
        have y1 := fun ob => (HBX4.out.alloc ob).2.1
        have y2 := fun ob => (HBX4.out.alloc ob).2.2.1
        have y3 := fun ob => (HBX4.out.alloc ob).2.2.2.1
        have z0 := fun ob => (hz.alloc ob).1
        have z1 := fun ob => (hz.alloc ob).2.1
        have z2 := fun ob => (hz.alloc ob).2.2.1
        have z3 := fun ob => (hz.alloc ob).2.2.2.1
        have f0 := fun ob => (hz.alloc ob).2.2.2.2.1
        have f1 := fun ob => (hz.alloc ob).2.2.2.2.2.1
        have f2 := fun ob => (hz.alloc ob).2.2.2.2.2.2.1
        have f3 := fun ob => (hz.alloc ob).2.2.2.2.2.2.2.1
        have HO4 := Lib.hid ((owns_later hown.out B4).alloc (.cells #[.int .i64 0] 86))
        have HB4 : Hid (Below w.heap.size w w4) := Lib.hid (by have h1 := HB0.out; have h2 := hB.out; (repeat (first | exact Below.refl _ _ | (refine Below.setCell ?_ (by (first | exact Nat.le_refl _ | omega | (simp <;> omega) | simp)) _) | (refine Below.alloc ?_ (by (first | exact Nat.le_refl _ | omega | (simp <;> omega) | simp)) _) | (refine below_draws ?_ _) | exact h1 | (refine Below.trans ?_ (Below.mono h1 (by (first | exact Nat.le_refl _ | omega | (simp <;> omega) | simp)))) | exact h2 | (refine Below.trans ?_ (Below.mono h2 (by (first | exact Nat.le_refl _ | omega | (simp <;> omega) | simp)))) | exact B4 | (refine Below.trans ?_ (Below.mono B4 (by (first | exact Nat.le_refl _ | omega | (simp <;> omega) | simp)))))))
        clear b0 b1 b2 b3 bf0 bf1 bf2 bf3 hz B4
        go_wp2
        exact bodyPost_ret (v := .tuple #[.agg #[.int .i64 M, .int .i64 e1, .int .i64 s1, .slice q1 ws1.length c1], .bool true]) (by simp (maxDischargeDepth := 8) [results, Try.results22, go_sem, *]) rfl ⟨q1, c1, rfl, by have o4 := HO4.out; refine owns_mono (base := w.heap.size + 2) ?_ (by omega); ((repeat (refine ownsRow_setCell_below ?_ ?_ _; rotate_left; focus (first | omega | (simp; done) | (simp; omega)))); with_reducible exact o4), by have h4 := HB4.out; (repeat (first | exact Below.refl _ _ | (refine Below.setCell ?_ (by (first | exact Nat.le_refl _ | omega | (simp <;> omega) | simp)) _) | (refine Below.alloc ?_ (by (first | exact Nat.le_refl _ | omega | (simp <;> omega) | simp)) _) | (refine below_draws ?_ _) | exact h4 | (refine Below.trans ?_ (Below.mono h4 (by (first | exact Nat.le_refl _ | omega | (simp <;> omega) | simp))))))⟩
theorem allR_len (e : Int) : ∀ (N : Nat) (s : Int) (ws : List W3), NetV N e s ws → (allR e N s ws).2.2.2.1.length ≤ 50
  | 0, _, _, h => by have := h.1.1; omega
  | M + 1, s, ws, h => by
    have n5 := h.1.2.1
    have hml := wiresV_len h.2.1 n5
    by_cases hlt : e < ((M + 1 : Nat) : Int)
    · have hwp := wAt_conn h (by have := h.1.2.2.1; omega) M (by omega)
      have hwa := wAt_le h.2.1 n5 (M : Int) (by omega) (by omega)
      have hsr := (meshR_srt (v := M) h.2.1 (by omega) (by omega) hml).1
      have hsB1 := h.1.2.2.2.2.1
      have hsB2 := h.1.2.2.2.2.2
      have hsm : 1 ≤ s * wAt ws (M : Int) ∧ s * wAt ws (M : Int) ≤ 800000 := by
        have a1 := Int.mul_le_mul hsB2 hwa.2 hwa.1 (by omega : (0 : Int) ≤ 1000)
        have a2 := Int.mul_le_mul hsB1 hwp (by omega) (by omega : (0 : Int) ≤ s)
        omega
      obtain ⟨n2, e2, s2, out2, bb2, hR2⟩ : ∃ n2 e2 s2 out2 bb2, redR (((M + 1 : Nat) : Int) - 1) e (s * wAt ws (M : Int)) (meshR (M + 1) ws M) = (n2, e2, s2, out2, bb2) := ⟨_, _, _, _, _, rfl⟩
      cases bb2
      · rw [allR_stop hlt hR2]; simp
      · rw [allR_go hlt hR2]
        obtain ⟨a1, a2, a3, -⟩ := redR_twice hsm.1 (by omega) (hsr.bound (by omega)) hR2
        rw [show ((M + 1 : Nat) : Int) - 1 = (M : Int) by omega] at a3
        exact allR_len e M s2 out2 a3
    · rw [allR_end (by omega) hlt]
      have := redR_len ((M + 1 : Nat) : Int) e s ws
      omega
theorem meshAllR_len (n e s : Int) (ws : List W3) : (meshAllR n e s ws).2.2.2.1.length ≤ 50 := by
  by_cases hb : netB n e s ws = true
  · have hV := netB_iff.1 hb
    obtain ⟨n1, -⟩ := hV.1
    rw [meshAllR_yes hb]
    exact allR_len e n.toNat s ws (by rw [show ((n.toNat : Nat) : Int) = n by omega]; exact hV)
  · rw [meshAllR_no hb]; simp
set_option maxRecDepth 4000 in
set_option maxHeartbeats 6400000 in
theorem impl_meshAll (n e s : Int) (v : Value) (ws : List W3) (w : World) (hr : ReadsW w v ws) (hlen : ws.length ≤ 1048576) :
    Calls Try.prog 22 #[.agg #[.int .i64 n, .int .i64 e, .int .i64 s, v]] w (AnsN w (meshAllR n e s ws)) := by
  by_cases hb : netB n e s ws = true
  · obtain ⟨n1, n5, -⟩ := (netB_iff.1 hb).1
    obtain ⟨N, rfl⟩ : ∃ N : Nat, n = N := ⟨n.toNat, by omega⟩
    rw [meshAllR_yes hb, Int.toNat_natCast]
    exact impl_meshAll_yes N e s v ws w hr hb
  rw [meshAllR_no hb]
  have hb2 : netB n e s ws = false := by simpa using hb
  obtain ⟨W0, hW0⟩ : ∃ W0, W0 = (w.alloc (.cells #[.int .i64 n, .int .i64 e, .int .i64 s, v] 25)).alloc (.cells #[.int .i64 0, .int .i64 0, .int .i64 0, .slice none 0 0] 25) := ⟨_, rfl⟩
  have hs0 : W0.heap.size = w.heap.size + 2 := by rw [hW0]; simp
  have HX : Hid (boxN W0 w.heap.size n e s v) := Lib.hid (by rw [hW0]; exact (boxN.new w n e s v 25).later (by (repeat (first | exact Below.refl _ _ | (refine Below.setCell ?_ (by (first | exact Nat.le_refl _ | omega | (simp <;> omega) | simp)) _) | (refine Below.alloc ?_ (by (first | exact Nat.le_refl _ | omega | (simp <;> omega) | simp)) _) | (refine below_draws ?_ _)))))
  have HZ : Hid (box4 W0 (w.heap.size + 1) (.int .i64 0) (.int .i64 0) (.int .i64 0) (.slice none 0 0)) := Lib.hid (by rw [hW0]; have h := box4.new (w.alloc (.cells #[.int .i64 n, .int .i64 e, .int .i64 s, v] 25)) (.int .i64 0) (.int .i64 0) (.int .i64 0) (.slice none 0 0) 25; simpa using h)
  have HB0 : Hid (Below w.heap.size w W0) := Lib.hid (by rw [hW0]; (repeat (first | exact Below.refl _ _ | (refine Below.setCell ?_ (by (first | exact Nat.le_refl _ | omega | (simp <;> omega) | simp)) _) | (refine Below.alloc ?_ (by (first | exact Nat.le_refl _ | omega | (simp <;> omega) | simp)) _) | (refine below_draws ?_ _))))
  have hcan := impl_canon n e s v ws W0 (hr.later HB0.out) hlen
  rw [canR_no hb2] at hcan
  have HCAN := Lib.hid hcan
  obtain ⟨x0, x1, x2, x3⟩ := HX.out
  clear hcan hb hb2 hr
  go_enter Try.func22, Try.ntmps22
  go_wp2_with fail
  rw [← hW0]
  clear hW0
  refine HCAN.out.mono ?_
  rintro en w1 ⟨p1, c1, rfl, o1, B1⟩
  have S1 := B1.size
  have hz := HZ.out.later B1
  have hzne : w.heap.size + 1 ≠ w1.heap.size := by omega
  have z0 := fun ob => (hz.alloc ob).1
  have z1 := fun ob => (hz.alloc ob).2.1
  have z2 := fun ob => (hz.alloc ob).2.2.1
  have z3 := fun ob => (hz.alloc ob).2.2.2.1
  have f0 := fun ob => (hz.alloc ob).2.2.2.2.1
  have f1 := fun ob => (hz.alloc ob).2.2.2.2.2.1
  have f2 := fun ob => (hz.alloc ob).2.2.2.2.2.2.1
  have f3 := fun ob => (hz.alloc ob).2.2.2.2.2.2.2.1
  have HO1 := Lib.hid o1
  clear hz o1 x0 x1 x2 x3
  go_wp2
  refine wp_loop_rounds 1 ?_
  rw [rounds_succ]
  go_wp2
  exact bodyPost_ret (v := .tuple #[.agg #[.int .i64 0, .int .i64 0, .int .i64 0, .slice p1 0 c1], .bool false]) (by simp (maxDischargeDepth := 8) [results, Try.results22, go_sem, *]) rfl ⟨p1, c1, rfl, by have o1 := (HO1.out).alloc (.cells #[.int .i64 0, .int .i64 0, .int .i64 0, .slice p1 0 c1] 25); refine owns_mono (base := W0.heap.size) ?_ (by omega); have h0 := HB0.out; ((repeat (refine ownsRow_setCell_below ?_ ?_ _; rotate_left; focus (first | omega | (simp; done) | (simp; omega)))); with_reducible exact o1), by have h0 := HB0.out; (repeat (first | exact Below.refl _ _ | (refine Below.setCell ?_ (by (first | exact Nat.le_refl _ | omega | (simp <;> omega) | simp)) _) | (refine Below.alloc ?_ (by (first | exact Nat.le_refl _ | omega | (simp <;> omega) | simp)) _) | (refine below_draws ?_ _) | exact h0 | (refine Below.trans ?_ (Below.mono h0 (by (first | exact Nat.le_refl _ | omega | (simp <;> omega) | simp)))) | exact B1 | (refine Below.trans ?_ (Below.mono B1 (by (first | exact Nat.le_refl _ | omega | (simp <;> omega) | simp))))))⟩
end Go.Proofs.Ythhnicbkldknlaa
