/-
  withoutNode and DropNode in the program.
-/
import Derived.Test.YtpkddaapffamiaaDropSpec
import Derived.Test.YtpkddaapffamiaaDropFacts
import Derived.Test.YtpkddaapffamiaaMeshed
import Derived.Test.YtpkddaapffamiaaRescaled
import Derived.Test.YtpkddaapffamiaaHasNode
import Derived.Handy
namespace Go.Proofs.Ytpkddaapffamiaa
open Go.RowKit Go.Maps

set_option maxRecDepth 8000 in
set_option maxHeartbeats 6400000 in
theorem impl_withoutNode (N : Nat) (e s : Int) (X : Nat) (v : Value) (ws : List W3) (w : World) (hr : ReadsW w v ws) (hOk : DropOk N e s X ws) :
    Calls Try.prog 94 #[.agg #[.int .i64 N, .int .i64 e, .int .i64 s, v], .int .i64 X] w (AnsN w (redR ((N : Int) - 1) e (s * wAt ws (X : Int)) (meshR N ws X))) := by
  obtain ⟨hb, hx1, hx2, hl1, hl2⟩ := hOk
  rw [Int.toNat_natCast] at hl1 hl2
  have hV := netB_iff.1 hb
  have n5 := hV.1.2.1
  have e1 := hV.1.2.2.1
  have e2 := hV.1.2.2.2.1
  have s1 := hV.1.2.2.2.2.1
  have s2 := hV.1.2.2.2.2.2
  have hx : X < N := by omega
  have hlen := wiresV_len hV.2.1 n5
  have hwa := wAt_le hV.2.1 n5 (X : Int) (by omega) (by omega)
  have hwp := wAt_pos hV.2.1 (by omega) X hx hl1
  have hsm : 1 ≤ s * wAt ws (X : Int) ∧ s * wAt ws (X : Int) ≤ 800000 := by
    have a1 := Int.mul_le_mul s2 hwa.2 hwa.1 (by omega : (0 : Int) ≤ 1000)
    have a2 := Int.mul_le_mul s1 hwp (by omega) (by omega : (0 : Int) ≤ s)
    omega
  obtain ⟨hsr, hsl⟩ := meshR_srt (v := X) hV.2.1 (by omega) hx hlen
  obtain ⟨-, -, -, -, hMW, hMD⟩ := star_lists hV.2.1 (by omega) X hx hwp
  have hex := fun W h => impl_meshed N e s X v ws W h hb hx hwp
  have hre := fun b f W (h : owns2 W b 60 f) (hL : Lists f (meshR N ws X)) => impl_rescaled N e s ((N : Int) - 1) (wAt ws (X : Int)) v b 60 f (meshR N ws X) W (by omega) h hL hMW (hsr.bound (by omega)) (by omega) hsm.1 (by omega) hMD
  obtain ⟨n', e', s', out, bb, hR⟩ : ∃ n' e' s' out bb, redR ((N : Int) - 1) e (s * wAt ws (X : Int)) (meshR N ws X) = (n', e', s', out, bb) := ⟨_, _, _, _, _, rfl⟩
  simp only [hR] at hre
  rw [hR]
  have HEX := Lib.hid hex; have HRE := Lib.hid hre
  have hn1 : wrap64 ((N : Int) - 1) = (N : Int) - 1 := by unfold wrap64; omega
  generalize meshR N ws X = MR at *
  generalize wAt ws (X : Int) = SM at *
  clear hex hre hR hMW hMD hsr hsl hV hb hwp hwa hsm hl1 hl2
  obtain ⟨W0, hW0⟩ : ∃ W0, W0 = (w.alloc (.cells #[.int .i64 N, .int .i64 e, .int .i64 s, v] 25)).alloc (.cells #[.int .i64 0, .int .i64 0, .int .i64 0, .slice none 0 0] 25) := ⟨_, rfl⟩
  have hs0 : W0.heap.size = w.heap.size + 2 := by rw [hW0]; simp
  have HX : Hid (boxN W0 w.heap.size N e s v) := Lib.hid (by rw [hW0]; exact (boxN.new w N e s v 25).later (by (repeat (first | exact Below.refl _ _ | (refine Below.setCell ?_ (by (first | exact Nat.le_refl _ | omega | (simp <;> omega) | simp)) _) | (refine Below.alloc ?_ (by (first | exact Nat.le_refl _ | omega | (simp <;> omega) | simp)) _) | (refine below_draws ?_ _)))))
  have HZ : Hid (box4 W0 (w.heap.size + 1) (.int .i64 0) (.int .i64 0) (.int .i64 0) (.slice none 0 0)) := Lib.hid (by rw [hW0]; have h := box4.new (w.alloc (.cells #[.int .i64 N, .int .i64 e, .int .i64 s, v] 25)) (.int .i64 0) (.int .i64 0) (.int .i64 0) (.slice none 0 0) 25; simpa using h)
  have HB0 : Hid (Below w.heap.size w W0) := Lib.hid (by rw [hW0]; (repeat (first | exact Below.refl _ _ | (refine Below.setCell ?_ (by (first | exact Nat.le_refl _ | omega | (simp <;> omega) | simp)) _) | (refine Below.alloc ?_ (by (first | exact Nat.le_refl _ | omega | (simp <;> omega) | simp)) _) | (refine below_draws ?_ _))))
  have HR0 := Lib.hid (hr.later HB0.out)
  obtain ⟨x0, x1, x2, x3⟩ := HX.out
  clear hr
  go_enter Try.func94, Try.ntmps94
  go_wp2_with fail
  rw [← hW0]
  clear hW0
  refine (HEX.out _ HR0.out).mono ?_
  rintro en w1 ⟨b, f, rfl, hb, o1, L1, B1⟩
  have HX1 := Lib.hid (HX.out.later B1)
  have S1 := B1.size
  have HRE2 := Lib.hid (HRE.out b f _ o1 L1)
  clear x0 x1 x2 x3 o1 L1
  obtain ⟨x0, x1, x2, x3⟩ := HX1.out
  go_wp2_with fail
  refine HRE2.out.mono ?_
  rintro en w2 ⟨p2, c2, rfl, o2, B2⟩
  obtain ⟨z0, z1, z2, z3, f0, f1, f2, f3, -⟩ := (HZ.out.later B1).later B2
  have S2 := B2.size
  have HO2 := Lib.hid o2
  clear x0 x1 x2 x3 o2
  go_wp2
  exact bodyPost_ret (v := .tuple #[.agg #[.int .i64 n', .int .i64 e', .int .i64 s', .slice p2 out.length c2], .bool bb]) (by simp (maxDischargeDepth := 8) [results, Try.results94, go_sem, *]) rfl ⟨p2, c2, rfl, by refine owns_mono (base := w1.heap.size) ?_ (by omega); have o2 := HO2.out; ((repeat (refine ownsRow_setCell_below ?_ ?_ _; rotate_left; focus (first | omega | (simp; done) | (simp; omega)))); with_reducible exact o2), by have h0 := HB0.out; (repeat (first | exact Below.refl _ _ | (refine Below.setCell ?_ (by (first | exact Nat.le_refl _ | omega | (simp <;> omega) | simp)) _) | (refine Below.alloc ?_ (by (first | exact Nat.le_refl _ | omega | (simp <;> omega) | simp)) _) | (refine below_draws ?_ _) | exact h0 | (refine Below.trans ?_ (Below.mono h0 (by (first | exact Nat.le_refl _ | omega | (simp <;> omega) | simp)))) | exact B1 | (refine Below.trans ?_ (Below.mono B1 (by (first | exact Nat.le_refl _ | omega | (simp <;> omega) | simp)))) | exact B2 | (refine Below.trans ?_ (Below.mono B2 (by (first | exact Nat.le_refl _ | omega | (simp <;> omega) | simp))))))⟩
set_option maxRecDepth 4000 in
set_option maxHeartbeats 6400000 in
theorem impl_dropNode (n e s x : Int) (v : Value) (ws : List W3) (w : World) (hr : ReadsW w v ws) :
    Calls Try.prog 50 #[.agg #[.int .i64 n, .int .i64 e, .int .i64 s, v], .int .i64 x] w (AnsN w (dropR n e s x ws)) := by
  obtain ⟨W0, hW0⟩ : ∃ W0, W0 = (w.alloc (.cells #[.int .i64 n, .int .i64 e, .int .i64 s, v] 25)).alloc (.cells #[.int .i64 0, .int .i64 0, .int .i64 0, .slice none 0 0] 25) := ⟨_, rfl⟩
  have hs0 : W0.heap.size = w.heap.size + 2 := by rw [hW0]; simp
  have HX : Hid (boxN W0 w.heap.size n e s v) := Lib.hid (by rw [hW0]; exact (boxN.new w n e s v 25).later (by (repeat (first | exact Below.refl _ _ | (refine Below.setCell ?_ (by (first | exact Nat.le_refl _ | omega | (simp <;> omega) | simp)) _) | (refine Below.alloc ?_ (by (first | exact Nat.le_refl _ | omega | (simp <;> omega) | simp)) _) | (refine below_draws ?_ _)))))
  have HZ : Hid (box4 W0 (w.heap.size + 1) (.int .i64 0) (.int .i64 0) (.int .i64 0) (.slice none 0 0)) := Lib.hid (by rw [hW0]; have h := box4.new (w.alloc (.cells #[.int .i64 n, .int .i64 e, .int .i64 s, v] 25)) (.int .i64 0) (.int .i64 0) (.int .i64 0) (.slice none 0 0) 25; simpa using h)
  have HB0 : Hid (Below w.heap.size w W0) := Lib.hid (by rw [hW0]; (repeat (first | exact Below.refl _ _ | (refine Below.setCell ?_ (by (first | exact Nat.le_refl _ | omega | (simp <;> omega) | simp)) _) | (refine Below.alloc ?_ (by (first | exact Nat.le_refl _ | omega | (simp <;> omega) | simp)) _) | (refine below_draws ?_ _))))
  have HR0 := Lib.hid (hr.later HB0.out)
  have HWN := Lib.hid (impl_wiresAt n e s x v ws W0 HR0.out)
  obtain ⟨x0, x1, x2, x3⟩ := HX.out
  have hwl := wnR_len n e s x ws
  have hiff : DropOk n e s x ws ↔ e ≤ x ∧ 1 ≤ (wnR n e s x ws).length ∧ (wnR n e s x ws).length ≤ 2 := by
    by_cases hb : netB n e s ws = true
    · have e1 := (netB_iff.1 hb).1.2.2.1
      by_cases hx : 0 ≤ x ∧ x < n
      · rw [wnR_yes hb hx]
        exact ⟨fun h => ⟨h.2.1, h.2.2.2.1, h.2.2.2.2⟩, fun h => ⟨hb, h.1, hx.2, h.2.1, h.2.2⟩⟩
      · rw [wnR_no (fun h => hx h.2)]
        exact ⟨fun h => absurd ⟨by have := h.2.1; omega, h.2.2.1⟩ hx, fun h => by simp at h⟩
    · rw [wnR_no (fun h => hb h.1)]
      exact ⟨fun h => absurd h.1 hb, fun h => by simp at h⟩
  by_cases hOk : DropOk n e s x ws
  · have h3 := hiff.1 hOk
    obtain ⟨N, rfl⟩ : ∃ N : Nat, n = N := ⟨n.toNat, by have := (netB_iff.1 hOk.1).1.1; omega⟩
    obtain ⟨X, rfl⟩ : ∃ X : Nat, x = X := ⟨x.toNat, by have := (netB_iff.1 hOk.1).1.2.2.1; have := hOk.2.1; omega⟩
    have HIM := Lib.hid (fun W h => impl_withoutNode N e s X v ws W h hOk)
    rw [dropR_yes hOk]
    simp only [Int.toNat_natCast]
    obtain ⟨n', e', s', out, bb, hR⟩ : ∃ n' e' s' out bb, redR ((N : Int) - 1) e (s * wAt ws (X : Int)) (meshR N ws X) = (n', e', s', out, bb) := ⟨_, _, _, _, _, rfl⟩
    simp only [hR] at HIM
    rw [hR]
    generalize wnR N e s X ws = Q at *
    have h31 : ¬ (X : Int) < e := by omega
    have h32 : ¬ (Q.length : Int) < 1 := by omega
    have h33 : ¬ (2 : Int) < Q.length := by omega
    clear hiff hOk hR hr
    go_enter Try.func50, Try.ntmps50
    go_wp2_with fail
    rw [← hW0]
    clear hW0
    refine HWN.out.mono ?_
    rintro en w1 ⟨v1, rfl, o1, B1⟩
    obtain ⟨p1, c1, rfl, _, _⟩ := (ReadsI.of_own o1).shape
    obtain ⟨x0, x1, x2, x3⟩ := HX.out.later B1
    have S1 := B1.size
    clear o1
    go_wp2_with fail
    refine (HIM.out _ (HR0.out.later B1)).mono ?_
    rintro en w2 ⟨p2, c2, rfl, o2, B2⟩
    have S2 := B2.size
    obtain ⟨z0, z1, z2, z3, f0, f1, f2, f3, -⟩ := (HZ.out.later B1).later B2
    have HO2 := Lib.hid o2
    clear x0 x1 x2 x3 o2
    go_wp2
    exact bodyPost_ret (v := .tuple #[.agg #[.int .i64 n', .int .i64 e', .int .i64 s', .slice p2 out.length c2], .bool bb]) (by simp (maxDischargeDepth := 8) [results, Try.results50, go_sem, *]) rfl ⟨p2, c2, rfl, by refine owns_mono (base := w1.heap.size) ?_ (by omega); have o2 := HO2.out; ((repeat (refine ownsRow_setCell_below ?_ ?_ _; rotate_left; focus (first | omega | (simp; done) | (simp; omega)))); with_reducible exact o2), by have h0 := HB0.out; (repeat (first | exact Below.refl _ _ | (refine Below.setCell ?_ (by (first | exact Nat.le_refl _ | omega | (simp <;> omega) | simp)) _) | (refine Below.alloc ?_ (by (first | exact Nat.le_refl _ | omega | (simp <;> omega) | simp)) _) | (refine below_draws ?_ _) | exact h0 | (refine Below.trans ?_ (Below.mono h0 (by (first | exact Nat.le_refl _ | omega | (simp <;> omega) | simp)))) | exact B1 | (refine Below.trans ?_ (Below.mono B1 (by (first | exact Nat.le_refl _ | omega | (simp <;> omega) | simp)))) | exact B2 | (refine Below.trans ?_ (Below.mono B2 (by (first | exact Nat.le_refl _ | omega | (simp <;> omega) | simp))))))⟩
  · rw [dropR_no hOk]
    have h3 : ¬ (e ≤ x ∧ 1 ≤ (wnR n e s x ws).length ∧ (wnR n e s x ws).length ≤ 2) := fun h => hOk (hiff.2 h)
    generalize wnR n e s x ws = Q at *
    clear hiff hOk hr
    by_cases h4 : x < e
    · clear h3
      go_enter Try.func50, Try.ntmps50
      go_wp2_with fail
      rw [← hW0]
      clear hW0
      refine HWN.out.mono ?_
      rintro en w1 ⟨v1, rfl, o1, B1⟩
      obtain ⟨p1, c1, rfl, _, _⟩ := (ReadsI.of_own o1).shape
      obtain ⟨x0, x1, x2, x3⟩ := HX.out.later B1
      obtain ⟨z0, z1, z2, z3, f0, f1, f2, f3, -⟩ := HZ.out.later B1
      have S1 := B1.size
      clear o1
      go_wp2
      exact bodyPost_ret (v := .tuple #[.agg #[.int .i64 0, .int .i64 0, .int .i64 0, .slice none 0 0], .bool false]) (by simp (maxDischargeDepth := 8) [results, Try.results50, go_sem, *]) rfl (ansN_no (by have h0 := HB0.out; (repeat (first | exact Below.refl _ _ | (refine Below.setCell ?_ (by (first | exact Nat.le_refl _ | omega | (simp <;> omega) | simp)) _) | (refine Below.alloc ?_ (by (first | exact Nat.le_refl _ | omega | (simp <;> omega) | simp)) _) | (refine below_draws ?_ _) | exact h0 | (refine Below.trans ?_ (Below.mono h0 (by (first | exact Nat.le_refl _ | omega | (simp <;> omega) | simp)))) | exact B1 | (refine Below.trans ?_ (Below.mono B1 (by (first | exact Nat.le_refl _ | omega | (simp <;> omega) | simp))))))))
    by_cases h5 : (Q.length : Int) < 1
    · clear h3
      go_enter Try.func50, Try.ntmps50
      go_wp2_with fail
      rw [← hW0]
      clear hW0
      refine HWN.out.mono ?_
      rintro en w1 ⟨v1, rfl, o1, B1⟩
      obtain ⟨p1, c1, rfl, _, _⟩ := (ReadsI.of_own o1).shape
      obtain ⟨x0, x1, x2, x3⟩ := HX.out.later B1
      obtain ⟨z0, z1, z2, z3, f0, f1, f2, f3, -⟩ := HZ.out.later B1
      have S1 := B1.size
      clear o1
      go_wp2
      exact bodyPost_ret (v := .tuple #[.agg #[.int .i64 0, .int .i64 0, .int .i64 0, .slice none 0 0], .bool false]) (by simp (maxDischargeDepth := 8) [results, Try.results50, go_sem, *]) rfl (ansN_no (by have h0 := HB0.out; (repeat (first | exact Below.refl _ _ | (refine Below.setCell ?_ (by (first | exact Nat.le_refl _ | omega | (simp <;> omega) | simp)) _) | (refine Below.alloc ?_ (by (first | exact Nat.le_refl _ | omega | (simp <;> omega) | simp)) _) | (refine below_draws ?_ _) | exact h0 | (refine Below.trans ?_ (Below.mono h0 (by (first | exact Nat.le_refl _ | omega | (simp <;> omega) | simp)))) | exact B1 | (refine Below.trans ?_ (Below.mono B1 (by (first | exact Nat.le_refl _ | omega | (simp <;> omega) | simp))))))))
    have h6 : (2 : Int) < Q.length := by omega
    clear h3
    go_enter Try.func50, Try.ntmps50
    go_wp2_with fail
    rw [← hW0]
    clear hW0
    refine HWN.out.mono ?_
    rintro en w1 ⟨v1, rfl, o1, B1⟩
    obtain ⟨p1, c1, rfl, _, _⟩ := (ReadsI.of_own o1).shape
    obtain ⟨x0, x1, x2, x3⟩ := HX.out.later B1
    obtain ⟨z0, z1, z2, z3, f0, f1, f2, f3, -⟩ := HZ.out.later B1
    have S1 := B1.size
    clear o1
    go_wp2
    exact bodyPost_ret (v := .tuple #[.agg #[.int .i64 0, .int .i64 0, .int .i64 0, .slice none 0 0], .bool false]) (by simp (maxDischargeDepth := 8) [results, Try.results50, go_sem, *]) rfl (ansN_no (by have h0 := HB0.out; (repeat (first | exact Below.refl _ _ | (refine Below.setCell ?_ (by (first | exact Nat.le_refl _ | omega | (simp <;> omega) | simp)) _) | (refine Below.alloc ?_ (by (first | exact Nat.le_refl _ | omega | (simp <;> omega) | simp)) _) | (refine below_draws ?_ _) | exact h0 | (refine Below.trans ?_ (Below.mono h0 (by (first | exact Nat.le_refl _ | omega | (simp <;> omega) | simp)))) | exact B1 | (refine Below.trans ?_ (Below.mono B1 (by (first | exact Nat.le_refl _ | omega | (simp <;> omega) | simp))))))))
end Go.Proofs.Ytpkddaapffamiaa
