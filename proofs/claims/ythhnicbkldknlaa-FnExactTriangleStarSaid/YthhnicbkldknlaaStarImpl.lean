/-
  StarMesh in the program: a star as one of the parts that are replaced.
-/
import Derived.Test.YthhnicbkldknlaaMeshed
import Derived.Test.YthhnicbkldknlaaRescaled
import Derived.Test.YthhnicbkldknlaaHasNode
import Derived.Handy
namespace Go.Proofs.Ythhnicbkldknlaa
open Go.RowKit Go.Maps

theorem as_ss (v : Value) (w : World) : (Instr.typeAssert (.iface 86 v) 81 86 true).run Try.prog w = .ok (.tuple #[v, .bool true]) w := by kernel_rfl
theorem as_ts (v : Value) (w : World) : (Instr.typeAssert (.iface 126 v) 81 86 true).run Try.prog w = .ok (.tuple #[.agg #[.int .i64 0], .bool false]) w := by kernel_rfl
theorem as_tt (v : Value) (w : World) : (Instr.typeAssert (.iface 126 v) 81 126 true).run Try.prog w = .ok (.tuple #[v, .bool true]) w := by kernel_rfl
theorem as_ns (w : World) : (Instr.typeAssert .nilIface 81 86 true).run Try.prog w = .ok (.tuple #[.agg #[.int .i64 0], .bool false]) w := by kernel_rfl
theorem as_nt (w : World) : (Instr.typeAssert .nilIface 81 126 true).run Try.prog w = .ok (.tuple #[.agg #[.int .i64 0, .int .i64 0, .int .i64 0], .bool false]) w := by kernel_rfl
set_option maxRecDepth 4000 in
set_option maxHeartbeats 3200000 in
theorem impl_starAt_yes (N : Nat) (e s : Int) (X : Nat) (v : Value) (ws : List W3) (w : World) (hr : ReadsW w v ws) (hOk : StarOk N e s X ws) :
    Calls Try.prog 52 #[.agg #[.int .i64 N, .int .i64 e, .int .i64 s, v], .int .i64 X] w fun en w' => en = .returned (.iface 86 (.agg #[.int .i64 X])) ∧ Below w.heap.size w w' := by
  obtain ⟨W0, hW0⟩ : ∃ W0, W0 = w.alloc (.cells #[.int .i64 N, .int .i64 e, .int .i64 s, v] 25) := ⟨_, rfl⟩
  have hs0 : W0.heap.size = w.heap.size + 1 := by rw [hW0]; simp
  have HX : Hid (boxN W0 w.heap.size N e s v) := Lib.hid (by rw [hW0]; exact boxN.new w N e s v 25)
  have HB0 : Hid (Below w.heap.size w W0) := Lib.hid (by rw [hW0]; (repeat (first | exact Below.refl _ _ | (refine Below.setCell ?_ (by (first | exact Nat.le_refl _ | omega | (simp <;> omega) | simp)) _) | (refine Below.alloc ?_ (by (first | exact Nat.le_refl _ | omega | (simp <;> omega) | simp)) _) | (refine below_draws ?_ _))))
  have hok := impl_netOk N e s v ws W0 (hr.later HB0.out)
  obtain ⟨hb, hx1, hx2⟩ := hOk
  rw [hb] at hok
  have HOK := Lib.hid hok
  have HHN := Lib.hid (fun W => hasNode_yes N e s X v W ⟨by omega, hx2⟩)
  have hxe : decide ((X : Int) < e) = false := by simp; omega
  clear hok hb hr
  go_enter Try.func52, Try.ntmps52
  go_wp2_with fail
  rw [← hW0]
  clear hW0
  refine HOK.out.mono ?_
  rintro en w1 ⟨rfl, B1⟩
  obtain ⟨x0, x1, x2, x3⟩ := HX.out.later B1
  have S1 := B1.size
  go_wp2_with fail
  refine (HHN.out _).mono ?_
  rintro en w2 ⟨rfl, B2⟩
  clear x0 x1 x2 x3
  obtain ⟨x0, x1, x2, x3⟩ := (HX.out.later B1).later B2
  have S2 := B2.size
  go_wp2
  go_ret
  exact ⟨rfl, by have h0 := HB0.out; (repeat (first | exact Below.refl _ _ | (refine Below.setCell ?_ (by (first | exact Nat.le_refl _ | omega | (simp <;> omega) | simp)) _) | (refine Below.alloc ?_ (by (first | exact Nat.le_refl _ | omega | (simp <;> omega) | simp)) _) | (refine below_draws ?_ _) | exact h0 | (refine Below.trans ?_ (Below.mono h0 (by (first | exact Nat.le_refl _ | omega | (simp <;> omega) | simp)))) | exact B1 | (refine Below.trans ?_ (Below.mono B1 (by (first | exact Nat.le_refl _ | omega | (simp <;> omega) | simp)))) | exact B2 | (refine Below.trans ?_ (Below.mono B2 (by (first | exact Nat.le_refl _ | omega | (simp <;> omega) | simp))))))⟩
set_option maxRecDepth 4000 in
set_option maxHeartbeats 3200000 in
theorem impl_starAt_no (n e s x : Int) (v : Value) (ws : List W3) (w : World) (hr : ReadsW w v ws) (hOk : ¬ StarOk n e s x ws) :
    Calls Try.prog 52 #[.agg #[.int .i64 n, .int .i64 e, .int .i64 s, v], .int .i64 x] w fun en w' => en = .returned .nilIface ∧ Below w.heap.size w w' := by
  obtain ⟨W0, hW0⟩ : ∃ W0, W0 = w.alloc (.cells #[.int .i64 n, .int .i64 e, .int .i64 s, v] 25) := ⟨_, rfl⟩
  have hs0 : W0.heap.size = w.heap.size + 1 := by rw [hW0]; simp
  have HX : Hid (boxN W0 w.heap.size n e s v) := Lib.hid (by rw [hW0]; exact boxN.new w n e s v 25)
  have HB0 : Hid (Below w.heap.size w W0) := Lib.hid (by rw [hW0]; (repeat (first | exact Below.refl _ _ | (refine Below.setCell ?_ (by (first | exact Nat.le_refl _ | omega | (simp <;> omega) | simp)) _) | (refine Below.alloc ?_ (by (first | exact Nat.le_refl _ | omega | (simp <;> omega) | simp)) _) | (refine below_draws ?_ _))))
  have hok := impl_netOk n e s v ws W0 (hr.later HB0.out)
  by_cases hb : netB n e s ws = true
  case neg =>
    rw [show netB n e s ws = false by simpa using hb] at hok
    have HOK := Lib.hid hok
    clear hok hr hb hOk
    go_enter Try.func52, Try.ntmps52
    go_wp2_with fail
    rw [← hW0]
    clear hW0
    refine HOK.out.mono ?_
    rintro en w1 ⟨rfl, B1⟩
    obtain ⟨x0, x1, x2, x3⟩ := HX.out.later B1
    go_wp2
    go_ret
    exact ⟨rfl, by have h0 := HB0.out; (repeat (first | exact Below.refl _ _ | (refine Below.setCell ?_ (by (first | exact Nat.le_refl _ | omega | (simp <;> omega) | simp)) _) | (refine Below.alloc ?_ (by (first | exact Nat.le_refl _ | omega | (simp <;> omega) | simp)) _) | (refine below_draws ?_ _) | exact h0 | (refine Below.trans ?_ (Below.mono h0 (by (first | exact Nat.le_refl _ | omega | (simp <;> omega) | simp)))) | exact B1 | (refine Below.trans ?_ (Below.mono B1 (by (first | exact Nat.le_refl _ | omega | (simp <;> omega) | simp))))))⟩
  rw [hb] at hok
  have HOK := Lib.hid hok
  obtain ⟨-, -, e1, -⟩ := (netB_iff.1 hb).1
  by_cases hx : 0 ≤ x ∧ x < n
  case neg =>
    have HHN := Lib.hid (fun W => hasNode_no n e s x v W hx)
    clear hok hr hb hOk
    go_enter Try.func52, Try.ntmps52
    go_wp2_with fail
    rw [← hW0]
    clear hW0
    refine HOK.out.mono ?_
    rintro en w1 ⟨rfl, B1⟩
    obtain ⟨x0, x1, x2, x3⟩ := HX.out.later B1
    go_wp2_with fail
    refine (HHN.out _).mono ?_
    rintro en w2 ⟨rfl, B2⟩
    clear x0 x1 x2 x3
    obtain ⟨x0, x1, x2, x3⟩ := (HX.out.later B1).later B2
    go_wp2
    go_ret
    exact ⟨rfl, by have h0 := HB0.out; have := B1.size; (repeat (first | exact Below.refl _ _ | (refine Below.setCell ?_ (by (first | exact Nat.le_refl _ | omega | (simp <;> omega) | simp)) _) | (refine Below.alloc ?_ (by (first | exact Nat.le_refl _ | omega | (simp <;> omega) | simp)) _) | (refine below_draws ?_ _) | exact h0 | (refine Below.trans ?_ (Below.mono h0 (by (first | exact Nat.le_refl _ | omega | (simp <;> omega) | simp)))) | exact B1 | (refine Below.trans ?_ (Below.mono B1 (by (first | exact Nat.le_refl _ | omega | (simp <;> omega) | simp)))) | exact B2 | (refine Below.trans ?_ (Below.mono B2 (by (first | exact Nat.le_refl _ | omega | (simp <;> omega) | simp))))))⟩
  have HHN := Lib.hid (fun W => hasNode_yes n e s x v W hx)
  have hxe : decide (x < e) = true := by
    have : x < e := by
      refine Classical.byContradiction fun h => hOk ⟨hb, by omega, hx.2⟩
    simpa using this
  clear hok hr hb hOk hx
  go_enter Try.func52, Try.ntmps52
  go_wp2_with fail
  rw [← hW0]
  clear hW0
  refine HOK.out.mono ?_
  rintro en w1 ⟨rfl, B1⟩
  obtain ⟨x0, x1, x2, x3⟩ := HX.out.later B1
  go_wp2_with fail
  refine (HHN.out _).mono ?_
  rintro en w2 ⟨rfl, B2⟩
  clear x0 x1 x2 x3
  obtain ⟨x0, x1, x2, x3⟩ := (HX.out.later B1).later B2
  go_wp2
  go_ret
  exact ⟨rfl, by have h0 := HB0.out; have := B1.size; (repeat (first | exact Below.refl _ _ | (refine Below.setCell ?_ (by (first | exact Nat.le_refl _ | omega | (simp <;> omega) | simp)) _) | (refine Below.alloc ?_ (by (first | exact Nat.le_refl _ | omega | (simp <;> omega) | simp)) _) | (refine below_draws ?_ _) | exact h0 | (refine Below.trans ?_ (Below.mono h0 (by (first | exact Nat.le_refl _ | omega | (simp <;> omega) | simp)))) | exact B1 | (refine Below.trans ?_ (Below.mono B1 (by (first | exact Nat.le_refl _ | omega | (simp <;> omega) | simp)))) | exact B2 | (refine Below.trans ?_ (Below.mono B2 (by (first | exact Nat.le_refl _ | omega | (simp <;> omega) | simp))))))⟩
/-- What the star's method answers. -/
theorem impl_exStar (N : Nat) (e s : Int) (X : Nat) (v : Value) (ws : List W3) (w : World) (hr : ReadsW w v ws) (hb : netB N e s ws = true) (hx : X < N) (hwp : 1 ≤ wAt ws (X : Int)) :
    Calls Try.prog 196 #[.agg #[.int .i64 X], .agg #[.int .i64 N, .int .i64 e, .int .i64 s, v]] w fun en w' => ∃ b f, en = .returned (.tuple #[.map (some b), .int .i64 (wAt ws (X : Int))]) ∧ w.heap.size ≤ b ∧ owns2 w' b 60 f ∧ Lists f (meshR N ws X) ∧ Below w.heap.size w w' := by
  have B0 : Below w.heap.size w ((w.alloc (.cells #[.int .i64 X] 86)).alloc (.cells #[.int .i64 N, .int .i64 e, .int .i64 s, v] 25)) := by (repeat (first | exact Below.refl _ _ | (refine Below.setCell ?_ (by (first | exact Nat.le_refl _ | omega | (simp <;> omega) | simp)) _) | (refine Below.alloc ?_ (by (first | exact Nat.le_refl _ | omega | (simp <;> omega) | simp)) _) | (refine below_draws ?_ _)))
  have hm := impl_meshed N e s X v ws _ (hr.later B0) hb hx hwp
  have HM := Lib.hid hm; clear hm hr hb hwp
  generalize meshR N ws X = MR at *
  generalize wAt ws (X : Int) = SM at *
  go_enter Try.func196, Try.ntmps196
  go_wp2_with fail
  refine HM.out.mono ?_
  rintro en w1 ⟨b, f, rfl, hb, o1, L1, B1⟩
  go_wp2
  exact bodyPost_ret (v := .tuple #[.map (some b), .int .i64 SM]) (by simp (maxDischargeDepth := 8) [results, Try.results196, go_sem, *]) rfl ⟨b, f, rfl, by simp at hb; omega, o1, L1, by (repeat (first | exact Below.refl _ _ | (refine Below.setCell ?_ (by (first | exact Nat.le_refl _ | omega | (simp <;> omega) | simp)) _) | (refine Below.alloc ?_ (by (first | exact Nat.le_refl _ | omega | (simp <;> omega) | simp)) _) | (refine below_draws ?_ _) | exact B1 | (refine Below.trans ?_ (Below.mono B1 (by (first | exact Nat.le_refl _ | omega | (simp <;> omega) | simp))))))⟩
set_option maxRecDepth 8000 in
set_option maxHeartbeats 6400000 in
theorem impl_replStar (N : Nat) (e s : Int) (X : Nat) (v : Value) (ws : List W3) (w : World) (hr : ReadsW w v ws) (hOk : StarOk N e s X ws) :
    Calls Try.prog 51 #[.agg #[.int .i64 N, .int .i64 e, .int .i64 s, v], .iface 86 (.agg #[.int .i64 X])] w (AnsN w (redR ((N : Int) - 1) e (s * wAt ws (X : Int)) (meshR N ws X))) := by
  obtain ⟨hV, hx, h5, hwp⟩ := star_facts hOk
  obtain ⟨hb, -, -⟩ := hOk
  have n5 := hV.1.2.1
  have s1 := hV.1.2.2.2.2.1
  have s2 := hV.1.2.2.2.2.2
  have hlen := wiresV_len hV.2.1 n5
  have hwa := wAt_le hV.2.1 n5 (X : Int) (by omega) (by omega)
  have hsm : 1 ≤ s * wAt ws (X : Int) ∧ s * wAt ws (X : Int) ≤ 800000 := by
    have a1 := Int.mul_le_mul s2 hwa.2 hwa.1 (by omega : (0 : Int) ≤ 1000)
    have a2 := Int.mul_le_mul s1 hwp (by omega) (by omega : (0 : Int) ≤ s)
    omega
  obtain ⟨hsr, hsl⟩ := meshR_srt (v := X) hV.2.1 (by omega) hx hlen
  obtain ⟨-, -, -, -, hMW, hMD⟩ := star_lists hV.2.1 (by omega) X hx hwp
  have hex := fun W h => impl_exStar N e s X v ws W h hb hx hwp
  have hre := fun b f W (h : owns2 W b 60 f) (hL : Lists f (meshR N ws X)) => impl_rescaled N e s ((N : Int) - 1) (wAt ws (X : Int)) v b 60 f (meshR N ws X) W (by omega) h hL hMW (hsr.bound (by omega)) (by omega) hsm.1 (by omega) hMD
  obtain ⟨n', e', s', out, bb, hR⟩ : ∃ n' e' s' out bb, redR ((N : Int) - 1) e (s * wAt ws (X : Int)) (meshR N ws X) = (n', e', s', out, bb) := ⟨_, _, _, _, _, rfl⟩
  simp only [hR] at hre
  rw [hR]
  have HEX := Lib.hid hex; have HRE := Lib.hid hre
  have hn1 : wrap64 ((N : Int) - 1) = (N : Int) - 1 := by unfold wrap64; omega
  generalize meshR N ws X = MR at *
  generalize wAt ws (X : Int) = SM at *
  clear hex hre hR hMW hMD hsr hsl hV hb hwp hwa hsm
  obtain ⟨W0, hW0⟩ : ∃ W0, W0 = (w.alloc (.cells #[.int .i64 N, .int .i64 e, .int .i64 s, v] 25)).alloc (.cells #[.int .i64 0, .int .i64 0, .int .i64 0, .slice none 0 0] 25) := ⟨_, rfl⟩
  have hs0 : W0.heap.size = w.heap.size + 2 := by rw [hW0]; simp
  have HX : Hid (boxN W0 w.heap.size N e s v) := Lib.hid (by rw [hW0]; exact (boxN.new w N e s v 25).later (by (repeat (first | exact Below.refl _ _ | (refine Below.setCell ?_ (by (first | exact Nat.le_refl _ | omega | (simp <;> omega) | simp)) _) | (refine Below.alloc ?_ (by (first | exact Nat.le_refl _ | omega | (simp <;> omega) | simp)) _) | (refine below_draws ?_ _)))))
  have HZ : Hid (box4 W0 (w.heap.size + 1) (.int .i64 0) (.int .i64 0) (.int .i64 0) (.slice none 0 0)) := Lib.hid (by rw [hW0]; have h := box4.new (w.alloc (.cells #[.int .i64 N, .int .i64 e, .int .i64 s, v] 25)) (.int .i64 0) (.int .i64 0) (.int .i64 0) (.slice none 0 0) 25; simpa using h)
  have HB0 : Hid (Below w.heap.size w W0) := Lib.hid (by rw [hW0]; (repeat (first | exact Below.refl _ _ | (refine Below.setCell ?_ (by (first | exact Nat.le_refl _ | omega | (simp <;> omega) | simp)) _) | (refine Below.alloc ?_ (by (first | exact Nat.le_refl _ | omega | (simp <;> omega) | simp)) _) | (refine below_draws ?_ _))))
  have HR0 := Lib.hid (hr.later HB0.out)
  obtain ⟨x0, x1, x2, x3⟩ := HX.out
  clear hr
  have hss := as_ss
  go_enter Try.func51, Try.ntmps51
  go_wp2_with fail
  rw [← hW0]
  clear hW0
  refine (HEX.out _ HR0.out).mono ?_
  rintro en w1 ⟨b, f, rfl, hb, o1, L1, B1⟩
  have HX1 := Lib.hid (HX.out.later B1)
  have S1 := B1.size
  have HRE2 := Lib.hid (HRE.out b f _ o1 L1)
  clear x0 x1 x2 x3 o1 L1
  obtain ⟨x0, x1, x2, x3⟩ := HX1.out
  go_wp2_with fail
  refine HRE2.out.mono ?_
  rintro en w2 ⟨p2, c2, rfl, o2, B2⟩
  obtain ⟨z0, z1, z2, z3, f0, f1, f2, f3, -⟩ := (HZ.out.later B1).later B2
  have S2 := B2.size
  have HO2 := Lib.hid o2
  clear x0 x1 x2 x3 o2
  go_wp2
  exact bodyPost_ret (v := .tuple #[.agg #[.int .i64 n', .int .i64 e', .int .i64 s', .slice p2 out.length c2], .bool bb]) (by simp (maxDischargeDepth := 8) [results, Try.results51, go_sem, *]) rfl ⟨p2, c2, rfl, by refine owns_mono (base := w1.heap.size) ?_ (by omega); have o2 := HO2.out; ((repeat (refine ownsRow_setCell_below ?_ ?_ _; rotate_left; focus (first | omega | (simp; done) | (simp; omega)))); with_reducible exact o2), by have h0 := HB0.out; (repeat (first | exact Below.refl _ _ | (refine Below.setCell ?_ (by (first | exact Nat.le_refl _ | omega | (simp <;> omega) | simp)) _) | (refine Below.alloc ?_ (by (first | exact Nat.le_refl _ | omega | (simp <;> omega) | simp)) _) | (refine below_draws ?_ _) | exact h0 | (refine Below.trans ?_ (Below.mono h0 (by (first | exact Nat.le_refl _ | omega | (simp <;> omega) | simp)))) | exact B1 | (refine Below.trans ?_ (Below.mono B1 (by (first | exact Nat.le_refl _ | omega | (simp <;> omega) | simp)))) | exact B2 | (refine Below.trans ?_ (Below.mono B2 (by (first | exact Nat.le_refl _ | omega | (simp <;> omega) | simp))))))⟩
set_option maxRecDepth 8000 in
set_option maxHeartbeats 6400000 in
theorem impl_replNil (n e s : Int) (v : Value) (w : World) :
    Calls Try.prog 51 #[.agg #[.int .i64 n, .int .i64 e, .int .i64 s, v], .nilIface] w (AnsN w (0, 0, 0, [], false)) := by
  have hns := as_ns
  have hnt := as_nt
  go_enter Try.func51, Try.ntmps51
  go_wp2
  exact bodyPost_ret (v := .tuple #[.agg #[.int .i64 0, .int .i64 0, .int .i64 0, .slice none 0 0], .bool false]) (by simp (maxDischargeDepth := 8) [results, Try.results51, go_sem, *]) rfl (ansN_no (by (repeat (first | exact Below.refl _ _ | (refine Below.setCell ?_ (by (first | exact Nat.le_refl _ | omega | (simp <;> omega) | simp)) _) | (refine Below.alloc ?_ (by (first | exact Nat.le_refl _ | omega | (simp <;> omega) | simp)) _) | (refine below_draws ?_ _)))))
end Go.Proofs.Ythhnicbkldknlaa
