/-
  SwapNodes and JoinNodes in the model.
-/
import Derived.Test.YtpfnlnllaapjeaaSwapMath
import Derived.Test.YtpfnlnllaapjeaaBoxes
import Derived.Test.YtpfnlnllaapjeaaGIns
import Derived.Test.YtpfnlnllaapjeaaGPut
import Derived.StillTailTactics
namespace Go.Proofs.Ytpfnlnllaapjeaa
open Go.RowKit Go.Maps

theorem spec_joined (v a b : Int) (w : World) (h0 : 0 ≤ v) (h1 : v ≤ 5) :
    Calls Try.prog 87 #[.int .i64 v, .int .i64 a, .int .i64 b] w fun en w' => en = .returned (.int .i64 (joinI a b v)) ∧ w = w' := by
  by_cases h : v = b
  · have HF : Hid (joinI a b v = a) := Lib.hid (if_pos h)
    have h' : (v == b) = true := by simpa using h
    clear h
    go_enter Try.func87, Try.ntmps87
    go_wp2
    go_ret
    exact ⟨ret_i HF.out.symm, rfl⟩
  · have h' : (v == b) = false := by simpa using h
    by_cases h2 : b < v
    · have HF : Hid (joinI a b v = v - 1) := Lib.hid (by unfold joinI; rw [if_neg h, if_pos h2])
      clear h
      go_enter Try.func87, Try.ntmps87
      go_wp2
      go_ret
      exact ⟨ret_i HF.out.symm, rfl⟩
    · have HF : Hid (joinI a b v = v) := Lib.hid (by unfold joinI; rw [if_neg h, if_neg h2])
      clear h
      go_enter Try.func87, Try.ntmps87
      go_wp2
      go_ret
      exact ⟨ret_i HF.out.symm, rfl⟩
theorem spec_swapped (v a b : Int) (w : World) :
    Calls Try.prog 91 #[.int .i64 v, .int .i64 a, .int .i64 b] w fun en w' => en = .returned (.int .i64 (swapI a b v)) ∧ w = w' := by
  by_cases h : v = a
  · have HF : Hid (swapI a b v = b) := Lib.hid (if_pos h)
    have h' : (v == a) = true := by simpa using h
    clear h
    go_enter Try.func91, Try.ntmps91
    go_wp2
    go_ret
    exact ⟨ret_i HF.out.symm, rfl⟩
  · have h' : (v == a) = false := by simpa using h
    by_cases h2 : v = b
    · have HF : Hid (swapI a b v = a) := Lib.hid (by unfold swapI; rw [if_neg h, if_pos h2])
      have h2' : (v == b) = true := by simpa using h2
      clear h h2
      go_enter Try.func91, Try.ntmps91
      go_wp2
      go_ret
      exact ⟨ret_i HF.out.symm, rfl⟩
    · have HF : Hid (swapI a b v = v) := Lib.hid (by unfold swapI; rw [if_neg h, if_neg h2])
      have h2' : (v == b) = false := by simpa using h2
      clear h h2
      go_enter Try.func91, Try.ntmps91
      go_wp2
      go_ret
      exact ⟨ret_i HF.out.symm, rfl⟩
theorem put3_lenS (L : List W3) (lo hi c : Int) (add : Bool) : (put3 L lo hi c add).length ≤ L.length + 1 := by
  unfold put3; rw [insW_length]; exact Nat.succ_le_succ (List.length_filter_le _ _)

set_option maxRecDepth 4000 in
set_option maxHeartbeats 6400000 in
theorem swapS_net (n e s a b : Int) (v : Value) (ws : List W3) (w : World) (hr : ReadsW w v ws) (hb : netB n e s ws = false) :
    Calls Try.prog 28 #[.agg #[.int .i64 n, .int .i64 e, .int .i64 s, v], .int .i64 a, .int .i64 b] w (AnsN w (0, 0, 0, [], false)) := by
  have HOK := Lib.hid (spec_netOk n e s v ws ((w.alloc (.cells #[.int .i64 n, .int .i64 e, .int .i64 s, v] 25)).alloc (.cells #[.int .i64 0, .int .i64 0, .int .i64 0, .slice none 0 0] 25)) (hr.later (by (repeat (first | exact Below.refl _ _ | (refine Below.setCell ?_ (by (first | exact Nat.le_refl _ | omega | (simp <;> omega) | simp)) _) | (refine Below.alloc ?_ (by (first | exact Nat.le_refl _ | omega | (simp <;> omega) | simp)) _) | (refine below_draws ?_ _))))))
  rw [hb] at HOK
  clear hb hr
  have X : Hid (box4 ((w.alloc (.cells #[.int .i64 n, .int .i64 e, .int .i64 s, v] 25)).alloc (.cells #[.int .i64 0, .int .i64 0, .int .i64 0, .slice none 0 0] 25)) w.heap.size (.int .i64 n) (.int .i64 e) (.int .i64 s) v) := Lib.hid ((box4.new _ _ _ _ _ _).alloc _)
  have Z : Hid (box4 ((w.alloc (.cells #[.int .i64 n, .int .i64 e, .int .i64 s, v] 25)).alloc (.cells #[.int .i64 0, .int .i64 0, .int .i64 0, .slice none 0 0] 25)) (w.heap.size + 1) (.int .i64 0) (.int .i64 0) (.int .i64 0) (.slice none 0 0)) := Lib.hid (by have h := box4.new (w.alloc (.cells #[.int .i64 n, .int .i64 e, .int .i64 s, v] 25)) (.int .i64 0) (.int .i64 0) (.int .i64 0) (.slice none 0 0) 25; simpa using h)
  go_enter Try.func28, Try.ntmps28
  go_wp2_with fail
  refine HOK.out.mono ?_
  rintro en w1 ⟨rfl, B1⟩
  have X := Lib.hid (X.out.below B1 (by simp; omega)); have Z := Lib.hid (Z.out.below B1 (by simp))
  have S1 := B1.size; simp at S1
  have M1 : Below w.heap.size w w1 := by (repeat (first | exact Below.refl _ _ | (refine Below.setCell ?_ (by (first | exact Nat.le_refl _ | omega | (simp <;> omega) | simp)) _) | (refine Below.alloc ?_ (by (first | exact Nat.le_refl _ | omega | (simp <;> omega) | simp)) _) | (refine below_draws ?_ _) | exact B1 | (refine Below.trans ?_ (Below.mono B1 (by (first | exact Nat.le_refl _ | omega | (simp <;> omega) | simp))))))
  clear B1
  obtain ⟨k0, k1, k2, k3, -⟩ := id X.out
  obtain ⟨z0, z1, z2, z3, f0, f1, f2, f3, -⟩ := id Z.out
  go_wp2
  exact bodyPost_ret (v := .tuple #[.agg #[.int .i64 0, .int .i64 0, .int .i64 0, .slice none 0 0], .bool false]) (by simp (maxDischargeDepth := 8) [results, Try.results28, go_sem, *]) rfl (ansN_no (by (repeat (first | exact Below.refl _ _ | (refine Below.setCell ?_ (by (first | exact Nat.le_refl _ | omega | (simp <;> omega) | simp)) _) | (refine Below.alloc ?_ (by (first | exact Nat.le_refl _ | omega | (simp <;> omega) | simp)) _) | (refine below_draws ?_ _) | exact M1 | (refine Below.trans ?_ (Below.mono M1 (by (first | exact Nat.le_refl _ | omega | (simp <;> omega) | simp))))))))
set_option maxRecDepth 4000 in
set_option maxHeartbeats 6400000 in
theorem joinS_net (n e s a b : Int) (v : Value) (ws : List W3) (w : World) (hr : ReadsW w v ws) (hb : netB n e s ws = false) :
    Calls Try.prog 26 #[.agg #[.int .i64 n, .int .i64 e, .int .i64 s, v], .int .i64 a, .int .i64 b] w (AnsN w (0, 0, 0, [], false)) := by
  have HOK := Lib.hid (spec_netOk n e s v ws ((w.alloc (.cells #[.int .i64 n, .int .i64 e, .int .i64 s, v] 25)).alloc (.cells #[.int .i64 0, .int .i64 0, .int .i64 0, .slice none 0 0] 25)) (hr.later (by (repeat (first | exact Below.refl _ _ | (refine Below.setCell ?_ (by (first | exact Nat.le_refl _ | omega | (simp <;> omega) | simp)) _) | (refine Below.alloc ?_ (by (first | exact Nat.le_refl _ | omega | (simp <;> omega) | simp)) _) | (refine below_draws ?_ _))))))
  rw [hb] at HOK
  clear hb hr
  have X : Hid (box4 ((w.alloc (.cells #[.int .i64 n, .int .i64 e, .int .i64 s, v] 25)).alloc (.cells #[.int .i64 0, .int .i64 0, .int .i64 0, .slice none 0 0] 25)) w.heap.size (.int .i64 n) (.int .i64 e) (.int .i64 s) v) := Lib.hid ((box4.new _ _ _ _ _ _).alloc _)
  have Z : Hid (box4 ((w.alloc (.cells #[.int .i64 n, .int .i64 e, .int .i64 s, v] 25)).alloc (.cells #[.int .i64 0, .int .i64 0, .int .i64 0, .slice none 0 0] 25)) (w.heap.size + 1) (.int .i64 0) (.int .i64 0) (.int .i64 0) (.slice none 0 0)) := Lib.hid (by have h := box4.new (w.alloc (.cells #[.int .i64 n, .int .i64 e, .int .i64 s, v] 25)) (.int .i64 0) (.int .i64 0) (.int .i64 0) (.slice none 0 0) 25; simpa using h)
  go_enter Try.func26, Try.ntmps26
  go_wp2_with fail
  refine HOK.out.mono ?_
  rintro en w1 ⟨rfl, B1⟩
  have X := Lib.hid (X.out.below B1 (by simp; omega)); have Z := Lib.hid (Z.out.below B1 (by simp))
  have S1 := B1.size; simp at S1
  have M1 : Below w.heap.size w w1 := by (repeat (first | exact Below.refl _ _ | (refine Below.setCell ?_ (by (first | exact Nat.le_refl _ | omega | (simp <;> omega) | simp)) _) | (refine Below.alloc ?_ (by (first | exact Nat.le_refl _ | omega | (simp <;> omega) | simp)) _) | (refine below_draws ?_ _) | exact B1 | (refine Below.trans ?_ (Below.mono B1 (by (first | exact Nat.le_refl _ | omega | (simp <;> omega) | simp))))))
  clear B1
  obtain ⟨k0, k1, k2, k3, -⟩ := id X.out
  obtain ⟨z0, z1, z2, z3, f0, f1, f2, f3, -⟩ := id Z.out
  go_wp2
  exact bodyPost_ret (v := .tuple #[.agg #[.int .i64 0, .int .i64 0, .int .i64 0, .slice none 0 0], .bool false]) (by simp (maxDischargeDepth := 8) [results, Try.results26, go_sem, *]) rfl (ansN_no (by (repeat (first | exact Below.refl _ _ | (refine Below.setCell ?_ (by (first | exact Nat.le_refl _ | omega | (simp <;> omega) | simp)) _) | (refine Below.alloc ?_ (by (first | exact Nat.le_refl _ | omega | (simp <;> omega) | simp)) _) | (refine below_draws ?_ _) | exact M1 | (refine Below.trans ?_ (Below.mono M1 (by (first | exact Nat.le_refl _ | omega | (simp <;> omega) | simp))))))))
set_option maxRecDepth 4000 in
set_option maxHeartbeats 6400000 in
theorem swapS_a (n e s a b : Int) (v : Value) (ws : List W3) (w : World) (hr : ReadsW w v ws) (hb : netB n e s ws = true) (hA : ¬ (0 ≤ a ∧ a < n)) :
    Calls Try.prog 28 #[.agg #[.int .i64 n, .int .i64 e, .int .i64 s, v], .int .i64 a, .int .i64 b] w (AnsN w (0, 0, 0, [], false)) := by
  have HOK := Lib.hid (spec_netOk n e s v ws ((w.alloc (.cells #[.int .i64 n, .int .i64 e, .int .i64 s, v] 25)).alloc (.cells #[.int .i64 0, .int .i64 0, .int .i64 0, .slice none 0 0] 25)) (hr.later (by (repeat (first | exact Below.refl _ _ | (refine Below.setCell ?_ (by (first | exact Nat.le_refl _ | omega | (simp <;> omega) | simp)) _) | (refine Below.alloc ?_ (by (first | exact Nat.le_refl _ | omega | (simp <;> omega) | simp)) _) | (refine below_draws ?_ _))))))
  rw [hb] at HOK
  have hV := netB_iff.1 hb
  have n1 := hV.1.1
  have n5 := hV.1.2.1
  have e1 := hV.1.2.2.1
  have e2 := hV.1.2.2.2.1
  clear hV
  clear hb hr
  have X : Hid (box4 ((w.alloc (.cells #[.int .i64 n, .int .i64 e, .int .i64 s, v] 25)).alloc (.cells #[.int .i64 0, .int .i64 0, .int .i64 0, .slice none 0 0] 25)) w.heap.size (.int .i64 n) (.int .i64 e) (.int .i64 s) v) := Lib.hid ((box4.new _ _ _ _ _ _).alloc _)
  have Z : Hid (box4 ((w.alloc (.cells #[.int .i64 n, .int .i64 e, .int .i64 s, v] 25)).alloc (.cells #[.int .i64 0, .int .i64 0, .int .i64 0, .slice none 0 0] 25)) (w.heap.size + 1) (.int .i64 0) (.int .i64 0) (.int .i64 0) (.slice none 0 0)) := Lib.hid (by have h := box4.new (w.alloc (.cells #[.int .i64 n, .int .i64 e, .int .i64 s, v] 25)) (.int .i64 0) (.int .i64 0) (.int .i64 0) (.slice none 0 0) 25; simpa using h)
  go_enter Try.func28, Try.ntmps28
  go_wp2_with fail
  refine HOK.out.mono ?_
  rintro en w1 ⟨rfl, B1⟩
  have X := Lib.hid (X.out.below B1 (by simp; omega)); have Z := Lib.hid (Z.out.below B1 (by simp))
  have S1 := B1.size; simp at S1
  have M1 : Below w.heap.size w w1 := by (repeat (first | exact Below.refl _ _ | (refine Below.setCell ?_ (by (first | exact Nat.le_refl _ | omega | (simp <;> omega) | simp)) _) | (refine Below.alloc ?_ (by (first | exact Nat.le_refl _ | omega | (simp <;> omega) | simp)) _) | (refine below_draws ?_ _) | exact B1 | (refine Below.trans ?_ (Below.mono B1 (by (first | exact Nat.le_refl _ | omega | (simp <;> omega) | simp))))))
  clear B1
  obtain ⟨k0, k1, k2, k3, -⟩ := id X.out
  obtain ⟨z0, z1, z2, z3, f0, f1, f2, f3, -⟩ := id Z.out
  go_wp2_with (go_at_call 77; first | (refine (in_yes _ _ _ _ (by omega) (by omega)).mono ?_; rintro en wz ⟨rfl, rfl⟩) | (refine (in_no _ _ _ _ (by omega)).mono ?_; rintro en wz ⟨rfl, rfl⟩))
  exact bodyPost_ret (v := .tuple #[.agg #[.int .i64 0, .int .i64 0, .int .i64 0, .slice none 0 0], .bool false]) (by simp (maxDischargeDepth := 8) [results, Try.results28, go_sem, *]) rfl (ansN_no (by (repeat (first | exact Below.refl _ _ | (refine Below.setCell ?_ (by (first | exact Nat.le_refl _ | omega | (simp <;> omega) | simp)) _) | (refine Below.alloc ?_ (by (first | exact Nat.le_refl _ | omega | (simp <;> omega) | simp)) _) | (refine below_draws ?_ _) | exact M1 | (refine Below.trans ?_ (Below.mono M1 (by (first | exact Nat.le_refl _ | omega | (simp <;> omega) | simp))))))))
set_option maxRecDepth 4000 in
set_option maxHeartbeats 6400000 in
theorem swapS_b (n e s a b : Int) (v : Value) (ws : List W3) (w : World) (hr : ReadsW w v ws) (hb : netB n e s ws = true) (hA : 0 ≤ a ∧ a < n) (hE : ¬ (0 ≤ b ∧ b < n)) :
    Calls Try.prog 28 #[.agg #[.int .i64 n, .int .i64 e, .int .i64 s, v], .int .i64 a, .int .i64 b] w (AnsN w (0, 0, 0, [], false)) := by
  have HOK := Lib.hid (spec_netOk n e s v ws ((w.alloc (.cells #[.int .i64 n, .int .i64 e, .int .i64 s, v] 25)).alloc (.cells #[.int .i64 0, .int .i64 0, .int .i64 0, .slice none 0 0] 25)) (hr.later (by (repeat (first | exact Below.refl _ _ | (refine Below.setCell ?_ (by (first | exact Nat.le_refl _ | omega | (simp <;> omega) | simp)) _) | (refine Below.alloc ?_ (by (first | exact Nat.le_refl _ | omega | (simp <;> omega) | simp)) _) | (refine below_draws ?_ _))))))
  rw [hb] at HOK
  have hV := netB_iff.1 hb
  have n1 := hV.1.1
  have n5 := hV.1.2.1
  have e1 := hV.1.2.2.1
  have e2 := hV.1.2.2.2.1
  clear hV
  clear hb hr
  have X : Hid (box4 ((w.alloc (.cells #[.int .i64 n, .int .i64 e, .int .i64 s, v] 25)).alloc (.cells #[.int .i64 0, .int .i64 0, .int .i64 0, .slice none 0 0] 25)) w.heap.size (.int .i64 n) (.int .i64 e) (.int .i64 s) v) := Lib.hid ((box4.new _ _ _ _ _ _).alloc _)
  have Z : Hid (box4 ((w.alloc (.cells #[.int .i64 n, .int .i64 e, .int .i64 s, v] 25)).alloc (.cells #[.int .i64 0, .int .i64 0, .int .i64 0, .slice none 0 0] 25)) (w.heap.size + 1) (.int .i64 0) (.int .i64 0) (.int .i64 0) (.slice none 0 0)) := Lib.hid (by have h := box4.new (w.alloc (.cells #[.int .i64 n, .int .i64 e, .int .i64 s, v] 25)) (.int .i64 0) (.int .i64 0) (.int .i64 0) (.slice none 0 0) 25; simpa using h)
  go_enter Try.func28, Try.ntmps28
  go_wp2_with fail
  refine HOK.out.mono ?_
  rintro en w1 ⟨rfl, B1⟩
  have X := Lib.hid (X.out.below B1 (by simp; omega)); have Z := Lib.hid (Z.out.below B1 (by simp))
  have S1 := B1.size; simp at S1
  have M1 : Below w.heap.size w w1 := by (repeat (first | exact Below.refl _ _ | (refine Below.setCell ?_ (by (first | exact Nat.le_refl _ | omega | (simp <;> omega) | simp)) _) | (refine Below.alloc ?_ (by (first | exact Nat.le_refl _ | omega | (simp <;> omega) | simp)) _) | (refine below_draws ?_ _) | exact B1 | (refine Below.trans ?_ (Below.mono B1 (by (first | exact Nat.le_refl _ | omega | (simp <;> omega) | simp))))))
  clear B1
  obtain ⟨k0, k1, k2, k3, -⟩ := id X.out
  obtain ⟨z0, z1, z2, z3, f0, f1, f2, f3, -⟩ := id Z.out
  go_wp2_with (go_at_call 77; first | (refine (in_yes _ _ _ _ (by omega) (by omega)).mono ?_; rintro en wz ⟨rfl, rfl⟩) | (refine (in_no _ _ _ _ (by omega)).mono ?_; rintro en wz ⟨rfl, rfl⟩))
  exact bodyPost_ret (v := .tuple #[.agg #[.int .i64 0, .int .i64 0, .int .i64 0, .slice none 0 0], .bool false]) (by simp (maxDischargeDepth := 8) [results, Try.results28, go_sem, *]) rfl (ansN_no (by (repeat (first | exact Below.refl _ _ | (refine Below.setCell ?_ (by (first | exact Nat.le_refl _ | omega | (simp <;> omega) | simp)) _) | (refine Below.alloc ?_ (by (first | exact Nat.le_refl _ | omega | (simp <;> omega) | simp)) _) | (refine below_draws ?_ _) | exact M1 | (refine Below.trans ?_ (Below.mono M1 (by (first | exact Nat.le_refl _ | omega | (simp <;> omega) | simp))))))))
set_option maxRecDepth 4000 in
set_option maxHeartbeats 6400000 in
theorem joinS_a (n e s a b : Int) (v : Value) (ws : List W3) (w : World) (hr : ReadsW w v ws) (hb : netB n e s ws = true) (hA : ¬ (0 ≤ a ∧ a < n)) :
    Calls Try.prog 26 #[.agg #[.int .i64 n, .int .i64 e, .int .i64 s, v], .int .i64 a, .int .i64 b] w (AnsN w (0, 0, 0, [], false)) := by
  have HOK := Lib.hid (spec_netOk n e s v ws ((w.alloc (.cells #[.int .i64 n, .int .i64 e, .int .i64 s, v] 25)).alloc (.cells #[.int .i64 0, .int .i64 0, .int .i64 0, .slice none 0 0] 25)) (hr.later (by (repeat (first | exact Below.refl _ _ | (refine Below.setCell ?_ (by (first | exact Nat.le_refl _ | omega | (simp <;> omega) | simp)) _) | (refine Below.alloc ?_ (by (first | exact Nat.le_refl _ | omega | (simp <;> omega) | simp)) _) | (refine below_draws ?_ _))))))
  rw [hb] at HOK
  have hV := netB_iff.1 hb
  have n1 := hV.1.1
  have n5 := hV.1.2.1
  have e1 := hV.1.2.2.1
  have e2 := hV.1.2.2.2.1
  clear hV
  clear hb hr
  have X : Hid (box4 ((w.alloc (.cells #[.int .i64 n, .int .i64 e, .int .i64 s, v] 25)).alloc (.cells #[.int .i64 0, .int .i64 0, .int .i64 0, .slice none 0 0] 25)) w.heap.size (.int .i64 n) (.int .i64 e) (.int .i64 s) v) := Lib.hid ((box4.new _ _ _ _ _ _).alloc _)
  have Z : Hid (box4 ((w.alloc (.cells #[.int .i64 n, .int .i64 e, .int .i64 s, v] 25)).alloc (.cells #[.int .i64 0, .int .i64 0, .int .i64 0, .slice none 0 0] 25)) (w.heap.size + 1) (.int .i64 0) (.int .i64 0) (.int .i64 0) (.slice none 0 0)) := Lib.hid (by have h := box4.new (w.alloc (.cells #[.int .i64 n, .int .i64 e, .int .i64 s, v] 25)) (.int .i64 0) (.int .i64 0) (.int .i64 0) (.slice none 0 0) 25; simpa using h)
  go_enter Try.func26, Try.ntmps26
  go_wp2_with fail
  refine HOK.out.mono ?_
  rintro en w1 ⟨rfl, B1⟩
  have X := Lib.hid (X.out.below B1 (by simp; omega)); have Z := Lib.hid (Z.out.below B1 (by simp))
  have S1 := B1.size; simp at S1
  have M1 : Below w.heap.size w w1 := by (repeat (first | exact Below.refl _ _ | (refine Below.setCell ?_ (by (first | exact Nat.le_refl _ | omega | (simp <;> omega) | simp)) _) | (refine Below.alloc ?_ (by (first | exact Nat.le_refl _ | omega | (simp <;> omega) | simp)) _) | (refine below_draws ?_ _) | exact B1 | (refine Below.trans ?_ (Below.mono B1 (by (first | exact Nat.le_refl _ | omega | (simp <;> omega) | simp))))))
  clear B1
  obtain ⟨k0, k1, k2, k3, -⟩ := id X.out
  obtain ⟨z0, z1, z2, z3, f0, f1, f2, f3, -⟩ := id Z.out
  go_wp2_with (go_at_call 77; first | (refine (in_yes _ _ _ _ (by omega) (by omega)).mono ?_; rintro en wz ⟨rfl, rfl⟩) | (refine (in_no _ _ _ _ (by omega)).mono ?_; rintro en wz ⟨rfl, rfl⟩))
  exact bodyPost_ret (v := .tuple #[.agg #[.int .i64 0, .int .i64 0, .int .i64 0, .slice none 0 0], .bool false]) (by simp (maxDischargeDepth := 8) [results, Try.results26, go_sem, *]) rfl (ansN_no (by (repeat (first | exact Below.refl _ _ | (refine Below.setCell ?_ (by (first | exact Nat.le_refl _ | omega | (simp <;> omega) | simp)) _) | (refine Below.alloc ?_ (by (first | exact Nat.le_refl _ | omega | (simp <;> omega) | simp)) _) | (refine below_draws ?_ _) | exact M1 | (refine Below.trans ?_ (Below.mono M1 (by (first | exact Nat.le_refl _ | omega | (simp <;> omega) | simp))))))))
set_option maxRecDepth 4000 in
set_option maxHeartbeats 6400000 in
theorem joinS_b (n e s a b : Int) (v : Value) (ws : List W3) (w : World) (hr : ReadsW w v ws) (hb : netB n e s ws = true) (hA : 0 ≤ a ∧ a < n) (hE : ¬ (a < b ∧ b < n)) :
    Calls Try.prog 26 #[.agg #[.int .i64 n, .int .i64 e, .int .i64 s, v], .int .i64 a, .int .i64 b] w (AnsN w (0, 0, 0, [], false)) := by
  have HOK := Lib.hid (spec_netOk n e s v ws ((w.alloc (.cells #[.int .i64 n, .int .i64 e, .int .i64 s, v] 25)).alloc (.cells #[.int .i64 0, .int .i64 0, .int .i64 0, .slice none 0 0] 25)) (hr.later (by (repeat (first | exact Below.refl _ _ | (refine Below.setCell ?_ (by (first | exact Nat.le_refl _ | omega | (simp <;> omega) | simp)) _) | (refine Below.alloc ?_ (by (first | exact Nat.le_refl _ | omega | (simp <;> omega) | simp)) _) | (refine below_draws ?_ _))))))
  rw [hb] at HOK
  have hV := netB_iff.1 hb
  have n1 := hV.1.1
  have n5 := hV.1.2.1
  have e1 := hV.1.2.2.1
  have e2 := hV.1.2.2.2.1
  clear hV
  clear hb hr
  have X : Hid (box4 ((w.alloc (.cells #[.int .i64 n, .int .i64 e, .int .i64 s, v] 25)).alloc (.cells #[.int .i64 0, .int .i64 0, .int .i64 0, .slice none 0 0] 25)) w.heap.size (.int .i64 n) (.int .i64 e) (.int .i64 s) v) := Lib.hid ((box4.new _ _ _ _ _ _).alloc _)
  have Z : Hid (box4 ((w.alloc (.cells #[.int .i64 n, .int .i64 e, .int .i64 s, v] 25)).alloc (.cells #[.int .i64 0, .int .i64 0, .int .i64 0, .slice none 0 0] 25)) (w.heap.size + 1) (.int .i64 0) (.int .i64 0) (.int .i64 0) (.slice none 0 0)) := Lib.hid (by have h := box4.new (w.alloc (.cells #[.int .i64 n, .int .i64 e, .int .i64 s, v] 25)) (.int .i64 0) (.int .i64 0) (.int .i64 0) (.slice none 0 0) 25; simpa using h)
  go_enter Try.func26, Try.ntmps26
  go_wp2_with fail
  refine HOK.out.mono ?_
  rintro en w1 ⟨rfl, B1⟩
  have X := Lib.hid (X.out.below B1 (by simp; omega)); have Z := Lib.hid (Z.out.below B1 (by simp))
  have S1 := B1.size; simp at S1
  have M1 : Below w.heap.size w w1 := by (repeat (first | exact Below.refl _ _ | (refine Below.setCell ?_ (by (first | exact Nat.le_refl _ | omega | (simp <;> omega) | simp)) _) | (refine Below.alloc ?_ (by (first | exact Nat.le_refl _ | omega | (simp <;> omega) | simp)) _) | (refine below_draws ?_ _) | exact B1 | (refine Below.trans ?_ (Below.mono B1 (by (first | exact Nat.le_refl _ | omega | (simp <;> omega) | simp))))))
  clear B1
  obtain ⟨k0, k1, k2, k3, -⟩ := id X.out
  obtain ⟨z0, z1, z2, z3, f0, f1, f2, f3, -⟩ := id Z.out
  go_wp2_with (go_at_call 77; first | (refine (in_yes _ _ _ _ (by omega) (by omega)).mono ?_; rintro en wz ⟨rfl, rfl⟩) | (refine (in_no _ _ _ _ (by omega)).mono ?_; rintro en wz ⟨rfl, rfl⟩))
  exact bodyPost_ret (v := .tuple #[.agg #[.int .i64 0, .int .i64 0, .int .i64 0, .slice none 0 0], .bool false]) (by simp (maxDischargeDepth := 8) [results, Try.results26, go_sem, *]) rfl (ansN_no (by (repeat (first | exact Below.refl _ _ | (refine Below.setCell ?_ (by (first | exact Nat.le_refl _ | omega | (simp <;> omega) | simp)) _) | (refine Below.alloc ?_ (by (first | exact Nat.le_refl _ | omega | (simp <;> omega) | simp)) _) | (refine below_draws ?_ _) | exact M1 | (refine Below.trans ?_ (Below.mono M1 (by (first | exact Nat.le_refl _ | omega | (simp <;> omega) | simp))))))))
set_option maxRecDepth 4000 in
set_option maxHeartbeats 6400000 in
theorem swapS_yes (n e s a b : Int) (v : Value) (ws : List W3) (w : World) (hr : ReadsW w v ws) (hb : netB n e s ws = true) (hA : 0 ≤ a ∧ a < n) (hE : 0 ≤ b ∧ b < n) :
    Calls Try.prog 28 #[.agg #[.int .i64 n, .int .i64 e, .int .i64 s, v], .int .i64 a, .int .i64 b] w (AnsN w (n, e, s, specM (keyS a b) true ws, true)) := by
  have HOK := Lib.hid (spec_netOk n e s v ws ((w.alloc (.cells #[.int .i64 n, .int .i64 e, .int .i64 s, v] 25)).alloc (.cells #[.int .i64 0, .int .i64 0, .int .i64 0, .slice none 0 0] 25)) (hr.later (by (repeat (first | exact Below.refl _ _ | (refine Below.setCell ?_ (by (first | exact Nat.le_refl _ | omega | (simp <;> omega) | simp)) _) | (refine Below.alloc ?_ (by (first | exact Nat.le_refl _ | omega | (simp <;> omega) | simp)) _) | (refine below_draws ?_ _))))))
  rw [hb] at HOK
  obtain ⟨p0, cap0, rfl⟩ := hr.shape
  have HC := Lib.hid (reads_at hr)
  have HW := Lib.hid (netB_iff.1 hb).2.1
  have hlen := wiresV_len HW.out (netB_iff.1 hb).1.2.1
  have hV := netB_iff.1 hb
  have n1 := hV.1.1
  have n5 := hV.1.2.1
  have e1 := hV.1.2.2.1
  have e2 := hV.1.2.2.2.1
  clear hV
  clear hb hr
  have X : Hid (box4 ((w.alloc (.cells #[.int .i64 n, .int .i64 e, .int .i64 s, (.slice p0 ws.length cap0)] 25)).alloc (.cells #[.int .i64 0, .int .i64 0, .int .i64 0, .slice none 0 0] 25)) w.heap.size (.int .i64 n) (.int .i64 e) (.int .i64 s) (.slice p0 ws.length cap0)) := Lib.hid ((box4.new _ _ _ _ _ _).alloc _)
  have Z : Hid (box4 ((w.alloc (.cells #[.int .i64 n, .int .i64 e, .int .i64 s, (.slice p0 ws.length cap0)] 25)).alloc (.cells #[.int .i64 0, .int .i64 0, .int .i64 0, .slice none 0 0] 25)) (w.heap.size + 1) (.int .i64 0) (.int .i64 0) (.int .i64 0) (.slice none 0 0)) := Lib.hid (by have h := box4.new (w.alloc (.cells #[.int .i64 n, .int .i64 e, .int .i64 s, (.slice p0 ws.length cap0)] 25)) (.int .i64 0) (.int .i64 0) (.int .i64 0) (.slice none 0 0) 25; simpa using h)
  go_enter Try.func28, Try.ntmps28
  go_wp2_with fail
  refine HOK.out.mono ?_
  rintro en w1 ⟨rfl, B1⟩
  have X := Lib.hid (X.out.below B1 (by simp; omega)); have Z := Lib.hid (Z.out.below B1 (by simp))
  have S1 := B1.size; simp at S1
  have M1 : Below w.heap.size w w1 := by (repeat (first | exact Below.refl _ _ | (refine Below.setCell ?_ (by (first | exact Nat.le_refl _ | omega | (simp <;> omega) | simp)) _) | (refine Below.alloc ?_ (by (first | exact Nat.le_refl _ | omega | (simp <;> omega) | simp)) _) | (refine below_draws ?_ _) | exact B1 | (refine Below.trans ?_ (Below.mono B1 (by (first | exact Nat.le_refl _ | omega | (simp <;> omega) | simp))))))
  clear B1
  obtain ⟨k0, k1, k2, k3, -⟩ := id X.out
  obtain ⟨z0, z1, z2, z3, f0, f1, f2, f3, -⟩ := id Z.out
  have hnw : w.heap.size ≠ w1.heap.size := by omega
  have q1 : (w1.alloc (.cells #[.int .i64 n, .int .i64 e, .int .i64 s, .slice none 0 0] 25)).cell? ⟨w.heap.size, 1, none⟩ = some (.int .i64 e) := (World.cell?_alloc_old w1 _ ⟨w.heap.size, 1, none⟩ hnw).trans k1
  have q3 : (w1.alloc (.cells #[.int .i64 n, .int .i64 e, .int .i64 s, .slice none 0 0] 25)).cell? ⟨w.heap.size, 3, none⟩ = some (.slice p0 ws.length cap0) := (World.cell?_alloc_old w1 _ ⟨w.heap.size, 3, none⟩ hnw).trans k3
  go_wp2_with (go_at_call 77; first | (refine (in_yes _ _ _ _ (by omega) (by omega)).mono ?_; rintro en wz ⟨rfl, rfl⟩) | (refine (in_no _ _ _ _ (by omega)).mono ?_; rintro en wz ⟨rfl, rfl⟩))
  go_loopw [41] (fun i wi => ∃ (k : Nat) (q : Option Addr) (c : Nat) (os : List W3), k ≤ ws.length ∧ i = .int .i64 k ∧ os.length ≤ k ∧ Hid (os = specM (keyS a b) false (ws.take k)) ∧ Hid (box4 wi w1.heap.size (.int .i64 n) (.int .i64 e) (.int .i64 s) (.slice q os.length c)) ∧ Hid (wi.ownsRow (w1.heap.size + 1) 107 3 (.slice q os.length c) os.length (cellsW os)) ∧ w1.heap.size < wi.heap.size ∧ Hid (Below w1.heap.size w1 wi)) (fun i _ => ws.length - (intOf i).toNat)
  case atStart => exact ⟨0, none, 0, [], Nat.zero_le _, rfl, Nat.le_refl _, Lib.hid rfl, Lib.hid (box4.new _ _ _ _ _ _), Lib.hid (World.ownsRow_nil _ _ _ _), by simp, Lib.hid (by (repeat (first | exact Below.refl _ _ | (refine Below.setCell ?_ (by (first | exact Nat.le_refl _ | omega | (simp <;> omega) | simp)) _) | (refine Below.alloc ?_ (by (first | exact Nat.le_refl _ | omega | (simp <;> omega) | simp)) _) | (refine below_draws ?_ _))))⟩
  case round =>
    clear k0 k1 k2 k3 z0 z1 z2 z3 f0 f1 f2 f3
    obtain ⟨k, q, c, os, hk, rfl, hol, hos, hx, hown, hsz, hB⟩ := hrel
    have hBw : Hid (Below w.heap.size w wr) := Lib.hid (by have hB := hB.out; (repeat (first | exact Below.refl _ _ | (refine Below.setCell ?_ (by (first | exact Nat.le_refl _ | omega | (simp <;> omega) | simp)) _) | (refine Below.alloc ?_ (by (first | exact Nat.le_refl _ | omega | (simp <;> omega) | simp)) _) | (refine below_draws ?_ _) | exact M1 | (refine Below.trans ?_ (Below.mono M1 (by (first | exact Nat.le_refl _ | omega | (simp <;> omega) | simp)))) | exact hB | (refine Below.trans ?_ (Below.mono hB (by (first | exact Nat.le_refl _ | omega | (simp <;> omega) | simp)))))))
    by_cases hlt : k < ws.length
    · obtain ⟨g0, o, rfl, c0, c1, c2⟩ := HC.out k hlt
      have hg : g0 < w.heap.size := World.block_lt_of_cell? w _ c0
      rw [← hBw.out.cell (p := ⟨g0, o + k * 3, none⟩) hg] at c0
      rw [← hBw.out.cell (p := ⟨g0, o + k * 3 + 1, none⟩) hg] at c1
      rw [← hBw.out.cell (p := ⟨g0, o + k * 3 + 2, none⟩) hg] at c2
      have hne : g0 ≠ wr.heap.size := by omega
      have hne2 : w1.heap.size ≠ wr.heap.size := by omega
      obtain ⟨v0, v1, v2, v3, v4⟩ := HW.out.1 k hlt
      have Xa := (hx.out.alloc (.cells #[.int .i64 ws[k].1, .int .i64 ws[k].2.1, .int .i64 ws[k].2.2] 107)).drew
      have HXA := Lib.hid Xa
      obtain ⟨b0, b1, b2, b3, -⟩ := Xa
      have hpl := put3_lenS os
      obtain ⟨lo, hi, he⟩ := ends_of (swapI a b ws[k].1) (swapI a b ws[k].2.1)
      obtain ⟨m1, m2⟩ := ends_min he
      have HE := Lib.hid he
      have HSN : Hid (put3 os lo hi ws[k].2.2 false = specM (keyS a b) false (ws.take (k + 1))) := Lib.hid (by rw [List.take_succ_eq_append_getElem hlt, specM_snoc, ← hos.out]; unfold keyS; simp only [m1, m2])
      have hpl := hpl lo hi ws[k].2.2 false
      obtain ⟨wq, hwq⟩ : ∃ wq, wq = (wr.alloc (.cells #[.int .i64 ws[k].1, .int .i64 ws[k].2.1, .int .i64 ws[k].2.2] 107)).drew := ⟨_, rfl⟩
      have q0 : wq.cell? ⟨wr.heap.size, 0, none⟩ = some (.int .i64 ws[k].1) := by rw [hwq]; simp [go_sem]
      have q1' : wq.cell? ⟨wr.heap.size, 1, none⟩ = some (.int .i64 ws[k].2.1) := by rw [hwq]; simp [go_sem]
      have q2 : wq.cell? ⟨wr.heap.size, 2, none⟩ = some (.int .i64 ws[k].2.2) := by rw [hwq]; simp [go_sem]
      rw [← hwq] at b0 b1 b2 b3 HXA
      have hBq : Below wr.heap.size wr wq := by rw [hwq]; (repeat (first | exact Below.refl _ _ | (refine Below.setCell ?_ (by (first | exact Nat.le_refl _ | omega | (simp <;> omega) | simp)) _) | (refine Below.alloc ?_ (by (first | exact Nat.le_refl _ | omega | (simp <;> omega) | simp)) _) | (refine below_draws ?_ _)))
      have hsq : wq.heap.size = wr.heap.size + 1 := by rw [hwq]; simp
      clear he m1 m2 hx
      go_wp2
      refine wp_region_still_tail 14 (by kernel_rfl) (by kernel_rfl) ?_
      simp only [List.take_succ_cons, List.take_zero, List.drop_succ_cons, List.drop_zero]
      change wpStill _ _ (World.drew _) (fun a' => wpList _ _ _ _ a' (World.drew _)) _ _
      rw [← hwq]
      clear hwq c0 c1 c2
      repeat still_step
      still_call ((spec_swapped ws[k].1 a b _).mono (fun e w' h => ⟨h.1, h.2.symm⟩))
      repeat still_step
      still_call ((spec_swapped ws[k].2.1 a b _).mono (fun e w' h => ⟨h.1, h.2.symm⟩))
      repeat still_step
      refine wpStill_nil ?_
      go_wp2_with fail
      refine (spec_put3 _ _ lo hi _ false HE.out _ os _ (ReadsW.of_own (owns_later hown.out hBq)) (by omega)).mono ?_
      rintro en w2 ⟨p2, c2, rfl, o2, B2⟩
      have Xb := box4.later HXA.out B2
      have HXB := Lib.hid Xb
      obtain ⟨d0, d1, d2, d3, e0, e1', e2', e3, -⟩ := Xb
      have S2 := B2.size
      have o3 : w2.ownsRow (wr.heap.size + 1) 107 3 (.slice p2 (put3 os lo hi ws[k].2.2 false).length c2) (put3 os lo hi ws[k].2.2 false).length (cellsW (put3 os lo hi ws[k].2.2 false)) := by rw [← hsq]; exact o2
      clear b0 b1 b2 b3
      go_wp2
      go_roundw
      case rel => exact ⟨k + 1, p2, c2, put3 os lo hi ws[k].2.2 false, by omega, by go_num, by omega, HSN, Lib.hid HXB.out.set3, Lib.hid (by refine owns_mono (base := wr.heap.size + 1) ?_ (by omega); ((repeat (refine ownsRow_setCell_below ?_ ?_ _; rotate_left; focus (first | omega | (simp; done) | (simp; omega)))); with_reducible exact o3)), by simp; omega, Lib.hid (by have hB := hB.out; (repeat (first | exact Below.refl _ _ | (refine Below.setCell ?_ (by (first | exact Nat.le_refl _ | omega | (simp <;> omega) | simp)) _) | (refine Below.alloc ?_ (by (first | exact Nat.le_refl _ | omega | (simp <;> omega) | simp)) _) | (refine below_draws ?_ _) | exact hB | (refine Below.trans ?_ (Below.mono hB (by (first | exact Nat.le_refl _ | omega | (simp <;> omega) | simp)))) | exact hBq | (refine Below.trans ?_ (Below.mono hBq (by (first | exact Nat.le_refl _ | omega | (simp <;> omega) | simp)))) | exact B2 | (refine Below.trans ?_ (Below.mono B2 (by (first | exact Nat.le_refl _ | omega | (simp <;> omega) | simp)))))))⟩
      case measure => simp [intOf]; omega
    · obtain rfl : k = ws.length := by omega
      have hM : specM (keyS a b) true ws = os := by rw [hos.out, List.take_length]; exact (specM_same _ _ (keyS_apart HW.out)).symm
      have HME := Lib.hid hM
      have HOW := Lib.hid hown.out
      have Z := Lib.hid (Z.out.below hB.out (by omega))
      obtain ⟨b0, b1, b2, b3, -⟩ := id hx.out
      obtain ⟨z0, z1, z2, z3, f0, f1, f2, f3, -⟩ := id Z.out
      clear hown hM
      go_wp2
      refine bodyPost_ret (v := .tuple #[.agg #[.int .i64 n, .int .i64 e, .int .i64 s, .slice q os.length c], .bool true]) (by simp (maxDischargeDepth := 8) [results, Try.results28, go_sem, *]) rfl ?_
      rw [HME.out]
      exact ⟨q, c, rfl, by refine owns_mono (base := w1.heap.size + 1) ?_ (by omega); have o1 := HOW.out; ((repeat (refine ownsRow_setCell_below ?_ ?_ _; rotate_left; focus (first | omega | (simp; done) | (simp; omega)))); with_reducible exact o1), by have hBw := hBw.out; (repeat (first | exact Below.refl _ _ | (refine Below.setCell ?_ (by (first | exact Nat.le_refl _ | omega | (simp <;> omega) | simp)) _) | (refine Below.alloc ?_ (by (first | exact Nat.le_refl _ | omega | (simp <;> omega) | simp)) _) | (refine below_draws ?_ _) | exact hBw | (refine Below.trans ?_ (Below.mono hBw (by (first | exact Nat.le_refl _ | omega | (simp <;> omega) | simp))))))⟩
theorem spec_swapNodes (n e s a b : Int) (v : Value) (ws : List W3) (w : World) (hr : ReadsW w v ws) :
    Calls Try.prog 28 #[.agg #[.int .i64 n, .int .i64 e, .int .i64 s, v], .int .i64 a, .int .i64 b] w (AnsN w (swapR n e s a b ws)) := by
  by_cases hb : netB n e s ws = true
  case neg =>
    rw [swapR_no (fun h => hb h.1)]
    exact swapS_net n e s a b v ws w hr (by simpa using hb)
  by_cases hA : 0 ≤ a ∧ a < n
  case neg =>
    rw [swapR_no (fun h => hA h.2.1)]
    exact swapS_a n e s a b v ws w hr hb hA
  by_cases hE : 0 ≤ b ∧ b < n
  case neg =>
    rw [swapR_no (fun h => hE h.2.2)]
    exact swapS_b n e s a b v ws w hr hb hA hE
  rw [swapR_yes hb ⟨hA, hE⟩]
  exact swapS_yes n e s a b v ws w hr hb hA hE
set_option maxRecDepth 4000 in
set_option maxHeartbeats 6400000 in
theorem joinS_yes1 (n e s a b : Int) (v : Value) (ws : List W3) (w : World) (hr : ReadsW w v ws) (hb : netB n e s ws = true) (hJ : JoinOk n a b) (hbe : b < e) :
    Calls Try.prog 26 #[.agg #[.int .i64 n, .int .i64 e, .int .i64 s, v], .int .i64 a, .int .i64 b] w (AnsN w (withR (n - 1) (e - 1) s (specM (keyJ a b) true (restW ws a b)))) := by
  have HOK := Lib.hid (spec_netOk n e s v ws ((w.alloc (.cells #[.int .i64 n, .int .i64 e, .int .i64 s, v] 25)).alloc (.cells #[.int .i64 0, .int .i64 0, .int .i64 0, .slice none 0 0] 25)) (hr.later (by (repeat (first | exact Below.refl _ _ | (refine Below.setCell ?_ (by (first | exact Nat.le_refl _ | omega | (simp <;> omega) | simp)) _) | (refine Below.alloc ?_ (by (first | exact Nat.le_refl _ | omega | (simp <;> omega) | simp)) _) | (refine below_draws ?_ _))))))
  rw [hb] at HOK
  obtain ⟨p0, cap0, rfl⟩ := hr.shape
  have HC := Lib.hid (reads_at hr)
  have HJ := Lib.hid hJ
  obtain ⟨j0, j1, j2⟩ := hJ
  have HW := Lib.hid (netB_iff.1 hb).2.1
  have hlen := wiresV_len HW.out (netB_iff.1 hb).1.2.1
  have hV := netB_iff.1 hb
  have n1 := hV.1.1
  have n5 := hV.1.2.1
  have e1 := hV.1.2.2.1
  have e2 := hV.1.2.2.2.1
  clear hV
  clear hb hr
  have X : Hid (box4 ((w.alloc (.cells #[.int .i64 n, .int .i64 e, .int .i64 s, (.slice p0 ws.length cap0)] 25)).alloc (.cells #[.int .i64 0, .int .i64 0, .int .i64 0, .slice none 0 0] 25)) w.heap.size (.int .i64 n) (.int .i64 e) (.int .i64 s) (.slice p0 ws.length cap0)) := Lib.hid ((box4.new _ _ _ _ _ _).alloc _)
  have Z : Hid (box4 ((w.alloc (.cells #[.int .i64 n, .int .i64 e, .int .i64 s, (.slice p0 ws.length cap0)] 25)).alloc (.cells #[.int .i64 0, .int .i64 0, .int .i64 0, .slice none 0 0] 25)) (w.heap.size + 1) (.int .i64 0) (.int .i64 0) (.int .i64 0) (.slice none 0 0)) := Lib.hid (by have h := box4.new (w.alloc (.cells #[.int .i64 n, .int .i64 e, .int .i64 s, (.slice p0 ws.length cap0)] 25)) (.int .i64 0) (.int .i64 0) (.int .i64 0) (.slice none 0 0) 25; simpa using h)
  go_enter Try.func26, Try.ntmps26
  go_wp2_with fail
  refine HOK.out.mono ?_
  rintro en w1 ⟨rfl, B1⟩
  have X := Lib.hid (X.out.below B1 (by simp; omega)); have Z := Lib.hid (Z.out.below B1 (by simp))
  have S1 := B1.size; simp at S1
  have M1 : Below w.heap.size w w1 := by (repeat (first | exact Below.refl _ _ | (refine Below.setCell ?_ (by (first | exact Nat.le_refl _ | omega | (simp <;> omega) | simp)) _) | (refine Below.alloc ?_ (by (first | exact Nat.le_refl _ | omega | (simp <;> omega) | simp)) _) | (refine below_draws ?_ _) | exact B1 | (refine Below.trans ?_ (Below.mono B1 (by (first | exact Nat.le_refl _ | omega | (simp <;> omega) | simp))))))
  clear B1
  obtain ⟨k0, k1, k2, k3, -⟩ := id X.out
  obtain ⟨z0, z1, z2, z3, f0, f1, f2, f3, -⟩ := id Z.out
  have hnw : w.heap.size ≠ w1.heap.size := by omega
  have q1 : (w1.alloc (.cells #[.int .i64 (n - 1), .int .i64 e, .int .i64 s, .slice none 0 0] 25)).cell? ⟨w.heap.size, 1, none⟩ = some (.int .i64 e) := (World.cell?_alloc_old w1 _ ⟨w.heap.size, 1, none⟩ hnw).trans k1
  have q3 : (w1.alloc (.cells #[.int .i64 (n - 1), .int .i64 e, .int .i64 s, .slice none 0 0] 25)).cell? ⟨w.heap.size, 3, none⟩ = some (.slice p0 ws.length cap0) := (World.cell?_alloc_old w1 _ ⟨w.heap.size, 3, none⟩ hnw).trans k3
  have q4 : (w1.alloc (.cells #[.int .i64 (n - 1), .int .i64 (e - 1), .int .i64 s, .slice none 0 0] 25)).cell? ⟨w.heap.size, 3, none⟩ = some (.slice p0 ws.length cap0) := (World.cell?_alloc_old w1 _ ⟨w.heap.size, 3, none⟩ hnw).trans k3
  go_wp2_with (go_at_call 77; first | (refine (in_yes _ _ _ _ (by omega) (by omega)).mono ?_; rintro en wz ⟨rfl, rfl⟩) | (refine (in_no _ _ _ _ (by omega)).mono ?_; rintro en wz ⟨rfl, rfl⟩))
  go_loopw [54] (fun i wi => ∃ (k : Nat) (q : Option Addr) (c : Nat) (os : List W3), k ≤ ws.length ∧ i = .int .i64 k ∧ os.length ≤ k ∧ Hid (os = specM (keyJ a b) true (restW (ws.take k) a b)) ∧ Hid (box4 wi w1.heap.size (.int .i64 (n - 1)) (.int .i64 (e - 1)) (.int .i64 s) (.slice q os.length c)) ∧ Hid (wi.ownsRow (w1.heap.size + 1) 107 3 (.slice q os.length c) os.length (cellsW os)) ∧ w1.heap.size < wi.heap.size ∧ Hid (Below w1.heap.size w1 wi)) (fun i _ => ws.length - (intOf i).toNat)
  case atStart => exact ⟨0, none, 0, [], Nat.zero_le _, rfl, Nat.le_refl _, Lib.hid rfl, Lib.hid (box4.new _ _ _ _ _ _), Lib.hid (World.ownsRow_nil _ _ _ _), by simp, Lib.hid (by (repeat (first | exact Below.refl _ _ | (refine Below.setCell ?_ (by (first | exact Nat.le_refl _ | omega | (simp <;> omega) | simp)) _) | (refine Below.alloc ?_ (by (first | exact Nat.le_refl _ | omega | (simp <;> omega) | simp)) _) | (refine below_draws ?_ _))))⟩
  case round =>
    clear k0 k1 k2 k3 z0 z1 z2 z3 f0 f1 f2 f3
    obtain ⟨k, q, c, os, hk, rfl, hol, hos, hx, hown, hsz, hB⟩ := hrel
    have hBw : Hid (Below w.heap.size w wr) := Lib.hid (by have hB := hB.out; (repeat (first | exact Below.refl _ _ | (refine Below.setCell ?_ (by (first | exact Nat.le_refl _ | omega | (simp <;> omega) | simp)) _) | (refine Below.alloc ?_ (by (first | exact Nat.le_refl _ | omega | (simp <;> omega) | simp)) _) | (refine below_draws ?_ _) | exact M1 | (refine Below.trans ?_ (Below.mono M1 (by (first | exact Nat.le_refl _ | omega | (simp <;> omega) | simp)))) | exact hB | (refine Below.trans ?_ (Below.mono hB (by (first | exact Nat.le_refl _ | omega | (simp <;> omega) | simp)))))))
    by_cases hlt : k < ws.length
    · obtain ⟨g0, o, rfl, c0, c1, c2⟩ := HC.out k hlt
      have hg : g0 < w.heap.size := World.block_lt_of_cell? w _ c0
      rw [← hBw.out.cell (p := ⟨g0, o + k * 3, none⟩) hg] at c0
      rw [← hBw.out.cell (p := ⟨g0, o + k * 3 + 1, none⟩) hg] at c1
      rw [← hBw.out.cell (p := ⟨g0, o + k * 3 + 2, none⟩) hg] at c2
      have hne : g0 ≠ wr.heap.size := by omega
      have hne2 : w1.heap.size ≠ wr.heap.size := by omega
      obtain ⟨v0, v1, v2, v3, v4⟩ := HW.out.1 k hlt
      have Xa := (hx.out.alloc (.cells #[.int .i64 ws[k].1, .int .i64 ws[k].2.1, .int .i64 ws[k].2.2] 107))
      have HXA := Lib.hid Xa
      obtain ⟨b0, b1, b2, b3, -⟩ := Xa
      have hpl := put3_lenS os
      have hrs := restW_snoc ws k hlt a b
      have hjs := joinI_same (e := ws[k]) HJ.out v1
      have ARM : True := trivial
      clear hx
      by_cases hA : ws[k].1 = a ∧ ws[k].2.1 = b
      · have hj' : (joinI a b ws[k].1 == joinI a b ws[k].2.1) = true := by simpa using hjs.2 hA
        rw [if_pos (by simp [atEnds, hA])] at hrs
        have HS := Lib.hid hrs
        clear hrs hjs hA ARM
        go_wp2_with (go_at_call 87; refine (spec_joined _ a b _ (by omega) (by omega)).mono ?_; rintro en wz ⟨rfl, rfl⟩)
        go_roundw
        case rel => exact ⟨k + 1, q, c, os, by omega, by go_num, by omega, Lib.hid (by rw [HS.out, hos.out]), HXA, Lib.hid (owns_later hown.out (by (repeat (first | exact Below.refl _ _ | (refine Below.setCell ?_ (by (first | exact Nat.le_refl _ | omega | (simp <;> omega) | simp)) _) | (refine Below.alloc ?_ (by (first | exact Nat.le_refl _ | omega | (simp <;> omega) | simp)) _) | (refine below_draws ?_ _))))), by simp; omega, Lib.hid (by have hB := hB.out; (repeat (first | exact Below.refl _ _ | (refine Below.setCell ?_ (by (first | exact Nat.le_refl _ | omega | (simp <;> omega) | simp)) _) | (refine Below.alloc ?_ (by (first | exact Nat.le_refl _ | omega | (simp <;> omega) | simp)) _) | (refine below_draws ?_ _) | exact hB | (refine Below.trans ?_ (Below.mono hB (by (first | exact Nat.le_refl _ | omega | (simp <;> omega) | simp)))))))⟩
        case measure => simp [intOf]; omega
      · have hj' : (joinI a b ws[k].1 == joinI a b ws[k].2.1) = false := by simpa using fun h => hA (hjs.1 h)
        have hAt : atEnds a b ws[k] = false := by
          unfold atEnds
          rcases no_hit hA with h1 | ⟨h1, h2⟩
          · rw [h1]; rfl
          · rw [h2, Bool.and_false]
        rw [if_neg (by rw [hAt]; simp)] at hrs
        obtain ⟨lo, hi, he⟩ := ends_of (joinI a b ws[k].1) (joinI a b ws[k].2.1)
        obtain ⟨m1, m2⟩ := ends_min he
        have HE := Lib.hid he
        have HSN : Hid (put3 os lo hi ws[k].2.2 true = specM (keyJ a b) true (restW (ws.take (k + 1)) a b)) := Lib.hid (by rw [hrs, specM_snoc, ← hos.out]; unfold keyJ; simp only [m1, m2])
        have hpl := hpl lo hi ws[k].2.2 true
        clear he m1 m2 hrs hjs hA hAt ARM
        go_wp2_with (go_at_call 87; refine (spec_joined _ a b _ (by omega) (by omega)).mono ?_; rintro en wz ⟨rfl, rfl⟩)
        refine (spec_put3 _ _ lo hi _ true HE.out _ os _ (ReadsW.of_own (owns_later hown.out (by (repeat (first | exact Below.refl _ _ | (refine Below.setCell ?_ (by (first | exact Nat.le_refl _ | omega | (simp <;> omega) | simp)) _) | (refine Below.alloc ?_ (by (first | exact Nat.le_refl _ | omega | (simp <;> omega) | simp)) _) | (refine below_draws ?_ _)))))) (by omega)).mono ?_
        rintro en w2 ⟨p2, c2, rfl, o2, B2⟩
        have Xb := box4.below HXA.out B2 (by simp; omega)
        have HXB := Lib.hid Xb
        obtain ⟨d0, d1, d2, d3, e0, e1', e2', e3, -⟩ := Xb
        have S2 := B2.size
        simp at S2
        have o3 : w2.ownsRow (wr.heap.size + 1) 107 3 (.slice p2 (put3 os lo hi ws[k].2.2 true).length c2) (put3 os lo hi ws[k].2.2 true).length (cellsW (put3 os lo hi ws[k].2.2 true)) := by simpa using o2
        clear b0 b1 b2 b3
        go_wp2
        go_roundw
        case rel => exact ⟨k + 1, p2, c2, put3 os lo hi ws[k].2.2 true, by omega, by go_num, by omega, HSN, Lib.hid HXB.out.set3, Lib.hid (by refine owns_mono (base := wr.heap.size + 1) ?_ (by omega); ((repeat (refine ownsRow_setCell_below ?_ ?_ _; rotate_left; focus (first | omega | (simp; done) | (simp; omega)))); with_reducible exact o3)), by simp; omega, Lib.hid (by have hB := hB.out; (repeat (first | exact Below.refl _ _ | (refine Below.setCell ?_ (by (first | exact Nat.le_refl _ | omega | (simp <;> omega) | simp)) _) | (refine Below.alloc ?_ (by (first | exact Nat.le_refl _ | omega | (simp <;> omega) | simp)) _) | (refine below_draws ?_ _) | exact hB | (refine Below.trans ?_ (Below.mono hB (by (first | exact Nat.le_refl _ | omega | (simp <;> omega) | simp)))) | exact B2 | (refine Below.trans ?_ (Below.mono B2 (by (first | exact Nat.le_refl _ | omega | (simp <;> omega) | simp)))))))⟩
        case measure => simp [intOf]; omega
    · obtain rfl : k = ws.length := by omega
      have hM : specM (keyJ a b) true (restW ws a b) = os := by rw [hos.out, List.take_length]
      have HME := Lib.hid hM
      have hok2 := spec_netOk (n - 1) (e - 1) s (.slice q os.length c) os wr (ReadsW.of_own hown.out)
      have HOW := Lib.hid hown.out
      have Z := Lib.hid (Z.out.below hB.out (by omega))
      obtain ⟨b0, b1, b2, b3, -⟩ := id hx.out
      clear hown hM
      by_cases hb2 : netB (n - 1) (e - 1) s os = true
      · have HB2 := Lib.hid hb2
        rw [hb2] at hok2
        have HOK2 := Lib.hid hok2
        clear hb2 hok2
        go_wp2_with fail
        refine HOK2.out.mono ?_
        rintro en w5 ⟨rfl, B5⟩
        have Z := Lib.hid (Z.out.later B5)
        obtain ⟨d0, d1, d2, d3, -⟩ := hx.out.later B5
        obtain ⟨z0, z1, z2, z3, f0, f1, f2, f3, -⟩ := id Z.out
        have S5 := B5.size
        clear b0 b1 b2 b3
        go_wp2
        refine bodyPost_ret (v := .tuple #[.agg #[.int .i64 (n - 1), .int .i64 (e - 1), .int .i64 s, .slice q os.length c], .bool true]) (by simp (maxDischargeDepth := 8) [results, Try.results26, go_sem, *]) rfl ?_
        rw [HME.out, withR_yes HB2.out]
        exact ⟨q, c, rfl, by refine owns_mono (base := w1.heap.size + 1) ?_ (by omega); have o1 := owns_later HOW.out B5; ((repeat (refine ownsRow_setCell_below ?_ ?_ _; rotate_left; focus (first | omega | (simp; done) | (simp; omega)))); with_reducible exact o1), by have hBw := hBw.out; (repeat (first | exact Below.refl _ _ | (refine Below.setCell ?_ (by (first | exact Nat.le_refl _ | omega | (simp <;> omega) | simp)) _) | (refine Below.alloc ?_ (by (first | exact Nat.le_refl _ | omega | (simp <;> omega) | simp)) _) | (refine below_draws ?_ _) | exact hBw | (refine Below.trans ?_ (Below.mono hBw (by (first | exact Nat.le_refl _ | omega | (simp <;> omega) | simp)))) | exact B5 | (refine Below.trans ?_ (Below.mono B5 (by (first | exact Nat.le_refl _ | omega | (simp <;> omega) | simp))))))⟩
      · have hb2 : netB (n - 1) (e - 1) s os = false := by simpa using hb2
        have HB2 := Lib.hid hb2
        rw [hb2] at hok2
        have HOK2 := Lib.hid hok2
        clear hb2 hok2
        go_wp2_with fail
        refine HOK2.out.mono ?_
        rintro en w5 ⟨rfl, B5⟩
        have Z := Lib.hid (Z.out.later B5)
        obtain ⟨z0, z1, z2, z3, f0, f1, f2, f3, -⟩ := id Z.out
        have S5 := B5.size
        clear b0 b1 b2 b3
        go_wp2
        refine bodyPost_ret (v := .tuple #[.agg #[.int .i64 0, .int .i64 0, .int .i64 0, .slice none 0 0], .bool false]) (by simp (maxDischargeDepth := 8) [results, Try.results26, go_sem, *]) rfl ?_
        rw [HME.out, withR_no HB2.out]
        exact ansN_no (by have hBw := hBw.out; (repeat (first | exact Below.refl _ _ | (refine Below.setCell ?_ (by (first | exact Nat.le_refl _ | omega | (simp <;> omega) | simp)) _) | (refine Below.alloc ?_ (by (first | exact Nat.le_refl _ | omega | (simp <;> omega) | simp)) _) | (refine below_draws ?_ _) | exact hBw | (refine Below.trans ?_ (Below.mono hBw (by (first | exact Nat.le_refl _ | omega | (simp <;> omega) | simp)))) | exact B5 | (refine Below.trans ?_ (Below.mono B5 (by (first | exact Nat.le_refl _ | omega | (simp <;> omega) | simp)))))))
set_option maxRecDepth 4000 in
set_option maxHeartbeats 6400000 in
theorem joinS_yes0 (n e s a b : Int) (v : Value) (ws : List W3) (w : World) (hr : ReadsW w v ws) (hb : netB n e s ws = true) (hJ : JoinOk n a b) (hbe : ¬ b < e) :
    Calls Try.prog 26 #[.agg #[.int .i64 n, .int .i64 e, .int .i64 s, v], .int .i64 a, .int .i64 b] w (AnsN w (withR (n - 1) e s (specM (keyJ a b) true (restW ws a b)))) := by
  have HOK := Lib.hid (spec_netOk n e s v ws ((w.alloc (.cells #[.int .i64 n, .int .i64 e, .int .i64 s, v] 25)).alloc (.cells #[.int .i64 0, .int .i64 0, .int .i64 0, .slice none 0 0] 25)) (hr.later (by (repeat (first | exact Below.refl _ _ | (refine Below.setCell ?_ (by (first | exact Nat.le_refl _ | omega | (simp <;> omega) | simp)) _) | (refine Below.alloc ?_ (by (first | exact Nat.le_refl _ | omega | (simp <;> omega) | simp)) _) | (refine below_draws ?_ _))))))
  rw [hb] at HOK
  obtain ⟨p0, cap0, rfl⟩ := hr.shape
  have HC := Lib.hid (reads_at hr)
  have HJ := Lib.hid hJ
  obtain ⟨j0, j1, j2⟩ := hJ
  have HW := Lib.hid (netB_iff.1 hb).2.1
  have hlen := wiresV_len HW.out (netB_iff.1 hb).1.2.1
  have hV := netB_iff.1 hb
  have n1 := hV.1.1
  have n5 := hV.1.2.1
  have e1 := hV.1.2.2.1
  have e2 := hV.1.2.2.2.1
  clear hV
  clear hb hr
  have X : Hid (box4 ((w.alloc (.cells #[.int .i64 n, .int .i64 e, .int .i64 s, (.slice p0 ws.length cap0)] 25)).alloc (.cells #[.int .i64 0, .int .i64 0, .int .i64 0, .slice none 0 0] 25)) w.heap.size (.int .i64 n) (.int .i64 e) (.int .i64 s) (.slice p0 ws.length cap0)) := Lib.hid ((box4.new _ _ _ _ _ _).alloc _)
  have Z : Hid (box4 ((w.alloc (.cells #[.int .i64 n, .int .i64 e, .int .i64 s, (.slice p0 ws.length cap0)] 25)).alloc (.cells #[.int .i64 0, .int .i64 0, .int .i64 0, .slice none 0 0] 25)) (w.heap.size + 1) (.int .i64 0) (.int .i64 0) (.int .i64 0) (.slice none 0 0)) := Lib.hid (by have h := box4.new (w.alloc (.cells #[.int .i64 n, .int .i64 e, .int .i64 s, (.slice p0 ws.length cap0)] 25)) (.int .i64 0) (.int .i64 0) (.int .i64 0) (.slice none 0 0) 25; simpa using h)
  go_enter Try.func26, Try.ntmps26
  go_wp2_with fail
  refine HOK.out.mono ?_
  rintro en w1 ⟨rfl, B1⟩
  have X := Lib.hid (X.out.below B1 (by simp; omega)); have Z := Lib.hid (Z.out.below B1 (by simp))
  have S1 := B1.size; simp at S1
  have M1 : Below w.heap.size w w1 := by (repeat (first | exact Below.refl _ _ | (refine Below.setCell ?_ (by (first | exact Nat.le_refl _ | omega | (simp <;> omega) | simp)) _) | (refine Below.alloc ?_ (by (first | exact Nat.le_refl _ | omega | (simp <;> omega) | simp)) _) | (refine below_draws ?_ _) | exact B1 | (refine Below.trans ?_ (Below.mono B1 (by (first | exact Nat.le_refl _ | omega | (simp <;> omega) | simp))))))
  clear B1
  obtain ⟨k0, k1, k2, k3, -⟩ := id X.out
  obtain ⟨z0, z1, z2, z3, f0, f1, f2, f3, -⟩ := id Z.out
  have hnw : w.heap.size ≠ w1.heap.size := by omega
  have q1 : (w1.alloc (.cells #[.int .i64 (n - 1), .int .i64 e, .int .i64 s, .slice none 0 0] 25)).cell? ⟨w.heap.size, 1, none⟩ = some (.int .i64 e) := (World.cell?_alloc_old w1 _ ⟨w.heap.size, 1, none⟩ hnw).trans k1
  have q3 : (w1.alloc (.cells #[.int .i64 (n - 1), .int .i64 e, .int .i64 s, .slice none 0 0] 25)).cell? ⟨w.heap.size, 3, none⟩ = some (.slice p0 ws.length cap0) := (World.cell?_alloc_old w1 _ ⟨w.heap.size, 3, none⟩ hnw).trans k3
  go_wp2_with (go_at_call 77; first | (refine (in_yes _ _ _ _ (by omega) (by omega)).mono ?_; rintro en wz ⟨rfl, rfl⟩) | (refine (in_no _ _ _ _ (by omega)).mono ?_; rintro en wz ⟨rfl, rfl⟩))
  go_loopw [54] (fun i wi => ∃ (k : Nat) (q : Option Addr) (c : Nat) (os : List W3), k ≤ ws.length ∧ i = .int .i64 k ∧ os.length ≤ k ∧ Hid (os = specM (keyJ a b) true (restW (ws.take k) a b)) ∧ Hid (box4 wi w1.heap.size (.int .i64 (n - 1)) (.int .i64 e) (.int .i64 s) (.slice q os.length c)) ∧ Hid (wi.ownsRow (w1.heap.size + 1) 107 3 (.slice q os.length c) os.length (cellsW os)) ∧ w1.heap.size < wi.heap.size ∧ Hid (Below w1.heap.size w1 wi)) (fun i _ => ws.length - (intOf i).toNat)
  case atStart => exact ⟨0, none, 0, [], Nat.zero_le _, rfl, Nat.le_refl _, Lib.hid rfl, Lib.hid (box4.new _ _ _ _ _ _), Lib.hid (World.ownsRow_nil _ _ _ _), by simp, Lib.hid (by (repeat (first | exact Below.refl _ _ | (refine Below.setCell ?_ (by (first | exact Nat.le_refl _ | omega | (simp <;> omega) | simp)) _) | (refine Below.alloc ?_ (by (first | exact Nat.le_refl _ | omega | (simp <;> omega) | simp)) _) | (refine below_draws ?_ _))))⟩
  case round =>
    clear k0 k1 k2 k3 z0 z1 z2 z3 f0 f1 f2 f3
    obtain ⟨k, q, c, os, hk, rfl, hol, hos, hx, hown, hsz, hB⟩ := hrel
    have hBw : Hid (Below w.heap.size w wr) := Lib.hid (by have hB := hB.out; (repeat (first | exact Below.refl _ _ | (refine Below.setCell ?_ (by (first | exact Nat.le_refl _ | omega | (simp <;> omega) | simp)) _) | (refine Below.alloc ?_ (by (first | exact Nat.le_refl _ | omega | (simp <;> omega) | simp)) _) | (refine below_draws ?_ _) | exact M1 | (refine Below.trans ?_ (Below.mono M1 (by (first | exact Nat.le_refl _ | omega | (simp <;> omega) | simp)))) | exact hB | (refine Below.trans ?_ (Below.mono hB (by (first | exact Nat.le_refl _ | omega | (simp <;> omega) | simp)))))))
    by_cases hlt : k < ws.length
    · obtain ⟨g0, o, rfl, c0, c1, c2⟩ := HC.out k hlt
      have hg : g0 < w.heap.size := World.block_lt_of_cell? w _ c0
      rw [← hBw.out.cell (p := ⟨g0, o + k * 3, none⟩) hg] at c0
      rw [← hBw.out.cell (p := ⟨g0, o + k * 3 + 1, none⟩) hg] at c1
      rw [← hBw.out.cell (p := ⟨g0, o + k * 3 + 2, none⟩) hg] at c2
      have hne : g0 ≠ wr.heap.size := by omega
      have hne2 : w1.heap.size ≠ wr.heap.size := by omega
      obtain ⟨v0, v1, v2, v3, v4⟩ := HW.out.1 k hlt
      have Xa := (hx.out.alloc (.cells #[.int .i64 ws[k].1, .int .i64 ws[k].2.1, .int .i64 ws[k].2.2] 107))
      have HXA := Lib.hid Xa
      obtain ⟨b0, b1, b2, b3, -⟩ := Xa
      have hpl := put3_lenS os
      have hrs := restW_snoc ws k hlt a b
      have hjs := joinI_same (e := ws[k]) HJ.out v1
      have ARM : True := trivial
      clear hx
      by_cases hA : ws[k].1 = a ∧ ws[k].2.1 = b
      · have hj' : (joinI a b ws[k].1 == joinI a b ws[k].2.1) = true := by simpa using hjs.2 hA
        rw [if_pos (by simp [atEnds, hA])] at hrs
        have HS := Lib.hid hrs
        clear hrs hjs hA ARM
        go_wp2_with (go_at_call 87; refine (spec_joined _ a b _ (by omega) (by omega)).mono ?_; rintro en wz ⟨rfl, rfl⟩)
        go_roundw
        case rel => exact ⟨k + 1, q, c, os, by omega, by go_num, by omega, Lib.hid (by rw [HS.out, hos.out]), HXA, Lib.hid (owns_later hown.out (by (repeat (first | exact Below.refl _ _ | (refine Below.setCell ?_ (by (first | exact Nat.le_refl _ | omega | (simp <;> omega) | simp)) _) | (refine Below.alloc ?_ (by (first | exact Nat.le_refl _ | omega | (simp <;> omega) | simp)) _) | (refine below_draws ?_ _))))), by simp; omega, Lib.hid (by have hB := hB.out; (repeat (first | exact Below.refl _ _ | (refine Below.setCell ?_ (by (first | exact Nat.le_refl _ | omega | (simp <;> omega) | simp)) _) | (refine Below.alloc ?_ (by (first | exact Nat.le_refl _ | omega | (simp <;> omega) | simp)) _) | (refine below_draws ?_ _) | exact hB | (refine Below.trans ?_ (Below.mono hB (by (first | exact Nat.le_refl _ | omega | (simp <;> omega) | simp)))))))⟩
        case measure => simp [intOf]; omega
      · have hj' : (joinI a b ws[k].1 == joinI a b ws[k].2.1) = false := by simpa using fun h => hA (hjs.1 h)
        have hAt : atEnds a b ws[k] = false := by
          unfold atEnds
          rcases no_hit hA with h1 | ⟨h1, h2⟩
          · rw [h1]; rfl
          · rw [h2, Bool.and_false]
        rw [if_neg (by rw [hAt]; simp)] at hrs
        obtain ⟨lo, hi, he⟩ := ends_of (joinI a b ws[k].1) (joinI a b ws[k].2.1)
        obtain ⟨m1, m2⟩ := ends_min he
        have HE := Lib.hid he
        have HSN : Hid (put3 os lo hi ws[k].2.2 true = specM (keyJ a b) true (restW (ws.take (k + 1)) a b)) := Lib.hid (by rw [hrs, specM_snoc, ← hos.out]; unfold keyJ; simp only [m1, m2])
        have hpl := hpl lo hi ws[k].2.2 true
        clear he m1 m2 hrs hjs hA hAt ARM
        go_wp2_with (go_at_call 87; refine (spec_joined _ a b _ (by omega) (by omega)).mono ?_; rintro en wz ⟨rfl, rfl⟩)
        refine (spec_put3 _ _ lo hi _ true HE.out _ os _ (ReadsW.of_own (owns_later hown.out (by (repeat (first | exact Below.refl _ _ | (refine Below.setCell ?_ (by (first | exact Nat.le_refl _ | omega | (simp <;> omega) | simp)) _) | (refine Below.alloc ?_ (by (first | exact Nat.le_refl _ | omega | (simp <;> omega) | simp)) _) | (refine below_draws ?_ _)))))) (by omega)).mono ?_
        rintro en w2 ⟨p2, c2, rfl, o2, B2⟩
        have Xb := box4.below HXA.out B2 (by simp; omega)
        have HXB := Lib.hid Xb
        obtain ⟨d0, d1, d2, d3, e0, e1', e2', e3, -⟩ := Xb
        have S2 := B2.size
        simp at S2
        have o3 : w2.ownsRow (wr.heap.size + 1) 107 3 (.slice p2 (put3 os lo hi ws[k].2.2 true).length c2) (put3 os lo hi ws[k].2.2 true).length (cellsW (put3 os lo hi ws[k].2.2 true)) := by simpa using o2
        clear b0 b1 b2 b3
        go_wp2
        go_roundw
        case rel => exact ⟨k + 1, p2, c2, put3 os lo hi ws[k].2.2 true, by omega, by go_num, by omega, HSN, Lib.hid HXB.out.set3, Lib.hid (by refine owns_mono (base := wr.heap.size + 1) ?_ (by omega); ((repeat (refine ownsRow_setCell_below ?_ ?_ _; rotate_left; focus (first | omega | (simp; done) | (simp; omega)))); with_reducible exact o3)), by simp; omega, Lib.hid (by have hB := hB.out; (repeat (first | exact Below.refl _ _ | (refine Below.setCell ?_ (by (first | exact Nat.le_refl _ | omega | (simp <;> omega) | simp)) _) | (refine Below.alloc ?_ (by (first | exact Nat.le_refl _ | omega | (simp <;> omega) | simp)) _) | (refine below_draws ?_ _) | exact hB | (refine Below.trans ?_ (Below.mono hB (by (first | exact Nat.le_refl _ | omega | (simp <;> omega) | simp)))) | exact B2 | (refine Below.trans ?_ (Below.mono B2 (by (first | exact Nat.le_refl _ | omega | (simp <;> omega) | simp)))))))⟩
        case measure => simp [intOf]; omega
    · obtain rfl : k = ws.length := by omega
      have hM : specM (keyJ a b) true (restW ws a b) = os := by rw [hos.out, List.take_length]
      have HME := Lib.hid hM
      have hok2 := spec_netOk (n - 1) e s (.slice q os.length c) os wr (ReadsW.of_own hown.out)
      have HOW := Lib.hid hown.out
      have Z := Lib.hid (Z.out.below hB.out (by omega))
      obtain ⟨b0, b1, b2, b3, -⟩ := id hx.out
      clear hown hM
      by_cases hb2 : netB (n - 1) e s os = true
      · have HB2 := Lib.hid hb2
        rw [hb2] at hok2
        have HOK2 := Lib.hid hok2
        clear hb2 hok2
        go_wp2_with fail
        refine HOK2.out.mono ?_
        rintro en w5 ⟨rfl, B5⟩
        have Z := Lib.hid (Z.out.later B5)
        obtain ⟨d0, d1, d2, d3, -⟩ := hx.out.later B5
        obtain ⟨z0, z1, z2, z3, f0, f1, f2, f3, -⟩ := id Z.out
        have S5 := B5.size
        clear b0 b1 b2 b3
        go_wp2
        refine bodyPost_ret (v := .tuple #[.agg #[.int .i64 (n - 1), .int .i64 e, .int .i64 s, .slice q os.length c], .bool true]) (by simp (maxDischargeDepth := 8) [results, Try.results26, go_sem, *]) rfl ?_
        rw [HME.out, withR_yes HB2.out]
        exact ⟨q, c, rfl, by refine owns_mono (base := w1.heap.size + 1) ?_ (by omega); have o1 := owns_later HOW.out B5; ((repeat (refine ownsRow_setCell_below ?_ ?_ _; rotate_left; focus (first | omega | (simp; done) | (simp; omega)))); with_reducible exact o1), by have hBw := hBw.out; (repeat (first | exact Below.refl _ _ | (refine Below.setCell ?_ (by (first | exact Nat.le_refl _ | omega | (simp <;> omega) | simp)) _) | (refine Below.alloc ?_ (by (first | exact Nat.le_refl _ | omega | (simp <;> omega) | simp)) _) | (refine below_draws ?_ _) | exact hBw | (refine Below.trans ?_ (Below.mono hBw (by (first | exact Nat.le_refl _ | omega | (simp <;> omega) | simp)))) | exact B5 | (refine Below.trans ?_ (Below.mono B5 (by (first | exact Nat.le_refl _ | omega | (simp <;> omega) | simp))))))⟩
      · have hb2 : netB (n - 1) e s os = false := by simpa using hb2
        have HB2 := Lib.hid hb2
        rw [hb2] at hok2
        have HOK2 := Lib.hid hok2
        clear hb2 hok2
        go_wp2_with fail
        refine HOK2.out.mono ?_
        rintro en w5 ⟨rfl, B5⟩
        have Z := Lib.hid (Z.out.later B5)
        obtain ⟨z0, z1, z2, z3, f0, f1, f2, f3, -⟩ := id Z.out
        have S5 := B5.size
        clear b0 b1 b2 b3
        go_wp2
        refine bodyPost_ret (v := .tuple #[.agg #[.int .i64 0, .int .i64 0, .int .i64 0, .slice none 0 0], .bool false]) (by simp (maxDischargeDepth := 8) [results, Try.results26, go_sem, *]) rfl ?_
        rw [HME.out, withR_no HB2.out]
        exact ansN_no (by have hBw := hBw.out; (repeat (first | exact Below.refl _ _ | (refine Below.setCell ?_ (by (first | exact Nat.le_refl _ | omega | (simp <;> omega) | simp)) _) | (refine Below.alloc ?_ (by (first | exact Nat.le_refl _ | omega | (simp <;> omega) | simp)) _) | (refine below_draws ?_ _) | exact hBw | (refine Below.trans ?_ (Below.mono hBw (by (first | exact Nat.le_refl _ | omega | (simp <;> omega) | simp)))) | exact B5 | (refine Below.trans ?_ (Below.mono B5 (by (first | exact Nat.le_refl _ | omega | (simp <;> omega) | simp)))))))
theorem spec_joinNodes (n e s a b : Int) (v : Value) (ws : List W3) (w : World) (hr : ReadsW w v ws) :
    Calls Try.prog 26 #[.agg #[.int .i64 n, .int .i64 e, .int .i64 s, v], .int .i64 a, .int .i64 b] w (AnsN w (joinR n e s a b ws)) := by
  by_cases hb : netB n e s ws = true
  case neg =>
    rw [joinR_no (fun h => hb h.1)]
    exact joinS_net n e s a b v ws w hr (by simpa using hb)
  by_cases hJ : JoinOk n a b
  case neg =>
    rw [joinR_no (fun h => hJ h.2)]
    unfold JoinOk at hJ
    by_cases hA : 0 ≤ a ∧ a < n
    case neg => exact joinS_a n e s a b v ws w hr hb hA
    exact joinS_b n e s a b v ws w hr hb hA (by omega)
  rw [joinR_yes hb hJ]
  unfold endsJ
  by_cases hbe : b < e
  · rw [if_pos hbe]; exact joinS_yes1 n e s a b v ws w hr hb hJ hbe
  · rw [if_neg hbe]; exact joinS_yes0 n e s a b v ws w hr hb hJ hbe
end Go.Proofs.Ytpfnlnllaapjeaa
