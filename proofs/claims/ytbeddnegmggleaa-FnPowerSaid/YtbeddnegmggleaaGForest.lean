/-
  CrossSum, ForestSum and TreeSum in the program.
  TreeSum and ForestSum in the model.
-/
import Derived.Test.YtbeddnegmggleaaGKir
namespace Go.Proofs.Ytbeddnegmggleaa
open Go.RowKit

def hasB (n x : Int) : Bool := decide (0 ≤ x) && decide (x < n)
theorem hasN_any (n e s x : Int) (v : Value) (w : World) :
    Calls Try.prog 68 #[.agg #[.int .i64 n, .int .i64 e, .int .i64 s, v], .int .i64 x] w fun en w' => en = .returned (.bool (hasB n x)) ∧ Below w.heap.size w w' := by
  by_cases h1 : 0 ≤ x
  · by_cases h2 : x < n
    · have HF : Hid (hasB n x = true) := Lib.hid (by simp [hasB, h1, h2])
      go_enter Try.func68, Try.ntmps68
      go_wp2
      go_ret
      exact ⟨ret_b HF.out.symm, by (repeat (first | exact Below.refl _ _ | (refine Below.setCell ?_ (by (first | exact Nat.le_refl _ | omega | (simp <;> omega) | simp)) _) | (refine Below.alloc ?_ (by (first | exact Nat.le_refl _ | omega | (simp <;> omega) | simp)) _) | (refine below_draws ?_ _)))⟩
    · have HF : Hid (hasB n x = false) := Lib.hid (by simp [hasB, h2])
      go_enter Try.func68, Try.ntmps68
      go_wp2
      go_ret
      exact ⟨ret_b HF.out.symm, by (repeat (first | exact Below.refl _ _ | (refine Below.setCell ?_ (by (first | exact Nat.le_refl _ | omega | (simp <;> omega) | simp)) _) | (refine Below.alloc ?_ (by (first | exact Nat.le_refl _ | omega | (simp <;> omega) | simp)) _) | (refine below_draws ?_ _)))⟩
  · have HF : Hid (hasB n x = false) := Lib.hid (by simp [hasB, h1])
    go_enter Try.func68, Try.ntmps68
    go_wp2
    go_ret
    exact ⟨ret_b HF.out.symm, by (repeat (first | exact Below.refl _ _ | (refine Below.setCell ?_ (by (first | exact Nat.le_refl _ | omega | (simp <;> omega) | simp)) _) | (refine Below.alloc ?_ (by (first | exact Nat.le_refl _ | omega | (simp <;> omega) | simp)) _) | (refine below_draws ?_ _)))⟩
theorem pair_yes (n e s a b : Int) (v : Value) (w : World) (h : 0 ≤ a ∧ a < b ∧ b < n) :
    Calls Try.prog 142 #[.agg #[.int .i64 n, .int .i64 e, .int .i64 s, v], .int .i64 a, .int .i64 b] w fun en w' => en = .returned (.bool true) ∧ Below w.heap.size w w' := by
  have c1 := fun w => hasN_any n e s a v w
  rw [show hasB n a = true by simp [hasB]; omega] at c1
  have c2 := fun w => hasN_any n e s b v w
  rw [show hasB n b = true by simp [hasB]; omega] at c2
  have C1 := Lib.hid c1
  have C2 := Lib.hid c2
  have hab := h.2.1
  clear c1 c2 h
  go_enter Try.func142, Try.ntmps142
  go_wp2_with fail
  refine (C1.out _).mono ?_
  rintro en w1 ⟨rfl, B1⟩
  have S1 := B1.size
  simp at S1
  have hbx : boxN w1 w.heap.size n e s v := (boxN.new w n e s v 25).later B1
  obtain ⟨x0, x1, x2, x3⟩ := hbx
  go_wp2_with fail
  refine (C2.out _).mono ?_
  rintro en w2 ⟨rfl, B2⟩
  have S2 := B2.size
  go_wp2
  go_ret
  exact ⟨rfl, by (repeat (first | exact Below.refl _ _ | (refine Below.setCell ?_ (by (first | exact Nat.le_refl _ | omega | (simp <;> omega) | simp)) _) | (refine Below.alloc ?_ (by (first | exact Nat.le_refl _ | omega | (simp <;> omega) | simp)) _) | (refine below_draws ?_ _) | exact B1 | (refine Below.trans ?_ (Below.mono B1 (by (first | exact Nat.le_refl _ | omega | (simp <;> omega) | simp)))) | exact B2 | (refine Below.trans ?_ (Below.mono B2 (by (first | exact Nat.le_refl _ | omega | (simp <;> omega) | simp))))))⟩
theorem pair_no (n e s a b : Int) (v : Value) (w : World) (h : ¬ (0 ≤ a ∧ a < b ∧ b < n)) :
    Calls Try.prog 142 #[.agg #[.int .i64 n, .int .i64 e, .int .i64 s, v], .int .i64 a, .int .i64 b] w fun en w' => en = .returned (.bool false) ∧ Below w.heap.size w w' := by
  have c1 := fun w => hasN_any n e s a v w
  have c2 := fun w => hasN_any n e s b v w
  by_cases h1 : 0 ≤ a ∧ a < n
  · rw [show hasB n a = true by simp [hasB]; omega] at c1
    by_cases h2 : 0 ≤ b ∧ b < n
    · rw [show hasB n b = true by simp [hasB]; omega] at c2
      have C1 := Lib.hid c1
      have C2 := Lib.hid c2
      have hab : decide (a < b) = false := by simp; omega
      clear c1 c2 h h1 h2
      go_enter Try.func142, Try.ntmps142
      go_wp2_with fail
      refine (C1.out _).mono ?_
      rintro en w1 ⟨rfl, B1⟩
      have S1 := B1.size
      simp at S1
      have hbx : boxN w1 w.heap.size n e s v := (boxN.new w n e s v 25).later B1
      obtain ⟨x0, x1, x2, x3⟩ := hbx
      go_wp2_with fail
      refine (C2.out _).mono ?_
      rintro en w2 ⟨rfl, B2⟩
      have S2 := B2.size
      go_wp2
      go_ret
      exact ⟨rfl, by (repeat (first | exact Below.refl _ _ | (refine Below.setCell ?_ (by (first | exact Nat.le_refl _ | omega | (simp <;> omega) | simp)) _) | (refine Below.alloc ?_ (by (first | exact Nat.le_refl _ | omega | (simp <;> omega) | simp)) _) | (refine below_draws ?_ _) | exact B1 | (refine Below.trans ?_ (Below.mono B1 (by (first | exact Nat.le_refl _ | omega | (simp <;> omega) | simp)))) | exact B2 | (refine Below.trans ?_ (Below.mono B2 (by (first | exact Nat.le_refl _ | omega | (simp <;> omega) | simp))))))⟩
    · rw [show hasB n b = false by simp [hasB]; omega] at c2
      have C1 := Lib.hid c1
      have C2 := Lib.hid c2
      clear c1 c2 h h1 h2
      go_enter Try.func142, Try.ntmps142
      go_wp2_with fail
      refine (C1.out _).mono ?_
      rintro en w1 ⟨rfl, B1⟩
      have S1 := B1.size
      simp at S1
      have hbx : boxN w1 w.heap.size n e s v := (boxN.new w n e s v 25).later B1
      obtain ⟨x0, x1, x2, x3⟩ := hbx
      go_wp2_with fail
      refine (C2.out _).mono ?_
      rintro en w2 ⟨rfl, B2⟩
      have S2 := B2.size
      go_wp2
      go_ret
      exact ⟨rfl, by (repeat (first | exact Below.refl _ _ | (refine Below.setCell ?_ (by (first | exact Nat.le_refl _ | omega | (simp <;> omega) | simp)) _) | (refine Below.alloc ?_ (by (first | exact Nat.le_refl _ | omega | (simp <;> omega) | simp)) _) | (refine below_draws ?_ _) | exact B1 | (refine Below.trans ?_ (Below.mono B1 (by (first | exact Nat.le_refl _ | omega | (simp <;> omega) | simp)))) | exact B2 | (refine Below.trans ?_ (Below.mono B2 (by (first | exact Nat.le_refl _ | omega | (simp <;> omega) | simp))))))⟩
  · rw [show hasB n a = false by simp [hasB]; omega] at c1
    have C1 := Lib.hid c1
    clear c1 c2 h h1
    go_enter Try.func142, Try.ntmps142
    go_wp2_with fail
    refine (C1.out _).mono ?_
    rintro en w1 ⟨rfl, B1⟩
    have S1 := B1.size
    simp at S1
    go_wp2
    go_ret
    exact ⟨rfl, by (repeat (first | exact Below.refl _ _ | (refine Below.setCell ?_ (by (first | exact Nat.le_refl _ | omega | (simp <;> omega) | simp)) _) | (refine Below.alloc ?_ (by (first | exact Nat.le_refl _ | omega | (simp <;> omega) | simp)) _) | (refine below_draws ?_ _) | exact B1 | (refine Below.trans ?_ (Below.mono B1 (by (first | exact Nat.le_refl _ | omega | (simp <;> omega) | simp))))))⟩

set_option maxHeartbeats 6400000 in
theorem impl_tree (n e s : Int) (v : Value) (ws : List W3) (w : World) (hr : ReadsW w v ws) :
    Calls Try.prog 66 #[.agg #[.int .i64 n, .int .i64 e, .int .i64 s, v]] w fun en w' => en = .returned (.int .i64 (treeR n e s ws)) ∧ Below w.heap.size w w' := by
  have B0 := (Below.refl w.heap.size w).alloc (Nat.le_refl _) (.cells #[.int .i64 n, .int .i64 e, .int .i64 s, v] 25)
  have hbox := boxN.new w n e s v 25
  have hr0 := hr.later B0
  have hok := impl_netOk n e s v ws _ hr0
  obtain ⟨p, cap, rfl⟩ := hr.shape
  cases hb : netB n e s ws
  · rw [hb] at hok
    have HF : Hid (treeR n e s ws = 0) := Lib.hid (by unfold treeR; rw [if_neg (by simp [hb])])
    clear hbox
    go_enter Try.func66, Try.ntmps66
    go_wp2_with fail
    refine hok.mono ?_
    rintro en w1 ⟨rfl, B1⟩
    go_wp2
    go_ret
    exact ⟨ret_i (by rw [HF.out]), by (repeat (first | exact Below.refl _ _ | (refine Below.setCell ?_ (by (first | exact Nat.le_refl _ | omega | (simp <;> omega) | simp)) _) | (refine Below.alloc ?_ (by (first | exact Nat.le_refl _ | omega | (simp <;> omega) | simp)) _) | (refine below_draws ?_ _) | exact B1 | (refine Below.trans ?_ (Below.mono B1 (by (first | exact Nat.le_refl _ | omega | (simp <;> omega) | simp))))))⟩
  rw [hb] at hok
  obtain ⟨N, rfl, hN1, hN5, hw⟩ := net_small hb
  have HF : Hid (treeR N e s ws = detD (lapM N ws) (woL N [0]) (woL N [0])) := Lib.hid (by unfold treeR; rw [if_pos hb, Int.toNat_natCast])
  have hmr := minR_net hw hN5 (q := [0]) (r := [0]) rfl
  have HM := Lib.hid hmr; clear hmr
  have HB := Lib.hid hb; clear hb
  have HW := Lib.hid hr; clear hr hr0 hw
  go_enter Try.func66, Try.ntmps66
  go_wp2_with fail
  refine hok.mono ?_
  rintro en w1 ⟨rfl, B1⟩
  have S1 := B1.size
  simp at S1
  have hb1 := hbox.later B1
  obtain ⟨x0, x1, x2, x3⟩ := id hb1
  clear hok
  have C1 : Below w.heap.size w w1 := by (repeat (first | exact Below.refl _ _ | (refine Below.setCell ?_ (by (first | exact Nat.le_refl _ | omega | (simp <;> omega) | simp)) _) | (refine Below.alloc ?_ (by (first | exact Nat.le_refl _ | omega | (simp <;> omega) | simp)) _) | (refine below_draws ?_ _) | exact B1 | (refine Below.trans ?_ (Below.mono B1 (by (first | exact Nat.le_refl _ | omega | (simp <;> omega) | simp))))))
  go_wp2_with fail
  refine (impl_without N hN5 e s _ _ [0] _ (readsI_new1 _ _ _)).mono ?_
  rintro en w2 ⟨v2, rfl, r2, B2⟩
  have S2 := B2.size
  simp at S2
  have hb2 := (hb1.later (show Below w1.heap.size w1 (w1.alloc _) by (repeat (first | exact Below.refl _ _ | (refine Below.setCell ?_ (by (first | exact Nat.le_refl _ | omega | (simp <;> omega) | simp)) _) | (refine Below.alloc ?_ (by (first | exact Nat.le_refl _ | omega | (simp <;> omega) | simp)) _) | (refine below_draws ?_ _))))).later B2
  have C2 : Below w.heap.size w w2 := by (repeat (first | exact Below.refl _ _ | (refine Below.setCell ?_ (by (first | exact Nat.le_refl _ | omega | (simp <;> omega) | simp)) _) | (refine Below.alloc ?_ (by (first | exact Nat.le_refl _ | omega | (simp <;> omega) | simp)) _) | (refine below_draws ?_ _) | exact C1 | (refine Below.trans ?_ (Below.mono C1 (by (first | exact Nat.le_refl _ | omega | (simp <;> omega) | simp)))) | exact B2 | (refine Below.trans ?_ (Below.mono B2 (by (first | exact Nat.le_refl _ | omega | (simp <;> omega) | simp))))))
  clear x0 x1 x2 x3
  obtain ⟨x0, x1, x2, x3⟩ := id hb2
  go_wp2_with fail
  refine (impl_lap N e s _ ws _ (HW.out.later C2)).mono ?_
  rintro en w3 ⟨v3, rfl, o3, B3⟩
  have S3 := B3.size
  have r3 := o3.reads
  rw [lapR_yes HB.out, Int.toNat_natCast] at r3
  go_wp2_with fail
  refine (impl_minor _ _ _ (lapM N ws) (woL N [0]) (woL N [0]) _ r3 (r2.later B3) (r2.later B3)).mono ?_
  rw [HM.out]
  rintro en w4 ⟨rfl, B4⟩
  have S4 := B4.size
  have C4 : Below w.heap.size w w4 := by (repeat (first | exact Below.refl _ _ | (refine Below.setCell ?_ (by (first | exact Nat.le_refl _ | omega | (simp <;> omega) | simp)) _) | (refine Below.alloc ?_ (by (first | exact Nat.le_refl _ | omega | (simp <;> omega) | simp)) _) | (refine below_draws ?_ _) | exact C2 | (refine Below.trans ?_ (Below.mono C2 (by (first | exact Nat.le_refl _ | omega | (simp <;> omega) | simp)))) | exact B3 | (refine Below.trans ?_ (Below.mono B3 (by (first | exact Nat.le_refl _ | omega | (simp <;> omega) | simp)))) | exact B4 | (refine Below.trans ?_ (Below.mono B4 (by (first | exact Nat.le_refl _ | omega | (simp <;> omega) | simp))))))
  go_wp2
  go_ret
  exact ⟨ret_i (by rw [HF.out]), C4⟩
end Go.Proofs.Ytbeddnegmggleaa

namespace Go.Proofs.Ytbeddnegmggleaa
open Go.RowKit
end Go.Proofs.Ytbeddnegmggleaa
