/-
  Two nodes in ascending order.
-/
import Derived.Test.YtaececpphdaciaaHasNode
import Derived.Test.YtaececpphdaciaaGLap
namespace Go.Proofs.Ytaececpphdaciaa
open Go.RowKit

def hasB (n x : Int) : Bool := decide (0 ≤ x) && decide (x < n)
theorem hasN_any (n e s x : Int) (v : Value) (w : World) :
    Calls Try.prog 57 #[.agg #[.int .i64 n, .int .i64 e, .int .i64 s, v], .int .i64 x] w fun en w' => en = .returned (.bool (hasB n x)) ∧ Below w.heap.size w w' := by
  by_cases h1 : 0 ≤ x
  · by_cases h2 : x < n
    · have HF : Hid (hasB n x = true) := Lib.hid (by simp [hasB, h1, h2])
      go_enter Try.func57, Try.ntmps57
      go_wp2
      go_ret
      exact ⟨ret_b HF.out.symm, by (repeat (first | exact Below.refl _ _ | (refine Below.setCell ?_ (by (first | exact Nat.le_refl _ | omega | (simp <;> omega) | simp)) _) | (refine Below.alloc ?_ (by (first | exact Nat.le_refl _ | omega | (simp <;> omega) | simp)) _) | (refine below_draws ?_ _)))⟩
    · have HF : Hid (hasB n x = false) := Lib.hid (by simp [hasB, h2])
      go_enter Try.func57, Try.ntmps57
      go_wp2
      go_ret
      exact ⟨ret_b HF.out.symm, by (repeat (first | exact Below.refl _ _ | (refine Below.setCell ?_ (by (first | exact Nat.le_refl _ | omega | (simp <;> omega) | simp)) _) | (refine Below.alloc ?_ (by (first | exact Nat.le_refl _ | omega | (simp <;> omega) | simp)) _) | (refine below_draws ?_ _)))⟩
  · have HF : Hid (hasB n x = false) := Lib.hid (by simp [hasB, h1])
    go_enter Try.func57, Try.ntmps57
    go_wp2
    go_ret
    exact ⟨ret_b HF.out.symm, by (repeat (first | exact Below.refl _ _ | (refine Below.setCell ?_ (by (first | exact Nat.le_refl _ | omega | (simp <;> omega) | simp)) _) | (refine Below.alloc ?_ (by (first | exact Nat.le_refl _ | omega | (simp <;> omega) | simp)) _) | (refine below_draws ?_ _)))⟩
theorem pair_yes (n e s a b : Int) (v : Value) (w : World) (h : 0 ≤ a ∧ a < b ∧ b < n) :
    Calls Try.prog 106 #[.agg #[.int .i64 n, .int .i64 e, .int .i64 s, v], .int .i64 a, .int .i64 b] w fun en w' => en = .returned (.bool true) ∧ Below w.heap.size w w' := by
  have c1 := fun w => hasN_any n e s a v w
  rw [show hasB n a = true by simp [hasB]; omega] at c1
  have c2 := fun w => hasN_any n e s b v w
  rw [show hasB n b = true by simp [hasB]; omega] at c2
  have C1 := Lib.hid c1
  have C2 := Lib.hid c2
  have hab := h.2.1
  clear c1 c2 h
  go_enter Try.func106, Try.ntmps106
  go_wp2_with fail
  refine (C1.out _).mono ?_
  rintro en w1 ⟨rfl, B1⟩
  have S1 := B1.size
  simp at S1
  have hbx : boxN w1 w.heap.size n e s v := (boxN.new w n e s v 25).later B1
  obtain ⟨x0, x1, x2, x3⟩ := hbx
  go_wp2_with fail
  refine (C2.out _).mono ?_
  rintro en w2 ⟨rfl, B2⟩
  have S2 := B2.size
  go_wp2
  go_ret
  exact ⟨rfl, by (repeat (first | exact Below.refl _ _ | (refine Below.setCell ?_ (by (first | exact Nat.le_refl _ | omega | (simp <;> omega) | simp)) _) | (refine Below.alloc ?_ (by (first | exact Nat.le_refl _ | omega | (simp <;> omega) | simp)) _) | (refine below_draws ?_ _) | exact B1 | (refine Below.trans ?_ (Below.mono B1 (by (first | exact Nat.le_refl _ | omega | (simp <;> omega) | simp)))) | exact B2 | (refine Below.trans ?_ (Below.mono B2 (by (first | exact Nat.le_refl _ | omega | (simp <;> omega) | simp))))))⟩
theorem pair_no (n e s a b : Int) (v : Value) (w : World) (h : ¬ (0 ≤ a ∧ a < b ∧ b < n)) :
    Calls Try.prog 106 #[.agg #[.int .i64 n, .int .i64 e, .int .i64 s, v], .int .i64 a, .int .i64 b] w fun en w' => en = .returned (.bool false) ∧ Below w.heap.size w w' := by
  have c1 := fun w => hasN_any n e s a v w
  have c2 := fun w => hasN_any n e s b v w
  by_cases h1 : 0 ≤ a ∧ a < n
  · rw [show hasB n a = true by simp [hasB]; omega] at c1
    by_cases h2 : 0 ≤ b ∧ b < n
    · rw [show hasB n b = true by simp [hasB]; omega] at c2
      have C1 := Lib.hid c1
      have C2 := Lib.hid c2
      have hab : decide (a < b) = false := by simp; omega
      clear c1 c2 h h1 h2
      go_enter Try.func106, Try.ntmps106
      go_wp2_with fail
      refine (C1.out _).mono ?_
      rintro en w1 ⟨rfl, B1⟩
      have S1 := B1.size
      simp at S1
      have hbx : boxN w1 w.heap.size n e s v := (boxN.new w n e s v 25).later B1
      obtain ⟨x0, x1, x2, x3⟩ := hbx
      go_wp2_with fail
      refine (C2.out _).mono ?_
      rintro en w2 ⟨rfl, B2⟩
      have S2 := B2.size
      go_wp2
      go_ret
      exact ⟨rfl, by (repeat (first | exact Below.refl _ _ | (refine Below.setCell ?_ (by (first | exact Nat.le_refl _ | omega | (simp <;> omega) | simp)) _) | (refine Below.alloc ?_ (by (first | exact Nat.le_refl _ | omega | (simp <;> omega) | simp)) _) | (refine below_draws ?_ _) | exact B1 | (refine Below.trans ?_ (Below.mono B1 (by (first | exact Nat.le_refl _ | omega | (simp <;> omega) | simp)))) | exact B2 | (refine Below.trans ?_ (Below.mono B2 (by (first | exact Nat.le_refl _ | omega | (simp <;> omega) | simp))))))⟩
    · rw [show hasB n b = false by simp [hasB]; omega] at c2
      have C1 := Lib.hid c1
      have C2 := Lib.hid c2
      clear c1 c2 h h1 h2
      go_enter Try.func106, Try.ntmps106
      go_wp2_with fail
      refine (C1.out _).mono ?_
      rintro en w1 ⟨rfl, B1⟩
      have S1 := B1.size
      simp at S1
      have hbx : boxN w1 w.heap.size n e s v := (boxN.new w n e s v 25).later B1
      obtain ⟨x0, x1, x2, x3⟩ := hbx
      go_wp2_with fail
      refine (C2.out _).mono ?_
      rintro en w2 ⟨rfl, B2⟩
      have S2 := B2.size
      go_wp2
      go_ret
      exact ⟨rfl, by (repeat (first | exact Below.refl _ _ | (refine Below.setCell ?_ (by (first | exact Nat.le_refl _ | omega | (simp <;> omega) | simp)) _) | (refine Below.alloc ?_ (by (first | exact Nat.le_refl _ | omega | (simp <;> omega) | simp)) _) | (refine below_draws ?_ _) | exact B1 | (refine Below.trans ?_ (Below.mono B1 (by (first | exact Nat.le_refl _ | omega | (simp <;> omega) | simp)))) | exact B2 | (refine Below.trans ?_ (Below.mono B2 (by (first | exact Nat.le_refl _ | omega | (simp <;> omega) | simp))))))⟩
  · rw [show hasB n a = false by simp [hasB]; omega] at c1
    have C1 := Lib.hid c1
    clear c1 c2 h h1
    go_enter Try.func106, Try.ntmps106
    go_wp2_with fail
    refine (C1.out _).mono ?_
    rintro en w1 ⟨rfl, B1⟩
    have S1 := B1.size
    simp at S1
    go_wp2
    go_ret
    exact ⟨rfl, by (repeat (first | exact Below.refl _ _ | (refine Below.setCell ?_ (by (first | exact Nat.le_refl _ | omega | (simp <;> omega) | simp)) _) | (refine Below.alloc ?_ (by (first | exact Nat.le_refl _ | omega | (simp <;> omega) | simp)) _) | (refine below_draws ?_ _) | exact B1 | (refine Below.trans ?_ (Below.mono B1 (by (first | exact Nat.le_refl _ | omega | (simp <;> omega) | simp))))))⟩

end Go.Proofs.Ytaececpphdaciaa
