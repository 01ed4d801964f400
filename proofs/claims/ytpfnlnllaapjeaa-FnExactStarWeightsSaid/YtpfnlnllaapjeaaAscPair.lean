/-
  Two nodes in ascending order.
-/
import Derived.Test.YtpfnlnllaapjeaaHasNode
import Derived.Test.YtpfnlnllaapjeaaGLap
namespace Go.Proofs.Ytpfnlnllaapjeaa
open Go.RowKit

def hasB (n x : Int) : Bool := decide (0 ≤ x) && decide (x < n)
theorem hasN_any (n e s x : Int) (v : Value) (w : World) :
    Calls Try.prog 80 #[.agg #[.int .i64 n, .int .i64 e, .int .i64 s, v], .int .i64 x] w fun en w' => en = .returned (.bool (hasB n x)) ∧ Below w.heap.size w w' := by
  by_cases h1 : 0 ≤ x
  · by_cases h2 : x < n
    · have HF : Hid (hasB n x = true) := Lib.hid (by simp [hasB, h1, h2])
      go_enter Try.func80, Try.ntmps80
      go_wp2
      go_ret
      exact ⟨ret_b HF.out.symm, by (repeat (first | exact Below.refl _ _ | (refine Below.setCell ?_ (by (first | exact Nat.le_refl _ | omega | (simp <;> omega) | simp)) _) | (refine Below.alloc ?_ (by (first | exact Nat.le_refl _ | omega | (simp <;> omega) | simp)) _) | (refine below_draws ?_ _)))⟩
    · have HF : Hid (hasB n x = false) := Lib.hid (by simp [hasB, h2])
      go_enter Try.func80, Try.ntmps80
      go_wp2
      go_ret
      exact ⟨ret_b HF.out.symm, by (repeat (first | exact Below.refl _ _ | (refine Below.setCell ?_ (by (first | exact Nat.le_refl _ | omega | (simp <;> omega) | simp)) _) | (refine Below.alloc ?_ (by (first | exact Nat.le_refl _ | omega | (simp <;> omega) | simp)) _) | (refine below_draws ?_ _)))⟩
  · have HF : Hid (hasB n x = false) := Lib.hid (by simp [hasB, h1])
    go_enter Try.func80, Try.ntmps80
    go_wp2
    go_ret
    exact ⟨ret_b HF.out.symm, by (repeat (first | exact Below.refl _ _ | (refine Below.setCell ?_ (by (first | exact Nat.le_refl _ | omega | (simp <;> omega) | simp)) _) | (refine Below.alloc ?_ (by (first | exact Nat.le_refl _ | omega | (simp <;> omega) | simp)) _) | (refine below_draws ?_ _)))⟩
end Go.Proofs.Ytpfnlnllaapjeaa
