/-
  Floors and ceilings of fractions, in the model and in the program.
-/
import Derived.Test.YtpkddaapffamiaaGRat
namespace Go.Proofs.Ytpkddaapffamiaa
open Go.RowKit

def rFloor (n d : Int) : Int := if rOk n d = true then n / d else 0
def rCeil (n d : Int) : Int := if rOk n d = true then -(-n / d) else 0

set_option maxHeartbeats 400000 in
theorem impl_floor (n d : Int) (w : World) (hd : 0 < d) (n0 : -2000000000000000000 ≤ n) (n1 : n ≤ 2000000000000000000) (d1 : d ≤ 2000000000000000000) :
    Calls Try.prog 100 #[.agg #[.int .i64 n, .int .i64 d]] w fun e w' => e = .returned (.int .i64 (n / d)) ∧ Below w.heap.size w w' := by
  have hdb : (d == 0) = false := by rw [beq_eq_false_iff_ne]; omega
  have hr := Int.natAbs_tdiv_le_natAbs n d
  have hr0 : -2000000000000000000 ≤ n.tdiv d := by omega
  have hr1 : n.tdiv d ≤ 2000000000000000000 := by omega
  clear hr
  by_cases hm : n.tmod d < 0
  · have HE := Lib.hid (floor_neg n d hd hm)
    go_enter Try.func100, Try.ntmps100
    go_wp2
    go_ret
    exact ⟨ret_i HE.out, by (repeat (first | exact Below.refl _ _ | (refine Below.setCell ?_ (by (first | exact Nat.le_refl _ | omega | (simp <;> omega) | simp)) _) | (refine Below.alloc ?_ (by (first | exact Nat.le_refl _ | omega | (simp <;> omega) | simp)) _) | (refine below_draws ?_ _)))⟩
  · have HE := Lib.hid (floor_nonneg n d hd hm)
    have hm' : decide (n.tmod d < 0) = false := by simpa using hm
    clear hm
    go_enter Try.func100, Try.ntmps100
    go_wp2
    go_ret
    exact ⟨ret_i HE.out, by (repeat (first | exact Below.refl _ _ | (refine Below.setCell ?_ (by (first | exact Nat.le_refl _ | omega | (simp <;> omega) | simp)) _) | (refine Below.alloc ?_ (by (first | exact Nat.le_refl _ | omega | (simp <;> omega) | simp)) _) | (refine below_draws ?_ _)))⟩

set_option maxHeartbeats 400000 in
theorem impl_negative (n d : Int) (w : World) (n0 : -2000000000000000000 ≤ n) (n1 : n ≤ 2000000000000000000) :
    Calls Try.prog 60 #[.agg #[.int .i64 n, .int .i64 d]] w fun e w' => e = .returned (.agg #[.int .i64 (-n), .int .i64 d]) ∧ Below w.heap.size w w' := by
  go_enter Try.func60, Try.ntmps60
  go_wp2
  exact bodyPost_ret (v := (.agg #[.int .i64 (-n), .int .i64 d])) (by simp (maxDischargeDepth := 8) [results, Try.results60, go_sem, *]) rfl ⟨rfl, by (repeat (first | exact Below.refl _ _ | (refine Below.setCell ?_ (by (first | exact Nat.le_refl _ | omega | (simp <;> omega) | simp)) _) | (refine Below.alloc ?_ (by (first | exact Nat.le_refl _ | omega | (simp <;> omega) | simp)) _) | (refine below_draws ?_ _)))⟩

end Go.Proofs.Ytpkddaapffamiaa
