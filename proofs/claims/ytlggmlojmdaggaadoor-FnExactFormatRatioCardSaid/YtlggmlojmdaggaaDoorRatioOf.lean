/-
  RatioOf, in the model and in the program: the fraction in lowest terms.
-/
import Derived.Test.YtlggmlojmdaggaaDoorRatio
namespace Go.Proofs.YtlggmlojmdaggaaDoor
open Go.RowKit

theorem ret_agg2 {a b c d : Int} (h : a = c) (k : b = d) : Ending.returned (.agg #[.int .i64 a, .int .i64 b]) = .returned (.agg #[.int .i64 c, .int .i64 d]) := by rw [h, k]
theorem rOf_zero {n d : Int} (h : d = 0 ∨ gcdV n d = 0) : rOfN n d = 0 ∧ rOfD n d = 0 := by
  have hb : rOfB n d = false := by
    unfold rOfB
    rcases h with h | h <;> simp [h]
  unfold rOfN rOfD; rw [hb]; exact ⟨rfl, rfl⟩
theorem rOf_no {n d : Int} (h : rOk (rNum n d) (rDen n d) = false) : rOfN n d = 0 ∧ rOfD n d = 0 := by
  have hb : rOfB n d = false := by unfold rOfB; rw [h, Bool.and_false]
  unfold rOfN rOfD; rw [hb]; exact ⟨rfl, rfl⟩
theorem rOf_yes {n d : Int} (hd : d ≠ 0) (hg : gcdV n d ≠ 0) (h : rOk (rNum n d) (rDen n d) = true) : rOfN n d = rNum n d ∧ rOfD n d = rDen n d := by
  have hb : rOfB n d = true := by unfold rOfB; rw [h]; simp [hd, hg]
  unfold rOfN rOfD; rw [hb]; exact ⟨rfl, rfl⟩
theorem rPos {n d : Int} (hd : 0 < d) : rNum n d = n.tdiv (gcdV n d) ∧ rDen n d = d.tdiv (gcdV n d) := by
  unfold rNum rDen; rw [if_neg (by omega), if_neg (by omega)]; exact ⟨rfl, rfl⟩
theorem rNeg {n d : Int} (hd : d < 0) : rNum n d = -(n.tdiv (gcdV n d)) ∧ rDen n d = -(d.tdiv (gcdV n d)) := by
  unfold rNum rDen; rw [if_pos hd, if_pos hd]; exact ⟨rfl, rfl⟩

end Go.Proofs.YtlggmlojmdaggaaDoor
