/-
  The contracts of fractions at given answers.
-/
import Derived.Test.YtpkddaapffamiaaRatDiff
import Derived.Test.YtpkddaapffamiaaKept
import Derived.Test.YtpkddaapffamiaaGKeep
import Derived.Deep.RegionHeld3
import Derived.Deep.DeepCutAuto
import Derived.Laws.StructEq
namespace Go.Proofs.Ytpkddaapffamiaa
open Go.RowKit

def In (x : Int) : Prop := -9223372036854775808 ≤ x ∧ x ≤ 9223372036854775807
theorem rOf_in (n d : Int) : In (rOfN n d) ∧ In (rOfD n d) := by
  unfold rOfN rOfD
  cases hb : rOfB n d
  · simp [In]
  · have hk : rOk (rNum n d) (rDen n d) = true := by
      unfold rOfB at hb; simp only [Bool.and_eq_true] at hb; exact hb.2
    obtain ⟨a1, a2, a3, a4, _⟩ := rOk_iff.1 hk
    simp only [if_true, In]
    omega
theorem ok_in {n d : Int} (h : rOk n d = true) : In n ∧ In d := by
  obtain ⟨a1, a2, a3, a4, _⟩ := rOk_iff.1 h
  unfold In; omega
theorem times_in {n d m e x y : Int} (h : rTimes n d m e = (x, y)) : In x ∧ In y := by
  unfold rTimes at h
  split at h
  · cases h; exact rOf_in _ _
  · cases h; simp [In]
theorem c_ok {n d : Int} (h : rOk n d = true) (w : World) : Calls Try.prog 62 #[.agg #[.int .i64 n, .int .i64 d]] w fun en w' => en = .returned (.bool true) ∧ Below w.heap.size w w' := by
  obtain ⟨i, j⟩ := ok_in h
  have hc := impl_rOk n d w i.1 i.2 j.1 j.2
  rw [h] at hc; exact hc

theorem c_sum {n d m e x y : Int} (h : rSum n d m e = (x, y)) (hn : In n ∧ In d) (hm : In m ∧ In e) (w : World) : Calls Try.prog 22 #[.agg #[.int .i64 n, .int .i64 d], .agg #[.int .i64 m, .int .i64 e]] w fun en w' => en = .returned (.agg #[.int .i64 x, .int .i64 y]) ∧ Below w.heap.size w w' := by
  have hc := impl_rSum n d m e w hn.1.1 hn.1.2 hn.2.1 hn.2.2 hm.1.1 hm.1.2 hm.2.1 hm.2.2
  rw [h] at hc; exact hc
theorem c_diff {n d m e x y : Int} (h : rDiff n d m e = (x, y)) (hn : In n ∧ In d) (hm : In m ∧ In e) (w : World) : Calls Try.prog 19 #[.agg #[.int .i64 n, .int .i64 d], .agg #[.int .i64 m, .int .i64 e]] w fun en w' => en = .returned (.agg #[.int .i64 x, .int .i64 y]) ∧ Below w.heap.size w w' := by
  have hc := impl_rDiff n d m e w hn.1.1 hn.1.2 hn.2.1 hn.2.2 hm.1.1 hm.1.2 hm.2.1 hm.2.2
  rw [h] at hc; exact hc
theorem c_times {n d m e x y : Int} (h : rTimes n d m e = (x, y)) (hn : In n ∧ In d) (hm : In m ∧ In e) (w : World) : Calls Try.prog 18 #[.agg #[.int .i64 n, .int .i64 d], .agg #[.int .i64 m, .int .i64 e]] w fun en w' => en = .returned (.agg #[.int .i64 x, .int .i64 y]) ∧ Below w.heap.size w w' := by
  have hc := impl_rTimes n d m e w hn.1.1 hn.1.2 hn.2.1 hn.2.2 hm.1.1 hm.1.2 hm.2.1 hm.2.2
  rw [h] at hc; exact hc
end Go.Proofs.Ytpkddaapffamiaa
