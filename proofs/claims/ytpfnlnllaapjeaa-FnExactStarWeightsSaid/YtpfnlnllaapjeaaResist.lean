/-
  ResistanceOf, in the model and in the program.
-/
import Derived.Test.YtpfnlnllaapjeaaNetRat
import Derived.Deep.RegionHeld3
namespace Go.Proofs.Ytpfnlnllaapjeaa
open Go.RowKit

noncomputable def resR (n e s : Int) (ws : List W3) (a b : Int) : Int × Int × Bool := if netB n e s ws = true ∧ 0 ≤ a ∧ a < n ∧ 0 ≤ b ∧ b < n then (rOfN (s * forestR n e s ws a b) (treeR n e s ws), rOfD (s * forestR n e s ws a b) (treeR n e s ws), true) else (0, 0, false)
theorem ret_ratio {a b c d : Int} {x y : Bool} (h : (a, b, x) = (c, d, y)) : Ending.returned (.tuple #[.agg #[.int .i64 a, .int .i64 b], .bool x]) = .returned (.tuple #[.agg #[.int .i64 c, .int .i64 d], .bool y]) := by cases h; rfl
theorem spec_rOf_at (q n d : Int) (hq : q = n) (w : World) (n0 : -9223372036854775808 ≤ n) (n1 : n ≤ 9223372036854775807) (d0 : -9223372036854775808 ≤ d) (d1 : d ≤ 9223372036854775807) :
    Calls Try.prog 108 #[.int .i64 q, .int .i64 d] w fun e w' => e = .returned (.agg #[.int .i64 (rOfN n d), .int .i64 (rOfD n d)]) ∧ Below w.heap.size w w' := by
  subst hq; exact spec_rOf q d w n0 n1 d0 d1
theorem impl_rOf_at (q n d : Int) (hq : q = n) (w : World) (n0 : -9223372036854775808 ≤ n) (n1 : n ≤ 9223372036854775807) (d0 : -9223372036854775808 ≤ d) (d1 : d ≤ 9223372036854775807) :
    Calls Try.prog 73 #[.int .i64 q, .int .i64 d] w fun e w' => e = .returned (.agg #[.int .i64 (rOfN n d), .int .i64 (rOfD n d)]) ∧ Below w.heap.size w w' := by
  subst hq; exact impl_rOf q d w n0 n1 d0 d1
theorem wrap_in {x : Int} (h0 : -9223372036854775808 ≤ x) (h1 : x ≤ 9223372036854775807) : IntKind.i64.wrap x = x := by rw [IntKind.wrap_i64]; omega
theorem net_scale {n e s : Int} {ws : List W3} (h : netB n e s ws = true) : 1 ≤ s ∧ s ≤ 1000 := by
  obtain ⟨⟨_, _, _, _, h1, h2⟩, _⟩ := netB_iff.1 h
  exact ⟨h1, h2⟩

theorem net_n {n e s : Int} {ws : List W3} (h : netB n e s ws = true) : 1 ≤ n ∧ n ≤ 5 := by
  obtain ⟨⟨h1, h2, _⟩, _⟩ := netB_iff.1 h
  exact ⟨h1, h2⟩
end Go.Proofs.Ytpfnlnllaapjeaa
