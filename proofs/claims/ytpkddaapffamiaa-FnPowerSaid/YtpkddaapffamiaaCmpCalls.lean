/-
  The contract of the comparison of fractions at a given answer.
-/
import Derived.Test.YtpkddaapffamiaaRatCalls
import Derived.Test.YtpkddaapffamiaaRatioCmp
namespace Go.Proofs.Ytpkddaapffamiaa
open Go.RowKit

theorem c_cmp {n d m e c : Int} (h : rCmp n d m e = c) (hn : In n ∧ In d) (hm : In m ∧ In e) (w : World) : Calls Try.prog 26 #[.agg #[.int .i64 n, .int .i64 d], .agg #[.int .i64 m, .int .i64 e]] w fun en w' => en = .returned (.int .i64 c) ∧ Below w.heap.size w w' := by
  have hc := impl_rCmp n d m e w hn.1.1 hn.1.2 hn.2.1 hn.2.2 hm.1.1 hm.1.2 hm.2.1 hm.2.2
  rw [h] at hc; exact hc
end Go.Proofs.Ytpkddaapffamiaa
