/-
  CrossSum and ForestSum in the program.
-/
import Derived.Test.YtpfnlnllaapjeaaGForest
namespace Go.Proofs.Ytpfnlnllaapjeaa
open Go.RowKit

theorem ReadsI.allocd {w : World} {v : Value} {q : List Int} (h : ReadsI w v q) (o : Obj) : ReadsI (w.alloc o) v q := h.later ((Below.refl _ w).alloc (Nat.le_refl _) o)
theorem ReadsI.drewd {w : World} {v : Value} {q : List Int} (h : ReadsI w v q) : ReadsI w.drew v q := h.later (below_draws (Below.refl _ w) 1)
theorem ReadsI.undrew {w : World} {v : Value} {q : List Int} (h : ReadsI w v q) : ReadsI w.drew v q := h.drewd

end Go.Proofs.Ytpfnlnllaapjeaa
