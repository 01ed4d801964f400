/-
  CrossSum, ForestSum and TreeSum in the program.
  TreeSum and ForestSum in the model.
-/
import Derived.Test.YtpfnlnllaapjeaaGKir
import Derived.Test.YtpfnlnllaapjeaaAscPair
namespace Go.Proofs.Ytpfnlnllaapjeaa
open Go.RowKit
end Go.Proofs.Ytpfnlnllaapjeaa

namespace Go.Proofs.Ytpfnlnllaapjeaa
open Go.RowKit
end Go.Proofs.Ytpfnlnllaapjeaa
