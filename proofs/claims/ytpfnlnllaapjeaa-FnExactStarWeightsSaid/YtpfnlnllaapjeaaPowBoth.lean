/-
  PowerOf in the model: at every network and every list of fractions.
-/
import Derived.Test.YtpfnlnllaapjeaaPowSpec
import Derived.Test.YtpfnlnllaapjeaaGPow
namespace Go.Proofs.Ytpfnlnllaapjeaa
open Go.RowKit
end Go.Proofs.Ytpfnlnllaapjeaa
