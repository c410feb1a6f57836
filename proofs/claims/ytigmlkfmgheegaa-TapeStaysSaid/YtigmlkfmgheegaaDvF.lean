/-
  Write of the reference. Condition: at most 2^40 sectors and bad ones.
-/
import Derived.Test.YtigmlkfmgheegaaDvE
namespace Go.Proofs.Ytigmlkfmgheegaa
open Go.RowKit
set_option linter.unusedSimpArgs false
set_option linter.unusedVariables false
set_option maxHeartbeats 4000000
set_option maxRecDepth 100000
attribute [local irreducible] wpQuiet

end Go.Proofs.Ytigmlkfmgheegaa
