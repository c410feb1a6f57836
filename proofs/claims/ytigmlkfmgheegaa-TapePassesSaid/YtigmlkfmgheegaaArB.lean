/-
  Valid, rank, Before of emulatorref12. No condition.
-/
import Derived.Test.YtigmlkfmgheegaaArA
import Derived.Test.YtigmlkfmgheegaaReg
namespace Go.Proofs.Ytigmlkfmgheegaa
open Go.RowKit
set_option linter.unusedSimpArgs false
set_option linter.unusedVariables false
set_option maxHeartbeats 4000000
set_option maxRecDepth 100000
attribute [local irreducible] wpQuiet
end Go.Proofs.Ytigmlkfmgheegaa
