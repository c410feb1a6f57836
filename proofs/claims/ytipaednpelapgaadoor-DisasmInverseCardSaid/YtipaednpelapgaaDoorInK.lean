/-
  Walks over the first word of an instruction, and over Encode of package inst. Condition: the tables read as the program's text lays them.
-/
import Derived.Test.YtipaednpelapgaaDoorInJ
import Derived.Test.YtipaednpelapgaaDoorNums
namespace Go.Proofs.YtipaednpelapgaaDoor
open Go.RowKit
set_option linter.unusedSimpArgs false
set_option linter.unusedVariables false
set_option maxHeartbeats 40000000
set_option maxRecDepth 100000
attribute [local irreducible] wpQuiet

theorem info64 : (Tryd.prog.info? 3).map (fun i => (i.zero, i.size, i.bytes)) = some (some (.int .i64 0), 1, 8) := by kernel_rfl

end Go.Proofs.YtipaednpelapgaaDoor
