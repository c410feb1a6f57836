/-
  The layout of the program's globals. No condition.
-/
import Derived.Test.YtaejomjpobdmkaaRows
import Derived.Test.YtaejomjpobdmkaaBits
import Derived.ProofKit
import Derived.LaidMore
import Derived.OpenShut
import Derived.Carry
import Derived.ChangeSame
import Derived.ChangeSlices
namespace Go.Proofs.Ytaejomjpobdmkaa
open Go.ChangeShapes Go.WideShapes Go.ChangeAt Go.RowKit
theorem laidOut : laidOutB Try.prog = true := by kernel_rfl
end Go.Proofs.Ytaejomjpobdmkaa
