/-
  The layout of the program's globals. No condition.
-/
import Derived.Test.YtlkpddenhmlkbaaDoorRows
import Derived.Test.YtlkpddenhmlkbaaDoorBits
import Derived.ProofKit
import Derived.LaidMore
import Derived.OpenShut
import Derived.Carry
import Derived.ChangeSame
import Derived.ChangeSlices
namespace Go.Proofs.YtlkpddenhmlkbaaDoor
open Go.ChangeShapes Go.WideShapes Go.ChangeAt Go.RowKit
theorem laidOut : laidOutB Tryd.prog = true := by kernel_rfl
end Go.Proofs.YtlkpddenhmlkbaaDoor
