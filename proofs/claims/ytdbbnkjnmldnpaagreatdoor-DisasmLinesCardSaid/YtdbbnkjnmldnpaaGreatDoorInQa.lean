/-
  The value of an instruction; two boxes laid in a row. No condition.
-/
import Derived.Test.YtdbbnkjnmldnpaaGreatDoorInN
import Derived.Test.YtdbbnkjnmldnpaaGreatDoorJK
namespace Go.Proofs.YtdbbnkjnmldnpaaGreatDoor
open Go.RowKit
set_option linter.unusedSimpArgs false
set_option linter.unusedVariables false
set_option maxHeartbeats 40000000
set_option maxRecDepth 100000
attribute [local irreducible] wpQuiet

def inV0 (i : In) : Value := .agg #[.int .i64 i.o, .bool i.b, .int .i64 i.m, .int .i64 i.r, .int .i64 i.x, .int .i64 i.p, .int .i64 i.q, .int .i64 i.y, .int .i64 i.g, .int .i64 i.n]
end Go.Proofs.YtdbbnkjnmldnpaaGreatDoor
