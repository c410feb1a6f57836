/-
  zeros, Isbad, New, Read of the reference. Condition: at most 4096 sectors.
-/
import Derived.Test.YtigmlkfmgheegaaDvB
namespace Go.Proofs.Ytigmlkfmgheegaa
open Go.RowKit
set_option linter.unusedSimpArgs false
set_option linter.unusedVariables false
set_option maxHeartbeats 4000000
set_option maxRecDepth 100000
attribute [local irreducible] wpQuiet

theorem rep_snoc (k : Nat) (u : Value) : List.replicate (k + 1) u = List.replicate k u ++ [u] := List.replicate_succ'
theorem rep_map (k : Nat) : (List.replicate (k + 1) (zB 128)).map Value.string = (List.replicate k (zB 128)).map Value.string ++ [.string (zB 128)] := by rw [List.replicate_succ', List.map_append]; rfl
end Go.Proofs.Ytigmlkfmgheegaa
