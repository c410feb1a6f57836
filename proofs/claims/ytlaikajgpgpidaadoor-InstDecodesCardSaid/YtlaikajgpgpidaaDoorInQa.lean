/-
  The value of an instruction; two boxes laid in a row. No condition.
-/
import Derived.Test.YtlaikajgpgpidaaDoorInN
import Derived.Test.YtlaikajgpgpidaaDoorInL
namespace Go.Proofs.YtlaikajgpgpidaaDoor
open Go.RowKit
set_option linter.unusedSimpArgs false
set_option linter.unusedVariables false
set_option maxHeartbeats 1000000
set_option maxRecDepth 100000
attribute [local irreducible] wpQuiet

def inV0 (i : In) : Value := .agg #[.int .i64 i.o, .bool i.b, .int .i64 i.m, .int .i64 i.r, .int .i64 i.x, .int .i64 i.p, .int .i64 i.q, .int .i64 i.y, .int .i64 i.g, .int .i64 i.n]
theorem St.putTwo {A : Addr} {c : Nat} {bs : List (Nat × List Value)} {w0 w : World} (h : St A c bs w0 w) (l1 l2 : List Value) (t1 t2 : TypeId) : St A c ((w.heap.size + 1, l2) :: (w.heap.size, l1) :: bs) w0 ((w.alloc (.cells l1.toArray t1)).alloc (.cells l2.toArray t2)) := by
  have k := (h.put l1 t1).put l2 t2
  rw [size_alloc] at k
  exact k

end Go.Proofs.YtlaikajgpgpidaaDoor
