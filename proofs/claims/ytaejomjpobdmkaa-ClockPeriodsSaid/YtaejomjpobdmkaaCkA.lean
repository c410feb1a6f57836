/-
  The line clock: plain; blocks of a clock. No condition.
-/
import Derived.Test.YtaejomjpobdmkaaReg
namespace Go.Proofs.Ytaejomjpobdmkaa
open Go.RowKit
set_option linter.unusedSimpArgs false
set_option linter.unusedVariables false
set_option maxHeartbeats 4000000
set_option maxRecDepth 100000
attribute [local irreducible] wpQuiet

/-- A clock. -/
structure Ck where
  e : Bool
  r : Bool
  p : Int
  l : Int
def Ck.L (c : Ck) : List Value := [.bool c.e, .bool c.r, .int .i64 c.p, .int .i64 c.l]
/-- Is it valid? -/
def Ck.right (c : Ck) : Bool := decide (1 ≤ c.p) && decide (c.p ≤ 65535) && decide (1 ≤ c.l) && decide (c.l ≤ c.p)
def Ck.tick (c : Ck) : Ck := if c.l = 1 then { c with r := true, l := c.p } else { c with l := c.l - 1 }
def Ck.read (c : Ck) : Int := (if c.e = true then 64 else 0) + (if c.r = true then 128 else 0)
def Ck.write (c : Ck) (v : Int) : Ck := { c with e := decide (v / 64 % 2 = 1), r := c.r && decide (v / 128 % 2 = 1) }
def Ck.acc (c : Ck) (v : Int) : Ck := if v = 64 then { c with r := false } else c
def Ck.reset (c : Ck) : Ck := ⟨false, false, c.p, c.p⟩
def Ck.req (c : Ck) : List (Int × Int) := if c.e = true ∧ c.r = true then [(6, 64)] else []
def Ck.z : Ck := ⟨false, false, 0, 0⟩
/-- A new one, and the error. -/
def newK (n : Int) : Ck × Int := if 1 ≤ n ∧ n ≤ 65535 then (⟨false, false, n, n⟩, 0) else (Ck.z, 2)
theorem Ck.right_iff (c : Ck) : c.right = true ↔ 1 ≤ c.p ∧ c.p ≤ 65535 ∧ 1 ≤ c.l ∧ c.l ≤ c.p := by
  unfold Ck.right
  simp only [Bool.and_eq_true, decide_eq_true_eq]
  omega
theorem aggK (w : World) : (isAgg 23).run Try.prog w = .ok true w := by kernel_rfl
theorem sizK (w : World) : (sizeOf 23).run Try.prog w = .ok 4 w := by kernel_rfl
theorem siz_int (w : World) : (sizeOf 3).run Try.prog w = .ok 1 w := by kernel_rfl
theorem siz_bool (w : World) : (sizeOf 4).run Try.prog w = .ok 1 w := by kernel_rfl
theorem zeroK (w : World) : (Instr.build 23 #[]).run Try.prog w = .ok (.agg #[.bool false, .bool false, .int .i64 0, .int .i64 0]) w := by kernel_rfl
theorem one_ck (e r : Bool) (p l : Int) : ∀ v ∈ ([.bool e, .bool r, .int .i64 p, .int .i64 l] : List Value), v.oneCell' = true := by
  intro u hu
  simp at hu
  rcases hu with rfl | rfl | rfl | rfl <;> rfl
theorem two_new (w : World) (cs ds : List Value) : Bag [(w.heap.size + 1, 23, ds), (w.heap.size, 23, cs)] w ((w.alloc (.cells cs.toArray 23)).alloc (.cells ds.toArray 23)) := by
  have h := ((Bag.nil w).new 23 cs).new 23 ds
  rw [show (w.alloc (.cells cs.toArray 23)).heap.size = w.heap.size + 1 from Array.size_push ..] at h
  exact h
section
variable {ops : Array Oper} {rest : List Oper} {o : Oper} {a : Act} {w w0 w1 : World} {Q : Exit → Act → World → Prop} {l : List (Nat × TypeId × List Value)}
/-- An integer is stored into the first block. -/
theorem wpList_bag_putI {B k : Nat} {t T : TypeId} {cs : List Value} {z : Int} (hX : Bag ((B, t, cs) :: l) w0 w) (hsz : ∀ w, (sizeOf T).run Try.prog w = .ok 1 w) (x y : Operand) (hop : o.op = Op.store T x y) (hal : w1 = w) (hx : a.eval x = .pointer (some ⟨B, k, none⟩)) (hy : a.eval y = .int .i64 z) (hdst : o.dst = none) (hw : Region.wanted o (yielded ops a.tmps) = true) (hk : k < cs.length)
    (h : ∀ w2, Bag ((B, t, cs.set k (.int .i64 z)) :: l) w0 w2 → wpList Try.prog ops Q rest a w2) : wpList Try.prog ops Q (o :: rest) a w1 := by
  subst hal
  have hr := (hX.all _ _ _ List.mem_cons_self).put_run (P := Try.prog) (v := .int .i64 z) hk rfl
  exact BigFrame.wpList_want hw fun _ hK => by
    unfold Oper.wp execOp
    simp only [hop, hx, hy, Instr.storeAt, Instr.sureAddr, storeVar, Value.cells, hr, hsz, List.size_toArray, List.length_cons, List.length_nil, ne_eq, not_true_eq_false, if_false, Sem.run_bind, Sem.run_pure, Result.andThen_ok]
    exact hK _ _ (by rw [hdst]; exact h _ (hX.over _))
end
end Go.Proofs.Ytaejomjpobdmkaa
