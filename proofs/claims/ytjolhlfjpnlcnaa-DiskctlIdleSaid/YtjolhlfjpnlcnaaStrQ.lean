/-
  An index and a slice of a string in a drawn region, by law. General. No condition.
-/
import Derived.Test.YtjolhlfjpnlcnaaCells
import Derived.KernelRfl
namespace Go.Proofs.Ytjolhlfjpnlcnaa
open Go.RowKit
set_option linter.unusedSimpArgs false
set_option linter.unusedVariables false

theorem idx_run {S : ByteArray} {k : Nat} {y : UInt8} (h : S.data[k]? = some y) (w : World) : (Instr.index 9 (.string S) (.int .i64 k)).run Try.prog w = .ok (.int .u8 y.toNat) w := by
  have h1 : S[k]? = some y := by
    have hk : k < S.size := (Array.getElem?_eq_some_iff.1 h).1
    have e : S[k]? = some (S[k]'hk) := getElem?_pos S k hk
    rw [e]
    have h2 := (Array.getElem?_eq_some_iff.1 h).2
    exact congrArg some h2
  simp only [Instr.index, asIntOf, Sem.run_bind, Sem.run_pure, Result.andThen_ok, run_underlying Try.underlying9, Int.natCast_nonneg, if_true, Int.toNat_natCast, h1]
theorem slc_run {S : ByteArray} {k : Nat} (h : k ≤ S.size) (w : World) : (Instr.sliceAt 9 (.string S) none (some (.int .i64 k)) none).run Try.prog w = .ok (.string (S.extract 0 k)) w := by
  have h1 : (0 : Int) ≤ (k : Int) ∧ (k : Int) ≤ (S.size : Int) := ⟨by omega, by omega⟩
  simp [Instr.sliceAt, Instr.slice, Instr.sliceBounds, Instr.sliceBound, asIntOf, run_underlying Try.underlying9, h1, go_sem]
  intro h2; omega
theorem quiet_index {P : Program} {w : World} {o : Oper} {a : Act} {C : World → Prop} (t : TypeId) (x ix : Operand) (xv iv v : Value) (hop : o.op = Op.index t x ix) (hx : a.eval x = xv) (hi : a.eval ix = iv) (hrun : (Instr.index t xv iv).run P w = .ok v w) : Oper.quietAt P o a C w v := by
  unfold Oper.quietAt execOp
  simp only [hop, hx, hi, hrun, Sem.run_bind, Sem.run_pure, Result.andThen_ok]
  exact ⟨rfl, rfl⟩
theorem quiet_slice {P : Program} {w : World} {o : Oper} {a : Act} {C : World → Prop} (t : TypeId) (x hi : Operand) (xv iv v : Value) (hop : o.op = Op.slice t x none (some hi) none) (hx : a.eval x = xv) (hi : a.eval hi = iv) (hrun : (Instr.sliceAt t xv none (some iv) none).run P w = .ok v w) : Oper.quietAt P o a C w v := by
  unfold Oper.quietAt execOp
  simp only [hop, hx, hi, hrun, Sem.run_bind, Sem.run_pure, Result.andThen_ok, Option.map_none, Option.map_some]
  exact ⟨rfl, rfl⟩
end Go.Proofs.Ytjolhlfjpnlcnaa
