/-
  More of blocks whose cells are a list: a part loaded, an element of an array that is a value, a store of the whole; and a bag of such blocks. No condition.
-/
import Derived.Test.YtlegcfjafdihlaaGreatDoorCells
import Derived.Deep.WholeRow
import Derived.BigFrame
namespace Go.Proofs.YtlegcfjafdihlaaGreatDoor
open Go.RowKit
set_option linter.unusedSimpArgs false
set_option linter.unusedVariables false

theorem Blk.loadSub {P : Program} {t : TypeId} {w : World} {B k : Nat} {cs ds : List Value} (h : Blk t w B cs) (hd : ∀ j v, ds[j]? = some v → cs[k + j]? = some v) : (loadCells ⟨B, k, none⟩ ds.length).run P w = .ok ds.toArray w := by
  refine run_loadCells_list w ⟨B, k, none⟩ ds (fun j v hv => ?_)
  have e : (⟨B, k, none⟩ : Addr).add j = ⟨B, k + j, none⟩ := by unfold Addr.add; split <;> simp_all
  rw [e]; exact h.cell (hd j v hv)
theorem Blk.loadAtSub {P : Program} {t T : TypeId} {w : World} {B k n : Nat} {cs ds : List Value} (h : Blk t w B cs) (hd : ∀ j v, ds[j]? = some v → cs[k + j]? = some v) (hn : ds.length = n) (hagg : ∀ w, (isAgg T).run P w = .ok true w) (hsz : ∀ w, (sizeOf T).run P w = .ok n w) : (Instr.loadAt T (.pointer (some ⟨B, k, none⟩))).run P w = .ok (.agg ds.toArray) w := by
  have e := h.loadSub (P := P) hd
  rw [hn] at e
  simp only [Instr.loadAt, Instr.sureAddr, Go.loadVar, Sem.run_bind, Sem.run_pure, Result.andThen_ok, hagg, hsz, e, if_true]
theorem wpList_loadW {P : Program} {w : World} {ops : Array Oper} {rest : List Oper} {o : Oper} {a : Act} {Q : Exit → Act → World → Prop} (hw : Region.wanted o (yielded ops a.tmps) = true) (t : TypeId) (x : Operand) (pv v : Value) (hop : o.op = Op.load t x) (hx : a.eval x = pv)
    (hrun : (Instr.loadAt t pv).run P w = .ok v w) (h : wpList P ops Q rest (a.put o.dst v) w) : wpList P ops Q (o :: rest) a w :=
  BigFrame.wpList_want hw fun _ hK => by
    unfold Oper.wp execOp
    simp only [hop, hx, hrun, Sem.run_bind, Sem.run_pure, Result.andThen_ok]
    exact hK _ _ h
theorem wpList_index_run {P : Program} {w : World} {ops : Array Oper} {rest : List Oper} {o : Oper} {a : Act} {Q : Exit → Act → World → Prop} (hw : Region.wanted o (yielded ops a.tmps) = true) (t : TypeId) (x ix : Operand) (xv iv v : Value) (hop : o.op = Op.index t x ix) (hx : a.eval x = xv) (hi : a.eval ix = iv)
    (hrun : (Instr.index t xv iv).run P w = .ok v w) (h : wpList P ops Q rest (a.put o.dst v) w) : wpList P ops Q (o :: rest) a w :=
  BigFrame.wpList_want hw fun _ hK => by
    unfold Oper.wp execOp
    simp only [hop, hx, hi, hrun, Sem.run_bind, Sem.run_pure, Result.andThen_ok]
    exact hK _ _ h
theorem wpList_build_run {P : Program} {w : World} {ops : Array Oper} {rest : List Oper} {o : Oper} {a : Act} {Q : Exit → Act → World → Prop} (t : TypeId) (v : Value) (hop : o.op = Op.build t #[]) (hw : Region.wanted o (yielded ops a.tmps) = true)
    (hrun : ∀ w, (Instr.build t #[]).run P w = .ok v w) (h : wpList P ops Q rest (a.put o.dst v) w) : wpList P ops Q (o :: rest) a w :=
  BigFrame.wpList_want hw fun _ hK => by
    unfold Oper.wp execOp
    simp only [hop, Array.map_empty, hrun, Sem.run_bind, Sem.run_pure, Result.andThen_ok]
    exact hK _ _ h
theorem run_index_agg {P : Program} {t e : TypeId} {w : World} {n c : Nat} {cs ds : List Value} (i : Nat) (hu : P.underlying t = some (.array n e)) (hi : i < n) (hagg : ∀ w, (isAgg e).run P w = .ok true w) (hsz : ∀ w, (sizeOf e).run P w = .ok c w) (hd : (cs.drop (i * c)).take c = ds) : (Instr.index t (.agg cs.toArray) (.int .i64 i)).run P w = .ok (.agg ds.toArray) w := by
  have e0 : (0 : Int) ≤ (i : Int) ∧ (i : Int) < (n : Int) := ⟨by omega, by omega⟩
  have ex : cs.toArray.extract (i * c) (i * c + c) = ds.toArray := by
    apply Array.toList_inj.1
    rw [← hd]
    simp [List.extract_eq_take_drop]
  simp only [Instr.index, asIntOf, Sem.run_bind, Sem.run_pure, Result.andThen_ok, run_underlying hu, if_pos e0, part, hagg, hsz, Int.toNat_natCast, if_true, ex]
/-- The whole of a block that has just been made is stored: as if it had been made so. -/
theorem run_store_new {P : Program} {t : TypeId} (w : World) (zs cs : List Value) (hl : cs.length = zs.length) (h1 : ∀ v ∈ cs, v.oneCell' = true) : (storeCells ⟨w.heap.size, 0, none⟩ cs).run P (w.alloc (.cells zs.toArray t)) = .ok () (w.alloc (.cells cs.toArray t)) := by
  have e := run_storeCells_at P w.heap.size 0 t cs 0 zs.toArray (w.alloc (.cells zs.toArray t)) (heap_alloc_new w _) (by simp [hl]) h1
  rw [e]
  have e2 : (zs.toArray.toList.take (0 + 0) ++ cs ++ zs.toArray.toList.drop (0 + 0 + cs.length)).toArray = cs.toArray := by
    rw [hl]; simp
  rw [e2, World.setRow_alloc_new]
theorem wpList_store_run {P : Program} {w w2 : World} {ops : Array Oper} {rest : List Oper} {o : Oper} {a : Act} {Q : Exit → Act → World → Prop} (hw : Region.wanted o (yielded ops a.tmps) = true) (hdst : o.dst = none) (t : TypeId) (x y : Operand) (ad : Addr) (cs : List Value) (hop : o.op = Op.store t x y) (hx : a.eval x = .pointer (some ad)) (hy : a.eval y = .agg cs.toArray) (hagg : ∀ w, (isAgg t).run P w = .ok true w) (hsz : ∀ w, (sizeOf t).run P w = .ok cs.length w)
    (hrun : (storeCells ad cs).run P w = .ok () w2) (h : wpList P ops Q rest a w2) : wpList P ops Q (o :: rest) a w :=
  BigFrame.wpList_want hw fun _ hK => by
    unfold Oper.wp execOp
    simp only [hop, hx, hy, Instr.storeAt, Instr.sureAddr, storeVar, Value.cells, hrun, hagg, hsz, List.size_toArray, ne_eq, not_true_eq_false, if_false, Sem.run_bind, Sem.run_pure, Result.andThen_ok, if_true]
    exact hK _ _ (by rw [hdst]; exact h)

theorem Blk.store_run {P : Program} {t : TypeId} {w : World} {B : Nat} {cs cs' : List Value} (h : Blk t w B cs) (hl : cs'.length = cs.length) (h1 : ∀ v ∈ cs', v.oneCell' = true) : (storeCells ⟨B, 0, none⟩ cs').run P w = .ok () (w.setRow B cs'.toArray) := by
  have e := run_storeCells_at P B 0 t cs' 0 cs.toArray w h (by simp [hl]) h1
  rw [e]
  have e2 : (cs.toArray.toList.take (0 + 0) ++ cs' ++ cs.toArray.toList.drop (0 + 0 + cs'.length)).toArray = cs'.toArray := by
    rw [hl]; simp
  rw [e2]
end Go.Proofs.YtlegcfjafdihlaaGreatDoor
