/-
  A block whose cells are a list: a struct or an array of any number of cells, read, written, loaded and stored as one list. No condition.
-/
import Derived.Test.YtlegcfjafdihlaaGreatDoorProg
import Derived.WalkKit
import Derived.Laws.OwnMore
import Derived.Laws.CopyOwn
import Derived.Deep.Quiet
import Derived.Tactics
namespace Go.Proofs.YtlegcfjafdihlaaGreatDoor
open Go.RowKit
set_option linter.unusedSimpArgs false
set_option linter.unusedVariables false

def Blk (t : TypeId) (w : World) (B : Nat) (cs : List Value) : Prop := w.heap[B]? = some (.cells cs.toArray t (0, 0))
theorem Blk.new (t : TypeId) (w : World) (cs : List Value) : Blk t (w.alloc (.cells cs.toArray t)) w.heap.size cs := heap_alloc_new w _
theorem Blk.lt {t : TypeId} {w : World} {B : Nat} {cs : List Value} (h : Blk t w B cs) : B < w.heap.size := by
  rcases Nat.lt_or_ge B w.heap.size with k | k
  · exact k
  · unfold Blk at h; rw [Array.getElem?_eq_none k] at h; cases h
theorem Blk.step {t : TypeId} {w w' : World} {B : Nat} {cs : List Value} (h : Blk t w B cs) (hb : Below w.heap.size w w') : Blk t w' B cs := (hb.block B h.lt).trans h
theorem Blk.alloc {t : TypeId} {w : World} {B : Nat} {cs : List Value} (h : Blk t w B cs) (o : Obj) : Blk t (w.alloc o) B cs := h.step ((Below.refl _ _).alloc (Nat.le_refl _) o)
theorem Blk.drew {t : TypeId} {w : World} {B : Nat} {cs : List Value} (h : Blk t w B cs) : Blk t w.drew B cs := h
theorem Blk.cell {t : TypeId} {w : World} {B k : Nat} {cs : List Value} {v : Value} (h : Blk t w B cs) (hk : cs[k]? = some v) : w.cell? ⟨B, k, none⟩ = some v := by
  rw [cell_of_row w B k _ t (0, 0) h]; simpa using hk
theorem Blk.frozen {t : TypeId} {w : World} {B : Nat} {cs : List Value} (h : Blk t w B cs) (k : Nat) : w.frozen? ⟨B, k, none⟩ = false := frozen_of_row w B k _ t h
theorem Blk.set {t : TypeId} {w : World} {B : Nat} {cs : List Value} (h : Blk t w B cs) (k : Nat) (v : Value) : Blk t (w.setCell ⟨B, k, none⟩ v) B (cs.set k v) := by
  unfold Blk; rw [heap_setCell_same w B k _ t v h]; simp
theorem Blk.other {t : TypeId} {w : World} {B : Nat} {cs : List Value} (h : Blk t w B cs) {a : Addr} (ha : B ≠ a.block) (v : Value) : Blk t (w.setCell a v) B cs := by
  unfold Blk; rw [heap_setCell_other w a B v ha]; exact h
theorem Blk.load {P : Program} {t : TypeId} {w : World} {B n : Nat} {cs : List Value} (h : Blk t w B cs) (hn : cs.length = n) : (loadCells ⟨B, 0, none⟩ n).run P w = .ok cs.toArray w := by
  subst hn
  refine run_loadCells_list w ⟨B, 0, none⟩ cs (fun j v hv => ?_)
  have e : (⟨B, 0, none⟩ : Addr).add j = ⟨B, j, none⟩ := by unfold Addr.add; split <;> simp_all
  rw [e]; exact h.cell hv
theorem Blk.store {P : Program} {t : TypeId} {w : World} {B : Nat} {cs cs' : List Value} (h : Blk t w B cs) (hl : cs'.length = cs.length) (h1 : ∀ v ∈ cs', v.oneCell' = true) :
    ∃ W, (storeCells ⟨B, 0, none⟩ cs').run P w = .ok () W ∧ Blk t W B cs' ∧ (∀ N w0, N ≤ B → Below N w0 w → Below N w0 W) ∧ W.heap.size = w.heap.size ∧ ∀ t' k l, k ≠ B → Blk t' w k l → Blk t' W k l := by
  refine ⟨w.setRow B cs'.toArray, ?_, setRow_heap w B _ _ t _ h, fun N w0 hN hb => below_setRow hb hN _, by simp [World.setRow], fun t' k l hk hb => ?_⟩
  · have e := run_storeCells_at P B 0 t cs' 0 cs.toArray w h (by simp [hl]) h1
    rw [e]
    have e2 : (cs.toArray.toList.take (0 + 0) ++ cs' ++ cs.toArray.toList.drop (0 + 0 + cs'.length)).toArray = cs'.toArray := by
      rw [hl]; simp
    rw [e2]
  · unfold Blk; rw [setRow_other w B k _ hk]; exact hb
theorem Blk.loadVar {P : Program} {t T : TypeId} {w : World} {B n : Nat} {cs : List Value} (h : Blk t w B cs) (hn : cs.length = n) (hagg : ∀ w, (isAgg T).run P w = .ok true w) (hsz : ∀ w, (sizeOf T).run P w = .ok n w) : (Go.loadVar T ⟨B, 0, none⟩).run P w = .ok (.agg cs.toArray) w := by
  unfold Go.loadVar
  simp only [Sem.run_bind, Sem.run_pure, Result.andThen_ok, hagg, hsz, h.load hn, if_true]
theorem Blk.loadAt {P : Program} {t T : TypeId} {w : World} {B n : Nat} {cs : List Value} (h : Blk t w B cs) (hn : cs.length = n) (hagg : ∀ w, (isAgg T).run P w = .ok true w) (hsz : ∀ w, (sizeOf T).run P w = .ok n w) : (Instr.loadAt T (.pointer (some ⟨B, 0, none⟩))).run P w = .ok (.agg cs.toArray) w := by
  have e := h.loadVar (P := P) hn hagg hsz
  unfold Go.loadVar at e
  simp only [Instr.loadAt, Instr.sureAddr, Go.loadVar, Sem.run_bind, Sem.run_pure, Result.andThen_ok, hagg, hsz, h.load hn, if_true]
/-- A load whose value is known. -/
theorem wpList_load_run {P : Program} {w : World} {ops : Array Oper} {rest : List Oper} {o : Oper} {a : Act} {Q : Exit → Act → World → Prop} (hg : o.guard = none) (t : TypeId) (x : Operand) (pv v : Value) (hop : o.op = Op.load t x) (hx : a.eval x = pv)
    (hrun : (Instr.loadAt t pv).run P w = .ok v w) (h : wpList P ops Q rest (a.put o.dst v) w) : wpList P ops Q (o :: rest) a w :=
  wpList_plain hg fun _ hK => by
    unfold Oper.wp execOp
    simp only [hop, hx, hrun, Sem.run_bind, Sem.run_pure, Result.andThen_ok]
    exact hK _ _ h
theorem quiet_load {P : Program} {w : World} {o : Oper} {a : Act} {C : World → Prop} (t : TypeId) (x : Operand) (pv v : Value) (hop : o.op = Op.load t x) (hx : a.eval x = pv) (hrun : (Instr.loadAt t pv).run P w = .ok v w) : Oper.quietAt P o a C w v := by
  unfold Oper.quietAt execOp
  simp only [hop, hx, hrun, Sem.run_bind, Sem.run_pure, Result.andThen_ok]
  exact ⟨rfl, rfl⟩
/-- Results, of which one is a variable of many cells. -/
theorem results_c {P : Program} {fn : Func} {tmps : Array Value} {w : World} {i : Tmp} {T : TypeId} {a : Addr} {v : Value} (hr : fn.results = #[.cell i T]) (ha : tmps.getD i undef = .pointer (some a)) (hl : (Go.loadVar T a).run P w = .ok v w) :
    (results fn tmps).run P w = .ok v w := by
  unfold results
  rw [hr]
  have ha' := ha
  rw [Array.getD_eq_getD_getElem?] at ha'
  simp [ha', asAddr, hl]
theorem results_tct {P : Program} {fn : Func} {tmps : Array Value} {w : World} {i j k : Tmp} {T : TypeId} {a : Addr} {v : Value} (hr : fn.results = #[.tmp i, .cell j T, .tmp k]) (ha : tmps.getD j undef = .pointer (some a)) (hl : (Go.loadVar T a).run P w = .ok v w) :
    (results fn tmps).run P w = .ok (.tuple #[tmps.getD i undef, v, tmps.getD k undef]) w := by
  unfold results
  rw [hr]
  have ha' := ha
  rw [Array.getD_eq_getD_getElem?] at ha'
  simp [ha', asAddr, hl]
theorem results_ct {P : Program} {fn : Func} {tmps : Array Value} {w : World} {j k : Tmp} {T : TypeId} {a : Addr} {v : Value} (hr : fn.results = #[.cell j T, .tmp k]) (ha : tmps.getD j undef = .pointer (some a)) (hl : (Go.loadVar T a).run P w = .ok v w) :
    (results fn tmps).run P w = .ok (.tuple #[v, tmps.getD k undef]) w := by
  unfold results
  rw [hr]
  have ha' := ha
  rw [Array.getD_eq_getD_getElem?] at ha'
  simp [ha', asAddr, hl]
end Go.Proofs.YtlegcfjafdihlaaGreatDoor
