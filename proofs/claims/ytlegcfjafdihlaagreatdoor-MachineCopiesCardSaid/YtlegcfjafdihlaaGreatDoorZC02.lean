import Derived.Test.YtlegcfjafdihlaaGreatDoorProg
import Derived.WalkKit
import Derived.Laws.OwnMore
import Derived.Laws.CopyOwn
import Derived.Deep.Quiet
import Derived.Tactics
import Derived.Deep.WholeRow
import Derived.BigFrame
import Derived.Test.YtlegcfjafdihlaaGreatDoorZC01
import Derived.Deep.Slices
import Derived.ProofKit
import Derived.LaidMore
import Derived.OpenShut
import Derived.Carry
import Derived.ChangeSame
import Derived.ChangeSlices
/-
  A block whose cells are a list: a struct or an array of any number of cells, read, written, loaded and stored as one list. No condition.
-/
namespace Go.Proofs.YtlegcfjafdihlaaGreatDoor
open Go.RowKit
set_option linter.unusedSimpArgs false
set_option linter.unusedVariables false

def Blk (t : TypeId) (w : World) (B : Nat) (cs : List Value) : Prop := w.heap[B]? = some (.cells cs.toArray t (0, 0))
theorem Blk.new (t : TypeId) (w : World) (cs : List Value) : Blk t (w.alloc (.cells cs.toArray t)) w.heap.size cs := heap_alloc_new w _
theorem Blk.lt {t : TypeId} {w : World} {B : Nat} {cs : List Value} (h : Blk t w B cs) : B < w.heap.size := by
  rcases Nat.lt_or_ge B w.heap.size with k | k
  · exact k
  · unfold Blk at h; rw [Array.getElem?_eq_none k] at h; cases h
theorem Blk.step {t : TypeId} {w w' : World} {B : Nat} {cs : List Value} (h : Blk t w B cs) (hb : Below w.heap.size w w') : Blk t w' B cs := (hb.block B h.lt).trans h
theorem Blk.alloc {t : TypeId} {w : World} {B : Nat} {cs : List Value} (h : Blk t w B cs) (o : Obj) : Blk t (w.alloc o) B cs := h.step ((Below.refl _ _).alloc (Nat.le_refl _) o)
theorem Blk.drew {t : TypeId} {w : World} {B : Nat} {cs : List Value} (h : Blk t w B cs) : Blk t w.drew B cs := h
theorem Blk.cell {t : TypeId} {w : World} {B k : Nat} {cs : List Value} {v : Value} (h : Blk t w B cs) (hk : cs[k]? = some v) : w.cell? ⟨B, k, none⟩ = some v := by
  rw [cell_of_row w B k _ t (0, 0) h]; simpa using hk
theorem Blk.frozen {t : TypeId} {w : World} {B : Nat} {cs : List Value} (h : Blk t w B cs) (k : Nat) : w.frozen? ⟨B, k, none⟩ = false := frozen_of_row w B k _ t h
theorem Blk.set {t : TypeId} {w : World} {B : Nat} {cs : List Value} (h : Blk t w B cs) (k : Nat) (v : Value) : Blk t (w.setCell ⟨B, k, none⟩ v) B (cs.set k v) := by
  unfold Blk; rw [heap_setCell_same w B k _ t v h]; simp
theorem Blk.other {t : TypeId} {w : World} {B : Nat} {cs : List Value} (h : Blk t w B cs) {a : Addr} (ha : B ≠ a.block) (v : Value) : Blk t (w.setCell a v) B cs := by
  unfold Blk; rw [heap_setCell_other w a B v ha]; exact h
theorem Blk.load {P : Program} {t : TypeId} {w : World} {B n : Nat} {cs : List Value} (h : Blk t w B cs) (hn : cs.length = n) : (loadCells ⟨B, 0, none⟩ n).run P w = .ok cs.toArray w := by
  subst hn
  refine run_loadCells_list w ⟨B, 0, none⟩ cs (fun j v hv => ?_)
  have e : (⟨B, 0, none⟩ : Addr).add j = ⟨B, j, none⟩ := by unfold Addr.add; split <;> simp_all
  rw [e]; exact h.cell hv
theorem Blk.store {P : Program} {t : TypeId} {w : World} {B : Nat} {cs cs' : List Value} (h : Blk t w B cs) (hl : cs'.length = cs.length) (h1 : ∀ v ∈ cs', v.oneCell' = true) :
    ∃ W, (storeCells ⟨B, 0, none⟩ cs').run P w = .ok () W ∧ Blk t W B cs' ∧ (∀ N w0, N ≤ B → Below N w0 w → Below N w0 W) ∧ W.heap.size = w.heap.size ∧ ∀ t' k l, k ≠ B → Blk t' w k l → Blk t' W k l := by
  refine ⟨w.setRow B cs'.toArray, ?_, setRow_heap w B _ _ t _ h, fun N w0 hN hb => below_setRow hb hN _, by simp [World.setRow], fun t' k l hk hb => ?_⟩
  · have e := run_storeCells_at P B 0 t cs' 0 cs.toArray w h (by simp [hl]) h1
    rw [e]
    have e2 : (cs.toArray.toList.take (0 + 0) ++ cs' ++ cs.toArray.toList.drop (0 + 0 + cs'.length)).toArray = cs'.toArray := by
      rw [hl]; simp
    rw [e2]
  · unfold Blk; rw [setRow_other w B k _ hk]; exact hb
theorem Blk.loadVar {P : Program} {t T : TypeId} {w : World} {B n : Nat} {cs : List Value} (h : Blk t w B cs) (hn : cs.length = n) (hagg : ∀ w, (isAgg T).run P w = .ok true w) (hsz : ∀ w, (sizeOf T).run P w = .ok n w) : (Go.loadVar T ⟨B, 0, none⟩).run P w = .ok (.agg cs.toArray) w := by
  unfold Go.loadVar
  simp only [Sem.run_bind, Sem.run_pure, Result.andThen_ok, hagg, hsz, h.load hn, if_true]
theorem Blk.loadAt {P : Program} {t T : TypeId} {w : World} {B n : Nat} {cs : List Value} (h : Blk t w B cs) (hn : cs.length = n) (hagg : ∀ w, (isAgg T).run P w = .ok true w) (hsz : ∀ w, (sizeOf T).run P w = .ok n w) : (Instr.loadAt T (.pointer (some ⟨B, 0, none⟩))).run P w = .ok (.agg cs.toArray) w := by
  have e := h.loadVar (P := P) hn hagg hsz
  unfold Go.loadVar at e
  simp only [Instr.loadAt, Instr.sureAddr, Go.loadVar, Sem.run_bind, Sem.run_pure, Result.andThen_ok, hagg, hsz, h.load hn, if_true]
/-- A load whose value is known. -/
theorem wpList_load_run {P : Program} {w : World} {ops : Array Oper} {rest : List Oper} {o : Oper} {a : Act} {Q : Exit → Act → World → Prop} (hg : o.guard = none) (t : TypeId) (x : Operand) (pv v : Value) (hop : o.op = Op.load t x) (hx : a.eval x = pv)
    (hrun : (Instr.loadAt t pv).run P w = .ok v w) (h : wpList P ops Q rest (a.put o.dst v) w) : wpList P ops Q (o :: rest) a w :=
  wpList_plain hg fun _ hK => by
    unfold Oper.wp execOp
    simp only [hop, hx, hrun, Sem.run_bind, Sem.run_pure, Result.andThen_ok]
    exact hK _ _ h
theorem quiet_load {P : Program} {w : World} {o : Oper} {a : Act} {C : World → Prop} (t : TypeId) (x : Operand) (pv v : Value) (hop : o.op = Op.load t x) (hx : a.eval x = pv) (hrun : (Instr.loadAt t pv).run P w = .ok v w) : Oper.quietAt P o a C w v := by
  unfold Oper.quietAt execOp
  simp only [hop, hx, hrun, Sem.run_bind, Sem.run_pure, Result.andThen_ok]
  exact ⟨rfl, rfl⟩
/-- Results, of which one is a variable of many cells. -/
theorem results_c {P : Program} {fn : Func} {tmps : Array Value} {w : World} {i : Tmp} {T : TypeId} {a : Addr} {v : Value} (hr : fn.results = #[.cell i T]) (ha : tmps.getD i undef = .pointer (some a)) (hl : (Go.loadVar T a).run P w = .ok v w) :
    (results fn tmps).run P w = .ok v w := by
  unfold results
  rw [hr]
  have ha' := ha
  rw [Array.getD_eq_getD_getElem?] at ha'
  simp [ha', asAddr, hl]
end Go.Proofs.YtlegcfjafdihlaaGreatDoor
/-
  More of blocks whose cells are a list: a part loaded, an element of an array that is a value, a store of the whole; and a bag of such blocks. No condition.
-/
namespace Go.Proofs.YtlegcfjafdihlaaGreatDoor
open Go.RowKit
set_option linter.unusedSimpArgs false
set_option linter.unusedVariables false

theorem Blk.loadSub {P : Program} {t : TypeId} {w : World} {B k : Nat} {cs ds : List Value} (h : Blk t w B cs) (hd : ∀ j v, ds[j]? = some v → cs[k + j]? = some v) : (loadCells ⟨B, k, none⟩ ds.length).run P w = .ok ds.toArray w := by
  refine run_loadCells_list w ⟨B, k, none⟩ ds (fun j v hv => ?_)
  have e : (⟨B, k, none⟩ : Addr).add j = ⟨B, k + j, none⟩ := by unfold Addr.add; split <;> simp_all
  rw [e]; exact h.cell (hd j v hv)
theorem Blk.loadAtSub {P : Program} {t T : TypeId} {w : World} {B k n : Nat} {cs ds : List Value} (h : Blk t w B cs) (hd : ∀ j v, ds[j]? = some v → cs[k + j]? = some v) (hn : ds.length = n) (hagg : ∀ w, (isAgg T).run P w = .ok true w) (hsz : ∀ w, (sizeOf T).run P w = .ok n w) : (Instr.loadAt T (.pointer (some ⟨B, k, none⟩))).run P w = .ok (.agg ds.toArray) w := by
  have e := h.loadSub (P := P) hd
  rw [hn] at e
  simp only [Instr.loadAt, Instr.sureAddr, Go.loadVar, Sem.run_bind, Sem.run_pure, Result.andThen_ok, hagg, hsz, e, if_true]
theorem wpList_loadW {P : Program} {w : World} {ops : Array Oper} {rest : List Oper} {o : Oper} {a : Act} {Q : Exit → Act → World → Prop} (hw : Region.wanted o (yielded ops a.tmps) = true) (t : TypeId) (x : Operand) (pv v : Value) (hop : o.op = Op.load t x) (hx : a.eval x = pv)
    (hrun : (Instr.loadAt t pv).run P w = .ok v w) (h : wpList P ops Q rest (a.put o.dst v) w) : wpList P ops Q (o :: rest) a w :=
  BigFrame.wpList_want hw fun _ hK => by
    unfold Oper.wp execOp
    simp only [hop, hx, hrun, Sem.run_bind, Sem.run_pure, Result.andThen_ok]
    exact hK _ _ h
/-- The whole of a block that has just been made is stored: as if it had been made so. -/
theorem run_store_new {P : Program} {t : TypeId} (w : World) (zs cs : List Value) (hl : cs.length = zs.length) (h1 : ∀ v ∈ cs, v.oneCell' = true) : (storeCells ⟨w.heap.size, 0, none⟩ cs).run P (w.alloc (.cells zs.toArray t)) = .ok () (w.alloc (.cells cs.toArray t)) := by
  have e := run_storeCells_at P w.heap.size 0 t cs 0 zs.toArray (w.alloc (.cells zs.toArray t)) (heap_alloc_new w _) (by simp [hl]) h1
  rw [e]
  have e2 : (zs.toArray.toList.take (0 + 0) ++ cs ++ zs.toArray.toList.drop (0 + 0 + cs.length)).toArray = cs.toArray := by
    rw [hl]; simp
  rw [e2, World.setRow_alloc_new]
theorem wpList_store_run {P : Program} {w w2 : World} {ops : Array Oper} {rest : List Oper} {o : Oper} {a : Act} {Q : Exit → Act → World → Prop} (hw : Region.wanted o (yielded ops a.tmps) = true) (hdst : o.dst = none) (t : TypeId) (x y : Operand) (ad : Addr) (cs : List Value) (hop : o.op = Op.store t x y) (hx : a.eval x = .pointer (some ad)) (hy : a.eval y = .agg cs.toArray) (hagg : ∀ w, (isAgg t).run P w = .ok true w) (hsz : ∀ w, (sizeOf t).run P w = .ok cs.length w)
    (hrun : (storeCells ad cs).run P w = .ok () w2) (h : wpList P ops Q rest a w2) : wpList P ops Q (o :: rest) a w :=
  BigFrame.wpList_want hw fun _ hK => by
    unfold Oper.wp execOp
    simp only [hop, hx, hy, Instr.storeAt, Instr.sureAddr, storeVar, Value.cells, hrun, hagg, hsz, List.size_toArray, ne_eq, not_true_eq_false, if_false, Sem.run_bind, Sem.run_pure, Result.andThen_ok, if_true]
    exact hK _ _ (by rw [hdst]; exact h)

theorem Blk.store_run {P : Program} {t : TypeId} {w : World} {B : Nat} {cs cs' : List Value} (h : Blk t w B cs) (hl : cs'.length = cs.length) (h1 : ∀ v ∈ cs', v.oneCell' = true) : (storeCells ⟨B, 0, none⟩ cs').run P w = .ok () (w.setRow B cs'.toArray) := by
  have e := run_storeCells_at P B 0 t cs' 0 cs.toArray w h (by simp [hl]) h1
  rw [e]
  have e2 : (cs.toArray.toList.take (0 + 0) ++ cs' ++ cs.toArray.toList.drop (0 + 0 + cs'.length)).toArray = cs'.toArray := by
    rw [hl]; simp
  rw [e2]
end Go.Proofs.YtlegcfjafdihlaaGreatDoor
/-
  Slices of elements of any number of cells: what they read as, their elements, what append leaves. General. No condition.
-/
namespace Go.Proofs.YtlegcfjafdihlaaGreatDoor
open Go.RowKit
set_option linter.unusedSimpArgs false
set_option linter.unusedVariables false

theorem addr_add (a : Addr) (i j : Nat) : (a.add i).add j = a.add (i + j) := Go.Deep.add_add a i j
/-- A slice of n elements whose cells are cs. -/
def Rw (w : World) (v : Value) (n : Nat) (cs : List Value) : Prop :=
  ∃ A c, v = .slice A n c ∧ n ≤ c ∧ ∀ j u, cs[j]? = some u → ∃ a : Addr, A = some a ∧ w.cell? (a.add j) = some u ∧ (a.add j).block < w.heap.size
theorem Rw.below {w w' : World} {v : Value} {n : Nat} {cs : List Value} (h : Rw w v n cs) (hb : Below w.heap.size w w') : Rw w' v n cs := by
  obtain ⟨A, c, hv, hk, hc⟩ := h
  refine ⟨A, c, hv, hk, fun j x hx => ?_⟩
  obtain ⟨a, ha, h1, h2⟩ := hc j x hx
  exact ⟨a, ha, (hb.cell h2).trans h1, Nat.lt_of_lt_of_le h2 hb.size⟩
theorem Rw.drew {w : World} {v : Value} {n : Nat} {cs : List Value} (h : Rw w v n cs) : Rw w.drew v n cs := h.below (Below.refl _ _).drew
theorem Rw.alloc {w : World} {v : Value} {n : Nat} {cs : List Value} (h : Rw w v n cs) (o : Obj) : Rw (w.alloc o) v n cs := h.below ((Below.refl _ _).alloc (Nat.le_refl _) o)
theorem Rw.nil (w : World) : Rw w (.slice none 0 0) 0 [] := ⟨none, 0, rfl, Nat.le_refl _, fun j x hx => by simp at hx⟩
theorem Rw.of_own {w : World} {base s n : Nat} {t : TypeId} {v : Value} {xs : List Value} (h : w.ownsRow base t s v n xs) : Rw w v n xs := by
  have hl := h.1
  rcases h.2 with ⟨rfl, h0⟩ | ⟨g, cap, cur, rfl, hb, hh, hnc, _, hcs, _⟩
  · have : xs = [] := List.eq_nil_of_length_eq_zero (by rw [hl, h0, Nat.zero_mul])
    subst this
    subst h0
    exact Rw.nil w
  · refine ⟨_, cap, rfl, hnc, fun j x hx => ⟨_, rfl, ?_⟩⟩
    have hj : j < xs.length := (List.getElem?_eq_some_iff.1 hx).1
    have e1 : (⟨g, 0, none⟩ : Addr).add j = ⟨g, j, none⟩ := by unfold Addr.add; split <;> simp_all
    have hc := h.cellAt j (by omega)
    rw [e1, hc, hx]
    refine ⟨rfl, ?_⟩
    show g < w.heap.size
    rcases Nat.lt_or_ge g w.heap.size with h' | h'
    · exact h'
    · rw [Array.getElem?_eq_none h'] at hh; cases hh
/-- An element is loaded. -/
theorem Rw.loadAt {P : Program} {T : TypeId} {w : World} {a : Addr} {n c k s : Nat} {cs ds : List Value} (h : Rw w (.slice (some a) n c) n cs) (hd : ∀ j v, ds[j]? = some v → cs[k * s + j]? = some v) (hn : ds.length = s) (hagg : ∀ w, (isAgg T).run P w = .ok true w) (hsz : ∀ w, (sizeOf T).run P w = .ok s w) :
    (Instr.loadAt T (.pointer (some (a.add (k * s))))).run P w = .ok (.agg ds.toArray) w := by
  obtain ⟨A, c', hv, _, hc⟩ := h
  cases hv
  have e : (loadCells (a.add (k * s)) ds.length).run P w = .ok ds.toArray w := by
    refine run_loadCells_list w _ ds (fun j v hv => ?_)
    obtain ⟨a', ha, h1, _⟩ := hc _ v (hd j v hv)
    cases ha
    rw [addr_add]; exact h1
  rw [hn] at e
  simp only [Instr.loadAt, Instr.sureAddr, Go.loadVar, Sem.run_bind, Sem.run_pure, Result.andThen_ok, hagg, hsz, e, if_true]
theorem own_base {w : World} {b b' s n : Nat} {t : TypeId} {v : Value} {xs : List Value} (h : w.ownsRow b t s v n xs) (hb : b' ≤ b) : w.ownsRow b' t s v n xs := by
  refine ⟨h.1, ?_⟩
  rcases h.2 with h0 | ⟨g, cap, cur, hv, hg, r⟩
  · exact .inl h0
  · exact .inr ⟨g, cap, cur, hv, Nat.le_trans hb hg, r⟩
end Go.Proofs.YtlegcfjafdihlaaGreatDoor
/-
  A slice of structs among the arguments, opened: for any struct whose cells are known. General. No condition.
-/
namespace Go.Proofs.YtlegcfjafdihlaaGreatDoor
open Go.ChangeShapes Go.WideShapes Go.ChangeAt Go.RowKit Go.Deep
set_option linter.unusedVariables false
set_option linter.unusedSimpArgs false

theorem flatMap_at {α : Type} (g : α → List Value) (s : Nat) (hs : ∀ q, (g q).length = s) : ∀ (l : List α) (j : Nat) (u : Value), (l.flatMap g)[j]? = some u → ∃ i q r, l[i]? = some q ∧ r < s ∧ j = i * s + r ∧ (g q)[r]? = some u
  | [], j, u, h => by simp at h
  | q :: l, j, u, h => by
    rw [List.flatMap_cons] at h
    rcases Nat.lt_or_ge j s with k | k
    · rw [List.getElem?_append_left (by rw [hs]; exact k)] at h
      exact ⟨0, q, j, rfl, k, by omega, h⟩
    · rw [List.getElem?_append_right (by rw [hs]; exact k), hs] at h
      obtain ⟨i, q', r, h1, h2, h3, h4⟩ := flatMap_at g s hs l (j - s) u h
      exact ⟨i + 1, q', r, by simpa using h1, h2, by rw [Nat.add_mul, Nat.one_mul]; omega, h4⟩
end Go.Proofs.YtlegcfjafdihlaaGreatDoor
/-
  A slice of any elements among the arguments, or in a field of a struct among them, opened; without memory only if it is nil. General. No condition.
-/
namespace Go.Proofs.YtlegcfjafdihlaaGreatDoor
open Go.ChangeShapes Go.WideShapes Go.ChangeAt Go.RowKit Go.Deep
set_option linter.unusedVariables false
set_option linter.unusedSimpArgs false

theorem open_rowsC {α : Type} {H : Type} {enc : TypeId × Value → H} {P : Program} {W : World} {t e : TypeId} {cs : List Value} {fuel : Nat} {x : DataW H × List MemPlace} (g : α → List Value) (s : Nat) (hs : ∀ q, (g q).length = s)
    (ht : P.underlying t = some (.slice e)) (hce : P.cellsOf e = s) (hG : ∀ n cs x, DataW.trod enc P W 0 (fun _ => true) true n e cs = some x → ∃ q, cs = g q)
    (hf : DataW.trod enc P W 0 (fun _ => true) true fuel t cs = some x) : ∃ (l : List α) (v : Value), cs = [v] ∧ Rw W v l.length (l.flatMap g) ∧ ∀ m c, v = .slice none m c → c = 0 := by
  rcases open_slice ht hf with ⟨rfl, _⟩ | ⟨a, len0, cap0, m, n, D, Pl, rfl, _, hl, _, hm, _, hx⟩
  · exact ⟨[], _, rfl, ⟨none, 0, rfl, Nat.le_refl _, fun j x hx => by simp at hx⟩, fun m c h => by cases h; rfl⟩
  · have hmc : m = cap0 := by simpa using hm
    subst hmc
    rw [hce] at hx
    have hq : ∀ i : Fin len0, ∃ q, W.cells? 0 (a.add (i.1 * s)) s = some (g q) := fun i => by
      obtain ⟨cs', h1, h2⟩ := hx i.1 (by have := i.2; omega)
      obtain ⟨q, rfl⟩ := hG _ _ _ h2
      exact ⟨q, h1⟩
    refine ⟨(List.finRange len0).map fun i => (hq i).choose, _, rfl, ⟨some a, m, by simp, by simpa using hl, fun j u hu => ⟨a, rfl, ?_⟩⟩, fun m c h => by cases h⟩
    obtain ⟨i, q, r', hi, hr, rfl, hju⟩ := flatMap_at g s hs _ j u hu
    rw [List.getElem?_map] at hi
    have hil : i < len0 := by
      rcases Nat.lt_or_ge i len0 with k | k
      · exact k
      · rw [List.getElem?_eq_none (by simpa using k)] at hi; cases hi
    rw [List.getElem?_eq_getElem (by simpa using hil)] at hi
    have hqi : q = (hq ⟨i, hil⟩).choose := by simpa using (Option.some.inj hi).symm
    have hc := (hq ⟨i, hil⟩).choose_spec
    rw [← hqi] at hc
    obtain ⟨_, hcl, hat⟩ := World.cells?_some hc
    have h3 := hat r' hr
    rw [addr_add, hju] at h3
    exact ⟨h3, World.block_lt_of_cell? W _ h3⟩
theorem flatMap_one {α β : Type} (f : α → β) (l : List α) : (l.flatMap fun q => [f q]) = l.map f := by
  induction l with
  | nil => rfl
  | cons a l ih => rw [List.flatMap_cons, ih]; rfl
end Go.Proofs.YtlegcfjafdihlaaGreatDoor
