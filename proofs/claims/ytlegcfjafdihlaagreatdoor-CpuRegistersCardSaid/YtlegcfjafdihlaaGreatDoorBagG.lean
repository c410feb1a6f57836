/-
  A bag of blocks whose cells are lists, and the steps of a walk over it, for any types: a part loaded, a cell loaded, a whole block stored (a new one; the first one of the bag), a cell of the first one written. No condition.
-/
import Derived.Test.YtlegcfjafdihlaaGreatDoorCells
import Derived.Test.YtlegcfjafdihlaaGreatDoorCelm
import Derived.KernelRfl
namespace Go.Proofs.YtlegcfjafdihlaaGreatDoor
open Go.RowKit
set_option linter.unusedSimpArgs false
set_option linter.unusedVariables false

theorem int_cell (w : World) : (isAgg 3).run Tryz.prog w = .ok false w := by kernel_rfl
theorem bool_cell (w : World) : (isAgg 4).run Tryz.prog w = .ok false w := by kernel_rfl
structure Bag (l : List (Nat × TypeId × List Value)) (w0 w : World) : Prop where
  all : ∀ B t cs, (B, t, cs) ∈ l → Blk t w B cs
  below : Below w0.heap.size w0 w
  lo : ∀ b ∈ l, w0.heap.size ≤ b.1
  dis : (l.map (·.1)).Nodup
theorem Bag.nil (w : World) : Bag [] w w := ⟨fun _ _ _ h => (by cases h), Below.refl _ _, fun _ h => (by cases h), List.nodup_nil⟩
theorem Bag.step {l : List (Nat × TypeId × List Value)} {w0 w w' : World} (h : Bag l w0 w) (hb : Below w.heap.size w w') : Bag l w0 w' := ⟨fun B t cs hm => (h.all B t cs hm).step hb, h.below.trans (hb.mono h.below.size), h.lo, h.dis⟩
theorem Bag.drew {l : List (Nat × TypeId × List Value)} {w0 w : World} (h : Bag l w0 w) : Bag l w0 w.drew := ⟨fun B t cs hm => (h.all B t cs hm).drew, h.below.drew, h.lo, h.dis⟩
theorem Bag.new {l : List (Nat × TypeId × List Value)} {w0 w : World} (h : Bag l w0 w) (t : TypeId) (cs : List Value) : Bag ((w.heap.size, t, cs) :: l) w0 (w.alloc (.cells cs.toArray t)) := by
  refine ⟨fun B t' cs' hm => ?_, h.below.alloc h.below.size _, fun b hb => ?_, ?_⟩
  · rcases List.mem_cons.1 hm with e | e
    · cases e; exact Blk.new t w cs
    · exact (h.all B t' cs' e).alloc _
  · rcases List.mem_cons.1 hb with e | e
    · rw [e]; exact h.below.size
    · exact h.lo b e
  · rw [List.map_cons, List.nodup_cons]
    refine ⟨fun hm => ?_, h.dis⟩
    obtain ⟨⟨B, t', cs'⟩, hm, e⟩ := List.mem_map.1 hm
    have := (h.all B t' cs' hm).lt
    simp only at e
    omega
theorem Bag.other {l : List (Nat × TypeId × List Value)} {w0 w : World} {B : Nat} {t : TypeId} {cs : List Value} (h : Bag ((B, t, cs) :: l) w0 w) : ∀ b ∈ l, b.1 ≠ B := by
  intro b hb e
  have := h.dis
  rw [List.map_cons, List.nodup_cons] at this
  exact this.1 (List.mem_map.2 ⟨b, hb, e⟩)
/-- The first block of the bag is written. -/
theorem Bag.over {l : List (Nat × TypeId × List Value)} {w0 w : World} {B : Nat} {t : TypeId} {cs : List Value} (h : Bag ((B, t, cs) :: l) w0 w) (cs' : List Value) : Bag ((B, t, cs') :: l) w0 (w.setRow B cs'.toArray) := by
  have hb := h.all B t cs List.mem_cons_self
  refine ⟨fun B2 t2 cs2 hm => ?_, below_setRow h.below (h.lo _ List.mem_cons_self) _, fun b hb => ?_, h.dis⟩
  · rcases List.mem_cons.1 hm with e | e
    · cases e; exact setRow_heap w B _ _ t _ hb
    · unfold Blk
      rw [setRow_other w B B2 _ (h.other _ e)]
      exact h.all B2 t2 cs2 (List.mem_cons_of_mem _ e)
  · rcases List.mem_cons.1 hb with e | e
    · rw [e]; exact h.lo (B, t, cs) List.mem_cons_self
    · exact h.lo b (List.mem_cons_of_mem _ e)
theorem Bag.set {l : List (Nat × TypeId × List Value)} {w0 w : World} {B : Nat} {t : TypeId} {cs : List Value} (h : Bag ((B, t, cs) :: l) w0 w) (k : Nat) (v : Value) : Bag ((B, t, cs.set k v) :: l) w0 (w.setCell ⟨B, k, none⟩ v) := by
  have hb := h.all B t cs List.mem_cons_self
  refine ⟨fun B2 t2 cs2 hm => ?_, h.below.setCell (h.lo _ List.mem_cons_self) _, fun b hb => ?_, h.dis⟩
  · rcases List.mem_cons.1 hm with e | e
    · cases e; exact hb.set k v
    · exact (h.all B2 t2 cs2 (List.mem_cons_of_mem _ e)).other (h.other _ e) v
  · rcases List.mem_cons.1 hb with e | e
    · rw [e]; exact h.lo (B, t, cs) List.mem_cons_self
    · exact h.lo b (List.mem_cons_of_mem _ e)
theorem Bag.swap {l : List (Nat × TypeId × List Value)} {w0 w : World} {a b : Nat × TypeId × List Value} (h : Bag (a :: b :: l) w0 w) : Bag (b :: a :: l) w0 w := by
  have e : ∀ x, x ∈ b :: a :: l → x ∈ a :: b :: l := by
    intro x hx
    simp only [List.mem_cons] at hx ⊢
    rcases hx with h | h | h
    · exact .inr (.inl h)
    · exact .inl h
    · exact .inr (.inr h)
  refine ⟨fun B t cs hm => h.all B t cs (e _ hm), h.below, fun x hx => h.lo x (e x hx), ?_⟩
  have d := h.dis
  simp only [List.map_cons, List.nodup_cons, List.mem_cons, not_or] at d ⊢
  exact ⟨⟨fun k => d.1.1 k.symm, d.2.1⟩, d.1.2, d.2.2⟩

section
variable {ops : Array Oper} {rest : List Oper} {o : Oper} {a : Act} {w w0 w1 : World} {Q : Exit → Act → World → Prop} {l : List (Nat × TypeId × List Value)}
theorem Blk.loadCell {P : Program} {t T : TypeId} {w : World} {B k : Nat} {cs : List Value} {v : Value} (h : Blk t w B cs) (hk : cs[k]? = some v) (hagg : ∀ w, (isAgg T).run P w = .ok false w) : (Instr.loadAt T (.pointer (some ⟨B, k, none⟩))).run P w = .ok v w := by
  simp only [Instr.loadAt, Instr.sureAddr, Go.loadVar, Sem.run_bind, Sem.run_pure, Result.andThen_ok, hagg, Bool.false_eq_true, if_false]
  show (Sem.load _ _ _).run P w = _
  simp only [Sem.run, h.cell hk]
theorem wpList_bag_cell {B k : Nat} {t T : TypeId} {cs : List Value} {v : Value} (hX : Bag l w0 w) (hagg : ∀ w, (isAgg T).run Tryz.prog w = .ok false w) (x : Operand) (hop : o.op = Op.load T x) (hal : w1 = w) (hx : a.eval x = .pointer (some ⟨B, k, none⟩)) (hw : Region.wanted o (yielded ops a.tmps) = true) (hm : (B, t, cs) ∈ l) (hk : cs[k]? = some v)
    (h : wpList Tryz.prog ops Q rest (a.put o.dst v) w) : wpList Tryz.prog ops Q (o :: rest) a w1 := by
  subst hal
  exact
    wpList_loadW hw T x _ _ hop hx ((hX.all _ _ _ hm).loadCell hk hagg) h
/-- A part of a block is loaded. -/
theorem wpList_bag_part {B k n : Nat} {t T : TypeId} {cs ds : List Value} (hX : Bag l w0 w) (hagg : ∀ w, (isAgg T).run Tryz.prog w = .ok true w) (hsz : ∀ w, (sizeOf T).run Tryz.prog w = .ok n w) (x : Operand) (hop : o.op = Op.load T x) (hal : w1 = w) (hx : a.eval x = .pointer (some ⟨B, k, none⟩)) (hw : Region.wanted o (yielded ops a.tmps) = true) (hm : (B, t, cs) ∈ l) (hc : ∀ j v, ds[j]? = some v → cs[k + j]? = some v) (hn : ds.length = n)
    (h : wpList Tryz.prog ops Q rest (a.put o.dst (.agg ds.toArray)) w) : wpList Tryz.prog ops Q (o :: rest) a w1 := by
  subst hal
  exact
    wpList_loadW hw T x _ _ hop hx ((hX.all _ _ _ hm).loadAtSub hc hn hagg hsz) h
theorem Blk.put_run {P : Program} {t : TypeId} {w : World} {B k : Nat} {cs : List Value} {v : Value} (h : Blk t w B cs) (hk : k < cs.length) (h1 : v.oneCell' = true) : (storeCells ⟨B, k, none⟩ [v]).run P w = .ok () (w.setRow B (cs.set k v).toArray) := by
  have e := run_storeCells_at P B k t [v] 0 cs.toArray w h (by simp; omega) (by simpa using h1)
  rw [e]
  have e2 : (cs.toArray.toList.take (k + 0) ++ [v] ++ cs.toArray.toList.drop (k + 0 + [v].length)).toArray = (cs.set k v).toArray := by
    rw [List.set_eq_take_append_cons_drop, if_pos hk]
    simp
  rw [e2]
/-- A Bool is stored into the first block. -/
theorem wpList_bag_putB {B k : Nat} {t T : TypeId} {cs : List Value} {b : Bool} (hX : Bag ((B, t, cs) :: l) w0 w) (hsz : ∀ w, (sizeOf T).run Tryz.prog w = .ok 1 w) (x y : Operand) (hop : o.op = Op.store T x y) (hal : w1 = w) (hx : a.eval x = .pointer (some ⟨B, k, none⟩)) (hy : a.eval y = .bool b) (hdst : o.dst = none) (hw : Region.wanted o (yielded ops a.tmps) = true) (hk : k < cs.length)
    (h : ∀ w2, Bag ((B, t, cs.set k (.bool b)) :: l) w0 w2 → wpList Tryz.prog ops Q rest a w2) : wpList Tryz.prog ops Q (o :: rest) a w1 := by
  subst hal
  have hr := (hX.all _ _ _ List.mem_cons_self).put_run (P := Tryz.prog) (v := .bool b) hk rfl
  exact BigFrame.wpList_want hw fun _ hK => by
    unfold Oper.wp execOp
    simp only [hop, hx, hy, Instr.storeAt, Instr.sureAddr, storeVar, Value.cells, hr, hsz, List.size_toArray, List.length_cons, List.length_nil, ne_eq, not_true_eq_false, if_false, Sem.run_bind, Sem.run_pure, Result.andThen_ok]
    exact hK _ _ (by rw [hdst]; exact h _ (hX.over _))
/-- A whole block is stored that has just been made. -/
theorem wpList_bag_store {t T : TypeId} {n : Nat} {cs zs : List Value} (hX : Bag l w0 w) (hagg : ∀ w, (isAgg T).run Tryz.prog w = .ok true w) (hsz : ∀ w, (sizeOf T).run Tryz.prog w = .ok n w) (x y : Operand) (hop : o.op = Op.store T x y) (hal : w1 = w.alloc (.cells zs.toArray t)) (hx : a.eval x = .pointer (some ⟨w.heap.size, 0, none⟩)) (hy : a.eval y = .agg cs.toArray) (hdst : o.dst = none) (hw : Region.wanted o (yielded ops a.tmps) = true) (hn : cs.length = n) (hm : zs.length = n) (h1 : ∀ v ∈ cs, v.oneCell' = true)
    (h : ∀ w2, Bag ((w.heap.size, t, cs) :: l) w0 w2 → wpList Tryz.prog ops Q rest a w2) : wpList Tryz.prog ops Q (o :: rest) a w1 := by
  subst hal
  exact
    wpList_store_run hw hdst T x y _ _ hop hx hy hagg (by rw [hn]; exact hsz) (run_store_new w zs cs (by rw [hn, hm]) h1) (h _ (hX.new _ _))
/-- The first block of the bag is stored as a whole. -/
theorem wpList_bag_over {B n : Nat} {t T : TypeId} {cs cs' : List Value} (hX : Bag ((B, t, cs) :: l) w0 w) (hagg : ∀ w, (isAgg T).run Tryz.prog w = .ok true w) (hsz : ∀ w, (sizeOf T).run Tryz.prog w = .ok n w) (x y : Operand) (hop : o.op = Op.store T x y) (hal : w1 = w) (hx : a.eval x = .pointer (some ⟨B, 0, none⟩)) (hy : a.eval y = .agg cs'.toArray) (hdst : o.dst = none) (hw : Region.wanted o (yielded ops a.tmps) = true) (hn : cs'.length = n) (hc : cs.length = n) (h1 : ∀ v ∈ cs', v.oneCell' = true)
    (h : ∀ w2, Bag ((B, t, cs') :: l) w0 w2 → wpList Tryz.prog ops Q rest a w2) : wpList Tryz.prog ops Q (o :: rest) a w1 := by
  subst hal
  exact
    wpList_store_run hw hdst T x y _ _ hop hx hy hagg (by rw [hn]; exact hsz) ((hX.all _ _ _ List.mem_cons_self).store_run (by rw [hn, hc]) h1) (h _ (hX.over _))
end
end Go.Proofs.YtlegcfjafdihlaaGreatDoor
