import Derived.Test.YtlegcfjafdihlaaGreatDoorZR01
import Derived.Deep.WholeRow
import Derived.BigFrame
import Derived.Deep.Slices
import Derived.ProofKit
import Derived.LaidMore
import Derived.OpenShut
import Derived.Carry
import Derived.ChangeSame
import Derived.ChangeSlices
import Derived.KernelRfl
/-
  More of blocks whose cells are a list: a part loaded, an element of an array that is a value, a store of the whole; and a bag of such blocks. No condition.
-/
namespace Go.Proofs.YtlegcfjafdihlaaGreatDoor
open Go.RowKit
set_option linter.unusedSimpArgs false
set_option linter.unusedVariables false

theorem Blk.loadSub {P : Program} {t : TypeId} {w : World} {B k : Nat} {cs ds : List Value} (h : Blk t w B cs) (hd : ∀ j v, ds[j]? = some v → cs[k + j]? = some v) : (loadCells ⟨B, k, none⟩ ds.length).run P w = .ok ds.toArray w := by
  refine run_loadCells_list w ⟨B, k, none⟩ ds (fun j v hv => ?_)
  have e : (⟨B, k, none⟩ : Addr).add j = ⟨B, k + j, none⟩ := by unfold Addr.add; split <;> simp_all
  rw [e]; exact h.cell (hd j v hv)
theorem Blk.loadAtSub {P : Program} {t T : TypeId} {w : World} {B k n : Nat} {cs ds : List Value} (h : Blk t w B cs) (hd : ∀ j v, ds[j]? = some v → cs[k + j]? = some v) (hn : ds.length = n) (hagg : ∀ w, (isAgg T).run P w = .ok true w) (hsz : ∀ w, (sizeOf T).run P w = .ok n w) : (Instr.loadAt T (.pointer (some ⟨B, k, none⟩))).run P w = .ok (.agg ds.toArray) w := by
  have e := h.loadSub (P := P) hd
  rw [hn] at e
  simp only [Instr.loadAt, Instr.sureAddr, Go.loadVar, Sem.run_bind, Sem.run_pure, Result.andThen_ok, hagg, hsz, e, if_true]
theorem wpList_loadW {P : Program} {w : World} {ops : Array Oper} {rest : List Oper} {o : Oper} {a : Act} {Q : Exit → Act → World → Prop} (hw : Region.wanted o (yielded ops a.tmps) = true) (t : TypeId) (x : Operand) (pv v : Value) (hop : o.op = Op.load t x) (hx : a.eval x = pv)
    (hrun : (Instr.loadAt t pv).run P w = .ok v w) (h : wpList P ops Q rest (a.put o.dst v) w) : wpList P ops Q (o :: rest) a w :=
  BigFrame.wpList_want hw fun _ hK => by
    unfold Oper.wp execOp
    simp only [hop, hx, hrun, Sem.run_bind, Sem.run_pure, Result.andThen_ok]
    exact hK _ _ h
theorem wpList_index_run {P : Program} {w : World} {ops : Array Oper} {rest : List Oper} {o : Oper} {a : Act} {Q : Exit → Act → World → Prop} (hw : Region.wanted o (yielded ops a.tmps) = true) (t : TypeId) (x ix : Operand) (xv iv v : Value) (hop : o.op = Op.index t x ix) (hx : a.eval x = xv) (hi : a.eval ix = iv)
    (hrun : (Instr.index t xv iv).run P w = .ok v w) (h : wpList P ops Q rest (a.put o.dst v) w) : wpList P ops Q (o :: rest) a w :=
  BigFrame.wpList_want hw fun _ hK => by
    unfold Oper.wp execOp
    simp only [hop, hx, hi, hrun, Sem.run_bind, Sem.run_pure, Result.andThen_ok]
    exact hK _ _ h
theorem run_index_agg {P : Program} {t e : TypeId} {w : World} {n c : Nat} {cs ds : List Value} (i : Nat) (hu : P.underlying t = some (.array n e)) (hi : i < n) (hagg : ∀ w, (isAgg e).run P w = .ok true w) (hsz : ∀ w, (sizeOf e).run P w = .ok c w) (hd : (cs.drop (i * c)).take c = ds) : (Instr.index t (.agg cs.toArray) (.int .i64 i)).run P w = .ok (.agg ds.toArray) w := by
  have e0 : (0 : Int) ≤ (i : Int) ∧ (i : Int) < (n : Int) := ⟨by omega, by omega⟩
  have ex : cs.toArray.extract (i * c) (i * c + c) = ds.toArray := by
    apply Array.toList_inj.1
    rw [← hd]
    simp [List.extract_eq_take_drop]
  simp only [Instr.index, asIntOf, Sem.run_bind, Sem.run_pure, Result.andThen_ok, run_underlying hu, if_pos e0, part, hagg, hsz, Int.toNat_natCast, if_true, ex]
/-- The whole of a block that has just been made is stored: as if it had been made so. -/
theorem run_store_new {P : Program} {t : TypeId} (w : World) (zs cs : List Value) (hl : cs.length = zs.length) (h1 : ∀ v ∈ cs, v.oneCell' = true) : (storeCells ⟨w.heap.size, 0, none⟩ cs).run P (w.alloc (.cells zs.toArray t)) = .ok () (w.alloc (.cells cs.toArray t)) := by
  have e := run_storeCells_at P w.heap.size 0 t cs 0 zs.toArray (w.alloc (.cells zs.toArray t)) (heap_alloc_new w _) (by simp [hl]) h1
  rw [e]
  have e2 : (zs.toArray.toList.take (0 + 0) ++ cs ++ zs.toArray.toList.drop (0 + 0 + cs.length)).toArray = cs.toArray := by
    rw [hl]; simp
  rw [e2, World.setRow_alloc_new]
theorem wpList_store_run {P : Program} {w w2 : World} {ops : Array Oper} {rest : List Oper} {o : Oper} {a : Act} {Q : Exit → Act → World → Prop} (hw : Region.wanted o (yielded ops a.tmps) = true) (hdst : o.dst = none) (t : TypeId) (x y : Operand) (ad : Addr) (cs : List Value) (hop : o.op = Op.store t x y) (hx : a.eval x = .pointer (some ad)) (hy : a.eval y = .agg cs.toArray) (hagg : ∀ w, (isAgg t).run P w = .ok true w) (hsz : ∀ w, (sizeOf t).run P w = .ok cs.length w)
    (hrun : (storeCells ad cs).run P w = .ok () w2) (h : wpList P ops Q rest a w2) : wpList P ops Q (o :: rest) a w :=
  BigFrame.wpList_want hw fun _ hK => by
    unfold Oper.wp execOp
    simp only [hop, hx, hy, Instr.storeAt, Instr.sureAddr, storeVar, Value.cells, hrun, hagg, hsz, List.size_toArray, ne_eq, not_true_eq_false, if_false, Sem.run_bind, Sem.run_pure, Result.andThen_ok, if_true]
    exact hK _ _ (by rw [hdst]; exact h)

theorem Blk.store_run {P : Program} {t : TypeId} {w : World} {B : Nat} {cs cs' : List Value} (h : Blk t w B cs) (hl : cs'.length = cs.length) (h1 : ∀ v ∈ cs', v.oneCell' = true) : (storeCells ⟨B, 0, none⟩ cs').run P w = .ok () (w.setRow B cs'.toArray) := by
  have e := run_storeCells_at P B 0 t cs' 0 cs.toArray w h (by simp [hl]) h1
  rw [e]
  have e2 : (cs.toArray.toList.take (0 + 0) ++ cs' ++ cs.toArray.toList.drop (0 + 0 + cs'.length)).toArray = cs'.toArray := by
    rw [hl]; simp
  rw [e2]
end Go.Proofs.YtlegcfjafdihlaaGreatDoor
/-
  Slices of elements of any number of cells: what they read as, their elements, what append leaves. General. No condition.
-/
namespace Go.Proofs.YtlegcfjafdihlaaGreatDoor
open Go.RowKit
set_option linter.unusedSimpArgs false
set_option linter.unusedVariables false

theorem addr_add (a : Addr) (i j : Nat) : (a.add i).add j = a.add (i + j) := Go.Deep.add_add a i j
/-- A slice of n elements whose cells are cs. -/
def Rw (w : World) (v : Value) (n : Nat) (cs : List Value) : Prop :=
  ∃ A c, v = .slice A n c ∧ n ≤ c ∧ ∀ j u, cs[j]? = some u → ∃ a : Addr, A = some a ∧ w.cell? (a.add j) = some u ∧ (a.add j).block < w.heap.size
theorem Rw.below {w w' : World} {v : Value} {n : Nat} {cs : List Value} (h : Rw w v n cs) (hb : Below w.heap.size w w') : Rw w' v n cs := by
  obtain ⟨A, c, hv, hk, hc⟩ := h
  refine ⟨A, c, hv, hk, fun j x hx => ?_⟩
  obtain ⟨a, ha, h1, h2⟩ := hc j x hx
  exact ⟨a, ha, (hb.cell h2).trans h1, Nat.lt_of_lt_of_le h2 hb.size⟩
theorem Rw.drew {w : World} {v : Value} {n : Nat} {cs : List Value} (h : Rw w v n cs) : Rw w.drew v n cs := h.below (Below.refl _ _).drew
theorem Rw.alloc {w : World} {v : Value} {n : Nat} {cs : List Value} (h : Rw w v n cs) (o : Obj) : Rw (w.alloc o) v n cs := h.below ((Below.refl _ _).alloc (Nat.le_refl _) o)
theorem Rw.nil (w : World) : Rw w (.slice none 0 0) 0 [] := ⟨none, 0, rfl, Nat.le_refl _, fun j x hx => by simp at hx⟩
theorem Rw.of_own {w : World} {base s n : Nat} {t : TypeId} {v : Value} {xs : List Value} (h : w.ownsRow base t s v n xs) : Rw w v n xs := by
  have hl := h.1
  rcases h.2 with ⟨rfl, h0⟩ | ⟨g, cap, cur, rfl, hb, hh, hnc, _, hcs, _⟩
  · have : xs = [] := List.eq_nil_of_length_eq_zero (by rw [hl, h0, Nat.zero_mul])
    subst this
    subst h0
    exact Rw.nil w
  · refine ⟨_, cap, rfl, hnc, fun j x hx => ⟨_, rfl, ?_⟩⟩
    have hj : j < xs.length := (List.getElem?_eq_some_iff.1 hx).1
    have e1 : (⟨g, 0, none⟩ : Addr).add j = ⟨g, j, none⟩ := by unfold Addr.add; split <;> simp_all
    have hc := h.cellAt j (by omega)
    rw [e1, hc, hx]
    refine ⟨rfl, ?_⟩
    show g < w.heap.size
    rcases Nat.lt_or_ge g w.heap.size with h' | h'
    · exact h'
    · rw [Array.getElem?_eq_none h'] at hh; cases hh
/-- An element is loaded. -/
theorem Rw.loadAt {P : Program} {T : TypeId} {w : World} {a : Addr} {n c k s : Nat} {cs ds : List Value} (h : Rw w (.slice (some a) n c) n cs) (hd : ∀ j v, ds[j]? = some v → cs[k * s + j]? = some v) (hn : ds.length = s) (hagg : ∀ w, (isAgg T).run P w = .ok true w) (hsz : ∀ w, (sizeOf T).run P w = .ok s w) :
    (Instr.loadAt T (.pointer (some (a.add (k * s))))).run P w = .ok (.agg ds.toArray) w := by
  obtain ⟨A, c', hv, _, hc⟩ := h
  cases hv
  have e : (loadCells (a.add (k * s)) ds.length).run P w = .ok ds.toArray w := by
    refine run_loadCells_list w _ ds (fun j v hv => ?_)
    obtain ⟨a', ha, h1, _⟩ := hc _ v (hd j v hv)
    cases ha
    rw [addr_add]; exact h1
  rw [hn] at e
  simp only [Instr.loadAt, Instr.sureAddr, Go.loadVar, Sem.run_bind, Sem.run_pure, Result.andThen_ok, hagg, hsz, e, if_true]
theorem own_base {w : World} {b b' s n : Nat} {t : TypeId} {v : Value} {xs : List Value} (h : w.ownsRow b t s v n xs) (hb : b' ≤ b) : w.ownsRow b' t s v n xs := by
  refine ⟨h.1, ?_⟩
  rcases h.2 with h0 | ⟨g, cap, cur, hv, hg, r⟩
  · exact .inl h0
  · exact .inr ⟨g, cap, cur, hv, Nat.le_trans hb hg, r⟩
end Go.Proofs.YtlegcfjafdihlaaGreatDoor
/-
  A slice of structs among the arguments, opened: for any struct whose cells are known. General. No condition.
-/
namespace Go.Proofs.YtlegcfjafdihlaaGreatDoor
open Go.ChangeShapes Go.WideShapes Go.ChangeAt Go.RowKit Go.Deep
set_option linter.unusedVariables false
set_option linter.unusedSimpArgs false

theorem flatMap_at {α : Type} (g : α → List Value) (s : Nat) (hs : ∀ q, (g q).length = s) : ∀ (l : List α) (j : Nat) (u : Value), (l.flatMap g)[j]? = some u → ∃ i q r, l[i]? = some q ∧ r < s ∧ j = i * s + r ∧ (g q)[r]? = some u
  | [], j, u, h => by simp at h
  | q :: l, j, u, h => by
    rw [List.flatMap_cons] at h
    rcases Nat.lt_or_ge j s with k | k
    · rw [List.getElem?_append_left (by rw [hs]; exact k)] at h
      exact ⟨0, q, j, rfl, k, by omega, h⟩
    · rw [List.getElem?_append_right (by rw [hs]; exact k), hs] at h
      obtain ⟨i, q', r, h1, h2, h3, h4⟩ := flatMap_at g s hs l (j - s) u h
      exact ⟨i + 1, q', r, by simpa using h1, h2, by rw [Nat.add_mul, Nat.one_mul]; omega, h4⟩
end Go.Proofs.YtlegcfjafdihlaaGreatDoor
/-
  A slice of any elements among the arguments, or in a field of a struct among them, opened; without memory only if it is nil. General. No condition.
-/
namespace Go.Proofs.YtlegcfjafdihlaaGreatDoor
open Go.ChangeShapes Go.WideShapes Go.ChangeAt Go.RowKit Go.Deep
set_option linter.unusedVariables false
set_option linter.unusedSimpArgs false

theorem open_rowsC {α : Type} {H : Type} {enc : TypeId × Value → H} {P : Program} {W : World} {t e : TypeId} {cs : List Value} {fuel : Nat} {x : DataW H × List MemPlace} (g : α → List Value) (s : Nat) (hs : ∀ q, (g q).length = s)
    (ht : P.underlying t = some (.slice e)) (hce : P.cellsOf e = s) (hG : ∀ n cs x, DataW.trod enc P W 0 (fun _ => true) true n e cs = some x → ∃ q, cs = g q)
    (hf : DataW.trod enc P W 0 (fun _ => true) true fuel t cs = some x) : ∃ (l : List α) (v : Value), cs = [v] ∧ Rw W v l.length (l.flatMap g) ∧ ∀ m c, v = .slice none m c → c = 0 := by
  rcases open_slice ht hf with ⟨rfl, _⟩ | ⟨a, len0, cap0, m, n, D, Pl, rfl, _, hl, _, hm, _, hx⟩
  · exact ⟨[], _, rfl, ⟨none, 0, rfl, Nat.le_refl _, fun j x hx => by simp at hx⟩, fun m c h => by cases h; rfl⟩
  · have hmc : m = cap0 := by simpa using hm
    subst hmc
    rw [hce] at hx
    have hq : ∀ i : Fin len0, ∃ q, W.cells? 0 (a.add (i.1 * s)) s = some (g q) := fun i => by
      obtain ⟨cs', h1, h2⟩ := hx i.1 (by have := i.2; omega)
      obtain ⟨q, rfl⟩ := hG _ _ _ h2
      exact ⟨q, h1⟩
    refine ⟨(List.finRange len0).map fun i => (hq i).choose, _, rfl, ⟨some a, m, by simp, by simpa using hl, fun j u hu => ⟨a, rfl, ?_⟩⟩, fun m c h => by cases h⟩
    obtain ⟨i, q, r', hi, hr, rfl, hju⟩ := flatMap_at g s hs _ j u hu
    rw [List.getElem?_map] at hi
    have hil : i < len0 := by
      rcases Nat.lt_or_ge i len0 with k | k
      · exact k
      · rw [List.getElem?_eq_none (by simpa using k)] at hi; cases hi
    rw [List.getElem?_eq_getElem (by simpa using hil)] at hi
    have hqi : q = (hq ⟨i, hil⟩).choose := by simpa using (Option.some.inj hi).symm
    have hc := (hq ⟨i, hil⟩).choose_spec
    rw [← hqi] at hc
    obtain ⟨_, hcl, hat⟩ := World.cells?_some hc
    have h3 := hat r' hr
    rw [addr_add, hju] at h3
    exact ⟨h3, World.block_lt_of_cell? W _ h3⟩
theorem flatMap_one {α β : Type} (f : α → β) (l : List α) : (l.flatMap fun q => [f q]) = l.map f := by
  induction l with
  | nil => rfl
  | cons a l ih => rw [List.flatMap_cons, ih]; rfl
end Go.Proofs.YtlegcfjafdihlaaGreatDoor
/-
  A bag of blocks whose cells are lists, and the steps of a walk over it, for any types: a part loaded, a cell loaded, a whole block stored (a new one; the first one of the bag), a cell of the first one written. No condition.
-/
namespace Go.Proofs.YtlegcfjafdihlaaGreatDoor
open Go.RowKit
set_option linter.unusedSimpArgs false
set_option linter.unusedVariables false

theorem int_cell (w : World) : (isAgg 3).run Tryz.prog w = .ok false w := by kernel_rfl
theorem bool_cell (w : World) : (isAgg 4).run Tryz.prog w = .ok false w := by kernel_rfl
structure Bag (l : List (Nat × TypeId × List Value)) (w0 w : World) : Prop where
  all : ∀ B t cs, (B, t, cs) ∈ l → Blk t w B cs
  below : Below w0.heap.size w0 w
  lo : ∀ b ∈ l, w0.heap.size ≤ b.1
  dis : (l.map (·.1)).Nodup
theorem Bag.nil (w : World) : Bag [] w w := ⟨fun _ _ _ h => (by cases h), Below.refl _ _, fun _ h => (by cases h), List.nodup_nil⟩
theorem Bag.step {l : List (Nat × TypeId × List Value)} {w0 w w' : World} (h : Bag l w0 w) (hb : Below w.heap.size w w') : Bag l w0 w' := ⟨fun B t cs hm => (h.all B t cs hm).step hb, h.below.trans (hb.mono h.below.size), h.lo, h.dis⟩
theorem Bag.drew {l : List (Nat × TypeId × List Value)} {w0 w : World} (h : Bag l w0 w) : Bag l w0 w.drew := ⟨fun B t cs hm => (h.all B t cs hm).drew, h.below.drew, h.lo, h.dis⟩
theorem Bag.new {l : List (Nat × TypeId × List Value)} {w0 w : World} (h : Bag l w0 w) (t : TypeId) (cs : List Value) : Bag ((w.heap.size, t, cs) :: l) w0 (w.alloc (.cells cs.toArray t)) := by
  refine ⟨fun B t' cs' hm => ?_, h.below.alloc h.below.size _, fun b hb => ?_, ?_⟩
  · rcases List.mem_cons.1 hm with e | e
    · cases e; exact Blk.new t w cs
    · exact (h.all B t' cs' e).alloc _
  · rcases List.mem_cons.1 hb with e | e
    · rw [e]; exact h.below.size
    · exact h.lo b e
  · rw [List.map_cons, List.nodup_cons]
    refine ⟨fun hm => ?_, h.dis⟩
    obtain ⟨⟨B, t', cs'⟩, hm, e⟩ := List.mem_map.1 hm
    have := (h.all B t' cs' hm).lt
    simp only at e
    omega
theorem Bag.other {l : List (Nat × TypeId × List Value)} {w0 w : World} {B : Nat} {t : TypeId} {cs : List Value} (h : Bag ((B, t, cs) :: l) w0 w) : ∀ b ∈ l, b.1 ≠ B := by
  intro b hb e
  have := h.dis
  rw [List.map_cons, List.nodup_cons] at this
  exact this.1 (List.mem_map.2 ⟨b, hb, e⟩)
/-- The first block of the bag is written. -/
theorem Bag.over {l : List (Nat × TypeId × List Value)} {w0 w : World} {B : Nat} {t : TypeId} {cs : List Value} (h : Bag ((B, t, cs) :: l) w0 w) (cs' : List Value) : Bag ((B, t, cs') :: l) w0 (w.setRow B cs'.toArray) := by
  have hb := h.all B t cs List.mem_cons_self
  refine ⟨fun B2 t2 cs2 hm => ?_, below_setRow h.below (h.lo _ List.mem_cons_self) _, fun b hb => ?_, h.dis⟩
  · rcases List.mem_cons.1 hm with e | e
    · cases e; exact setRow_heap w B _ _ t _ hb
    · unfold Blk
      rw [setRow_other w B B2 _ (h.other _ e)]
      exact h.all B2 t2 cs2 (List.mem_cons_of_mem _ e)
  · rcases List.mem_cons.1 hb with e | e
    · rw [e]; exact h.lo (B, t, cs) List.mem_cons_self
    · exact h.lo b (List.mem_cons_of_mem _ e)
theorem Bag.set {l : List (Nat × TypeId × List Value)} {w0 w : World} {B : Nat} {t : TypeId} {cs : List Value} (h : Bag ((B, t, cs) :: l) w0 w) (k : Nat) (v : Value) : Bag ((B, t, cs.set k v) :: l) w0 (w.setCell ⟨B, k, none⟩ v) := by
  have hb := h.all B t cs List.mem_cons_self
  refine ⟨fun B2 t2 cs2 hm => ?_, h.below.setCell (h.lo _ List.mem_cons_self) _, fun b hb => ?_, h.dis⟩
  · rcases List.mem_cons.1 hm with e | e
    · cases e; exact hb.set k v
    · exact (h.all B2 t2 cs2 (List.mem_cons_of_mem _ e)).other (h.other _ e) v
  · rcases List.mem_cons.1 hb with e | e
    · rw [e]; exact h.lo (B, t, cs) List.mem_cons_self
    · exact h.lo b (List.mem_cons_of_mem _ e)
theorem Bag.swap {l : List (Nat × TypeId × List Value)} {w0 w : World} {a b : Nat × TypeId × List Value} (h : Bag (a :: b :: l) w0 w) : Bag (b :: a :: l) w0 w := by
  have e : ∀ x, x ∈ b :: a :: l → x ∈ a :: b :: l := by
    intro x hx
    simp only [List.mem_cons] at hx ⊢
    rcases hx with h | h | h
    · exact .inr (.inl h)
    · exact .inl h
    · exact .inr (.inr h)
  refine ⟨fun B t cs hm => h.all B t cs (e _ hm), h.below, fun x hx => h.lo x (e x hx), ?_⟩
  have d := h.dis
  simp only [List.map_cons, List.nodup_cons, List.mem_cons, not_or] at d ⊢
  exact ⟨⟨fun k => d.1.1 k.symm, d.2.1⟩, d.1.2, d.2.2⟩

section
variable {ops : Array Oper} {rest : List Oper} {o : Oper} {a : Act} {w w0 w1 : World} {Q : Exit → Act → World → Prop} {l : List (Nat × TypeId × List Value)}
theorem Blk.loadCell {P : Program} {t T : TypeId} {w : World} {B k : Nat} {cs : List Value} {v : Value} (h : Blk t w B cs) (hk : cs[k]? = some v) (hagg : ∀ w, (isAgg T).run P w = .ok false w) : (Instr.loadAt T (.pointer (some ⟨B, k, none⟩))).run P w = .ok v w := by
  simp only [Instr.loadAt, Instr.sureAddr, Go.loadVar, Sem.run_bind, Sem.run_pure, Result.andThen_ok, hagg, Bool.false_eq_true, if_false]
  show (Sem.load _ _ _).run P w = _
  simp only [Sem.run, h.cell hk]
theorem wpList_bag_cell {B k : Nat} {t T : TypeId} {cs : List Value} {v : Value} (hX : Bag l w0 w) (hagg : ∀ w, (isAgg T).run Tryz.prog w = .ok false w) (x : Operand) (hop : o.op = Op.load T x) (hal : w1 = w) (hx : a.eval x = .pointer (some ⟨B, k, none⟩)) (hw : Region.wanted o (yielded ops a.tmps) = true) (hm : (B, t, cs) ∈ l) (hk : cs[k]? = some v)
    (h : wpList Tryz.prog ops Q rest (a.put o.dst v) w) : wpList Tryz.prog ops Q (o :: rest) a w1 := by
  subst hal
  exact
    wpList_loadW hw T x _ _ hop hx ((hX.all _ _ _ hm).loadCell hk hagg) h
/-- A part of a block is loaded. -/
theorem wpList_bag_part {B k n : Nat} {t T : TypeId} {cs ds : List Value} (hX : Bag l w0 w) (hagg : ∀ w, (isAgg T).run Tryz.prog w = .ok true w) (hsz : ∀ w, (sizeOf T).run Tryz.prog w = .ok n w) (x : Operand) (hop : o.op = Op.load T x) (hal : w1 = w) (hx : a.eval x = .pointer (some ⟨B, k, none⟩)) (hw : Region.wanted o (yielded ops a.tmps) = true) (hm : (B, t, cs) ∈ l) (hc : ∀ j v, ds[j]? = some v → cs[k + j]? = some v) (hn : ds.length = n)
    (h : wpList Tryz.prog ops Q rest (a.put o.dst (.agg ds.toArray)) w) : wpList Tryz.prog ops Q (o :: rest) a w1 := by
  subst hal
  exact
    wpList_loadW hw T x _ _ hop hx ((hX.all _ _ _ hm).loadAtSub hc hn hagg hsz) h
theorem Blk.put_run {P : Program} {t : TypeId} {w : World} {B k : Nat} {cs : List Value} {v : Value} (h : Blk t w B cs) (hk : k < cs.length) (h1 : v.oneCell' = true) : (storeCells ⟨B, k, none⟩ [v]).run P w = .ok () (w.setRow B (cs.set k v).toArray) := by
  have e := run_storeCells_at P B k t [v] 0 cs.toArray w h (by simp; omega) (by simpa using h1)
  rw [e]
  have e2 : (cs.toArray.toList.take (k + 0) ++ [v] ++ cs.toArray.toList.drop (k + 0 + [v].length)).toArray = (cs.set k v).toArray := by
    rw [List.set_eq_take_append_cons_drop, if_pos hk]
    simp
  rw [e2]
end
end Go.Proofs.YtlegcfjafdihlaaGreatDoor
/-
  The machine's cells as a list in parts: a part is read, a part is put in another's place. General. No condition.
-/
namespace Go.Proofs.YtlegcfjafdihlaaGreatDoor
open Go.RowKit
set_option linter.unusedSimpArgs false
set_option linter.unusedVariables false
set_option maxHeartbeats 1000000

theorem part_at {P S R : List Value} {k : Nat} (hP : P.length = k) : ∀ j v, S[j]? = some v → (P ++ (S ++ R))[k + j]? = some v := fun j v h => by
  have hj := (List.getElem?_eq_some_iff.1 h).1
  rw [List.getElem?_append_right (by omega), show k + j - P.length = j by omega, List.getElem?_append_left hj]
  exact h
/-- The cells of a machine: the processor's ten; memory, bad addresses; the unit's 67; the clock's four; the lines; the disk's ten; the tape's eleven; the last five. -/
def maL (C : List Value) (vm vb : Value) (U K : List Value) (vl : Value) (D T E : List Value) : List Value := C ++ ([vm, vb] ++ (U ++ (K ++ ([vl] ++ (D ++ (T ++ E))))))
/-- The parts have their lengths. -/
structure MaLen (C U K D T E : List Value) : Prop where
  c : C.length = 10
  u : U.length = 67
  k : K.length = 4
  d : D.length = 10
  t : T.length = 11
  e : E.length = 5
section
variable {C U K D T E : List Value} {vm vb vl : Value}
theorem maL_len (h : MaLen C U K D T E) : (maL C vm vb U K vl D T E).length = 110 := by
  unfold maL; simp [h.c, h.u, h.k, h.d, h.t, h.e]
theorem maL_one (h1 : ∀ v ∈ C, v.oneCell' = true) (h2 : vm.oneCell' = true) (h3 : vb.oneCell' = true) (h4 : ∀ v ∈ U, v.oneCell' = true) (h5 : ∀ v ∈ K, v.oneCell' = true) (h6 : vl.oneCell' = true) (h7 : ∀ v ∈ D, v.oneCell' = true) (h8 : ∀ v ∈ T, v.oneCell' = true) (h9 : ∀ v ∈ E, v.oneCell' = true) : ∀ v ∈ maL C vm vb U K vl D T E, v.oneCell' = true := by
  intro v hv
  unfold maL at hv
  simp only [List.mem_append, List.mem_cons, List.not_mem_nil, or_false] at hv
  rcases hv with h | (rfl | rfl) | h | h | rfl | h | h | h
  · exact h1 v h
  · exact h2
  · exact h3
  · exact h4 v h
  · exact h5 v h
  · exact h6
  · exact h7 v h
  · exact h8 v h
  · exact h9 v h
theorem maL_c : maL C vm vb U K vl D T E = [] ++ (C ++ ([vm, vb] ++ (U ++ (K ++ ([vl] ++ (D ++ (T ++ E))))))) := rfl
theorem maL_m : maL C vm vb U K vl D T E = C ++ ([vm] ++ ([vb] ++ (U ++ (K ++ ([vl] ++ (D ++ (T ++ E))))))) := rfl
theorem maL_b : maL C vm vb U K vl D T E = (C ++ [vm]) ++ ([vb] ++ (U ++ (K ++ ([vl] ++ (D ++ (T ++ E)))))) := by unfold maL; simp
theorem maL_u : maL C vm vb U K vl D T E = (C ++ [vm, vb]) ++ (U ++ (K ++ ([vl] ++ (D ++ (T ++ E))))) := by unfold maL; simp
theorem maL_k : maL C vm vb U K vl D T E = (C ++ [vm, vb] ++ U) ++ (K ++ ([vl] ++ (D ++ (T ++ E)))) := by unfold maL; simp
theorem maL_l : maL C vm vb U K vl D T E = (C ++ [vm, vb] ++ U ++ K) ++ ([vl] ++ (D ++ (T ++ E))) := by unfold maL; simp
theorem maL_d : maL C vm vb U K vl D T E = (C ++ [vm, vb] ++ U ++ K ++ [vl]) ++ (D ++ (T ++ E)) := by unfold maL; simp
theorem maL_t : maL C vm vb U K vl D T E = (C ++ [vm, vb] ++ U ++ K ++ [vl] ++ D) ++ (T ++ E) := by unfold maL; simp
theorem maL_e : maL C vm vb U K vl D T E = (C ++ [vm, vb] ++ U ++ K ++ [vl] ++ D ++ T) ++ (E ++ []) := by unfold maL; simp
theorem get_c : ∀ j v, C[j]? = some v → (maL C vm vb U K vl D T E)[0 + j]? = some v := by rw [maL_c]; exact part_at rfl
variable (h : MaLen C U K D T E)
include h
theorem get_m : (maL C vm vb U K vl D T E)[10]? = some vm := by rw [maL_m]; exact part_at (S := [vm]) h.c 0 vm rfl
theorem get_b : (maL C vm vb U K vl D T E)[11]? = some vb := by rw [maL_b]; exact part_at (S := [vb]) (by simp [h.c]) 0 vb rfl
theorem get_u : ∀ j v, U[j]? = some v → (maL C vm vb U K vl D T E)[12 + j]? = some v := by rw [maL_u]; exact part_at (by simp [h.c])
theorem get_k : ∀ j v, K[j]? = some v → (maL C vm vb U K vl D T E)[79 + j]? = some v := by rw [maL_k]; exact part_at (by simp [h.c, h.u])
theorem get_l : (maL C vm vb U K vl D T E)[83]? = some vl := by rw [maL_l]; exact part_at (S := [vl]) (by simp [h.c, h.u, h.k]) 0 vl rfl
theorem get_d : ∀ j v, D[j]? = some v → (maL C vm vb U K vl D T E)[84 + j]? = some v := by rw [maL_d]; exact part_at (by simp [h.c, h.u, h.k])
theorem get_t : ∀ j v, T[j]? = some v → (maL C vm vb U K vl D T E)[94 + j]? = some v := by rw [maL_t]; exact part_at (by simp [h.c, h.u, h.k, h.d])
theorem get_e : ∀ j v, E[j]? = some v → (maL C vm vb U K vl D T E)[105 + j]? = some v := by rw [maL_e]; exact part_at (by simp [h.c, h.u, h.k, h.d, h.t])
end
end Go.Proofs.YtlegcfjafdihlaaGreatDoor
