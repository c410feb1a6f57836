import Derived.Test.YtlegcfjafdihlaaGreatDoorZC02
import Derived.KernelRfl
import Derived.Test.YtlegcfjafdihlaaGreatDoorZC01
import Derived.WalkKit
import Derived.WalkSpells
import Derived.WalkLawsBesides
import Derived.Deep.RegionHeld3
import Derived.Deep.DeepCutAuto
import Derived.Deep.QuietTactic
import Derived.BigQuiet
/-
  A bag of blocks whose cells are lists, and the steps of a walk over it, for any types: a part loaded, a cell loaded, a whole block stored (a new one; the first one of the bag), a cell of the first one written. No condition.
-/
namespace Go.Proofs.YtlegcfjafdihlaaGreatDoor
open Go.RowKit
set_option linter.unusedSimpArgs false
set_option linter.unusedVariables false

theorem int_cell (w : World) : (isAgg 3).run Tryz.prog w = .ok false w := by kernel_rfl
theorem bool_cell (w : World) : (isAgg 4).run Tryz.prog w = .ok false w := by kernel_rfl
structure Bag (l : List (Nat × TypeId × List Value)) (w0 w : World) : Prop where
  all : ∀ B t cs, (B, t, cs) ∈ l → Blk t w B cs
  below : Below w0.heap.size w0 w
  lo : ∀ b ∈ l, w0.heap.size ≤ b.1
  dis : (l.map (·.1)).Nodup
theorem Bag.nil (w : World) : Bag [] w w := ⟨fun _ _ _ h => (by cases h), Below.refl _ _, fun _ h => (by cases h), List.nodup_nil⟩
theorem Bag.step {l : List (Nat × TypeId × List Value)} {w0 w w' : World} (h : Bag l w0 w) (hb : Below w.heap.size w w') : Bag l w0 w' := ⟨fun B t cs hm => (h.all B t cs hm).step hb, h.below.trans (hb.mono h.below.size), h.lo, h.dis⟩
theorem Bag.drew {l : List (Nat × TypeId × List Value)} {w0 w : World} (h : Bag l w0 w) : Bag l w0 w.drew := ⟨fun B t cs hm => (h.all B t cs hm).drew, h.below.drew, h.lo, h.dis⟩
theorem Bag.new {l : List (Nat × TypeId × List Value)} {w0 w : World} (h : Bag l w0 w) (t : TypeId) (cs : List Value) : Bag ((w.heap.size, t, cs) :: l) w0 (w.alloc (.cells cs.toArray t)) := by
  refine ⟨fun B t' cs' hm => ?_, h.below.alloc h.below.size _, fun b hb => ?_, ?_⟩
  · rcases List.mem_cons.1 hm with e | e
    · cases e; exact Blk.new t w cs
    · exact (h.all B t' cs' e).alloc _
  · rcases List.mem_cons.1 hb with e | e
    · rw [e]; exact h.below.size
    · exact h.lo b e
  · rw [List.map_cons, List.nodup_cons]
    refine ⟨fun hm => ?_, h.dis⟩
    obtain ⟨⟨B, t', cs'⟩, hm, e⟩ := List.mem_map.1 hm
    have := (h.all B t' cs' hm).lt
    simp only at e
    omega
theorem Bag.other {l : List (Nat × TypeId × List Value)} {w0 w : World} {B : Nat} {t : TypeId} {cs : List Value} (h : Bag ((B, t, cs) :: l) w0 w) : ∀ b ∈ l, b.1 ≠ B := by
  intro b hb e
  have := h.dis
  rw [List.map_cons, List.nodup_cons] at this
  exact this.1 (List.mem_map.2 ⟨b, hb, e⟩)
/-- The first block of the bag is written. -/
theorem Bag.over {l : List (Nat × TypeId × List Value)} {w0 w : World} {B : Nat} {t : TypeId} {cs : List Value} (h : Bag ((B, t, cs) :: l) w0 w) (cs' : List Value) : Bag ((B, t, cs') :: l) w0 (w.setRow B cs'.toArray) := by
  have hb := h.all B t cs List.mem_cons_self
  refine ⟨fun B2 t2 cs2 hm => ?_, below_setRow h.below (h.lo _ List.mem_cons_self) _, fun b hb => ?_, h.dis⟩
  · rcases List.mem_cons.1 hm with e | e
    · cases e; exact setRow_heap w B _ _ t _ hb
    · unfold Blk
      rw [setRow_other w B B2 _ (h.other _ e)]
      exact h.all B2 t2 cs2 (List.mem_cons_of_mem _ e)
  · rcases List.mem_cons.1 hb with e | e
    · rw [e]; exact h.lo (B, t, cs) List.mem_cons_self
    · exact h.lo b (List.mem_cons_of_mem _ e)
theorem Bag.set {l : List (Nat × TypeId × List Value)} {w0 w : World} {B : Nat} {t : TypeId} {cs : List Value} (h : Bag ((B, t, cs) :: l) w0 w) (k : Nat) (v : Value) : Bag ((B, t, cs.set k v) :: l) w0 (w.setCell ⟨B, k, none⟩ v) := by
  have hb := h.all B t cs List.mem_cons_self
  refine ⟨fun B2 t2 cs2 hm => ?_, h.below.setCell (h.lo _ List.mem_cons_self) _, fun b hb => ?_, h.dis⟩
  · rcases List.mem_cons.1 hm with e | e
    · cases e; exact hb.set k v
    · exact (h.all B2 t2 cs2 (List.mem_cons_of_mem _ e)).other (h.other _ e) v
  · rcases List.mem_cons.1 hb with e | e
    · rw [e]; exact h.lo (B, t, cs) List.mem_cons_self
    · exact h.lo b (List.mem_cons_of_mem _ e)
theorem Bag.swap {l : List (Nat × TypeId × List Value)} {w0 w : World} {a b : Nat × TypeId × List Value} (h : Bag (a :: b :: l) w0 w) : Bag (b :: a :: l) w0 w := by
  have e : ∀ x, x ∈ b :: a :: l → x ∈ a :: b :: l := by
    intro x hx
    simp only [List.mem_cons] at hx ⊢
    rcases hx with h | h | h
    · exact .inr (.inl h)
    · exact .inl h
    · exact .inr (.inr h)
  refine ⟨fun B t cs hm => h.all B t cs (e _ hm), h.below, fun x hx => h.lo x (e x hx), ?_⟩
  have d := h.dis
  simp only [List.map_cons, List.nodup_cons, List.mem_cons, not_or] at d ⊢
  exact ⟨⟨fun k => d.1.1 k.symm, d.2.1⟩, d.1.2, d.2.2⟩

section
variable {ops : Array Oper} {rest : List Oper} {o : Oper} {a : Act} {w w0 w1 : World} {Q : Exit → Act → World → Prop} {l : List (Nat × TypeId × List Value)}
theorem Blk.loadCell {P : Program} {t T : TypeId} {w : World} {B k : Nat} {cs : List Value} {v : Value} (h : Blk t w B cs) (hk : cs[k]? = some v) (hagg : ∀ w, (isAgg T).run P w = .ok false w) : (Instr.loadAt T (.pointer (some ⟨B, k, none⟩))).run P w = .ok v w := by
  simp only [Instr.loadAt, Instr.sureAddr, Go.loadVar, Sem.run_bind, Sem.run_pure, Result.andThen_ok, hagg, Bool.false_eq_true, if_false]
  show (Sem.load _ _ _).run P w = _
  simp only [Sem.run, h.cell hk]
theorem wpList_bag_cell {B k : Nat} {t T : TypeId} {cs : List Value} {v : Value} (hX : Bag l w0 w) (hagg : ∀ w, (isAgg T).run Tryz.prog w = .ok false w) (x : Operand) (hop : o.op = Op.load T x) (hal : w1 = w) (hx : a.eval x = .pointer (some ⟨B, k, none⟩)) (hw : Region.wanted o (yielded ops a.tmps) = true) (hm : (B, t, cs) ∈ l) (hk : cs[k]? = some v)
    (h : wpList Tryz.prog ops Q rest (a.put o.dst v) w) : wpList Tryz.prog ops Q (o :: rest) a w1 := by
  subst hal
  exact
    wpList_loadW hw T x _ _ hop hx ((hX.all _ _ _ hm).loadCell hk hagg) h
/-- A part of a block is loaded. -/
theorem wpList_bag_part {B k n : Nat} {t T : TypeId} {cs ds : List Value} (hX : Bag l w0 w) (hagg : ∀ w, (isAgg T).run Tryz.prog w = .ok true w) (hsz : ∀ w, (sizeOf T).run Tryz.prog w = .ok n w) (x : Operand) (hop : o.op = Op.load T x) (hal : w1 = w) (hx : a.eval x = .pointer (some ⟨B, k, none⟩)) (hw : Region.wanted o (yielded ops a.tmps) = true) (hm : (B, t, cs) ∈ l) (hc : ∀ j v, ds[j]? = some v → cs[k + j]? = some v) (hn : ds.length = n)
    (h : wpList Tryz.prog ops Q rest (a.put o.dst (.agg ds.toArray)) w) : wpList Tryz.prog ops Q (o :: rest) a w1 := by
  subst hal
  exact
    wpList_loadW hw T x _ _ hop hx ((hX.all _ _ _ hm).loadAtSub hc hn hagg hsz) h
theorem Blk.put_run {P : Program} {t : TypeId} {w : World} {B k : Nat} {cs : List Value} {v : Value} (h : Blk t w B cs) (hk : k < cs.length) (h1 : v.oneCell' = true) : (storeCells ⟨B, k, none⟩ [v]).run P w = .ok () (w.setRow B (cs.set k v).toArray) := by
  have e := run_storeCells_at P B k t [v] 0 cs.toArray w h (by simp; omega) (by simpa using h1)
  rw [e]
  have e2 : (cs.toArray.toList.take (k + 0) ++ [v] ++ cs.toArray.toList.drop (k + 0 + [v].length)).toArray = (cs.set k v).toArray := by
    rw [List.set_eq_take_append_cons_drop, if_pos hk]
    simp
  rw [e2]
end
end Go.Proofs.YtlegcfjafdihlaaGreatDoor
/-
  The machine's cells as a list in parts: a part is read, a part is put in another's place. General. No condition.
-/
namespace Go.Proofs.YtlegcfjafdihlaaGreatDoor
open Go.RowKit
set_option linter.unusedSimpArgs false
set_option linter.unusedVariables false
set_option maxHeartbeats 1000000

theorem part_at {P S R : List Value} {k : Nat} (hP : P.length = k) : ∀ j v, S[j]? = some v → (P ++ (S ++ R))[k + j]? = some v := fun j v h => by
  have hj := (List.getElem?_eq_some_iff.1 h).1
  rw [List.getElem?_append_right (by omega), show k + j - P.length = j by omega, List.getElem?_append_left hj]
  exact h
/-- The cells of a machine: the processor's ten; memory, bad addresses; the unit's 67; the clock's four; the lines; the disk's ten; the tape's eleven; the last five. -/
def maL (C : List Value) (vm vb : Value) (U K : List Value) (vl : Value) (D T E : List Value) : List Value := C ++ ([vm, vb] ++ (U ++ (K ++ ([vl] ++ (D ++ (T ++ E))))))
/-- The parts have their lengths. -/
structure MaLen (C U K D T E : List Value) : Prop where
  c : C.length = 10
  u : U.length = 67
  k : K.length = 4
  d : D.length = 10
  t : T.length = 11
  e : E.length = 5
section
variable {C U K D T E : List Value} {vm vb vl : Value}
theorem maL_len (h : MaLen C U K D T E) : (maL C vm vb U K vl D T E).length = 110 := by
  unfold maL; simp [h.c, h.u, h.k, h.d, h.t, h.e]
theorem maL_one (h1 : ∀ v ∈ C, v.oneCell' = true) (h2 : vm.oneCell' = true) (h3 : vb.oneCell' = true) (h4 : ∀ v ∈ U, v.oneCell' = true) (h5 : ∀ v ∈ K, v.oneCell' = true) (h6 : vl.oneCell' = true) (h7 : ∀ v ∈ D, v.oneCell' = true) (h8 : ∀ v ∈ T, v.oneCell' = true) (h9 : ∀ v ∈ E, v.oneCell' = true) : ∀ v ∈ maL C vm vb U K vl D T E, v.oneCell' = true := by
  intro v hv
  unfold maL at hv
  simp only [List.mem_append, List.mem_cons, List.not_mem_nil, or_false] at hv
  rcases hv with h | (rfl | rfl) | h | h | rfl | h | h | h
  · exact h1 v h
  · exact h2
  · exact h3
  · exact h4 v h
  · exact h5 v h
  · exact h6
  · exact h7 v h
  · exact h8 v h
  · exact h9 v h
theorem maL_c : maL C vm vb U K vl D T E = [] ++ (C ++ ([vm, vb] ++ (U ++ (K ++ ([vl] ++ (D ++ (T ++ E))))))) := rfl
theorem maL_m : maL C vm vb U K vl D T E = C ++ ([vm] ++ ([vb] ++ (U ++ (K ++ ([vl] ++ (D ++ (T ++ E))))))) := rfl
theorem maL_b : maL C vm vb U K vl D T E = (C ++ [vm]) ++ ([vb] ++ (U ++ (K ++ ([vl] ++ (D ++ (T ++ E)))))) := by unfold maL; simp
theorem maL_u : maL C vm vb U K vl D T E = (C ++ [vm, vb]) ++ (U ++ (K ++ ([vl] ++ (D ++ (T ++ E))))) := by unfold maL; simp
theorem maL_k : maL C vm vb U K vl D T E = (C ++ [vm, vb] ++ U) ++ (K ++ ([vl] ++ (D ++ (T ++ E)))) := by unfold maL; simp
theorem maL_l : maL C vm vb U K vl D T E = (C ++ [vm, vb] ++ U ++ K) ++ ([vl] ++ (D ++ (T ++ E))) := by unfold maL; simp
theorem maL_d : maL C vm vb U K vl D T E = (C ++ [vm, vb] ++ U ++ K ++ [vl]) ++ (D ++ (T ++ E)) := by unfold maL; simp
theorem maL_t : maL C vm vb U K vl D T E = (C ++ [vm, vb] ++ U ++ K ++ [vl] ++ D) ++ (T ++ E) := by unfold maL; simp
theorem maL_e : maL C vm vb U K vl D T E = (C ++ [vm, vb] ++ U ++ K ++ [vl] ++ D ++ T) ++ (E ++ []) := by unfold maL; simp
theorem get_c : ∀ j v, C[j]? = some v → (maL C vm vb U K vl D T E)[0 + j]? = some v := by rw [maL_c]; exact part_at rfl
variable (h : MaLen C U K D T E)
include h
theorem get_m : (maL C vm vb U K vl D T E)[10]? = some vm := by rw [maL_m]; exact part_at (S := [vm]) h.c 0 vm rfl
theorem get_b : (maL C vm vb U K vl D T E)[11]? = some vb := by rw [maL_b]; exact part_at (S := [vb]) (by simp [h.c]) 0 vb rfl
theorem get_u : ∀ j v, U[j]? = some v → (maL C vm vb U K vl D T E)[12 + j]? = some v := by rw [maL_u]; exact part_at (by simp [h.c])
theorem get_k : ∀ j v, K[j]? = some v → (maL C vm vb U K vl D T E)[79 + j]? = some v := by rw [maL_k]; exact part_at (by simp [h.c, h.u])
theorem get_l : (maL C vm vb U K vl D T E)[83]? = some vl := by rw [maL_l]; exact part_at (S := [vl]) (by simp [h.c, h.u, h.k]) 0 vl rfl
theorem get_d : ∀ j v, D[j]? = some v → (maL C vm vb U K vl D T E)[84 + j]? = some v := by rw [maL_d]; exact part_at (by simp [h.c, h.u, h.k])
theorem get_t : ∀ j v, T[j]? = some v → (maL C vm vb U K vl D T E)[94 + j]? = some v := by rw [maL_t]; exact part_at (by simp [h.c, h.u, h.k, h.d])
theorem get_e : ∀ j v, E[j]? = some v → (maL C vm vb U K vl D T E)[105 + j]? = some v := by rw [maL_e]; exact part_at (by simp [h.c, h.u, h.k, h.d, h.t])
end
end Go.Proofs.YtlegcfjafdihlaaGreatDoor
/-
  The calls of the reference of package mmu that take no unit. No condition but that numbers are integers of the machine.
-/
namespace Go.Proofs.YtlegcfjafdihlaaGreatDoor
open Go.RowKit
set_option linter.unusedSimpArgs false
set_option linter.unusedVariables false
set_option maxHeartbeats 1000000

/-- The fault of an access to a page. -/
def fltP (p : Pg) (o : Int) (w : Bool) : Int := if p.a = 0 then 1 else if p.l ≤ o / 64 then 2 else if w = true ∧ p.a ≠ 2 then 3 else 0
end Go.Proofs.YtlegcfjafdihlaaGreatDoor
/-
  Translate of the reference of package mmu. No condition but that the pages are sixteen.
-/
namespace Go.Proofs.YtlegcfjafdihlaaGreatDoor
open Go.RowKit
set_option linter.unusedSimpArgs false
set_option linter.unusedVariables false
set_option maxHeartbeats 1000000
set_option maxRecDepth 100000
attribute [local irreducible] wpQuiet

theorem agg_unit (w : World) : (isAgg 37).run Tryz.prog w = .ok true w := by kernel_rfl
theorem size_unit (w : World) : (sizeOf 37).run Tryz.prog w = .ok 67 w := by kernel_rfl
/-- Two boxes: a unit that came in, a unit that goes out. -/
structure Two (B C : Nat) (u v : Un) (w0 w : World) : Prop where
  b : Blk 37 w B u.L
  c : Blk 37 w C v.L
  below : Below w0.heap.size w0 w
theorem Two.put (u : Un) (w : World) : Two w.heap.size (w.heap.size + 1) u Un.z w ((w.alloc (.cells u.L.toArray 37)).alloc (.cells Un.z.L.toArray 37)) := by
  have e : (w.alloc (.cells u.L.toArray 37)).heap.size = w.heap.size + 1 := by simp
  have h := Blk.new 37 (w.alloc (.cells u.L.toArray 37)) Un.z.L
  rw [e] at h
  exact ⟨(Blk.new _ w u.L).alloc _, h, ((Below.refl _ _).alloc (Nat.le_refl _) _).alloc (by simp) _⟩
theorem Two.step {B C : Nat} {u v : Un} {w0 w w' : World} (h : Two B C u v w0 w) (hb : Below w.heap.size w w') : Two B C u v w0 w' := ⟨h.b.step hb, h.c.step hb, h.below.trans (hb.mono h.below.size)⟩
theorem Two.drew {B C : Nat} {u v : Un} {w0 w : World} (h : Two B C u v w0 w) : Two B C u v w0 w.drew := ⟨h.b, h.c, h.below.drew⟩
theorem Two.out {B C : Nat} {u v : Un} {w0 w : World} (h : Two B C u v w0 w) (hu : u.ok) (hv : v.ok) (hn : B ≠ C) (hC : w0.heap.size ≤ C) :
    (loadCells ⟨B, 0, none⟩ 67).run Tryz.prog w = .ok u.L.toArray w ∧ ∃ W, (storeCells ⟨C, 0, none⟩ u.L).run Tryz.prog w = .ok () W ∧ Two B C u u w0 W ∧ (loadVar 37 ⟨C, 0, none⟩).run Tryz.prog W = .ok (.agg u.L.toArray) W := by
  refine ⟨h.b.load (Un.len hu), ?_⟩
  obtain ⟨W, h1, h2, h3, _, h5⟩ := h.c.store (P := Tryz.prog) (cs' := u.L) (by rw [Un.len hu, Un.len hv]) (Un.one u)
  exact ⟨W, h1, ⟨h5 _ _ _ hn h.b, h2, h3 _ _ hC h.below⟩, h2.loadVar (Un.len hu) agg_unit size_unit⟩
theorem Un.cells {u : Un} {m p : Nat} {g : Pg} (hg : u.pg[8 * m + p]? = some g) :
    u.L[1 + m * 32 + p * 4]? = some (.int .i64 g.b) ∧ u.L[1 + m * 32 + p * 4 + 1]? = some (.int .i64 g.l) ∧ u.L[1 + m * 32 + p * 4 + 2]? = some (.int .i64 g.a) ∧ u.L[1 + m * 32 + p * 4 + 3]? = some (.bool g.r) := by
  have e : ∀ j, 1 + m * 32 + p * 4 + j = 1 + (4 * (8 * m + p) + j) := fun j => by omega
  refine ⟨?_, ?_, ?_, ?_⟩
  · have := Un.page hg 0 (by decide); rw [← e] at this; exact this
  · have := Un.page hg 1 (by decide); rw [← e] at this; exact this
  · have := Un.page hg 2 (by decide); rw [← e] at this; exact this
  · have := Un.page hg 3 (by decide); rw [← e] at this; exact this
theorem Two.page {B C m p : Nat} {u v : Un} {w0 w : World} {g : Pg} (h : Two B C u v w0 w) (hg : u.pg[8 * m + p]? = some g) :
    w.cell? ⟨B, 1 + m * 32 + p * 4, none⟩ = some (.int .i64 g.b) ∧ w.cell? ⟨B, 1 + m * 32 + p * 4 + 1, none⟩ = some (.int .i64 g.l) ∧ w.cell? ⟨B, 1 + m * 32 + p * 4 + 2, none⟩ = some (.int .i64 g.a) ∧ w.cell? ⟨B, 1 + m * 32 + p * 4 + 3, none⟩ = some (.bool g.r) := by
  obtain ⟨q0, q1, q2, q3⟩ := Un.cells hg
  exact ⟨h.b.cell q0, h.b.cell q1, h.b.cell q2, h.b.cell q3⟩
/-- The unit in which a page is another one. -/
def Un.withP (u : Un) (k : Nat) (g : Pg) : Un := { u with pg := u.pg.set k g }
theorem Un.withP_at {u : Un} {k : Nat} {g g' : Pg} (hg : u.pg[k]? = some g) : (u.withP k g').pg[k]? = some g' := by
  have hk := (List.getElem?_eq_some_iff.1 hg).1
  simp [Un.withP, hk]
theorem Two.fz {B C : Nat} {u v : Un} {w0 w : World} (h : Two B C u v w0 w) (k : Nat) : w.frozen? ⟨B, k, none⟩ = false := h.b.frozen k

end Go.Proofs.YtlegcfjafdihlaaGreatDoor
/-
  page, Read and Write of the reference of package mmu. No condition but that the pages are sixteen.
-/
namespace Go.Proofs.YtlegcfjafdihlaaGreatDoor
open Go.RowKit
set_option linter.unusedSimpArgs false
set_option linter.unusedVariables false
set_option maxHeartbeats 1000000
set_option maxRecDepth 100000
attribute [local irreducible] wpQuiet

/-- Is there a page's register at an offset? -/
def isReg (n : Int) : Bool := decide (16 ≤ n) && (decide (n < 80) && decide (n % 2 = 0))
/-- One box. -/
structure One (B : Nat) (u : Un) (w0 w : World) : Prop where
  b : Blk 37 w B u.L
  below : Below w0.heap.size w0 w
theorem One.put (u : Un) (w : World) : One w.heap.size u w (w.alloc (.cells u.L.toArray 37)) := ⟨Blk.new _ w u.L, (Below.refl _ _).alloc (Nat.le_refl _) _⟩
theorem One.step {B : Nat} {u : Un} {w0 w w' : World} (h : One B u w0 w) (hb : Below w.heap.size w w') : One B u w0 w' := ⟨h.b.step hb, h.below.trans (hb.mono h.below.size)⟩
theorem One.page {B m p : Nat} {u : Un} {w0 w : World} {g : Pg} (h : One B u w0 w) (hg : u.pg[8 * m + p]? = some g) :
    w.cell? ⟨B, 1 + m * 32 + p * 4, none⟩ = some (.int .i64 g.b) ∧ w.cell? ⟨B, 1 + m * 32 + p * 4 + 1, none⟩ = some (.int .i64 g.l) ∧ w.cell? ⟨B, 1 + m * 32 + p * 4 + 2, none⟩ = some (.int .i64 g.a) ∧ w.cell? ⟨B, 1 + m * 32 + p * 4 + 3, none⟩ = some (.bool g.r) := by
  obtain ⟨q0, q1, q2, q3⟩ := Un.cells hg
  exact ⟨h.b.cell q0, h.b.cell q1, h.b.cell q2, h.b.cell q3⟩
/-- The register at an offset. -/
def statV (u : Un) : Int := if u.on = true then 2 * u.st + 1 else 2 * u.st
def descV (g : Pg) : Int := if g.r = true then g.l + 256 * g.a + 32768 else g.l + 256 * g.a

end Go.Proofs.YtlegcfjafdihlaaGreatDoor
/-
  Write of the reference of package mmu. No condition but that the pages are sixteen.
-/
namespace Go.Proofs.YtlegcfjafdihlaaGreatDoor
open Go.RowKit
set_option linter.unusedSimpArgs false
set_option linter.unusedVariables false
set_option maxHeartbeats 8000000
set_option maxRecDepth 100000
attribute [local irreducible] wpQuiet

theorem Two.putF {B C m p : Nat} {u v : Un} {w0 w : World} {g g' : Pg} (h : Two B C u v w0 w) (hg : u.pg[8 * m + p]? = some g) (hn : C ≠ B) (hB : w0.heap.size ≤ B) (j : Nat) (hj : j < 4) (x : Value) (he : g.L.set j x = g'.L) (k : Nat) (hk : k = 1 + m * 32 + p * 4 + j) : Two B C (u.withP (8 * m + p) g') v w0 (w.setCell ⟨B, k, none⟩ x) := by
  have e : k = 1 + (4 * (8 * m + p) + j) := by omega
  have q := Un.setp (u := u) (p' := g') hg j hj x he
  refine ⟨?_, h.c.other hn _, h.below.setCell hB _⟩
  subst e
  have k2 := h.b.set (1 + (4 * (8 * m + p) + j)) x
  rw [q] at k2
  exact k2
theorem withP_twice (u : Un) (k : Nat) (g g' : Pg) : (u.withP k g).withP k g' = u.withP k g' := by
  unfold Un.withP; simp
end Go.Proofs.YtlegcfjafdihlaaGreatDoor
