import Derived.Test.YthpnddgfgpacpaaGreatRS00
import Derived.ProofKit
import Derived.LaidMore
import Derived.OpenShut
import Derived.Carry
import Derived.ChangeSame
import Derived.ChangeSlices
import Derived.Deep.Slices
import Derived.KernelRfl
import Derived.WalkKit
import Derived.WalkSpells
import Derived.WalkLawsBesides
import Derived.Deep.RegionHeld3
import Derived.Deep.DeepCutAuto
import Derived.Deep.QuietTactic
import Derived.BigQuiet
import Derived.StillTail
import Derived.Deep.Quiet
import Derived.Tactics
/-
  A slice of structs among the arguments, opened: for any struct whose cells are known. General. No condition.
-/
namespace Go.Proofs.YthpnddgfgpacpaaGreat
open Go.ChangeShapes Go.WideShapes Go.ChangeAt Go.RowKit Go.Deep
set_option linter.unusedVariables false
set_option linter.unusedSimpArgs false

theorem flatMap_at {α : Type} (g : α → List Value) (s : Nat) (hs : ∀ q, (g q).length = s) : ∀ (l : List α) (j : Nat) (u : Value), (l.flatMap g)[j]? = some u → ∃ i q r, l[i]? = some q ∧ r < s ∧ j = i * s + r ∧ (g q)[r]? = some u
  | [], j, u, h => by simp at h
  | q :: l, j, u, h => by
    rw [List.flatMap_cons] at h
    rcases Nat.lt_or_ge j s with k | k
    · rw [List.getElem?_append_left (by rw [hs]; exact k)] at h
      exact ⟨0, q, j, rfl, k, by omega, h⟩
    · rw [List.getElem?_append_right (by rw [hs]; exact k), hs] at h
      obtain ⟨i, q', r, h1, h2, h3, h4⟩ := flatMap_at g s hs l (j - s) u h
      exact ⟨i + 1, q', r, by simpa using h1, h2, by rw [Nat.add_mul, Nat.one_mul]; omega, h4⟩
end Go.Proofs.YthpnddgfgpacpaaGreat
/-
  A slice of any elements among the arguments, or in a field of a struct among them, opened; without memory only if it is nil. General. No condition.
-/
namespace Go.Proofs.YthpnddgfgpacpaaGreat
open Go.ChangeShapes Go.WideShapes Go.ChangeAt Go.RowKit Go.Deep
set_option linter.unusedVariables false
set_option linter.unusedSimpArgs false

theorem open_rowsC {α : Type} {H : Type} {enc : TypeId × Value → H} {P : Program} {W : World} {t e : TypeId} {cs : List Value} {fuel : Nat} {x : DataW H × List MemPlace} (g : α → List Value) (s : Nat) (hs : ∀ q, (g q).length = s)
    (ht : P.underlying t = some (.slice e)) (hce : P.cellsOf e = s) (hG : ∀ n cs x, DataW.trod enc P W 0 (fun _ => true) true n e cs = some x → ∃ q, cs = g q)
    (hf : DataW.trod enc P W 0 (fun _ => true) true fuel t cs = some x) : ∃ (l : List α) (v : Value), cs = [v] ∧ Rw W v l.length (l.flatMap g) ∧ ∀ m c, v = .slice none m c → c = 0 := by
  rcases open_slice ht hf with ⟨rfl, _⟩ | ⟨a, len0, cap0, m, n, D, Pl, rfl, _, hl, _, hm, _, hx⟩
  · exact ⟨[], _, rfl, ⟨none, 0, rfl, Nat.le_refl _, fun j x hx => by simp at hx⟩, fun m c h => by cases h; rfl⟩
  · have hmc : m = cap0 := by simpa using hm
    subst hmc
    rw [hce] at hx
    have hq : ∀ i : Fin len0, ∃ q, W.cells? 0 (a.add (i.1 * s)) s = some (g q) := fun i => by
      obtain ⟨cs', h1, h2⟩ := hx i.1 (by have := i.2; omega)
      obtain ⟨q, rfl⟩ := hG _ _ _ h2
      exact ⟨q, h1⟩
    refine ⟨(List.finRange len0).map fun i => (hq i).choose, _, rfl, ⟨some a, m, by simp, by simpa using hl, fun j u hu => ⟨a, rfl, ?_⟩⟩, fun m c h => by cases h⟩
    obtain ⟨i, q, r', hi, hr, rfl, hju⟩ := flatMap_at g s hs _ j u hu
    rw [List.getElem?_map] at hi
    have hil : i < len0 := by
      rcases Nat.lt_or_ge i len0 with k | k
      · exact k
      · rw [List.getElem?_eq_none (by simpa using k)] at hi; cases hi
    rw [List.getElem?_eq_getElem (by simpa using hil)] at hi
    have hqi : q = (hq ⟨i, hil⟩).choose := by simpa using (Option.some.inj hi).symm
    have hc := (hq ⟨i, hil⟩).choose_spec
    rw [← hqi] at hc
    obtain ⟨_, hcl, hat⟩ := World.cells?_some hc
    have h3 := hat r' hr
    rw [addr_add, hju] at h3
    exact ⟨h3, World.block_lt_of_cell? W _ h3⟩
theorem flatMap_one {α β : Type} (f : α → β) (l : List α) : (l.flatMap fun q => [f q]) = l.map f := by
  induction l with
  | nil => rfl
  | cons a l ih => rw [List.flatMap_cons, ih]; rfl
end Go.Proofs.YthpnddgfgpacpaaGreat
/-
  A bag of blocks whose cells are lists, and the steps of a walk over it, for any types: a part loaded, a cell loaded, a whole block stored (a new one; the first one of the bag), a cell of the first one written. No condition.
-/
namespace Go.Proofs.YthpnddgfgpacpaaGreat
open Go.RowKit
set_option linter.unusedSimpArgs false
set_option linter.unusedVariables false

theorem int_cell (w : World) : (isAgg 3).run Tryz.prog w = .ok false w := by kernel_rfl
theorem bool_cell (w : World) : (isAgg 4).run Tryz.prog w = .ok false w := by kernel_rfl
structure Bag (l : List (Nat × TypeId × List Value)) (w0 w : World) : Prop where
  all : ∀ B t cs, (B, t, cs) ∈ l → Blk t w B cs
  below : Below w0.heap.size w0 w
  lo : ∀ b ∈ l, w0.heap.size ≤ b.1
  dis : (l.map (·.1)).Nodup
theorem Bag.nil (w : World) : Bag [] w w := ⟨fun _ _ _ h => (by cases h), Below.refl _ _, fun _ h => (by cases h), List.nodup_nil⟩
theorem Bag.step {l : List (Nat × TypeId × List Value)} {w0 w w' : World} (h : Bag l w0 w) (hb : Below w.heap.size w w') : Bag l w0 w' := ⟨fun B t cs hm => (h.all B t cs hm).step hb, h.below.trans (hb.mono h.below.size), h.lo, h.dis⟩
theorem Bag.drew {l : List (Nat × TypeId × List Value)} {w0 w : World} (h : Bag l w0 w) : Bag l w0 w.drew := ⟨fun B t cs hm => (h.all B t cs hm).drew, h.below.drew, h.lo, h.dis⟩
theorem Bag.new {l : List (Nat × TypeId × List Value)} {w0 w : World} (h : Bag l w0 w) (t : TypeId) (cs : List Value) : Bag ((w.heap.size, t, cs) :: l) w0 (w.alloc (.cells cs.toArray t)) := by
  refine ⟨fun B t' cs' hm => ?_, h.below.alloc h.below.size _, fun b hb => ?_, ?_⟩
  · rcases List.mem_cons.1 hm with e | e
    · cases e; exact Blk.new t w cs
    · exact (h.all B t' cs' e).alloc _
  · rcases List.mem_cons.1 hb with e | e
    · rw [e]; exact h.below.size
    · exact h.lo b e
  · rw [List.map_cons, List.nodup_cons]
    refine ⟨fun hm => ?_, h.dis⟩
    obtain ⟨⟨B, t', cs'⟩, hm, e⟩ := List.mem_map.1 hm
    have := (h.all B t' cs' hm).lt
    simp only at e
    omega
theorem Bag.other {l : List (Nat × TypeId × List Value)} {w0 w : World} {B : Nat} {t : TypeId} {cs : List Value} (h : Bag ((B, t, cs) :: l) w0 w) : ∀ b ∈ l, b.1 ≠ B := by
  intro b hb e
  have := h.dis
  rw [List.map_cons, List.nodup_cons] at this
  exact this.1 (List.mem_map.2 ⟨b, hb, e⟩)
/-- The first block of the bag is written. -/
theorem Bag.over {l : List (Nat × TypeId × List Value)} {w0 w : World} {B : Nat} {t : TypeId} {cs : List Value} (h : Bag ((B, t, cs) :: l) w0 w) (cs' : List Value) : Bag ((B, t, cs') :: l) w0 (w.setRow B cs'.toArray) := by
  have hb := h.all B t cs List.mem_cons_self
  refine ⟨fun B2 t2 cs2 hm => ?_, below_setRow h.below (h.lo _ List.mem_cons_self) _, fun b hb => ?_, h.dis⟩
  · rcases List.mem_cons.1 hm with e | e
    · cases e; exact setRow_heap w B _ _ t _ hb
    · unfold Blk
      rw [setRow_other w B B2 _ (h.other _ e)]
      exact h.all B2 t2 cs2 (List.mem_cons_of_mem _ e)
  · rcases List.mem_cons.1 hb with e | e
    · rw [e]; exact h.lo (B, t, cs) List.mem_cons_self
    · exact h.lo b (List.mem_cons_of_mem _ e)
theorem Bag.set {l : List (Nat × TypeId × List Value)} {w0 w : World} {B : Nat} {t : TypeId} {cs : List Value} (h : Bag ((B, t, cs) :: l) w0 w) (k : Nat) (v : Value) : Bag ((B, t, cs.set k v) :: l) w0 (w.setCell ⟨B, k, none⟩ v) := by
  have hb := h.all B t cs List.mem_cons_self
  refine ⟨fun B2 t2 cs2 hm => ?_, h.below.setCell (h.lo _ List.mem_cons_self) _, fun b hb => ?_, h.dis⟩
  · rcases List.mem_cons.1 hm with e | e
    · cases e; exact hb.set k v
    · exact (h.all B2 t2 cs2 (List.mem_cons_of_mem _ e)).other (h.other _ e) v
  · rcases List.mem_cons.1 hb with e | e
    · rw [e]; exact h.lo (B, t, cs) List.mem_cons_self
    · exact h.lo b (List.mem_cons_of_mem _ e)
theorem Bag.swap {l : List (Nat × TypeId × List Value)} {w0 w : World} {a b : Nat × TypeId × List Value} (h : Bag (a :: b :: l) w0 w) : Bag (b :: a :: l) w0 w := by
  have e : ∀ x, x ∈ b :: a :: l → x ∈ a :: b :: l := by
    intro x hx
    simp only [List.mem_cons] at hx ⊢
    rcases hx with h | h | h
    · exact .inr (.inl h)
    · exact .inl h
    · exact .inr (.inr h)
  refine ⟨fun B t cs hm => h.all B t cs (e _ hm), h.below, fun x hx => h.lo x (e x hx), ?_⟩
  have d := h.dis
  simp only [List.map_cons, List.nodup_cons, List.mem_cons, not_or] at d ⊢
  exact ⟨⟨fun k => d.1.1 k.symm, d.2.1⟩, d.1.2, d.2.2⟩

section
variable {ops : Array Oper} {rest : List Oper} {o : Oper} {a : Act} {w w0 w1 : World} {Q : Exit → Act → World → Prop} {l : List (Nat × TypeId × List Value)}
theorem Blk.loadCell {P : Program} {t T : TypeId} {w : World} {B k : Nat} {cs : List Value} {v : Value} (h : Blk t w B cs) (hk : cs[k]? = some v) (hagg : ∀ w, (isAgg T).run P w = .ok false w) : (Instr.loadAt T (.pointer (some ⟨B, k, none⟩))).run P w = .ok v w := by
  simp only [Instr.loadAt, Instr.sureAddr, Go.loadVar, Sem.run_bind, Sem.run_pure, Result.andThen_ok, hagg, Bool.false_eq_true, if_false]
  show (Sem.load _ _ _).run P w = _
  simp only [Sem.run, h.cell hk]
theorem wpList_bag_cell {B k : Nat} {t T : TypeId} {cs : List Value} {v : Value} (hX : Bag l w0 w) (hagg : ∀ w, (isAgg T).run Tryz.prog w = .ok false w) (x : Operand) (hop : o.op = Op.load T x) (hal : w1 = w) (hx : a.eval x = .pointer (some ⟨B, k, none⟩)) (hw : Region.wanted o (yielded ops a.tmps) = true) (hm : (B, t, cs) ∈ l) (hk : cs[k]? = some v)
    (h : wpList Tryz.prog ops Q rest (a.put o.dst v) w) : wpList Tryz.prog ops Q (o :: rest) a w1 := by
  subst hal
  exact
    wpList_loadW hw T x _ _ hop hx ((hX.all _ _ _ hm).loadCell hk hagg) h
/-- A part of a block is loaded. -/
theorem wpList_bag_part {B k n : Nat} {t T : TypeId} {cs ds : List Value} (hX : Bag l w0 w) (hagg : ∀ w, (isAgg T).run Tryz.prog w = .ok true w) (hsz : ∀ w, (sizeOf T).run Tryz.prog w = .ok n w) (x : Operand) (hop : o.op = Op.load T x) (hal : w1 = w) (hx : a.eval x = .pointer (some ⟨B, k, none⟩)) (hw : Region.wanted o (yielded ops a.tmps) = true) (hm : (B, t, cs) ∈ l) (hc : ∀ j v, ds[j]? = some v → cs[k + j]? = some v) (hn : ds.length = n)
    (h : wpList Tryz.prog ops Q rest (a.put o.dst (.agg ds.toArray)) w) : wpList Tryz.prog ops Q (o :: rest) a w1 := by
  subst hal
  exact
    wpList_loadW hw T x _ _ hop hx ((hX.all _ _ _ hm).loadAtSub hc hn hagg hsz) h
theorem Blk.put_run {P : Program} {t : TypeId} {w : World} {B k : Nat} {cs : List Value} {v : Value} (h : Blk t w B cs) (hk : k < cs.length) (h1 : v.oneCell' = true) : (storeCells ⟨B, k, none⟩ [v]).run P w = .ok () (w.setRow B (cs.set k v).toArray) := by
  have e := run_storeCells_at P B k t [v] 0 cs.toArray w h (by simp; omega) (by simpa using h1)
  rw [e]
  have e2 : (cs.toArray.toList.take (k + 0) ++ [v] ++ cs.toArray.toList.drop (k + 0 + [v].length)).toArray = (cs.set k v).toArray := by
    rw [List.set_eq_take_append_cons_drop, if_pos hk]
    simp
  rw [e2]
/-- A Bool is stored into the first block. -/
theorem wpList_bag_putB {B k : Nat} {t T : TypeId} {cs : List Value} {b : Bool} (hX : Bag ((B, t, cs) :: l) w0 w) (hsz : ∀ w, (sizeOf T).run Tryz.prog w = .ok 1 w) (x y : Operand) (hop : o.op = Op.store T x y) (hal : w1 = w) (hx : a.eval x = .pointer (some ⟨B, k, none⟩)) (hy : a.eval y = .bool b) (hdst : o.dst = none) (hw : Region.wanted o (yielded ops a.tmps) = true) (hk : k < cs.length)
    (h : ∀ w2, Bag ((B, t, cs.set k (.bool b)) :: l) w0 w2 → wpList Tryz.prog ops Q rest a w2) : wpList Tryz.prog ops Q (o :: rest) a w1 := by
  subst hal
  have hr := (hX.all _ _ _ List.mem_cons_self).put_run (P := Tryz.prog) (v := .bool b) hk rfl
  exact BigFrame.wpList_want hw fun _ hK => by
    unfold Oper.wp execOp
    simp only [hop, hx, hy, Instr.storeAt, Instr.sureAddr, storeVar, Value.cells, hr, hsz, List.size_toArray, List.length_cons, List.length_nil, ne_eq, not_true_eq_false, if_false, Sem.run_bind, Sem.run_pure, Result.andThen_ok]
    exact hK _ _ (by rw [hdst]; exact h _ (hX.over _))
/-- The first block of the bag is stored as a whole. -/
theorem wpList_bag_over {B n : Nat} {t T : TypeId} {cs cs' : List Value} (hX : Bag ((B, t, cs) :: l) w0 w) (hagg : ∀ w, (isAgg T).run Tryz.prog w = .ok true w) (hsz : ∀ w, (sizeOf T).run Tryz.prog w = .ok n w) (x y : Operand) (hop : o.op = Op.store T x y) (hal : w1 = w) (hx : a.eval x = .pointer (some ⟨B, 0, none⟩)) (hy : a.eval y = .agg cs'.toArray) (hdst : o.dst = none) (hw : Region.wanted o (yielded ops a.tmps) = true) (hn : cs'.length = n) (hc : cs.length = n) (h1 : ∀ v ∈ cs', v.oneCell' = true)
    (h : ∀ w2, Bag ((B, t, cs') :: l) w0 w2 → wpList Tryz.prog ops Q rest a w2) : wpList Tryz.prog ops Q (o :: rest) a w1 := by
  subst hal
  exact
    wpList_store_run hw hdst T x y _ _ hop hx hy hagg (by rw [hn]; exact hsz) ((hX.all _ _ _ List.mem_cons_self).store_run (by rw [hn, hc]) h1) (h _ (hX.over _))
end
end Go.Proofs.YthpnddgfgpacpaaGreat
/-
  The machine's cells as a list in parts: a part is read, a part is put in another's place. General. No condition.
-/
namespace Go.Proofs.YthpnddgfgpacpaaGreat
open Go.RowKit
set_option linter.unusedSimpArgs false
set_option linter.unusedVariables false
set_option maxHeartbeats 1000000

theorem part_at {P S R : List Value} {k : Nat} (hP : P.length = k) : ∀ j v, S[j]? = some v → (P ++ (S ++ R))[k + j]? = some v := fun j v h => by
  have hj := (List.getElem?_eq_some_iff.1 h).1
  rw [List.getElem?_append_right (by omega), show k + j - P.length = j by omega, List.getElem?_append_left hj]
  exact h
theorem put_at {P S S' R : List Value} {k n : Nat} (hP : P.length = k) (hS : S.length = n) : (P ++ (S ++ R)).take k ++ S' ++ (P ++ (S ++ R)).drop (k + n) = P ++ (S' ++ R) := by
  subst hP hS
  rw [List.take_left', List.drop_append, show P.length + S.length - P.length = S.length by omega, List.drop_left', List.drop_eq_nil_of_le (by omega)]
  · simp
  · rfl
  · rfl
/-- The cells of a machine: the processor's ten; memory, bad addresses; the unit's 67; the clock's four; the lines; the disk's ten; the tape's eleven; the last five. -/
def maL (C : List Value) (vm vb : Value) (U K : List Value) (vl : Value) (D T E : List Value) : List Value := C ++ ([vm, vb] ++ (U ++ (K ++ ([vl] ++ (D ++ (T ++ E))))))
/-- The parts have their lengths. -/
structure MaLen (C U K D T E : List Value) : Prop where
  c : C.length = 10
  u : U.length = 67
  k : K.length = 4
  d : D.length = 10
  t : T.length = 11
  e : E.length = 5
section
variable {C U K D T E : List Value} {vm vb vl : Value}
theorem maL_len (h : MaLen C U K D T E) : (maL C vm vb U K vl D T E).length = 110 := by
  unfold maL; simp [h.c, h.u, h.k, h.d, h.t, h.e]
theorem maL_one (h1 : ∀ v ∈ C, v.oneCell' = true) (h2 : vm.oneCell' = true) (h3 : vb.oneCell' = true) (h4 : ∀ v ∈ U, v.oneCell' = true) (h5 : ∀ v ∈ K, v.oneCell' = true) (h6 : vl.oneCell' = true) (h7 : ∀ v ∈ D, v.oneCell' = true) (h8 : ∀ v ∈ T, v.oneCell' = true) (h9 : ∀ v ∈ E, v.oneCell' = true) : ∀ v ∈ maL C vm vb U K vl D T E, v.oneCell' = true := by
  intro v hv
  unfold maL at hv
  simp only [List.mem_append, List.mem_cons, List.not_mem_nil, or_false] at hv
  rcases hv with h | (rfl | rfl) | h | h | rfl | h | h | h
  · exact h1 v h
  · exact h2
  · exact h3
  · exact h4 v h
  · exact h5 v h
  · exact h6
  · exact h7 v h
  · exact h8 v h
  · exact h9 v h
theorem maL_c : maL C vm vb U K vl D T E = [] ++ (C ++ ([vm, vb] ++ (U ++ (K ++ ([vl] ++ (D ++ (T ++ E))))))) := rfl
theorem maL_m : maL C vm vb U K vl D T E = C ++ ([vm] ++ ([vb] ++ (U ++ (K ++ ([vl] ++ (D ++ (T ++ E))))))) := rfl
theorem maL_b : maL C vm vb U K vl D T E = (C ++ [vm]) ++ ([vb] ++ (U ++ (K ++ ([vl] ++ (D ++ (T ++ E)))))) := by unfold maL; simp
theorem maL_u : maL C vm vb U K vl D T E = (C ++ [vm, vb]) ++ (U ++ (K ++ ([vl] ++ (D ++ (T ++ E))))) := by unfold maL; simp
theorem maL_k : maL C vm vb U K vl D T E = (C ++ [vm, vb] ++ U) ++ (K ++ ([vl] ++ (D ++ (T ++ E)))) := by unfold maL; simp
theorem maL_l : maL C vm vb U K vl D T E = (C ++ [vm, vb] ++ U ++ K) ++ ([vl] ++ (D ++ (T ++ E))) := by unfold maL; simp
theorem maL_d : maL C vm vb U K vl D T E = (C ++ [vm, vb] ++ U ++ K ++ [vl]) ++ (D ++ (T ++ E)) := by unfold maL; simp
theorem maL_t : maL C vm vb U K vl D T E = (C ++ [vm, vb] ++ U ++ K ++ [vl] ++ D) ++ (T ++ E) := by unfold maL; simp
theorem maL_e : maL C vm vb U K vl D T E = (C ++ [vm, vb] ++ U ++ K ++ [vl] ++ D ++ T) ++ (E ++ []) := by unfold maL; simp
theorem get_c : ∀ j v, C[j]? = some v → (maL C vm vb U K vl D T E)[0 + j]? = some v := by rw [maL_c]; exact part_at rfl
variable (h : MaLen C U K D T E)
include h
theorem get_m : (maL C vm vb U K vl D T E)[10]? = some vm := by rw [maL_m]; exact part_at (S := [vm]) h.c 0 vm rfl
theorem get_b : (maL C vm vb U K vl D T E)[11]? = some vb := by rw [maL_b]; exact part_at (S := [vb]) (by simp [h.c]) 0 vb rfl
theorem get_u : ∀ j v, U[j]? = some v → (maL C vm vb U K vl D T E)[12 + j]? = some v := by rw [maL_u]; exact part_at (by simp [h.c])
theorem get_k : ∀ j v, K[j]? = some v → (maL C vm vb U K vl D T E)[79 + j]? = some v := by rw [maL_k]; exact part_at (by simp [h.c, h.u])
theorem get_l : (maL C vm vb U K vl D T E)[83]? = some vl := by rw [maL_l]; exact part_at (S := [vl]) (by simp [h.c, h.u, h.k]) 0 vl rfl
theorem get_d : ∀ j v, D[j]? = some v → (maL C vm vb U K vl D T E)[84 + j]? = some v := by rw [maL_d]; exact part_at (by simp [h.c, h.u, h.k])
theorem get_t : ∀ j v, T[j]? = some v → (maL C vm vb U K vl D T E)[94 + j]? = some v := by rw [maL_t]; exact part_at (by simp [h.c, h.u, h.k, h.d])
theorem get_e : ∀ j v, E[j]? = some v → (maL C vm vb U K vl D T E)[105 + j]? = some v := by rw [maL_e]; exact part_at (by simp [h.c, h.u, h.k, h.d, h.t])
theorem put_u (X : List Value) : (maL C vm vb U K vl D T E).take 12 ++ X ++ (maL C vm vb U K vl D T E).drop (12 + 67) = maL C vm vb X K vl D T E := by rw [maL_u, maL_u]; exact put_at (by simp [h.c]) h.u
theorem put_k (X : List Value) : (maL C vm vb U K vl D T E).take 79 ++ X ++ (maL C vm vb U K vl D T E).drop (79 + 4) = maL C vm vb U X vl D T E := by rw [maL_k, maL_k]; exact put_at (by simp [h.c, h.u]) h.k
theorem put_d (X : List Value) : (maL C vm vb U K vl D T E).take 84 ++ X ++ (maL C vm vb U K vl D T E).drop (84 + 10) = maL C vm vb U K vl X T E := by rw [maL_d, maL_d]; exact put_at (by simp [h.c, h.u, h.k]) h.d
theorem put_t (X : List Value) : (maL C vm vb U K vl D T E).take 94 ++ X ++ (maL C vm vb U K vl D T E).drop (94 + 11) = maL C vm vb U K vl D X E := by rw [maL_t, maL_t]; exact put_at (by simp [h.c, h.u, h.k, h.d]) h.t
end
end Go.Proofs.YthpnddgfgpacpaaGreat
/-
  The calls of the reference of package mmu that take no unit. No condition but that numbers are integers of the machine.
-/
namespace Go.Proofs.YthpnddgfgpacpaaGreat
open Go.RowKit
set_option linter.unusedSimpArgs false
set_option linter.unusedVariables false
set_option maxHeartbeats 1000000

def Hid_9 (p : Prop) : Prop := p
theorem hid_9 {p : Prop} (h : p) : Hid_9 p := h
theorem ret_bool_9 {a b : Bool} (h : a = b) : Ending.returned (.bool a) = .returned (.bool b) := by rw [h]
/-- The fault of an access to a page. -/
def fltP (p : Pg) (o : Int) (w : Bool) : Int := if p.a = 0 then 1 else if p.l ≤ o / 64 then 2 else if w = true ∧ p.a ≠ 2 then 3 else 0
end Go.Proofs.YthpnddgfgpacpaaGreat
/-
  A region that draws its order, whose operations are quiet in a class of worlds, but for the last ones, each of which waits for all before it (a literal of a slice that is built and assigned at the end): walked once, in the order of the text, the last operations behind it in every world of the class.
-/
namespace Go.Proofs.YthpnddgfgpacpaaGreat
open Go

section
variable {P : Program} {ops : Array Oper} {md : Region.Mode} {C : World → Prop}

def wpAnyT (P : Program) (md : Region.Mode) (ops : Array Oper) (C : World → Prop) (n : Nat) (L : Array Bool → Act → Prop) : Nat → Array Bool → Act → Prop
  | 0, listed, a => L listed a
  | f + 1, listed, a =>
    Region.ready md ops listed ≠ [] ∧ ∀ i ∈ Region.ready md ops listed, i < n ∧ qOp P ops C i (wpAnyT P md ops C n L f (listed.setIfInBounds i true)) a

theorem wpAny_of_headT {n g : Nat} {L : Array Bool → Act → Prop} {Q' : Exit → Act → World → Prop} (hL : ∀ listed a w, C w → L listed a → wpAny P md ops Q' g listed a w) :
    ∀ (f : Nat) (listed : Array Bool) (a : Act) (w : World), C w → wpAnyT P md ops C n L f listed a → wpAny P md ops Q' (f + g) listed a w
  | 0, listed, a, w, hw, h => by rw [Nat.zero_add]; exact hL _ _ _ hw h
  | f + 1, listed, a, w, hw, h => by
    rw [show f + 1 + g = (f + g) + 1 by omega]
    exact ⟨fun h0 => absurd h0 h.1, fun i hi => wpOp_of_qOp hw (fun a' w' hw' h' => wpAny_of_headT hL f _ a' w' hw' h') (h.2 i hi).2⟩

theorem wpAnyT_first {n i : Nat} {oi : Oper} {v : Value} {L : Array Bool → Act → Prop} (hi : ops[i]? = some oi) (hsel : ∀ (j : Nat) (o : Oper) cs b, ops[j]? = some o → o.op ≠ .select cs b)
    (hs : Region.sinkB md ops n = true) (hc : Region.chainB md ops n = true) (hn : n < ops.size) (hin : i < n)
    (hdone : ∀ listed a, L listed a → ∀ j ∈ Region.ready md ops listed, n ≤ j) :
    ∀ (f : Nat) (listed : Array Bool) (a : Act), HeadInv md ops n listed →
      (∀ j oj, ops[j]? = some oj → j ≠ i → listed.getD j true = false → (∀ e ∈ oj.after, Region.binds md e = true → e.on ≠ i) → oi.apart ops oj = true) →
      i ∈ Region.ready md ops listed → YieldsIn P ops C oi v a →
      wpAnyT P md ops C n L f (listed.setIfInBounds i true) (a.put oi.dst v) → wpAnyT P md ops C n L (f + 1) listed a := by
  intro f
  induction f with
  | zero =>
    intro listed a inv _ hr hy H
    have hun := (mem_ready.1 hr).1
    refine ⟨fun h => (by rw [h] at hr; cases hr), fun j hj => ?_⟩
    have hjn : j < n := by
      rcases Nat.lt_or_ge j n with h | h
      · exact h
      · exact absurd hj (tail_waits hs hc hn inv _ i rfl hin hun j h)
    refine ⟨hjn, ?_⟩
    by_cases hji : j = i
    · subst hji; exact hy.qOp hi H
    · have := hdone _ _ H j (ready_mono hj hji)
      omega
  | succ f ih =>
    intro listed a inv hfree hr hy H
    have hun := (mem_ready.1 hr).1
    refine ⟨fun h => (by rw [h] at hr; cases hr), fun j hj => ?_⟩
    have hjn : j < n := by
      rcases Nat.lt_or_ge j n with h | h
      · exact h
      · exact absurd hj (tail_waits hs hc hn inv _ i rfl hin hun j h)
    refine ⟨hjn, ?_⟩
    by_cases hji : j = i
    · subst hji; exact hy.qOp hi H
    · have h1 := (H.2 j (ready_mono hj hji)).2
      obtain ⟨hjun, oj, hoj, hall⟩ := mem_ready.1 hj
      have hnot : ∀ e ∈ oj.after, Region.binds md e = true → e.on ≠ i := fun e he hb heq => by
        have h1 := hall e he hb
        rw [heq, getD_both hun] at h1
        cases h1
      have h2 := qOp_put hoj (hfree j oj hoj hji hjun hnot) (fun cs b => hsel i oi cs b hi) (fun cs b => hsel j oj cs b hoj) hy h1
      have hfree' : ∀ k ok, ops[k]? = some ok → k ≠ i → (listed.setIfInBounds j true).getD k true = false →
          (∀ e ∈ ok.after, Region.binds md e = true → e.on ≠ i) → oi.apart ops ok = true := fun k ok hk hki hun hno => by
        refine hfree k ok hk hki ?_ hno
        by_cases hjk : j = k
        · subst hjk; exact hjun
        · rw [getD_set_ne true hjk] at hun; exact hun
      refine qOp_mono (fun a' h3 => ih (listed.setIfInBounds j true) a' (inv.set hj hjn) hfree' (ready_mono hr (Ne.symm hji)) h3.1 ?_) h2
      rw [Array.setIfInBounds_comm _ _ hji]
      exact h3.2

theorem wpAnyT_lex {n g : Nat} {Lq : Act → Prop} (hsel : Region.noSelect ops = true) (hs : Region.sinkB md ops n = true) (hc : Region.chainB md ops n = true) (hn : n < ops.size) :
    ∀ (l : List Oper) (k : Nat) (listed : Array Bool) (a : Act), (∀ j, j < l.length → l[j]? = ops[k + j]?) → k + l.length = n → HeadInv md ops n listed →
    Region.lexHead md ops g l.length k listed = true → wpQuiet P ops C Lq l a →
    wpAnyT P md ops C n (fun listed' a' => Region.seqB md ops g n listed' = true ∧ Lq a') l.length listed a
  | [], k, listed, a, _, hk, _, hB, h => by
    have : k = n := by simpa using hk
    subst this
    exact ⟨by simpa [Region.lexHead] using hB, h⟩
  | o :: l, k, listed, a, hl, hk, inv, hB, h => by
    have h0 : ops[k]? = some o := by simpa using (hl 0 (by simp)).symm
    simp only [List.length_cons, Region.lexHead, Bool.and_eq_true] at hB
    obtain ⟨⟨hr, hf⟩, hB'⟩ := hB
    have hkn : k < n := by simp only [List.length_cons] at hk; omega
    have hr' : k ∈ Region.ready md ops listed := by simpa using hr
    have hst : qOp P ops C k (wpQuiet P ops C Lq l) a := by unfold qOp; simp only [h0]; exact h
    obtain ⟨v, hy, hK⟩ := yieldsIn_of_qOp h0 hst
    exact wpAnyT_first h0 (Region.noSelect_spec hsel) hs hc hn hkn (fun listed' a' hL => seqB_ready hL.1) l.length listed a inv (Region.free_spec h0 hf) hr' hy
      (wpAnyT_lex hsel hs hc hn l (k + 1) _ _ (fun j hj => by have := hl (j + 1) (by simp; omega); simpa [Nat.add_assoc, Nat.add_comm 1 j] using this) (by simp only [List.length_cons] at hk; omega) (inv.set hr' hkn) hB' hK)

theorem region_class_tail {id : Nat} {Q : Exit → Act → World → Prop} {a : Act} {w : World} {l : List Oper} (C : World → Prop) (n : Nat) (hm : P.follows .mixedOrders = true) (hB : Region.lexTailB .any l.toArray n = true) (hC : C w.drew)
    (h : wpQuiet P l.toArray C (fun a' => ∀ w', C w' → wpList P l.toArray Q (l.drop n) a' w') (l.take n) a) : (Code.region id l.toArray true).wp P Q a w := by
  simp only [Region.lexTailB, Bool.and_eq_true, decide_eq_true_eq] at hB
  obtain ⟨⟨⟨⟨hsel, hn⟩, hs⟩, hc⟩, hlex⟩ := hB
  have hn' : n < l.length := by simpa using hn
  have htl : (l.take n).length = n := by simp; omega
  have hdl : (l.drop n).length = l.toArray.size - n := by simp
  have inv0 : HeadInv .any l.toArray n (Array.replicate l.toArray.size false) :=
    ⟨by simp, fun j oj _ hl => (by rw [getD_replicate_false] at hl; cases hl), fun t _ ht => getD_in (by simpa using ht) (getD_replicate_false _ _)⟩
  have H := wpAnyT_lex (md := .any) (C := C) (g := l.toArray.size - n) hsel hs hc hn (l.take n) 0 _ a (fun j hj => by
    have hj' : j < n := by rw [htl] at hj; exact hj
    simp [hj']) (by simpa using htl) inv0 (by rw [htl]; exact hlex) h
  refine wp_region_any hm ?_
  have := wpAny_of_headT (Q' := Q) (g := l.toArray.size - n) (fun listed a' w' hw' hL => by
    have := wpAny_of_seq (md := .any) (Q' := Q) (l.drop n) n listed a' w' (fun j => by simp [List.getElem?_drop]) (by rw [hdl]; exact hL.1) (hL.2 w' hw')
    rwa [hdl] at this) _ _ _ _ hC H
  rw [htl, show n + (l.toArray.size - n) = l.toArray.size by omega] at this
  exact this

end
end Go.Proofs.YthpnddgfgpacpaaGreat
/-
  Translate of the reference of package mmu. No condition but that the pages are sixteen.
-/
namespace Go.Proofs.YthpnddgfgpacpaaGreat
open Go.RowKit
set_option linter.unusedSimpArgs false
set_option linter.unusedVariables false
set_option maxHeartbeats 1000000
set_option maxRecDepth 100000
attribute [local irreducible] wpQuiet

theorem zero_unit (w : World) : (zeroValue 32).run Tryz.prog w = .ok (.agg Un.z.L.toArray) w := by kernel_rfl
theorem agg_unit (w : World) : (isAgg 32).run Tryz.prog w = .ok true w := by kernel_rfl
theorem size_unit (w : World) : (sizeOf 32).run Tryz.prog w = .ok 67 w := by kernel_rfl
/-- Two boxes: a unit that came in, a unit that goes out. -/
structure Two (B C : Nat) (u v : Un) (w0 w : World) : Prop where
  b : Blk 32 w B u.L
  c : Blk 32 w C v.L
  below : Below w0.heap.size w0 w
theorem Two.put (u : Un) (w : World) : Two w.heap.size (w.heap.size + 1) u Un.z w ((w.alloc (.cells u.L.toArray 32)).alloc (.cells Un.z.L.toArray 32)) := by
  have e : (w.alloc (.cells u.L.toArray 32)).heap.size = w.heap.size + 1 := by simp
  have h := Blk.new 32 (w.alloc (.cells u.L.toArray 32)) Un.z.L
  rw [e] at h
  exact ⟨(Blk.new _ w u.L).alloc _, h, ((Below.refl _ _).alloc (Nat.le_refl _) _).alloc (by simp) _⟩
theorem Two.step {B C : Nat} {u v : Un} {w0 w w' : World} (h : Two B C u v w0 w) (hb : Below w.heap.size w w') : Two B C u v w0 w' := ⟨h.b.step hb, h.c.step hb, h.below.trans (hb.mono h.below.size)⟩
theorem Two.drew {B C : Nat} {u v : Un} {w0 w : World} (h : Two B C u v w0 w) : Two B C u v w0 w.drew := ⟨h.b, h.c, h.below.drew⟩
theorem Two.out {B C : Nat} {u v : Un} {w0 w : World} (h : Two B C u v w0 w) (hu : u.ok) (hv : v.ok) (hn : B ≠ C) (hC : w0.heap.size ≤ C) :
    (loadCells ⟨B, 0, none⟩ 67).run Tryz.prog w = .ok u.L.toArray w ∧ ∃ W, (storeCells ⟨C, 0, none⟩ u.L).run Tryz.prog w = .ok () W ∧ Two B C u u w0 W ∧ (loadVar 32 ⟨C, 0, none⟩).run Tryz.prog W = .ok (.agg u.L.toArray) W := by
  refine ⟨h.b.load (Un.len hu), ?_⟩
  obtain ⟨W, h1, h2, h3, _, h5⟩ := h.c.store (P := Tryz.prog) (cs' := u.L) (by rw [Un.len hu, Un.len hv]) (Un.one u)
  exact ⟨W, h1, ⟨h5 _ _ _ hn h.b, h2, h3 _ _ hC h.below⟩, h2.loadVar (Un.len hu) agg_unit size_unit⟩
theorem Un.z_ok : Un.z.ok := rfl
theorem Un.zlen : Un.z.L.length = 67 := rfl

theorem Un.cells {u : Un} {m p : Nat} {g : Pg} (hg : u.pg[8 * m + p]? = some g) :
    u.L[1 + m * 32 + p * 4]? = some (.int .i64 g.b) ∧ u.L[1 + m * 32 + p * 4 + 1]? = some (.int .i64 g.l) ∧ u.L[1 + m * 32 + p * 4 + 2]? = some (.int .i64 g.a) ∧ u.L[1 + m * 32 + p * 4 + 3]? = some (.bool g.r) := by
  have e : ∀ j, 1 + m * 32 + p * 4 + j = 1 + (4 * (8 * m + p) + j) := fun j => by omega
  refine ⟨?_, ?_, ?_, ?_⟩
  · have := Un.page hg 0 (by decide); rw [← e] at this; exact this
  · have := Un.page hg 1 (by decide); rw [← e] at this; exact this
  · have := Un.page hg 2 (by decide); rw [← e] at this; exact this
  · have := Un.page hg 3 (by decide); rw [← e] at this; exact this
theorem Two.page {B C m p : Nat} {u v : Un} {w0 w : World} {g : Pg} (h : Two B C u v w0 w) (hg : u.pg[8 * m + p]? = some g) :
    w.cell? ⟨B, 1 + m * 32 + p * 4, none⟩ = some (.int .i64 g.b) ∧ w.cell? ⟨B, 1 + m * 32 + p * 4 + 1, none⟩ = some (.int .i64 g.l) ∧ w.cell? ⟨B, 1 + m * 32 + p * 4 + 2, none⟩ = some (.int .i64 g.a) ∧ w.cell? ⟨B, 1 + m * 32 + p * 4 + 3, none⟩ = some (.bool g.r) := by
  obtain ⟨q0, q1, q2, q3⟩ := Un.cells hg
  exact ⟨h.b.cell q0, h.b.cell q1, h.b.cell q2, h.b.cell q3⟩
/-- The unit in which a page is another one. -/
def Un.withP (u : Un) (k : Nat) (g : Pg) : Un := { u with pg := u.pg.set k g }
theorem Un.withP_ok {u : Un} (h : u.ok) (k : Nat) (g : Pg) : (u.withP k g).ok := by unfold Un.ok Un.withP at *; simpa using h
theorem Un.withP_at {u : Un} {k : Nat} {g g' : Pg} (hg : u.pg[k]? = some g) : (u.withP k g').pg[k]? = some g' := by
  have hk := (List.getElem?_eq_some_iff.1 hg).1
  simp [Un.withP, hk]
theorem Two.c65 {B C : Nat} {u v : Un} {w0 w : World} (h : Two B C u v w0 w) (hu : u.ok) : w.cell? ⟨B, 65, none⟩ = some (.int .i64 u.st) := h.b.cell (Un.at65 hu)
theorem Two.c66 {B C : Nat} {u v : Un} {w0 w : World} (h : Two B C u v w0 w) (hu : u.ok) : w.cell? ⟨B, 66, none⟩ = some (.int .i64 u.ad) := h.b.cell (Un.at66 hu)
theorem Two.fz {B C : Nat} {u v : Un} {w0 w : World} (h : Two B C u v w0 w) (k : Nat) : w.frozen? ⟨B, k, none⟩ = false := h.b.frozen k

end Go.Proofs.YthpnddgfgpacpaaGreat
/-
  page, Read and Write of the reference of package mmu. No condition but that the pages are sixteen.
-/
namespace Go.Proofs.YthpnddgfgpacpaaGreat
open Go.RowKit
set_option linter.unusedSimpArgs false
set_option linter.unusedVariables false
set_option maxHeartbeats 1000000
set_option maxRecDepth 100000
attribute [local irreducible] wpQuiet

/-- Is there a page's register at an offset? -/
def isReg (n : Int) : Bool := decide (16 ≤ n) && (decide (n < 80) && decide (n % 2 = 0))
/-- One box. -/
structure One (B : Nat) (u : Un) (w0 w : World) : Prop where
  b : Blk 32 w B u.L
  below : Below w0.heap.size w0 w
theorem One.put (u : Un) (w : World) : One w.heap.size u w (w.alloc (.cells u.L.toArray 32)) := ⟨Blk.new _ w u.L, (Below.refl _ _).alloc (Nat.le_refl _) _⟩
theorem One.step {B : Nat} {u : Un} {w0 w w' : World} (h : One B u w0 w) (hb : Below w.heap.size w w') : One B u w0 w' := ⟨h.b.step hb, h.below.trans (hb.mono h.below.size)⟩
theorem One.page {B m p : Nat} {u : Un} {w0 w : World} {g : Pg} (h : One B u w0 w) (hg : u.pg[8 * m + p]? = some g) :
    w.cell? ⟨B, 1 + m * 32 + p * 4, none⟩ = some (.int .i64 g.b) ∧ w.cell? ⟨B, 1 + m * 32 + p * 4 + 1, none⟩ = some (.int .i64 g.l) ∧ w.cell? ⟨B, 1 + m * 32 + p * 4 + 2, none⟩ = some (.int .i64 g.a) ∧ w.cell? ⟨B, 1 + m * 32 + p * 4 + 3, none⟩ = some (.bool g.r) := by
  obtain ⟨q0, q1, q2, q3⟩ := Un.cells hg
  exact ⟨h.b.cell q0, h.b.cell q1, h.b.cell q2, h.b.cell q3⟩
/-- The register at an offset. -/
def statV (u : Un) : Int := if u.on = true then 2 * u.st + 1 else 2 * u.st
def descV (g : Pg) : Int := if g.r = true then g.l + 256 * g.a + 32768 else g.l + 256 * g.a

end Go.Proofs.YthpnddgfgpacpaaGreat
