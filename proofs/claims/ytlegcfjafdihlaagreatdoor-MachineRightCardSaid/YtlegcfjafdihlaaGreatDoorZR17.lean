import Derived.RangeFuncNested
import Derived.RangeFuncBound
import Derived.RangeFuncCalls
import Derived.RangeFuncLeaves
import Derived.Shelf.Abstract
import Derived.Shelf.RegionOpen
import Derived.WalkKit
import Derived.OwnWalkIn
import Derived.TacticsInMore
import Derived.LoopNIn
import Derived.LoopIn
import Derived.Test.YtlegcfjafdihlaaGreatDoorZR01
import Derived.Test.YtlegcfjafdihlaaGreatDoorZR02
import Derived.Test.YtlegcfjafdihlaaGreatDoorZR15
/-
  The iterator over the devices of a machine: its contract. Condition: at most 2^40 lines.
-/
namespace Go.Proofs.YtlegcfjafdihlaaGreatDoor
open Go.RowKit Go.Shelf
set_option linter.unusedSimpArgs false
set_option linter.unusedVariables false
set_option maxHeartbeats 4000000
set_option maxRecDepth 100000
attribute [local go_sem] Oper.semAt_some

/-- The first register of the device at a place of the list; the device itself. -/
def devB : Nat → Int
  | 0 => 0
  | 1 => 256
  | 2 => 768
  | 3 => 800
  | k + 4 => 512 + 8 * (k : Int)
def devV : Nat → Value
  | 0 => .iface 178 (.agg #[])
  | 1 => .iface 179 (.agg #[])
  | 2 => .iface 180 (.agg #[])
  | 3 => .iface 181 (.agg #[])
  | k + 4 => .iface 182 (.int .i64 k)
/-- What the loops' bodies keep: the block of the number of lines. -/
def KpB (B : Nat) (W W' : World) : Prop := W'.heap[B]? = W.heap[B]?
theorem KpB.trans {B : Nat} {a b c : World} (h : KpB B a b) (k : KpB B b c) : KpB B a c := Eq.trans k h
theorem KpB.cell {B : Nat} {W W' : World} {v : Value} (h : KpB B W W') (hc : W.cell? ⟨B, 0, none⟩ = some v) : W'.cell? ⟨B, 0, none⟩ = some v := (World.cell?_of_block (w := W) (show W'.heap[(⟨B, 0, none⟩ : Addr).block]? = W.heap[(⟨B, 0, none⟩ : Addr).block]? from h)).trans hc
def encD (n : Nat) (x : Fin (n + 4)) : Array Value := #[.int .i64 (devB x.val), devV x.val]
def SDev (n : Nat) (xs : List (Fin (n + 4))) : Prop := xs.map Fin.val = List.range (n + 4)
def PDev (n k : Nat) (pre : List (Fin (n + 4))) : Prop := pre.map Fin.val = List.range k
theorem PDev.nil (n : Nat) : PDev n 0 [] := rfl
theorem PDev.snoc {n k : Nat} {pre : List (Fin (n + 4))} (h : PDev n k pre) (hk : k < n + 4) : PDev n (k + 1) (pre ++ [(⟨k, hk⟩ : Fin (n + 4))]) := by
  unfold PDev at *
  rw [List.map_append, h, List.range_succ]; rfl
theorem PDev.len {n k : Nat} {pre : List (Fin (n + 4))} (h : PDev n k pre) : pre.length = k := by
  have := congrArg List.length (show pre.map Fin.val = List.range k from h)
  rwa [List.length_map, List.length_range] at this
theorem dev_stops (m : Nat) (hm : 1 ≤ m) (B n : Nat) (hn : n ≤ 1099511627776) (w : World) (hc : w.cell? ⟨B, 0, none⟩ = some (.int .i64 n)) (hB : B < w.heap.size) :
    SeqStopsK Fence.wide m Tryz.prog 131 #[.pointer (some ⟨B, 0, none⟩)] (encD n) (KpB B) (SDev n) (fun _ => True) (n + 4) w := fun l J Jx W hW hJ hJx hY h0 => by
  replace hc : W.cell? ⟨B, 0, none⟩ = some (.int .i64 n) := (World.cell?_of_block (w := w) (hW.block B hB)).trans hc
  refine callsIn_of_wp Tryz.func131 rfl trivial ?_ rfl
  simp only [Tryz.ntmps131, List.size_toArray, List.length_cons, List.length_nil, Nat.reduceAdd, Nat.reduceSub, Array.replicate_succ, Array.replicate_zero, List.push_toArray, List.append_toArray, List.nil_append, List.cons_append]
  obtain ⟨f0, t0, a0, b0, hy0, hR0⟩ := hY [] ⟨0, by omega⟩ W h0 (by simp)
  dsimp only [encD, devB, devV] at hy0
  gi_wp2
  refine hR0.mono ?_
  clear hR0 hy0
  rintro e W1 (⟨rfl, hJ1, hk1⟩ | ⟨rfl, hx1⟩)
  rotate_left
  · gi_wp2
    refine ⟨fun _ h => (by cases h), ?_⟩
    gi_wp2
    refine ⟨fun _ h => (by cases h), ?_⟩
    gi_wp2
    refine ⟨fun _ h => (by cases h), ?_⟩
    gi_wp2
    refine bodyPost_ret (results_none rfl _ _ _) rfl ?_
    exact ⟨⟨_, rfl⟩, .inr ⟨_, trivial, hx1⟩⟩
  replace hc := hk1.cell hc
  obtain ⟨f1, t1, a1, b1, hy1, hR1⟩ := hY ([] ++ [(⟨0, by omega⟩ : Fin (n + 4))]) ⟨1, by omega⟩ W1 hJ1 (by simp)
  dsimp only [encD, devB, devV] at hy1
  gi_wp2
  refine hR1.mono ?_
  clear hR1 hy1
  rintro e W2 (⟨rfl, hJ2, hk2⟩ | ⟨rfl, hx2⟩)
  rotate_left
  · gi_wp2
    refine ⟨fun _ h => (by cases h), ?_⟩
    gi_wp2
    refine ⟨fun _ h => (by cases h), ?_⟩
    gi_wp2
    refine bodyPost_ret (results_none rfl _ _ _) rfl ?_
    exact ⟨⟨_, rfl⟩, .inr ⟨_, trivial, hx2⟩⟩
  replace hc := hk2.cell hc
  obtain ⟨f2, t2, a2, b2, hy2, hR2⟩ := hY (([] ++ [(⟨0, by omega⟩ : Fin (n + 4))]) ++ [(⟨1, by omega⟩ : Fin (n + 4))]) ⟨2, by omega⟩ W2 hJ2 (by simp)
  dsimp only [encD, devB, devV] at hy2
  gi_wp2
  refine hR2.mono ?_
  clear hR2 hy2
  rintro e W3 (⟨rfl, hJ3, hk3⟩ | ⟨rfl, hx3⟩)
  rotate_left
  · gi_wp2
    refine ⟨fun _ h => (by cases h), ?_⟩
    gi_wp2
    refine bodyPost_ret (results_none rfl _ _ _) rfl ?_
    exact ⟨⟨_, rfl⟩, .inr ⟨_, trivial, hx3⟩⟩
  replace hc := hk3.cell hc
  obtain ⟨f3, t3, a3, b3, hy3, hR3⟩ := hY ((([] ++ [(⟨0, by omega⟩ : Fin (n + 4))]) ++ [(⟨1, by omega⟩ : Fin (n + 4))]) ++ [(⟨2, by omega⟩ : Fin (n + 4))]) ⟨3, by omega⟩ W3 hJ3 (by simp)
  dsimp only [encD, devB, devV] at hy3
  gi_wp2
  refine hR3.mono ?_
  clear hR3 hy3
  rintro e W4 (⟨rfl, hJ4, hk4⟩ | ⟨rfl, hx4⟩)
  rotate_left
  · gi_wp2
    refine bodyPost_ret (results_none rfl _ _ _) rfl ?_
    exact ⟨⟨_, rfl⟩, .inr ⟨_, trivial, hx4⟩⟩
  replace hc := hk4.cell hc
  obtain ⟨P4, hP4⟩ : ∃ P4, P4 = (((([] ++ [(⟨0, by omega⟩ : Fin (n + 4))]) ++ [(⟨1, by omega⟩ : Fin (n + 4))]) ++ [(⟨2, by omega⟩ : Fin (n + 4))]) ++ [(⟨3, by omega⟩ : Fin (n + 4))]) := ⟨_, rfl⟩
  have hD4 : PDev n 4 P4 := by rw [hP4]; exact ((((PDev.nil n).snoc (by omega)).snoc (by omega)).snoc (by omega)).snoc (by omega)
  rw [← hP4] at hJ4
  clear hP4 hJ1 hJ2 hJ3 hk1 hk2 hk3 hk4 h0
  gi_wp2
  gi_loopw [31] (fun iv wr => ∃ (i : Nat) (pre : List (Fin (n + 4))), i ≤ n ∧ iv = .int .i64 i ∧ PDev n (i + 4) pre ∧ J pre wr) (fun iv _ => n - (intOf iv).toNat)
  case atStart => exact ⟨0, P4, Nat.zero_le _, rfl, hD4, hJ4⟩
  case round =>
    obtain ⟨i, pre, hi, rfl, hD, hJi⟩ := hrel
    by_cases hlt : i < n
    · have i1 : (i : Int) < (n : Int) := by omega
      have w1 : IntKind.i64.wrap (8 * (i : Int)) = 8 * (i : Int) := by rw [wrap_i64]; unfold wrap64; omega
      have w2 : IntKind.i64.wrap (512 + 8 * (i : Int)) = 512 + 8 * (i : Int) := by rw [wrap_i64]; unfold wrap64; omega
      have w3 : IntKind.i64.wrap ((i : Int) + 1) = ((i + 1 : Nat) : Int) := by rw [wrap_i64]; unfold wrap64; omega
      obtain ⟨fn, tn, an, bn, hy, hR⟩ := hY pre ⟨i + 4, by omega⟩ wr hJi (by rw [hD.len]; omega)
      dsimp only [encD, devB, devV] at hy
      gi_wp2
      refine hR.mono ?_
      clear hR hy
      rintro e W6 (⟨rfl, hJ6, hk6⟩ | ⟨rfl, hx6⟩)
      · gi_wp2
        exact ⟨⟨i + 1, _, by omega, rfl, hD.snoc (by omega), hJ6⟩, by simp [intOf]; omega⟩
      · gi_wp2
        refine bodyPost_ret (results_none rfl _ _ _) rfl ?_
        exact ⟨⟨_, rfl⟩, .inr ⟨_, trivial, hx6⟩⟩
    · have i1 : ¬ (i : Int) < (n : Int) := by omega
      obtain rfl : i = n := by omega
      gi_wp2
      go_end0
      exact ⟨⟨_, rfl⟩, .inl ⟨pre, hD, hJi⟩⟩
end Go.Proofs.YtlegcfjafdihlaaGreatDoor
/-
  The devices of a machine, plain: what each does by itself; all of them, one after the other, do what the bus does. No condition.
-/
namespace Go.Proofs.YtlegcfjafdihlaaGreatDoor
open Go.RowKit
set_option linter.unusedSimpArgs false
set_option linter.unusedVariables false
set_option maxHeartbeats 4000000
set_option maxRecDepth 100000

def Ma.line (A : Ma) (k : Nat) : Ln := A.L.getD k Ln.new
def Ma.dRight (A : Ma) : Nat → Bool
  | 0 => A.U.right
  | 1 => A.k.right
  | 2 => A.K.right
  | 3 => A.T.right
  | k + 4 => (A.line k).right
section
variable {A : Ma}
theorem line_right (h : A.right = true) {k : Nat} (hk : k < A.L.length) : (A.line k).right = true := by
  unfold Ma.line
  rw [List.getD_eq_getElem?_getD, List.getElem?_eq_getElem hk]
  exact (Ma.parts h).2.1 _ (List.getElem_mem hk)
end
theorem right_all (A : Ma) (hl : A.L.length ≤ 4) (hm : rightP A.M A.B = true) : A.right = true ↔ ∀ k, k < A.L.length + 4 → A.dRight k = true := by
  constructor
  · intro h k hk
    obtain ⟨h1, h2, h3, h4, h5, h6, h7⟩ := Ma.parts h
    unfold Ma.dRight
    split
    · exact h4
    · exact h5
    · exact h6
    · exact h7
    · exact line_right h (by omega)
  · intro h
    refine Ma.mk_right hl (fun x hx => ?_) hm (h 0 (by omega)) (h 1 (by omega)) (h 2 (by omega)) (h 3 (by omega))
    obtain ⟨j, hj⟩ := List.mem_iff_getElem?.1 hx
    have hlt := (List.getElem?_eq_some_iff.1 hj).1
    have h0 := h (j + 4) (by omega)
    unfold Ma.dRight Ma.line at h0
    simp only [List.getD_eq_getElem?_getD, hj] at h0
    exact h0
end Go.Proofs.YtlegcfjafdihlaaGreatDoor
/-
  A machine that a loop over its devices changes: what lies in memory, and what a step of one device keeps. No condition.
-/
namespace Go.Proofs.YtlegcfjafdihlaaGreatDoor
open Go.RowKit
set_option linter.unusedSimpArgs false
set_option linter.unusedVariables false
set_option maxHeartbeats 4000000
set_option maxRecDepth 100000
attribute [local irreducible] wpQuiet

/-- No cells lie there. -/
def NoCells (w : World) (b : Nat) : Prop := ∃ o : Obj, w.heap[b]? = some o ∧ o.isCells = false
/-- What is read reads so whatever becomes of blocks that are no cells. -/
theorem Sv.cells {X : Nat → Prop} {w : World} {v : Value} {n : Nat} {cs : List Value} (h : Sv X w v n cs) : Sv (fun b => X b ∨ NoCells w b) w v n cs := fun w2 h2 => by
  classical
  -- the world w2 with w's own blocks that are no cells put back
  let F : Nat → Obj := fun b => if NoCells w b then (w.heap[b]?).getD (.cells #[] 0) else (w2.heap[b]?).getD (.cells #[] 0)
  let w3 : World := { w2 with heap := Array.ofFn (n := max w.heap.size w2.heap.size) fun i => F i.val }
  have hH : ∀ b, b < max w.heap.size w2.heap.size → w3.heap[b]? = some (F b) := fun b hb => by
    show (Array.ofFn (n := max w.heap.size w2.heap.size) fun i => F i.val)[b]? = _
    rw [Array.getElem?_ofFn, dif_pos hb]
  have hH2 : ∀ b, max w.heap.size w2.heap.size ≤ b → w3.heap[b]? = none := fun b hb => by
    show (Array.ofFn (n := max w.heap.size w2.heap.size) fun i => F i.val)[b]? = _
    rw [Array.getElem?_ofFn, dif_neg (by omega)]
  have hk : ∀ b, b < w.heap.size → ¬ X b → w3.heap[b]? = w.heap[b]? := fun b hb hx => by
    rw [hH b (by omega)]
    by_cases hn : NoCells w b
    · simp only [F, if_pos hn]
      rw [Array.getElem?_eq_getElem hb]; rfl
    · simp only [F, if_neg hn]
      rw [h2 b hb (fun h => h.elim hx hn), Array.getElem?_eq_getElem hb]; rfl
  obtain ⟨⟨A, c, hv, hn, hc⟩, hz⟩ := h w3 hk
  refine ⟨⟨A, c, hv, hn, fun j u hu => ?_⟩, hz⟩
  obtain ⟨a, ha, h1, h3⟩ := hc j u hu
  obtain ⟨o, ho, hcell⟩ := cells_of_cell h1
  have hlt : (a.add j).block < max w.heap.size w2.heap.size := by
    rcases Nat.lt_or_ge (a.add j).block (max w.heap.size w2.heap.size) with q | q
    · exact q
    · rw [hH2 _ q] at ho; cases ho
  have hF := hH _ hlt
  have hnc : ¬ NoCells w (a.add j).block := fun hnc => by
    obtain ⟨o', ho', hc'⟩ := hnc
    rw [hF] at ho
    have e : F (a.add j).block = o' := by simp only [F, if_pos (show NoCells w (a.add j).block from ⟨o', ho', hc'⟩)]; rw [ho']; rfl
    rw [e] at ho; cases ho; rw [hc'] at hcell; cases hcell
  have e2 : F (a.add j).block = (w2.heap[(a.add j).block]?).getD (.cells #[] 0) := by simp only [F, if_neg hnc]
  rcases Nat.lt_or_ge (a.add j).block w2.heap.size with q | q
  · have e3 : w3.heap[(a.add j).block]? = w2.heap[(a.add j).block]? := by
      rw [hF, e2, Array.getElem?_eq_getElem q]; rfl
    exact ⟨a, ha, (World.cell?_of_block (w := w2) e3).symm.trans h1, q⟩
  · rw [Array.getElem?_eq_none q] at e2
    unfold World.cell? at h1
    rw [hF, e2] at h1
    simp at h1
/-- What is read abides new blocks and the turn of a block that is no cells. -/
theorem Sv.grown {X : Nat → Prop} {w w' : World} {v : Value} {n : Nat} {cs : List Value} {row : Option Nat} (h : Sv X w v n cs) (hg : w.grownBy w' row) (hr : ∀ r, row = some r → NoCells w r) : Sv X w' v n cs :=
  h.cells.off (fun b hb hx => hg.block b hb (fun e => hx (.inr (hr b e.symm)))) (fun b _ hx => .inl hx)
theorem Bag.grown {l : List (Nat × TypeId × List Value)} {w0 w w' : World} {row : Option Nat} (h : Bag l w0 w) (hg : w.grownBy w' row) (hr : ∀ r, row = some r → w0.heap.size ≤ r ∧ NoCells w r) : Bag l w0 w' := by
  refine ⟨fun B t cs hm => ?_, h.below.grown hg h.below.size (fun k e => (hr k e).1), h.lo, h.dis⟩
  have hb := h.all B t cs hm
  refine (hg.block B hb.lt (fun e => ?_)).trans hb
  obtain ⟨o, ho, hc⟩ := (hr B e.symm).2
  rw [show w.heap[B]? = _ from hb] at ho
  cases ho; cases hc
theorem blk_grown {w w' : World} {B : Nat} {t : TypeId} {cs : List Value} {row : Option Nat} (hb : Blk t w B cs) (hg : w.grownBy w' row) (hr : ∀ r, row = some r → NoCells w r) : Blk t w' B cs := by
  refine (hg.block B hb.lt (fun e => ?_)).trans hb
  obtain ⟨o, ho, hc⟩ := hr B e.symm
  rw [show w.heap[B]? = _ from hb] at ho
  cases ho; cases hc
/-- The blocks that a device may write: the machine's, its lines'; and those of X. -/
def XY (X : Nat → Prop) (B g : Nat) (b : Nat) : Prop := X b ∨ b = B ∨ b = g
/-- The row of lines, which nobody else has: without lines it is nothing. -/
def LRow (w0 w : World) (B g : Nat) (v : Value) (L : List Ln) : Prop := (L = [] ∧ v = .slice none 0 0) ∨ (g ≠ B ∧ w0.heap.size ≤ g ∧ g < w.heap.size ∧ ∃ c J, v = .slice (some ⟨g, 0, none⟩) L.length c ∧ L.length ≤ c ∧ Blk 83 w g (L.flatMap lnL ++ J))
/-- A machine in a box, with lists that nobody else writes. -/
structure DSt (X : Nat → Prop) (w0 : World) (B g : Nat) (w : World) (A : Ma) (vm vb vl vs vd vt : Value) : Prop where
  bag : Bag [(B, 49, A.cells vm vb vl vs vd vt)] w0 w
  m : ItsX (XY X B g) w vm A.M
  b : ItsX (XY X B g) w vb A.B
  s : StsX (XY X B g) w vs A.K.D.S
  d : ItsX (XY X B g) w vd A.K.D.B
  t : StsX (XY X B g) w vt A.T.R
  row : LRow w0 w B g vl A.L
  xl : ∀ b, XY X B g b → b < w.heap.size
/-- What a step keeps: all other blocks. -/
structure Kpt (B g : Nat) (w w' : World) : Prop where
  size : w.heap.size ≤ w'.heap.size
  same : ∀ k, k < w.heap.size → k ≠ B → k ≠ g → w'.heap[k]? = w.heap[k]?
theorem Kpt.refl (B g : Nat) (w : World) : Kpt B g w w := ⟨Nat.le_refl _, fun _ _ _ _ => rfl⟩
theorem Kpt.trans {B g : Nat} {a b c : World} (h : Kpt B g a b) (k : Kpt B g b c) : Kpt B g a c := ⟨Nat.le_trans h.size k.size, fun i hi h1 h2 => (k.same i (Nat.lt_of_lt_of_le hi h.size) h1 h2).trans (h.same i hi h1 h2)⟩
theorem Kpt.step {B g : Nat} {a b c : World} (h : Kpt B g a b) (k : Below b.heap.size b c) : Kpt B g a c := h.trans ⟨k.size, fun i hi _ _ => k.block i hi⟩
theorem size_of_same {w w' : World} {B : Nat} {t : TypeId} {cs : List Value} (hk : ∀ k, k ≠ B → w'.heap[k]? = w.heap[k]?) (hb : Blk t w' B cs) : w.heap.size ≤ w'.heap.size := by
  rcases Nat.lt_or_ge w'.heap.size w.heap.size with q | q
  · exfalso
    have hB := hb.lt
    have h1 := hk w'.heap.size (by omega)
    rw [Array.getElem?_eq_none (Nat.le_refl _), Array.getElem?_eq_getElem q] at h1
    cases h1
  · exact q
theorem Kpt.put {B g : Nat} {a b c : World} {t : TypeId} {cs : List Value} (h : Kpt B g a b) (hk : ∀ k, k ≠ B → c.heap[k]? = b.heap[k]?) (hb : Blk t c B cs) : Kpt B g a c := h.trans ⟨size_of_same hk hb, fun i _ h1 _ => hk i h1⟩
theorem Sv.kb {X : Nat → Prop} {B g : Nat} {w w' : World} {v : Value} {n : Nat} {cs : List Value} (h : Sv (XY X B g) w v n cs) (k : Kpt B g w w') : Sv (XY X B g) w' v n cs := h.off (fun b hb hx => k.same b hb (fun e => hx (.inr (.inl e))) (fun e => hx (.inr (.inr e)))) (fun _ _ h => h)
section
variable {X : Nat → Prop} {w0 w w' : World} {B g : Nat} {A : Ma} {vm vb vl vs vd vt : Value}
theorem LRow.kb {w2 : World} {v : Value} {L : List Ln} (h : LRow w0 w B g v L) (hs : w.heap.size ≤ w2.heap.size) (hb : ∀ cs, Blk 83 w g cs → Blk 83 w2 g cs) : LRow w0 w2 B g v L := by
  rcases h with h | ⟨h1, h2, h3, c, J, h4, h5, h6⟩
  · exact .inl h
  · exact .inr ⟨h1, h2, by omega, c, J, h4, h5, hb _ h6⟩
/-- A step that writes no block. -/
theorem DSt.step (h : DSt X w0 B g w A vm vb vl vs vd vt) (hb : Below w.heap.size w w') : DSt X w0 B g w' A vm vb vl vs vd vt :=
  ⟨h.bag.step hb, Sv.below h.m hb, Sv.below h.b hb, Sv.below h.s hb, Sv.below h.d hb, Sv.below h.t hb, h.row.kb hb.size fun cs q => q.step hb, fun b q => Nat.lt_of_lt_of_le (h.xl b q) hb.size⟩
theorem DSt.grown {row : Option Nat} (h : DSt X w0 B g w A vm vb vl vs vd vt) (hg : w.grownBy w' row) (hr : ∀ r, row = some r → w0.heap.size ≤ r ∧ NoCells w r) : DSt X w0 B g w' A vm vb vl vs vd vt :=
  ⟨h.bag.grown hg hr, Sv.grown h.m hg fun r e => (hr r e).2, Sv.grown h.b hg fun r e => (hr r e).2, Sv.grown h.s hg fun r e => (hr r e).2, Sv.grown h.d hg fun r e => (hr r e).2, Sv.grown h.t hg fun r e => (hr r e).2, h.row.kb hg.size fun cs q => blk_grown q hg fun r e => (hr r e).2, fun b q => Nat.lt_of_lt_of_le (h.xl b q) hg.size⟩
theorem DSt.lo (h : DSt X w0 B g w A vm vb vl vs vd vt) : w0.heap.size ≤ B := h.bag.lo _ (.head _)
theorem DSt.blk (h : DSt X w0 B g w A vm vb vl vs vd vt) : Blk 49 w B (A.cells vm vb vl vs vd vt) := h.bag.all _ _ _ (.head _)
theorem LRow.one {v : Value} {L : List Ln} (h : LRow w0 w B g v L) : v.oneCell' = true := by
  rcases h with ⟨rfl, rfl⟩ | ⟨h1, h2, h3, c, J, rfl, h5, h6⟩ <;> rfl
theorem DSt.o1 (h : DSt X w0 B g w A vm vb vl vs vd vt) : vm.oneCell' = true := rz_one h.m.now
theorem DSt.o2 (h : DSt X w0 B g w A vm vb vl vs vd vt) : vb.oneCell' = true := rz_one h.b.now
theorem DSt.o3 (h : DSt X w0 B g w A vm vb vl vs vd vt) : vl.oneCell' = true := h.row.one
theorem DSt.o4 (h : DSt X w0 B g w A vm vb vl vs vd vt) : vs.oneCell' = true := rz_one h.s.now
theorem DSt.o5 (h : DSt X w0 B g w A vm vb vl vs vd vt) : vd.oneCell' = true := rz_one h.d.now
theorem DSt.o6 (h : DSt X w0 B g w A vm vb vl vs vd vt) : vt.oneCell' = true := rz_one h.t.now
/-- The machine's box is written: the row of lines lies as it lay. -/
theorem LRow.put {t : TypeId} {cs : List Value} {v : Value} {L : List Ln} (h : LRow w0 w B g v L) (hk : ∀ k, k ≠ B → w'.heap[k]? = w.heap[k]?) (hb : Blk t w' B cs) : LRow w0 w' B g v L := by
  rcases h with h | ⟨h1, h2, h3, c, J, h4, h5, h6⟩
  · exact .inl h
  · have h7 : Blk 83 w' g (L.flatMap lnL ++ J) := (hk g h1).trans h6
    exact .inr ⟨h1, h2, h7.lt, c, J, h4, h5, h7⟩
/-- All of a machine's box, behind steps that kept all else. -/
theorem DSt.put {A' : Ma} {vm' vb' vs' vd' vt' : Value} (h : DSt X w0 B g w A vm vb vl vs vd vt) (k : Kpt B g w w') (hg : LRow w0 w' B g vl A'.L) (hbag : Bag [(B, 49, A'.cells vm' vb' vl vs' vd' vt')] w0 w') (hm : ItsX (XY X B g) w' vm' A'.M) (hb : ItsX (XY X B g) w' vb' A'.B) (hs : StsX (XY X B g) w' vs' A'.K.D.S) (hd : ItsX (XY X B g) w' vd' A'.K.D.B) (ht : StsX (XY X B g) w' vt' A'.T.R) : DSt X w0 B g w' A' vm' vb' vl vs' vd' vt' :=
  ⟨hbag, hm, hb, hs, hd, ht, hg, fun b q => Nat.lt_of_lt_of_le (h.xl b q) k.size⟩
end
section
variable {ops : Array Oper} {rest : List Oper} {o : Oper} {a : Act} {w w0 w1 : World} {Q : Exit → Act → World → Prop} {l : List (Nat × TypeId × List Value)} {B k n : Nat} {t T : TypeId} {cs ds cs' : List Value} {x y : Operand}
theorem stk1 {z : Value} (hX : Bag ((B, t, cs) :: l) w0 w) (hsz : ∀ w, (sizeOf T).run Tryz.prog w = .ok 1 w) (he : cs.set k z = cs') (hk : k < cs.length) (h1 : z.oneCell' = true)
    (h : ∀ w2, Bag ((B, t, cs') :: l) w0 w2 → (∀ j, j ≠ B → w2.heap[j]? = w.heap[j]?) → wpList Tryz.prog ops Q rest a w2) (hop : o.op = Op.store T x y := by rfl) (hal : w1 = w := by rfl) (hx : a.eval x = .pointer (some ⟨B, k, none⟩) := by rfl) (hy : a.eval y = z := by rfl) (hdst : o.dst = none := by rfl) (hw : Region.wanted o (yielded ops a.tmps) = true := by rfl) (hz : z.cells = #[z] := by rfl) : wpList Tryz.prog ops Q (o :: rest) a w1 :=
  stc hX hsz (fun w2 a b => h w2 (he ▸ a) b) hop hal hx hy hdst hw hk hz h1
end
end Go.Proofs.YtlegcfjafdihlaaGreatDoor
