import Derived.RangeFuncNested
import Derived.RangeFuncBound
import Derived.RangeFuncCalls
import Derived.RangeFuncLeaves
import Derived.Shelf.Abstract
import Derived.Shelf.RegionOpen
import Derived.WalkKit
import Derived.OwnWalkIn
import Derived.TacticsInMore
import Derived.LoopNIn
import Derived.LoopIn
import Derived.Test.YtlegcfjafdihlaaGreatDoorZC01
import Derived.Test.YtlegcfjafdihlaaGreatDoorZC03
import Derived.Test.YtlegcfjafdihlaaGreatDoorZC15
import Derived.Test.YtlegcfjafdihlaaGreatDoorZC12
import Derived.Test.YtlegcfjafdihlaaGreatDoorZC13
import Derived.Test.YtlegcfjafdihlaaGreatDoorZC08
import Derived.Test.YtlegcfjafdihlaaGreatDoorZC11
import Derived.Test.YtlegcfjafdihlaaGreatDoorZC10
import Derived.Maps.OwnOps
import Derived.Maps.Views
import Derived.Lib.BufferWrite
import Derived.Lib.SliceRun
import Derived.Deep.OwnRows
import Derived.Laws.MakeOwn
import Derived.Laws.CopyOwn
/-
  The iterator over the devices of a machine: its contract. Condition: at most 2^40 lines.
-/
namespace Go.Proofs.YtlegcfjafdihlaaGreatDoor
open Go.RowKit Go.Shelf
set_option linter.unusedSimpArgs false
set_option linter.unusedVariables false
set_option maxHeartbeats 4000000
set_option maxRecDepth 100000
attribute [local go_sem] Oper.semAt_some

/-- What the loops' bodies keep: the block of the number of lines. -/
def KpB (B : Nat) (W W' : World) : Prop := W'.heap[B]? = W.heap[B]?
theorem KpB.trans {B : Nat} {a b c : World} (h : KpB B a b) (k : KpB B b c) : KpB B a c := Eq.trans k h
theorem KpB.cell {B : Nat} {W W' : World} {v : Value} (h : KpB B W W') (hc : W.cell? ⟨B, 0, none⟩ = some v) : W'.cell? ⟨B, 0, none⟩ = some v := (World.cell?_of_block (w := W) (show W'.heap[(⟨B, 0, none⟩ : Addr).block]? = W.heap[(⟨B, 0, none⟩ : Addr).block]? from h)).trans hc
def PDev (n k : Nat) (pre : List (Fin (n + 4))) : Prop := pre.map Fin.val = List.range k
theorem PDev.nil (n : Nat) : PDev n 0 [] := rfl
theorem PDev.len {n k : Nat} {pre : List (Fin (n + 4))} (h : PDev n k pre) : pre.length = k := by
  have := congrArg List.length (show pre.map Fin.val = List.range k from h)
  rwa [List.length_map, List.length_range] at this
end Go.Proofs.YtlegcfjafdihlaaGreatDoor
/-
  The devices of a machine, plain: what each does by itself; all of them, one after the other, do what the bus does. No condition.
-/
namespace Go.Proofs.YtlegcfjafdihlaaGreatDoor
open Go.RowKit
set_option linter.unusedSimpArgs false
set_option linter.unusedVariables false
set_option maxHeartbeats 4000000
set_option maxRecDepth 100000

def Ma.line (A : Ma) (k : Nat) : Ln := A.L.getD k Ln.new
section
variable {A : Ma}
end
end Go.Proofs.YtlegcfjafdihlaaGreatDoor
/-
  A machine that a loop over its devices changes: what lies in memory, and what a step of one device keeps. No condition.
-/
namespace Go.Proofs.YtlegcfjafdihlaaGreatDoor
open Go.RowKit
set_option linter.unusedSimpArgs false
set_option linter.unusedVariables false
set_option maxHeartbeats 4000000
set_option maxRecDepth 100000
attribute [local irreducible] wpQuiet

/-- No cells lie there. -/
def NoCells (w : World) (b : Nat) : Prop := ∃ o : Obj, w.heap[b]? = some o ∧ o.isCells = false
/-- What is read reads so whatever becomes of blocks that are no cells. -/
theorem Sv.cells {X : Nat → Prop} {w : World} {v : Value} {n : Nat} {cs : List Value} (h : Sv X w v n cs) : Sv (fun b => X b ∨ NoCells w b) w v n cs := fun w2 h2 => by
  classical
  -- the world w2 with w's own blocks that are no cells put back
  let F : Nat → Obj := fun b => if NoCells w b then (w.heap[b]?).getD (.cells #[] 0) else (w2.heap[b]?).getD (.cells #[] 0)
  let w3 : World := { w2 with heap := Array.ofFn (n := max w.heap.size w2.heap.size) fun i => F i.val }
  have hH : ∀ b, b < max w.heap.size w2.heap.size → w3.heap[b]? = some (F b) := fun b hb => by
    show (Array.ofFn (n := max w.heap.size w2.heap.size) fun i => F i.val)[b]? = _
    rw [Array.getElem?_ofFn, dif_pos hb]
  have hH2 : ∀ b, max w.heap.size w2.heap.size ≤ b → w3.heap[b]? = none := fun b hb => by
    show (Array.ofFn (n := max w.heap.size w2.heap.size) fun i => F i.val)[b]? = _
    rw [Array.getElem?_ofFn, dif_neg (by omega)]
  have hk : ∀ b, b < w.heap.size → ¬ X b → w3.heap[b]? = w.heap[b]? := fun b hb hx => by
    rw [hH b (by omega)]
    by_cases hn : NoCells w b
    · simp only [F, if_pos hn]
      rw [Array.getElem?_eq_getElem hb]; rfl
    · simp only [F, if_neg hn]
      rw [h2 b hb (fun h => h.elim hx hn), Array.getElem?_eq_getElem hb]; rfl
  obtain ⟨⟨A, c, hv, hn, hc⟩, hz⟩ := h w3 hk
  refine ⟨⟨A, c, hv, hn, fun j u hu => ?_⟩, hz⟩
  obtain ⟨a, ha, h1, h3⟩ := hc j u hu
  obtain ⟨o, ho, hcell⟩ := cells_of_cell h1
  have hlt : (a.add j).block < max w.heap.size w2.heap.size := by
    rcases Nat.lt_or_ge (a.add j).block (max w.heap.size w2.heap.size) with q | q
    · exact q
    · rw [hH2 _ q] at ho; cases ho
  have hF := hH _ hlt
  have hnc : ¬ NoCells w (a.add j).block := fun hnc => by
    obtain ⟨o', ho', hc'⟩ := hnc
    rw [hF] at ho
    have e : F (a.add j).block = o' := by simp only [F, if_pos (show NoCells w (a.add j).block from ⟨o', ho', hc'⟩)]; rw [ho']; rfl
    rw [e] at ho; cases ho; rw [hc'] at hcell; cases hcell
  have e2 : F (a.add j).block = (w2.heap[(a.add j).block]?).getD (.cells #[] 0) := by simp only [F, if_neg hnc]
  rcases Nat.lt_or_ge (a.add j).block w2.heap.size with q | q
  · have e3 : w3.heap[(a.add j).block]? = w2.heap[(a.add j).block]? := by
      rw [hF, e2, Array.getElem?_eq_getElem q]; rfl
    exact ⟨a, ha, (World.cell?_of_block (w := w2) e3).symm.trans h1, q⟩
  · rw [Array.getElem?_eq_none q] at e2
    unfold World.cell? at h1
    rw [hF, e2] at h1
    simp at h1
/-- What is read abides new blocks and the turn of a block that is no cells. -/
theorem Sv.grown {X : Nat → Prop} {w w' : World} {v : Value} {n : Nat} {cs : List Value} {row : Option Nat} (h : Sv X w v n cs) (hg : w.grownBy w' row) (hr : ∀ r, row = some r → NoCells w r) : Sv X w' v n cs :=
  h.cells.off (fun b hb hx => hg.block b hb (fun e => hx (.inr (hr b e.symm)))) (fun b _ hx => .inl hx)
theorem Bag.grown {l : List (Nat × TypeId × List Value)} {w0 w w' : World} {row : Option Nat} (h : Bag l w0 w) (hg : w.grownBy w' row) (hr : ∀ r, row = some r → w0.heap.size ≤ r ∧ NoCells w r) : Bag l w0 w' := by
  refine ⟨fun B t cs hm => ?_, h.below.grown hg h.below.size (fun k e => (hr k e).1), h.lo, h.dis⟩
  have hb := h.all B t cs hm
  refine (hg.block B hb.lt (fun e => ?_)).trans hb
  obtain ⟨o, ho, hc⟩ := (hr B e.symm).2
  rw [show w.heap[B]? = _ from hb] at ho
  cases ho; cases hc
theorem blk_grown {w w' : World} {B : Nat} {t : TypeId} {cs : List Value} {row : Option Nat} (hb : Blk t w B cs) (hg : w.grownBy w' row) (hr : ∀ r, row = some r → NoCells w r) : Blk t w' B cs := by
  refine (hg.block B hb.lt (fun e => ?_)).trans hb
  obtain ⟨o, ho, hc⟩ := hr B e.symm
  rw [show w.heap[B]? = _ from hb] at ho
  cases ho; cases hc
/-- The blocks that a device may write: the machine's, its lines'; and those of X. -/
def XY (X : Nat → Prop) (B g : Nat) (b : Nat) : Prop := X b ∨ b = B ∨ b = g
/-- The row of lines, which nobody else has: without lines it is nothing. -/
def LRow (w0 w : World) (B g : Nat) (v : Value) (L : List Ln) : Prop := (L = [] ∧ v = .slice none 0 0) ∨ (g ≠ B ∧ w0.heap.size ≤ g ∧ g < w.heap.size ∧ ∃ c J, v = .slice (some ⟨g, 0, none⟩) L.length c ∧ L.length ≤ c ∧ Blk 83 w g (L.flatMap lnL ++ J))
/-- A machine in a box, with lists that nobody else writes. -/
structure DSt (X : Nat → Prop) (w0 : World) (B g : Nat) (w : World) (A : Ma) (vm vb vl vs vd vt : Value) : Prop where
  bag : Bag [(B, 49, A.cells vm vb vl vs vd vt)] w0 w
  m : ItsX (XY X B g) w vm A.M
  b : ItsX (XY X B g) w vb A.B
  s : StsX (XY X B g) w vs A.K.D.S
  d : ItsX (XY X B g) w vd A.K.D.B
  t : StsX (XY X B g) w vt A.T.R
  row : LRow w0 w B g vl A.L
  xl : ∀ b, XY X B g b → b < w.heap.size
/-- What a step keeps: all other blocks. -/
structure Kpt (B g : Nat) (w w' : World) : Prop where
  size : w.heap.size ≤ w'.heap.size
  same : ∀ k, k < w.heap.size → k ≠ B → k ≠ g → w'.heap[k]? = w.heap[k]?
theorem Kpt.refl (B g : Nat) (w : World) : Kpt B g w w := ⟨Nat.le_refl _, fun _ _ _ _ => rfl⟩
theorem Kpt.trans {B g : Nat} {a b c : World} (h : Kpt B g a b) (k : Kpt B g b c) : Kpt B g a c := ⟨Nat.le_trans h.size k.size, fun i hi h1 h2 => (k.same i (Nat.lt_of_lt_of_le hi h.size) h1 h2).trans (h.same i hi h1 h2)⟩
theorem Kpt.step {B g : Nat} {a b c : World} (h : Kpt B g a b) (k : Below b.heap.size b c) : Kpt B g a c := h.trans ⟨k.size, fun i hi _ _ => k.block i hi⟩
theorem size_of_same {w w' : World} {B : Nat} {t : TypeId} {cs : List Value} (hk : ∀ k, k ≠ B → w'.heap[k]? = w.heap[k]?) (hb : Blk t w' B cs) : w.heap.size ≤ w'.heap.size := by
  rcases Nat.lt_or_ge w'.heap.size w.heap.size with q | q
  · exfalso
    have hB := hb.lt
    have h1 := hk w'.heap.size (by omega)
    rw [Array.getElem?_eq_none (Nat.le_refl _), Array.getElem?_eq_getElem q] at h1
    cases h1
  · exact q
theorem Kpt.put {B g : Nat} {a b c : World} {t : TypeId} {cs : List Value} (h : Kpt B g a b) (hk : ∀ k, k ≠ B → c.heap[k]? = b.heap[k]?) (hb : Blk t c B cs) : Kpt B g a c := h.trans ⟨size_of_same hk hb, fun i _ h1 _ => hk i h1⟩
theorem Sv.kb {X : Nat → Prop} {B g : Nat} {w w' : World} {v : Value} {n : Nat} {cs : List Value} (h : Sv (XY X B g) w v n cs) (k : Kpt B g w w') : Sv (XY X B g) w' v n cs := h.off (fun b hb hx => k.same b hb (fun e => hx (.inr (.inl e))) (fun e => hx (.inr (.inr e)))) (fun _ _ h => h)
section
variable {X : Nat → Prop} {w0 w w' : World} {B g : Nat} {A : Ma} {vm vb vl vs vd vt : Value}
theorem LRow.kb {w2 : World} {v : Value} {L : List Ln} (h : LRow w0 w B g v L) (hs : w.heap.size ≤ w2.heap.size) (hb : ∀ cs, Blk 83 w g cs → Blk 83 w2 g cs) : LRow w0 w2 B g v L := by
  rcases h with h | ⟨h1, h2, h3, c, J, h4, h5, h6⟩
  · exact .inl h
  · exact .inr ⟨h1, h2, by omega, c, J, h4, h5, hb _ h6⟩
/-- A step that writes no block. -/
theorem DSt.step (h : DSt X w0 B g w A vm vb vl vs vd vt) (hb : Below w.heap.size w w') : DSt X w0 B g w' A vm vb vl vs vd vt :=
  ⟨h.bag.step hb, Sv.below h.m hb, Sv.below h.b hb, Sv.below h.s hb, Sv.below h.d hb, Sv.below h.t hb, h.row.kb hb.size fun cs q => q.step hb, fun b q => Nat.lt_of_lt_of_le (h.xl b q) hb.size⟩
theorem DSt.grown {row : Option Nat} (h : DSt X w0 B g w A vm vb vl vs vd vt) (hg : w.grownBy w' row) (hr : ∀ r, row = some r → w0.heap.size ≤ r ∧ NoCells w r) : DSt X w0 B g w' A vm vb vl vs vd vt :=
  ⟨h.bag.grown hg hr, Sv.grown h.m hg fun r e => (hr r e).2, Sv.grown h.b hg fun r e => (hr r e).2, Sv.grown h.s hg fun r e => (hr r e).2, Sv.grown h.d hg fun r e => (hr r e).2, Sv.grown h.t hg fun r e => (hr r e).2, h.row.kb hg.size fun cs q => blk_grown q hg fun r e => (hr r e).2, fun b q => Nat.lt_of_lt_of_le (h.xl b q) hg.size⟩
theorem DSt.lo (h : DSt X w0 B g w A vm vb vl vs vd vt) : w0.heap.size ≤ B := h.bag.lo _ (.head _)
theorem DSt.blk (h : DSt X w0 B g w A vm vb vl vs vd vt) : Blk 49 w B (A.cells vm vb vl vs vd vt) := h.bag.all _ _ _ (.head _)
theorem LRow.one {v : Value} {L : List Ln} (h : LRow w0 w B g v L) : v.oneCell' = true := by
  rcases h with ⟨rfl, rfl⟩ | ⟨h1, h2, h3, c, J, rfl, h5, h6⟩ <;> rfl
theorem DSt.o1 (h : DSt X w0 B g w A vm vb vl vs vd vt) : vm.oneCell' = true := rz_one h.m.now
theorem DSt.o2 (h : DSt X w0 B g w A vm vb vl vs vd vt) : vb.oneCell' = true := rz_one h.b.now
theorem DSt.o3 (h : DSt X w0 B g w A vm vb vl vs vd vt) : vl.oneCell' = true := h.row.one
theorem DSt.o4 (h : DSt X w0 B g w A vm vb vl vs vd vt) : vs.oneCell' = true := rz_one h.s.now
theorem DSt.o5 (h : DSt X w0 B g w A vm vb vl vs vd vt) : vd.oneCell' = true := rz_one h.d.now
theorem DSt.o6 (h : DSt X w0 B g w A vm vb vl vs vd vt) : vt.oneCell' = true := rz_one h.t.now
/-- The machine's box is written: the row of lines lies as it lay. -/
theorem LRow.put {t : TypeId} {cs : List Value} {v : Value} {L : List Ln} (h : LRow w0 w B g v L) (hk : ∀ k, k ≠ B → w'.heap[k]? = w.heap[k]?) (hb : Blk t w' B cs) : LRow w0 w' B g v L := by
  rcases h with h | ⟨h1, h2, h3, c, J, h4, h5, h6⟩
  · exact .inl h
  · have h7 : Blk 83 w' g (L.flatMap lnL ++ J) := (hk g h1).trans h6
    exact .inr ⟨h1, h2, h7.lt, c, J, h4, h5, h7⟩
/-- All of a machine's box, behind steps that kept all else. -/
theorem DSt.put {A' : Ma} {vm' vb' vs' vd' vt' : Value} (h : DSt X w0 B g w A vm vb vl vs vd vt) (k : Kpt B g w w') (hg : LRow w0 w' B g vl A'.L) (hbag : Bag [(B, 49, A'.cells vm' vb' vl vs' vd' vt')] w0 w') (hm : ItsX (XY X B g) w' vm' A'.M) (hb : ItsX (XY X B g) w' vb' A'.B) (hs : StsX (XY X B g) w' vs' A'.K.D.S) (hd : ItsX (XY X B g) w' vd' A'.K.D.B) (ht : StsX (XY X B g) w' vt' A'.T.R) : DSt X w0 B g w' A' vm' vb' vl vs' vd' vt' :=
  ⟨hbag, hm, hb, hs, hd, ht, hg, fun b q => Nat.lt_of_lt_of_le (h.xl b q) k.size⟩
end
section
variable {ops : Array Oper} {rest : List Oper} {o : Oper} {a : Act} {w w0 w1 : World} {Q : Exit → Act → World → Prop} {l : List (Nat × TypeId × List Value)} {B k n : Nat} {t T : TypeId} {cs ds cs' : List Value} {x y : Operand}
theorem stk1 {z : Value} (hX : Bag ((B, t, cs) :: l) w0 w) (hsz : ∀ w, (sizeOf T).run Tryz.prog w = .ok 1 w) (he : cs.set k z = cs') (hk : k < cs.length) (h1 : z.oneCell' = true)
    (h : ∀ w2, Bag ((B, t, cs') :: l) w0 w2 → (∀ j, j ≠ B → w2.heap[j]? = w.heap[j]?) → wpList Tryz.prog ops Q rest a w2) (hop : o.op = Op.store T x y := by rfl) (hal : w1 = w := by rfl) (hx : a.eval x = .pointer (some ⟨B, k, none⟩) := by rfl) (hy : a.eval y = z := by rfl) (hdst : o.dst = none := by rfl) (hw : Region.wanted o (yielded ops a.tmps) = true := by rfl) (hz : z.cells = #[z] := by rfl) : wpList Tryz.prog ops Q (o :: rest) a w1 :=
  stc hX hsz (fun w2 a b => h w2 (he ▸ a) b) hop hal hx hy hdst hw hk hz h1
end
end Go.Proofs.YtlegcfjafdihlaaGreatDoor
/-
  Right, Read, Write of package drive, as package diskctl calls them. Conditions: at most 2^40 sectors and bad ones (Right); a valid drive (Read, Write).
-/
namespace Go.Proofs.YtlegcfjafdihlaaGreatDoor
open Go.RowKit
set_option linter.unusedSimpArgs false
set_option linter.unusedVariables false
set_option maxHeartbeats 4000000
set_option maxRecDepth 100000
attribute [local irreducible] wpQuiet

section
variable {ops : Array Oper} {rest : List Oper} {o : Oper} {a : Act} {w w0 w1 : World} {Q : Exit → Act → World → Prop} {l : List (Nat × TypeId × List Value)}
end
/-! ### out of DvO -/
/-- The set of these numbers. -/
def sOf (B : List Int) : DataW Unit := Maps.setOf (.lit (.bool true)) (B.map (Lit.int .i64))
/-- A map of the call's own that is the set of these numbers. -/
def OwnM (w : World) (b : Nat) (B : List Int) : Prop := ∃ n, w.ownsMap (H := Unit) Tryz.prog 3 (plainElem Tryz.prog 4) b n (sOf B)
theorem own_map_same {w w' : World} {b n : Nat} {B : List Int} (h : w.ownsMap (H := Unit) Tryz.prog 3 (plainElem Tryz.prog 4) b n (sOf B)) (hb : w'.heap[b]? = w.heap[b]?) : w'.ownsMap (H := Unit) Tryz.prog 3 (plainElem Tryz.prog 4) b n (sOf B) := by
  obtain ⟨es, clock, h1, h2⟩ := h
  exact ⟨es, clock, hb.trans h1, h2⟩
theorem OwnM.same {w w' : World} {b : Nat} {B : List Int} (h : OwnM w b B) (hb : w'.heap[b]? = w.heap[b]?) : OwnM w' b B := h.imp fun n h => own_map_same h hb
theorem OwnM.lt {w : World} {b : Nat} {B : List Int} (h : OwnM w b B) : b < w.heap.size := h.elim fun n h => World.ownsMap.lt h
theorem OwnM.step {w w' : World} {b : Nat} {B : List Int} (h : OwnM w b B) (hb : Below w.heap.size w w') : OwnM w' b B := h.same (hb.block b h.lt)
section
variable {ops : Array Oper} {rest : List Oper} {o : Oper} {a : Act} {w : World} {Q : Exit → Act → World → Prop} {b : Nat} {B : List Int}
end
theorem pclS_any (S : List ByteArray) (v : Value) (w : World) (hl : S.length ≤ 1099511627776) (h : Sts w v S) : Calls Tryz.prog 57 #[v] w fun e w' => ∃ v', e = .returned v' ∧ w'.ownsRow w.heap.size 9 1 v' S.length (S.map Value.string) ∧ Below w.heap.size w w' := by
  rcases Rz.form h with ⟨rfl, h0, h1⟩ | ⟨a, c, rfl, hc⟩
  · have hq : ∀ w : World, (binOp .eql 41 (.slice none 0 0) (.slice none 0 0)).run Tryz.prog w = .ok (.bool true) w := fun w => Lib.run_eql_slice_nil w _ _ none 0 0 0 0 Tryz.underlying41
    go_enter Tryz.func57, Tryz.ntmps57
    go_wp2
    go_ret
    exact ⟨_, rfl, by rw [h1, h0]; exact World.ownsRow_nil _ _ _ _, Below.refl _ _⟩
  · have hcl := Rz.cell (Rz.below h ((Below.refl _ _).alloc (Nat.le_refl _) (.cells #[] 9)))
    have hq : ∀ w : World, (binOp .eql 41 (.slice (some a) S.length c) (.slice none 0 0)).run Tryz.prog w = .ok (.bool false) w := fun w => Lib.run_eql_slice_nil w _ _ (some a) S.length c 0 0 Tryz.underlying41
    clear h
    go_enter Tryz.func57, Tryz.ntmps57
    go_wp2_with (first | (at_builtin; refine wpList_appS rfl (.tmp 5) (.tmp 6) rfl w.heap.size _ 0 [] rfl (own_empty w _) a S.length c (S.map Value.string) rfl (by simp) hcl (one_str S) (by omega) (by simp) ?_; intro v2 w2 ho2 hb2 _))
    go_ret
    exact ⟨_, rfl, by simpa using ho2, ((Below.refl _ _).alloc (Nat.le_refl _) _).trans hb2⟩
theorem pclI_any (S : List Int) (v : Value) (w : World) (hl : S.length ≤ 1099511627776) (h : Its w v S) : Calls Tryz.prog 55 #[v] w fun e w' => ∃ v', e = .returned v' ∧ w'.ownsRow w.heap.size 3 1 v' S.length (S.map (Value.int .i64)) ∧ Below w.heap.size w w' := by
  rcases Rz.form h with ⟨rfl, h0, h1⟩ | ⟨a, c, rfl, hc⟩
  · have hq : ∀ w : World, (binOp .eql 31 (.slice none 0 0) (.slice none 0 0)).run Tryz.prog w = .ok (.bool true) w := fun w => Lib.run_eql_slice_nil w _ _ none 0 0 0 0 Tryz.underlying31
    go_enter Tryz.func55, Tryz.ntmps55
    go_wp2
    go_ret
    exact ⟨_, rfl, by rw [h1, h0]; exact World.ownsRow_nil _ _ _ _, Below.refl _ _⟩
  · have hcl := Rz.cell (Rz.below h ((Below.refl _ _).alloc (Nat.le_refl _) (.cells #[] 3)))
    have hq : ∀ w : World, (binOp .eql 31 (.slice (some a) S.length c) (.slice none 0 0)).run Tryz.prog w = .ok (.bool false) w := fun w => Lib.run_eql_slice_nil w _ _ (some a) S.length c 0 0 Tryz.underlying31
    clear h
    go_enter Tryz.func55, Tryz.ntmps55
    go_wp2_with (first | (at_builtin; refine wpList_appI rfl (.tmp 5) (.tmp 6) rfl w.heap.size _ 0 [] rfl (own_empty w _) a S.length c (S.map (Value.int .i64)) rfl (by simp) hcl (one_int S) (by omega) (by simp) ?_; intro v2 w2 ho2 hb2 _))
    go_ret
    exact ⟨_, rfl, by simpa using ho2, ((Below.refl _ _).alloc (Nat.le_refl _) _).trans hb2⟩
/-! ### padded -/
section
variable {ops : Array Oper} {rest : List Oper} {o : Oper} {a : Act} {w : World} {Q : Exit → Act → World → Prop}
end
section
variable {ops : Array Oper} {rest : List Oper} {o : Oper} {a : Act} {w w1 : World} {Q : Exit → Act → World → Prop}
end
end Go.Proofs.YtlegcfjafdihlaaGreatDoor
