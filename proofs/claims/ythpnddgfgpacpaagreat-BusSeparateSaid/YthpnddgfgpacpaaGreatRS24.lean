import Derived.Test.YthpnddgfgpacpaaGreatRS23
/-
  A machine that a loop over its devices changes: what lies in memory, and what a step of one device keeps. No condition.
-/
namespace Go.Proofs.YthpnddgfgpacpaaGreat
open Go.RowKit
set_option linter.unusedSimpArgs false
set_option linter.unusedVariables false
set_option maxHeartbeats 4000000
set_option maxRecDepth 100000
attribute [local irreducible] wpQuiet

/-- No cells lie there. -/
def NoCells (w : World) (b : Nat) : Prop := ∃ o : Obj, w.heap[b]? = some o ∧ o.isCells = false
/-- What is read reads so whatever becomes of blocks that are no cells. -/
theorem Sv.cells {X : Nat → Prop} {w : World} {v : Value} {n : Nat} {cs : List Value} (h : Sv X w v n cs) : Sv (fun b => X b ∨ NoCells w b) w v n cs := fun w2 h2 => by
  classical
  -- the world w2 with w's own blocks that are no cells put back
  let F : Nat → Obj := fun b => if NoCells w b then (w.heap[b]?).getD (.cells #[] 0) else (w2.heap[b]?).getD (.cells #[] 0)
  let w3 : World := { w2 with heap := Array.ofFn (n := max w.heap.size w2.heap.size) fun i => F i.val }
  have hH : ∀ b, b < max w.heap.size w2.heap.size → w3.heap[b]? = some (F b) := fun b hb => by
    show (Array.ofFn (n := max w.heap.size w2.heap.size) fun i => F i.val)[b]? = _
    rw [Array.getElem?_ofFn, dif_pos hb]
  have hH2 : ∀ b, max w.heap.size w2.heap.size ≤ b → w3.heap[b]? = none := fun b hb => by
    show (Array.ofFn (n := max w.heap.size w2.heap.size) fun i => F i.val)[b]? = _
    rw [Array.getElem?_ofFn, dif_neg (by omega)]
  have hk : ∀ b, b < w.heap.size → ¬ X b → w3.heap[b]? = w.heap[b]? := fun b hb hx => by
    rw [hH b (by omega)]
    by_cases hn : NoCells w b
    · simp only [F, if_pos hn]
      rw [Array.getElem?_eq_getElem hb]; rfl
    · simp only [F, if_neg hn]
      rw [h2 b hb (fun h => h.elim hx hn), Array.getElem?_eq_getElem hb]; rfl
  obtain ⟨⟨A, c, hv, hn, hc⟩, hz⟩ := h w3 hk
  refine ⟨⟨A, c, hv, hn, fun j u hu => ?_⟩, hz⟩
  obtain ⟨a, ha, h1, h3⟩ := hc j u hu
  obtain ⟨o, ho, hcell⟩ := cells_of_cell h1
  have hlt : (a.add j).block < max w.heap.size w2.heap.size := by
    rcases Nat.lt_or_ge (a.add j).block (max w.heap.size w2.heap.size) with q | q
    · exact q
    · rw [hH2 _ q] at ho; cases ho
  have hF := hH _ hlt
  have hnc : ¬ NoCells w (a.add j).block := fun hnc => by
    obtain ⟨o', ho', hc'⟩ := hnc
    rw [hF] at ho
    have e : F (a.add j).block = o' := by simp only [F, if_pos (show NoCells w (a.add j).block from ⟨o', ho', hc'⟩)]; rw [ho']; rfl
    rw [e] at ho; cases ho; rw [hc'] at hcell; cases hcell
  have e2 : F (a.add j).block = (w2.heap[(a.add j).block]?).getD (.cells #[] 0) := by simp only [F, if_neg hnc]
  rcases Nat.lt_or_ge (a.add j).block w2.heap.size with q | q
  · have e3 : w3.heap[(a.add j).block]? = w2.heap[(a.add j).block]? := by
      rw [hF, e2, Array.getElem?_eq_getElem q]; rfl
    exact ⟨a, ha, (World.cell?_of_block (w := w2) e3).symm.trans h1, q⟩
  · rw [Array.getElem?_eq_none q] at e2
    unfold World.cell? at h1
    rw [hF, e2] at h1
    simp at h1
/-- What is read abides new blocks and the turn of a block that is no cells. -/
theorem Sv.grown {X : Nat → Prop} {w w' : World} {v : Value} {n : Nat} {cs : List Value} {row : Option Nat} (h : Sv X w v n cs) (hg : w.grownBy w' row) (hr : ∀ r, row = some r → NoCells w r) : Sv X w' v n cs :=
  h.cells.off (fun b hb hx => hg.block b hb (fun e => hx (.inr (hr b e.symm)))) (fun b _ hx => .inl hx)
theorem Bag.grown {l : List (Nat × TypeId × List Value)} {w0 w w' : World} {row : Option Nat} (h : Bag l w0 w) (hg : w.grownBy w' row) (hr : ∀ r, row = some r → w0.heap.size ≤ r ∧ NoCells w r) : Bag l w0 w' := by
  refine ⟨fun B t cs hm => ?_, h.below.grown hg h.below.size (fun k e => (hr k e).1), h.lo, h.dis⟩
  have hb := h.all B t cs hm
  refine (hg.block B hb.lt (fun e => ?_)).trans hb
  obtain ⟨o, ho, hc⟩ := (hr B e.symm).2
  rw [show w.heap[B]? = _ from hb] at ho
  cases ho; cases hc
theorem blk_grown {w w' : World} {B : Nat} {t : TypeId} {cs : List Value} {row : Option Nat} (hb : Blk t w B cs) (hg : w.grownBy w' row) (hr : ∀ r, row = some r → NoCells w r) : Blk t w' B cs := by
  refine (hg.block B hb.lt (fun e => ?_)).trans hb
  obtain ⟨o, ho, hc⟩ := hr B e.symm
  rw [show w.heap[B]? = _ from hb] at ho
  cases ho; cases hc
/-- The blocks that a device may write: the machine's, its lines'; and those of X. -/
def XY (X : Nat → Prop) (B g : Nat) (b : Nat) : Prop := X b ∨ b = B ∨ b = g
/-- The row of lines, which nobody else has: without lines it is nothing. -/
def LRow (w0 w : World) (B g : Nat) (v : Value) (L : List Ln) : Prop := (L = [] ∧ v = .slice none 0 0) ∨ (g ≠ B ∧ w0.heap.size ≤ g ∧ g < w.heap.size ∧ ∃ c J, v = .slice (some ⟨g, 0, none⟩) L.length c ∧ L.length ≤ c ∧ Blk 68 w g (L.flatMap lnL ++ J))
/-- A machine in a box, with lists that nobody else writes. -/
structure DSt (X : Nat → Prop) (w0 : World) (B g : Nat) (w : World) (A : Ma) (vm vb vl vs vd vt : Value) : Prop where
  bag : Bag [(B, 44, A.cells vm vb vl vs vd vt)] w0 w
  m : ItsX (XY X B g) w vm A.M
  b : ItsX (XY X B g) w vb A.B
  s : StsX (XY X B g) w vs A.K.D.S
  d : ItsX (XY X B g) w vd A.K.D.B
  t : StsX (XY X B g) w vt A.T.R
  row : LRow w0 w B g vl A.L
  xl : ∀ b, XY X B g b → b < w.heap.size
/-- What a step keeps: all other blocks. -/
structure Kpt (B g : Nat) (w w' : World) : Prop where
  size : w.heap.size ≤ w'.heap.size
  same : ∀ k, k < w.heap.size → k ≠ B → k ≠ g → w'.heap[k]? = w.heap[k]?
theorem Kpt.refl (B g : Nat) (w : World) : Kpt B g w w := ⟨Nat.le_refl _, fun _ _ _ _ => rfl⟩
theorem Kpt.trans {B g : Nat} {a b c : World} (h : Kpt B g a b) (k : Kpt B g b c) : Kpt B g a c := ⟨Nat.le_trans h.size k.size, fun i hi h1 h2 => (k.same i (Nat.lt_of_lt_of_le hi h.size) h1 h2).trans (h.same i hi h1 h2)⟩
theorem Kpt.step {B g : Nat} {a b c : World} (h : Kpt B g a b) (k : Below b.heap.size b c) : Kpt B g a c := h.trans ⟨k.size, fun i hi _ _ => k.block i hi⟩
theorem size_of_same {w w' : World} {B : Nat} {t : TypeId} {cs : List Value} (hk : ∀ k, k ≠ B → w'.heap[k]? = w.heap[k]?) (hb : Blk t w' B cs) : w.heap.size ≤ w'.heap.size := by
  rcases Nat.lt_or_ge w'.heap.size w.heap.size with q | q
  · exfalso
    have hB := hb.lt
    have h1 := hk w'.heap.size (by omega)
    rw [Array.getElem?_eq_none (Nat.le_refl _), Array.getElem?_eq_getElem q] at h1
    cases h1
  · exact q
theorem Kpt.put {B g : Nat} {a b c : World} {t : TypeId} {cs : List Value} (h : Kpt B g a b) (hk : ∀ k, k ≠ B → c.heap[k]? = b.heap[k]?) (hb : Blk t c B cs) : Kpt B g a c := h.trans ⟨size_of_same hk hb, fun i _ h1 _ => hk i h1⟩
theorem Kpt.putg {B g : Nat} {a b c : World} {t : TypeId} {cs : List Value} (h : Kpt B g a b) (hk : ∀ k, k ≠ g → c.heap[k]? = b.heap[k]?) (hb : Blk t c g cs) : Kpt B g a c := h.trans ⟨size_of_same hk hb, fun i _ _ h2 => hk i h2⟩
theorem Sv.kb {X : Nat → Prop} {B g : Nat} {w w' : World} {v : Value} {n : Nat} {cs : List Value} (h : Sv (XY X B g) w v n cs) (k : Kpt B g w w') : Sv (XY X B g) w' v n cs := h.off (fun b hb hx => k.same b hb (fun e => hx (.inr (.inl e))) (fun e => hx (.inr (.inr e)))) (fun _ _ h => h)
section
variable {X : Nat → Prop} {w0 w w' : World} {B g : Nat} {A : Ma} {vm vb vl vs vd vt : Value}
theorem LRow.kb {w2 : World} {v : Value} {L : List Ln} (h : LRow w0 w B g v L) (hs : w.heap.size ≤ w2.heap.size) (hb : ∀ cs, Blk 68 w g cs → Blk 68 w2 g cs) : LRow w0 w2 B g v L := by
  rcases h with h | ⟨h1, h2, h3, c, J, h4, h5, h6⟩
  · exact .inl h
  · exact .inr ⟨h1, h2, by omega, c, J, h4, h5, hb _ h6⟩
/-- A step that writes no block. -/
theorem DSt.step (h : DSt X w0 B g w A vm vb vl vs vd vt) (hb : Below w.heap.size w w') : DSt X w0 B g w' A vm vb vl vs vd vt :=
  ⟨h.bag.step hb, Sv.below h.m hb, Sv.below h.b hb, Sv.below h.s hb, Sv.below h.d hb, Sv.below h.t hb, h.row.kb hb.size fun cs q => q.step hb, fun b q => Nat.lt_of_lt_of_le (h.xl b q) hb.size⟩
theorem DSt.grown {row : Option Nat} (h : DSt X w0 B g w A vm vb vl vs vd vt) (hg : w.grownBy w' row) (hr : ∀ r, row = some r → w0.heap.size ≤ r ∧ NoCells w r) : DSt X w0 B g w' A vm vb vl vs vd vt :=
  ⟨h.bag.grown hg hr, Sv.grown h.m hg fun r e => (hr r e).2, Sv.grown h.b hg fun r e => (hr r e).2, Sv.grown h.s hg fun r e => (hr r e).2, Sv.grown h.d hg fun r e => (hr r e).2, Sv.grown h.t hg fun r e => (hr r e).2, h.row.kb hg.size fun cs q => blk_grown q hg fun r e => (hr r e).2, fun b q => Nat.lt_of_lt_of_le (h.xl b q) hg.size⟩
theorem DSt.lo (h : DSt X w0 B g w A vm vb vl vs vd vt) : w0.heap.size ≤ B := h.bag.lo _ (.head _)
theorem lns_row {c : Nat} {L : List Ln} {J : List Value} (hb : Blk 68 w g (L.flatMap lnL ++ J)) (hc : L.length ≤ c) (hX : ¬ X g) : LnsX X w (.slice (some ⟨g, 0, none⟩) L.length c) L := fun w2 h2 => by
  have hb2 : Blk 68 w2 g (L.flatMap lnL ++ J) := (h2 g hb.lt hX).trans hb
  refine ⟨⟨_, c, rfl, hc, fun j u hu => ⟨_, rfl, ?_⟩⟩, fun m c' e => by cases e⟩
  rw [add018]
  have hj := (List.getElem?_eq_some_iff.1 hu).1
  exact ⟨hb2.cell (by rw [List.getElem?_append_left hj]; exact hu), hb2.lt⟩
theorem LRow.lns {v : Value} {L : List Ln} (h : LRow w0 w B g v L) (hX : g ≠ B → ¬ X g) : LnsX X w v L := by
  rcases h with ⟨rfl, rfl⟩ | ⟨h1, h2, h3, c, J, rfl, h5, h6⟩
  · exact Sv.nil X w
  · exact lns_row h6 h5 (hX h1)
theorem LRow.one {v : Value} {L : List Ln} (h : LRow w0 w B g v L) : v.oneCell' = true := by
  rcases h with ⟨rfl, rfl⟩ | ⟨h1, h2, h3, c, J, rfl, h5, h6⟩ <;> rfl
/-- The machine as its words read. -/
theorem DSt.mav (h : DSt X w0 B g w A vm vb vl vs vd vt) (hX : g ≠ B → ¬ X g) : MaV X w A vm vb vl vs vd vt :=
  ⟨Sv.less18 h.m fun _ q => .inl q, Sv.less18 h.b fun _ q => .inl q, h.row.lns hX, Sv.less18 h.s fun _ q => .inl q, Sv.less18 h.d fun _ q => .inl q, Sv.less18 h.t fun _ q => .inl q⟩
theorem DSt.o1 (h : DSt X w0 B g w A vm vb vl vs vd vt) : vm.oneCell' = true := rz_one h.m.now
theorem DSt.o2 (h : DSt X w0 B g w A vm vb vl vs vd vt) : vb.oneCell' = true := rz_one h.b.now
theorem DSt.o3 (h : DSt X w0 B g w A vm vb vl vs vd vt) : vl.oneCell' = true := h.row.one
theorem DSt.o4 (h : DSt X w0 B g w A vm vb vl vs vd vt) : vs.oneCell' = true := rz_one h.s.now
theorem DSt.o5 (h : DSt X w0 B g w A vm vb vl vs vd vt) : vd.oneCell' = true := rz_one h.d.now
theorem DSt.o6 (h : DSt X w0 B g w A vm vb vl vs vd vt) : vt.oneCell' = true := rz_one h.t.now
/-- The machine's box is written: the row of lines lies as it lay. -/
theorem LRow.put {t : TypeId} {cs : List Value} {v : Value} {L : List Ln} (h : LRow w0 w B g v L) (hk : ∀ k, k ≠ B → w'.heap[k]? = w.heap[k]?) (hb : Blk t w' B cs) : LRow w0 w' B g v L := by
  rcases h with h | ⟨h1, h2, h3, c, J, h4, h5, h6⟩
  · exact .inl h
  · have h7 : Blk 68 w' g (L.flatMap lnL ++ J) := (hk g h1).trans h6
    exact .inr ⟨h1, h2, h7.lt, c, J, h4, h5, h7⟩
/-- All of a machine's box, behind steps that kept all else. -/
theorem DSt.put {A' : Ma} {vm' vb' vs' vd' vt' : Value} (h : DSt X w0 B g w A vm vb vl vs vd vt) (k : Kpt B g w w') (hg : LRow w0 w' B g vl A'.L) (hbag : Bag [(B, 44, A'.cells vm' vb' vl vs' vd' vt')] w0 w') (hm : ItsX (XY X B g) w' vm' A'.M) (hb : ItsX (XY X B g) w' vb' A'.B) (hs : StsX (XY X B g) w' vs' A'.K.D.S) (hd : ItsX (XY X B g) w' vd' A'.K.D.B) (ht : StsX (XY X B g) w' vt' A'.T.R) : DSt X w0 B g w' A' vm' vb' vl vs' vd' vt' :=
  ⟨hbag, hm, hb, hs, hd, ht, hg, fun b q => Nat.lt_of_lt_of_le (h.xl b q) k.size⟩
end
/-- What a device's method leaves: an answer; the machine as A' says; all other blocks as they were. -/
def DevS (X : Nat → Prop) (w0 : World) (B g : Nat) (w : World) (A' : Ma) (V : Value) : Ending → World → Prop := fun e w' => e = .returned V ∧ (∃ vm vb vl vs vd vt, DSt X w0 B g w' A' vm vb vl vs vd vt) ∧ Kpt B g w w'
section
variable {ops : Array Oper} {rest : List Oper} {o : Oper} {a : Act} {w w0 w1 : World} {Q : Exit → Act → World → Prop} {l : List (Nat × TypeId × List Value)} {B k n : Nat} {t T : TypeId} {cs ds cs' : List Value} {x y : Operand}
/-- A part of the first box is stored. -/
theorem stp1 (hX : Bag ((B, t, cs) :: l) w0 w) (hagg : ∀ w, (isAgg T).run Tryz.prog w = .ok true w) (hsz : ∀ w, (sizeOf T).run Tryz.prog w = .ok n w) (he : cs.take k ++ ds ++ cs.drop (k + n) = cs') (hn : ds.length = n) (hk : k + n ≤ cs.length) (h1 : ∀ v ∈ ds, v.oneCell' = true)
    (h : ∀ w2, Bag ((B, t, cs') :: l) w0 w2 → (∀ j, j ≠ B → w2.heap[j]? = w.heap[j]?) → wpList Tryz.prog ops Q rest a w2) (hop : o.op = Op.store T x y := by rfl) (hal : w1 = w := by rfl) (hx : a.eval x = .pointer (some ⟨B, k, none⟩) := by rfl) (hy : a.eval y = .agg ds.toArray := by rfl) (hdst : o.dst = none := by rfl) (hw : Region.wanted o (yielded ops a.tmps) = true := by rfl) : wpList Tryz.prog ops Q (o :: rest) a w1 := by
  subst hal he
  have hb := hX.all _ _ _ List.mem_cons_self
  have e := run_storeCells_at Tryz.prog B k t ds 0 cs.toArray w1 hb (by simp; omega) h1
  have e2 : (cs.toArray.toList.take (k + 0) ++ ds ++ cs.toArray.toList.drop (k + 0 + ds.length)).toArray = (cs.take k ++ ds ++ cs.drop (k + n)).toArray := by rw [Nat.add_zero, hn]
  rw [e2] at e
  exact wpList_store_run hw hdst T x y _ _ hop hx hy hagg (by rw [hn]; exact hsz) e (h _ (hX.over _) (fun j hj => setRow_other w1 B j _ hj))
theorem stk1 {z : Value} (hX : Bag ((B, t, cs) :: l) w0 w) (hsz : ∀ w, (sizeOf T).run Tryz.prog w = .ok 1 w) (he : cs.set k z = cs') (hk : k < cs.length) (h1 : z.oneCell' = true)
    (h : ∀ w2, Bag ((B, t, cs') :: l) w0 w2 → (∀ j, j ≠ B → w2.heap[j]? = w.heap[j]?) → wpList Tryz.prog ops Q rest a w2) (hop : o.op = Op.store T x y := by rfl) (hal : w1 = w := by rfl) (hx : a.eval x = .pointer (some ⟨B, k, none⟩) := by rfl) (hy : a.eval y = z := by rfl) (hdst : o.dst = none := by rfl) (hw : Region.wanted o (yielded ops a.tmps) = true := by rfl) (hz : z.cells = #[z] := by rfl) : wpList Tryz.prog ops Q (o :: rest) a w1 :=
  stc hX hsz (fun w2 a b => h w2 (he ▸ a) b) hop hal hx hy hdst hw hk hz h1
end
end Go.Proofs.YthpnddgfgpacpaaGreat
