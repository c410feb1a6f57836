import Derived.StillTail
import Derived.Deep.Quiet
import Derived.Test.YtlegcfjafdihlaaGreatDoorZC10
import Derived.Test.YtlegcfjafdihlaaGreatDoorZC07
import Derived.OrdersHeld
import Derived.Test.YtlegcfjafdihlaaGreatDoorZC04
import Derived.Test.YtlegcfjafdihlaaGreatDoorZC05
import Derived.Test.YtlegcfjafdihlaaGreatDoorZC06
import Derived.Test.YtlegcfjafdihlaaGreatDoorZC09
import Derived.Test.YtlegcfjafdihlaaGreatDoorZC08
/-
  The zero machine; withLine of the reference. Condition: the machine has the line.
-/
namespace Go.Proofs.YtlegcfjafdihlaaGreatDoor
open Go.RowKit
set_option linter.unusedSimpArgs false
set_option linter.unusedVariables false
set_option maxHeartbeats 4000000
set_option maxRecDepth 100000
attribute [local irreducible] wpQuiet

def mzL : List Value := maL (List.replicate 10 (.int .i64 0)) (.slice none 0 0) (.slice none 0 0) Un.z.L [.bool false, .bool false, .int .i64 0, .int .i64 0] (.slice none 0 0) (dkL (.slice none 0 0) (.slice none 0 0) Dk.z) (tpL (.slice none 0 0) Tp.z) [.int .i64 0, .bool false, .bool false, .int .i64 0, .bool false]
theorem mzL_len : mzL.length = 110 := rfl
theorem run_allocM (w : World) : (Instr.alloc 49 true (.tuple #[])).run Tryz.prog w = .ok (.pointer (some ⟨w.heap.size, 0, none⟩)) (w.alloc (.cells mzL.toArray 49)) := by kernel_rfl
section
variable {ops : Array Oper} {rest : List Oper} {o : Oper} {a : Act} {w : World} {Q : Exit → Act → World → Prop}
theorem at_alloc18 {P : Program} {l : List Oper} {T ty : TypeId} {dst : Option Tmp} {pos : String} {after : Array Edge} {g : Option (Nat × Bool)} (h : wpList P ops Q ({ dst := dst, op := .alloc T, type := ty, pos := pos, after := after, guard := g } :: l) a w) : wpList P ops Q ({ dst := dst, op := .alloc T, type := ty, pos := pos, after := after, guard := g } :: l) a w := h
theorem wpList_allocM (hg : o.guard = none) (hop : o.op = Op.alloc 49) (h : wpList Tryz.prog ops Q rest (a.put o.dst (.pointer (some ⟨w.heap.size, 0, none⟩))) (w.alloc (.cells mzL.toArray 49))) : wpList Tryz.prog ops Q (o :: rest) a w :=
  wpList_plain hg fun _ hK => by
    unfold Oper.wp execOp
    simp only [hop, run_allocM, Sem.run_bind, Sem.run_pure, Result.andThen_ok]
    exact hK _ _ h
end
theorem set_l {C U K D T E : List Value} {vm vb vl : Value} (h : MaLen C U K D T E) (x : Value) : (maL C vm vb U K vl D T E).set 83 x = maL C vm vb U K x D T E := by
  rw [maL_l, maL_l]
  have hp : (C ++ [vm, vb] ++ U ++ K).length = 83 := by simp [h.c, h.u, h.k]
  rw [List.set_append_right _ _ (by omega), hp, Nat.sub_self]
  rfl
theorem two_ma (w : World) (c1 : List Value) : Bag [(w.heap.size + 1, 49, mzL), (w.heap.size, 49, c1)] w ((w.alloc (.cells c1.toArray 49)).alloc (.cells mzL.toArray 49)) := two_bag w 49 49 c1 mzL
section
variable {A : Ma} {vm vb vl vs vd vt : Value} (h : A.ok)
include h
theorem Ma.clen : (A.cells vm vb vl vs vd vt).length = 110 := maL_len (Ma.len h vs vd vt)
theorem Ma.cone (o1 : vm.oneCell' = true) (o2 : vb.oneCell' = true) (o3 : vl.oneCell' = true) (o4 : vs.oneCell' = true) (o5 : vd.oneCell' = true) (o6 : vt.oneCell' = true) : ∀ v ∈ A.cells vm vb vl vs vd vt, v.oneCell' = true := by
  refine maL_one h.2.1 o1 o2 ?_ ?_ o3 ?_ ?_ ?_
  · intro v hv
    unfold Un.L at hv
    simp only [List.mem_cons, List.mem_append, List.mem_flatMap, List.not_mem_nil, or_false] at hv
    rcases hv with rfl | ⟨p, _, hp⟩ | rfl | rfl
    · rfl
    · unfold Pg.L at hp
      simp only [List.mem_cons, List.not_mem_nil, or_false] at hp
      rcases hp with rfl | rfl | rfl | rfl <;> rfl
    · rfl
    · rfl
  · intro v hv
    unfold Ck.L at hv
    simp only [List.mem_cons, List.not_mem_nil, or_false] at hv
    rcases hv with rfl | rfl | rfl | rfl <;> rfl
  · intro v hv
    unfold dkL at hv
    simp only [List.mem_cons, List.not_mem_nil, or_false] at hv
    rcases hv with rfl | rfl | rfl | rfl | rfl | rfl | rfl | rfl | rfl | rfl <;> first | rfl | assumption
  · intro v hv
    unfold tpL at hv
    simp only [List.mem_cons, List.not_mem_nil, or_false] at hv
    rcases hv with rfl | rfl | rfl | rfl | rfl | rfl | rfl | rfl | rfl | rfl | rfl <;> first | rfl | assumption
  · intro v hv
    unfold Ma.eL at hv
    simp only [List.mem_cons, List.not_mem_nil, or_false] at hv
    rcases hv with rfl | rfl | rfl | rfl | rfl <;> rfl
theorem Ma.set_l (L' : List Ln) (x : Value) : (A.cells vm vb vl vs vd vt).set 83 x = ({ A with L := L' } : Ma).cells vm vb x vs vd vt := Go.Proofs.YtlegcfjafdihlaaGreatDoor.set_l (Ma.len h vs vd vt) x
theorem Ma.set_m (M' : List Int) (x : Value) : (A.cells vm vb vl vs vd vt).set 10 x = ({ A with M := M' } : Ma).cells x vb vl vs vd vt := by
  have hL := Ma.len h vs vd vt
  unfold Ma.cells
  rw [maL_m, maL_m, List.set_append_right _ _ (by rw [hL.c]; exact Nat.le_refl _), hL.c]
  rfl
theorem Ma.set_b (B' : List Int) (x : Value) : (A.cells vm vb vl vs vd vt).set 11 x = ({ A with B := B' } : Ma).cells vm x vl vs vd vt := by
  have hL := Ma.len h vs vd vt
  unfold Ma.cells
  rw [maL_b, maL_b, List.set_append_right _ _ (by simp [hL.c]), show (A.C ++ [vm]).length = 11 by simp [hL.c]]
  rfl
end
theorem siz_sL18 (w : World) : (sizeOf 40).run Tryz.prog w = .ok 1 w := by kernel_rfl
end Go.Proofs.YtlegcfjafdihlaaGreatDoor
/-
  A region that draws its order: loads first, whichever order is drawn; calls whose answers hang on the world, each of which comes up alone; then operations, each of which waits for all before it. Walked once. General. No condition.
-/
namespace Go.Proofs.YtlegcfjafdihlaaGreatDoor
open Go Go.RowKit
set_option linter.unusedVariables false

section
variable {P : Program} {ops : Array Oper} {md : Region.Mode} {Q : Exit → Act → World → Prop} {S : World → Prop}

def wpHT (P : Program) (md : Region.Mode) (ops : Array Oper) (Q : Exit → Act → World → Prop) (S : World → Prop) (L : Array Bool → Act → World → Prop) : Nat → Array Bool → Act → World → Prop
  | 0, listed, a, w => L listed a w
  | f + 1, listed, a, w => Region.ready md ops listed ≠ [] ∧ ∀ i ∈ Region.ready md ops listed, wpOp P ops Q i (fun a' w' => S w' ∧ wpHT P md ops Q S L f (listed.setIfInBounds i true) a' w') a w

theorem wpAny_of_HT {g : Nat} {L : Array Bool → Act → World → Prop} (hL : ∀ listed a w, L listed a w → wpAny P md ops Q g listed a w) :
    ∀ (f : Nat) (listed : Array Bool) (a : Act) (w : World), wpHT P md ops Q S L f listed a w → wpAny P md ops Q (f + g) listed a w
  | 0, listed, a, w, h => by rw [Nat.zero_add]; exact hL _ _ _ h
  | f + 1, listed, a, w, h => by
    rw [show f + 1 + g = (f + g) + 1 by omega]
    exact ⟨fun h0 => absurd h0 h.1, fun i hi => wpOp_mono (fun a' w' h' => wpAny_of_HT hL f _ a' w' h'.2) (h.2 i hi)⟩

/-- What may come up and yields in every world of S may be taken first. -/
theorem wpHT_first {n i : Nat} {oi : Oper} {v : Value} {L : Array Bool → Act → World → Prop} (hi : ops[i]? = some oi) (hsel : ∀ (j : Nat) (o : Oper) cs b, ops[j]? = some o → o.op ≠ .select cs b)
    (hQ : ∀ c a w, Q (.panic c) (a.put oi.dst v) w → Q (.panic c) a w)
    (hs : Region.sinkB md ops n = true) (hc : Region.chainB md ops n = true) (hn : n < ops.size) (hin : i < n)
    (hdone : ∀ listed a w, L listed a w → ∀ j ∈ Region.ready md ops listed, n ≤ j) :
    ∀ (f : Nat) (listed : Array Bool) (a : Act) (w : World), HeadInv md ops n listed →
      (∀ j oj, ops[j]? = some oj → j ≠ i → listed.getD j true = false → (∀ e ∈ oj.after, Region.binds md e = true → e.on ≠ i) → oi.apart ops oj = true) →
      i ∈ Region.ready md ops listed → YieldsIf P ops S oi v a → S w →
      wpHT P md ops Q S L f (listed.setIfInBounds i true) (a.put oi.dst v) w → wpHT P md ops Q S L (f + 1) listed a w := by
  intro f
  induction f with
  | zero =>
    intro listed a w inv _ hr hy hS H
    have hun := (mem_ready.1 hr).1
    refine ⟨fun h => (by rw [h] at hr; cases hr), fun j hj => ?_⟩
    by_cases hji : j = i
    · subst hji; exact hy.wpOp hi hS ⟨hS, H⟩
    · exfalso
      have hjn : j < n := by
        rcases Nat.lt_or_ge j n with h | h
        · exact h
        · exact absurd hj (tail_waits hs hc hn inv _ i rfl hin hun j h)
      have := hdone _ _ _ H j (ready_mono hj hji)
      omega
  | succ f ih =>
    intro listed a w inv hfree hr hy hS H
    have hun := (mem_ready.1 hr).1
    refine ⟨fun h => (by rw [h] at hr; cases hr), fun j hj => ?_⟩
    have hjn : j < n := by
      rcases Nat.lt_or_ge j n with h | h
      · exact h
      · exact absurd hj (tail_waits hs hc hn inv _ i rfl hin hun j h)
    by_cases hji : j = i
    · subst hji; exact hy.wpOp hi hS ⟨hS, H⟩
    · have h1 := H.2 j (ready_mono hj hji)
      obtain ⟨hjun, oj, hoj, hall⟩ := mem_ready.1 hj
      have hnot : ∀ e ∈ oj.after, Region.binds md e = true → e.on ≠ i := fun e he hb heq => by
        have h1 := hall e he hb
        rw [heq, getD_both hun] at h1
        cases h1
      have h2 := wpOp_putIf hoj (hfree j oj hoj hji hjun hnot) (fun cs b => hsel i oi cs b hi) (fun cs b => hsel j oj cs b hoj) hQ hy h1
      refine wpOp_mono (fun a' w' h3 => ⟨h3.2.1, ih (listed.setIfInBounds j true) a' w' (inv.set hj hjn) (fun k ok hk hki hunk hno => hfree k ok hk hki (by
        by_cases hjk : j = k
        · subst hjk; exact hjun
        · rw [getD_set_ne true hjk] at hunk; exact hunk) hno) (ready_mono hr (Ne.symm hji)) h3.1 h3.2.1 (by rw [Array.setIfInBounds_comm _ _ hji]; exact h3.2.2)⟩) h2

/-- May the operations be taken in this order: the quiet ones first, each call alone; and then the rest in a row? -/
def hoB (md : Region.Mode) (ops : Array Oper) (n g : Nat) : List (Nat × Bool) → Array Bool → Bool
  | [], listed => Region.seqB md ops g n listed
  | (i, false) :: l, listed => decide (i < n) && (Region.ready md ops listed).contains i && Region.free md ops listed i && hoB md ops n g l (listed.setIfInBounds i true)
  | (i, true) :: l, listed => decide (i < n) && decide (Region.ready md ops listed = [i]) && hoB md ops n g l (listed.setIfInBounds i true)
def wpHo (P : Program) (ops : Array Oper) (S : World → Prop) (F : Act → World → Prop) : List (Nat × Bool) → Act → World → Prop
  | [], a, w => F a w
  | (i, false) :: l, a, w => ∃ o v, ops[i]? = some o ∧ YieldsIf P ops S o v a ∧ wpHo P ops S F l (a.put o.dst v) w
  | (i, true) :: l, a, w => ∃ o, ops[i]? = some o ∧ o.guard = none ∧ Oper.semiAt P o a (fun v w' => S w' ∧ wpHo P ops S F l (a.put o.dst v) w') w

theorem wpHT_of_ho {n g : Nat} {F : Act → World → Prop} (hsel : Region.noSelect ops = true) (hs : Region.sinkB md ops n = true) (hc : Region.chainB md ops n = true) (hn : n < ops.size)
    (hQ : ∀ c a d v w, Q (.panic c) (a.put d v) w → Q (.panic c) a w) :
    ∀ (l : List (Nat × Bool)) (listed : Array Bool) (a : Act) (w : World), HeadInv md ops n listed → hoB md ops n g l listed = true → S w → wpHo P ops S F l a w →
    wpHT P md ops Q S (fun listed' a' w' => Region.seqB md ops g n listed' = true ∧ F a' w') l.length listed a w
  | [], listed, a, w, _, hB, _, h => ⟨hB, h⟩
  | (i, false) :: l, listed, a, w, inv, hB, hS, h => by
    obtain ⟨o, v, ho, hy, h⟩ := h
    simp only [hoB, Bool.and_eq_true, decide_eq_true_eq] at hB
    obtain ⟨⟨⟨hin, hr⟩, hf⟩, hB'⟩ := hB
    have hr' : i ∈ Region.ready md ops listed := by simpa using hr
    exact wpHT_first ho (Region.noSelect_spec hsel) (fun c a w => hQ c a _ _ w) hs hc hn hin (fun listed' a' w' hL => seqB_ready hL.1) l.length listed a w inv (Region.free_spec ho hf) hr' hy hS
      (wpHT_of_ho hsel hs hc hn hQ l _ _ _ (inv.set hr' hin) hB' hS h)
  | (i, true) :: l, listed, a, w, inv, hB, hS, h => by
    obtain ⟨o, ho, hg, h⟩ := h
    simp only [hoB, Bool.and_eq_true, decide_eq_true_eq] at hB
    obtain ⟨⟨hin, hr⟩, hB'⟩ := hB
    have hr' : i ∈ Region.ready md ops listed := by rw [hr]; simp
    refine ⟨by rw [hr]; simp, fun j hj => ?_⟩
    rw [hr] at hj
    obtain rfl : j = i := by simpa using hj
    exact wp_semi ho hg h (fun v w' hR => ⟨hR.1, wpHT_of_ho hsel hs hc hn hQ l _ _ _ (inv.set hr' hin) hB' hR.1 hR.2⟩)

theorem region_hoist {id : Nat} {a : Act} {w : World} {l : List Oper} (S : World → Prop) (n : Nat) (ord : List (Nat × Bool)) (hm : P.follows .mixedOrders = true)
    (hB : (Region.noSelect l.toArray && decide (n < l.toArray.size) && Region.sinkB .any l.toArray n && Region.chainB .any l.toArray n && decide (ord.length = n) && hoB .any l.toArray n (l.toArray.size - n) ord (Array.replicate l.toArray.size false)) = true)
    (hQ : ∀ c a d v w, Q (.panic c) (a.put d v) w → Q (.panic c) a w) (hS : S w.drew)
    (h : wpHo P l.toArray S (fun a' w' => wpList P l.toArray Q (l.drop n) a' w') ord a w.drew) : (Code.region id l.toArray true).wp P Q a w := by
  simp only [Bool.and_eq_true, decide_eq_true_eq] at hB
  obtain ⟨⟨⟨⟨⟨hsel, hn⟩, hs⟩, hc⟩, hlen⟩, hho⟩ := hB
  have hdl : (l.drop n).length = l.toArray.size - n := by simp
  have inv0 : HeadInv .any l.toArray n (Array.replicate l.toArray.size false) :=
    ⟨by simp, fun j oj _ hl => (by rw [getD_replicate_false] at hl; cases hl), fun t _ ht => getD_in (by simpa using ht) (getD_replicate_false _ _)⟩
  have H := wpHT_of_ho (md := .any) (Q := Q) (g := l.toArray.size - n) hsel hs hc hn hQ ord _ a w.drew inv0 hho hS h
  refine wp_region_any hm ?_
  have := wpAny_of_HT (Q := Q) (g := l.toArray.size - n) (fun listed a' w' hL => by
    have := wpAny_of_seq (md := .any) (Q' := Q) (l.drop n) n listed a' w' (fun j => by simp [List.getElem?_drop]) (by rw [hdl]; exact hL.1) hL.2
    rwa [hdl] at this) _ _ _ _ H
  rw [hlen, show n + (l.toArray.size - n) = l.toArray.size by omega] at this
  exact this
variable {F : Act → World → Prop}
theorem wpHo_nil {a : Act} {w : World} (h : F a w) : wpHo P ops S F [] a w := h
theorem wpHo_q {i : Nat} {l : List (Nat × Bool)} {a : Act} {w : World} {o : Oper} {v : Value} (ho : ops[i]? = some o) (hw : Region.wanted o (yielded ops a.tmps) = true) (hy : ∀ w, S w → (execOp a.eval o).run P w = .ok (.value v) w)
    (h : wpHo P ops S F l (a.put o.dst v) w) : wpHo P ops S F ((i, false) :: l) a w := ⟨o, v, ho, .inl ⟨hw, hy⟩, h⟩
/-- The same, for a walk: what follows is a letter, the value is found by the operation. -/
theorem wpHo_q' {i : Nat} {lo : List Oper} {l : List (Nat × Bool)} {a : Act} {w : World} {o : Oper} (ho : lo[i]? = some o) (hw : Region.wanted o (yielded lo.toArray a.tmps) = true)
    (h : ∀ K : Act → Prop, (∀ a', wpHo P lo.toArray S F l a' w → K a') → ∃ v, (∀ w, S w → (execOp a.eval o).run P w = .ok (.value v) w) ∧ K (a.put o.dst v)) : wpHo P lo.toArray S F ((i, false) :: l) a w := by
  obtain ⟨v, h1, h2⟩ := h _ (fun _ h => h)
  exact wpHo_q (by rw [List.getElem?_toArray]; exact ho) hw h1 h2
theorem run_load_op {o : Oper} {a : Act} {w : World} {v : Value} (t : TypeId) (x : Operand) (pv : Value) (hop : o.op = Op.load t x) (hx : a.eval x = pv) (hrun : (Instr.loadAt t pv).run P w = .ok v w) : (execOp a.eval o).run P w = .ok (.value v) w := by
  unfold execOp
  simp only [hop, hx, hrun, Sem.run_bind, Sem.run_pure, Result.andThen_ok]
theorem wpHo_call {i : Nat} {lo : List Oper} {l : List (Nat × Bool)} {a : Act} {w : World} {o : Oper} (ho : lo[i]? = some o) (hg : o.guard = none)
    (h : ∀ K : Value → World → Prop, (∀ v w', S w' → wpHo P lo.toArray S F l (a.put o.dst v) w' → K v w') → Oper.semiAt P o a K w) : wpHo P lo.toArray S F ((i, true) :: l) a w :=
  ⟨o, by rw [List.getElem?_toArray]; exact ho, hg, h _ (fun _ _ h1 h2 => ⟨h1, h2⟩)⟩
end
end Go.Proofs.YtlegcfjafdihlaaGreatDoor
/-
  readReg of the reference. Conditions: a valid machine; an offset of a register.
-/
namespace Go.Proofs.YtlegcfjafdihlaaGreatDoor
open Go.RowKit
set_option linter.unusedSimpArgs false
set_option linter.unusedVariables false
set_option maxHeartbeats 4000000
set_option maxRecDepth 100000
attribute [local irreducible] wpQuiet

theorem Ma.parts {A : Ma} (h : A.right = true) : A.L.length ≤ 4 ∧ (∀ x ∈ A.L, x.right = true) ∧ rightP A.M A.B = true ∧ A.U.right = true ∧ A.k.right = true ∧ A.K.right = true ∧ A.T.right = true := by
  unfold Ma.right at h
  simp only [Bool.and_eq_true, decide_eq_true_eq, List.all_eq_true] at h
  obtain ⟨⟨⟨⟨⟨⟨h1, h2⟩, h3⟩, h4⟩, h5⟩, h6⟩, h7⟩ := h
  exact ⟨h1, h2, h3, h4, h5, h6, h7⟩
end Go.Proofs.YtlegcfjafdihlaaGreatDoor
/-
  writeReg of the reference. Conditions: a valid machine; an offset of a register.
-/
namespace Go.Proofs.YtlegcfjafdihlaaGreatDoor
open Go.RowKit
set_option linter.unusedSimpArgs false
set_option linter.unusedVariables false
set_option maxHeartbeats 4000000
set_option maxRecDepth 100000
attribute [local irreducible] wpQuiet

/-- What the words of a machine read as. -/
structure MaV (X : Nat → Prop) (w : World) (A : Ma) (vm vb vl vs vd vt : Value) : Prop where
  m : ItsX X w vm A.M
  b : ItsX X w vb A.B
  l : LnsX X w vl A.L
  s : StsX X w vs A.K.D.S
  d : ItsX X w vd A.K.D.B
  t : StsX X w vt A.T.R
theorem LnsX.now {X : Nat → Prop} {w : World} {v : Value} {l : List Ln} (h : LnsX X w v l) : Lns w v l := Sv.now h
theorem rz_one {w : World} {v : Value} {n : Nat} {cs : List Value} (h : Rz w v n cs) : v.oneCell' = true := by
  obtain ⟨⟨A, c, rfl, _⟩, _⟩ := h
  rfl
section
variable {X : Nat → Prop} {w : World} {A : Ma} {vm vb vl vs vd vt : Value} (h : MaV X w A vm vb vl vs vd vt)
include h
theorem MaV.now : MaNow w A vm vb vl vs vd vt := ⟨h.m.now, h.b.now, h.l.now, h.s.now, h.d.now, h.t.now⟩
theorem MaV.below {w' : World} (hb : Below w.heap.size w w') : MaV X w' A vm vb vl vs vd vt := ⟨Sv.below h.m hb, Sv.below h.b hb, Sv.below h.l hb, Sv.below h.s hb, Sv.below h.d hb, Sv.below h.t hb⟩
theorem MaV.weak {Y : Nat → Prop} {w' : World} (hb : Below w.heap.size w w') (hY : ∀ b, b < w.heap.size → Y b → X b) : MaV Y w' A vm vb vl vs vd vt := ⟨Sv.weak h.m hb hY, Sv.weak h.b hb hY, Sv.weak h.l hb hY, Sv.weak h.s hb hY, Sv.weak h.d hb hY, Sv.weak h.t hb hY⟩
theorem MaV.x : MaX X w (.agg (A.cells vm vb vl vs vd vt).toArray) A := ⟨_, _, _, _, _, _, rfl, h.m, h.b, h.l, h.s, h.d, h.t⟩
theorem MaV.o1 : vm.oneCell' = true := rz_one h.m.now
theorem MaV.o2 : vb.oneCell' = true := rz_one h.b.now
theorem MaV.o3 : vl.oneCell' = true := rz_one h.l.now
theorem MaV.o4 : vs.oneCell' = true := rz_one h.s.now
theorem MaV.o5 : vd.oneCell' = true := rz_one h.d.now
theorem MaV.o6 : vt.oneCell' = true := rz_one h.t.now
end
theorem Sv.over18 {X : Nat → Prop} {B : Nat} {w w' : World} {v : Value} {n : Nat} {cs : List Value} (h : Sv X w v n cs) (hk : ∀ k, k ≠ B → w'.heap[k]? = w.heap[k]?) (hB : X B) : Sv X w' v n cs := h.off (fun b _ hx => hk b (fun e => hx (e ▸ hB))) (fun _ _ h => h)
end Go.Proofs.YtlegcfjafdihlaaGreatDoor
