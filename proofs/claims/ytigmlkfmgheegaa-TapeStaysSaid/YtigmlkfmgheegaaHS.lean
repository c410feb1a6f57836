import Derived.Test.YtigmlkfmgheegaaDvE
import Derived.Test.YtigmlkfmgheegaaAlc
import Derived.OrdersHeld
/-
  Rows of the call's own and boxes behind an operation that turns one block: told apart by their elements' types. General. No condition.
-/
namespace Go.Proofs.Ytigmlkfmgheegaa
open Go.RowKit
set_option linter.unusedSimpArgs false
set_option linter.unusedVariables false

theorem Bag.same {l : List (Nat × TypeId × List Value)} {w0 w w' : World} (h : Bag l w0 w) (hk : ∀ b ∈ l, w'.heap[b.1]? = w.heap[b.1]?) (hb : Below w0.heap.size w0 w') : Bag l w0 w' := ⟨fun B t cs hm => (hk _ hm).trans (h.all B t cs hm), hb, h.lo, h.dis⟩
theorem own_keep {w w' : World} {base n s : Nat} {t : TypeId} {v : Value} {xs : List Value} (h : w.ownsRow base t s v n xs) (hk : ∀ k, base ≤ k → k < w.heap.size → w'.heap[k]? = w.heap[k]?) : w'.ownsRow base t s v n xs := by
  refine ⟨h.1, ?_⟩
  rcases h.2 with h0 | ⟨g, cap, cur, hv, hg, hh, r⟩
  · exact .inl h0
  · exact .inr ⟨g, cap, cur, hv, hg, (hk g hg (Array.getElem?_eq_some_iff.1 hh).1).trans hh, r⟩
theorem own_blk {w : World} {base n s : Nat} {t : TypeId} {v : Value} {xs : List Value} (h : w.ownsRow base t s v n xs) : ∀ a m c, v = .slice (some a) m c → base ≤ a.block ∧ a.block < w.heap.size := by
  intro a m c hv
  rcases h.2 with ⟨h0, _⟩ | ⟨g, cap, cur, h0, hg, hh, r⟩
  · rw [hv] at h0; cases h0
  · rw [hv] at h0; cases h0
    exact ⟨hg, (Array.getElem?_eq_some_iff.1 hh).1⟩
theorem two_bag (w : World) (t1 t2 : TypeId) (cs ds : List Value) : Bag [(w.heap.size + 1, t2, ds), (w.heap.size, t1, cs)] w ((w.alloc (.cells cs.toArray t1)).alloc (.cells ds.toArray t2)) := by
  have h := ((Bag.nil w).new t1 cs).new t2 ds
  rw [show (w.alloc (.cells cs.toArray t1)).heap.size = w.heap.size + 1 from Array.size_push ..] at h
  exact h
theorem size_over {w w' : World} {B : Nat} (hk : ∀ k, k ≠ B → w'.heap[k]? = w.heap[k]?) (hB : B < w'.heap.size) : w.heap.size ≤ w'.heap.size := by
  rcases Nat.lt_or_ge w'.heap.size w.heap.size with h | h
  · have := lt_of_same h (hk _ (by omega)); omega
  · exact h
theorem own_lt {w : World} {base n s : Nat} {t : TypeId} {v : Value} {xs : List Value} (h : w.ownsRow base t s v n xs) (h0 : 0 < n) : base ≤ w.heap.size := by
  obtain ⟨g, cap, _, _, _, h1, h2, _⟩ := own_at h h0
  omega
theorem own_ofne {w w' : World} {base n s : Nat} {t : TypeId} {v : Value} {xs : List Value} (h : w.ownsRow base t s v n xs) (hk : ∀ (g : Nat) (cur : Array Value), w.heap[g]? = some (Obj.cells cur t (0, 0)) → w'.heap[g]? = w.heap[g]?) : w'.ownsRow base t s v n xs := by
  refine ⟨h.1, ?_⟩
  rcases h.2 with h0 | ⟨g, cap, cur, hv, hg, hh, r⟩
  · exact .inl h0
  · exact .inr ⟨g, cap, cur, hv, hg, (hk g cur hh).trans hh, r⟩
theorem grown_ne {w w' : World} {base n s : Nat} {e t : TypeId} {u : Value} {ys : List Value} (ho : w.ownsRow base e s u n ys) (ht : t ≠ e) (hg : w.grownBy w' u.ownBlock) {g : Nat} {cur : Array Value} (h : w.heap[g]? = some (.cells cur t (0, 0))) : w'.heap[g]? = w.heap[g]? := by
  refine hg.block g (Array.getElem?_eq_some_iff.1 h).1 (fun e1 => ?_)
  rcases ho.2 with ⟨h0, _⟩ | ⟨g2, cap, cur2, hv, _, hh, r⟩
  · rw [h0] at e1; cases e1
  · rw [hv] at e1
    cases e1
    rw [h] at hh
    cases hh
    exact ht rfl
theorem own_grown {w w' : World} {base b2 n m s s2 : Nat} {e t : TypeId} {v u : Value} {xs ys : List Value} (h : w.ownsRow base t s v n xs) (ho : w.ownsRow b2 e s2 u m ys) (ht : t ≠ e) (hg : w.grownBy w' u.ownBlock) : w'.ownsRow base t s v n xs :=
  own_ofne h (fun g cur hh => grown_ne ho ht hg hh)
theorem bag_grown {l : List (Nat × TypeId × List Value)} {w0 w w' : World} {base m s : Nat} {e : TypeId} {u : Value} {ys : List Value} (hX : Bag l w0 w) (ho : w.ownsRow base e s u m ys) (ht : ∀ q ∈ l, q.2.1 ≠ e) (hg : w.grownBy w' u.ownBlock) (hN : base ≤ w.heap.size) (hw : w0.heap.size ≤ base) : Bag l w0 w' :=
  hX.same (fun q hq => grown_ne ho (ht q hq) hg (hX.all q.1 q.2.1 q.2.2 hq)) (hX.below.trans (((Below.refl base w).grown hg hN (fun j hj => (World.ownsRow.lt ho j hj).1)).mono hw))
theorem own_over {l : List (Nat × TypeId × List Value)} {w0 w w' : World} {B base n s : Nat} {e t : TypeId} {v : Value} {xs cs : List Value} (hX : Bag ((B, t, cs) :: l) w0 w) (h : w.ownsRow base e s v n xs) (ht : t ≠ e) (hk : ∀ k, k ≠ B → w'.heap[k]? = w.heap[k]?) : w'.ownsRow base e s v n xs :=
  own_ofne h (fun g cur hh => hk g (fun e1 => by
    have h1 := hX.all _ _ _ (.head _)
    unfold Blk at h1
    rw [← e1, hh] at h1
    cases h1
    exact ht rfl))
theorem below_new {w w' : World} {o : Obj} (h : w' = w.alloc o) : Below w.heap.size w w' := by rw [h]; exact (Below.refl _ _).alloc (Nat.le_refl _) _
end Go.Proofs.Ytigmlkfmgheegaa

/-
  A region that draws its order: loads first, whichever order is drawn; calls whose answers hang on the world, each of which comes up alone; then operations, each of which waits for all before it. Walked once. General. No condition.
-/
namespace Go.Proofs.Ytigmlkfmgheegaa
open Go Go.RowKit
set_option linter.unusedVariables false

section
variable {P : Program} {ops : Array Oper} {md : Region.Mode} {Q : Exit → Act → World → Prop} {S : World → Prop}

def wpHT (P : Program) (md : Region.Mode) (ops : Array Oper) (Q : Exit → Act → World → Prop) (S : World → Prop) (L : Array Bool → Act → World → Prop) : Nat → Array Bool → Act → World → Prop
  | 0, listed, a, w => L listed a w
  | f + 1, listed, a, w => Region.ready md ops listed ≠ [] ∧ ∀ i ∈ Region.ready md ops listed, wpOp P ops Q i (fun a' w' => S w' ∧ wpHT P md ops Q S L f (listed.setIfInBounds i true) a' w') a w

theorem wpAny_of_HT {g : Nat} {L : Array Bool → Act → World → Prop} (hL : ∀ listed a w, L listed a w → wpAny P md ops Q g listed a w) :
    ∀ (f : Nat) (listed : Array Bool) (a : Act) (w : World), wpHT P md ops Q S L f listed a w → wpAny P md ops Q (f + g) listed a w
  | 0, listed, a, w, h => by rw [Nat.zero_add]; exact hL _ _ _ h
  | f + 1, listed, a, w, h => by
    rw [show f + 1 + g = (f + g) + 1 by omega]
    exact ⟨fun h0 => absurd h0 h.1, fun i hi => wpOp_mono (fun a' w' h' => wpAny_of_HT hL f _ a' w' h'.2) (h.2 i hi)⟩

/-- What may come up and yields in every world of S may be taken first. -/
theorem wpHT_first {n i : Nat} {oi : Oper} {v : Value} {L : Array Bool → Act → World → Prop} (hi : ops[i]? = some oi) (hsel : ∀ (j : Nat) (o : Oper) cs b, ops[j]? = some o → o.op ≠ .select cs b)
    (hQ : ∀ c a w, Q (.panic c) (a.put oi.dst v) w → Q (.panic c) a w)
    (hs : Region.sinkB md ops n = true) (hc : Region.chainB md ops n = true) (hn : n < ops.size) (hin : i < n)
    (hdone : ∀ listed a w, L listed a w → ∀ j ∈ Region.ready md ops listed, n ≤ j) :
    ∀ (f : Nat) (listed : Array Bool) (a : Act) (w : World), HeadInv md ops n listed →
      (∀ j oj, ops[j]? = some oj → j ≠ i → listed.getD j true = false → (∀ e ∈ oj.after, Region.binds md e = true → e.on ≠ i) → oi.apart ops oj = true) →
      i ∈ Region.ready md ops listed → YieldsIf P ops S oi v a → S w →
      wpHT P md ops Q S L f (listed.setIfInBounds i true) (a.put oi.dst v) w → wpHT P md ops Q S L (f + 1) listed a w := by
  intro f
  induction f with
  | zero =>
    intro listed a w inv _ hr hy hS H
    have hun := (mem_ready.1 hr).1
    refine ⟨fun h => (by rw [h] at hr; cases hr), fun j hj => ?_⟩
    by_cases hji : j = i
    · subst hji; exact hy.wpOp hi hS ⟨hS, H⟩
    · exfalso
      have hjn : j < n := by
        rcases Nat.lt_or_ge j n with h | h
        · exact h
        · exact absurd hj (tail_waits hs hc hn inv _ i rfl hin hun j h)
      have := hdone _ _ _ H j (ready_mono hj hji)
      omega
  | succ f ih =>
    intro listed a w inv hfree hr hy hS H
    have hun := (mem_ready.1 hr).1
    refine ⟨fun h => (by rw [h] at hr; cases hr), fun j hj => ?_⟩
    have hjn : j < n := by
      rcases Nat.lt_or_ge j n with h | h
      · exact h
      · exact absurd hj (tail_waits hs hc hn inv _ i rfl hin hun j h)
    by_cases hji : j = i
    · subst hji; exact hy.wpOp hi hS ⟨hS, H⟩
    · have h1 := H.2 j (ready_mono hj hji)
      obtain ⟨hjun, oj, hoj, hall⟩ := mem_ready.1 hj
      have hnot : ∀ e ∈ oj.after, Region.binds md e = true → e.on ≠ i := fun e he hb heq => by
        have h1 := hall e he hb
        rw [heq, getD_both hun] at h1
        cases h1
      have h2 := wpOp_putIf hoj (hfree j oj hoj hji hjun hnot) (fun cs b => hsel i oi cs b hi) (fun cs b => hsel j oj cs b hoj) hQ hy h1
      refine wpOp_mono (fun a' w' h3 => ⟨h3.2.1, ih (listed.setIfInBounds j true) a' w' (inv.set hj hjn) (fun k ok hk hki hunk hno => hfree k ok hk hki (by
        by_cases hjk : j = k
        · subst hjk; exact hjun
        · rw [getD_set_ne true hjk] at hunk; exact hunk) hno) (ready_mono hr (Ne.symm hji)) h3.1 h3.2.1 (by rw [Array.setIfInBounds_comm _ _ hji]; exact h3.2.2)⟩) h2

/-- May the operations be taken in this order: the quiet ones first, each call alone; and then the rest in a row? -/
def hoB (md : Region.Mode) (ops : Array Oper) (n g : Nat) : List (Nat × Bool) → Array Bool → Bool
  | [], listed => Region.seqB md ops g n listed
  | (i, false) :: l, listed => decide (i < n) && (Region.ready md ops listed).contains i && Region.free md ops listed i && hoB md ops n g l (listed.setIfInBounds i true)
  | (i, true) :: l, listed => decide (i < n) && decide (Region.ready md ops listed = [i]) && hoB md ops n g l (listed.setIfInBounds i true)
def wpHo (P : Program) (ops : Array Oper) (S : World → Prop) (F : Act → World → Prop) : List (Nat × Bool) → Act → World → Prop
  | [], a, w => F a w
  | (i, false) :: l, a, w => ∃ o v, ops[i]? = some o ∧ YieldsIf P ops S o v a ∧ wpHo P ops S F l (a.put o.dst v) w
  | (i, true) :: l, a, w => ∃ o, ops[i]? = some o ∧ o.guard = none ∧ Oper.semiAt P o a (fun v w' => S w' ∧ wpHo P ops S F l (a.put o.dst v) w') w

theorem wpHT_of_ho {n g : Nat} {F : Act → World → Prop} (hsel : Region.noSelect ops = true) (hs : Region.sinkB md ops n = true) (hc : Region.chainB md ops n = true) (hn : n < ops.size)
    (hQ : ∀ c a d v w, Q (.panic c) (a.put d v) w → Q (.panic c) a w) :
    ∀ (l : List (Nat × Bool)) (listed : Array Bool) (a : Act) (w : World), HeadInv md ops n listed → hoB md ops n g l listed = true → S w → wpHo P ops S F l a w →
    wpHT P md ops Q S (fun listed' a' w' => Region.seqB md ops g n listed' = true ∧ F a' w') l.length listed a w
  | [], listed, a, w, _, hB, _, h => ⟨hB, h⟩
  | (i, false) :: l, listed, a, w, inv, hB, hS, h => by
    obtain ⟨o, v, ho, hy, h⟩ := h
    simp only [hoB, Bool.and_eq_true, decide_eq_true_eq] at hB
    obtain ⟨⟨⟨hin, hr⟩, hf⟩, hB'⟩ := hB
    have hr' : i ∈ Region.ready md ops listed := by simpa using hr
    exact wpHT_first ho (Region.noSelect_spec hsel) (fun c a w => hQ c a _ _ w) hs hc hn hin (fun listed' a' w' hL => seqB_ready hL.1) l.length listed a w inv (Region.free_spec ho hf) hr' hy hS
      (wpHT_of_ho hsel hs hc hn hQ l _ _ _ (inv.set hr' hin) hB' hS h)
  | (i, true) :: l, listed, a, w, inv, hB, hS, h => by
    obtain ⟨o, ho, hg, h⟩ := h
    simp only [hoB, Bool.and_eq_true, decide_eq_true_eq] at hB
    obtain ⟨⟨hin, hr⟩, hB'⟩ := hB
    have hr' : i ∈ Region.ready md ops listed := by rw [hr]; simp
    refine ⟨by rw [hr]; simp, fun j hj => ?_⟩
    rw [hr] at hj
    obtain rfl : j = i := by simpa using hj
    exact wp_semi ho hg h (fun v w' hR => ⟨hR.1, wpHT_of_ho hsel hs hc hn hQ l _ _ _ (inv.set hr' hin) hB' hR.1 hR.2⟩)

theorem region_hoist {id : Nat} {a : Act} {w : World} {l : List Oper} (S : World → Prop) (n : Nat) (ord : List (Nat × Bool)) (hm : P.follows .mixedOrders = true)
    (hB : (Region.noSelect l.toArray && decide (n < l.toArray.size) && Region.sinkB .any l.toArray n && Region.chainB .any l.toArray n && decide (ord.length = n) && hoB .any l.toArray n (l.toArray.size - n) ord (Array.replicate l.toArray.size false)) = true)
    (hQ : ∀ c a d v w, Q (.panic c) (a.put d v) w → Q (.panic c) a w) (hS : S w.drew)
    (h : wpHo P l.toArray S (fun a' w' => wpList P l.toArray Q (l.drop n) a' w') ord a w.drew) : (Code.region id l.toArray true).wp P Q a w := by
  simp only [Bool.and_eq_true, decide_eq_true_eq] at hB
  obtain ⟨⟨⟨⟨⟨hsel, hn⟩, hs⟩, hc⟩, hlen⟩, hho⟩ := hB
  have hdl : (l.drop n).length = l.toArray.size - n := by simp
  have inv0 : HeadInv .any l.toArray n (Array.replicate l.toArray.size false) :=
    ⟨by simp, fun j oj _ hl => (by rw [getD_replicate_false] at hl; cases hl), fun t _ ht => getD_in (by simpa using ht) (getD_replicate_false _ _)⟩
  have H := wpHT_of_ho (md := .any) (Q := Q) (g := l.toArray.size - n) hsel hs hc hn hQ ord _ a w.drew inv0 hho hS h
  refine wp_region_any hm ?_
  have := wpAny_of_HT (Q := Q) (g := l.toArray.size - n) (fun listed a' w' hL => by
    have := wpAny_of_seq (md := .any) (Q' := Q) (l.drop n) n listed a' w' (fun j => by simp [List.getElem?_drop]) (by rw [hdl]; exact hL.1) hL.2
    rwa [hdl] at this) _ _ _ _ H
  rw [hlen, show n + (l.toArray.size - n) = l.toArray.size by omega] at this
  exact this
variable {F : Act → World → Prop}
theorem wpHo_nil {a : Act} {w : World} (h : F a w) : wpHo P ops S F [] a w := h
theorem wpHo_q {i : Nat} {l : List (Nat × Bool)} {a : Act} {w : World} {o : Oper} {v : Value} (ho : ops[i]? = some o) (hw : Region.wanted o (yielded ops a.tmps) = true) (hy : ∀ w, S w → (execOp a.eval o).run P w = .ok (.value v) w)
    (h : wpHo P ops S F l (a.put o.dst v) w) : wpHo P ops S F ((i, false) :: l) a w := ⟨o, v, ho, .inl ⟨hw, hy⟩, h⟩
/-- The same, for a walk: what follows is a letter, the value is found by the operation. -/
theorem wpHo_q' {i : Nat} {lo : List Oper} {l : List (Nat × Bool)} {a : Act} {w : World} {o : Oper} (ho : lo[i]? = some o) (hw : Region.wanted o (yielded lo.toArray a.tmps) = true)
    (h : ∀ K : Act → Prop, (∀ a', wpHo P lo.toArray S F l a' w → K a') → ∃ v, (∀ w, S w → (execOp a.eval o).run P w = .ok (.value v) w) ∧ K (a.put o.dst v)) : wpHo P lo.toArray S F ((i, false) :: l) a w := by
  obtain ⟨v, h1, h2⟩ := h _ (fun _ h => h)
  exact wpHo_q (by rw [List.getElem?_toArray]; exact ho) hw h1 h2
theorem run_load_op {o : Oper} {a : Act} {w : World} {v : Value} (t : TypeId) (x : Operand) (pv : Value) (hop : o.op = Op.load t x) (hx : a.eval x = pv) (hrun : (Instr.loadAt t pv).run P w = .ok v w) : (execOp a.eval o).run P w = .ok (.value v) w := by
  unfold execOp
  simp only [hop, hx, hrun, Sem.run_bind, Sem.run_pure, Result.andThen_ok]
theorem wpHo_call {i : Nat} {lo : List Oper} {l : List (Nat × Bool)} {a : Act} {w : World} {o : Oper} (ho : lo[i]? = some o) (hg : o.guard = none)
    (h : ∀ K : Value → World → Prop, (∀ v w', S w' → wpHo P lo.toArray S F l (a.put o.dst v) w' → K v w') → Oper.semiAt P o a K w) : wpHo P lo.toArray S F ((i, true) :: l) a w :=
  ⟨o, by rw [List.getElem?_toArray]; exact ho, hg, h _ (fun _ _ h1 h2 => ⟨h1, h2⟩)⟩
end
end Go.Proofs.Ytigmlkfmgheegaa

/-
  XHo's region once more: what comes up alone may be any operation (a store into a box, too), not only a call. General. No condition.
-/
namespace Go.Proofs.Ytigmlkfmgheegaa
open Go Go.RowKit
set_option linter.unusedVariables false
set_option linter.unusedSimpArgs false

section
variable {P : Program} {ops : Array Oper} {md : Region.Mode} {Q : Exit → Act → World → Prop} {S : World → Prop}
def wpHp (P : Program) (ops : Array Oper) (Q : Exit → Act → World → Prop) (S : World → Prop) (F : Act → World → Prop) : List (Nat × Bool) → Act → World → Prop
  | [], a, w => F a w
  | (i, false) :: l, a, w => ∃ o v, ops[i]? = some o ∧ YieldsIf P ops S o v a ∧ wpHp P ops Q S F l (a.put o.dst v) w
  | (i, true) :: l, a, w => wpOp P ops Q i (fun a' w' => S w' ∧ wpHp P ops Q S F l a' w') a w

theorem wpHT_of_hp {n g : Nat} {F : Act → World → Prop} (hsel : Region.noSelect ops = true) (hs : Region.sinkB md ops n = true) (hc : Region.chainB md ops n = true) (hn : n < ops.size)
    (hQ : ∀ c a d v w, Q (.panic c) (a.put d v) w → Q (.panic c) a w) :
    ∀ (l : List (Nat × Bool)) (listed : Array Bool) (a : Act) (w : World), HeadInv md ops n listed → hoB md ops n g l listed = true → S w → wpHp P ops Q S F l a w →
    wpHT P md ops Q S (fun listed' a' w' => Region.seqB md ops g n listed' = true ∧ F a' w') l.length listed a w
  | [], listed, a, w, _, hB, _, h => ⟨hB, h⟩
  | (i, false) :: l, listed, a, w, inv, hB, hS, h => by
    obtain ⟨o, v, ho, hy, h⟩ := h
    simp only [hoB, Bool.and_eq_true, decide_eq_true_eq] at hB
    obtain ⟨⟨⟨hin, hr⟩, hf⟩, hB'⟩ := hB
    have hr' : i ∈ Region.ready md ops listed := by simpa using hr
    exact wpHT_first ho (Region.noSelect_spec hsel) (fun c a w => hQ c a _ _ w) hs hc hn hin (fun listed' a' w' hL => seqB_ready hL.1) l.length listed a w inv (Region.free_spec ho hf) hr' hy hS
      (wpHT_of_hp hsel hs hc hn hQ l _ _ _ (inv.set hr' hin) hB' hS h)
  | (i, true) :: l, listed, a, w, inv, hB, hS, h => by
    simp only [hoB, Bool.and_eq_true, decide_eq_true_eq] at hB
    obtain ⟨⟨hin, hr⟩, hB'⟩ := hB
    have hr' : i ∈ Region.ready md ops listed := by rw [hr]; simp
    refine ⟨by rw [hr]; simp, fun j hj => ?_⟩
    rw [hr] at hj
    obtain rfl : j = i := by simpa using hj
    exact wpOp_mono (fun a' w' h => ⟨h.1, wpHT_of_hp hsel hs hc hn hQ l _ _ _ (inv.set hr' hin) hB' h.1 h.2⟩) h

theorem region_hoistS {id : Nat} {a : Act} {w : World} {l : List Oper} (S : World → Prop) (n : Nat) (ord : List (Nat × Bool)) (hm : P.follows .mixedOrders = true)
    (hB : (Region.noSelect l.toArray && decide (n < l.toArray.size) && Region.sinkB .any l.toArray n && Region.chainB .any l.toArray n && decide (ord.length = n) && hoB .any l.toArray n (l.toArray.size - n) ord (Array.replicate l.toArray.size false)) = true)
    (hQ : ∀ c a d v w, Q (.panic c) (a.put d v) w → Q (.panic c) a w) (hS : S w.drew)
    (h : wpHp P l.toArray Q S (fun a' w' => wpList P l.toArray Q (l.drop n) a' w') ord a w.drew) : (Code.region id l.toArray true).wp P Q a w := by
  simp only [Bool.and_eq_true, decide_eq_true_eq] at hB
  obtain ⟨⟨⟨⟨⟨hsel, hn⟩, hs⟩, hc⟩, hlen⟩, hho⟩ := hB
  have hdl : (l.drop n).length = l.toArray.size - n := by simp
  have inv0 : HeadInv .any l.toArray n (Array.replicate l.toArray.size false) :=
    ⟨by simp, fun j oj _ hl => (by rw [getD_replicate_false] at hl; cases hl), fun t _ ht => getD_in (by simpa using ht) (getD_replicate_false _ _)⟩
  have H := wpHT_of_hp (md := .any) (Q := Q) (g := l.toArray.size - n) hsel hs hc hn hQ ord _ a w.drew inv0 hho hS h
  refine wp_region_any hm ?_
  have := wpAny_of_HT (Q := Q) (g := l.toArray.size - n) (fun listed a' w' hL => by
    have := wpAny_of_seq (md := .any) (Q' := Q) (l.drop n) n listed a' w' (fun j => by simp [List.getElem?_drop]) (by rw [hdl]; exact hL.1) hL.2
    rwa [hdl] at this) _ _ _ _ H
  rw [hlen, show n + (l.toArray.size - n) = l.toArray.size by omega] at this
  exact this
variable {F : Act → World → Prop}
theorem Bag.restS {b : Nat × TypeId × List Value} {l : List (Nat × TypeId × List Value)} {w0 w : World} (h : Bag (b :: l) w0 w) : Bag l w0 w := ⟨fun B t cs hm => h.all B t cs (.tail _ hm), h.below, fun q hq => h.lo q (.tail _ hq), (List.pairwise_cons.1 h.dis).2⟩
theorem wpHp_nil {a : Act} {w : World} (h : F a w) : wpHp P ops Q S F [] a w := h
theorem wpHp_q' {i : Nat} {lo : List Oper} {l : List (Nat × Bool)} {a : Act} {w : World} {o : Oper} (ho : lo[i]? = some o) (hw : Region.wanted o (yielded lo.toArray a.tmps) = true)
    (h : ∀ K : Act → Prop, (∀ a', wpHp P lo.toArray Q S F l a' w → K a') → ∃ v, (∀ w, S w → (execOp a.eval o).run P w = .ok (.value v) w) ∧ K (a.put o.dst v)) : wpHp P lo.toArray Q S F ((i, false) :: l) a w := by
  obtain ⟨v, h1, h2⟩ := h _ (fun _ h => h)
  exact ⟨o, v, by rw [List.getElem?_toArray]; exact ho, .inl ⟨hw, h1⟩, h2⟩
theorem wpHp_call {i : Nat} {lo : List Oper} {l : List (Nat × Bool)} {a : Act} {w : World} {o : Oper} (ho : lo[i]? = some o) (hg : o.guard = none)
    (h : ∀ K : Value → World → Prop, (∀ v w', S w' → wpHp P lo.toArray Q S F l (a.put o.dst v) w' → K v w') → Oper.semiAt P o a K w) : wpHp P lo.toArray Q S F ((i, true) :: l) a w :=
  wp_semi (R := fun v w' => S w' ∧ wpHp P lo.toArray Q S F l (a.put o.dst v) w') (by rw [List.getElem?_toArray]; exact ho) hg (h _ (fun _ _ h1 h2 => ⟨h1, h2⟩)) (fun v w' h => h)
/-- A box is stored whole. -/
theorem wpHp_over {i : Nat} {lo : List Oper} {l : List (Nat × Bool)} {lb : List (Nat × TypeId × List Value)} {a : Act} {w w0 : World} {o : Oper} {B n : Nat} {t T : TypeId} {cs cs' : List Value} (ho : lo[i]? = some o) (hg : o.guard = none) (hX : Bag ((B, t, cs) :: lb) w0 w) (hagg : ∀ w, (isAgg T).run P w = .ok true w) (hsz : ∀ w, (sizeOf T).run P w = .ok n w) (x y : Operand) (hop : o.op = Op.store T x y) (hx : a.eval x = .pointer (some ⟨B, 0, none⟩)) (hy : a.eval y = .agg cs'.toArray) (hdst : o.dst = none) (hn : cs'.length = n) (hc : cs.length = n) (h1 : ∀ v ∈ cs', v.oneCell' = true)
    (h : ∀ w2, Bag ((B, t, cs') :: lb) w0 w2 → (∀ k, k ≠ B → w2.heap[k]? = w.heap[k]?) → S w2 ∧ wpHp P lo.toArray Q S F l (a.put none undef) w2) : wpHp P lo.toArray Q S F ((i, true) :: l) a w := by
  have hwant : Region.wanted o (yielded lo.toArray a.tmps) = true := by unfold Region.wanted; rw [hg]
  have hi : lo.toArray[i]? = some o := by rw [List.getElem?_toArray]; exact ho
  have hrun := (hX.all _ _ _ List.mem_cons_self).store_run (P := P) (cs' := cs') (by rw [hn, hc]) h1
  show wpOp _ _ _ _ _ _ _
  unfold wpOp
  simp only [hi, hwant, if_true]
  refine .inl ?_
  unfold Oper.wp execOp
  simp only [hop, hx, hy, Instr.storeAt, Instr.sureAddr, storeVar, Value.cells, hrun, hagg, hn ▸ hsz, hsz, hn, List.size_toArray, ne_eq, not_true_eq_false, if_false, Sem.run_bind, Sem.run_pure, Result.andThen_ok, if_true]
  show _ ∧ _
  rw [hdst]
  exact h _ (hX.over _) (fun k hk => setRow_other w B k _ hk)
end
end Go.Proofs.Ytigmlkfmgheegaa

/-
  XHoS's region with allocations that may come up at any time (a pool): at each operation that comes up alone, one of the pool may come first. General. No condition.
-/
namespace Go.Proofs.Ytigmlkfmgheegaa
open Go Go.RowKit
set_option linter.unusedVariables false
set_option linter.unusedSimpArgs false

section
variable {P : Program} {ops : Array Oper} {md : Region.Mode} {Q : Exit → Act → World → Prop} {S : World → Prop}
def wpFl (P : Program) (ops : Array Oper) (Q : Exit → Act → World → Prop) (S : World → Prop) (F : Act → World → Prop) : Nat → List Nat → List (Nat × Bool) → Act → World → Prop
  | 0, _, _, a, w => F a w
  | f + 1, pool, [], a, w => ∀ j ∈ pool, wpOp P ops Q j (fun a' w' => S w' ∧ wpFl P ops Q S F f (pool.erase j) [] a' w') a w
  | f + 1, pool, (i, false) :: l, a, w => ∃ o v, ops[i]? = some o ∧ YieldsIf P ops S o v a ∧ wpFl P ops Q S F f pool l (a.put o.dst v) w
  | f + 1, pool, (i, true) :: l, a, w => wpOp P ops Q i (fun a' w' => S w' ∧ wpFl P ops Q S F f pool l a' w') a w ∧ ∀ j ∈ pool, wpOp P ops Q j (fun a' w' => S w' ∧ wpFl P ops Q S F f (pool.erase j) ((i, true) :: l) a' w') a w
/-- May the operations be taken so, whenever those of the pool come up? -/
def flB (md : Region.Mode) (ops : Array Oper) (n g : Nat) (l2 : List (Nat × Bool)) : Nat → List Nat → List (Nat × Bool) → Array Bool → Bool
  | 0, pool, main, listed => pool.isEmpty && main.isEmpty && hoB md ops n g l2 listed
  | f + 1, pool, [], listed => !(Region.ready md ops listed).isEmpty && (Region.ready md ops listed).all (fun j => pool.contains j) && pool.all (fun j => decide (j < n) && flB md ops n g l2 f (pool.erase j) [] (listed.setIfInBounds j true))
  | f + 1, pool, (i, false) :: l, listed => decide (i < n) && (Region.ready md ops listed).contains i && Region.free md ops listed i && flB md ops n g l2 f pool l (listed.setIfInBounds i true)
  | f + 1, pool, (i, true) :: l, listed => decide (i < n) && (Region.ready md ops listed).contains i && (Region.ready md ops listed).all (fun j => j == i || pool.contains j) && flB md ops n g l2 f pool l (listed.setIfInBounds i true) && pool.all (fun j => decide (j < n) && flB md ops n g l2 f (pool.erase j) ((i, true) :: l) (listed.setIfInBounds j true))

theorem wpHT_of_fl {n g : Nat} {F : Act → World → Prop} {l2 : List (Nat × Bool)} (hsel : Region.noSelect ops = true) (hs : Region.sinkB md ops n = true) (hc : Region.chainB md ops n = true) (hn : n < ops.size)
    (hQ : ∀ c a d v w, Q (.panic c) (a.put d v) w → Q (.panic c) a w) :
    ∀ (f : Nat) (pool : List Nat) (main : List (Nat × Bool)) (listed : Array Bool) (a : Act) (w : World), HeadInv md ops n listed → flB md ops n g l2 f pool main listed = true → S w → wpFl P ops Q S (wpHp P ops Q S F l2) f pool main a w →
    wpHT P md ops Q S (fun listed' a' w' => Region.seqB md ops g n listed' = true ∧ F a' w') (l2.length + f) listed a w
  | 0, pool, main, listed, a, w, inv, hB, hS, h => by
    simp only [flB, Bool.and_eq_true] at hB
    exact wpHT_of_hp hsel hs hc hn hQ l2 listed a w inv hB.2 hS h
  | f + 1, pool, [], listed, a, w, inv, hB, hS, h => by
    simp only [flB, Bool.and_eq_true, List.all_eq_true, decide_eq_true_eq] at hB
    obtain ⟨⟨hne, hal⟩, hp⟩ := hB
    refine ⟨fun e => (by rw [e] at hne; simp at hne), fun j hj => ?_⟩
    have hjp : j ∈ pool := by have := hal j hj; simpa using this
    exact wpOp_mono (fun a' w' h' => ⟨h'.1, wpHT_of_fl hsel hs hc hn hQ f _ _ _ _ _ (inv.set hj (hp j hjp).1) (hp j hjp).2 h'.1 h'.2⟩) (h j hjp)
  | f + 1, pool, (i, false) :: l, listed, a, w, inv, hB, hS, h => by
    obtain ⟨o, v, ho, hy, h⟩ := h
    simp only [flB, Bool.and_eq_true, decide_eq_true_eq] at hB
    obtain ⟨⟨⟨hin, hr⟩, hf⟩, hB'⟩ := hB
    have hr' : i ∈ Region.ready md ops listed := by simpa using hr
    exact wpHT_first ho (Region.noSelect_spec hsel) (fun c a w => hQ c a _ _ w) hs hc hn hin (fun listed' a' w' hL => seqB_ready hL.1) (l2.length + f) listed a w inv (Region.free_spec ho hf) hr' hy hS
      (wpHT_of_fl hsel hs hc hn hQ f _ _ _ _ _ (inv.set hr' hin) hB' hS h)
  | f + 1, pool, (i, true) :: l, listed, a, w, inv, hB, hS, h => by
    simp only [flB, Bool.and_eq_true, List.all_eq_true, decide_eq_true_eq] at hB
    obtain ⟨⟨⟨⟨hin, hr⟩, hal⟩, hB'⟩, hp⟩ := hB
    have hr' : i ∈ Region.ready md ops listed := by simpa using hr
    refine ⟨fun e => (by rw [e] at hr'; cases hr'), fun j hj => ?_⟩
    by_cases hji : j = i
    · subst hji
      exact wpOp_mono (fun a' w' h' => ⟨h'.1, wpHT_of_fl hsel hs hc hn hQ f _ _ _ _ _ (inv.set hj hin) hB' h'.1 h'.2⟩) h.1
    · have hjp : j ∈ pool := by have := hal j hj; simpa [hji] using this
      exact wpOp_mono (fun a' w' h' => ⟨h'.1, wpHT_of_fl hsel hs hc hn hQ f _ _ _ _ _ (inv.set hj (hp j hjp).1) (hp j hjp).2 h'.1 h'.2⟩) (h.2 j hjp)

theorem region_hoistF {id : Nat} {a : Act} {w : World} {l : List Oper} (S : World → Prop) (n f : Nat) (pool : List Nat) (main l2 : List (Nat × Bool)) (hm : P.follows .mixedOrders = true)
    (hB : (Region.noSelect l.toArray && decide (n < l.toArray.size) && Region.sinkB .any l.toArray n && Region.chainB .any l.toArray n && decide (l2.length + f = n) && flB .any l.toArray n (l.toArray.size - n) l2 f pool main (Array.replicate l.toArray.size false)) = true)
    (hQ : ∀ c a d v w, Q (.panic c) (a.put d v) w → Q (.panic c) a w) (hS : S w.drew)
    (h : wpFl P l.toArray Q S (wpHp P l.toArray Q S (fun a' w' => wpList P l.toArray Q (l.drop n) a' w') l2) f pool main a w.drew) : (Code.region id l.toArray true).wp P Q a w := by
  simp only [Bool.and_eq_true, decide_eq_true_eq] at hB
  obtain ⟨⟨⟨⟨⟨hsel, hn⟩, hs⟩, hc⟩, hlen⟩, hho⟩ := hB
  have hdl : (l.drop n).length = l.toArray.size - n := by simp
  have inv0 : HeadInv .any l.toArray n (Array.replicate l.toArray.size false) :=
    ⟨by simp, fun j oj _ hl => (by rw [getD_replicate_false] at hl; cases hl), fun t _ ht => getD_in (by simpa using ht) (getD_replicate_false _ _)⟩
  have H := wpHT_of_fl (md := .any) (Q := Q) (g := l.toArray.size - n) hsel hs hc hn hQ _ pool main _ a w.drew inv0 hho hS h
  refine wp_region_any hm ?_
  have := wpAny_of_HT (Q := Q) (g := l.toArray.size - n) (fun listed a' w' hL => by
    have := wpAny_of_seq (md := .any) (Q' := Q) (l.drop n) n listed a' w' (fun j => by simp [List.getElem?_drop]) (by rw [hdl]; exact hL.1) hL.2
    rwa [hdl] at this) _ _ _ _ H
  rw [hlen, show n + (l.toArray.size - n) = l.toArray.size by omega] at this
  exact this
variable {F : Act → World → Prop}
theorem wpFl_end {a : Act} {w : World} {pool : List Nat} {l : List (Nat × Bool)} (h : F a w) : wpFl P ops Q S F 0 pool l a w := h
theorem wpFl_q' {f i : Nat} {lo : List Oper} {pool : List Nat} {l : List (Nat × Bool)} {a : Act} {w : World} {o : Oper} (ho : lo[i]? = some o) (hw : Region.wanted o (yielded lo.toArray a.tmps) = true)
    (h : ∀ K : Act → Prop, (∀ a', wpFl P lo.toArray Q S F f pool l a' w → K a') → ∃ v, (∀ w, S w → (execOp a.eval o).run P w = .ok (.value v) w) ∧ K (a.put o.dst v)) : wpFl P lo.toArray Q S F (f + 1) pool ((i, false) :: l) a w := by
  obtain ⟨v, h1, h2⟩ := h _ (fun _ h => h)
  exact ⟨o, v, by rw [List.getElem?_toArray]; exact ho, .inl ⟨hw, h1⟩, h2⟩
theorem wpFl_call {f i : Nat} {lo : List Oper} {pool : List Nat} {l : List (Nat × Bool)} {a : Act} {w : World} {o : Oper} (ho : lo[i]? = some o) (hg : o.guard = none)
    (h : ∀ K : Value → World → Prop, (∀ v w', S w' → wpFl P lo.toArray Q S F f pool l (a.put o.dst v) w' → K v w') → Oper.semiAt P o a K w)
    (h2 : ∀ j ∈ pool, wpOp P lo.toArray Q j (fun a' w' => S w' ∧ wpFl P lo.toArray Q S F f (pool.erase j) ((i, true) :: l) a' w') a w) : wpFl P lo.toArray Q S F (f + 1) pool ((i, true) :: l) a w :=
  ⟨wp_semi (R := fun v w' => S w' ∧ wpFl P lo.toArray Q S F f pool l (a.put o.dst v) w') (by rw [List.getElem?_toArray]; exact ho) hg (h _ (fun _ _ h1 h2 => ⟨h1, h2⟩)) (fun v w' h => h), h2⟩
theorem wpFl_pool {f : Nat} {lo : List Oper} {pool : List Nat} {a : Act} {w : World}
    (h2 : ∀ j ∈ pool, wpOp P lo.toArray Q j (fun a' w' => S w' ∧ wpFl P lo.toArray Q S F f (pool.erase j) [] a' w') a w) : wpFl P lo.toArray Q S F (f + 1) pool [] a w := h2
theorem wpFl_alloc {f j : Nat} {lo : List Oper} {pool : List Nat} {l : List (Nat × Bool)} {a : Act} {w : World} {oj : Oper} (t : TypeId) (zs : List Value) (hj : lo[j]? = some oj) (hg : oj.guard = none) (hop : oj.op = .alloc t) (hrun : ∀ w, (Instr.alloc t true (.tuple #[])).run P w = .ok (ptrAt w.heap.size) (w.alloc (.cells zs.toArray t)))
    (h : ∀ b w2, b = w.heap.size → w2 = w.alloc (.cells zs.toArray t) → S w2 ∧ wpFl P lo.toArray Q S F f pool l (a.put oj.dst (.pointer (some ⟨b, 0, none⟩))) w2) : wpOp P lo.toArray Q j (fun a' w' => S w' ∧ wpFl P lo.toArray Q S F f pool l a' w') a w :=
  wp_alloc (obj := fun _ => .cells zs.toArray t) (by rw [List.getElem?_toArray]; exact hj) hg (run_alloc_op hop hrun a w) (h _ _ rfl rfl)
end
def XL (l : List Nat) (b : Nat) : Prop := b ∈ l
theorem xl_new {l : List Nat} {n : Nat} : ∀ b, b < n → XL (n :: l) b → XL l b := fun b h h2 => by
  rcases List.mem_cons.1 h2 with rfl | h3
  · omega
  · exact h3
theorem xl_lt {l : List Nat} {n : Nat} (h : ∀ b ∈ l, b < n) : ∀ b, XL l b → b < n := h
end Go.Proofs.Ytigmlkfmgheegaa
