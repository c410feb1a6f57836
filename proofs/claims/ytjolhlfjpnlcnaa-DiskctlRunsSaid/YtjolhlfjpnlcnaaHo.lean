/-
  A region that draws its order: loads first, whichever order is drawn; calls whose answers hang on the world, each of which comes up alone; then operations, each of which waits for all before it. Walked once. General. No condition.
-/
import Derived.Test.YtjolhlfjpnlcnaaAlc
import Derived.OrdersHeld
namespace Go.Proofs.Ytjolhlfjpnlcnaa
open Go Go.RowKit
set_option linter.unusedVariables false

section
variable {P : Program} {ops : Array Oper} {md : Region.Mode} {Q : Exit → Act → World → Prop} {S : World → Prop}

def wpHT (P : Program) (md : Region.Mode) (ops : Array Oper) (Q : Exit → Act → World → Prop) (S : World → Prop) (L : Array Bool → Act → World → Prop) : Nat → Array Bool → Act → World → Prop
  | 0, listed, a, w => L listed a w
  | f + 1, listed, a, w => Region.ready md ops listed ≠ [] ∧ ∀ i ∈ Region.ready md ops listed, wpOp P ops Q i (fun a' w' => S w' ∧ wpHT P md ops Q S L f (listed.setIfInBounds i true) a' w') a w

theorem wpAny_of_HT {g : Nat} {L : Array Bool → Act → World → Prop} (hL : ∀ listed a w, L listed a w → wpAny P md ops Q g listed a w) :
    ∀ (f : Nat) (listed : Array Bool) (a : Act) (w : World), wpHT P md ops Q S L f listed a w → wpAny P md ops Q (f + g) listed a w
  | 0, listed, a, w, h => by rw [Nat.zero_add]; exact hL _ _ _ h
  | f + 1, listed, a, w, h => by
    rw [show f + 1 + g = (f + g) + 1 by omega]
    exact ⟨fun h0 => absurd h0 h.1, fun i hi => wpOp_mono (fun a' w' h' => wpAny_of_HT hL f _ a' w' h'.2) (h.2 i hi)⟩

/-- What may come up and yields in every world of S may be taken first. -/
theorem wpHT_first {n i : Nat} {oi : Oper} {v : Value} {L : Array Bool → Act → World → Prop} (hi : ops[i]? = some oi) (hsel : ∀ (j : Nat) (o : Oper) cs b, ops[j]? = some o → o.op ≠ .select cs b)
    (hQ : ∀ c a w, Q (.panic c) (a.put oi.dst v) w → Q (.panic c) a w)
    (hs : Region.sinkB md ops n = true) (hc : Region.chainB md ops n = true) (hn : n < ops.size) (hin : i < n)
    (hdone : ∀ listed a w, L listed a w → ∀ j ∈ Region.ready md ops listed, n ≤ j) :
    ∀ (f : Nat) (listed : Array Bool) (a : Act) (w : World), HeadInv md ops n listed →
      (∀ j oj, ops[j]? = some oj → j ≠ i → listed.getD j true = false → (∀ e ∈ oj.after, Region.binds md e = true → e.on ≠ i) → oi.apart ops oj = true) →
      i ∈ Region.ready md ops listed → YieldsIf P ops S oi v a → S w →
      wpHT P md ops Q S L f (listed.setIfInBounds i true) (a.put oi.dst v) w → wpHT P md ops Q S L (f + 1) listed a w := by
  intro f
  induction f with
  | zero =>
    intro listed a w inv _ hr hy hS H
    have hun := (mem_ready.1 hr).1
    refine ⟨fun h => (by rw [h] at hr; cases hr), fun j hj => ?_⟩
    by_cases hji : j = i
    · subst hji; exact hy.wpOp hi hS ⟨hS, H⟩
    · exfalso
      have hjn : j < n := by
        rcases Nat.lt_or_ge j n with h | h
        · exact h
        · exact absurd hj (tail_waits hs hc hn inv _ i rfl hin hun j h)
      have := hdone _ _ _ H j (ready_mono hj hji)
      omega
  | succ f ih =>
    intro listed a w inv hfree hr hy hS H
    have hun := (mem_ready.1 hr).1
    refine ⟨fun h => (by rw [h] at hr; cases hr), fun j hj => ?_⟩
    have hjn : j < n := by
      rcases Nat.lt_or_ge j n with h | h
      · exact h
      · exact absurd hj (tail_waits hs hc hn inv _ i rfl hin hun j h)
    by_cases hji : j = i
    · subst hji; exact hy.wpOp hi hS ⟨hS, H⟩
    · have h1 := H.2 j (ready_mono hj hji)
      obtain ⟨hjun, oj, hoj, hall⟩ := mem_ready.1 hj
      have hnot : ∀ e ∈ oj.after, Region.binds md e = true → e.on ≠ i := fun e he hb heq => by
        have h1 := hall e he hb
        rw [heq, getD_both hun] at h1
        cases h1
      have h2 := wpOp_putIf hoj (hfree j oj hoj hji hjun hnot) (fun cs b => hsel i oi cs b hi) (fun cs b => hsel j oj cs b hoj) hQ hy h1
      refine wpOp_mono (fun a' w' h3 => ⟨h3.2.1, ih (listed.setIfInBounds j true) a' w' (inv.set hj hjn) (fun k ok hk hki hunk hno => hfree k ok hk hki (by
        by_cases hjk : j = k
        · subst hjk; exact hjun
        · rw [getD_set_ne true hjk] at hunk; exact hunk) hno) (ready_mono hr (Ne.symm hji)) h3.1 h3.2.1 (by rw [Array.setIfInBounds_comm _ _ hji]; exact h3.2.2)⟩) h2

/-- May the operations be taken in this order: the quiet ones first, each call alone; and then the rest in a row? -/
def hoB (md : Region.Mode) (ops : Array Oper) (n g : Nat) : List (Nat × Bool) → Array Bool → Bool
  | [], listed => Region.seqB md ops g n listed
  | (i, false) :: l, listed => decide (i < n) && (Region.ready md ops listed).contains i && Region.free md ops listed i && hoB md ops n g l (listed.setIfInBounds i true)
  | (i, true) :: l, listed => decide (i < n) && decide (Region.ready md ops listed = [i]) && hoB md ops n g l (listed.setIfInBounds i true)
def wpHo (P : Program) (ops : Array Oper) (S : World → Prop) (F : Act → World → Prop) : List (Nat × Bool) → Act → World → Prop
  | [], a, w => F a w
  | (i, false) :: l, a, w => ∃ o v, ops[i]? = some o ∧ YieldsIf P ops S o v a ∧ wpHo P ops S F l (a.put o.dst v) w
  | (i, true) :: l, a, w => ∃ o, ops[i]? = some o ∧ o.guard = none ∧ Oper.semiAt P o a (fun v w' => S w' ∧ wpHo P ops S F l (a.put o.dst v) w') w

theorem wpHT_of_ho {n g : Nat} {F : Act → World → Prop} (hsel : Region.noSelect ops = true) (hs : Region.sinkB md ops n = true) (hc : Region.chainB md ops n = true) (hn : n < ops.size)
    (hQ : ∀ c a d v w, Q (.panic c) (a.put d v) w → Q (.panic c) a w) :
    ∀ (l : List (Nat × Bool)) (listed : Array Bool) (a : Act) (w : World), HeadInv md ops n listed → hoB md ops n g l listed = true → S w → wpHo P ops S F l a w →
    wpHT P md ops Q S (fun listed' a' w' => Region.seqB md ops g n listed' = true ∧ F a' w') l.length listed a w
  | [], listed, a, w, _, hB, _, h => ⟨hB, h⟩
  | (i, false) :: l, listed, a, w, inv, hB, hS, h => by
    obtain ⟨o, v, ho, hy, h⟩ := h
    simp only [hoB, Bool.and_eq_true, decide_eq_true_eq] at hB
    obtain ⟨⟨⟨hin, hr⟩, hf⟩, hB'⟩ := hB
    have hr' : i ∈ Region.ready md ops listed := by simpa using hr
    exact wpHT_first ho (Region.noSelect_spec hsel) (fun c a w => hQ c a _ _ w) hs hc hn hin (fun listed' a' w' hL => seqB_ready hL.1) l.length listed a w inv (Region.free_spec ho hf) hr' hy hS
      (wpHT_of_ho hsel hs hc hn hQ l _ _ _ (inv.set hr' hin) hB' hS h)
  | (i, true) :: l, listed, a, w, inv, hB, hS, h => by
    obtain ⟨o, ho, hg, h⟩ := h
    simp only [hoB, Bool.and_eq_true, decide_eq_true_eq] at hB
    obtain ⟨⟨hin, hr⟩, hB'⟩ := hB
    have hr' : i ∈ Region.ready md ops listed := by rw [hr]; simp
    refine ⟨by rw [hr]; simp, fun j hj => ?_⟩
    rw [hr] at hj
    obtain rfl : j = i := by simpa using hj
    exact wp_semi ho hg h (fun v w' hR => ⟨hR.1, wpHT_of_ho hsel hs hc hn hQ l _ _ _ (inv.set hr' hin) hB' hR.1 hR.2⟩)

theorem region_hoist {id : Nat} {a : Act} {w : World} {l : List Oper} (S : World → Prop) (n : Nat) (ord : List (Nat × Bool)) (hm : P.follows .mixedOrders = true)
    (hB : (Region.noSelect l.toArray && decide (n < l.toArray.size) && Region.sinkB .any l.toArray n && Region.chainB .any l.toArray n && decide (ord.length = n) && hoB .any l.toArray n (l.toArray.size - n) ord (Array.replicate l.toArray.size false)) = true)
    (hQ : ∀ c a d v w, Q (.panic c) (a.put d v) w → Q (.panic c) a w) (hS : S w.drew)
    (h : wpHo P l.toArray S (fun a' w' => wpList P l.toArray Q (l.drop n) a' w') ord a w.drew) : (Code.region id l.toArray true).wp P Q a w := by
  simp only [Bool.and_eq_true, decide_eq_true_eq] at hB
  obtain ⟨⟨⟨⟨⟨hsel, hn⟩, hs⟩, hc⟩, hlen⟩, hho⟩ := hB
  have hdl : (l.drop n).length = l.toArray.size - n := by simp
  have inv0 : HeadInv .any l.toArray n (Array.replicate l.toArray.size false) :=
    ⟨by simp, fun j oj _ hl => (by rw [getD_replicate_false] at hl; cases hl), fun t _ ht => getD_in (by simpa using ht) (getD_replicate_false _ _)⟩
  have H := wpHT_of_ho (md := .any) (Q := Q) (g := l.toArray.size - n) hsel hs hc hn hQ ord _ a w.drew inv0 hho hS h
  refine wp_region_any hm ?_
  have := wpAny_of_HT (Q := Q) (g := l.toArray.size - n) (fun listed a' w' hL => by
    have := wpAny_of_seq (md := .any) (Q' := Q) (l.drop n) n listed a' w' (fun j => by simp [List.getElem?_drop]) (by rw [hdl]; exact hL.1) hL.2
    rwa [hdl] at this) _ _ _ _ H
  rw [hlen, show n + (l.toArray.size - n) = l.toArray.size by omega] at this
  exact this
variable {F : Act → World → Prop}
theorem wpHo_nil {a : Act} {w : World} (h : F a w) : wpHo P ops S F [] a w := h
theorem wpHo_q {i : Nat} {l : List (Nat × Bool)} {a : Act} {w : World} {o : Oper} {v : Value} (ho : ops[i]? = some o) (hw : Region.wanted o (yielded ops a.tmps) = true) (hy : ∀ w, S w → (execOp a.eval o).run P w = .ok (.value v) w)
    (h : wpHo P ops S F l (a.put o.dst v) w) : wpHo P ops S F ((i, false) :: l) a w := ⟨o, v, ho, .inl ⟨hw, hy⟩, h⟩
/-- The same, for a walk: what follows is a letter, the value is found by the operation. -/
theorem wpHo_q' {i : Nat} {lo : List Oper} {l : List (Nat × Bool)} {a : Act} {w : World} {o : Oper} (ho : lo[i]? = some o) (hw : Region.wanted o (yielded lo.toArray a.tmps) = true)
    (h : ∀ K : Act → Prop, (∀ a', wpHo P lo.toArray S F l a' w → K a') → ∃ v, (∀ w, S w → (execOp a.eval o).run P w = .ok (.value v) w) ∧ K (a.put o.dst v)) : wpHo P lo.toArray S F ((i, false) :: l) a w := by
  obtain ⟨v, h1, h2⟩ := h _ (fun _ h => h)
  exact wpHo_q (by rw [List.getElem?_toArray]; exact ho) hw h1 h2
theorem run_load_op {o : Oper} {a : Act} {w : World} {v : Value} (t : TypeId) (x : Operand) (pv : Value) (hop : o.op = Op.load t x) (hx : a.eval x = pv) (hrun : (Instr.loadAt t pv).run P w = .ok v w) : (execOp a.eval o).run P w = .ok (.value v) w := by
  unfold execOp
  simp only [hop, hx, hrun, Sem.run_bind, Sem.run_pure, Result.andThen_ok]
theorem wpHo_call {i : Nat} {lo : List Oper} {l : List (Nat × Bool)} {a : Act} {w : World} {o : Oper} (ho : lo[i]? = some o) (hg : o.guard = none)
    (h : ∀ K : Value → World → Prop, (∀ v w', S w' → wpHo P lo.toArray S F l (a.put o.dst v) w' → K v w') → Oper.semiAt P o a K w) : wpHo P lo.toArray S F ((i, true) :: l) a w :=
  ⟨o, by rw [List.getElem?_toArray]; exact ho, hg, h _ (fun _ _ h1 h2 => ⟨h1, h2⟩)⟩
end
end Go.Proofs.Ytjolhlfjpnlcnaa
