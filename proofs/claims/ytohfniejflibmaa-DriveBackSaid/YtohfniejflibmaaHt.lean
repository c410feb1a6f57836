/-
  A region that draws its order: loads first, whichever order is drawn; then operations (calls, allocations, copies) of which one or two may come up at a time: a tree of orders; then operations, each of which waits for all before it. General. No condition.
-/
import Derived.Test.YtohfniejflibmaaHo
import Derived.OrdersHeld
namespace Go.Proofs.Ytohfniejflibmaa
open Go Go.RowKit
set_option linter.unusedVariables false

section
variable {P : Program} {ops : Array Oper} {md : Region.Mode} {Q : Exit → Act → World → Prop} {S : World → Prop}

def cLeaf (md : Region.Mode) (ops : Array Oper) (n g : Nat) (listed : Array Bool) : Bool := Region.seqB md ops g n listed
def cQ (md : Region.Mode) (ops : Array Oper) (n i : Nat) (c : Array Bool → Bool) (listed : Array Bool) : Bool := decide (i < n) && (Region.ready md ops listed).contains i && Region.free md ops listed i && c (listed.setIfInBounds i true)
def cOne (md : Region.Mode) (ops : Array Oper) (n i : Nat) (c : Array Bool → Bool) (listed : Array Bool) : Bool := decide (i < n) && decide (Region.ready md ops listed = [i]) && c (listed.setIfInBounds i true)
def cTwo (md : Region.Mode) (ops : Array Oper) (n i j : Nat) (c e : Array Bool → Bool) (listed : Array Bool) : Bool := decide (i < n) && decide (j < n) && decide (Region.ready md ops listed = [i, j]) && c (listed.setIfInBounds i true) && e (listed.setIfInBounds j true)
/-- What is asked of an operation: it yields a value in a world of R, or enters a function whose contract gives them. -/
def oneUpon (P : Program) (R : Value → World → Prop) (w : World) : Result Next → Prop
  | .ok (.enter f args) w' => w' = w ∧ Calls P f args w (fun e w'' => ∃ v, e = .returned v ∧ R v w'')
  | .ok (.value v) w' => R v w'
  | _ => False
def Oper.oneAt (P : Program) (o : Oper) (a : Act) (R : Value → World → Prop) (w : World) : Prop := oneUpon P R w ((execOp a.eval o).run P w)
theorem wp_one {oc : Oper} {a : Act} {w : World} {R : Value → World → Prop} {KK : Act → World → Prop} {Q' : Exit → Act → World → Prop} {c : Nat} (hc : ops[c]? = some oc) (hgd : oc.guard = none) (h : Oper.oneAt P oc a R w) (hK : ∀ v w', R v w' → KK (a.put oc.dst v) w') : wpOp P ops Q' c KK a w := by
  have hwant : Region.wanted oc (yielded ops a.tmps) = true := by unfold Region.wanted; rw [hgd]
  unfold wpOp
  simp only [hc, hwant, if_true]
  refine .inl ?_
  unfold Oper.wp
  unfold Oper.oneAt at h
  generalize (execOp a.eval oc).run P w = r at *
  cases r with
  | ok n w' =>
    cases n <;> simp only [oneUpon] at h
    case value v => simp only [Oper.upon]; exact hK v w' h
    case enter f args =>
      obtain ⟨rfl, h⟩ := h
      simp only [Oper.upon]
      exact h.mono fun e w'' ⟨v, he, hw''⟩ => by subst he; exact hK v w'' hw''
  | halt x w' => simp only [oneUpon] at h
def fQ (P : Program) (ops : Array Oper) (S : World → Prop) (i : Nat) (f : Act → World → Prop) (a : Act) (w : World) : Prop := ∃ o v, ops[i]? = some o ∧ YieldsIf P ops S o v a ∧ f (a.put o.dst v) w
def fOne (P : Program) (ops : Array Oper) (S : World → Prop) (i : Nat) (f : Act → World → Prop) (a : Act) (w : World) : Prop := ∃ o, ops[i]? = some o ∧ o.guard = none ∧ Oper.oneAt P o a (fun v w' => S w' ∧ f (a.put o.dst v) w') w
/-- An order of d operations that is checked by c, and walked by f. -/
def Hol (P : Program) (md : Region.Mode) (ops : Array Oper) (Q : Exit → Act → World → Prop) (S : World → Prop) (F : Act → World → Prop) (n g d : Nat) (c : Array Bool → Bool) (f : Act → World → Prop) : Prop :=
  ∀ (listed : Array Bool) (a : Act) (w : World), HeadInv md ops n listed → c listed = true → S w → f a w → wpHT P md ops Q S (fun listed' a' w' => Region.seqB md ops g n listed' = true ∧ F a' w') d listed a w
section
variable {F : Act → World → Prop} {n g d : Nat} {c e : Array Bool → Bool} {f f2 : Act → World → Prop}
theorem hol_leaf : Hol P md ops Q S F n g 0 (cLeaf md ops n g) F := fun _ _ _ _ hB _ h => ⟨hB, h⟩
theorem hol_q (hsel : Region.noSelect ops = true) (hs : Region.sinkB md ops n = true) (hc : Region.chainB md ops n = true) (hn : n < ops.size) (hQ : ∀ c a d v w, Q (.panic c) (a.put d v) w → Q (.panic c) a w) (i : Nat) (H : Hol P md ops Q S F n g d c f) : Hol P md ops Q S F n g (d + 1) (cQ md ops n i c) (fQ P ops S i f) := by
  intro listed a w inv hB hS h
  obtain ⟨o, v, ho, hy, h⟩ := h
  simp only [cQ, Bool.and_eq_true, decide_eq_true_eq] at hB
  obtain ⟨⟨⟨hin, hr⟩, hf⟩, hB'⟩ := hB
  have hr' : i ∈ Region.ready md ops listed := by simpa using hr
  exact wpHT_first ho (Region.noSelect_spec hsel) (fun c a w => hQ c a _ _ w) hs hc hn hin (fun listed' a' w' hL => seqB_ready hL.1) d listed a w inv (Region.free_spec ho hf) hr' hy hS (H _ _ _ (inv.set hr' hin) hB' hS h)
theorem hol_one (i : Nat) (H : Hol P md ops Q S F n g d c f) : Hol P md ops Q S F n g (d + 1) (cOne md ops n i c) (fOne P ops S i f) := by
  intro listed a w inv hB hS h
  obtain ⟨o, ho, hg, h⟩ := h
  simp only [cOne, Bool.and_eq_true, decide_eq_true_eq] at hB
  obtain ⟨⟨hin, hr⟩, hB'⟩ := hB
  have hr' : i ∈ Region.ready md ops listed := by rw [hr]; simp
  refine ⟨by rw [hr]; simp, fun j hj => ?_⟩
  rw [hr] at hj
  obtain rfl : j = i := by simpa using hj
  exact wp_one ho hg h (fun v w' hR => ⟨hR.1, H _ _ _ (inv.set hr' hin) hB' hR.1 hR.2⟩)
theorem hol_two (i k : Nat) (H : Hol P md ops Q S F n g d c f) (H2 : Hol P md ops Q S F n g d e f2) : Hol P md ops Q S F n g (d + 1) (cTwo md ops n i k c e) (fun a w => fOne P ops S i f a w ∧ fOne P ops S k f2 a w) := by
  intro listed a w inv hB hS h
  obtain ⟨⟨o, ho, hg, h⟩, o2, ho2, hg2, h2⟩ := h
  simp only [cTwo, Bool.and_eq_true, decide_eq_true_eq] at hB
  obtain ⟨⟨⟨⟨hin, hkn⟩, hr⟩, hB1⟩, hB2⟩ := hB
  have hr1 : i ∈ Region.ready md ops listed := by rw [hr]; simp
  have hr2 : k ∈ Region.ready md ops listed := by rw [hr]; simp
  refine ⟨by rw [hr]; simp, fun j hj => ?_⟩
  rw [hr] at hj
  have hj' : j = i ∨ j = k := by simpa using hj
  rcases hj' with rfl | rfl
  · exact wp_one ho hg h (fun v w' hR => ⟨hR.1, H _ _ _ (inv.set hr1 hin) hB1 hR.1 hR.2⟩)
  · exact wp_one ho2 hg2 h2 (fun v w' hR => ⟨hR.1, H2 _ _ _ (inv.set hr2 hkn) hB2 hR.1 hR.2⟩)
end
/-- The facts that every order of a region shares. -/
def headB (ops : Array Oper) (n : Nat) : Bool := Region.noSelect ops && decide (n < ops.size) && Region.sinkB .any ops n && Region.chainB .any ops n
theorem hol_quiet {F : Act → World → Prop} {n g d : Nat} {c : Array Bool → Bool} {f : Act → World → Prop} (hB : headB ops n = true) (hQ : ∀ c a d v w, Q (.panic c) (a.put d v) w → Q (.panic c) a w) (i : Nat) (H : Hol P .any ops Q S F n g d c f) : Hol P .any ops Q S F n g (d + 1) (cQ .any ops n i c) (fQ P ops S i f) := by
  simp only [headB, Bool.and_eq_true, decide_eq_true_eq] at hB
  obtain ⟨⟨⟨h1, h2⟩, h3⟩, h4⟩ := hB
  exact hol_q h1 h3 h4 h2 hQ i H
theorem region_tree {id : Nat} {a : Act} {w : World} {l : List Oper} {d : Nat} {c : Array Bool → Bool} {f : Act → World → Prop} (S : World → Prop) (n : Nat) (hm : P.follows .mixedOrders = true)
    (H : Hol P .any l.toArray Q S (fun a' w' => wpList P l.toArray Q (l.drop n) a' w') n (l.toArray.size - n) d c f) (hB : (decide (d = n) && c (Array.replicate l.toArray.size false)) = true) (hn : n < l.toArray.size) (hS : S w.drew)
    (h : f a w.drew) : (Code.region id l.toArray true).wp P Q a w := by
  simp only [Bool.and_eq_true, decide_eq_true_eq] at hB
  obtain ⟨hlen, hho⟩ := hB
  have hdl : (l.drop n).length = l.toArray.size - n := by simp
  have inv0 : HeadInv .any l.toArray n (Array.replicate l.toArray.size false) :=
    ⟨by simp, fun j oj _ hl => (by rw [getD_replicate_false] at hl; cases hl), fun t _ ht => getD_in (by simpa using ht) (getD_replicate_false _ _)⟩
  have H := H _ a w.drew inv0 hho hS h
  refine wp_region_any hm ?_
  have := wpAny_of_HT (Q := Q) (g := l.toArray.size - n) (fun listed a' w' hL => by
    have := wpAny_of_seq (md := .any) (Q' := Q) (l.drop n) n listed a' w' (fun j => by simp [List.getElem?_drop]) (by rw [hdl]; exact hL.1) hL.2
    rwa [hdl] at this) _ _ _ _ H
  rw [hlen, show n + (l.toArray.size - n) = l.toArray.size by omega] at this
  exact this
theorem fQ_intro {i : Nat} {lo : List Oper} {f : Act → World → Prop} {a : Act} {w : World} {o : Oper} (ho : lo[i]? = some o) (hw : Region.wanted o (yielded lo.toArray a.tmps) = true)
    (h : ∀ K : Act → Prop, (∀ a', f a' w → K a') → ∃ v, (∀ w, S w → (execOp a.eval o).run P w = .ok (.value v) w) ∧ K (a.put o.dst v)) : fQ P lo.toArray S i f a w := by
  obtain ⟨v, h1, h2⟩ := h _ (fun _ h => h)
  exact ⟨o, v, by rw [List.getElem?_toArray]; exact ho, .inl ⟨hw, h1⟩, h2⟩
theorem fOne_intro {i : Nat} {lo : List Oper} {f : Act → World → Prop} {a : Act} {w : World} {o : Oper} (ho : lo[i]? = some o) (hg : o.guard = none)
    (h : ∀ K : Value → World → Prop, (∀ v w', S w' → f (a.put o.dst v) w' → K v w') → Oper.oneAt P o a K w) : fOne P lo.toArray S i f a w :=
  ⟨o, by rw [List.getElem?_toArray]; exact ho, hg, h _ (fun _ _ h1 h2 => ⟨h1, h2⟩)⟩
end
end Go.Proofs.Ytohfniejflibmaa
