/-
  As region_call, but a store behind the allocation need not wait for all quiet operations: it may come while some are still open. General. No condition.
-/
import Derived.Test.YtigmlkfmgheegaaAlc
namespace Go.Proofs.Ytigmlkfmgheegaa
open Go Go.RowKit

section
variable {P : Program} {ops : Array Oper} {md : Region.Mode}

/-- The next operation gives nothing and a world of R, without a panic. -/
def Oper.milAt (P : Program) (o : Oper) (a : Act) (R : World → Prop) (w : World) : Prop := Oper.wp P o a w (fun a' w' => a' = a ∧ R w') (fun _ _ _ => False)
theorem milAt_same {o : Oper} {a b : Act} {R : World → Prop} {w : World} (hd : o.dst = none) (he : execOp b.eval o = execOp a.eval o) (h : Oper.milAt P o a R w) : Oper.milAt P o b R w := by
  unfold Oper.milAt Oper.wp at *
  rw [he]
  generalize (execOp a.eval o).run P w = r at *
  have hput : ∀ (x : Act) u, x.put o.dst u = x := fun x u => by rw [hd]; rfl
  cases r with
  | ok n w' =>
    cases n <;> simp only [Oper.upon, hput] at *
    case value v => exact ⟨trivial, h.2⟩
    case skip => exact ⟨trivial, h.2⟩
    case defer d => have := congrArg Act.defers h.1; simp at this
    case enter f args =>
      refine h.mono fun x w'' hx => ?_
      cases x <;> simp only at *
      case returned v => exact ⟨trivial, hx.2⟩
      all_goals exact hx
    case row row args => exact h.mono fun v w'' hx => ⟨trivial, hx.2⟩
  | halt x w' => cases x <;> simp only [Oper.upon] at * 
theorem milAt_of_list {o : Oper} {a : Act} {R : World → Prop} {w : World} (hg : o.guard = none) (h : wpList P ops (fun e a' w' => e = .normal ∧ a' = a ∧ R w') [o] a w) : Oper.milAt P o a R w := by
  have hwant : Region.wanted o (yielded ops a.tmps) = true := by unfold Region.wanted; rw [hg]
  unfold wpList at h
  rw [if_pos hwant] at h
  rcases h with h | ⟨_, h⟩
  · unfold Oper.milAt Oper.wp at *
    generalize (execOp a.eval o).run P w = r at *
    cases r with
    | ok n w' =>
      cases n <;> simp only [Oper.upon] at *
      case value v => exact ⟨h.2.1, h.2.2⟩
      case skip => exact ⟨h.2.1, h.2.2⟩
      case defer d => exact ⟨h.2.1, h.2.2⟩
      case enter f args =>
        refine h.mono fun x w'' hx => ?_
        cases x <;> simp only at *
        case returned v => exact ⟨hx.2.1, hx.2.2⟩
        case panicked => cases hx.1
        case outgrown => obtain ⟨_, _, h, _⟩ := hx; cases h
      case row row args => exact h.mono fun v w'' hx => ⟨hx.2.1, hx.2.2⟩
    | halt x w' =>
      cases x <;> simp only [Oper.upon] at *
      cases h.1
  · obtain ⟨_, _, h, _⟩ := h; cases h
theorem wp_mil {o : Oper} {a : Act} {w : World} {R : World → Prop} {KK : Act → World → Prop} {Q' : Exit → Act → World → Prop} {c : Nat} (hc : ops[c]? = some o) (hgd : o.guard = none) (h : Oper.milAt P o a R w) (hK : ∀ w', R w' → KK a w') : wpOp P ops Q' c KK a w := by
  have hwant : Region.wanted o (yielded ops a.tmps) = true := by unfold Region.wanted; rw [hgd]
  unfold wpOp
  simp only [hc, hwant, if_true]
  refine .inl ?_
  unfold Oper.milAt Oper.wp at *
  generalize (execOp a.eval o).run P w = r at *
  cases r with
  | ok n w' =>
    cases n <;> simp only [Oper.upon] at *
    case value v => rw [h.1]; exact hK _ h.2
    case skip => rw [h.1]; exact hK _ h.2
    case defer d => rw [h.1]; exact hK _ h.2
    case enter f args =>
      refine h.mono fun x w'' hx => ?_
      cases x <;> simp only at *
      case returned v => rw [hx.1]; exact hK _ hx.2
      case outgrown => obtain ⟨_, _, h⟩ := hx; exact h.elim
    case row row args => exact h.mono fun v w'' hx => by rw [hx.1]; exact hK _ hx.2
  | halt x w' => cases x <;> simp only [Oper.upon] at *

abbrev St := Option (Nat × Bool)
def St.dec : Option Nat → St
  | none => none
  | some n => some (n / 2, n % 2 == 1)
def St.enc : St → Option Nat
  | none => none
  | some (B, b) => some (2 * B + if b then 1 else 0)
theorem St.dec_enc (s : St) : St.dec (St.enc s) = s := by
  rcases s with _ | ⟨B, _ | _⟩
  · rfl
  · show some ((2 * B + 0) / 2, (2 * B + 0) % 2 == 1) = _
    rw [show (2 * B + 0) / 2 = B by omega, show (2 * B + 0) % 2 = 0 by omega]; rfl
  · show some ((2 * B + 1) / 2, (2 * B + 1) % 2 == 1) = _
    rw [show (2 * B + 1) / 2 = B by omega, show (2 * B + 1) % 2 = 1 by omega]; rfl
abbrev KD (K : St → World → Prop) (s : Option Nat) : World → Prop := K (St.dec s)

variable {K : St → World → Prop}
def wpM (P : Program) (md : Region.Mode) (ops : Array Oper) (K : St → World → Prop) (j : Nat) (d : Option Tmp) (ot : Oper) (E : Nat → Array Bool → Act → Prop) : Nat → St → Array Bool → Act → Prop
  | 0, s, listed, a => ∃ B, s = some (B, true) ∧ E B listed a
  | f + 1, s, listed, a => Region.ready md ops listed ≠ [] ∧ ∀ i ∈ Region.ready md ops listed,
      (i = j → s = none ∧ ∀ B, wpM P md ops K j d ot E f (some (B, false)) (listed.setIfInBounds j true) (a.put d (ptrAt B))) ∧
      (i = j + 1 → ∃ B, s = some (B, false) ∧ (∀ w, K (some (B, false)) w → Oper.milAt P ot a (K (some (B, true))) w) ∧ wpM P md ops K j d ot E f (some (B, true)) (listed.setIfInBounds (j + 1) true) a) ∧
      (i ≠ j → i ≠ j + 1 → ∃ o v, ops[i]? = some o ∧ YF P ops (KD K) o v a ∧ wpM P md ops K j d ot E f s (listed.setIfInBounds i true) (a.put o.dst v))
theorem wpAny_of_M {j g : Nat} {oj ot : Oper} {obj : World → Obj} {E : Nat → Array Bool → Act → Prop} {Q' : Exit → Act → World → Prop} (hj : ops[j]? = some oj) (hgd : oj.guard = none) (ht : ops[j + 1]? = some ot) (hgt : ot.guard = none)
    (hrun : ∀ (a : Act) (w : World), (execOp a.eval oj).run P w = .ok (.value (ptrAt w.heap.size)) (w.alloc (obj w))) (hKa : ∀ w, K none w → K (some (w.heap.size, false)) (w.alloc (obj w)))
    (hE : ∀ B listed a w, K (some (B, true)) w → E B listed a → wpAny P md ops Q' g listed a w) :
    ∀ (f : Nat) (s : St) (listed : Array Bool) (a : Act) (w : World), K s w → wpM P md ops K j oj.dst ot E f s listed a → wpAny P md ops Q' (f + g) listed a w
  | 0, s, listed, a, w, hw, h => by
    obtain ⟨B, rfl, h⟩ := h
    rw [Nat.zero_add]; exact hE _ _ _ _ hw h
  | f + 1, s, listed, a, w, hw, h => by
    rw [show f + 1 + g = (f + g) + 1 by omega]
    refine ⟨fun h0 => absurd h0 h.1, fun i hi => ?_⟩
    obtain ⟨h1, h2, h3⟩ := h.2 i hi
    by_cases hij : i = j
    · subst hij
      obtain ⟨rfl, h4⟩ := h1 rfl
      exact wp_alloc hj hgd (hrun a w) (wpAny_of_M hj hgd ht hgt hrun hKa hE f _ _ _ _ (hKa w hw) (h4 _))
    · by_cases hit : i = j + 1
      · subst hit
        obtain ⟨B, rfl, h4, h5⟩ := h2 rfl
        exact wp_mil ht hgt (h4 w hw) fun w' hw' => wpAny_of_M hj hgd ht hgt hrun hKa hE f _ _ _ _ hw' h5
      · obtain ⟨o, v, ho, hy, h4⟩ := h3 hij hit
        refine wpOp_of_qOp (C := K s) (K := fun a' => a' = a.put o.dst v) hw (fun a' w' hw' e => by subst e; exact wpAny_of_M hj hgd ht hgt hrun hKa hE f _ _ _ _ hw' h4) (YieldsIn.qOp ho ?_ rfl)
        have := hy (St.enc s)
        rw [show KD K (St.enc s) = K s from congrArg K (St.dec_enc s)] at this
        exact this
structure Only2 (md : Region.Mode) (ops : Array Oper) (j : Nat) (I : Nat → Prop) (Base : Array Bool → Prop) : Prop where
  only : ∀ listed i, Base listed → I i → listed.getD i true = false → ∀ k ∈ Region.ready md ops listed, I k ∨ k = j ∨ k = j + 1
  set : ∀ listed k, Base listed → k ∈ Region.ready md ops listed → (I k ∨ k = j ∨ k = j + 1) → Base (listed.setIfInBounds k true)
theorem wpM_first {j i : Nat} {oi oj ot : Oper} {v : Value} {E : Nat → Array Bool → Act → Prop} {I : Nat → Prop} {Base : Array Bool → Prop} (hi : ops[i]? = some oi) (hj : ops[j]? = some oj) (ht : ops[j + 1]? = some ot) (hdt : ot.dst = none) (hsel : ∀ (j : Nat) (o : Oper) cs b, ops[j]? = some o → o.op ≠ .select cs b) (hij : i ≠ j) (hit : i ≠ j + 1) (hI : I i) (hO : Only2 md ops j I Base)
    (hdone : ∀ B listed a, E B listed a → ∀ k ∈ Region.ready md ops listed, ¬ (I k ∨ k = j ∨ k = j + 1)) :
    ∀ (f : Nat) (s : St) (listed : Array Bool) (a : Act), Base listed →
      (∀ k ok, ops[k]? = some ok → k ≠ i → listed.getD k true = false → (∀ e ∈ ok.after, Region.binds md e = true → e.on ≠ i) → oi.apart ops ok = true) →
      i ∈ Region.ready md ops listed → YF P ops (KD K) oi v a →
      wpM P md ops K j oj.dst ot E f s (listed.setIfInBounds i true) (a.put oi.dst v) → wpM P md ops K j oj.dst ot E (f + 1) s listed a := by
  intro f
  induction f with
  | zero =>
    intro s listed a inv _ hr hy H
    have hun := (mem_ready.1 hr).1
    refine ⟨fun h => (by rw [h] at hr; cases hr), fun k hk => ?_⟩
    by_cases hki : k = i
    · subst hki; exact ⟨fun h => absurd h hij, fun h => absurd h hit, fun _ _ => ⟨oi, v, hi, hy, H⟩⟩
    · obtain ⟨B, _, H⟩ := H
      exact absurd (hO.only listed i inv hI hun k hk) (hdone _ _ _ H k (ready_mono hk hki))
  | succ f ih =>
    intro s listed a inv hfree hr hy H
    have hun := (mem_ready.1 hr).1
    refine ⟨fun h => (by rw [h] at hr; cases hr), fun k hk => ?_⟩
    by_cases hki : k = i
    · subst hki; exact ⟨fun h => absurd h hij, fun h => absurd h hit, fun _ _ => ⟨oi, v, hi, hy, H⟩⟩
    obtain ⟨hkun, ok, hok, hall⟩ := mem_ready.1 hk
    have hnot : ∀ e ∈ ok.after, Region.binds md e = true → e.on ≠ i := fun e he hb heq => by
      have h1 := hall e he hb
      rw [heq, getD_both hun] at h1
      cases h1
    have hap := hfree k ok hok hki hkun hnot
    obtain ⟨a1, a2, a3⟩ := Oper.apart_spec hap
    have hfree' : ∀ m om, ops[m]? = some om → m ≠ i → (listed.setIfInBounds k true).getD m true = false →
        (∀ e ∈ om.after, Region.binds md e = true → e.on ≠ i) → oi.apart ops om = true := fun m om hm hmi hun hno => by
      refine hfree m om hm hmi ?_ hno
      by_cases hkm : k = m
      · subst hkm; exact hkun
      · rw [getD_set_ne true hkm] at hun; exact hun
    have inv' := hO.set _ _ inv hk (hO.only listed i inv hI hun k hk)
    obtain ⟨h1, h2, h3⟩ := H.2 k (ready_mono hk hki)
    refine ⟨fun hkj => ?_, fun hkt => ?_, fun hkj hkt => ?_⟩
    · obtain ⟨h4, h5⟩ := h1 hkj
      refine ⟨h4, fun B => ?_⟩
      subst hkj
      have e1 : ok = oj := Option.some.inj (hok.symm.trans hj)
      subst e1
      refine ih _ (listed.setIfInBounds k true) _ inv' hfree' (ready_mono hr (Ne.symm hki)) (hy.same (execOp_put oi (fun cs b => hsel i oi cs b hi) a ok.dst _ a3) (wanted_put oi a ok.dst _ a3)) ?_
      rw [Array.setIfInBounds_comm _ _ hki, ← Act.put_comm a v (ptrAt B) a2]
      exact h5 B
    · obtain ⟨B, h4, h5, h6⟩ := h2 hkt
      subst hkt
      have e1 : ok = ot := Option.some.inj (hok.symm.trans ht)
      subst e1
      refine ⟨B, h4, fun w hw => milAt_same hdt (execOp_put ok (fun cs b => hsel _ ok cs b hok) a oi.dst v a1).symm (h5 w hw), ?_⟩
      refine ih _ (listed.setIfInBounds (j + 1) true) _ inv' hfree' (ready_mono hr (Ne.symm hki)) hy ?_
      rw [Array.setIfInBounds_comm _ _ hki]
      exact h6
    · obtain ⟨o, u, ho, hu, h4⟩ := h3 hkj hkt
      have e1 : o = ok := Option.some.inj (ho.symm.trans hok)
      subst e1
      obtain ⟨b1, b2, b3⟩ := put_other hap (fun cs b => hsel i oi cs b hi) (fun cs b => hsel k o cs b hok) hy hu
      refine ⟨o, u, hok, b1, ?_⟩
      refine ih _ (listed.setIfInBounds k true) _ inv' hfree' (ready_mono hr (Ne.symm hki)) b2 ?_
      rw [Array.setIfInBounds_comm _ _ hki, ← b3]
      exact h4
/-- In the order of the text. -/
theorem wpM_lex {j lo g : Nat} {oj ot : Oper} {Wd : Act → Prop} {E : Nat → Array Bool → Act → Prop} {Base : Array Bool → Prop} {LE : Array Bool} (hj : ops[j]? = some oj) (ht : ops[j + 1]? = some ot) (hdt : ot.dst = none) (hsel : Region.noSelect ops = true) (hO : Only2 md ops j (fun i => lo ≤ i ∧ i < j) Base)
    (hdone : ∀ B listed a, E B listed a → ∀ k ∈ Region.ready md ops listed, ¬ ((lo ≤ k ∧ k < j) ∨ k = j ∨ k = j + 1)) (hW : ∀ a, Wd a → wpM P md ops K j oj.dst ot E g none LE a) :
    ∀ (l : List Oper) (k : Nat) (listed : Array Bool) (a : Act), lo ≤ k → (∀ m, m < l.length → l[m]? = ops[k + m]?) → k + l.length = j → Base listed → markB l.length k listed = LE →
    Region.lexSeg md ops l.length k listed = true → wpQF P ops (KD K) Wd l a → wpM P md ops K j oj.dst ot E (l.length + g) none listed a
  | [], k, listed, a, _, _, _, _, hm, _, h => by
    have hm' : listed = LE := hm
    subst hm'
    rw [List.length_nil, Nat.zero_add]; exact hW a h
  | o :: l, k, listed, a, hlo, hl, hk, inv, hm, hB, h => by
    have h0 : ops[k]? = some o := by simpa using (hl 0 (by simp)).symm
    simp only [List.length_cons, Region.lexSeg, Bool.and_eq_true] at hB
    obtain ⟨⟨hr, hf⟩, hB'⟩ := hB
    simp only [List.length_cons] at hk
    have hr' : k ∈ Region.ready md ops listed := by simpa using hr
    obtain ⟨v, hy, hK⟩ := yf_of h
    rw [List.length_cons, show l.length + 1 + g = (l.length + g) + 1 by omega]
    refine wpM_first h0 hj ht hdt (Region.noSelect_spec hsel) (by omega) (by omega) ⟨hlo, by omega⟩ hO hdone _ _ listed a inv (Region.free_spec h0 hf) hr' hy ?_
    exact wpM_lex hj ht hdt hsel hO hdone hW l (k + 1) _ _ (by omega) (fun m hm => by have := hl (m + 1) (by simp; omega); simpa [Nat.add_assoc, Nat.add_comm 1 m] using this) (by omega) (hO.set _ _ inv hr' (.inl ⟨hlo, by omega⟩)) hm hB' hK
def Region.callLateB (md : Region.Mode) (ops : Array Oper) (c j : Nat) : Bool :=
  let L0 := Array.replicate ops.size false
  let L1 := markB c 0 L0
  let L2 := L1.setIfInBounds c true
  let L3 := markB (j - c - 1) (c + 1) L2
  Region.noSelect ops && decide (c < j) && decide (j + 2 < ops.size) && Region.sinkB md ops (j + 2) && Region.chainB md ops (j + 2) && Region.callB md ops c j &&
  Region.lexSeg md ops c 0 L0 && (Region.ready md ops L1).contains c && Region.free md ops L1 c && Region.lexSeg md ops (j - c - 1) (c + 1) L2 && Region.seqB md ops (ops.size - j) j L3

theorem region_late {id : Nat} {Q : Exit → Act → World → Prop} {a : Act} {w : World} {l : List Oper} {ι : Type} (vl : ι → Value) (K1 : Option Nat → World → Prop) (K2 : ι → St → World → Prop) (c j : Nat) (oc oj ot : Oper) (obj : World → Obj) (hm : P.follows .mixedOrders = true) (hB : Region.callLateB .any l.toArray c j = true)
    (hc : l[c]? = some oc) (hgc : oc.guard = none) (hj : l[j]? = some oj) (hgd : oj.guard = none) (hja : oj.after = #[]) (ht : l[j + 1]? = some ot) (hgt : ot.guard = none) (hdt : ot.dst = none)
    (hrun : ∀ (a : Act) (w : World), (execOp a.eval oj).run P w = .ok (.value (ptrAt w.heap.size)) (w.alloc (obj w))) (hKa1 : ∀ w, K1 none w → K1 (some w.heap.size) (w.alloc (obj w))) (hKa2 : ∀ v w, K2 v none w → K2 v (some (w.heap.size, false)) (w.alloc (obj w))) (hC : K1 none w.drew)
    (h : wpQF P l.toArray K1 (fun a1 => (∀ s w, K1 s w → Oper.semiAt P oc a1 (fun u w' => ∃ v, u = vl v ∧ K2 v (s.map (·, false)) w') w) ∧ ∀ v, wpQF P l.toArray (KD (K2 v)) (fun a3 => ∀ B, (∀ w', K2 v (some (B, false)) w' → Oper.milAt P ot (a3.put oj.dst (ptrAt B)) (K2 v (some (B, true))) w') ∧ ∀ w', K2 v (some (B, true)) w' → wpList P l.toArray Q (l.drop (j + 2)) (a3.put oj.dst (ptrAt B)) w') ((l.drop (c + 1)).take (j - c - 1)) (a1.put oc.dst (vl v))) (l.take c) a) : (Code.region id l.toArray true).wp P Q a w := by
  simp only [Region.callLateB, Bool.and_eq_true, decide_eq_true_eq] at hB
  obtain ⟨⟨⟨⟨⟨⟨⟨⟨⟨⟨hsel, hcj⟩, hn⟩, hs⟩, hch⟩, hcall⟩, hseg1⟩, hrc⟩, hfc⟩, hseg3⟩, hseq⟩ := hB
  generalize hops : l.toArray = ops at *
  have hget : ∀ m, ops[m]? = l[m]? := fun m => by rw [← hops, List.getElem?_toArray]
  have hc' : ops[c]? = some oc := by rw [hget]; exact hc
  have ht' : ops[j + 1]? = some ot := by rw [hget]; exact ht
  have hj' : ops[j]? = some oj := by rw [hget]; exact hj
  have hlen : l.length = ops.size := by rw [← hops]; simp
  have hrc' : c ∈ Region.ready .any ops (markB c 0 (Array.replicate ops.size false)) := by simpa using hrc
  have hsl := Region.noSelect_spec hsel
  have hfree := Region.free_spec hc' hfc
  generalize hL1 : markB c 0 (Array.replicate ops.size false) = L1 at *
  generalize hL3 : markB (j - c - 1) (c + 1) (L1.setIfInBounds c true) = L3 at *
  have inv0 : HeadInv .any ops (j + 2) (Array.replicate ops.size false) :=
    ⟨by simp, fun k ok _ hl => (by rw [getD_replicate_false] at hl; cases hl), fun t _ ht => getD_in (by simpa using ht) (getD_replicate_false _ _)⟩
  -- phase 1
  have hO1 : Only .any ops j (fun i => 0 ≤ i ∧ i < c) (fun L => HeadInv .any ops (j + 2) L) := ⟨(fun listed i inv hi hun k hk => by
      have hunc : listed.getD c false = false := by
        cases hh : listed.getD c false with
        | false => rfl
        | true => exact absurd (.inl hh) (call_waits hcall inv.closed (c - i) i rfl hi.2 (getD_both hun))
      rcases Nat.lt_trichotomy k c with h1 | h1 | h1
      · exact .inl ⟨Nat.zero_le _, h1⟩
      · subst h1; exact absurd (.inr hk) (call_waits hcall inv.closed (k - i) i rfl hi.2 (getD_both hun))
      · by_cases hkj : k = j
        · exact .inr hkj
        · exact absurd (.inr hk) (behind_waits hcall inv.closed hunc k h1 hkj (Array.getElem?_eq_some_iff.1 (mem_ready.1 hk).2.choose_spec.1).1)),
    fun listed k inv hk hi => inv.set hk (by rcases hi with h | h <;> omega), fun listed inv => inv.size⟩
  have inv1 : HeadInv .any ops (j + 2) L1 ∧ L1.getD c true = false ∧ L1.getD j true = false := by
    have hgo : ∀ (f k : Nat) (L : Array Bool), HeadInv .any ops (j + 2) L → Region.lexSeg .any ops f k L = true → k + f ≤ j → HeadInv .any ops (j + 2) (markB f k L) := by
      intro f
      induction f with
      | zero => intro k L inv _ _; exact inv
      | succ f ih =>
        intro k L inv hB hk
        simp only [Region.lexSeg, Bool.and_eq_true] at hB
        obtain ⟨⟨hr, _⟩, hB'⟩ := hB
        exact ih (k + 1) _ (inv.set (by simpa using hr) (by omega)) hB' (by omega)
    refine ⟨hL1 ▸ hgo c 0 _ inv0 hseg1 (by omega), (mem_ready.1 hrc').1, ?_⟩
    rw [← hL1, mark_ne _ _ _ _ (.inr (by omega))]
    exact getD_in (by simp; omega) (getD_replicate_false _ _)
  obtain ⟨inv1, hcun, hjun1⟩ := inv1
  have hL1I : ∀ i, 0 ≤ i → i < c → L1.getD i true = true := fun i _ hi => by rw [← hL1]; exact mark_get _ _ _ _ (.inr ⟨by omega, by omega⟩)
  -- phase 3
  have inv2 : HeadInv .any ops (j + 2) (L1.setIfInBounds c true) := inv1.set hrc' (by omega)
  have hO3 : Only2 .any ops j (fun i => c + 1 ≤ i ∧ i < j) (fun L => HeadInv .any ops (j + 2) L ∧ ∀ k, k ≤ c → L.getD k true = true) := ⟨(fun listed i inv hi hun k hk => by
      rcases Nat.lt_or_ge c k with h1 | h1
      · rcases (by omega : k < j ∨ k = j ∨ k = j + 1 ∨ j + 2 ≤ k) with h2 | h2 | h2 | h2
        · exact .inl ⟨by omega, h2⟩
        · exact .inr (.inl h2)
        · exact .inr (.inr h2)
        · exact absurd hk (tail_waits hs hch hn inv.1 _ i rfl (by omega) hun k (by omega))
      · have := (mem_ready.1 hk).1
        rw [inv.2 k h1] at this; cases this),
    fun listed k inv hk hi => ⟨inv.1.set hk (by rcases hi with h | h | h <;> omega), fun m hm => set_get _ _ _ (.inl (inv.2 m hm))⟩⟩
  have hL2I : ∀ k, k ≤ c → (L1.setIfInBounds c true).getD k true = true := fun k hk => by
    rcases (by omega : k < c ∨ k = c) with h1 | h1
    · exact set_get _ _ _ (.inl (hL1I k (Nat.zero_le _) h1))
    · exact set_get _ _ _ (.inr h1)
  have hL3I : ∀ i, c + 1 ≤ i → i < j → L3.getD i true = true := fun i h1 h2 => by rw [← hL3]; exact mark_get _ _ _ _ (.inr ⟨h1, by omega⟩)
  have hjun2 : (L1.setIfInBounds c true).getD j true = false := by rw [getD_set_ne true (by omega)]; exact hjun1
  have htl3 : ((l.drop (c + 1)).take (j - c - 1)).length = j - c - 1 := by simp; omega
  have hl3 : ∀ m, m < ((l.drop (c + 1)).take (j - c - 1)).length → ((l.drop (c + 1)).take (j - c - 1))[m]? = ops[c + 1 + m]? := fun m hm => by
    rw [htl3] at hm
    rw [hget, List.getElem?_take, if_pos hm, List.getElem?_drop]
  have htl1 : (l.take c).length = c := by simp; omega
  have hl1 : ∀ m, m < (l.take c).length → (l.take c)[m]? = ops[0 + m]? := fun m hm => by
    rw [htl1] at hm
    rw [hget, Nat.zero_add, List.getElem?_take, if_pos hm]
  obtain ⟨tl, htl⟩ : ∃ tl, tl = ops.size - (j + 2) := ⟨_, rfl⟩
  have hsz : ops.size - j = tl + 2 := by omega
  rw [hsz] at hseq
  simp only [Region.seqB, Bool.and_eq_true, decide_eq_true_eq] at hseq
  obtain ⟨hr1, hr2, hseq⟩ := hseq
  have hdl : (l.drop (j + 2)).length = tl := by simp [hlen]; omega
  have HM : ∀ (v : ι) (a1 : Act), wpQF P ops (KD (K2 v)) (fun a3 => ∀ B, (∀ w', K2 v (some (B, false)) w' → Oper.milAt P ot (a3.put oj.dst (ptrAt B)) (K2 v (some (B, true))) w') ∧ ∀ w', K2 v (some (B, true)) w' → wpList P ops Q (l.drop (j + 2)) (a3.put oj.dst (ptrAt B)) w') ((l.drop (c + 1)).take (j - c - 1)) a1 → wpM P .any ops (K2 v) j oj.dst ot (fun B L a => L = (L3.setIfInBounds j true).setIfInBounds (j + 1) true ∧ ∀ w', K2 v (some (B, true)) w' → wpList P ops Q (l.drop (j + 2)) a w') ((j - c - 1) + 2) none (L1.setIfInBounds c true) a1 := fun v a1 hq => by
    have H := wpM_lex (md := .any) (K := K2 v) (LE := L3) (g := 2) (E := fun B L a => L = (L3.setIfInBounds j true).setIfInBounds (j + 1) true ∧ ∀ w', K2 v (some (B, true)) w' → wpList P ops Q (l.drop (j + 2)) a w') hj' ht' hdt hsel hO3 ?_ ?_ _ (c + 1) _ a1 (Nat.le_refl _) hl3 (by rw [htl3]; omega) ⟨inv2, hL2I⟩ (by rw [htl3]; exact hL3) (by rw [htl3]; exact hseg3) hq
    · rw [htl3] at H; exact H
    · rintro B L a2 ⟨rfl, _⟩ k hk hh
      have h0 := (mem_ready.1 hk).1
      rcases hh with ⟨h1, h2⟩ | h1 | h1
      · rw [set_get _ _ _ (.inl (set_get _ _ _ (.inl (hL3I k h1 h2))))] at h0; cases h0
      · rw [set_get _ _ _ (.inl (set_get _ _ _ (.inr h1)))] at h0; cases h0
      · rw [set_get _ _ _ (.inr h1)] at h0; cases h0
    · intro a3 hW
      refine ⟨by rw [hr1]; simp, fun k hk => ?_⟩
      rw [hr1] at hk
      simp only [List.mem_singleton] at hk
      subst hk
      refine ⟨fun _ => ⟨rfl, fun B => ?_⟩, fun h => by omega, fun h => absurd rfl h⟩
      refine ⟨by rw [hr2]; simp, fun m hm => ?_⟩
      rw [hr2] at hm
      simp only [List.mem_singleton] at hm
      subst hm
      exact ⟨fun h => by omega, fun _ => ⟨B, rfl, (hW B).1, B, rfl, rfl, (hW B).2⟩, fun _ h => absurd rfl h⟩
  have hend : ∀ (v : ι) B listed a w, K2 v (some (B, true)) w → (listed = (L3.setIfInBounds j true).setIfInBounds (j + 1) true ∧ ∀ w', K2 v (some (B, true)) w' → wpList P ops Q (l.drop (j + 2)) a w') → wpAny P .any ops Q tl listed a w := by
    rintro v B listed a w hw ⟨rfl, hW⟩
    have := wpAny_of_seq (md := .any) (ops := ops) (Q' := Q) (l.drop (j + 2)) (j + 2) _ a w (fun m => by rw [hget, List.getElem?_drop]) (by rw [hdl]; exact hseq) (hW w hw)
    rwa [hdl] at this
  -- behind the call
  have after_N : ∀ (v : ι) (a1 : Act) (w' : World), K2 v none w' → wpQF P ops (KD (K2 v)) (fun a3 => ∀ B, (∀ w', K2 v (some (B, false)) w' → Oper.milAt P ot (a3.put oj.dst (ptrAt B)) (K2 v (some (B, true))) w') ∧ ∀ w', K2 v (some (B, true)) w' → wpList P ops Q (l.drop (j + 2)) (a3.put oj.dst (ptrAt B)) w') ((l.drop (c + 1)).take (j - c - 1)) a1 → wpAny P .any ops Q ((j - c - 1) + ((ops.size - (j + 1)) + 1)) (L1.setIfInBounds c true) a1 w' := fun v a1 w' hw' hq => by
    have := wpAny_of_M (g := tl) (Q' := Q) hj' hgd ht' hgt hrun (hKa2 v) (hend v) _ _ _ _ _ hw' (HM v a1 hq)
    rw [show (j - c - 1) + 2 + tl = (j - c - 1) + ((ops.size - (j + 1)) + 1) by omega] at this
    exact this
  have after_S : ∀ (v : ι) (B : Nat) (a1 : Act) (w' : World), K2 v (some (B, false)) w' → wpQF P ops (KD (K2 v)) (fun a3 => ∀ B, (∀ w', K2 v (some (B, false)) w' → Oper.milAt P ot (a3.put oj.dst (ptrAt B)) (K2 v (some (B, true))) w') ∧ ∀ w', K2 v (some (B, true)) w' → wpList P ops Q (l.drop (j + 2)) (a3.put oj.dst (ptrAt B)) w') ((l.drop (c + 1)).take (j - c - 1)) a1 → wpAny P .any ops Q ((j - c - 1) + (ops.size - (j + 1))) ((L1.setIfInBounds c true).setIfInBounds j true) (a1.put oj.dst (ptrAt B)) w' := fun v B a1 w' hw' hq => by
    have H := HM v a1 hq
    rw [show (j - c - 1) + 2 = (j - c) + 1 by omega] at H
    have hjr : j ∈ Region.ready .any ops (L1.setIfInBounds c true) := mem_ready.2 ⟨hjun2, oj, hj', by rw [hja]; intro e he; simp at he⟩
    have := wpAny_of_M (g := tl) (Q' := Q) hj' hgd ht' hgt hrun (hKa2 v) (hend v) _ _ _ _ _ hw' (((H.2 j hjr).1 rfl).2 B)
    rw [show (j - c) + tl = (j - c - 1) + (ops.size - (j + 1)) by omega] at this
    exact this
  obtain ⟨p1, p2, p3⟩ := Oper.apart_spec (hfree j oj hj' (by omega) hjun1 (by rw [hja]; intro e he; simp at he))
  -- the whole
  refine wp_region_any hm ?_
  have H := wpN_lex (md := .any) (K := K1) (e := c) (LE := L1) hj' hsel hO1 (by omega) hL1I _ 0 _ a (Nat.le_refl _) hl1 (by rw [htl1]; omega) inv0 (by rw [htl1]; exact hL1) (by rw [htl1]; exact hseg1) h
  rw [htl1] at H
  have G := wpAny_of_N (Q' := Q) (g := 1 + ((j - c - 1) + (ops.size - (j + 1)))) hj' hgd hrun hKa1 ?_ ?_ _ _ _ _ hC H
  · rw [show c + (1 + ((j - c - 1) + (ops.size - (j + 1))) + 1) = ops.size by omega] at G
    exact G
  · rintro listed a1 w1 hw1 ⟨rfl, hsemi, hq⟩
    rw [show 1 + ((j - c - 1) + (ops.size - (j + 1))) + 1 = ((j - c - 1) + ((ops.size - (j + 1)) + 1)) + 1 by omega]
    refine ⟨fun h0 => (by rw [h0] at hrc'; cases hrc'), fun k hk => ?_⟩
    have hkc : k = c ∨ k = j := by
      rcases Nat.lt_trichotomy k c with h2 | h2 | h2
      · have := (mem_ready.1 hk).1; rw [hL1I k (Nat.zero_le _) h2] at this; cases this
      · exact .inl h2
      · by_cases hkj : k = j
        · exact .inr hkj
        · exact absurd (.inr hk) (behind_waits hcall inv1.closed (getD_both hcun) k h2 hkj (Array.getElem?_eq_some_iff.1 (mem_ready.1 hk).2.choose_spec.1).1)
    rcases hkc with rfl | rfl
    · exact wp_semi hc' hgc (hsemi none w1 hw1) fun u w' ⟨v, hv, hw'⟩ => by subst hv; exact after_N v _ w' hw' (hq v)
    · refine wp_alloc hj' hgd (hrun a1 w1) ?_
      rw [show (k - c - 1) + ((ops.size - (k + 1)) + 1) = ((k - c - 1) + (ops.size - (k + 1))) + 1 by omega]
      refine ⟨fun h0 => ?_, fun m hmr => ?_⟩
      · have := ready_mono hrc' (show c ≠ k by omega); rw [h0] at this; cases this
      · have invk := inv1.set hk (by omega)
        have hcun' : (listed.setIfInBounds k true).getD c true = false := by rw [getD_set_ne true (by omega)]; exact hcun
        have hmc : m = c := by
          rcases Nat.lt_trichotomy m c with h2 | h2 | h2
          · have := (mem_ready.1 hmr).1; rw [set_get _ _ _ (.inl (hL1I m (Nat.zero_le _) h2))] at this; cases this
          · exact h2
          · by_cases hmk : m = k
            · subst hmk; have := (mem_ready.1 hmr).1; rw [set_get _ _ _ (.inr rfl)] at this; cases this
            · exact absurd (.inr hmr) (behind_waits hcall invk.closed (getD_both hcun') m h2 hmk (Array.getElem?_eq_some_iff.1 (mem_ready.1 hmr).2.choose_spec.1).1)
        subst hmc
        have hs2 : Oper.semiAt P oc (a1.put oj.dst (ptrAt w1.heap.size)) (fun u w' => ∃ v, u = vl v ∧ K2 v (some (w1.heap.size, false)) w') (w1.alloc (obj w1)) := by
          have := hsemi (some w1.heap.size) _ (hKa1 w1 hw1)
          unfold Oper.semiAt at *
          rwa [execOp_put oc (fun cs b => hsl m oc cs b hc') a1 oj.dst _ p3]
        refine wp_semi hc' hgc hs2 fun u w' ⟨v, hv, hw'⟩ => ?_
        subst hv
        have := after_S v w1.heap.size (a1.put oc.dst (vl v)) w' hw' (hq v)
        rw [Array.setIfInBounds_comm _ _ (show m ≠ k by omega), Act.put_comm a1 (vl v) (ptrAt w1.heap.size) p2] at this
        exact this
  · rintro B listed a1 w1 hw1 ⟨rfl, a0, rfl, hsemi, hq⟩
    rw [show 1 + ((j - c - 1) + (ops.size - (j + 1))) = ((j - c - 1) + (ops.size - (j + 1))) + 1 by omega]
    have hrjL : j ∈ Region.ready .any ops L1 := mem_ready.2 ⟨hjun1, oj, hj', by rw [hja]; intro e he; simp at he⟩
    refine ⟨fun h0 => ?_, fun m hmr => ?_⟩
    · have := ready_mono hrc' (show c ≠ j by omega); rw [h0] at this; cases this
    · have invk := inv1.set hrjL (by omega)
      have hcun' : (L1.setIfInBounds j true).getD c true = false := by rw [getD_set_ne true (by omega)]; exact hcun
      have hmc : m = c := by
        rcases Nat.lt_trichotomy m c with h2 | h2 | h2
        · have := (mem_ready.1 hmr).1; rw [set_get _ _ _ (.inl (hL1I m (Nat.zero_le _) h2))] at this; cases this
        · exact h2
        · by_cases hmk : m = j
          · subst hmk; have := (mem_ready.1 hmr).1; rw [set_get _ _ _ (.inr rfl)] at this; cases this
          · exact absurd (.inr hmr) (behind_waits hcall invk.closed (getD_both hcun') m h2 hmk (Array.getElem?_eq_some_iff.1 (mem_ready.1 hmr).2.choose_spec.1).1)
      subst hmc
      have hs2 : Oper.semiAt P oc (a0.put oj.dst (ptrAt B)) (fun u w' => ∃ v, u = vl v ∧ K2 v (some (B, false)) w') w1 := by
        have := hsemi (some B) _ hw1
        unfold Oper.semiAt at *
        rwa [execOp_put oc (fun cs b => hsl m oc cs b hc') a0 oj.dst _ p3]
      refine wp_semi hc' hgc hs2 fun u w' ⟨v, hv, hw'⟩ => ?_
      subst hv
      have := after_S v B (a0.put oc.dst (vl v)) w' hw' (hq v)
      rw [Array.setIfInBounds_comm _ _ (show m ≠ j by omega), Act.put_comm a0 (vl v) (ptrAt B) p2] at this
      exact this
end
end Go.Proofs.Ytigmlkfmgheegaa
