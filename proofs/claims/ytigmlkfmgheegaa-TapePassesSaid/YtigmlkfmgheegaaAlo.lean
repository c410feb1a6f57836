/-
  A region that draws its order, with an allocation behind quiet operations and calls, and a tail that waits for all of them: walked once, in the order of the text, the tail behind it for every place of the new block. General. No condition.
-/
import Derived.Test.YtigmlkfmgheegaaTail
import Derived.Test.YtigmlkfmgheegaaBagG
import Derived.BigQuiet
namespace Go.Proofs.Ytigmlkfmgheegaa
open Go Go.RowKit

section
variable {P : Program} {ops : Array Oper} {md : Region.Mode} {K : Option Nat → World → Prop}

def ptrAt (B : Nat) : Value := .pointer (some ⟨B, 0, none⟩)
def YF (P : Program) (ops : Array Oper) (K : Option Nat → World → Prop) (o : Oper) (v : Value) (a : Act) : Prop := ∀ s, YieldsIn P ops (K s) o v a
theorem YF.same {o : Oper} {v : Value} {a a' : Act} (h : YF P ops K o v a) (he : execOp a'.eval o = execOp a.eval o) (hw : Region.wanted o (yielded ops a'.tmps) = Region.wanted o (yielded ops a.tmps)) : YF P ops K o v a' := fun s => (h s).of_same he hw
def wpAnyA (P : Program) (md : Region.Mode) (ops : Array Oper) (K : Option Nat → World → Prop) (j : Nat) (d : Option Tmp) (L : Array Bool → Act → Option Nat → Prop) : Nat → Array Bool → Act → Option Nat → Prop
  | 0, listed, a, s => L listed a s
  | f + 1, listed, a, s => Region.ready md ops listed ≠ [] ∧ ∀ i ∈ Region.ready md ops listed, i < j + 1 ∧ (i = j → s = none ∧ ∀ B, wpAnyA P md ops K j d L f (listed.setIfInBounds i true) (a.put d (ptrAt B)) (some B)) ∧
      (i ≠ j → ∃ o v, ops[i]? = some o ∧ YF P ops K o v a ∧ wpAnyA P md ops K j d L f (listed.setIfInBounds i true) (a.put o.dst v) s)

theorem wpAny_of_headA {j g : Nat} {oj : Oper} {obj : World → Obj} {L : Array Bool → Act → Option Nat → Prop} {Q' : Exit → Act → World → Prop} (hj : ops[j]? = some oj) (hgd : oj.guard = none)
    (hrun : ∀ (a : Act) (w : World), (execOp a.eval oj).run P w = .ok (.value (ptrAt w.heap.size)) (w.alloc (obj w))) (hKa : ∀ w, K none w → K (some w.heap.size) (w.alloc (obj w)))
    (hL : ∀ listed a s w, K s w → L listed a s → wpAny P md ops Q' g listed a w) :
    ∀ (f : Nat) (listed : Array Bool) (a : Act) (s : Option Nat) (w : World), K s w → wpAnyA P md ops K j oj.dst L f listed a s → wpAny P md ops Q' (f + g) listed a w
  | 0, listed, a, s, w, hw, h => by rw [Nat.zero_add]; exact hL _ _ _ _ hw h
  | f + 1, listed, a, s, w, hw, h => by
    rw [show f + 1 + g = (f + g) + 1 by omega]
    refine ⟨fun h0 => absurd h0 h.1, fun i hi => ?_⟩
    obtain ⟨_, h1, h2⟩ := h.2 i hi
    by_cases hij : i = j
    · subst hij
      obtain ⟨rfl, h3⟩ := h1 rfl
      have hwant : Region.wanted oj (yielded ops a.tmps) = true := by unfold Region.wanted; rw [hgd]
      unfold wpOp
      simp only [hj, hwant, if_true]
      refine .inl ?_
      unfold Oper.wp
      rw [hrun a w]
      exact wpAny_of_headA hj hgd hrun hKa hL f _ _ _ _ (hKa w hw) (h3 _)
    · obtain ⟨o, v, ho, hy, h3⟩ := h2 hij
      exact wpOp_of_qOp (K := fun a' => a' = a.put o.dst v) hw (fun a' w' hw' e => by subst e; exact wpAny_of_headA hj hgd hrun hKa hL f _ _ _ _ hw' h3) ((hy s).qOp ho rfl)

theorem wpAnyA_first {j i : Nat} {oi oj : Oper} {v : Value} {L : Array Bool → Act → Option Nat → Prop} (hi : ops[i]? = some oi) (hj : ops[j]? = some oj) (hsel : ∀ (j : Nat) (o : Oper) cs b, ops[j]? = some o → o.op ≠ .select cs b)
    (hs : Region.sinkB md ops (j + 1) = true) (hc : Region.chainB md ops (j + 1) = true) (hn : j + 1 < ops.size) (hin : i < j)
    (hdone : ∀ listed a s, L listed a s → ∀ k ∈ Region.ready md ops listed, j + 1 ≤ k) :
    ∀ (f : Nat) (listed : Array Bool) (a : Act) (s : Option Nat), HeadInv md ops (j + 1) listed →
      (∀ k ok, ops[k]? = some ok → k ≠ i → listed.getD k true = false → (∀ e ∈ ok.after, Region.binds md e = true → e.on ≠ i) → oi.apart ops ok = true) →
      i ∈ Region.ready md ops listed → YF P ops K oi v a →
      wpAnyA P md ops K j oj.dst L f (listed.setIfInBounds i true) (a.put oi.dst v) s → wpAnyA P md ops K j oj.dst L (f + 1) listed a s := by
  intro f
  induction f with
  | zero =>
    intro listed a s inv _ hr hy H
    have hun := (mem_ready.1 hr).1
    refine ⟨fun h => (by rw [h] at hr; cases hr), fun k hk => ?_⟩
    have hkn : k < j + 1 := by
      rcases Nat.lt_or_ge k (j + 1) with h | h
      · exact h
      · exact absurd hk (tail_waits hs hc hn inv _ i rfl (by omega) hun k h)
    refine ⟨hkn, ?_, ?_⟩
    · rintro rfl
      have := hdone _ _ _ H k (ready_mono hk (by omega))
      omega
    · intro hkj
      by_cases hki : k = i
      · subst hki; exact ⟨oi, v, hi, hy, H⟩
      · have := hdone _ _ _ H k (ready_mono hk hki)
        omega
  | succ f ih =>
    intro listed a s inv hfree hr hy H
    have hun := (mem_ready.1 hr).1
    refine ⟨fun h => (by rw [h] at hr; cases hr), fun k hk => ?_⟩
    have hkn : k < j + 1 := by
      rcases Nat.lt_or_ge k (j + 1) with h | h
      · exact h
      · exact absurd hk (tail_waits hs hc hn inv _ i rfl (by omega) hun k h)
    by_cases hki : k = i
    · subst hki
      exact ⟨hkn, fun h => by omega, fun _ => ⟨oi, v, hi, hy, H⟩⟩
    obtain ⟨_, h1, h2⟩ := H.2 k (ready_mono hk hki)
    obtain ⟨hkun, ok, hok, hall⟩ := mem_ready.1 hk
    have hnot : ∀ e ∈ ok.after, Region.binds md e = true → e.on ≠ i := fun e he hb heq => by
      have h1 := hall e he hb
      rw [heq, getD_both hun] at h1
      cases h1
    have hap := hfree k ok hok hki hkun hnot
    obtain ⟨a1, a2, a3⟩ := Oper.apart_spec hap
    have hfree' : ∀ m om, ops[m]? = some om → m ≠ i → (listed.setIfInBounds k true).getD m true = false →
        (∀ e ∈ om.after, Region.binds md e = true → e.on ≠ i) → oi.apart ops om = true := fun m om hm hmi hun hno => by
      refine hfree m om hm hmi ?_ hno
      by_cases hkm : k = m
      · subst hkm; exact hkun
      · rw [getD_set_ne true hkm] at hun; exact hun
    have keep : ∀ u, YF P ops K oi v (a.put ok.dst u) := fun u => hy.same (execOp_put oi (fun cs b => hsel i oi cs b hi) a ok.dst u a3) (wanted_put oi a ok.dst u a3)
    refine ⟨hkn, fun hkj => ?_, fun hkj => ?_⟩
    · obtain ⟨h3, h4⟩ := h1 hkj
      refine ⟨h3, fun B => ?_⟩
      have e1 : ok = oj := by subst hkj; exact Option.some.inj (hok.symm.trans hj)
      rw [e1] at keep a2
      refine ih (listed.setIfInBounds k true) _ _ (inv.set hk hkn) hfree' (ready_mono hr (Ne.symm hki)) (keep _) ?_
      rw [Array.setIfInBounds_comm _ _ hki, ← Act.put_comm a v (ptrAt B) a2]
      exact h4 B
    · obtain ⟨o, u, ho, hyu, h4⟩ := h2 hkj
      have e1 : o = ok := Option.some.inj (ho.symm.trans hok)
      subst e1
      refine ⟨o, u, hok, hyu.same (execOp_put o (fun cs b => hsel k o cs b hok) a oi.dst v a1).symm (wanted_put o a oi.dst v a1).symm, ?_⟩
      refine ih (listed.setIfInBounds k true) _ _ (inv.set hk hkn) hfree' (ready_mono hr (Ne.symm hki)) (keep _) ?_
      rw [Array.setIfInBounds_comm _ _ hki, ← Act.put_comm a v u a2]
      exact h4

/-- The lexical walk of the quiet operations. -/
def wpQF (P : Program) (ops : Array Oper) (K : Option Nat → World → Prop) (Q : Act → Prop) : List Oper → Act → Prop
  | [], a => Q a
  | o :: rest, a => if Region.wanted o (yielded ops a.tmps) = true then ∃ v, (∀ s w, K s w → o.quietAt P a (K s) w v) ∧ wpQF P ops K Q rest (a.put o.dst v) else wpQF P ops K Q rest (a.put o.dst undef)
theorem wpQF_nil {Q : Act → Prop} {a : Act} (h : Q a) : wpQF P ops K Q [] a := h
theorem wpQF_want {Q : Act → Prop} {o : Oper} {rest : List Oper} {a : Act} (hw : Region.wanted o (yielded ops a.tmps) = true) (h : ∀ R : Act → Prop, (∀ a, wpQF P ops K Q rest a → R a) → ∃ v, (∀ s w, K s w → o.quietAt P a (K s) w v) ∧ R (a.put o.dst v)) : wpQF P ops K Q (o :: rest) a := by
  unfold wpQF
  rw [if_pos hw]
  exact h _ (fun _ h => h)
theorem wpQF_skip {Q : Act → Prop} {o : Oper} {rest : List Oper} {a : Act} (hw : Region.wanted o (yielded ops a.tmps) = false) (h : wpQF P ops K Q rest (a.put o.dst undef)) : wpQF P ops K Q (o :: rest) a := by
  unfold wpQF
  rw [if_neg (by rw [hw]; exact Bool.false_ne_true)]
  exact h
theorem yf_of {Q : Act → Prop} {o : Oper} {rest : List Oper} {a : Act} (h : wpQF P ops K Q (o :: rest) a) : ∃ v, YF P ops K o v a ∧ wpQF P ops K Q rest (a.put o.dst v) := by
  unfold wpQF at h
  by_cases hw : Region.wanted o (yielded ops a.tmps) = true
  · rw [if_pos hw] at h
    obtain ⟨v, h1, h2⟩ := h
    exact ⟨v, fun s => .inl ⟨hw, h1 s⟩, h2⟩
  · rw [if_neg hw] at h
    exact ⟨undef, fun s => .inr ⟨by simpa using hw, rfl⟩, h⟩

theorem wpAnyA_lex {j g : Nat} {oj : Oper} {Lq : Act → Prop} (hj : ops[j]? = some oj) (hsel : Region.noSelect ops = true) (hs : Region.sinkB md ops (j + 1) = true) (hc : Region.chainB md ops (j + 1) = true) (hn : j + 1 < ops.size) :
    ∀ (l : List Oper) (k : Nat) (listed : Array Bool) (a : Act), (∀ m, m < l.length → l[m]? = ops[k + m]?) → k + l.length = j → (∀ m, m < k → listed.getD m true = true) → HeadInv md ops (j + 1) listed →
    Region.lexHead md ops g (l.length + 1) k listed = true → wpQF P ops K Lq l a →
    wpAnyA P md ops K j oj.dst (fun listed' a' s' => Region.seqB md ops g (j + 1) listed' = true ∧ ∃ B a'', s' = some B ∧ a' = a''.put oj.dst (ptrAt B) ∧ Lq a'') (l.length + 1) listed a none
  | [], k, listed, a, _, hk, hlt, inv, hB, h => by
    have hkj : k = j := by simpa using hk
    subst hkj
    simp only [List.length_nil, Region.lexHead, Bool.and_eq_true] at hB
    obtain ⟨⟨hr, hf⟩, hB'⟩ := hB
    have hr' : k ∈ Region.ready md ops listed := by simpa using hr
    have hun := (mem_ready.1 hr').1
    refine ⟨fun h => (by rw [h] at hr'; cases hr'), fun i hi => ?_⟩
    have hin : i < k + 1 := by
      rcases Nat.lt_or_ge i (k + 1) with h | h
      · exact h
      · exact absurd hi (tail_waits hs hc hn inv _ k rfl (by omega) hun i h)
    refine ⟨hin, fun e => ?_, fun e => ?_⟩
    · subst e
      exact ⟨rfl, fun B => ⟨hB', B, a, rfl, rfl, h⟩⟩
    · have h1 := hlt i (by omega)
      rw [(mem_ready.1 hi).1] at h1
      cases h1
  | o :: l, k, listed, a, hl, hk, hlt, inv, hB, h => by
    have h0 : ops[k]? = some o := by simpa using (hl 0 (by simp)).symm
    simp only [List.length_cons, Region.lexHead, Bool.and_eq_true] at hB
    obtain ⟨⟨hr, hf⟩, hB'⟩ := hB
    have hkn : k < j := by simp only [List.length_cons] at hk; omega
    have hr' : k ∈ Region.ready md ops listed := by simpa using hr
    obtain ⟨v, hy, hK⟩ := yf_of h
    have hrest : Region.lexHead md ops g (l.length + 1) (k + 1) (listed.setIfInBounds k true) = true := by simpa [Region.lexHead] using hB'
    refine wpAnyA_first h0 hj (Region.noSelect_spec hsel) hs hc hn hkn (fun listed' a' s' hL => seqB_ready hL.1) (l.length + 1) listed a none inv (Region.free_spec h0 hf) hr' hy ?_
    refine wpAnyA_lex hj hsel hs hc hn l (k + 1) _ _ (fun m hm => by have := hl (m + 1) (by simp; omega); simpa [Nat.add_assoc, Nat.add_comm 1 m] using this) (by simp only [List.length_cons] at hk; omega) (fun m hm => ?_) (inv.set hr' (by omega)) hrest hK
    by_cases hmk : k = m
    · subst hmk
      have hsz : k < listed.size := by rw [inv.size]; omega
      simp [hsz]
    · rw [getD_set_ne true hmk]; exact hlt m (by omega)

theorem region_alloc {id : Nat} {Q : Exit → Act → World → Prop} {a : Act} {w : World} {l : List Oper} (K : Option Nat → World → Prop) (j : Nat) (oj : Oper) (obj : World → Obj) (hm : P.follows .mixedOrders = true) (hB : Region.lexTailB .any l.toArray (j + 1) = true) (hj : l[j]? = some oj) (hgd : oj.guard = none)
    (hrun : ∀ (a : Act) (w : World), (execOp a.eval oj).run P w = .ok (.value (ptrAt w.heap.size)) (w.alloc (obj w))) (hKa : ∀ w, K none w → K (some w.heap.size) (w.alloc (obj w))) (hC : K none w.drew)
    (h : wpQF P l.toArray K (fun a' => ∀ B w', K (some B) w' → wpList P l.toArray Q (l.drop (j + 1)) (a'.put oj.dst (ptrAt B)) w') (l.take j) a) : (Code.region id l.toArray true).wp P Q a w := by
  simp only [Region.lexTailB, Bool.and_eq_true, decide_eq_true_eq] at hB
  obtain ⟨⟨⟨⟨hsel, hn⟩, hs⟩, hc⟩, hlex⟩ := hB
  have hn' : j + 1 < l.length := by simpa using hn
  have htl : (l.take j).length = j := by simp; omega
  have hdl : (l.drop (j + 1)).length = l.toArray.size - (j + 1) := by simp
  have hj' : l.toArray[j]? = some oj := by simpa using hj
  have inv0 : HeadInv .any l.toArray (j + 1) (Array.replicate l.toArray.size false) :=
    ⟨by simp, fun k ok _ hl => (by rw [getD_replicate_false] at hl; cases hl), fun t _ ht => getD_in (by simpa using ht) (getD_replicate_false _ _)⟩
  have H := wpAnyA_lex (md := .any) (K := K) (g := l.toArray.size - (j + 1)) hj' hsel hs hc hn (l.take j) 0 _ a (fun k hk => by
    have hk' : k < j := by rw [htl] at hk; exact hk
    simp [hk']) (by simpa using htl) (fun m hm => absurd hm (Nat.not_lt_zero m)) inv0 (by rw [htl]; exact hlex) h
  refine wp_region_any hm ?_
  have := wpAny_of_headA (Q' := Q) (g := l.toArray.size - (j + 1)) hj' hgd hrun hKa (fun listed a' s w' hw' hL => by
    obtain ⟨h1, B, a2, rfl, rfl, h2⟩ := hL
    have := wpAny_of_seq (md := .any) (Q' := Q) (l.drop (j + 1)) (j + 1) listed _ w' (fun j => by simp [List.getElem?_drop]) (by rw [hdl]; exact h1) (h2 B w' hw')
    rwa [hdl] at this) _ _ _ _ _ hC H
  rw [htl, show j + 1 + (l.toArray.size - (j + 1)) = l.toArray.size by omega] at this
  exact this
end
/-- A bag of blocks, and perhaps one new block. -/
def KB (t : TypeId) (zs : List Value) (l : List (Nat × TypeId × List Value)) (w0 : World) : Option Nat → World → Prop
  | none, w => Bag l w0 w
  | some B, w => Bag ((B, t, zs) :: l) w0 w
theorem KB.low {t : TypeId} {zs : List Value} {l : List (Nat × TypeId × List Value)} {w0 w : World} {s : Option Nat} (h : KB t zs l w0 s w) : Bag l w0 w := by
  cases s with
  | none => exact h
  | some B =>
    have h : Bag ((B, t, zs) :: l) w0 w := h
    exact ⟨fun B t cs hm => h.all B t cs (List.mem_cons_of_mem _ hm), h.below, fun b hb => h.lo b (List.mem_cons_of_mem _ hb), (List.nodup_cons.1 h.dis).2⟩
theorem KB.step {t : TypeId} {zs : List Value} {l : List (Nat × TypeId × List Value)} {w0 w w' : World} {s : Option Nat} (h : KB t zs l w0 s w) (hb : Below w.heap.size w w') : KB t zs l w0 s w' := by
  cases s with
  | none => exact Bag.step h hb
  | some B => exact Bag.step h hb
theorem KB.new {t : TypeId} {zs : List Value} {l : List (Nat × TypeId × List Value)} {w0 w : World} (h : KB t zs l w0 none w) : KB t zs l w0 (some w.heap.size) (w.alloc (.cells zs.toArray t)) := Bag.new h t zs
theorem region_bag {P : Program} {id : Nat} {Q : Exit → Act → World → Prop} {a : Act} {w w0 : World} {l : List Oper} (j : Nat) (t : TypeId) (zs : List Value) (bl : List (Nat × TypeId × List Value)) (oj : Oper) (hm : P.follows .mixedOrders = true) (hB : Region.lexTailB .any l.toArray (j + 1) = true) (hj : l[j]? = some oj) (hop : oj.op = .alloc t) (hgd : oj.guard = none)
    (hrun : ∀ w, (Instr.alloc t true (.tuple #[])).run P w = .ok (ptrAt w.heap.size) (w.alloc (.cells zs.toArray t))) (hC : Bag bl w0 w)
    (h : wpQF P l.toArray (KB t zs bl w0) (fun a' => ∀ B w', Bag ((B, t, zs) :: bl) w0 w' → wpList P l.toArray Q (l.drop (j + 1)) (a'.put oj.dst (ptrAt B)) w') (l.take j) a) : (Code.region id l.toArray true).wp P Q a w :=
  region_alloc (KB t zs bl w0) j oj (fun _ => .cells zs.toArray t) hm hB hj hgd (fun a w => by
    unfold execOp
    rw [hop]
    simp only [Sem.run_bind, hrun, Result.andThen_ok, Sem.run_pure]) (fun w h => KB.new h) hC.drew h
end Go.Proofs.Ytigmlkfmgheegaa
