/-
  A region that draws its order, with quiet operations, one call whose answer may hang on the world (fresh memory), quiet operations on that answer, an allocation, and a tail that waits for all of them: walked once, in the order of the text, the tail behind it for every answer and every place of the new block. General. No condition.
-/
import Derived.Test.YtigmlkfmgheegaaAlo
namespace Go.Proofs.Ytigmlkfmgheegaa
open Go Go.RowKit

section
variable {P : Program} {ops : Array Oper} {md : Region.Mode} {K : Option Nat → World → Prop}

/-- What is listed has been waited for. -/
def Clo (md : Region.Mode) (ops : Array Oper) (listed : Array Bool) : Prop := ∀ j oj, ops[j]? = some oj → listed.getD j false = true → ∀ e ∈ oj.after, Region.binds md e = true → listed.getD e.on false = true
theorem Clo.set {i : Nat} {listed : Array Bool} (inv : Clo md ops listed) (hi : i ∈ Region.ready md ops listed) : Clo md ops (listed.setIfInBounds i true) := by
  obtain ⟨_, oi, hoi, hall⟩ := mem_ready.1 hi
  intro j oj hj hl e he hb
  by_cases hij : i = j
  · subst hij
    have : oj = oi := Option.some.inj (hj.symm.trans hoi)
    subst this
    exact getD_set_true (hall e he hb)
  · rw [getD_set_ne false hij] at hl
    exact getD_set_true (inv j oj hj hl e he hb)
/-- All before c are waited for by c or by one before it; all behind c wait for c or one behind it, but for j. -/
def Region.callB (md : Region.Mode) (ops : Array Oper) (c j : Nat) : Bool :=
  ((List.range c).all fun i => (List.range (c + 1)).any fun m => decide (i < m) && Region.waitsFor md ops m i) &&
  ((List.range ops.size).all fun k => decide (k ≤ c) || decide (k = j) || (List.range k).any fun m => decide (c ≤ m) && decide (m ≠ j) && Region.waitsFor md ops k m)
theorem waits_listed {listed : Array Bool} (inv : Clo md ops listed) {k m : Nat} (hw : Region.waitsFor md ops k m = true) (hk : listed.getD k false = true ∨ k ∈ Region.ready md ops listed) : listed.getD m false = true := by
  obtain ⟨ok, hok, e, he, hb, rfl⟩ := Region.waitsFor_spec hw
  rcases hk with h | h
  · exact inv k ok hok h e he hb
  · obtain ⟨_, o, ho, hall⟩ := mem_ready.1 h
    have : o = ok := Option.some.inj (ho.symm.trans hok)
    subst this
    exact hall e he hb
/-- While one before c is open, c is. -/
theorem call_waits {c j : Nat} {listed : Array Bool} (hB : Region.callB md ops c j = true) (inv : Clo md ops listed) : ∀ (d i : Nat), c - i = d → i < c → listed.getD i false = false → ¬ (listed.getD c false = true ∨ c ∈ Region.ready md ops listed) := by
  simp only [Region.callB, Bool.and_eq_true] at hB
  intro d
  induction d using Nat.strongRecOn with
  | _ d ih =>
    intro i hd hi hun hc
    obtain ⟨m, hm, hm2⟩ := List.any_eq_true.1 (List.all_eq_true.1 hB.1 i (List.mem_range.2 hi))
    simp only [Bool.and_eq_true, decide_eq_true_eq] at hm2
    have hmc : m ≤ c := by have := List.mem_range.1 hm; omega
    by_cases hmc2 : m = c
    · subst hmc2
      have := waits_listed inv hm2.2 hc
      rw [hun] at this; cases this
    · cases hl : listed.getD m false with
      | true =>
        have := waits_listed inv hm2.2 (.inl hl)
        rw [hun] at this; cases this
      | false => exact ih (c - m) (by omega) m rfl (by omega) hl hc
/-- While c is open, all behind it are, but for j. -/
theorem behind_waits {c j : Nat} {listed : Array Bool} (hB : Region.callB md ops c j = true) (inv : Clo md ops listed) (hun : listed.getD c false = false) : ∀ k, c < k → k ≠ j → k < ops.size → ¬ (listed.getD k false = true ∨ k ∈ Region.ready md ops listed) := by
  simp only [Region.callB, Bool.and_eq_true] at hB
  intro k
  induction k using Nat.strongRecOn with
  | _ k ih =>
    intro hck hkj hks h
    have h1 := List.all_eq_true.1 hB.2 k (List.mem_range.2 hks)
    simp only [Bool.or_eq_true, decide_eq_true_eq] at h1
    rcases h1 with (h1 | h1) | h1
    · omega
    · exact hkj h1
    · obtain ⟨m, hm, hm2⟩ := List.any_eq_true.1 h1
      simp only [Bool.and_eq_true, decide_eq_true_eq] at hm2
      have hmk := List.mem_range.1 hm
      have hl := waits_listed inv hm2.2 h
      by_cases hmc : m = c
      · subst hmc; rw [hun] at hl; cases hl
      · exact ih m hmk (by omega) hm2.1.2 (by omega) (.inl hl)

def wpS (P : Program) (md : Region.Mode) (ops : Array Oper) (K : Option Nat → World → Prop) (j : Nat) (E : Array Bool → Act → Prop) : Nat → Array Bool → Act → Prop
  | 0, listed, a => E listed a
  | f + 1, listed, a => Region.ready md ops listed ≠ [] ∧ ∀ i ∈ Region.ready md ops listed, i ≠ j ∧ ∃ o v, ops[i]? = some o ∧ YF P ops K o v a ∧ wpS P md ops K j E f (listed.setIfInBounds i true) (a.put o.dst v)
def wpN (P : Program) (md : Region.Mode) (ops : Array Oper) (K : Option Nat → World → Prop) (j : Nat) (d : Option Tmp) (EN : Array Bool → Act → Prop) (ES : Nat → Array Bool → Act → Prop) : Nat → Array Bool → Act → Prop
  | 0, listed, a => EN listed a
  | f + 1, listed, a => Region.ready md ops listed ≠ [] ∧ ∀ i ∈ Region.ready md ops listed, (i = j → ∀ B, wpS P md ops K j (ES B) (f + 1) (listed.setIfInBounds j true) (a.put d (ptrAt B))) ∧
      (i ≠ j → ∃ o v, ops[i]? = some o ∧ YF P ops K o v a ∧ wpN P md ops K j d EN ES f (listed.setIfInBounds i true) (a.put o.dst v))

theorem wpAny_of_S {j g B : Nat} {E : Array Bool → Act → Prop} {Q' : Exit → Act → World → Prop} (hE : ∀ listed a w, K (some B) w → E listed a → wpAny P md ops Q' g listed a w) :
    ∀ (f : Nat) (listed : Array Bool) (a : Act) (w : World), K (some B) w → wpS P md ops K j E f listed a → wpAny P md ops Q' (f + g) listed a w
  | 0, listed, a, w, hw, h => by rw [Nat.zero_add]; exact hE _ _ _ hw h
  | f + 1, listed, a, w, hw, h => by
    rw [show f + 1 + g = (f + g) + 1 by omega]
    refine ⟨fun h0 => absurd h0 h.1, fun i hi => ?_⟩
    obtain ⟨_, o, v, ho, hy, h3⟩ := h.2 i hi
    exact wpOp_of_qOp (K := fun a' => a' = a.put o.dst v) hw (fun a' w' hw' e => by subst e; exact wpAny_of_S hE f _ _ _ hw' h3) ((hy (some B)).qOp ho rfl)
theorem wp_alloc {oj : Oper} {obj : World → Obj} {a : Act} {w : World} {KK : Act → World → Prop} {Q' : Exit → Act → World → Prop} {j : Nat} (hj : ops[j]? = some oj) (hgd : oj.guard = none)
    (hrun : (execOp a.eval oj).run P w = .ok (.value (ptrAt w.heap.size)) (w.alloc (obj w))) (h : KK (a.put oj.dst (ptrAt w.heap.size)) (w.alloc (obj w))) : wpOp P ops Q' j KK a w := by
  have hwant : Region.wanted oj (yielded ops a.tmps) = true := by unfold Region.wanted; rw [hgd]
  unfold wpOp
  simp only [hj, hwant, if_true]
  refine .inl ?_
  unfold Oper.wp
  rw [hrun]
  exact h
theorem wpAny_of_N {j g : Nat} {oj : Oper} {obj : World → Obj} {EN : Array Bool → Act → Prop} {ES : Nat → Array Bool → Act → Prop} {Q' : Exit → Act → World → Prop} (hj : ops[j]? = some oj) (hgd : oj.guard = none)
    (hrun : ∀ (a : Act) (w : World), (execOp a.eval oj).run P w = .ok (.value (ptrAt w.heap.size)) (w.alloc (obj w))) (hKa : ∀ w, K none w → K (some w.heap.size) (w.alloc (obj w)))
    (hEN : ∀ listed a w, K none w → EN listed a → wpAny P md ops Q' (g + 1) listed a w) (hES : ∀ B listed a w, K (some B) w → ES B listed a → wpAny P md ops Q' g listed a w) :
    ∀ (f : Nat) (listed : Array Bool) (a : Act) (w : World), K none w → wpN P md ops K j oj.dst EN ES f listed a → wpAny P md ops Q' (f + (g + 1)) listed a w
  | 0, listed, a, w, hw, h => by rw [Nat.zero_add]; exact hEN _ _ _ hw h
  | f + 1, listed, a, w, hw, h => by
    rw [show f + 1 + (g + 1) = (f + (g + 1)) + 1 by omega]
    refine ⟨fun h0 => absurd h0 h.1, fun i hi => ?_⟩
    by_cases hij : i = j
    · subst hij
      have h3 := (h.2 i hi).1 rfl w.heap.size
      refine wp_alloc hj hgd (hrun a w) ?_
      have := wpAny_of_S (Q' := Q') (g := g) (fun l a w => hES _ l a w) (f + 1) _ _ _ (hKa w hw) h3
      rw [show f + 1 + g = f + (g + 1) by omega] at this
      exact this
    · obtain ⟨o, v, ho, hy, h3⟩ := (h.2 i hi).2 hij
      exact wpOp_of_qOp (K := fun a' => a' = a.put o.dst v) hw (fun a' w' hw' e => by subst e; exact wpAny_of_N hj hgd hrun hKa hEN hES f _ _ _ hw' h3) ((hy none).qOp ho rfl)

/-- Which operations may come up while a quiet one is open: the quiet ones of this phase, and j. -/
structure Only (md : Region.Mode) (ops : Array Oper) (j : Nat) (I : Nat → Prop) (Base : Array Bool → Prop) : Prop where
  only : ∀ listed i, Base listed → I i → listed.getD i true = false → ∀ k ∈ Region.ready md ops listed, I k ∨ k = j
  set : ∀ listed k, Base listed → k ∈ Region.ready md ops listed → (I k ∨ k = j) → Base (listed.setIfInBounds k true)
  size : ∀ listed, Base listed → listed.size = ops.size
theorem put_other {oi ok : Oper} {v u : Value} {a : Act} (hap : oi.apart ops ok = true) (hsi : ∀ cs b, oi.op ≠ .select cs b) (hsk : ∀ cs b, ok.op ≠ .select cs b) (hy : YF P ops K oi v a) (hu : YF P ops K ok u (a.put oi.dst v)) :
    YF P ops K ok u a ∧ YF P ops K oi v (a.put ok.dst u) ∧ (a.put oi.dst v).put ok.dst u = (a.put ok.dst u).put oi.dst v := by
  obtain ⟨a1, a2, a3⟩ := Oper.apart_spec hap
  exact ⟨hu.same (execOp_put ok hsk a oi.dst v a1).symm (wanted_put ok a oi.dst v a1).symm, hy.same (execOp_put oi hsi a ok.dst u a3) (wanted_put oi a ok.dst u a3), Act.put_comm a v u a2⟩
theorem wpS_first {j i : Nat} {oi : Oper} {v : Value} {E : Array Bool → Act → Prop} {I : Nat → Prop} {Base : Array Bool → Prop} (hi : ops[i]? = some oi) (hsel : ∀ (j : Nat) (o : Oper) cs b, ops[j]? = some o → o.op ≠ .select cs b) (hij : i ≠ j) (hI : I i) (hO : Only md ops j I Base)
    (hdone : ∀ listed a, E listed a → ∀ k ∈ Region.ready md ops listed, ¬ I k) :
    ∀ (f : Nat) (listed : Array Bool) (a : Act), Base listed → listed.getD j true = true →
      (∀ k ok, ops[k]? = some ok → k ≠ i → listed.getD k true = false → (∀ e ∈ ok.after, Region.binds md e = true → e.on ≠ i) → oi.apart ops ok = true) →
      i ∈ Region.ready md ops listed → YF P ops K oi v a →
      wpS P md ops K j E f (listed.setIfInBounds i true) (a.put oi.dst v) → wpS P md ops K j E (f + 1) listed a := by
  intro f
  induction f with
  | zero =>
    intro listed a inv hjl _ hr hy H
    have hun := (mem_ready.1 hr).1
    refine ⟨fun h => (by rw [h] at hr; cases hr), fun k hk => ?_⟩
    have hkj : k ≠ j := fun e => by rw [e] at hk; have := (mem_ready.1 hk).1; rw [hjl] at this; cases this
    refine ⟨hkj, ?_⟩
    by_cases hki : k = i
    · subst hki; exact ⟨oi, v, hi, hy, H⟩
    · rcases hO.only listed i inv hI hun k hk with h | h
      · exact absurd h (hdone _ _ H k (ready_mono hk hki))
      · exact absurd h hkj
  | succ f ih =>
    intro listed a inv hjl hfree hr hy H
    have hun := (mem_ready.1 hr).1
    refine ⟨fun h => (by rw [h] at hr; cases hr), fun k hk => ?_⟩
    have hkj : k ≠ j := fun e => by rw [e] at hk; have := (mem_ready.1 hk).1; rw [hjl] at this; cases this
    refine ⟨hkj, ?_⟩
    by_cases hki : k = i
    · subst hki; exact ⟨oi, v, hi, hy, H⟩
    obtain ⟨hkun, ok, hok, hall⟩ := mem_ready.1 hk
    obtain ⟨_, o, u, ho, hu, h3⟩ := H.2 k (ready_mono hk hki)
    have e1 : o = ok := Option.some.inj (ho.symm.trans hok)
    subst e1
    have hnot : ∀ e ∈ o.after, Region.binds md e = true → e.on ≠ i := fun e he hb heq => by
      have h1 := hall e he hb
      rw [heq, getD_both hun] at h1
      cases h1
    obtain ⟨b1, b2, b3⟩ := put_other (hfree k o hok hki hkun hnot) (fun cs b => hsel i oi cs b hi) (fun cs b => hsel k o cs b hok) hy hu
    refine ⟨o, u, hok, b1, ?_⟩
    refine ih (listed.setIfInBounds k true) _ (hO.set _ _ inv hk (hO.only listed i inv hI hun k hk)) (by rw [getD_set_ne true hkj]; exact hjl) (fun m om hm hmi hun hno => by
      refine hfree m om hm hmi ?_ hno
      by_cases hkm : k = m
      · subst hkm; exact hkun
      · rw [getD_set_ne true hkm] at hun; exact hun) (ready_mono hr (Ne.symm hki)) b2 ?_
    rw [Array.setIfInBounds_comm _ _ hki, ← b3]
    exact h3
theorem wpN_first {j i : Nat} {oi oj : Oper} {v : Value} {EN : Array Bool → Act → Prop} {ES : Nat → Array Bool → Act → Prop} {I : Nat → Prop} {Base : Array Bool → Prop} (hi : ops[i]? = some oi) (hj : ops[j]? = some oj) (hsel : ∀ (j : Nat) (o : Oper) cs b, ops[j]? = some o → o.op ≠ .select cs b) (hij : i ≠ j) (hI : I i) (hO : Only md ops j I Base)
    (hdoneN : ∀ listed a, EN listed a → ∀ k ∈ Region.ready md ops listed, ¬ I k) (hdoneS : ∀ B listed a, ES B listed a → ∀ k ∈ Region.ready md ops listed, ¬ I k)
    (hNS : ∀ listed a, j ∈ Region.ready md ops listed → EN listed a → ∀ B, ES B (listed.setIfInBounds j true) (a.put oj.dst (ptrAt B))) :
    ∀ (f : Nat) (listed : Array Bool) (a : Act), Base listed →
      (∀ k ok, ops[k]? = some ok → k ≠ i → listed.getD k true = false → (∀ e ∈ ok.after, Region.binds md e = true → e.on ≠ i) → oi.apart ops ok = true) →
      i ∈ Region.ready md ops listed → YF P ops K oi v a →
      wpN P md ops K j oj.dst EN ES f (listed.setIfInBounds i true) (a.put oi.dst v) → wpN P md ops K j oj.dst EN ES (f + 1) listed a := by
  have alloc : ∀ (f : Nat) (listed : Array Bool) (a : Act), Base listed →
      (∀ k ok, ops[k]? = some ok → k ≠ i → listed.getD k true = false → (∀ e ∈ ok.after, Region.binds md e = true → e.on ≠ i) → oi.apart ops ok = true) →
      i ∈ Region.ready md ops listed → j ∈ Region.ready md ops listed → YF P ops K oi v a →
      (∀ B, wpS P md ops K j (ES B) f ((listed.setIfInBounds i true).setIfInBounds j true) ((a.put oi.dst v).put oj.dst (ptrAt B))) → ∀ B, wpS P md ops K j (ES B) (f + 1) (listed.setIfInBounds j true) (a.put oj.dst (ptrAt B)) := by
    intro f listed a inv hfree hr hrj hy H B
    have hun := (mem_ready.1 hr).1
    obtain ⟨hjun, oj', hoj', hall⟩ := mem_ready.1 hrj
    have e1 : oj' = oj := Option.some.inj (hoj'.symm.trans hj)
    subst e1
    have hnot : ∀ e ∈ oj'.after, Region.binds md e = true → e.on ≠ i := fun e he hb heq => by
      have h1 := hall e he hb
      rw [heq, getD_both hun] at h1
      cases h1
    obtain ⟨a1, a2, a3⟩ := Oper.apart_spec (hfree j oj' hj (Ne.symm hij) hjun hnot)
    have hjs : j < listed.size := by rw [hO.size _ inv]; exact (Array.getElem?_eq_some_iff.1 hj).1
    refine wpS_first hi hsel hij hI hO (hdoneS B) f _ _ (hO.set _ _ inv hrj (.inr rfl)) (by simp [hjs]) (fun m om hm hmi hun hno => by
      refine hfree m om hm hmi ?_ hno
      by_cases hkm : j = m
      · subst hkm; exact hjun
      · rw [getD_set_ne true hkm] at hun; exact hun) (ready_mono hr hij) (hy.same (execOp_put oi (fun cs b => hsel i oi cs b hi) a oj'.dst _ a3) (wanted_put oi a oj'.dst _ a3)) ?_
    rw [Array.setIfInBounds_comm _ _ (Ne.symm hij), ← Act.put_comm a v (ptrAt B) a2]
    exact H B
  intro f
  induction f with
  | zero =>
    intro listed a inv hfree hr hy H
    have hun := (mem_ready.1 hr).1
    refine ⟨fun h => (by rw [h] at hr; cases hr), fun k hk => ⟨fun hkj => ?_, fun hkj => ?_⟩⟩
    · subst hkj
      exact alloc 0 listed a inv hfree hr hk hy (hNS _ _ (ready_mono hk (Ne.symm hij)) H)
    · by_cases hki : k = i
      · subst hki; exact ⟨oi, v, hi, hy, H⟩
      · rcases hO.only listed i inv hI hun k hk with h | h
        · exact absurd h (hdoneN _ _ H k (ready_mono hk hki))
        · exact absurd h hkj
  | succ f ih =>
    intro listed a inv hfree hr hy H
    have hun := (mem_ready.1 hr).1
    refine ⟨fun h => (by rw [h] at hr; cases hr), fun k hk => ⟨fun hkj => ?_, fun hkj => ?_⟩⟩
    · subst hkj
      exact alloc (f + 1) listed a inv hfree hr hk hy ((H.2 k (ready_mono hk (Ne.symm hij))).1 rfl)
    · by_cases hki : k = i
      · subst hki; exact ⟨oi, v, hi, hy, H⟩
      obtain ⟨hkun, ok, hok, hall⟩ := mem_ready.1 hk
      obtain ⟨o, u, ho, hu, h3⟩ := (H.2 k (ready_mono hk hki)).2 hkj
      have e1 : o = ok := Option.some.inj (ho.symm.trans hok)
      subst e1
      have hnot : ∀ e ∈ o.after, Region.binds md e = true → e.on ≠ i := fun e he hb heq => by
        have h1 := hall e he hb
        rw [heq, getD_both hun] at h1
        cases h1
      obtain ⟨b1, b2, b3⟩ := put_other (hfree k o hok hki hkun hnot) (fun cs b => hsel i oi cs b hi) (fun cs b => hsel k o cs b hok) hy hu
      refine ⟨o, u, hok, b1, ?_⟩
      refine ih (listed.setIfInBounds k true) _ (hO.set _ _ inv hk (hO.only listed i inv hI hun k hk)) (fun m om hm hmi hun hno => by
        refine hfree m om hm hmi ?_ hno
        by_cases hkm : k = m
        · subst hkm; exact hkun
        · rw [getD_set_ne true hkm] at hun; exact hun) (ready_mono hr (Ne.symm hki)) b2 ?_
      rw [Array.setIfInBounds_comm _ _ hki, ← b3]
      exact h3

def Region.lexSeg (md : Region.Mode) (ops : Array Oper) : Nat → Nat → Array Bool → Bool
  | 0, _, _ => true
  | f + 1, k, listed => (Region.ready md ops listed).contains k && Region.free md ops listed k && Region.lexSeg md ops f (k + 1) (listed.setIfInBounds k true)
def markB : Nat → Nat → Array Bool → Array Bool
  | 0, _, l => l
  | f + 1, k, l => markB f (k + 1) (l.setIfInBounds k true)
theorem set_get (l : Array Bool) (k i : Nat) (h : l.getD i true = true ∨ i = k) : (l.setIfInBounds k true).getD i true = true := by
  by_cases hk : k = i
  · subst hk
    rcases Nat.lt_or_ge k l.size with h' | h'
    · simp [h']
    · simp [h']
  · rw [getD_set_ne true hk]
    rcases h with h | h
    · exact h
    · exact absurd h.symm hk
theorem mark_get : ∀ (f k : Nat) (l : Array Bool) (i : Nat), l.getD i true = true ∨ (k ≤ i ∧ i < k + f) → (markB f k l).getD i true = true
  | 0, k, l, i, h => by
    rcases h with h | h
    · exact h
    · omega
  | f + 1, k, l, i, h => by
    refine mark_get f (k + 1) _ i ?_
    rcases h with h | h
    · exact .inl (set_get l k i (.inl h))
    · by_cases e : i = k
      · exact .inl (set_get l k i (.inr e))
      · exact .inr ⟨by omega, by omega⟩
theorem mark_ne : ∀ (f k : Nat) (l : Array Bool) (i : Nat), (i < k ∨ k + f ≤ i) → (markB f k l).getD i true = l.getD i true
  | 0, k, l, i, _ => rfl
  | f + 1, k, l, i, h => by
    refine (mark_ne f (k + 1) _ i (by omega)).trans ?_
    exact getD_set_ne true (by omega)
theorem mark_set : ∀ (f k : Nat) (l : Array Bool) (j : Nat), (j < k ∨ k + f ≤ j) → markB f k (l.setIfInBounds j true) = (markB f k l).setIfInBounds j true
  | 0, _, _, _, _ => rfl
  | f + 1, k, l, j, h => by
    show markB f (k + 1) _ = (markB f (k + 1) _).setIfInBounds j true
    rw [Array.setIfInBounds_comm _ _ (by omega), mark_set f (k + 1) _ j (by omega)]

/-- In the order of the text, the allocation open. -/
theorem wpN_lex {j lo e : Nat} {oj : Oper} {Wd : Act → Prop} {Base : Array Bool → Prop} {LE : Array Bool} (hj : ops[j]? = some oj) (hsel : Region.noSelect ops = true) (hO : Only md ops j (fun i => lo ≤ i ∧ i < e) Base) (hej : e ≤ j)
    (hLE : ∀ i, lo ≤ i → i < e → LE.getD i true = true) :
    ∀ (l : List Oper) (k : Nat) (listed : Array Bool) (a : Act), lo ≤ k → (∀ m, m < l.length → l[m]? = ops[k + m]?) → k + l.length = e → Base listed → markB l.length k listed = LE →
    Region.lexSeg md ops l.length k listed = true → wpQF P ops K Wd l a →
    wpN P md ops K j oj.dst (fun listed' a' => listed' = LE ∧ Wd a') (fun B listed' a' => listed' = LE.setIfInBounds j true ∧ ∃ a0 : Act, a' = a0.put oj.dst (ptrAt B) ∧ Wd a0) l.length listed a
  | [], k, listed, a, _, _, _, _, hm, _, h => ⟨hm, h⟩
  | o :: l, k, listed, a, hlo, hl, hk, inv, hm, hB, h => by
    have h0 : ops[k]? = some o := by simpa using (hl 0 (by simp)).symm
    simp only [List.length_cons, Region.lexSeg, Bool.and_eq_true] at hB
    obtain ⟨⟨hr, hf⟩, hB'⟩ := hB
    simp only [List.length_cons] at hk
    have hr' : k ∈ Region.ready md ops listed := by simpa using hr
    obtain ⟨v, hy, hK⟩ := yf_of h
    refine wpN_first h0 hj (Region.noSelect_spec hsel) (by omega) ⟨hlo, by omega⟩ hO ?_ ?_ ?_ l.length listed a inv (Region.free_spec h0 hf) hr' hy ?_
    · rintro listed' a' ⟨rfl, _⟩ i hi ⟨h1, h2⟩
      have := (mem_ready.1 hi).1
      rw [hLE i h1 h2] at this; cases this
    · rintro B listed' a' ⟨rfl, _⟩ i hi ⟨h1, h2⟩
      have := (mem_ready.1 hi).1
      rw [set_get _ _ _ (.inl (hLE i h1 h2))] at this; cases this
    · rintro listed' a' _ ⟨rfl, hW⟩ B
      exact ⟨rfl, a', rfl, hW⟩
    · exact wpN_lex hj hsel hO hej hLE l (k + 1) _ _ (by omega) (fun m hm => by have := hl (m + 1) (by simp; omega); simpa [Nat.add_assoc, Nat.add_comm 1 m] using this) (by omega) (hO.set _ _ inv hr' (.inl ⟨hlo, by omega⟩)) hm hB' hK
/-- In the order of the text, the allocation done. -/
theorem wpS_lex {j lo e B : Nat} {oj : Oper} {Wd : Act → Prop} {Base : Array Bool → Prop} {LE : Array Bool} (hj : ops[j]? = some oj) (hja : oj.after = #[]) (hsel : Region.noSelect ops = true) (hO : Only md ops j (fun i => lo ≤ i ∧ i < e) Base) (hej : e ≤ j)
    (hLE : ∀ i, lo ≤ i → i < e → LE.getD i true = true) :
    ∀ (l : List Oper) (k : Nat) (listed : Array Bool) (a : Act), lo ≤ k → (∀ m, m < l.length → l[m]? = ops[k + m]?) → k + l.length = e → listed.getD j true = false → Base (listed.setIfInBounds j true) → markB l.length k listed = LE →
    Region.lexSeg md ops l.length k listed = true → wpQF P ops K Wd l a →
    wpS P md ops K j (fun listed' a' => listed' = LE.setIfInBounds j true ∧ ∃ a0 : Act, a' = a0.put oj.dst (ptrAt B) ∧ Wd a0) l.length (listed.setIfInBounds j true) (a.put oj.dst (ptrAt B))
  | [], k, listed, a, _, _, _, _, _, hm, _, h => ⟨by rw [← hm]; rfl, a, rfl, h⟩
  | o :: l, k, listed, a, hlo, hl, hk, hjun, inv, hm, hB, h => by
    have h0 : ops[k]? = some o := by simpa using (hl 0 (by simp)).symm
    simp only [List.length_cons, Region.lexSeg, Bool.and_eq_true] at hB
    obtain ⟨⟨hr, hf⟩, hB'⟩ := hB
    simp only [List.length_cons] at hk
    have hkj : k ≠ j := by omega
    have hr' : k ∈ Region.ready md ops listed := by simpa using hr
    obtain ⟨v, hy, hK⟩ := yf_of h
    have hfree := Region.free_spec h0 hf
    obtain ⟨a1, a2, a3⟩ := Oper.apart_spec (hfree j oj hj (Ne.symm hkj) hjun (by rw [hja]; intro e he; simp at he))
    have hsl := Region.noSelect_spec hsel
    have hjs : j < listed.size := by
      rcases Nat.lt_or_ge j listed.size with h' | h'
      · exact h'
      · simp [Array.getElem?_eq_none h'] at hjun
    refine wpS_first h0 hsl hkj ⟨hlo, by omega⟩ hO ?_ l.length _ _ inv (by simp [hjs]) (fun m om hm hmi hun hno => hfree m om hm hmi (by
      by_cases hkm : j = m
      · subst hkm; simp [hjs] at hun
      · rw [getD_set_ne true hkm] at hun; exact hun) hno) (ready_mono hr' hkj) (hy.same (execOp_put o (fun cs b => hsl k o cs b h0) a oj.dst _ a3) (wanted_put o a oj.dst _ a3)) ?_
    · rintro listed' a' ⟨rfl, _⟩ i hi ⟨h1, h2⟩
      have := (mem_ready.1 hi).1
      rw [set_get _ _ _ (.inl (hLE i h1 h2))] at this; cases this
    · rw [Array.setIfInBounds_comm _ _ (Ne.symm hkj), ← Act.put_comm a v (ptrAt B) a2]
      refine wpS_lex hj hja hsel hO hej hLE l (k + 1) _ _ (by omega) (fun m hm => by have := hl (m + 1) (by simp; omega); simpa [Nat.add_assoc, Nat.add_comm 1 m] using this) (by omega) (by rw [getD_set_ne true hkj]; exact hjun) ?_ hm hB' hK
      rw [Array.setIfInBounds_comm _ _ hkj]
      exact hO.set _ _ inv (ready_mono hr' hkj) (.inl ⟨hlo, by omega⟩)

/-- What is asked of the call: it enters a function whose contract gives an answer v and a world of R v. -/
def semiUpon (P : Program) (R : Value → World → Prop) (w : World) : Result Next → Prop
  | .ok (.enter f args) w' => w' = w ∧ Calls P f args w (fun e w'' => ∃ v, e = .returned v ∧ R v w'')
  | _ => False
def Oper.semiAt (P : Program) (o : Oper) (a : Act) (R : Value → World → Prop) (w : World) : Prop := semiUpon P R w ((execOp a.eval o).run P w)
theorem wp_semi {oc : Oper} {a : Act} {w : World} {R : Value → World → Prop} {KK : Act → World → Prop} {Q' : Exit → Act → World → Prop} {c : Nat} (hc : ops[c]? = some oc) (hgd : oc.guard = none) (h : Oper.semiAt P oc a R w) (hK : ∀ v w', R v w' → KK (a.put oc.dst v) w') : wpOp P ops Q' c KK a w := by
  have hwant : Region.wanted oc (yielded ops a.tmps) = true := by unfold Region.wanted; rw [hgd]
  unfold wpOp
  simp only [hc, hwant, if_true]
  refine .inl ?_
  unfold Oper.wp
  unfold Oper.semiAt at h
  generalize (execOp a.eval oc).run P w = r at *
  cases r with
  | ok n w' =>
    cases n <;> simp only [semiUpon] at h
    case enter f args =>
      obtain ⟨rfl, h⟩ := h
      simp only [Oper.upon]
      exact h.mono fun e w'' ⟨v, he, hw''⟩ => by subst he; exact hK v w'' hw''
  | halt x w' => simp only [semiUpon] at h
def Region.callLexB (md : Region.Mode) (ops : Array Oper) (c j : Nat) : Bool :=
  let L0 := Array.replicate ops.size false
  let L1 := markB c 0 L0
  let L2 := L1.setIfInBounds c true
  let L3 := markB (j - c - 1) (c + 1) L2
  Region.noSelect ops && decide (c < j) && decide (j + 1 < ops.size) && Region.sinkB md ops (j + 1) && Region.chainB md ops (j + 1) && Region.callB md ops c j &&
  Region.lexSeg md ops c 0 L0 && (Region.ready md ops L1).contains c && Region.free md ops L1 c && Region.lexSeg md ops (j - c - 1) (c + 1) L2 && (Region.ready md ops L3).contains j && Region.seqB md ops (ops.size - (j + 1)) (j + 1) (L3.setIfInBounds j true)

theorem region_call {id : Nat} {Q : Exit → Act → World → Prop} {a : Act} {w : World} {l : List Oper} {ι : Type} (vl : ι → Value) (K1 : Option Nat → World → Prop) (K2 : ι → Option Nat → World → Prop) (c j : Nat) (oc oj : Oper) (obj : World → Obj) (hm : P.follows .mixedOrders = true) (hB : Region.callLexB .any l.toArray c j = true)
    (hc : l[c]? = some oc) (hgc : oc.guard = none) (hj : l[j]? = some oj) (hgd : oj.guard = none) (hja : oj.after = #[])
    (hrun : ∀ (a : Act) (w : World), (execOp a.eval oj).run P w = .ok (.value (ptrAt w.heap.size)) (w.alloc (obj w))) (hKa1 : ∀ w, K1 none w → K1 (some w.heap.size) (w.alloc (obj w))) (hKa2 : ∀ v w, K2 v none w → K2 v (some w.heap.size) (w.alloc (obj w))) (hC : K1 none w.drew)
    (h : wpQF P l.toArray K1 (fun a1 => (∀ s w, K1 s w → Oper.semiAt P oc a1 (fun u w' => ∃ v, u = vl v ∧ K2 v s w') w) ∧ ∀ v, wpQF P l.toArray (K2 v) (fun a3 => ∀ B w', K2 v (some B) w' → wpList P l.toArray Q (l.drop (j + 1)) (a3.put oj.dst (ptrAt B)) w') ((l.drop (c + 1)).take (j - c - 1)) (a1.put oc.dst (vl v))) (l.take c) a) : (Code.region id l.toArray true).wp P Q a w := by
  simp only [Region.callLexB, Bool.and_eq_true, decide_eq_true_eq] at hB
  obtain ⟨⟨⟨⟨⟨⟨⟨⟨⟨⟨⟨hsel, hcj⟩, hn⟩, hs⟩, hch⟩, hcall⟩, hseg1⟩, hrc⟩, hfc⟩, hseg3⟩, hrj⟩, hseq⟩ := hB
  generalize hops : l.toArray = ops at *
  have hget : ∀ m, ops[m]? = l[m]? := fun m => by rw [← hops, List.getElem?_toArray]
  have hc' : ops[c]? = some oc := by rw [hget]; exact hc
  have hj' : ops[j]? = some oj := by rw [hget]; exact hj
  have hlen : l.length = ops.size := by rw [← hops]; simp
  have hrc' : c ∈ Region.ready .any ops (markB c 0 (Array.replicate ops.size false)) := by simpa using hrc
  have hrj' : j ∈ Region.ready .any ops (markB (j - c - 1) (c + 1) ((markB c 0 (Array.replicate ops.size false)).setIfInBounds c true)) := by simpa using hrj
  have hsl := Region.noSelect_spec hsel
  have hfree := Region.free_spec hc' hfc
  generalize hL1 : markB c 0 (Array.replicate ops.size false) = L1 at *
  generalize hL3 : markB (j - c - 1) (c + 1) (L1.setIfInBounds c true) = L3 at *
  have inv0 : HeadInv .any ops (j + 1) (Array.replicate ops.size false) :=
    ⟨by simp, fun k ok _ hl => (by rw [getD_replicate_false] at hl; cases hl), fun t _ ht => getD_in (by simpa using ht) (getD_replicate_false _ _)⟩
  -- phase 1
  have hO1 : Only .any ops j (fun i => 0 ≤ i ∧ i < c) (fun L => HeadInv .any ops (j + 1) L) := ⟨(fun listed i inv hi hun k hk => by
      have hunc : listed.getD c false = false := by
        cases hh : listed.getD c false with
        | false => rfl
        | true => exact absurd (.inl hh) (call_waits hcall inv.closed (c - i) i rfl hi.2 (getD_both hun))
      rcases Nat.lt_trichotomy k c with h1 | h1 | h1
      · exact .inl ⟨Nat.zero_le _, h1⟩
      · subst h1; exact absurd (.inr hk) (call_waits hcall inv.closed (k - i) i rfl hi.2 (getD_both hun))
      · by_cases hkj : k = j
        · exact .inr hkj
        · exact absurd (.inr hk) (behind_waits hcall inv.closed hunc k h1 hkj (Array.getElem?_eq_some_iff.1 (mem_ready.1 hk).2.choose_spec.1).1)),
    fun listed k inv hk hi => inv.set hk (by rcases hi with h | h <;> omega), fun listed inv => inv.size⟩
  have inv1 : HeadInv .any ops (j + 1) L1 ∧ L1.getD c true = false ∧ L1.getD j true = false := by
    have hgo : ∀ (f k : Nat) (L : Array Bool), HeadInv .any ops (j + 1) L → Region.lexSeg .any ops f k L = true → k + f ≤ j → HeadInv .any ops (j + 1) (markB f k L) := by
      intro f
      induction f with
      | zero => intro k L inv _ _; exact inv
      | succ f ih =>
        intro k L inv hB hk
        simp only [Region.lexSeg, Bool.and_eq_true] at hB
        obtain ⟨⟨hr, _⟩, hB'⟩ := hB
        exact ih (k + 1) _ (inv.set (by simpa using hr) (by omega)) hB' (by omega)
    refine ⟨hL1 ▸ hgo c 0 _ inv0 hseg1 (by omega), (mem_ready.1 hrc').1, ?_⟩
    rw [← hL1, mark_ne _ _ _ _ (.inr (by omega))]
    exact getD_in (by simp; omega) (getD_replicate_false _ _)
  obtain ⟨inv1, hcun, hjun1⟩ := inv1
  have hL1I : ∀ i, 0 ≤ i → i < c → L1.getD i true = true := fun i _ hi => by rw [← hL1]; exact mark_get _ _ _ _ (.inr ⟨by omega, by omega⟩)
  -- phase 3
  have inv2 : HeadInv .any ops (j + 1) (L1.setIfInBounds c true) := inv1.set hrc' (by omega)
  have hO3 : Only .any ops j (fun i => c + 1 ≤ i ∧ i < j) (fun L => HeadInv .any ops (j + 1) L ∧ ∀ k, k ≤ c → L.getD k true = true) := ⟨(fun listed i inv hi hun k hk => by
      rcases Nat.lt_or_ge c k with h1 | h1
      · rcases Nat.lt_trichotomy k j with h2 | h2 | h2
        · exact .inl ⟨by omega, h2⟩
        · exact .inr h2
        · exact absurd hk (tail_waits hs hch hn inv.1 _ i rfl (by omega) hun k (by omega))
      · have := (mem_ready.1 hk).1
        rw [inv.2 k h1] at this; cases this),
    fun listed k inv hk hi => ⟨inv.1.set hk (by rcases hi with h | h <;> omega), fun m hm => set_get _ _ _ (.inl (inv.2 m hm))⟩, fun listed inv => inv.1.size⟩
  have hL2I : ∀ k, k ≤ c → (L1.setIfInBounds c true).getD k true = true := fun k hk => by
    rcases (by omega : k < c ∨ k = c) with h1 | h1
    · exact set_get _ _ _ (.inl (hL1I k (Nat.zero_le _) h1))
    · exact set_get _ _ _ (.inr h1)
  have hL3I : ∀ i, c + 1 ≤ i → i < j → L3.getD i true = true := fun i h1 h2 => by rw [← hL3]; exact mark_get _ _ _ _ (.inr ⟨h1, by omega⟩)
  have hL3J : ∀ i, i < j → L3.getD i true = true := fun i h1 => by
    rcases Nat.lt_or_ge c i with h2 | h2
    · exact hL3I i h2 h1
    · rw [← hL3]; exact mark_get _ _ _ _ (.inl (hL2I i h2))
  have hjun2 : (L1.setIfInBounds c true).getD j true = false := by rw [getD_set_ne true (by omega)]; exact hjun1
  have inv3 : HeadInv .any ops (j + 1) L3 := by
    have hgo : ∀ (f k : Nat) (L : Array Bool), HeadInv .any ops (j + 1) L → Region.lexSeg .any ops f k L = true → k + f ≤ j → HeadInv .any ops (j + 1) (markB f k L) := by
      intro f
      induction f with
      | zero => intro k L inv _ _; exact inv
      | succ f ih =>
        intro k L inv hB hk
        simp only [Region.lexSeg, Bool.and_eq_true] at hB
        obtain ⟨⟨hr, _⟩, hB'⟩ := hB
        exact ih (k + 1) _ (inv.set (by simpa using hr) (by omega)) hB' (by omega)
    exact hL3 ▸ hgo _ _ _ inv2 hseg3 (by omega)
  have hdl : (l.drop (j + 1)).length = ops.size - (j + 1) := by simp [hlen]
  have htl3 : ((l.drop (c + 1)).take (j - c - 1)).length = j - c - 1 := by simp; omega
  have hl3 : ∀ m, m < ((l.drop (c + 1)).take (j - c - 1)).length → ((l.drop (c + 1)).take (j - c - 1))[m]? = ops[c + 1 + m]? := fun m hm => by
    rw [htl3] at hm
    rw [hget, List.getElem?_take, if_pos hm, List.getElem?_drop]
  have htl1 : (l.take c).length = c := by simp; omega
  have hl1 : ∀ m, m < (l.take c).length → (l.take c)[m]? = ops[0 + m]? := fun m hm => by
    rw [htl1] at hm
    rw [hget, Nat.zero_add, List.getElem?_take, if_pos hm]
  -- the tail
  have tail : ∀ (v : ι) (B : Nat) (a3 : Act) (w' : World), K2 v (some B) w' → (∀ B w', K2 v (some B) w' → wpList P ops Q (l.drop (j + 1)) (a3.put oj.dst (ptrAt B)) w') → wpAny P .any ops Q (ops.size - (j + 1)) (L3.setIfInBounds j true) (a3.put oj.dst (ptrAt B)) w' := fun v B a3 w' hw' hW => by
    have := wpAny_of_seq (md := .any) (ops := ops) (Q' := Q) (l.drop (j + 1)) (j + 1) (L3.setIfInBounds j true) (a3.put oj.dst (ptrAt B)) w' (fun m => by rw [hget, List.getElem?_drop]) (by rw [hdl]; exact hseq) (hW B w' hw')
    rwa [hdl] at this
  -- behind the call
  have after_N : ∀ (v : ι) (a1 : Act) (w' : World), K2 v none w' → wpQF P ops (K2 v) (fun a3 => ∀ B w', K2 v (some B) w' → wpList P ops Q (l.drop (j + 1)) (a3.put oj.dst (ptrAt B)) w') ((l.drop (c + 1)).take (j - c - 1)) a1 → wpAny P .any ops Q ((j - c - 1) + ((ops.size - (j + 1)) + 1)) (L1.setIfInBounds c true) a1 w' := fun v a1 w' hw' hq => by
    have H := wpN_lex (md := .any) (K := K2 v) (e := j) (LE := L3) hj' hsel hO3 (Nat.le_refl _) hL3I _ (c + 1) _ a1 (Nat.le_refl _) hl3 (by rw [htl3]; omega) ⟨inv2, hL2I⟩ (by rw [htl3]; exact hL3) (by rw [htl3]; exact hseg3) hq
    rw [htl3] at H
    refine wpAny_of_N hj' hgd hrun (hKa2 v) ?_ ?_ _ _ _ _ hw' H
    · rintro listed a2 w2 hw2 ⟨rfl, hW⟩
      refine ⟨fun h0 => (by rw [h0] at hrj'; cases hrj'), fun k hk => ?_⟩
      have hkj : k = j := by
        rcases Nat.lt_trichotomy k j with h2 | h2 | h2
        · have := (mem_ready.1 hk).1; rw [hL3J k h2] at this; cases this
        · exact h2
        · exact absurd hk (tail_waits hs hch hn inv3 _ j rfl (by omega) (mem_ready.1 hrj').1 k (by omega))
      subst hkj
      exact wp_alloc hj' hgd (hrun a2 w2) (tail v _ a2 _ (hKa2 v w2 hw2) hW)
    · rintro B listed a2 w2 hw2 ⟨rfl, a0, rfl, hW⟩
      exact tail v B a0 w2 hw2 hW
  have after_S : ∀ (v : ι) (B : Nat) (a1 : Act) (w' : World), K2 v (some B) w' → wpQF P ops (K2 v) (fun a3 => ∀ B w', K2 v (some B) w' → wpList P ops Q (l.drop (j + 1)) (a3.put oj.dst (ptrAt B)) w') ((l.drop (c + 1)).take (j - c - 1)) a1 → wpAny P .any ops Q ((j - c - 1) + (ops.size - (j + 1))) ((L1.setIfInBounds c true).setIfInBounds j true) (a1.put oj.dst (ptrAt B)) w' := fun v B a1 w' hw' hq => by
    have hbase : HeadInv .any ops (j + 1) ((L1.setIfInBounds c true).setIfInBounds j true) := by
      refine inv2.set (mem_ready.2 ⟨hjun2, oj, hj', ?_⟩) (by omega)
      rw [hja]; intro e he; simp at he
    have H := wpS_lex (md := .any) (K := K2 v) (e := j) (LE := L3) (B := B) hj' hja hsel hO3 (Nat.le_refl _) hL3I _ (c + 1) _ a1 (Nat.le_refl _) hl3 (by rw [htl3]; omega) hjun2 ⟨hbase, fun k hk => set_get _ _ _ (.inl (hL2I k hk))⟩ (by rw [htl3]; exact hL3) (by rw [htl3]; exact hseg3) hq
    rw [htl3] at H
    refine wpAny_of_S ?_ _ _ _ _ hw' H
    rintro listed a2 w2 hw2 ⟨rfl, a0, rfl, hW⟩
    exact tail v B a0 w2 hw2 hW
  obtain ⟨p1, p2, p3⟩ := Oper.apart_spec (hfree j oj hj' (by omega) hjun1 (by rw [hja]; intro e he; simp at he))
  -- the whole
  refine wp_region_any hm ?_
  have H := wpN_lex (md := .any) (K := K1) (e := c) (LE := L1) hj' hsel hO1 (by omega) hL1I _ 0 _ a (Nat.le_refl _) hl1 (by rw [htl1]; omega) inv0 (by rw [htl1]; exact hL1) (by rw [htl1]; exact hseg1) h
  rw [htl1] at H
  have G := wpAny_of_N (Q' := Q) (g := 1 + ((j - c - 1) + (ops.size - (j + 1)))) hj' hgd hrun hKa1 ?_ ?_ _ _ _ _ hC H
  · rw [show c + (1 + ((j - c - 1) + (ops.size - (j + 1))) + 1) = ops.size by omega] at G
    exact G
  · rintro listed a1 w1 hw1 ⟨rfl, hsemi, hq⟩
    rw [show 1 + ((j - c - 1) + (ops.size - (j + 1))) + 1 = ((j - c - 1) + ((ops.size - (j + 1)) + 1)) + 1 by omega]
    refine ⟨fun h0 => (by rw [h0] at hrc'; cases hrc'), fun k hk => ?_⟩
    have hkc : k = c ∨ k = j := by
      rcases Nat.lt_trichotomy k c with h2 | h2 | h2
      · have := (mem_ready.1 hk).1; rw [hL1I k (Nat.zero_le _) h2] at this; cases this
      · exact .inl h2
      · by_cases hkj : k = j
        · exact .inr hkj
        · exact absurd (.inr hk) (behind_waits hcall inv1.closed (getD_both hcun) k h2 hkj (Array.getElem?_eq_some_iff.1 (mem_ready.1 hk).2.choose_spec.1).1)
    rcases hkc with rfl | rfl
    · exact wp_semi hc' hgc (hsemi none w1 hw1) fun u w' ⟨v, hv, hw'⟩ => by subst hv; exact after_N v _ w' hw' (hq v)
    · refine wp_alloc hj' hgd (hrun a1 w1) ?_
      rw [show (k - c - 1) + ((ops.size - (k + 1)) + 1) = ((k - c - 1) + (ops.size - (k + 1))) + 1 by omega]
      refine ⟨fun h0 => ?_, fun m hmr => ?_⟩
      · have := ready_mono hrc' (show c ≠ k by omega); rw [h0] at this; cases this
      · have invk := inv1.set hk (by omega)
        have hcun' : (listed.setIfInBounds k true).getD c true = false := by rw [getD_set_ne true (by omega)]; exact hcun
        have hmc : m = c := by
          rcases Nat.lt_trichotomy m c with h2 | h2 | h2
          · have := (mem_ready.1 hmr).1; rw [set_get _ _ _ (.inl (hL1I m (Nat.zero_le _) h2))] at this; cases this
          · exact h2
          · by_cases hmk : m = k
            · subst hmk; have := (mem_ready.1 hmr).1; rw [set_get _ _ _ (.inr rfl)] at this; cases this
            · exact absurd (.inr hmr) (behind_waits hcall invk.closed (getD_both hcun') m h2 hmk (Array.getElem?_eq_some_iff.1 (mem_ready.1 hmr).2.choose_spec.1).1)
        subst hmc
        have hs2 : Oper.semiAt P oc (a1.put oj.dst (ptrAt w1.heap.size)) (fun u w' => ∃ v, u = vl v ∧ K2 v (some w1.heap.size) w') (w1.alloc (obj w1)) := by
          have := hsemi (some w1.heap.size) _ (hKa1 w1 hw1)
          unfold Oper.semiAt at *
          rwa [execOp_put oc (fun cs b => hsl m oc cs b hc') a1 oj.dst _ p3]
        refine wp_semi hc' hgc hs2 fun u w' ⟨v, hv, hw'⟩ => ?_
        subst hv
        have := after_S v w1.heap.size (a1.put oc.dst (vl v)) w' hw' (hq v)
        rw [Array.setIfInBounds_comm _ _ (show m ≠ k by omega), Act.put_comm a1 (vl v) (ptrAt w1.heap.size) p2] at this
        exact this
  · rintro B listed a1 w1 hw1 ⟨rfl, a0, rfl, hsemi, hq⟩
    rw [show 1 + ((j - c - 1) + (ops.size - (j + 1))) = ((j - c - 1) + (ops.size - (j + 1))) + 1 by omega]
    have hrjL : j ∈ Region.ready .any ops L1 := mem_ready.2 ⟨hjun1, oj, hj', by rw [hja]; intro e he; simp at he⟩
    refine ⟨fun h0 => ?_, fun m hmr => ?_⟩
    · have := ready_mono hrc' (show c ≠ j by omega); rw [h0] at this; cases this
    · have invk := inv1.set hrjL (by omega)
      have hcun' : (L1.setIfInBounds j true).getD c true = false := by rw [getD_set_ne true (by omega)]; exact hcun
      have hmc : m = c := by
        rcases Nat.lt_trichotomy m c with h2 | h2 | h2
        · have := (mem_ready.1 hmr).1; rw [set_get _ _ _ (.inl (hL1I m (Nat.zero_le _) h2))] at this; cases this
        · exact h2
        · by_cases hmk : m = j
          · subst hmk; have := (mem_ready.1 hmr).1; rw [set_get _ _ _ (.inr rfl)] at this; cases this
          · exact absurd (.inr hmr) (behind_waits hcall invk.closed (getD_both hcun') m h2 hmk (Array.getElem?_eq_some_iff.1 (mem_ready.1 hmr).2.choose_spec.1).1)
      subst hmc
      have hs2 : Oper.semiAt P oc (a0.put oj.dst (ptrAt B)) (fun u w' => ∃ v, u = vl v ∧ K2 v (some B) w') w1 := by
        have := hsemi (some B) _ hw1
        unfold Oper.semiAt at *
        rwa [execOp_put oc (fun cs b => hsl m oc cs b hc') a0 oj.dst _ p3]
      refine wp_semi hc' hgc hs2 fun u w' ⟨v, hv, hw'⟩ => ?_
      subst hv
      have := after_S v B (a0.put oc.dst (vl v)) w' hw' (hq v)
      rw [Array.setIfInBounds_comm _ _ (show m ≠ j by omega), Act.put_comm a0 (vl v) (ptrAt B) p2] at this
      exact this
theorem run_alloc_op {oj : Oper} {t : TypeId} {zs : List Value} (hop : oj.op = .alloc t) (hrun : ∀ w, (Instr.alloc t true (.tuple #[])).run P w = .ok (ptrAt w.heap.size) (w.alloc (.cells zs.toArray t))) : ∀ (a : Act) (w : World), (execOp a.eval oj).run P w = .ok (.value (ptrAt w.heap.size)) (w.alloc (.cells zs.toArray t)) := fun a w => by
  unfold execOp
  rw [hop]
  simp only [Sem.run_bind, hrun, Result.andThen_ok, Sem.run_pure]
end
end Go.Proofs.Ytigmlkfmgheegaa
