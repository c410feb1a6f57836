import Derived.Test.YthpnddgfgpacpaaGreatRW20
/-
  XHoS's region with allocations that may come up at any time (a pool): at each operation that comes up alone, one of the pool may come first. General. No condition.
-/
namespace Go.Proofs.YthpnddgfgpacpaaGreat
open Go Go.RowKit
set_option linter.unusedVariables false
set_option linter.unusedSimpArgs false

section
variable {P : Program} {ops : Array Oper} {md : Region.Mode} {Q : Exit → Act → World → Prop} {S : World → Prop}
def wpFl (P : Program) (ops : Array Oper) (Q : Exit → Act → World → Prop) (S : World → Prop) (F : Act → World → Prop) : Nat → List Nat → List (Nat × Bool) → Act → World → Prop
  | 0, _, _, a, w => F a w
  | f + 1, pool, [], a, w => ∀ j ∈ pool, wpOp P ops Q j (fun a' w' => S w' ∧ wpFl P ops Q S F f (pool.erase j) [] a' w') a w
  | f + 1, pool, (i, false) :: l, a, w => ∃ o v, ops[i]? = some o ∧ YieldsIf P ops S o v a ∧ wpFl P ops Q S F f pool l (a.put o.dst v) w
  | f + 1, pool, (i, true) :: l, a, w => wpOp P ops Q i (fun a' w' => S w' ∧ wpFl P ops Q S F f pool l a' w') a w ∧ ∀ j ∈ pool, wpOp P ops Q j (fun a' w' => S w' ∧ wpFl P ops Q S F f (pool.erase j) ((i, true) :: l) a' w') a w
/-- May the operations be taken so, whenever those of the pool come up? -/
def flB (md : Region.Mode) (ops : Array Oper) (n g : Nat) (l2 : List (Nat × Bool)) : Nat → List Nat → List (Nat × Bool) → Array Bool → Bool
  | 0, pool, main, listed => pool.isEmpty && main.isEmpty && hoB md ops n g l2 listed
  | f + 1, pool, [], listed => !(Region.ready md ops listed).isEmpty && (Region.ready md ops listed).all (fun j => pool.contains j) && pool.all (fun j => decide (j < n) && flB md ops n g l2 f (pool.erase j) [] (listed.setIfInBounds j true))
  | f + 1, pool, (i, false) :: l, listed => decide (i < n) && (Region.ready md ops listed).contains i && Region.free md ops listed i && flB md ops n g l2 f pool l (listed.setIfInBounds i true)
  | f + 1, pool, (i, true) :: l, listed => decide (i < n) && (Region.ready md ops listed).contains i && (Region.ready md ops listed).all (fun j => j == i || pool.contains j) && flB md ops n g l2 f pool l (listed.setIfInBounds i true) && pool.all (fun j => decide (j < n) && flB md ops n g l2 f (pool.erase j) ((i, true) :: l) (listed.setIfInBounds j true))

theorem wpHT_of_fl {n g : Nat} {F : Act → World → Prop} {l2 : List (Nat × Bool)} (hsel : Region.noSelect ops = true) (hs : Region.sinkB md ops n = true) (hc : Region.chainB md ops n = true) (hn : n < ops.size)
    (hQ : ∀ c a d v w, Q (.panic c) (a.put d v) w → Q (.panic c) a w) :
    ∀ (f : Nat) (pool : List Nat) (main : List (Nat × Bool)) (listed : Array Bool) (a : Act) (w : World), HeadInv md ops n listed → flB md ops n g l2 f pool main listed = true → S w → wpFl P ops Q S (wpHp P ops Q S F l2) f pool main a w →
    wpHT P md ops Q S (fun listed' a' w' => Region.seqB md ops g n listed' = true ∧ F a' w') (l2.length + f) listed a w
  | 0, pool, main, listed, a, w, inv, hB, hS, h => by
    simp only [flB, Bool.and_eq_true] at hB
    exact wpHT_of_hp hsel hs hc hn hQ l2 listed a w inv hB.2 hS h
  | f + 1, pool, [], listed, a, w, inv, hB, hS, h => by
    simp only [flB, Bool.and_eq_true, List.all_eq_true, decide_eq_true_eq] at hB
    obtain ⟨⟨hne, hal⟩, hp⟩ := hB
    refine ⟨fun e => (by rw [e] at hne; simp at hne), fun j hj => ?_⟩
    have hjp : j ∈ pool := by have := hal j hj; simpa using this
    exact wpOp_mono (fun a' w' h' => ⟨h'.1, wpHT_of_fl hsel hs hc hn hQ f _ _ _ _ _ (inv.set hj (hp j hjp).1) (hp j hjp).2 h'.1 h'.2⟩) (h j hjp)
  | f + 1, pool, (i, false) :: l, listed, a, w, inv, hB, hS, h => by
    obtain ⟨o, v, ho, hy, h⟩ := h
    simp only [flB, Bool.and_eq_true, decide_eq_true_eq] at hB
    obtain ⟨⟨⟨hin, hr⟩, hf⟩, hB'⟩ := hB
    have hr' : i ∈ Region.ready md ops listed := by simpa using hr
    exact wpHT_first ho (Region.noSelect_spec hsel) (fun c a w => hQ c a _ _ w) hs hc hn hin (fun listed' a' w' hL => seqB_ready hL.1) (l2.length + f) listed a w inv (Region.free_spec ho hf) hr' hy hS
      (wpHT_of_fl hsel hs hc hn hQ f _ _ _ _ _ (inv.set hr' hin) hB' hS h)
  | f + 1, pool, (i, true) :: l, listed, a, w, inv, hB, hS, h => by
    simp only [flB, Bool.and_eq_true, List.all_eq_true, decide_eq_true_eq] at hB
    obtain ⟨⟨⟨⟨hin, hr⟩, hal⟩, hB'⟩, hp⟩ := hB
    have hr' : i ∈ Region.ready md ops listed := by simpa using hr
    refine ⟨fun e => (by rw [e] at hr'; cases hr'), fun j hj => ?_⟩
    by_cases hji : j = i
    · subst hji
      exact wpOp_mono (fun a' w' h' => ⟨h'.1, wpHT_of_fl hsel hs hc hn hQ f _ _ _ _ _ (inv.set hj hin) hB' h'.1 h'.2⟩) h.1
    · have hjp : j ∈ pool := by have := hal j hj; simpa [hji] using this
      exact wpOp_mono (fun a' w' h' => ⟨h'.1, wpHT_of_fl hsel hs hc hn hQ f _ _ _ _ _ (inv.set hj (hp j hjp).1) (hp j hjp).2 h'.1 h'.2⟩) (h.2 j hjp)

theorem region_hoistF {id : Nat} {a : Act} {w : World} {l : List Oper} (S : World → Prop) (n f : Nat) (pool : List Nat) (main l2 : List (Nat × Bool)) (hm : P.follows .mixedOrders = true)
    (hB : (Region.noSelect l.toArray && decide (n < l.toArray.size) && Region.sinkB .any l.toArray n && Region.chainB .any l.toArray n && decide (l2.length + f = n) && flB .any l.toArray n (l.toArray.size - n) l2 f pool main (Array.replicate l.toArray.size false)) = true)
    (hQ : ∀ c a d v w, Q (.panic c) (a.put d v) w → Q (.panic c) a w) (hS : S w.drew)
    (h : wpFl P l.toArray Q S (wpHp P l.toArray Q S (fun a' w' => wpList P l.toArray Q (l.drop n) a' w') l2) f pool main a w.drew) : (Code.region id l.toArray true).wp P Q a w := by
  simp only [Bool.and_eq_true, decide_eq_true_eq] at hB
  obtain ⟨⟨⟨⟨⟨hsel, hn⟩, hs⟩, hc⟩, hlen⟩, hho⟩ := hB
  have hdl : (l.drop n).length = l.toArray.size - n := by simp
  have inv0 : HeadInv .any l.toArray n (Array.replicate l.toArray.size false) :=
    ⟨by simp, fun j oj _ hl => (by rw [getD_replicate_false] at hl; cases hl), fun t _ ht => getD_in (by simpa using ht) (getD_replicate_false _ _)⟩
  have H := wpHT_of_fl (md := .any) (Q := Q) (g := l.toArray.size - n) hsel hs hc hn hQ _ pool main _ a w.drew inv0 hho hS h
  refine wp_region_any hm ?_
  have := wpAny_of_HT (Q := Q) (g := l.toArray.size - n) (fun listed a' w' hL => by
    have := wpAny_of_seq (md := .any) (Q' := Q) (l.drop n) n listed a' w' (fun j => by simp [List.getElem?_drop]) (by rw [hdl]; exact hL.1) hL.2
    rwa [hdl] at this) _ _ _ _ H
  rw [hlen, show n + (l.toArray.size - n) = l.toArray.size by omega] at this
  exact this
variable {F : Act → World → Prop}
theorem wpFl_end {a : Act} {w : World} {pool : List Nat} {l : List (Nat × Bool)} (h : F a w) : wpFl P ops Q S F 0 pool l a w := h
theorem wpFl_q' {f i : Nat} {lo : List Oper} {pool : List Nat} {l : List (Nat × Bool)} {a : Act} {w : World} {o : Oper} (ho : lo[i]? = some o) (hw : Region.wanted o (yielded lo.toArray a.tmps) = true)
    (h : ∀ K : Act → Prop, (∀ a', wpFl P lo.toArray Q S F f pool l a' w → K a') → ∃ v, (∀ w, S w → (execOp a.eval o).run P w = .ok (.value v) w) ∧ K (a.put o.dst v)) : wpFl P lo.toArray Q S F (f + 1) pool ((i, false) :: l) a w := by
  obtain ⟨v, h1, h2⟩ := h _ (fun _ h => h)
  exact ⟨o, v, by rw [List.getElem?_toArray]; exact ho, .inl ⟨hw, h1⟩, h2⟩
theorem wpFl_call {f i : Nat} {lo : List Oper} {pool : List Nat} {l : List (Nat × Bool)} {a : Act} {w : World} {o : Oper} (ho : lo[i]? = some o) (hg : o.guard = none)
    (h : ∀ K : Value → World → Prop, (∀ v w', S w' → wpFl P lo.toArray Q S F f pool l (a.put o.dst v) w' → K v w') → Oper.semiAt P o a K w)
    (h2 : ∀ j ∈ pool, wpOp P lo.toArray Q j (fun a' w' => S w' ∧ wpFl P lo.toArray Q S F f (pool.erase j) ((i, true) :: l) a' w') a w) : wpFl P lo.toArray Q S F (f + 1) pool ((i, true) :: l) a w :=
  ⟨wp_semi (R := fun v w' => S w' ∧ wpFl P lo.toArray Q S F f pool l (a.put o.dst v) w') (by rw [List.getElem?_toArray]; exact ho) hg (h _ (fun _ _ h1 h2 => ⟨h1, h2⟩)) (fun v w' h => h), h2⟩
theorem wpFl_pool {f : Nat} {lo : List Oper} {pool : List Nat} {a : Act} {w : World}
    (h2 : ∀ j ∈ pool, wpOp P lo.toArray Q j (fun a' w' => S w' ∧ wpFl P lo.toArray Q S F f (pool.erase j) [] a' w') a w) : wpFl P lo.toArray Q S F (f + 1) pool [] a w := h2
theorem wpFl_alloc {f j : Nat} {lo : List Oper} {pool : List Nat} {l : List (Nat × Bool)} {a : Act} {w : World} {oj : Oper} (t : TypeId) (zs : List Value) (hj : lo[j]? = some oj) (hg : oj.guard = none) (hop : oj.op = .alloc t) (hrun : ∀ w, (Instr.alloc t true (.tuple #[])).run P w = .ok (ptrAt w.heap.size) (w.alloc (.cells zs.toArray t)))
    (h : ∀ b w2, b = w.heap.size → w2 = w.alloc (.cells zs.toArray t) → S w2 ∧ wpFl P lo.toArray Q S F f pool l (a.put oj.dst (.pointer (some ⟨b, 0, none⟩))) w2) : wpOp P lo.toArray Q j (fun a' w' => S w' ∧ wpFl P lo.toArray Q S F f pool l a' w') a w :=
  wp_alloc (obj := fun _ => .cells zs.toArray t) (by rw [List.getElem?_toArray]; exact hj) hg (run_alloc_op hop hrun a w) (h _ _ rfl rfl)
end
end Go.Proofs.YthpnddgfgpacpaaGreat
