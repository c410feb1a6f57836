import Derived.Test.YthpnddgfgpacpaaGreatRW19
import Derived.Test.YthpnddgfgpacpaaGreatRW03
import Derived.Test.YthpnddgfgpacpaaGreatRW14
import Derived.Test.YthpnddgfgpacpaaGreatRW13
import Derived.Test.YthpnddgfgpacpaaGreatRW07
import Derived.Test.YthpnddgfgpacpaaGreatRW17
/-
  XHo's region once more: what comes up alone may be any operation (a store into a box, too), not only a call. General. No condition.
-/
namespace Go.Proofs.YthpnddgfgpacpaaGreat
open Go Go.RowKit
set_option linter.unusedVariables false
set_option linter.unusedSimpArgs false

section
variable {P : Program} {ops : Array Oper} {md : Region.Mode} {Q : Exit → Act → World → Prop} {S : World → Prop}
def wpHp (P : Program) (ops : Array Oper) (Q : Exit → Act → World → Prop) (S : World → Prop) (F : Act → World → Prop) : List (Nat × Bool) → Act → World → Prop
  | [], a, w => F a w
  | (i, false) :: l, a, w => ∃ o v, ops[i]? = some o ∧ YieldsIf P ops S o v a ∧ wpHp P ops Q S F l (a.put o.dst v) w
  | (i, true) :: l, a, w => wpOp P ops Q i (fun a' w' => S w' ∧ wpHp P ops Q S F l a' w') a w

theorem wpHT_of_hp {n g : Nat} {F : Act → World → Prop} (hsel : Region.noSelect ops = true) (hs : Region.sinkB md ops n = true) (hc : Region.chainB md ops n = true) (hn : n < ops.size)
    (hQ : ∀ c a d v w, Q (.panic c) (a.put d v) w → Q (.panic c) a w) :
    ∀ (l : List (Nat × Bool)) (listed : Array Bool) (a : Act) (w : World), HeadInv md ops n listed → hoB md ops n g l listed = true → S w → wpHp P ops Q S F l a w →
    wpHT P md ops Q S (fun listed' a' w' => Region.seqB md ops g n listed' = true ∧ F a' w') l.length listed a w
  | [], listed, a, w, _, hB, _, h => ⟨hB, h⟩
  | (i, false) :: l, listed, a, w, inv, hB, hS, h => by
    obtain ⟨o, v, ho, hy, h⟩ := h
    simp only [hoB, Bool.and_eq_true, decide_eq_true_eq] at hB
    obtain ⟨⟨⟨hin, hr⟩, hf⟩, hB'⟩ := hB
    have hr' : i ∈ Region.ready md ops listed := by simpa using hr
    exact wpHT_first ho (Region.noSelect_spec hsel) (fun c a w => hQ c a _ _ w) hs hc hn hin (fun listed' a' w' hL => seqB_ready hL.1) l.length listed a w inv (Region.free_spec ho hf) hr' hy hS
      (wpHT_of_hp hsel hs hc hn hQ l _ _ _ (inv.set hr' hin) hB' hS h)
  | (i, true) :: l, listed, a, w, inv, hB, hS, h => by
    simp only [hoB, Bool.and_eq_true, decide_eq_true_eq] at hB
    obtain ⟨⟨hin, hr⟩, hB'⟩ := hB
    have hr' : i ∈ Region.ready md ops listed := by rw [hr]; simp
    refine ⟨by rw [hr]; simp, fun j hj => ?_⟩
    rw [hr] at hj
    obtain rfl : j = i := by simpa using hj
    exact wpOp_mono (fun a' w' h => ⟨h.1, wpHT_of_hp hsel hs hc hn hQ l _ _ _ (inv.set hr' hin) hB' h.1 h.2⟩) h

theorem region_hoistS {id : Nat} {a : Act} {w : World} {l : List Oper} (S : World → Prop) (n : Nat) (ord : List (Nat × Bool)) (hm : P.follows .mixedOrders = true)
    (hB : (Region.noSelect l.toArray && decide (n < l.toArray.size) && Region.sinkB .any l.toArray n && Region.chainB .any l.toArray n && decide (ord.length = n) && hoB .any l.toArray n (l.toArray.size - n) ord (Array.replicate l.toArray.size false)) = true)
    (hQ : ∀ c a d v w, Q (.panic c) (a.put d v) w → Q (.panic c) a w) (hS : S w.drew)
    (h : wpHp P l.toArray Q S (fun a' w' => wpList P l.toArray Q (l.drop n) a' w') ord a w.drew) : (Code.region id l.toArray true).wp P Q a w := by
  simp only [Bool.and_eq_true, decide_eq_true_eq] at hB
  obtain ⟨⟨⟨⟨⟨hsel, hn⟩, hs⟩, hc⟩, hlen⟩, hho⟩ := hB
  have hdl : (l.drop n).length = l.toArray.size - n := by simp
  have inv0 : HeadInv .any l.toArray n (Array.replicate l.toArray.size false) :=
    ⟨by simp, fun j oj _ hl => (by rw [getD_replicate_false] at hl; cases hl), fun t _ ht => getD_in (by simpa using ht) (getD_replicate_false _ _)⟩
  have H := wpHT_of_hp (md := .any) (Q := Q) (g := l.toArray.size - n) hsel hs hc hn hQ ord _ a w.drew inv0 hho hS h
  refine wp_region_any hm ?_
  have := wpAny_of_HT (Q := Q) (g := l.toArray.size - n) (fun listed a' w' hL => by
    have := wpAny_of_seq (md := .any) (Q' := Q) (l.drop n) n listed a' w' (fun j => by simp [List.getElem?_drop]) (by rw [hdl]; exact hL.1) hL.2
    rwa [hdl] at this) _ _ _ _ H
  rw [hlen, show n + (l.toArray.size - n) = l.toArray.size by omega] at this
  exact this
variable {F : Act → World → Prop}
theorem Bag.restS {b : Nat × TypeId × List Value} {l : List (Nat × TypeId × List Value)} {w0 w : World} (h : Bag (b :: l) w0 w) : Bag l w0 w := ⟨fun B t cs hm => h.all B t cs (.tail _ hm), h.below, fun q hq => h.lo q (.tail _ hq), (List.pairwise_cons.1 h.dis).2⟩
theorem wpHp_nil {a : Act} {w : World} (h : F a w) : wpHp P ops Q S F [] a w := h
theorem wpHp_q' {i : Nat} {lo : List Oper} {l : List (Nat × Bool)} {a : Act} {w : World} {o : Oper} (ho : lo[i]? = some o) (hw : Region.wanted o (yielded lo.toArray a.tmps) = true)
    (h : ∀ K : Act → Prop, (∀ a', wpHp P lo.toArray Q S F l a' w → K a') → ∃ v, (∀ w, S w → (execOp a.eval o).run P w = .ok (.value v) w) ∧ K (a.put o.dst v)) : wpHp P lo.toArray Q S F ((i, false) :: l) a w := by
  obtain ⟨v, h1, h2⟩ := h _ (fun _ h => h)
  exact ⟨o, v, by rw [List.getElem?_toArray]; exact ho, .inl ⟨hw, h1⟩, h2⟩
theorem wpHp_call {i : Nat} {lo : List Oper} {l : List (Nat × Bool)} {a : Act} {w : World} {o : Oper} (ho : lo[i]? = some o) (hg : o.guard = none)
    (h : ∀ K : Value → World → Prop, (∀ v w', S w' → wpHp P lo.toArray Q S F l (a.put o.dst v) w' → K v w') → Oper.semiAt P o a K w) : wpHp P lo.toArray Q S F ((i, true) :: l) a w :=
  wp_semi (R := fun v w' => S w' ∧ wpHp P lo.toArray Q S F l (a.put o.dst v) w') (by rw [List.getElem?_toArray]; exact ho) hg (h _ (fun _ _ h1 h2 => ⟨h1, h2⟩)) (fun v w' h => h)
/-- A box is stored whole. -/
theorem wpHp_over {i : Nat} {lo : List Oper} {l : List (Nat × Bool)} {lb : List (Nat × TypeId × List Value)} {a : Act} {w w0 : World} {o : Oper} {B n : Nat} {t T : TypeId} {cs cs' : List Value} (ho : lo[i]? = some o) (hg : o.guard = none) (hX : Bag ((B, t, cs) :: lb) w0 w) (hagg : ∀ w, (isAgg T).run P w = .ok true w) (hsz : ∀ w, (sizeOf T).run P w = .ok n w) (x y : Operand) (hop : o.op = Op.store T x y) (hx : a.eval x = .pointer (some ⟨B, 0, none⟩)) (hy : a.eval y = .agg cs'.toArray) (hdst : o.dst = none) (hn : cs'.length = n) (hc : cs.length = n) (h1 : ∀ v ∈ cs', v.oneCell' = true)
    (h : ∀ w2, Bag ((B, t, cs') :: lb) w0 w2 → (∀ k, k ≠ B → w2.heap[k]? = w.heap[k]?) → S w2 ∧ wpHp P lo.toArray Q S F l (a.put none undef) w2) : wpHp P lo.toArray Q S F ((i, true) :: l) a w := by
  have hwant : Region.wanted o (yielded lo.toArray a.tmps) = true := by unfold Region.wanted; rw [hg]
  have hi : lo.toArray[i]? = some o := by rw [List.getElem?_toArray]; exact ho
  have hrun := (hX.all _ _ _ List.mem_cons_self).store_run (P := P) (cs' := cs') (by rw [hn, hc]) h1
  show wpOp _ _ _ _ _ _ _
  unfold wpOp
  simp only [hi, hwant, if_true]
  refine .inl ?_
  unfold Oper.wp execOp
  simp only [hop, hx, hy, Instr.storeAt, Instr.sureAddr, storeVar, Value.cells, hrun, hagg, hn ▸ hsz, hsz, hn, List.size_toArray, ne_eq, not_true_eq_false, if_false, Sem.run_bind, Sem.run_pure, Result.andThen_ok, if_true]
  show _ ∧ _
  rw [hdst]
  exact h _ (hX.over _) (fun k hk => setRow_other w B k _ hk)
end
end Go.Proofs.YthpnddgfgpacpaaGreat
/-
  readReg of the reference. Conditions: a valid machine; an offset of a register.
-/
namespace Go.Proofs.YthpnddgfgpacpaaGreat
open Go.RowKit
set_option linter.unusedSimpArgs false
set_option linter.unusedVariables false
set_option maxHeartbeats 4000000
set_option maxRecDepth 100000
attribute [local irreducible] wpQuiet

theorem Ma.parts {A : Ma} (h : A.right = true) : A.L.length ≤ 4 ∧ (∀ x ∈ A.L, x.right = true) ∧ rightP A.M A.B = true ∧ A.U.right = true ∧ A.k.right = true ∧ A.K.right = true ∧ A.T.right = true := by
  unfold Ma.right at h
  simp only [Bool.and_eq_true, decide_eq_true_eq, List.all_eq_true] at h
  obtain ⟨⟨⟨⟨⟨⟨h1, h2⟩, h3⟩, h4⟩, h5⟩, h6⟩, h7⟩ := h
  exact ⟨h1, h2, h3, h4, h5, h6, h7⟩
theorem results_ctt18 {P : Program} {fn : Func} {tmps : Array Value} {w : World} {j k m : Tmp} {T : TypeId} {a : Addr} {v : Value} (hr : fn.results = #[.cell j T, .tmp k, .tmp m]) (ha : tmps.getD j undef = .pointer (some a)) (hl : (Go.loadVar T a).run P w = .ok v w) :
    (results fn tmps).run P w = .ok (.tuple #[v, tmps.getD k undef, tmps.getD m undef]) w := by
  unfold results
  rw [hr]
  have ha' := ha
  rw [Array.getD_eq_getD_getElem?] at ha'
  simp [ha', asAddr, hl]
theorem rline18 (A : Ma) (hA : A.ok) (hl4 : A.L.length ≤ 4) (off : Int) (vm vb vl vs vd vt : Value) (w : World) (h : Lns w vl A.L) : Calls Tryz.prog 91 #[.agg (A.cells vm vb vl vs vd vt).toArray, .int .i64 off] w fun e' w' => e' = .returned (.bool (A.isL off)) ∧ Below w.heap.size w w' := by
  obtain ⟨aL, cL, rfl, _, _⟩ := lns_form h
  exact rline_any A hA hl4 off vm vb vs vd vt aL cL w
theorem ownA18 {X : Nat → Prop} {N n : Nat} (h : ∀ b, X b → b < N) (hn : N + 2 ≤ n) : ∀ b, OwnA X N b → b < n := fun b hb => by
  rcases hb with hb | hb | hb
  · have := h b hb; omega
  · omega
  · omega
end Go.Proofs.YthpnddgfgpacpaaGreat
/-
  Read of the reference. Condition: a valid machine.
-/
namespace Go.Proofs.YthpnddgfgpacpaaGreat
open Go.RowKit
set_option linter.unusedSimpArgs false
set_option linter.unusedVariables false
set_option maxHeartbeats 4000000
set_option maxRecDepth 100000
attribute [local irreducible] wpQuiet

theorem ownW18 {X : Nat → Prop} {N : Nat} : ∀ b, b < N → OwnA X N b → X b := fun b hb h => by
  rcases h with h | h | h
  · exact h
  · omega
  · omega
theorem rdR_ok {A : Ma} (h : A.ok) (off : Int) : (A.rdR off).1.ok := by
  unfold Ma.rdR
  repeat' split
  all_goals exact h
theorem line_lo {A : Ma} (h : A.right = true) {off : Int} (hq : A.isL off = true) : (lnAt A off).right = true := by
  unfold Ma.isL at hq
  simp only [Bool.and_eq_true, decide_eq_true_eq] at hq
  have hl : ((off - 512) / 8).toNat < A.L.length := by omega
  have hx : lnAt A off = A.L[((off - 512) / 8).toNat] := by unfold lnAt; rw [List.getD_eq_getElem?_getD, List.getElem?_eq_getElem hl]; rfl
  rw [hx]
  exact (Ma.parts h).2.1 _ (List.getElem_mem hl)
theorem badB_len18 (n : Int) : ∀ (l : List Int) (low : Int), badB n low l = true → (l.length : Int) ≤ max 0 (n - low)
  | [], low, _ => by simp; omega
  | x :: r, low, h => by
    unfold badB at h
    simp only [Bool.and_eq_true, decide_eq_true_eq] at h
    have := badB_len18 n r (x + 2) h.2
    rw [List.length_cons]
    omega
theorem mem_lens {M B : List Int} (h : rightP M B = true) : M.length ≤ 1099511627776 ∧ B.length ≤ 1099511627776 := by
  unfold rightP at h
  simp only [Bool.and_eq_true] at h
  have h1 := badB_len18 _ _ _ h.2.2
  have h2 : M.length ≤ 16384 := by have := h.1; unfold okS at this; simp at this; omega
  omega
end Go.Proofs.YthpnddgfgpacpaaGreat
