/-
  A region that draws its order, whose operations are quiet in a class of worlds, but for the last one, which waits for all others (a store at the end): walked once, in the order of the text, the last operation behind it in every world of the class.
-/
import Derived.StillTail
import Derived.Deep.Quiet
import Derived.Tactics
namespace Go.Proofs.Ytigmlkfmgheegaa
open Go

/-- The operation's place in the order, without what it does. -/
def blank (o : Oper) : Oper := { o with op := .move (.const undef) }

structure LastOnly (md : Region.Mode) (ops ops' : Array Oper) (n : Nat) (s : Oper) : Prop where
  size : ops.size = n + 1
  size' : ops'.size = n + 1
  head : ∀ i, i < n → ops'[i]? = ops[i]?
  last : ops[n]? = some s
  last' : ops'[n]? = some (blank s)
  dst : s.dst = none
  sink : Region.sinkB md ops n = true
  chain : Region.chainB md ops n = true
  topo : ∀ i o, ops[i]? = some o → ∀ e ∈ o.after, Region.binds md e = true → e.on < i

theorem LastOnly.ready {md : Region.Mode} {ops ops' : Array Oper} {n : Nat} {s : Oper} (h : LastOnly md ops ops' n s) (listed : Array Bool) : Region.ready md ops' listed = Region.ready md ops listed := by
  unfold Region.ready
  rw [h.size, h.size']
  refine List.filter_congr fun i hi => ?_
  have hi' := List.mem_range.1 hi
  rcases Nat.lt_or_ge i n with k | k
  · rw [h.head i k]
  · obtain rfl : i = n := by omega
    rw [h.last, h.last']
    rfl
theorem LastOnly.yields {md : Region.Mode} {ops ops' : Array Oper} {n : Nat} {s : Oper} (h : LastOnly md ops ops' n s) (t : Array Value) (j : Nat) : yielded ops' t j = yielded ops t j := by
  have e : (ops'[j]?).bind (·.dst) = (ops[j]?).bind (·.dst) := by
    rcases Nat.lt_or_ge j n with k | k
    · rw [h.head j k]
    · rcases Nat.lt_or_ge n j with k' | k'
      · rw [Array.getElem?_eq_none (by rw [h.size']; omega), Array.getElem?_eq_none (by rw [h.size]; omega)]
      · obtain rfl : j = n := by omega
        rw [h.last, h.last']
        rfl
  unfold yielded
  rw [e]
theorem LastOnly.yields' {md : Region.Mode} {ops ops' : Array Oper} {n : Nat} {s : Oper} (h : LastOnly md ops ops' n s) (t : Array Value) : yielded ops' t = yielded ops t := funext (h.yields t)
theorem LastOnly.quiet {md : Region.Mode} {ops ops' : Array Oper} {n : Nat} {s : Oper} {P : Program} {C : World → Prop} (h : LastOnly md ops ops' n s) {i : Nat} (hi : i < n) {K : Act → Prop} {a : Act} (hq : qOp P ops' C i K a) : qOp P ops C i K a := by
  unfold qOp at *
  rw [h.head i hi, h.yields'] at hq
  exact hq

theorem least_open {listed : Array Bool} : ∀ n : Nat, listed.getD n true = false → ∃ i, i ≤ n ∧ listed.getD i true = false ∧ ∀ j, j < i → listed.getD j true = true := by
    intro n
    induction n using Nat.strongRecOn with
    | _ n ih =>
      intro h
      by_cases k : ∃ j, j < n ∧ listed.getD j true = false
      · obtain ⟨j, hj, hf⟩ := k
        obtain ⟨i, hi, h1, h2⟩ := ih j hj hf
        exact ⟨i, by omega, h1, h2⟩
      · refine ⟨n, Nat.le_refl _, h, fun j hj => ?_⟩
        cases hc : listed.getD j true
        · exact absurd ⟨j, hj, hc⟩ k
        · rfl
theorem LastOnly.ready_ne {md : Region.Mode} {ops ops' : Array Oper} {n : Nat} {s : Oper} (h : LastOnly md ops ops' n s) {listed : Array Bool} (inv : HeadInv md ops n listed) : Region.ready md ops listed ≠ [] := by
  obtain ⟨i, hi, h1, h2⟩ := least_open n (inv.tail n (Nat.le_refl _) (by rw [h.size]; omega))
  have hlt : i < ops.size := by rw [h.size]; omega
  have hm : i ∈ Region.ready md ops listed := mem_ready.2 ⟨h1, ops[i], Array.getElem?_eq_getElem hlt, fun e he hb => by
    have k := h.topo i _ (Array.getElem?_eq_getElem hlt) e he hb
    have k2 := h2 e.on k
    have hs : e.on < listed.size := by rw [inv.size]; omega
    simp [hs] at k2 ⊢
    exact k2⟩
  intro h0
  rw [h0] at hm
  cases hm

theorem LastOnly.any {md : Region.Mode} {ops ops' : Array Oper} {n : Nat} {s : Oper} {P : Program} {C : World → Prop} {Q : Exit → Act → World → Prop} (h : LastOnly md ops ops' n s) :
    ∀ (fuel : Nat) (listed : Array Bool) (a : Act) (w : World), HeadInv md ops n listed → C w → wpAnyQ P md ops' C (fun a' => ∀ w', C w' → wpList P ops Q [s] a' w') fuel listed a → wpAny P md ops Q fuel listed a w
  | 0, listed, a, w, inv, _, hq => absurd (by rw [← h.ready]; exact hq.1) (h.ready_ne inv)
  | fuel + 1, listed, a, w, inv, hw, hq => by
    refine ⟨fun h0 => absurd h0 (h.ready_ne inv), fun i hi => ?_⟩
    have hq' := hq.2 i (by rw [h.ready]; exact hi)
    obtain ⟨hun, oi, hoi, hall⟩ := mem_ready.1 hi
    have hlt : i < n + 1 := by rw [← h.size]; exact (Array.getElem?_eq_some_iff.1 hoi).1
    rcases Nat.lt_or_ge i n with k | k
    · exact wpOp_of_qOp hw (fun a' w' hw' hk => h.any fuel _ a' w' (inv.set hi k) hw' hk) (h.quiet k hq')
    · obtain rfl : i = n := by omega
      have hdone : ∀ j, j < i → listed.getD j true = true := fun j hj => by
        cases hc : listed.getD j true
        · exact absurd hi (tail_waits h.sink h.chain (by rw [h.size]; omega) inv _ j rfl hj hc i (Nat.le_refl _))
        · rfl
      have hnil : Region.ready md ops (listed.setIfInBounds i true) = [] := by
        refine List.eq_nil_iff_forall_not_mem.2 fun j hj => ?_
        obtain ⟨hu, oj, hoj, _⟩ := mem_ready.1 hj
        have hjl : j < i + 1 := by rw [← h.size]; exact (Array.getElem?_eq_some_iff.1 hoj).1
        by_cases hji : i = j
        · subst hji
          have hs : i < listed.size := by rw [inv.size, h.size]; omega
          simp [hs] at hu
        · rw [getD_set_ne true hji, hdone j (by omega)] at hu
          cases hu
      have hput : ∀ v, a.put none v = a := fun v => rfl
      have hQ : ∀ w', C w' → wpList P ops Q [s] a w' := by
        have hk : wpAnyQ P md ops' C (fun a' => ∀ w', C w' → wpList P ops Q [s] a' w') fuel (listed.setIfInBounds i true) a := by
          unfold qOp at hq'
          rw [h.last'] at hq'
          simp only at hq'
          have e : (blank s).dst = none := h.dst
          split at hq'
          · obtain ⟨v, _, hv⟩ := hq'
            rw [e, hput] at hv
            exact hv
          · rw [e, hput] at hq'
            exact hq'
        cases fuel with
        | zero => exact hk.2
        | succ f => exact hk.1 (by rw [h.ready]; exact hnil)
      have hw0 : wpOp P ops Q i (wpList P ops Q []) a w := by
        unfold wpOp
        simp only [h.last]
        exact hQ w hw
      refine wpOp_mono (fun a' w' hn => ?_) hw0
      have hn' : Q .normal a' w' := hn
      cases fuel with
      | zero => exact ⟨hnil, hn'⟩
      | succ f => exact ⟨fun _ => hn', fun j hj => by rw [hnil] at hj; cases hj⟩

def topoB (md : Region.Mode) (ops : List Oper) : Bool := (List.range ops.length).all fun i => (((ops[i]?).map fun o => o.after.toList.all fun e => !Region.binds md e || decide (e.on < i)).getD true)
theorem topoB_spec {md : Region.Mode} {l : List Oper} (h : topoB md l = true) : ∀ i o, l.toArray[i]? = some o → ∀ e ∈ o.after, Region.binds md e = true → e.on < i := by
  intro i o ho e he hb
  have ho' : l[i]? = some o := by simpa using ho
  have hlt : i < l.length := (List.getElem?_eq_some_iff.1 ho').1
  have k := List.all_eq_true.1 h i (List.mem_range.2 hlt)
  rw [ho'] at k
  simp only [Option.map_some, Option.getD_some] at k
  have k2 := List.all_eq_true.1 k e (by simpa using he)
  rw [hb] at k2
  simpa using k2

/-- The last operation of a list of operations, blanked. -/
def blankLast (l : List Oper) (n : Nat) : List Oper := l.take n ++ (l.drop n).map blank

theorem region_class_last {P : Program} {id : Nat} {Q : Exit → Act → World → Prop} {a : Act} {w : World} {l : List Oper} (C : World → Prop) (n : Nat) (s : Oper) (hm : P.follows .mixedOrders = true)
    (hl : l.length = n + 1) (hs : l[n]? = some s) (hd : s.dst = none) (hS : Region.sinkB .any l.toArray n = true) (hT : topoB .any l = true) (hB : Region.lexB .any (blankLast l n).toArray = true) (hC : C w.drew)
    (h : wpQuiet P (blankLast l n).toArray C (fun a' => ∀ w', C w' → wpList P l.toArray Q [s] a' w') (blankLast l n) a) : (Code.region id l.toArray true).wp P Q a w := by
  have hdrop : l.drop n = [s] := by
    have hn : n < l.length := by omega
    rw [List.drop_eq_getElem_cons hn, List.drop_eq_nil_of_le (by omega)]
    rw [List.getElem?_eq_getElem hn] at hs
    rw [Option.some.inj hs]
  have hbl : blankLast l n = l.take n ++ [blank s] := by unfold blankLast; rw [hdrop]; rfl
  have htl : (l.take n).length = n := by simp; omega
  have L : LastOnly .any l.toArray (blankLast l n).toArray n s :=
    { size := by simpa using hl
      size' := by rw [hbl]; simp; omega
      head := fun i hi => by
        rw [hbl]
        simp only [List.getElem?_toArray]
        rw [List.getElem?_append_left (by omega), List.getElem?_take_of_lt hi]
      last := by simpa using hs
      last' := by
        rw [hbl]
        simp only [List.getElem?_toArray]
        rw [List.getElem?_append_right (by omega), htl]
        simp
      dst := hd
      sink := hS
      chain := by
        unfold Region.chainB
        refine List.all_eq_true.2 fun t ht => ?_
        have := List.mem_range.1 ht
        have e : l.toArray.size = n + 1 := by simpa using hl
        rw [e] at this
        simp; omega
      topo := topoB_spec hT }
  have hsz : (blankLast l n).length = l.toArray.size := by rw [hbl]; simp; omega
  simp only [Region.lexB, Bool.and_eq_true] at hB
  have H := wpAnyQ_lex (C := C) (md := .any) hB.1 (blankLast l n) 0 (Array.replicate (blankLast l n).toArray.size false) a (by simp) (by simpa using hB.2) h
  refine wp_region_any hm ?_
  have inv0 : HeadInv .any l.toArray n (Array.replicate l.toArray.size false) :=
    ⟨by simp, fun j oj _ hl => (by rw [getD_replicate_false] at hl; cases hl), fun t _ ht => getD_in (by simpa using ht) (getD_replicate_false _ _)⟩
  refine L.any _ _ a _ inv0 hC ?_
  have e : (blankLast l n).toArray.size = l.toArray.size := by simpa using hsz
  rw [e, hsz] at H
  exact H
end Go.Proofs.Ytigmlkfmgheegaa
