import Derived.StillTail
import Derived.Deep.Quiet
import Derived.Test.YtlegcfjafdihlaaGreatDoorZC06
/-
  A region that draws its order, with quiet operations, one call whose answer may hang on the world (fresh memory), quiet operations on that answer, an allocation, and a tail that waits for all of them: walked once, in the order of the text, the tail behind it for every answer and every place of the new block. General. No condition.
-/
namespace Go.Proofs.YtlegcfjafdihlaaGreatDoor
open Go Go.RowKit

section
variable {P : Program} {ops : Array Oper} {md : Region.Mode} {K : Option Nat → World → Prop}

/-- What is listed has been waited for. -/
def Clo (md : Region.Mode) (ops : Array Oper) (listed : Array Bool) : Prop := ∀ j oj, ops[j]? = some oj → listed.getD j false = true → ∀ e ∈ oj.after, Region.binds md e = true → listed.getD e.on false = true
theorem Clo.set {i : Nat} {listed : Array Bool} (inv : Clo md ops listed) (hi : i ∈ Region.ready md ops listed) : Clo md ops (listed.setIfInBounds i true) := by
  obtain ⟨_, oi, hoi, hall⟩ := mem_ready.1 hi
  intro j oj hj hl e he hb
  by_cases hij : i = j
  · subst hij
    have : oj = oi := Option.some.inj (hj.symm.trans hoi)
    subst this
    exact getD_set_true (hall e he hb)
  · rw [getD_set_ne false hij] at hl
    exact getD_set_true (inv j oj hj hl e he hb)
/-- Which operations may come up while a quiet one is open: the quiet ones of this phase, and j. -/
structure Only (md : Region.Mode) (ops : Array Oper) (j : Nat) (I : Nat → Prop) (Base : Array Bool → Prop) : Prop where
  only : ∀ listed i, Base listed → I i → listed.getD i true = false → ∀ k ∈ Region.ready md ops listed, I k ∨ k = j
  set : ∀ listed k, Base listed → k ∈ Region.ready md ops listed → (I k ∨ k = j) → Base (listed.setIfInBounds k true)
  size : ∀ listed, Base listed → listed.size = ops.size
/-- What is asked of the call: it enters a function whose contract gives an answer v and a world of R v. -/
def semiUpon (P : Program) (R : Value → World → Prop) (w : World) : Result Next → Prop
  | .ok (.enter f args) w' => w' = w ∧ Calls P f args w (fun e w'' => ∃ v, e = .returned v ∧ R v w'')
  | _ => False
def Oper.semiAt (P : Program) (o : Oper) (a : Act) (R : Value → World → Prop) (w : World) : Prop := semiUpon P R w ((execOp a.eval o).run P w)
theorem wp_semi {oc : Oper} {a : Act} {w : World} {R : Value → World → Prop} {KK : Act → World → Prop} {Q' : Exit → Act → World → Prop} {c : Nat} (hc : ops[c]? = some oc) (hgd : oc.guard = none) (h : Oper.semiAt P oc a R w) (hK : ∀ v w', R v w' → KK (a.put oc.dst v) w') : wpOp P ops Q' c KK a w := by
  have hwant : Region.wanted oc (yielded ops a.tmps) = true := by unfold Region.wanted; rw [hgd]
  unfold wpOp
  simp only [hc, hwant, if_true]
  refine .inl ?_
  unfold Oper.wp
  unfold Oper.semiAt at h
  generalize (execOp a.eval oc).run P w = r at *
  cases r with
  | ok n w' =>
    cases n <;> simp only [semiUpon] at h
    case enter f args =>
      obtain ⟨rfl, h⟩ := h
      simp only [Oper.upon]
      exact h.mono fun e w'' ⟨v, he, hw''⟩ => by subst he; exact hK v w'' hw''
  | halt x w' => simp only [semiUpon] at h
end
end Go.Proofs.YtlegcfjafdihlaaGreatDoor
/-
  As region_call, but a store behind the allocation need not wait for all quiet operations: it may come while some are still open. General. No condition.
-/
namespace Go.Proofs.YtlegcfjafdihlaaGreatDoor
open Go Go.RowKit

section
variable {P : Program} {ops : Array Oper} {md : Region.Mode}

abbrev St := Option (Nat × Bool)
def St.enc : St → Option Nat
  | none => none
  | some (B, b) => some (2 * B + if b then 1 else 0)
end
end Go.Proofs.YtlegcfjafdihlaaGreatDoor
/-
  Apply of the reference. Condition: at most 2^40 sectors, bad ones and writes.
-/
namespace Go.Proofs.YtlegcfjafdihlaaGreatDoor
open Go.RowKit
set_option linter.unusedSimpArgs false
set_option linter.unusedVariables false
set_option maxHeartbeats 4000000
set_option maxRecDepth 100000
attribute [local irreducible] wpQuiet

/-- The cells of writes. -/
def flatW (l : List (Int × ByteArray)) : List Value := l.flatMap fun q => [.int .i64 q.1, .string q.2]
theorem flatW_append (a b : List (Int × ByteArray)) : flatW (a ++ b) = flatW a ++ flatW b := List.flatMap_append
theorem flatW_length (l : List (Int × ByteArray)) : (flatW l).length = l.length * 2 := by
  induction l with
  | nil => rfl
  | cons q l ih => show ([_, _] ++ flatW l).length = _; rw [List.length_append, ih]; simp; omega
theorem flatW_get {l : List (Int × ByteArray)} {k : Nat} {q : Int × ByteArray} (hq : l[k]? = some q) : ∀ j v, ([.int .i64 q.1, .string q.2] : List Value)[j]? = some v → (flatW l)[k * 2 + j]? = some v := by
  have hk : k < l.length := (List.getElem?_eq_some_iff.1 hq).1
  intro j v hv
  have e : flatW l = flatW (l.take k) ++ ([.int .i64 q.1, .string q.2] ++ flatW (l.drop (k + 1))) := by
    have e1 : flatW (l.drop k) = [.int .i64 q.1, .string q.2] ++ flatW (l.drop (k + 1)) := by
      rw [List.drop_eq_getElem_cons hk, (List.getElem?_eq_some_iff.1 hq).2]; rfl
    rw [← e1, ← flatW_append, List.take_append_drop]
  have hl : (flatW (l.take k)).length = k * 2 := by rw [flatW_length, List.length_take, Nat.min_eq_left (by omega)]
  rw [e, List.getElem?_append_right (by omega), hl, show k * 2 + j - k * 2 = j from by omega]
  rw [List.getElem?_append_left (List.getElem?_eq_some_iff.1 hv).1]; exact hv
/-- A slice of writes that reads as l. -/
def Wts (w : World) (v : Value) (l : List (Int × ByteArray)) : Prop := Rz w v l.length (flatW l)
theorem Wts.form {w : World} {v : Value} {l : List (Int × ByteArray)} (h : Wts w v l) : ∃ A c, v = .slice A l.length c ∧ l.length ≤ c ∧ ∀ (k : Nat) q, l[k]? = some q → ∃ a : Addr, A = some a ∧ ∀ w', Below w.heap.size w w' → (Instr.loadAt 3 (.pointer (some (a.add (k * 2))))).run Tryz.prog w' = .ok (.int .i64 q.1) w' ∧ (Instr.loadAt 9 (.pointer (some ((a.add (k * 2)).add 1)))).run Tryz.prog w' = .ok (.string q.2) w' := by
  have h0 := h
  obtain ⟨⟨A, c, rfl, hk, _⟩, _⟩ := h
  refine ⟨A, c, rfl, hk, fun k q hq => ?_⟩
  have h1 := flatW_get hq 0 _ rfl
  have h2 := flatW_get hq 1 _ rfl
  obtain ⟨a, rfl⟩ := Rz.addr h0 h1
  exact ⟨a, rfl, fun w' hb => ⟨Rz.load (Rz.below h0 hb) int_cell h1, by rw [addr_add]; exact Rz.load (Rz.below h0 hb) str_cell h2⟩⟩
theorem Bag.sub {l l' : List (Nat × TypeId × List Value)} {w0 w : World} (h : Bag l w0 w) (p : l'.Sublist l) : Bag l' w0 w :=
  ⟨fun B t cs hm => h.all B t cs (p.mem hm), h.below, fun b hb => h.lo b (p.mem hb), h.dis.sublist (p.map _)⟩
theorem StsX.over {X : Nat → Prop} {B : Nat} {w w' : World} {v : Value} {S : List ByteArray} (h : StsX X w v S) (hk : ∀ k, k ≠ B → w'.heap[k]? = w.heap[k]?) (hB : X B) : StsX X w' v S := h.off (fun b _ hx => hk b (fun e => hx (e ▸ hB))) (fun _ _ h => h)
theorem ItsX.over {X : Nat → Prop} {B : Nat} {w w' : World} {v : Value} {S : List Int} (h : ItsX X w v S) (hk : ∀ k, k ≠ B → w'.heap[k]? = w.heap[k]?) (hB : X B) : ItsX X w' v S := h.off (fun b _ hx => hk b (fun e => hx (e ▸ hB))) (fun _ _ h => h)
def KX (t : TypeId) (zs ns : List Value) (l : List (Nat × TypeId × List Value)) (w0 : World) : St → World → Prop
  | none, w => Bag l w0 w
  | some (B, false), w => Bag ((B, t, zs) :: l) w0 w
  | some (B, true), w => Bag ((B, t, ns) :: l) w0 w
theorem KX.of {t : TypeId} {zs ns : List Value} {l : List (Nat × TypeId × List Value)} {w0 w : World} {s : Option Nat} (h : KB t zs l w0 s w) : KX t zs ns l w0 (s.map (·, false)) w := by
  cases s <;> exact h
theorem KX.new {t : TypeId} {zs ns : List Value} {l : List (Nat × TypeId × List Value)} {w0 w : World} (h : KX t zs ns l w0 none w) : KX t zs ns l w0 (some (w.heap.size, false)) (w.alloc (.cells zs.toArray t)) := Bag.new h t zs
end Go.Proofs.YtlegcfjafdihlaaGreatDoor
