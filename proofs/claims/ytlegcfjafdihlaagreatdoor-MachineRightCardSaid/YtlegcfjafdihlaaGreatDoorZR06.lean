import Derived.Test.YtlegcfjafdihlaaGreatDoorZR01
import Derived.Test.YtlegcfjafdihlaaGreatDoorZR05
import Derived.Maps.AppendAt
import Derived.Laws.AppendOwnNone
import Derived.Test.YtlegcfjafdihlaaGreatDoorZR02
import Derived.BigQuiet
/-
  Requests of interrupts: valid ones, their order, the sorted list: plain. No condition.
-/
namespace Go.Proofs.YtlegcfjafdihlaaGreatDoor
open Go.RowKit
set_option linter.unusedSimpArgs false
set_option linter.unusedVariables false

/-- A request: priority and vector. -/
abbrev Rq := Int × Int
/-- The place of a vector. -/
def rnk (v : Int) : Int := if v = 64 then 0 else if v = 160 then 1 else if v = 164 then 2 else 3 + v
/-- Is it served before? -/
def bef (a b : Rq) : Bool := if a.1 = b.1 then decide (rnk a.2 < rnk b.2) else decide (b.1 < a.1)
/-- Its place among all. -/
def key (q : Rq) : Int := (7 - q.1) * 1000 + rnk q.2
/-- Where x goes among the first k. -/
def pos (x : Rq) (l : List Rq) : Nat → Nat
  | 0 => 0
  | k + 1 => if bef x (l.getD k (0, 0)) = true then pos x l k else k + 1
end Go.Proofs.YtlegcfjafdihlaaGreatDoor
/-
  Rows of requests: their cells, append. No condition.
-/
namespace Go.Proofs.YtlegcfjafdihlaaGreatDoor
open Go.RowKit
set_option linter.unusedSimpArgs false
set_option linter.unusedVariables false
set_option maxHeartbeats 4000000
set_option maxRecDepth 100000
attribute [local irreducible] wpQuiet

theorem aggQ (w : World) : (isAgg 117).run Tryz.prog w = .ok true w := by kernel_rfl
theorem sizQ (w : World) : (sizeOf 117).run Tryz.prog w = .ok 2 w := by kernel_rfl
/-- The cells of requests. -/
def flat (l : List Rq) : List Value := l.flatMap fun q => [.int .i64 q.1, .int .i64 q.2]
theorem flat_length (l : List Rq) : (flat l).length = l.length * 2 := by
  induction l with
  | nil => rfl
  | cons q l ih => show ([_, _] ++ flat l).length = _; rw [List.length_append, ih]; simp; omega
theorem flat_append (a b : List Rq) : flat (a ++ b) = flat a ++ flat b := List.flatMap_append
theorem flat_cons (q : Rq) (l : List Rq) : flat (q :: l) = [.int .i64 q.1, .int .i64 q.2] ++ flat l := rfl
theorem flat_drop {l : List Rq} (k : Nat) (hk : k ≤ l.length) {j : Nat} {u : Value} (h : (flat (l.drop k))[j]? = some u) : (flat l)[k * 2 + j]? = some u := by
  have e : flat l = flat (l.take k) ++ flat (l.drop k) := by rw [← flat_append, List.take_append_drop]
  have hl : (flat (l.take k)).length = k * 2 := by rw [flat_length, List.length_take, Nat.min_eq_left hk]
  rw [e, List.getElem?_append_right (by omega), hl]
  rw [show k * 2 + j - k * 2 = j from by omega]; exact h
theorem flat_get {l : List Rq} {k : Nat} {q : Rq} (hq : l[k]? = some q) : ∀ j v, ([.int .i64 q.1, .int .i64 q.2] : List Value)[j]? = some v → (flat l)[k * 2 + j]? = some v := by
  have hk : k < l.length := (List.getElem?_eq_some_iff.1 hq).1
  intro j v hv
  refine flat_drop k (by omega) ?_
  rw [List.drop_eq_getElem_cons hk, (List.getElem?_eq_some_iff.1 hq).2, flat_cons]
  rw [List.getElem?_append_left (List.getElem?_eq_some_iff.1 hv).1]; exact hv
/-- A slice of requests that reads as l. -/
def Rqs (w : World) (v : Value) (l : List Rq) : Prop := Rw w v l.length (flat l)
theorem Rqs.load {w : World} {a : Addr} {n c k : Nat} {l : List Rq} {q : Rq} (h : Rqs w (.slice (some a) n c) l) (hn : n = l.length) (hq : l[k]? = some q) : (Instr.loadAt 117 (.pointer (some (a.add (k * 2))))).run Tryz.prog w = .ok (.agg #[.int .i64 q.1, .int .i64 q.2]) w := by
  subst hn
  exact Rw.loadAt (k := k) (s := 2) h (flat_get hq) rfl aggQ sizQ
theorem Rqs.cells {w : World} {a : Addr} {n c : Nat} {l : List Rq} (h : Rqs w (.slice (some a) n c) l) : ∀ j u, (flat l)[j]? = some u → w.cell? (a.add j) = some u := by
  obtain ⟨A, c', hv, _, hc⟩ := h
  cases hv
  intro j u hu
  obtain ⟨a', ha, h1, _⟩ := hc j u hu
  cases ha; exact h1
theorem Rqs.below {w w' : World} {v : Value} {l : List Rq} (h : Rqs w v l) (hb : Below w.heap.size w w') : Rqs w' v l := Rw.below h hb
end Go.Proofs.YtlegcfjafdihlaaGreatDoor
/-
  word, Reset, failed, Accept, Requests, Read of the reference. No condition.
-/
namespace Go.Proofs.YtlegcfjafdihlaaGreatDoor
open Go.RowKit
set_option linter.unusedSimpArgs false
set_option linter.unusedVariables false
set_option maxHeartbeats 4000000
set_option maxRecDepth 100000
attribute [local irreducible] wpQuiet

theorem rword_any (n : Int) (w : World) : Calls Tryz.prog 132 #[.int .i64 n] w fun e' w' => e' = .returned (.bool (wordV n)) ∧ Below w.heap.size w w' := by
  have hB := Below.refl w.heap.size w
  unfold wordV
  by_cases h1 : 0 ≤ n
  · have d1 : decide (0 ≤ n) = true := decide_eq_true h1
    go_enter Tryz.func132, Tryz.ntmps132
    go_wp2
    go_ret
    exact ⟨by simp [h1], hB⟩
  · have d1 : decide (0 ≤ n) = false := decide_eq_false h1
    go_enter Tryz.func132, Tryz.ntmps132
    go_wp2
    go_ret
    exact ⟨by simp, hB⟩
end Go.Proofs.YtlegcfjafdihlaaGreatDoor
/-
  A region that draws its order, with an allocation behind quiet operations and calls, and a tail that waits for all of them: walked once, in the order of the text, the tail behind it for every place of the new block. General. No condition.
-/
namespace Go.Proofs.YtlegcfjafdihlaaGreatDoor
open Go Go.RowKit

section
variable {P : Program} {ops : Array Oper} {md : Region.Mode} {K : Option Nat → World → Prop}

def YF (P : Program) (ops : Array Oper) (K : Option Nat → World → Prop) (o : Oper) (v : Value) (a : Act) : Prop := ∀ s, YieldsIn P ops (K s) o v a
theorem YF.same {o : Oper} {v : Value} {a a' : Act} (h : YF P ops K o v a) (he : execOp a'.eval o = execOp a.eval o) (hw : Region.wanted o (yielded ops a'.tmps) = Region.wanted o (yielded ops a.tmps)) : YF P ops K o v a' := fun s => (h s).of_same he hw
end
/-- A bag of blocks, and perhaps one new block. -/
def KB (t : TypeId) (zs : List Value) (l : List (Nat × TypeId × List Value)) (w0 : World) : Option Nat → World → Prop
  | none, w => Bag l w0 w
  | some B, w => Bag ((B, t, zs) :: l) w0 w
theorem KB.low {t : TypeId} {zs : List Value} {l : List (Nat × TypeId × List Value)} {w0 w : World} {s : Option Nat} (h : KB t zs l w0 s w) : Bag l w0 w := by
  cases s with
  | none => exact h
  | some B =>
    have h : Bag ((B, t, zs) :: l) w0 w := h
    exact ⟨fun B t cs hm => h.all B t cs (List.mem_cons_of_mem _ hm), h.below, fun b hb => h.lo b (List.mem_cons_of_mem _ hb), (List.nodup_cons.1 h.dis).2⟩
theorem KB.step {t : TypeId} {zs : List Value} {l : List (Nat × TypeId × List Value)} {w0 w w' : World} {s : Option Nat} (h : KB t zs l w0 s w) (hb : Below w.heap.size w w') : KB t zs l w0 s w' := by
  cases s with
  | none => exact Bag.step h hb
  | some B => exact Bag.step h hb
theorem KB.new {t : TypeId} {zs : List Value} {l : List (Nat × TypeId × List Value)} {w0 w : World} (h : KB t zs l w0 none w) : KB t zs l w0 (some w.heap.size) (w.alloc (.cells zs.toArray t)) := Bag.new h t zs
end Go.Proofs.YtlegcfjafdihlaaGreatDoor
/-
  A region that draws its order, with quiet operations, one call whose answer may hang on the world (fresh memory), quiet operations on that answer, an allocation, and a tail that waits for all of them: walked once, in the order of the text, the tail behind it for every answer and every place of the new block. General. No condition.
-/
namespace Go.Proofs.YtlegcfjafdihlaaGreatDoor
open Go Go.RowKit

section
variable {P : Program} {ops : Array Oper} {md : Region.Mode} {K : Option Nat → World → Prop}

/-- What is listed has been waited for. -/
def Clo (md : Region.Mode) (ops : Array Oper) (listed : Array Bool) : Prop := ∀ j oj, ops[j]? = some oj → listed.getD j false = true → ∀ e ∈ oj.after, Region.binds md e = true → listed.getD e.on false = true
theorem Clo.set {i : Nat} {listed : Array Bool} (inv : Clo md ops listed) (hi : i ∈ Region.ready md ops listed) : Clo md ops (listed.setIfInBounds i true) := by
  obtain ⟨_, oi, hoi, hall⟩ := mem_ready.1 hi
  intro j oj hj hl e he hb
  by_cases hij : i = j
  · subst hij
    have : oj = oi := Option.some.inj (hj.symm.trans hoi)
    subst this
    exact getD_set_true (hall e he hb)
  · rw [getD_set_ne false hij] at hl
    exact getD_set_true (inv j oj hj hl e he hb)
/-- Which operations may come up while a quiet one is open: the quiet ones of this phase, and j. -/
structure Only (md : Region.Mode) (ops : Array Oper) (j : Nat) (I : Nat → Prop) (Base : Array Bool → Prop) : Prop where
  only : ∀ listed i, Base listed → I i → listed.getD i true = false → ∀ k ∈ Region.ready md ops listed, I k ∨ k = j
  set : ∀ listed k, Base listed → k ∈ Region.ready md ops listed → (I k ∨ k = j) → Base (listed.setIfInBounds k true)
  size : ∀ listed, Base listed → listed.size = ops.size
end
end Go.Proofs.YtlegcfjafdihlaaGreatDoor
/-
  As region_call, but a store behind the allocation need not wait for all quiet operations: it may come while some are still open. General. No condition.
-/
namespace Go.Proofs.YtlegcfjafdihlaaGreatDoor
open Go Go.RowKit

section
variable {P : Program} {ops : Array Oper} {md : Region.Mode}

abbrev St := Option (Nat × Bool)
def St.enc : St → Option Nat
  | none => none
  | some (B, b) => some (2 * B + if b then 1 else 0)
end
end Go.Proofs.YtlegcfjafdihlaaGreatDoor
/-
  Apply of the reference. Condition: at most 2^40 sectors, bad ones and writes.
-/
namespace Go.Proofs.YtlegcfjafdihlaaGreatDoor
open Go.RowKit
set_option linter.unusedSimpArgs false
set_option linter.unusedVariables false
set_option maxHeartbeats 4000000
set_option maxRecDepth 100000
attribute [local irreducible] wpQuiet

/-- The cells of writes. -/
def flatW (l : List (Int × ByteArray)) : List Value := l.flatMap fun q => [.int .i64 q.1, .string q.2]
theorem flatW_append (a b : List (Int × ByteArray)) : flatW (a ++ b) = flatW a ++ flatW b := List.flatMap_append
theorem flatW_length (l : List (Int × ByteArray)) : (flatW l).length = l.length * 2 := by
  induction l with
  | nil => rfl
  | cons q l ih => show ([_, _] ++ flatW l).length = _; rw [List.length_append, ih]; simp; omega
theorem flatW_get {l : List (Int × ByteArray)} {k : Nat} {q : Int × ByteArray} (hq : l[k]? = some q) : ∀ j v, ([.int .i64 q.1, .string q.2] : List Value)[j]? = some v → (flatW l)[k * 2 + j]? = some v := by
  have hk : k < l.length := (List.getElem?_eq_some_iff.1 hq).1
  intro j v hv
  have e : flatW l = flatW (l.take k) ++ ([.int .i64 q.1, .string q.2] ++ flatW (l.drop (k + 1))) := by
    have e1 : flatW (l.drop k) = [.int .i64 q.1, .string q.2] ++ flatW (l.drop (k + 1)) := by
      rw [List.drop_eq_getElem_cons hk, (List.getElem?_eq_some_iff.1 hq).2]; rfl
    rw [← e1, ← flatW_append, List.take_append_drop]
  have hl : (flatW (l.take k)).length = k * 2 := by rw [flatW_length, List.length_take, Nat.min_eq_left (by omega)]
  rw [e, List.getElem?_append_right (by omega), hl, show k * 2 + j - k * 2 = j from by omega]
  rw [List.getElem?_append_left (List.getElem?_eq_some_iff.1 hv).1]; exact hv
/-- A slice of writes that reads as l. -/
def Wts (w : World) (v : Value) (l : List (Int × ByteArray)) : Prop := Rz w v l.length (flatW l)
theorem Wts.form {w : World} {v : Value} {l : List (Int × ByteArray)} (h : Wts w v l) : ∃ A c, v = .slice A l.length c ∧ l.length ≤ c ∧ ∀ (k : Nat) q, l[k]? = some q → ∃ a : Addr, A = some a ∧ ∀ w', Below w.heap.size w w' → (Instr.loadAt 3 (.pointer (some (a.add (k * 2))))).run Tryz.prog w' = .ok (.int .i64 q.1) w' ∧ (Instr.loadAt 9 (.pointer (some ((a.add (k * 2)).add 1)))).run Tryz.prog w' = .ok (.string q.2) w' := by
  have h0 := h
  obtain ⟨⟨A, c, rfl, hk, _⟩, _⟩ := h
  refine ⟨A, c, rfl, hk, fun k q hq => ?_⟩
  have h1 := flatW_get hq 0 _ rfl
  have h2 := flatW_get hq 1 _ rfl
  obtain ⟨a, rfl⟩ := Rz.addr h0 h1
  exact ⟨a, rfl, fun w' hb => ⟨Rz.load (Rz.below h0 hb) int_cell h1, by rw [addr_add]; exact Rz.load (Rz.below h0 hb) str_cell h2⟩⟩
theorem Bag.sub {l l' : List (Nat × TypeId × List Value)} {w0 w : World} (h : Bag l w0 w) (p : l'.Sublist l) : Bag l' w0 w :=
  ⟨fun B t cs hm => h.all B t cs (p.mem hm), h.below, fun b hb => h.lo b (p.mem hb), h.dis.sublist (p.map _)⟩
theorem StsX.over {X : Nat → Prop} {B : Nat} {w w' : World} {v : Value} {S : List ByteArray} (h : StsX X w v S) (hk : ∀ k, k ≠ B → w'.heap[k]? = w.heap[k]?) (hB : X B) : StsX X w' v S := h.off (fun b _ hx => hk b (fun e => hx (e ▸ hB))) (fun _ _ h => h)
theorem ItsX.over {X : Nat → Prop} {B : Nat} {w w' : World} {v : Value} {S : List Int} (h : ItsX X w v S) (hk : ∀ k, k ≠ B → w'.heap[k]? = w.heap[k]?) (hB : X B) : ItsX X w' v S := h.off (fun b _ hx => hk b (fun e => hx (e ▸ hB))) (fun _ _ h => h)
def KX (t : TypeId) (zs ns : List Value) (l : List (Nat × TypeId × List Value)) (w0 : World) : St → World → Prop
  | none, w => Bag l w0 w
  | some (B, false), w => Bag ((B, t, zs) :: l) w0 w
  | some (B, true), w => Bag ((B, t, ns) :: l) w0 w
theorem KX.of {t : TypeId} {zs ns : List Value} {l : List (Nat × TypeId × List Value)} {w0 w : World} {s : Option Nat} (h : KB t zs l w0 s w) : KX t zs ns l w0 (s.map (·, false)) w := by
  cases s <;> exact h
theorem KX.new {t : TypeId} {zs ns : List Value} {l : List (Nat × TypeId × List Value)} {w0 w : World} (h : KX t zs ns l w0 none w) : KX t zs ns l w0 (some (w.heap.size, false)) (w.alloc (.cells zs.toArray t)) := Bag.new h t zs
end Go.Proofs.YtlegcfjafdihlaaGreatDoor
