import Derived.Test.YthpnddgfgpacpaaGreatRD05
import Derived.Test.YthpnddgfgpacpaaGreatRD02
import Derived.Test.YthpnddgfgpacpaaGreatRD01
import Derived.BigQuiet
/-
  word, Reset, failed, Accept, Requests, Read of the reference. No condition.
-/
namespace Go.Proofs.YthpnddgfgpacpaaGreat
open Go.RowKit
set_option linter.unusedSimpArgs false
set_option linter.unusedVariables false
set_option maxHeartbeats 4000000
set_option maxRecDepth 100000
attribute [local irreducible] wpQuiet

theorem rword_any (n : Int) (w : World) : Calls Tryz.prog 77 #[.int .i64 n] w fun e' w' => e' = .returned (.bool (wordV n)) ∧ Below w.heap.size w w' := by
  have hB := Below.refl w.heap.size w
  unfold wordV
  by_cases h1 : 0 ≤ n
  · have d1 : decide (0 ≤ n) = true := decide_eq_true h1
    go_enter Tryz.func77, Tryz.ntmps77
    go_wp2
    go_ret
    exact ⟨by simp [h1], hB⟩
  · have d1 : decide (0 ≤ n) = false := decide_eq_false h1
    go_enter Tryz.func77, Tryz.ntmps77
    go_wp2
    go_ret
    exact ⟨by simp, hB⟩
theorem rreadK_any (K : Dk) (g : Int) (hc0 : 0 ≤ K.c) (hc1 : K.c ≤ 3) (A1 : Option Addr) (n1 c1 : Nat) (A2 : Option Addr) (n2 c2 : Nat) (w : World) : Calls Tryz.prog 95 #[.agg #[(.slice A1 n1 c1), (.slice A2 n2 c2), .bool (K).n, .bool (K).r, .bool (K).e, .int .i64 (K).c, .int .i64 (K).w, .int .i64 (K).a, .int .i64 (K).s, .int .i64 (K).l], .int .i64 g] w fun e' w' => e' = .returned (.tuple #[.int .i64 (K.rd g).1, .bool (K.rd g).2]) ∧ Below w.heap.size w w' := by
  obtain ⟨D, n, r, e, c, w1, a, s, l⟩ := K
  dsimp only at hc0 hc1
  unfold Dk.rd stK
  have hX := (Bag.nil w).new 40 [(.slice A1 n1 c1), (.slice A2 n2 c2), .bool n, .bool r, .bool e, .int .i64 c, .int .i64 w1, .int .i64 a, .int .i64 s, .int .i64 l]
  by_cases h2 : g = 2
  · subst h2
    rw [if_pos rfl]
    go_enter Tryz.func95, Tryz.ntmps95
    go_wp2
    go_ret2
    exact ⟨rfl, hX.below⟩
  have e2 : (g == 2) = false := by simpa using h2
  rw [if_neg h2]
  by_cases h4 : g = 4
  · subst h4
    rw [if_pos rfl]
    go_enter Tryz.func95, Tryz.ntmps95
    go_wp2
    go_ret2
    exact ⟨rfl, hX.below⟩
  have e4 : (g == 4) = false := by simpa using h4
  rw [if_neg h4]
  by_cases h6 : g = 6
  · subst h6
    rw [if_pos rfl]
    go_enter Tryz.func95, Tryz.ntmps95
    go_wp2
    go_ret2
    exact ⟨rfl, hX.below⟩
  have e6 : (g == 6) = false := by simpa using h6
  rw [if_neg h6]
  by_cases h0 : g = 0
  · subst h0
    rw [if_pos rfl]
    have w0 : IntKind.i64.wrap (2 * c) = 2 * c := by rw [wrap_i64]; unfold wrap64; omega
    have w1' : IntKind.i64.wrap (2 * c + 64) = 2 * c + 64 := by rw [wrap_i64]; unfold wrap64; omega
    have w2 : IntKind.i64.wrap (2 * c + 128) = 2 * c + 128 := by rw [wrap_i64]; unfold wrap64; omega
    have w3 : IntKind.i64.wrap (2 * c + 64 + 128) = 2 * c + 64 + 128 := by rw [wrap_i64]; unfold wrap64; omega
    have w4 : IntKind.i64.wrap (2 * c + 32768) = 2 * c + 32768 := by rw [wrap_i64]; unfold wrap64; omega
    have w5 : IntKind.i64.wrap (2 * c + 64 + 32768) = 2 * c + 64 + 32768 := by rw [wrap_i64]; unfold wrap64; omega
    have w6 : IntKind.i64.wrap (2 * c + 128 + 32768) = 2 * c + 128 + 32768 := by rw [wrap_i64]; unfold wrap64; omega
    have w7 : IntKind.i64.wrap (2 * c + 64 + 128 + 32768) = 2 * c + 64 + 128 + 32768 := by rw [wrap_i64]; unfold wrap64; omega
    cases n <;> cases r <;> cases e
    all_goals
      go_enter Tryz.func95, Tryz.ntmps95
      go_wp2
      go_ret2
      exact ⟨by simp, hX.below⟩
  · have e0 : (g == 0) = false := by simpa using h0
    have e0' : (g != 0) = true := by simpa using h0
    rw [if_neg h0]
    go_enter Tryz.func95, Tryz.ntmps95
    go_wp2
    go_ret2
    exact ⟨rfl, hX.below⟩
end Go.Proofs.YthpnddgfgpacpaaGreat
/-
  A region that draws its order, with an allocation behind quiet operations and calls, and a tail that waits for all of them: walked once, in the order of the text, the tail behind it for every place of the new block. General. No condition.
-/
namespace Go.Proofs.YthpnddgfgpacpaaGreat
open Go Go.RowKit

section
variable {P : Program} {ops : Array Oper} {md : Region.Mode} {K : Option Nat → World → Prop}

def YF (P : Program) (ops : Array Oper) (K : Option Nat → World → Prop) (o : Oper) (v : Value) (a : Act) : Prop := ∀ s, YieldsIn P ops (K s) o v a
theorem YF.same {o : Oper} {v : Value} {a a' : Act} (h : YF P ops K o v a) (he : execOp a'.eval o = execOp a.eval o) (hw : Region.wanted o (yielded ops a'.tmps) = Region.wanted o (yielded ops a.tmps)) : YF P ops K o v a' := fun s => (h s).of_same he hw
end
/-- A bag of blocks, and perhaps one new block. -/
def KB (t : TypeId) (zs : List Value) (l : List (Nat × TypeId × List Value)) (w0 : World) : Option Nat → World → Prop
  | none, w => Bag l w0 w
  | some B, w => Bag ((B, t, zs) :: l) w0 w
theorem KB.low {t : TypeId} {zs : List Value} {l : List (Nat × TypeId × List Value)} {w0 w : World} {s : Option Nat} (h : KB t zs l w0 s w) : Bag l w0 w := by
  cases s with
  | none => exact h
  | some B =>
    have h : Bag ((B, t, zs) :: l) w0 w := h
    exact ⟨fun B t cs hm => h.all B t cs (List.mem_cons_of_mem _ hm), h.below, fun b hb => h.lo b (List.mem_cons_of_mem _ hb), (List.nodup_cons.1 h.dis).2⟩
theorem KB.step {t : TypeId} {zs : List Value} {l : List (Nat × TypeId × List Value)} {w0 w w' : World} {s : Option Nat} (h : KB t zs l w0 s w) (hb : Below w.heap.size w w') : KB t zs l w0 s w' := by
  cases s with
  | none => exact Bag.step h hb
  | some B => exact Bag.step h hb
theorem KB.new {t : TypeId} {zs : List Value} {l : List (Nat × TypeId × List Value)} {w0 w : World} (h : KB t zs l w0 none w) : KB t zs l w0 (some w.heap.size) (w.alloc (.cells zs.toArray t)) := Bag.new h t zs
end Go.Proofs.YthpnddgfgpacpaaGreat
/-
  A region that draws its order, with quiet operations, one call whose answer may hang on the world (fresh memory), quiet operations on that answer, an allocation, and a tail that waits for all of them: walked once, in the order of the text, the tail behind it for every answer and every place of the new block. General. No condition.
-/
namespace Go.Proofs.YthpnddgfgpacpaaGreat
open Go Go.RowKit

section
variable {P : Program} {ops : Array Oper} {md : Region.Mode} {K : Option Nat → World → Prop}

/-- What is listed has been waited for. -/
def Clo (md : Region.Mode) (ops : Array Oper) (listed : Array Bool) : Prop := ∀ j oj, ops[j]? = some oj → listed.getD j false = true → ∀ e ∈ oj.after, Region.binds md e = true → listed.getD e.on false = true
theorem Clo.set {i : Nat} {listed : Array Bool} (inv : Clo md ops listed) (hi : i ∈ Region.ready md ops listed) : Clo md ops (listed.setIfInBounds i true) := by
  obtain ⟨_, oi, hoi, hall⟩ := mem_ready.1 hi
  intro j oj hj hl e he hb
  by_cases hij : i = j
  · subst hij
    have : oj = oi := Option.some.inj (hj.symm.trans hoi)
    subst this
    exact getD_set_true (hall e he hb)
  · rw [getD_set_ne false hij] at hl
    exact getD_set_true (inv j oj hj hl e he hb)
/-- What is asked of the call: it enters a function whose contract gives an answer v and a world of R v. -/
def semiUpon (P : Program) (R : Value → World → Prop) (w : World) : Result Next → Prop
  | .ok (.enter f args) w' => w' = w ∧ Calls P f args w (fun e w'' => ∃ v, e = .returned v ∧ R v w'')
  | _ => False
def Oper.semiAt (P : Program) (o : Oper) (a : Act) (R : Value → World → Prop) (w : World) : Prop := semiUpon P R w ((execOp a.eval o).run P w)
theorem wp_semi {oc : Oper} {a : Act} {w : World} {R : Value → World → Prop} {KK : Act → World → Prop} {Q' : Exit → Act → World → Prop} {c : Nat} (hc : ops[c]? = some oc) (hgd : oc.guard = none) (h : Oper.semiAt P oc a R w) (hK : ∀ v w', R v w' → KK (a.put oc.dst v) w') : wpOp P ops Q' c KK a w := by
  have hwant : Region.wanted oc (yielded ops a.tmps) = true := by unfold Region.wanted; rw [hgd]
  unfold wpOp
  simp only [hc, hwant, if_true]
  refine .inl ?_
  unfold Oper.wp
  unfold Oper.semiAt at h
  generalize (execOp a.eval oc).run P w = r at *
  cases r with
  | ok n w' =>
    cases n <;> simp only [semiUpon] at h
    case enter f args =>
      obtain ⟨rfl, h⟩ := h
      simp only [Oper.upon]
      exact h.mono fun e w'' ⟨v, he, hw''⟩ => by subst he; exact hK v w'' hw''
  | halt x w' => simp only [semiUpon] at h
end
end Go.Proofs.YthpnddgfgpacpaaGreat
/-
  As region_call, but a store behind the allocation need not wait for all quiet operations: it may come while some are still open. General. No condition.
-/
namespace Go.Proofs.YthpnddgfgpacpaaGreat
open Go Go.RowKit

section
variable {P : Program} {ops : Array Oper} {md : Region.Mode}

abbrev St := Option (Nat × Bool)
def St.enc : St → Option Nat
  | none => none
  | some (B, b) => some (2 * B + if b then 1 else 0)
end
end Go.Proofs.YthpnddgfgpacpaaGreat
/-
  Apply of the reference. Condition: at most 2^40 sectors, bad ones and writes.
-/
namespace Go.Proofs.YthpnddgfgpacpaaGreat
open Go.RowKit
set_option linter.unusedSimpArgs false
set_option linter.unusedVariables false
set_option maxHeartbeats 4000000
set_option maxRecDepth 100000
attribute [local irreducible] wpQuiet

/-- The cells of writes. -/
def flatW (l : List (Int × ByteArray)) : List Value := l.flatMap fun q => [.int .i64 q.1, .string q.2]
theorem flatW_append (a b : List (Int × ByteArray)) : flatW (a ++ b) = flatW a ++ flatW b := List.flatMap_append
theorem flatW_length (l : List (Int × ByteArray)) : (flatW l).length = l.length * 2 := by
  induction l with
  | nil => rfl
  | cons q l ih => show ([_, _] ++ flatW l).length = _; rw [List.length_append, ih]; simp; omega
theorem flatW_get {l : List (Int × ByteArray)} {k : Nat} {q : Int × ByteArray} (hq : l[k]? = some q) : ∀ j v, ([.int .i64 q.1, .string q.2] : List Value)[j]? = some v → (flatW l)[k * 2 + j]? = some v := by
  have hk : k < l.length := (List.getElem?_eq_some_iff.1 hq).1
  intro j v hv
  have e : flatW l = flatW (l.take k) ++ ([.int .i64 q.1, .string q.2] ++ flatW (l.drop (k + 1))) := by
    have e1 : flatW (l.drop k) = [.int .i64 q.1, .string q.2] ++ flatW (l.drop (k + 1)) := by
      rw [List.drop_eq_getElem_cons hk, (List.getElem?_eq_some_iff.1 hq).2]; rfl
    rw [← e1, ← flatW_append, List.take_append_drop]
  have hl : (flatW (l.take k)).length = k * 2 := by rw [flatW_length, List.length_take, Nat.min_eq_left (by omega)]
  rw [e, List.getElem?_append_right (by omega), hl, show k * 2 + j - k * 2 = j from by omega]
  rw [List.getElem?_append_left (List.getElem?_eq_some_iff.1 hv).1]; exact hv
/-- A slice of writes that reads as l. -/
def Wts (w : World) (v : Value) (l : List (Int × ByteArray)) : Prop := Rz w v l.length (flatW l)
theorem Wts.form {w : World} {v : Value} {l : List (Int × ByteArray)} (h : Wts w v l) : ∃ A c, v = .slice A l.length c ∧ l.length ≤ c ∧ ∀ (k : Nat) q, l[k]? = some q → ∃ a : Addr, A = some a ∧ ∀ w', Below w.heap.size w w' → (Instr.loadAt 3 (.pointer (some (a.add (k * 2))))).run Tryz.prog w' = .ok (.int .i64 q.1) w' ∧ (Instr.loadAt 9 (.pointer (some ((a.add (k * 2)).add 1)))).run Tryz.prog w' = .ok (.string q.2) w' := by
  have h0 := h
  obtain ⟨⟨A, c, rfl, hk, _⟩, _⟩ := h
  refine ⟨A, c, rfl, hk, fun k q hq => ?_⟩
  have h1 := flatW_get hq 0 _ rfl
  have h2 := flatW_get hq 1 _ rfl
  obtain ⟨a, rfl⟩ := Rz.addr h0 h1
  exact ⟨a, rfl, fun w' hb => ⟨Rz.load (Rz.below h0 hb) int_cell h1, by rw [addr_add]; exact Rz.load (Rz.below h0 hb) str_cell h2⟩⟩
theorem Bag.perm {l l' : List (Nat × TypeId × List Value)} {w0 w : World} (h : Bag l w0 w) (p : l.Perm l') : Bag l' w0 w :=
  ⟨fun B t cs hm => h.all B t cs (p.mem_iff.2 hm), h.below, fun b hb => h.lo b (p.mem_iff.2 hb), (p.map _).nodup_iff.1 h.dis⟩
theorem Bag.sub {l l' : List (Nat × TypeId × List Value)} {w0 w : World} (h : Bag l w0 w) (p : l'.Sublist l) : Bag l' w0 w :=
  ⟨fun B t cs hm => h.all B t cs (p.mem hm), h.below, fun b hb => h.lo b (p.mem hb), h.dis.sublist (p.map _)⟩
theorem StsX.over {X : Nat → Prop} {B : Nat} {w w' : World} {v : Value} {S : List ByteArray} (h : StsX X w v S) (hk : ∀ k, k ≠ B → w'.heap[k]? = w.heap[k]?) (hB : X B) : StsX X w' v S := h.off (fun b _ hx => hk b (fun e => hx (e ▸ hB))) (fun _ _ h => h)
theorem ItsX.over {X : Nat → Prop} {B : Nat} {w w' : World} {v : Value} {S : List Int} (h : ItsX X w v S) (hk : ∀ k, k ≠ B → w'.heap[k]? = w.heap[k]?) (hB : X B) : ItsX X w' v S := h.off (fun b _ hx => hk b (fun e => hx (e ▸ hB))) (fun _ _ h => h)
theorem StsX.less {X Y : Nat → Prop} {w : World} {v : Value} {S : List ByteArray} (h : StsX X w v S) (hY : ∀ b, Y b → X b) : StsX Y w v S := h.off (fun _ _ _ => rfl) (fun b _ h => hY b h)
theorem ItsX.less {X Y : Nat → Prop} {w : World} {v : Value} {S : List Int} (h : ItsX X w v S) (hY : ∀ b, Y b → X b) : ItsX Y w v S := h.off (fun _ _ _ => rfl) (fun b _ h => hY b h)
/-- Those of X, and two blocks of the call's own. -/
def OwnA (X : Nat → Prop) (N b : Nat) : Prop := X b ∨ b = N ∨ b = N + 1
def KX (t : TypeId) (zs ns : List Value) (l : List (Nat × TypeId × List Value)) (w0 : World) : St → World → Prop
  | none, w => Bag l w0 w
  | some (B, false), w => Bag ((B, t, zs) :: l) w0 w
  | some (B, true), w => Bag ((B, t, ns) :: l) w0 w
theorem KX.of {t : TypeId} {zs ns : List Value} {l : List (Nat × TypeId × List Value)} {w0 w : World} {s : Option Nat} (h : KB t zs l w0 s w) : KX t zs ns l w0 (s.map (·, false)) w := by
  cases s <;> exact h
theorem KX.new {t : TypeId} {zs ns : List Value} {l : List (Nat × TypeId × List Value)} {w0 w : World} (h : KX t zs ns l w0 none w) : KX t zs ns l w0 (some (w.heap.size, false)) (w.alloc (.cells zs.toArray t)) := Bag.new h t zs
end Go.Proofs.YthpnddgfgpacpaaGreat
