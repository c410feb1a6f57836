/-
  The evaluator of calls at given arguments, and its soundness: part V. It speaks of any program.
-/
import Derived.Test.YtlegcfjafdihlaaGreatDoorEvU
namespace Go.Proofs.YtlegcfjafdihlaaGreatDoor.Ev
open Go.RowKit
set_option linter.unusedSimpArgs false
set_option linter.unusedVariables false

/-! ### What is held of the code, once -/
def glbB (gs : Nat) : Operand → Bool
  | .tmp _ => true
  | .const v => flat v
  | .global g => gs.testBit g
  | .func _ => true
def notSelect : Op → Bool
  | .select .. => false
  | _ => true
def ltAll (sz : Nat) (l : List Nat) : Bool := l.all fun x => Nat.blt x sz
def notDefer : Op → Bool
  | .defer .. => false
  | _ => true
def opB (gs sz : Nat) (ops : Array Oper) (o : Oper) : Bool :=
  ltAll sz o.dst.toList && ltAll sz (o.looksAt ops) && o.op.operands.toList.all (glbB gs) && notSelect o.op && notDefer o.op
def edgB (j : Nat) (o : Oper) : Bool := o.after.toList.all fun e => !Region.binds .any e || Nat.blt e.on j
def preB (ops : Array Oper) (o : Oper) : List Oper → Nat → Bool
  | [], _ => true
  | oi :: acc, i => (o.after.toList.any (fun e => Region.binds .any e && Nat.beq e.on (i - 1)) || oi.apart ops o) && preB ops o acc (i - 1)
def drB (ops : Array Oper) : List Oper → Nat → List Oper → Bool
  | [], _, _ => true
  | o :: rest, j, acc => edgB j o && preB ops o acc j && drB ops rest (j + 1) (o :: acc)
def slotB (gs sz : Nat) : Operand → Bool
  | .tmp t => Nat.blt t sz
  | x => glbB gs x
def codeB (gs sz : Nat) : Code → Bool
  | .region _ ops draw => ops.toList.all (opB gs sz ops) && (!draw || drB ops ops.toList 0 [])
  | .seq a b => codeB gs sz a && codeB gs sz b
  | .cond c a b => slotB gs sz c && codeB gs sz a && codeB gs sz b
  | .block _ b => codeB gs sz b
  | .loop b => codeB gs sz b
  | .rangeFunc g ps a b => slotB gs sz g && ltAll sz ps.toList && noRange a && noRange b && codeB gs sz a && codeB gs sz b
  | _ => true
def resB (sz : Nat) : ResultVar → Bool
  | .tmp t => Nat.blt t sz
  | .cell a _ => Nat.blt a sz
def fnB (gs : Nat) (fn : Func) : Bool :=
  !(fn.name == "runtime.NumGoroutine") && (match fn.body with | some b => codeB gs fn.ntmps b | none => true) && fn.results.toList.all (resB fn.ntmps)
/-- The functions of a list. -/
def tabF (P : Program) (M : Nat) (f : FuncId) : Option Func := match M.testBit f with
  | true => P.funcs[f]?
  | false => none
def fnsB (P : Program) (gs : Nat) : List Nat → Bool
  | [] => true
  | f :: l => (match P.funcs[f]? with | some fn => fnB gs fn | none => true) && fnsB P gs l
def maskOf : List Nat → Nat
  | [] => 0
  | f :: l => bit f ||| maskOf l
section
variable {P : Program} {G : Env} {gs : Nat} (hG : ∀ g, gs.testBit g = true → ∃ l, G g = some l ∧ l.blk = g ∧ l.off = 0)
include hG
theorem glbB_ok {x : Operand} (h : glbB gs x = true) : glbOk G x := by
  cases x with
  | tmp t => trivial
  | const v => exact h
  | global g => exact hG g h
  | func f => trivial
omit hG in
theorem preB_ok {ops : Array Oper} {o : Oper} : ∀ (acc : List Oper) (j : Nat), preB ops o acc j = true → acc.length = j → ∀ (i : Nat) (oi : Oper), i < j → acc[j - 1 - i]? = some oi → (∃ e ∈ o.after, Region.binds .any e = true ∧ e.on = i) ∨ oi.apart ops o = true
  | [], j, _, hl, i, oi, hi, h => by simp at hl; omega
  | x :: acc, j, h, hl, i, oi, hi, hoi => by
    simp only [preB, Bool.and_eq_true, Bool.or_eq_true] at h
    simp only [List.length_cons] at hl
    by_cases e : i = j - 1
    · subst e
      rw [show j - 1 - (j - 1) = 0 by omega] at hoi
      simp at hoi; subst hoi
      rcases h.1 with h1 | h1
      · left
        obtain ⟨e, he, hb⟩ := List.any_eq_true.1 h1
        rw [Bool.and_eq_true] at hb
        exact ⟨e, by simpa using he, hb.1, Nat.eq_of_beq_eq_true hb.2⟩
      · exact .inr h1
    · rw [show j - 1 - i = (j - 1 - 1 - i) + 1 by omega, List.getElem?_cons_succ] at hoi
      exact preB_ok acc (j - 1) h.2 (by omega) i oi (by omega) hoi
omit hG in
theorem drB_ok {ops : Array Oper} : ∀ (l : List Oper) (j : Nat) (acc : List Oper), drB ops l j acc = true → (∀ k, l[k]? = ops[j + k]?) → acc.length = j → (∀ i, i < j → acc[j - 1 - i]? = ops[i]?) →
    ∀ (k : Nat) (o : Oper), j ≤ k → ops[k]? = some o → (∀ e ∈ o.after, Region.binds .any e = true → e.on < k) ∧ ∀ (i : Nat) (oi : Oper), i < k → ops[i]? = some oi → (∃ e ∈ o.after, Region.binds .any e = true ∧ e.on = i) ∨ oi.apart ops o = true
  | [], j, acc, _, hl, _, _, k, o, hk, ho => by
    have := hl (k - j)
    rw [show j + (k - j) = k by omega, ho] at this
    simp at this
  | x :: l, j, acc, h, hl, hlen, hacc, k, o, hk, ho => by
    simp only [drB, Bool.and_eq_true] at h
    have hx : ops[j]? = some x := by simpa using (hl 0).symm
    by_cases e : k = j
    · subst e
      rw [hx] at ho; cases ho
      refine ⟨fun e he hb => ?_, fun i oi hi hoi => preB_ok acc k h.1.2 hlen i oi hi (by rw [hacc i hi]; exact hoi)⟩
      have := List.all_eq_true.1 h.1.1 e (by simpa using he)
      simp only [hb, Bool.not_true, Bool.false_or] at this
      rw [Nat.blt_eq] at this; exact this
    · refine drB_ok l (j + 1) (x :: acc) h.2 (fun k => by have := hl (k + 1); simpa [Nat.add_assoc, Nat.add_comm 1 k] using this) (by simp [hlen]) (fun i hi => ?_) k o (by omega) ho
      by_cases e2 : i = j
      · subst e2; rw [show i + 1 - 1 - i = 0 by omega]; simpa using hx.symm
      · rw [show j + 1 - 1 - i = (j - 1 - i) + 1 by omega, List.getElem?_cons_succ]; exact hacc i (by omega)
theorem codeB_ok {d sz : Nat} (hsz : sz ≤ 2 ^ d) : ∀ c, codeB gs sz c = true → codeSt G d sz c := by
  intro c
  induction c with
  | region id ops draw =>
    intro h
    simp only [codeB, Bool.and_eq_true, Bool.or_eq_true] at h
    have hop : ∀ (i : Nat) (o : Oper), ops[i]? = some o → opB gs sz ops o = true := fun i o ho => List.all_eq_true.1 h.1 o (by have := Array.mem_of_getElem? ho; simpa using this)
    refine ⟨⟨hsz, fun i o ho dd hd => ?_, fun i o ho x hx => ?_, fun i o ho x hx => ?_⟩, fun hd => ?_, fun i o ho cs b hc => ?_, fun i o ho c hc => ?_⟩
    · have := hop i o ho
      simp only [opB, Bool.and_eq_true] at this
      have h2 := List.all_eq_true.1 this.1.1.1.1 dd (by simp [hd])
      rw [Nat.blt_eq] at h2; exact h2
    · have := hop i o ho
      simp only [opB, Bool.and_eq_true] at this
      have h2 := List.all_eq_true.1 this.1.1.1.2 x hx
      rw [Nat.blt_eq] at h2; exact h2
    · have := hop i o ho
      simp only [opB, Bool.and_eq_true] at this
      exact glbB_ok hG (List.all_eq_true.1 this.1.1.2 x (by simpa using hx))
    · rcases h.2 with h2 | h2
      · rw [hd] at h2; cases h2
      · have := drB_ok ops.toList 0 [] h2 (by simp) rfl (fun i hi => by omega)
        exact ⟨fun i o ho => (this i o (by omega) ho).1, fun i j oi oj hij hi hj => (this j oj (by omega) hj).2 i oi hij hi⟩
    · have := hop i o ho
      simp only [opB, Bool.and_eq_true] at this
      rw [hc] at this
      cases this.1.2
    · have := hop i o ho
      simp only [opB, Bool.and_eq_true] at this
      rw [hc] at this
      cases this.2
  | seq a b iha ihb => intro h; simp only [codeB, Bool.and_eq_true] at h; exact ⟨iha h.1, ihb h.2⟩
  | cond c a b iha ihb =>
    intro h
    simp only [codeB, Bool.and_eq_true] at h
    refine ⟨?_, iha h.1.2, ihb h.2⟩
    have h1 := h.1.1
    cases c with
    | tmp t => simp only [slotB] at h1; rw [Nat.blt_eq] at h1; exact h1
    | const v => exact h1
    | global g => exact hG g h1
    | func f => trivial
  | block id b ih => intro h; exact ih h
  | loop b ih => intro h; exact ih h
  | rangeFunc g ps a b iha ihb =>
    intro h
    simp only [codeB, Bool.and_eq_true] at h
    obtain ⟨⟨⟨⟨⟨h1, h2⟩, h3⟩, h4⟩, h5⟩, h6⟩ := h
    refine ⟨hsz, ?_, fun p hp => ?_, h3, h4, iha h5, ihb h6⟩
    · cases g with
      | tmp t => simp only [slotB] at h1; rw [Nat.blt_eq] at h1; exact h1
      | const v => exact h1
      | global g => exact hG g h1
      | func f => trivial
    · have := List.all_eq_true.1 h2 p hp
      rw [Nat.blt_eq] at this; exact this
  | _ => intro _; trivial
theorem fnsB_ok : ∀ (l : List Nat), fnsB P gs l = true → ∀ f fn, tabF P (maskOf l) f = some fn → FnOk P G f fn
  | [], _, f, fn, h => by simp [tabF, maskOf] at h
  | g :: l, hb, f, fn, h => by
    simp only [fnsB, Bool.and_eq_true] at hb
    unfold tabF at h
    split at h
    case h_2 => cases h
    rename_i hm
    simp only [maskOf, Nat.testBit_or, Bool.or_eq_true, testBit_bit] at hm
    rcases hm with rfl | hm
    · have h1 := hb.1
      rw [h] at h1
      simp only [fnB, Bool.and_eq_true] at h1
      refine ⟨h, by simpa using h1.1.1, fun b hbody => ?_, fun r hr => ?_⟩
      · have h2 := h1.1.2
        rw [hbody] at h2
        exact codeB_ok hG (Nat.le_of_lt Nat.lt_log2_self) b h2
      · have h2 := List.all_eq_true.1 h1.2 r (by simpa using hr)
        cases r <;> (simp only [resB] at h2; rw [Nat.blt_eq] at h2; exact h2)
    · exact fnsB_ok l hb.2 f fn (by unfold tabF; rw [hm]; exact h)
end
/-- **A call without arguments, evaluated.** -/
theorem call0_ok {P : Program} {G : Env} {gs : Nat} (hG : ∀ g, gs.testBit g = true → ∃ l, G g = some l ∧ l.blk = g ∧ l.off = 0) (hm : P.follows .mixedOrders = true) {fs : List Nat} (hfs : fnsB P gs fs = true) {It : Iters} (hIt : ItOk P G It) {fuel f : Nat} {H : Hp} {nx W : Nat} {v : Value}
    (h : evCall0 P (tabF P (maskOf fs)) It fuel f H nx = some (v, W)) (hv : flat v = true) (hpar : nx % 2 = 0) (hfr : ∀ n, nx ≤ n → G n = none) (hW : ∀ n, W.testBit n = true → hp H n = none) (w : World) (hg : Good G G (hp H) w) :
    Calls P f #[] w fun e w' => e = .returned v ∧ Below w.heap.size w w' := by
  unfold evCall0 at h
  split at h
  case h_2 => cases h
  rename_i u H' nx' S W' hrun
  cases h
  have hF := fnsB_ok (P := P) hG fs hfs
  -- the call itself stands as a call of the evaluator's
  have hop : ∀ (call : FuncId → List Value → Hp → Nat → Rs), CallOk P G call → ∀ d T H nx (o : Oper) v H' nx' S W, nx % 2 = 0 → (∀ cs b, o.op ≠ .select cs b) → evOp P call d T H nx o = .ok v H' nx' S W → Stp H nx H' nx' W ∧ OpOk P G d T H nx o v H' nx' S W :=
    fun call hc d T H nx o v H' nx' S W hp hs he => evOp_ok hc hp hs he
  have hcall : CallOk P G (callWith P (tabF P (maskOf fs)) (evCode P (tabF P (maskOf fs)) It fuel)) := callWith_ok hm hIt hF hop fuel
  obtain ⟨_, _, hc⟩ := hcall f [] H nx v H' nx' S W hpar hrun
  have := hc G (hp H) w [] hg (fun _ _ => rfl) (fun n h1 _ => hfr n h1) .nil
  refine this.mono fun e w' he => ?_
  obtain ⟨ρ', u, rfl, hr, hev⟩ := he
  rw [hr.flat_inv hv]
  exact ⟨rfl, hev.os, hev.tape, hev.output, hev.size, fun k hk => hev.frame k hk fun n l hn hne _ => absurd (hW n hn) hne⟩
end Go.Proofs.YtlegcfjafdihlaaGreatDoor.Ev
