/-
  The evaluator of calls at given arguments, and its soundness: part Ra. It speaks of any program.
-/
import Derived.Test.YtlegcfjafdihlaaGreatDoorEvH
import Derived.RangeFuncLeaves
import Derived.RangeFuncNested
import Derived.OrdersIn
import Derived.LoopNIn
namespace Go.Proofs.YtlegcfjafdihlaaGreatDoor.Ev
open Go.RowKit
set_option linter.unusedSimpArgs false
set_option linter.unusedVariables false

/-! ### From a frame of its own into a round -/
def Fr : Option Nat → Fence
  | none => Fence.wide
  | some l => Fence.wide.inRound l
theorem Fr.fn (r : Option Nat) (f : FuncId) : (Fr r).fn f := by cases r <;> trivial
theorem Fr.depth (r : Option Nat) : (Fr r).depth = none := by cases r <;> rfl
theorem Fr.round (r : Option Nat) : (Fr r).round = r := by cases r <;> rfl
theorem callsFr {r : Option Nat} {n : Nat} {P : Program} {f : FuncId} {args : Array Value} {w : World} {R : Ending → World → Prop} (h : Calls P f args w R) : CallsIn (Fr r) n P f args w R := by
  cases r with
  | none => exact callsIn_wide.2 h
  | some l => exact CallsIn.inRound l (callsIn_wide.2 h)
theorem rowsFr {r : Option Nat} {n : Nat} {P : Program} {row : String} {args : Array Value} {w : World} {R : Value → World → Prop} (h : Rows P row args w R) : RowsIn (Fr r) n P row args w R := by
  intro c cs _
  obtain ⟨v, w', h1, h2⟩ := h c cs
  exact ⟨v, w', h1, by cases r <;> exact stepsIn_wide.2 h2⟩
def noDefer (ops : Array Oper) : Prop := ∀ (i : Nat) (o : Oper), ops[i]? = some o → ∀ c, o.op ≠ .defer c
section
variable {P : Program} {r : Option Nat} {n : Nat} {Q : Exit → Act → World → Prop}
theorem oper_fr {o : Oper} {a : Act} {w : World} {K K' : Act → World → Prop} (hd : ∀ c, o.op ≠ .defer c) (hl : ¬ LetsOut Q) (h : o.wp P a w K Q) (hk : ∀ a w, K a w → K' a w) : o.wpIn (Fr r) n P a w K' Q := by
  refine ⟨fun f _ => Fr.fn r f, ?_⟩
  rw [Oper.semAt_eq _ _ _ hd]
  unfold Oper.wp at h
  revert h
  cases (execOp a.eval o).run P w with
  | ok v w' =>
    intro h
    cases v with
    | value v => exact hk _ _ h
    | skip => exact hk _ _ h
    | defer d => exact hk _ _ h
    | enter f args =>
      refine ⟨fun e => (by rw [Fr.depth] at e; cases e), (callsFr h).mono fun e w hq => ?_⟩
      cases e with
      | returned v => exact hk _ _ hq
      | panicked c => exact hq
      | outgrown => exact hq
    | row row args => exact ⟨fun e => (by rw [Fr.depth] at e; cases e), (rowsFr h).mono fun v w hq => hk _ _ hq⟩
    | _ => exact h.elim
  | halt x w' => intro h; cases x <;> exact h
theorem op_fr {ops : Array Oper} {i : Nat} {a : Act} {w : World} {K K' : Act → World → Prop} (hd : noDefer ops) (hl : ¬ LetsOut Q) (h : wpOp P ops Q i K a w) (hk : ∀ a w, K a w → K' a w) : wpOpIn (Fr r) n P ops Q i K' a w := by
  unfold wpOp at h
  unfold wpOpIn
  cases ho : ops[i]? with
  | none => rw [ho] at h; exact hk _ _ h
  | some o =>
    rw [ho] at h
    dsimp only at h ⊢
    split at h
    · rename_i hw
      rw [if_pos hw]
      rcases h with h | h
      · exact oper_fr (hd i o ho) hl h hk
      · exact absurd h.2 hl
    · rename_i hw
      rw [if_neg hw]
      exact ⟨fun f _ => Fr.fn r f, hk _ _ h⟩
theorem ops_fr {ops : Array Oper} (hd : noDefer ops) (hl : ¬ LetsOut Q) : ∀ (l : List Nat) (a : Act) (w : World), wpOps P ops Q l a w → wpOpsIn (Fr r) n P ops Q l a w
  | [], a, w, h => h
  | i :: l, a, w, h => by
    rw [wpOpsIn_cons]
    rw [wpOps_cons] at h
    exact op_fr hd hl h (ops_fr hd hl l)
theorem any_fr {ops : Array Oper} (hd : noDefer ops) (hl : ¬ LetsOut Q) (md : Region.Mode) : ∀ (fuel : Nat) (listed : Array Bool) (a : Act) (w : World), wpAny P md ops Q fuel listed a w → wpAnyIn (Fr r) n P md ops Q fuel listed a w
  | 0, listed, a, w, h => h
  | fuel + 1, listed, a, w, h => ⟨h.1, fun i hi => op_fr hd hl (h.2 i hi) fun a w => any_fr hd hl md fuel _ a w⟩
/-- What a region's end may say. -/
def atEnd (Q : Exit → Act → World → Prop) : Exit → Act → World → Prop := fun e a w => e = .normal ∧ Q .normal a w
theorem room_fr (r : Option Nat) (k : Nat) : (Fr r).room k := by cases r <;> exact room_wide k
theorem wpIn_n {c : Code} {a : Act} {w : World} {n' : Nat} (h : c.wpIn (Fr r) n P Q a w) : c.wpIn (Fr r) n' P Q a w :=
  fun b k cs h1 h2 _ => h b k cs h1 h2 (room_fr r _)
theorem atEnd_in (Q : Exit → Act → World → Prop) : ¬ LetsOut (atEnd Q) := fun ⟨_, _, h⟩ => by cases h.1
theorem atEnd_out {c : Code} {a : Act} {w : World} (h : c.wpIn (Fr r) n P (atEnd Q) a w) : c.wpIn (Fr r) n P Q a w :=
  wpIn_mono h fun e a w q => by obtain ⟨rfl, q⟩ := q; exact q
end
end Go.Proofs.YtlegcfjafdihlaaGreatDoor.Ev
