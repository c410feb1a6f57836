/-
  Operations on operands: what they answer, plain; size of the reference. No condition.
-/
import Derived.Test.YtpimdbglmoopcaaDoorRefB
import Derived.Test.YtpimdbglmoopcaaDoorRefC
import Derived.Test.YtpimdbglmoopcaaDoorRefF
namespace Go.Proofs.YtpimdbglmoopcaaDoor
open Go.RowKit
set_option linter.unusedSimpArgs false
set_option linter.unusedVariables false
set_option maxHeartbeats 4000000
set_option maxRecDepth 100000

/-- The codes of a result, with C kept. -/
def kc (b : Bool) (r f : Int) : Int := cod (neg b r) (zer b r) false (decide (f % 2 = 1))
theorem kc_sum (b : Bool) (r f q : Int) (h : cod (neg b r) (zer b r) false false = q) : kc b r f = q + f % 2 := by
  unfold kc
  rcases (by omega : f % 2 = 0 ∨ f % 2 = 1) with e | e
  · rw [e, decide_eq_false (by decide), h]; omega
  · rw [e, decide_eq_true rfl, ← h]
    cases neg b r <;> cases zer b r <;> rfl
theorem rsize_any (b : Bool) (n : Int) (w : World) : Calls Tryd.prog 24 #[.int .i64 n, .bool b] w fun e w' => e = .returned (.int .i64 (op b n)) ∧ w = w' := by
  have A1 := and_65535 n
  have A2 := and_255 n
  cases b
  all_goals
    go_enter Tryd.func24, Tryd.ntmps24
    go_wp2
    go_ret
    exact ⟨rfl, rfl⟩
end Go.Proofs.YtpimdbglmoopcaaDoor
