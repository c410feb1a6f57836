/-
  Traps: vectors, names, which abort: plain. No condition.
-/
import Derived.Test.YtlkpddenhmlkbaaDoorBits
import Derived.Lib.Strings
namespace Go.Proofs.YtlkpddenhmlkbaaDoor
open Go.RowKit
set_option linter.unusedSimpArgs false
set_option linter.unusedVariables false
set_option maxHeartbeats 4000000
set_option maxRecDepth 100000

/-- The vector of a trap. -/
def vcV (t : Int) : Int := if 1 ≤ t ∧ t ≤ 9 then 4 * t else 0
/-- The trap of a vector. -/
def byV (v : Int) : Int × Bool := if 4 ≤ v ∧ v ≤ 36 ∧ v % 4 = 0 then (v / 4, true) else (0, false)
/-- Its name. -/
def nmV (t : Int) : ByteArray := if t = 1 then ⟨#[98, 117, 115]⟩ else if t = 2 then ⟨#[105, 108, 108, 101, 103, 97, 108]⟩ else if t = 3 then ⟨#[98, 112, 116]⟩ else if t = 4 then ⟨#[105, 111, 116]⟩ else if t = 5 then ⟨#[112, 111, 119, 101, 114]⟩ else if t = 6 then ⟨#[101, 109, 116]⟩ else if t = 7 then ⟨#[116, 114, 97, 112]⟩ else if t = 8 then ⟨#[109, 109, 117]⟩ else if t = 9 then ⟨#[112, 97, 114, 105, 116, 121]⟩ else ⟨#[]⟩
/-- Does it abort an instruction? -/
def abV (t : Int) : Bool := decide (t = 1) || decide (t = 2) || decide (t = 8) || decide (t = 9)
/-- All vectors. -/
def vcL : List Int := [4, 8, 12, 16, 20, 24, 28, 32, 36]
theorem vcV_yes {t : Int} (h : 1 ≤ t ∧ t ≤ 9) : vcV t = 4 * t := if_pos h
theorem vcV_no {t : Int} (h : ¬ (1 ≤ t ∧ t ≤ 9)) : vcV t = 0 := if_neg h
theorem byV_vc {t : Int} (h : 1 ≤ t ∧ t ≤ 9) : byV (4 * t) = (t, true) := by
  unfold byV
  rw [if_pos (by omega)]
  rw [show 4 * t / 4 = t from by omega]
theorem nmV_no {t : Int} (h : ¬ (1 ≤ t ∧ t ≤ 9)) : nmV t = ⟨#[]⟩ := by
  unfold nmV
  rw [if_neg (by omega), if_neg (by omega), if_neg (by omega), if_neg (by omega), if_neg (by omega), if_neg (by omega), if_neg (by omega), if_neg (by omega), if_neg (by omega)]
theorem nine {t : Int} (h : 1 ≤ t ∧ t ≤ 9) : t = 1 ∨ t = 2 ∨ t = 3 ∨ t = 4 ∨ t = 5 ∨ t = 6 ∨ t = 7 ∨ t = 8 ∨ t = 9 := by omega
theorem nmV_yes {t : Int} (h : 1 ≤ t ∧ t ≤ 9) : ¬ nmV t = ⟨#[]⟩ := by
  rcases nine h with rfl | rfl | rfl | rfl | rfl | rfl | rfl | rfl | rfl <;> decide
theorem nmV_ie {t : Int} (h : 1 ≤ t ∧ t ≤ 9) : (nmV t).toList.isEmpty = false := by
  rw [Lib.toList_data]
  rcases nine h with rfl | rfl | rfl | rfl | rfl | rfl | rfl | rfl | rfl <;> rfl
theorem nmV_ne {t u : Int} (h : 1 ≤ t ∧ t ≤ 9) (hne : ¬ t = u) : ¬ nmV t = nmV u := by
  by_cases hu : 1 ≤ u ∧ u ≤ 9
  · rcases nine h with rfl | rfl | rfl | rfl | rfl | rfl | rfl | rfl | rfl <;> rcases nine hu with rfl | rfl | rfl | rfl | rfl | rfl | rfl | rfl | rfl <;> first | (exact absurd rfl hne) | decide
  · rw [nmV_no hu]; exact nmV_yes h
theorem tl_ne {s u : ByteArray} (h : ¬ s = u) : (s.toList == u.toList) = false := by
  have : ¬ s.toList = u.toList := by
    rw [Lib.toList_data, Lib.toList_data]
    intro e
    exact h (ByteArray.ext (Array.toList_inj.1 e))
  simpa using this
theorem vcV_ne {t u : Int} (h : 1 ≤ t ∧ t ≤ 9) (hne : ¬ t = u) : ¬ vcV t = vcV u := by
  rw [vcV_yes h]
  unfold vcV
  split <;> omega
theorem vcL_get {k : Nat} (h : k < 9) : vcL[k]? = some (4 * ((k : Int) + 1)) := by
  rcases (by omega : k = 0 ∨ k = 1 ∨ k = 2 ∨ k = 3 ∨ k = 4 ∨ k = 5 ∨ k = 6 ∨ k = 7 ∨ k = 8) with rfl | rfl | rfl | rfl | rfl | rfl | rfl | rfl | rfl <;> rfl
theorem vcL_take {k : Nat} (h : k < 9) : vcL.take (k + 1) = vcL.take k ++ [4 * ((k : Int) + 1)] := by
  rcases (by omega : k = 0 ∨ k = 1 ∨ k = 2 ∨ k = 3 ∨ k = 4 ∨ k = 5 ∨ k = 6 ∨ k = 7 ∨ k = 8) with rfl | rfl | rfl | rfl | rfl | rfl | rfl | rfl | rfl <;> rfl
end Go.Proofs.YtlkpddenhmlkbaaDoor
