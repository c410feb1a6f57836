/-
  What the calls of package operand and of its reference return, said over the integers: one set of definitions for both sides. No condition.
-/
import Derived.Test.YtipaednpelapgaaDoorBits
namespace Go.Proofs.YtipaednpelapgaaDoor
open Go.RowKit

def exR (M R : Int) : Bool := decide (M = 6 ∨ M = 7 ∨ ((M = 2 ∨ M = 3) ∧ R = 7))
def dfR (M : Int) : Bool := decide (M = 3 ∨ M = 5 ∨ M = 7)
def unR (R : Int) (b : Bool) : Int := if b = true ∧ R ≠ 6 ∧ R ≠ 7 then 1 else 2
def stR (M R : Int) (b : Bool) : Int := if exR M R = true then 0 else if M = 2 then unR R b else if M = 4 then - unR R b else if M = 3 then 2 else if M = 5 then -2 else 0
def fdR (m r : Int) : Int := 8 * (m % 8) + r % 8
def vdR (m r x : Int) : Bool := decide (0 ≤ m ∧ m ≤ 7 ∧ 0 ≤ r ∧ r ≤ 7 ∧ 0 ≤ x ∧ x ≤ 65535) && (decide (x = 0) || exR (m % 8) (r % 8))
def wrR (m r x : Int) : Bool := vdR m r x && !decide (m = 2 ∧ r = 7)

theorem low_bd (n : Int) : 0 ≤ n % 8 ∧ n % 8 ≤ 7 := by omega
theorem low_cases {M : Int} (h : 0 ≤ M ∧ M ≤ 7) : M = 0 ∨ M = 1 ∨ M = 2 ∨ M = 3 ∨ M = 4 ∨ M = 5 ∨ M = 6 ∨ M = 7 := by omega
theorem exR_iff (M R : Int) : exR M R = true ↔ M = 6 ∨ M = 7 ∨ ((M = 2 ∨ M = 3) ∧ R = 7) := by unfold exR; simp
theorem exR_23 {M : Int} (R : Int) (h : M = 2 ∨ M = 3) : exR M R = decide (R = 7) := by
  unfold exR; rw [Bool.eq_iff_iff, decide_eq_true_eq, decide_eq_true_eq]; omega
theorem exR_67 {M : Int} (R : Int) (h : M = 6 ∨ M = 7) : exR M R = true := by
  unfold exR; rw [decide_eq_true_eq]; omega
theorem exR_no {M : Int} (R : Int) (h : M = 0 ∨ M = 1 ∨ M = 4 ∨ M = 5) : exR M R = false := by
  unfold exR; rw [decide_eq_false_iff_not]; omega
theorem unR_cases (R : Int) (b : Bool) : unR R b = 1 ∨ unR R b = 2 := by unfold unR; split <;> simp
theorem stR_bd (M R : Int) (b : Bool) : -2 ≤ stR M R b ∧ stR M R b ≤ 2 := by
  have := unR_cases R b
  unfold stR; split
  · omega
  · split
    · omega
    · split
      · omega
      · split
        · omega
        · split <;> omega
theorem stR_ex {M R : Int} (b : Bool) (h : exR M R = true) : stR M R b = 0 := by unfold stR; rw [if_pos h]
theorem stR_stack {M R : Int} (b : Bool) (h : R = 6 ∨ R = 7) : stR M R b = 0 ∨ stR M R b = 2 ∨ stR M R b = -2 := by
  have hu : unR R b = 2 := by unfold unR; rw [if_neg (by omega)]
  unfold stR; rw [hu]; split
  · omega
  · split
    · omega
    · split
      · omega
      · split
        · omega
        · split <;> omega
theorem fd_low (m r : Int) : fdR m r / 8 % 8 = m % 8 ∧ fdR m r % 8 = r % 8 := by unfold fdR; omega
theorem fd_from (n : Int) (h : 0 ≤ n ∧ n ≤ 63) : fdR (n / 8 % 8) (n % 8) = n := by unfold fdR; omega
theorem vd_from (n : Int) : vdR (n / 8 % 8) (n % 8) 0 = true := by
  unfold vdR
  rw [Bool.and_eq_true, decide_eq_true_eq]
  exact ⟨by omega, by simp⟩
theorem vd_parts {m r x : Int} (h : vdR m r x = true) : (0 ≤ m ∧ m ≤ 7 ∧ 0 ≤ r ∧ r ≤ 7 ∧ 0 ≤ x ∧ x ≤ 65535) ∧ (x = 0 ∨ exR m r = true) := by
  unfold vdR at h
  rw [Bool.and_eq_true, decide_eq_true_eq, Bool.or_eq_true, decide_eq_true_eq] at h
  obtain ⟨h1, h2⟩ := h
  rw [Int.emod_eq_of_lt (by omega) (by omega), Int.emod_eq_of_lt (by omega) (by omega)] at h2
  exact ⟨h1, h2⟩
theorem or_shl {a b : Int} (ha : 0 ≤ a ∧ a ≤ 7) (hb : 0 ≤ b ∧ b ≤ 7) : bits .or .i64 (a * 8) b = 8 * a + b := by
  rcases low_cases ha with rfl | rfl | rfl | rfl | rfl | rfl | rfl | rfl <;> rcases low_cases hb with rfl | rfl | rfl | rfl | rfl | rfl | rfl | rfl <;> decide +kernel
end Go.Proofs.YtipaednpelapgaaDoor
