/-
  The sums behind WordDivides and WordTurns. No condition.
-/
import Derived.Test.YtlcngnnlimhjmabDoorPlainC
namespace Go.Proofs.YtlcngnnlimhjmabDoor
open Go.RowKit

theorem sg_mod (x : Int) : sg false (x % 65536) = sg false x := by
  show (x % 65536 + 32768) % 65536 - 32768 = (x + 32768) % 65536 - 32768
  omega
theorem sg_fit (x : Int) (h : fit x = true) : sg false x = x := by
  have := of_decide_eq_true h
  show (x + 32768) % 65536 - 32768 = x
  omega
theorem sg_low (x : Int) : sg false x % 65536 = x % 65536 := by
  show ((x + 32768) % 65536 - 32768) % 65536 = x % 65536
  omega

theorem div_sum (a b c : Int) : divQ a b c * sg false c + divR a b c = divN a b := by
  have := divR_eq a b c
  omega
theorem div_near (a b c : Int) (hc : sg false c ≠ 0) : (divR a b c).natAbs < (sg false c).natAbs := by
  unfold divR
  rw [Int.natAbs_tmod]
  exact Nat.mod_lt _ (by omega)
theorem div_sign (a b c : Int) : (0 ≤ divN a b → 0 ≤ divR a b c) ∧ (divN a b ≤ 0 → divR a b c ≤ 0) := by
  unfold divR
  refine ⟨fun h => Int.tmod_nonneg _ h, fun h => ?_⟩
  have h1 : 0 ≤ (-divN a b).tmod (sg false c) := Int.tmod_nonneg _ (by omega)
  rw [Int.neg_tmod] at h1
  omega
theorem divR_fit (a b c : Int) (hc : sg false c ≠ 0) : fit (divR a b c) = true := by
  have h1 := div_near a b c hc
  have h2 := sg_bd c
  exact decide_eq_true (by omega)

theorem mulN (a b : Int) : divN (mulH a b) (mulL a b) = mulP a b := by
  have h := mul_bd a b
  show ((mulP a b / 65536 % 65536 + 32768) % 65536 - 32768) * 65536 + mulP a b % 65536 % 65536 = mulP a b
  generalize mulP a b = p at *
  omega
theorem mulQ (a b : Int) (h : sg false b ≠ 0) : divQ (mulH a b) (mulL a b) b = sg false a := by
  unfold divQ
  rw [mulN]
  exact Int.mul_tdiv_cancel _ h
theorem mulR (a b : Int) : divR (mulH a b) (mulL a b) b = 0 := by
  unfold divR
  rw [mulN]
  exact Int.mul_tmod_left _ _

theorem rot_codes_low (l b : Bool) (x c : Int) : rotF l b x c % 2 = bit (rotC l b x) := by unfold rotF; rw [cod_1']
theorem rot_back_f (x c : Int) : rotR false false (rotR true false x c) (rotF true false x c) = x % 65536 := by
  show ((x % 65536 * 2 + c % 2) % 65536) % 65536 / 2 + 32768 * (rotF true false x c % 2) = x % 65536
  rw [rot_codes_low]
  show _ + 32768 * bit (decide (32768 ≤ x % 65536)) = _
  by_cases h : 32768 ≤ x % 65536 <;> simp only [h, decide_true, decide_false, bit, if_true, Bool.false_eq_true, if_false] <;> omega
theorem rot_back_t (x c : Int) : rotR false true (rotR true true x c) (rotF true true x c) = x % 256 := by
  show ((x % 256 * 2 + c % 2) % 256) % 256 / 2 + 128 * (rotF true true x c % 2) = x % 256
  rw [rot_codes_low]
  show _ + 128 * bit (decide (128 ≤ x % 256)) = _
  by_cases h : 128 ≤ x % 256 <;> simp only [h, decide_true, decide_false, bit, if_true, Bool.false_eq_true, if_false] <;> omega
theorem rot_carry_f (x c : Int) : rotF false false (rotR true false x c) (rotF true false x c) % 2 = c % 2 := by
  rw [rot_codes_low]
  show bit (decide ((x % 65536 * 2 + c % 2) % 65536 % 2 = 1)) = c % 2
  by_cases h : (x % 65536 * 2 + c % 2) % 65536 % 2 = 1 <;> simp only [h, decide_true, decide_false, bit, if_true, Bool.false_eq_true, if_false] <;> omega
theorem rot_carry_t (x c : Int) : rotF false true (rotR true true x c) (rotF true true x c) % 2 = c % 2 := by
  rw [rot_codes_low]
  show bit (decide ((x % 256 * 2 + c % 2) % 256 % 2 = 1)) = c % 2
  by_cases h : (x % 256 * 2 + c % 2) % 256 % 2 = 1 <;> simp only [h, decide_true, decide_false, bit, if_true, Bool.false_eq_true, if_false] <;> omega

theorem shf_up (x : Int) (k : Nat) (h : k < 16) : shfR x k = x * 2 ^ k % 65536 := by
  have hc : cnt (k : Int) = k := by unfold cnt; rw [if_pos (by omega)]; omega
  unfold shfR
  rw [hc, if_neg (by omega), Int.toNat_natCast, shl_eq]
theorem shf_down (x : Int) (k : Nat) (h : k < 16) : shfR x (-(k : Int)) = sg false x / 2 ^ k % 65536 := by
  rcases Nat.eq_zero_or_pos k with rfl | h0
  · have := shf_up x 0 (by decide)
    simp only [Int.natCast_zero, Int.neg_zero, Int.pow_zero, Int.mul_one, Int.ediv_one] at *
    rw [this, sg_low]
  · have hc : cnt (-(k : Int)) = -(k : Int) := by unfold cnt; rw [if_neg (by omega)]; omega
    unfold shfR
    rw [hc, if_pos (by omega), Int.neg_neg, Int.toNat_natCast]
    rfl

#print axioms shf_down
end Go.Proofs.YtlcngnnlimhjmabDoor
