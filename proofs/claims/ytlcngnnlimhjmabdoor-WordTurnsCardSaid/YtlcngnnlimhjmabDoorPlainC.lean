/-
  The consequences of layer 1, said over the integers: what is added is taken back, V tells that the signed sum is out of range, C that the unsigned one is; the quotient times the divisor; a rotation that goes and comes. No condition.
-/
import Derived.Test.YtlcngnnlimhjmabDoorPlainB
namespace Go.Proofs.YtlcngnnlimhjmabDoor
open Go.RowKit

theorem cod_2 (n z v c : Bool) : (bits .and .i64 (cod n z v c) 2 != 0) = v := by cases n <;> cases z <;> cases v <;> cases c <;> rfl
theorem cod_1 (n z v c : Bool) : (cod n z v c % 2 != 0) = c := by cases n <;> cases z <;> cases v <;> cases c <;> rfl
theorem cod_1' (n z v c : Bool) : cod n z v c % 2 = bit c := by cases n <;> cases z <;> cases v <;> cases c <;> rfl

theorem fit_ne (n : Int) : (n != sg false n) = !decide (-32768 ≤ n ∧ n ≤ 32767) := by unfold bne; rw [fit_eq]; rfl
theorem fitb_eq (n : Int) : (n == sg true n) = decide (-128 ≤ n ∧ n ≤ 127) := by
  have : sg true n = (n + 128) % 256 - 128 := rfl
  rw [this, Bool.eq_iff_iff, beq_iff_eq, decide_eq_true_eq]
  omega
theorem fitb_ne (n : Int) : (n != sg true n) = !decide (-128 ≤ n ∧ n ≤ 127) := by unfold bne; rw [fitb_eq]

theorem back_f (x y c : Int) : subR false (addR false x y c) y c = x % 65536 := by
  show ((x % 65536 + y % 65536 + c % 2) % 65536 % 65536 - y % 65536 - c % 2) % 65536 = x % 65536
  omega
theorem back_t (x y c : Int) : subR true (addR true x y c) y c = x % 256 := by
  show ((x % 256 + y % 256 + c % 2) % 256 % 256 - y % 256 - c % 2) % 256 = x % 256
  omega

theorem sgm_f (x : Int) : sg false (x % 65536) = if 32768 ≤ x % 65536 then x % 65536 - 65536 else x % 65536 := by
  show (x % 65536 + 32768) % 65536 - 32768 = _
  split <;> omega
theorem sgm_t (x : Int) : sg true (x % 256) = if 128 ≤ x % 256 then x % 256 - 256 else x % 256 := by
  show (x % 256 + 128) % 256 - 128 = _
  split <;> omega

def undX (b : Bool) (x y c : Int) : Int := sg b (op b x) + sg b (op b y) + c % 2
def undY (b : Bool) (x y c : Int) : Int := sg b (op b x) - sg b (op b y) - c % 2

theorem addV_f (x y c : Int) : (bits .and .i64 (addF false x y c) 2 != 0) = (undX false x y c != sg false (undX false x y c)) := by
  unfold addF
  rw [cod_2, fit_ne]
  show ((decide (32768 ≤ x % 65536) == decide (32768 ≤ y % 65536)) && !(decide (32768 ≤ (x % 65536 + y % 65536 + c % 2) % 65536 % 65536) == decide (32768 ≤ x % 65536))) = !decide (-32768 ≤ sg false (x % 65536) + sg false (y % 65536) + c % 2 ∧ sg false (x % 65536) + sg false (y % 65536) + c % 2 ≤ 32767)
  rw [sgm_f, sgm_f]
  have hc : 0 ≤ c % 2 ∧ c % 2 ≤ 1 := by omega
  have hx : 0 ≤ x % 65536 ∧ x % 65536 < 65536 := by omega
  have hy : 0 ≤ y % 65536 ∧ y % 65536 < 65536 := by omega
  generalize x % 65536 = p at *
  generalize y % 65536 = q at *
  generalize c % 2 = k at *
  by_cases h1 : 32768 ≤ p <;> by_cases h2 : 32768 ≤ q <;> simp only [h1, h2, if_true, if_false, decide_true, decide_false] <;> rw [Bool.eq_iff_iff] <;> simp <;> omega
theorem addV_t (x y c : Int) : (bits .and .i64 (addF true x y c) 2 != 0) = (undX true x y c != sg true (undX true x y c)) := by
  unfold addF
  rw [cod_2, fitb_ne]
  show ((decide (128 ≤ x % 256) == decide (128 ≤ y % 256)) && !(decide (128 ≤ (x % 256 + y % 256 + c % 2) % 256 % 256) == decide (128 ≤ x % 256))) = !decide (-128 ≤ sg true (x % 256) + sg true (y % 256) + c % 2 ∧ sg true (x % 256) + sg true (y % 256) + c % 2 ≤ 127)
  rw [sgm_t, sgm_t]
  have hc : 0 ≤ c % 2 ∧ c % 2 ≤ 1 := by omega
  have hx : 0 ≤ x % 256 ∧ x % 256 < 256 := by omega
  have hy : 0 ≤ y % 256 ∧ y % 256 < 256 := by omega
  generalize x % 256 = p at *
  generalize y % 256 = q at *
  generalize c % 2 = k at *
  by_cases h1 : 128 ≤ p <;> by_cases h2 : 128 ≤ q <;> simp only [h1, h2, if_true, if_false, decide_true, decide_false] <;> rw [Bool.eq_iff_iff] <;> simp <;> omega
theorem subV_f (x y c : Int) : (bits .and .i64 (subF false x y c) 2 != 0) = (undY false x y c != sg false (undY false x y c)) := by
  unfold subF
  rw [cod_2, fit_ne]
  show (!(decide (32768 ≤ x % 65536) == decide (32768 ≤ y % 65536)) && (decide (32768 ≤ (x % 65536 - y % 65536 - c % 2) % 65536 % 65536) == decide (32768 ≤ y % 65536))) = !decide (-32768 ≤ sg false (x % 65536) - sg false (y % 65536) - c % 2 ∧ sg false (x % 65536) - sg false (y % 65536) - c % 2 ≤ 32767)
  rw [sgm_f, sgm_f]
  have hc : 0 ≤ c % 2 ∧ c % 2 ≤ 1 := by omega
  have hx : 0 ≤ x % 65536 ∧ x % 65536 < 65536 := by omega
  have hy : 0 ≤ y % 65536 ∧ y % 65536 < 65536 := by omega
  generalize x % 65536 = p at *
  generalize y % 65536 = q at *
  generalize c % 2 = k at *
  by_cases h1 : 32768 ≤ p <;> by_cases h2 : 32768 ≤ q <;> simp only [h1, h2, if_true, if_false, decide_true, decide_false] <;> rw [Bool.eq_iff_iff] <;> simp <;> omega
theorem subV_t (x y c : Int) : (bits .and .i64 (subF true x y c) 2 != 0) = (undY true x y c != sg true (undY true x y c)) := by
  unfold subF
  rw [cod_2, fitb_ne]
  show (!(decide (128 ≤ x % 256) == decide (128 ≤ y % 256)) && (decide (128 ≤ (x % 256 - y % 256 - c % 2) % 256 % 256) == decide (128 ≤ y % 256))) = !decide (-128 ≤ sg true (x % 256) - sg true (y % 256) - c % 2 ∧ sg true (x % 256) - sg true (y % 256) - c % 2 ≤ 127)
  rw [sgm_t, sgm_t]
  have hc : 0 ≤ c % 2 ∧ c % 2 ≤ 1 := by omega
  have hx : 0 ≤ x % 256 ∧ x % 256 < 256 := by omega
  have hy : 0 ≤ y % 256 ∧ y % 256 < 256 := by omega
  generalize x % 256 = p at *
  generalize y % 256 = q at *
  generalize c % 2 = k at *
  by_cases h1 : 128 ≤ p <;> by_cases h2 : 128 ≤ q <;> simp only [h1, h2, if_true, if_false, decide_true, decide_false] <;> rw [Bool.eq_iff_iff] <;> simp <;> omega
theorem addC_f (x y c : Int) : (addF false x y c % 2 != 0) = decide (65535 < x % 65536 + y % 65536 + c % 2) := by unfold addF; rw [cod_1]; rfl
theorem addC_t (x y c : Int) : (addF true x y c % 2 != 0) = decide (255 < x % 256 + y % 256 + c % 2) := by unfold addF; rw [cod_1]; rfl
theorem subC_f (x y c : Int) : (subF false x y c % 2 != 0) = decide (x % 65536 - y % 65536 - c % 2 < 0) := by unfold subF; rw [cod_1]; rfl
theorem subC_t (x y c : Int) : (subF true x y c % 2 != 0) = decide (x % 256 - y % 256 - c % 2 < 0) := by unfold subF; rw [cod_1]; rfl

#print axioms subV_t
end Go.Proofs.YtlcngnnlimhjmabDoor
