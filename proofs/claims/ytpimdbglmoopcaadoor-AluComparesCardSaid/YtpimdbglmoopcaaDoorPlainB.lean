/-
  What Mul, Div, Shift and Rotate return, said over the integers, and the sums behind it. No condition.
-/
import Derived.Test.YtpimdbglmoopcaaDoorPlain
namespace Go.Proofs.YtpimdbglmoopcaaDoor
open Go.RowKit

theorem sg_bd (n : Int) : -32768 ≤ sg false n ∧ sg false n ≤ 32767 := by
  show -32768 ≤ (n + 32768) % 65536 - 32768 ∧ (n + 32768) % 65536 - 32768 ≤ 32767
  omega
theorem sgb_bd (n : Int) : -128 ≤ sg true n ∧ sg true n ≤ 127 := by
  show -128 ≤ (n + 128) % 256 - 128 ∧ (n + 128) % 256 - 128 ≤ 127
  omega

/-- Is it the signed value of a word? -/
def fit (n : Int) : Bool := decide (-32768 ≤ n ∧ n ≤ 32767)
theorem fit_eq (n : Int) : (n == sg false n) = fit n := by
  have : sg false n = (n + 32768) % 65536 - 32768 := rfl
  rw [this]
  unfold fit
  rw [Bool.eq_iff_iff, beq_iff_eq, decide_eq_true_eq]
  omega

/-! Mul. -/
def mulP (a b : Int) : Int := sg false a * sg false b
theorem mul_bd (a b : Int) : -1073741824 ≤ mulP a b ∧ mulP a b ≤ 1073741824 := by
  have h1 := sg_bd a
  have h2 := sg_bd b
  unfold mulP
  generalize sg false a = x at *
  generalize sg false b = y at *
  have e1 : (x + 32768) * (y + 32768) = x * y + 32768 * x + 32768 * y + 1073741824 := by
    rw [Int.add_mul, Int.mul_add, Int.mul_add]; omega
  have e2 : (32768 - x) * (32768 - y) = 1073741824 - 32768 * x - 32768 * y + x * y := by
    rw [Int.sub_mul, Int.mul_sub, Int.mul_sub]; omega
  have e3 : (x + 32768) * (32768 - y) = 32768 * x - x * y + 1073741824 - 32768 * y := by
    rw [Int.add_mul, Int.mul_sub, Int.mul_sub]; omega
  have e4 : (32768 - x) * (y + 32768) = 32768 * y + 1073741824 - x * y - 32768 * x := by
    rw [Int.sub_mul, Int.mul_add, Int.mul_add]; omega
  have p1 : 0 ≤ (x + 32768) * (y + 32768) := Int.mul_nonneg (by omega) (by omega)
  have p2 : 0 ≤ (32768 - x) * (32768 - y) := Int.mul_nonneg (by omega) (by omega)
  have p3 : 0 ≤ (x + 32768) * (32768 - y) := Int.mul_nonneg (by omega) (by omega)
  have p4 : 0 ≤ (32768 - x) * (y + 32768) := Int.mul_nonneg (by omega) (by omega)
  omega
def mulH (a b : Int) : Int := mulP a b / 65536 % 65536
def mulL (a b : Int) : Int := mulP a b % 65536
def mulF (a b : Int) : Int := cod (decide (mulP a b < 0)) (decide (mulP a b = 0)) false (!fit (mulP a b))
theorem or_nzc (n z c : Bool) : bits .or .i64 (bits .or .i64 (whn 8 n) (whn 4 z)) (whn 1 c) = cod n z false c := by cases n <;> cases z <;> cases c <;> rfl

/-! Div. -/
def divN (a b : Int) : Int := sg false a * 65536 + b % 65536
def divQ (a b c : Int) : Int := (divN a b).tdiv (sg false c)
theorem divN_bd (a b : Int) : -2147483648 ≤ divN a b ∧ divN a b ≤ 2147483647 := by
  have := sg_bd a
  unfold divN
  omega
theorem tdiv_bd (n d m : Int) (h : -m ≤ n ∧ n ≤ m) : -m ≤ n.tdiv d ∧ n.tdiv d ≤ m := by
  have h1 : (n.tdiv d).natAbs ≤ n.natAbs := by
    rw [Int.natAbs_tdiv]
    exact Nat.div_le_self _ _
  omega
theorem divQ_bd (a b c : Int) : -2147483648 ≤ divQ a b c ∧ divQ a b c ≤ 2147483648 := by
  have := divN_bd a b
  exact tdiv_bd _ _ 2147483648 (by omega)
/-- The remainder. -/
def divR (a b c : Int) : Int := (divN a b).tmod (sg false c)
theorem divR_eq (a b c : Int) : divN a b - divQ a b c * sg false c = divR a b c := by
  unfold divR divQ
  rw [Int.tmod_def, Int.mul_comm]
theorem divR_bd (a b c : Int) (hc : sg false c ≠ 0) : -32768 ≤ divR a b c ∧ divR a b c ≤ 32768 := by
  have h := sg_bd c
  have h1 : (divR a b c).natAbs < (sg false c).natAbs := by
    unfold divR
    rw [Int.natAbs_tmod]
    exact Nat.mod_lt _ (by omega)
  omega
theorem divM_bd (a b c : Int) (hc : sg false c ≠ 0) : -2147516416 ≤ divQ a b c * sg false c ∧ divQ a b c * sg false c ≤ 2147516416 := by
  have h1 := divR_eq a b c
  have h2 := divR_bd a b c hc
  have h3 := divN_bd a b
  omega
def dvW (a b c : Int) : Bool := !decide (sg false c = 0) && fit (divQ a b c)
def dvQ (a b c : Int) : Int := if dvW a b c then divQ a b c % 65536 else 0
def dvR (a b c : Int) : Int := if dvW a b c then divR a b c % 65536 else 0
def dvF (a b c : Int) : Int := if sg false c = 0 then 3 else if dvW a b c then cod (neg false (divQ a b c)) (zer false (divQ a b c)) false false else 2

/-! Shift. -/
def cnt (n : Int) : Int := if n % 64 < 32 then n % 64 else n % 64 - 64
theorem cnt_eq (n : Int) : bits .xor .i64 (n % 64) 32 - 32 = cnt n := by
  rw [xor_32 _ (by omega) (by omega)]
  unfold cnt
  split <;> omega
theorem cnt_bd (n : Int) : -32 ≤ cnt n ∧ cnt n ≤ 31 := by unfold cnt; split <;> omega
def shl (w : Int) : Nat → Int
  | 0 => w % 65536
  | k + 1 => shl w k * 2 % 65536
def shlC (w : Int) : Nat → Bool
  | 0 => false
  | k + 1 => neg false (shl w k)
def shlV (w : Int) : Nat → Bool
  | 0 => false
  | k + 1 => shlV w k || !(neg false (shl w (k + 1)) == neg false w)
theorem shl_bd (w : Int) (k : Nat) : 0 ≤ shl w k ∧ shl w k ≤ 65535 := by cases k <;> simp only [shl] <;> omega
theorem shl_eq (w : Int) (k : Nat) : shl w k = w * 2 ^ k % 65536 := by
  induction k with
  | zero => simp [shl]
  | succ k ih =>
    simp only [shl]
    rw [ih, Int.pow_succ, ← Int.mul_assoc]
    generalize w * 2 ^ k = x
    omega
theorem shl_mod (w : Int) (k : Nat) : shl (w % 65536) k = shl w k := by
  induction k with
  | zero => simp [shl]
  | succ k ih => simp only [shl]; rw [ih]
theorem shlC_mod (w : Int) (k : Nat) : shlC (w % 65536) k = shlC w k := by
  cases k with
  | zero => rfl
  | succ k => simp only [shlC]; rw [shl_mod]
theorem shlV_mod (w : Int) (k : Nat) : shlV (w % 65536) k = shlV w k := by
  induction k with
  | zero => rfl
  | succ k ih => simp only [shlV]; rw [ih, shl_mod, neg_op_f]
def shr (w : Int) (k : Nat) : Int := sg false w / 2 ^ k % 65536
def shrC (w : Int) : Nat → Int
  | 0 => 0
  | k + 1 => sg false w / 2 ^ k % 2
theorem shr_bd (w : Int) (k : Nat) : 0 ≤ shr w k ∧ shr w k ≤ 65535 := by unfold shr; omega
theorem shrC_bd (w : Int) (k : Nat) : 0 ≤ shrC w k ∧ shrC w k ≤ 1 := by cases k <;> simp only [shrC] <;> omega
theorem shr_0 (w : Int) : shr w 0 = w % 65536 := by
  have : sg false w = (w + 32768) % 65536 - 32768 := rfl
  unfold shr
  rw [this]
  simp
theorem shr_in (w : Int) (k : Nat) : -32768 ≤ sg false w / 2 ^ k ∧ sg false w / 2 ^ k ≤ 32767 := by
  have h := sg_bd w
  induction k with
  | zero => simp; omega
  | succ k ih =>
    have e : sg false w / 2 ^ (k + 1) = sg false w / 2 ^ k / 2 := by
      have hp : (0 : Int) < 2 ^ k := Int.pow_pos (by decide)
      rw [Int.pow_succ, Int.ediv_ediv, if_neg (by omega), Int.sub_zero]
    rw [e]
    omega
theorem shr_succ (w : Int) (k : Nat) : shr w k / 2 + 32768 * bit (neg false (shr w k)) = shr w (k + 1) := by
  have h := shr_in w k
  have e : sg false w / 2 ^ (k + 1) = sg false w / 2 ^ k / 2 := by
    have hp : (0 : Int) < 2 ^ k := Int.pow_pos (by decide)
    rw [Int.pow_succ, Int.ediv_ediv, if_neg (by omega), Int.sub_zero]
  unfold shr
  rw [e]
  generalize sg false w / 2 ^ k = x at *
  have hn : neg false (x % 65536) = decide (x < 0) := by
    unfold neg
    simp
    omega
  rw [hn]
  by_cases hx : x < 0
  · simp [bit, hx]; omega
  · simp [bit, hx]; omega
theorem shrC_succ (w : Int) (k : Nat) : shr w k % 2 = shrC w (k + 1) := by
  simp only [shr, shrC]
  omega
/-- What Shift returns. -/
def shfR (w n : Int) : Int := if cnt n < 0 then shr w (-cnt n).toNat else shl w (cnt n).toNat
def shfF (w n : Int) : Int :=
  if cnt n < 0 then cod (neg false (shr w (-cnt n).toNat)) (zer false (shr w (-cnt n).toNat)) false (decide (shrC w (-cnt n).toNat = 1))
  else cod (neg false (shl w (cnt n).toNat)) (zer false (shl w (cnt n).toNat)) (shlV w (cnt n).toNat) (shlC w (cnt n).toNat)

/-! Rotate. -/
theorem or_join (i x y : Nat) (hx : x % 2 ^ i = 0) (hy : y < 2 ^ i) (hs : x + y < 2 ^ 63) : bits .or .i64 (x : Int) (y : Int) = ((x + y : Nat) : Int) := by
  show IntKind.i64.wrap ((BitVec.ofInt 64 (x : Int) ||| BitVec.ofInt 64 (y : Int)).toNat : Int) = _
  have e1 : (BitVec.ofInt 64 (x : Int)).toNat = x := by have := toNat_ofInt (x : Int); omega
  have e2 : (BitVec.ofInt 64 (y : Int)).toNat = y := by have := toNat_ofInt (y : Int); omega
  rw [BitVec.toNat_or, e1, e2, nat_join i x y hx hy, wrap_i64]
  exact IntWalk.wrap64_in _ (by omega)
theorem or_low (x c : Int) (h0 : 0 ≤ x) (h1 : x < 65536) (c0 : 0 ≤ c) (c1 : c ≤ 1) : bits .or .i64 (x * 2) c = x * 2 + c := by
  have := or_join 1 (x * 2).toNat c.toNat (by omega) (by omega) (by omega)
  have e1 : ((x * 2).toNat : Int) = x * 2 := by omega
  have e2 : (c.toNat : Int) = c := by omega
  rw [e1, e2] at this
  rw [this]
  omega
theorem or_high (i : Nat) (hi : i < 16) (x c : Int) (h0 : 0 ≤ x) (h1 : x < ((2 ^ i : Nat) : Int)) (c0 : 0 ≤ c) (c1 : c ≤ 1) : bits .or .i64 x (c * ((2 ^ i : Nat) : Int)) = x + c * ((2 ^ i : Nat) : Int) := by
  have hp : 2 ^ i < 2 ^ 16 := Nat.pow_lt_pow_right (by decide) hi
  rcases (show c = 0 ∨ c = 1 by omega) with rfl | rfl
  · have := or_join i 0 x.toNat (by simp) (by omega) (by omega)
    have e2 : (x.toNat : Int) = x := by omega
    have e3 : bits .or .i64 x 0 = bits .or .i64 0 x := by unfold bits; simp only [BitVec.or_comm]
    rw [Int.zero_mul, e3]
    rw [e2] at this
    rw [show (0 : Int) = ((0 : Nat) : Int) from rfl, this]
    omega
  · have := or_join i (2 ^ i) x.toNat (by simp) (by omega) (by omega)
    have e2 : (x.toNat : Int) = x := by omega
    have e3 : bits .or .i64 x ((2 ^ i : Nat) : Int) = bits .or .i64 ((2 ^ i : Nat) : Int) x := by unfold bits; simp only [BitVec.or_comm]
    rw [Int.one_mul, e3]
    rw [e2] at this
    rw [this]
    omega
def rotR (l b : Bool) (x c : Int) : Int :=
  if l then op b (op b x * 2 + c % 2) else op b x / 2 + (if b then 128 else 32768) * (c % 2)
def rotC (l b : Bool) (x : Int) : Bool := if l then neg b x else decide (x % 2 = 1)
def rotF (l b : Bool) (x c : Int) : Int := cod (neg b (rotR l b x c)) (zer b (rotR l b x c)) (!(neg b (rotR l b x c) == rotC l b x)) (rotC l b x)

#print axioms or_high
end Go.Proofs.YtpimdbglmoopcaaDoor
