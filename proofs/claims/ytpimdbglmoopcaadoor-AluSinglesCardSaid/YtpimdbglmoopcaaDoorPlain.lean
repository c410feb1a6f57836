/-
  What the calls of package word and of the reference return, said over the integers: one set of definitions for both sides; and how the bits' operations of the walk come to them. No condition.
-/
import Derived.Laws.Entries
import Derived.Laws.BitsAllLaws
import Derived.RowKit
import Derived.IntWalk
namespace Go.Proofs.YtpimdbglmoopcaaDoor
open Go.RowKit

theorem wrap_i64 (n : Int) : IntKind.i64.wrap n = wrap64 n := IntWalk.i64_left n

/-- The 64 bits of an integer, as a natural number. -/
theorem toNat_ofInt (n : Int) : ((BitVec.ofInt 64 n).toNat : Int) = n % 18446744073709551616 := by
  rw [BitVec.toNat_ofInt]
  have : (0 : Int) ≤ n % ((2 ^ 64 : Nat) : Int) := Int.emod_nonneg _ (by decide)
  rw [Int.toNat_of_nonneg this]
  rfl

theorem and_low (k : Nat) (hk : k < 63) (n : Int) : bits .and .i64 n ((2 ^ k - 1 : Nat) : Int) = n % ((2 ^ k : Nat) : Int) := by
  have h1 : 2 ^ k < 2 ^ 63 := Nat.pow_lt_pow_right (by decide) hk
  show IntKind.i64.wrap ((BitVec.ofInt 64 n &&& BitVec.ofInt 64 ((2 ^ k - 1 : Nat) : Int)).toNat : Int) = _
  have e2 : (BitVec.ofInt 64 ((2 ^ k - 1 : Nat) : Int)).toNat = 2 ^ k - 1 := by
    have := toNat_ofInt ((2 ^ k - 1 : Nat) : Int)
    omega
  rw [BitVec.toNat_and, e2, Nat.and_two_pow_sub_one_eq_mod]
  have e3 : (((BitVec.ofInt 64 n).toNat % 2 ^ k : Nat) : Int) = n % ((2 ^ k : Nat) : Int) := by
    rw [Int.natCast_emod, toNat_ofInt]
    exact Int.emod_emod_of_dvd n (by
      have : ((2 ^ k : Nat) : Int) ∣ ((2 ^ 64 : Nat) : Int) := Int.natCast_dvd_natCast.2 (Nat.pow_dvd_pow 2 (by omega))
      exact this)
  rw [e3, wrap_i64]
  have h0 : 0 ≤ n % ((2 ^ k : Nat) : Int) := Int.emod_nonneg _ (by have := Nat.two_pow_pos k; omega)
  have h2 : n % ((2 ^ k : Nat) : Int) < ((2 ^ k : Nat) : Int) := Int.emod_lt_of_pos _ (by have := Nat.two_pow_pos k; omega)
  exact IntWalk.wrap64_in _ ⟨by omega, by omega⟩

theorem and_255 (n : Int) : bits .and .i64 n 255 = n % 256 := and_low 8 (by decide) n
theorem and_65535 (n : Int) : bits .and .i64 n 65535 = n % 65536 := and_low 16 (by decide) n
theorem and_1 (n : Int) : bits .and .i64 n 1 = n % 2 := and_low 1 (by decide) n
theorem and_63 (n : Int) : bits .and .i64 n 63 = n % 64 := and_low 6 (by decide) n

/-- One bit of an integer. -/
theorem and_bit (k : Nat) (hk : k < 63) (n : Int) : bits .and .i64 n ((2 ^ k : Nat) : Int) = n / ((2 ^ k : Nat) : Int) % 2 * ((2 ^ k : Nat) : Int) := by
  have h1 : 2 ^ k < 2 ^ 63 := Nat.pow_lt_pow_right (by decide) hk
  have hp := Nat.two_pow_pos k
  show IntKind.i64.wrap ((BitVec.ofInt 64 n &&& BitVec.ofInt 64 ((2 ^ k : Nat) : Int)).toNat : Int) = _
  have e2 : (BitVec.ofInt 64 ((2 ^ k : Nat) : Int)).toNat = 2 ^ k := by
    have := toNat_ofInt ((2 ^ k : Nat) : Int)
    omega
  rw [BitVec.toNat_and, e2, nat_bit]
  have e3 : (((BitVec.ofInt 64 n).toNat / 2 ^ k % 2 * 2 ^ k : Nat) : Int) = n / ((2 ^ k : Nat) : Int) % 2 * ((2 ^ k : Nat) : Int) := by
    rw [Int.natCast_mul, Int.natCast_emod, Int.natCast_ediv, toNat_ofInt]
    congr 1
    have hd : ((2 ^ (k + 1) : Nat) : Int) ∣ ((2 ^ 64 : Nat) : Int) := Int.natCast_dvd_natCast.2 (Nat.pow_dvd_pow 2 (by omega))
    obtain ⟨c, hc⟩ := hd
    have e4 : n % 18446744073709551616 = n - 18446744073709551616 * (n / 18446744073709551616) := by omega
    have hc' : (18446744073709551616 : Int) = ((2 ^ k : Nat) : Int) * (2 * c) := by
      have e5 : ((2 ^ (k + 1) : Nat) : Int) = ((2 ^ k : Nat) : Int) * 2 := by rw [Nat.pow_succ]; push_cast; rfl
      have e6 : (18446744073709551616 : Int) = ((2 ^ 64 : Nat) : Int) := rfl
      rw [e6, hc, e5, Int.mul_assoc]
    have e7 : n % 18446744073709551616 = n + ((2 ^ k : Nat) : Int) * (2 * (c * -(n / 18446744073709551616))) := by
      rw [e4]
      generalize n / 18446744073709551616 = q
      rw [hc']
      simp only [Int.mul_neg, Int.mul_assoc, Int.sub_eq_add_neg]
    rw [e7, Int.add_mul_ediv_left _ _ (by omega)]
    generalize c * -(n / 18446744073709551616) = q
    omega
  rw [e3, wrap_i64]
  rcases Int.emod_two_eq (n / ((2 ^ k : Nat) : Int)) with h | h <;> rw [h] <;> exact IntWalk.wrap64_in _ ⟨by omega, by omega⟩

theorem and_128 (n : Int) : bits .and .i64 n 128 = n / 128 % 2 * 128 := and_bit 7 (by decide) n
theorem and_32768 (n : Int) : bits .and .i64 n 32768 = n / 32768 % 2 * 32768 := and_bit 15 (by decide) n

theorem xor_top (k x : Nat) (hx : x < 2 ^ (k + 1)) : x ^^^ 2 ^ k = if x < 2 ^ k then x + 2 ^ k else x - 2 ^ k := by
  have e0 : 2 ^ (k + 1) = 2 ^ k + 2 ^ k := by rw [Nat.pow_succ]; omega
  split
  · rename_i h
    have := Nat.two_pow_add_eq_or_of_lt h 1
    have e1 : 2 ^ k + x = 2 ^ k ||| x := by simpa using this
    rw [Nat.add_comm, e1]
    apply Nat.eq_of_testBit_eq
    intro i
    rw [Nat.testBit_xor, Nat.testBit_or, Nat.testBit_two_pow]
    by_cases hi : k = i
    · subst hi; simp [Nat.testBit_lt_two_pow h]
    · simp [hi]
  · rename_i h
    obtain ⟨y, rfl⟩ : ∃ y, x = 2 ^ k + y := ⟨x - 2 ^ k, by omega⟩
    have hy : y < 2 ^ k := by omega
    have := Nat.two_pow_add_eq_or_of_lt hy 1
    have e1 : 2 ^ k + y = 2 ^ k ||| y := by simpa using this
    rw [Nat.add_sub_cancel_left, e1]
    apply Nat.eq_of_testBit_eq
    intro i
    rw [Nat.testBit_xor, Nat.testBit_or, Nat.testBit_two_pow]
    by_cases hi : k = i
    · subst hi; simp [Nat.testBit_lt_two_pow hy]
    · simp [hi]

theorem xor_int (k : Nat) (hk : k < 62) (x : Int) (h0 : 0 ≤ x) (hx : x < ((2 ^ (k + 1) : Nat) : Int)) :
    bits .xor .i64 x ((2 ^ k : Nat) : Int) = if x < ((2 ^ k : Nat) : Int) then x + ((2 ^ k : Nat) : Int) else x - ((2 ^ k : Nat) : Int) := by
  have h1 : 2 ^ (k + 1) < 2 ^ 63 := Nat.pow_lt_pow_right (by decide) (by omega)
  have e0 : 2 ^ (k + 1) = 2 ^ k + 2 ^ k := by rw [Nat.pow_succ]; omega
  obtain ⟨y, rfl⟩ : ∃ y : Nat, x = y := ⟨x.toNat, by omega⟩
  show IntKind.i64.wrap ((BitVec.ofInt 64 (y : Int) ^^^ BitVec.ofInt 64 ((2 ^ k : Nat) : Int)).toNat : Int) = _
  have e1 : (BitVec.ofInt 64 (y : Int)).toNat = y := by have := toNat_ofInt (y : Int); omega
  have e2 : (BitVec.ofInt 64 ((2 ^ k : Nat) : Int)).toNat = 2 ^ k := by have := toNat_ofInt ((2 ^ k : Nat) : Int); omega
  rw [BitVec.toNat_xor, e1, e2, xor_top k y (by omega), wrap_i64]
  by_cases h : y < 2 ^ k
  · rw [if_pos h, if_pos (by omega), IntWalk.wrap64_in _ (by omega)]; omega
  · rw [if_neg h, if_neg (by omega), IntWalk.wrap64_in _ (by omega)]; omega

theorem xor_128 (x : Int) (h0 : 0 ≤ x) (hx : x < 256) : bits .xor .i64 x 128 = if x < 128 then x + 128 else x - 128 := xor_int 7 (by decide) x h0 hx
theorem xor_32768 (x : Int) (h0 : 0 ≤ x) (hx : x < 65536) : bits .xor .i64 x 32768 = if x < 32768 then x + 32768 else x - 32768 := xor_int 15 (by decide) x h0 hx
theorem xor_32 (x : Int) (h0 : 0 ≤ x) (hx : x < 64) : bits .xor .i64 x 32 = if x < 32 then x + 32 else x - 32 := xor_int 5 (by decide) x h0 hx

/-! What is said of an operand: b: a byte, else a word. -/
def M (b : Bool) : Int := if b then 256 else 65536
/-- The operand. -/
def op (b : Bool) (n : Int) : Int := if b then n % 256 else n % 65536
/-- Its sign. -/
def neg (b : Bool) (n : Int) : Bool := if b then decide (128 ≤ n % 256) else decide (32768 ≤ n % 65536)
/-- Is it 0? -/
def zer (b : Bool) (n : Int) : Bool := if b then decide (n % 256 = 0) else decide (n % 65536 = 0)
/-- Its signed value. -/
def sg (b : Bool) (n : Int) : Int := if b then (n + 128) % 256 - 128 else (n + 32768) % 65536 - 32768
/-- The condition codes as a number. -/
def cod (n z v c : Bool) : Int := (if n then 8 else 0) + (if z then 4 else 0) + (if v then 2 else 0) + (if c then 1 else 0)

/-- A bit as a number. -/
def bit (b : Bool) : Int := if b then 1 else 0

theorem bit_bd (b : Bool) : 0 ≤ bit b ∧ bit b ≤ 1 := by cases b <;> simp [bit]

/-! The forms in which the walks over package word come to them. -/
def whn (c : Int) (b : Bool) : Int := if b then c else 0
def ng (s n : Int) : Bool := bits .and .i64 n s != 0
def fl (m s n : Int) : Int := bits .or .i64 (whn 8 (ng s n)) (whn 4 (bits .and .i64 n m == 0))

theorem ng_f (n : Int) : ng 32768 n = neg false n := by
  unfold ng neg
  rw [and_32768, Bool.eq_iff_iff]
  simp
  omega
theorem ng_t (n : Int) : ng 128 n = neg true n := by
  unfold ng neg
  rw [and_128, Bool.eq_iff_iff]
  simp
  omega
theorem or_nz (n z : Bool) : bits .or .i64 (whn 8 n) (whn 4 z) = cod n z false false := by cases n <;> cases z <;> rfl
theorem or_v (n z v : Bool) : bits .or .i64 (cod n z false false) (whn 2 v) = cod n z v false := by cases n <;> cases z <;> cases v <;> rfl
theorem or_c (n z v c : Bool) : bits .or .i64 (cod n z v false) (whn 1 c) = cod n z v c := by cases n <;> cases z <;> cases v <;> cases c <;> rfl
theorem fl_f (n : Int) : fl 65535 32768 n = cod (neg false n) (zer false n) false false := by
  unfold fl
  rw [ng_f, and_65535]
  exact or_nz _ _
theorem fl_t (n : Int) : fl 255 128 n = cod (neg true n) (zer true n) false false := by
  unfold fl
  rw [ng_t, and_255]
  exact or_nz _ _
theorem neg_f {n : Int} {v : Bool} (h : neg false n = v) : decide (32768 ≤ n % 65536) = v := h
theorem neg_t {n : Int} {v : Bool} (h : neg true n = v) : decide (128 ≤ n % 256) = v := h
theorem sg_f (n : Int) : wrap64 (bits .xor .i64 (bits .and .i64 n 65535) 32768 - 32768) = sg false n := by
  rw [and_65535, xor_32768 _ (by omega) (by omega), IntWalk.wrap64_in _ (by split <;> omega)]
  show _ = (n + 32768) % 65536 - 32768
  split <;> omega
theorem sg_t (n : Int) : wrap64 (bits .xor .i64 (bits .and .i64 n 255) 128 - 128) = sg true n := by
  rw [and_255, xor_128 _ (by omega) (by omega), IntWalk.wrap64_in _ (by split <;> omega)]
  show _ = (n + 128) % 256 - 128
  split <;> omega

theorem cod_bd (n z v c : Bool) : 0 ≤ cod n z v c ∧ cod n z v c ≤ 15 := by cases n <;> cases z <;> cases v <;> cases c <;> simp [cod]
theorem bit_eq (a b : Bool) : (bit a == bit b) = (a == b) := by cases a <;> cases b <;> rfl

/-! Add and Sub. -/
def addD (b : Bool) (x y c : Int) : Int := op b x + op b y + c % 2
def addR (b : Bool) (x y c : Int) : Int := op b (addD b x y c)
def addF (b : Bool) (x y c : Int) : Int :=
  cod (neg b (addR b x y c)) (zer b (addR b x y c)) ((neg b x == neg b y) && !(neg b (addR b x y c) == neg b x)) (decide (M b ≤ addD b x y c))
def subD (b : Bool) (x y c : Int) : Int := op b x - op b y - c % 2
def subR (b : Bool) (x y c : Int) : Int := op b (subD b x y c)
def subF (b : Bool) (x y c : Int) : Int :=
  cod (neg b (subR b x y c)) (zer b (subR b x y c)) (!(neg b x == neg b y) && (neg b (subR b x y c) == neg b y)) (decide (subD b x y c < 0))

theorem neg_op_f (n : Int) : neg false (n % 65536) = neg false n := by unfold neg; simp
theorem neg_op_t (n : Int) : neg true (n % 256) = neg true n := by unfold neg; simp
theorem ng_op_f (n : Int) : ng 32768 (n % 65536) = neg false n := by rw [ng_f, neg_op_f]
theorem ng_op_t (n : Int) : ng 128 (n % 256) = neg true n := by rw [ng_t, neg_op_t]

/-- The codes as package word joins them. -/
theorem add_f (a b c : Int) (v : Bool) (hv : v = ((neg false a == neg false b) && !(neg false (addR false a b c) == neg false a))) :
    bits .or .i64 (bits .or .i64 (fl 65535 32768 (addR false a b c)) (whn 2 v)) (whn 1 (decide (65535 < addD false a b c))) = addF false a b c := by
  rw [fl_f, or_v, or_c, hv]
  show _ = addF false a b c
  unfold addF
  congr 1
theorem add_t (a b c : Int) (v : Bool) (hv : v = ((neg true a == neg true b) && !(neg true (addR true a b c) == neg true a))) :
    bits .or .i64 (bits .or .i64 (fl 255 128 (addR true a b c)) (whn 2 v)) (whn 1 (decide (255 < addD true a b c))) = addF true a b c := by
  rw [fl_t, or_v, or_c, hv]
  show _ = addF true a b c
  unfold addF
  congr 1
theorem sub_f (a b c : Int) (v : Bool) (hv : v = (!(neg false a == neg false b) && (neg false (subR false a b c) == neg false b))) :
    bits .or .i64 (bits .or .i64 (fl 65535 32768 (subR false a b c)) (whn 2 v)) (whn 1 (decide (subD false a b c < 0))) = subF false a b c := by
  rw [fl_f, or_v, or_c, hv]
  rfl
theorem sub_t (a b c : Int) (v : Bool) (hv : v = (!(neg true a == neg true b) && (neg true (subR true a b c) == neg true b))) :
    bits .or .i64 (bits .or .i64 (fl 255 128 (subR true a b c)) (whn 2 v)) (whn 1 (decide (subD true a b c < 0))) = subF true a b c := by
  rw [fl_t, or_v, or_c, hv]
  rfl

/-- The codes as the reference adds them up. -/
theorem codes_up (n z v c : Bool) (x : Int) (h : x = cod n z false false + (if c then 1 else 0) + (if v then 2 else 0)) : x = cod n z v c := by
  rw [h]
  cases n <;> cases z <;> cases v <;> cases c <;> rfl

#print axioms and_32768
end Go.Proofs.YtpimdbglmoopcaaDoor
