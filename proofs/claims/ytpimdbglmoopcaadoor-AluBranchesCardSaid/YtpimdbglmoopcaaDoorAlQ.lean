/-
  What the answers of package alu come to, plain: operands that are reduced last. No condition.
-/
import Derived.Test.YtpimdbglmoopcaaDoorAlF
import Derived.Test.YtpimdbglmoopcaaDoorBits
namespace Go.Proofs.YtpimdbglmoopcaaDoor
open Go.RowKit
set_option linter.unusedSimpArgs false
set_option linter.unusedVariables false
set_option maxHeartbeats 4000000
set_option maxRecDepth 100000

theorem op_N64 (b : Bool) (n : Int) : op b n = ((N64 n % 2 ^ (if b then 8 else 16) : Nat) : Int) := by
  have h := N64_eq n
  cases b
  · show n % 65536 = ((N64 n % 65536 : Nat) : Int)
    omega
  · show n % 256 = ((N64 n % 256 : Nat) : Int)
    omega
theorem N64_op (b : Bool) (n : Int) : N64 (op b n) = N64 n % 2 ^ (if b then 8 else 16) := by
  rw [op_N64]
  refine N64_nat _ (Nat.lt_of_le_of_lt (Nat.mod_le _ _) (N64_lt n))
theorem mod_lt (b : Bool) (n : Nat) : n % 2 ^ (if b then 8 else 16) < 9223372036854775808 := by
  cases b
  · show n % 65536 < _
    omega
  · show n % 256 < _
    omega
theorem op_and (b : Bool) (x y : Int) : bits .and .i64 (op b x) (op b y) = op b (bits .and .i64 x y) := by
  rw [op_N64 b (bits .and .i64 x y), N64_and, Nat.and_mod_two_pow, ← N64_op, ← N64_op, and_def]
  refine small (Nat.lt_of_le_of_lt Nat.and_le_left ?_)
  rw [N64_op]; exact mod_lt b _
theorem op_or (b : Bool) (x y : Int) : bits .or .i64 (op b x) (op b y) = op b (bits .or .i64 x y) := by
  rw [op_N64 b (bits .or .i64 x y), N64_or, or_def, N64_op, N64_op, ← Nat.or_mod_two_pow]
  exact small (mod_lt b _)
theorem op_xor (b : Bool) (x y : Int) : bits .xor .i64 (op b x) (op b y) = op b (bits .xor .i64 x y) := by
  rw [op_N64 b (bits .xor .i64 x y), N64_xor, xor_def, N64_op, N64_op, ← Nat.xor_mod_two_pow]
  exact small (mod_lt b _)
theorem low_not (b : Bool) (n : Nat) (h : n < 18446744073709551616) : (18446744073709551615 - n % 2 ^ (if b then 8 else 16)) % 2 ^ (if b then 8 else 16) = (18446744073709551615 - n) % 2 ^ (if b then 8 else 16) := by
  cases b
  · show (18446744073709551615 - n % 65536) % 65536 = (18446744073709551615 - n) % 65536
    omega
  · show (18446744073709551615 - n % 256) % 256 = (18446744073709551615 - n) % 256
    omega
theorem op_andNot (b : Bool) (x y : Int) : bits .andNot .i64 (op b x) (op b y) = op b (bits .andNot .i64 x y) := by
  have hl : N64 (op b x) &&& (18446744073709551615 - N64 (op b y)) = (N64 (op b x) &&& (18446744073709551615 - N64 (op b y))) % 2 ^ (if b then 8 else 16) := by
    refine (Nat.mod_eq_of_lt (Nat.lt_of_le_of_lt Nat.and_le_left ?_)).symm
    rw [N64_op]
    exact Nat.mod_lt _ (Nat.two_pow_pos _)
  rw [andNot_def, hl, small (mod_lt b _), op_N64 b (bits .andNot .i64 x y), N64_andNot, Nat.and_mod_two_pow, Nat.and_mod_two_pow, N64_op, N64_op, Nat.mod_mod, low_not b _ (N64_lt y)]
theorem op_f (n : Int) : op false n = n % 65536 := rfl
theorem op_t (n : Int) : op true n = n % 256 := rfl
theorem com_any (b : Bool) (x : Int) : op b (bits .xor .i64 (-1) x) = op b (-1 - op b x) := by
  have e : bits .xor .i64 (-1) x = IntKind.i64.wrap (((BitVec.ofInt 64 (-1) ^^^ BitVec.ofInt 64 x).toNat : Nat) : Int) := rfl
  have e2 : (BitVec.ofInt 64 (-1) : BitVec 64) = BitVec.allOnes 64 := by decide
  have e3 := toNat_ofInt x
  rw [e, e2, BitVec.allOnes_xor, BitVec.toNat_not, wrap_i64]
  generalize (BitVec.ofInt 64 x).toNat = k at *
  unfold wrap64
  cases b
  · rw [op_f, op_f, op_f]
    omega
  · rw [op_t, op_t, op_t]
    omega
theorem zer_op (b : Bool) (n : Int) : zer b (op b n) = zer b n := by
  cases b
  · show decide (n % 65536 % 65536 = 0) = decide (n % 65536 = 0)
    rw [decide_eq_decide]; omega
  · show decide (n % 256 % 256 = 0) = decide (n % 256 = 0)
    rw [decide_eq_decide]; omega
/-- Codes of a result, and C of what was. -/
theorem or_cod (n z : Bool) (f : Int) : bits .or .i64 (cod n z false false) (f % 2) = cod n z false false + f % 2 := by
  rcases (by omega : f % 2 = 0 ∨ f % 2 = 1) with e | e <;> rw [e] <;> cases n <;> cases z <;> rfl
theorem or_kc (b : Bool) (r f : Int) : bits .or .i64 (cod (neg b r) (zer b r) false false) (f % 2) = kc b (op b r) f := by
  rw [or_cod, kc_sum b (op b r) f _ (by rw [neg_op, zer_op])]
theorem or_one (n z : Bool) : bits .or .i64 (cod n z false false) 1 = cod n z false false + 1 := by cases n <;> cases z <;> rfl
theorem with_c (n z v c : Bool) (f : Int) : bits .or .i64 (bits .andNot .i64 (cod n z v c) 1) (f % 2) = cod n z v c / 2 * 2 + f % 2 := by
  rcases (by omega : f % 2 = 0 ∨ f % 2 = 1) with e | e <;> rw [e] <;> cases n <;> cases z <;> cases v <;> cases c <;> rfl
theorem inc_c (b : Bool) (x y c f : Int) : bits .or .i64 (bits .andNot .i64 (addF b x y c) 1) (f % 2) = addF b x y c / 2 * 2 + f % 2 := with_c ..
theorem dec_c (b : Bool) (x y c f : Int) : bits .or .i64 (bits .andNot .i64 (subF b x y c) 1) (f % 2) = subF b x y c / 2 * 2 + f % 2 := with_c ..
theorem add_l (b : Bool) (x y c : Int) : addR b x y c = addR b (op b x) y c ∧ addF b x y c = addF b (op b x) y c := by
  have h : addR b x y c = addR b (op b x) y c := by unfold addR addD; rw [op_op]
  refine ⟨h, ?_⟩
  unfold addF; rw [← h, neg_op]; unfold addD; rw [op_op]
theorem sub_l (b : Bool) (x y c : Int) : subR b x y c = subR b (op b x) y c ∧ subF b x y c = subF b (op b x) y c := by
  have h : subR b x y c = subR b (op b x) y c := by unfold subR subD; rw [op_op]
  refine ⟨h, ?_⟩
  unfold subF; rw [← h, neg_op]; unfold subD; rw [op_op]
theorem sub_r (b : Bool) (x y c : Int) : subR b x y c = subR b x (op b y) c ∧ subF b x y c = subF b x (op b y) c := by
  have h : subR b x y c = subR b x (op b y) c := by unfold subR subD; rw [op_op]
  refine ⟨h, ?_⟩
  unfold subF; rw [← h, neg_op]; unfold subD; rw [op_op]
theorem add_c (b : Bool) (x y c : Int) : addR b x y (c % 2) = addR b x y c ∧ addF b x y (c % 2) = addF b x y c := by
  have h : addR b x y (c % 2) = addR b x y c := by unfold addR addD; rw [show c % 2 % 2 = c % 2 from by omega]
  refine ⟨h, ?_⟩
  unfold addF; rw [h]; unfold addD; rw [show c % 2 % 2 = c % 2 from by omega]
theorem sub_c (b : Bool) (x y c : Int) : subR b x y (c % 2) = subR b x y c ∧ subF b x y (c % 2) = subF b x y c := by
  have h : subR b x y (c % 2) = subR b x y c := by unfold subR subD; rw [show c % 2 % 2 = c % 2 from by omega]
  refine ⟨h, ?_⟩
  unfold subF; rw [h]; unfold subD; rw [show c % 2 % 2 = c % 2 from by omega]
theorem low_op (b : Bool) (x : Int) : op b x % 2 = x % 2 := by
  cases b
  · show x % 65536 % 2 = x % 2
    omega
  · show x % 256 % 2 = x % 2
    omega
theorem rotC_op (l b : Bool) (x : Int) : rotC l b (op b x) = rotC l b x := by
  unfold rotC
  rw [neg_op, low_op]
theorem rot_op (l b : Bool) (x c : Int) : rotR l b x (c % 2) = rotR l b (op b x) c ∧ rotF l b x (c % 2) = rotF l b (op b x) c := by
  have h : rotR l b x (c % 2) = rotR l b (op b x) c := by unfold rotR; rw [op_op, show c % 2 % 2 = c % 2 from by omega]
  refine ⟨h, ?_⟩
  unfold rotF; rw [h, rotC_op]
/-- The highest bit of an operand. -/
def top (b : Bool) : Int := if b then 128 else 32768
theorem neg_top (b : Bool) (x : Int) : (op b x / top b % 2 = 1 ↔ neg b x = true) ∧ (op b x / top b = 1 ↔ neg b x = true) := by
  cases b
  · show (x % 65536 / 32768 % 2 = 1 ↔ decide (32768 ≤ x % 65536) = true) ∧ (x % 65536 / 32768 = 1 ↔ decide (32768 ≤ x % 65536) = true)
    rw [decide_eq_true_iff]; omega
  · show (x % 256 / 128 % 2 = 1 ↔ decide (128 ≤ x % 256) = true) ∧ (x % 256 / 128 = 1 ↔ decide (128 ≤ x % 256) = true)
    rw [decide_eq_true_iff]; omega
theorem asr_eq (b : Bool) (x : Int) : rotR false b x (if neg b x = true then 1 else 0) = op b x / 2 + op b x / top b % 2 * top b := by
  have h := (neg_top b x).1
  unfold rotR
  cases hn : neg b x
  · have : op b x / top b % 2 = 0 := by rw [hn] at h; simp at h; omega
    rw [this]; simp
  · have : op b x / top b % 2 = 1 := by rw [hn] at h; simp at h; omega
    rw [this]; cases b <;> simp [top]
theorem asl_eq (b : Bool) (x : Int) : rotR true b x 0 = op b (2 * op b x) := by
  unfold rotR
  rw [if_pos rfl]
  congr 1; omega
theorem asr_F (b : Bool) (x c : Int) : rotF false b x c = cod (neg b (rotR false b x c)) (zer b (rotR false b x c)) (neg b (rotR false b x c) != decide (op b x % 2 = 1)) (decide (op b x % 2 = 1)) := by
  rw [low_op]; rfl
theorem asl_F (b : Bool) (x c : Int) : rotF true b x c = cod (neg b (rotR true b x c)) (zer b (rotR true b x c)) (neg b (rotR true b x c) != decide (op b x / top b = 1)) (decide (op b x / top b = 1)) := by
  have h := (neg_top b x).2
  have e : decide (op b x / top b = 1) = neg b x := by
    cases hn : neg b x
    · rw [hn] at h; simp at h; simpa using h
    · rw [hn] at h; simp at h; simpa using h
  rw [e]; rfl
theorem swab_eq (v : Int) : bits .or .i64 (v % 65536 / 256) (v % 65536 % 256 * 256) = v % 65536 % 256 * 256 + v % 65536 / 256 := by
  obtain ⟨h, hh⟩ : ∃ h : Nat, v % 65536 / 256 = h := ⟨(v % 65536 / 256).toNat, by omega⟩
  obtain ⟨l, hl⟩ : ∃ l : Nat, v % 65536 % 256 = l := ⟨(v % 65536 % 256).toNat, by omega⟩
  have b0 : h ≤ 255 := by omega
  have b1 : l ≤ 255 := by omega
  rw [hh, hl, show ((l : Int) * 256) = ((l * 256 : Nat) : Int) from by omega, or_def, N64_nat h (by omega), N64_nat (l * 256) (by omega)]
  have e : h ||| l * 256 = h + l * 256 := by
    rw [Nat.or_comm, Nat.add_comm, show l * 256 = 2 ^ 8 * l from by omega]
    exact (Nat.two_pow_add_eq_or_of_lt (by omega : h < 2 ^ 8) l).symm
  rw [e, small (by omega)]
  omega
end Go.Proofs.YtpimdbglmoopcaaDoor
