/-
  Single of the reference of package alu. No condition.
-/
import Derived.Test.YtpimdbglmoopcaaDoorAlA
import Derived.Test.YtpimdbglmoopcaaDoorAlC
namespace Go.Proofs.YtpimdbglmoopcaaDoor
open Go.RowKit
set_option linter.unusedSimpArgs false
set_option linter.unusedVariables false
set_option maxHeartbeats 4000000
set_option maxRecDepth 100000

theorem com_eq (x : Int) (h0 : 0 ≤ x) (h1 : x ≤ 65535) : bits .xor .i64 (-1) x = -1 - x := by
  have e : bits .xor .i64 (-1) x = IntKind.i64.wrap (((BitVec.ofInt 64 (-1) ^^^ BitVec.ofInt 64 x).toNat : Nat) : Int) := rfl
  have e2 : (BitVec.ofInt 64 (-1) : BitVec 64) = BitVec.allOnes 64 := by decide
  have e3 := toNat_ofInt x
  rw [e, e2, BitVec.allOnes_xor, BitVec.toNat_not, wrap_i64]
  generalize (BitVec.ofInt 64 x).toNat = k at *
  unfold wrap64
  omega
theorem op_bd (b : Bool) (n : Int) : 0 ≤ op b n ∧ op b n ≤ 65535 := by
  cases b
  · show 0 ≤ n % 65536 ∧ n % 65536 ≤ 65535
    omega
  · show 0 ≤ n % 256 ∧ n % 256 ≤ 65535
    omega
theorem and_14 (x : Int) (h0 : 0 ≤ x) (h1 : x ≤ 15) : bits .and .i64 x 14 = x / 2 * 2 := by
  obtain ⟨k, rfl⟩ : ∃ k : Nat, x = k := ⟨x.toNat, by omega⟩
  have hk : k < 16 := by omega
  have : ∀ k : Fin 16, bits .and .i64 ((k.val : Nat) : Int) 14 = ((k.val : Nat) : Int) / 2 * 2 := by decide
  exact this ⟨k, hk⟩
theorem rmoved_any (b : Bool) (r o : Int) (h0 : 0 ≤ o) (h1 : o ≤ 1) (w : World) : Calls Tryd.prog 34 #[.int .i64 r, .int .i64 o, .bool b] w fun e w' => e = .returned (.int .i64 (cod (neg b r) (zer b r) (neg b r != decide (o = 1)) (decide (o = 1)))) ∧ w = w' := by
  have c1 := fun w => rFlags_any b r w
  have A1 := and_1
  generalize neg b r = n at *
  generalize zer b r = z at *
  cases n <;> cases z <;> rcases (by omega : o = 0 ∨ o = 1) with rfl | rfl
  all_goals
    simp only [cod, Bool.false_eq_true, if_true, if_false, Int.zero_add, Int.add_zero, Int.reduceAdd] at c1
    go_enter Tryd.func34, Tryd.ntmps34
    go_wp2_with (first | (go_at_call 27; with_reducible refine (c1 _).mono ?_; rintro e w' ⟨rfl, rfl⟩))
    go_ret
    exact ⟨rfl, rfl⟩

theorem rsg_clr_f (v f : Int) (w : World) : Calls Tryd.prog 14 #[.int .i64 12, .bool false, .int .i64 v, .int .i64 f] w fun e w' => e = .returned (.tuple #[.int .i64 (0), .int .i64 (4), .bool true]) ∧ w = w' := by
  have hm : op false (-1) = 65535 := by decide
  have A1 := and_1 f
  go_enter Tryd.func14, Tryd.ntmps14
  go_wp2_with (first | (go_at_call 24; first | (with_reducible refine (rsize_any _ _ _).mono ?_; rintro e w' ⟨rfl, rfl⟩)))
  go_ret3
  exact ⟨rfl, rfl⟩

theorem rsg_com_f (v f : Int) (w : World) : Calls Tryd.prog 14 #[.int .i64 13, .bool false, .int .i64 v, .int .i64 f] w fun e w' => e = .returned (.tuple #[.int .i64 (op false (-1 - (op false v))), .int .i64 (cod (neg false (op false (-1 - (op false v)))) (zer false (op false (-1 - (op false v)))) false false + 1), .bool true]) ∧ w = w' := by
  have hm : op false (-1) = 65535 := by decide
  have A1 := and_1 f
  have h1 := fun w => rFlags_any false (op false (-1 - (op false v))) w
  have hb := cod_bd (neg false (op false (-1 - (op false v)))) (zer false (op false (-1 - (op false v)))) false false
  generalize cod (neg false (op false (-1 - (op false v)))) (zer false (op false (-1 - (op false v)))) false false = q at *
  have hsg : IntKind.i64.signed = true := rfl
  have hx := com_eq (op false v) (op_bd false v).1 (op_bd false v).2
  go_enter Tryd.func14, Tryd.ntmps14
  go_wp2_with (first | (go_at_call 24; first | (with_reducible refine (rsize_any _ _ _).mono ?_; rintro e w' ⟨rfl, rfl⟩)) | (go_at_call 27; with_reducible refine (h1 _).mono ?_; rintro e w' ⟨rfl, rfl⟩))
  go_ret3
  exact ⟨rfl, rfl⟩

theorem rsg_inc_f (v f : Int) (w : World) : Calls Tryd.prog 14 #[.int .i64 14, .bool false, .int .i64 v, .int .i64 f] w fun e w' => e = .returned (.tuple #[.int .i64 (addR false (op false v) 1 0), .int .i64 (addF false (op false v) 1 0 / 2 * 2 + f % 2), .bool true]) ∧ w = w' := by
  have hm : op false (-1) = 65535 := by decide
  have A1 := and_1 f
  have h1 := fun w => rAdd_any false (op false v) 1 0 w
  obtain ⟨q0, q1⟩ : 0 ≤ addF false (op false v) 1 0 ∧ addF false (op false v) 1 0 ≤ 15 := by unfold addF; exact cod_bd _ _ _ _
  have A2 := and_14 _ q0 q1
  generalize addF false (op false v) 1 0 = q at *
  have f0 : 0 ≤ f % 2 := by omega
  have f1 : f % 2 ≤ 1 := by omega
  go_enter Tryd.func14, Tryd.ntmps14
  go_wp2_with (first | (go_at_call 24; first | (with_reducible refine (rsize_any _ _ _).mono ?_; rintro e w' ⟨rfl, rfl⟩)) | (go_at_call 26; with_reducible refine (h1 _).mono ?_; rintro e w' ⟨rfl, rfl⟩))
  go_ret3
  exact ⟨rfl, rfl⟩

theorem rsg_dec_f (v f : Int) (w : World) : Calls Tryd.prog 14 #[.int .i64 15, .bool false, .int .i64 v, .int .i64 f] w fun e w' => e = .returned (.tuple #[.int .i64 (subR false (op false v) 1 0), .int .i64 (subF false (op false v) 1 0 / 2 * 2 + f % 2), .bool true]) ∧ w = w' := by
  have hm : op false (-1) = 65535 := by decide
  have A1 := and_1 f
  have h1 := fun w => rSub_any false (op false v) 1 0 w
  obtain ⟨q0, q1⟩ : 0 ≤ subF false (op false v) 1 0 ∧ subF false (op false v) 1 0 ≤ 15 := by unfold subF; exact cod_bd _ _ _ _
  have A2 := and_14 _ q0 q1
  generalize subF false (op false v) 1 0 = q at *
  have f0 : 0 ≤ f % 2 := by omega
  have f1 : f % 2 ≤ 1 := by omega
  go_enter Tryd.func14, Tryd.ntmps14
  go_wp2_with (first | (go_at_call 24; first | (with_reducible refine (rsize_any _ _ _).mono ?_; rintro e w' ⟨rfl, rfl⟩)) | (go_at_call 25; with_reducible refine (h1 _).mono ?_; rintro e w' ⟨rfl, rfl⟩))
  go_ret3
  exact ⟨rfl, rfl⟩

theorem rsg_neg_f (v f : Int) (w : World) : Calls Tryd.prog 14 #[.int .i64 16, .bool false, .int .i64 v, .int .i64 f] w fun e w' => e = .returned (.tuple #[.int .i64 (subR false 0 (op false v) 0), .int .i64 (subF false 0 (op false v) 0), .bool true]) ∧ w = w' := by
  have hm : op false (-1) = 65535 := by decide
  have A1 := and_1 f
  have h1 := fun w => rSub_any false 0 (op false v) 0 w
  go_enter Tryd.func14, Tryd.ntmps14
  go_wp2_with (first | (go_at_call 24; first | (with_reducible refine (rsize_any _ _ _).mono ?_; rintro e w' ⟨rfl, rfl⟩)) | (go_at_call 25; with_reducible refine (h1 _).mono ?_; rintro e w' ⟨rfl, rfl⟩))
  go_ret3
  exact ⟨rfl, rfl⟩

theorem rsg_adc_f (v f : Int) (w : World) : Calls Tryd.prog 14 #[.int .i64 17, .bool false, .int .i64 v, .int .i64 f] w fun e w' => e = .returned (.tuple #[.int .i64 (addR false (op false v) 0 f), .int .i64 (addF false (op false v) 0 f), .bool true]) ∧ w = w' := by
  have hm : op false (-1) = 65535 := by decide
  have A1 := and_1 f
  have h1 := fun w => rAdd_any false (op false v) 0 f w
  go_enter Tryd.func14, Tryd.ntmps14
  go_wp2_with (first | (go_at_call 24; first | (with_reducible refine (rsize_any _ _ _).mono ?_; rintro e w' ⟨rfl, rfl⟩)) | (go_at_call 26; with_reducible refine (h1 _).mono ?_; rintro e w' ⟨rfl, rfl⟩))
  go_ret3
  exact ⟨rfl, rfl⟩

theorem rsg_sbc_f (v f : Int) (w : World) : Calls Tryd.prog 14 #[.int .i64 18, .bool false, .int .i64 v, .int .i64 f] w fun e w' => e = .returned (.tuple #[.int .i64 (subR false (op false v) 0 f), .int .i64 (subF false (op false v) 0 f), .bool true]) ∧ w = w' := by
  have hm : op false (-1) = 65535 := by decide
  have A1 := and_1 f
  have h1 := fun w => rSub_any false (op false v) 0 f w
  go_enter Tryd.func14, Tryd.ntmps14
  go_wp2_with (first | (go_at_call 24; first | (with_reducible refine (rsize_any _ _ _).mono ?_; rintro e w' ⟨rfl, rfl⟩)) | (go_at_call 25; with_reducible refine (h1 _).mono ?_; rintro e w' ⟨rfl, rfl⟩))
  go_ret3
  exact ⟨rfl, rfl⟩

theorem rsg_tst_f (v f : Int) (w : World) : Calls Tryd.prog 14 #[.int .i64 19, .bool false, .int .i64 v, .int .i64 f] w fun e w' => e = .returned (.tuple #[.int .i64 (op false v), .int .i64 (cod (neg false (op false v)) (zer false (op false v)) false false), .bool false]) ∧ w = w' := by
  have hm : op false (-1) = 65535 := by decide
  have A1 := and_1 f
  have h1 := fun w => rFlags_any false (op false v) w
  go_enter Tryd.func14, Tryd.ntmps14
  go_wp2_with (first | (go_at_call 24; first | (with_reducible refine (rsize_any _ _ _).mono ?_; rintro e w' ⟨rfl, rfl⟩)) | (go_at_call 27; with_reducible refine (h1 _).mono ?_; rintro e w' ⟨rfl, rfl⟩))
  go_ret3
  exact ⟨rfl, rfl⟩

theorem rsg_ror_f (v f : Int) (w : World) : Calls Tryd.prog 14 #[.int .i64 20, .bool false, .int .i64 v, .int .i64 f] w fun e w' => e = .returned (.tuple #[.int .i64 (rotR false false (op false v) f), .int .i64 (rotF false false (op false v) f), .bool true]) ∧ w = w' := by
  have hm : op false (-1) = 65535 := by decide
  have A1 := and_1 f
  have h1 := fun w => rRotate_any false false (op false v) f w
  go_enter Tryd.func14, Tryd.ntmps14
  go_wp2_with (first | (go_at_call 24; first | (with_reducible refine (rsize_any _ _ _).mono ?_; rintro e w' ⟨rfl, rfl⟩)) | (go_at_call 33; with_reducible refine (h1 _).mono ?_; rintro e w' ⟨rfl, rfl⟩))
  go_ret3
  exact ⟨rfl, rfl⟩

theorem rsg_rol_f (v f : Int) (w : World) : Calls Tryd.prog 14 #[.int .i64 21, .bool false, .int .i64 v, .int .i64 f] w fun e w' => e = .returned (.tuple #[.int .i64 (rotR true false (op false v) f), .int .i64 (rotF true false (op false v) f), .bool true]) ∧ w = w' := by
  have hm : op false (-1) = 65535 := by decide
  have A1 := and_1 f
  have h1 := fun w => rRotate_any true false (op false v) f w
  go_enter Tryd.func14, Tryd.ntmps14
  go_wp2_with (first | (go_at_call 24; first | (with_reducible refine (rsize_any _ _ _).mono ?_; rintro e w' ⟨rfl, rfl⟩)) | (go_at_call 33; with_reducible refine (h1 _).mono ?_; rintro e w' ⟨rfl, rfl⟩))
  go_ret3
  exact ⟨rfl, rfl⟩

theorem rsg_asr_f (v f : Int) (w : World) (s : Int) (hs : op false v = s) : Calls Tryd.prog 14 #[.int .i64 22, .bool false, .int .i64 v, .int .i64 f] w fun e w' => e = .returned (.tuple #[.int .i64 (s / 2 + s / 32768 % 2 * 32768), .int .i64 (cod (neg false (s / 2 + s / 32768 % 2 * 32768)) (zer false (s / 2 + s / 32768 % 2 * 32768)) (neg false (s / 2 + s / 32768 % 2 * 32768) != decide (s % 2 = 1)) (decide (s % 2 = 1))), .bool true]) ∧ w = w' := by
  have hm : op false (-1) = 65535 := by decide
  have A1 := and_1 f
  have hsz := fun w => rsize_any false v w
  have hs1 := fun w => rsize_any false (-1) w
  rw [hm] at hs1
  have s0 : 0 ≤ s := by rw [← hs]; unfold op; simp; omega
  have s1 : s ≤ 65535 := by rw [← hs]; unfold op; simp; omega
  rw [hs] at hsz
  clear hs hm
  have A3 := and_32768 s
  have A4 := and_1 s
  have h1 := fun w => rmoved_any false (s / 2 + s / 32768 % 2 * 32768) (s % 2) (by omega) (by omega) w
  go_enter Tryd.func14, Tryd.ntmps14
  go_wp2_with (first | (go_at_call 24; first | (with_reducible refine (hsz _).mono ?_; rintro e w' ⟨rfl, rfl⟩) | (with_reducible refine (hs1 _).mono ?_; rintro e w' ⟨rfl, rfl⟩) | (with_reducible refine (rsize_any _ _ _).mono ?_; rintro e w' ⟨rfl, rfl⟩)) | (go_at_call 34; with_reducible refine (h1 _).mono ?_; rintro e w' ⟨rfl, rfl⟩))
  go_ret3
  exact ⟨rfl, rfl⟩

theorem rsg_asl_f (v f : Int) (w : World) (s : Int) (hs : op false v = s) : Calls Tryd.prog 14 #[.int .i64 23, .bool false, .int .i64 v, .int .i64 f] w fun e w' => e = .returned (.tuple #[.int .i64 (op false (2 * s)), .int .i64 (cod (neg false (op false (2 * s))) (zer false (op false (2 * s))) (neg false (op false (2 * s)) != decide (s / 32768 = 1)) (decide (s / 32768 = 1))), .bool true]) ∧ w = w' := by
  have hm : op false (-1) = 65535 := by decide
  have A1 := and_1 f
  have hsz := fun w => rsize_any false v w
  have hs1 := fun w => rsize_any false (-1) w
  rw [hm] at hs1
  have s0 : 0 ≤ s := by rw [← hs]; unfold op; simp; omega
  have s1 : s ≤ 65535 := by rw [← hs]; unfold op; simp; omega
  rw [hs] at hsz
  clear hs hm
  have h1 := fun w => rmoved_any false (op false (2 * s)) (s / 32768) (by omega) (by omega) w
  go_enter Tryd.func14, Tryd.ntmps14
  go_wp2_with (first | (go_at_call 24; first | (with_reducible refine (hsz _).mono ?_; rintro e w' ⟨rfl, rfl⟩) | (with_reducible refine (hs1 _).mono ?_; rintro e w' ⟨rfl, rfl⟩) | (with_reducible refine (rsize_any _ _ _).mono ?_; rintro e w' ⟨rfl, rfl⟩)) | (go_at_call 34; with_reducible refine (h1 _).mono ?_; rintro e w' ⟨rfl, rfl⟩))
  go_ret3
  exact ⟨rfl, rfl⟩

theorem rsg_swab_f (v f : Int) (w : World) (s : Int) (hs : op false v = s) : Calls Tryd.prog 14 #[.int .i64 24, .bool false, .int .i64 v, .int .i64 f] w fun e w' => e = .returned (.tuple #[.int .i64 (s % 256 * 256 + s / 256), .int .i64 (cod (neg true (s % 256 * 256 + s / 256)) (zer true (s % 256 * 256 + s / 256)) false false), .bool true]) ∧ w = w' := by
  have hm : op false (-1) = 65535 := by decide
  have A1 := and_1 f
  have hsz := fun w => rsize_any false v w
  have hs1 := fun w => rsize_any false (-1) w
  rw [hm] at hs1
  have s0 : 0 ≤ s := by rw [← hs]; unfold op; simp; omega
  have s1 : s ≤ 65535 := by rw [← hs]; unfold op; simp; omega
  rw [hs] at hsz
  clear hs hm
  have A3 := and_255 s
  have h1 := fun w => rFlags_any true (s % 256 * 256 + s / 256) w
  go_enter Tryd.func14, Tryd.ntmps14
  go_wp2_with (first | (go_at_call 24; first | (with_reducible refine (hsz _).mono ?_; rintro e w' ⟨rfl, rfl⟩) | (with_reducible refine (hs1 _).mono ?_; rintro e w' ⟨rfl, rfl⟩) | (with_reducible refine (rsize_any _ _ _).mono ?_; rintro e w' ⟨rfl, rfl⟩)) | (go_at_call 27; with_reducible refine (h1 _).mono ?_; rintro e w' ⟨rfl, rfl⟩))
  go_ret3
  exact ⟨rfl, rfl⟩

theorem rsg_sxt_f (v f : Int) (w : World) : Calls Tryd.prog 14 #[.int .i64 25, .bool false, .int .i64 v, .int .i64 f] w fun e w' => e = .returned (.tuple #[.int .i64 (if fN f = true then 65535 else 0), .int .i64 ((if fN f = true then 8 else 4) + f % 2), .bool true]) ∧ w = w' := by
  have hm : op false (-1) = 65535 := by decide
  have A1 := and_1 f
  have hN := fN_eq f
  have f0 : 0 ≤ f % 2 := by omega
  have f1 : f % 2 ≤ 1 := by omega
  generalize fN f = n at *
  cases n
  all_goals
    go_enter Tryd.func14, Tryd.ntmps14
    go_wp2_with (first | (go_at_call 24; first | (with_reducible refine (rsize_any _ _ _).mono ?_; rintro e w' ⟨rfl, rfl⟩)))
    go_ret3
    exact ⟨rfl, rfl⟩

theorem rsg_else_f (o v f : Int) (w : World) (n12 : ¬ o = 12) (n13 : ¬ o = 13) (n14 : ¬ o = 14) (n15 : ¬ o = 15) (n16 : ¬ o = 16) (n17 : ¬ o = 17) (n18 : ¬ o = 18) (n19 : ¬ o = 19) (n20 : ¬ o = 20) (n21 : ¬ o = 21) (n22 : ¬ o = 22) (n23 : ¬ o = 23) (n24 : ¬ o = 24) (n25 : ¬ o = 25) : Calls Tryd.prog 14 #[.int .i64 o, .bool false, .int .i64 v, .int .i64 f] w fun e w' => e = .returned (.tuple #[.int .i64 (0), .int .i64 (0), .bool false]) ∧ w = w' := by
  have hm : op false (-1) = 65535 := by decide
  have A1 := and_1 f
  have e12 : (o == 12) = false := by simpa using n12
  have e13 : (o == 13) = false := by simpa using n13
  have e14 : (o == 14) = false := by simpa using n14
  have e15 : (o == 15) = false := by simpa using n15
  have e16 : (o == 16) = false := by simpa using n16
  have e17 : (o == 17) = false := by simpa using n17
  have e18 : (o == 18) = false := by simpa using n18
  have e19 : (o == 19) = false := by simpa using n19
  have e20 : (o == 20) = false := by simpa using n20
  have e21 : (o == 21) = false := by simpa using n21
  have e22 : (o == 22) = false := by simpa using n22
  have e23 : (o == 23) = false := by simpa using n23
  have e24 : (o == 24) = false := by simpa using n24
  have e25 : (o == 25) = false := by simpa using n25
  go_enter Tryd.func14, Tryd.ntmps14
  go_wp2_with (first | (go_at_call 24; first | (with_reducible refine (rsize_any _ _ _).mono ?_; rintro e w' ⟨rfl, rfl⟩)))
  go_ret3
  exact ⟨rfl, rfl⟩

theorem rsg_clr_t (v f : Int) (w : World) : Calls Tryd.prog 14 #[.int .i64 12, .bool true, .int .i64 v, .int .i64 f] w fun e w' => e = .returned (.tuple #[.int .i64 (0), .int .i64 (4), .bool true]) ∧ w = w' := by
  have hm : op true (-1) = 255 := by decide
  have A1 := and_1 f
  go_enter Tryd.func14, Tryd.ntmps14
  go_wp2_with (first | (go_at_call 24; first | (with_reducible refine (rsize_any _ _ _).mono ?_; rintro e w' ⟨rfl, rfl⟩)))
  go_ret3
  exact ⟨rfl, rfl⟩

theorem rsg_com_t (v f : Int) (w : World) : Calls Tryd.prog 14 #[.int .i64 13, .bool true, .int .i64 v, .int .i64 f] w fun e w' => e = .returned (.tuple #[.int .i64 (op true (-1 - (op true v))), .int .i64 (cod (neg true (op true (-1 - (op true v)))) (zer true (op true (-1 - (op true v)))) false false + 1), .bool true]) ∧ w = w' := by
  have hm : op true (-1) = 255 := by decide
  have A1 := and_1 f
  have h1 := fun w => rFlags_any true (op true (-1 - (op true v))) w
  have hb := cod_bd (neg true (op true (-1 - (op true v)))) (zer true (op true (-1 - (op true v)))) false false
  generalize cod (neg true (op true (-1 - (op true v)))) (zer true (op true (-1 - (op true v)))) false false = q at *
  have hsg : IntKind.i64.signed = true := rfl
  have hx := com_eq (op true v) (op_bd true v).1 (op_bd true v).2
  go_enter Tryd.func14, Tryd.ntmps14
  go_wp2_with (first | (go_at_call 24; first | (with_reducible refine (rsize_any _ _ _).mono ?_; rintro e w' ⟨rfl, rfl⟩)) | (go_at_call 27; with_reducible refine (h1 _).mono ?_; rintro e w' ⟨rfl, rfl⟩))
  go_ret3
  exact ⟨rfl, rfl⟩

theorem rsg_inc_t (v f : Int) (w : World) : Calls Tryd.prog 14 #[.int .i64 14, .bool true, .int .i64 v, .int .i64 f] w fun e w' => e = .returned (.tuple #[.int .i64 (addR true (op true v) 1 0), .int .i64 (addF true (op true v) 1 0 / 2 * 2 + f % 2), .bool true]) ∧ w = w' := by
  have hm : op true (-1) = 255 := by decide
  have A1 := and_1 f
  have h1 := fun w => rAdd_any true (op true v) 1 0 w
  obtain ⟨q0, q1⟩ : 0 ≤ addF true (op true v) 1 0 ∧ addF true (op true v) 1 0 ≤ 15 := by unfold addF; exact cod_bd _ _ _ _
  have A2 := and_14 _ q0 q1
  generalize addF true (op true v) 1 0 = q at *
  have f0 : 0 ≤ f % 2 := by omega
  have f1 : f % 2 ≤ 1 := by omega
  go_enter Tryd.func14, Tryd.ntmps14
  go_wp2_with (first | (go_at_call 24; first | (with_reducible refine (rsize_any _ _ _).mono ?_; rintro e w' ⟨rfl, rfl⟩)) | (go_at_call 26; with_reducible refine (h1 _).mono ?_; rintro e w' ⟨rfl, rfl⟩))
  go_ret3
  exact ⟨rfl, rfl⟩

theorem rsg_dec_t (v f : Int) (w : World) : Calls Tryd.prog 14 #[.int .i64 15, .bool true, .int .i64 v, .int .i64 f] w fun e w' => e = .returned (.tuple #[.int .i64 (subR true (op true v) 1 0), .int .i64 (subF true (op true v) 1 0 / 2 * 2 + f % 2), .bool true]) ∧ w = w' := by
  have hm : op true (-1) = 255 := by decide
  have A1 := and_1 f
  have h1 := fun w => rSub_any true (op true v) 1 0 w
  obtain ⟨q0, q1⟩ : 0 ≤ subF true (op true v) 1 0 ∧ subF true (op true v) 1 0 ≤ 15 := by unfold subF; exact cod_bd _ _ _ _
  have A2 := and_14 _ q0 q1
  generalize subF true (op true v) 1 0 = q at *
  have f0 : 0 ≤ f % 2 := by omega
  have f1 : f % 2 ≤ 1 := by omega
  go_enter Tryd.func14, Tryd.ntmps14
  go_wp2_with (first | (go_at_call 24; first | (with_reducible refine (rsize_any _ _ _).mono ?_; rintro e w' ⟨rfl, rfl⟩)) | (go_at_call 25; with_reducible refine (h1 _).mono ?_; rintro e w' ⟨rfl, rfl⟩))
  go_ret3
  exact ⟨rfl, rfl⟩

theorem rsg_neg_t (v f : Int) (w : World) : Calls Tryd.prog 14 #[.int .i64 16, .bool true, .int .i64 v, .int .i64 f] w fun e w' => e = .returned (.tuple #[.int .i64 (subR true 0 (op true v) 0), .int .i64 (subF true 0 (op true v) 0), .bool true]) ∧ w = w' := by
  have hm : op true (-1) = 255 := by decide
  have A1 := and_1 f
  have h1 := fun w => rSub_any true 0 (op true v) 0 w
  go_enter Tryd.func14, Tryd.ntmps14
  go_wp2_with (first | (go_at_call 24; first | (with_reducible refine (rsize_any _ _ _).mono ?_; rintro e w' ⟨rfl, rfl⟩)) | (go_at_call 25; with_reducible refine (h1 _).mono ?_; rintro e w' ⟨rfl, rfl⟩))
  go_ret3
  exact ⟨rfl, rfl⟩

theorem rsg_adc_t (v f : Int) (w : World) : Calls Tryd.prog 14 #[.int .i64 17, .bool true, .int .i64 v, .int .i64 f] w fun e w' => e = .returned (.tuple #[.int .i64 (addR true (op true v) 0 f), .int .i64 (addF true (op true v) 0 f), .bool true]) ∧ w = w' := by
  have hm : op true (-1) = 255 := by decide
  have A1 := and_1 f
  have h1 := fun w => rAdd_any true (op true v) 0 f w
  go_enter Tryd.func14, Tryd.ntmps14
  go_wp2_with (first | (go_at_call 24; first | (with_reducible refine (rsize_any _ _ _).mono ?_; rintro e w' ⟨rfl, rfl⟩)) | (go_at_call 26; with_reducible refine (h1 _).mono ?_; rintro e w' ⟨rfl, rfl⟩))
  go_ret3
  exact ⟨rfl, rfl⟩

theorem rsg_sbc_t (v f : Int) (w : World) : Calls Tryd.prog 14 #[.int .i64 18, .bool true, .int .i64 v, .int .i64 f] w fun e w' => e = .returned (.tuple #[.int .i64 (subR true (op true v) 0 f), .int .i64 (subF true (op true v) 0 f), .bool true]) ∧ w = w' := by
  have hm : op true (-1) = 255 := by decide
  have A1 := and_1 f
  have h1 := fun w => rSub_any true (op true v) 0 f w
  go_enter Tryd.func14, Tryd.ntmps14
  go_wp2_with (first | (go_at_call 24; first | (with_reducible refine (rsize_any _ _ _).mono ?_; rintro e w' ⟨rfl, rfl⟩)) | (go_at_call 25; with_reducible refine (h1 _).mono ?_; rintro e w' ⟨rfl, rfl⟩))
  go_ret3
  exact ⟨rfl, rfl⟩

theorem rsg_tst_t (v f : Int) (w : World) : Calls Tryd.prog 14 #[.int .i64 19, .bool true, .int .i64 v, .int .i64 f] w fun e w' => e = .returned (.tuple #[.int .i64 (op true v), .int .i64 (cod (neg true (op true v)) (zer true (op true v)) false false), .bool false]) ∧ w = w' := by
  have hm : op true (-1) = 255 := by decide
  have A1 := and_1 f
  have h1 := fun w => rFlags_any true (op true v) w
  go_enter Tryd.func14, Tryd.ntmps14
  go_wp2_with (first | (go_at_call 24; first | (with_reducible refine (rsize_any _ _ _).mono ?_; rintro e w' ⟨rfl, rfl⟩)) | (go_at_call 27; with_reducible refine (h1 _).mono ?_; rintro e w' ⟨rfl, rfl⟩))
  go_ret3
  exact ⟨rfl, rfl⟩

theorem rsg_ror_t (v f : Int) (w : World) : Calls Tryd.prog 14 #[.int .i64 20, .bool true, .int .i64 v, .int .i64 f] w fun e w' => e = .returned (.tuple #[.int .i64 (rotR false true (op true v) f), .int .i64 (rotF false true (op true v) f), .bool true]) ∧ w = w' := by
  have hm : op true (-1) = 255 := by decide
  have A1 := and_1 f
  have h1 := fun w => rRotate_any false true (op true v) f w
  go_enter Tryd.func14, Tryd.ntmps14
  go_wp2_with (first | (go_at_call 24; first | (with_reducible refine (rsize_any _ _ _).mono ?_; rintro e w' ⟨rfl, rfl⟩)) | (go_at_call 33; with_reducible refine (h1 _).mono ?_; rintro e w' ⟨rfl, rfl⟩))
  go_ret3
  exact ⟨rfl, rfl⟩

theorem rsg_rol_t (v f : Int) (w : World) : Calls Tryd.prog 14 #[.int .i64 21, .bool true, .int .i64 v, .int .i64 f] w fun e w' => e = .returned (.tuple #[.int .i64 (rotR true true (op true v) f), .int .i64 (rotF true true (op true v) f), .bool true]) ∧ w = w' := by
  have hm : op true (-1) = 255 := by decide
  have A1 := and_1 f
  have h1 := fun w => rRotate_any true true (op true v) f w
  go_enter Tryd.func14, Tryd.ntmps14
  go_wp2_with (first | (go_at_call 24; first | (with_reducible refine (rsize_any _ _ _).mono ?_; rintro e w' ⟨rfl, rfl⟩)) | (go_at_call 33; with_reducible refine (h1 _).mono ?_; rintro e w' ⟨rfl, rfl⟩))
  go_ret3
  exact ⟨rfl, rfl⟩

theorem rsg_asr_t (v f : Int) (w : World) (s : Int) (hs : op true v = s) : Calls Tryd.prog 14 #[.int .i64 22, .bool true, .int .i64 v, .int .i64 f] w fun e w' => e = .returned (.tuple #[.int .i64 (s / 2 + s / 128 % 2 * 128), .int .i64 (cod (neg true (s / 2 + s / 128 % 2 * 128)) (zer true (s / 2 + s / 128 % 2 * 128)) (neg true (s / 2 + s / 128 % 2 * 128) != decide (s % 2 = 1)) (decide (s % 2 = 1))), .bool true]) ∧ w = w' := by
  have hm : op true (-1) = 255 := by decide
  have A1 := and_1 f
  have hsz := fun w => rsize_any true v w
  have hs1 := fun w => rsize_any true (-1) w
  rw [hm] at hs1
  have s0 : 0 ≤ s := by rw [← hs]; unfold op; simp; omega
  have s1 : s ≤ 255 := by rw [← hs]; unfold op; simp; omega
  rw [hs] at hsz
  clear hs hm
  have A3 := and_128 s
  have A4 := and_1 s
  have h1 := fun w => rmoved_any true (s / 2 + s / 128 % 2 * 128) (s % 2) (by omega) (by omega) w
  go_enter Tryd.func14, Tryd.ntmps14
  go_wp2_with (first | (go_at_call 24; first | (with_reducible refine (hsz _).mono ?_; rintro e w' ⟨rfl, rfl⟩) | (with_reducible refine (hs1 _).mono ?_; rintro e w' ⟨rfl, rfl⟩) | (with_reducible refine (rsize_any _ _ _).mono ?_; rintro e w' ⟨rfl, rfl⟩)) | (go_at_call 34; with_reducible refine (h1 _).mono ?_; rintro e w' ⟨rfl, rfl⟩))
  go_ret3
  exact ⟨rfl, rfl⟩

theorem rsg_asl_t (v f : Int) (w : World) (s : Int) (hs : op true v = s) : Calls Tryd.prog 14 #[.int .i64 23, .bool true, .int .i64 v, .int .i64 f] w fun e w' => e = .returned (.tuple #[.int .i64 (op true (2 * s)), .int .i64 (cod (neg true (op true (2 * s))) (zer true (op true (2 * s))) (neg true (op true (2 * s)) != decide (s / 128 = 1)) (decide (s / 128 = 1))), .bool true]) ∧ w = w' := by
  have hm : op true (-1) = 255 := by decide
  have A1 := and_1 f
  have hsz := fun w => rsize_any true v w
  have hs1 := fun w => rsize_any true (-1) w
  rw [hm] at hs1
  have s0 : 0 ≤ s := by rw [← hs]; unfold op; simp; omega
  have s1 : s ≤ 255 := by rw [← hs]; unfold op; simp; omega
  rw [hs] at hsz
  clear hs hm
  have h1 := fun w => rmoved_any true (op true (2 * s)) (s / 128) (by omega) (by omega) w
  go_enter Tryd.func14, Tryd.ntmps14
  go_wp2_with (first | (go_at_call 24; first | (with_reducible refine (hsz _).mono ?_; rintro e w' ⟨rfl, rfl⟩) | (with_reducible refine (hs1 _).mono ?_; rintro e w' ⟨rfl, rfl⟩) | (with_reducible refine (rsize_any _ _ _).mono ?_; rintro e w' ⟨rfl, rfl⟩)) | (go_at_call 34; with_reducible refine (h1 _).mono ?_; rintro e w' ⟨rfl, rfl⟩))
  go_ret3
  exact ⟨rfl, rfl⟩

theorem rsg_swab_t (v f : Int) (w : World) : Calls Tryd.prog 14 #[.int .i64 24, .bool true, .int .i64 v, .int .i64 f] w fun e w' => e = .returned (.tuple #[.int .i64 (0), .int .i64 (0), .bool false]) ∧ w = w' := by
  go_enter Tryd.func14, Tryd.ntmps14
  go_wp2
  go_ret3
  exact ⟨rfl, rfl⟩

theorem rsg_sxt_t (v f : Int) (w : World) : Calls Tryd.prog 14 #[.int .i64 25, .bool true, .int .i64 v, .int .i64 f] w fun e w' => e = .returned (.tuple #[.int .i64 (0), .int .i64 (0), .bool false]) ∧ w = w' := by
  go_enter Tryd.func14, Tryd.ntmps14
  go_wp2
  go_ret3
  exact ⟨rfl, rfl⟩

theorem rsg_else_t (o v f : Int) (w : World) (n12 : ¬ o = 12) (n13 : ¬ o = 13) (n14 : ¬ o = 14) (n15 : ¬ o = 15) (n16 : ¬ o = 16) (n17 : ¬ o = 17) (n18 : ¬ o = 18) (n19 : ¬ o = 19) (n20 : ¬ o = 20) (n21 : ¬ o = 21) (n22 : ¬ o = 22) (n23 : ¬ o = 23) (n24 : ¬ o = 24) (n25 : ¬ o = 25) : Calls Tryd.prog 14 #[.int .i64 o, .bool true, .int .i64 v, .int .i64 f] w fun e w' => e = .returned (.tuple #[.int .i64 (0), .int .i64 (0), .bool false]) ∧ w = w' := by
  have hm : op true (-1) = 255 := by decide
  have A1 := and_1 f
  have e12 : (o == 12) = false := by simpa using n12
  have e13 : (o == 13) = false := by simpa using n13
  have e14 : (o == 14) = false := by simpa using n14
  have e15 : (o == 15) = false := by simpa using n15
  have e16 : (o == 16) = false := by simpa using n16
  have e17 : (o == 17) = false := by simpa using n17
  have e18 : (o == 18) = false := by simpa using n18
  have e19 : (o == 19) = false := by simpa using n19
  have e20 : (o == 20) = false := by simpa using n20
  have e21 : (o == 21) = false := by simpa using n21
  have e22 : (o == 22) = false := by simpa using n22
  have e23 : (o == 23) = false := by simpa using n23
  have e24 : (o == 24) = false := by simpa using n24
  have e25 : (o == 25) = false := by simpa using n25
  go_enter Tryd.func14, Tryd.ntmps14
  go_wp2_with (first | (go_at_call 24; first | (with_reducible refine (rsize_any _ _ _).mono ?_; rintro e w' ⟨rfl, rfl⟩)))
  go_ret3
  exact ⟨rfl, rfl⟩
end Go.Proofs.YtpimdbglmoopcaaDoor
