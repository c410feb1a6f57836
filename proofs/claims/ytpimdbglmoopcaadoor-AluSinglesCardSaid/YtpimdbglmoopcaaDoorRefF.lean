/-
  What Rotate of the reference of layer 1 returns. No condition.
-/
import Derived.Test.YtpimdbglmoopcaaDoorRefE
namespace Go.Proofs.YtpimdbglmoopcaaDoor
open Go.RowKit
set_option linter.unusedSimpArgs false

theorem bit_odd (x : Int) : x % 2 = bit (decide (x % 2 = 1)) := by
  rcases Int.emod_two_eq x with h | h <;> rw [h] <;> rfl

set_option maxHeartbeats 1000000 in
theorem rRotate_lf0 (x c : Int) (w : World) (h : (bit (neg false ((2 * (x % 65536) + c % 2) % 65536)) == bit (neg false (x % 65536))) = true) :
    Calls Tryd.prog 33 #[.int .i64 x, .int .i64 c, .bool true, .bool false] w fun e w' =>
      e = .returned (.tuple #[.int .i64 ((2 * (x % 65536) + c % 2) % 65536), .int .i64 (cod (neg false ((2 * (x % 65536) + c % 2) % 65536)) (zer false ((2 * (x % 65536) + c % 2) % 65536)) false false + bit (neg false (x % 65536)))]) ∧ w = w' := by
  have A1 := and_65535
  have A2 := and_1
  have h2 : (bit (neg false ((2 * (x % 65536) + c % 2) % 65536)) != bit (neg false (x % 65536))) = false := by unfold bne; rw [h]; rfl
  have hcb := cod_bd (neg false ((2 * (x % 65536) + c % 2) % 65536)) (zer false ((2 * (x % 65536) + c % 2) % 65536)) false false
  have hbb := bit_bd (neg false (x % 65536))
  go_enter Tryd.func33, Tryd.ntmps33
  go_wp2_with (first | (go_at_call 47; refine (rsign_any _ _ _).mono ?_; rintro e w' ⟨rfl, rfl⟩) | (go_at_call 27; refine (rFlags_any _ _ _).mono ?_; rintro e w' ⟨rfl, rfl⟩) | (go_at_call 46; refine (rmask_f _).mono ?_; rintro e w' ⟨rfl, rfl⟩))
  go_ret2
  exact ⟨rfl, rfl⟩

set_option maxHeartbeats 1000000 in
theorem rRotate_lf1 (x c : Int) (w : World) (h : (bit (neg false ((2 * (x % 65536) + c % 2) % 65536)) == bit (neg false (x % 65536))) = false) :
    Calls Tryd.prog 33 #[.int .i64 x, .int .i64 c, .bool true, .bool false] w fun e w' =>
      e = .returned (.tuple #[.int .i64 ((2 * (x % 65536) + c % 2) % 65536), .int .i64 (cod (neg false ((2 * (x % 65536) + c % 2) % 65536)) (zer false ((2 * (x % 65536) + c % 2) % 65536)) false false + bit (neg false (x % 65536)) + 2)]) ∧ w = w' := by
  have A1 := and_65535
  have A2 := and_1
  have h2 : (bit (neg false ((2 * (x % 65536) + c % 2) % 65536)) != bit (neg false (x % 65536))) = true := by unfold bne; rw [h]; rfl
  have hcb := cod_bd (neg false ((2 * (x % 65536) + c % 2) % 65536)) (zer false ((2 * (x % 65536) + c % 2) % 65536)) false false
  have hbb := bit_bd (neg false (x % 65536))
  go_enter Tryd.func33, Tryd.ntmps33
  go_wp2_with (first | (go_at_call 47; refine (rsign_any _ _ _).mono ?_; rintro e w' ⟨rfl, rfl⟩) | (go_at_call 27; refine (rFlags_any _ _ _).mono ?_; rintro e w' ⟨rfl, rfl⟩) | (go_at_call 46; refine (rmask_f _).mono ?_; rintro e w' ⟨rfl, rfl⟩))
  go_ret2
  exact ⟨rfl, rfl⟩

set_option maxHeartbeats 1000000 in
theorem rRotate_lt0 (x c : Int) (w : World) (h : (bit (neg true ((2 * (x % 256) + c % 2) % 256)) == bit (neg true (x % 256))) = true) :
    Calls Tryd.prog 33 #[.int .i64 x, .int .i64 c, .bool true, .bool true] w fun e w' =>
      e = .returned (.tuple #[.int .i64 ((2 * (x % 256) + c % 2) % 256), .int .i64 (cod (neg true ((2 * (x % 256) + c % 2) % 256)) (zer true ((2 * (x % 256) + c % 2) % 256)) false false + bit (neg true (x % 256)))]) ∧ w = w' := by
  have A1 := and_255
  have A2 := and_1
  have h2 : (bit (neg true ((2 * (x % 256) + c % 2) % 256)) != bit (neg true (x % 256))) = false := by unfold bne; rw [h]; rfl
  have hcb := cod_bd (neg true ((2 * (x % 256) + c % 2) % 256)) (zer true ((2 * (x % 256) + c % 2) % 256)) false false
  have hbb := bit_bd (neg true (x % 256))
  go_enter Tryd.func33, Tryd.ntmps33
  go_wp2_with (first | (go_at_call 47; refine (rsign_any _ _ _).mono ?_; rintro e w' ⟨rfl, rfl⟩) | (go_at_call 27; refine (rFlags_any _ _ _).mono ?_; rintro e w' ⟨rfl, rfl⟩) | (go_at_call 46; refine (rmask_t _).mono ?_; rintro e w' ⟨rfl, rfl⟩))
  go_ret2
  exact ⟨rfl, rfl⟩

set_option maxHeartbeats 1000000 in
theorem rRotate_lt1 (x c : Int) (w : World) (h : (bit (neg true ((2 * (x % 256) + c % 2) % 256)) == bit (neg true (x % 256))) = false) :
    Calls Tryd.prog 33 #[.int .i64 x, .int .i64 c, .bool true, .bool true] w fun e w' =>
      e = .returned (.tuple #[.int .i64 ((2 * (x % 256) + c % 2) % 256), .int .i64 (cod (neg true ((2 * (x % 256) + c % 2) % 256)) (zer true ((2 * (x % 256) + c % 2) % 256)) false false + bit (neg true (x % 256)) + 2)]) ∧ w = w' := by
  have A1 := and_255
  have A2 := and_1
  have h2 : (bit (neg true ((2 * (x % 256) + c % 2) % 256)) != bit (neg true (x % 256))) = true := by unfold bne; rw [h]; rfl
  have hcb := cod_bd (neg true ((2 * (x % 256) + c % 2) % 256)) (zer true ((2 * (x % 256) + c % 2) % 256)) false false
  have hbb := bit_bd (neg true (x % 256))
  go_enter Tryd.func33, Tryd.ntmps33
  go_wp2_with (first | (go_at_call 47; refine (rsign_any _ _ _).mono ?_; rintro e w' ⟨rfl, rfl⟩) | (go_at_call 27; refine (rFlags_any _ _ _).mono ?_; rintro e w' ⟨rfl, rfl⟩) | (go_at_call 46; refine (rmask_t _).mono ?_; rintro e w' ⟨rfl, rfl⟩))
  go_ret2
  exact ⟨rfl, rfl⟩

set_option maxHeartbeats 1000000 in
theorem rRotate_rf0 (x c : Int) (w : World) (h : (bit (neg false (x % 65536 / 2 + 32768 * (c % 2))) == x % 2) = true) :
    Calls Tryd.prog 33 #[.int .i64 x, .int .i64 c, .bool false, .bool false] w fun e w' =>
      e = .returned (.tuple #[.int .i64 (x % 65536 / 2 + 32768 * (c % 2)), .int .i64 (cod (neg false (x % 65536 / 2 + 32768 * (c % 2))) (zer false (x % 65536 / 2 + 32768 * (c % 2))) false false + x % 2)]) ∧ w = w' := by
  have A1 := and_65535
  have A2 := and_1
  have h2 : (bit (neg false (x % 65536 / 2 + 32768 * (c % 2))) != x % 2) = false := by unfold bne; rw [h]; rfl
  have hcb := cod_bd (neg false (x % 65536 / 2 + 32768 * (c % 2))) (zer false (x % 65536 / 2 + 32768 * (c % 2))) false false
  go_enter Tryd.func33, Tryd.ntmps33
  go_wp2_with (first | (go_at_call 47; refine (rsign_any _ _ _).mono ?_; rintro e w' ⟨rfl, rfl⟩) | (go_at_call 27; refine (rFlags_any _ _ _).mono ?_; rintro e w' ⟨rfl, rfl⟩) | (go_at_call 46; refine (rmask_f _).mono ?_; rintro e w' ⟨rfl, rfl⟩))
  go_ret2
  exact ⟨rfl, rfl⟩

set_option maxHeartbeats 1000000 in
theorem rRotate_rf1 (x c : Int) (w : World) (h : (bit (neg false (x % 65536 / 2 + 32768 * (c % 2))) == x % 2) = false) :
    Calls Tryd.prog 33 #[.int .i64 x, .int .i64 c, .bool false, .bool false] w fun e w' =>
      e = .returned (.tuple #[.int .i64 (x % 65536 / 2 + 32768 * (c % 2)), .int .i64 (cod (neg false (x % 65536 / 2 + 32768 * (c % 2))) (zer false (x % 65536 / 2 + 32768 * (c % 2))) false false + x % 2 + 2)]) ∧ w = w' := by
  have A1 := and_65535
  have A2 := and_1
  have h2 : (bit (neg false (x % 65536 / 2 + 32768 * (c % 2))) != x % 2) = true := by unfold bne; rw [h]; rfl
  have hcb := cod_bd (neg false (x % 65536 / 2 + 32768 * (c % 2))) (zer false (x % 65536 / 2 + 32768 * (c % 2))) false false
  go_enter Tryd.func33, Tryd.ntmps33
  go_wp2_with (first | (go_at_call 47; refine (rsign_any _ _ _).mono ?_; rintro e w' ⟨rfl, rfl⟩) | (go_at_call 27; refine (rFlags_any _ _ _).mono ?_; rintro e w' ⟨rfl, rfl⟩) | (go_at_call 46; refine (rmask_f _).mono ?_; rintro e w' ⟨rfl, rfl⟩))
  go_ret2
  exact ⟨rfl, rfl⟩

set_option maxHeartbeats 1000000 in
theorem rRotate_rt0 (x c : Int) (w : World) (h : (bit (neg true (x % 256 / 2 + 128 * (c % 2))) == x % 2) = true) :
    Calls Tryd.prog 33 #[.int .i64 x, .int .i64 c, .bool false, .bool true] w fun e w' =>
      e = .returned (.tuple #[.int .i64 (x % 256 / 2 + 128 * (c % 2)), .int .i64 (cod (neg true (x % 256 / 2 + 128 * (c % 2))) (zer true (x % 256 / 2 + 128 * (c % 2))) false false + x % 2)]) ∧ w = w' := by
  have A1 := and_255
  have A2 := and_1
  have h2 : (bit (neg true (x % 256 / 2 + 128 * (c % 2))) != x % 2) = false := by unfold bne; rw [h]; rfl
  have hcb := cod_bd (neg true (x % 256 / 2 + 128 * (c % 2))) (zer true (x % 256 / 2 + 128 * (c % 2))) false false
  go_enter Tryd.func33, Tryd.ntmps33
  go_wp2_with (first | (go_at_call 47; refine (rsign_any _ _ _).mono ?_; rintro e w' ⟨rfl, rfl⟩) | (go_at_call 27; refine (rFlags_any _ _ _).mono ?_; rintro e w' ⟨rfl, rfl⟩) | (go_at_call 46; refine (rmask_t _).mono ?_; rintro e w' ⟨rfl, rfl⟩))
  go_ret2
  exact ⟨rfl, rfl⟩

set_option maxHeartbeats 1000000 in
theorem rRotate_rt1 (x c : Int) (w : World) (h : (bit (neg true (x % 256 / 2 + 128 * (c % 2))) == x % 2) = false) :
    Calls Tryd.prog 33 #[.int .i64 x, .int .i64 c, .bool false, .bool true] w fun e w' =>
      e = .returned (.tuple #[.int .i64 (x % 256 / 2 + 128 * (c % 2)), .int .i64 (cod (neg true (x % 256 / 2 + 128 * (c % 2))) (zer true (x % 256 / 2 + 128 * (c % 2))) false false + x % 2 + 2)]) ∧ w = w' := by
  have A1 := and_255
  have A2 := and_1
  have h2 : (bit (neg true (x % 256 / 2 + 128 * (c % 2))) != x % 2) = true := by unfold bne; rw [h]; rfl
  have hcb := cod_bd (neg true (x % 256 / 2 + 128 * (c % 2))) (zer true (x % 256 / 2 + 128 * (c % 2))) false false
  go_enter Tryd.func33, Tryd.ntmps33
  go_wp2_with (first | (go_at_call 47; refine (rsign_any _ _ _).mono ?_; rintro e w' ⟨rfl, rfl⟩) | (go_at_call 27; refine (rFlags_any _ _ _).mono ?_; rintro e w' ⟨rfl, rfl⟩) | (go_at_call 46; refine (rmask_t _).mono ?_; rintro e w' ⟨rfl, rfl⟩))
  go_ret2
  exact ⟨rfl, rfl⟩

theorem rot_codes (n z : Bool) (o : Bool) : cod n z false false + bit o + (if (n == o) then 0 else 2) = cod n z (!(n == o)) o := by
  cases n <;> cases z <;> cases o <;> rfl

theorem rRotate_any (l b : Bool) (x c : Int) (w : World) :
    Calls Tryd.prog 33 #[.int .i64 x, .int .i64 c, .bool l, .bool b] w fun e w' => e = .returned (.tuple #[.int .i64 (rotR l b x c), .int .i64 (rotF l b x c)]) ∧ w = w' := by
  cases l <;> cases b
  · have er : x % 65536 / 2 + 32768 * (c % 2) = rotR false false x c := by
      show _ = x % 65536 / 2 + 32768 * (c % 2)
      rfl
    have eo : x % 2 = bit (decide (x % 2 = 1)) := bit_odd x
    have ec := rot_codes (neg false (rotR false false x c)) (zer false (rotR false false x c)) (decide (x % 2 = 1))
    cases h : (bit (neg false (x % 65536 / 2 + 32768 * (c % 2))) == x % 2)
    · have h' := h
      rw [er, eo, bit_eq] at h'
      rw [h'] at ec
      refine (rRotate_rf1 x c w h).mono fun e w' ⟨he, hw⟩ => ⟨he.trans (ret_pair er ?_), hw⟩
      rw [er, eo]
      unfold rotF rotC
      simp only [if_true, Bool.false_eq_true, if_false] at *
      rw [h']
      exact ec
    · have h' := h
      rw [er, eo, bit_eq] at h'
      rw [h'] at ec
      refine (rRotate_rf0 x c w h).mono fun e w' ⟨he, hw⟩ => ⟨he.trans (ret_pair er ?_), hw⟩
      rw [er, eo]
      unfold rotF rotC
      simp only [if_true, Bool.false_eq_true, if_false] at *
      rw [h']
      exact (Int.add_zero _).symm.trans ec
  · have er : x % 256 / 2 + 128 * (c % 2) = rotR false true x c := by
      show _ = x % 256 / 2 + 128 * (c % 2)
      rfl
    have eo : x % 2 = bit (decide (x % 2 = 1)) := bit_odd x
    have ec := rot_codes (neg true (rotR false true x c)) (zer true (rotR false true x c)) (decide (x % 2 = 1))
    cases h : (bit (neg true (x % 256 / 2 + 128 * (c % 2))) == x % 2)
    · have h' := h
      rw [er, eo, bit_eq] at h'
      rw [h'] at ec
      refine (rRotate_rt1 x c w h).mono fun e w' ⟨he, hw⟩ => ⟨he.trans (ret_pair er ?_), hw⟩
      rw [er, eo]
      unfold rotF rotC
      simp only [if_true, Bool.false_eq_true, if_false] at *
      rw [h']
      exact ec
    · have h' := h
      rw [er, eo, bit_eq] at h'
      rw [h'] at ec
      refine (rRotate_rt0 x c w h).mono fun e w' ⟨he, hw⟩ => ⟨he.trans (ret_pair er ?_), hw⟩
      rw [er, eo]
      unfold rotF rotC
      simp only [if_true, Bool.false_eq_true, if_false] at *
      rw [h']
      exact (Int.add_zero _).symm.trans ec
  · have er : (2 * (x % 65536) + c % 2) % 65536 = rotR true false x c := by
      show _ = (x % 65536 * 2 + c % 2) % 65536
      omega
    have eo : bit (neg false (x % 65536)) = bit (neg false x) := by rw [neg_op_f]
    have ec := rot_codes (neg false (rotR true false x c)) (zer false (rotR true false x c)) (neg false x)
    cases h : (bit (neg false ((2 * (x % 65536) + c % 2) % 65536)) == bit (neg false (x % 65536)))
    · have h' := h
      rw [er, eo, bit_eq] at h'
      rw [h'] at ec
      refine (rRotate_lf1 x c w h).mono fun e w' ⟨he, hw⟩ => ⟨he.trans (ret_pair er ?_), hw⟩
      rw [er, eo]
      unfold rotF rotC
      simp only [if_true, Bool.false_eq_true, if_false] at *
      rw [h']
      exact ec
    · have h' := h
      rw [er, eo, bit_eq] at h'
      rw [h'] at ec
      refine (rRotate_lf0 x c w h).mono fun e w' ⟨he, hw⟩ => ⟨he.trans (ret_pair er ?_), hw⟩
      rw [er, eo]
      unfold rotF rotC
      simp only [if_true, Bool.false_eq_true, if_false] at *
      rw [h']
      exact (Int.add_zero _).symm.trans ec
  · have er : (2 * (x % 256) + c % 2) % 256 = rotR true true x c := by
      show _ = (x % 256 * 2 + c % 2) % 256
      omega
    have eo : bit (neg true (x % 256)) = bit (neg true x) := by rw [neg_op_t]
    have ec := rot_codes (neg true (rotR true true x c)) (zer true (rotR true true x c)) (neg true x)
    cases h : (bit (neg true ((2 * (x % 256) + c % 2) % 256)) == bit (neg true (x % 256)))
    · have h' := h
      rw [er, eo, bit_eq] at h'
      rw [h'] at ec
      refine (rRotate_lt1 x c w h).mono fun e w' ⟨he, hw⟩ => ⟨he.trans (ret_pair er ?_), hw⟩
      rw [er, eo]
      unfold rotF rotC
      simp only [if_true, Bool.false_eq_true, if_false] at *
      rw [h']
      exact ec
    · have h' := h
      rw [er, eo, bit_eq] at h'
      rw [h'] at ec
      refine (rRotate_lt0 x c w h).mono fun e w' ⟨he, hw⟩ => ⟨he.trans (ret_pair er ?_), hw⟩
      rw [er, eo]
      unfold rotF rotC
      simp only [if_true, Bool.false_eq_true, if_false] at *
      rw [h']
      exact (Int.add_zero _).symm.trans ec

#print axioms rRotate_any
end Go.Proofs.YtpimdbglmoopcaaDoor
