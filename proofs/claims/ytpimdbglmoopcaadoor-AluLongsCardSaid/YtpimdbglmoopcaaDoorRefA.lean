/-
  Walks over the reference of layer 1. No condition.
-/
import Derived.Test.YtpimdbglmoopcaaDoorWalkA
namespace Go.Proofs.YtpimdbglmoopcaaDoor
open Go.RowKit

set_option maxHeartbeats 400000 in
theorem rWrap_any (n : Int) (w : World) :
    Calls Tryd.prog 55 #[.int .i64 n] w fun e w' => e = .returned (.int .i64 (n % 65536)) ∧ w = w' := by
  go_enter Tryd.func55, Tryd.ntmps55
  go_wp2
  go_ret
  exact ⟨ret_int (and_65535 n), rfl⟩

theorem rmask_f (w : World) :
    Calls Tryd.prog 46 #[.bool false] w fun e w' => e = .returned (.int .i64 65535) ∧ w = w' := by
  go_enter Tryd.func46, Tryd.ntmps46
  go_wp2
  go_ret
  exact ⟨rfl, rfl⟩
theorem rmask_t (w : World) :
    Calls Tryd.prog 46 #[.bool true] w fun e w' => e = .returned (.int .i64 255) ∧ w = w' := by
  go_enter Tryd.func46, Tryd.ntmps46
  go_wp2
  go_ret
  exact ⟨rfl, rfl⟩

set_option maxHeartbeats 400000 in
theorem rsign_any (b : Bool) (n : Int) (w : World) :
    Calls Tryd.prog 47 #[.int .i64 n, .bool b] w fun e w' => e = .returned (.int .i64 (bit (neg b n))) ∧ w = w' := by
  have A1 := and_65535
  have A2 := and_255
  cases b
  · by_cases h : 32767 < n % 65536
    · have E := hid (show 1 = bit (neg false n) by unfold bit neg; simp; omega)
      go_enter Tryd.func47, Tryd.ntmps47
      go_wp2_with (go_at_call 46; refine (rmask_f _).mono ?_; rintro e w' ⟨rfl, rfl⟩)
      go_ret
      exact ⟨ret_int E.out, rfl⟩
    · have E := hid (show 0 = bit (neg false n) by unfold bit neg; simp; omega)
      go_enter Tryd.func47, Tryd.ntmps47
      go_wp2_with (go_at_call 46; refine (rmask_f _).mono ?_; rintro e w' ⟨rfl, rfl⟩)
      go_ret
      exact ⟨ret_int E.out, rfl⟩
  · by_cases h : 127 < n % 256
    · have E := hid (show 1 = bit (neg true n) by unfold bit neg; simp; omega)
      go_enter Tryd.func47, Tryd.ntmps47
      go_wp2_with (go_at_call 46; refine (rmask_t _).mono ?_; rintro e w' ⟨rfl, rfl⟩)
      go_ret
      exact ⟨ret_int E.out, rfl⟩
    · have E := hid (show 0 = bit (neg true n) by unfold bit neg; simp; omega)
      go_enter Tryd.func47, Tryd.ntmps47
      go_wp2_with (go_at_call 46; refine (rmask_t _).mono ?_; rintro e w' ⟨rfl, rfl⟩)
      go_ret
      exact ⟨ret_int E.out, rfl⟩

theorem rsign_1 (b : Bool) (n : Int) (w : World) (h : neg b n = true) :
    Calls Tryd.prog 47 #[.int .i64 n, .bool b] w fun e w' => e = .returned (.int .i64 1) ∧ w = w' :=
  (rsign_any b n w).mono fun _ _ ⟨he, hw⟩ => ⟨by rw [he, h]; rfl, hw⟩
theorem rsign_0 (b : Bool) (n : Int) (w : World) (h : neg b n = false) :
    Calls Tryd.prog 47 #[.int .i64 n, .bool b] w fun e w' => e = .returned (.int .i64 0) ∧ w = w' :=
  (rsign_any b n w).mono fun _ _ ⟨he, hw⟩ => ⟨by rw [he, h]; rfl, hw⟩

set_option maxHeartbeats 400000 in
theorem rvalue_any (b : Bool) (n : Int) (w : World) :
    Calls Tryd.prog 57 #[.int .i64 n, .bool b] w fun e w' => e = .returned (.int .i64 (sg b n)) ∧ w = w' := by
  have A1 := and_65535
  have A2 := and_255
  cases b
  · cases h : neg false n
    · have H := hid h
      clear h
      go_enter Tryd.func57, Tryd.ntmps57
      go_wp2_with (first | (go_at_call 46; refine (rmask_f _).mono ?_; rintro e w' ⟨rfl, rfl⟩) | (go_at_call 47; refine (rsign_0 _ _ _ H.out).mono ?_; rintro e w' ⟨rfl, rfl⟩))
      go_ret
      exact ⟨ret_int (by have := H.out; simp [neg] at this; simp [sg]; omega), rfl⟩
    · have H := hid h
      clear h
      go_enter Tryd.func57, Tryd.ntmps57
      go_wp2_with (first | (go_at_call 46; refine (rmask_f _).mono ?_; rintro e w' ⟨rfl, rfl⟩) | (go_at_call 47; refine (rsign_1 _ _ _ H.out).mono ?_; rintro e w' ⟨rfl, rfl⟩))
      go_ret
      exact ⟨ret_int (by have := H.out; simp [neg] at this; simp [sg]; omega), rfl⟩
  · cases h : neg true n
    · have H := hid h
      clear h
      go_enter Tryd.func57, Tryd.ntmps57
      go_wp2_with (first | (go_at_call 46; refine (rmask_t _).mono ?_; rintro e w' ⟨rfl, rfl⟩) | (go_at_call 47; refine (rsign_0 _ _ _ H.out).mono ?_; rintro e w' ⟨rfl, rfl⟩))
      go_ret
      exact ⟨ret_int (by have := H.out; simp [neg] at this; simp [sg]; omega), rfl⟩
    · have H := hid h
      clear h
      go_enter Tryd.func57, Tryd.ntmps57
      go_wp2_with (first | (go_at_call 46; refine (rmask_t _).mono ?_; rintro e w' ⟨rfl, rfl⟩) | (go_at_call 47; refine (rsign_1 _ _ _ H.out).mono ?_; rintro e w' ⟨rfl, rfl⟩))
      go_ret
      exact ⟨ret_int (by have := H.out; simp [neg] at this; simp [sg]; omega), rfl⟩

set_option maxHeartbeats 400000 in
theorem rSigned_any (n : Int) (w : World) :
    Calls Tryd.prog 54 #[.int .i64 n] w fun e w' => e = .returned (.int .i64 (sg false n)) ∧ w = w' := by
  go_enter Tryd.func54, Tryd.ntmps54
  go_wp2_with (go_at_call 57; refine (rvalue_any _ _ _).mono ?_; rintro e w' ⟨rfl, rfl⟩)
  go_ret
  exact ⟨rfl, rfl⟩


set_option maxHeartbeats 400000 in
theorem rFlags_any (b : Bool) (n : Int) (w : World) :
    Calls Tryd.prog 27 #[.int .i64 n, .bool b] w fun e w' => e = .returned (.int .i64 (cod (neg b n) (zer b n) false false)) ∧ w = w' := by
  have A1 := and_65535
  have A2 := and_255
  cases b
  · by_cases hz : n % 65536 = 0
    · have hb := bit_bd (neg false n)
      have E := hid (show 8 * bit (neg false n) + 4 = cod (neg false n) (zer false n) false false by cases neg false n <;> simp [cod, bit, zer, hz])
      have Z : (n % 65536 == 0) = true := by simpa using hz
      clear hz
      go_enter Tryd.func27, Tryd.ntmps27
      go_wp2_with (first | (go_at_call 46; refine (rmask_f _).mono ?_; rintro e w' ⟨rfl, rfl⟩) | (go_at_call 47; refine (rsign_any _ _ _).mono ?_; rintro e w' ⟨rfl, rfl⟩))
      go_ret
      exact ⟨ret_int E.out, rfl⟩
    · have hb := bit_bd (neg false n)
      have E := hid (show 8 * bit (neg false n) = cod (neg false n) (zer false n) false false by cases neg false n <;> simp [cod, bit, zer, hz])
      have Z : (n % 65536 == 0) = false := by simpa using hz
      clear hz
      go_enter Tryd.func27, Tryd.ntmps27
      go_wp2_with (first | (go_at_call 46; refine (rmask_f _).mono ?_; rintro e w' ⟨rfl, rfl⟩) | (go_at_call 47; refine (rsign_any _ _ _).mono ?_; rintro e w' ⟨rfl, rfl⟩))
      go_ret
      exact ⟨ret_int E.out, rfl⟩
  · by_cases hz : n % 256 = 0
    · have hb := bit_bd (neg true n)
      have E := hid (show 8 * bit (neg true n) + 4 = cod (neg true n) (zer true n) false false by cases neg true n <;> simp [cod, bit, zer, hz])
      have Z : (n % 256 == 0) = true := by simpa using hz
      clear hz
      go_enter Tryd.func27, Tryd.ntmps27
      go_wp2_with (first | (go_at_call 46; refine (rmask_t _).mono ?_; rintro e w' ⟨rfl, rfl⟩) | (go_at_call 47; refine (rsign_any _ _ _).mono ?_; rintro e w' ⟨rfl, rfl⟩))
      go_ret
      exact ⟨ret_int E.out, rfl⟩
    · have hb := bit_bd (neg true n)
      have E := hid (show 8 * bit (neg true n) = cod (neg true n) (zer true n) false false by cases neg true n <;> simp [cod, bit, zer, hz])
      have Z : (n % 256 == 0) = false := by simpa using hz
      clear hz
      go_enter Tryd.func27, Tryd.ntmps27
      go_wp2_with (first | (go_at_call 46; refine (rmask_t _).mono ?_; rintro e w' ⟨rfl, rfl⟩) | (go_at_call 47; refine (rsign_any _ _ _).mono ?_; rintro e w' ⟨rfl, rfl⟩))
      go_ret
      exact ⟨ret_int E.out, rfl⟩

end Go.Proofs.YtpimdbglmoopcaaDoor
