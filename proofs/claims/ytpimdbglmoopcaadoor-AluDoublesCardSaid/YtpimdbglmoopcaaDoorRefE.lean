/-
  What Shift of the reference of layer 1 returns. No condition.
-/
import Derived.Test.YtpimdbglmoopcaaDoorRefD
namespace Go.Proofs.YtpimdbglmoopcaaDoor
open Go.RowKit

theorem vint {a b : Int} (h : a = b) : Value.int .i64 a = .int .i64 b := by rw [h]
theorem shl_up (x : Int) (j : Nat) : 2 * shl x j % 65536 = shl x (j + 1) := by rw [shl]; omega
theorem shlV_same (x : Int) (j : Nat) (h : (neg false (2 * shl x j % 65536) == neg false x) = true) : shlV x j = shlV x (j + 1) := by
  rw [shl_up] at h
  rw [shlV, h]
  simp
theorem shlV_else (x : Int) (j : Nat) (h : (neg false (2 * shl x j % 65536) == neg false x) = false) : true = shlV x (j + 1) := by
  rw [shl_up] at h
  rw [shlV, h]
  simp

set_option maxHeartbeats 1000000 in
theorem rShift_l (x n : Int) (k : Nat) (w : World) (hk : n % 64 = k) (h31 : k ≤ 31) :
    Calls Tryd.prog 41 #[.int .i64 x, .int .i64 n] w fun e w' =>
      e = .returned (.tuple #[.int .i64 (shl x k), .int .i64 (cod (neg false (shl x k)) (zer false (shl x k)) false false + 2 * bit (shlV x k) + bit (shlC x k))]) ∧ w = w' := by
  have A1 := and_63
  have A2 := and_1
  have HK := hid hk
  have hk2 : n % 64 ≤ 31 := by omega
  clear hk
  go_enter Tryd.func41, Tryd.ntmps41
  go_wp2_with (first | (go_at_call 55; refine (rWrap_any _ _).mono ?_; rintro e w' ⟨rfl, rfl⟩) | (go_at_call 47; refine (rsign_any _ _ _).mono ?_; rintro e w' ⟨rfl, rfl⟩) | (go_at_call 27; refine (rFlags_any _ _ _).mono ?_; rintro e w' ⟨rfl, rfl⟩) | (go_at_call 46; refine (rmask_t _).mono ?_; rintro e w' ⟨rfl, rfl⟩) | (go_at_call 46; refine (rmask_f _).mono ?_; rintro e w' ⟨rfl, rfl⟩))
  rw [HK.out]
  go_loop [1, 6, 7, 8] (fun i r c v => ∃ j : Nat, j ≤ k ∧ i = .int .i64 ((k : Int) - j) ∧ r = .int .i64 (shl x j) ∧ c = .int .i64 (bit (shlC x j)) ∧ v = .int .i64 (bit (shlV x j))) (fun i _ _ _ => (intOf i).toNat)
  case atStart => exact ⟨0, Nat.zero_le _, by simp, rfl, rfl, rfl⟩
  case round =>
    obtain ⟨j, hj, rfl, rfl, rfl, rfl⟩ := hrel
    have hb := shl_bd x j
    by_cases hlt : j < k
    · have hpos : (0 : Int) < (k : Int) - j := by omega
      cases hv : (neg false (2 * shl x j % 65536) == neg false x)
      · have V := hid hv
        have hv1 : (bit (neg false (2 * shl x j % 65536)) == bit (neg false x)) = false := by rw [bit_eq]; exact hv
        have hv2 : (bit (neg false (2 * shl x j % 65536)) != bit (neg false x)) = true := by unfold bne; rw [hv1]; rfl
        clear hv
        go_wp2_with (first | (go_at_call 55; refine (rWrap_any _ _).mono ?_; rintro e w' ⟨rfl, rfl⟩) | (go_at_call 47; refine (rsign_any _ _ _).mono ?_; rintro e w' ⟨rfl, rfl⟩) | (go_at_call 27; refine (rFlags_any _ _ _).mono ?_; rintro e w' ⟨rfl, rfl⟩) | (go_at_call 46; refine (rmask_t _).mono ?_; rintro e w' ⟨rfl, rfl⟩) | (go_at_call 46; refine (rmask_f _).mono ?_; rintro e w' ⟨rfl, rfl⟩))
        go_round
        case rel => exact ⟨j + 1, by omega, vint (by omega), vint (shl_up x j), rfl, vint (by rw [← shlV_else x j V.out]; rfl)⟩
        case measure => simp [intOf]; omega
      · have V := hid hv
        have hv1 : (bit (neg false (2 * shl x j % 65536)) == bit (neg false x)) = true := by rw [bit_eq]; exact hv
        have hv2 : (bit (neg false (2 * shl x j % 65536)) != bit (neg false x)) = false := by unfold bne; rw [hv1]; rfl
        clear hv
        go_wp2_with (first | (go_at_call 55; refine (rWrap_any _ _).mono ?_; rintro e w' ⟨rfl, rfl⟩) | (go_at_call 47; refine (rsign_any _ _ _).mono ?_; rintro e w' ⟨rfl, rfl⟩) | (go_at_call 27; refine (rFlags_any _ _ _).mono ?_; rintro e w' ⟨rfl, rfl⟩) | (go_at_call 46; refine (rmask_t _).mono ?_; rintro e w' ⟨rfl, rfl⟩) | (go_at_call 46; refine (rmask_f _).mono ?_; rintro e w' ⟨rfl, rfl⟩))
        go_round
        case rel => exact ⟨j + 1, by omega, vint (by omega), vint (shl_up x j), rfl, vint (by rw [← shlV_same x j V.out])⟩
        case measure => simp [intOf]; omega
    · obtain rfl : j = k := by omega
      have hc := bit_bd (shlC x j)
      have hvb := bit_bd (shlV x j)
      have hcb := cod_bd (neg false (shl x j)) (zer false (shl x j)) false false
      rw [show ((j : Int) - j) = 0 by omega]
      go_wp2_with (first | (go_at_call 55; refine (rWrap_any _ _).mono ?_; rintro e w' ⟨rfl, rfl⟩) | (go_at_call 47; refine (rsign_any _ _ _).mono ?_; rintro e w' ⟨rfl, rfl⟩) | (go_at_call 27; refine (rFlags_any _ _ _).mono ?_; rintro e w' ⟨rfl, rfl⟩) | (go_at_call 46; refine (rmask_t _).mono ?_; rintro e w' ⟨rfl, rfl⟩) | (go_at_call 46; refine (rmask_f _).mono ?_; rintro e w' ⟨rfl, rfl⟩))
      go_loop [1, 6, 7] (fun i r c => i = .int .i64 0 ∧ r = .int .i64 (shl x j) ∧ c = .int .i64 (bit (shlC x j))) (fun _ _ _ => 0)
      case atStart => exact ⟨rfl, rfl, rfl⟩
      case round =>
        obtain ⟨rfl, rfl, rfl⟩ := hrel
        go_wp2_with (first | (go_at_call 55; refine (rWrap_any _ _).mono ?_; rintro e w' ⟨rfl, rfl⟩) | (go_at_call 47; refine (rsign_any _ _ _).mono ?_; rintro e w' ⟨rfl, rfl⟩) | (go_at_call 27; refine (rFlags_any _ _ _).mono ?_; rintro e w' ⟨rfl, rfl⟩) | (go_at_call 46; refine (rmask_t _).mono ?_; rintro e w' ⟨rfl, rfl⟩) | (go_at_call 46; refine (rmask_f _).mono ?_; rintro e w' ⟨rfl, rfl⟩))
        go_ret2
        exact ⟨rfl, rfl⟩

set_option maxHeartbeats 1000000 in
theorem rShift_r (x n : Int) (k : Nat) (w : World) (hk : n % 64 = 64 - k) (h31 : k ≤ 32) (h0 : 1 ≤ k) :
    Calls Tryd.prog 41 #[.int .i64 x, .int .i64 n] w fun e w' =>
      e = .returned (.tuple #[.int .i64 (shr x k), .int .i64 (cod (neg false (shr x k)) (zer false (shr x k)) false false + 0 + shrC x k)]) ∧ w = w' := by
  have A1 := and_63
  have A2 := and_1
  have HK := hid (show n % 64 - 64 = -(k : Int) by omega)
  have hk2 : 31 < n % 64 := by omega
  have hneg : -(k : Int) < 0 := by omega
  have R0 := hid (shr_0 x)
  clear hk
  go_enter Tryd.func41, Tryd.ntmps41
  go_wp2_with (first | (go_at_call 55; refine (rWrap_any _ _).mono ?_; rintro e w' ⟨rfl, rfl⟩) | (go_at_call 47; refine (rsign_any _ _ _).mono ?_; rintro e w' ⟨rfl, rfl⟩) | (go_at_call 27; refine (rFlags_any _ _ _).mono ?_; rintro e w' ⟨rfl, rfl⟩) | (go_at_call 46; refine (rmask_t _).mono ?_; rintro e w' ⟨rfl, rfl⟩) | (go_at_call 46; refine (rmask_f _).mono ?_; rintro e w' ⟨rfl, rfl⟩))
  rw [HK.out]
  go_loop [1, 6, 7, 8] (fun i r c v => i = .int .i64 (-(k : Int)) ∧ r = .int .i64 (shr x 0) ∧ c = .int .i64 0 ∧ v = .int .i64 0) (fun _ _ _ _ => 0)
  case atStart => exact ⟨rfl, vint R0.out.symm, rfl, rfl⟩
  case round =>
    obtain ⟨rfl, rfl, rfl, rfl⟩ := hrel
    go_wp2_with (first | (go_at_call 55; refine (rWrap_any _ _).mono ?_; rintro e w' ⟨rfl, rfl⟩) | (go_at_call 47; refine (rsign_any _ _ _).mono ?_; rintro e w' ⟨rfl, rfl⟩) | (go_at_call 27; refine (rFlags_any _ _ _).mono ?_; rintro e w' ⟨rfl, rfl⟩) | (go_at_call 46; refine (rmask_t _).mono ?_; rintro e w' ⟨rfl, rfl⟩) | (go_at_call 46; refine (rmask_f _).mono ?_; rintro e w' ⟨rfl, rfl⟩))
    go_loop [1, 6, 7] (fun i r c => ∃ j : Nat, j ≤ k ∧ i = .int .i64 ((j : Int) - k) ∧ r = .int .i64 (shr x j) ∧ c = .int .i64 (shrC x j)) (fun i _ _ => (-(intOf i)).toNat)
    case atStart => exact ⟨0, Nat.zero_le _, by simp, rfl, rfl⟩
    case round =>
      obtain ⟨j, hj, rfl, rfl, rfl⟩ := hrel
      have hb := shr_bd x j
      have hcb := shrC_bd x j
      by_cases hlt : j < k
      · have hpos : (j : Int) - k < 0 := by omega
        have hbit := bit_bd (neg false (shr x j))
        have E := hid (shr_succ x j)
        have E2 := hid (shrC_succ x j)
        go_wp2_with (first | (go_at_call 55; refine (rWrap_any _ _).mono ?_; rintro e w' ⟨rfl, rfl⟩) | (go_at_call 47; refine (rsign_any _ _ _).mono ?_; rintro e w' ⟨rfl, rfl⟩) | (go_at_call 27; refine (rFlags_any _ _ _).mono ?_; rintro e w' ⟨rfl, rfl⟩) | (go_at_call 46; refine (rmask_t _).mono ?_; rintro e w' ⟨rfl, rfl⟩) | (go_at_call 46; refine (rmask_f _).mono ?_; rintro e w' ⟨rfl, rfl⟩))
        go_round
        case rel => exact ⟨j + 1, by omega, vint (by omega), vint E.out, vint E2.out⟩
        case measure => simp [intOf]; omega
      · obtain rfl : j = k := by omega
        have hcd := cod_bd (neg false (shr x j)) (zer false (shr x j)) false false
        rw [show ((j : Int) - j) = 0 by omega]
        go_wp2_with (first | (go_at_call 55; refine (rWrap_any _ _).mono ?_; rintro e w' ⟨rfl, rfl⟩) | (go_at_call 47; refine (rsign_any _ _ _).mono ?_; rintro e w' ⟨rfl, rfl⟩) | (go_at_call 27; refine (rFlags_any _ _ _).mono ?_; rintro e w' ⟨rfl, rfl⟩) | (go_at_call 46; refine (rmask_t _).mono ?_; rintro e w' ⟨rfl, rfl⟩) | (go_at_call 46; refine (rmask_f _).mono ?_; rintro e w' ⟨rfl, rfl⟩))
        go_ret2
        exact ⟨ret_pair rfl (by omega), rfl⟩

theorem rShift_any (x n : Int) (w : World) :
    Calls Tryd.prog 41 #[.int .i64 x, .int .i64 n] w fun e w' => e = .returned (.tuple #[.int .i64 (shfR x n), .int .i64 (shfF x n)]) ∧ w = w' := by
  by_cases h : n % 64 < 32
  · have hc : cnt n = n % 64 := by unfold cnt; rw [if_pos h]
    have hk : n % 64 = ((n % 64).toNat : Int) := by omega
    refine (rShift_l x n (n % 64).toNat w hk (by omega)).mono fun e w' ⟨he, hw⟩ => ⟨he.trans (ret_pair ?_ ?_), hw⟩
    · unfold shfR
      rw [hc, if_neg (by omega)]
    · unfold shfF
      rw [hc, if_neg (by omega)]
      generalize shlV x (n % 64).toNat = v
      generalize shlC x (n % 64).toNat = c
      cases v <;> cases c <;> simp [cod, bit]
  · have hc : cnt n = n % 64 - 64 := by unfold cnt; rw [if_neg h]
    have e0 : (-(n % 64 - 64)).toNat = (64 - n % 64).toNat := by omega
    refine (rShift_r x n (64 - n % 64).toNat w (by omega) (by omega) (by omega)).mono fun e w' ⟨he, hw⟩ => ⟨he.trans (ret_pair ?_ ?_), hw⟩
    · unfold shfR
      rw [hc, if_pos (by omega), e0]
    · unfold shfF
      rw [hc, if_pos (by omega), e0]
      have hb := shrC_bd x (64 - n % 64).toNat
      generalize shrC x (64 - n % 64).toNat = c at *
      rcases (show c = 0 ∨ c = 1 by omega) with rfl | rfl <;> simp [cod]

#print axioms rShift_any
end Go.Proofs.YtpimdbglmoopcaaDoor
