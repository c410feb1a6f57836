/-
  Walks over Sub of the reference of layer 1. No condition beyond the tests on the way.
-/
import Derived.Test.YtpimdbglmoopcaaDoorRefB
namespace Go.Proofs.YtpimdbglmoopcaaDoor
open Go.RowKit

set_option maxHeartbeats 400000 in
theorem rSub_f_1x1 (x y c : Int) (w : World) (hg : (neg false x == neg false y) = true) (hc : x % 65536 - y % 65536 - c % 2 < 0) :
    Calls Tryd.prog 25 #[.int .i64 x, .int .i64 y, .int .i64 c, .bool false] w fun e w' => e = .returned (.tuple #[.int .i64 (subR false x y c), .int .i64 (subF false x y c)]) ∧ w = w' := by
  have A1 := and_65535
  have A2 := and_1
  have E := hid (show cod (neg false ((x % 65536 - y % 65536 - c % 2) % 65536)) (zer false ((x % 65536 - y % 65536 - c % 2) % 65536)) false false + 1 = subF false x y c by
    have hc' : decide (subD false x y c < 0) = true := by show decide _ = _; simp only [decide_eq_true_eq]; simp only [subD, op] at *; simp at *; omega
    show _ = cod (neg false (subR false x y c)) (zer false (subR false x y c)) _ _
    rw [hg, hc']
    exact codes_up _ _ _ _ _ (by simp; try rfl))
  have hb := cod_bd (neg false ((x % 65536 - y % 65536 - c % 2) % 65536)) (zer false ((x % 65536 - y % 65536 - c % 2) % 65536)) false false
  have G : (bit (neg false x) == bit (neg false y)) = true := by rw [bit_eq]; exact hg
  have G2 : (bit (neg false x) != bit (neg false y)) = false := by unfold bne; rw [G]; rfl
  clear hg
  go_enter Tryd.func25, Tryd.ntmps25
  go_wp2_with (first | (go_at_call 46; refine (rmask_f _).mono ?_; rintro e w' ⟨rfl, rfl⟩) | (go_at_call 47; refine (rsign_any _ _ _).mono ?_; rintro e w' ⟨rfl, rfl⟩) | (go_at_call 27; refine (rFlags_any _ _ _).mono ?_; rintro e w' ⟨rfl, rfl⟩))
  go_ret2
  exact ⟨ret_pair rfl E.out, rfl⟩

set_option maxHeartbeats 400000 in
theorem rSub_f_1x0 (x y c : Int) (w : World) (hg : (neg false x == neg false y) = true) (hc : 0 ≤ x % 65536 - y % 65536 - c % 2) :
    Calls Tryd.prog 25 #[.int .i64 x, .int .i64 y, .int .i64 c, .bool false] w fun e w' => e = .returned (.tuple #[.int .i64 (subR false x y c), .int .i64 (subF false x y c)]) ∧ w = w' := by
  have A1 := and_65535
  have A2 := and_1
  have E := hid (show cod (neg false ((x % 65536 - y % 65536 - c % 2) % 65536)) (zer false ((x % 65536 - y % 65536 - c % 2) % 65536)) false false = subF false x y c by
    have hc' : decide (subD false x y c < 0) = false := by show decide _ = _; simp only [decide_eq_false_iff_not]; simp only [subD, op] at *; simp at *; omega
    show _ = cod (neg false (subR false x y c)) (zer false (subR false x y c)) _ _
    rw [hg, hc']
    exact codes_up _ _ _ _ _ (by simp; try rfl))
  have hb := cod_bd (neg false ((x % 65536 - y % 65536 - c % 2) % 65536)) (zer false ((x % 65536 - y % 65536 - c % 2) % 65536)) false false
  have G : (bit (neg false x) == bit (neg false y)) = true := by rw [bit_eq]; exact hg
  have G2 : (bit (neg false x) != bit (neg false y)) = false := by unfold bne; rw [G]; rfl
  clear hg
  go_enter Tryd.func25, Tryd.ntmps25
  go_wp2_with (first | (go_at_call 46; refine (rmask_f _).mono ?_; rintro e w' ⟨rfl, rfl⟩) | (go_at_call 47; refine (rsign_any _ _ _).mono ?_; rintro e w' ⟨rfl, rfl⟩) | (go_at_call 27; refine (rFlags_any _ _ _).mono ?_; rintro e w' ⟨rfl, rfl⟩))
  go_ret2
  exact ⟨ret_pair rfl E.out, rfl⟩

set_option maxHeartbeats 400000 in
theorem rSub_f_011 (x y c : Int) (w : World) (hg : (neg false x == neg false y) = false) (hv : (neg false (subR false x y c) == neg false y) = true) (hc : x % 65536 - y % 65536 - c % 2 < 0) :
    Calls Tryd.prog 25 #[.int .i64 x, .int .i64 y, .int .i64 c, .bool false] w fun e w' => e = .returned (.tuple #[.int .i64 (subR false x y c), .int .i64 (subF false x y c)]) ∧ w = w' := by
  have A1 := and_65535
  have A2 := and_1
  have E := hid (show cod (neg false ((x % 65536 - y % 65536 - c % 2) % 65536)) (zer false ((x % 65536 - y % 65536 - c % 2) % 65536)) false false + 1 + 2 = subF false x y c by
    have hc' : decide (subD false x y c < 0) = true := by show decide _ = _; simp only [decide_eq_true_eq]; simp only [subD, op] at *; simp at *; omega
    show _ = cod (neg false (subR false x y c)) (zer false (subR false x y c)) _ _
    rw [hg, hc']; rw [hv]
    exact codes_up _ _ _ _ _ (by simp; try rfl))
  have hb := cod_bd (neg false ((x % 65536 - y % 65536 - c % 2) % 65536)) (zer false ((x % 65536 - y % 65536 - c % 2) % 65536)) false false
  have G : (bit (neg false x) == bit (neg false y)) = false := by rw [bit_eq]; exact hg
  have G2 : (bit (neg false x) != bit (neg false y)) = true := by unfold bne; rw [G]; rfl
  have V : (bit (neg false ((x % 65536 - y % 65536 - c % 2) % 65536)) == bit (neg false y)) = true := by rw [bit_eq]; exact hv
  clear hv
  clear hg
  go_enter Tryd.func25, Tryd.ntmps25
  go_wp2_with (first | (go_at_call 46; refine (rmask_f _).mono ?_; rintro e w' ⟨rfl, rfl⟩) | (go_at_call 47; refine (rsign_any _ _ _).mono ?_; rintro e w' ⟨rfl, rfl⟩) | (go_at_call 27; refine (rFlags_any _ _ _).mono ?_; rintro e w' ⟨rfl, rfl⟩))
  go_ret2
  exact ⟨ret_pair rfl E.out, rfl⟩

set_option maxHeartbeats 400000 in
theorem rSub_f_010 (x y c : Int) (w : World) (hg : (neg false x == neg false y) = false) (hv : (neg false (subR false x y c) == neg false y) = true) (hc : 0 ≤ x % 65536 - y % 65536 - c % 2) :
    Calls Tryd.prog 25 #[.int .i64 x, .int .i64 y, .int .i64 c, .bool false] w fun e w' => e = .returned (.tuple #[.int .i64 (subR false x y c), .int .i64 (subF false x y c)]) ∧ w = w' := by
  have A1 := and_65535
  have A2 := and_1
  have E := hid (show cod (neg false ((x % 65536 - y % 65536 - c % 2) % 65536)) (zer false ((x % 65536 - y % 65536 - c % 2) % 65536)) false false + 2 = subF false x y c by
    have hc' : decide (subD false x y c < 0) = false := by show decide _ = _; simp only [decide_eq_false_iff_not]; simp only [subD, op] at *; simp at *; omega
    show _ = cod (neg false (subR false x y c)) (zer false (subR false x y c)) _ _
    rw [hg, hc']; rw [hv]
    exact codes_up _ _ _ _ _ (by simp; try rfl))
  have hb := cod_bd (neg false ((x % 65536 - y % 65536 - c % 2) % 65536)) (zer false ((x % 65536 - y % 65536 - c % 2) % 65536)) false false
  have G : (bit (neg false x) == bit (neg false y)) = false := by rw [bit_eq]; exact hg
  have G2 : (bit (neg false x) != bit (neg false y)) = true := by unfold bne; rw [G]; rfl
  have V : (bit (neg false ((x % 65536 - y % 65536 - c % 2) % 65536)) == bit (neg false y)) = true := by rw [bit_eq]; exact hv
  clear hv
  clear hg
  go_enter Tryd.func25, Tryd.ntmps25
  go_wp2_with (first | (go_at_call 46; refine (rmask_f _).mono ?_; rintro e w' ⟨rfl, rfl⟩) | (go_at_call 47; refine (rsign_any _ _ _).mono ?_; rintro e w' ⟨rfl, rfl⟩) | (go_at_call 27; refine (rFlags_any _ _ _).mono ?_; rintro e w' ⟨rfl, rfl⟩))
  go_ret2
  exact ⟨ret_pair rfl E.out, rfl⟩

set_option maxHeartbeats 400000 in
theorem rSub_f_001 (x y c : Int) (w : World) (hg : (neg false x == neg false y) = false) (hv : (neg false (subR false x y c) == neg false y) = false) (hc : x % 65536 - y % 65536 - c % 2 < 0) :
    Calls Tryd.prog 25 #[.int .i64 x, .int .i64 y, .int .i64 c, .bool false] w fun e w' => e = .returned (.tuple #[.int .i64 (subR false x y c), .int .i64 (subF false x y c)]) ∧ w = w' := by
  have A1 := and_65535
  have A2 := and_1
  have E := hid (show cod (neg false ((x % 65536 - y % 65536 - c % 2) % 65536)) (zer false ((x % 65536 - y % 65536 - c % 2) % 65536)) false false + 1 = subF false x y c by
    have hc' : decide (subD false x y c < 0) = true := by show decide _ = _; simp only [decide_eq_true_eq]; simp only [subD, op] at *; simp at *; omega
    show _ = cod (neg false (subR false x y c)) (zer false (subR false x y c)) _ _
    rw [hg, hc']; rw [hv]
    exact codes_up _ _ _ _ _ (by simp; try rfl))
  have hb := cod_bd (neg false ((x % 65536 - y % 65536 - c % 2) % 65536)) (zer false ((x % 65536 - y % 65536 - c % 2) % 65536)) false false
  have G : (bit (neg false x) == bit (neg false y)) = false := by rw [bit_eq]; exact hg
  have G2 : (bit (neg false x) != bit (neg false y)) = true := by unfold bne; rw [G]; rfl
  have V : (bit (neg false ((x % 65536 - y % 65536 - c % 2) % 65536)) == bit (neg false y)) = false := by rw [bit_eq]; exact hv
  clear hv
  clear hg
  go_enter Tryd.func25, Tryd.ntmps25
  go_wp2_with (first | (go_at_call 46; refine (rmask_f _).mono ?_; rintro e w' ⟨rfl, rfl⟩) | (go_at_call 47; refine (rsign_any _ _ _).mono ?_; rintro e w' ⟨rfl, rfl⟩) | (go_at_call 27; refine (rFlags_any _ _ _).mono ?_; rintro e w' ⟨rfl, rfl⟩))
  go_ret2
  exact ⟨ret_pair rfl E.out, rfl⟩

set_option maxHeartbeats 400000 in
theorem rSub_f_000 (x y c : Int) (w : World) (hg : (neg false x == neg false y) = false) (hv : (neg false (subR false x y c) == neg false y) = false) (hc : 0 ≤ x % 65536 - y % 65536 - c % 2) :
    Calls Tryd.prog 25 #[.int .i64 x, .int .i64 y, .int .i64 c, .bool false] w fun e w' => e = .returned (.tuple #[.int .i64 (subR false x y c), .int .i64 (subF false x y c)]) ∧ w = w' := by
  have A1 := and_65535
  have A2 := and_1
  have E := hid (show cod (neg false ((x % 65536 - y % 65536 - c % 2) % 65536)) (zer false ((x % 65536 - y % 65536 - c % 2) % 65536)) false false = subF false x y c by
    have hc' : decide (subD false x y c < 0) = false := by show decide _ = _; simp only [decide_eq_false_iff_not]; simp only [subD, op] at *; simp at *; omega
    show _ = cod (neg false (subR false x y c)) (zer false (subR false x y c)) _ _
    rw [hg, hc']; rw [hv]
    exact codes_up _ _ _ _ _ (by simp; try rfl))
  have hb := cod_bd (neg false ((x % 65536 - y % 65536 - c % 2) % 65536)) (zer false ((x % 65536 - y % 65536 - c % 2) % 65536)) false false
  have G : (bit (neg false x) == bit (neg false y)) = false := by rw [bit_eq]; exact hg
  have G2 : (bit (neg false x) != bit (neg false y)) = true := by unfold bne; rw [G]; rfl
  have V : (bit (neg false ((x % 65536 - y % 65536 - c % 2) % 65536)) == bit (neg false y)) = false := by rw [bit_eq]; exact hv
  clear hv
  clear hg
  go_enter Tryd.func25, Tryd.ntmps25
  go_wp2_with (first | (go_at_call 46; refine (rmask_f _).mono ?_; rintro e w' ⟨rfl, rfl⟩) | (go_at_call 47; refine (rsign_any _ _ _).mono ?_; rintro e w' ⟨rfl, rfl⟩) | (go_at_call 27; refine (rFlags_any _ _ _).mono ?_; rintro e w' ⟨rfl, rfl⟩))
  go_ret2
  exact ⟨ret_pair rfl E.out, rfl⟩

set_option maxHeartbeats 400000 in
theorem rSub_t_1x1 (x y c : Int) (w : World) (hg : (neg true x == neg true y) = true) (hc : x % 256 - y % 256 - c % 2 < 0) :
    Calls Tryd.prog 25 #[.int .i64 x, .int .i64 y, .int .i64 c, .bool true] w fun e w' => e = .returned (.tuple #[.int .i64 (subR true x y c), .int .i64 (subF true x y c)]) ∧ w = w' := by
  have A1 := and_255
  have A2 := and_1
  have E := hid (show cod (neg true ((x % 256 - y % 256 - c % 2) % 256)) (zer true ((x % 256 - y % 256 - c % 2) % 256)) false false + 1 = subF true x y c by
    have hc' : decide (subD true x y c < 0) = true := by show decide _ = _; simp only [decide_eq_true_eq]; simp only [subD, op] at *; simp at *; omega
    show _ = cod (neg true (subR true x y c)) (zer true (subR true x y c)) _ _
    rw [hg, hc']
    exact codes_up _ _ _ _ _ (by simp; try rfl))
  have hb := cod_bd (neg true ((x % 256 - y % 256 - c % 2) % 256)) (zer true ((x % 256 - y % 256 - c % 2) % 256)) false false
  have G : (bit (neg true x) == bit (neg true y)) = true := by rw [bit_eq]; exact hg
  have G2 : (bit (neg true x) != bit (neg true y)) = false := by unfold bne; rw [G]; rfl
  clear hg
  go_enter Tryd.func25, Tryd.ntmps25
  go_wp2_with (first | (go_at_call 46; refine (rmask_t _).mono ?_; rintro e w' ⟨rfl, rfl⟩) | (go_at_call 47; refine (rsign_any _ _ _).mono ?_; rintro e w' ⟨rfl, rfl⟩) | (go_at_call 27; refine (rFlags_any _ _ _).mono ?_; rintro e w' ⟨rfl, rfl⟩))
  go_ret2
  exact ⟨ret_pair rfl E.out, rfl⟩

set_option maxHeartbeats 400000 in
theorem rSub_t_1x0 (x y c : Int) (w : World) (hg : (neg true x == neg true y) = true) (hc : 0 ≤ x % 256 - y % 256 - c % 2) :
    Calls Tryd.prog 25 #[.int .i64 x, .int .i64 y, .int .i64 c, .bool true] w fun e w' => e = .returned (.tuple #[.int .i64 (subR true x y c), .int .i64 (subF true x y c)]) ∧ w = w' := by
  have A1 := and_255
  have A2 := and_1
  have E := hid (show cod (neg true ((x % 256 - y % 256 - c % 2) % 256)) (zer true ((x % 256 - y % 256 - c % 2) % 256)) false false = subF true x y c by
    have hc' : decide (subD true x y c < 0) = false := by show decide _ = _; simp only [decide_eq_false_iff_not]; simp only [subD, op] at *; simp at *; omega
    show _ = cod (neg true (subR true x y c)) (zer true (subR true x y c)) _ _
    rw [hg, hc']
    exact codes_up _ _ _ _ _ (by simp; try rfl))
  have hb := cod_bd (neg true ((x % 256 - y % 256 - c % 2) % 256)) (zer true ((x % 256 - y % 256 - c % 2) % 256)) false false
  have G : (bit (neg true x) == bit (neg true y)) = true := by rw [bit_eq]; exact hg
  have G2 : (bit (neg true x) != bit (neg true y)) = false := by unfold bne; rw [G]; rfl
  clear hg
  go_enter Tryd.func25, Tryd.ntmps25
  go_wp2_with (first | (go_at_call 46; refine (rmask_t _).mono ?_; rintro e w' ⟨rfl, rfl⟩) | (go_at_call 47; refine (rsign_any _ _ _).mono ?_; rintro e w' ⟨rfl, rfl⟩) | (go_at_call 27; refine (rFlags_any _ _ _).mono ?_; rintro e w' ⟨rfl, rfl⟩))
  go_ret2
  exact ⟨ret_pair rfl E.out, rfl⟩

set_option maxHeartbeats 400000 in
theorem rSub_t_011 (x y c : Int) (w : World) (hg : (neg true x == neg true y) = false) (hv : (neg true (subR true x y c) == neg true y) = true) (hc : x % 256 - y % 256 - c % 2 < 0) :
    Calls Tryd.prog 25 #[.int .i64 x, .int .i64 y, .int .i64 c, .bool true] w fun e w' => e = .returned (.tuple #[.int .i64 (subR true x y c), .int .i64 (subF true x y c)]) ∧ w = w' := by
  have A1 := and_255
  have A2 := and_1
  have E := hid (show cod (neg true ((x % 256 - y % 256 - c % 2) % 256)) (zer true ((x % 256 - y % 256 - c % 2) % 256)) false false + 1 + 2 = subF true x y c by
    have hc' : decide (subD true x y c < 0) = true := by show decide _ = _; simp only [decide_eq_true_eq]; simp only [subD, op] at *; simp at *; omega
    show _ = cod (neg true (subR true x y c)) (zer true (subR true x y c)) _ _
    rw [hg, hc']; rw [hv]
    exact codes_up _ _ _ _ _ (by simp; try rfl))
  have hb := cod_bd (neg true ((x % 256 - y % 256 - c % 2) % 256)) (zer true ((x % 256 - y % 256 - c % 2) % 256)) false false
  have G : (bit (neg true x) == bit (neg true y)) = false := by rw [bit_eq]; exact hg
  have G2 : (bit (neg true x) != bit (neg true y)) = true := by unfold bne; rw [G]; rfl
  have V : (bit (neg true ((x % 256 - y % 256 - c % 2) % 256)) == bit (neg true y)) = true := by rw [bit_eq]; exact hv
  clear hv
  clear hg
  go_enter Tryd.func25, Tryd.ntmps25
  go_wp2_with (first | (go_at_call 46; refine (rmask_t _).mono ?_; rintro e w' ⟨rfl, rfl⟩) | (go_at_call 47; refine (rsign_any _ _ _).mono ?_; rintro e w' ⟨rfl, rfl⟩) | (go_at_call 27; refine (rFlags_any _ _ _).mono ?_; rintro e w' ⟨rfl, rfl⟩))
  go_ret2
  exact ⟨ret_pair rfl E.out, rfl⟩

set_option maxHeartbeats 400000 in
theorem rSub_t_010 (x y c : Int) (w : World) (hg : (neg true x == neg true y) = false) (hv : (neg true (subR true x y c) == neg true y) = true) (hc : 0 ≤ x % 256 - y % 256 - c % 2) :
    Calls Tryd.prog 25 #[.int .i64 x, .int .i64 y, .int .i64 c, .bool true] w fun e w' => e = .returned (.tuple #[.int .i64 (subR true x y c), .int .i64 (subF true x y c)]) ∧ w = w' := by
  have A1 := and_255
  have A2 := and_1
  have E := hid (show cod (neg true ((x % 256 - y % 256 - c % 2) % 256)) (zer true ((x % 256 - y % 256 - c % 2) % 256)) false false + 2 = subF true x y c by
    have hc' : decide (subD true x y c < 0) = false := by show decide _ = _; simp only [decide_eq_false_iff_not]; simp only [subD, op] at *; simp at *; omega
    show _ = cod (neg true (subR true x y c)) (zer true (subR true x y c)) _ _
    rw [hg, hc']; rw [hv]
    exact codes_up _ _ _ _ _ (by simp; try rfl))
  have hb := cod_bd (neg true ((x % 256 - y % 256 - c % 2) % 256)) (zer true ((x % 256 - y % 256 - c % 2) % 256)) false false
  have G : (bit (neg true x) == bit (neg true y)) = false := by rw [bit_eq]; exact hg
  have G2 : (bit (neg true x) != bit (neg true y)) = true := by unfold bne; rw [G]; rfl
  have V : (bit (neg true ((x % 256 - y % 256 - c % 2) % 256)) == bit (neg true y)) = true := by rw [bit_eq]; exact hv
  clear hv
  clear hg
  go_enter Tryd.func25, Tryd.ntmps25
  go_wp2_with (first | (go_at_call 46; refine (rmask_t _).mono ?_; rintro e w' ⟨rfl, rfl⟩) | (go_at_call 47; refine (rsign_any _ _ _).mono ?_; rintro e w' ⟨rfl, rfl⟩) | (go_at_call 27; refine (rFlags_any _ _ _).mono ?_; rintro e w' ⟨rfl, rfl⟩))
  go_ret2
  exact ⟨ret_pair rfl E.out, rfl⟩

set_option maxHeartbeats 400000 in
theorem rSub_t_001 (x y c : Int) (w : World) (hg : (neg true x == neg true y) = false) (hv : (neg true (subR true x y c) == neg true y) = false) (hc : x % 256 - y % 256 - c % 2 < 0) :
    Calls Tryd.prog 25 #[.int .i64 x, .int .i64 y, .int .i64 c, .bool true] w fun e w' => e = .returned (.tuple #[.int .i64 (subR true x y c), .int .i64 (subF true x y c)]) ∧ w = w' := by
  have A1 := and_255
  have A2 := and_1
  have E := hid (show cod (neg true ((x % 256 - y % 256 - c % 2) % 256)) (zer true ((x % 256 - y % 256 - c % 2) % 256)) false false + 1 = subF true x y c by
    have hc' : decide (subD true x y c < 0) = true := by show decide _ = _; simp only [decide_eq_true_eq]; simp only [subD, op] at *; simp at *; omega
    show _ = cod (neg true (subR true x y c)) (zer true (subR true x y c)) _ _
    rw [hg, hc']; rw [hv]
    exact codes_up _ _ _ _ _ (by simp; try rfl))
  have hb := cod_bd (neg true ((x % 256 - y % 256 - c % 2) % 256)) (zer true ((x % 256 - y % 256 - c % 2) % 256)) false false
  have G : (bit (neg true x) == bit (neg true y)) = false := by rw [bit_eq]; exact hg
  have G2 : (bit (neg true x) != bit (neg true y)) = true := by unfold bne; rw [G]; rfl
  have V : (bit (neg true ((x % 256 - y % 256 - c % 2) % 256)) == bit (neg true y)) = false := by rw [bit_eq]; exact hv
  clear hv
  clear hg
  go_enter Tryd.func25, Tryd.ntmps25
  go_wp2_with (first | (go_at_call 46; refine (rmask_t _).mono ?_; rintro e w' ⟨rfl, rfl⟩) | (go_at_call 47; refine (rsign_any _ _ _).mono ?_; rintro e w' ⟨rfl, rfl⟩) | (go_at_call 27; refine (rFlags_any _ _ _).mono ?_; rintro e w' ⟨rfl, rfl⟩))
  go_ret2
  exact ⟨ret_pair rfl E.out, rfl⟩

set_option maxHeartbeats 400000 in
theorem rSub_t_000 (x y c : Int) (w : World) (hg : (neg true x == neg true y) = false) (hv : (neg true (subR true x y c) == neg true y) = false) (hc : 0 ≤ x % 256 - y % 256 - c % 2) :
    Calls Tryd.prog 25 #[.int .i64 x, .int .i64 y, .int .i64 c, .bool true] w fun e w' => e = .returned (.tuple #[.int .i64 (subR true x y c), .int .i64 (subF true x y c)]) ∧ w = w' := by
  have A1 := and_255
  have A2 := and_1
  have E := hid (show cod (neg true ((x % 256 - y % 256 - c % 2) % 256)) (zer true ((x % 256 - y % 256 - c % 2) % 256)) false false = subF true x y c by
    have hc' : decide (subD true x y c < 0) = false := by show decide _ = _; simp only [decide_eq_false_iff_not]; simp only [subD, op] at *; simp at *; omega
    show _ = cod (neg true (subR true x y c)) (zer true (subR true x y c)) _ _
    rw [hg, hc']; rw [hv]
    exact codes_up _ _ _ _ _ (by simp; try rfl))
  have hb := cod_bd (neg true ((x % 256 - y % 256 - c % 2) % 256)) (zer true ((x % 256 - y % 256 - c % 2) % 256)) false false
  have G : (bit (neg true x) == bit (neg true y)) = false := by rw [bit_eq]; exact hg
  have G2 : (bit (neg true x) != bit (neg true y)) = true := by unfold bne; rw [G]; rfl
  have V : (bit (neg true ((x % 256 - y % 256 - c % 2) % 256)) == bit (neg true y)) = false := by rw [bit_eq]; exact hv
  clear hv
  clear hg
  go_enter Tryd.func25, Tryd.ntmps25
  go_wp2_with (first | (go_at_call 46; refine (rmask_t _).mono ?_; rintro e w' ⟨rfl, rfl⟩) | (go_at_call 47; refine (rsign_any _ _ _).mono ?_; rintro e w' ⟨rfl, rfl⟩) | (go_at_call 27; refine (rFlags_any _ _ _).mono ?_; rintro e w' ⟨rfl, rfl⟩))
  go_ret2
  exact ⟨ret_pair rfl E.out, rfl⟩

theorem rSub_any (b : Bool) (x y c : Int) (w : World) :
    Calls Tryd.prog 25 #[.int .i64 x, .int .i64 y, .int .i64 c, .bool b] w fun e w' => e = .returned (.tuple #[.int .i64 (subR b x y c), .int .i64 (subF b x y c)]) ∧ w = w' := by
  cases b
  · cases hg : (neg false x == neg false y)
    · cases hv : (neg false (subR false x y c) == neg false y)
      · (by_cases hc : x % 65536 - y % 65536 - c % 2 < 0; exact rSub_f_001 x y c w hg hv hc; exact rSub_f_000 x y c w hg hv (by omega))
      · (by_cases hc : x % 65536 - y % 65536 - c % 2 < 0; exact rSub_f_011 x y c w hg hv hc; exact rSub_f_010 x y c w hg hv (by omega))
    · (by_cases hc : x % 65536 - y % 65536 - c % 2 < 0; exact rSub_f_1x1 x y c w hg hc; exact rSub_f_1x0 x y c w hg (by omega))
  · cases hg : (neg true x == neg true y)
    · cases hv : (neg true (subR true x y c) == neg true y)
      · (by_cases hc : x % 256 - y % 256 - c % 2 < 0; exact rSub_t_001 x y c w hg hv hc; exact rSub_t_000 x y c w hg hv (by omega))
      · (by_cases hc : x % 256 - y % 256 - c % 2 < 0; exact rSub_t_011 x y c w hg hv hc; exact rSub_t_010 x y c w hg hv (by omega))
    · (by_cases hc : x % 256 - y % 256 - c % 2 < 0; exact rSub_t_1x1 x y c w hg hc; exact rSub_t_1x0 x y c w hg (by omega))

#print axioms rSub_any
end Go.Proofs.YtpimdbglmoopcaaDoor
