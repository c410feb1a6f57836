/-
  Walks over Add of the reference of layer 1. No condition beyond the tests on the way.
-/
import Derived.Test.YtpimdbglmoopcaaDoorRefA
namespace Go.Proofs.YtpimdbglmoopcaaDoor
open Go.RowKit

theorem ret_pair {a a' b b' : Int} (h : a = a') (h' : b = b') : Ending.returned (.tuple #[.int .i64 a, .int .i64 b]) = .returned (.tuple #[.int .i64 a', .int .i64 b']) := by rw [h, h']

set_option maxHeartbeats 400000 in
theorem rAdd_f_111 (x y c : Int) (w : World) (hg : (neg false x == neg false y) = true) (hv : (neg false (addR false x y c) == neg false x) = false) (hc : 65535 < x % 65536 + y % 65536 + c % 2) :
    Calls Tryd.prog 26 #[.int .i64 x, .int .i64 y, .int .i64 c, .bool false] w fun e w' => e = .returned (.tuple #[.int .i64 (addR false x y c), .int .i64 (addF false x y c)]) ∧ w = w' := by
  have A1 := and_65535
  have A2 := and_1
  have E := hid (show cod (neg false ((x % 65536 + y % 65536 + c % 2) % 65536)) (zer false ((x % 65536 + y % 65536 + c % 2) % 65536)) false false + 1 + 2 = addF false x y c by
    have hc' : decide (M false ≤ addD false x y c) = true := by show decide _ = _; simp only [decide_eq_true_eq]; simp only [addD, op, M] at *; simp at *; omega
    show _ = cod (neg false (addR false x y c)) (zer false (addR false x y c)) _ _
    rw [hg, hc']; rw [hv]
    exact codes_up _ _ _ _ _ (by simp; try rfl))
  have hb := cod_bd (neg false ((x % 65536 + y % 65536 + c % 2) % 65536)) (zer false ((x % 65536 + y % 65536 + c % 2) % 65536)) false false
  have G : (bit (neg false x) == bit (neg false y)) = true := by rw [bit_eq]; exact hg
  have V : (bit (neg false ((x % 65536 + y % 65536 + c % 2) % 65536)) == bit (neg false x)) = false := by rw [bit_eq]; exact hv
  clear hv
  clear hg
  go_enter Tryd.func26, Tryd.ntmps26
  go_wp2_with (first | (go_at_call 46; refine (rmask_f _).mono ?_; rintro e w' ⟨rfl, rfl⟩) | (go_at_call 47; refine (rsign_any _ _ _).mono ?_; rintro e w' ⟨rfl, rfl⟩) | (go_at_call 27; refine (rFlags_any _ _ _).mono ?_; rintro e w' ⟨rfl, rfl⟩))
  go_ret2
  exact ⟨ret_pair rfl E.out, rfl⟩

set_option maxHeartbeats 400000 in
theorem rAdd_f_110 (x y c : Int) (w : World) (hg : (neg false x == neg false y) = true) (hv : (neg false (addR false x y c) == neg false x) = false) (hc : x % 65536 + y % 65536 + c % 2 ≤ 65535) :
    Calls Tryd.prog 26 #[.int .i64 x, .int .i64 y, .int .i64 c, .bool false] w fun e w' => e = .returned (.tuple #[.int .i64 (addR false x y c), .int .i64 (addF false x y c)]) ∧ w = w' := by
  have A1 := and_65535
  have A2 := and_1
  have E := hid (show cod (neg false ((x % 65536 + y % 65536 + c % 2) % 65536)) (zer false ((x % 65536 + y % 65536 + c % 2) % 65536)) false false + 2 = addF false x y c by
    have hc' : decide (M false ≤ addD false x y c) = false := by show decide _ = _; simp only [decide_eq_false_iff_not]; simp only [addD, op, M] at *; simp at *; omega
    show _ = cod (neg false (addR false x y c)) (zer false (addR false x y c)) _ _
    rw [hg, hc']; rw [hv]
    exact codes_up _ _ _ _ _ (by simp; try rfl))
  have hb := cod_bd (neg false ((x % 65536 + y % 65536 + c % 2) % 65536)) (zer false ((x % 65536 + y % 65536 + c % 2) % 65536)) false false
  have G : (bit (neg false x) == bit (neg false y)) = true := by rw [bit_eq]; exact hg
  have V : (bit (neg false ((x % 65536 + y % 65536 + c % 2) % 65536)) == bit (neg false x)) = false := by rw [bit_eq]; exact hv
  clear hv
  clear hg
  go_enter Tryd.func26, Tryd.ntmps26
  go_wp2_with (first | (go_at_call 46; refine (rmask_f _).mono ?_; rintro e w' ⟨rfl, rfl⟩) | (go_at_call 47; refine (rsign_any _ _ _).mono ?_; rintro e w' ⟨rfl, rfl⟩) | (go_at_call 27; refine (rFlags_any _ _ _).mono ?_; rintro e w' ⟨rfl, rfl⟩))
  go_ret2
  exact ⟨ret_pair rfl E.out, rfl⟩

set_option maxHeartbeats 400000 in
theorem rAdd_f_101 (x y c : Int) (w : World) (hg : (neg false x == neg false y) = true) (hv : (neg false (addR false x y c) == neg false x) = true) (hc : 65535 < x % 65536 + y % 65536 + c % 2) :
    Calls Tryd.prog 26 #[.int .i64 x, .int .i64 y, .int .i64 c, .bool false] w fun e w' => e = .returned (.tuple #[.int .i64 (addR false x y c), .int .i64 (addF false x y c)]) ∧ w = w' := by
  have A1 := and_65535
  have A2 := and_1
  have E := hid (show cod (neg false ((x % 65536 + y % 65536 + c % 2) % 65536)) (zer false ((x % 65536 + y % 65536 + c % 2) % 65536)) false false + 1 = addF false x y c by
    have hc' : decide (M false ≤ addD false x y c) = true := by show decide _ = _; simp only [decide_eq_true_eq]; simp only [addD, op, M] at *; simp at *; omega
    show _ = cod (neg false (addR false x y c)) (zer false (addR false x y c)) _ _
    rw [hg, hc']; rw [hv]
    exact codes_up _ _ _ _ _ (by simp; try rfl))
  have hb := cod_bd (neg false ((x % 65536 + y % 65536 + c % 2) % 65536)) (zer false ((x % 65536 + y % 65536 + c % 2) % 65536)) false false
  have G : (bit (neg false x) == bit (neg false y)) = true := by rw [bit_eq]; exact hg
  have V : (bit (neg false ((x % 65536 + y % 65536 + c % 2) % 65536)) == bit (neg false x)) = true := by rw [bit_eq]; exact hv
  clear hv
  clear hg
  go_enter Tryd.func26, Tryd.ntmps26
  go_wp2_with (first | (go_at_call 46; refine (rmask_f _).mono ?_; rintro e w' ⟨rfl, rfl⟩) | (go_at_call 47; refine (rsign_any _ _ _).mono ?_; rintro e w' ⟨rfl, rfl⟩) | (go_at_call 27; refine (rFlags_any _ _ _).mono ?_; rintro e w' ⟨rfl, rfl⟩))
  go_ret2
  exact ⟨ret_pair rfl E.out, rfl⟩

set_option maxHeartbeats 400000 in
theorem rAdd_f_100 (x y c : Int) (w : World) (hg : (neg false x == neg false y) = true) (hv : (neg false (addR false x y c) == neg false x) = true) (hc : x % 65536 + y % 65536 + c % 2 ≤ 65535) :
    Calls Tryd.prog 26 #[.int .i64 x, .int .i64 y, .int .i64 c, .bool false] w fun e w' => e = .returned (.tuple #[.int .i64 (addR false x y c), .int .i64 (addF false x y c)]) ∧ w = w' := by
  have A1 := and_65535
  have A2 := and_1
  have E := hid (show cod (neg false ((x % 65536 + y % 65536 + c % 2) % 65536)) (zer false ((x % 65536 + y % 65536 + c % 2) % 65536)) false false = addF false x y c by
    have hc' : decide (M false ≤ addD false x y c) = false := by show decide _ = _; simp only [decide_eq_false_iff_not]; simp only [addD, op, M] at *; simp at *; omega
    show _ = cod (neg false (addR false x y c)) (zer false (addR false x y c)) _ _
    rw [hg, hc']; rw [hv]
    exact codes_up _ _ _ _ _ (by simp; try rfl))
  have hb := cod_bd (neg false ((x % 65536 + y % 65536 + c % 2) % 65536)) (zer false ((x % 65536 + y % 65536 + c % 2) % 65536)) false false
  have G : (bit (neg false x) == bit (neg false y)) = true := by rw [bit_eq]; exact hg
  have V : (bit (neg false ((x % 65536 + y % 65536 + c % 2) % 65536)) == bit (neg false x)) = true := by rw [bit_eq]; exact hv
  clear hv
  clear hg
  go_enter Tryd.func26, Tryd.ntmps26
  go_wp2_with (first | (go_at_call 46; refine (rmask_f _).mono ?_; rintro e w' ⟨rfl, rfl⟩) | (go_at_call 47; refine (rsign_any _ _ _).mono ?_; rintro e w' ⟨rfl, rfl⟩) | (go_at_call 27; refine (rFlags_any _ _ _).mono ?_; rintro e w' ⟨rfl, rfl⟩))
  go_ret2
  exact ⟨ret_pair rfl E.out, rfl⟩

set_option maxHeartbeats 400000 in
theorem rAdd_f_0x1 (x y c : Int) (w : World) (hg : (neg false x == neg false y) = false) (hc : 65535 < x % 65536 + y % 65536 + c % 2) :
    Calls Tryd.prog 26 #[.int .i64 x, .int .i64 y, .int .i64 c, .bool false] w fun e w' => e = .returned (.tuple #[.int .i64 (addR false x y c), .int .i64 (addF false x y c)]) ∧ w = w' := by
  have A1 := and_65535
  have A2 := and_1
  have E := hid (show cod (neg false ((x % 65536 + y % 65536 + c % 2) % 65536)) (zer false ((x % 65536 + y % 65536 + c % 2) % 65536)) false false + 1 = addF false x y c by
    have hc' : decide (M false ≤ addD false x y c) = true := by show decide _ = _; simp only [decide_eq_true_eq]; simp only [addD, op, M] at *; simp at *; omega
    show _ = cod (neg false (addR false x y c)) (zer false (addR false x y c)) _ _
    rw [hg, hc']
    exact codes_up _ _ _ _ _ (by simp; try rfl))
  have hb := cod_bd (neg false ((x % 65536 + y % 65536 + c % 2) % 65536)) (zer false ((x % 65536 + y % 65536 + c % 2) % 65536)) false false
  have G : (bit (neg false x) == bit (neg false y)) = false := by rw [bit_eq]; exact hg
  clear hg
  go_enter Tryd.func26, Tryd.ntmps26
  go_wp2_with (first | (go_at_call 46; refine (rmask_f _).mono ?_; rintro e w' ⟨rfl, rfl⟩) | (go_at_call 47; refine (rsign_any _ _ _).mono ?_; rintro e w' ⟨rfl, rfl⟩) | (go_at_call 27; refine (rFlags_any _ _ _).mono ?_; rintro e w' ⟨rfl, rfl⟩))
  go_ret2
  exact ⟨ret_pair rfl E.out, rfl⟩

set_option maxHeartbeats 400000 in
theorem rAdd_f_0x0 (x y c : Int) (w : World) (hg : (neg false x == neg false y) = false) (hc : x % 65536 + y % 65536 + c % 2 ≤ 65535) :
    Calls Tryd.prog 26 #[.int .i64 x, .int .i64 y, .int .i64 c, .bool false] w fun e w' => e = .returned (.tuple #[.int .i64 (addR false x y c), .int .i64 (addF false x y c)]) ∧ w = w' := by
  have A1 := and_65535
  have A2 := and_1
  have E := hid (show cod (neg false ((x % 65536 + y % 65536 + c % 2) % 65536)) (zer false ((x % 65536 + y % 65536 + c % 2) % 65536)) false false = addF false x y c by
    have hc' : decide (M false ≤ addD false x y c) = false := by show decide _ = _; simp only [decide_eq_false_iff_not]; simp only [addD, op, M] at *; simp at *; omega
    show _ = cod (neg false (addR false x y c)) (zer false (addR false x y c)) _ _
    rw [hg, hc']
    exact codes_up _ _ _ _ _ (by simp; try rfl))
  have hb := cod_bd (neg false ((x % 65536 + y % 65536 + c % 2) % 65536)) (zer false ((x % 65536 + y % 65536 + c % 2) % 65536)) false false
  have G : (bit (neg false x) == bit (neg false y)) = false := by rw [bit_eq]; exact hg
  clear hg
  go_enter Tryd.func26, Tryd.ntmps26
  go_wp2_with (first | (go_at_call 46; refine (rmask_f _).mono ?_; rintro e w' ⟨rfl, rfl⟩) | (go_at_call 47; refine (rsign_any _ _ _).mono ?_; rintro e w' ⟨rfl, rfl⟩) | (go_at_call 27; refine (rFlags_any _ _ _).mono ?_; rintro e w' ⟨rfl, rfl⟩))
  go_ret2
  exact ⟨ret_pair rfl E.out, rfl⟩

set_option maxHeartbeats 400000 in
theorem rAdd_t_111 (x y c : Int) (w : World) (hg : (neg true x == neg true y) = true) (hv : (neg true (addR true x y c) == neg true x) = false) (hc : 255 < x % 256 + y % 256 + c % 2) :
    Calls Tryd.prog 26 #[.int .i64 x, .int .i64 y, .int .i64 c, .bool true] w fun e w' => e = .returned (.tuple #[.int .i64 (addR true x y c), .int .i64 (addF true x y c)]) ∧ w = w' := by
  have A1 := and_255
  have A2 := and_1
  have E := hid (show cod (neg true ((x % 256 + y % 256 + c % 2) % 256)) (zer true ((x % 256 + y % 256 + c % 2) % 256)) false false + 1 + 2 = addF true x y c by
    have hc' : decide (M true ≤ addD true x y c) = true := by show decide _ = _; simp only [decide_eq_true_eq]; simp only [addD, op, M] at *; simp at *; omega
    show _ = cod (neg true (addR true x y c)) (zer true (addR true x y c)) _ _
    rw [hg, hc']; rw [hv]
    exact codes_up _ _ _ _ _ (by simp; try rfl))
  have hb := cod_bd (neg true ((x % 256 + y % 256 + c % 2) % 256)) (zer true ((x % 256 + y % 256 + c % 2) % 256)) false false
  have G : (bit (neg true x) == bit (neg true y)) = true := by rw [bit_eq]; exact hg
  have V : (bit (neg true ((x % 256 + y % 256 + c % 2) % 256)) == bit (neg true x)) = false := by rw [bit_eq]; exact hv
  clear hv
  clear hg
  go_enter Tryd.func26, Tryd.ntmps26
  go_wp2_with (first | (go_at_call 46; refine (rmask_t _).mono ?_; rintro e w' ⟨rfl, rfl⟩) | (go_at_call 47; refine (rsign_any _ _ _).mono ?_; rintro e w' ⟨rfl, rfl⟩) | (go_at_call 27; refine (rFlags_any _ _ _).mono ?_; rintro e w' ⟨rfl, rfl⟩))
  go_ret2
  exact ⟨ret_pair rfl E.out, rfl⟩

set_option maxHeartbeats 400000 in
theorem rAdd_t_110 (x y c : Int) (w : World) (hg : (neg true x == neg true y) = true) (hv : (neg true (addR true x y c) == neg true x) = false) (hc : x % 256 + y % 256 + c % 2 ≤ 255) :
    Calls Tryd.prog 26 #[.int .i64 x, .int .i64 y, .int .i64 c, .bool true] w fun e w' => e = .returned (.tuple #[.int .i64 (addR true x y c), .int .i64 (addF true x y c)]) ∧ w = w' := by
  have A1 := and_255
  have A2 := and_1
  have E := hid (show cod (neg true ((x % 256 + y % 256 + c % 2) % 256)) (zer true ((x % 256 + y % 256 + c % 2) % 256)) false false + 2 = addF true x y c by
    have hc' : decide (M true ≤ addD true x y c) = false := by show decide _ = _; simp only [decide_eq_false_iff_not]; simp only [addD, op, M] at *; simp at *; omega
    show _ = cod (neg true (addR true x y c)) (zer true (addR true x y c)) _ _
    rw [hg, hc']; rw [hv]
    exact codes_up _ _ _ _ _ (by simp; try rfl))
  have hb := cod_bd (neg true ((x % 256 + y % 256 + c % 2) % 256)) (zer true ((x % 256 + y % 256 + c % 2) % 256)) false false
  have G : (bit (neg true x) == bit (neg true y)) = true := by rw [bit_eq]; exact hg
  have V : (bit (neg true ((x % 256 + y % 256 + c % 2) % 256)) == bit (neg true x)) = false := by rw [bit_eq]; exact hv
  clear hv
  clear hg
  go_enter Tryd.func26, Tryd.ntmps26
  go_wp2_with (first | (go_at_call 46; refine (rmask_t _).mono ?_; rintro e w' ⟨rfl, rfl⟩) | (go_at_call 47; refine (rsign_any _ _ _).mono ?_; rintro e w' ⟨rfl, rfl⟩) | (go_at_call 27; refine (rFlags_any _ _ _).mono ?_; rintro e w' ⟨rfl, rfl⟩))
  go_ret2
  exact ⟨ret_pair rfl E.out, rfl⟩

set_option maxHeartbeats 400000 in
theorem rAdd_t_101 (x y c : Int) (w : World) (hg : (neg true x == neg true y) = true) (hv : (neg true (addR true x y c) == neg true x) = true) (hc : 255 < x % 256 + y % 256 + c % 2) :
    Calls Tryd.prog 26 #[.int .i64 x, .int .i64 y, .int .i64 c, .bool true] w fun e w' => e = .returned (.tuple #[.int .i64 (addR true x y c), .int .i64 (addF true x y c)]) ∧ w = w' := by
  have A1 := and_255
  have A2 := and_1
  have E := hid (show cod (neg true ((x % 256 + y % 256 + c % 2) % 256)) (zer true ((x % 256 + y % 256 + c % 2) % 256)) false false + 1 = addF true x y c by
    have hc' : decide (M true ≤ addD true x y c) = true := by show decide _ = _; simp only [decide_eq_true_eq]; simp only [addD, op, M] at *; simp at *; omega
    show _ = cod (neg true (addR true x y c)) (zer true (addR true x y c)) _ _
    rw [hg, hc']; rw [hv]
    exact codes_up _ _ _ _ _ (by simp; try rfl))
  have hb := cod_bd (neg true ((x % 256 + y % 256 + c % 2) % 256)) (zer true ((x % 256 + y % 256 + c % 2) % 256)) false false
  have G : (bit (neg true x) == bit (neg true y)) = true := by rw [bit_eq]; exact hg
  have V : (bit (neg true ((x % 256 + y % 256 + c % 2) % 256)) == bit (neg true x)) = true := by rw [bit_eq]; exact hv
  clear hv
  clear hg
  go_enter Tryd.func26, Tryd.ntmps26
  go_wp2_with (first | (go_at_call 46; refine (rmask_t _).mono ?_; rintro e w' ⟨rfl, rfl⟩) | (go_at_call 47; refine (rsign_any _ _ _).mono ?_; rintro e w' ⟨rfl, rfl⟩) | (go_at_call 27; refine (rFlags_any _ _ _).mono ?_; rintro e w' ⟨rfl, rfl⟩))
  go_ret2
  exact ⟨ret_pair rfl E.out, rfl⟩

set_option maxHeartbeats 400000 in
theorem rAdd_t_100 (x y c : Int) (w : World) (hg : (neg true x == neg true y) = true) (hv : (neg true (addR true x y c) == neg true x) = true) (hc : x % 256 + y % 256 + c % 2 ≤ 255) :
    Calls Tryd.prog 26 #[.int .i64 x, .int .i64 y, .int .i64 c, .bool true] w fun e w' => e = .returned (.tuple #[.int .i64 (addR true x y c), .int .i64 (addF true x y c)]) ∧ w = w' := by
  have A1 := and_255
  have A2 := and_1
  have E := hid (show cod (neg true ((x % 256 + y % 256 + c % 2) % 256)) (zer true ((x % 256 + y % 256 + c % 2) % 256)) false false = addF true x y c by
    have hc' : decide (M true ≤ addD true x y c) = false := by show decide _ = _; simp only [decide_eq_false_iff_not]; simp only [addD, op, M] at *; simp at *; omega
    show _ = cod (neg true (addR true x y c)) (zer true (addR true x y c)) _ _
    rw [hg, hc']; rw [hv]
    exact codes_up _ _ _ _ _ (by simp; try rfl))
  have hb := cod_bd (neg true ((x % 256 + y % 256 + c % 2) % 256)) (zer true ((x % 256 + y % 256 + c % 2) % 256)) false false
  have G : (bit (neg true x) == bit (neg true y)) = true := by rw [bit_eq]; exact hg
  have V : (bit (neg true ((x % 256 + y % 256 + c % 2) % 256)) == bit (neg true x)) = true := by rw [bit_eq]; exact hv
  clear hv
  clear hg
  go_enter Tryd.func26, Tryd.ntmps26
  go_wp2_with (first | (go_at_call 46; refine (rmask_t _).mono ?_; rintro e w' ⟨rfl, rfl⟩) | (go_at_call 47; refine (rsign_any _ _ _).mono ?_; rintro e w' ⟨rfl, rfl⟩) | (go_at_call 27; refine (rFlags_any _ _ _).mono ?_; rintro e w' ⟨rfl, rfl⟩))
  go_ret2
  exact ⟨ret_pair rfl E.out, rfl⟩

set_option maxHeartbeats 400000 in
theorem rAdd_t_0x1 (x y c : Int) (w : World) (hg : (neg true x == neg true y) = false) (hc : 255 < x % 256 + y % 256 + c % 2) :
    Calls Tryd.prog 26 #[.int .i64 x, .int .i64 y, .int .i64 c, .bool true] w fun e w' => e = .returned (.tuple #[.int .i64 (addR true x y c), .int .i64 (addF true x y c)]) ∧ w = w' := by
  have A1 := and_255
  have A2 := and_1
  have E := hid (show cod (neg true ((x % 256 + y % 256 + c % 2) % 256)) (zer true ((x % 256 + y % 256 + c % 2) % 256)) false false + 1 = addF true x y c by
    have hc' : decide (M true ≤ addD true x y c) = true := by show decide _ = _; simp only [decide_eq_true_eq]; simp only [addD, op, M] at *; simp at *; omega
    show _ = cod (neg true (addR true x y c)) (zer true (addR true x y c)) _ _
    rw [hg, hc']
    exact codes_up _ _ _ _ _ (by simp; try rfl))
  have hb := cod_bd (neg true ((x % 256 + y % 256 + c % 2) % 256)) (zer true ((x % 256 + y % 256 + c % 2) % 256)) false false
  have G : (bit (neg true x) == bit (neg true y)) = false := by rw [bit_eq]; exact hg
  clear hg
  go_enter Tryd.func26, Tryd.ntmps26
  go_wp2_with (first | (go_at_call 46; refine (rmask_t _).mono ?_; rintro e w' ⟨rfl, rfl⟩) | (go_at_call 47; refine (rsign_any _ _ _).mono ?_; rintro e w' ⟨rfl, rfl⟩) | (go_at_call 27; refine (rFlags_any _ _ _).mono ?_; rintro e w' ⟨rfl, rfl⟩))
  go_ret2
  exact ⟨ret_pair rfl E.out, rfl⟩

set_option maxHeartbeats 400000 in
theorem rAdd_t_0x0 (x y c : Int) (w : World) (hg : (neg true x == neg true y) = false) (hc : x % 256 + y % 256 + c % 2 ≤ 255) :
    Calls Tryd.prog 26 #[.int .i64 x, .int .i64 y, .int .i64 c, .bool true] w fun e w' => e = .returned (.tuple #[.int .i64 (addR true x y c), .int .i64 (addF true x y c)]) ∧ w = w' := by
  have A1 := and_255
  have A2 := and_1
  have E := hid (show cod (neg true ((x % 256 + y % 256 + c % 2) % 256)) (zer true ((x % 256 + y % 256 + c % 2) % 256)) false false = addF true x y c by
    have hc' : decide (M true ≤ addD true x y c) = false := by show decide _ = _; simp only [decide_eq_false_iff_not]; simp only [addD, op, M] at *; simp at *; omega
    show _ = cod (neg true (addR true x y c)) (zer true (addR true x y c)) _ _
    rw [hg, hc']
    exact codes_up _ _ _ _ _ (by simp; try rfl))
  have hb := cod_bd (neg true ((x % 256 + y % 256 + c % 2) % 256)) (zer true ((x % 256 + y % 256 + c % 2) % 256)) false false
  have G : (bit (neg true x) == bit (neg true y)) = false := by rw [bit_eq]; exact hg
  clear hg
  go_enter Tryd.func26, Tryd.ntmps26
  go_wp2_with (first | (go_at_call 46; refine (rmask_t _).mono ?_; rintro e w' ⟨rfl, rfl⟩) | (go_at_call 47; refine (rsign_any _ _ _).mono ?_; rintro e w' ⟨rfl, rfl⟩) | (go_at_call 27; refine (rFlags_any _ _ _).mono ?_; rintro e w' ⟨rfl, rfl⟩))
  go_ret2
  exact ⟨ret_pair rfl E.out, rfl⟩

theorem rAdd_any (b : Bool) (x y c : Int) (w : World) :
    Calls Tryd.prog 26 #[.int .i64 x, .int .i64 y, .int .i64 c, .bool b] w fun e w' => e = .returned (.tuple #[.int .i64 (addR b x y c), .int .i64 (addF b x y c)]) ∧ w = w' := by
  cases b
  · cases hg : (neg false x == neg false y)
    · (by_cases hc : 65535 < x % 65536 + y % 65536 + c % 2; exact rAdd_f_0x1 x y c w hg hc; exact rAdd_f_0x0 x y c w hg (by omega))
    · cases hv : (neg false (addR false x y c) == neg false x)
      · (by_cases hc : 65535 < x % 65536 + y % 65536 + c % 2; exact rAdd_f_111 x y c w hg hv hc; exact rAdd_f_110 x y c w hg hv (by omega))
      · (by_cases hc : 65535 < x % 65536 + y % 65536 + c % 2; exact rAdd_f_101 x y c w hg hv hc; exact rAdd_f_100 x y c w hg hv (by omega))
  · cases hg : (neg true x == neg true y)
    · (by_cases hc : 255 < x % 256 + y % 256 + c % 2; exact rAdd_t_0x1 x y c w hg hc; exact rAdd_t_0x0 x y c w hg (by omega))
    · cases hv : (neg true (addR true x y c) == neg true x)
      · (by_cases hc : 255 < x % 256 + y % 256 + c % 2; exact rAdd_t_111 x y c w hg hv hc; exact rAdd_t_110 x y c w hg hv (by omega))
      · (by_cases hc : 255 < x % 256 + y % 256 + c % 2; exact rAdd_t_101 x y c w hg hv hc; exact rAdd_t_100 x y c w hg hv (by omega))

#print axioms rAdd_any
end Go.Proofs.YtpimdbglmoopcaaDoor
