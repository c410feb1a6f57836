/-
  What Mul, Div and Shift of the reference of layer 1 return. No condition.
-/
import Derived.Test.YtpimdbglmoopcaaDoorRefC
import Derived.Test.YtpimdbglmoopcaaDoorPlainB
namespace Go.Proofs.YtpimdbglmoopcaaDoor
open Go.RowKit

theorem ret_3 {a a' b b' c c' : Int} (h : a = a') (h' : b = b') (h'' : c = c') : Ending.returned (.tuple #[.int .i64 a, .int .i64 b, .int .i64 c]) = .returned (.tuple #[.int .i64 a', .int .i64 b', .int .i64 c']) := by rw [h, h', h'']

set_option maxHeartbeats 400000 in
theorem rMul_a (a b : Int) (w : World) (h : mulP a b < -32768) :
    Calls Tryd.prog 39 #[.int .i64 a, .int .i64 b] w fun e w' => e = .returned (.tuple #[.int .i64 (mulH a b), .int .i64 (mulL a b), .int .i64 (mulF a b)]) ∧ w = w' := by
  have hp := mul_bd a b
  have E := hid (show 9 = mulF a b by
    unfold mulF fit cod
    have hn : mulP a b < 0 := by omega
    have hz : ¬ mulP a b = 0 := by omega
    have hf : ¬ (-32768 ≤ mulP a b ∧ mulP a b ≤ 32767) := by omega
    rw [decide_eq_true hn, decide_eq_false hz, decide_eq_false hf]; rfl)
  have h1 : (sg false a * sg false b == 0) = false := by have : mulP a b ≠ 0 := (by omega); simpa [mulP] using this
  unfold mulP at h
  unfold mulP at hp
  go_enter Tryd.func39, Tryd.ntmps39
  go_wp2_with (first | (go_at_call 54; refine (rSigned_any _ _).mono ?_; rintro e w' ⟨rfl, rfl⟩) | (go_at_call 55; refine (rWrap_any _ _).mono ?_; rintro e w' ⟨rfl, rfl⟩) | (go_at_call 47; refine (rsign_any _ _ _).mono ?_; rintro e w' ⟨rfl, rfl⟩) | (go_at_call 27; refine (rFlags_any _ _ _).mono ?_; rintro e w' ⟨rfl, rfl⟩))
  go_ret3
  exact ⟨ret_3 rfl rfl E.out, rfl⟩

set_option maxHeartbeats 400000 in
theorem rMul_b (a b : Int) (w : World) (h : -32768 ≤ mulP a b ∧ mulP a b < 0) :
    Calls Tryd.prog 39 #[.int .i64 a, .int .i64 b] w fun e w' => e = .returned (.tuple #[.int .i64 (mulH a b), .int .i64 (mulL a b), .int .i64 (mulF a b)]) ∧ w = w' := by
  have hp := mul_bd a b
  have E := hid (show 8 = mulF a b by
    unfold mulF fit cod
    have hn : mulP a b < 0 := by omega
    have hz : ¬ mulP a b = 0 := by omega
    have hf : -32768 ≤ mulP a b ∧ mulP a b ≤ 32767 := by omega
    rw [decide_eq_true hn, decide_eq_false hz, decide_eq_true hf]; rfl)
  have h1 : (sg false a * sg false b == 0) = false := by have : mulP a b ≠ 0 := (by omega); simpa [mulP] using this
  unfold mulP at h
  unfold mulP at hp
  go_enter Tryd.func39, Tryd.ntmps39
  go_wp2_with (first | (go_at_call 54; refine (rSigned_any _ _).mono ?_; rintro e w' ⟨rfl, rfl⟩) | (go_at_call 55; refine (rWrap_any _ _).mono ?_; rintro e w' ⟨rfl, rfl⟩) | (go_at_call 47; refine (rsign_any _ _ _).mono ?_; rintro e w' ⟨rfl, rfl⟩) | (go_at_call 27; refine (rFlags_any _ _ _).mono ?_; rintro e w' ⟨rfl, rfl⟩))
  go_ret3
  exact ⟨ret_3 rfl rfl E.out, rfl⟩

set_option maxHeartbeats 400000 in
theorem rMul_c (a b : Int) (w : World) (h : mulP a b = 0) :
    Calls Tryd.prog 39 #[.int .i64 a, .int .i64 b] w fun e w' => e = .returned (.tuple #[.int .i64 (mulH a b), .int .i64 (mulL a b), .int .i64 (mulF a b)]) ∧ w = w' := by
  have hp := mul_bd a b
  have E := hid (show 4 = mulF a b by
    unfold mulF fit cod
    have hn : ¬ mulP a b < 0 := by omega
    have hz : mulP a b = 0 := h
    have hf : -32768 ≤ mulP a b ∧ mulP a b ≤ 32767 := by omega
    rw [decide_eq_false hn, decide_eq_true hz, decide_eq_true hf]; rfl)
  have h1 : (sg false a * sg false b == 0) = true := by simpa [mulP] using h
  have h2 : -1 < sg false a * sg false b ∧ sg false a * sg false b < 1 := by unfold mulP at h; omega
  clear h
  unfold mulP at hp
  go_enter Tryd.func39, Tryd.ntmps39
  go_wp2_with (first | (go_at_call 54; refine (rSigned_any _ _).mono ?_; rintro e w' ⟨rfl, rfl⟩) | (go_at_call 55; refine (rWrap_any _ _).mono ?_; rintro e w' ⟨rfl, rfl⟩) | (go_at_call 47; refine (rsign_any _ _ _).mono ?_; rintro e w' ⟨rfl, rfl⟩) | (go_at_call 27; refine (rFlags_any _ _ _).mono ?_; rintro e w' ⟨rfl, rfl⟩))
  go_ret3
  exact ⟨ret_3 rfl rfl E.out, rfl⟩

set_option maxHeartbeats 400000 in
theorem rMul_d (a b : Int) (w : World) (h : 0 < mulP a b ∧ mulP a b ≤ 32767) :
    Calls Tryd.prog 39 #[.int .i64 a, .int .i64 b] w fun e w' => e = .returned (.tuple #[.int .i64 (mulH a b), .int .i64 (mulL a b), .int .i64 (mulF a b)]) ∧ w = w' := by
  have hp := mul_bd a b
  have E := hid (show 0 = mulF a b by
    unfold mulF fit cod
    have hn : ¬ mulP a b < 0 := by omega
    have hz : ¬ mulP a b = 0 := by omega
    have hf : -32768 ≤ mulP a b ∧ mulP a b ≤ 32767 := by omega
    rw [decide_eq_false hn, decide_eq_false hz, decide_eq_true hf]; rfl)
  have h1 : (sg false a * sg false b == 0) = false := by have : mulP a b ≠ 0 := (by omega); simpa [mulP] using this
  unfold mulP at h
  unfold mulP at hp
  go_enter Tryd.func39, Tryd.ntmps39
  go_wp2_with (first | (go_at_call 54; refine (rSigned_any _ _).mono ?_; rintro e w' ⟨rfl, rfl⟩) | (go_at_call 55; refine (rWrap_any _ _).mono ?_; rintro e w' ⟨rfl, rfl⟩) | (go_at_call 47; refine (rsign_any _ _ _).mono ?_; rintro e w' ⟨rfl, rfl⟩) | (go_at_call 27; refine (rFlags_any _ _ _).mono ?_; rintro e w' ⟨rfl, rfl⟩))
  go_ret3
  exact ⟨ret_3 rfl rfl E.out, rfl⟩

set_option maxHeartbeats 400000 in
theorem rMul_e (a b : Int) (w : World) (h : 32767 < mulP a b) :
    Calls Tryd.prog 39 #[.int .i64 a, .int .i64 b] w fun e w' => e = .returned (.tuple #[.int .i64 (mulH a b), .int .i64 (mulL a b), .int .i64 (mulF a b)]) ∧ w = w' := by
  have hp := mul_bd a b
  have E := hid (show 1 = mulF a b by
    unfold mulF fit cod
    have hn : ¬ mulP a b < 0 := by omega
    have hz : ¬ mulP a b = 0 := by omega
    have hf : ¬ (-32768 ≤ mulP a b ∧ mulP a b ≤ 32767) := by omega
    rw [decide_eq_false hn, decide_eq_false hz, decide_eq_false hf]; rfl)
  have h1 : (sg false a * sg false b == 0) = false := by have : mulP a b ≠ 0 := (by omega); simpa [mulP] using this
  unfold mulP at h
  unfold mulP at hp
  go_enter Tryd.func39, Tryd.ntmps39
  go_wp2_with (first | (go_at_call 54; refine (rSigned_any _ _).mono ?_; rintro e w' ⟨rfl, rfl⟩) | (go_at_call 55; refine (rWrap_any _ _).mono ?_; rintro e w' ⟨rfl, rfl⟩) | (go_at_call 47; refine (rsign_any _ _ _).mono ?_; rintro e w' ⟨rfl, rfl⟩) | (go_at_call 27; refine (rFlags_any _ _ _).mono ?_; rintro e w' ⟨rfl, rfl⟩))
  go_ret3
  exact ⟨ret_3 rfl rfl E.out, rfl⟩

theorem rMul_any (a b : Int) (w : World) :
    Calls Tryd.prog 39 #[.int .i64 a, .int .i64 b] w fun e w' => e = .returned (.tuple #[.int .i64 (mulH a b), .int .i64 (mulL a b), .int .i64 (mulF a b)]) ∧ w = w' := by
  by_cases h1 : mulP a b < -32768
  · exact rMul_a a b w h1
  · by_cases h2 : mulP a b < 0
    · exact rMul_b a b w ⟨by omega, h2⟩
    · by_cases h3 : mulP a b = 0
      · exact rMul_c a b w h3
      · by_cases h4 : mulP a b ≤ 32767
        · exact rMul_d a b w ⟨by omega, h4⟩
        · exact rMul_e a b w (by omega)

def Rour (a b c : Int) (d : Bool) : Ending := .returned (.tuple #[.int .i64 a, .int .i64 b, .int .i64 c, .bool d])

set_option maxHeartbeats 1000000 in
theorem rDiv_0 (a b c : Int) (w : World) (h : sg false c = 0) :
    Calls Tryd.prog 40 #[.int .i64 a, .int .i64 b, .int .i64 c] w fun e w' => e = Rour 0 0 3 false ∧ w = w' := by
  have hs := sg_bd a
  have h0 : (sg false c == 0) = true := by simpa using h
  clear h
  go_enter Tryd.func40, Tryd.ntmps40
  go_wp2_with (first | (go_at_call 54; refine (rSigned_any _ _).mono ?_; rintro e w' ⟨rfl, rfl⟩) | (go_at_call 55; refine (rWrap_any _ _).mono ?_; rintro e w' ⟨rfl, rfl⟩) | (go_at_call 47; refine (rsign_any _ _ _).mono ?_; rintro e w' ⟨rfl, rfl⟩) | (go_at_call 27; refine (rFlags_any _ _ _).mono ?_; rintro e w' ⟨rfl, rfl⟩))
  refine bodyPost_ret (v := .tuple #[.int .i64 0, .int .i64 0, .int .i64 3, .bool false]) (by simp [results, Tryd.results40, go_sem]) rfl ⟨rfl, rfl⟩

set_option maxHeartbeats 1000000 in
theorem rDiv_l (a b c : Int) (w : World) (h : sg false c ≠ 0) (hf : divQ a b c < -32768) :
    Calls Tryd.prog 40 #[.int .i64 a, .int .i64 b, .int .i64 c] w fun e w' => e = Rour 0 0 2 false ∧ w = w' := by
  have hs := sg_bd a
  have hn := divN_bd a b
  have hq := divQ_bd a b c
  have hm := divM_bd a b c h
  have hr := divR_eq a b c
  unfold divQ at hf hq hm hr
  unfold divN at hf hn hq hm hr
  have h0 : (sg false c == 0) = false := by simpa using h
  go_enter Tryd.func40, Tryd.ntmps40
  go_wp2_with (first | (go_at_call 54; refine (rSigned_any _ _).mono ?_; rintro e w' ⟨rfl, rfl⟩) | (go_at_call 55; refine (rWrap_any _ _).mono ?_; rintro e w' ⟨rfl, rfl⟩) | (go_at_call 47; refine (rsign_any _ _ _).mono ?_; rintro e w' ⟨rfl, rfl⟩) | (go_at_call 27; refine (rFlags_any _ _ _).mono ?_; rintro e w' ⟨rfl, rfl⟩))
  refine bodyPost_ret (v := .tuple #[.int .i64 0, .int .i64 0, .int .i64 2, .bool false]) (by simp [results, Tryd.results40, go_sem]) rfl ⟨rfl, rfl⟩

set_option maxHeartbeats 1000000 in
theorem rDiv_h (a b c : Int) (w : World) (h : sg false c ≠ 0) (hf : 32767 < divQ a b c) :
    Calls Tryd.prog 40 #[.int .i64 a, .int .i64 b, .int .i64 c] w fun e w' => e = Rour 0 0 2 false ∧ w = w' := by
  have hs := sg_bd a
  have hn := divN_bd a b
  have hq := divQ_bd a b c
  have hm := divM_bd a b c h
  have hr := divR_eq a b c
  unfold divQ at hf hq hm hr
  unfold divN at hf hn hq hm hr
  have h0 : (sg false c == 0) = false := by simpa using h
  go_enter Tryd.func40, Tryd.ntmps40
  go_wp2_with (first | (go_at_call 54; refine (rSigned_any _ _).mono ?_; rintro e w' ⟨rfl, rfl⟩) | (go_at_call 55; refine (rWrap_any _ _).mono ?_; rintro e w' ⟨rfl, rfl⟩) | (go_at_call 47; refine (rsign_any _ _ _).mono ?_; rintro e w' ⟨rfl, rfl⟩) | (go_at_call 27; refine (rFlags_any _ _ _).mono ?_; rintro e w' ⟨rfl, rfl⟩))
  refine bodyPost_ret (v := .tuple #[.int .i64 0, .int .i64 0, .int .i64 2, .bool false]) (by simp [results, Tryd.results40, go_sem]) rfl ⟨rfl, rfl⟩

set_option maxHeartbeats 1000000 in
theorem rDiv_1 (a b c : Int) (w : World) (h : sg false c ≠ 0) (hf : -32768 ≤ divQ a b c ∧ divQ a b c ≤ 32767) :
    Calls Tryd.prog 40 #[.int .i64 a, .int .i64 b, .int .i64 c] w fun e w' => e = Rour (divQ a b c % 65536) (divR a b c % 65536) (cod (neg false (divQ a b c)) (zer false (divQ a b c)) false false) true ∧ w = w' := by
  have hs := sg_bd a
  have hn := divN_bd a b
  have hq := divQ_bd a b c
  have hm := divM_bd a b c h
  have hr := divR_eq a b c
  unfold divQ at hf hq hm hr
  unfold divN at hf hn hq hm hr
  have h0 : (sg false c == 0) = false := by simpa using h
  go_enter Tryd.func40, Tryd.ntmps40
  go_wp2_with (first | (go_at_call 54; refine (rSigned_any _ _).mono ?_; rintro e w' ⟨rfl, rfl⟩) | (go_at_call 55; refine (rWrap_any _ _).mono ?_; rintro e w' ⟨rfl, rfl⟩) | (go_at_call 47; refine (rsign_any _ _ _).mono ?_; rintro e w' ⟨rfl, rfl⟩) | (go_at_call 27; refine (rFlags_any _ _ _).mono ?_; rintro e w' ⟨rfl, rfl⟩))
  refine bodyPost_ret (v := .tuple #[.int .i64 (divQ a b c % 65536), .int .i64 (divR a b c % 65536), .int .i64 (cod (neg false (divQ a b c)) (zer false (divQ a b c)) false false), .bool true]) (by simp [results, Tryd.results40, go_sem, divQ, divN]) rfl ⟨rfl, rfl⟩

theorem rDiv_any (a b c : Int) (w : World) :
    Calls Tryd.prog 40 #[.int .i64 a, .int .i64 b, .int .i64 c] w fun e w' => e = Rour (dvQ a b c) (dvR a b c) (dvF a b c) (dvW a b c) ∧ w = w' := by
  by_cases h : sg false c = 0
  · have e1 : dvW a b c = false := by simp [dvW, h]
    have e2 : dvQ a b c = 0 := by simp [dvQ, e1]
    have e3 : dvR a b c = 0 := by simp [dvR, e1]
    have e4 : dvF a b c = 3 := by simp [dvF, h]
    rw [e1, e2, e3, e4]
    exact rDiv_0 a b c w h
  · cases hf : fit (divQ a b c)
    · have e1 : dvW a b c = false := by simp [dvW, hf]
      have e2 : dvQ a b c = 0 := by simp [dvQ, e1]
      have e3 : dvR a b c = 0 := by simp [dvR, e1]
      have e4 : dvF a b c = 2 := by simp [dvF, h, e1]
      rw [e1, e2, e3, e4]
      have hf' := of_decide_eq_false hf
      by_cases hl : divQ a b c < -32768
      · exact rDiv_l a b c w h hl
      · exact rDiv_h a b c w h (by omega)
    · have e1 : dvW a b c = true := by simp [dvW, hf, h]
      have e2 : dvQ a b c = divQ a b c % 65536 := by simp [dvQ, e1]
      have e3 : dvR a b c = divR a b c % 65536 := by simp [dvR, e1]
      have e4 : dvF a b c = cod (neg false (divQ a b c)) (zer false (divQ a b c)) false false := by simp [dvF, h, e1]
      rw [e1, e2, e3, e4]
      exact rDiv_1 a b c w h (of_decide_eq_true hf)

#print axioms rDiv_any
end Go.Proofs.YtpimdbglmoopcaaDoor
