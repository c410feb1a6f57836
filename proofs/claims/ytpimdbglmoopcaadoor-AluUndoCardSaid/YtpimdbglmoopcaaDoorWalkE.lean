/-
  What Div and Shift of package word return. Condition: the table of widths holds its four numbers.
-/
import Derived.Test.YtpimdbglmoopcaaDoorWalkD
namespace Go.Proofs.YtpimdbglmoopcaaDoor
open Go.RowKit
attribute [local irreducible] wpQuiet

def Four (a b c : Int) (d : Bool) : Ending := .returned (.tuple #[.int .i64 a, .int .i64 b, .int .i64 c, .bool d])

set_option maxHeartbeats 1000000 in
theorem Div_0 (a b c : Int) (w : World) (W : Wid w) (h : sg false c = 0) :
    Calls Tryd.prog 50 #[.int .i64 a, .int .i64 b, .int .i64 c] w fun e w' => e = Four 0 0 3 false ∧ Below w.heap.size w w' := by
  have H := hid h
  clear h
  go_enter Tryd.func50, Tryd.ntmps50
  go_wp2_with fail
  refine (Signed_any _ _ W).mono ?_
  rintro e w1 ⟨rfl, hb1⟩
  have h := H.out
  go_wp2_with fail
  refine bodyPost_ret (v := .tuple #[.int .i64 0, .int .i64 0, .int .i64 3, .bool false]) (by simp [results, Tryd.results50, go_sem]) rfl ⟨rfl, hb1⟩

theorem Wid.drew {w : World} (W : Wid w) : Wid w.drew := ⟨W.size, W.c0, W.c1, W.c2, W.c3⟩

set_option maxHeartbeats 1000000 in
theorem Div_2 (a b c : Int) (w : World) (W : Wid w) (h : sg false c ≠ 0) (hf : fit (divQ a b c) = false) :
    Calls Tryd.prog 50 #[.int .i64 a, .int .i64 b, .int .i64 c] w fun e w' => e = Four 0 0 2 false ∧ Below w.heap.size w w' := by
  have hn := divN_bd a b
  have hq := divQ_bd a b c
  unfold divQ at hf hq
  unfold divN at hf hn hq
  have h0 : (sg false c == 0) = false := by simpa using h
  have hs := sg_bd a
  go_enter Tryd.func50, Tryd.ntmps50
  go_wp2_with fail
  refine (Signed_any _ _ W).mono ?_
  rintro e w1 ⟨rfl, hb1⟩
  go_wp2_with fail
  refine (Signed_any _ _ (W.below hb1)).mono ?_
  rintro e w2 ⟨rfl, hb2⟩
  have hB2 := hb1.trans (hb2.mono hb1.size)
  have W2 := W.below hB2
  clear hb1 hb2
  go_wp2_with fail
  refine (wrap_any _ _ W2).mono ?_
  rintro e w2 ⟨rfl, rfl⟩
  go_wp2_with fail
  refine (fits_any _ _ W2).mono ?_
  rintro e w3 ⟨rfl, hb3⟩
  have hB3 := hB2.trans (hb3.mono hB2.size)
  have W3 := W.below hB3
  clear hb3 hB2 W2
  go_wp2_with fail
  refine bodyPost_ret (v := .tuple #[.int .i64 0, .int .i64 0, .int .i64 2, .bool false]) (by simp [results, Tryd.results50, go_sem]) rfl ⟨rfl, hB3⟩

set_option maxHeartbeats 1000000 in
theorem Div_1 (a b c : Int) (w : World) (W : Wid w) (h : sg false c ≠ 0) (hf : fit (divQ a b c) = true) :
    Calls Tryd.prog 50 #[.int .i64 a, .int .i64 b, .int .i64 c] w fun e w' => e = Four (divQ a b c % 65536) (divR a b c % 65536) (cod (neg false (divQ a b c)) (zer false (divQ a b c)) false false) true ∧ Below w.heap.size w w' := by
  have hn := divN_bd a b
  have hq := divQ_bd a b c
  unfold divQ at hf hq
  unfold divN at hf hn hq
  have h0 : (sg false c == 0) = false := by simpa using h
  have hs := sg_bd a
  have hr := divR_bd a b c h
  unfold divR divN at hr
  go_enter Tryd.func50, Tryd.ntmps50
  go_wp2_with fail
  refine (Signed_any _ _ W).mono ?_
  rintro e w1 ⟨rfl, hb1⟩
  go_wp2_with fail
  refine (Signed_any _ _ (W.below hb1)).mono ?_
  rintro e w2 ⟨rfl, hb2⟩
  have hB2 := hb1.trans (hb2.mono hb1.size)
  have W2 := W.below hB2
  clear hb1 hb2
  go_wp2_with fail
  refine (wrap_any _ _ W2).mono ?_
  rintro e w2 ⟨rfl, rfl⟩
  go_wp2_with fail
  refine (fits_any _ _ W2).mono ?_
  rintro e w3 ⟨rfl, hb3⟩
  have hB3 := hB2.trans (hb3.mono hB2.size)
  have W3 := W.below hB3
  clear hb3 hB2 W2
  go_wp2_with fail
  refine region_class (fun w' => Wid w' ∧ Below w.heap.size w w') (by kernel_rfl) (by kernel_rfl) ⟨W3.drew, hB3.drew⟩ ?_
  repeat
    first
      | (refine BigFrame.wpQuiet_skip (by rfl) ?_
         simp only [Act.put, List.setIfInBounds_toArray, List.set_cons_zero, List.set_cons_succ])
      | (refine BigFrame.wpQuiet_want (by rfl) (fun K hK => ?_)
         apply Exists.intro
         refine ⟨fun wq hq => ?_, hK _ ?_⟩
         · unfold Oper.quietAt
           go_simp
           first
             | with_reducible rfl
             | ((go_at_call 38); exact (wrap_any _ _ hq.1).mono (fun e w' ⟨he, hb⟩ => ⟨he, hb ▸ hq⟩))
             | ((go_at_call 23); exact (Flags_any _ _ _ hq.1).mono (fun e w' ⟨he, hb⟩ => ⟨he, hq.1.below hb, hq.2.trans (hb.mono hq.2.size)⟩))
         clear hK K
         simp only [Act.put, List.setIfInBounds_toArray, List.set_cons_zero, List.set_cons_succ])
  refine wpQuiet_nil ?_
  intro w4 hS
  go_wp2_with fail
  refine bodyPost_ret (v := .tuple #[.int .i64 (divQ a b c % 65536), .int .i64 (divR a b c % 65536), .int .i64 (cod (neg false (divQ a b c)) (zer false (divQ a b c)) false false), .bool true]) (by simp [results, Tryd.results50, go_sem, divQ, divR, divN]) rfl ⟨rfl, hS.2⟩

theorem Div_any (a b c : Int) (w : World) (W : Wid w) :
    Calls Tryd.prog 50 #[.int .i64 a, .int .i64 b, .int .i64 c] w fun e w' => e = Four (dvQ a b c) (dvR a b c) (dvF a b c) (dvW a b c) ∧ Below w.heap.size w w' := by
  by_cases h : sg false c = 0
  · have e1 : dvW a b c = false := by simp [dvW, h]
    have e2 : dvQ a b c = 0 := by simp [dvQ, e1]
    have e3 : dvR a b c = 0 := by simp [dvR, e1]
    have e4 : dvF a b c = 3 := by simp [dvF, h]
    rw [e1, e2, e3, e4]
    exact Div_0 a b c w W h
  · cases hf : fit (divQ a b c)
    · have e1 : dvW a b c = false := by simp [dvW, hf]
      have e2 : dvQ a b c = 0 := by simp [dvQ, e1]
      have e3 : dvR a b c = 0 := by simp [dvR, e1]
      have e4 : dvF a b c = 2 := by simp [dvF, h, e1]
      rw [e1, e2, e3, e4]
      exact Div_2 a b c w W h hf
    · have e1 : dvW a b c = true := by simp [dvW, hf, h]
      have e2 : dvQ a b c = divQ a b c % 65536 := by simp [dvQ, e1]
      have e3 : dvR a b c = divR a b c % 65536 := by simp [dvR, e1]
      have e4 : dvF a b c = cod (neg false (divQ a b c)) (zer false (divQ a b c)) false false := by simp [dvF, h, e1]
      rw [e1, e2, e3, e4]
      exact Div_1 a b c w W h hf

set_option maxHeartbeats 400000 in
theorem shiftCount_any (n : Int) (w : World) :
    Calls Tryd.prog 51 #[.int .i64 n] w fun e w' => e = .returned (.int .i64 (cnt n)) ∧ w = w' := by
  have A1 := and_63
  have hx := xor_32 (n % 64) (by omega) (by omega)
  have hb : 0 ≤ bits .xor .i64 (n % 64) 32 ∧ bits .xor .i64 (n % 64) 32 ≤ 63 := by rw [hx]; split <;> omega
  clear hx
  go_enter Tryd.func51, Tryd.ntmps51
  go_wp2
  go_ret
  exact ⟨ret_int (cnt_eq n), rfl⟩

set_option maxHeartbeats 400000 in
theorem shiftRight_any (n : Int) (k : Nat) (w : World) (W : Wid w) (hk : k < 32) :
    Calls Tryd.prog 52 #[.int .i64 (sg false n), .int .i64 ((k + 1 : Nat) : Int)] w fun e w' =>
      e = .returned (.tuple #[.int .i64 (shr n (k + 1)), .int .i64 (cod (neg false (shr n (k + 1))) (zer false (shr n (k + 1))) false (decide (shrC n (k + 1) = 1)))]) ∧ Below w.heap.size w w' := by
  have A1 := and_1
  go_enter Tryd.func52, Tryd.ntmps52
  go_wp2_with (first | (go_at_call 38; refine (wrap_any _ _ W).mono ?_; rintro e w' ⟨rfl, rfl⟩) | (go_at_call 23; refine (Flags_any _ _ _ W).mono ?_; rintro e w3 ⟨rfl, hb⟩) | (go_at_call 45; refine (when_any _ _ _).mono ?_; rintro e w' ⟨rfl, rfl⟩))
  go_ret2
  refine ⟨ret_pair' rfl ?_, hb⟩
  rw [or_c]
  show cod (neg false (shr n (k + 1))) (zer false (shr n (k + 1))) false _ = _
  congr 1
  show (sg false n / 2 ^ k % 2 != 0) = decide (sg false n / 2 ^ k % 2 = 1)
  rw [Bool.eq_iff_iff]
  simp
  try omega

theorem negw_any (n : Int) (w : World) :
    Calls Tryd.prog 43 #[.agg #[.int .i64 65535, .int .i64 32768], .int .i64 n] w fun e w' => e = .returned (.bool (neg false n)) ∧ Below w.heap.size w w' :=
  (neg_any _ _ _ _).mono fun _ _ ⟨he, hb⟩ => ⟨by rw [he, ng_f], hb⟩

theorem flw_any (n : Int) (w : World) :
    Calls Tryd.prog 44 #[.agg #[.int .i64 65535, .int .i64 32768], .int .i64 n] w fun e w' => e = .returned (.int .i64 (cod (neg false n) (zer false n) false false)) ∧ Below w.heap.size w w' :=
  (flags_any _ _ _ _).mono fun _ _ ⟨he, hb⟩ => ⟨by rw [he, fl_f], hb⟩

theorem Wid.at {B : Nat} {w w' : World} (W : Wid w) (h : Below B w w') (hB : w.heap.size = B) : Wid w' := W.below (hB ▸ h)

set_option maxHeartbeats 2000000 in
theorem shiftLeft_any (x : Int) (n : Nat) (w : World) (W : Wid w) (hn : n < 32) (hx0 : 0 ≤ x) (hx1 : x < 65536) :
    Calls Tryd.prog 53 #[.int .i64 x, .int .i64 (n : Int)] w fun e w' =>
      e = .returned (.tuple #[.int .i64 (shl x n), .int .i64 (cod (neg false (shl x n)) (zer false (shl x n)) (shlV x n) (shlC x n))]) ∧ Below w.heap.size w w' := by
  have X0 := hid (show x = shl x 0 by simp [shl]; omega)
  have W' := W
  obtain ⟨q0, q1, q2, q3, q4⟩ := W'
  go_enter Tryd.func53, Tryd.ntmps53
  go_wp2_with fail
  have hB := box_put 65535 32768 w w (Below.refl _ _)
  generalize hw2 : w.alloc (.cells #[.int .i64 65535, .int .i64 32768] 50) = w2 at hB ⊢
  have hz : w.heap.size ≤ w.heap.size := Nat.le_refl _
  clear hw2 q0 q1 q2 q3 q4
  obtain ⟨B1, hB1⟩ : ∃ B1, w.heap.size = B1 := ⟨_, rfl⟩
  have hB2 := hid hB1
  rw [hB1] at hB hz ⊢
  clear hB1
  go_loopw [7, 8, 9, 14] (fun r o v i wr => ∃ k : Nat, k ≤ n ∧ r = .int .i64 (shl x k) ∧ o = .bool (shlC x k) ∧ v = .bool (shlV x k) ∧ i = .int .i64 k ∧
      (wr.cell? ⟨B1, 0, none⟩ = some (.int .i64 65535) ∧ wr.cell? ⟨B1, 1, none⟩ = some (.int .i64 32768) ∧ B1 < wr.heap.size ∧ Below B1 w wr)) (fun _ _ _ i _ => n - (intOf i).toNat)
  case atStart => exact ⟨0, Nat.zero_le _, by rw [← X0.out], rfl, rfl, rfl, hB⟩
  case round =>
    obtain ⟨k, hk, rfl, rfl, rfl, rfl, hS⟩ := hrel
    clear hB
    have hb := shl_bd x k
    by_cases hlt : k < n
    · cases hv : shlV x k
      · have V := hid hv
        obtain ⟨h0, h1, h2, h3⟩ := hS
        go_wp2_with (first | (go_at_call 43; refine (negw_any _ _).mono ?_; rintro e w3 ⟨rfl, hb3⟩; have hS3 := box_step ⟨h0, h1, h2, h3⟩ hz hb3; have W3 := W.at hS3.2.2.2 hB2.out) | (go_at_call 38; refine (wrap_any _ _ W3).mono ?_; rintro e w' ⟨rfl, rfl⟩))
        refine region_class (fun w' => w'.cell? ⟨B1, 0, none⟩ = some (.int .i64 65535) ∧ w'.cell? ⟨B1, 1, none⟩ = some (.int .i64 32768) ∧ B1 < w'.heap.size ∧ Below B1 w w') (by kernel_rfl) (by kernel_rfl) (box_drew hS3) ?_
        repeat
          first
            | (refine BigFrame.wpQuiet_skip (by rfl) ?_
               simp only [Act.put, List.setIfInBounds_toArray, List.set_cons_zero, List.set_cons_succ])
            | (refine BigFrame.wpQuiet_want (by rfl) (fun K hK => ?_)
               apply Exists.intro
               refine ⟨fun wq hq => ?_, hK _ ?_⟩
               · obtain ⟨c0, c1, c2, c3⟩ := hq
                 unfold Oper.quietAt
                 go_simp
                 first
                   | with_reducible rfl
                   | ((go_at_call 43); exact (negw_any _ _).mono (fun e w' ⟨he, hb⟩ => ⟨he, box_step ⟨c0, c1, c2, c3⟩ (by assumption) hb⟩))
               clear hK K
               simp only [Act.put, List.setIfInBounds_toArray, List.set_cons_zero, List.set_cons_succ])
        refine wpQuiet_nil ?_
        intro w4 hS
        go_wp2
        go_roundw
        case rel => exact ⟨k + 1, by omega, rfl, rfl, by rw [shlV, V.out]; rfl, by go_num, hS⟩
        case measure => simp [intOf]; omega
      · have V := hid hv
        obtain ⟨h0, h1, h2, h3⟩ := hS
        go_wp2_with (first | (go_at_call 43; refine (negw_any _ _).mono ?_; rintro e w3 ⟨rfl, hb3⟩; have hS3 := box_step ⟨h0, h1, h2, h3⟩ hz hb3; have W3 := W.at hS3.2.2.2 hB2.out) | (go_at_call 38; refine (wrap_any _ _ W3).mono ?_; rintro e w' ⟨rfl, rfl⟩))
        refine region_class (fun w' => w'.cell? ⟨B1, 0, none⟩ = some (.int .i64 65535) ∧ w'.cell? ⟨B1, 1, none⟩ = some (.int .i64 32768) ∧ B1 < w'.heap.size ∧ Below B1 w w') (by kernel_rfl) (by kernel_rfl) (box_drew hS3) ?_
        repeat
          first
            | (refine BigFrame.wpQuiet_skip (by rfl) ?_
               simp only [Act.put, List.setIfInBounds_toArray, List.set_cons_zero, List.set_cons_succ])
            | (refine BigFrame.wpQuiet_want (by rfl) (fun K hK => ?_)
               apply Exists.intro
               refine ⟨fun wq hq => ?_, hK _ ?_⟩
               · obtain ⟨c0, c1, c2, c3⟩ := hq
                 unfold Oper.quietAt
                 go_simp
                 first
                   | with_reducible rfl
                   | ((go_at_call 43); exact (negw_any _ _).mono (fun e w' ⟨he, hb⟩ => ⟨he, box_step ⟨c0, c1, c2, c3⟩ (by assumption) hb⟩))
               clear hK K
               simp only [Act.put, List.setIfInBounds_toArray, List.set_cons_zero, List.set_cons_succ])
        refine wpQuiet_nil ?_
        intro w4 hS
        go_wp2
        go_roundw
        case rel => exact ⟨k + 1, by omega, rfl, rfl, by rw [shlV, V.out]; rfl, by go_num, hS⟩
        case measure => simp [intOf]; omega
    · obtain rfl : k = n := by omega
      obtain ⟨h0, h1, h2, h3⟩ := hS
      go_wp2_with (first | (go_at_call 44; refine (flw_any _ _).mono ?_; rintro e w3 ⟨rfl, hb3⟩; have hS3 := box_step ⟨h0, h1, h2, h3⟩ hz hb3) | (go_at_call 45; refine (when_any _ _ _).mono ?_; rintro e w' ⟨rfl, rfl⟩))
      go_ret2
      exact ⟨ret_pair' rfl (by rw [or_v, or_c]), by rw [hB2.out]; exact hS3.2.2.2⟩

set_option maxHeartbeats 400000 in
theorem Shift_any (x n : Int) (w : World) (W : Wid w) :
    Calls Tryd.prog 37 #[.int .i64 x, .int .i64 n] w fun e w' => e = .returned (.tuple #[.int .i64 (shfR x n), .int .i64 (shfF x n)]) ∧ Below w.heap.size w w' := by
  have hc := cnt_bd n
  by_cases h : cnt n < 0
  · obtain ⟨k, hk⟩ : ∃ k : Nat, -cnt n = ((k + 1 : Nat) : Int) := ⟨(-cnt n).toNat - 1, by omega⟩
    have hk' : k < 32 := by omega
    have e0 : (-cnt n).toNat = k + 1 := by omega
    have R := hid (show shr x (k + 1) = shfR x n by unfold shfR; rw [if_pos h, e0])
    have F := hid (show cod (neg false (shr x (k + 1))) (zer false (shr x (k + 1))) false (decide (shrC x (k + 1) = 1)) = shfF x n by unfold shfF; rw [if_pos h, e0])
    have HK := hid hk
    clear hk e0
    go_enter Tryd.func37, Tryd.ntmps37
    go_wp2_with fail
    refine (shiftCount_any n _).mono ?_
    rintro e w' ⟨rfl, rfl⟩
    go_wp2_with fail
    refine (Signed_any _ _ W).mono ?_
    rintro e w1 ⟨rfl, hb1⟩
    go_wp2_with fail
    rw [HK.out]
    refine (shiftRight_any x k _ (W.below hb1) hk').mono ?_
    rintro e w2 ⟨rfl, hb2⟩
    go_wp2_with fail
    go_ret2
    exact ⟨ret_pair' R.out F.out, hb1.trans (hb2.mono hb1.size)⟩
  · obtain ⟨k, hk⟩ : ∃ k : Nat, cnt n = (k : Int) := ⟨(cnt n).toNat, by omega⟩
    have hk' : k < 32 := by omega
    have e0 : (cnt n).toNat = k := by omega
    have R := hid (show shl (x % 65536) k = shfR x n by unfold shfR; rw [if_neg h, e0, shl_mod])
    have F := hid (show cod (neg false (shl (x % 65536) k)) (zer false (shl (x % 65536) k)) (shlV (x % 65536) k) (shlC (x % 65536) k) = shfF x n by unfold shfF; rw [if_neg h, e0, shl_mod, shlV_mod, shlC_mod])
    have HK := hid hk
    clear hk e0
    go_enter Tryd.func37, Tryd.ntmps37
    go_wp2_with fail
    refine (shiftCount_any n _).mono ?_
    rintro e w' ⟨rfl, rfl⟩
    go_wp2_with fail
    refine (wrap_any _ _ W).mono ?_
    rintro e w1 ⟨rfl, rfl⟩
    go_wp2_with fail
    rw [HK.out]
    refine (shiftLeft_any (x % 65536) k _ W hk' (by omega) (by omega)).mono ?_
    rintro e w2 ⟨rfl, hb2⟩
    go_wp2_with fail
    go_ret2
    exact ⟨ret_pair' R.out F.out, hb2⟩

#print axioms Shift_any
end Go.Proofs.YtpimdbglmoopcaaDoor
