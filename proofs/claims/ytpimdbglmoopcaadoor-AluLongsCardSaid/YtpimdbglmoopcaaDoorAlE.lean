/-
  Single, joined, and Long of the reference of package alu. No condition.
-/
import Derived.Test.YtpimdbglmoopcaaDoorAlB
import Derived.Test.YtpimdbglmoopcaaDoorAlD
import Derived.Test.YtpimdbglmoopcaaDoorRefD
import Derived.Test.YtpimdbglmoopcaaDoorRefE
namespace Go.Proofs.YtpimdbglmoopcaaDoor
open Go.RowKit
set_option linter.unusedSimpArgs false
set_option linter.unusedVariables false
set_option maxHeartbeats 4000000
set_option maxRecDepth 100000

/-- What Single answers. -/
def sngV (o : Int) (b : Bool) (v f : Int) : Int × Int × Bool :=
  if o = 12 then (if b = true then (0, 4, true) else (0, 4, true))
  else if o = 13 then (if b = true then (op true (-1 - (op true v)), cod (neg true (op true (-1 - (op true v)))) (zer true (op true (-1 - (op true v)))) false false + 1, true) else (op false (-1 - (op false v)), cod (neg false (op false (-1 - (op false v)))) (zer false (op false (-1 - (op false v)))) false false + 1, true))
  else if o = 14 then (if b = true then (addR true (op true v) 1 0, addF true (op true v) 1 0 / 2 * 2 + f % 2, true) else (addR false (op false v) 1 0, addF false (op false v) 1 0 / 2 * 2 + f % 2, true))
  else if o = 15 then (if b = true then (subR true (op true v) 1 0, subF true (op true v) 1 0 / 2 * 2 + f % 2, true) else (subR false (op false v) 1 0, subF false (op false v) 1 0 / 2 * 2 + f % 2, true))
  else if o = 16 then (if b = true then (subR true 0 (op true v) 0, subF true 0 (op true v) 0, true) else (subR false 0 (op false v) 0, subF false 0 (op false v) 0, true))
  else if o = 17 then (if b = true then (addR true (op true v) 0 f, addF true (op true v) 0 f, true) else (addR false (op false v) 0 f, addF false (op false v) 0 f, true))
  else if o = 18 then (if b = true then (subR true (op true v) 0 f, subF true (op true v) 0 f, true) else (subR false (op false v) 0 f, subF false (op false v) 0 f, true))
  else if o = 19 then (if b = true then (op true v, cod (neg true (op true v)) (zer true (op true v)) false false, false) else (op false v, cod (neg false (op false v)) (zer false (op false v)) false false, false))
  else if o = 20 then (if b = true then (rotR false true (op true v) f, rotF false true (op true v) f, true) else (rotR false false (op false v) f, rotF false false (op false v) f, true))
  else if o = 21 then (if b = true then (rotR true true (op true v) f, rotF true true (op true v) f, true) else (rotR true false (op false v) f, rotF true false (op false v) f, true))
  else if o = 22 then (if b = true then ((op true v) / 2 + (op true v) / 128 % 2 * 128, cod (neg true ((op true v) / 2 + (op true v) / 128 % 2 * 128)) (zer true ((op true v) / 2 + (op true v) / 128 % 2 * 128)) (neg true ((op true v) / 2 + (op true v) / 128 % 2 * 128) != decide ((op true v) % 2 = 1)) (decide ((op true v) % 2 = 1)), true) else ((op false v) / 2 + (op false v) / 32768 % 2 * 32768, cod (neg false ((op false v) / 2 + (op false v) / 32768 % 2 * 32768)) (zer false ((op false v) / 2 + (op false v) / 32768 % 2 * 32768)) (neg false ((op false v) / 2 + (op false v) / 32768 % 2 * 32768) != decide ((op false v) % 2 = 1)) (decide ((op false v) % 2 = 1)), true))
  else if o = 23 then (if b = true then (op true (2 * (op true v)), cod (neg true (op true (2 * (op true v)))) (zer true (op true (2 * (op true v)))) (neg true (op true (2 * (op true v))) != decide ((op true v) / 128 = 1)) (decide ((op true v) / 128 = 1)), true) else (op false (2 * (op false v)), cod (neg false (op false (2 * (op false v)))) (zer false (op false (2 * (op false v)))) (neg false (op false (2 * (op false v))) != decide ((op false v) / 32768 = 1)) (decide ((op false v) / 32768 = 1)), true))
  else if o = 24 then (if b = true then (0, 0, false) else ((op false v) % 256 * 256 + (op false v) / 256, cod (neg true ((op false v) % 256 * 256 + (op false v) / 256)) (zer true ((op false v) % 256 * 256 + (op false v) / 256)) false false, true))
  else if o = 25 then (if b = true then (0, 0, false) else (if fN f = true then 65535 else 0, (if fN f = true then 8 else 4) + f % 2, true))
  else (0, 0, false)
theorem rsingle_any (o : Int) (b : Bool) (v f : Int) (w : World) : Calls Tryd.prog 14 #[.int .i64 o, .bool b, .int .i64 v, .int .i64 f] w fun e w' => e = .returned (.tuple #[.int .i64 (sngV o b v f).1, .int .i64 (sngV o b v f).2.1, .bool (sngV o b v f).2.2]) ∧ w = w' := by
  cases b
  · by_cases n12 : o = 12
    · subst n12; exact rsg_clr_f v f w
    by_cases n13 : o = 13
    · subst n13; exact rsg_com_f v f w
    by_cases n14 : o = 14
    · subst n14; exact rsg_inc_f v f w
    by_cases n15 : o = 15
    · subst n15; exact rsg_dec_f v f w
    by_cases n16 : o = 16
    · subst n16; exact rsg_neg_f v f w
    by_cases n17 : o = 17
    · subst n17; exact rsg_adc_f v f w
    by_cases n18 : o = 18
    · subst n18; exact rsg_sbc_f v f w
    by_cases n19 : o = 19
    · subst n19; exact rsg_tst_f v f w
    by_cases n20 : o = 20
    · subst n20; exact rsg_ror_f v f w
    by_cases n21 : o = 21
    · subst n21; exact rsg_rol_f v f w
    by_cases n22 : o = 22
    · subst n22; exact rsg_asr_f v f w _ rfl
    by_cases n23 : o = 23
    · subst n23; exact rsg_asl_f v f w _ rfl
    by_cases n24 : o = 24
    · subst n24; exact rsg_swab_f v f w _ rfl
    by_cases n25 : o = 25
    · subst n25; exact rsg_sxt_f v f w
    rw [show sngV o false v f = (0, 0, false) from by unfold sngV; rw [if_neg n12, if_neg n13, if_neg n14, if_neg n15, if_neg n16, if_neg n17, if_neg n18, if_neg n19, if_neg n20, if_neg n21, if_neg n22, if_neg n23, if_neg n24, if_neg n25]]
    exact rsg_else_f o v f w n12 n13 n14 n15 n16 n17 n18 n19 n20 n21 n22 n23 n24 n25
  · by_cases n12 : o = 12
    · subst n12; exact rsg_clr_t v f w
    by_cases n13 : o = 13
    · subst n13; exact rsg_com_t v f w
    by_cases n14 : o = 14
    · subst n14; exact rsg_inc_t v f w
    by_cases n15 : o = 15
    · subst n15; exact rsg_dec_t v f w
    by_cases n16 : o = 16
    · subst n16; exact rsg_neg_t v f w
    by_cases n17 : o = 17
    · subst n17; exact rsg_adc_t v f w
    by_cases n18 : o = 18
    · subst n18; exact rsg_sbc_t v f w
    by_cases n19 : o = 19
    · subst n19; exact rsg_tst_t v f w
    by_cases n20 : o = 20
    · subst n20; exact rsg_ror_t v f w
    by_cases n21 : o = 21
    · subst n21; exact rsg_rol_t v f w
    by_cases n22 : o = 22
    · subst n22; exact rsg_asr_t v f w _ rfl
    by_cases n23 : o = 23
    · subst n23; exact rsg_asl_t v f w _ rfl
    by_cases n24 : o = 24
    · subst n24; exact rsg_swab_t v f w
    by_cases n25 : o = 25
    · subst n25; exact rsg_sxt_t v f w
    rw [show sngV o true v f = (0, 0, false) from by unfold sngV; rw [if_neg n12, if_neg n13, if_neg n14, if_neg n15, if_neg n16, if_neg n17, if_neg n18, if_neg n19, if_neg n20, if_neg n21, if_neg n22, if_neg n23, if_neg n24, if_neg n25]]
    exact rsg_else_t o v f w n12 n13 n14 n15 n16 n17 n18 n19 n20 n21 n22 n23 n24 n25

/-- What Long answers. -/
def lngV (o x y v f : Int) : Int × Int × Int × Bool :=
  if o = 8 then (mulH x v, mulL x v, mulF x v, true)
  else if o = 9 then (if dvW x y v = true then (dvQ x y v, dvR x y v, dvF x y v, true) else (x % 65536, y % 65536, dvF x y v, false))
  else if o = 10 then (shfR x v, y % 65536, shfF x v, true)
  else (0, 0, 0, false)

theorem rlg_mul (x y v f : Int) (w : World) : Calls Tryd.prog 18 #[.int .i64 8, .int .i64 x, .int .i64 y, .int .i64 v, .int .i64 f] w fun e w' => e = .returned (.tuple #[.int .i64 (mulH x v), .int .i64 (mulL x v), .int .i64 (mulF x v), .bool true]) ∧ w = w' := by
  have A1 := and_65535 x
  have A2 := and_65535 y
  have h1 := fun w => rMul_any x v w
  generalize mulH x v = a at *
  generalize mulL x v = b at *
  generalize mulF x v = c at *
  go_enter Tryd.func18, Tryd.ntmps18
  go_wp2_with (first | (go_at_call 39; with_reducible refine (h1 _).mono ?_; rintro e w' ⟨rfl, rfl⟩))
  refine bodyPost_ret (v := .tuple #[.int .i64 (a), .int .i64 (b), .int .i64 (c), .bool true]) (by simp [results, Tryd.results18, go_sem]) rfl ⟨rfl, rfl⟩

theorem rlg_div1 (x y v f : Int) (w : World) (hd : dvW x y v = true) : Calls Tryd.prog 18 #[.int .i64 9, .int .i64 x, .int .i64 y, .int .i64 v, .int .i64 f] w fun e w' => e = .returned (.tuple #[.int .i64 (dvQ x y v), .int .i64 (dvR x y v), .int .i64 (dvF x y v), .bool true]) ∧ w = w' := by
  have A1 := and_65535 x
  have A2 := and_65535 y
  have h1 : ∀ w, Calls Tryd.prog 40 #[.int .i64 x, .int .i64 y, .int .i64 v] w fun e w' => e = .returned (.tuple #[.int .i64 (dvQ x y v), .int .i64 (dvR x y v), .int .i64 (dvF x y v), .bool (dvW x y v)]) ∧ w = w' := fun w => rDiv_any x y v w
  rw [hd] at h1
  generalize dvQ x y v = a at *
  generalize dvR x y v = b at *
  generalize dvF x y v = c at *
  go_enter Tryd.func18, Tryd.ntmps18
  go_wp2_with (first | (go_at_call 40; with_reducible refine (h1 _).mono ?_; rintro e w' ⟨rfl, rfl⟩))
  refine bodyPost_ret (v := .tuple #[.int .i64 (a), .int .i64 (b), .int .i64 (c), .bool true]) (by simp [results, Tryd.results18, go_sem]) rfl ⟨rfl, rfl⟩

theorem rlg_div0 (x y v f : Int) (w : World) (hd : dvW x y v = false) : Calls Tryd.prog 18 #[.int .i64 9, .int .i64 x, .int .i64 y, .int .i64 v, .int .i64 f] w fun e w' => e = .returned (.tuple #[.int .i64 (x % 65536), .int .i64 (y % 65536), .int .i64 (dvF x y v), .bool false]) ∧ w = w' := by
  have A1 := and_65535 x
  have A2 := and_65535 y
  have h1 : ∀ w, Calls Tryd.prog 40 #[.int .i64 x, .int .i64 y, .int .i64 v] w fun e w' => e = .returned (.tuple #[.int .i64 (dvQ x y v), .int .i64 (dvR x y v), .int .i64 (dvF x y v), .bool (dvW x y v)]) ∧ w = w' := fun w => rDiv_any x y v w
  rw [hd] at h1
  generalize dvQ x y v = a at *
  generalize dvR x y v = b at *
  generalize dvF x y v = c at *
  go_enter Tryd.func18, Tryd.ntmps18
  go_wp2_with (first | (go_at_call 40; with_reducible refine (h1 _).mono ?_; rintro e w' ⟨rfl, rfl⟩))
  refine bodyPost_ret (v := .tuple #[.int .i64 (x % 65536), .int .i64 (y % 65536), .int .i64 (c), .bool false]) (by simp [results, Tryd.results18, go_sem]) rfl ⟨rfl, rfl⟩

theorem rlg_ash (x y v f : Int) (w : World) : Calls Tryd.prog 18 #[.int .i64 10, .int .i64 x, .int .i64 y, .int .i64 v, .int .i64 f] w fun e w' => e = .returned (.tuple #[.int .i64 (shfR x v), .int .i64 (y % 65536), .int .i64 (shfF x v), .bool true]) ∧ w = w' := by
  have A1 := and_65535 x
  have A2 := and_65535 y
  have h1 := fun w => rShift_any x v w
  generalize shfR x v = a at *
  generalize shfF x v = c at *
  go_enter Tryd.func18, Tryd.ntmps18
  go_wp2_with (first | (go_at_call 41; with_reducible refine (h1 _).mono ?_; rintro e w' ⟨rfl, rfl⟩))
  refine bodyPost_ret (v := .tuple #[.int .i64 (a), .int .i64 (y % 65536), .int .i64 (c), .bool true]) (by simp [results, Tryd.results18, go_sem]) rfl ⟨rfl, rfl⟩

theorem rlg_else (o x y v f : Int) (w : World) (n8 : ¬ o = 8) (n9 : ¬ o = 9) (n10 : ¬ o = 10) : Calls Tryd.prog 18 #[.int .i64 o, .int .i64 x, .int .i64 y, .int .i64 v, .int .i64 f] w fun e w' => e = .returned (.tuple #[.int .i64 (0), .int .i64 (0), .int .i64 (0), .bool false]) ∧ w = w' := by
  have e8 : (o == 8) = false := by simpa using n8
  have e9 : (o == 9) = false := by simpa using n9
  have e10 : (o == 10) = false := by simpa using n10
  go_enter Tryd.func18, Tryd.ntmps18
  go_wp2
  refine bodyPost_ret (v := .tuple #[.int .i64 (0), .int .i64 (0), .int .i64 (0), .bool false]) (by simp [results, Tryd.results18, go_sem]) rfl ⟨rfl, rfl⟩
theorem rlong_any (o x y v f : Int) (w : World) : Calls Tryd.prog 18 #[.int .i64 o, .int .i64 x, .int .i64 y, .int .i64 v, .int .i64 f] w fun e w' => e = .returned (.tuple #[.int .i64 ((lngV o x y v f).1), .int .i64 ((lngV o x y v f).2.1), .int .i64 ((lngV o x y v f).2.2.1), .bool (lngV o x y v f).2.2.2]) ∧ w = w' := by
  by_cases n8 : o = 8
  · subst n8; exact rlg_mul x y v f w
  by_cases n9 : o = 9
  · subst n9
    cases hd : dvW x y v
    · rw [show lngV 9 x y v f = (x % 65536, y % 65536, dvF x y v, false) from by unfold lngV; rw [if_neg (by decide), if_pos rfl, if_neg (by rw [hd]; decide)]]
      exact rlg_div0 x y v f w hd
    · rw [show lngV 9 x y v f = (dvQ x y v, dvR x y v, dvF x y v, true) from by unfold lngV; rw [if_neg (by decide), if_pos rfl, if_pos hd]]
      exact rlg_div1 x y v f w hd
  by_cases n10 : o = 10
  · subst n10; exact rlg_ash x y v f w
  rw [show lngV o x y v f = (0, 0, 0, false) from by unfold lngV; rw [if_neg n8, if_neg n9, if_neg n10]]
  exact rlg_else o x y v f w n8 n9 n10
end Go.Proofs.YtpimdbglmoopcaaDoor
