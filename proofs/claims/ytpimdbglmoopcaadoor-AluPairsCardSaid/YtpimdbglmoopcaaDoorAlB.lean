/-
  Double of the reference of package alu. No condition.
-/
import Derived.Test.YtpimdbglmoopcaaDoorAlA
namespace Go.Proofs.YtpimdbglmoopcaaDoor
open Go.RowKit
set_option linter.unusedSimpArgs false
set_option linter.unusedVariables false
set_option maxHeartbeats 4000000
set_option maxRecDepth 100000

theorem rdb_mov_f (s d f : Int) (w : World) : Calls Tryd.prog 11 #[.int .i64 1, .bool false, .int .i64 s, .int .i64 d, .int .i64 f] w fun e w' => e = .returned (.tuple #[.int .i64 (op false s), .int .i64 (kc false (op false s) f), .bool true]) ∧ w = w' := by
  have A1 := and_1 f
  have h1 := fun w => rFlags_any false (op false s) w
  have hb := cod_bd (neg false (op false s)) (zer false (op false s)) false false
  have hk := kc_sum false (op false s) f
  generalize cod (neg false (op false s)) (zer false (op false s)) false false = q at *
  rw [hk q rfl]
  clear hk
  have f0 : 0 ≤ f % 2 := by omega
  have f1 : f % 2 ≤ 1 := by omega
  go_enter Tryd.func11, Tryd.ntmps11
  go_wp2_with (first | (go_at_call 24; first | (with_reducible refine (rsize_any _ _ _).mono ?_; rintro e w' ⟨rfl, rfl⟩)) | (go_at_call 27; with_reducible refine (h1 _).mono ?_; rintro e w' ⟨rfl, rfl⟩))
  go_ret3
  exact ⟨rfl, rfl⟩

theorem rdb_mov_t (s d f : Int) (w : World) : Calls Tryd.prog 11 #[.int .i64 1, .bool true, .int .i64 s, .int .i64 d, .int .i64 f] w fun e w' => e = .returned (.tuple #[.int .i64 (op true s), .int .i64 (kc true (op true s) f), .bool true]) ∧ w = w' := by
  have A1 := and_1 f
  have h1 := fun w => rFlags_any true (op true s) w
  have hb := cod_bd (neg true (op true s)) (zer true (op true s)) false false
  have hk := kc_sum true (op true s) f
  generalize cod (neg true (op true s)) (zer true (op true s)) false false = q at *
  rw [hk q rfl]
  clear hk
  have f0 : 0 ≤ f % 2 := by omega
  have f1 : f % 2 ≤ 1 := by omega
  go_enter Tryd.func11, Tryd.ntmps11
  go_wp2_with (first | (go_at_call 24; first | (with_reducible refine (rsize_any _ _ _).mono ?_; rintro e w' ⟨rfl, rfl⟩)) | (go_at_call 27; with_reducible refine (h1 _).mono ?_; rintro e w' ⟨rfl, rfl⟩))
  go_ret3
  exact ⟨rfl, rfl⟩

theorem rdb_cmp_f (s d f : Int) (w : World) : Calls Tryd.prog 11 #[.int .i64 2, .bool false, .int .i64 s, .int .i64 d, .int .i64 f] w fun e w' => e = .returned (.tuple #[.int .i64 (subR false (op false s) (op false d) 0), .int .i64 (subF false (op false s) (op false d) 0), .bool false]) ∧ w = w' := by
  have h1 := fun w => rSub_any false (op false s) (op false d) 0 w
  go_enter Tryd.func11, Tryd.ntmps11
  go_wp2_with (first | (go_at_call 24; first | (with_reducible refine (rsize_any _ _ _).mono ?_; rintro e w' ⟨rfl, rfl⟩)) | (go_at_call 25; with_reducible refine (h1 _).mono ?_; rintro e w' ⟨rfl, rfl⟩))
  go_ret3
  exact ⟨rfl, rfl⟩

theorem rdb_cmp_t (s d f : Int) (w : World) : Calls Tryd.prog 11 #[.int .i64 2, .bool true, .int .i64 s, .int .i64 d, .int .i64 f] w fun e w' => e = .returned (.tuple #[.int .i64 (subR true (op true s) (op true d) 0), .int .i64 (subF true (op true s) (op true d) 0), .bool false]) ∧ w = w' := by
  have h1 := fun w => rSub_any true (op true s) (op true d) 0 w
  go_enter Tryd.func11, Tryd.ntmps11
  go_wp2_with (first | (go_at_call 24; first | (with_reducible refine (rsize_any _ _ _).mono ?_; rintro e w' ⟨rfl, rfl⟩)) | (go_at_call 25; with_reducible refine (h1 _).mono ?_; rintro e w' ⟨rfl, rfl⟩))
  go_ret3
  exact ⟨rfl, rfl⟩

theorem rdb_bit_f (s d f : Int) (w : World) : Calls Tryd.prog 11 #[.int .i64 3, .bool false, .int .i64 s, .int .i64 d, .int .i64 f] w fun e w' => e = .returned (.tuple #[.int .i64 (bits .and .i64 (op false s) (op false d)), .int .i64 (kc false (bits .and .i64 (op false s) (op false d)) f), .bool false]) ∧ w = w' := by
  have A1 := and_1 f
  have h1 := fun w => rFlags_any false (bits .and .i64 (op false s) (op false d)) w
  have hb := cod_bd (neg false (bits .and .i64 (op false s) (op false d))) (zer false (bits .and .i64 (op false s) (op false d))) false false
  have hk := kc_sum false (bits .and .i64 (op false s) (op false d)) f
  generalize cod (neg false (bits .and .i64 (op false s) (op false d))) (zer false (bits .and .i64 (op false s) (op false d))) false false = q at *
  rw [hk q rfl]
  clear hk
  have f0 : 0 ≤ f % 2 := by omega
  have f1 : f % 2 ≤ 1 := by omega
  go_enter Tryd.func11, Tryd.ntmps11
  go_wp2_with (first | (go_at_call 24; first | (with_reducible refine (rsize_any _ _ _).mono ?_; rintro e w' ⟨rfl, rfl⟩)) | (go_at_call 27; with_reducible refine (h1 _).mono ?_; rintro e w' ⟨rfl, rfl⟩))
  go_ret3
  exact ⟨rfl, rfl⟩

theorem rdb_bit_t (s d f : Int) (w : World) : Calls Tryd.prog 11 #[.int .i64 3, .bool true, .int .i64 s, .int .i64 d, .int .i64 f] w fun e w' => e = .returned (.tuple #[.int .i64 (bits .and .i64 (op true s) (op true d)), .int .i64 (kc true (bits .and .i64 (op true s) (op true d)) f), .bool false]) ∧ w = w' := by
  have A1 := and_1 f
  have h1 := fun w => rFlags_any true (bits .and .i64 (op true s) (op true d)) w
  have hb := cod_bd (neg true (bits .and .i64 (op true s) (op true d))) (zer true (bits .and .i64 (op true s) (op true d))) false false
  have hk := kc_sum true (bits .and .i64 (op true s) (op true d)) f
  generalize cod (neg true (bits .and .i64 (op true s) (op true d))) (zer true (bits .and .i64 (op true s) (op true d))) false false = q at *
  rw [hk q rfl]
  clear hk
  have f0 : 0 ≤ f % 2 := by omega
  have f1 : f % 2 ≤ 1 := by omega
  go_enter Tryd.func11, Tryd.ntmps11
  go_wp2_with (first | (go_at_call 24; first | (with_reducible refine (rsize_any _ _ _).mono ?_; rintro e w' ⟨rfl, rfl⟩)) | (go_at_call 27; with_reducible refine (h1 _).mono ?_; rintro e w' ⟨rfl, rfl⟩))
  go_ret3
  exact ⟨rfl, rfl⟩

theorem rdb_bic_f (s d f : Int) (w : World) : Calls Tryd.prog 11 #[.int .i64 4, .bool false, .int .i64 s, .int .i64 d, .int .i64 f] w fun e w' => e = .returned (.tuple #[.int .i64 (bits .andNot .i64 (op false d) (op false s)), .int .i64 (kc false (bits .andNot .i64 (op false d) (op false s)) f), .bool true]) ∧ w = w' := by
  have A1 := and_1 f
  have h1 := fun w => rFlags_any false (bits .andNot .i64 (op false d) (op false s)) w
  have hb := cod_bd (neg false (bits .andNot .i64 (op false d) (op false s))) (zer false (bits .andNot .i64 (op false d) (op false s))) false false
  have hk := kc_sum false (bits .andNot .i64 (op false d) (op false s)) f
  generalize cod (neg false (bits .andNot .i64 (op false d) (op false s))) (zer false (bits .andNot .i64 (op false d) (op false s))) false false = q at *
  rw [hk q rfl]
  clear hk
  have f0 : 0 ≤ f % 2 := by omega
  have f1 : f % 2 ≤ 1 := by omega
  go_enter Tryd.func11, Tryd.ntmps11
  go_wp2_with (first | (go_at_call 24; first | (with_reducible refine (rsize_any _ _ _).mono ?_; rintro e w' ⟨rfl, rfl⟩)) | (go_at_call 27; with_reducible refine (h1 _).mono ?_; rintro e w' ⟨rfl, rfl⟩))
  go_ret3
  exact ⟨rfl, rfl⟩

theorem rdb_bic_t (s d f : Int) (w : World) : Calls Tryd.prog 11 #[.int .i64 4, .bool true, .int .i64 s, .int .i64 d, .int .i64 f] w fun e w' => e = .returned (.tuple #[.int .i64 (bits .andNot .i64 (op true d) (op true s)), .int .i64 (kc true (bits .andNot .i64 (op true d) (op true s)) f), .bool true]) ∧ w = w' := by
  have A1 := and_1 f
  have h1 := fun w => rFlags_any true (bits .andNot .i64 (op true d) (op true s)) w
  have hb := cod_bd (neg true (bits .andNot .i64 (op true d) (op true s))) (zer true (bits .andNot .i64 (op true d) (op true s))) false false
  have hk := kc_sum true (bits .andNot .i64 (op true d) (op true s)) f
  generalize cod (neg true (bits .andNot .i64 (op true d) (op true s))) (zer true (bits .andNot .i64 (op true d) (op true s))) false false = q at *
  rw [hk q rfl]
  clear hk
  have f0 : 0 ≤ f % 2 := by omega
  have f1 : f % 2 ≤ 1 := by omega
  go_enter Tryd.func11, Tryd.ntmps11
  go_wp2_with (first | (go_at_call 24; first | (with_reducible refine (rsize_any _ _ _).mono ?_; rintro e w' ⟨rfl, rfl⟩)) | (go_at_call 27; with_reducible refine (h1 _).mono ?_; rintro e w' ⟨rfl, rfl⟩))
  go_ret3
  exact ⟨rfl, rfl⟩

theorem rdb_bis_f (s d f : Int) (w : World) : Calls Tryd.prog 11 #[.int .i64 5, .bool false, .int .i64 s, .int .i64 d, .int .i64 f] w fun e w' => e = .returned (.tuple #[.int .i64 (bits .or .i64 (op false s) (op false d)), .int .i64 (kc false (bits .or .i64 (op false s) (op false d)) f), .bool true]) ∧ w = w' := by
  have A1 := and_1 f
  have h1 := fun w => rFlags_any false (bits .or .i64 (op false s) (op false d)) w
  have hb := cod_bd (neg false (bits .or .i64 (op false s) (op false d))) (zer false (bits .or .i64 (op false s) (op false d))) false false
  have hk := kc_sum false (bits .or .i64 (op false s) (op false d)) f
  generalize cod (neg false (bits .or .i64 (op false s) (op false d))) (zer false (bits .or .i64 (op false s) (op false d))) false false = q at *
  rw [hk q rfl]
  clear hk
  have f0 : 0 ≤ f % 2 := by omega
  have f1 : f % 2 ≤ 1 := by omega
  go_enter Tryd.func11, Tryd.ntmps11
  go_wp2_with (first | (go_at_call 24; first | (with_reducible refine (rsize_any _ _ _).mono ?_; rintro e w' ⟨rfl, rfl⟩)) | (go_at_call 27; with_reducible refine (h1 _).mono ?_; rintro e w' ⟨rfl, rfl⟩))
  go_ret3
  exact ⟨rfl, rfl⟩

theorem rdb_bis_t (s d f : Int) (w : World) : Calls Tryd.prog 11 #[.int .i64 5, .bool true, .int .i64 s, .int .i64 d, .int .i64 f] w fun e w' => e = .returned (.tuple #[.int .i64 (bits .or .i64 (op true s) (op true d)), .int .i64 (kc true (bits .or .i64 (op true s) (op true d)) f), .bool true]) ∧ w = w' := by
  have A1 := and_1 f
  have h1 := fun w => rFlags_any true (bits .or .i64 (op true s) (op true d)) w
  have hb := cod_bd (neg true (bits .or .i64 (op true s) (op true d))) (zer true (bits .or .i64 (op true s) (op true d))) false false
  have hk := kc_sum true (bits .or .i64 (op true s) (op true d)) f
  generalize cod (neg true (bits .or .i64 (op true s) (op true d))) (zer true (bits .or .i64 (op true s) (op true d))) false false = q at *
  rw [hk q rfl]
  clear hk
  have f0 : 0 ≤ f % 2 := by omega
  have f1 : f % 2 ≤ 1 := by omega
  go_enter Tryd.func11, Tryd.ntmps11
  go_wp2_with (first | (go_at_call 24; first | (with_reducible refine (rsize_any _ _ _).mono ?_; rintro e w' ⟨rfl, rfl⟩)) | (go_at_call 27; with_reducible refine (h1 _).mono ?_; rintro e w' ⟨rfl, rfl⟩))
  go_ret3
  exact ⟨rfl, rfl⟩

theorem rdb_add_f (s d f : Int) (w : World) : Calls Tryd.prog 11 #[.int .i64 6, .bool false, .int .i64 s, .int .i64 d, .int .i64 f] w fun e w' => e = .returned (.tuple #[.int .i64 (addR false (op false d) (op false s) 0), .int .i64 (addF false (op false d) (op false s) 0), .bool true]) ∧ w = w' := by
  have h1 := fun w => rAdd_any false (op false d) (op false s) 0 w
  go_enter Tryd.func11, Tryd.ntmps11
  go_wp2_with (first | (go_at_call 24; first | (with_reducible refine (rsize_any _ _ _).mono ?_; rintro e w' ⟨rfl, rfl⟩)) | (go_at_call 26; with_reducible refine (h1 _).mono ?_; rintro e w' ⟨rfl, rfl⟩))
  go_ret3
  exact ⟨rfl, rfl⟩

theorem rdb_add_t (s d f : Int) (w : World) : Calls Tryd.prog 11 #[.int .i64 6, .bool true, .int .i64 s, .int .i64 d, .int .i64 f] w fun e w' => e = .returned (.tuple #[.int .i64 (0), .int .i64 (0), .bool false]) ∧ w = w' := by
  go_enter Tryd.func11, Tryd.ntmps11
  go_wp2
  go_ret3
  exact ⟨rfl, rfl⟩

theorem rdb_sub_f (s d f : Int) (w : World) : Calls Tryd.prog 11 #[.int .i64 7, .bool false, .int .i64 s, .int .i64 d, .int .i64 f] w fun e w' => e = .returned (.tuple #[.int .i64 (subR false (op false d) (op false s) 0), .int .i64 (subF false (op false d) (op false s) 0), .bool true]) ∧ w = w' := by
  have h1 := fun w => rSub_any false (op false d) (op false s) 0 w
  go_enter Tryd.func11, Tryd.ntmps11
  go_wp2_with (first | (go_at_call 24; first | (with_reducible refine (rsize_any _ _ _).mono ?_; rintro e w' ⟨rfl, rfl⟩)) | (go_at_call 25; with_reducible refine (h1 _).mono ?_; rintro e w' ⟨rfl, rfl⟩))
  go_ret3
  exact ⟨rfl, rfl⟩

theorem rdb_sub_t (s d f : Int) (w : World) : Calls Tryd.prog 11 #[.int .i64 7, .bool true, .int .i64 s, .int .i64 d, .int .i64 f] w fun e w' => e = .returned (.tuple #[.int .i64 (0), .int .i64 (0), .bool false]) ∧ w = w' := by
  go_enter Tryd.func11, Tryd.ntmps11
  go_wp2
  go_ret3
  exact ⟨rfl, rfl⟩

theorem rdb_xor_f (s d f : Int) (w : World) : Calls Tryd.prog 11 #[.int .i64 11, .bool false, .int .i64 s, .int .i64 d, .int .i64 f] w fun e w' => e = .returned (.tuple #[.int .i64 (bits .xor .i64 (op false s) (op false d)), .int .i64 (kc false (bits .xor .i64 (op false s) (op false d)) f), .bool true]) ∧ w = w' := by
  have A1 := and_1 f
  have h1 := fun w => rFlags_any false (bits .xor .i64 (op false s) (op false d)) w
  have hb := cod_bd (neg false (bits .xor .i64 (op false s) (op false d))) (zer false (bits .xor .i64 (op false s) (op false d))) false false
  have hk := kc_sum false (bits .xor .i64 (op false s) (op false d)) f
  generalize cod (neg false (bits .xor .i64 (op false s) (op false d))) (zer false (bits .xor .i64 (op false s) (op false d))) false false = q at *
  rw [hk q rfl]
  clear hk
  have f0 : 0 ≤ f % 2 := by omega
  have f1 : f % 2 ≤ 1 := by omega
  go_enter Tryd.func11, Tryd.ntmps11
  go_wp2_with (first | (go_at_call 24; first | (with_reducible refine (rsize_any _ _ _).mono ?_; rintro e w' ⟨rfl, rfl⟩)) | (go_at_call 27; with_reducible refine (h1 _).mono ?_; rintro e w' ⟨rfl, rfl⟩))
  go_ret3
  exact ⟨rfl, rfl⟩

theorem rdb_xor_t (s d f : Int) (w : World) : Calls Tryd.prog 11 #[.int .i64 11, .bool true, .int .i64 s, .int .i64 d, .int .i64 f] w fun e w' => e = .returned (.tuple #[.int .i64 (0), .int .i64 (0), .bool false]) ∧ w = w' := by
  go_enter Tryd.func11, Tryd.ntmps11
  go_wp2
  go_ret3
  exact ⟨rfl, rfl⟩

theorem rdb_else_f (o s d f : Int) (w : World) (n1 : ¬ o = 1) (n2 : ¬ o = 2) (n3 : ¬ o = 3) (n4 : ¬ o = 4) (n5 : ¬ o = 5) (n6 : ¬ o = 6) (n7 : ¬ o = 7) (n11 : ¬ o = 11) : Calls Tryd.prog 11 #[.int .i64 o, .bool false, .int .i64 s, .int .i64 d, .int .i64 f] w fun e w' => e = .returned (.tuple #[.int .i64 (0), .int .i64 (0), .bool false]) ∧ w = w' := by
  have e1 : (o == 1) = false := by simpa using n1
  have e2 : (o == 2) = false := by simpa using n2
  have e3 : (o == 3) = false := by simpa using n3
  have e4 : (o == 4) = false := by simpa using n4
  have e5 : (o == 5) = false := by simpa using n5
  have e6 : (o == 6) = false := by simpa using n6
  have e7 : (o == 7) = false := by simpa using n7
  have e11 : (o == 11) = false := by simpa using n11
  go_enter Tryd.func11, Tryd.ntmps11
  go_wp2_with (first | (go_at_call 24; first | (with_reducible refine (rsize_any _ _ _).mono ?_; rintro e w' ⟨rfl, rfl⟩)))
  go_ret3
  exact ⟨rfl, rfl⟩

theorem rdb_else_t (o s d f : Int) (w : World) (n1 : ¬ o = 1) (n2 : ¬ o = 2) (n3 : ¬ o = 3) (n4 : ¬ o = 4) (n5 : ¬ o = 5) (n6 : ¬ o = 6) (n7 : ¬ o = 7) (n11 : ¬ o = 11) : Calls Tryd.prog 11 #[.int .i64 o, .bool true, .int .i64 s, .int .i64 d, .int .i64 f] w fun e w' => e = .returned (.tuple #[.int .i64 (0), .int .i64 (0), .bool false]) ∧ w = w' := by
  have e1 : (o == 1) = false := by simpa using n1
  have e2 : (o == 2) = false := by simpa using n2
  have e3 : (o == 3) = false := by simpa using n3
  have e4 : (o == 4) = false := by simpa using n4
  have e5 : (o == 5) = false := by simpa using n5
  have e6 : (o == 6) = false := by simpa using n6
  have e7 : (o == 7) = false := by simpa using n7
  have e11 : (o == 11) = false := by simpa using n11
  go_enter Tryd.func11, Tryd.ntmps11
  go_wp2_with (first | (go_at_call 24; first | (with_reducible refine (rsize_any _ _ _).mono ?_; rintro e w' ⟨rfl, rfl⟩)))
  go_ret3
  exact ⟨rfl, rfl⟩

/-- What Double answers. -/
def dblV (o : Int) (b : Bool) (s d f : Int) : Int × Int × Bool :=
  if o = 1 then (if b = true then (op true s, kc true (op true s) f, true) else (op false s, kc false (op false s) f, true)) else if o = 2 then (if b = true then (subR true (op true s) (op true d) 0, subF true (op true s) (op true d) 0, false) else (subR false (op false s) (op false d) 0, subF false (op false s) (op false d) 0, false)) else if o = 3 then (if b = true then (bits .and .i64 (op true s) (op true d), kc true (bits .and .i64 (op true s) (op true d)) f, false) else (bits .and .i64 (op false s) (op false d), kc false (bits .and .i64 (op false s) (op false d)) f, false)) else if o = 4 then (if b = true then (bits .andNot .i64 (op true d) (op true s), kc true (bits .andNot .i64 (op true d) (op true s)) f, true) else (bits .andNot .i64 (op false d) (op false s), kc false (bits .andNot .i64 (op false d) (op false s)) f, true)) else if o = 5 then (if b = true then (bits .or .i64 (op true s) (op true d), kc true (bits .or .i64 (op true s) (op true d)) f, true) else (bits .or .i64 (op false s) (op false d), kc false (bits .or .i64 (op false s) (op false d)) f, true)) else if o = 6 then (if b = true then (0, 0, false) else (addR false (op false d) (op false s) 0, addF false (op false d) (op false s) 0, true)) else if o = 7 then (if b = true then (0, 0, false) else (subR false (op false d) (op false s) 0, subF false (op false d) (op false s) 0, true)) else if o = 11 then (if b = true then (0, 0, false) else (bits .xor .i64 (op false s) (op false d), kc false (bits .xor .i64 (op false s) (op false d)) f, true)) else (0, 0, false)
theorem rdouble_any (o : Int) (b : Bool) (s d f : Int) (w : World) : Calls Tryd.prog 11 #[.int .i64 o, .bool b, .int .i64 s, .int .i64 d, .int .i64 f] w fun e w' => e = .returned (.tuple #[.int .i64 (dblV o b s d f).1, .int .i64 (dblV o b s d f).2.1, .bool (dblV o b s d f).2.2]) ∧ w = w' := by
  cases b
  · by_cases n1 : o = 1
    · subst n1; exact rdb_mov_f s d f w
    by_cases n2 : o = 2
    · subst n2; exact rdb_cmp_f s d f w
    by_cases n3 : o = 3
    · subst n3; exact rdb_bit_f s d f w
    by_cases n4 : o = 4
    · subst n4; exact rdb_bic_f s d f w
    by_cases n5 : o = 5
    · subst n5; exact rdb_bis_f s d f w
    by_cases n6 : o = 6
    · subst n6; exact rdb_add_f s d f w
    by_cases n7 : o = 7
    · subst n7; exact rdb_sub_f s d f w
    by_cases n11 : o = 11
    · subst n11; exact rdb_xor_f s d f w
    rw [show dblV o false s d f = (0, 0, false) from by unfold dblV; rw [if_neg n1, if_neg n2, if_neg n3, if_neg n4, if_neg n5, if_neg n6, if_neg n7, if_neg n11]]
    exact rdb_else_f o s d f w n1 n2 n3 n4 n5 n6 n7 n11
  · by_cases n1 : o = 1
    · subst n1; exact rdb_mov_t s d f w
    by_cases n2 : o = 2
    · subst n2; exact rdb_cmp_t s d f w
    by_cases n3 : o = 3
    · subst n3; exact rdb_bit_t s d f w
    by_cases n4 : o = 4
    · subst n4; exact rdb_bic_t s d f w
    by_cases n5 : o = 5
    · subst n5; exact rdb_bis_t s d f w
    by_cases n6 : o = 6
    · subst n6; exact rdb_add_t s d f w
    by_cases n7 : o = 7
    · subst n7; exact rdb_sub_t s d f w
    by_cases n11 : o = 11
    · subst n11; exact rdb_xor_t s d f w
    rw [show dblV o true s d f = (0, 0, false) from by unfold dblV; rw [if_neg n1, if_neg n2, if_neg n3, if_neg n4, if_neg n5, if_neg n6, if_neg n7, if_neg n11]]
    exact rdb_else_t o s d f w n1 n2 n3 n4 n5 n6 n7 n11
end Go.Proofs.YtpimdbglmoopcaaDoor
