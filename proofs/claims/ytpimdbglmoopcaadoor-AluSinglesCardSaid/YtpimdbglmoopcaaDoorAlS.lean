/-
  Double of package alu. Condition: the table of widths.
-/
import Derived.Test.YtpimdbglmoopcaaDoorAlR
namespace Go.Proofs.YtpimdbglmoopcaaDoor
open Go.RowKit
set_option linter.unusedSimpArgs false
set_option linter.unusedVariables false
set_option maxHeartbeats 4000000
set_option maxRecDepth 100000
theorem db_mov_f (s d f : Int) (w : World) (W : Wid w) : Calls Tryd.prog 10 #[.int .i64 1, .bool false, .int .i64 s, .int .i64 d, .int .i64 f] w fun e w' => e = .returned (.tuple #[.int .i64 (op false (s)), .int .i64 (kc false (op false (s)) f), .bool true]) ∧ Below w.heap.size w w' := by
  have hwo : ∀ w, Calls Tryd.prog 19 #[.int .i64 1] w fun e w' => e = .returned (.bool false) ∧ w = w' := fun w => wo_any 1 w
  have A1 := and_1 f
  have h1 := reduce_any false (s)
  have h2 := Flags_any false (s)
  have hk := or_kc false (s) f
  generalize kc false (op false (s)) f = p at *
  generalize op false (s) = q at *
  generalize cod (neg false (s)) (zer false (s)) false false = z at *
  have hX := Bag.nil w
  go_enter Tryd.func10, Tryd.ntmps10
  go_wp2_with (first | (go_at_call 19; with_reducible refine (hwo _).mono ?_; rintro e w' ⟨rfl, hw⟩; subst hw) | (go_at_call 22; with_reducible refine (h1 _ W).mono ?_; rintro e w' ⟨rfl, hw⟩; subst hw) | (go_at_call 23; with_reducible refine (h2 _ W).mono ?_; rintro e w' ⟨rfl, hb⟩; replace hX := hX.step hb; replace W := W.below hb; clear hb))
  go_ret3
  exact ⟨rfl, hX.below⟩
theorem db_mov_t (s d f : Int) (w : World) (W : Wid w) : Calls Tryd.prog 10 #[.int .i64 1, .bool true, .int .i64 s, .int .i64 d, .int .i64 f] w fun e w' => e = .returned (.tuple #[.int .i64 (op true (s)), .int .i64 (kc true (op true (s)) f), .bool true]) ∧ Below w.heap.size w w' := by
  have hwo : ∀ w, Calls Tryd.prog 19 #[.int .i64 1] w fun e w' => e = .returned (.bool false) ∧ w = w' := fun w => wo_any 1 w
  have A1 := and_1 f
  have h1 := reduce_any true (s)
  have h2 := Flags_any true (s)
  have hk := or_kc true (s) f
  generalize kc true (op true (s)) f = p at *
  generalize op true (s) = q at *
  generalize cod (neg true (s)) (zer true (s)) false false = z at *
  have hX := Bag.nil w
  go_enter Tryd.func10, Tryd.ntmps10
  go_wp2_with (first | (go_at_call 19; with_reducible refine (hwo _).mono ?_; rintro e w' ⟨rfl, hw⟩; subst hw) | (go_at_call 22; with_reducible refine (h1 _ W).mono ?_; rintro e w' ⟨rfl, hw⟩; subst hw) | (go_at_call 23; with_reducible refine (h2 _ W).mono ?_; rintro e w' ⟨rfl, hb⟩; replace hX := hX.step hb; replace W := W.below hb; clear hb))
  go_ret3
  exact ⟨rfl, hX.below⟩
theorem db_cmp_f (s d f : Int) (w : World) (W : Wid w) : Calls Tryd.prog 10 #[.int .i64 2, .bool false, .int .i64 s, .int .i64 d, .int .i64 f] w fun e w' => e = .returned (.tuple #[.int .i64 (subR false s d 0), .int .i64 (subF false s d 0), .bool false]) ∧ Below w.heap.size w w' := by
  have hwo : ∀ w, Calls Tryd.prog 19 #[.int .i64 2] w fun e w' => e = .returned (.bool false) ∧ w = w' := fun w => wo_any 2 w
  have h1 := Sub_any false s d 0
  generalize subR false s d 0 = q at *
  generalize subF false s d 0 = p at *
  have hX := Bag.nil w
  go_enter Tryd.func10, Tryd.ntmps10
  go_wp2_with (first | (go_at_call 19; with_reducible refine (hwo _).mono ?_; rintro e w' ⟨rfl, hw⟩; subst hw) | (go_at_call 20; with_reducible refine (h1 _ W).mono ?_; rintro e w' ⟨rfl, hb⟩; replace hX := hX.step hb; replace W := W.below hb; clear hb))
  go_ret3
  exact ⟨rfl, hX.below⟩
theorem db_cmp_t (s d f : Int) (w : World) (W : Wid w) : Calls Tryd.prog 10 #[.int .i64 2, .bool true, .int .i64 s, .int .i64 d, .int .i64 f] w fun e w' => e = .returned (.tuple #[.int .i64 (subR true s d 0), .int .i64 (subF true s d 0), .bool false]) ∧ Below w.heap.size w w' := by
  have hwo : ∀ w, Calls Tryd.prog 19 #[.int .i64 2] w fun e w' => e = .returned (.bool false) ∧ w = w' := fun w => wo_any 2 w
  have h1 := Sub_any true s d 0
  generalize subR true s d 0 = q at *
  generalize subF true s d 0 = p at *
  have hX := Bag.nil w
  go_enter Tryd.func10, Tryd.ntmps10
  go_wp2_with (first | (go_at_call 19; with_reducible refine (hwo _).mono ?_; rintro e w' ⟨rfl, hw⟩; subst hw) | (go_at_call 20; with_reducible refine (h1 _ W).mono ?_; rintro e w' ⟨rfl, hb⟩; replace hX := hX.step hb; replace W := W.below hb; clear hb))
  go_ret3
  exact ⟨rfl, hX.below⟩
theorem db_bit_f (s d f : Int) (w : World) (W : Wid w) : Calls Tryd.prog 10 #[.int .i64 3, .bool false, .int .i64 s, .int .i64 d, .int .i64 f] w fun e w' => e = .returned (.tuple #[.int .i64 (op false (bits .and .i64 s d)), .int .i64 (kc false (op false (bits .and .i64 s d)) f), .bool false]) ∧ Below w.heap.size w w' := by
  have hwo : ∀ w, Calls Tryd.prog 19 #[.int .i64 3] w fun e w' => e = .returned (.bool false) ∧ w = w' := fun w => wo_any 3 w
  have A1 := and_1 f
  have h1 := reduce_any false (bits .and .i64 s d)
  have h2 := Flags_any false (bits .and .i64 s d)
  have hk := or_kc false (bits .and .i64 s d) f
  generalize kc false (op false (bits .and .i64 s d)) f = p at *
  generalize op false (bits .and .i64 s d) = q at *
  generalize cod (neg false (bits .and .i64 s d)) (zer false (bits .and .i64 s d)) false false = z at *
  have hX := Bag.nil w
  go_enter Tryd.func10, Tryd.ntmps10
  go_wp2_with (first | (go_at_call 19; with_reducible refine (hwo _).mono ?_; rintro e w' ⟨rfl, hw⟩; subst hw) | (go_at_call 22; with_reducible refine (h1 _ W).mono ?_; rintro e w' ⟨rfl, hw⟩; subst hw) | (go_at_call 23; with_reducible refine (h2 _ W).mono ?_; rintro e w' ⟨rfl, hb⟩; replace hX := hX.step hb; replace W := W.below hb; clear hb))
  go_ret3
  exact ⟨rfl, hX.below⟩
theorem db_bit_t (s d f : Int) (w : World) (W : Wid w) : Calls Tryd.prog 10 #[.int .i64 3, .bool true, .int .i64 s, .int .i64 d, .int .i64 f] w fun e w' => e = .returned (.tuple #[.int .i64 (op true (bits .and .i64 s d)), .int .i64 (kc true (op true (bits .and .i64 s d)) f), .bool false]) ∧ Below w.heap.size w w' := by
  have hwo : ∀ w, Calls Tryd.prog 19 #[.int .i64 3] w fun e w' => e = .returned (.bool false) ∧ w = w' := fun w => wo_any 3 w
  have A1 := and_1 f
  have h1 := reduce_any true (bits .and .i64 s d)
  have h2 := Flags_any true (bits .and .i64 s d)
  have hk := or_kc true (bits .and .i64 s d) f
  generalize kc true (op true (bits .and .i64 s d)) f = p at *
  generalize op true (bits .and .i64 s d) = q at *
  generalize cod (neg true (bits .and .i64 s d)) (zer true (bits .and .i64 s d)) false false = z at *
  have hX := Bag.nil w
  go_enter Tryd.func10, Tryd.ntmps10
  go_wp2_with (first | (go_at_call 19; with_reducible refine (hwo _).mono ?_; rintro e w' ⟨rfl, hw⟩; subst hw) | (go_at_call 22; with_reducible refine (h1 _ W).mono ?_; rintro e w' ⟨rfl, hw⟩; subst hw) | (go_at_call 23; with_reducible refine (h2 _ W).mono ?_; rintro e w' ⟨rfl, hb⟩; replace hX := hX.step hb; replace W := W.below hb; clear hb))
  go_ret3
  exact ⟨rfl, hX.below⟩
theorem db_bic_f (s d f : Int) (w : World) (W : Wid w) : Calls Tryd.prog 10 #[.int .i64 4, .bool false, .int .i64 s, .int .i64 d, .int .i64 f] w fun e w' => e = .returned (.tuple #[.int .i64 (op false (bits .andNot .i64 d s)), .int .i64 (kc false (op false (bits .andNot .i64 d s)) f), .bool true]) ∧ Below w.heap.size w w' := by
  have hwo : ∀ w, Calls Tryd.prog 19 #[.int .i64 4] w fun e w' => e = .returned (.bool false) ∧ w = w' := fun w => wo_any 4 w
  have A1 := and_1 f
  have h1 := reduce_any false (bits .andNot .i64 d s)
  have h2 := Flags_any false (bits .andNot .i64 d s)
  have hk := or_kc false (bits .andNot .i64 d s) f
  generalize kc false (op false (bits .andNot .i64 d s)) f = p at *
  generalize op false (bits .andNot .i64 d s) = q at *
  generalize cod (neg false (bits .andNot .i64 d s)) (zer false (bits .andNot .i64 d s)) false false = z at *
  have hX := Bag.nil w
  go_enter Tryd.func10, Tryd.ntmps10
  go_wp2_with (first | (go_at_call 19; with_reducible refine (hwo _).mono ?_; rintro e w' ⟨rfl, hw⟩; subst hw) | (go_at_call 22; with_reducible refine (h1 _ W).mono ?_; rintro e w' ⟨rfl, hw⟩; subst hw) | (go_at_call 23; with_reducible refine (h2 _ W).mono ?_; rintro e w' ⟨rfl, hb⟩; replace hX := hX.step hb; replace W := W.below hb; clear hb))
  go_ret3
  exact ⟨rfl, hX.below⟩
theorem db_bic_t (s d f : Int) (w : World) (W : Wid w) : Calls Tryd.prog 10 #[.int .i64 4, .bool true, .int .i64 s, .int .i64 d, .int .i64 f] w fun e w' => e = .returned (.tuple #[.int .i64 (op true (bits .andNot .i64 d s)), .int .i64 (kc true (op true (bits .andNot .i64 d s)) f), .bool true]) ∧ Below w.heap.size w w' := by
  have hwo : ∀ w, Calls Tryd.prog 19 #[.int .i64 4] w fun e w' => e = .returned (.bool false) ∧ w = w' := fun w => wo_any 4 w
  have A1 := and_1 f
  have h1 := reduce_any true (bits .andNot .i64 d s)
  have h2 := Flags_any true (bits .andNot .i64 d s)
  have hk := or_kc true (bits .andNot .i64 d s) f
  generalize kc true (op true (bits .andNot .i64 d s)) f = p at *
  generalize op true (bits .andNot .i64 d s) = q at *
  generalize cod (neg true (bits .andNot .i64 d s)) (zer true (bits .andNot .i64 d s)) false false = z at *
  have hX := Bag.nil w
  go_enter Tryd.func10, Tryd.ntmps10
  go_wp2_with (first | (go_at_call 19; with_reducible refine (hwo _).mono ?_; rintro e w' ⟨rfl, hw⟩; subst hw) | (go_at_call 22; with_reducible refine (h1 _ W).mono ?_; rintro e w' ⟨rfl, hw⟩; subst hw) | (go_at_call 23; with_reducible refine (h2 _ W).mono ?_; rintro e w' ⟨rfl, hb⟩; replace hX := hX.step hb; replace W := W.below hb; clear hb))
  go_ret3
  exact ⟨rfl, hX.below⟩
theorem db_bis_f (s d f : Int) (w : World) (W : Wid w) : Calls Tryd.prog 10 #[.int .i64 5, .bool false, .int .i64 s, .int .i64 d, .int .i64 f] w fun e w' => e = .returned (.tuple #[.int .i64 (op false (bits .or .i64 s d)), .int .i64 (kc false (op false (bits .or .i64 s d)) f), .bool true]) ∧ Below w.heap.size w w' := by
  have hwo : ∀ w, Calls Tryd.prog 19 #[.int .i64 5] w fun e w' => e = .returned (.bool false) ∧ w = w' := fun w => wo_any 5 w
  have A1 := and_1 f
  have h1 := reduce_any false (bits .or .i64 s d)
  have h2 := Flags_any false (bits .or .i64 s d)
  have hk := or_kc false (bits .or .i64 s d) f
  generalize kc false (op false (bits .or .i64 s d)) f = p at *
  generalize op false (bits .or .i64 s d) = q at *
  generalize cod (neg false (bits .or .i64 s d)) (zer false (bits .or .i64 s d)) false false = z at *
  have hX := Bag.nil w
  go_enter Tryd.func10, Tryd.ntmps10
  go_wp2_with (first | (go_at_call 19; with_reducible refine (hwo _).mono ?_; rintro e w' ⟨rfl, hw⟩; subst hw) | (go_at_call 22; with_reducible refine (h1 _ W).mono ?_; rintro e w' ⟨rfl, hw⟩; subst hw) | (go_at_call 23; with_reducible refine (h2 _ W).mono ?_; rintro e w' ⟨rfl, hb⟩; replace hX := hX.step hb; replace W := W.below hb; clear hb))
  go_ret3
  exact ⟨rfl, hX.below⟩
theorem db_bis_t (s d f : Int) (w : World) (W : Wid w) : Calls Tryd.prog 10 #[.int .i64 5, .bool true, .int .i64 s, .int .i64 d, .int .i64 f] w fun e w' => e = .returned (.tuple #[.int .i64 (op true (bits .or .i64 s d)), .int .i64 (kc true (op true (bits .or .i64 s d)) f), .bool true]) ∧ Below w.heap.size w w' := by
  have hwo : ∀ w, Calls Tryd.prog 19 #[.int .i64 5] w fun e w' => e = .returned (.bool false) ∧ w = w' := fun w => wo_any 5 w
  have A1 := and_1 f
  have h1 := reduce_any true (bits .or .i64 s d)
  have h2 := Flags_any true (bits .or .i64 s d)
  have hk := or_kc true (bits .or .i64 s d) f
  generalize kc true (op true (bits .or .i64 s d)) f = p at *
  generalize op true (bits .or .i64 s d) = q at *
  generalize cod (neg true (bits .or .i64 s d)) (zer true (bits .or .i64 s d)) false false = z at *
  have hX := Bag.nil w
  go_enter Tryd.func10, Tryd.ntmps10
  go_wp2_with (first | (go_at_call 19; with_reducible refine (hwo _).mono ?_; rintro e w' ⟨rfl, hw⟩; subst hw) | (go_at_call 22; with_reducible refine (h1 _ W).mono ?_; rintro e w' ⟨rfl, hw⟩; subst hw) | (go_at_call 23; with_reducible refine (h2 _ W).mono ?_; rintro e w' ⟨rfl, hb⟩; replace hX := hX.step hb; replace W := W.below hb; clear hb))
  go_ret3
  exact ⟨rfl, hX.below⟩
theorem db_add_f (s d f : Int) (w : World) (W : Wid w) : Calls Tryd.prog 10 #[.int .i64 6, .bool false, .int .i64 s, .int .i64 d, .int .i64 f] w fun e w' => e = .returned (.tuple #[.int .i64 (addR false d s 0), .int .i64 (addF false d s 0), .bool true]) ∧ Below w.heap.size w w' := by
  have hwo : ∀ w, Calls Tryd.prog 19 #[.int .i64 6] w fun e w' => e = .returned (.bool true) ∧ w = w' := fun w => wo_any 6 w
  have h1 := Add_any false d s 0
  generalize addR false d s 0 = q at *
  generalize addF false d s 0 = p at *
  have hX := Bag.nil w
  go_enter Tryd.func10, Tryd.ntmps10
  go_wp2_with (first | (go_at_call 19; with_reducible refine (hwo _).mono ?_; rintro e w' ⟨rfl, hw⟩; subst hw) | (go_at_call 21; with_reducible refine (h1 _ W).mono ?_; rintro e w' ⟨rfl, hb⟩; replace hX := hX.step hb; replace W := W.below hb; clear hb))
  go_ret3
  exact ⟨rfl, hX.below⟩
theorem db_sub_f (s d f : Int) (w : World) (W : Wid w) : Calls Tryd.prog 10 #[.int .i64 7, .bool false, .int .i64 s, .int .i64 d, .int .i64 f] w fun e w' => e = .returned (.tuple #[.int .i64 (subR false d s 0), .int .i64 (subF false d s 0), .bool true]) ∧ Below w.heap.size w w' := by
  have hwo : ∀ w, Calls Tryd.prog 19 #[.int .i64 7] w fun e w' => e = .returned (.bool true) ∧ w = w' := fun w => wo_any 7 w
  have h1 := Sub_any false d s 0
  generalize subR false d s 0 = q at *
  generalize subF false d s 0 = p at *
  have hX := Bag.nil w
  go_enter Tryd.func10, Tryd.ntmps10
  go_wp2_with (first | (go_at_call 19; with_reducible refine (hwo _).mono ?_; rintro e w' ⟨rfl, hw⟩; subst hw) | (go_at_call 20; with_reducible refine (h1 _ W).mono ?_; rintro e w' ⟨rfl, hb⟩; replace hX := hX.step hb; replace W := W.below hb; clear hb))
  go_ret3
  exact ⟨rfl, hX.below⟩
theorem db_xor_f (s d f : Int) (w : World) (W : Wid w) : Calls Tryd.prog 10 #[.int .i64 11, .bool false, .int .i64 s, .int .i64 d, .int .i64 f] w fun e w' => e = .returned (.tuple #[.int .i64 (op false (bits .xor .i64 s d)), .int .i64 (kc false (op false (bits .xor .i64 s d)) f), .bool true]) ∧ Below w.heap.size w w' := by
  have hwo : ∀ w, Calls Tryd.prog 19 #[.int .i64 11] w fun e w' => e = .returned (.bool true) ∧ w = w' := fun w => wo_any 11 w
  have A1 := and_1 f
  have h1 := reduce_any false (bits .xor .i64 s d)
  have h2 := Flags_any false (bits .xor .i64 s d)
  have hk := or_kc false (bits .xor .i64 s d) f
  generalize kc false (op false (bits .xor .i64 s d)) f = p at *
  generalize op false (bits .xor .i64 s d) = q at *
  generalize cod (neg false (bits .xor .i64 s d)) (zer false (bits .xor .i64 s d)) false false = z at *
  have hX := Bag.nil w
  go_enter Tryd.func10, Tryd.ntmps10
  go_wp2_with (first | (go_at_call 19; with_reducible refine (hwo _).mono ?_; rintro e w' ⟨rfl, hw⟩; subst hw) | (go_at_call 22; with_reducible refine (h1 _ W).mono ?_; rintro e w' ⟨rfl, hw⟩; subst hw) | (go_at_call 23; with_reducible refine (h2 _ W).mono ?_; rintro e w' ⟨rfl, hb⟩; replace hX := hX.step hb; replace W := W.below hb; clear hb))
  go_ret3
  exact ⟨rfl, hX.below⟩
theorem db_no (o : Int) (h : wo o = true) (s d f : Int) (w : World) (W : Wid w) : Calls Tryd.prog 10 #[.int .i64 o, .bool true, .int .i64 s, .int .i64 d, .int .i64 f] w fun e w' => e = .returned (.tuple #[.int .i64 (0), .int .i64 (0), .bool false]) ∧ Below w.heap.size w w' := by
  have hwo := fun w => wo_any o w
  rw [h] at hwo
  have hX := Bag.nil w
  go_enter Tryd.func10, Tryd.ntmps10
  go_wp2_with (first | (go_at_call 19; with_reducible refine (hwo _).mono ?_; rintro e w' ⟨rfl, hw⟩; subst hw))
  go_ret3
  exact ⟨rfl, hX.below⟩
theorem db_else (o : Int) (b : Bool) (s d f : Int) (w : World) (W : Wid w) (n1 : ¬ o = 1) (n2 : ¬ o = 2) (n3 : ¬ o = 3) (n4 : ¬ o = 4) (n5 : ¬ o = 5) (n6 : ¬ o = 6) (n7 : ¬ o = 7) (n11 : ¬ o = 11) : Calls Tryd.prog 10 #[.int .i64 o, .bool b, .int .i64 s, .int .i64 d, .int .i64 f] w fun e w' => e = .returned (.tuple #[.int .i64 (0), .int .i64 (0), .bool false]) ∧ Below w.heap.size w w' := by
  have e1 : (o == 1) = false := by simpa using n1
  have e2 : (o == 2) = false := by simpa using n2
  have e3 : (o == 3) = false := by simpa using n3
  have e4 : (o == 4) = false := by simpa using n4
  have e5 : (o == 5) = false := by simpa using n5
  have e6 : (o == 6) = false := by simpa using n6
  have e7 : (o == 7) = false := by simpa using n7
  have e11 : (o == 11) = false := by simpa using n11
  have hwo := fun w => wo_any o w
  generalize wo o = g at *
  have hX := Bag.nil w
  cases b <;> cases g
  all_goals
    go_enter Tryd.func10, Tryd.ntmps10
    go_wp2_with (first | (go_at_call 19; with_reducible refine (hwo _).mono ?_; rintro e w' ⟨rfl, hw⟩; subst hw))
    go_ret3
    exact ⟨rfl, hX.below⟩
theorem Double_any (o : Int) (b : Bool) (s d f : Int) (w : World) (W : Wid w) : Calls Tryd.prog 10 #[.int .i64 o, .bool b, .int .i64 s, .int .i64 d, .int .i64 f] w fun e w' => e = .returned (.tuple #[.int .i64 ((dblV o b s d f).1), .int .i64 ((dblV o b s d f).2.1), .bool (dblV o b s d f).2.2]) ∧ Below w.heap.size w w' := by
  by_cases n1 : o = 1
  · subst n1
    cases b
    · have h := db_mov_f s d f w W
      exact h
    · have h := db_mov_t s d f w W
      exact h
  by_cases n2 : o = 2
  · subst n2
    cases b
    · have h := db_cmp_f s d f w W
      rw [← subR_op, ← subF_op] at h
      exact h
    · have h := db_cmp_t s d f w W
      rw [← subR_op, ← subF_op] at h
      exact h
  by_cases n3 : o = 3
  · subst n3
    cases b
    · have h := db_bit_f s d f w W
      rw [← op_and] at h
      exact h
    · have h := db_bit_t s d f w W
      rw [← op_and] at h
      exact h
  by_cases n4 : o = 4
  · subst n4
    cases b
    · have h := db_bic_f s d f w W
      rw [← op_andNot] at h
      exact h
    · have h := db_bic_t s d f w W
      rw [← op_andNot] at h
      exact h
  by_cases n5 : o = 5
  · subst n5
    cases b
    · have h := db_bis_f s d f w W
      rw [← op_or] at h
      exact h
    · have h := db_bis_t s d f w W
      rw [← op_or] at h
      exact h
  by_cases n6 : o = 6
  · subst n6
    cases b
    · have h := db_add_f s d f w W
      rw [← addR_op, ← addF_op] at h
      exact h
    · exact db_no 6 rfl s d f w W
  by_cases n7 : o = 7
  · subst n7
    cases b
    · have h := db_sub_f s d f w W
      rw [← subR_op, ← subF_op] at h
      exact h
    · exact db_no 7 rfl s d f w W
  by_cases n11 : o = 11
  · subst n11
    cases b
    · have h := db_xor_f s d f w W
      rw [← op_xor] at h
      exact h
    · exact db_no 11 rfl s d f w W
  rw [show dblV o b s d f = (0, 0, false) from by unfold dblV; rw [if_neg n1, if_neg n2, if_neg n3, if_neg n4, if_neg n5, if_neg n6, if_neg n7, if_neg n11]]
  exact db_else o b s d f w W n1 n2 n3 n4 n5 n6 n7 n11
end Go.Proofs.YtpimdbglmoopcaaDoor
