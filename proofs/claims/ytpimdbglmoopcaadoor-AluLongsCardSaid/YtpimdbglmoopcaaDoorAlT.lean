/-
  Single of package alu. Condition: the table of widths.
-/
import Derived.Test.YtpimdbglmoopcaaDoorAlS
import Derived.Test.YtpimdbglmoopcaaDoorExits
namespace Go.Proofs.YtpimdbglmoopcaaDoor
open Go.RowKit
set_option linter.unusedSimpArgs false
set_option linter.unusedVariables false
set_option maxHeartbeats 4000000
set_option maxRecDepth 100000
theorem sn_clr_f (v f : Int) (w : World) (W : Wid w) : Calls Tryd.prog 13 #[.int .i64 12, .bool false, .int .i64 v, .int .i64 f] w fun e w' => e = .returned (.tuple #[.int .i64 (0), .int .i64 (4), .bool true]) ∧ Below w.heap.size w w' := by
  have hwo : ∀ w, Calls Tryd.prog 19 #[.int .i64 12] w fun e w' => e = .returned (.bool false) ∧ w = w' := fun w => wo_any 12 w
  have A1 := and_1 f
  have h1 : ∀ w, Wid w → Calls Tryd.prog 22 #[.int .i64 0, .bool false] w fun e w' => e = .returned (.int .i64 0) ∧ w = w' := reduce_any false 0
  have h2 : ∀ w, Wid w → Calls Tryd.prog 23 #[.int .i64 0, .bool false] w fun e w' => e = .returned (.int .i64 4) ∧ Below w.heap.size w w' := Flags_any false 0
  have hX := Bag.nil w
  go_enter Tryd.func13, Tryd.ntmps13
  repeat ((fail_if_success (with_reducible refine blk_end ?_)); first | (go_says (go_at_call 19; with_reducible refine (hwo _).mono ?_; rintro e w' ⟨rfl, hw⟩; subst hw)) | go_values | go_skip | go_guarded | go_step | go_upon | go_back | (simp only [Int.not_lt, Int.not_le] at *; go_simp) | (go_values <;> (try go_simp)))
  refine blk_end ?_
  refine blk_out rfl ?_
  refine blk_out rfl ?_
  refine blk_out rfl ?_
  refine blk_out rfl ?_
  refine blk_out rfl ?_
  refine blk_out rfl ?_
  refine blk_out rfl ?_
  refine blk_out rfl ?_
  refine blk_out rfl ?_
  refine blk_out rfl ?_
  refine blk_out rfl ?_
  refine blk_out rfl ?_
  refine blk_out rfl ?_
  refine blk_thru ?_
  refine blk_hit ?_
  go_wp2
  refine ⟨rfl, ?_⟩
  go_wp2_with (first | (go_at_call 19; with_reducible refine (hwo _).mono ?_; rintro e w' ⟨rfl, hw⟩; subst hw) | (go_at_call 22; with_reducible refine (h1 _ W).mono ?_; rintro e w' ⟨rfl, hw⟩; subst hw) | (go_at_call 23; with_reducible refine (h2 _ W).mono ?_; rintro e w' ⟨rfl, hb⟩; replace hX := hX.step hb; replace W := W.below hb; clear hb))
  refine ⟨rfl, ?_⟩
  go_wp2_with (first | (go_at_call 19; with_reducible refine (hwo _).mono ?_; rintro e w' ⟨rfl, hw⟩; subst hw) | (go_at_call 22; with_reducible refine (h1 _ W).mono ?_; rintro e w' ⟨rfl, hw⟩; subst hw) | (go_at_call 23; with_reducible refine (h2 _ W).mono ?_; rintro e w' ⟨rfl, hb⟩; replace hX := hX.step hb; replace W := W.below hb; clear hb))
  refine ⟨rfl, ?_⟩
  go_wp2_with (first | (go_at_call 19; with_reducible refine (hwo _).mono ?_; rintro e w' ⟨rfl, hw⟩; subst hw) | (go_at_call 22; with_reducible refine (h1 _ W).mono ?_; rintro e w' ⟨rfl, hw⟩; subst hw) | (go_at_call 23; with_reducible refine (h2 _ W).mono ?_; rintro e w' ⟨rfl, hb⟩; replace hX := hX.step hb; replace W := W.below hb; clear hb))
  go_ret3
  exact ⟨rfl, hX.below⟩
theorem sn_clr_t (v f : Int) (w : World) (W : Wid w) : Calls Tryd.prog 13 #[.int .i64 12, .bool true, .int .i64 v, .int .i64 f] w fun e w' => e = .returned (.tuple #[.int .i64 (0), .int .i64 (4), .bool true]) ∧ Below w.heap.size w w' := by
  have hwo : ∀ w, Calls Tryd.prog 19 #[.int .i64 12] w fun e w' => e = .returned (.bool false) ∧ w = w' := fun w => wo_any 12 w
  have A1 := and_1 f
  have h1 : ∀ w, Wid w → Calls Tryd.prog 22 #[.int .i64 0, .bool true] w fun e w' => e = .returned (.int .i64 0) ∧ w = w' := reduce_any true 0
  have h2 : ∀ w, Wid w → Calls Tryd.prog 23 #[.int .i64 0, .bool true] w fun e w' => e = .returned (.int .i64 4) ∧ Below w.heap.size w w' := Flags_any true 0
  have hX := Bag.nil w
  go_enter Tryd.func13, Tryd.ntmps13
  repeat ((fail_if_success (with_reducible refine blk_end ?_)); first | (go_says (go_at_call 19; with_reducible refine (hwo _).mono ?_; rintro e w' ⟨rfl, hw⟩; subst hw)) | go_values | go_skip | go_guarded | go_step | go_upon | go_back | (simp only [Int.not_lt, Int.not_le] at *; go_simp) | (go_values <;> (try go_simp)))
  refine blk_end ?_
  refine blk_out rfl ?_
  refine blk_out rfl ?_
  refine blk_out rfl ?_
  refine blk_out rfl ?_
  refine blk_out rfl ?_
  refine blk_out rfl ?_
  refine blk_out rfl ?_
  refine blk_out rfl ?_
  refine blk_out rfl ?_
  refine blk_out rfl ?_
  refine blk_out rfl ?_
  refine blk_out rfl ?_
  refine blk_out rfl ?_
  refine blk_thru ?_
  refine blk_hit ?_
  go_wp2
  refine ⟨rfl, ?_⟩
  go_wp2_with (first | (go_at_call 19; with_reducible refine (hwo _).mono ?_; rintro e w' ⟨rfl, hw⟩; subst hw) | (go_at_call 22; with_reducible refine (h1 _ W).mono ?_; rintro e w' ⟨rfl, hw⟩; subst hw) | (go_at_call 23; with_reducible refine (h2 _ W).mono ?_; rintro e w' ⟨rfl, hb⟩; replace hX := hX.step hb; replace W := W.below hb; clear hb))
  refine ⟨rfl, ?_⟩
  go_wp2_with (first | (go_at_call 19; with_reducible refine (hwo _).mono ?_; rintro e w' ⟨rfl, hw⟩; subst hw) | (go_at_call 22; with_reducible refine (h1 _ W).mono ?_; rintro e w' ⟨rfl, hw⟩; subst hw) | (go_at_call 23; with_reducible refine (h2 _ W).mono ?_; rintro e w' ⟨rfl, hb⟩; replace hX := hX.step hb; replace W := W.below hb; clear hb))
  refine ⟨rfl, ?_⟩
  go_wp2_with (first | (go_at_call 19; with_reducible refine (hwo _).mono ?_; rintro e w' ⟨rfl, hw⟩; subst hw) | (go_at_call 22; with_reducible refine (h1 _ W).mono ?_; rintro e w' ⟨rfl, hw⟩; subst hw) | (go_at_call 23; with_reducible refine (h2 _ W).mono ?_; rintro e w' ⟨rfl, hb⟩; replace hX := hX.step hb; replace W := W.below hb; clear hb))
  go_ret3
  exact ⟨rfl, hX.below⟩
theorem sn_com_f (v f : Int) (w : World) (W : Wid w) : Calls Tryd.prog 13 #[.int .i64 13, .bool false, .int .i64 v, .int .i64 f] w fun e w' => e = .returned (.tuple #[.int .i64 (op false (bits .xor .i64 (-1) v)), .int .i64 (cod (neg false (bits .xor .i64 (-1) v)) (zer false (bits .xor .i64 (-1) v)) false false + 1), .bool true]) ∧ Below w.heap.size w w' := by
  have hwo : ∀ w, Calls Tryd.prog 19 #[.int .i64 13] w fun e w' => e = .returned (.bool false) ∧ w = w' := fun w => wo_any 13 w
  have A1 := and_1 f
  have hsg : IntKind.i64.signed = true := rfl
  have h1 := reduce_any false (bits .xor .i64 (-1) v)
  have h2 := Flags_any false (bits .xor .i64 (-1) v)
  have hk := or_one (neg false (bits .xor .i64 (-1) v)) (zer false (bits .xor .i64 (-1) v))
  generalize cod (neg false (bits .xor .i64 (-1) v)) (zer false (bits .xor .i64 (-1) v)) false false = p at *
  generalize op false (bits .xor .i64 (-1) v) = q at *
  have hX := Bag.nil w
  go_enter Tryd.func13, Tryd.ntmps13
  repeat ((fail_if_success (with_reducible refine blk_end ?_)); first | (go_says (go_at_call 19; with_reducible refine (hwo _).mono ?_; rintro e w' ⟨rfl, hw⟩; subst hw)) | go_values | go_skip | go_guarded | go_step | go_upon | go_back | (simp only [Int.not_lt, Int.not_le] at *; go_simp) | (go_values <;> (try go_simp)))
  refine blk_end ?_
  refine blk_out rfl ?_
  refine blk_out rfl ?_
  refine blk_out rfl ?_
  refine blk_out rfl ?_
  refine blk_out rfl ?_
  refine blk_out rfl ?_
  refine blk_out rfl ?_
  refine blk_out rfl ?_
  refine blk_out rfl ?_
  refine blk_out rfl ?_
  refine blk_out rfl ?_
  refine blk_out rfl ?_
  refine blk_hit ?_
  refine blk_out rfl ?_
  refine blk_out rfl ?_
  go_wp2
  refine ⟨rfl, ?_⟩
  go_wp2_with (first | (go_at_call 19; with_reducible refine (hwo _).mono ?_; rintro e w' ⟨rfl, hw⟩; subst hw) | (go_at_call 22; with_reducible refine (h1 _ W).mono ?_; rintro e w' ⟨rfl, hw⟩; subst hw) | (go_at_call 23; with_reducible refine (h2 _ W).mono ?_; rintro e w' ⟨rfl, hb⟩; replace hX := hX.step hb; replace W := W.below hb; clear hb))
  refine ⟨rfl, ?_⟩
  go_wp2_with (first | (go_at_call 19; with_reducible refine (hwo _).mono ?_; rintro e w' ⟨rfl, hw⟩; subst hw) | (go_at_call 22; with_reducible refine (h1 _ W).mono ?_; rintro e w' ⟨rfl, hw⟩; subst hw) | (go_at_call 23; with_reducible refine (h2 _ W).mono ?_; rintro e w' ⟨rfl, hb⟩; replace hX := hX.step hb; replace W := W.below hb; clear hb))
  go_ret3
  exact ⟨rfl, hX.below⟩
theorem sn_com_t (v f : Int) (w : World) (W : Wid w) : Calls Tryd.prog 13 #[.int .i64 13, .bool true, .int .i64 v, .int .i64 f] w fun e w' => e = .returned (.tuple #[.int .i64 (op true (bits .xor .i64 (-1) v)), .int .i64 (cod (neg true (bits .xor .i64 (-1) v)) (zer true (bits .xor .i64 (-1) v)) false false + 1), .bool true]) ∧ Below w.heap.size w w' := by
  have hwo : ∀ w, Calls Tryd.prog 19 #[.int .i64 13] w fun e w' => e = .returned (.bool false) ∧ w = w' := fun w => wo_any 13 w
  have A1 := and_1 f
  have hsg : IntKind.i64.signed = true := rfl
  have h1 := reduce_any true (bits .xor .i64 (-1) v)
  have h2 := Flags_any true (bits .xor .i64 (-1) v)
  have hk := or_one (neg true (bits .xor .i64 (-1) v)) (zer true (bits .xor .i64 (-1) v))
  generalize cod (neg true (bits .xor .i64 (-1) v)) (zer true (bits .xor .i64 (-1) v)) false false = p at *
  generalize op true (bits .xor .i64 (-1) v) = q at *
  have hX := Bag.nil w
  go_enter Tryd.func13, Tryd.ntmps13
  repeat ((fail_if_success (with_reducible refine blk_end ?_)); first | (go_says (go_at_call 19; with_reducible refine (hwo _).mono ?_; rintro e w' ⟨rfl, hw⟩; subst hw)) | go_values | go_skip | go_guarded | go_step | go_upon | go_back | (simp only [Int.not_lt, Int.not_le] at *; go_simp) | (go_values <;> (try go_simp)))
  refine blk_end ?_
  refine blk_out rfl ?_
  refine blk_out rfl ?_
  refine blk_out rfl ?_
  refine blk_out rfl ?_
  refine blk_out rfl ?_
  refine blk_out rfl ?_
  refine blk_out rfl ?_
  refine blk_out rfl ?_
  refine blk_out rfl ?_
  refine blk_out rfl ?_
  refine blk_out rfl ?_
  refine blk_out rfl ?_
  refine blk_hit ?_
  refine blk_out rfl ?_
  refine blk_out rfl ?_
  go_wp2
  refine ⟨rfl, ?_⟩
  go_wp2_with (first | (go_at_call 19; with_reducible refine (hwo _).mono ?_; rintro e w' ⟨rfl, hw⟩; subst hw) | (go_at_call 22; with_reducible refine (h1 _ W).mono ?_; rintro e w' ⟨rfl, hw⟩; subst hw) | (go_at_call 23; with_reducible refine (h2 _ W).mono ?_; rintro e w' ⟨rfl, hb⟩; replace hX := hX.step hb; replace W := W.below hb; clear hb))
  refine ⟨rfl, ?_⟩
  go_wp2_with (first | (go_at_call 19; with_reducible refine (hwo _).mono ?_; rintro e w' ⟨rfl, hw⟩; subst hw) | (go_at_call 22; with_reducible refine (h1 _ W).mono ?_; rintro e w' ⟨rfl, hw⟩; subst hw) | (go_at_call 23; with_reducible refine (h2 _ W).mono ?_; rintro e w' ⟨rfl, hb⟩; replace hX := hX.step hb; replace W := W.below hb; clear hb))
  go_ret3
  exact ⟨rfl, hX.below⟩
theorem sn_inc_f (v f : Int) (w : World) (W : Wid w) : Calls Tryd.prog 13 #[.int .i64 14, .bool false, .int .i64 v, .int .i64 f] w fun e w' => e = .returned (.tuple #[.int .i64 (addR false v 1 0), .int .i64 (addF false v 1 0 / 2 * 2 + f % 2), .bool true]) ∧ Below w.heap.size w w' := by
  have hwo : ∀ w, Calls Tryd.prog 19 #[.int .i64 14] w fun e w' => e = .returned (.bool false) ∧ w = w' := fun w => wo_any 14 w
  have A1 := and_1 f
  have h1 := Add_any false v 1 0
  have h2 := withCarry_any (addF false v 1 0) (f % 2) _ (inc_c false v 1 0 f)
  generalize addF false v 1 0 / 2 * 2 + f % 2 = z at *
  generalize addR false v 1 0 = q at *
  generalize addF false v 1 0 = p at *
  have hX := Bag.nil w
  go_enter Tryd.func13, Tryd.ntmps13
  repeat ((fail_if_success (with_reducible refine blk_end ?_)); first | (go_says (go_at_call 19; with_reducible refine (hwo _).mono ?_; rintro e w' ⟨rfl, hw⟩; subst hw)) | go_values | go_skip | go_guarded | go_step | go_upon | go_back | (simp only [Int.not_lt, Int.not_le] at *; go_simp) | (go_values <;> (try go_simp)))
  refine blk_end ?_
  refine blk_out rfl ?_
  refine blk_out rfl ?_
  refine blk_out rfl ?_
  refine blk_out rfl ?_
  refine blk_out rfl ?_
  refine blk_out rfl ?_
  refine blk_out rfl ?_
  refine blk_out rfl ?_
  refine blk_out rfl ?_
  refine blk_out rfl ?_
  refine blk_out rfl ?_
  refine blk_hit ?_
  refine blk_out rfl ?_
  refine blk_out rfl ?_
  refine blk_out rfl ?_
  go_wp2
  refine ⟨rfl, ?_⟩
  go_wp2_with (first | (go_at_call 19; with_reducible refine (hwo _).mono ?_; rintro e w' ⟨rfl, hw⟩; subst hw) | (go_at_call 21; with_reducible refine (h1 _ W).mono ?_; rintro e w' ⟨rfl, hb⟩; replace hX := hX.step hb; replace W := W.below hb; clear hb) | (go_at_call 28; with_reducible refine (h2 _).mono ?_; rintro e w' ⟨rfl, hw⟩; subst hw))
  refine ⟨rfl, ?_⟩
  go_wp2_with (first | (go_at_call 19; with_reducible refine (hwo _).mono ?_; rintro e w' ⟨rfl, hw⟩; subst hw) | (go_at_call 21; with_reducible refine (h1 _ W).mono ?_; rintro e w' ⟨rfl, hb⟩; replace hX := hX.step hb; replace W := W.below hb; clear hb) | (go_at_call 28; with_reducible refine (h2 _).mono ?_; rintro e w' ⟨rfl, hw⟩; subst hw))
  go_ret3
  exact ⟨rfl, hX.below⟩
theorem sn_inc_t (v f : Int) (w : World) (W : Wid w) : Calls Tryd.prog 13 #[.int .i64 14, .bool true, .int .i64 v, .int .i64 f] w fun e w' => e = .returned (.tuple #[.int .i64 (addR true v 1 0), .int .i64 (addF true v 1 0 / 2 * 2 + f % 2), .bool true]) ∧ Below w.heap.size w w' := by
  have hwo : ∀ w, Calls Tryd.prog 19 #[.int .i64 14] w fun e w' => e = .returned (.bool false) ∧ w = w' := fun w => wo_any 14 w
  have A1 := and_1 f
  have h1 := Add_any true v 1 0
  have h2 := withCarry_any (addF true v 1 0) (f % 2) _ (inc_c true v 1 0 f)
  generalize addF true v 1 0 / 2 * 2 + f % 2 = z at *
  generalize addR true v 1 0 = q at *
  generalize addF true v 1 0 = p at *
  have hX := Bag.nil w
  go_enter Tryd.func13, Tryd.ntmps13
  repeat ((fail_if_success (with_reducible refine blk_end ?_)); first | (go_says (go_at_call 19; with_reducible refine (hwo _).mono ?_; rintro e w' ⟨rfl, hw⟩; subst hw)) | go_values | go_skip | go_guarded | go_step | go_upon | go_back | (simp only [Int.not_lt, Int.not_le] at *; go_simp) | (go_values <;> (try go_simp)))
  refine blk_end ?_
  refine blk_out rfl ?_
  refine blk_out rfl ?_
  refine blk_out rfl ?_
  refine blk_out rfl ?_
  refine blk_out rfl ?_
  refine blk_out rfl ?_
  refine blk_out rfl ?_
  refine blk_out rfl ?_
  refine blk_out rfl ?_
  refine blk_out rfl ?_
  refine blk_out rfl ?_
  refine blk_hit ?_
  refine blk_out rfl ?_
  refine blk_out rfl ?_
  refine blk_out rfl ?_
  go_wp2
  refine ⟨rfl, ?_⟩
  go_wp2_with (first | (go_at_call 19; with_reducible refine (hwo _).mono ?_; rintro e w' ⟨rfl, hw⟩; subst hw) | (go_at_call 21; with_reducible refine (h1 _ W).mono ?_; rintro e w' ⟨rfl, hb⟩; replace hX := hX.step hb; replace W := W.below hb; clear hb) | (go_at_call 28; with_reducible refine (h2 _).mono ?_; rintro e w' ⟨rfl, hw⟩; subst hw))
  refine ⟨rfl, ?_⟩
  go_wp2_with (first | (go_at_call 19; with_reducible refine (hwo _).mono ?_; rintro e w' ⟨rfl, hw⟩; subst hw) | (go_at_call 21; with_reducible refine (h1 _ W).mono ?_; rintro e w' ⟨rfl, hb⟩; replace hX := hX.step hb; replace W := W.below hb; clear hb) | (go_at_call 28; with_reducible refine (h2 _).mono ?_; rintro e w' ⟨rfl, hw⟩; subst hw))
  go_ret3
  exact ⟨rfl, hX.below⟩
theorem sn_dec_f (v f : Int) (w : World) (W : Wid w) : Calls Tryd.prog 13 #[.int .i64 15, .bool false, .int .i64 v, .int .i64 f] w fun e w' => e = .returned (.tuple #[.int .i64 (subR false v 1 0), .int .i64 (subF false v 1 0 / 2 * 2 + f % 2), .bool true]) ∧ Below w.heap.size w w' := by
  have hwo : ∀ w, Calls Tryd.prog 19 #[.int .i64 15] w fun e w' => e = .returned (.bool false) ∧ w = w' := fun w => wo_any 15 w
  have A1 := and_1 f
  have h1 := Sub_any false v 1 0
  have h2 := withCarry_any (subF false v 1 0) (f % 2) _ (dec_c false v 1 0 f)
  generalize subF false v 1 0 / 2 * 2 + f % 2 = z at *
  generalize subR false v 1 0 = q at *
  generalize subF false v 1 0 = p at *
  have hX := Bag.nil w
  go_enter Tryd.func13, Tryd.ntmps13
  repeat ((fail_if_success (with_reducible refine blk_end ?_)); first | (go_says (go_at_call 19; with_reducible refine (hwo _).mono ?_; rintro e w' ⟨rfl, hw⟩; subst hw)) | go_values | go_skip | go_guarded | go_step | go_upon | go_back | (simp only [Int.not_lt, Int.not_le] at *; go_simp) | (go_values <;> (try go_simp)))
  refine blk_end ?_
  refine blk_out rfl ?_
  refine blk_out rfl ?_
  refine blk_out rfl ?_
  refine blk_out rfl ?_
  refine blk_out rfl ?_
  refine blk_out rfl ?_
  refine blk_out rfl ?_
  refine blk_out rfl ?_
  refine blk_out rfl ?_
  refine blk_out rfl ?_
  refine blk_hit ?_
  refine blk_out rfl ?_
  refine blk_out rfl ?_
  refine blk_out rfl ?_
  refine blk_out rfl ?_
  go_wp2
  refine ⟨rfl, ?_⟩
  go_wp2_with (first | (go_at_call 19; with_reducible refine (hwo _).mono ?_; rintro e w' ⟨rfl, hw⟩; subst hw) | (go_at_call 20; with_reducible refine (h1 _ W).mono ?_; rintro e w' ⟨rfl, hb⟩; replace hX := hX.step hb; replace W := W.below hb; clear hb) | (go_at_call 28; with_reducible refine (h2 _).mono ?_; rintro e w' ⟨rfl, hw⟩; subst hw))
  refine ⟨rfl, ?_⟩
  go_wp2_with (first | (go_at_call 19; with_reducible refine (hwo _).mono ?_; rintro e w' ⟨rfl, hw⟩; subst hw) | (go_at_call 20; with_reducible refine (h1 _ W).mono ?_; rintro e w' ⟨rfl, hb⟩; replace hX := hX.step hb; replace W := W.below hb; clear hb) | (go_at_call 28; with_reducible refine (h2 _).mono ?_; rintro e w' ⟨rfl, hw⟩; subst hw))
  go_ret3
  exact ⟨rfl, hX.below⟩
theorem sn_dec_t (v f : Int) (w : World) (W : Wid w) : Calls Tryd.prog 13 #[.int .i64 15, .bool true, .int .i64 v, .int .i64 f] w fun e w' => e = .returned (.tuple #[.int .i64 (subR true v 1 0), .int .i64 (subF true v 1 0 / 2 * 2 + f % 2), .bool true]) ∧ Below w.heap.size w w' := by
  have hwo : ∀ w, Calls Tryd.prog 19 #[.int .i64 15] w fun e w' => e = .returned (.bool false) ∧ w = w' := fun w => wo_any 15 w
  have A1 := and_1 f
  have h1 := Sub_any true v 1 0
  have h2 := withCarry_any (subF true v 1 0) (f % 2) _ (dec_c true v 1 0 f)
  generalize subF true v 1 0 / 2 * 2 + f % 2 = z at *
  generalize subR true v 1 0 = q at *
  generalize subF true v 1 0 = p at *
  have hX := Bag.nil w
  go_enter Tryd.func13, Tryd.ntmps13
  repeat ((fail_if_success (with_reducible refine blk_end ?_)); first | (go_says (go_at_call 19; with_reducible refine (hwo _).mono ?_; rintro e w' ⟨rfl, hw⟩; subst hw)) | go_values | go_skip | go_guarded | go_step | go_upon | go_back | (simp only [Int.not_lt, Int.not_le] at *; go_simp) | (go_values <;> (try go_simp)))
  refine blk_end ?_
  refine blk_out rfl ?_
  refine blk_out rfl ?_
  refine blk_out rfl ?_
  refine blk_out rfl ?_
  refine blk_out rfl ?_
  refine blk_out rfl ?_
  refine blk_out rfl ?_
  refine blk_out rfl ?_
  refine blk_out rfl ?_
  refine blk_out rfl ?_
  refine blk_hit ?_
  refine blk_out rfl ?_
  refine blk_out rfl ?_
  refine blk_out rfl ?_
  refine blk_out rfl ?_
  go_wp2
  refine ⟨rfl, ?_⟩
  go_wp2_with (first | (go_at_call 19; with_reducible refine (hwo _).mono ?_; rintro e w' ⟨rfl, hw⟩; subst hw) | (go_at_call 20; with_reducible refine (h1 _ W).mono ?_; rintro e w' ⟨rfl, hb⟩; replace hX := hX.step hb; replace W := W.below hb; clear hb) | (go_at_call 28; with_reducible refine (h2 _).mono ?_; rintro e w' ⟨rfl, hw⟩; subst hw))
  refine ⟨rfl, ?_⟩
  go_wp2_with (first | (go_at_call 19; with_reducible refine (hwo _).mono ?_; rintro e w' ⟨rfl, hw⟩; subst hw) | (go_at_call 20; with_reducible refine (h1 _ W).mono ?_; rintro e w' ⟨rfl, hb⟩; replace hX := hX.step hb; replace W := W.below hb; clear hb) | (go_at_call 28; with_reducible refine (h2 _).mono ?_; rintro e w' ⟨rfl, hw⟩; subst hw))
  go_ret3
  exact ⟨rfl, hX.below⟩
theorem sn_neg_f (v f : Int) (w : World) (W : Wid w) : Calls Tryd.prog 13 #[.int .i64 16, .bool false, .int .i64 v, .int .i64 f] w fun e w' => e = .returned (.tuple #[.int .i64 (subR false 0 v 0), .int .i64 (subF false 0 v 0), .bool true]) ∧ Below w.heap.size w w' := by
  have hwo : ∀ w, Calls Tryd.prog 19 #[.int .i64 16] w fun e w' => e = .returned (.bool false) ∧ w = w' := fun w => wo_any 16 w
  have A1 := and_1 f
  have h1 := Sub_any false 0 v 0
  generalize subR false 0 v 0 = q at *
  generalize subF false 0 v 0 = p at *
  have hX := Bag.nil w
  go_enter Tryd.func13, Tryd.ntmps13
  repeat ((fail_if_success (with_reducible refine blk_end ?_)); first | (go_says (go_at_call 19; with_reducible refine (hwo _).mono ?_; rintro e w' ⟨rfl, hw⟩; subst hw)) | go_values | go_skip | go_guarded | go_step | go_upon | go_back | (simp only [Int.not_lt, Int.not_le] at *; go_simp) | (go_values <;> (try go_simp)))
  refine blk_end ?_
  refine blk_out rfl ?_
  refine blk_out rfl ?_
  refine blk_out rfl ?_
  refine blk_out rfl ?_
  refine blk_out rfl ?_
  refine blk_out rfl ?_
  refine blk_out rfl ?_
  refine blk_out rfl ?_
  refine blk_out rfl ?_
  refine blk_hit ?_
  refine blk_out rfl ?_
  refine blk_out rfl ?_
  refine blk_out rfl ?_
  refine blk_out rfl ?_
  refine blk_out rfl ?_
  go_wp2
  refine ⟨rfl, ?_⟩
  go_wp2_with (first | (go_at_call 19; with_reducible refine (hwo _).mono ?_; rintro e w' ⟨rfl, hw⟩; subst hw) | (go_at_call 20; with_reducible refine (h1 _ W).mono ?_; rintro e w' ⟨rfl, hb⟩; replace hX := hX.step hb; replace W := W.below hb; clear hb))
  refine ⟨rfl, ?_⟩
  go_wp2_with (first | (go_at_call 19; with_reducible refine (hwo _).mono ?_; rintro e w' ⟨rfl, hw⟩; subst hw) | (go_at_call 20; with_reducible refine (h1 _ W).mono ?_; rintro e w' ⟨rfl, hb⟩; replace hX := hX.step hb; replace W := W.below hb; clear hb))
  go_ret3
  exact ⟨rfl, hX.below⟩
theorem sn_neg_t (v f : Int) (w : World) (W : Wid w) : Calls Tryd.prog 13 #[.int .i64 16, .bool true, .int .i64 v, .int .i64 f] w fun e w' => e = .returned (.tuple #[.int .i64 (subR true 0 v 0), .int .i64 (subF true 0 v 0), .bool true]) ∧ Below w.heap.size w w' := by
  have hwo : ∀ w, Calls Tryd.prog 19 #[.int .i64 16] w fun e w' => e = .returned (.bool false) ∧ w = w' := fun w => wo_any 16 w
  have A1 := and_1 f
  have h1 := Sub_any true 0 v 0
  generalize subR true 0 v 0 = q at *
  generalize subF true 0 v 0 = p at *
  have hX := Bag.nil w
  go_enter Tryd.func13, Tryd.ntmps13
  repeat ((fail_if_success (with_reducible refine blk_end ?_)); first | (go_says (go_at_call 19; with_reducible refine (hwo _).mono ?_; rintro e w' ⟨rfl, hw⟩; subst hw)) | go_values | go_skip | go_guarded | go_step | go_upon | go_back | (simp only [Int.not_lt, Int.not_le] at *; go_simp) | (go_values <;> (try go_simp)))
  refine blk_end ?_
  refine blk_out rfl ?_
  refine blk_out rfl ?_
  refine blk_out rfl ?_
  refine blk_out rfl ?_
  refine blk_out rfl ?_
  refine blk_out rfl ?_
  refine blk_out rfl ?_
  refine blk_out rfl ?_
  refine blk_out rfl ?_
  refine blk_hit ?_
  refine blk_out rfl ?_
  refine blk_out rfl ?_
  refine blk_out rfl ?_
  refine blk_out rfl ?_
  refine blk_out rfl ?_
  go_wp2
  refine ⟨rfl, ?_⟩
  go_wp2_with (first | (go_at_call 19; with_reducible refine (hwo _).mono ?_; rintro e w' ⟨rfl, hw⟩; subst hw) | (go_at_call 20; with_reducible refine (h1 _ W).mono ?_; rintro e w' ⟨rfl, hb⟩; replace hX := hX.step hb; replace W := W.below hb; clear hb))
  refine ⟨rfl, ?_⟩
  go_wp2_with (first | (go_at_call 19; with_reducible refine (hwo _).mono ?_; rintro e w' ⟨rfl, hw⟩; subst hw) | (go_at_call 20; with_reducible refine (h1 _ W).mono ?_; rintro e w' ⟨rfl, hb⟩; replace hX := hX.step hb; replace W := W.below hb; clear hb))
  go_ret3
  exact ⟨rfl, hX.below⟩
theorem sn_adc_f (v f : Int) (w : World) (W : Wid w) : Calls Tryd.prog 13 #[.int .i64 17, .bool false, .int .i64 v, .int .i64 f] w fun e w' => e = .returned (.tuple #[.int .i64 (addR false v 0 (f % 2)), .int .i64 (addF false v 0 (f % 2)), .bool true]) ∧ Below w.heap.size w w' := by
  have hwo : ∀ w, Calls Tryd.prog 19 #[.int .i64 17] w fun e w' => e = .returned (.bool false) ∧ w = w' := fun w => wo_any 17 w
  have A1 := and_1 f
  have h1 := Add_any false v 0 (f % 2)
  generalize addR false v 0 (f % 2) = q at *
  generalize addF false v 0 (f % 2) = p at *
  have hX := Bag.nil w
  go_enter Tryd.func13, Tryd.ntmps13
  repeat ((fail_if_success (with_reducible refine blk_end ?_)); first | (go_says (go_at_call 19; with_reducible refine (hwo _).mono ?_; rintro e w' ⟨rfl, hw⟩; subst hw)) | go_values | go_skip | go_guarded | go_step | go_upon | go_back | (simp only [Int.not_lt, Int.not_le] at *; go_simp) | (go_values <;> (try go_simp)))
  refine blk_end ?_
  refine blk_out rfl ?_
  refine blk_out rfl ?_
  refine blk_out rfl ?_
  refine blk_out rfl ?_
  refine blk_out rfl ?_
  refine blk_out rfl ?_
  refine blk_out rfl ?_
  refine blk_out rfl ?_
  refine blk_hit ?_
  refine blk_out rfl ?_
  refine blk_out rfl ?_
  refine blk_out rfl ?_
  refine blk_out rfl ?_
  refine blk_out rfl ?_
  refine blk_out rfl ?_
  go_wp2
  refine ⟨rfl, ?_⟩
  go_wp2_with (first | (go_at_call 19; with_reducible refine (hwo _).mono ?_; rintro e w' ⟨rfl, hw⟩; subst hw) | (go_at_call 21; with_reducible refine (h1 _ W).mono ?_; rintro e w' ⟨rfl, hb⟩; replace hX := hX.step hb; replace W := W.below hb; clear hb))
  refine ⟨rfl, ?_⟩
  go_wp2_with (first | (go_at_call 19; with_reducible refine (hwo _).mono ?_; rintro e w' ⟨rfl, hw⟩; subst hw) | (go_at_call 21; with_reducible refine (h1 _ W).mono ?_; rintro e w' ⟨rfl, hb⟩; replace hX := hX.step hb; replace W := W.below hb; clear hb))
  go_ret3
  exact ⟨rfl, hX.below⟩
theorem sn_adc_t (v f : Int) (w : World) (W : Wid w) : Calls Tryd.prog 13 #[.int .i64 17, .bool true, .int .i64 v, .int .i64 f] w fun e w' => e = .returned (.tuple #[.int .i64 (addR true v 0 (f % 2)), .int .i64 (addF true v 0 (f % 2)), .bool true]) ∧ Below w.heap.size w w' := by
  have hwo : ∀ w, Calls Tryd.prog 19 #[.int .i64 17] w fun e w' => e = .returned (.bool false) ∧ w = w' := fun w => wo_any 17 w
  have A1 := and_1 f
  have h1 := Add_any true v 0 (f % 2)
  generalize addR true v 0 (f % 2) = q at *
  generalize addF true v 0 (f % 2) = p at *
  have hX := Bag.nil w
  go_enter Tryd.func13, Tryd.ntmps13
  repeat ((fail_if_success (with_reducible refine blk_end ?_)); first | (go_says (go_at_call 19; with_reducible refine (hwo _).mono ?_; rintro e w' ⟨rfl, hw⟩; subst hw)) | go_values | go_skip | go_guarded | go_step | go_upon | go_back | (simp only [Int.not_lt, Int.not_le] at *; go_simp) | (go_values <;> (try go_simp)))
  refine blk_end ?_
  refine blk_out rfl ?_
  refine blk_out rfl ?_
  refine blk_out rfl ?_
  refine blk_out rfl ?_
  refine blk_out rfl ?_
  refine blk_out rfl ?_
  refine blk_out rfl ?_
  refine blk_out rfl ?_
  refine blk_hit ?_
  refine blk_out rfl ?_
  refine blk_out rfl ?_
  refine blk_out rfl ?_
  refine blk_out rfl ?_
  refine blk_out rfl ?_
  refine blk_out rfl ?_
  go_wp2
  refine ⟨rfl, ?_⟩
  go_wp2_with (first | (go_at_call 19; with_reducible refine (hwo _).mono ?_; rintro e w' ⟨rfl, hw⟩; subst hw) | (go_at_call 21; with_reducible refine (h1 _ W).mono ?_; rintro e w' ⟨rfl, hb⟩; replace hX := hX.step hb; replace W := W.below hb; clear hb))
  refine ⟨rfl, ?_⟩
  go_wp2_with (first | (go_at_call 19; with_reducible refine (hwo _).mono ?_; rintro e w' ⟨rfl, hw⟩; subst hw) | (go_at_call 21; with_reducible refine (h1 _ W).mono ?_; rintro e w' ⟨rfl, hb⟩; replace hX := hX.step hb; replace W := W.below hb; clear hb))
  go_ret3
  exact ⟨rfl, hX.below⟩
theorem sn_sbc_f (v f : Int) (w : World) (W : Wid w) : Calls Tryd.prog 13 #[.int .i64 18, .bool false, .int .i64 v, .int .i64 f] w fun e w' => e = .returned (.tuple #[.int .i64 (subR false v 0 (f % 2)), .int .i64 (subF false v 0 (f % 2)), .bool true]) ∧ Below w.heap.size w w' := by
  have hwo : ∀ w, Calls Tryd.prog 19 #[.int .i64 18] w fun e w' => e = .returned (.bool false) ∧ w = w' := fun w => wo_any 18 w
  have A1 := and_1 f
  have h1 := Sub_any false v 0 (f % 2)
  generalize subR false v 0 (f % 2) = q at *
  generalize subF false v 0 (f % 2) = p at *
  have hX := Bag.nil w
  go_enter Tryd.func13, Tryd.ntmps13
  repeat ((fail_if_success (with_reducible refine blk_end ?_)); first | (go_says (go_at_call 19; with_reducible refine (hwo _).mono ?_; rintro e w' ⟨rfl, hw⟩; subst hw)) | go_values | go_skip | go_guarded | go_step | go_upon | go_back | (simp only [Int.not_lt, Int.not_le] at *; go_simp) | (go_values <;> (try go_simp)))
  refine blk_end ?_
  refine blk_out rfl ?_
  refine blk_out rfl ?_
  refine blk_out rfl ?_
  refine blk_out rfl ?_
  refine blk_out rfl ?_
  refine blk_out rfl ?_
  refine blk_out rfl ?_
  refine blk_hit ?_
  refine blk_out rfl ?_
  refine blk_out rfl ?_
  refine blk_out rfl ?_
  refine blk_out rfl ?_
  refine blk_out rfl ?_
  refine blk_out rfl ?_
  refine blk_out rfl ?_
  go_wp2
  refine ⟨rfl, ?_⟩
  go_wp2_with (first | (go_at_call 19; with_reducible refine (hwo _).mono ?_; rintro e w' ⟨rfl, hw⟩; subst hw) | (go_at_call 20; with_reducible refine (h1 _ W).mono ?_; rintro e w' ⟨rfl, hb⟩; replace hX := hX.step hb; replace W := W.below hb; clear hb))
  refine ⟨rfl, ?_⟩
  go_wp2_with (first | (go_at_call 19; with_reducible refine (hwo _).mono ?_; rintro e w' ⟨rfl, hw⟩; subst hw) | (go_at_call 20; with_reducible refine (h1 _ W).mono ?_; rintro e w' ⟨rfl, hb⟩; replace hX := hX.step hb; replace W := W.below hb; clear hb))
  go_ret3
  exact ⟨rfl, hX.below⟩
theorem sn_sbc_t (v f : Int) (w : World) (W : Wid w) : Calls Tryd.prog 13 #[.int .i64 18, .bool true, .int .i64 v, .int .i64 f] w fun e w' => e = .returned (.tuple #[.int .i64 (subR true v 0 (f % 2)), .int .i64 (subF true v 0 (f % 2)), .bool true]) ∧ Below w.heap.size w w' := by
  have hwo : ∀ w, Calls Tryd.prog 19 #[.int .i64 18] w fun e w' => e = .returned (.bool false) ∧ w = w' := fun w => wo_any 18 w
  have A1 := and_1 f
  have h1 := Sub_any true v 0 (f % 2)
  generalize subR true v 0 (f % 2) = q at *
  generalize subF true v 0 (f % 2) = p at *
  have hX := Bag.nil w
  go_enter Tryd.func13, Tryd.ntmps13
  repeat ((fail_if_success (with_reducible refine blk_end ?_)); first | (go_says (go_at_call 19; with_reducible refine (hwo _).mono ?_; rintro e w' ⟨rfl, hw⟩; subst hw)) | go_values | go_skip | go_guarded | go_step | go_upon | go_back | (simp only [Int.not_lt, Int.not_le] at *; go_simp) | (go_values <;> (try go_simp)))
  refine blk_end ?_
  refine blk_out rfl ?_
  refine blk_out rfl ?_
  refine blk_out rfl ?_
  refine blk_out rfl ?_
  refine blk_out rfl ?_
  refine blk_out rfl ?_
  refine blk_out rfl ?_
  refine blk_hit ?_
  refine blk_out rfl ?_
  refine blk_out rfl ?_
  refine blk_out rfl ?_
  refine blk_out rfl ?_
  refine blk_out rfl ?_
  refine blk_out rfl ?_
  refine blk_out rfl ?_
  go_wp2
  refine ⟨rfl, ?_⟩
  go_wp2_with (first | (go_at_call 19; with_reducible refine (hwo _).mono ?_; rintro e w' ⟨rfl, hw⟩; subst hw) | (go_at_call 20; with_reducible refine (h1 _ W).mono ?_; rintro e w' ⟨rfl, hb⟩; replace hX := hX.step hb; replace W := W.below hb; clear hb))
  refine ⟨rfl, ?_⟩
  go_wp2_with (first | (go_at_call 19; with_reducible refine (hwo _).mono ?_; rintro e w' ⟨rfl, hw⟩; subst hw) | (go_at_call 20; with_reducible refine (h1 _ W).mono ?_; rintro e w' ⟨rfl, hb⟩; replace hX := hX.step hb; replace W := W.below hb; clear hb))
  go_ret3
  exact ⟨rfl, hX.below⟩
theorem sn_tst_f (v f : Int) (w : World) (W : Wid w) : Calls Tryd.prog 13 #[.int .i64 19, .bool false, .int .i64 v, .int .i64 f] w fun e w' => e = .returned (.tuple #[.int .i64 (op false (v)), .int .i64 (cod (neg false (v)) (zer false (v)) false false), .bool false]) ∧ Below w.heap.size w w' := by
  have hwo : ∀ w, Calls Tryd.prog 19 #[.int .i64 19] w fun e w' => e = .returned (.bool false) ∧ w = w' := fun w => wo_any 19 w
  have A1 := and_1 f
  have h1 := reduce_any false (v)
  have h2 := Flags_any false (v)
  generalize cod (neg false (v)) (zer false (v)) false false = p at *
  generalize op false (v) = q at *
  have hX := Bag.nil w
  go_enter Tryd.func13, Tryd.ntmps13
  repeat ((fail_if_success (with_reducible refine blk_end ?_)); first | (go_says (go_at_call 19; with_reducible refine (hwo _).mono ?_; rintro e w' ⟨rfl, hw⟩; subst hw)) | go_values | go_skip | go_guarded | go_step | go_upon | go_back | (simp only [Int.not_lt, Int.not_le] at *; go_simp) | (go_values <;> (try go_simp)))
  refine blk_end ?_
  refine blk_out rfl ?_
  refine blk_out rfl ?_
  refine blk_out rfl ?_
  refine blk_out rfl ?_
  refine blk_out rfl ?_
  refine blk_out rfl ?_
  refine blk_out rfl ?_
  refine blk_out rfl ?_
  refine blk_out rfl ?_
  refine blk_out rfl ?_
  refine blk_out rfl ?_
  refine blk_out rfl ?_
  refine blk_out rfl ?_
  refine blk_hit ?_
  refine blk_out rfl ?_
  go_wp2
  refine ⟨rfl, ?_⟩
  go_wp2_with (first | (go_at_call 19; with_reducible refine (hwo _).mono ?_; rintro e w' ⟨rfl, hw⟩; subst hw) | (go_at_call 22; with_reducible refine (h1 _ W).mono ?_; rintro e w' ⟨rfl, hw⟩; subst hw) | (go_at_call 23; with_reducible refine (h2 _ W).mono ?_; rintro e w' ⟨rfl, hb⟩; replace hX := hX.step hb; replace W := W.below hb; clear hb))
  refine ⟨rfl, ?_⟩
  go_wp2_with (first | (go_at_call 19; with_reducible refine (hwo _).mono ?_; rintro e w' ⟨rfl, hw⟩; subst hw) | (go_at_call 22; with_reducible refine (h1 _ W).mono ?_; rintro e w' ⟨rfl, hw⟩; subst hw) | (go_at_call 23; with_reducible refine (h2 _ W).mono ?_; rintro e w' ⟨rfl, hb⟩; replace hX := hX.step hb; replace W := W.below hb; clear hb))
  go_ret3
  exact ⟨rfl, hX.below⟩
theorem sn_tst_t (v f : Int) (w : World) (W : Wid w) : Calls Tryd.prog 13 #[.int .i64 19, .bool true, .int .i64 v, .int .i64 f] w fun e w' => e = .returned (.tuple #[.int .i64 (op true (v)), .int .i64 (cod (neg true (v)) (zer true (v)) false false), .bool false]) ∧ Below w.heap.size w w' := by
  have hwo : ∀ w, Calls Tryd.prog 19 #[.int .i64 19] w fun e w' => e = .returned (.bool false) ∧ w = w' := fun w => wo_any 19 w
  have A1 := and_1 f
  have h1 := reduce_any true (v)
  have h2 := Flags_any true (v)
  generalize cod (neg true (v)) (zer true (v)) false false = p at *
  generalize op true (v) = q at *
  have hX := Bag.nil w
  go_enter Tryd.func13, Tryd.ntmps13
  repeat ((fail_if_success (with_reducible refine blk_end ?_)); first | (go_says (go_at_call 19; with_reducible refine (hwo _).mono ?_; rintro e w' ⟨rfl, hw⟩; subst hw)) | go_values | go_skip | go_guarded | go_step | go_upon | go_back | (simp only [Int.not_lt, Int.not_le] at *; go_simp) | (go_values <;> (try go_simp)))
  refine blk_end ?_
  refine blk_out rfl ?_
  refine blk_out rfl ?_
  refine blk_out rfl ?_
  refine blk_out rfl ?_
  refine blk_out rfl ?_
  refine blk_out rfl ?_
  refine blk_out rfl ?_
  refine blk_out rfl ?_
  refine blk_out rfl ?_
  refine blk_out rfl ?_
  refine blk_out rfl ?_
  refine blk_out rfl ?_
  refine blk_out rfl ?_
  refine blk_hit ?_
  refine blk_out rfl ?_
  go_wp2
  refine ⟨rfl, ?_⟩
  go_wp2_with (first | (go_at_call 19; with_reducible refine (hwo _).mono ?_; rintro e w' ⟨rfl, hw⟩; subst hw) | (go_at_call 22; with_reducible refine (h1 _ W).mono ?_; rintro e w' ⟨rfl, hw⟩; subst hw) | (go_at_call 23; with_reducible refine (h2 _ W).mono ?_; rintro e w' ⟨rfl, hb⟩; replace hX := hX.step hb; replace W := W.below hb; clear hb))
  refine ⟨rfl, ?_⟩
  go_wp2_with (first | (go_at_call 19; with_reducible refine (hwo _).mono ?_; rintro e w' ⟨rfl, hw⟩; subst hw) | (go_at_call 22; with_reducible refine (h1 _ W).mono ?_; rintro e w' ⟨rfl, hw⟩; subst hw) | (go_at_call 23; with_reducible refine (h2 _ W).mono ?_; rintro e w' ⟨rfl, hb⟩; replace hX := hX.step hb; replace W := W.below hb; clear hb))
  go_ret3
  exact ⟨rfl, hX.below⟩
theorem sn_ror_f (v f : Int) (w : World) (W : Wid w) : Calls Tryd.prog 13 #[.int .i64 20, .bool false, .int .i64 v, .int .i64 f] w fun e w' => e = .returned (.tuple #[.int .i64 (rotR false false v (f % 2)), .int .i64 (rotF false false v (f % 2)), .bool true]) ∧ Below w.heap.size w w' := by
  have hwo : ∀ w, Calls Tryd.prog 19 #[.int .i64 20] w fun e w' => e = .returned (.bool false) ∧ w = w' := fun w => wo_any 20 w
  have A1 := and_1 f
  have h1 := Rotate_any false false v (f % 2)
  generalize rotR false false v (f % 2) = q at *
  generalize rotF false false v (f % 2) = p at *
  have hX := Bag.nil w
  go_enter Tryd.func13, Tryd.ntmps13
  repeat ((fail_if_success (with_reducible refine blk_end ?_)); first | (go_says (go_at_call 19; with_reducible refine (hwo _).mono ?_; rintro e w' ⟨rfl, hw⟩; subst hw)) | go_values | go_skip | go_guarded | go_step | go_upon | go_back | (simp only [Int.not_lt, Int.not_le] at *; go_simp) | (go_values <;> (try go_simp)))
  refine blk_end ?_
  refine blk_out rfl ?_
  refine blk_out rfl ?_
  refine blk_out rfl ?_
  refine blk_out rfl ?_
  refine blk_out rfl ?_
  refine blk_hit ?_
  refine blk_out rfl ?_
  refine blk_out rfl ?_
  refine blk_out rfl ?_
  refine blk_out rfl ?_
  refine blk_out rfl ?_
  refine blk_out rfl ?_
  refine blk_out rfl ?_
  refine blk_out rfl ?_
  refine blk_out rfl ?_
  go_wp2
  refine ⟨rfl, ?_⟩
  go_wp2_with (first | (go_at_call 19; with_reducible refine (hwo _).mono ?_; rintro e w' ⟨rfl, hw⟩; subst hw) | (go_at_call 30; with_reducible refine (h1 _ W).mono ?_; rintro e w' ⟨rfl, hb⟩; replace hX := hX.step hb; replace W := W.below hb; clear hb))
  refine ⟨rfl, ?_⟩
  go_wp2_with (first | (go_at_call 19; with_reducible refine (hwo _).mono ?_; rintro e w' ⟨rfl, hw⟩; subst hw) | (go_at_call 30; with_reducible refine (h1 _ W).mono ?_; rintro e w' ⟨rfl, hb⟩; replace hX := hX.step hb; replace W := W.below hb; clear hb))
  go_ret3
  exact ⟨rfl, hX.below⟩
theorem sn_ror_t (v f : Int) (w : World) (W : Wid w) : Calls Tryd.prog 13 #[.int .i64 20, .bool true, .int .i64 v, .int .i64 f] w fun e w' => e = .returned (.tuple #[.int .i64 (rotR false true v (f % 2)), .int .i64 (rotF false true v (f % 2)), .bool true]) ∧ Below w.heap.size w w' := by
  have hwo : ∀ w, Calls Tryd.prog 19 #[.int .i64 20] w fun e w' => e = .returned (.bool false) ∧ w = w' := fun w => wo_any 20 w
  have A1 := and_1 f
  have h1 := Rotate_any false true v (f % 2)
  generalize rotR false true v (f % 2) = q at *
  generalize rotF false true v (f % 2) = p at *
  have hX := Bag.nil w
  go_enter Tryd.func13, Tryd.ntmps13
  repeat ((fail_if_success (with_reducible refine blk_end ?_)); first | (go_says (go_at_call 19; with_reducible refine (hwo _).mono ?_; rintro e w' ⟨rfl, hw⟩; subst hw)) | go_values | go_skip | go_guarded | go_step | go_upon | go_back | (simp only [Int.not_lt, Int.not_le] at *; go_simp) | (go_values <;> (try go_simp)))
  refine blk_end ?_
  refine blk_out rfl ?_
  refine blk_out rfl ?_
  refine blk_out rfl ?_
  refine blk_out rfl ?_
  refine blk_out rfl ?_
  refine blk_hit ?_
  refine blk_out rfl ?_
  refine blk_out rfl ?_
  refine blk_out rfl ?_
  refine blk_out rfl ?_
  refine blk_out rfl ?_
  refine blk_out rfl ?_
  refine blk_out rfl ?_
  refine blk_out rfl ?_
  refine blk_out rfl ?_
  go_wp2
  refine ⟨rfl, ?_⟩
  go_wp2_with (first | (go_at_call 19; with_reducible refine (hwo _).mono ?_; rintro e w' ⟨rfl, hw⟩; subst hw) | (go_at_call 30; with_reducible refine (h1 _ W).mono ?_; rintro e w' ⟨rfl, hb⟩; replace hX := hX.step hb; replace W := W.below hb; clear hb))
  refine ⟨rfl, ?_⟩
  go_wp2_with (first | (go_at_call 19; with_reducible refine (hwo _).mono ?_; rintro e w' ⟨rfl, hw⟩; subst hw) | (go_at_call 30; with_reducible refine (h1 _ W).mono ?_; rintro e w' ⟨rfl, hb⟩; replace hX := hX.step hb; replace W := W.below hb; clear hb))
  go_ret3
  exact ⟨rfl, hX.below⟩
theorem sn_rol_f (v f : Int) (w : World) (W : Wid w) : Calls Tryd.prog 13 #[.int .i64 21, .bool false, .int .i64 v, .int .i64 f] w fun e w' => e = .returned (.tuple #[.int .i64 (rotR true false v (f % 2)), .int .i64 (rotF true false v (f % 2)), .bool true]) ∧ Below w.heap.size w w' := by
  have hwo : ∀ w, Calls Tryd.prog 19 #[.int .i64 21] w fun e w' => e = .returned (.bool false) ∧ w = w' := fun w => wo_any 21 w
  have A1 := and_1 f
  have h1 := Rotate_any true false v (f % 2)
  generalize rotR true false v (f % 2) = q at *
  generalize rotF true false v (f % 2) = p at *
  have hX := Bag.nil w
  go_enter Tryd.func13, Tryd.ntmps13
  repeat ((fail_if_success (with_reducible refine blk_end ?_)); first | (go_says (go_at_call 19; with_reducible refine (hwo _).mono ?_; rintro e w' ⟨rfl, hw⟩; subst hw)) | go_values | go_skip | go_guarded | go_step | go_upon | go_back | (simp only [Int.not_lt, Int.not_le] at *; go_simp) | (go_values <;> (try go_simp)))
  refine blk_end ?_
  refine blk_out rfl ?_
  refine blk_out rfl ?_
  refine blk_out rfl ?_
  refine blk_hit ?_
  refine blk_out rfl ?_
  refine blk_out rfl ?_
  refine blk_out rfl ?_
  refine blk_out rfl ?_
  refine blk_out rfl ?_
  refine blk_out rfl ?_
  refine blk_out rfl ?_
  refine blk_out rfl ?_
  refine blk_out rfl ?_
  refine blk_out rfl ?_
  refine blk_out rfl ?_
  go_wp2
  refine ⟨rfl, ?_⟩
  go_wp2_with (first | (go_at_call 19; with_reducible refine (hwo _).mono ?_; rintro e w' ⟨rfl, hw⟩; subst hw) | (go_at_call 30; with_reducible refine (h1 _ W).mono ?_; rintro e w' ⟨rfl, hb⟩; replace hX := hX.step hb; replace W := W.below hb; clear hb))
  refine ⟨rfl, ?_⟩
  go_wp2_with (first | (go_at_call 19; with_reducible refine (hwo _).mono ?_; rintro e w' ⟨rfl, hw⟩; subst hw) | (go_at_call 30; with_reducible refine (h1 _ W).mono ?_; rintro e w' ⟨rfl, hb⟩; replace hX := hX.step hb; replace W := W.below hb; clear hb))
  go_ret3
  exact ⟨rfl, hX.below⟩
theorem sn_rol_t (v f : Int) (w : World) (W : Wid w) : Calls Tryd.prog 13 #[.int .i64 21, .bool true, .int .i64 v, .int .i64 f] w fun e w' => e = .returned (.tuple #[.int .i64 (rotR true true v (f % 2)), .int .i64 (rotF true true v (f % 2)), .bool true]) ∧ Below w.heap.size w w' := by
  have hwo : ∀ w, Calls Tryd.prog 19 #[.int .i64 21] w fun e w' => e = .returned (.bool false) ∧ w = w' := fun w => wo_any 21 w
  have A1 := and_1 f
  have h1 := Rotate_any true true v (f % 2)
  generalize rotR true true v (f % 2) = q at *
  generalize rotF true true v (f % 2) = p at *
  have hX := Bag.nil w
  go_enter Tryd.func13, Tryd.ntmps13
  repeat ((fail_if_success (with_reducible refine blk_end ?_)); first | (go_says (go_at_call 19; with_reducible refine (hwo _).mono ?_; rintro e w' ⟨rfl, hw⟩; subst hw)) | go_values | go_skip | go_guarded | go_step | go_upon | go_back | (simp only [Int.not_lt, Int.not_le] at *; go_simp) | (go_values <;> (try go_simp)))
  refine blk_end ?_
  refine blk_out rfl ?_
  refine blk_out rfl ?_
  refine blk_out rfl ?_
  refine blk_hit ?_
  refine blk_out rfl ?_
  refine blk_out rfl ?_
  refine blk_out rfl ?_
  refine blk_out rfl ?_
  refine blk_out rfl ?_
  refine blk_out rfl ?_
  refine blk_out rfl ?_
  refine blk_out rfl ?_
  refine blk_out rfl ?_
  refine blk_out rfl ?_
  refine blk_out rfl ?_
  go_wp2
  refine ⟨rfl, ?_⟩
  go_wp2_with (first | (go_at_call 19; with_reducible refine (hwo _).mono ?_; rintro e w' ⟨rfl, hw⟩; subst hw) | (go_at_call 30; with_reducible refine (h1 _ W).mono ?_; rintro e w' ⟨rfl, hb⟩; replace hX := hX.step hb; replace W := W.below hb; clear hb))
  refine ⟨rfl, ?_⟩
  go_wp2_with (first | (go_at_call 19; with_reducible refine (hwo _).mono ?_; rintro e w' ⟨rfl, hw⟩; subst hw) | (go_at_call 30; with_reducible refine (h1 _ W).mono ?_; rintro e w' ⟨rfl, hb⟩; replace hX := hX.step hb; replace W := W.below hb; clear hb))
  go_ret3
  exact ⟨rfl, hX.below⟩
theorem sn_asr_f (v f : Int) (w : World) (W : Wid w) : Calls Tryd.prog 13 #[.int .i64 22, .bool false, .int .i64 v, .int .i64 f] w fun e w' => e = .returned (.tuple #[.int .i64 (rotR false false v (if neg false v = true then 1 else 0)), .int .i64 (rotF false false v (if neg false v = true then 1 else 0)), .bool true]) ∧ Below w.heap.size w w' := by
  have hwo : ∀ w, Calls Tryd.prog 19 #[.int .i64 22] w fun e w' => e = .returned (.bool false) ∧ w = w' := fun w => wo_any 22 w
  have A1 := and_1 f
  have h1 := Rotate_any false false v (if neg false v = true then 1 else 0)
  have h2 := sign_any false v
  generalize rotR false false v (if neg false v = true then 1 else 0) = q at *
  generalize rotF false false v (if neg false v = true then 1 else 0) = p at *
  generalize ((if neg false v = true then 1 else 0) : Int) = s at *
  have hX := Bag.nil w
  go_enter Tryd.func13, Tryd.ntmps13
  repeat ((fail_if_success (with_reducible refine blk_end ?_)); first | (go_says (go_at_call 19; with_reducible refine (hwo _).mono ?_; rintro e w' ⟨rfl, hw⟩; subst hw)) | go_values | go_skip | go_guarded | go_step | go_upon | go_back | (simp only [Int.not_lt, Int.not_le] at *; go_simp) | (go_values <;> (try go_simp)))
  refine blk_end ?_
  refine blk_out rfl ?_
  refine blk_out rfl ?_
  refine blk_out rfl ?_
  refine blk_out rfl ?_
  refine blk_out rfl ?_
  refine blk_thru ?_
  refine blk_hit ?_
  refine blk_out rfl ?_
  refine blk_out rfl ?_
  refine blk_out rfl ?_
  refine blk_out rfl ?_
  refine blk_out rfl ?_
  refine blk_out rfl ?_
  refine blk_out rfl ?_
  refine blk_out rfl ?_
  go_wp2
  refine ⟨rfl, ?_⟩
  go_wp2_with (first | (go_at_call 19; with_reducible refine (hwo _).mono ?_; rintro e w' ⟨rfl, hw⟩; subst hw) | (go_at_call 30; with_reducible refine (h1 _ W).mono ?_; rintro e w' ⟨rfl, hb⟩; replace hX := hX.step hb; replace W := W.below hb; clear hb) | (go_at_call 29; with_reducible refine (h2 _ W).mono ?_; rintro e w' ⟨rfl, hb⟩; replace hX := hX.step hb; replace W := W.below hb; clear hb))
  refine ⟨rfl, ?_⟩
  go_wp2_with (first | (go_at_call 19; with_reducible refine (hwo _).mono ?_; rintro e w' ⟨rfl, hw⟩; subst hw) | (go_at_call 30; with_reducible refine (h1 _ W).mono ?_; rintro e w' ⟨rfl, hb⟩; replace hX := hX.step hb; replace W := W.below hb; clear hb) | (go_at_call 29; with_reducible refine (h2 _ W).mono ?_; rintro e w' ⟨rfl, hb⟩; replace hX := hX.step hb; replace W := W.below hb; clear hb))
  refine ⟨rfl, ?_⟩
  go_wp2_with (first | (go_at_call 19; with_reducible refine (hwo _).mono ?_; rintro e w' ⟨rfl, hw⟩; subst hw) | (go_at_call 30; with_reducible refine (h1 _ W).mono ?_; rintro e w' ⟨rfl, hb⟩; replace hX := hX.step hb; replace W := W.below hb; clear hb) | (go_at_call 29; with_reducible refine (h2 _ W).mono ?_; rintro e w' ⟨rfl, hb⟩; replace hX := hX.step hb; replace W := W.below hb; clear hb))
  go_ret3
  exact ⟨rfl, hX.below⟩
theorem sn_asr_t (v f : Int) (w : World) (W : Wid w) : Calls Tryd.prog 13 #[.int .i64 22, .bool true, .int .i64 v, .int .i64 f] w fun e w' => e = .returned (.tuple #[.int .i64 (rotR false true v (if neg true v = true then 1 else 0)), .int .i64 (rotF false true v (if neg true v = true then 1 else 0)), .bool true]) ∧ Below w.heap.size w w' := by
  have hwo : ∀ w, Calls Tryd.prog 19 #[.int .i64 22] w fun e w' => e = .returned (.bool false) ∧ w = w' := fun w => wo_any 22 w
  have A1 := and_1 f
  have h1 := Rotate_any false true v (if neg true v = true then 1 else 0)
  have h2 := sign_any true v
  generalize rotR false true v (if neg true v = true then 1 else 0) = q at *
  generalize rotF false true v (if neg true v = true then 1 else 0) = p at *
  generalize ((if neg true v = true then 1 else 0) : Int) = s at *
  have hX := Bag.nil w
  go_enter Tryd.func13, Tryd.ntmps13
  repeat ((fail_if_success (with_reducible refine blk_end ?_)); first | (go_says (go_at_call 19; with_reducible refine (hwo _).mono ?_; rintro e w' ⟨rfl, hw⟩; subst hw)) | go_values | go_skip | go_guarded | go_step | go_upon | go_back | (simp only [Int.not_lt, Int.not_le] at *; go_simp) | (go_values <;> (try go_simp)))
  refine blk_end ?_
  refine blk_out rfl ?_
  refine blk_out rfl ?_
  refine blk_out rfl ?_
  refine blk_out rfl ?_
  refine blk_out rfl ?_
  refine blk_thru ?_
  refine blk_hit ?_
  refine blk_out rfl ?_
  refine blk_out rfl ?_
  refine blk_out rfl ?_
  refine blk_out rfl ?_
  refine blk_out rfl ?_
  refine blk_out rfl ?_
  refine blk_out rfl ?_
  refine blk_out rfl ?_
  go_wp2
  refine ⟨rfl, ?_⟩
  go_wp2_with (first | (go_at_call 19; with_reducible refine (hwo _).mono ?_; rintro e w' ⟨rfl, hw⟩; subst hw) | (go_at_call 30; with_reducible refine (h1 _ W).mono ?_; rintro e w' ⟨rfl, hb⟩; replace hX := hX.step hb; replace W := W.below hb; clear hb) | (go_at_call 29; with_reducible refine (h2 _ W).mono ?_; rintro e w' ⟨rfl, hb⟩; replace hX := hX.step hb; replace W := W.below hb; clear hb))
  refine ⟨rfl, ?_⟩
  go_wp2_with (first | (go_at_call 19; with_reducible refine (hwo _).mono ?_; rintro e w' ⟨rfl, hw⟩; subst hw) | (go_at_call 30; with_reducible refine (h1 _ W).mono ?_; rintro e w' ⟨rfl, hb⟩; replace hX := hX.step hb; replace W := W.below hb; clear hb) | (go_at_call 29; with_reducible refine (h2 _ W).mono ?_; rintro e w' ⟨rfl, hb⟩; replace hX := hX.step hb; replace W := W.below hb; clear hb))
  refine ⟨rfl, ?_⟩
  go_wp2_with (first | (go_at_call 19; with_reducible refine (hwo _).mono ?_; rintro e w' ⟨rfl, hw⟩; subst hw) | (go_at_call 30; with_reducible refine (h1 _ W).mono ?_; rintro e w' ⟨rfl, hb⟩; replace hX := hX.step hb; replace W := W.below hb; clear hb) | (go_at_call 29; with_reducible refine (h2 _ W).mono ?_; rintro e w' ⟨rfl, hb⟩; replace hX := hX.step hb; replace W := W.below hb; clear hb))
  go_ret3
  exact ⟨rfl, hX.below⟩
theorem sn_asl_f (v f : Int) (w : World) (W : Wid w) : Calls Tryd.prog 13 #[.int .i64 23, .bool false, .int .i64 v, .int .i64 f] w fun e w' => e = .returned (.tuple #[.int .i64 (rotR true false v 0), .int .i64 (rotF true false v 0), .bool true]) ∧ Below w.heap.size w w' := by
  have hwo : ∀ w, Calls Tryd.prog 19 #[.int .i64 23] w fun e w' => e = .returned (.bool false) ∧ w = w' := fun w => wo_any 23 w
  have A1 := and_1 f
  have h1 := Rotate_any true false v 0
  generalize rotR true false v 0 = q at *
  generalize rotF true false v 0 = p at *
  have hX := Bag.nil w
  go_enter Tryd.func13, Tryd.ntmps13
  repeat ((fail_if_success (with_reducible refine blk_end ?_)); first | (go_says (go_at_call 19; with_reducible refine (hwo _).mono ?_; rintro e w' ⟨rfl, hw⟩; subst hw)) | go_values | go_skip | go_guarded | go_step | go_upon | go_back | (simp only [Int.not_lt, Int.not_le] at *; go_simp) | (go_values <;> (try go_simp)))
  refine blk_end ?_
  refine blk_out rfl ?_
  refine blk_out rfl ?_
  refine blk_out rfl ?_
  refine blk_thru ?_
  refine blk_hit ?_
  refine blk_out rfl ?_
  refine blk_out rfl ?_
  refine blk_out rfl ?_
  refine blk_out rfl ?_
  refine blk_out rfl ?_
  refine blk_out rfl ?_
  refine blk_out rfl ?_
  refine blk_out rfl ?_
  refine blk_out rfl ?_
  refine blk_out rfl ?_
  go_wp2
  refine ⟨rfl, ?_⟩
  go_wp2_with (first | (go_at_call 19; with_reducible refine (hwo _).mono ?_; rintro e w' ⟨rfl, hw⟩; subst hw) | (go_at_call 30; with_reducible refine (h1 _ W).mono ?_; rintro e w' ⟨rfl, hb⟩; replace hX := hX.step hb; replace W := W.below hb; clear hb))
  refine ⟨rfl, ?_⟩
  go_wp2_with (first | (go_at_call 19; with_reducible refine (hwo _).mono ?_; rintro e w' ⟨rfl, hw⟩; subst hw) | (go_at_call 30; with_reducible refine (h1 _ W).mono ?_; rintro e w' ⟨rfl, hb⟩; replace hX := hX.step hb; replace W := W.below hb; clear hb))
  refine ⟨rfl, ?_⟩
  go_wp2_with (first | (go_at_call 19; with_reducible refine (hwo _).mono ?_; rintro e w' ⟨rfl, hw⟩; subst hw) | (go_at_call 30; with_reducible refine (h1 _ W).mono ?_; rintro e w' ⟨rfl, hb⟩; replace hX := hX.step hb; replace W := W.below hb; clear hb))
  go_ret3
  exact ⟨rfl, hX.below⟩
theorem sn_asl_t (v f : Int) (w : World) (W : Wid w) : Calls Tryd.prog 13 #[.int .i64 23, .bool true, .int .i64 v, .int .i64 f] w fun e w' => e = .returned (.tuple #[.int .i64 (rotR true true v 0), .int .i64 (rotF true true v 0), .bool true]) ∧ Below w.heap.size w w' := by
  have hwo : ∀ w, Calls Tryd.prog 19 #[.int .i64 23] w fun e w' => e = .returned (.bool false) ∧ w = w' := fun w => wo_any 23 w
  have A1 := and_1 f
  have h1 := Rotate_any true true v 0
  generalize rotR true true v 0 = q at *
  generalize rotF true true v 0 = p at *
  have hX := Bag.nil w
  go_enter Tryd.func13, Tryd.ntmps13
  repeat ((fail_if_success (with_reducible refine blk_end ?_)); first | (go_says (go_at_call 19; with_reducible refine (hwo _).mono ?_; rintro e w' ⟨rfl, hw⟩; subst hw)) | go_values | go_skip | go_guarded | go_step | go_upon | go_back | (simp only [Int.not_lt, Int.not_le] at *; go_simp) | (go_values <;> (try go_simp)))
  refine blk_end ?_
  refine blk_out rfl ?_
  refine blk_out rfl ?_
  refine blk_out rfl ?_
  refine blk_thru ?_
  refine blk_hit ?_
  refine blk_out rfl ?_
  refine blk_out rfl ?_
  refine blk_out rfl ?_
  refine blk_out rfl ?_
  refine blk_out rfl ?_
  refine blk_out rfl ?_
  refine blk_out rfl ?_
  refine blk_out rfl ?_
  refine blk_out rfl ?_
  refine blk_out rfl ?_
  go_wp2
  refine ⟨rfl, ?_⟩
  go_wp2_with (first | (go_at_call 19; with_reducible refine (hwo _).mono ?_; rintro e w' ⟨rfl, hw⟩; subst hw) | (go_at_call 30; with_reducible refine (h1 _ W).mono ?_; rintro e w' ⟨rfl, hb⟩; replace hX := hX.step hb; replace W := W.below hb; clear hb))
  refine ⟨rfl, ?_⟩
  go_wp2_with (first | (go_at_call 19; with_reducible refine (hwo _).mono ?_; rintro e w' ⟨rfl, hw⟩; subst hw) | (go_at_call 30; with_reducible refine (h1 _ W).mono ?_; rintro e w' ⟨rfl, hb⟩; replace hX := hX.step hb; replace W := W.below hb; clear hb))
  refine ⟨rfl, ?_⟩
  go_wp2_with (first | (go_at_call 19; with_reducible refine (hwo _).mono ?_; rintro e w' ⟨rfl, hw⟩; subst hw) | (go_at_call 30; with_reducible refine (h1 _ W).mono ?_; rintro e w' ⟨rfl, hb⟩; replace hX := hX.step hb; replace W := W.below hb; clear hb))
  go_ret3
  exact ⟨rfl, hX.below⟩
theorem sn_swab_f (v f : Int) (w : World) (W : Wid w) : Calls Tryd.prog 13 #[.int .i64 24, .bool false, .int .i64 v, .int .i64 f] w fun e w' => e = .returned (.tuple #[.int .i64 (v % 65536 % 256 * 256 + v % 65536 / 256), .int .i64 (cod (neg true (v % 65536 % 256 * 256 + v % 65536 / 256)) (zer true (v % 65536 % 256 * 256 + v % 65536 / 256)) false false), .bool true]) ∧ Below w.heap.size w w' := by
  have hwo : ∀ w, Calls Tryd.prog 19 #[.int .i64 24] w fun e w' => e = .returned (.bool true) ∧ w = w' := fun w => wo_any 24 w
  have A1 := and_1 f
  have h1 := swapped_any v
  have h2 := Flags_any true (v % 65536 % 256 * 256 + v % 65536 / 256)
  generalize cod (neg true (v % 65536 % 256 * 256 + v % 65536 / 256)) (zer true (v % 65536 % 256 * 256 + v % 65536 / 256)) false false = p at *
  generalize v % 65536 % 256 * 256 + v % 65536 / 256 = q at *
  have hX := Bag.nil w
  go_enter Tryd.func13, Tryd.ntmps13
  repeat ((fail_if_success (with_reducible refine blk_end ?_)); first | (go_says (go_at_call 19; with_reducible refine (hwo _).mono ?_; rintro e w' ⟨rfl, hw⟩; subst hw)) | go_values | go_skip | go_guarded | go_step | go_upon | go_back | (simp only [Int.not_lt, Int.not_le] at *; go_simp) | (go_values <;> (try go_simp)))
  refine blk_end ?_
  refine blk_out rfl ?_
  refine blk_out rfl ?_
  refine blk_hit ?_
  refine blk_out rfl ?_
  refine blk_out rfl ?_
  refine blk_out rfl ?_
  refine blk_out rfl ?_
  refine blk_out rfl ?_
  refine blk_out rfl ?_
  refine blk_out rfl ?_
  refine blk_out rfl ?_
  refine blk_out rfl ?_
  refine blk_out rfl ?_
  refine blk_out rfl ?_
  refine blk_out rfl ?_
  go_wp2
  refine ⟨rfl, ?_⟩
  go_wp2_with (first | (go_at_call 19; with_reducible refine (hwo _).mono ?_; rintro e w' ⟨rfl, hw⟩; subst hw) | (go_at_call 31; with_reducible refine (h1 _ W).mono ?_; rintro e w' ⟨rfl, hw⟩; subst hw) | (go_at_call 23; with_reducible refine (h2 _ W).mono ?_; rintro e w' ⟨rfl, hb⟩; replace hX := hX.step hb; replace W := W.below hb; clear hb))
  refine ⟨rfl, ?_⟩
  go_wp2_with (first | (go_at_call 19; with_reducible refine (hwo _).mono ?_; rintro e w' ⟨rfl, hw⟩; subst hw) | (go_at_call 31; with_reducible refine (h1 _ W).mono ?_; rintro e w' ⟨rfl, hw⟩; subst hw) | (go_at_call 23; with_reducible refine (h2 _ W).mono ?_; rintro e w' ⟨rfl, hb⟩; replace hX := hX.step hb; replace W := W.below hb; clear hb))
  go_ret3
  exact ⟨rfl, hX.below⟩
theorem sn_sxt_f (v f : Int) (w : World) (W : Wid w) : Calls Tryd.prog 13 #[.int .i64 25, .bool false, .int .i64 v, .int .i64 f] w fun e w' => e = .returned (.tuple #[.int .i64 (if fN f = true then 65535 else 0), .int .i64 ((if fN f = true then 8 else 4) + f % 2), .bool true]) ∧ Below w.heap.size w w' := by
  have hwo : ∀ w, Calls Tryd.prog 19 #[.int .i64 25] w fun e w' => e = .returned (.bool true) ∧ w = w' := fun w => wo_any 25 w
  have A1 := and_1 f
  have hN := fN_eq f
  have hk1 : bits .or .i64 8 (f % 2) = 8 + f % 2 := or_cod true false f
  have hk2 : bits .or .i64 4 (f % 2) = 4 + f % 2 := or_cod false true f
  have h1 := spread_any
  have h2 : ∀ w, Wid w → Calls Tryd.prog 23 #[.int .i64 65535, .bool false] w fun e w' => e = .returned (.int .i64 8) ∧ Below w.heap.size w w' := Flags_any false 65535
  have h3 : ∀ w, Wid w → Calls Tryd.prog 23 #[.int .i64 0, .bool false] w fun e w' => e = .returned (.int .i64 4) ∧ Below w.heap.size w w' := Flags_any false 0
  generalize fN f = g at *
  have hX := Bag.nil w
  cases g
  all_goals
    go_enter Tryd.func13, Tryd.ntmps13
    repeat ((fail_if_success (with_reducible refine blk_end ?_)); first | (go_says (go_at_call 19; with_reducible refine (hwo _).mono ?_; rintro e w' ⟨rfl, hw⟩; subst hw)) | go_values | go_skip | go_guarded | go_step | go_upon | go_back | (simp only [Int.not_lt, Int.not_le] at *; go_simp) | (go_values <;> (try go_simp)))
    refine blk_end ?_
    refine blk_out rfl ?_
    refine blk_hit ?_
    refine blk_out rfl ?_
    refine blk_out rfl ?_
    refine blk_out rfl ?_
    refine blk_out rfl ?_
    refine blk_out rfl ?_
    refine blk_out rfl ?_
    refine blk_out rfl ?_
    refine blk_out rfl ?_
    refine blk_out rfl ?_
    refine blk_out rfl ?_
    refine blk_out rfl ?_
    refine blk_out rfl ?_
    refine blk_out rfl ?_
    go_wp2
    refine ⟨rfl, ?_⟩
    go_wp2_with (first | (go_at_call 19; with_reducible refine (hwo _).mono ?_; rintro e w' ⟨rfl, hw⟩; subst hw) | (go_at_call 32; with_reducible refine (h1 _ _).mono ?_; rintro e w' ⟨rfl, hw⟩; subst hw) | (go_at_call 23; first | (with_reducible refine (h2 _ W).mono ?_; rintro e w' ⟨rfl, hb⟩; replace hX := hX.step hb; replace W := W.below hb; clear hb) | (with_reducible refine (h3 _ W).mono ?_; rintro e w' ⟨rfl, hb⟩; replace hX := hX.step hb; replace W := W.below hb; clear hb)))
    refine ⟨rfl, ?_⟩
    go_wp2_with (first | (go_at_call 19; with_reducible refine (hwo _).mono ?_; rintro e w' ⟨rfl, hw⟩; subst hw) | (go_at_call 32; with_reducible refine (h1 _ _).mono ?_; rintro e w' ⟨rfl, hw⟩; subst hw) | (go_at_call 23; first | (with_reducible refine (h2 _ W).mono ?_; rintro e w' ⟨rfl, hb⟩; replace hX := hX.step hb; replace W := W.below hb; clear hb) | (with_reducible refine (h3 _ W).mono ?_; rintro e w' ⟨rfl, hb⟩; replace hX := hX.step hb; replace W := W.below hb; clear hb)))
    go_ret3
    exact ⟨rfl, hX.below⟩
theorem sn_no (o : Int) (h : wo o = true) (v f : Int) (w : World) (W : Wid w) : Calls Tryd.prog 13 #[.int .i64 o, .bool true, .int .i64 v, .int .i64 f] w fun e w' => e = .returned (.tuple #[.int .i64 (0), .int .i64 (0), .bool false]) ∧ Below w.heap.size w w' := by
  have hwo := fun w => wo_any o w
  rw [h] at hwo
  have hX := Bag.nil w
  go_enter Tryd.func13, Tryd.ntmps13
  go_wp2_with (first | (go_at_call 19; with_reducible refine (hwo _).mono ?_; rintro e w' ⟨rfl, hw⟩; subst hw))
  go_ret3
  exact ⟨rfl, hX.below⟩
theorem sn_else_f (o : Int) (v f : Int) (w : World) (W : Wid w) (n12 : ¬ o = 12) (n13 : ¬ o = 13) (n14 : ¬ o = 14) (n15 : ¬ o = 15) (n16 : ¬ o = 16) (n17 : ¬ o = 17) (n18 : ¬ o = 18) (n19 : ¬ o = 19) (n20 : ¬ o = 20) (n21 : ¬ o = 21) (n22 : ¬ o = 22) (n23 : ¬ o = 23) (n24 : ¬ o = 24) (n25 : ¬ o = 25) : Calls Tryd.prog 13 #[.int .i64 o, .bool false, .int .i64 v, .int .i64 f] w fun e w' => e = .returned (.tuple #[.int .i64 (0), .int .i64 (0), .bool false]) ∧ Below w.heap.size w w' := by
  have e12 : (o == 12) = false := by simpa using n12
  have e13 : (o == 13) = false := by simpa using n13
  have e14 : (o == 14) = false := by simpa using n14
  have e15 : (o == 15) = false := by simpa using n15
  have e16 : (o == 16) = false := by simpa using n16
  have e17 : (o == 17) = false := by simpa using n17
  have e18 : (o == 18) = false := by simpa using n18
  have e19 : (o == 19) = false := by simpa using n19
  have e20 : (o == 20) = false := by simpa using n20
  have e21 : (o == 21) = false := by simpa using n21
  have e22 : (o == 22) = false := by simpa using n22
  have e23 : (o == 23) = false := by simpa using n23
  have e24 : (o == 24) = false := by simpa using n24
  have e25 : (o == 25) = false := by simpa using n25
  have hwo := fun w => wo_any o w
  have hX := Bag.nil w
  go_enter Tryd.func13, Tryd.ntmps13
  repeat ((fail_if_success (with_reducible refine blk_end ?_)); first | (go_says (go_at_call 19; with_reducible refine (hwo _).mono ?_; rintro e w' ⟨rfl, hw⟩; subst hw)) | go_values | go_skip | go_guarded | go_step | go_upon | go_back | (simp only [Int.not_lt, Int.not_le] at *; go_simp) | (go_values <;> (try go_simp)))
  refine blk_ret ?_
  refine blk_hit ?_
  refine blk_out rfl ?_
  refine blk_out rfl ?_
  refine blk_out rfl ?_
  refine blk_out rfl ?_
  refine blk_out rfl ?_
  refine blk_out rfl ?_
  refine blk_out rfl ?_
  refine blk_out rfl ?_
  refine blk_out rfl ?_
  refine blk_out rfl ?_
  refine blk_out rfl ?_
  refine blk_out rfl ?_
  refine blk_out rfl ?_
  refine blk_out rfl ?_
  go_wp2
  refine ⟨rfl, ?_⟩
  go_wp2_with (first | (go_at_call 19; with_reducible refine (hwo _).mono ?_; rintro e w' ⟨rfl, hw⟩; subst hw))
  refine ⟨rfl, ?_⟩
  go_ret3
  exact ⟨rfl, hX.below⟩
theorem sn_else_t (o : Int) (hw : wo o = false) (v f : Int) (w : World) (W : Wid w) (n12 : ¬ o = 12) (n13 : ¬ o = 13) (n14 : ¬ o = 14) (n15 : ¬ o = 15) (n16 : ¬ o = 16) (n17 : ¬ o = 17) (n18 : ¬ o = 18) (n19 : ¬ o = 19) (n20 : ¬ o = 20) (n21 : ¬ o = 21) (n22 : ¬ o = 22) (n23 : ¬ o = 23) (n24 : ¬ o = 24) (n25 : ¬ o = 25) : Calls Tryd.prog 13 #[.int .i64 o, .bool true, .int .i64 v, .int .i64 f] w fun e w' => e = .returned (.tuple #[.int .i64 (0), .int .i64 (0), .bool false]) ∧ Below w.heap.size w w' := by
  have e12 : (o == 12) = false := by simpa using n12
  have e13 : (o == 13) = false := by simpa using n13
  have e14 : (o == 14) = false := by simpa using n14
  have e15 : (o == 15) = false := by simpa using n15
  have e16 : (o == 16) = false := by simpa using n16
  have e17 : (o == 17) = false := by simpa using n17
  have e18 : (o == 18) = false := by simpa using n18
  have e19 : (o == 19) = false := by simpa using n19
  have e20 : (o == 20) = false := by simpa using n20
  have e21 : (o == 21) = false := by simpa using n21
  have e22 : (o == 22) = false := by simpa using n22
  have e23 : (o == 23) = false := by simpa using n23
  have e24 : (o == 24) = false := by simpa using n24
  have e25 : (o == 25) = false := by simpa using n25
  have hwo := fun w => wo_any o w
  rw [hw] at hwo
  have hX := Bag.nil w
  go_enter Tryd.func13, Tryd.ntmps13
  repeat ((fail_if_success (with_reducible refine blk_end ?_)); first | (go_says (go_at_call 19; with_reducible refine (hwo _).mono ?_; rintro e w' ⟨rfl, hw⟩; subst hw)) | go_values | go_skip | go_guarded | go_step | go_upon | go_back | (simp only [Int.not_lt, Int.not_le] at *; go_simp) | (go_values <;> (try go_simp)))
  refine blk_ret ?_
  refine blk_hit ?_
  refine blk_out rfl ?_
  refine blk_out rfl ?_
  refine blk_out rfl ?_
  refine blk_out rfl ?_
  refine blk_out rfl ?_
  refine blk_out rfl ?_
  refine blk_out rfl ?_
  refine blk_out rfl ?_
  refine blk_out rfl ?_
  refine blk_out rfl ?_
  refine blk_out rfl ?_
  refine blk_out rfl ?_
  refine blk_out rfl ?_
  refine blk_out rfl ?_
  go_wp2
  refine ⟨rfl, ?_⟩
  go_wp2_with (first | (go_at_call 19; with_reducible refine (hwo _).mono ?_; rintro e w' ⟨rfl, hw⟩; subst hw))
  refine ⟨rfl, ?_⟩
  go_ret3
  exact ⟨rfl, hX.below⟩
theorem Single_any (o : Int) (b : Bool) (v f : Int) (w : World) (W : Wid w) : Calls Tryd.prog 13 #[.int .i64 o, .bool b, .int .i64 v, .int .i64 f] w fun e w' => e = .returned (.tuple #[.int .i64 ((sngV o b v f).1), .int .i64 ((sngV o b v f).2.1), .bool (sngV o b v f).2.2]) ∧ Below w.heap.size w w' := by
  by_cases n12 : o = 12
  · subst n12
    cases b
    · have h := sn_clr_f v f w W
      exact h
    · have h := sn_clr_t v f w W
      exact h
  by_cases n13 : o = 13
  · subst n13
    cases b
    · have h := sn_com_f v f w W
      rw [← neg_op false (bits .xor .i64 (-1) v), ← zer_op false (bits .xor .i64 (-1) v), com_any] at h
      exact h
    · have h := sn_com_t v f w W
      rw [← neg_op true (bits .xor .i64 (-1) v), ← zer_op true (bits .xor .i64 (-1) v), com_any] at h
      exact h
  by_cases n14 : o = 14
  · subst n14
    cases b
    · have h := sn_inc_f v f w W
      rw [(add_l false v 1 0).1, (add_l false v 1 0).2] at h
      exact h
    · have h := sn_inc_t v f w W
      rw [(add_l true v 1 0).1, (add_l true v 1 0).2] at h
      exact h
  by_cases n15 : o = 15
  · subst n15
    cases b
    · have h := sn_dec_f v f w W
      rw [(sub_l false v 1 0).1, (sub_l false v 1 0).2] at h
      exact h
    · have h := sn_dec_t v f w W
      rw [(sub_l true v 1 0).1, (sub_l true v 1 0).2] at h
      exact h
  by_cases n16 : o = 16
  · subst n16
    cases b
    · have h := sn_neg_f v f w W
      rw [(sub_r false 0 v 0).1, (sub_r false 0 v 0).2] at h
      exact h
    · have h := sn_neg_t v f w W
      rw [(sub_r true 0 v 0).1, (sub_r true 0 v 0).2] at h
      exact h
  by_cases n17 : o = 17
  · subst n17
    cases b
    · have h := sn_adc_f v f w W
      rw [(add_c false v 0 f).1, (add_c false v 0 f).2, (add_l false v 0 f).1, (add_l false v 0 f).2] at h
      exact h
    · have h := sn_adc_t v f w W
      rw [(add_c true v 0 f).1, (add_c true v 0 f).2, (add_l true v 0 f).1, (add_l true v 0 f).2] at h
      exact h
  by_cases n18 : o = 18
  · subst n18
    cases b
    · have h := sn_sbc_f v f w W
      rw [(sub_c false v 0 f).1, (sub_c false v 0 f).2, (sub_l false v 0 f).1, (sub_l false v 0 f).2] at h
      exact h
    · have h := sn_sbc_t v f w W
      rw [(sub_c true v 0 f).1, (sub_c true v 0 f).2, (sub_l true v 0 f).1, (sub_l true v 0 f).2] at h
      exact h
  by_cases n19 : o = 19
  · subst n19
    cases b
    · have h := sn_tst_f v f w W
      rw [← neg_op false (v), ← zer_op false (v)] at h
      exact h
    · have h := sn_tst_t v f w W
      rw [← neg_op true (v), ← zer_op true (v)] at h
      exact h
  by_cases n20 : o = 20
  · subst n20
    cases b
    · have h := sn_ror_f v f w W
      rw [(rot_op false false v f).1, (rot_op false false v f).2] at h
      exact h
    · have h := sn_ror_t v f w W
      rw [(rot_op false true v f).1, (rot_op false true v f).2] at h
      exact h
  by_cases n21 : o = 21
  · subst n21
    cases b
    · have h := sn_rol_f v f w W
      rw [(rot_op true false v f).1, (rot_op true false v f).2] at h
      exact h
    · have h := sn_rol_t v f w W
      rw [(rot_op true true v f).1, (rot_op true true v f).2] at h
      exact h
  by_cases n22 : o = 22
  · subst n22
    cases b
    · have h := sn_asr_f v f w W
      rw [asr_F, asr_eq, show top false = 32768 from rfl] at h
      exact h
    · have h := sn_asr_t v f w W
      rw [asr_F, asr_eq, show top true = 128 from rfl] at h
      exact h
  by_cases n23 : o = 23
  · subst n23
    cases b
    · have h := sn_asl_f v f w W
      rw [asl_F, asl_eq, show top false = 32768 from rfl] at h
      exact h
    · have h := sn_asl_t v f w W
      rw [asl_F, asl_eq, show top true = 128 from rfl] at h
      exact h
  by_cases n24 : o = 24
  · subst n24
    cases b
    · have h := sn_swab_f v f w W
      exact h
    · exact sn_no 24 rfl v f w W
  by_cases n25 : o = 25
  · subst n25
    cases b
    · have h := sn_sxt_f v f w W
      exact h
    · exact sn_no 25 rfl v f w W
  rw [show sngV o b v f = (0, 0, false) from by unfold sngV; rw [if_neg n12, if_neg n13, if_neg n14, if_neg n15, if_neg n16, if_neg n17, if_neg n18, if_neg n19, if_neg n20, if_neg n21, if_neg n22, if_neg n23, if_neg n24, if_neg n25]]
  cases b
  · exact sn_else_f o v f w W n12 n13 n14 n15 n16 n17 n18 n19 n20 n21 n22 n23 n24 n25
  · cases hw : wo o
    · exact sn_else_t o hw v f w W n12 n13 n14 n15 n16 n17 n18 n19 n20 n21 n22 n23 n24 n25
    · exact sn_no o hw v f w W
end Go.Proofs.YtpimdbglmoopcaaDoor
