/-
  Long of package alu, and all its contracts. Condition: the table of widths.
-/
import Derived.Test.YtpimdbglmoopcaaDoorAlL
import Derived.Test.YtpimdbglmoopcaaDoorAlT
import Derived.Test.YtpimdbglmoopcaaDoorAlU
namespace Go.Proofs.YtpimdbglmoopcaaDoor
open Go.RowKit
set_option linter.unusedSimpArgs false
set_option linter.unusedVariables false
set_option maxHeartbeats 4000000
set_option maxRecDepth 100000
theorem divide_t (x y v : Int) (hd : dvW x y v = true) (w : World) (W : Wid w) : Calls Tryd.prog 36 #[.int .i64 x, .int .i64 y, .int .i64 v] w fun e w' => e = .returned (.tuple #[.int .i64 (dvQ x y v), .int .i64 (dvR x y v), .int .i64 (dvF x y v), .bool true]) ∧ Below w.heap.size w w' := by
  have h1 : ∀ w, Wid w → Calls Tryd.prog 50 #[.int .i64 x, .int .i64 y, .int .i64 v] w fun e w' => e = .returned (.tuple #[.int .i64 (dvQ x y v), .int .i64 (dvR x y v), .int .i64 (dvF x y v), .bool (dvW x y v)]) ∧ Below w.heap.size w w' := Div_any x y v
  rw [hd] at h1
  have h2 := fun n w W => wrap_any n w W
  generalize dvQ x y v = a at *
  generalize dvR x y v = c at *
  generalize dvF x y v = p at *
  have hX := Bag.nil w
  go_enter Tryd.func36, Tryd.ntmps36
  go_wp2_with (first | (go_at_call 50; with_reducible refine (h1 _ W).mono ?_; rintro e w' ⟨rfl, hb⟩; replace hX := hX.step hb; replace W := W.below hb; clear hb) | (go_at_call 38; with_reducible refine (h2 _ _ W).mono ?_; rintro e w' ⟨rfl, hw⟩; subst hw))
  refine bodyPost_ret (v := .tuple #[.int .i64 (a), .int .i64 (c), .int .i64 (p), .bool true]) (by simp [results, Tryd.results36, go_sem]) rfl ⟨rfl, hX.below⟩
theorem divide_f (x y v : Int) (hd : dvW x y v = false) (w : World) (W : Wid w) : Calls Tryd.prog 36 #[.int .i64 x, .int .i64 y, .int .i64 v] w fun e w' => e = .returned (.tuple #[.int .i64 (x % 65536), .int .i64 (y % 65536), .int .i64 (dvF x y v), .bool false]) ∧ Below w.heap.size w w' := by
  have h1 : ∀ w, Wid w → Calls Tryd.prog 50 #[.int .i64 x, .int .i64 y, .int .i64 v] w fun e w' => e = .returned (.tuple #[.int .i64 (dvQ x y v), .int .i64 (dvR x y v), .int .i64 (dvF x y v), .bool (dvW x y v)]) ∧ Below w.heap.size w w' := Div_any x y v
  rw [hd] at h1
  have h2 := fun n w W => wrap_any n w W
  generalize dvQ x y v = a at *
  generalize dvR x y v = c at *
  generalize dvF x y v = p at *
  have hX := Bag.nil w
  go_enter Tryd.func36, Tryd.ntmps36
  go_wp2_with (first | (go_at_call 50; with_reducible refine (h1 _ W).mono ?_; rintro e w' ⟨rfl, hb⟩; replace hX := hX.step hb; replace W := W.below hb; clear hb) | (go_at_call 38; with_reducible refine (h2 _ _ W).mono ?_; rintro e w' ⟨rfl, hw⟩; subst hw))
  refine bodyPost_ret (v := .tuple #[.int .i64 (x % 65536), .int .i64 (y % 65536), .int .i64 (p), .bool false]) (by simp [results, Tryd.results36, go_sem]) rfl ⟨rfl, hX.below⟩
theorem ln_mul (x y v f : Int) (w : World) (W : Wid w) : Calls Tryd.prog 17 #[.int .i64 8, .int .i64 x, .int .i64 y, .int .i64 v, .int .i64 f] w fun e w' => e = .returned (.tuple #[.int .i64 (mulH x v), .int .i64 (mulL x v), .int .i64 (mulF x v), .bool true]) ∧ Below w.heap.size w w' := by
  have h1 := Mul_any x v
  have h2 := fun n w W => wrap_any n w W
  generalize mulH x v = a at *
  generalize mulL x v = c at *
  generalize mulF x v = p at *
  have hX := Bag.nil w
  go_enter Tryd.func17, Tryd.ntmps17
  go_wp2_with (first | (go_at_call 35; with_reducible refine (h1 _ W).mono ?_; rintro e w' ⟨rfl, hb⟩; replace hX := hX.step hb; replace W := W.below hb; clear hb))
  refine bodyPost_ret (v := .tuple #[.int .i64 (a), .int .i64 (c), .int .i64 (p), .bool true]) (by simp [results, Tryd.results17, go_sem]) rfl ⟨rfl, hX.below⟩
theorem ln_div1 (x y v f : Int) (hd : dvW x y v = true) (w : World) (W : Wid w) : Calls Tryd.prog 17 #[.int .i64 9, .int .i64 x, .int .i64 y, .int .i64 v, .int .i64 f] w fun e w' => e = .returned (.tuple #[.int .i64 (dvQ x y v), .int .i64 (dvR x y v), .int .i64 (dvF x y v), .bool true]) ∧ Below w.heap.size w w' := by
  have h1 := divide_t x y v hd
  have h2 := fun n w W => wrap_any n w W
  generalize dvQ x y v = a at *
  generalize dvR x y v = c at *
  generalize dvF x y v = p at *
  have hX := Bag.nil w
  go_enter Tryd.func17, Tryd.ntmps17
  go_wp2_with (first | (go_at_call 36; with_reducible refine (h1 _ W).mono ?_; rintro e w' ⟨rfl, hb⟩; replace hX := hX.step hb; replace W := W.below hb; clear hb))
  refine bodyPost_ret (v := .tuple #[.int .i64 (a), .int .i64 (c), .int .i64 (p), .bool true]) (by simp [results, Tryd.results17, go_sem]) rfl ⟨rfl, hX.below⟩
theorem ln_div0 (x y v f : Int) (hd : dvW x y v = false) (w : World) (W : Wid w) : Calls Tryd.prog 17 #[.int .i64 9, .int .i64 x, .int .i64 y, .int .i64 v, .int .i64 f] w fun e w' => e = .returned (.tuple #[.int .i64 (x % 65536), .int .i64 (y % 65536), .int .i64 (dvF x y v), .bool false]) ∧ Below w.heap.size w w' := by
  have h1 := divide_f x y v hd
  have h2 := fun n w W => wrap_any n w W
  generalize x % 65536 = a at *
  generalize y % 65536 = c at *
  generalize dvF x y v = p at *
  have hX := Bag.nil w
  go_enter Tryd.func17, Tryd.ntmps17
  go_wp2_with (first | (go_at_call 36; with_reducible refine (h1 _ W).mono ?_; rintro e w' ⟨rfl, hb⟩; replace hX := hX.step hb; replace W := W.below hb; clear hb))
  refine bodyPost_ret (v := .tuple #[.int .i64 (a), .int .i64 (c), .int .i64 (p), .bool false]) (by simp [results, Tryd.results17, go_sem]) rfl ⟨rfl, hX.below⟩
theorem ln_ash (x y v f : Int) (w : World) (W : Wid w) : Calls Tryd.prog 17 #[.int .i64 10, .int .i64 x, .int .i64 y, .int .i64 v, .int .i64 f] w fun e w' => e = .returned (.tuple #[.int .i64 (shfR x v), .int .i64 (y % 65536), .int .i64 (shfF x v), .bool true]) ∧ Below w.heap.size w w' := by
  have h1 := Shift_any x v
  have h2 := fun n w W => wrap_any n w W
  generalize shfR x v = a at *
  generalize shfF x v = p at *
  have hX := Bag.nil w
  go_enter Tryd.func17, Tryd.ntmps17
  go_wp2_with (first | (go_at_call 37; with_reducible refine (h1 _ W).mono ?_; rintro e w' ⟨rfl, hb⟩; replace hX := hX.step hb; replace W := W.below hb; clear hb) | (go_at_call 38; with_reducible refine (h2 _ _ W).mono ?_; rintro e w' ⟨rfl, hw⟩; subst hw))
  refine bodyPost_ret (v := .tuple #[.int .i64 (a), .int .i64 (y % 65536), .int .i64 (p), .bool true]) (by simp [results, Tryd.results17, go_sem]) rfl ⟨rfl, hX.below⟩
theorem ln_else (o x y v f : Int) (w : World) (W : Wid w) (n8 : ¬ o = 8) (n9 : ¬ o = 9) (n10 : ¬ o = 10) : Calls Tryd.prog 17 #[.int .i64 o, .int .i64 x, .int .i64 y, .int .i64 v, .int .i64 f] w fun e w' => e = .returned (.tuple #[.int .i64 (0), .int .i64 (0), .int .i64 (0), .bool false]) ∧ Below w.heap.size w w' := by
  have e8 : (o == 8) = false := by simpa using n8
  have e9 : (o == 9) = false := by simpa using n9
  have e10 : (o == 10) = false := by simpa using n10
  have hX := Bag.nil w
  go_enter Tryd.func17, Tryd.ntmps17
  go_wp2
  refine bodyPost_ret (v := .tuple #[.int .i64 (0), .int .i64 (0), .int .i64 (0), .bool false]) (by simp [results, Tryd.results17, go_sem]) rfl ⟨rfl, hX.below⟩
theorem Long_any (o x y v f : Int) (w : World) (W : Wid w) : Calls Tryd.prog 17 #[.int .i64 o, .int .i64 x, .int .i64 y, .int .i64 v, .int .i64 f] w fun e w' => e = .returned (.tuple #[.int .i64 ((lngV o x y v f).1), .int .i64 ((lngV o x y v f).2.1), .int .i64 ((lngV o x y v f).2.2.1), .bool (lngV o x y v f).2.2.2]) ∧ Below w.heap.size w w' := by
  by_cases n8 : o = 8
  · subst n8; exact ln_mul x y v f w W
  by_cases n9 : o = 9
  · subst n9
    cases hd : dvW x y v
    · rw [show lngV 9 x y v f = (x % 65536, y % 65536, dvF x y v, false) from by unfold lngV; rw [if_neg (by decide), if_pos rfl, hd]; rfl]
      exact ln_div0 x y v f hd w W
    · rw [show lngV 9 x y v f = (dvQ x y v, dvR x y v, dvF x y v, true) from by unfold lngV; rw [if_neg (by decide), if_pos rfl, hd]; rfl]
      exact ln_div1 x y v f hd w W
  by_cases n10 : o = 10
  · subst n10; exact ln_ash x y v f w W
  rw [show lngV o x y v f = (0, 0, 0, false) from by unfold lngV; rw [if_neg n8, if_neg n9, if_neg n10]]
  exact ln_else o x y v f w W n8 n9 n10
theorem alu_c : AluC :=
  ⟨fun o b s d f w W => Double_any o b s d f w W, fun o b v f w W => Single_any o b v f w W, fun o f w W => (Taken_any o f w).mono fun e w' h => ⟨h.1, h.2 ▸ Below.refl _ _⟩, fun o x y v f w W => Long_any o x y v f w W⟩
end Go.Proofs.YtpimdbglmoopcaaDoor
