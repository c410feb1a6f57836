/-
  Small functions of package alu. Condition: the table of widths.
-/
import Derived.Test.YtpimdbglmoopcaaDoorAlQ
import Derived.Test.YtpimdbglmoopcaaDoorBagG
import Derived.Test.YtpimdbglmoopcaaDoorWalkF
namespace Go.Proofs.YtpimdbglmoopcaaDoor
open Go.RowKit
set_option linter.unusedSimpArgs false
set_option linter.unusedVariables false
set_option maxHeartbeats 4000000
set_option maxRecDepth 100000

/-- Has an operation no form for bytes? -/
def wo (o : Int) : Bool := decide (o = 6) || decide (o = 7) || decide (o = 11) || decide (o = 24) || decide (o = 25)
theorem wo_6 (w : World) : Calls Tryd.prog 19 #[.int .i64 6] w fun e w' => e = .returned (.bool true) ∧ w = w' := by
  go_enter Tryd.func19, Tryd.ntmps19
  go_wp2
  go_ret
  exact ⟨rfl, rfl⟩
theorem wo_7 (w : World) : Calls Tryd.prog 19 #[.int .i64 7] w fun e w' => e = .returned (.bool true) ∧ w = w' := by
  go_enter Tryd.func19, Tryd.ntmps19
  go_wp2
  go_ret
  exact ⟨rfl, rfl⟩
theorem wo_11 (w : World) : Calls Tryd.prog 19 #[.int .i64 11] w fun e w' => e = .returned (.bool true) ∧ w = w' := by
  go_enter Tryd.func19, Tryd.ntmps19
  go_wp2
  go_ret
  exact ⟨rfl, rfl⟩
theorem wo_24 (w : World) : Calls Tryd.prog 19 #[.int .i64 24] w fun e w' => e = .returned (.bool true) ∧ w = w' := by
  go_enter Tryd.func19, Tryd.ntmps19
  go_wp2
  go_ret
  exact ⟨rfl, rfl⟩
theorem wo_25 (w : World) : Calls Tryd.prog 19 #[.int .i64 25] w fun e w' => e = .returned (.bool true) ∧ w = w' := by
  go_enter Tryd.func19, Tryd.ntmps19
  go_wp2
  go_ret
  exact ⟨rfl, rfl⟩
theorem wo_no (o : Int) (w : World) (n6 : ¬ o = 6) (n7 : ¬ o = 7) (n11 : ¬ o = 11) (n24 : ¬ o = 24) (n25 : ¬ o = 25) : Calls Tryd.prog 19 #[.int .i64 o] w fun e w' => e = .returned (.bool false) ∧ w = w' := by
  have e6 : (o == 6) = false := by simpa using n6
  have e7 : (o == 7) = false := by simpa using n7
  have e11 : (o == 11) = false := by simpa using n11
  have e24 : (o == 24) = false := by simpa using n24
  have e25 : (o == 25) = false := by simpa using n25
  go_enter Tryd.func19, Tryd.ntmps19
  go_wp2
  go_ret
  exact ⟨rfl, rfl⟩
theorem wo_any (o : Int) (w : World) : Calls Tryd.prog 19 #[.int .i64 o] w fun e w' => e = .returned (.bool (wo o)) ∧ w = w' := by
  by_cases n6 : o = 6
  · subst n6; exact wo_6 w
  by_cases n7 : o = 7
  · subst n7; exact wo_7 w
  by_cases n11 : o = 11
  · subst n11; exact wo_11 w
  by_cases n24 : o = 24
  · subst n24; exact wo_24 w
  by_cases n25 : o = 25
  · subst n25; exact wo_25 w
  rw [show wo o = false from by unfold wo; simp only [n6, n7, n11, n24, n25, decide_false, Bool.or_self]]
  exact wo_no o w n6 n7 n11 n24 n25
theorem reduce_any (b : Bool) (n : Int) (w : World) (W : Wid w) : Calls Tryd.prog 22 #[.int .i64 n, .bool b] w fun e w' => e = .returned (.int .i64 (op b n)) ∧ w = w' := by
  have A2 := and_255 n
  have h1 := fun w W => wrap_any n w W
  cases b
  all_goals
    go_enter Tryd.func22, Tryd.ntmps22
    go_wp2_with (first | (go_at_call 38; with_reducible refine (h1 _ W).mono ?_; rintro e w' ⟨rfl, hw⟩; subst hw))
    go_ret
    exact ⟨rfl, rfl⟩
theorem withCarry_any (c k r : Int) (hr : bits .or .i64 (bits .andNot .i64 c 1) k = r) (w : World) : Calls Tryd.prog 28 #[.int .i64 c, .int .i64 k] w fun e w' => e = .returned (.int .i64 r) ∧ w = w' := by
  go_enter Tryd.func28, Tryd.ntmps28
  go_wp2
  go_ret
  exact ⟨rfl, rfl⟩
theorem sign_any (b : Bool) (v : Int) (w : World) (W : Wid w) : Calls Tryd.prog 29 #[.int .i64 v, .bool b] w fun e w' => e = .returned (.int .i64 (if neg b v = true then 1 else 0)) ∧ Below w.heap.size w w' := by
  have h1 := fun w W => Flags_any b v w W
  have hn : ∀ z, (bits .and .i64 (cod true z false false) 8 != 0) = true := by intro z; cases z <;> rfl
  have hm : ∀ z, (bits .and .i64 (cod false z false false) 8 != 0) = false := by intro z; cases z <;> rfl
  generalize zer b v = z at *
  replace hn := hn z
  replace hm := hm z
  have hX := Bag.nil w
  generalize neg b v = n at *
  cases n
  · generalize cod false z false false = q at *
    clear hn
    go_enter Tryd.func29, Tryd.ntmps29
    go_wp2_with (first | (go_at_call 23; with_reducible refine (h1 _ W).mono ?_; rintro e w' ⟨rfl, hb⟩; replace hX := hX.step hb; replace W := W.below hb; clear hb))
    go_ret
    exact ⟨rfl, hX.below⟩
  · generalize cod true z false false = q at *
    clear hm
    go_enter Tryd.func29, Tryd.ntmps29
    go_wp2_with (first | (go_at_call 23; with_reducible refine (h1 _ W).mono ?_; rintro e w' ⟨rfl, hb⟩; replace hX := hX.step hb; replace W := W.below hb; clear hb))
    go_ret
    exact ⟨rfl, hX.below⟩
theorem spread_any (b : Bool) (w : World) : Calls Tryd.prog 32 #[.bool b] w fun e w' => e = .returned (.int .i64 (if b = true then 65535 else 0)) ∧ w = w' := by
  cases b
  all_goals
    go_enter Tryd.func32, Tryd.ntmps32
    go_wp2
    go_ret
    exact ⟨rfl, rfl⟩
theorem swapped_any (v : Int) (w : World) (W : Wid w) : Calls Tryd.prog 31 #[.int .i64 v] w fun e w' => e = .returned (.int .i64 (v % 65536 % 256 * 256 + v % 65536 / 256)) ∧ w = w' := by
  have h1 := fun n w W => wrap_any n w W
  have e : wrap64 (v * 256) % 65536 = v % 65536 % 256 * 256 := by unfold wrap64; omega
  have hs := swab_eq v
  have em : v % 65536 % 256 = v % 256 := by omega
  rw [em] at e hs
  rw [em]
  go_enter Tryd.func31, Tryd.ntmps31
  go_wp2_with (first | (go_at_call 38; with_reducible refine (h1 _ _ W).mono ?_; rintro e w' ⟨rfl, hw⟩; subst hw))
  go_ret
  exact ⟨rfl, rfl⟩
end Go.Proofs.YtpimdbglmoopcaaDoor
