/-
  Taken of package alu. No condition.
-/
import Derived.Test.YtpimdbglmoopcaaDoorAlQ
namespace Go.Proofs.YtpimdbglmoopcaaDoor
open Go.RowKit
set_option linter.unusedSimpArgs false
set_option linter.unusedVariables false
set_option maxHeartbeats 4000000
set_option maxRecDepth 100000
theorem tk_26 (f : Int) (w : World) : Calls Tryd.prog 15 #[.int .i64 26, .int .i64 f] w fun e w' => e = .returned (.bool (true)) ∧ w = w' := by
  have hN := fN_eq f
  have hZ := fZ_eq f
  have hV := fV_eq f
  have hC := fC_eq f
  generalize fN f = n at *
  generalize fZ f = z at *
  generalize fV f = v at *
  generalize fC f = c at *
  go_enter Tryd.func15, Tryd.ntmps15
  go_wp2
  go_ret
  exact ⟨rfl, rfl⟩
theorem tk_27 (f : Int) (w : World) : Calls Tryd.prog 15 #[.int .i64 27, .int .i64 f] w fun e w' => e = .returned (.bool (!(fZ f))) ∧ w = w' := by
  have hN := fN_eq f
  have hZ := fZ_eq f
  have hV := fV_eq f
  have hC := fC_eq f
  generalize fN f = n at *
  generalize fZ f = z at *
  generalize fV f = v at *
  generalize fC f = c at *
  go_enter Tryd.func15, Tryd.ntmps15
  go_wp2
  go_ret
  exact ⟨rfl, rfl⟩
theorem tk_28 (f : Int) (w : World) : Calls Tryd.prog 15 #[.int .i64 28, .int .i64 f] w fun e w' => e = .returned (.bool ((fZ f))) ∧ w = w' := by
  have hN := fN_eq f
  have hZ := fZ_eq f
  have hV := fV_eq f
  have hC := fC_eq f
  generalize fN f = n at *
  generalize fZ f = z at *
  generalize fV f = v at *
  generalize fC f = c at *
  go_enter Tryd.func15, Tryd.ntmps15
  go_wp2
  go_ret
  exact ⟨rfl, rfl⟩
theorem tk_29 (f : Int) (w : World) : Calls Tryd.prog 15 #[.int .i64 29, .int .i64 f] w fun e w' => e = .returned (.bool ((fN f) == (fV f))) ∧ w = w' := by
  have hN := fN_eq f
  have hZ := fZ_eq f
  have hV := fV_eq f
  have hC := fC_eq f
  generalize fN f = n at *
  generalize fZ f = z at *
  generalize fV f = v at *
  generalize fC f = c at *
  cases n <;> cases v
  all_goals
    go_enter Tryd.func15, Tryd.ntmps15
    go_wp2
    go_ret
    exact ⟨rfl, rfl⟩
theorem tk_30 (f : Int) (w : World) : Calls Tryd.prog 15 #[.int .i64 30, .int .i64 f] w fun e w' => e = .returned (.bool ((fN f) != (fV f))) ∧ w = w' := by
  have hN := fN_eq f
  have hZ := fZ_eq f
  have hV := fV_eq f
  have hC := fC_eq f
  generalize fN f = n at *
  generalize fZ f = z at *
  generalize fV f = v at *
  generalize fC f = c at *
  cases n <;> cases v
  all_goals
    go_enter Tryd.func15, Tryd.ntmps15
    go_wp2
    go_ret
    exact ⟨rfl, rfl⟩
theorem tk_31 (f : Int) (w : World) : Calls Tryd.prog 15 #[.int .i64 31, .int .i64 f] w fun e w' => e = .returned (.bool (!(fZ f) && ((fN f) == (fV f)))) ∧ w = w' := by
  have hN := fN_eq f
  have hZ := fZ_eq f
  have hV := fV_eq f
  have hC := fC_eq f
  generalize fN f = n at *
  generalize fZ f = z at *
  generalize fV f = v at *
  generalize fC f = c at *
  cases n <;> cases z <;> cases v
  all_goals
    go_enter Tryd.func15, Tryd.ntmps15
    go_wp2
    go_ret
    exact ⟨rfl, rfl⟩
theorem tk_32 (f : Int) (w : World) : Calls Tryd.prog 15 #[.int .i64 32, .int .i64 f] w fun e w' => e = .returned (.bool ((fZ f) || ((fN f) != (fV f)))) ∧ w = w' := by
  have hN := fN_eq f
  have hZ := fZ_eq f
  have hV := fV_eq f
  have hC := fC_eq f
  generalize fN f = n at *
  generalize fZ f = z at *
  generalize fV f = v at *
  generalize fC f = c at *
  cases n <;> cases z <;> cases v
  all_goals
    go_enter Tryd.func15, Tryd.ntmps15
    go_wp2
    go_ret
    exact ⟨rfl, rfl⟩
theorem tk_33 (f : Int) (w : World) : Calls Tryd.prog 15 #[.int .i64 33, .int .i64 f] w fun e w' => e = .returned (.bool (!(fN f))) ∧ w = w' := by
  have hN := fN_eq f
  have hZ := fZ_eq f
  have hV := fV_eq f
  have hC := fC_eq f
  generalize fN f = n at *
  generalize fZ f = z at *
  generalize fV f = v at *
  generalize fC f = c at *
  go_enter Tryd.func15, Tryd.ntmps15
  go_wp2
  go_ret
  exact ⟨rfl, rfl⟩
theorem tk_34 (f : Int) (w : World) : Calls Tryd.prog 15 #[.int .i64 34, .int .i64 f] w fun e w' => e = .returned (.bool ((fN f))) ∧ w = w' := by
  have hN := fN_eq f
  have hZ := fZ_eq f
  have hV := fV_eq f
  have hC := fC_eq f
  generalize fN f = n at *
  generalize fZ f = z at *
  generalize fV f = v at *
  generalize fC f = c at *
  go_enter Tryd.func15, Tryd.ntmps15
  go_wp2
  go_ret
  exact ⟨rfl, rfl⟩
theorem tk_35 (f : Int) (w : World) : Calls Tryd.prog 15 #[.int .i64 35, .int .i64 f] w fun e w' => e = .returned (.bool (!(fC f) && !(fZ f))) ∧ w = w' := by
  have hN := fN_eq f
  have hZ := fZ_eq f
  have hV := fV_eq f
  have hC := fC_eq f
  generalize fN f = n at *
  generalize fZ f = z at *
  generalize fV f = v at *
  generalize fC f = c at *
  cases z <;> cases c
  all_goals
    go_enter Tryd.func15, Tryd.ntmps15
    go_wp2
    go_ret
    exact ⟨rfl, rfl⟩
theorem tk_36 (f : Int) (w : World) : Calls Tryd.prog 15 #[.int .i64 36, .int .i64 f] w fun e w' => e = .returned (.bool ((fC f) || (fZ f))) ∧ w = w' := by
  have hN := fN_eq f
  have hZ := fZ_eq f
  have hV := fV_eq f
  have hC := fC_eq f
  generalize fN f = n at *
  generalize fZ f = z at *
  generalize fV f = v at *
  generalize fC f = c at *
  cases z <;> cases c
  all_goals
    go_enter Tryd.func15, Tryd.ntmps15
    go_wp2
    go_ret
    exact ⟨rfl, rfl⟩
theorem tk_37 (f : Int) (w : World) : Calls Tryd.prog 15 #[.int .i64 37, .int .i64 f] w fun e w' => e = .returned (.bool (!(fV f))) ∧ w = w' := by
  have hN := fN_eq f
  have hZ := fZ_eq f
  have hV := fV_eq f
  have hC := fC_eq f
  generalize fN f = n at *
  generalize fZ f = z at *
  generalize fV f = v at *
  generalize fC f = c at *
  go_enter Tryd.func15, Tryd.ntmps15
  go_wp2
  go_ret
  exact ⟨rfl, rfl⟩
theorem tk_38 (f : Int) (w : World) : Calls Tryd.prog 15 #[.int .i64 38, .int .i64 f] w fun e w' => e = .returned (.bool ((fV f))) ∧ w = w' := by
  have hN := fN_eq f
  have hZ := fZ_eq f
  have hV := fV_eq f
  have hC := fC_eq f
  generalize fN f = n at *
  generalize fZ f = z at *
  generalize fV f = v at *
  generalize fC f = c at *
  go_enter Tryd.func15, Tryd.ntmps15
  go_wp2
  go_ret
  exact ⟨rfl, rfl⟩
theorem tk_39 (f : Int) (w : World) : Calls Tryd.prog 15 #[.int .i64 39, .int .i64 f] w fun e w' => e = .returned (.bool (!(fC f))) ∧ w = w' := by
  have hN := fN_eq f
  have hZ := fZ_eq f
  have hV := fV_eq f
  have hC := fC_eq f
  generalize fN f = n at *
  generalize fZ f = z at *
  generalize fV f = v at *
  generalize fC f = c at *
  go_enter Tryd.func15, Tryd.ntmps15
  go_wp2
  go_ret
  exact ⟨rfl, rfl⟩
theorem tk_40 (f : Int) (w : World) : Calls Tryd.prog 15 #[.int .i64 40, .int .i64 f] w fun e w' => e = .returned (.bool ((fC f))) ∧ w = w' := by
  have hN := fN_eq f
  have hZ := fZ_eq f
  have hV := fV_eq f
  have hC := fC_eq f
  generalize fN f = n at *
  generalize fZ f = z at *
  generalize fV f = v at *
  generalize fC f = c at *
  go_enter Tryd.func15, Tryd.ntmps15
  go_wp2
  go_ret
  exact ⟨rfl, rfl⟩
theorem tk_else (o f : Int) (w : World) (n26 : ¬ o = 26) (n27 : ¬ o = 27) (n28 : ¬ o = 28) (n29 : ¬ o = 29) (n30 : ¬ o = 30) (n31 : ¬ o = 31) (n32 : ¬ o = 32) (n33 : ¬ o = 33) (n34 : ¬ o = 34) (n35 : ¬ o = 35) (n36 : ¬ o = 36) (n37 : ¬ o = 37) (n38 : ¬ o = 38) (n39 : ¬ o = 39) (n40 : ¬ o = 40) : Calls Tryd.prog 15 #[.int .i64 o, .int .i64 f] w fun e w' => e = .returned (.bool (false)) ∧ w = w' := by
  have e26 : (o == 26) = false := by simpa using n26
  have e27 : (o == 27) = false := by simpa using n27
  have e28 : (o == 28) = false := by simpa using n28
  have e29 : (o == 29) = false := by simpa using n29
  have e30 : (o == 30) = false := by simpa using n30
  have e31 : (o == 31) = false := by simpa using n31
  have e32 : (o == 32) = false := by simpa using n32
  have e33 : (o == 33) = false := by simpa using n33
  have e34 : (o == 34) = false := by simpa using n34
  have e35 : (o == 35) = false := by simpa using n35
  have e36 : (o == 36) = false := by simpa using n36
  have e37 : (o == 37) = false := by simpa using n37
  have e38 : (o == 38) = false := by simpa using n38
  have e39 : (o == 39) = false := by simpa using n39
  have e40 : (o == 40) = false := by simpa using n40
  have hN := fN_eq f
  have hZ := fZ_eq f
  have hV := fV_eq f
  have hC := fC_eq f
  generalize fN f = n at *
  generalize fZ f = z at *
  generalize fV f = v at *
  generalize fC f = c at *
  go_enter Tryd.func15, Tryd.ntmps15
  go_wp2
  go_ret
  exact ⟨rfl, rfl⟩
theorem Taken_any (o f : Int) (w : World) : Calls Tryd.prog 15 #[.int .i64 o, .int .i64 f] w fun e w' => e = .returned (.bool (tkB o f)) ∧ w = w' := by
  unfold tkB
  by_cases n26 : o = 26
  · subst n26; exact tk_26 f w
  by_cases n27 : o = 27
  · subst n27; exact tk_27 f w
  by_cases n28 : o = 28
  · subst n28; exact tk_28 f w
  by_cases n29 : o = 29
  · subst n29; exact tk_29 f w
  by_cases n30 : o = 30
  · subst n30; exact tk_30 f w
  by_cases n31 : o = 31
  · subst n31; exact tk_31 f w
  by_cases n32 : o = 32
  · subst n32; exact tk_32 f w
  by_cases n33 : o = 33
  · subst n33; exact tk_33 f w
  by_cases n34 : o = 34
  · subst n34; exact tk_34 f w
  by_cases n35 : o = 35
  · subst n35; exact tk_35 f w
  by_cases n36 : o = 36
  · subst n36; exact tk_36 f w
  by_cases n37 : o = 37
  · subst n37; exact tk_37 f w
  by_cases n38 : o = 38
  · subst n38; exact tk_38 f w
  by_cases n39 : o = 39
  · subst n39; exact tk_39 f w
  by_cases n40 : o = 40
  · subst n40; exact tk_40 f w
  rw [if_neg n26, if_neg n27, if_neg n28, if_neg n29, if_neg n30, if_neg n31, if_neg n32, if_neg n33, if_neg n34, if_neg n35, if_neg n36, if_neg n37, if_neg n38, if_neg n39, if_neg n40]
  exact tk_else o f w n26 n27 n28 n29 n30 n31 n32 n33 n34 n35 n36 n37 n38 n39 n40
end Go.Proofs.YtpimdbglmoopcaaDoor
