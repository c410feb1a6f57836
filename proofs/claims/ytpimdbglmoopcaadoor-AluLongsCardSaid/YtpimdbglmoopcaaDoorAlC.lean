/-
  Taken of the reference of package alu. No condition.
-/
import Derived.Test.YtpimdbglmoopcaaDoorAlA
namespace Go.Proofs.YtpimdbglmoopcaaDoor
open Go.RowKit
set_option linter.unusedSimpArgs false
set_option linter.unusedVariables false
set_option maxHeartbeats 4000000
set_option maxRecDepth 100000

def fN (f : Int) : Bool := decide (f / 8 % 2 = 1)
def fZ (f : Int) : Bool := decide (f / 4 % 2 = 1)
def fV (f : Int) : Bool := decide (f / 2 % 2 = 1)
def fC (f : Int) : Bool := decide (f % 2 = 1)
theorem bit_ne (k : Nat) (hk : k < 63) (f : Int) (p : Int) (hp : p = ((2 ^ k : Nat) : Int)) : (bits .and .i64 f p != 0) = decide (f / p % 2 = 1) := by
  have h := and_bit k hk f
  rw [← hp] at h
  rw [h]
  have h0 : 0 < p := by rw [hp]; have := Nat.two_pow_pos k; omega
  rcases (by omega : f / p % 2 = 0 ∨ f / p % 2 = 1) with e | e
  · rw [e, Int.zero_mul]; rfl
  · rw [e, Int.one_mul]
    have : p ≠ 0 := by omega
    simpa using this
theorem fN_eq (f : Int) : (bits .and .i64 f 8 != 0) = fN f := bit_ne 3 (by decide) f 8 rfl
theorem fZ_eq (f : Int) : (bits .and .i64 f 4 != 0) = fZ f := bit_ne 2 (by decide) f 4 rfl
theorem fV_eq (f : Int) : (bits .and .i64 f 2 != 0) = fV f := bit_ne 1 (by decide) f 2 rfl
theorem fC_eq (f : Int) : (bits .and .i64 f 1 != 0) = fC f := by
  have h := bit_ne 0 (by decide) f 1 rfl
  rw [Int.ediv_one] at h; exact h

theorem rtk_26 (f : Int) (w : World) : Calls Tryd.prog 16 #[.int .i64 26, .int .i64 f] w fun e w' => e = .returned (.bool (true)) ∧ w = w' := by
  have hN := fN_eq f
  have hZ := fZ_eq f
  have hV := fV_eq f
  have hC := fC_eq f
  generalize fN f = n at *
  generalize fZ f = z at *
  generalize fV f = v at *
  generalize fC f = c at *
  go_enter Tryd.func16, Tryd.ntmps16
  go_wp2
  go_ret
  exact ⟨rfl, rfl⟩

theorem rtk_27 (f : Int) (w : World) : Calls Tryd.prog 16 #[.int .i64 27, .int .i64 f] w fun e w' => e = .returned (.bool (!(fZ f))) ∧ w = w' := by
  have hN := fN_eq f
  have hZ := fZ_eq f
  have hV := fV_eq f
  have hC := fC_eq f
  generalize fN f = n at *
  generalize fZ f = z at *
  generalize fV f = v at *
  generalize fC f = c at *
  go_enter Tryd.func16, Tryd.ntmps16
  go_wp2
  go_ret
  exact ⟨rfl, rfl⟩

theorem rtk_28 (f : Int) (w : World) : Calls Tryd.prog 16 #[.int .i64 28, .int .i64 f] w fun e w' => e = .returned (.bool ((fZ f))) ∧ w = w' := by
  have hN := fN_eq f
  have hZ := fZ_eq f
  have hV := fV_eq f
  have hC := fC_eq f
  generalize fN f = n at *
  generalize fZ f = z at *
  generalize fV f = v at *
  generalize fC f = c at *
  go_enter Tryd.func16, Tryd.ntmps16
  go_wp2
  go_ret
  exact ⟨rfl, rfl⟩

theorem rtk_29 (f : Int) (w : World) : Calls Tryd.prog 16 #[.int .i64 29, .int .i64 f] w fun e w' => e = .returned (.bool ((fN f) == (fV f))) ∧ w = w' := by
  have hN := fN_eq f
  have hZ := fZ_eq f
  have hV := fV_eq f
  have hC := fC_eq f
  generalize fN f = n at *
  generalize fZ f = z at *
  generalize fV f = v at *
  generalize fC f = c at *
  go_enter Tryd.func16, Tryd.ntmps16
  go_wp2
  go_ret
  exact ⟨rfl, rfl⟩

theorem rtk_30 (f : Int) (w : World) : Calls Tryd.prog 16 #[.int .i64 30, .int .i64 f] w fun e w' => e = .returned (.bool ((fN f) != (fV f))) ∧ w = w' := by
  have hN := fN_eq f
  have hZ := fZ_eq f
  have hV := fV_eq f
  have hC := fC_eq f
  generalize fN f = n at *
  generalize fZ f = z at *
  generalize fV f = v at *
  generalize fC f = c at *
  go_enter Tryd.func16, Tryd.ntmps16
  go_wp2
  go_ret
  exact ⟨rfl, rfl⟩

theorem rtk_31 (f : Int) (w : World) : Calls Tryd.prog 16 #[.int .i64 31, .int .i64 f] w fun e w' => e = .returned (.bool (!(fZ f) && ((fN f) == (fV f)))) ∧ w = w' := by
  have hN := fN_eq f
  have hZ := fZ_eq f
  have hV := fV_eq f
  have hC := fC_eq f
  generalize fN f = n at *
  generalize fZ f = z at *
  generalize fV f = v at *
  generalize fC f = c at *
  cases z
  all_goals
    go_enter Tryd.func16, Tryd.ntmps16
    go_wp2
    go_ret
    exact ⟨rfl, rfl⟩

theorem rtk_32 (f : Int) (w : World) : Calls Tryd.prog 16 #[.int .i64 32, .int .i64 f] w fun e w' => e = .returned (.bool ((fZ f) || ((fN f) != (fV f)))) ∧ w = w' := by
  have hN := fN_eq f
  have hZ := fZ_eq f
  have hV := fV_eq f
  have hC := fC_eq f
  generalize fN f = n at *
  generalize fZ f = z at *
  generalize fV f = v at *
  generalize fC f = c at *
  cases z
  all_goals
    go_enter Tryd.func16, Tryd.ntmps16
    go_wp2
    go_ret
    exact ⟨rfl, rfl⟩

theorem rtk_33 (f : Int) (w : World) : Calls Tryd.prog 16 #[.int .i64 33, .int .i64 f] w fun e w' => e = .returned (.bool (!(fN f))) ∧ w = w' := by
  have hN := fN_eq f
  have hZ := fZ_eq f
  have hV := fV_eq f
  have hC := fC_eq f
  generalize fN f = n at *
  generalize fZ f = z at *
  generalize fV f = v at *
  generalize fC f = c at *
  go_enter Tryd.func16, Tryd.ntmps16
  go_wp2
  go_ret
  exact ⟨rfl, rfl⟩

theorem rtk_34 (f : Int) (w : World) : Calls Tryd.prog 16 #[.int .i64 34, .int .i64 f] w fun e w' => e = .returned (.bool ((fN f))) ∧ w = w' := by
  have hN := fN_eq f
  have hZ := fZ_eq f
  have hV := fV_eq f
  have hC := fC_eq f
  generalize fN f = n at *
  generalize fZ f = z at *
  generalize fV f = v at *
  generalize fC f = c at *
  go_enter Tryd.func16, Tryd.ntmps16
  go_wp2
  go_ret
  exact ⟨rfl, rfl⟩

theorem rtk_35 (f : Int) (w : World) : Calls Tryd.prog 16 #[.int .i64 35, .int .i64 f] w fun e w' => e = .returned (.bool (!(fC f) && !(fZ f))) ∧ w = w' := by
  have hN := fN_eq f
  have hZ := fZ_eq f
  have hV := fV_eq f
  have hC := fC_eq f
  generalize fN f = n at *
  generalize fZ f = z at *
  generalize fV f = v at *
  generalize fC f = c at *
  cases c
  all_goals
    go_enter Tryd.func16, Tryd.ntmps16
    go_wp2
    go_ret
    exact ⟨rfl, rfl⟩

theorem rtk_36 (f : Int) (w : World) : Calls Tryd.prog 16 #[.int .i64 36, .int .i64 f] w fun e w' => e = .returned (.bool ((fC f) || (fZ f))) ∧ w = w' := by
  have hN := fN_eq f
  have hZ := fZ_eq f
  have hV := fV_eq f
  have hC := fC_eq f
  generalize fN f = n at *
  generalize fZ f = z at *
  generalize fV f = v at *
  generalize fC f = c at *
  cases c
  all_goals
    go_enter Tryd.func16, Tryd.ntmps16
    go_wp2
    go_ret
    exact ⟨rfl, rfl⟩

theorem rtk_37 (f : Int) (w : World) : Calls Tryd.prog 16 #[.int .i64 37, .int .i64 f] w fun e w' => e = .returned (.bool (!(fV f))) ∧ w = w' := by
  have hN := fN_eq f
  have hZ := fZ_eq f
  have hV := fV_eq f
  have hC := fC_eq f
  generalize fN f = n at *
  generalize fZ f = z at *
  generalize fV f = v at *
  generalize fC f = c at *
  go_enter Tryd.func16, Tryd.ntmps16
  go_wp2
  go_ret
  exact ⟨rfl, rfl⟩

theorem rtk_38 (f : Int) (w : World) : Calls Tryd.prog 16 #[.int .i64 38, .int .i64 f] w fun e w' => e = .returned (.bool ((fV f))) ∧ w = w' := by
  have hN := fN_eq f
  have hZ := fZ_eq f
  have hV := fV_eq f
  have hC := fC_eq f
  generalize fN f = n at *
  generalize fZ f = z at *
  generalize fV f = v at *
  generalize fC f = c at *
  go_enter Tryd.func16, Tryd.ntmps16
  go_wp2
  go_ret
  exact ⟨rfl, rfl⟩

theorem rtk_39 (f : Int) (w : World) : Calls Tryd.prog 16 #[.int .i64 39, .int .i64 f] w fun e w' => e = .returned (.bool (!(fC f))) ∧ w = w' := by
  have hN := fN_eq f
  have hZ := fZ_eq f
  have hV := fV_eq f
  have hC := fC_eq f
  generalize fN f = n at *
  generalize fZ f = z at *
  generalize fV f = v at *
  generalize fC f = c at *
  go_enter Tryd.func16, Tryd.ntmps16
  go_wp2
  go_ret
  exact ⟨rfl, rfl⟩

theorem rtk_40 (f : Int) (w : World) : Calls Tryd.prog 16 #[.int .i64 40, .int .i64 f] w fun e w' => e = .returned (.bool ((fC f))) ∧ w = w' := by
  have hN := fN_eq f
  have hZ := fZ_eq f
  have hV := fV_eq f
  have hC := fC_eq f
  generalize fN f = n at *
  generalize fZ f = z at *
  generalize fV f = v at *
  generalize fC f = c at *
  go_enter Tryd.func16, Tryd.ntmps16
  go_wp2
  go_ret
  exact ⟨rfl, rfl⟩

theorem rtk_else (o f : Int) (w : World) (n26 : ¬ o = 26) (n27 : ¬ o = 27) (n28 : ¬ o = 28) (n29 : ¬ o = 29) (n30 : ¬ o = 30) (n31 : ¬ o = 31) (n32 : ¬ o = 32) (n33 : ¬ o = 33) (n34 : ¬ o = 34) (n35 : ¬ o = 35) (n36 : ¬ o = 36) (n37 : ¬ o = 37) (n38 : ¬ o = 38) (n39 : ¬ o = 39) (n40 : ¬ o = 40) : Calls Tryd.prog 16 #[.int .i64 o, .int .i64 f] w fun e w' => e = .returned (.bool false) ∧ w = w' := by
  have hN := fN_eq f
  have hZ := fZ_eq f
  have hV := fV_eq f
  have hC := fC_eq f
  generalize fN f = n at *
  generalize fZ f = z at *
  generalize fV f = v at *
  generalize fC f = c at *
  go_enter Tryd.func16, Tryd.ntmps16
  go_wp2
  go_ret
  exact ⟨rfl, rfl⟩
/-- Is a branch taken? -/
def tkB (o f : Int) : Bool :=
  if o = 26 then true else if o = 27 then !(fZ f) else if o = 28 then (fZ f) else if o = 29 then (fN f) == (fV f) else if o = 30 then (fN f) != (fV f) else if o = 31 then !(fZ f) && ((fN f) == (fV f)) else if o = 32 then (fZ f) || ((fN f) != (fV f)) else if o = 33 then !(fN f) else if o = 34 then (fN f) else if o = 35 then !(fC f) && !(fZ f) else if o = 36 then (fC f) || (fZ f) else if o = 37 then !(fV f) else if o = 38 then (fV f) else if o = 39 then !(fC f) else if o = 40 then (fC f) else false
theorem rtk_any (o f : Int) (w : World) : Calls Tryd.prog 16 #[.int .i64 o, .int .i64 f] w fun e w' => e = .returned (.bool (tkB o f)) ∧ w = w' := by
  unfold tkB
  by_cases n26 : o = 26
  · subst n26; exact rtk_26 f w
  by_cases n27 : o = 27
  · subst n27; exact rtk_27 f w
  by_cases n28 : o = 28
  · subst n28; exact rtk_28 f w
  by_cases n29 : o = 29
  · subst n29; exact rtk_29 f w
  by_cases n30 : o = 30
  · subst n30; exact rtk_30 f w
  by_cases n31 : o = 31
  · subst n31; exact rtk_31 f w
  by_cases n32 : o = 32
  · subst n32; exact rtk_32 f w
  by_cases n33 : o = 33
  · subst n33; exact rtk_33 f w
  by_cases n34 : o = 34
  · subst n34; exact rtk_34 f w
  by_cases n35 : o = 35
  · subst n35; exact rtk_35 f w
  by_cases n36 : o = 36
  · subst n36; exact rtk_36 f w
  by_cases n37 : o = 37
  · subst n37; exact rtk_37 f w
  by_cases n38 : o = 38
  · subst n38; exact rtk_38 f w
  by_cases n39 : o = 39
  · subst n39; exact rtk_39 f w
  by_cases n40 : o = 40
  · subst n40; exact rtk_40 f w
  rw [if_neg n26, if_neg n27, if_neg n28, if_neg n29, if_neg n30, if_neg n31, if_neg n32, if_neg n33, if_neg n34, if_neg n35, if_neg n36, if_neg n37, if_neg n38, if_neg n39, if_neg n40]
  exact rtk_else o f w n26 n27 n28 n29 n30 n31 n32 n33 n34 n35 n36 n37 n38 n39 n40
end Go.Proofs.YtpimdbglmoopcaaDoor
