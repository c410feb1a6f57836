/-
  Walks over the calls of package psw and of its reference, but for Text. No condition.
-/
import Derived.Test.YtlegcfjafdihlaaGreatDoorProg
import Derived.Test.YtlegcfjafdihlaaGreatDoorPsA
import Derived.WalkKit
import Derived.WalkSpells
import Derived.WalkLawsBesides
import Derived.Deep.RegionHeld3
import Derived.Deep.DeepCutAuto
import Derived.Deep.QuietTactic
import Derived.BigQuiet
import Derived.KernelRfl
namespace Go.Proofs.YtlegcfjafdihlaaGreatDoor.Psw
open Go.RowKit
set_option linter.unusedSimpArgs false
set_option maxHeartbeats 400000

def Hid (p : Prop) : Prop := p
theorem hid {p : Prop} (h : p) : Hid p := h
theorem ret_bool {a b : Bool} (h : a = b) : Ending.returned (.bool a) = .returned (.bool b) := by rw [h]
theorem ret_int {k : IntKind} {a b : Int} (h : a = b) : Ending.returned (.int k a) = .returned (.int k b) := by rw [h]

theorem mode_any (n : Int) (w : World) : Calls Tryz.prog 30 #[.int .i64 n] w fun e w' => e = .returned (.int .i64 (md n)) ∧ w = w' := by
  have A := a32768 n
  have hb := md_bd n
  have hd : md n * 32768 / 32768 = md n := by omega
  generalize md n = M at *
  go_enter Tryz.func30, Tryz.ntmps30
  go_wp2
  go_ret
  exact ⟨rfl, rfl⟩

theorem rmode_any (n : Int) (w : World) : Calls Tryz.prog 31 #[.int .i64 n] w fun e w' => e = .returned (.int .i64 (md n)) ∧ w = w' := by
  have A : bits .and .i64 (n / 32768) 1 = md n := a1 _
  generalize md n = M at *
  go_enter Tryz.func31, Tryz.ntmps31
  go_wp2
  go_ret
  exact ⟨rfl, rfl⟩

theorem prev_any (n : Int) (w : World) : Calls Tryz.prog 195 #[.int .i64 n] w fun e w' => e = .returned (.int .i64 (pv n)) ∧ w = w' := by
  have A := a16384 n
  have hb := pv_bd n
  have hd : pv n * 16384 / 16384 = pv n := by omega
  generalize pv n = M at *
  go_enter Tryz.func195, Tryz.ntmps195
  go_wp2
  go_ret
  exact ⟨rfl, rfl⟩

theorem prio_any (n : Int) (w : World) : Calls Tryz.prog 166 #[.int .i64 n] w fun e w' => e = .returned (.int .i64 (pr n)) ∧ w = w' := by
  have A := a224 n
  have hb := pr_bd n
  have hd : pr n * 32 / 32 = pr n := by omega
  generalize pr n = M at *
  go_enter Tryz.func166, Tryz.ntmps166
  go_wp2
  go_ret
  exact ⟨rfl, rfl⟩

theorem flags_any (n : Int) (w : World) : Calls Tryz.prog 153 #[.int .i64 n] w fun e w' => e = .returned (.int .i64 (fg n)) ∧ w = w' := by
  have A := a15 n
  generalize fg n = M at *
  go_enter Tryz.func153, Tryz.ntmps153
  go_wp2
  go_ret
  exact ⟨rfl, rfl⟩

theorem valid_any (n : Int) (w : World) : Calls Tryz.prog 24 #[.int .i64 n] w fun e w' => e = .returned (.bool (vd n)) ∧ w = w' := by
  have A := a49407 n
  unfold vd
  generalize ex n = M at *
  go_enter Tryz.func24, Tryz.ntmps24
  go_wp2
  go_ret
  exact ⟨ret_bool (by rw [Bool.eq_iff_iff]; simp), rfl⟩

theorem vd_lo {n : Int} (h : n < 0) : vd n = false := by unfold vd ex; exact decide_eq_false (by omega)
theorem vd_hi {n : Int} (h : 65535 < n) : vd n = false := by unfold vd ex; exact decide_eq_false (by omega)
theorem vd_in {n : Int} (h : 0 ≤ n) (h2 : n ≤ 65535) : vd n = decide (n / 256 % 64 * 256 = 0) := by
  unfold vd ex
  rw [Bool.eq_iff_iff, decide_eq_true_eq, decide_eq_true_eq]
  constructor <;> intro h3 <;> omega
theorem rvalid_any (n : Int) (w : World) : Calls Tryz.prog 26 #[.int .i64 n] w fun e w' => e = .returned (.bool (vd n)) ∧ w = w' := by
  by_cases h : n < 0
  · rw [vd_lo h]
    go_enter Tryz.func26, Tryz.ntmps26
    go_wp2
    go_ret
    exact ⟨rfl, rfl⟩
  · by_cases h2 : 65535 < n
    · rw [vd_hi h2]
      have h3 : 0 ≤ n := by omega
      go_enter Tryz.func26, Tryz.ntmps26
      go_wp2
      go_ret
      exact ⟨rfl, rfl⟩
    · have h3 : 0 ≤ n := by omega
      have h4 : n ≤ 65535 := by omega
      have A := n49407 n h3 h4
      rw [vd_in h3 h4]
      generalize n / 256 % 64 * 256 = M at *
      go_enter Tryz.func26, Tryz.ntmps26
      go_wp2
      go_ret
      exact ⟨ret_bool (by rw [Bool.eq_iff_iff]; simp), rfl⟩

theorem choose15 (f o : Int) (w : World) : Calls Tryz.prog 196 #[.int .i64 15, .int .i64 f, .int .i64 o] w fun e w' => e = .returned (.int .i64 (wF o f)) ∧ w = w' := by
  have A := pick15 f o
  have B1 : bits .and .i64 15 f = bits .and .i64 f 15 := by rw [and_def, and_def, Nat.and_comm]
  generalize wF o f = M at *
  go_enter Tryz.func196, Tryz.ntmps196
  go_wp2
  go_ret
  exact ⟨rfl, rfl⟩

theorem choose31 (f o : Int) (w : World) : Calls Tryz.prog 196 #[.int .i64 31, .int .i64 f, .int .i64 o] w fun e w' => e = .returned (.int .i64 (o / 16384 % 4 * 16384 + o / 32 % 8 * 32 + f % 32)) ∧ w = w' := by
  have A := pick31 f o
  have B1 : bits .and .i64 31 f = bits .and .i64 f 31 := by rw [and_def, and_def, Nat.and_comm]
  generalize o / 16384 % 4 * 16384 + o / 32 % 8 * 32 + f % 32 = M at *
  go_enter Tryz.func196, Tryz.ntmps196
  go_wp2
  go_ret
  exact ⟨rfl, rfl⟩

theorem choose16384 (f o : Int) (w : World) : Calls Tryz.prog 196 #[.int .i64 16384, .int .i64 f, .int .i64 o] w fun e w' => e = .returned (.int .i64 (o / 32768 % 2 * 32768 + f / 16384 % 2 * 16384 + o % 256)) ∧ w = w' := by
  have A := pick16384 f o
  have B1 : bits .and .i64 16384 f = bits .and .i64 f 16384 := by rw [and_def, and_def, Nat.and_comm]
  generalize o / 32768 % 2 * 32768 + f / 16384 % 2 * 16384 + o % 256 = M at *
  go_enter Tryz.func196, Tryz.ntmps196
  go_wp2
  go_ret
  exact ⟨rfl, rfl⟩

theorem with_any (n f : Int) (w : World) : Calls Tryz.prog 152 #[.int .i64 n, .int .i64 f] w fun e w' => e = .returned (.int .i64 (wF n f)) ∧ w = w' := by
  go_enter Tryz.func152, Tryz.ntmps152
  go_wp2_with (first
    | (go_at_call 196; with_reducible refine (choose15 _ _ _).mono ?_; rintro e w' ⟨rfl, rfl⟩))
  go_ret
  exact ⟨rfl, rfl⟩

theorem eN_choose (n v : Int) : v / 32768 % 2 * 32768 + (md n * 16384) / 16384 % 2 * 16384 + v % 256 = eN n v := by
  unfold eN md; omega
theorem enter_any (n v : Int) (w : World) : Calls Tryz.prog 162 #[.int .i64 n, .int .i64 v] w fun e w' => e = .returned (.int .i64 (eN n v)) ∧ w = w' := by
  have hc := fun w => choose16384 (md n * 16384) v w
  rw [eN_choose] at hc
  have hm := fun w => mode_any n w
  have hb := md_bd n
  generalize eN n v = E at *
  generalize md n = M at *
  rcases hb with rfl | rfl
  all_goals
    go_enter Tryz.func162, Tryz.ntmps162
    go_wp2_with (first
      | (go_at_call 30; with_reducible refine (hm _).mono ?_; rintro e w' ⟨rfl, rfl⟩)
      | (go_at_call 196; refine (hc _).mono ?_; rintro e w' ⟨rfl, rfl⟩))
    go_ret
    exact ⟨rfl, rfl⟩
theorem rT_user_eq {n : Int} (v : Int) (h : md n = 1) : rT n v = n / 16384 % 4 * 16384 + n / 32 % 8 * 32 + v % 32 := if_pos h
theorem rT_kern_eq {n : Int} (v : Int) (h : md n = 0) : rT n v = ex v := if_neg (by omega)
theorem return_any (n v : Int) (w : World) : Calls Tryz.prog 197 #[.int .i64 n, .int .i64 v] w fun e w' => e = .returned (.int .i64 (rT n v)) ∧ w = w' := by
  have hm := fun w => mode_any n w
  rcases md_bd n with h | h
  · rw [rT_kern_eq v h]
    rw [h] at hm
    have A := a49407 v
    clear h
    generalize ex v = E at *
    go_enter Tryz.func197, Tryz.ntmps197
    go_wp2_with (first
      | (go_at_call 30; with_reducible refine (hm _).mono ?_; rintro e w' ⟨rfl, rfl⟩))
    go_ret
    exact ⟨rfl, rfl⟩
  · rw [rT_user_eq v h]
    rw [h] at hm
    have hc := fun w => choose31 v n w
    clear h
    generalize n / 16384 % 4 * 16384 + n / 32 % 8 * 32 + v % 32 = E at *
    go_enter Tryz.func197, Tryz.ntmps197
    go_wp2_with (first
      | (go_at_call 30; with_reducible refine (hm _).mono ?_; rintro e w' ⟨rfl, rfl⟩)
      | (go_at_call 196; with_reducible refine (hc _).mono ?_; rintro e w' ⟨rfl, rfl⟩))
    go_ret
    exact ⟨rfl, rfl⟩
end Go.Proofs.YtlegcfjafdihlaaGreatDoor.Psw
