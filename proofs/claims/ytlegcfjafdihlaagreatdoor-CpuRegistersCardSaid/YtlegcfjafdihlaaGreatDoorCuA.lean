/-
  Words of 16 bits, a register of the processor, and the lowest calls on them. Condition: the table of widths.
-/
import Derived.Test.YtlegcfjafdihlaaGreatDoorTab
import Derived.Test.YtlegcfjafdihlaaGreatDoorPsB
namespace Go.Proofs.YtlegcfjafdihlaaGreatDoor
open Go.RowKit Psw
set_option linter.unusedSimpArgs false
set_option linter.unusedVariables false
set_option maxHeartbeats 400000

theorem and65535 (n : Int) : bits .and .i64 n 65535 = n % 65536 := by
  exact i_and (c := 65535) (by decide) (Nat.and_two_pow_sub_one_eq_mod _ 16) (by intro h; omega)
/-- Is a number a word? -/
def isW (n : Int) : Bool := decide (n % 65536 = n)
theorem isW_iff (n : Int) : isW n = (decide (0 ≤ n) && decide (n < 65536)) := by
  unfold isW
  rw [Bool.eq_iff_iff, Bool.and_eq_true, decide_eq_true_eq, decide_eq_true_eq, decide_eq_true_eq]
  omega
variable {A : Addr} {c : Nat} {w : World}
theorem wrap20 (n : Int) (W : Tab A c w) : Calls Tryz.prog 58 #[.int .i64 n] w fun e w' => e = .returned (.int .i64 (n % 65536)) ∧ w = w' := by
  have h0 := W.wid 0 _ rfl
  have h1 := W.wid 1 _ rfl
  go_enter Tryz.func58, Tryz.ntmps58
  go_wp2
  go_ret
  exact ⟨ret_int (and65535 n), rfl⟩
theorem rwrap20 (n : Int) (w : World) : Calls Tryz.prog 33 #[.int .i64 n] w fun e w' => e = .returned (.int .i64 (n % 65536)) ∧ w = w' := by
  go_enter Tryz.func33, Tryz.ntmps33
  go_wp2
  go_ret
  exact ⟨ret_int (and65535 n), rfl⟩
theorem isWord_any (n : Int) (W : Tab A c w) : Calls Tryz.prog 23 #[.int .i64 n] w fun e w' => e = .returned (.bool (isW n)) ∧ w = w' := by
  go_enter Tryz.func23, Tryz.ntmps23
  go_wp2_with (go_at_call 58; refine (wrap20 n W).mono ?_; rintro e w' ⟨rfl, rfl⟩)
  go_ret
  exact ⟨ret_bool (by rw [isW, Bool.eq_iff_iff]; simp), rfl⟩
theorem rword_any (n : Int) (w : World) : Calls Tryz.prog 25 #[.int .i64 n] w fun e w' => e = .returned (.bool (isW n)) ∧ w = w' := by
  rw [isW_iff]
  by_cases h : 0 ≤ n
  · go_enter Tryz.func25, Tryz.ntmps25
    go_wp2
    go_ret
    exact ⟨ret_bool (by simp [h]), rfl⟩
  · go_enter Tryz.func25, Tryz.ntmps25
    go_wp2
    go_ret
    exact ⟨ret_bool (by simp; omega), rfl⟩
end Go.Proofs.YtlegcfjafdihlaaGreatDoor
