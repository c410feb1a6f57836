/-
  Walks over number, digits, target, direct and Operand of package disasm, and over number and Operand of its reference. Condition: the tables read as the program's text lays them.
-/
import Derived.Test.YtdbbnkjnmldnpaaGreatDoorDsB
namespace Go.Proofs.YtdbbnkjnmldnpaaGreatDoor
open Go.RowKit
set_option linter.unusedSimpArgs false
set_option linter.unusedVariables false
set_option maxHeartbeats 4000000
set_option maxRecDepth 100000

theorem dnum_any (n : Int) (w : World) (W : Tb7 w) : Calls Tryz.prog 42 #[.int .i64 n] w fun e w' => e = .returned (.string ⟨(nuT n).toArray⟩) ∧ Below w.heap.size w w' := by
  obtain ⟨U, hU⟩ : ∃ U : Nat, n % 65536 = (U : Int) := ⟨(n % 65536).toNat, by omega⟩
  have hU1 : U < 65536 := by omega
  have hA : bits .and .i64 n 65535 = (U : Int) := by rw [a65535, hU]
  have hf := fun w W => format_8 U hU1 w W
  have hT : nuT n = if (U : Int) < 8 then digs 8 U else 48 :: 111 :: digs 8 U := by unfold nuT; rw [hU]; rfl
  have hl := (digs_7 U hU1).2
  have hs := tx_size (digs 8 U)
  rw [hT]
  clear hT hU
  generalize digs 8 U = D at *
  by_cases h : (U : Int) < 8
  · rw [if_pos h]
    go_enter Tryz.func42, Tryz.ntmps42
    go_wp2_with (first | (go_at_call 55; with_reducible refine (hf _ W).mono ?_; rintro e w' ⟨rfl, hb⟩))
    go_ret
    exact ⟨rfl, by assumption⟩
  · rw [if_neg h]
    go_enter Tryz.func42, Tryz.ntmps42
    go_wp2_with (first | (go_at_call 55; with_reducible refine (hf _ W).mono ?_; rintro e w' ⟨rfl, hb⟩))
    go_ret
    exact ⟨by rw [ba_app]; simp, by assumption⟩

theorem rnum_any (n : Int) (w : World) : Calls Tryz.prog 34 #[.int .i64 n] w fun e w' => e = .returned (.string ⟨(nuT n).toArray⟩) ∧ Below w.heap.size w w' := by
  obtain ⟨U, hU⟩ : ∃ U : Nat, n % 65536 = (U : Int) := ⟨(n % 65536).toNat, by omega⟩
  have hU1 : U < 65536 := by omega
  have hA : bits .and .i64 n 65535 = (U : Int) := by rw [a65535, hU]
  have hf := fun w => rformat_8 U hU1 w
  have hT : nuT n = if (U : Int) < 8 then digs 8 U else 48 :: 111 :: digs 8 U := by unfold nuT; rw [hU]; rfl
  have hl := (digs_7 U hU1).2
  have hs := tx_size (digs 8 U)
  rw [hT]
  clear hT hU
  generalize digs 8 U = D at *
  by_cases h : (U : Int) < 8
  · rw [if_pos h]
    go_enter Tryz.func34, Tryz.ntmps34
    go_wp2_with (first | (go_at_call 38; with_reducible refine (hf _).mono ?_; rintro e w' ⟨rfl, hb⟩))
    go_ret
    exact ⟨rfl, by assumption⟩
  · rw [if_neg h]
    go_enter Tryz.func34, Tryz.ntmps34
    go_wp2_with (first | (go_at_call 38; with_reducible refine (hf _).mono ?_; rintro e w' ⟨rfl, hb⟩))
    go_ret
    exact ⟨by rw [ba_app]; simp, by assumption⟩

theorem ddig_any (n : Int) (w : World) (W : Tb7 w) : Calls Tryz.prog 12 #[.int .i64 n] w fun e w' => e = .returned (.string ⟨(adT n).toArray⟩) ∧ Below w.heap.size w w' := by
  obtain ⟨U, hU⟩ : ∃ U : Nat, n % 65536 = (U : Int) := ⟨(n % 65536).toNat, by omega⟩
  have hU1 : U < 65536 := by omega
  have hA : bits .and .i64 n 65535 = (U : Int) := by rw [a65535, hU]
  have hf := fun w W => pad_8 U hU1 w W
  have hT : adT n = pd6 U := by unfold adT; rw [hU]; rfl
  rw [hT]
  clear hT hU
  go_enter Tryz.func12, Tryz.ntmps12
  go_wp2_with (first | (go_at_call 26; with_reducible refine (hf _ W).mono ?_; rintro e w' ⟨rfl, hb⟩))
  go_ret
  exact ⟨rfl, by assumption⟩

theorem wrap_mod (n : Int) : wrap64 n % 65536 = n % 65536 := by unfold wrap64; omega
theorem nuT_mod {a b : Int} (h : a % 65536 = b % 65536) : nuT a = nuT b := by unfold nuT; rw [h]
theorem dtgt_any (a n : Int) (w : World) (W : Tb7 w) : Calls Tryz.prog 47 #[.int .i64 a, .int .i64 n] w fun e w' => e = .returned (.string ⟨(tgT a n).toArray⟩) ∧ Below w.heap.size w w' := by
  have hf := fun w W k => dnum_any k w W
  go_enter Tryz.func47, Tryz.ntmps47
  go_wp2_with (first | (go_at_call 42; with_reducible refine (hf _ W _).mono ?_; rintro e w' ⟨rfl, hb⟩))
  go_ret
  have e : nuT (wrap64 (wrap64 (a + 2) + wrap64 (n * 2))) = tgT a n := nuT_mod (by unfold wrap64; omega)
  exact ⟨by rw [← e]; rfl, by assumption⟩

end Go.Proofs.YtdbbnkjnmldnpaaGreatDoor
