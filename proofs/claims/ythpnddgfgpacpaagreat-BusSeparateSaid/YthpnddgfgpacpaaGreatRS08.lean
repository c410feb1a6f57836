import Derived.Test.YthpnddgfgpacpaaGreatRS07
import Derived.Test.YthpnddgfgpacpaaGreatRS06
/-
  Diff of the reference; SameDrive; good, small. Condition: at most 2^40 sectors and bad ones.
-/
namespace Go.Proofs.YthpnddgfgpacpaaGreat
open Go.RowKit
set_option linter.unusedSimpArgs false
set_option linter.unusedVariables false
set_option maxHeartbeats 4000000
set_option maxRecDepth 100000
attribute [local irreducible] wpQuiet

theorem str_eq {a b : ByteArray} (h : a = b) : (a.toList == b.toList) = true := by rw [h]; simp
theorem str_ne {a b : ByteArray} (h : ¬ a = b) : (a.toList == b.toList) = false := by
  rw [Lib.toList_data, Lib.toList_data]
  exact beq_eq_false_iff_ne.2 fun e => h (by
    cases a; cases b
    simp only [ByteArray.mk.injEq]
    exact Array.toList_inj.1 e)
/-- The sectors below k that differ. -/
def dk (a b : List ByteArray) (k : Nat) : List Int := ((List.range k).filter (fun k => decide (a[k]? ≠ b[k]?))).map Int.ofNat
theorem dk_eq {a b : List ByteArray} {k : Nat} (h : a[k]? = b[k]?) : dk a b (k + 1) = dk a b k := by
  unfold dk; rw [List.range_succ, List.filter_append, List.map_append]; simp [h]
theorem dk_ne {a b : List ByteArray} {k : Nat} (h : a[k]? ≠ b[k]?) : dk a b (k + 1) = dk a b k ++ [(k : Int)] := by
  unfold dk; rw [List.range_succ, List.filter_append, List.map_append]; simp [h]
theorem dk_le (a b : List ByteArray) (k : Nat) : (dk a b k).length ≤ k := by
  unfold dk; rw [List.length_map]; exact Nat.le_trans (List.length_filter_le _ _) (by rw [List.length_range]; exact Nat.le_refl _)
theorem df_dk (a b : List ByteArray) : dfV a b = dk a b (max a.length b.length) := rfl
/-- Are there few, short ones? -/
def smallV (l : List (Int × ByteArray)) : Bool := decide (l.length ≤ 60) && l.all (fun q => decide (q.2.size ≤ 200))
end Go.Proofs.YthpnddgfgpacpaaGreat
/-
  Write, New, Right, SameInts, SameDisk of the reference. Conditions: at most 2^40 sectors and bad ones; the words of a drive valid where told.
-/
namespace Go.Proofs.YthpnddgfgpacpaaGreat
open Go.RowKit
set_option linter.unusedSimpArgs false
set_option linter.unusedVariables false
set_option maxHeartbeats 4000000
set_option maxRecDepth 100000
attribute [local irreducible] wpQuiet

theorem and64 (n : Int) : (bits .and .i64 n 64 != 0) = decide (n / 64 % 2 = 1) := by
  have h1 : bits .and .i64 n 64 = n / 64 % 2 * 64 := i_and (c := 64) (by decide) (field _ 6 1) (by intro h; omega)
  rw [h1, Bool.eq_iff_iff]; simp; omega
end Go.Proofs.YthpnddgfgpacpaaGreat
