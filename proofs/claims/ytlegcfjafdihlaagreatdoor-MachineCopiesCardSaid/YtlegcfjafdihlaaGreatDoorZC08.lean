import Derived.Test.YtlegcfjafdihlaaGreatDoorZC07
import Derived.Test.YtlegcfjafdihlaaGreatDoorZC05
import Derived.Test.YtlegcfjafdihlaaGreatDoorZC06
import Derived.Test.YtlegcfjafdihlaaGreatDoorZC02
/-
  Diff of the reference; SameDrive; good, small. Condition: at most 2^40 sectors and bad ones.
-/
namespace Go.Proofs.YtlegcfjafdihlaaGreatDoor
open Go.RowKit
set_option linter.unusedSimpArgs false
set_option linter.unusedVariables false
set_option maxHeartbeats 4000000
set_option maxRecDepth 100000
attribute [local irreducible] wpQuiet

theorem str_eq {a b : ByteArray} (h : a = b) : (a.toList == b.toList) = true := by rw [h]; simp
theorem str_ne {a b : ByteArray} (h : ¬ a = b) : (a.toList == b.toList) = false := by
  rw [Lib.toList_data, Lib.toList_data]
  exact beq_eq_false_iff_ne.2 fun e => h (by
    cases a; cases b
    simp only [ByteArray.mk.injEq]
    exact Array.toList_inj.1 e)
/-- The sectors below k that differ. -/
def dk (a b : List ByteArray) (k : Nat) : List Int := ((List.range k).filter (fun k => decide (a[k]? ≠ b[k]?))).map Int.ofNat
theorem dk_eq {a b : List ByteArray} {k : Nat} (h : a[k]? = b[k]?) : dk a b (k + 1) = dk a b k := by
  unfold dk; rw [List.range_succ, List.filter_append, List.map_append]; simp [h]
theorem dk_ne {a b : List ByteArray} {k : Nat} (h : a[k]? ≠ b[k]?) : dk a b (k + 1) = dk a b k ++ [(k : Int)] := by
  unfold dk; rw [List.range_succ, List.filter_append, List.map_append]; simp [h]
theorem dk_le (a b : List ByteArray) (k : Nat) : (dk a b k).length ≤ k := by
  unfold dk; rw [List.length_map]; exact Nat.le_trans (List.length_filter_le _ _) (by rw [List.length_range]; exact Nat.le_refl _)
theorem df_dk (a b : List ByteArray) : dfV a b = dk a b (max a.length b.length) := rfl
end Go.Proofs.YtlegcfjafdihlaaGreatDoor
/-
  at, spoilt, differs, sector of the reference. Conditions: the bytes and words are there; the words are words.
-/
namespace Go.Proofs.YtlegcfjafdihlaaGreatDoor
open Go.RowKit
set_option linter.unusedSimpArgs false
set_option linter.unusedVariables false
set_option maxHeartbeats 4000000
set_option maxRecDepth 100000
attribute [local irreducible] wpQuiet

def byt (s : ByteArray) (k : Nat) : Int := ((s.data.getD k 0).toNat : Int)
/-- The word i of a sector. -/
def atV (s : ByteArray) (i : Nat) : Int := byt s (2 * i) + 256 * byt s (2 * i + 1)
/-- Has one of n words from a on wrong parity? -/
def spV (B : List Int) (a : Int) (n : Nat) : Bool := B.any fun b => decide (a ≤ b) && decide (b < a + 2 * (n : Int))
/-- Do n words from A on differ from a sector? -/
def dfW (m : List Int) (A n : Nat) (s : ByteArray) : Bool := (List.range n).any fun i => decide (m.getD (A + i) 0 ≠ atV s i)
end Go.Proofs.YtlegcfjafdihlaaGreatDoor
/-
  sector, New of the reference. Conditions: the words are there and are words; at most 2^40 sectors and bad ones.
-/
namespace Go.Proofs.YtlegcfjafdihlaaGreatDoor
open Go.RowKit
set_option linter.unusedSimpArgs false
set_option linter.unusedVariables false
set_option maxHeartbeats 4000000
set_option maxRecDepth 100000
attribute [local irreducible] wpQuiet

/-- The bytes of k words from A on. -/
def secL (m : List Int) (A k : Nat) : List UInt8 := (List.range k).flatMap fun i => [UInt8.ofNat (m.getD (A + i) 0 % 256).toNat, UInt8.ofNat (m.getD (A + i) 0 / 256).toNat]
/-- The sector of n words from A on. -/
def secV (m : List Int) (A n : Nat) : ByteArray := ⟨(secL m A n ++ List.replicate (128 - 2 * n) 0).toArray⟩
end Go.Proofs.YtlegcfjafdihlaaGreatDoor
