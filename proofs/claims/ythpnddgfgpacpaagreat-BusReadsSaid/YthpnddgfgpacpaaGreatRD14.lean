import Derived.Test.YthpnddgfgpacpaaGreatProg
import Derived.Test.YthpnddgfgpacpaaGreatRD00
import Derived.Test.YthpnddgfgpacpaaGreatRD10
import Derived.Test.YthpnddgfgpacpaaGreatRD04
import Derived.Test.YthpnddgfgpacpaaGreatRD03
import Derived.WalkKit
import Derived.WalkSpells
import Derived.WalkLawsBesides
import Derived.Deep.RegionHeld3
import Derived.Deep.DeepCutAuto
import Derived.Deep.QuietTactic
import Derived.BigQuiet
import Derived.KernelRfl
/-
  Walks over the calls of package memory and of its reference that only reckon: sizes, addresses, ranges. Condition: lists have at most 2^40 elements.
-/
namespace Go.Proofs.YthpnddgfgpacpaaGreat
open Go.RowKit
set_option linter.unusedSimpArgs false
set_option maxHeartbeats 1000000

theorem ret_bool {a b : Bool} (h : a = b) : Ending.returned (.bool a) = .returned (.bool b) := by rw [h]
attribute [local irreducible] wpQuiet
theorem drewN_below {B : Nat} {a w : World} (h : Below B a w) (q : Nat) : Below B a (w.drewN q) := ⟨h.os, h.tape, h.output, h.size, h.block⟩

theorem okS_in {n : Int} (h1 : 256 ≤ n) (h2 : n ≤ 32768) (h3 : n % 64 = 0) : okS n = true := by simp [okS, h1, h2, h3]
theorem okS_out {n : Int} (h : ¬(256 ≤ n ∧ n ≤ 32768 ∧ n % 64 = 0)) : okS n = false := by
  cases e : okS n
  · rfl
  · exact absurd (by simpa [okS] using e) h
theorem okS_iff {n : Int} : okS n = true ↔ 256 ≤ n ∧ n ≤ 32768 ∧ n % 64 = 0 := by simp [okS]

theorem size_any (n : Int) (w : World) : Calls Tryz.prog 76 #[.int .i64 n] w fun e w' => e = .returned (.bool (okS n)) ∧ w = w' := by
  by_cases h1 : 256 ≤ n
  · by_cases h2 : n ≤ 32768
    · have h0 : 0 ≤ n := by omega
      by_cases h3 : n % 64 = 0
      · rw [okS_in h1 h2 h3]
        go_enter Tryz.func76, Tryz.ntmps76
        go_wp2
        go_ret
        exact ⟨rfl, rfl⟩
      · rw [okS_out (fun k => h3 k.2.2)]
        go_enter Tryz.func76, Tryz.ntmps76
        go_wp2
        go_ret
        exact ⟨ret_bool (by simp [h3]), rfl⟩
    · rw [okS_out (fun k => h2 k.2.1)]
      go_enter Tryz.func76, Tryz.ntmps76
      go_wp2
      go_ret
      exact ⟨rfl, rfl⟩
  · rw [okS_out (fun k => h1 k.1)]
    go_enter Tryz.func76, Tryz.ntmps76
    go_wp2
    go_ret
    exact ⟨rfl, rfl⟩

theorem sizeof_any (A : Option Addr) (k c : Nat) (hk : k ≤ 1099511627776) (w : World) : Calls Tryz.prog 73 #[.slice A k c] w fun e w' => e = .returned (.int .i64 (2 * (k : Int))) ∧ w = w' := by
  go_enter Tryz.func73, Tryz.ntmps73
  go_wp2
  go_ret
  exact ⟨rfl, rfl⟩

theorem tmod2 (n : Int) : (n.tmod 2 = 0) = (n % 2 = 0) := by
  apply propext
  have := Int.tmod_eq_emod (a := n) (b := 2)
  constructor <;> intro h <;> split at this <;> omega
theorem odd_any (n : Int) (w : World) : Calls Tryz.prog 123 #[.int .i64 n] w fun e w' => e = .returned (.bool (!decide (n % 2 = 0))) ∧ w = w' := by
  have h := tmod2 n
  by_cases h2 : n % 2 = 0
  · have h3 : n.tmod 2 = 0 := by rw [h]; exact h2
    rw [decide_eq_true h2]
    go_enter Tryz.func123, Tryz.ntmps123
    go_wp2
    go_ret
    exact ⟨ret_bool (by simp [h3]), rfl⟩
  · have h3 : ¬ n.tmod 2 = 0 := by rw [h]; exact h2
    rw [decide_eq_false h2]
    go_enter Tryz.func123, Tryz.ntmps123
    go_wp2
    go_ret
    exact ⟨ret_bool (by simp [h3]), rfl⟩

theorem waddr_any (n : Int) (h0 : 0 ≤ n) (h1 : n ≤ 9223372036854775807) (w : World) : Calls Tryz.prog 84 #[.int .i64 n] w fun e w' => e = .returned (.int .i64 (evenP n)) ∧ w = w' := by
  go_enter Tryz.func84, Tryz.ntmps84
  go_wp2
  go_ret
  exact ⟨rfl, rfl⟩

theorem shift_any (a : Nat) (h1 : a ≤ 4611686018427387904) (w : World) : Calls Tryz.prog 127 #[.int .i64 (a : Int)] w fun e w' => e = .returned (.int .i64 ((a : Int) % 2 * 8)) ∧ w = w' := by
  go_enter Tryz.func127, Tryz.ntmps127
  go_wp2
  go_ret
  exact ⟨rfl, rfl⟩

/-- Is it the address of a word? -/
def wwP (n a : Int) : Bool := accP n a false
theorem wwP_eq (n a : Int) : wwP n a = (decide (a % 2 = 0) && (decide (0 ≤ a) && decide (a < n))) := by simp [wwP, accP]
theorem within_any (A : Option Addr) (k c : Nat) (hk : k ≤ 1099511627776) (a : Int) (w : World) : Calls Tryz.prog 74 #[.slice A k c, .int .i64 a] w fun e w' => e = .returned (.bool (wwP (2 * (k : Int)) a)) ∧ w = w' := by
  have hs := fun w => sizeof_any A k c hk w
  have ho := fun w => odd_any a w
  rw [wwP_eq]
  by_cases h1 : a % 2 = 0
  · rw [decide_eq_true h1] at ho ⊢
    by_cases h2 : 0 ≤ a
    · rw [decide_eq_true h2]
      by_cases h3 : a < 2 * (k : Int)
      · rw [decide_eq_true h3]
        clear h1
        go_enter Tryz.func74, Tryz.ntmps74
        go_wp2_with (first | (go_at_call 123; with_reducible refine (ho _).mono ?_; rintro e w' ⟨rfl, rfl⟩) | (go_at_call 73; with_reducible refine (hs _).mono ?_; rintro e w' ⟨rfl, rfl⟩))
        go_ret
        exact ⟨rfl, rfl⟩
      · rw [decide_eq_false h3]
        clear h1
        go_enter Tryz.func74, Tryz.ntmps74
        go_wp2_with (first | (go_at_call 123; with_reducible refine (ho _).mono ?_; rintro e w' ⟨rfl, rfl⟩) | (go_at_call 73; with_reducible refine (hs _).mono ?_; rintro e w' ⟨rfl, rfl⟩))
        go_ret
        exact ⟨ret_bool (by simp [h3]), rfl⟩
    · rw [decide_eq_false h2]
      clear h1
      go_enter Tryz.func74, Tryz.ntmps74
      go_wp2_with (first | (go_at_call 123; with_reducible refine (ho _).mono ?_; rintro e w' ⟨rfl, rfl⟩) | (go_at_call 73; with_reducible refine (hs _).mono ?_; rintro e w' ⟨rfl, rfl⟩))
      go_ret
      exact ⟨rfl, rfl⟩
  · rw [decide_eq_false h1] at ho ⊢
    clear h1
    go_enter Tryz.func74, Tryz.ntmps74
    go_wp2_with (first | (go_at_call 123; with_reducible refine (ho _).mono ?_; rintro e w' ⟨rfl, rfl⟩) | (go_at_call 73; with_reducible refine (hs _).mono ?_; rintro e w' ⟨rfl, rfl⟩))
    go_ret
    exact ⟨rfl, rfl⟩

theorem accessible_any (A : Option Addr) (k c : Nat) (hk : k ≤ 1099511627776) (a : Int) (b : Bool) (w : World) : Calls Tryz.prog 82 #[.slice A k c, .int .i64 a, .bool b] w fun e w' => e = .returned (.bool (accP (2 * (k : Int)) a b)) ∧ w = w' := by
  have hs := fun w => sizeof_any A k c hk w
  have hw := fun w => within_any A k c hk a w
  cases b
  · have e : accP (2 * (k : Int)) a false = wwP (2 * (k : Int)) a := rfl
    rw [e]
    generalize wwP (2 * (k : Int)) a = q at *
    go_enter Tryz.func82, Tryz.ntmps82
    go_wp2_with (first | (go_at_call 74; with_reducible refine (hw _).mono ?_; rintro e w' ⟨rfl, rfl⟩))
    go_ret
    exact ⟨rfl, rfl⟩
  · have e : accP (2 * (k : Int)) a true = (decide (0 ≤ a) && decide (a < 2 * (k : Int))) := by simp [accP]
    rw [e]
    clear hw
    by_cases h2 : 0 ≤ a
    · rw [decide_eq_true h2]
      by_cases h3 : a < 2 * (k : Int)
      · rw [decide_eq_true h3]
        go_enter Tryz.func82, Tryz.ntmps82
        go_wp2_with (first | (go_at_call 73; with_reducible refine (hs _).mono ?_; rintro e w' ⟨rfl, rfl⟩))
        go_ret
        exact ⟨rfl, rfl⟩
      · rw [decide_eq_false h3]
        go_enter Tryz.func82, Tryz.ntmps82
        go_wp2_with (first | (go_at_call 73; with_reducible refine (hs _).mono ?_; rintro e w' ⟨rfl, rfl⟩))
        go_ret
        exact ⟨ret_bool (by simp [h3]), rfl⟩
    · rw [decide_eq_false h2]
      go_enter Tryz.func82, Tryz.ntmps82
      go_wp2_with (first | (go_at_call 73; with_reducible refine (hs _).mono ?_; rintro e w' ⟨rfl, rfl⟩))
      go_ret
      exact ⟨rfl, rfl⟩

theorem writeT_acc {n a : Int} {b : Bool} (h : accP n a b = true) : writeT n a b = 0 := if_pos h
theorem writeT_no {n a : Int} {b : Bool} (h : accP n a b = false) : writeT n a b = 1 := if_neg (by rw [h]; decide)
theorem racc_any (A : Option Addr) (k c : Nat) (hk : k ≤ 1099511627776) (a : Int) (b : Bool) (w : World) : Calls Tryz.prog 88 #[.slice A k c, .int .i64 a, .bool b] w fun e w' => e = .returned (.int .i64 (writeT (2 * (k : Int)) a b)) ∧ w = w' := by
  by_cases h2 : 0 ≤ a
  · by_cases h3 : a < 2 * (k : Int)
    · cases b
      · by_cases h1 : a % 2 = 0
        · rw [writeT_acc (by simp [accP, h1, h2, h3])]
          go_enter Tryz.func88, Tryz.ntmps88
          go_wp2
          go_ret
          exact ⟨rfl, rfl⟩
        · have h1b : (a % 2 != 0) = true := by simpa using h1
          rw [writeT_no (by simp [accP, h1])]
          go_enter Tryz.func88, Tryz.ntmps88
          go_wp2
          go_ret
          exact ⟨rfl, rfl⟩
      · rw [writeT_acc (by simp [accP, h2, h3])]
        go_enter Tryz.func88, Tryz.ntmps88
        go_wp2
        go_ret
        exact ⟨rfl, rfl⟩
    · rw [writeT_no (by simp [accP, h3])]
      go_enter Tryz.func88, Tryz.ntmps88
      go_wp2
      go_ret
      exact ⟨rfl, rfl⟩
  · rw [writeT_no (by simp [accP, h2])]
    go_enter Tryz.func88, Tryz.ntmps88
    go_wp2
    go_ret
    exact ⟨rfl, rfl⟩
end Go.Proofs.YthpnddgfgpacpaaGreat
/-
  Where a search in an ascending list ends, plain. No condition.
-/
namespace Go.Proofs.YthpnddgfgpacpaaGreat
set_option linter.unusedSimpArgs false
set_option linter.unusedVariables false

/-- How many elements are less. -/
def lowN (l : List Int) (x : Int) : Nat := l.countP (fun y => decide (y < x))
theorem low_lt {a x : Int} {r : List Int} (h : a < x) : lowN (a :: r) x = lowN r x + 1 := by
  unfold lowN; rw [List.countP_cons, if_pos (by simpa using h)]
theorem low_ge {a x : Int} {r : List Int} (hs : (a :: r).Pairwise (· < ·)) (h : ¬ a < x) : lowN (a :: r) x = 0 := by
  unfold lowN
  rw [List.countP_eq_zero]
  intro y hy
  rw [List.pairwise_cons] at hs
  rcases List.mem_cons.1 hy with rfl | hy
  · simpa using h
  · have := hs.1 y hy
    simp; omega
theorem low_le (x : Int) (l : List Int) : lowN l x ≤ l.length := List.countP_le_length
theorem low_iff {x : Int} : ∀ (l : List Int), l.Pairwise (· < ·) → ∀ (m : Nat) (y : Int), l[m]? = some y → (y < x ↔ m < lowN l x)
  | [], _, m, y, h => by simp at h
  | a :: r, hs, 0, y, h => by
    obtain rfl : a = y := by simpa using h
    by_cases hax : a < x
    · rw [low_lt hax]; simp [hax]
    · rw [low_ge hs hax]; simp [hax]
  | a :: r, hs, m + 1, y, h => by
    have hs' := List.pairwise_cons.1 hs
    have h' : r[m]? = some y := by simpa using h
    by_cases hax : a < x
    · rw [low_lt hax, low_iff r hs'.2 m y h']; omega
    · have := hs'.1 y (List.mem_of_getElem? h')
      rw [low_ge hs hax]; omega
theorem low_some {x y : Int} : ∀ (l : List Int), l.Pairwise (· < ·) → l[lowN l x]? = some y → l.contains x = decide (y = x)
  | [], _, h => by simp at h
  | a :: r, hs, h => by
    have hs' := List.pairwise_cons.1 hs
    rw [List.contains_cons]
    by_cases hax : a < x
    · rw [low_lt hax] at h
      have hne : (x == a) = false := by simp; omega
      rw [hne, Bool.false_or]
      exact low_some r hs'.2 (by simpa using h)
    · rw [low_ge hs hax] at h
      obtain rfl : a = y := by simpa using h
      by_cases e : a = x
      · simp [e]
      · have hr : r.contains x = false := by
          cases q : r.contains x
          · rfl
          · have := hs'.1 x (List.contains_iff_mem.1 q); omega
        rw [hr, decide_eq_false e]
        simp
        omega
theorem low_none {x : Int} : ∀ (l : List Int), l.Pairwise (· < ·) → l.length ≤ lowN l x → l.contains x = false
  | [], _, _ => rfl
  | a :: r, hs, h => by
    have hs' := List.pairwise_cons.1 hs
    by_cases hax : a < x
    · rw [low_lt hax] at h
      have hne : (x == a) = false := by simp; omega
      rw [List.contains_cons, hne, Bool.false_or]
      exact low_none r hs'.2 (by simpa using h)
    · rw [low_ge hs hax] at h
      simp at h
end Go.Proofs.YthpnddgfgpacpaaGreat
