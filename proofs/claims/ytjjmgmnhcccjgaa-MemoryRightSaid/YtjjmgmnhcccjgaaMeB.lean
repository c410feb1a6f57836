/-
  Walks over the calls of package memory and of its reference that only reckon: sizes, addresses, ranges. Condition: lists have at most 2^40 elements.
-/
import Derived.Test.YtjjmgmnhcccjgaaProg
import Derived.Test.YtjjmgmnhcccjgaaBits
import Derived.Test.YtjjmgmnhcccjgaaMeA
import Derived.WalkKit
import Derived.WalkSpells
import Derived.WalkLawsBesides
import Derived.Deep.RegionHeld3
import Derived.Deep.DeepCutAuto
import Derived.Deep.QuietTactic
import Derived.BigQuiet
import Derived.KernelRfl
namespace Go.Proofs.Ytjjmgmnhcccjgaa
open Go.RowKit
set_option linter.unusedSimpArgs false
set_option maxHeartbeats 1000000

def Hid (p : Prop) : Prop := p
theorem hid {p : Prop} (h : p) : Hid p := h
theorem ret_bool {a b : Bool} (h : a = b) : Ending.returned (.bool a) = .returned (.bool b) := by rw [h]
theorem ret_int {k : IntKind} {a b : Int} (h : a = b) : Ending.returned (.int k a) = .returned (.int k b) := by rw [h]

/-- A region that draws its order, walked once in the order of the text, in every world of a class. -/
theorem region_class {P : Program} {id : Nat} {Q : Exit → Act → World → Prop} {a : Act} {w : World} {l : List Oper} (C : World → Prop) (hm : P.follows .mixedOrders = true) (hB : Region.lexB .any l.toArray = true) (hC : C w.drew)
    (h : wpQuiet P l.toArray C (fun a' => ∀ w', C w' → Q .normal a' w') l a) : (Code.region id l.toArray true).wp P Q a w :=
  wp_region_quiet hm hB hC (by simpa using h)
attribute [local irreducible] wpQuiet
theorem drewN_below {B : Nat} {a w : World} (h : Below B a w) (q : Nat) : Below B a (w.drewN q) := ⟨h.os, h.tape, h.output, h.size, h.block⟩

theorem okS_in {n : Int} (h1 : 256 ≤ n) (h2 : n ≤ 32768) (h3 : n % 64 = 0) : okS n = true := by simp [okS, h1, h2, h3]
theorem okS_out {n : Int} (h : ¬(256 ≤ n ∧ n ≤ 32768 ∧ n % 64 = 0)) : okS n = false := by
  cases e : okS n
  · rfl
  · exact absurd (by simpa [okS] using e) h
theorem okS_iff {n : Int} : okS n = true ↔ 256 ≤ n ∧ n ≤ 32768 ∧ n % 64 = 0 := by simp [okS]

theorem allowed_any (n : Int) (w : World) : Calls Try.prog 28 #[.int .i64 n] w fun e w' => e = .returned (.bool (okS n)) ∧ w = w' := by
  by_cases h1 : 256 ≤ n
  · by_cases h2 : n ≤ 32768
    · have h0 : 0 ≤ n := by omega
      by_cases h3 : n % 64 = 0
      · rw [okS_in h1 h2 h3]
        go_enter Try.func28, Try.ntmps28
        go_wp2
        go_ret
        exact ⟨rfl, rfl⟩
      · rw [okS_out (fun k => h3 k.2.2)]
        go_enter Try.func28, Try.ntmps28
        go_wp2
        go_ret
        exact ⟨ret_bool (by simp [h3]), rfl⟩
    · rw [okS_out (fun k => h2 k.2.1)]
      go_enter Try.func28, Try.ntmps28
      go_wp2
      go_ret
      exact ⟨rfl, rfl⟩
  · rw [okS_out (fun k => h1 k.1)]
    go_enter Try.func28, Try.ntmps28
    go_wp2
    go_ret
    exact ⟨rfl, rfl⟩

theorem size_any (n : Int) (w : World) : Calls Try.prog 29 #[.int .i64 n] w fun e w' => e = .returned (.bool (okS n)) ∧ w = w' := by
  by_cases h1 : 256 ≤ n
  · by_cases h2 : n ≤ 32768
    · have h0 : 0 ≤ n := by omega
      by_cases h3 : n % 64 = 0
      · rw [okS_in h1 h2 h3]
        go_enter Try.func29, Try.ntmps29
        go_wp2
        go_ret
        exact ⟨rfl, rfl⟩
      · rw [okS_out (fun k => h3 k.2.2)]
        go_enter Try.func29, Try.ntmps29
        go_wp2
        go_ret
        exact ⟨ret_bool (by simp [h3]), rfl⟩
    · rw [okS_out (fun k => h2 k.2.1)]
      go_enter Try.func29, Try.ntmps29
      go_wp2
      go_ret
      exact ⟨rfl, rfl⟩
  · rw [okS_out (fun k => h1 k.1)]
    go_enter Try.func29, Try.ntmps29
    go_wp2
    go_ret
    exact ⟨rfl, rfl⟩

theorem sizeof_any (A : Option Addr) (k c : Nat) (hk : k ≤ 1099511627776) (w : World) : Calls Try.prog 30 #[.slice A k c] w fun e w' => e = .returned (.int .i64 (2 * (k : Int))) ∧ w = w' := by
  go_enter Try.func30, Try.ntmps30
  go_wp2
  go_ret
  exact ⟨rfl, rfl⟩

theorem tmod2 (n : Int) : (n.tmod 2 = 0) = (n % 2 = 0) := by
  apply propext
  have := Int.tmod_eq_emod (a := n) (b := 2)
  constructor <;> intro h <;> split at this <;> omega
theorem odd_any (n : Int) (w : World) : Calls Try.prog 44 #[.int .i64 n] w fun e w' => e = .returned (.bool (!decide (n % 2 = 0))) ∧ w = w' := by
  have h := tmod2 n
  by_cases h2 : n % 2 = 0
  · have h3 : n.tmod 2 = 0 := by rw [h]; exact h2
    rw [decide_eq_true h2]
    go_enter Try.func44, Try.ntmps44
    go_wp2
    go_ret
    exact ⟨ret_bool (by simp [h3]), rfl⟩
  · have h3 : ¬ n.tmod 2 = 0 := by rw [h]; exact h2
    rw [decide_eq_false h2]
    go_enter Try.func44, Try.ntmps44
    go_wp2
    go_ret
    exact ⟨ret_bool (by simp [h3]), rfl⟩

theorem waddr_any (n : Int) (h0 : 0 ≤ n) (h1 : n ≤ 9223372036854775807) (w : World) : Calls Try.prog 34 #[.int .i64 n] w fun e w' => e = .returned (.int .i64 (evenP n)) ∧ w = w' := by
  go_enter Try.func34, Try.ntmps34
  go_wp2
  go_ret
  exact ⟨rfl, rfl⟩

theorem shift_any (a : Nat) (h1 : a ≤ 4611686018427387904) (w : World) : Calls Try.prog 50 #[.int .i64 (a : Int)] w fun e w' => e = .returned (.int .i64 ((a : Int) % 2 * 8)) ∧ w = w' := by
  go_enter Try.func50, Try.ntmps50
  go_wp2
  go_ret
  exact ⟨rfl, rfl⟩

/-- Is it the address of a word? -/
def wwP (n a : Int) : Bool := accP n a false
theorem wwP_eq (n a : Int) : wwP n a = (decide (a % 2 = 0) && (decide (0 ≤ a) && decide (a < n))) := by simp [wwP, accP]
theorem within_any (A : Option Addr) (k c : Nat) (hk : k ≤ 1099511627776) (a : Int) (w : World) : Calls Try.prog 31 #[.slice A k c, .int .i64 a] w fun e w' => e = .returned (.bool (wwP (2 * (k : Int)) a)) ∧ w = w' := by
  have hs := fun w => sizeof_any A k c hk w
  have ho := fun w => odd_any a w
  rw [wwP_eq]
  by_cases h1 : a % 2 = 0
  · rw [decide_eq_true h1] at ho ⊢
    by_cases h2 : 0 ≤ a
    · rw [decide_eq_true h2]
      by_cases h3 : a < 2 * (k : Int)
      · rw [decide_eq_true h3]
        clear h1
        go_enter Try.func31, Try.ntmps31
        go_wp2_with (first | (go_at_call 44; with_reducible refine (ho _).mono ?_; rintro e w' ⟨rfl, rfl⟩) | (go_at_call 30; with_reducible refine (hs _).mono ?_; rintro e w' ⟨rfl, rfl⟩))
        go_ret
        exact ⟨rfl, rfl⟩
      · rw [decide_eq_false h3]
        clear h1
        go_enter Try.func31, Try.ntmps31
        go_wp2_with (first | (go_at_call 44; with_reducible refine (ho _).mono ?_; rintro e w' ⟨rfl, rfl⟩) | (go_at_call 30; with_reducible refine (hs _).mono ?_; rintro e w' ⟨rfl, rfl⟩))
        go_ret
        exact ⟨ret_bool (by simp [h3]), rfl⟩
    · rw [decide_eq_false h2]
      clear h1
      go_enter Try.func31, Try.ntmps31
      go_wp2_with (first | (go_at_call 44; with_reducible refine (ho _).mono ?_; rintro e w' ⟨rfl, rfl⟩) | (go_at_call 30; with_reducible refine (hs _).mono ?_; rintro e w' ⟨rfl, rfl⟩))
      go_ret
      exact ⟨rfl, rfl⟩
  · rw [decide_eq_false h1] at ho ⊢
    clear h1
    go_enter Try.func31, Try.ntmps31
    go_wp2_with (first | (go_at_call 44; with_reducible refine (ho _).mono ?_; rintro e w' ⟨rfl, rfl⟩) | (go_at_call 30; with_reducible refine (hs _).mono ?_; rintro e w' ⟨rfl, rfl⟩))
    go_ret
    exact ⟨rfl, rfl⟩

theorem accessible_any (A : Option Addr) (k c : Nat) (hk : k ≤ 1099511627776) (a : Int) (b : Bool) (w : World) : Calls Try.prog 32 #[.slice A k c, .int .i64 a, .bool b] w fun e w' => e = .returned (.bool (accP (2 * (k : Int)) a b)) ∧ w = w' := by
  have hs := fun w => sizeof_any A k c hk w
  have hw := fun w => within_any A k c hk a w
  cases b
  · have e : accP (2 * (k : Int)) a false = wwP (2 * (k : Int)) a := rfl
    rw [e]
    generalize wwP (2 * (k : Int)) a = q at *
    go_enter Try.func32, Try.ntmps32
    go_wp2_with (first | (go_at_call 31; with_reducible refine (hw _).mono ?_; rintro e w' ⟨rfl, rfl⟩))
    go_ret
    exact ⟨rfl, rfl⟩
  · have e : accP (2 * (k : Int)) a true = (decide (0 ≤ a) && decide (a < 2 * (k : Int))) := by simp [accP]
    rw [e]
    clear hw
    by_cases h2 : 0 ≤ a
    · rw [decide_eq_true h2]
      by_cases h3 : a < 2 * (k : Int)
      · rw [decide_eq_true h3]
        go_enter Try.func32, Try.ntmps32
        go_wp2_with (first | (go_at_call 30; with_reducible refine (hs _).mono ?_; rintro e w' ⟨rfl, rfl⟩))
        go_ret
        exact ⟨rfl, rfl⟩
      · rw [decide_eq_false h3]
        go_enter Try.func32, Try.ntmps32
        go_wp2_with (first | (go_at_call 30; with_reducible refine (hs _).mono ?_; rintro e w' ⟨rfl, rfl⟩))
        go_ret
        exact ⟨ret_bool (by simp [h3]), rfl⟩
    · rw [decide_eq_false h2]
      go_enter Try.func32, Try.ntmps32
      go_wp2_with (first | (go_at_call 30; with_reducible refine (hs _).mono ?_; rintro e w' ⟨rfl, rfl⟩))
      go_ret
      exact ⟨rfl, rfl⟩

theorem range_any (A : Option Addr) (k c : Nat) (hk : k ≤ 1099511627776) (a n : Int) (ha : a ≤ 9223372036854775807) (w : World) : Calls Try.prog 46 #[.slice A k c, .int .i64 a, .int .i64 n] w fun e w' => e = .returned (.bool (inR (2 * (k : Int)) a n)) ∧ w = w' := by
  have hs := fun w => sizeof_any A k c hk w
  unfold inR
  by_cases h1 : 0 ≤ a
  · rw [decide_eq_true h1]
    by_cases h2 : 0 ≤ n
    · rw [decide_eq_true h2]
      by_cases h3 : n ≤ 2 * (k : Int) - a
      · rw [decide_eq_true h3]
        go_enter Try.func46, Try.ntmps46
        go_wp2_with (first | (go_at_call 30; with_reducible refine (hs _).mono ?_; rintro e w' ⟨rfl, rfl⟩))
        go_ret
        exact ⟨rfl, rfl⟩
      · rw [decide_eq_false h3]
        go_enter Try.func46, Try.ntmps46
        go_wp2_with (first | (go_at_call 30; with_reducible refine (hs _).mono ?_; rintro e w' ⟨rfl, rfl⟩))
        go_ret
        exact ⟨ret_bool (by simp [h3]), rfl⟩
    · rw [decide_eq_false h2]
      go_enter Try.func46, Try.ntmps46
      go_wp2_with (first | (go_at_call 30; with_reducible refine (hs _).mono ?_; rintro e w' ⟨rfl, rfl⟩))
      go_ret
      exact ⟨rfl, rfl⟩
  · rw [decide_eq_false h1]
    go_enter Try.func46, Try.ntmps46
    go_wp2_with (first | (go_at_call 30; with_reducible refine (hs _).mono ?_; rintro e w' ⟨rfl, rfl⟩))
    go_ret
    exact ⟨rfl, rfl⟩

theorem rwithin_any (A : Option Addr) (k c : Nat) (hk : k ≤ 1099511627776) (a n : Int) (ha : a ≤ 9223372036854775807) (w : World) : Calls Try.prog 47 #[.slice A k c, .int .i64 a, .int .i64 n] w fun e w' => e = .returned (.bool (inR (2 * (k : Int)) a n)) ∧ w = w' := by
  unfold inR
  by_cases h1 : 0 ≤ a
  · rw [decide_eq_true h1]
    by_cases h2 : 0 ≤ n
    · rw [decide_eq_true h2]
      by_cases h3 : n ≤ 2 * (k : Int) - a
      · rw [decide_eq_true h3]
        have h4 : a ≤ 2 * (k : Int) := by omega
        go_enter Try.func47, Try.ntmps47
        go_wp2
        go_ret
        exact ⟨rfl, rfl⟩
      · rw [decide_eq_false h3]
        by_cases h4 : a ≤ 2 * (k : Int)
        · go_enter Try.func47, Try.ntmps47
          go_wp2
          go_ret
          exact ⟨ret_bool (by simp [h3]), rfl⟩
        · go_enter Try.func47, Try.ntmps47
          go_wp2
          go_ret
          exact ⟨rfl, rfl⟩
    · rw [decide_eq_false h2]
      go_enter Try.func47, Try.ntmps47
      go_wp2
      go_ret
      exact ⟨rfl, rfl⟩
  · rw [decide_eq_false h1]
    go_enter Try.func47, Try.ntmps47
    go_wp2
    go_ret
    exact ⟨rfl, rfl⟩

theorem writeT_acc {n a : Int} {b : Bool} (h : accP n a b = true) : writeT n a b = 0 := if_pos h
theorem writeT_no {n a : Int} {b : Bool} (h : accP n a b = false) : writeT n a b = 1 := if_neg (by rw [h]; decide)
theorem racc_any (A : Option Addr) (k c : Nat) (hk : k ≤ 1099511627776) (a : Int) (b : Bool) (w : World) : Calls Try.prog 36 #[.slice A k c, .int .i64 a, .bool b] w fun e w' => e = .returned (.int .i64 (writeT (2 * (k : Int)) a b)) ∧ w = w' := by
  by_cases h2 : 0 ≤ a
  · by_cases h3 : a < 2 * (k : Int)
    · cases b
      · by_cases h1 : a % 2 = 0
        · rw [writeT_acc (by simp [accP, h1, h2, h3])]
          go_enter Try.func36, Try.ntmps36
          go_wp2
          go_ret
          exact ⟨rfl, rfl⟩
        · have h1b : (a % 2 != 0) = true := by simpa using h1
          rw [writeT_no (by simp [accP, h1])]
          go_enter Try.func36, Try.ntmps36
          go_wp2
          go_ret
          exact ⟨rfl, rfl⟩
      · rw [writeT_acc (by simp [accP, h2, h3])]
        go_enter Try.func36, Try.ntmps36
        go_wp2
        go_ret
        exact ⟨rfl, rfl⟩
    · rw [writeT_no (by simp [accP, h3])]
      go_enter Try.func36, Try.ntmps36
      go_wp2
      go_ret
      exact ⟨rfl, rfl⟩
  · rw [writeT_no (by simp [accP, h2])]
    go_enter Try.func36, Try.ntmps36
    go_wp2
    go_ret
    exact ⟨rfl, rfl⟩
end Go.Proofs.Ytjjmgmnhcccjgaa
