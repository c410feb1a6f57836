import Derived.Test.YthpnddgfgpacpaaGreatProg
import Derived.Test.YthpnddgfgpacpaaGreatRS00
import Derived.Test.YthpnddgfgpacpaaGreatRS10
import Derived.Test.YthpnddgfgpacpaaGreatRS05
import Derived.WalkKit
import Derived.WalkSpells
import Derived.WalkLawsBesides
import Derived.Deep.RegionHeld3
import Derived.Deep.DeepCutAuto
import Derived.Deep.QuietTactic
import Derived.BigQuiet
import Derived.KernelRfl
import Derived.Deep.Draws
/-
  Walks over the calls of package memory and of its reference that only reckon: sizes, addresses, ranges. Condition: lists have at most 2^40 elements.
-/
namespace Go.Proofs.YthpnddgfgpacpaaGreat
open Go.RowKit
set_option linter.unusedSimpArgs false
set_option maxHeartbeats 1000000

theorem ret_bool {a b : Bool} (h : a = b) : Ending.returned (.bool a) = .returned (.bool b) := by rw [h]
attribute [local irreducible] wpQuiet
theorem drewN_below {B : Nat} {a w : World} (h : Below B a w) (q : Nat) : Below B a (w.drewN q) := ⟨h.os, h.tape, h.output, h.size, h.block⟩

theorem okS_in {n : Int} (h1 : 256 ≤ n) (h2 : n ≤ 32768) (h3 : n % 64 = 0) : okS n = true := by simp [okS, h1, h2, h3]
theorem okS_out {n : Int} (h : ¬(256 ≤ n ∧ n ≤ 32768 ∧ n % 64 = 0)) : okS n = false := by
  cases e : okS n
  · rfl
  · exact absurd (by simpa [okS] using e) h
theorem okS_iff {n : Int} : okS n = true ↔ 256 ≤ n ∧ n ≤ 32768 ∧ n % 64 = 0 := by simp [okS]

theorem allowed_any (n : Int) (w : World) : Calls Tryz.prog 72 #[.int .i64 n] w fun e w' => e = .returned (.bool (okS n)) ∧ w = w' := by
  by_cases h1 : 256 ≤ n
  · by_cases h2 : n ≤ 32768
    · have h0 : 0 ≤ n := by omega
      by_cases h3 : n % 64 = 0
      · rw [okS_in h1 h2 h3]
        go_enter Tryz.func72, Tryz.ntmps72
        go_wp2
        go_ret
        exact ⟨rfl, rfl⟩
      · rw [okS_out (fun k => h3 k.2.2)]
        go_enter Tryz.func72, Tryz.ntmps72
        go_wp2
        go_ret
        exact ⟨ret_bool (by simp [h3]), rfl⟩
    · rw [okS_out (fun k => h2 k.2.1)]
      go_enter Tryz.func72, Tryz.ntmps72
      go_wp2
      go_ret
      exact ⟨rfl, rfl⟩
  · rw [okS_out (fun k => h1 k.1)]
    go_enter Tryz.func72, Tryz.ntmps72
    go_wp2
    go_ret
    exact ⟨rfl, rfl⟩

theorem size_any (n : Int) (w : World) : Calls Tryz.prog 76 #[.int .i64 n] w fun e w' => e = .returned (.bool (okS n)) ∧ w = w' := by
  by_cases h1 : 256 ≤ n
  · by_cases h2 : n ≤ 32768
    · have h0 : 0 ≤ n := by omega
      by_cases h3 : n % 64 = 0
      · rw [okS_in h1 h2 h3]
        go_enter Tryz.func76, Tryz.ntmps76
        go_wp2
        go_ret
        exact ⟨rfl, rfl⟩
      · rw [okS_out (fun k => h3 k.2.2)]
        go_enter Tryz.func76, Tryz.ntmps76
        go_wp2
        go_ret
        exact ⟨ret_bool (by simp [h3]), rfl⟩
    · rw [okS_out (fun k => h2 k.2.1)]
      go_enter Tryz.func76, Tryz.ntmps76
      go_wp2
      go_ret
      exact ⟨rfl, rfl⟩
  · rw [okS_out (fun k => h1 k.1)]
    go_enter Tryz.func76, Tryz.ntmps76
    go_wp2
    go_ret
    exact ⟨rfl, rfl⟩

theorem sizeof_any (A : Option Addr) (k c : Nat) (hk : k ≤ 1099511627776) (w : World) : Calls Tryz.prog 73 #[.slice A k c] w fun e w' => e = .returned (.int .i64 (2 * (k : Int))) ∧ w = w' := by
  go_enter Tryz.func73, Tryz.ntmps73
  go_wp2
  go_ret
  exact ⟨rfl, rfl⟩

theorem tmod2 (n : Int) : (n.tmod 2 = 0) = (n % 2 = 0) := by
  apply propext
  have := Int.tmod_eq_emod (a := n) (b := 2)
  constructor <;> intro h <;> split at this <;> omega
theorem odd_any (n : Int) (w : World) : Calls Tryz.prog 123 #[.int .i64 n] w fun e w' => e = .returned (.bool (!decide (n % 2 = 0))) ∧ w = w' := by
  have h := tmod2 n
  by_cases h2 : n % 2 = 0
  · have h3 : n.tmod 2 = 0 := by rw [h]; exact h2
    rw [decide_eq_true h2]
    go_enter Tryz.func123, Tryz.ntmps123
    go_wp2
    go_ret
    exact ⟨ret_bool (by simp [h3]), rfl⟩
  · have h3 : ¬ n.tmod 2 = 0 := by rw [h]; exact h2
    rw [decide_eq_false h2]
    go_enter Tryz.func123, Tryz.ntmps123
    go_wp2
    go_ret
    exact ⟨ret_bool (by simp [h3]), rfl⟩

theorem waddr_any (n : Int) (h0 : 0 ≤ n) (h1 : n ≤ 9223372036854775807) (w : World) : Calls Tryz.prog 84 #[.int .i64 n] w fun e w' => e = .returned (.int .i64 (evenP n)) ∧ w = w' := by
  go_enter Tryz.func84, Tryz.ntmps84
  go_wp2
  go_ret
  exact ⟨rfl, rfl⟩

theorem shift_any (a : Nat) (h1 : a ≤ 4611686018427387904) (w : World) : Calls Tryz.prog 127 #[.int .i64 (a : Int)] w fun e w' => e = .returned (.int .i64 ((a : Int) % 2 * 8)) ∧ w = w' := by
  go_enter Tryz.func127, Tryz.ntmps127
  go_wp2
  go_ret
  exact ⟨rfl, rfl⟩

/-- Is it the address of a word? -/
def wwP (n a : Int) : Bool := accP n a false
theorem wwP_eq (n a : Int) : wwP n a = (decide (a % 2 = 0) && (decide (0 ≤ a) && decide (a < n))) := by simp [wwP, accP]
theorem within_any (A : Option Addr) (k c : Nat) (hk : k ≤ 1099511627776) (a : Int) (w : World) : Calls Tryz.prog 74 #[.slice A k c, .int .i64 a] w fun e w' => e = .returned (.bool (wwP (2 * (k : Int)) a)) ∧ w = w' := by
  have hs := fun w => sizeof_any A k c hk w
  have ho := fun w => odd_any a w
  rw [wwP_eq]
  by_cases h1 : a % 2 = 0
  · rw [decide_eq_true h1] at ho ⊢
    by_cases h2 : 0 ≤ a
    · rw [decide_eq_true h2]
      by_cases h3 : a < 2 * (k : Int)
      · rw [decide_eq_true h3]
        clear h1
        go_enter Tryz.func74, Tryz.ntmps74
        go_wp2_with (first | (go_at_call 123; with_reducible refine (ho _).mono ?_; rintro e w' ⟨rfl, rfl⟩) | (go_at_call 73; with_reducible refine (hs _).mono ?_; rintro e w' ⟨rfl, rfl⟩))
        go_ret
        exact ⟨rfl, rfl⟩
      · rw [decide_eq_false h3]
        clear h1
        go_enter Tryz.func74, Tryz.ntmps74
        go_wp2_with (first | (go_at_call 123; with_reducible refine (ho _).mono ?_; rintro e w' ⟨rfl, rfl⟩) | (go_at_call 73; with_reducible refine (hs _).mono ?_; rintro e w' ⟨rfl, rfl⟩))
        go_ret
        exact ⟨ret_bool (by simp [h3]), rfl⟩
    · rw [decide_eq_false h2]
      clear h1
      go_enter Tryz.func74, Tryz.ntmps74
      go_wp2_with (first | (go_at_call 123; with_reducible refine (ho _).mono ?_; rintro e w' ⟨rfl, rfl⟩) | (go_at_call 73; with_reducible refine (hs _).mono ?_; rintro e w' ⟨rfl, rfl⟩))
      go_ret
      exact ⟨rfl, rfl⟩
  · rw [decide_eq_false h1] at ho ⊢
    clear h1
    go_enter Tryz.func74, Tryz.ntmps74
    go_wp2_with (first | (go_at_call 123; with_reducible refine (ho _).mono ?_; rintro e w' ⟨rfl, rfl⟩) | (go_at_call 73; with_reducible refine (hs _).mono ?_; rintro e w' ⟨rfl, rfl⟩))
    go_ret
    exact ⟨rfl, rfl⟩

theorem accessible_any (A : Option Addr) (k c : Nat) (hk : k ≤ 1099511627776) (a : Int) (b : Bool) (w : World) : Calls Tryz.prog 82 #[.slice A k c, .int .i64 a, .bool b] w fun e w' => e = .returned (.bool (accP (2 * (k : Int)) a b)) ∧ w = w' := by
  have hs := fun w => sizeof_any A k c hk w
  have hw := fun w => within_any A k c hk a w
  cases b
  · have e : accP (2 * (k : Int)) a false = wwP (2 * (k : Int)) a := rfl
    rw [e]
    generalize wwP (2 * (k : Int)) a = q at *
    go_enter Tryz.func82, Tryz.ntmps82
    go_wp2_with (first | (go_at_call 74; with_reducible refine (hw _).mono ?_; rintro e w' ⟨rfl, rfl⟩))
    go_ret
    exact ⟨rfl, rfl⟩
  · have e : accP (2 * (k : Int)) a true = (decide (0 ≤ a) && decide (a < 2 * (k : Int))) := by simp [accP]
    rw [e]
    clear hw
    by_cases h2 : 0 ≤ a
    · rw [decide_eq_true h2]
      by_cases h3 : a < 2 * (k : Int)
      · rw [decide_eq_true h3]
        go_enter Tryz.func82, Tryz.ntmps82
        go_wp2_with (first | (go_at_call 73; with_reducible refine (hs _).mono ?_; rintro e w' ⟨rfl, rfl⟩))
        go_ret
        exact ⟨rfl, rfl⟩
      · rw [decide_eq_false h3]
        go_enter Tryz.func82, Tryz.ntmps82
        go_wp2_with (first | (go_at_call 73; with_reducible refine (hs _).mono ?_; rintro e w' ⟨rfl, rfl⟩))
        go_ret
        exact ⟨ret_bool (by simp [h3]), rfl⟩
    · rw [decide_eq_false h2]
      go_enter Tryz.func82, Tryz.ntmps82
      go_wp2_with (first | (go_at_call 73; with_reducible refine (hs _).mono ?_; rintro e w' ⟨rfl, rfl⟩))
      go_ret
      exact ⟨rfl, rfl⟩

theorem writeT_acc {n a : Int} {b : Bool} (h : accP n a b = true) : writeT n a b = 0 := if_pos h
theorem writeT_no {n a : Int} {b : Bool} (h : accP n a b = false) : writeT n a b = 1 := if_neg (by rw [h]; decide)
end Go.Proofs.YthpnddgfgpacpaaGreat
/-
  Where a search in an ascending list ends, plain. No condition.
-/
namespace Go.Proofs.YthpnddgfgpacpaaGreat
set_option linter.unusedSimpArgs false
set_option linter.unusedVariables false

/-- How many elements are less. -/
def lowN (l : List Int) (x : Int) : Nat := l.countP (fun y => decide (y < x))
theorem low_lt {a x : Int} {r : List Int} (h : a < x) : lowN (a :: r) x = lowN r x + 1 := by
  unfold lowN; rw [List.countP_cons, if_pos (by simpa using h)]
theorem low_ge {a x : Int} {r : List Int} (hs : (a :: r).Pairwise (· < ·)) (h : ¬ a < x) : lowN (a :: r) x = 0 := by
  unfold lowN
  rw [List.countP_eq_zero]
  intro y hy
  rw [List.pairwise_cons] at hs
  rcases List.mem_cons.1 hy with rfl | hy
  · simpa using h
  · have := hs.1 y hy
    simp; omega
theorem low_le (x : Int) (l : List Int) : lowN l x ≤ l.length := List.countP_le_length
theorem low_iff {x : Int} : ∀ (l : List Int), l.Pairwise (· < ·) → ∀ (m : Nat) (y : Int), l[m]? = some y → (y < x ↔ m < lowN l x)
  | [], _, m, y, h => by simp at h
  | a :: r, hs, 0, y, h => by
    obtain rfl : a = y := by simpa using h
    by_cases hax : a < x
    · rw [low_lt hax]; simp [hax]
    · rw [low_ge hs hax]; simp [hax]
  | a :: r, hs, m + 1, y, h => by
    have hs' := List.pairwise_cons.1 hs
    have h' : r[m]? = some y := by simpa using h
    by_cases hax : a < x
    · rw [low_lt hax, low_iff r hs'.2 m y h']; omega
    · have := hs'.1 y (List.mem_of_getElem? h')
      rw [low_ge hs hax]; omega
theorem low_some {x y : Int} : ∀ (l : List Int), l.Pairwise (· < ·) → l[lowN l x]? = some y → l.contains x = decide (y = x)
  | [], _, h => by simp at h
  | a :: r, hs, h => by
    have hs' := List.pairwise_cons.1 hs
    rw [List.contains_cons]
    by_cases hax : a < x
    · rw [low_lt hax] at h
      have hne : (x == a) = false := by simp; omega
      rw [hne, Bool.false_or]
      exact low_some r hs'.2 (by simpa using h)
    · rw [low_ge hs hax] at h
      obtain rfl : a = y := by simpa using h
      by_cases e : a = x
      · simp [e]
      · have hr : r.contains x = false := by
          cases q : r.contains x
          · rfl
          · have := hs'.1 x (List.contains_iff_mem.1 q); omega
        rw [hr, decide_eq_false e]
        simp
        omega
theorem low_none {x : Int} : ∀ (l : List Int), l.Pairwise (· < ·) → l.length ≤ lowN l x → l.contains x = false
  | [], _, _ => rfl
  | a :: r, hs, h => by
    have hs' := List.pairwise_cons.1 hs
    by_cases hax : a < x
    · rw [low_lt hax] at h
      have hne : (x == a) = false := by simp; omega
      rw [List.contains_cons, hne, Bool.false_or]
      exact low_none r hs'.2 (by simpa using h)
    · rw [low_ge hs hax] at h
      simp at h
end Go.Proofs.YthpnddgfgpacpaaGreat
/-
  Walks over the calls of package memory and of its reference that read a list of integers: a byte, an element searched, two lists compared, valid memories. Condition: lists have at most 2^40 elements; the searched list ascends.
-/
namespace Go.Proofs.YthpnddgfgpacpaaGreat
open Go.RowKit
set_option linter.unusedSimpArgs false
set_option linter.unusedVariables false
set_option maxHeartbeats 1000000
attribute [local irreducible] wpQuiet

theorem quiet_eq {P : Program} {f : FuncId} {args : Array Value} {w : World} {n : Nat} {v : Value}
    (h : Calls P f args (w.drewN n) fun e w' => e = .returned v ∧ w.drewN n = w') : Calls P f args (w.drewN n) fun e w'' => e = .returned v ∧ ∃ m, w'' = w.drewN m :=
  h.mono fun _ _ ⟨he, hm⟩ => ⟨he, n, hm.symm⟩

/-! ### A byte -/
theorem byte_even {l : List Int} {a : Nat} {x : Int} (h : a % 2 = 0) (hx : l[a / 2]? = some x) : byteN l a = x % 256 := by
  unfold byteN; rw [List.getD_eq_getElem?_getD, hx, h]; simp
theorem byte_odd {l : List Int} {a : Nat} {x : Int} (h : a % 2 = 1) (hx : l[a / 2]? = some x) : byteN l a = x / 256 % 256 := by
  unfold byteN; rw [List.getD_eq_getElem?_getD, hx, h]; simp
theorem byteat_any (v : Value) (l : List Int) (hl : l.length ≤ 1099511627776) (a : Nat) (ha : a < 2 * l.length) (w : World) (hv : Nums .i64 w v l) :
    Calls Tryz.prog 85 #[v, .int .i64 (a : Int)] w fun e w' => e = .returned (.int .i64 (byteN l a)) ∧ Below w.heap.size w w' := by
  obtain ⟨A, c, rfl, _, hc⟩ := hv
  have hk : a / 2 < l.length := by omega
  have hx := List.getElem?_eq_getElem hk
  have e0 := fun h => byte_even (a := a) h hx
  have e1 := fun h => byte_odd (a := a) h hx
  generalize l[a / 2] = x at *
  obtain ⟨p, rfl, hcx, _⟩ := hc _ _ hx
  have hsh := fun w => shift_any a (by omega) w
  have A0 := a255 x
  have A1 := a255 (x / 256)
  have hi : (a : Int) / 2 = ((a / 2 : Nat) : Int) := by omega
  clear hc hx
  rcases Nat.mod_two_eq_zero_or_one a with h | h
  · have hm : (a : Int) % 2 * 8 = 0 := by omega
    rw [hm] at hsh
    rw [e0 h]
    clear e0 e1 h hm A1
    generalize x % 256 = r at *
    generalize hj : a / 2 = j at *
    have hj := hid hj
    go_enter Tryz.func85, Tryz.ntmps85
    go_wp2
    go_quiet ((first | (go_at_call 127; exact quiet_eq (hsh _))))
    go_wp2
    go_ret
    exact ⟨rfl, drewN_below (Below.refl _ _) _⟩
  · have hm : (a : Int) % 2 * 8 = 8 := by omega
    rw [hm] at hsh
    rw [e1 h]
    clear e0 e1 h hm A0
    generalize x / 256 % 256 = r at *
    generalize hj : a / 2 = j at *
    have hj := hid hj
    go_enter Tryz.func85, Tryz.ntmps85
    go_wp2
    go_quiet ((first | (go_at_call 127; exact quiet_eq (hsh _))))
    go_wp2
    go_ret
    exact ⟨rfl, drewN_below (Below.refl _ _) _⟩
theorem cnan_any (x : Int) (w : World) : Calls Tryz.prog 142 #[.int .i64 x] w fun e w' => e = .returned (.bool false) ∧ w = w' := by
  go_enter Tryz.func142, Tryz.ntmps142
  go_wp2
  go_ret
  exact ⟨ret_bool (by simp), rfl⟩
theorem snan_any (x : Int) (w : World) : Calls Tryz.prog 126 #[.int .i64 x] w fun e w' => e = .returned (.bool false) ∧ w = w' := by
  go_enter Tryz.func126, Tryz.ntmps126
  go_wp2
  go_ret
  exact ⟨ret_bool (by simp), rfl⟩
theorem less_any (x y : Int) (w : World) : Calls Tryz.prog 125 #[.int .i64 x, .int .i64 y] w fun e w' => e = .returned (.bool (decide (x < y))) ∧ w = w' := by
  have h := fun w => cnan_any x w
  go_enter Tryz.func125, Tryz.ntmps125
  go_wp2_with (first | (go_at_call 142; with_reducible refine (h _).mono ?_; rintro e w' ⟨rfl, rfl⟩))
  go_ret
  exact ⟨rfl, rfl⟩
theorem search_any (v : Value) (l : List Int) (hl : l.length ≤ 1099511627776) (hs : l.Pairwise (· < ·)) (x : Int) (w : World) (hv : Nums .i64 w v l) :
    Calls Tryz.prog 83 #[v, .int .i64 x] w fun e w' => e = .returned (.tuple #[.int .i64 ((lowN l x : Nat) : Int), .bool (l.contains x)]) ∧ w = w' := by
  obtain ⟨A, c, rfl, _, hc⟩ := hv
  have hless := fun y w => less_any y x w
  have hnan := fun y w => snan_any y w
  have hiff := hid (low_iff (x := x) l hs)
  have hsome := fun y => low_some (x := x) (y := y) l hs
  have hnone := low_none (x := x) l hs
  have hle := low_le x l
  clear hs
  generalize lowN l x = k at *
  replace hnone := hid hnone
  replace hsome := hid hsome
  obtain ⟨Q, hQ⟩ : ∃ Q, Hid (Q = l.contains x) := ⟨_, rfl⟩
  rw [← show Q = l.contains x from hQ]
  go_enter Tryz.func83, Tryz.ntmps83
  go_wp2
  go_loopw [7, 8] (fun p q wr => ∃ lo hi : Nat, p = .int .i64 lo ∧ q = .int .i64 hi ∧ lo ≤ k ∧ k ≤ hi ∧ hi ≤ l.length ∧ w = wr)
    (fun p q _ => match p, q with | .int _ a, .int _ b => (b - a).toNat | _, _ => 0)
  case atStart => exact ⟨0, l.length, rfl, rfl, Nat.zero_le _, hle, Nat.le_refl _, rfl⟩
  case round =>
    obtain ⟨lo, hi, rfl, rfl, hlo, hhi, hin, rfl⟩ := hrel
    by_cases hlt : lo < hi
    · have hx := List.getElem?_eq_getElem (show (lo + hi) / 2 < l.length by omega)
      generalize l[(lo + hi) / 2] = y at *
      have hy := (show ∀ (m : Nat) (y : Int), l[m]? = some y → (y < x ↔ m < k) from hiff) _ _ hx
      obtain ⟨a, rfl, hcy, _⟩ := hc _ _ hx
      clear hx hc
      by_cases hyx : y < x
      · have hmk := hy.1 hyx
        clear hy
        go_wp2_with (first | (go_at_call 125; with_reducible refine (hless _ _).mono ?_; rintro e w' ⟨rfl, rfl⟩))
        refine ⟨⟨(lo + hi) / 2 + 1, hi, by rw [show ((lo : Int) + (hi : Int)) / 2 + 1 = (((lo + hi) / 2 + 1 : Nat) : Int) by omega], rfl, by omega, hhi, hin, by first | rfl | trivial⟩, ?_⟩
        simp only; omega
      · have hmk := mt hy.2 hyx
        clear hy
        go_wp2_with (first | (go_at_call 125; with_reducible refine (hless _ _).mono ?_; rintro e w' ⟨rfl, rfl⟩))
        refine ⟨⟨lo, (lo + hi) / 2, rfl, by rw [show ((lo : Int) + (hi : Int)) / 2 = (((lo + hi) / 2 : Nat) : Int) by omega], hlo, by omega, by omega, by first | rfl | trivial⟩, ?_⟩
        simp only; omega
    · obtain rfl : k = lo := by omega
      obtain rfl : k = hi := by omega
      by_cases hn : k < l.length
      · have hx := List.getElem?_eq_getElem hn
        generalize l[k] = y at *
        have hy := (show ∀ y, l[k]? = some y → l.contains x = decide (y = x) from hsome) _ hx
        obtain ⟨a, rfl, hcy, _⟩ := hc _ _ hx
        have hQ : Hid (Q = decide (y = x)) := by show _ = _; rw [← hy]; exact hQ
        clear hx hc hy hlo hhi
        by_cases hyx : y = x
        · have hQ : Hid (Q = true) := by show _ = _; rw [show Q = _ from hQ]; simp [hyx]
          go_wp2_with (first | (go_at_call 126; with_reducible refine (hnan _ _).mono ?_; rintro e w' ⟨rfl, rfl⟩))
          go_ret2
          exact ⟨by rw [show Q = true from hQ]; first | rfl | simp [*], rfl⟩
        · have hQ : Hid (Q = false) := by show _ = _; rw [show Q = _ from hQ]; simp [hyx]
          go_wp2_with (first | (go_at_call 126; with_reducible refine (hnan _ _).mono ?_; rintro e w' ⟨rfl, rfl⟩))
          go_ret2
          exact ⟨by rw [show Q = false from hQ]; first | rfl | simp [*], rfl⟩
      · have hQ : Hid (Q = false) := by show _ = _; rw [show Q = _ from hQ]; exact (show l.length ≤ k → l.contains x = false from hnone) (by omega)
        clear hc hlo hhi
        go_wp2_with (first | (go_at_call 126; with_reducible refine (hnan _ _).mono ?_; rintro e w' ⟨rfl, rfl⟩))
        go_ret2
        exact ⟨by rw [show Q = false from hQ]; first | rfl | simp [*], rfl⟩
theorem same_lists (la lb : List Int) (va vb : Value) (hl : la.length ≤ 1099511627776) (w : World) (ha : Nums .i64 w va la) (hb : Nums .i64 w vb lb) :
    Calls Tryz.prog 98 #[va, vb] w fun e w' => e = .returned (.bool (decide (la = lb))) ∧ Below w.heap.size w w' := by
  obtain ⟨A, ca, rfl, _, hca⟩ := ha
  obtain ⟨B, cb, rfl, _, hcb⟩ := hb
  by_cases hL : la.length = lb.length
  · rw [← hL]
    go_enter Tryz.func98, Tryz.ntmps98
    go_wp2
    go_loopw [5] (fun i wr => ∃ k : Nat, k ≤ la.length ∧ i = .int .i64 k ∧ Below w.heap.size w wr ∧ Hid (∀ j, j < k → la[j]? = lb[j]?))
      (fun i _ => match i with | .int _ q => la.length - q.toNat | _ => 0)
    case atStart => exact ⟨0, Nat.zero_le _, rfl, Below.refl _ _, fun j h => by omega⟩
    case round =>
      obtain ⟨k, hk, rfl, hbr, hall⟩ := hrel
      by_cases hkl : k < la.length
      · have hx := List.getElem?_eq_getElem hkl
        have hy := List.getElem?_eq_getElem (show k < lb.length by omega)
        generalize la[k] = x at *
        generalize lb[k] = y at *
        obtain ⟨a, rfl, ha1, ha2⟩ := hca k x hx
        obtain ⟨b, rfl, hb1, hb2⟩ := hcb k y hy
        have hcx := (hbr.cell ha2).trans ha1
        have hcy := (hbr.cell hb2).trans hb1
        clear hca hcb ha1 hb1 ha2 hb2
        have b0 : (0 : Int) ≤ (k : Int) := by omega
        have b1 : (k : Int) < (la.length : Int) := by omega
        by_cases hxy : x = y
        · subst hxy
          have hx := hid hx
          have hy := hid hy
          go_wp2
          go_quiet (fail)
          go_wp2
          refine ⟨⟨k + 1, by omega, by go_num, drewN_below hbr nq, fun j hj => ?_⟩, ?_⟩
          · rcases Nat.lt_or_ge j k with h | h
            · exact hall j h
            · obtain rfl : j = k := by omega
              exact Eq.trans hx (Eq.symm hy)
          · simp only; omega
        · have hne : decide (la = lb) = false := decide_eq_false (fun h => by rw [h, hy] at hx; exact hxy (Option.some.inj hx).symm)
          have hxb : (x != y) = true := by simpa using hxy
          have hne2 := hid hne
          clear hne hx hy
          go_wp2
          go_quiet (fail)
          go_wp2
          go_ret
          exact ⟨ret_bool (Eq.symm hne2), drewN_below hbr nq⟩
      · have he : la = lb := by
          apply List.ext_getElem?
          intro j
          rcases Nat.lt_or_ge j la.length with h | h
          · exact hall j (by omega)
          · rw [List.getElem?_eq_none h, List.getElem?_eq_none (by omega)]
        clear hca hcb
        go_wp2
        go_ret
        exact ⟨ret_bool (by rw [decide_eq_true he]), hbr⟩
  · have hne : decide (la = lb) = false := decide_eq_false (fun h => hL (by rw [h]))
    have hLi : ((la.length : Int) != (lb.length : Int)) = true := by simp; omega
    rw [hne]
    clear hne hca hcb
    go_enter Tryz.func98, Tryz.ntmps98
    go_wp2
    go_ret
    exact ⟨rfl, Below.refl _ _⟩
end Go.Proofs.YthpnddgfgpacpaaGreat
