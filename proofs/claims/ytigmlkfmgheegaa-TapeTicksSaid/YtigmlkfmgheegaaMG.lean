import Derived.Test.YtigmlkfmgheegaaMeA
import Derived.Test.YtigmlkfmgheegaaProg
import Derived.Test.YtigmlkfmgheegaaBits
import Derived.Test.YtigmlkfmgheegaaDvB
import Derived.Test.YtigmlkfmgheegaaReg
import Derived.WalkKit
import Derived.WalkSpells
import Derived.WalkLawsBesides
import Derived.Deep.RegionHeld3
import Derived.Deep.DeepCutAuto
import Derived.Deep.QuietTactic
import Derived.BigQuiet
import Derived.KernelRfl
import Derived.Test.YtigmlkfmgheegaaNums
import Derived.Deep.Draws
/-
  Where a search in an ascending list ends, plain. No condition.
-/
namespace Go.Proofs.Ytigmlkfmgheegaa
set_option linter.unusedSimpArgs false
set_option linter.unusedVariables false

/-- How many elements are less. -/
def lowN (l : List Int) (x : Int) : Nat := l.countP (fun y => decide (y < x))
theorem low_lt {a x : Int} {r : List Int} (h : a < x) : lowN (a :: r) x = lowN r x + 1 := by
  unfold lowN; rw [List.countP_cons, if_pos (by simpa using h)]
theorem low_ge {a x : Int} {r : List Int} (hs : (a :: r).Pairwise (· < ·)) (h : ¬ a < x) : lowN (a :: r) x = 0 := by
  unfold lowN
  rw [List.countP_eq_zero]
  intro y hy
  rw [List.pairwise_cons] at hs
  rcases List.mem_cons.1 hy with rfl | hy
  · simpa using h
  · have := hs.1 y hy
    simp; omega
theorem low_le (x : Int) (l : List Int) : lowN l x ≤ l.length := List.countP_le_length
theorem low_iff {x : Int} : ∀ (l : List Int), l.Pairwise (· < ·) → ∀ (m : Nat) (y : Int), l[m]? = some y → (y < x ↔ m < lowN l x)
  | [], _, m, y, h => by simp at h
  | a :: r, hs, 0, y, h => by
    obtain rfl : a = y := by simpa using h
    by_cases hax : a < x
    · rw [low_lt hax]; simp [hax]
    · rw [low_ge hs hax]; simp [hax]
  | a :: r, hs, m + 1, y, h => by
    have hs' := List.pairwise_cons.1 hs
    have h' : r[m]? = some y := by simpa using h
    by_cases hax : a < x
    · rw [low_lt hax, low_iff r hs'.2 m y h']; omega
    · have := hs'.1 y (List.mem_of_getElem? h')
      rw [low_ge hs hax]; omega
theorem low_some {x y : Int} : ∀ (l : List Int), l.Pairwise (· < ·) → l[lowN l x]? = some y → l.contains x = decide (y = x)
  | [], _, h => by simp at h
  | a :: r, hs, h => by
    have hs' := List.pairwise_cons.1 hs
    rw [List.contains_cons]
    by_cases hax : a < x
    · rw [low_lt hax] at h
      have hne : (x == a) = false := by simp; omega
      rw [hne, Bool.false_or]
      exact low_some r hs'.2 (by simpa using h)
    · rw [low_ge hs hax] at h
      obtain rfl : a = y := by simpa using h
      by_cases e : a = x
      · simp [e]
      · have hr : r.contains x = false := by
          cases q : r.contains x
          · rfl
          · have := hs'.1 x (List.contains_iff_mem.1 q); omega
        rw [hr, decide_eq_false e]
        simp
        omega
theorem low_none {x : Int} : ∀ (l : List Int), l.Pairwise (· < ·) → l.length ≤ lowN l x → l.contains x = false
  | [], _, _ => rfl
  | a :: r, hs, h => by
    have hs' := List.pairwise_cons.1 hs
    by_cases hax : a < x
    · rw [low_lt hax] at h
      have hne : (x == a) = false := by simp; omega
      rw [List.contains_cons, hne, Bool.false_or]
      exact low_none r hs'.2 (by simpa using h)
    · rw [low_ge hs hax] at h
      simp at h
end Go.Proofs.Ytigmlkfmgheegaa

/-
  Walks over the calls of package memory and of its reference that only reckon: sizes, addresses, ranges. Condition: lists have at most 2^40 elements.
-/
namespace Go.Proofs.Ytigmlkfmgheegaa
open Go.RowKit
set_option linter.unusedSimpArgs false
set_option maxHeartbeats 1000000

theorem ret_bool {a b : Bool} (h : a = b) : Ending.returned (.bool a) = .returned (.bool b) := by rw [h]
theorem ret_int {k : IntKind} {a b : Int} (h : a = b) : Ending.returned (.int k a) = .returned (.int k b) := by rw [h]

attribute [local irreducible] wpQuiet
theorem drewN_below {B : Nat} {a w : World} (h : Below B a w) (q : Nat) : Below B a (w.drewN q) := ⟨h.os, h.tape, h.output, h.size, h.block⟩

theorem okS_in {n : Int} (h1 : 256 ≤ n) (h2 : n ≤ 32768) (h3 : n % 64 = 0) : okS n = true := by simp [okS, h1, h2, h3]
theorem okS_out {n : Int} (h : ¬(256 ≤ n ∧ n ≤ 32768 ∧ n % 64 = 0)) : okS n = false := by
  cases e : okS n
  · rfl
  · exact absurd (by simpa [okS] using e) h
theorem okS_iff {n : Int} : okS n = true ↔ 256 ≤ n ∧ n ≤ 32768 ∧ n % 64 = 0 := by simp [okS]

theorem allowed_any (n : Int) (w : World) : Calls Try.prog 56 #[.int .i64 n] w fun e w' => e = .returned (.bool (okS n)) ∧ w = w' := by
  by_cases h1 : 256 ≤ n
  · by_cases h2 : n ≤ 32768
    · have h0 : 0 ≤ n := by omega
      by_cases h3 : n % 64 = 0
      · rw [okS_in h1 h2 h3]
        go_enter Try.func56, Try.ntmps56
        go_wp2
        go_ret
        exact ⟨rfl, rfl⟩
      · rw [okS_out (fun k => h3 k.2.2)]
        go_enter Try.func56, Try.ntmps56
        go_wp2
        go_ret
        exact ⟨ret_bool (by simp [h3]), rfl⟩
    · rw [okS_out (fun k => h2 k.2.1)]
      go_enter Try.func56, Try.ntmps56
      go_wp2
      go_ret
      exact ⟨rfl, rfl⟩
  · rw [okS_out (fun k => h1 k.1)]
    go_enter Try.func56, Try.ntmps56
    go_wp2
    go_ret
    exact ⟨rfl, rfl⟩

theorem size_any (n : Int) (w : World) : Calls Try.prog 65 #[.int .i64 n] w fun e w' => e = .returned (.bool (okS n)) ∧ w = w' := by
  by_cases h1 : 256 ≤ n
  · by_cases h2 : n ≤ 32768
    · have h0 : 0 ≤ n := by omega
      by_cases h3 : n % 64 = 0
      · rw [okS_in h1 h2 h3]
        go_enter Try.func65, Try.ntmps65
        go_wp2
        go_ret
        exact ⟨rfl, rfl⟩
      · rw [okS_out (fun k => h3 k.2.2)]
        go_enter Try.func65, Try.ntmps65
        go_wp2
        go_ret
        exact ⟨ret_bool (by simp [h3]), rfl⟩
    · rw [okS_out (fun k => h2 k.2.1)]
      go_enter Try.func65, Try.ntmps65
      go_wp2
      go_ret
      exact ⟨rfl, rfl⟩
  · rw [okS_out (fun k => h1 k.1)]
    go_enter Try.func65, Try.ntmps65
    go_wp2
    go_ret
    exact ⟨rfl, rfl⟩

theorem sizeof_any (A : Option Addr) (k c : Nat) (hk : k ≤ 1099511627776) (w : World) : Calls Try.prog 57 #[.slice A k c] w fun e w' => e = .returned (.int .i64 (2 * (k : Int))) ∧ w = w' := by
  go_enter Try.func57, Try.ntmps57
  go_wp2
  go_ret
  exact ⟨rfl, rfl⟩

theorem tmod2 (n : Int) : (n.tmod 2 = 0) = (n % 2 = 0) := by
  apply propext
  have := Int.tmod_eq_emod (a := n) (b := 2)
  constructor <;> intro h <;> split at this <;> omega
theorem odd_any (n : Int) (w : World) : Calls Try.prog 75 #[.int .i64 n] w fun e w' => e = .returned (.bool (!decide (n % 2 = 0))) ∧ w = w' := by
  have h := tmod2 n
  by_cases h2 : n % 2 = 0
  · have h3 : n.tmod 2 = 0 := by rw [h]; exact h2
    rw [decide_eq_true h2]
    go_enter Try.func75, Try.ntmps75
    go_wp2
    go_ret
    exact ⟨ret_bool (by simp [h3]), rfl⟩
  · have h3 : ¬ n.tmod 2 = 0 := by rw [h]; exact h2
    rw [decide_eq_false h2]
    go_enter Try.func75, Try.ntmps75
    go_wp2
    go_ret
    exact ⟨ret_bool (by simp [h3]), rfl⟩

theorem shift_any (a : Nat) (h1 : a ≤ 4611686018427387904) (w : World) : Calls Try.prog 76 #[.int .i64 (a : Int)] w fun e w' => e = .returned (.int .i64 ((a : Int) % 2 * 8)) ∧ w = w' := by
  go_enter Try.func76, Try.ntmps76
  go_wp2
  go_ret
  exact ⟨rfl, rfl⟩

/-- Is it the address of a word? -/
def wwP (n a : Int) : Bool := accP n a false
theorem wwP_eq (n a : Int) : wwP n a = (decide (a % 2 = 0) && (decide (0 ≤ a) && decide (a < n))) := by simp [wwP, accP]
theorem within_any (A : Option Addr) (k c : Nat) (hk : k ≤ 1099511627776) (a : Int) (w : World) : Calls Try.prog 58 #[.slice A k c, .int .i64 a] w fun e w' => e = .returned (.bool (wwP (2 * (k : Int)) a)) ∧ w = w' := by
  have hs := fun w => sizeof_any A k c hk w
  have ho := fun w => odd_any a w
  rw [wwP_eq]
  by_cases h1 : a % 2 = 0
  · rw [decide_eq_true h1] at ho ⊢
    by_cases h2 : 0 ≤ a
    · rw [decide_eq_true h2]
      by_cases h3 : a < 2 * (k : Int)
      · rw [decide_eq_true h3]
        clear h1
        go_enter Try.func58, Try.ntmps58
        go_wp2_with (first | (go_at_call 75; with_reducible refine (ho _).mono ?_; rintro e w' ⟨rfl, rfl⟩) | (go_at_call 57; with_reducible refine (hs _).mono ?_; rintro e w' ⟨rfl, rfl⟩))
        go_ret
        exact ⟨rfl, rfl⟩
      · rw [decide_eq_false h3]
        clear h1
        go_enter Try.func58, Try.ntmps58
        go_wp2_with (first | (go_at_call 75; with_reducible refine (ho _).mono ?_; rintro e w' ⟨rfl, rfl⟩) | (go_at_call 57; with_reducible refine (hs _).mono ?_; rintro e w' ⟨rfl, rfl⟩))
        go_ret
        exact ⟨ret_bool (by simp [h3]), rfl⟩
    · rw [decide_eq_false h2]
      clear h1
      go_enter Try.func58, Try.ntmps58
      go_wp2_with (first | (go_at_call 75; with_reducible refine (ho _).mono ?_; rintro e w' ⟨rfl, rfl⟩) | (go_at_call 57; with_reducible refine (hs _).mono ?_; rintro e w' ⟨rfl, rfl⟩))
      go_ret
      exact ⟨rfl, rfl⟩
  · rw [decide_eq_false h1] at ho ⊢
    clear h1
    go_enter Try.func58, Try.ntmps58
    go_wp2_with (first | (go_at_call 75; with_reducible refine (ho _).mono ?_; rintro e w' ⟨rfl, rfl⟩) | (go_at_call 57; with_reducible refine (hs _).mono ?_; rintro e w' ⟨rfl, rfl⟩))
    go_ret
    exact ⟨rfl, rfl⟩

theorem range_any (A : Option Addr) (k c : Nat) (hk : k ≤ 1099511627776) (a n : Int) (ha : a ≤ 9223372036854775807) (w : World) : Calls Try.prog 59 #[.slice A k c, .int .i64 a, .int .i64 n] w fun e w' => e = .returned (.bool (inR (2 * (k : Int)) a n)) ∧ w = w' := by
  have hs := fun w => sizeof_any A k c hk w
  unfold inR
  by_cases h1 : 0 ≤ a
  · rw [decide_eq_true h1]
    by_cases h2 : 0 ≤ n
    · rw [decide_eq_true h2]
      by_cases h3 : n ≤ 2 * (k : Int) - a
      · rw [decide_eq_true h3]
        go_enter Try.func59, Try.ntmps59
        go_wp2_with (first | (go_at_call 57; with_reducible refine (hs _).mono ?_; rintro e w' ⟨rfl, rfl⟩))
        go_ret
        exact ⟨rfl, rfl⟩
      · rw [decide_eq_false h3]
        go_enter Try.func59, Try.ntmps59
        go_wp2_with (first | (go_at_call 57; with_reducible refine (hs _).mono ?_; rintro e w' ⟨rfl, rfl⟩))
        go_ret
        exact ⟨ret_bool (by simp [h3]), rfl⟩
    · rw [decide_eq_false h2]
      go_enter Try.func59, Try.ntmps59
      go_wp2_with (first | (go_at_call 57; with_reducible refine (hs _).mono ?_; rintro e w' ⟨rfl, rfl⟩))
      go_ret
      exact ⟨rfl, rfl⟩
  · rw [decide_eq_false h1]
    go_enter Try.func59, Try.ntmps59
    go_wp2_with (first | (go_at_call 57; with_reducible refine (hs _).mono ?_; rintro e w' ⟨rfl, rfl⟩))
    go_ret
    exact ⟨rfl, rfl⟩

theorem rwithin_any (A : Option Addr) (k c : Nat) (hk : k ≤ 1099511627776) (a n : Int) (ha : a ≤ 9223372036854775807) (w : World) : Calls Try.prog 82 #[.slice A k c, .int .i64 a, .int .i64 n] w fun e w' => e = .returned (.bool (inR (2 * (k : Int)) a n)) ∧ w = w' := by
  unfold inR
  by_cases h1 : 0 ≤ a
  · rw [decide_eq_true h1]
    by_cases h2 : 0 ≤ n
    · rw [decide_eq_true h2]
      by_cases h3 : n ≤ 2 * (k : Int) - a
      · rw [decide_eq_true h3]
        have h4 : a ≤ 2 * (k : Int) := by omega
        go_enter Try.func82, Try.ntmps82
        go_wp2
        go_ret
        exact ⟨rfl, rfl⟩
      · rw [decide_eq_false h3]
        by_cases h4 : a ≤ 2 * (k : Int)
        · go_enter Try.func82, Try.ntmps82
          go_wp2
          go_ret
          exact ⟨ret_bool (by simp [h3]), rfl⟩
        · go_enter Try.func82, Try.ntmps82
          go_wp2
          go_ret
          exact ⟨rfl, rfl⟩
    · rw [decide_eq_false h2]
      go_enter Try.func82, Try.ntmps82
      go_wp2
      go_ret
      exact ⟨rfl, rfl⟩
  · rw [decide_eq_false h1]
    go_enter Try.func82, Try.ntmps82
    go_wp2
    go_ret
    exact ⟨rfl, rfl⟩

theorem writeT_acc {n a : Int} {b : Bool} (h : accP n a b = true) : writeT n a b = 0 := if_pos h
theorem writeT_no {n a : Int} {b : Bool} (h : accP n a b = false) : writeT n a b = 1 := if_neg (by rw [h]; decide)
end Go.Proofs.Ytigmlkfmgheegaa

/-
  Walks over the calls of package memory and of its reference that read a list of integers: a byte, an element searched, two lists compared, valid memories. Condition: lists have at most 2^40 elements; the searched list ascends.
-/
namespace Go.Proofs.Ytigmlkfmgheegaa
open Go.RowKit
set_option linter.unusedSimpArgs false
set_option linter.unusedVariables false
set_option maxHeartbeats 1000000
attribute [local irreducible] wpQuiet

theorem quiet_eq {P : Program} {f : FuncId} {args : Array Value} {w : World} {n : Nat} {v : Value}
    (h : Calls P f args (w.drewN n) fun e w' => e = .returned v ∧ w.drewN n = w') : Calls P f args (w.drewN n) fun e w'' => e = .returned v ∧ ∃ m, w'' = w.drewN m :=
  h.mono fun _ _ ⟨he, hm⟩ => ⟨he, n, hm.symm⟩

/-! ### A byte -/
theorem byte_even {l : List Int} {a : Nat} {x : Int} (h : a % 2 = 0) (hx : l[a / 2]? = some x) : byteN l a = x % 256 := by
  unfold byteN; rw [List.getD_eq_getElem?_getD, hx, h]; simp
theorem byte_odd {l : List Int} {a : Nat} {x : Int} (h : a % 2 = 1) (hx : l[a / 2]? = some x) : byteN l a = x / 256 % 256 := by
  unfold byteN; rw [List.getD_eq_getElem?_getD, hx, h]; simp
theorem byteat_any (v : Value) (l : List Int) (hl : l.length ≤ 1099511627776) (a : Nat) (ha : a < 2 * l.length) (w : World) (hv : Nums .i64 w v l) :
    Calls Try.prog 60 #[v, .int .i64 (a : Int)] w fun e w' => e = .returned (.int .i64 (byteN l a)) ∧ Below w.heap.size w w' := by
  obtain ⟨A, c, rfl, _, hc⟩ := hv
  have hk : a / 2 < l.length := by omega
  have hx := List.getElem?_eq_getElem hk
  have e0 := fun h => byte_even (a := a) h hx
  have e1 := fun h => byte_odd (a := a) h hx
  generalize l[a / 2] = x at *
  obtain ⟨p, rfl, hcx, _⟩ := hc _ _ hx
  have hsh := fun w => shift_any a (by omega) w
  have A0 := a255 x
  have A1 := a255 (x / 256)
  have hi : (a : Int) / 2 = ((a / 2 : Nat) : Int) := by omega
  clear hc hx
  rcases Nat.mod_two_eq_zero_or_one a with h | h
  · have hm : (a : Int) % 2 * 8 = 0 := by omega
    rw [hm] at hsh
    rw [e0 h]
    clear e0 e1 h hm A1
    generalize x % 256 = r at *
    generalize hj : a / 2 = j at *
    have hj := hid hj
    go_enter Try.func60, Try.ntmps60
    go_wp2
    go_quiet ((first | (go_at_call 76; exact quiet_eq (hsh _))))
    go_wp2
    go_ret
    exact ⟨rfl, drewN_below (Below.refl _ _) _⟩
  · have hm : (a : Int) % 2 * 8 = 8 := by omega
    rw [hm] at hsh
    rw [e1 h]
    clear e0 e1 h hm A0
    generalize x / 256 % 256 = r at *
    generalize hj : a / 2 = j at *
    have hj := hid hj
    go_enter Try.func60, Try.ntmps60
    go_wp2
    go_quiet ((first | (go_at_call 76; exact quiet_eq (hsh _))))
    go_wp2
    go_ret
    exact ⟨rfl, drewN_below (Below.refl _ _) _⟩
theorem rbyte_any (v : Value) (l : List Int) (hl : l.length ≤ 1099511627776) (a : Nat) (ha : a < 2 * l.length) (w : World) (hv : Nums .i64 w v l) :
    Calls Try.prog 85 #[v, .int .i64 (a : Int)] w fun e w' => e = .returned (.int .i64 (byteN l a)) ∧ Below w.heap.size w w' := by
  obtain ⟨A, c, rfl, _, hc⟩ := hv
  have hk : a / 2 < l.length := by omega
  have hx := List.getElem?_eq_getElem hk
  have e0 := fun h => byte_even (a := a) h hx
  have e1 := fun h => byte_odd (a := a) h hx
  generalize l[a / 2] = x at *
  obtain ⟨p, rfl, hcx, _⟩ := hc _ _ hx
  have A0 := a255 x
  have A1 := a255 (x / 256)
  have hi : (a : Int) / 2 = ((a / 2 : Nat) : Int) := by omega
  clear hc hx
  rcases Nat.mod_two_eq_zero_or_one a with h | h
  · have hm : (a : Int) % 2 = 0 := by omega
    rw [e0 h]
    clear e0 e1 h A1
    generalize x % 256 = r at *
    generalize hj : a / 2 = j at *
    have hj := hid hj
    go_enter Try.func85, Try.ntmps85
    go_wp2
    go_ret
    exact ⟨rfl, Below.refl _ _⟩
  · have hm : (a : Int) % 2 = 1 := by omega
    rw [e1 h]
    clear e0 e1 h A0
    generalize x / 256 % 256 = r at *
    generalize hj : a / 2 = j at *
    have hj := hid hj
    go_enter Try.func85, Try.ntmps85
    go_wp2
    go_ret
    exact ⟨rfl, Below.refl _ _⟩

/-! ### The search -/
theorem contains_drop {l : List Int} {k : Nat} {y : Int} (h : l[k]? = some y) (x : Int) : (l.drop k).contains x = (decide (y = x) || (l.drop (k + 1)).contains x) := by
  have hk : k < l.length := (List.getElem?_eq_some_iff.1 h).1
  rw [List.drop_eq_getElem_cons hk, (List.getElem?_eq_some_iff.1 h).2, List.contains_cons]
  congr 1
  rw [Bool.eq_iff_iff]; simp; exact eq_comm
theorem has_any (v : Value) (l : List Int) (hl : l.length ≤ 1099511627776) (x : Int) (w : World) (hv : Nums .i64 w v l) :
    Calls Try.prog 86 #[v, .int .i64 x] w fun e w' => e = .returned (.bool (l.contains x)) ∧ w = w' := by
  obtain ⟨A, c, rfl, _, hc⟩ := hv
  obtain ⟨Q, hQ⟩ : ∃ Q, Hid (Q = l.contains x) := ⟨_, rfl⟩
  rw [← show Q = l.contains x from hQ]
  go_enter Try.func86, Try.ntmps86
  go_wp2
  go_loopw [5] (fun i wr => ∃ k : Nat, k ≤ l.length ∧ i = .int .i64 k ∧ wr = w ∧ Hid (Q = (l.drop k).contains x))
    (fun i _ => match i with | .int _ q => l.length - q.toNat | _ => 0)
  case atStart => exact ⟨0, Nat.zero_le _, rfl, rfl, by rw [List.drop_zero]; exact hQ⟩
  case round =>
    clear hQ
    obtain ⟨k, hk, rfl, rfl, hQ⟩ := hrel
    by_cases hkl : k < l.length
    · have hx := List.getElem?_eq_getElem hkl
      generalize l[k] = y at *
      obtain ⟨a, rfl, hcy, _⟩ := hc k y hx
      have hd := hid (contains_drop hx x)
      clear hx hc
      by_cases hyx : y = x
      · subst hyx
        go_wp2
        go_ret
        exact ⟨ret_bool (by rw [show Q = _ from hQ, show _ = _ from hd]; simp), rfl⟩
      · go_wp2
        refine ⟨⟨k + 1, by omega, by go_num, by first | rfl | trivial, ?_⟩, by simp only; omega⟩
        show Q = _
        rw [show Q = _ from hQ, show _ = _ from hd]; simp [hyx]
    · obtain rfl : k = l.length := by omega
      clear hc
      go_wp2
      go_ret
      exact ⟨ret_bool (by rw [show Q = _ from hQ, List.drop_length]; rfl), rfl⟩

/-! ### Two lists -/
theorem same_lists (la lb : List Int) (va vb : Value) (hl : la.length ≤ 1099511627776) (w : World) (ha : Nums .i64 w va la) (hb : Nums .i64 w vb lb) :
    Calls Try.prog 31 #[va, vb] w fun e w' => e = .returned (.bool (decide (la = lb))) ∧ Below w.heap.size w w' := by
  obtain ⟨A, ca, rfl, _, hca⟩ := ha
  obtain ⟨B, cb, rfl, _, hcb⟩ := hb
  by_cases hL : la.length = lb.length
  · rw [← hL]
    go_enter Try.func31, Try.ntmps31
    go_wp2
    go_loopw [5] (fun i wr => ∃ k : Nat, k ≤ la.length ∧ i = .int .i64 k ∧ Below w.heap.size w wr ∧ Hid (∀ j, j < k → la[j]? = lb[j]?))
      (fun i _ => match i with | .int _ q => la.length - q.toNat | _ => 0)
    case atStart => exact ⟨0, Nat.zero_le _, rfl, Below.refl _ _, fun j h => by omega⟩
    case round =>
      obtain ⟨k, hk, rfl, hbr, hall⟩ := hrel
      by_cases hkl : k < la.length
      · have hx := List.getElem?_eq_getElem hkl
        have hy := List.getElem?_eq_getElem (show k < lb.length by omega)
        generalize la[k] = x at *
        generalize lb[k] = y at *
        obtain ⟨a, rfl, ha1, ha2⟩ := hca k x hx
        obtain ⟨b, rfl, hb1, hb2⟩ := hcb k y hy
        have hcx := (hbr.cell ha2).trans ha1
        have hcy := (hbr.cell hb2).trans hb1
        clear hca hcb ha1 hb1 ha2 hb2
        have b0 : (0 : Int) ≤ (k : Int) := by omega
        have b1 : (k : Int) < (la.length : Int) := by omega
        by_cases hxy : x = y
        · subst hxy
          have hx := hid hx
          have hy := hid hy
          go_wp2
          go_quiet (fail)
          go_wp2
          refine ⟨⟨k + 1, by omega, by go_num, drewN_below hbr nq, fun j hj => ?_⟩, ?_⟩
          · rcases Nat.lt_or_ge j k with h | h
            · exact hall j h
            · obtain rfl : j = k := by omega
              exact Eq.trans hx (Eq.symm hy)
          · simp only; omega
        · have hne : decide (la = lb) = false := decide_eq_false (fun h => by rw [h, hy] at hx; exact hxy (Option.some.inj hx).symm)
          have hxb : (x != y) = true := by simpa using hxy
          have hne2 := hid hne
          clear hne hx hy
          go_wp2
          go_quiet (fail)
          go_wp2
          go_ret
          exact ⟨ret_bool (Eq.symm hne2), drewN_below hbr nq⟩
      · have he : la = lb := by
          apply List.ext_getElem?
          intro j
          rcases Nat.lt_or_ge j la.length with h | h
          · exact hall j (by omega)
          · rw [List.getElem?_eq_none h, List.getElem?_eq_none (by omega)]
        clear hca hcb
        go_wp2
        go_ret
        exact ⟨ret_bool (by rw [decide_eq_true he]), hbr⟩
  · have hne : decide (la = lb) = false := decide_eq_false (fun h => hL (by rw [h]))
    have hLi : ((la.length : Int) != (lb.length : Int)) = true := by simp; omega
    rw [hne]
    clear hne hca hcb
    go_enter Try.func31, Try.ntmps31
    go_wp2
    go_ret
    exact ⟨rfl, Below.refl _ _⟩
end Go.Proofs.Ytigmlkfmgheegaa

/-
  Walks over Right and Read of package memory and of its reference. Condition: lists have at most 2^40 elements; for Read, the bad addresses ascend.
-/
namespace Go.Proofs.Ytigmlkfmgheegaa
open Go.RowKit
set_option linter.unusedSimpArgs false
set_option linter.unusedVariables false
set_option maxHeartbeats 1000000
attribute [local irreducible] wpQuiet

theorem words_drop {l : List Int} {k : Nat} {x : Int} (h : l[k]? = some x) : wordsB (l.drop k) = ((decide (0 ≤ x) && decide (x ≤ 65535)) && wordsB (l.drop (k + 1))) := by
  have hk : k < l.length := (List.getElem?_eq_some_iff.1 h).1
  rw [List.drop_eq_getElem_cons hk, (List.getElem?_eq_some_iff.1 h).2]; rfl
theorem bad_drop {l : List Int} {k : Nat} {x : Int} (n low : Int) (h : l[k]? = some x) : badB n low (l.drop k) = ((decide (low ≤ x) && (decide (x % 2 = 0) && decide (x < n))) && badB n (x + 2) (l.drop (k + 1))) := by
  have hk : k < l.length := (List.getElem?_eq_some_iff.1 h).1
  rw [List.drop_eq_getElem_cons hk, (List.getElem?_eq_some_iff.1 h).2]; rfl
theorem right_no {mem bad : List Int} (h : okS (2 * (mem.length : Int)) = false) : rightP mem bad = false := by unfold rightP; rw [h]; rfl
theorem right_ok {mem bad : List Int} (h : okS (2 * (mem.length : Int)) = true) : rightP mem bad = (wordsB mem && badB (2 * (mem.length : Int)) 0 bad) := by unfold rightP; rw [h]; rfl

theorem right_any (vm vb : Value) (mem bad : List Int) (hl : mem.length ≤ 1099511627776) (hl2 : bad.length ≤ 1099511627776) (w : World) (hm : Nums .i64 w vm mem) (hb : Nums .i64 w vb bad) :
    Calls Try.prog 32 #[vm, vb] w fun e w' => e = .returned (.bool (rightP mem bad)) ∧ w = w' := by
  obtain ⟨A, ca, rfl, _, hca⟩ := hm
  obtain ⟨B, cb, rfl, _, hcb⟩ := hb
  have hsz := fun w => sizeof_any A mem.length ca hl w
  have hal := fun w => allowed_any (2 * (mem.length : Int)) w
  have hwi := fun x w => within_any A mem.length ca hl x w
  cases hq : okS (2 * (mem.length : Int))
  · rw [right_no hq]
    rw [hq] at hal
    clear hq hca hcb
    go_enter Try.func32, Try.ntmps32
    go_wp2_with (first | (go_at_call 57; with_reducible refine (hsz _).mono ?_; rintro e w' ⟨rfl, rfl⟩) | (go_at_call 56; with_reducible refine (hal _).mono ?_; rintro e w' ⟨rfl, rfl⟩))
    go_ret
    exact ⟨rfl, rfl⟩
  · obtain ⟨Q, hQ⟩ : ∃ Q, Hid (Q = rightP mem bad) := ⟨_, rfl⟩
    rw [← show Q = rightP mem bad from hQ]
    rw [right_ok hq] at hQ
    rw [hq] at hal
    clear hq
    go_enter Try.func32, Try.ntmps32
    go_wp2_with (first | (go_at_call 57; with_reducible refine (hsz _).mono ?_; rintro e w' ⟨rfl, rfl⟩) | (go_at_call 56; with_reducible refine (hal _).mono ?_; rintro e w' ⟨rfl, rfl⟩))
    go_loopw [16] (fun i wr => ∃ k : Nat, k ≤ mem.length ∧ i = .int .i64 k ∧ w = wr ∧ Hid (Q = (wordsB (mem.drop k) && badB (2 * (mem.length : Int)) 0 bad)))
      (fun i _ => match i with | .int _ q => mem.length - q.toNat | _ => 0)
    case atStart => exact ⟨0, Nat.zero_le _, rfl, rfl, by rw [List.drop_zero]; exact hQ⟩
    case round =>
      clear hQ
      obtain ⟨k, hk, rfl, rfl, hQ⟩ := hrel
      by_cases hkl : k < mem.length
      · have hx := List.getElem?_eq_getElem hkl
        generalize mem[k] = x at *
        obtain ⟨a, rfl, hcx, _⟩ := hca k x hx
        have hd := hid (words_drop hx)
        clear hx hca hcb
        by_cases h1 : 0 ≤ x
        · by_cases h2 : x ≤ 65535
          · go_wp2
            refine ⟨⟨k + 1, by omega, by go_num, by first | rfl | trivial, ?_⟩, by simp only; omega⟩
            show Q = _
            rw [show Q = _ from hQ, show _ = _ from hd]; simp [h1, h2]
          · go_wp2
            go_ret
            exact ⟨ret_bool (by rw [show Q = _ from hQ, show _ = _ from hd, show decide (x ≤ 65535) = false from decide_eq_false (by omega)]; simp), rfl⟩
        · go_wp2
          go_ret
          exact ⟨ret_bool (by rw [show Q = _ from hQ, show _ = _ from hd, show decide (0 ≤ x) = false from decide_eq_false (by omega)]; simp), rfl⟩
      · obtain rfl : k = mem.length := by omega
        rw [List.drop_length] at hQ
        have hQ : Hid (Q = badB (2 * (mem.length : Int)) 0 bad) := by show Q = _; rw [show Q = _ from hQ]; rfl
        clear hca
        go_wp2
        go_loopw [7, 29] (fun s i wr => ∃ (k : Nat) (low : Int), k ≤ bad.length ∧ i = .int .i64 k ∧ s = .int .i64 low ∧ 0 ≤ low ∧ w = wr ∧ Hid (Q = badB (2 * (mem.length : Int)) low (bad.drop k)))
          (fun _ i _ => match i with | .int _ q => bad.length - q.toNat | _ => 0)
        case atStart => exact ⟨0, 0, Nat.zero_le _, rfl, rfl, Int.le_refl _, rfl, by rw [List.drop_zero]; exact hQ⟩
        case round =>
          clear hQ
          obtain ⟨j, low, hj, rfl, rfl, h0, rfl, hQ⟩ := hrel
          by_cases hjl : j < bad.length
          · have hx := List.getElem?_eq_getElem hjl
            generalize bad[j] = x at *
            obtain ⟨a, rfl, hcx, _⟩ := hcb j x hx
            have hd := hid (bad_drop (2 * (mem.length : Int)) low hx)
            have hww := hid (wwP_eq (2 * (mem.length : Int)) x)
            have hwi := fun w => hwi x w
            clear hx hcb
            by_cases h1 : low ≤ x
            · have hxl : wwP (2 * (mem.length : Int)) x = true → x < 2 * (mem.length : Int) := by intro h; rw [show _ = _ from hww] at h; simp at h; omega
              have hdd : Hid (wwP (2 * (mem.length : Int)) x = (decide (x % 2 = 0) && decide (x < 2 * (mem.length : Int)))) := by show _ = _; rw [show _ = _ from hww, decide_eq_true (show 0 ≤ x by omega)]; rfl
              clear hww
              generalize wwP (2 * (mem.length : Int)) x = q at *
              cases q
              · clear hxl
                go_wp2_with (first | (go_at_call 58; with_reducible refine (hwi _).mono ?_; rintro e w' ⟨rfl, rfl⟩))
                go_ret
                exact ⟨ret_bool (by rw [show Q = _ from hQ, show _ = _ from hd, ← show false = _ from hdd]; simp), rfl⟩
              · have hxl := hxl rfl
                go_wp2_with (first | (go_at_call 58; with_reducible refine (hwi _).mono ?_; rintro e w' ⟨rfl, rfl⟩))
                refine ⟨⟨j + 1, x + 2, by omega, by go_num, rfl, by omega, by first | rfl | trivial, ?_⟩, by simp only; omega⟩
                show Q = _
                rw [show Q = _ from hQ, show _ = _ from hd, ← show true = _ from hdd, decide_eq_true h1]; rfl
            · clear hww
              go_wp2_with fail
              go_ret
              exact ⟨ret_bool (by rw [show Q = _ from hQ, show _ = _ from hd, decide_eq_false (show ¬ low ≤ x by omega)]; rfl), rfl⟩
          · obtain rfl : j = bad.length := by omega
            rw [List.drop_length] at hQ
            clear hcb
            go_wp2
            go_ret
            exact ⟨ret_bool (by rw [show Q = _ from hQ]; rfl), rfl⟩

/-- What the reference's loop over the bad addresses knows: the least address that may come next. -/
def lowP (bad : List Int) (k : Nat) (low : Int) : Prop := (k = 0 ∧ low = 0) ∨ ∃ y, 0 < k ∧ bad[k - 1]? = some y ∧ low = y + 2 ∧ 0 ≤ y ∧ y % 2 = 0
theorem rright_any (vm vb : Value) (mem bad : List Int) (hl : mem.length ≤ 1099511627776) (hl2 : bad.length ≤ 1099511627776) (w : World) (hm : Nums .i64 w vm mem) (hb : Nums .i64 w vb bad) :
    Calls Try.prog 48 #[vm, vb] w fun e w' => e = .returned (.bool (rightP mem bad)) ∧ Below w.heap.size w w' := by
  obtain ⟨A, ca, rfl, _, hca⟩ := hm
  obtain ⟨B, cb, rfl, _, hcb⟩ := hb
  have hal := fun w => size_any (2 * (mem.length : Int)) w
  cases hq : okS (2 * (mem.length : Int))
  · rw [right_no hq]
    rw [hq] at hal
    clear hq hca hcb
    go_enter Try.func48, Try.ntmps48
    go_wp2_with (first | (go_at_call 65; with_reducible refine (hal _).mono ?_; rintro e w' ⟨rfl, rfl⟩))
    go_ret
    exact ⟨rfl, Below.refl _ _⟩
  · obtain ⟨Q, hQ⟩ : ∃ Q, Hid (Q = rightP mem bad) := ⟨_, rfl⟩
    rw [← show Q = rightP mem bad from hQ]
    rw [right_ok hq] at hQ
    rw [hq] at hal
    clear hq
    go_enter Try.func48, Try.ntmps48
    go_wp2_with (first | (go_at_call 65; with_reducible refine (hal _).mono ?_; rintro e w' ⟨rfl, rfl⟩))
    go_loopw [5] (fun i wr => ∃ k : Nat, k ≤ mem.length ∧ i = .int .i64 k ∧ w = wr ∧ Hid (Q = (wordsB (mem.drop k) && badB (2 * (mem.length : Int)) 0 bad)))
      (fun i _ => match i with | .int _ q => mem.length - q.toNat | _ => 0)
    case atStart => exact ⟨0, Nat.zero_le _, rfl, rfl, by rw [List.drop_zero]; exact hQ⟩
    case round =>
      clear hQ
      obtain ⟨k, hk, rfl, rfl, hQ⟩ := hrel
      by_cases hkl : k < mem.length
      · have hx := List.getElem?_eq_getElem hkl
        generalize mem[k] = x at *
        obtain ⟨a, rfl, hcx, _⟩ := hca k x hx
        have hd := hid (words_drop hx)
        clear hx hca hcb
        by_cases h1 : 0 ≤ x
        · by_cases h2 : x ≤ 65535
          · go_wp2
            refine ⟨⟨k + 1, by omega, by go_num, by first | rfl | trivial, ?_⟩, by simp only; omega⟩
            show Q = _
            rw [show Q = _ from hQ, show _ = _ from hd]; simp [h1, h2]
          · go_wp2
            go_ret
            exact ⟨ret_bool (by rw [show Q = _ from hQ, show _ = _ from hd, show decide (x ≤ 65535) = false from decide_eq_false (by omega)]; simp), Below.refl _ _⟩
        · go_wp2
          go_ret
          exact ⟨ret_bool (by rw [show Q = _ from hQ, show _ = _ from hd, show decide (0 ≤ x) = false from decide_eq_false (by omega)]; simp), Below.refl _ _⟩
      · obtain rfl : k = mem.length := by omega
        rw [List.drop_length] at hQ
        have hQ : Hid (Q = badB (2 * (mem.length : Int)) 0 bad) := by show Q = _; rw [show Q = _ from hQ]; rfl
        clear hca
        go_wp2
        go_loopw [6] (fun i wr => ∃ (k : Nat) (low : Int), k ≤ bad.length ∧ i = .int .i64 k ∧ lowP bad k low ∧ Below w.heap.size w wr ∧ Hid (Q = badB (2 * (mem.length : Int)) low (bad.drop k)))
          (fun i _ => match i with | .int _ q => bad.length - q.toNat | _ => 0)
        case atStart => exact ⟨0, 0, Nat.zero_le _, rfl, .inl ⟨rfl, rfl⟩, Below.refl _ _, by rw [List.drop_zero]; exact hQ⟩
        case round =>
          clear hQ
          obtain ⟨j, low, hj, rfl, hlow, hbr, hQ⟩ := hrel
          by_cases hjl : j < bad.length
          · have hx := List.getElem?_eq_getElem hjl
            generalize bad[j] = x at *
            obtain ⟨a, rfl, hcx, hcl⟩ := hcb j x hx
            have hcx := (hbr.cell hcl).trans hcx
            have hd := hid (bad_drop (2 * (mem.length : Int)) low hx)
            have j0 : (0 : Int) ≤ (j : Int) := by omega
            have j1 : (j : Int) < (bad.length : Int) := by omega
            by_cases h1 : x < 0
            · have hb1 : decide (x < 0) = true := decide_eq_true h1
              have hlo : ¬ low ≤ x := by rcases hlow with ⟨_, h⟩ | ⟨y, _, _, h, _, _⟩ <;> omega
              clear hx hcb hcl hlow
              go_wp2
              go_quiet (fail)
              go_wp2
              go_ret
              exact ⟨ret_bool (by rw [show Q = _ from hQ, show _ = _ from hd, decide_eq_false (show ¬ low ≤ x by omega)]; rfl), drewN_below hbr nq⟩
            · have hb1 : decide (x < 0) = false := decide_eq_false h1
              by_cases h2 : 2 * (mem.length : Int) ≤ x
              · have hb2 : decide (2 * (mem.length : Int) ≤ x) = true := decide_eq_true h2
                have hlo : ¬ x < 2 * (mem.length : Int) := by omega
                clear hx hcb hcl hlow
                go_wp2
                go_quiet (fail)
                go_wp2
                go_ret
                exact ⟨ret_bool (by rw [show Q = _ from hQ, show _ = _ from hd, decide_eq_false (show ¬ x < 2 * (mem.length : Int) by omega)]; simp), drewN_below hbr nq⟩
              · have hb2 : decide (2 * (mem.length : Int) ≤ x) = false := decide_eq_false h2
                have h2b : decide (x < 2 * (mem.length : Int)) = true := decide_eq_true (by omega)
                have h2b := hid h2b
                by_cases h3 : x % 2 = 0
                · have hb3 : (x % 2 != 0) = false := by simpa using h3
                  have hnn : 0 ≤ x := by omega
                  rcases hlow with ⟨hj0, rfl⟩ | ⟨y, hpos, hy, rfl, hy0, hy2⟩
                  · have hlow' : lowP bad (j + 1) (x + 2) := .inr ⟨x, by omega, by rw [Nat.add_sub_cancel]; exact hx, rfl, hnn, h3⟩
                    have i0 : decide ((0 : Int) < (j : Int)) = false := decide_eq_false (by omega)
                    have i0n : decide (0 < j) = false := decide_eq_false (by omega)
                    have V : IntKind.i64.wrap (2 * (mem.length : Int)) = 2 * (mem.length : Int) := by rw [wrap_i64]; exact IntWalk.wrap64_in _ ⟨by omega, by omega⟩
                    clear hx hcb hcl hj0
                    go_wp2
                    go_quiet (fail)
                    go_wp2
                    refine ⟨⟨j + 1, x + 2, by omega, by go_num, hlow', drewN_below hbr nq, ?_⟩, by simp only; omega⟩
                    show Q = _
                    rw [show Q = _ from hQ, show _ = _ from hd, decide_eq_true h3, decide_eq_true hnn, show _ = _ from h2b]; rfl
                  · obtain ⟨i, hi⟩ : ∃ i, j - 1 = i := ⟨_, rfl⟩
                    rw [hi] at hy
                    obtain ⟨a2, ha2, hcy, hcl2⟩ := hcb i y hy
                    cases ha2
                    have hcy := (hbr.cell hcl2).trans hcy
                    have hii : (j : Int) - 1 = (i : Int) := by omega
                    have i0 : (0 : Int) < (j : Int) := by omega
                    have i1 : (i : Int) < (bad.length : Int) := by omega
                    clear hi
                    by_cases h4 : x ≤ y
                    · have hlo : ¬ y + 2 ≤ x := by omega
                      clear hx hcb hcl hcl2
                      go_wp2
                      go_quiet (fail)
                      go_wp2
                      go_ret
                      exact ⟨ret_bool (by rw [show Q = _ from hQ, show _ = _ from hd, decide_eq_false (show ¬ y + 2 ≤ x by omega)]; rfl), drewN_below hbr nq⟩
                    · have hlo : y + 2 ≤ x := by omega
                      have hlow' : lowP bad (j + 1) (x + 2) := .inr ⟨x, by omega, by rw [Nat.add_sub_cancel]; exact hx, rfl, hnn, h3⟩
                      clear hx hcb hcl hcl2
                      go_wp2
                      go_quiet (fail)
                      go_wp2
                      refine ⟨⟨j + 1, x + 2, by omega, by go_num, hlow', drewN_below hbr nq, ?_⟩, by simp only; omega⟩
                      show Q = _
                      rw [show Q = _ from hQ, show _ = _ from hd, decide_eq_true h3, decide_eq_true hlo, show _ = _ from h2b]; rfl
                · have hb3 : (x % 2 != 0) = true := by simpa using h3
                  have hnn : 0 ≤ x := by omega
                  clear hx hcb hcl hlow
                  go_wp2
                  go_quiet (fail)
                  go_wp2
                  go_ret
                  exact ⟨ret_bool (by rw [show Q = _ from hQ, show _ = _ from hd, decide_eq_false h3]; simp), drewN_below hbr nq⟩
          · obtain rfl : j = bad.length := by omega
            rw [List.drop_length] at hQ
            clear hcb hlow
            go_wp2
            go_ret
            exact ⟨ret_bool (by rw [show Q = _ from hQ]; rfl), hbr⟩

/-! ### Read -/
theorem getD_at {l : List Int} {k : Nat} {x : Int} (h : l[k]? = some x) : l.getD k 0 = x := by rw [List.getD_eq_getElem?_getD, h]; rfl
theorem readT_no {n a : Int} {bad : List Int} {b : Bool} (h : accP n a b = false) : readT n bad a b = 1 := by unfold readT; rw [h]; rfl
theorem readT_bad {n a : Int} {bad : List Int} {b : Bool} (h : accP n a b = true) (h2 : bad.contains (evenP a) = true) : readT n bad a b = 9 := by unfold readT; rw [h, h2]; rfl
theorem readT_ok {n a : Int} {bad : List Int} {b : Bool} (h : accP n a b = true) (h2 : bad.contains (evenP a) = false) : readT n bad a b = 0 := by unfold readT; rw [h, h2]; rfl
theorem readV_no {mem bad : List Int} {a : Int} {b : Bool} (h : readT (2 * (mem.length : Int)) bad a b ≠ 0) : readV mem bad a b = 0 := if_neg h
theorem readV_ok {mem bad : List Int} {a : Int} {b : Bool} (h : readT (2 * (mem.length : Int)) bad a b = 0) : readV mem bad a b = if b = true then byteN mem a.toNat else mem.getD (a.toNat / 2) 0 := if_pos h
theorem acc_rng {n a : Int} {b : Bool} (h : accP n a b = true) : 0 ≤ a ∧ a < n ∧ (b = false → a % 2 = 0) := by
  unfold accP at h
  simp only [Bool.and_eq_true, Bool.or_eq_true, decide_eq_true_eq] at h
  refine ⟨h.2.1, h.2.2, fun e => ?_⟩
  rw [e] at h
  simpa using h.1

end Go.Proofs.Ytigmlkfmgheegaa
