/-
  The small calls of package mmu: numbers, pages, pointers to pages. No condition but that pages are valid where it is said.
-/
import Derived.Test.YtggnbfilkogcoaaMuE
namespace Go.Proofs.Ytggnbfilkogcoaa
open Go.RowKit
set_option linter.unusedSimpArgs false
set_option linter.unusedVariables false
set_option maxHeartbeats 4000000
set_option maxRecDepth 100000
attribute [local irreducible] wpQuiet

theorem a4095 (n : Int) : bits .and .i64 n 4095 = n % 4096 := i_and (c := 4095) (by decide) (Nat.and_two_pow_sub_one_eq_mod _ 12) (by intro h; omega)
theorem a262143 (n : Int) : bits .and .i64 n 262143 = n % 262144 := i_and (c := 262143) (by decide) (Nat.and_two_pow_sub_one_eq_mod _ 18) (by intro h; omega)

def inB (n g : Int) : Bool := decide (0 ≤ n) && decide (n ≤ g)
theorem within_any (n g : Int) (w : World) : Calls Try.prog 23 #[.int .i64 n, .int .i64 g] w fun e w' => e = .returned (.bool (inB n g)) ∧ w = w' := by
  unfold inB
  by_cases h : 0 ≤ n
  · rw [decide_eq_true h, Bool.true_and]
    have h2 : decide (0 ≤ n) = true := decide_eq_true h
    go_enter Try.func23, Try.ntmps23
    go_wp2
    go_ret
    exact ⟨rfl, rfl⟩
  · rw [decide_eq_false h, Bool.false_and]
    have h2 : decide (0 ≤ n) = false := decide_eq_false h
    go_enter Try.func23, Try.ntmps23
    go_wp2
    go_ret
    exact ⟨rfl, rfl⟩
theorem unm_any (a : Int) (ha0 : 0 ≤ a) (ha1 : a ≤ 65535) (w : World) : Calls Try.prog 24 #[.int .i64 a] w fun e w' => e = .returned (.int .i64 (if a < 57344 then a else a + 196608)) ∧ w = w' := by
  have V1 : IntKind.i64.wrap (a + 196608) = a + 196608 := by rw [wrap_i64]; exact IntWalk.wrap64_in _ ⟨by omega, by omega⟩
  by_cases h : a < 57344
  · rw [if_pos h]
    go_enter Try.func24, Try.ntmps24
    go_wp2
    go_ret
    exact ⟨rfl, rfl⟩
  · rw [if_neg h]
    go_enter Try.func24, Try.ntmps24
    go_wp2
    go_ret
    exact ⟨rfl, rfl⟩
theorem fault_any (p : Pg) (o : Int) (ho : 0 ≤ o) (ho2 : o ≤ 8191) (wr : Bool) (w : World) : Calls Try.prog 25 #[.agg #[.int .i64 p.b, .int .i64 p.l, .int .i64 p.a, .bool p.r], .int .i64 o, .bool wr] w fun e w' => e = .returned (.int .i64 (fltP p o wr)) ∧ Below w.heap.size w w' := by
  obtain ⟨b, l, a, r⟩ := p
  simp only
  have hB : Below w.heap.size w (w.alloc (.cells #[.int .i64 b, .int .i64 l, .int .i64 a, .bool r] 23)) := (Below.refl _ _).alloc (Nat.le_refl _) _
  unfold fltP
  simp only
  by_cases h1 : a = 0
  · rw [if_pos h1]
    subst h1
    go_enter Try.func25, Try.ntmps25
    go_wp2
    go_ret
    exact ⟨rfl, hB⟩
  · rw [if_neg h1]
    by_cases h2 : l ≤ o / 64
    · rw [if_pos h2]
      go_enter Try.func25, Try.ntmps25
      go_wp2
      go_ret
      exact ⟨rfl, hB⟩
    · rw [if_neg h2]
      cases wr
      · rw [if_neg (by simp)]
        go_enter Try.func25, Try.ntmps25
        go_wp2
        go_ret
        exact ⟨rfl, hB⟩
      · by_cases h3 : a = 2
        · rw [if_neg (by simp [h3])]
          subst h3
          go_enter Try.func25, Try.ntmps25
          go_wp2
          go_ret
          exact ⟨rfl, hB⟩
        · rw [if_pos ⟨rfl, h3⟩]
          have h3b : (a != 2) = true := by simpa using h3
          go_enter Try.func25, Try.ntmps25
          go_wp2
          go_ret
          exact ⟨rfl, hB⟩

/-! ### Where the registers of pages are -/
def ofP (n : Int) : Bool := decide (16 ≤ n) && decide (n < 80)
theorem ofp_any (n : Int) (w : World) : Calls Try.prog 36 #[.int .i64 n] w fun e w' => e = .returned (.bool (ofP n)) ∧ w = w' := by
  unfold ofP
  by_cases h : 16 ≤ n
  · rw [decide_eq_true h, Bool.true_and]
    have h2 : decide (16 ≤ n) = true := decide_eq_true h
    go_enter Try.func36, Try.ntmps36
    go_wp2
    go_ret
    exact ⟨rfl, rfl⟩
  · rw [decide_eq_false h, Bool.false_and]
    have h2 : decide (16 ≤ n) = false := decide_eq_false h
    go_enter Try.func36, Try.ntmps36
    go_wp2
    go_ret
    exact ⟨rfl, rfl⟩
theorem isbase_any (n : Int) (w : World) : Calls Try.prog 29 #[.int .i64 n] w fun e w' => e = .returned (.bool (ofP n && decide ((n - 16) % 4 = 0))) ∧ w = w' := by
  have hc := fun w => ofp_any n w
  cases h : ofP n
  · rw [Bool.false_and]
    rw [h] at hc
    go_enter Try.func29, Try.ntmps29
    go_wp2_with (first | (go_at_call 36; with_reducible refine (hc _).mono ?_; rintro e w' ⟨rfl, rfl⟩))
    go_ret
    exact ⟨rfl, rfl⟩
  · rw [Bool.true_and]
    rw [h] at hc
    have hb : 16 ≤ n ∧ n < 80 := by unfold ofP at h; simpa using h
    have h0 : 0 ≤ n - 16 := by omega
    have h1 : n - 16 < 64 := by omega
    clear h
    go_enter Try.func29, Try.ntmps29
    go_wp2_with (first | (go_at_call 36; with_reducible refine (hc _).mono ?_; rintro e w' ⟨rfl, rfl⟩))
    go_ret
    exact ⟨rfl, rfl⟩
theorem isdesc_any (n : Int) (w : World) : Calls Try.prog 31 #[.int .i64 n] w fun e w' => e = .returned (.bool (ofP n && decide ((n - 16) % 4 = 2))) ∧ w = w' := by
  have hc := fun w => ofp_any n w
  cases h : ofP n
  · rw [Bool.false_and]
    rw [h] at hc
    go_enter Try.func31, Try.ntmps31
    go_wp2_with (first | (go_at_call 36; with_reducible refine (hc _).mono ?_; rintro e w' ⟨rfl, rfl⟩))
    go_ret
    exact ⟨rfl, rfl⟩
  · rw [Bool.true_and]
    rw [h] at hc
    have hb : 16 ≤ n ∧ n < 80 := by unfold ofP at h; simpa using h
    have h0 : 0 ≤ n - 16 := by omega
    have h1 : n - 16 < 64 := by omega
    clear h
    go_enter Try.func31, Try.ntmps31
    go_wp2_with (first | (go_at_call 36; with_reducible refine (hc _).mono ?_; rintro e w' ⟨rfl, rfl⟩))
    go_ret
    exact ⟨rfl, rfl⟩
theorem pageat_any (B : Nat) (n : Int) (hn0 : 16 ≤ n) (hn1 : n < 80) (m p : Nat) (hm : m < 2) (hp : p < 8) (hnm : (n - 16) / 4 / 8 = (m : Int)) (hnp : (n - 16) / 4 % 8 = (p : Int)) (w : World) : Calls Try.prog 30 #[.pointer (some ⟨B, 0, none⟩), .int .i64 n] w fun e w' => e = .returned (.pointer (some ⟨B, 1 + m * 32 + p * 4, none⟩)) ∧ w = w' := by
  have h0 : 0 ≤ n - 16 := by omega
  have h1 : n - 16 < 64 := by omega
  have h2 : 0 ≤ (n - 16) / 4 := by omega
  have h3 : (n - 16) / 4 < 16 := by omega
  have m0 : (0 : Int) ≤ (m : Int) := by omega
  have m1 : (m : Int) < 2 := by omega
  have p0 : (0 : Int) ≤ (p : Int) := by omega
  have p1 : (p : Int) < 8 := by omega
  go_enter Try.func30, Try.ntmps30
  go_wp2
  go_ret
  exact ⟨rfl, rfl⟩
end Go.Proofs.Ytggnbfilkogcoaa
