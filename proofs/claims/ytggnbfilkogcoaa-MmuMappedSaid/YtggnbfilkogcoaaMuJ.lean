/-
  The calls of package mmu that take a page or a unit and change nothing else: rightPage, status, descriptor, mappable, Reset. Conditions: valid numbers where it is said.
-/
import Derived.Test.YtggnbfilkogcoaaMuH
import Derived.Test.YtggnbfilkogcoaaMuI
import Derived.Test.YtggnbfilkogcoaaCelm
namespace Go.Proofs.Ytggnbfilkogcoaa
open Go.RowKit
set_option linter.unusedSimpArgs false
set_option linter.unusedVariables false
set_option maxHeartbeats 4000000
set_option maxRecDepth 100000
attribute [local irreducible] wpQuiet

theorem or_nat (a b : Nat) (ha : a < 9223372036854775808) (hb : b < 9223372036854775808) : bits .or .i64 (a : Int) (b : Int) = ((a ||| b : Nat) : Int) := by
  rw [or_def, N64_nat a (by omega), N64_nat b (by omega)]
  exact small (Nat.or_lt_two_pow (n := 63) ha hb)
theorem or_low (k : Nat) {a b : Int} {n : Int} (hn : n = 2 ^ k) (ha : 0 ≤ a) (hb : 0 ≤ b) (hbn : b < n) (h : a * n + b < 9223372036854775808) : bits .or .i64 (a * n) b = a * n + b ∧ bits .or .i64 b (a * n) = a * n + b := by
  obtain ⟨x, rfl⟩ : ∃ x : Nat, a = x := ⟨a.toNat, by omega⟩
  obtain ⟨y, rfl⟩ : ∃ y : Nat, b = y := ⟨b.toNat, by omega⟩
  have e : n = ((2 ^ k : Nat) : Int) := by rw [hn]; simp
  have hp : (0 : Int) < n := by omega
  have e2 : (x : Int) * n = ((2 ^ k * x : Nat) : Int) := by rw [e, ← Int.natCast_mul, Nat.mul_comm]
  have hx : 2 ^ k * x + y < 9223372036854775808 := by
    rw [e2] at h; omega
  have hy : y < 2 ^ k := by omega
  have e3 : 2 ^ k * x ||| y = 2 ^ k * x + y := (Nat.two_pow_add_eq_or_of_lt hy x).symm
  rw [e2, or_nat _ _ (by omega) (by omega), or_nat _ _ (by omega) (by omega), e3, Nat.or_comm y, e3]
  constructor <;> omega

theorem right_page (g : Pg) (w : World) : Calls Try.prog 22 #[.agg g.L.toArray] w fun e w' => e = .returned (.bool g.good) ∧ Below w.heap.size w w' := by
  obtain ⟨b, l, a, r⟩ := g
  have hB : Below w.heap.size w (w.alloc (.cells #[.int .i64 b, .int .i64 l, .int .i64 a, .bool r] 23)) := (Below.refl _ _).alloc (Nat.le_refl _) _
  have hb := fun w => within_any b 4095 w
  have hl := fun w => within_any l 128 w
  have ha := fun w => within_any a 2 w
  have e : Pg.good ⟨b, l, a, r⟩ = (inB b 4095 && (inB l 128 && inB a 2)) := by simp only [Pg.good, inB, Bool.and_assoc]
  rw [e]
  generalize inB b 4095 = q1 at *
  generalize inB l 128 = q2 at *
  generalize inB a 2 = q3 at *
  clear e
  show Calls Try.prog 22 #[.agg #[.int .i64 b, .int .i64 l, .int .i64 a, .bool r]] w _
  cases q1
  · go_enter Try.func22, Try.ntmps22
    go_wp2_with (first | (go_at_call 23; first | (with_reducible refine (hb _).mono ?_; rintro e w' ⟨rfl, rfl⟩) | (with_reducible refine (hl _).mono ?_; rintro e w' ⟨rfl, rfl⟩) | (with_reducible refine (ha _).mono ?_; rintro e w' ⟨rfl, rfl⟩)))
    go_ret
    exact ⟨rfl, hB⟩
  · cases q2
    · go_enter Try.func22, Try.ntmps22
      go_wp2_with (first | (go_at_call 23; first | (with_reducible refine (hb _).mono ?_; rintro e w' ⟨rfl, rfl⟩) | (with_reducible refine (hl _).mono ?_; rintro e w' ⟨rfl, rfl⟩) | (with_reducible refine (ha _).mono ?_; rintro e w' ⟨rfl, rfl⟩)))
      go_ret
      exact ⟨rfl, hB⟩
    · go_enter Try.func22, Try.ntmps22
      go_wp2_with (first | (go_at_call 23; first | (with_reducible refine (hb _).mono ?_; rintro e w' ⟨rfl, rfl⟩) | (with_reducible refine (hl _).mono ?_; rintro e w' ⟨rfl, rfl⟩) | (with_reducible refine (ha _).mono ?_; rintro e w' ⟨rfl, rfl⟩)))
      go_ret
      exact ⟨rfl, hB⟩

theorem status_any (u : Un) (hu : u.ok) (h0 : 0 ≤ u.st) (h1 : u.st ≤ 3) (w : World) : Calls Try.prog 28 #[.agg u.L.toArray] w fun e w' => e = .returned (.int .i64 (statV u)) ∧ Below w.heap.size w w' := by
  have hX := One.put u w
  have c0 := hX.b.cell (Un.at0 u)
  have c65 := hX.b.cell (Un.at65 hu)
  have hB := hX.below
  unfold statV
  have hO := (or_low 1 (n := 2) (a := u.st) (b := 1) (by decide) h0 (by decide) (by decide) (by omega)).1
  have V1 : IntKind.i64.wrap (u.st * 2) = u.st * 2 := by rw [wrap_i64]; exact IntWalk.wrap64_in _ ⟨by omega, by omega⟩
  rw [show 2 * u.st = u.st * 2 by omega]
  generalize u.st = s at *
  cases hon : u.on
  all_goals
    rw [hon] at c0
    go_enter Try.func28, Try.ntmps28
    go_wp2
    go_ret
    exact ⟨rfl, hB⟩

theorem desc_any (g : Pg) (hg : g.good = true) (w : World) : Calls Try.prog 32 #[.agg g.L.toArray] w fun e w' => e = .returned (.int .i64 (descV g)) ∧ Below w.heap.size w w' := by
  obtain ⟨_, _, h0, h1, h2, h3⟩ := Pg.good_all hg
  obtain ⟨b, l, a, r⟩ := g
  simp only at h0 h1 h2 h3
  have hB : Below w.heap.size w (w.alloc (.cells #[.int .i64 b, .int .i64 l, .int .i64 a, .bool r] 23)) := (Below.refl _ _).alloc (Nat.le_refl _) _
  have hO := (or_low 8 (n := 256) (a := a) (b := l) (by decide) h2 h0 (by omega) (by omega)).2
  have hO2 := (or_low 15 (n := 32768) (a := 1) (b := a * 256 + l) (by decide) (by decide) (by omega) (by omega) (by omega)).2
  have V1 : IntKind.i64.wrap (a * 256) = a * 256 := by rw [wrap_i64]; exact IntWalk.wrap64_in _ ⟨by omega, by omega⟩
  unfold descV
  simp only
  rw [show l + 256 * a = a * 256 + l by omega]
  rw [Int.one_mul, show (32768 : Int) + (a * 256 + l) = a * 256 + l + 32768 by omega] at hO2
  show Calls Try.prog 32 #[.agg #[.int .i64 b, .int .i64 l, .int .i64 a, .bool r]] w _
  clear hg
  cases r
  all_goals
    go_enter Try.func32, Try.ntmps32
    go_wp2
    go_ret
    exact ⟨rfl, hB⟩
end Go.Proofs.Ytggnbfilkogcoaa
