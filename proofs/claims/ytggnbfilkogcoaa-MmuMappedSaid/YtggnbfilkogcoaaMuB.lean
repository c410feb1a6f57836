/-
  The calls of the reference of package mmu that take no unit. No condition but that numbers are integers of the machine.
-/
import Derived.Test.YtggnbfilkogcoaaBits
import Derived.Test.YtggnbfilkogcoaaMuP
import Derived.Test.YtggnbfilkogcoaaCells
import Derived.WalkKit
import Derived.WalkSpells
import Derived.WalkLawsBesides
import Derived.Deep.RegionHeld3
import Derived.Deep.DeepCutAuto
import Derived.Deep.QuietTactic
import Derived.BigQuiet
import Derived.KernelRfl
namespace Go.Proofs.Ytggnbfilkogcoaa
open Go.RowKit
set_option linter.unusedSimpArgs false
set_option linter.unusedVariables false
set_option maxHeartbeats 1000000

def Hid (p : Prop) : Prop := p
theorem hid {p : Prop} (h : p) : Hid p := h
theorem ret_bool {a b : Bool} (h : a = b) : Ending.returned (.bool a) = .returned (.bool b) := by rw [h]
theorem ret_int {k : IntKind} {a b : Int} (h : a = b) : Ending.returned (.int k a) = .returned (.int k b) := by rw [h]

theorem tmod_eq (n : Int) : n.tmod 65536 = if 0 ≤ n then n % 65536 else -((-n) % 65536) := by
  split
  · next h => exact Int.tmod_eq_emod_of_nonneg h
  · next h =>
    have e := Int.neg_tmod (-n) 65536
    rw [Int.neg_neg, Int.tmod_eq_emod_of_nonneg (a := -n) (by omega)] at e
    exact e
theorem rword_any (n : Int) (w : World) : Calls Try.prog 26 #[.int .i64 n] w fun e w' => e = .returned (.int .i64 (n % 65536)) ∧ w = w' := by
  have hB : -65536 < n.tmod 65536 ∧ n.tmod 65536 < 65536 := by rw [tmod_eq]; split <;> omega
  go_enter Try.func26, Try.ntmps26
  go_wp2
  · go_ret
    refine ⟨ret_int ?_, rfl⟩
    have h : n.tmod 65536 < 0 := by assumption
    show n.tmod 65536 + 65536 = _
    rw [tmod_eq] at h ⊢; split <;> omega
  · go_ret
    refine ⟨ret_int ?_, rfl⟩
    have h : 0 ≤ n.tmod 65536 := by assumption
    show n.tmod 65536 = _
    rw [tmod_eq] at h ⊢; split <;> omega

/-- The fault of an access to a page. -/
def fltP (p : Pg) (o : Int) (w : Bool) : Int := if p.a = 0 then 1 else if p.l ≤ o / 64 then 2 else if w = true ∧ p.a ≠ 2 then 3 else 0
theorem rfault_any (p : Pg) (o : Int) (ho : 0 ≤ o) (ho2 : o ≤ 8191) (wr : Bool) (w : World) : Calls Try.prog 27 #[.agg #[.int .i64 p.b, .int .i64 p.l, .int .i64 p.a, .bool p.r], .int .i64 o, .bool wr] w fun e w' => e = .returned (.int .i64 (fltP p o wr)) ∧ Below w.heap.size w w' := by
  obtain ⟨b, l, a, r⟩ := p
  simp only
  have hB : Below w.heap.size w (w.alloc (.cells #[.int .i64 b, .int .i64 l, .int .i64 a, .bool r] 23)) := (Below.refl _ _).alloc (Nat.le_refl _) _
  unfold fltP
  simp only
  by_cases h1 : a = 0
  · rw [if_pos h1]
    subst h1
    go_enter Try.func27, Try.ntmps27
    go_wp2
    go_ret
    exact ⟨rfl, hB⟩
  · rw [if_neg h1]
    by_cases h2 : l ≤ o / 64
    · rw [if_pos h2]
      go_enter Try.func27, Try.ntmps27
      go_wp2
      go_ret
      exact ⟨rfl, hB⟩
    · rw [if_neg h2]
      cases wr
      · rw [if_neg (by simp)]
        go_enter Try.func27, Try.ntmps27
        go_wp2
        go_ret
        exact ⟨rfl, hB⟩
      · by_cases h3 : a = 2
        · rw [if_neg (by simp [h3])]
          subst h3
          go_enter Try.func27, Try.ntmps27
          go_wp2
          go_ret
          exact ⟨rfl, hB⟩
        · rw [if_pos ⟨rfl, h3⟩]
          have h3b : (a != 2) = true := by simpa using h3
          go_enter Try.func27, Try.ntmps27
          go_wp2
          go_ret
          exact ⟨rfl, hB⟩
end Go.Proofs.Ytggnbfilkogcoaa
