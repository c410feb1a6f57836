import Derived.Test.YtdbbnkjnmldnpaaGreatDoorBits
import Derived.Test.YtdbbnkjnmldnpaaGreatDoorProg
import Derived.WalkKit
import Derived.WalkSpells
import Derived.WalkLawsBesides
import Derived.Deep.RegionHeld3
import Derived.Deep.DeepCutAuto
import Derived.Deep.QuietTactic
import Derived.BigQuiet
import Derived.KernelRfl
/-
  What the calls of package operand and of its reference return, said over the integers: one set of definitions for both sides. No condition.
-/
namespace Go.Proofs.YtdbbnkjnmldnpaaGreatDoor
open Go.RowKit

def exR (M R : Int) : Bool := decide (M = 6 ∨ M = 7 ∨ ((M = 2 ∨ M = 3) ∧ R = 7))
def dfR (M : Int) : Bool := decide (M = 3 ∨ M = 5 ∨ M = 7)
def unR (R : Int) (b : Bool) : Int := if b = true ∧ R ≠ 6 ∧ R ≠ 7 then 1 else 2
def stR (M R : Int) (b : Bool) : Int := if exR M R = true then 0 else if M = 2 then unR R b else if M = 4 then - unR R b else if M = 3 then 2 else if M = 5 then -2 else 0
def fdR (m r : Int) : Int := 8 * (m % 8) + r % 8
def vdR (m r x : Int) : Bool := decide (0 ≤ m ∧ m ≤ 7 ∧ 0 ≤ r ∧ r ≤ 7 ∧ 0 ≤ x ∧ x ≤ 65535) && (decide (x = 0) || exR (m % 8) (r % 8))
def wrR (m r x : Int) : Bool := vdR m r x && !decide (m = 2 ∧ r = 7)

theorem low_bd (n : Int) : 0 ≤ n % 8 ∧ n % 8 ≤ 7 := by omega
theorem low_cases {M : Int} (h : 0 ≤ M ∧ M ≤ 7) : M = 0 ∨ M = 1 ∨ M = 2 ∨ M = 3 ∨ M = 4 ∨ M = 5 ∨ M = 6 ∨ M = 7 := by omega
theorem exR_iff (M R : Int) : exR M R = true ↔ M = 6 ∨ M = 7 ∨ ((M = 2 ∨ M = 3) ∧ R = 7) := by unfold exR; simp
theorem exR_23 {M : Int} (R : Int) (h : M = 2 ∨ M = 3) : exR M R = decide (R = 7) := by
  unfold exR; rw [Bool.eq_iff_iff, decide_eq_true_eq, decide_eq_true_eq]; omega
theorem exR_67 {M : Int} (R : Int) (h : M = 6 ∨ M = 7) : exR M R = true := by
  unfold exR; rw [decide_eq_true_eq]; omega
theorem exR_no {M : Int} (R : Int) (h : M = 0 ∨ M = 1 ∨ M = 4 ∨ M = 5) : exR M R = false := by
  unfold exR; rw [decide_eq_false_iff_not]; omega
theorem unR_cases (R : Int) (b : Bool) : unR R b = 1 ∨ unR R b = 2 := by unfold unR; split <;> simp
theorem stR_bd (M R : Int) (b : Bool) : -2 ≤ stR M R b ∧ stR M R b ≤ 2 := by
  have := unR_cases R b
  unfold stR; split
  · omega
  · split
    · omega
    · split
      · omega
      · split
        · omega
        · split <;> omega
theorem stR_ex {M R : Int} (b : Bool) (h : exR M R = true) : stR M R b = 0 := by unfold stR; rw [if_pos h]
theorem stR_stack {M R : Int} (b : Bool) (h : R = 6 ∨ R = 7) : stR M R b = 0 ∨ stR M R b = 2 ∨ stR M R b = -2 := by
  have hu : unR R b = 2 := by unfold unR; rw [if_neg (by omega)]
  unfold stR; rw [hu]; split
  · omega
  · split
    · omega
    · split
      · omega
      · split
        · omega
        · split <;> omega
theorem fd_low (m r : Int) : fdR m r / 8 % 8 = m % 8 ∧ fdR m r % 8 = r % 8 := by unfold fdR; omega
theorem fd_from (n : Int) (h : 0 ≤ n ∧ n ≤ 63) : fdR (n / 8 % 8) (n % 8) = n := by unfold fdR; omega
theorem vd_from (n : Int) : vdR (n / 8 % 8) (n % 8) 0 = true := by
  unfold vdR
  rw [Bool.and_eq_true, decide_eq_true_eq]
  exact ⟨by omega, by simp⟩
theorem vd_parts {m r x : Int} (h : vdR m r x = true) : (0 ≤ m ∧ m ≤ 7 ∧ 0 ≤ r ∧ r ≤ 7 ∧ 0 ≤ x ∧ x ≤ 65535) ∧ (x = 0 ∨ exR m r = true) := by
  unfold vdR at h
  rw [Bool.and_eq_true, decide_eq_true_eq, Bool.or_eq_true, decide_eq_true_eq] at h
  obtain ⟨h1, h2⟩ := h
  rw [Int.emod_eq_of_lt (by omega) (by omega), Int.emod_eq_of_lt (by omega) (by omega)] at h2
  exact ⟨h1, h2⟩
theorem or_shl {a b : Int} (ha : 0 ≤ a ∧ a ≤ 7) (hb : 0 ≤ b ∧ b ≤ 7) : bits .or .i64 (a * 8) b = 8 * a + b := by
  rcases low_cases ha with rfl | rfl | rfl | rfl | rfl | rfl | rfl | rfl <;> rcases low_cases hb with rfl | rfl | rfl | rfl | rfl | rfl | rfl | rfl <;> decide +kernel
end Go.Proofs.YtdbbnkjnmldnpaaGreatDoor

/-
  Walks over the calls of package operand and of its reference. No condition.
-/
namespace Go.Proofs.YtdbbnkjnmldnpaaGreatDoor
open Go.RowKit
set_option linter.unusedSimpArgs false
set_option maxHeartbeats 1000000

def Hid (p : Prop) : Prop := p
theorem hid {p : Prop} (h : p) : Hid p := h
theorem ret_bool {a b : Bool} (h : a = b) : Ending.returned (.bool a) = .returned (.bool b) := by rw [h]
theorem ret_int {k : IntKind} {a b : Int} (h : a = b) : Ending.returned (.int k a) = .returned (.int k b) := by rw [h]

/-- A box that holds an operand; what lay below it is as it was. -/
structure Bx (B : Nat) (m r x : Int) (w0 w : World) : Prop where
  c0 : w.cell? ⟨B, 0, none⟩ = some (.int .i64 m)
  c1 : w.cell? ⟨B, 1, none⟩ = some (.int .i64 r)
  c2 : w.cell? ⟨B, 2, none⟩ = some (.int .i64 x)
  lt : B < w.heap.size
  below : Below w0.heap.size w0 w
theorem Bx.step {B : Nat} {m r x : Int} {w0 w w' : World} (h : Bx B m r x w0 w) (hb : Below w.heap.size w w') : Bx B m r x w0 w' :=
  ⟨(hb.cell (p := ⟨B, 0, none⟩) h.lt).trans h.c0, (hb.cell (p := ⟨B, 1, none⟩) h.lt).trans h.c1, (hb.cell (p := ⟨B, 2, none⟩) h.lt).trans h.c2, Nat.lt_of_lt_of_le h.lt hb.size, h.below.trans (hb.mono h.below.size)⟩
theorem Bx.put (m r x : Int) (w : World) : Bx w.heap.size m r x w (w.alloc (.cells #[.int .i64 m, .int .i64 r, .int .i64 x] 33)) :=
  ⟨by simp, by simp, by simp, by simp, (Below.refl _ _).alloc (Nat.le_refl _) _⟩
theorem Bx.drew {B : Nat} {m r x : Int} {w0 w : World} (h : Bx B m r x w0 w) : Bx B m r x w0 w.drew := ⟨h.c0, h.c1, h.c2, h.lt, h.below.drew⟩

/-- A region that draws its order, walked once in the order of the text, in every world of a class. -/
theorem region_class {P : Program} {id : Nat} {Q : Exit → Act → World → Prop} {a : Act} {w : World} {l : List Oper} (C : World → Prop) (hm : P.follows .mixedOrders = true) (hB : Region.lexB .any l.toArray = true) (hC : C w.drew)
    (h : wpQuiet P l.toArray C (fun a' => ∀ w', C w' → Q .normal a' w') l a) : (Code.region id l.toArray true).wp P Q a w :=
  wp_region_quiet hm hB hC (by simpa using h)
attribute [local irreducible] wpQuiet

theorem mode_any (m r x : Int) (w : World) : Calls Tryz.prog 39 #[.agg #[.int .i64 m, .int .i64 r, .int .i64 x]] w fun e w' => e = .returned (.int .i64 (m % 8)) ∧ Below w.heap.size w w' := by
  have A := a7 m
  generalize m % 8 = M at *
  go_enter Tryz.func39, Tryz.ntmps39
  go_wp2
  go_ret
  exact ⟨rfl, (Below.refl _ _).alloc (Nat.le_refl _) _⟩

theorem reg_any (m r x : Int) (w : World) : Calls Tryz.prog 40 #[.agg #[.int .i64 m, .int .i64 r, .int .i64 x]] w fun e w' => e = .returned (.int .i64 (r % 8)) ∧ Below w.heap.size w w' := by
  have A := a7 r
  generalize r % 8 = M at *
  go_enter Tryz.func40, Tryz.ntmps40
  go_wp2
  go_ret
  exact ⟨rfl, (Below.refl _ _).alloc (Nat.le_refl _) _⟩

theorem rmode_any (m r x : Int) (w : World) : Calls Tryz.prog 61 #[.agg #[.int .i64 m, .int .i64 r, .int .i64 x]] w fun e w' => e = .returned (.int .i64 (m % 8)) ∧ Below w.heap.size w w' := by
  have A := a7 m
  generalize m % 8 = M at *
  go_enter Tryz.func61, Tryz.ntmps61
  go_wp2
  go_ret
  exact ⟨rfl, (Below.refl _ _).alloc (Nat.le_refl _) _⟩

theorem rreg_any (m r x : Int) (w : World) : Calls Tryz.prog 62 #[.agg #[.int .i64 m, .int .i64 r, .int .i64 x]] w fun e w' => e = .returned (.int .i64 (r % 8)) ∧ Below w.heap.size w w' := by
  have A := a7 r
  generalize r % 8 = M at *
  go_enter Tryz.func62, Tryz.ntmps62
  go_wp2
  go_ret
  exact ⟨rfl, (Below.refl _ _).alloc (Nat.le_refl _) _⟩

theorem ext_any (m r x : Int) (w : World) : Calls Tryz.prog 41 #[.agg #[.int .i64 m, .int .i64 r, .int .i64 x]] w fun e w' => e = .returned (.bool (exR (m % 8) (r % 8))) ∧ Below w.heap.size w w' := by
  have hm := fun w => mode_any m r x w
  have hr := fun w => reg_any m r x w
  have hM := low_bd m
  have hX := Bx.put m r x w
  generalize m % 8 = M at *
  generalize r % 8 = R at *
  by_cases h23 : M = 2 ∨ M = 3
  · rw [exR_23 R h23]
    rcases h23 with rfl | rfl
    all_goals
      clear hM
      go_enter Tryz.func41, Tryz.ntmps41
      go_wp2_with fail
      have c0 := hX.c0
      have c1 := hX.c1
      have c2 := hX.c2
      generalize w.alloc (.cells #[.int .i64 m, .int .i64 r, .int .i64 x] 33) = w1 at *
      generalize hBB : w.heap.size = B at hX c0 c1 c2 ⊢
      go_wp2_with (first | (go_at_call 39; with_reducible refine (hm _).mono ?_; rintro e w' ⟨rfl, hb⟩; have hX := hX.step hb; have c0 := hX.c0; have c1 := hX.c1; have c2 := hX.c2; clear hb) | (go_at_call 40; with_reducible refine (hr _).mono ?_; rintro e w' ⟨rfl, hb⟩; have hX := hX.step hb; have c0 := hX.c0; have c1 := hX.c1; have c2 := hX.c2; clear hb))
      go_ret
      exact ⟨rfl, hX.below⟩
  · by_cases h67 : M = 6 ∨ M = 7
    · rw [exR_67 R h67]
      clear h23
      rcases h67 with rfl | rfl
      all_goals
        clear hM
        go_enter Tryz.func41, Tryz.ntmps41
        go_wp2_with fail
        have c0 := hX.c0
        have c1 := hX.c1
        have c2 := hX.c2
        generalize w.alloc (.cells #[.int .i64 m, .int .i64 r, .int .i64 x] 33) = w1 at *
        generalize hBB : w.heap.size = B at hX c0 c1 c2 ⊢
        go_wp2_with (first | (go_at_call 39; with_reducible refine (hm _).mono ?_; rintro e w' ⟨rfl, hb⟩; have hX := hX.step hb; have c0 := hX.c0; have c1 := hX.c1; have c2 := hX.c2; clear hb) | (go_at_call 40; with_reducible refine (hr _).mono ?_; rintro e w' ⟨rfl, hb⟩; have hX := hX.step hb; have c0 := hX.c0; have c1 := hX.c1; have c2 := hX.c2; clear hb))
        go_ret
        exact ⟨rfl, hX.below⟩
    · have h01 : M = 0 ∨ M = 1 ∨ M = 4 ∨ M = 5 := by omega
      rw [exR_no R h01]
      clear h23 h67
      rcases h01 with rfl | rfl | rfl | rfl
      all_goals
        clear hM
        go_enter Tryz.func41, Tryz.ntmps41
        go_wp2_with fail
        have c0 := hX.c0
        have c1 := hX.c1
        have c2 := hX.c2
        generalize w.alloc (.cells #[.int .i64 m, .int .i64 r, .int .i64 x] 33) = w1 at *
        generalize hBB : w.heap.size = B at hX c0 c1 c2 ⊢
        go_wp2_with (first | (go_at_call 39; with_reducible refine (hm _).mono ?_; rintro e w' ⟨rfl, hb⟩; have hX := hX.step hb; have c0 := hX.c0; have c1 := hX.c1; have c2 := hX.c2; clear hb) | (go_at_call 40; with_reducible refine (hr _).mono ?_; rintro e w' ⟨rfl, hb⟩; have hX := hX.step hb; have c0 := hX.c0; have c1 := hX.c1; have c2 := hX.c2; clear hb))
        go_ret
        exact ⟨rfl, hX.below⟩

theorem rext_any (m r x : Int) (w : World) : Calls Tryz.prog 30 #[.agg #[.int .i64 m, .int .i64 r, .int .i64 x]] w fun e w' => e = .returned (.bool (exR (m % 8) (r % 8))) ∧ Below w.heap.size w w' := by
  have hm := fun w => rmode_any m r x w
  have hr := fun w => rreg_any m r x w
  have hM := low_bd m
  have hX := Bx.put m r x w
  generalize m % 8 = M at *
  generalize r % 8 = R at *
  by_cases h23 : M = 2 ∨ M = 3
  · rw [exR_23 R h23]
    rcases h23 with rfl | rfl
    all_goals
      clear hM
      go_enter Tryz.func30, Tryz.ntmps30
      go_wp2_with fail
      have c0 := hX.c0
      have c1 := hX.c1
      have c2 := hX.c2
      generalize w.alloc (.cells #[.int .i64 m, .int .i64 r, .int .i64 x] 33) = w1 at *
      generalize hBB : w.heap.size = B at hX c0 c1 c2 ⊢
      go_wp2_with (first | (go_at_call 61; with_reducible refine (hm _).mono ?_; rintro e w' ⟨rfl, hb⟩; have hX := hX.step hb; have c0 := hX.c0; have c1 := hX.c1; have c2 := hX.c2; clear hb) | (go_at_call 62; with_reducible refine (hr _).mono ?_; rintro e w' ⟨rfl, hb⟩; have hX := hX.step hb; have c0 := hX.c0; have c1 := hX.c1; have c2 := hX.c2; clear hb))
      go_ret
      exact ⟨rfl, hX.below⟩
  · by_cases h67 : M = 6 ∨ M = 7
    · rw [exR_67 R h67]
      clear h23
      rcases h67 with rfl | rfl
      all_goals
        clear hM
        go_enter Tryz.func30, Tryz.ntmps30
        go_wp2_with fail
        have c0 := hX.c0
        have c1 := hX.c1
        have c2 := hX.c2
        generalize w.alloc (.cells #[.int .i64 m, .int .i64 r, .int .i64 x] 33) = w1 at *
        generalize hBB : w.heap.size = B at hX c0 c1 c2 ⊢
        go_wp2_with (first | (go_at_call 61; with_reducible refine (hm _).mono ?_; rintro e w' ⟨rfl, hb⟩; have hX := hX.step hb; have c0 := hX.c0; have c1 := hX.c1; have c2 := hX.c2; clear hb) | (go_at_call 62; with_reducible refine (hr _).mono ?_; rintro e w' ⟨rfl, hb⟩; have hX := hX.step hb; have c0 := hX.c0; have c1 := hX.c1; have c2 := hX.c2; clear hb))
        go_ret
        exact ⟨rfl, hX.below⟩
    · have h01 : M = 0 ∨ M = 1 ∨ M = 4 ∨ M = 5 := by omega
      rw [exR_no R h01]
      clear h23 h67
      rcases h01 with rfl | rfl | rfl | rfl
      all_goals
        clear hM
        go_enter Tryz.func30, Tryz.ntmps30
        go_wp2_with fail
        have c0 := hX.c0
        have c1 := hX.c1
        have c2 := hX.c2
        generalize w.alloc (.cells #[.int .i64 m, .int .i64 r, .int .i64 x] 33) = w1 at *
        generalize hBB : w.heap.size = B at hX c0 c1 c2 ⊢
        go_wp2_with (first | (go_at_call 61; with_reducible refine (hm _).mono ?_; rintro e w' ⟨rfl, hb⟩; have hX := hX.step hb; have c0 := hX.c0; have c1 := hX.c1; have c2 := hX.c2; clear hb) | (go_at_call 62; with_reducible refine (hr _).mono ?_; rintro e w' ⟨rfl, hb⟩; have hX := hX.step hb; have c0 := hX.c0; have c1 := hX.c1; have c2 := hX.c2; clear hb))
        go_ret
        exact ⟨rfl, hX.below⟩

theorem def_any (m r x : Int) (w : World) : Calls Tryz.prog 19 #[.agg #[.int .i64 m, .int .i64 r, .int .i64 x]] w fun e w' => e = .returned (.bool (dfR (m % 8))) ∧ Below w.heap.size w w' := by
  have hm := fun w => mode_any m r x w
  have hM := low_bd m
  have hX := Bx.put m r x w
  generalize m % 8 = M at *
  rcases low_cases hM with rfl | rfl | rfl | rfl | rfl | rfl | rfl | rfl
  all_goals
    clear hM
    go_enter Tryz.func19, Tryz.ntmps19
    go_wp2_with fail
    have c0 := hX.c0
    have c1 := hX.c1
    have c2 := hX.c2
    generalize w.alloc (.cells #[.int .i64 m, .int .i64 r, .int .i64 x] 33) = w1 at *
    generalize hBB : w.heap.size = B at hX c0 c1 c2 ⊢
    go_wp2_with (first | (go_at_call 39; with_reducible refine (hm _).mono ?_; rintro e w' ⟨rfl, hb⟩; have hX := hX.step hb; have c0 := hX.c0; have c1 := hX.c1; have c2 := hX.c2; clear hb))
    go_ret
    exact ⟨rfl, hX.below⟩

end Go.Proofs.YtdbbnkjnmldnpaaGreatDoor
