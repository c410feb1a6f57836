/-
  Walks over the calls of package operand and of its reference. No condition.
-/
import Derived.Test.YtipaednpelapgaaDoorProg
import Derived.Test.YtipaednpelapgaaDoorOpA
import Derived.WalkKit
import Derived.WalkSpells
import Derived.WalkLawsBesides
import Derived.Deep.RegionHeld3
import Derived.Deep.DeepCutAuto
import Derived.Deep.QuietTactic
import Derived.BigQuiet
import Derived.KernelRfl
namespace Go.Proofs.YtipaednpelapgaaDoor
open Go.RowKit
set_option linter.unusedSimpArgs false
set_option maxHeartbeats 1000000

def Hid (p : Prop) : Prop := p
theorem hid {p : Prop} (h : p) : Hid p := h
theorem ret_bool {a b : Bool} (h : a = b) : Ending.returned (.bool a) = .returned (.bool b) := by rw [h]
theorem ret_int {k : IntKind} {a b : Int} (h : a = b) : Ending.returned (.int k a) = .returned (.int k b) := by rw [h]

/-- A box that holds an operand; what lay below it is as it was. -/
structure Bx (B : Nat) (m r x : Int) (w0 w : World) : Prop where
  c0 : w.cell? ⟨B, 0, none⟩ = some (.int .i64 m)
  c1 : w.cell? ⟨B, 1, none⟩ = some (.int .i64 r)
  c2 : w.cell? ⟨B, 2, none⟩ = some (.int .i64 x)
  lt : B < w.heap.size
  below : Below w0.heap.size w0 w
theorem Bx.step {B : Nat} {m r x : Int} {w0 w w' : World} (h : Bx B m r x w0 w) (hb : Below w.heap.size w w') : Bx B m r x w0 w' :=
  ⟨(hb.cell (p := ⟨B, 0, none⟩) h.lt).trans h.c0, (hb.cell (p := ⟨B, 1, none⟩) h.lt).trans h.c1, (hb.cell (p := ⟨B, 2, none⟩) h.lt).trans h.c2, Nat.lt_of_lt_of_le h.lt hb.size, h.below.trans (hb.mono h.below.size)⟩
theorem Bx.put (m r x : Int) (w : World) : Bx w.heap.size m r x w (w.alloc (.cells #[.int .i64 m, .int .i64 r, .int .i64 x] 29)) :=
  ⟨by simp, by simp, by simp, by simp, (Below.refl _ _).alloc (Nat.le_refl _) _⟩
theorem Bx.drew {B : Nat} {m r x : Int} {w0 w : World} (h : Bx B m r x w0 w) : Bx B m r x w0 w.drew := ⟨h.c0, h.c1, h.c2, h.lt, h.below.drew⟩

/-- A region that draws its order, walked once in the order of the text, in every world of a class. -/
theorem region_class {P : Program} {id : Nat} {Q : Exit → Act → World → Prop} {a : Act} {w : World} {l : List Oper} (C : World → Prop) (hm : P.follows .mixedOrders = true) (hB : Region.lexB .any l.toArray = true) (hC : C w.drew)
    (h : wpQuiet P l.toArray C (fun a' => ∀ w', C w' → Q .normal a' w') l a) : (Code.region id l.toArray true).wp P Q a w :=
  wp_region_quiet hm hB hC (by simpa using h)
attribute [local irreducible] wpQuiet

theorem mode_any (m r x : Int) (w : World) : Calls Tryd.prog 41 #[.agg #[.int .i64 m, .int .i64 r, .int .i64 x]] w fun e w' => e = .returned (.int .i64 (m % 8)) ∧ Below w.heap.size w w' := by
  have A := a7 m
  generalize m % 8 = M at *
  go_enter Tryd.func41, Tryd.ntmps41
  go_wp2
  go_ret
  exact ⟨rfl, (Below.refl _ _).alloc (Nat.le_refl _) _⟩

theorem reg_any (m r x : Int) (w : World) : Calls Tryd.prog 42 #[.agg #[.int .i64 m, .int .i64 r, .int .i64 x]] w fun e w' => e = .returned (.int .i64 (r % 8)) ∧ Below w.heap.size w w' := by
  have A := a7 r
  generalize r % 8 = M at *
  go_enter Tryd.func42, Tryd.ntmps42
  go_wp2
  go_ret
  exact ⟨rfl, (Below.refl _ _).alloc (Nat.le_refl _) _⟩

theorem rmode_any (m r x : Int) (w : World) : Calls Tryd.prog 54 #[.agg #[.int .i64 m, .int .i64 r, .int .i64 x]] w fun e w' => e = .returned (.int .i64 (m % 8)) ∧ Below w.heap.size w w' := by
  have A := a7 m
  generalize m % 8 = M at *
  go_enter Tryd.func54, Tryd.ntmps54
  go_wp2
  go_ret
  exact ⟨rfl, (Below.refl _ _).alloc (Nat.le_refl _) _⟩

theorem rreg_any (m r x : Int) (w : World) : Calls Tryd.prog 55 #[.agg #[.int .i64 m, .int .i64 r, .int .i64 x]] w fun e w' => e = .returned (.int .i64 (r % 8)) ∧ Below w.heap.size w w' := by
  have A := a7 r
  generalize r % 8 = M at *
  go_enter Tryd.func55, Tryd.ntmps55
  go_wp2
  go_ret
  exact ⟨rfl, (Below.refl _ _).alloc (Nat.le_refl _) _⟩

theorem ext_any (m r x : Int) (w : World) : Calls Tryd.prog 43 #[.agg #[.int .i64 m, .int .i64 r, .int .i64 x]] w fun e w' => e = .returned (.bool (exR (m % 8) (r % 8))) ∧ Below w.heap.size w w' := by
  have hm := fun w => mode_any m r x w
  have hr := fun w => reg_any m r x w
  have hM := low_bd m
  have hX := Bx.put m r x w
  generalize m % 8 = M at *
  generalize r % 8 = R at *
  by_cases h23 : M = 2 ∨ M = 3
  · rw [exR_23 R h23]
    rcases h23 with rfl | rfl
    all_goals
      clear hM
      go_enter Tryd.func43, Tryd.ntmps43
      go_wp2_with fail
      have c0 := hX.c0
      have c1 := hX.c1
      have c2 := hX.c2
      generalize w.alloc (.cells #[.int .i64 m, .int .i64 r, .int .i64 x] 29) = w1 at *
      generalize hBB : w.heap.size = B at hX c0 c1 c2 ⊢
      go_wp2_with (first | (go_at_call 41; with_reducible refine (hm _).mono ?_; rintro e w' ⟨rfl, hb⟩; have hX := hX.step hb; have c0 := hX.c0; have c1 := hX.c1; have c2 := hX.c2; clear hb) | (go_at_call 42; with_reducible refine (hr _).mono ?_; rintro e w' ⟨rfl, hb⟩; have hX := hX.step hb; have c0 := hX.c0; have c1 := hX.c1; have c2 := hX.c2; clear hb))
      go_ret
      exact ⟨rfl, hX.below⟩
  · by_cases h67 : M = 6 ∨ M = 7
    · rw [exR_67 R h67]
      clear h23
      rcases h67 with rfl | rfl
      all_goals
        clear hM
        go_enter Tryd.func43, Tryd.ntmps43
        go_wp2_with fail
        have c0 := hX.c0
        have c1 := hX.c1
        have c2 := hX.c2
        generalize w.alloc (.cells #[.int .i64 m, .int .i64 r, .int .i64 x] 29) = w1 at *
        generalize hBB : w.heap.size = B at hX c0 c1 c2 ⊢
        go_wp2_with (first | (go_at_call 41; with_reducible refine (hm _).mono ?_; rintro e w' ⟨rfl, hb⟩; have hX := hX.step hb; have c0 := hX.c0; have c1 := hX.c1; have c2 := hX.c2; clear hb) | (go_at_call 42; with_reducible refine (hr _).mono ?_; rintro e w' ⟨rfl, hb⟩; have hX := hX.step hb; have c0 := hX.c0; have c1 := hX.c1; have c2 := hX.c2; clear hb))
        go_ret
        exact ⟨rfl, hX.below⟩
    · have h01 : M = 0 ∨ M = 1 ∨ M = 4 ∨ M = 5 := by omega
      rw [exR_no R h01]
      clear h23 h67
      rcases h01 with rfl | rfl | rfl | rfl
      all_goals
        clear hM
        go_enter Tryd.func43, Tryd.ntmps43
        go_wp2_with fail
        have c0 := hX.c0
        have c1 := hX.c1
        have c2 := hX.c2
        generalize w.alloc (.cells #[.int .i64 m, .int .i64 r, .int .i64 x] 29) = w1 at *
        generalize hBB : w.heap.size = B at hX c0 c1 c2 ⊢
        go_wp2_with (first | (go_at_call 41; with_reducible refine (hm _).mono ?_; rintro e w' ⟨rfl, hb⟩; have hX := hX.step hb; have c0 := hX.c0; have c1 := hX.c1; have c2 := hX.c2; clear hb) | (go_at_call 42; with_reducible refine (hr _).mono ?_; rintro e w' ⟨rfl, hb⟩; have hX := hX.step hb; have c0 := hX.c0; have c1 := hX.c1; have c2 := hX.c2; clear hb))
        go_ret
        exact ⟨rfl, hX.below⟩

theorem rext_any (m r x : Int) (w : World) : Calls Tryd.prog 31 #[.agg #[.int .i64 m, .int .i64 r, .int .i64 x]] w fun e w' => e = .returned (.bool (exR (m % 8) (r % 8))) ∧ Below w.heap.size w w' := by
  have hm := fun w => rmode_any m r x w
  have hr := fun w => rreg_any m r x w
  have hM := low_bd m
  have hX := Bx.put m r x w
  generalize m % 8 = M at *
  generalize r % 8 = R at *
  by_cases h23 : M = 2 ∨ M = 3
  · rw [exR_23 R h23]
    rcases h23 with rfl | rfl
    all_goals
      clear hM
      go_enter Tryd.func31, Tryd.ntmps31
      go_wp2_with fail
      have c0 := hX.c0
      have c1 := hX.c1
      have c2 := hX.c2
      generalize w.alloc (.cells #[.int .i64 m, .int .i64 r, .int .i64 x] 29) = w1 at *
      generalize hBB : w.heap.size = B at hX c0 c1 c2 ⊢
      go_wp2_with (first | (go_at_call 54; with_reducible refine (hm _).mono ?_; rintro e w' ⟨rfl, hb⟩; have hX := hX.step hb; have c0 := hX.c0; have c1 := hX.c1; have c2 := hX.c2; clear hb) | (go_at_call 55; with_reducible refine (hr _).mono ?_; rintro e w' ⟨rfl, hb⟩; have hX := hX.step hb; have c0 := hX.c0; have c1 := hX.c1; have c2 := hX.c2; clear hb))
      go_ret
      exact ⟨rfl, hX.below⟩
  · by_cases h67 : M = 6 ∨ M = 7
    · rw [exR_67 R h67]
      clear h23
      rcases h67 with rfl | rfl
      all_goals
        clear hM
        go_enter Tryd.func31, Tryd.ntmps31
        go_wp2_with fail
        have c0 := hX.c0
        have c1 := hX.c1
        have c2 := hX.c2
        generalize w.alloc (.cells #[.int .i64 m, .int .i64 r, .int .i64 x] 29) = w1 at *
        generalize hBB : w.heap.size = B at hX c0 c1 c2 ⊢
        go_wp2_with (first | (go_at_call 54; with_reducible refine (hm _).mono ?_; rintro e w' ⟨rfl, hb⟩; have hX := hX.step hb; have c0 := hX.c0; have c1 := hX.c1; have c2 := hX.c2; clear hb) | (go_at_call 55; with_reducible refine (hr _).mono ?_; rintro e w' ⟨rfl, hb⟩; have hX := hX.step hb; have c0 := hX.c0; have c1 := hX.c1; have c2 := hX.c2; clear hb))
        go_ret
        exact ⟨rfl, hX.below⟩
    · have h01 : M = 0 ∨ M = 1 ∨ M = 4 ∨ M = 5 := by omega
      rw [exR_no R h01]
      clear h23 h67
      rcases h01 with rfl | rfl | rfl | rfl
      all_goals
        clear hM
        go_enter Tryd.func31, Tryd.ntmps31
        go_wp2_with fail
        have c0 := hX.c0
        have c1 := hX.c1
        have c2 := hX.c2
        generalize w.alloc (.cells #[.int .i64 m, .int .i64 r, .int .i64 x] 29) = w1 at *
        generalize hBB : w.heap.size = B at hX c0 c1 c2 ⊢
        go_wp2_with (first | (go_at_call 54; with_reducible refine (hm _).mono ?_; rintro e w' ⟨rfl, hb⟩; have hX := hX.step hb; have c0 := hX.c0; have c1 := hX.c1; have c2 := hX.c2; clear hb) | (go_at_call 55; with_reducible refine (hr _).mono ?_; rintro e w' ⟨rfl, hb⟩; have hX := hX.step hb; have c0 := hX.c0; have c1 := hX.c1; have c2 := hX.c2; clear hb))
        go_ret
        exact ⟨rfl, hX.below⟩

theorem def_any (m r x : Int) (w : World) : Calls Tryd.prog 23 #[.agg #[.int .i64 m, .int .i64 r, .int .i64 x]] w fun e w' => e = .returned (.bool (dfR (m % 8))) ∧ Below w.heap.size w w' := by
  have hm := fun w => mode_any m r x w
  have hM := low_bd m
  have hX := Bx.put m r x w
  generalize m % 8 = M at *
  rcases low_cases hM with rfl | rfl | rfl | rfl | rfl | rfl | rfl | rfl
  all_goals
    clear hM
    go_enter Tryd.func23, Tryd.ntmps23
    go_wp2_with fail
    have c0 := hX.c0
    have c1 := hX.c1
    have c2 := hX.c2
    generalize w.alloc (.cells #[.int .i64 m, .int .i64 r, .int .i64 x] 29) = w1 at *
    generalize hBB : w.heap.size = B at hX c0 c1 c2 ⊢
    go_wp2_with (first | (go_at_call 41; with_reducible refine (hm _).mono ?_; rintro e w' ⟨rfl, hb⟩; have hX := hX.step hb; have c0 := hX.c0; have c1 := hX.c1; have c2 := hX.c2; clear hb))
    go_ret
    exact ⟨rfl, hX.below⟩

end Go.Proofs.YtipaednpelapgaaDoor
