import Derived.Test.YtlegcfjafdihlaaGreatDoorZR06
import Derived.Test.YtlegcfjafdihlaaGreatDoorZR10
import Derived.Maps.AppendAt
import Derived.Laws.IdiomStrings
import Derived.Test.YtlegcfjafdihlaaGreatDoorZR09
import Derived.Test.YtlegcfjafdihlaaGreatDoorZR18
/-
  The contracts of package line: none is a condition any more. No condition.
-/
namespace Go.Proofs.YtlegcfjafdihlaaGreatDoor
open Go.RowKit
set_option linter.unusedSimpArgs false
set_option linter.unusedVariables false
set_option maxHeartbeats 4000000
set_option maxRecDepth 100000
attribute [local irreducible] wpQuiet

section
variable {ops : Array Oper} {rest : List Oper} {o : Oper} {a : Act} {w w0 w1 : World} {Q : Exit → Act → World → Prop} {l : List (Nat × TypeId × List Value)}
end
/-- The answer of within. -/
def inB_14 (n g : Int) : Bool := decide (0 ≤ n) && decide (n ≤ g)
theorem pwithin_any_14 (n g : Int) (w : World) : Calls Tryz.prog 370 #[.int .i64 n, .int .i64 g] w fun e' w' => e' = .returned (.bool (inB_14 n g)) ∧ w = w' := by
  unfold inB_14
  by_cases c0 : 0 ≤ n
  · have d0 : decide (0 ≤ n) = true := decide_eq_true c0
    go_enter Tryz.func370, Tryz.ntmps370
    go_wp2
    go_ret
    exact ⟨by simp [d0], rfl⟩
  · have d0 : decide (0 ≤ n) = false := decide_eq_false c0
    go_enter Tryz.func370, Tryz.ntmps370
    go_wp2
    go_ret
    exact ⟨by simp [d0], rfl⟩
theorem pright_0_14 (a b o : Bool) (d : Int) (e f : Bool) (t l : Int) (s : ByteArray) (c0 : inB_14 d 255 = false) (w : World) : Calls Tryz.prog 365 #[.agg #[.bool a, .bool b, .bool o, .int .i64 d, .bool e, .bool f, .int .i64 t, .int .i64 l, .string s]] w fun e' w' => e' = .returned (.bool false) ∧ Below w.heap.size w w' := by
  have h0 : ∀ w, Calls Tryz.prog 370 #[.int .i64 d, .int .i64 255] w fun e' w' => e' = .returned (.bool false) ∧ w = w' := fun w => c0 ▸ pwithin_any_14 d 255 w
  clear c0
  have hX := (Bag.nil w).new 83 [.bool a, .bool b, .bool o, .int .i64 d, .bool e, .bool f, .int .i64 t, .int .i64 l, .string s]
  go_enter Tryz.func365, Tryz.ntmps365
  go_wp2_with (first | (go_at_call 370; first | ((with_reducible refine (h0 _).mono ?_); rintro e' w' ⟨rfl, rfl⟩)))
  go_ret
  exact ⟨rfl, hX.below⟩
theorem pright_1_14 (a b o : Bool) (d : Int) (e f : Bool) (t l : Int) (s : ByteArray) (c0 : inB_14 d 255 = true) (c1 : inB_14 t 255 = false) (w : World) : Calls Tryz.prog 365 #[.agg #[.bool a, .bool b, .bool o, .int .i64 d, .bool e, .bool f, .int .i64 t, .int .i64 l, .string s]] w fun e' w' => e' = .returned (.bool false) ∧ Below w.heap.size w w' := by
  have h0 : ∀ w, Calls Tryz.prog 370 #[.int .i64 d, .int .i64 255] w fun e' w' => e' = .returned (.bool true) ∧ w = w' := fun w => c0 ▸ pwithin_any_14 d 255 w
  have h1 : ∀ w, Calls Tryz.prog 370 #[.int .i64 t, .int .i64 255] w fun e' w' => e' = .returned (.bool false) ∧ w = w' := fun w => c1 ▸ pwithin_any_14 t 255 w
  clear c0 c1
  have hX := (Bag.nil w).new 83 [.bool a, .bool b, .bool o, .int .i64 d, .bool e, .bool f, .int .i64 t, .int .i64 l, .string s]
  go_enter Tryz.func365, Tryz.ntmps365
  go_wp2_with (first | (go_at_call 370; first | ((with_reducible refine (h0 _).mono ?_); rintro e' w' ⟨rfl, rfl⟩) | ((with_reducible refine (h1 _).mono ?_); rintro e' w' ⟨rfl, rfl⟩)))
  go_ret
  exact ⟨rfl, hX.below⟩
theorem pright_2_14 (a b o : Bool) (d : Int) (e f : Bool) (t l : Int) (s : ByteArray) (c0 : inB_14 d 255 = true) (c1 : inB_14 t 255 = true) (c2 : inB_14 l 4 = false) (w : World) : Calls Tryz.prog 365 #[.agg #[.bool a, .bool b, .bool o, .int .i64 d, .bool e, .bool f, .int .i64 t, .int .i64 l, .string s]] w fun e' w' => e' = .returned (.bool false) ∧ Below w.heap.size w w' := by
  have h0 : ∀ w, Calls Tryz.prog 370 #[.int .i64 d, .int .i64 255] w fun e' w' => e' = .returned (.bool true) ∧ w = w' := fun w => c0 ▸ pwithin_any_14 d 255 w
  have h1 : ∀ w, Calls Tryz.prog 370 #[.int .i64 t, .int .i64 255] w fun e' w' => e' = .returned (.bool true) ∧ w = w' := fun w => c1 ▸ pwithin_any_14 t 255 w
  have h2 : ∀ w, Calls Tryz.prog 370 #[.int .i64 l, .int .i64 4] w fun e' w' => e' = .returned (.bool false) ∧ w = w' := fun w => c2 ▸ pwithin_any_14 l 4 w
  clear c0 c1 c2
  have hX := (Bag.nil w).new 83 [.bool a, .bool b, .bool o, .int .i64 d, .bool e, .bool f, .int .i64 t, .int .i64 l, .string s]
  go_enter Tryz.func365, Tryz.ntmps365
  go_wp2_with (first | (go_at_call 370; first | ((with_reducible refine (h0 _).mono ?_); rintro e' w' ⟨rfl, rfl⟩) | ((with_reducible refine (h1 _).mono ?_); rintro e' w' ⟨rfl, rfl⟩) | ((with_reducible refine (h2 _).mono ?_); rintro e' w' ⟨rfl, rfl⟩)))
  go_ret
  exact ⟨rfl, hX.below⟩
theorem pright_3_14 (a b o : Bool) (d : Int) (e f : Bool) (t l : Int) (s : ByteArray) (c0 : inB_14 d 255 = true) (c1 : inB_14 t 255 = true) (c2 : inB_14 l 4 = true) (c3 : (f == (l == 0)) = false) (w : World) : Calls Tryz.prog 365 #[.agg #[.bool a, .bool b, .bool o, .int .i64 d, .bool e, .bool f, .int .i64 t, .int .i64 l, .string s]] w fun e' w' => e' = .returned (.bool false) ∧ Below w.heap.size w w' := by
  have h0 : ∀ w, Calls Tryz.prog 370 #[.int .i64 d, .int .i64 255] w fun e' w' => e' = .returned (.bool true) ∧ w = w' := fun w => c0 ▸ pwithin_any_14 d 255 w
  have h1 : ∀ w, Calls Tryz.prog 370 #[.int .i64 t, .int .i64 255] w fun e' w' => e' = .returned (.bool true) ∧ w = w' := fun w => c1 ▸ pwithin_any_14 t 255 w
  have h2 : ∀ w, Calls Tryz.prog 370 #[.int .i64 l, .int .i64 4] w fun e' w' => e' = .returned (.bool true) ∧ w = w' := fun w => c2 ▸ pwithin_any_14 l 4 w
  clear c0 c1 c2
  have hX := (Bag.nil w).new 83 [.bool a, .bool b, .bool o, .int .i64 d, .bool e, .bool f, .int .i64 t, .int .i64 l, .string s]
  by_cases hz : l = 0
  all_goals
    have hz2 : (l == 0) = decide (l = 0) := by rw [Bool.eq_iff_iff]; simp
    first | rw [decide_eq_true hz] at hz2 | rw [decide_eq_false hz] at hz2
    rw [hz2] at c3
    clear hz
    cases f
    all_goals first
      | (exact absurd c3 (by decide))
      | (clear c3
         go_enter Tryz.func365, Tryz.ntmps365
         go_wp2_with (first | (go_at_call 370; first | ((with_reducible refine (h0 _).mono ?_); rintro e' w' ⟨rfl, rfl⟩) | ((with_reducible refine (h1 _).mono ?_); rintro e' w' ⟨rfl, rfl⟩) | ((with_reducible refine (h2 _).mono ?_); rintro e' w' ⟨rfl, rfl⟩)))
         go_ret
         exact ⟨rfl, hX.below⟩)
theorem pright_4_14 (a b o : Bool) (d : Int) (e f : Bool) (t l : Int) (s : ByteArray) (c0 : inB_14 d 255 = true) (c1 : inB_14 t 255 = true) (c2 : inB_14 l 4 = true) (c3 : (f == (l == 0)) = true) (c4 : ¬ (s.size : Int) ≤ 4096) (w : World) : Calls Tryz.prog 365 #[.agg #[.bool a, .bool b, .bool o, .int .i64 d, .bool e, .bool f, .int .i64 t, .int .i64 l, .string s]] w fun e' w' => e' = .returned (.bool false) ∧ Below w.heap.size w w' := by
  have h0 : ∀ w, Calls Tryz.prog 370 #[.int .i64 d, .int .i64 255] w fun e' w' => e' = .returned (.bool true) ∧ w = w' := fun w => c0 ▸ pwithin_any_14 d 255 w
  have h1 : ∀ w, Calls Tryz.prog 370 #[.int .i64 t, .int .i64 255] w fun e' w' => e' = .returned (.bool true) ∧ w = w' := fun w => c1 ▸ pwithin_any_14 t 255 w
  have h2 : ∀ w, Calls Tryz.prog 370 #[.int .i64 l, .int .i64 4] w fun e' w' => e' = .returned (.bool true) ∧ w = w' := fun w => c2 ▸ pwithin_any_14 l 4 w
  clear c0 c1 c2
  have d4 : decide ((s.size : Int) ≤ 4096) = false := decide_eq_false c4
  have hX := (Bag.nil w).new 83 [.bool a, .bool b, .bool o, .int .i64 d, .bool e, .bool f, .int .i64 t, .int .i64 l, .string s]
  by_cases hz : l = 0
  all_goals
    have hz2 : (l == 0) = decide (l = 0) := by rw [Bool.eq_iff_iff]; simp
    first | rw [decide_eq_true hz] at hz2 | rw [decide_eq_false hz] at hz2
    rw [hz2] at c3
    clear hz
    cases f
    all_goals first
      | (exact absurd c3 (by decide))
      | (clear c3
         go_enter Tryz.func365, Tryz.ntmps365
         go_wp2_with (first | (go_at_call 370; first | ((with_reducible refine (h0 _).mono ?_); rintro e' w' ⟨rfl, rfl⟩) | ((with_reducible refine (h1 _).mono ?_); rintro e' w' ⟨rfl, rfl⟩) | ((with_reducible refine (h2 _).mono ?_); rintro e' w' ⟨rfl, rfl⟩)))
         go_ret
         exact ⟨rfl, hX.below⟩)
theorem pright_5 (a b o : Bool) (d : Int) (e f : Bool) (t l : Int) (s : ByteArray) (c0 : inB_14 d 255 = true) (c1 : inB_14 t 255 = true) (c2 : inB_14 l 4 = true) (c3 : (f == (l == 0)) = true) (c4 : (s.size : Int) ≤ 4096) (w : World) : Calls Tryz.prog 365 #[.agg #[.bool a, .bool b, .bool o, .int .i64 d, .bool e, .bool f, .int .i64 t, .int .i64 l, .string s]] w fun e' w' => e' = .returned (.bool true) ∧ Below w.heap.size w w' := by
  have h0 : ∀ w, Calls Tryz.prog 370 #[.int .i64 d, .int .i64 255] w fun e' w' => e' = .returned (.bool true) ∧ w = w' := fun w => c0 ▸ pwithin_any_14 d 255 w
  have h1 : ∀ w, Calls Tryz.prog 370 #[.int .i64 t, .int .i64 255] w fun e' w' => e' = .returned (.bool true) ∧ w = w' := fun w => c1 ▸ pwithin_any_14 t 255 w
  have h2 : ∀ w, Calls Tryz.prog 370 #[.int .i64 l, .int .i64 4] w fun e' w' => e' = .returned (.bool true) ∧ w = w' := fun w => c2 ▸ pwithin_any_14 l 4 w
  clear c0 c1 c2
  have d4 : decide ((s.size : Int) ≤ 4096) = true := decide_eq_true c4
  have hX := (Bag.nil w).new 83 [.bool a, .bool b, .bool o, .int .i64 d, .bool e, .bool f, .int .i64 t, .int .i64 l, .string s]
  by_cases hz : l = 0
  all_goals
    have hz2 : (l == 0) = decide (l = 0) := by rw [Bool.eq_iff_iff]; simp
    first | rw [decide_eq_true hz] at hz2 | rw [decide_eq_false hz] at hz2
    rw [hz2] at c3
    clear hz
    cases f
    all_goals first
      | (exact absurd c3 (by decide))
      | (clear c3
         go_enter Tryz.func365, Tryz.ntmps365
         go_wp2_with (first | (go_at_call 370; first | ((with_reducible refine (h0 _).mono ?_); rintro e' w' ⟨rfl, rfl⟩) | ((with_reducible refine (h1 _).mono ?_); rintro e' w' ⟨rfl, rfl⟩) | ((with_reducible refine (h2 _).mono ?_); rintro e' w' ⟨rfl, rfl⟩)))
         go_ret
         exact ⟨rfl, hX.below⟩)
theorem prightL_any (x : Ln) (w : World) : Calls Tryz.prog 365 #[.agg #[.bool (x).a, .bool (x).b, .bool (x).o, .int .i64 (x).d, .bool (x).e, .bool (x).f, .int .i64 (x).t, .int .i64 (x).l, .string (x).s]] w fun e' w' => e' = .returned (.bool x.right) ∧ Below w.heap.size w w' := by
  obtain ⟨a, b, o, d, e, f, t, l, s⟩ := x
  have hR : Ln.right ⟨a, b, o, d, e, f, t, l, s⟩ = (inB_14 d 255 && inB_14 t 255 && inB_14 l 4 && (f == (l == 0)) && decide ((s.size : Int) ≤ 4096)) := by
    have h0 : decide (l = 0) = (l == 0) := by rw [Bool.eq_iff_iff]; simp
    have h1 : decide (s.size ≤ 4096) = decide ((s.size : Int) ≤ 4096) := by rw [Bool.eq_iff_iff]; simp; omega
    unfold Ln.right inB_14
    simp only [h0, h1]
    generalize decide (0 ≤ d) = p1; generalize decide (d ≤ 255) = p2; generalize decide (0 ≤ t) = p3; generalize decide (t ≤ 255) = p4; generalize decide (0 ≤ l) = p5; generalize decide (l ≤ 4) = p6; generalize (f == (l == 0)) = p7; generalize decide ((s.size : Int) ≤ 4096) = p8
    revert p1 p2 p3 p4 p5 p6 p7 p8
    decide
  rw [hR]
  cases c0 : inB_14 d 255
  · simpa [c0] using pright_0_14 a b o d e f t l s c0 w
  cases c1 : inB_14 t 255
  · simpa [c0, c1] using pright_1_14 a b o d e f t l s c0 c1 w
  cases c2 : inB_14 l 4
  · simpa [c0, c1, c2] using pright_2_14 a b o d e f t l s c0 c1 c2 w
  cases c3 : (f == (l == 0))
  · simpa [c0, c1, c2, c3] using pright_3_14 a b o d e f t l s c0 c1 c2 c3 w
  by_cases c4 : (s.size : Int) ≤ 4096
  · rw [decide_eq_true c4]; exact pright_5 a b o d e f t l s c0 c1 c2 c3 c4 w
  · rw [decide_eq_false c4]; exact pright_4_14 a b o d e f t l s c0 c1 c2 c3 c4 w
end Go.Proofs.YtlegcfjafdihlaaGreatDoor
/-
  within, transfers, status, Requests, Read, put, control, advanced of the program. Conditions: where told.
-/
namespace Go.Proofs.YtlegcfjafdihlaaGreatDoor
open Go.RowKit
set_option linter.unusedSimpArgs false
set_option linter.unusedVariables false
set_option maxHeartbeats 4000000
set_option maxRecDepth 100000
attribute [local irreducible] wpQuiet

/-- The answer of within. -/
def inW (n g : Int) : Bool := decide (0 ≤ n) && decide (n ≤ g)
theorem inW_iff (n g : Int) : inW n g = true ↔ 0 ≤ n ∧ n ≤ g := by unfold inW; simp
theorem pwithin_any (n g : Int) (w : World) : Calls Tryz.prog 304 #[.int .i64 n, .int .i64 g] w fun e' w' => e' = .returned (.bool (inW n g)) ∧ Below w.heap.size w w' := by
  have hB := Below.refl w.heap.size w
  unfold inW
  by_cases c0 : 0 ≤ n
  · have d0 : decide (0 ≤ n) = true := decide_eq_true c0
    go_enter Tryz.func304, Tryz.ntmps304
    go_wp2
    go_ret
    exact ⟨by simp [d0], hB⟩
  · have d0 : decide (0 ≤ n) = false := decide_eq_false c0
    go_enter Tryz.func304, Tryz.ntmps304
    go_wp2
    go_ret
    exact ⟨by simp [d0], hB⟩
/-- The answer of transfers. -/
def trB (c w : Int) : Bool := decide (c ≠ 0) && decide (w ≠ 0)
theorem ptrans_any (n r e : Bool) (c w1 a s l : Int) (vs vb : Value) (w : World) : Calls Tryz.prog 305 #[.agg #[vs, vb, .bool n, .bool r, .bool e, .int .i64 c, .int .i64 w1, .int .i64 a, .int .i64 s, .int .i64 l]] w fun e' w' => e' = .returned (.bool (trB c w1)) ∧ Below w.heap.size w w' := by
  have hX := (Bag.nil w).new 45 [vs, vb, .bool n, .bool r, .bool e, .int .i64 c, .int .i64 w1, .int .i64 a, .int .i64 s, .int .i64 l]
  unfold trB
  by_cases h1 : c = 0
  · subst h1
    go_enter Tryz.func305, Tryz.ntmps305
    go_wp2_with (first | ((with_reducible refine at_load ?_); refine wpList_bag_cell hX int_cell _ rfl rfl rfl rfl (.head _) rfl ?_))
    go_ret
    exact ⟨by simp, hX.below⟩
  · have d1 : (c != 0) = true := by simpa using h1
    go_enter Tryz.func305, Tryz.ntmps305
    go_wp2_with (first | ((with_reducible refine at_load ?_); refine wpList_bag_cell hX int_cell _ rfl rfl rfl rfl (.head _) rfl ?_))
    go_ret
    refine ⟨?_, hX.below⟩
    have e : (w1 != 0) = decide (w1 ≠ 0) := by rw [Bool.eq_iff_iff]; simp
    simp [h1, e]
end Go.Proofs.YtlegcfjafdihlaaGreatDoor
/-
  copied, New, Right, Accept, Reset, Write of the program. Conditions: at most 2^40 sectors and bad ones; Write: a command of the controller from 0 to 3.
-/
namespace Go.Proofs.YtlegcfjafdihlaaGreatDoor
open Go.RowKit
set_option linter.unusedSimpArgs false
set_option linter.unusedVariables false
set_option maxHeartbeats 4000000
set_option maxRecDepth 100000
attribute [local irreducible] wpQuiet

theorem Sts.below {w w' : World} {v : Value} {S : List ByteArray} (h : Sts w v S) (hb : Below w.heap.size w w') : Sts w' v S := Rz.below h hb
theorem Its.below {w w' : World} {v : Value} {S : List Int} (h : Its w v S) (hb : Below w.heap.size w w') : Its w' v S := Rz.below h hb
end Go.Proofs.YtlegcfjafdihlaaGreatDoor
