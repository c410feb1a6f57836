import Derived.Test.YtlegcfjafdihlaaGreatDoorZR05
import Derived.Test.YtlegcfjafdihlaaGreatDoorZR06
import Derived.Test.YtlegcfjafdihlaaGreatDoorZR09
/-
  Right of the reference of package line. No condition.
-/
namespace Go.Proofs.YtlegcfjafdihlaaGreatDoor
open Go.RowKit
set_option linter.unusedSimpArgs false
set_option linter.unusedVariables false
set_option maxHeartbeats 4000000
set_option maxRecDepth 100000
attribute [local irreducible] wpQuiet
theorem rrightL_0 (a b o : Bool) (d : Int) (e f : Bool) (t l : Int) (s : ByteArray) (c0 : d < 0) (w : World) : Calls Tryz.prog 93 #[.agg #[.bool a, .bool b, .bool o, .int .i64 d, .bool e, .bool f, .int .i64 t, .int .i64 l, .string s]] w fun e' w' => e' = .returned (.bool (false)) ∧ Below w.heap.size w w' := by
  have d0 : decide (d < 0) = true := decide_eq_true c0
  go_enter Tryz.func93, Tryz.ntmps93
  go_wp2
  go_ret
  exact ⟨rfl, ((Bag.nil w).new 83 _).below⟩
theorem rrightL_1 (a b o : Bool) (d : Int) (e f : Bool) (t l : Int) (s : ByteArray) (c0 : ¬ d < 0) (c1 : 255 < d) (w : World) : Calls Tryz.prog 93 #[.agg #[.bool a, .bool b, .bool o, .int .i64 d, .bool e, .bool f, .int .i64 t, .int .i64 l, .string s]] w fun e' w' => e' = .returned (.bool (false)) ∧ Below w.heap.size w w' := by
  have d0 : decide (d < 0) = false := decide_eq_false c0
  have d1 : decide (255 < d) = true := decide_eq_true c1
  go_enter Tryz.func93, Tryz.ntmps93
  go_wp2
  go_ret
  exact ⟨rfl, ((Bag.nil w).new 83 _).below⟩
theorem rrightL_2 (a b o : Bool) (d : Int) (e f : Bool) (t l : Int) (s : ByteArray) (c0 : ¬ d < 0) (c1 : ¬ 255 < d) (c2 : t < 0) (w : World) : Calls Tryz.prog 93 #[.agg #[.bool a, .bool b, .bool o, .int .i64 d, .bool e, .bool f, .int .i64 t, .int .i64 l, .string s]] w fun e' w' => e' = .returned (.bool (false)) ∧ Below w.heap.size w w' := by
  have d0 : decide (d < 0) = false := decide_eq_false c0
  have d1 : decide (255 < d) = false := decide_eq_false c1
  have d2 : decide (t < 0) = true := decide_eq_true c2
  go_enter Tryz.func93, Tryz.ntmps93
  go_wp2
  go_ret
  exact ⟨rfl, ((Bag.nil w).new 83 _).below⟩
theorem rrightL_3 (a b o : Bool) (d : Int) (e f : Bool) (t l : Int) (s : ByteArray) (c0 : ¬ d < 0) (c1 : ¬ 255 < d) (c2 : ¬ t < 0) (c3 : 255 < t) (w : World) : Calls Tryz.prog 93 #[.agg #[.bool a, .bool b, .bool o, .int .i64 d, .bool e, .bool f, .int .i64 t, .int .i64 l, .string s]] w fun e' w' => e' = .returned (.bool (false)) ∧ Below w.heap.size w w' := by
  have d0 : decide (d < 0) = false := decide_eq_false c0
  have d1 : decide (255 < d) = false := decide_eq_false c1
  have d2 : decide (t < 0) = false := decide_eq_false c2
  have d3 : decide (255 < t) = true := decide_eq_true c3
  go_enter Tryz.func93, Tryz.ntmps93
  go_wp2
  go_ret
  exact ⟨rfl, ((Bag.nil w).new 83 _).below⟩
theorem rrightL_4 (a b o : Bool) (d : Int) (e f : Bool) (t l : Int) (s : ByteArray) (c0 : ¬ d < 0) (c1 : ¬ 255 < d) (c2 : ¬ t < 0) (c3 : ¬ 255 < t) (c4 : 4096 < (s.size : Int)) (w : World) : Calls Tryz.prog 93 #[.agg #[.bool a, .bool b, .bool o, .int .i64 d, .bool e, .bool f, .int .i64 t, .int .i64 l, .string s]] w fun e' w' => e' = .returned (.bool (false)) ∧ Below w.heap.size w w' := by
  have d0 : decide (d < 0) = false := decide_eq_false c0
  have d1 : decide (255 < d) = false := decide_eq_false c1
  have d2 : decide (t < 0) = false := decide_eq_false c2
  have d3 : decide (255 < t) = false := decide_eq_false c3
  have d4 : decide (4096 < (s.size : Int)) = true := decide_eq_true c4
  go_enter Tryz.func93, Tryz.ntmps93
  go_wp2
  go_ret
  exact ⟨rfl, ((Bag.nil w).new 83 _).below⟩
theorem rrightL_5 (a b o : Bool) (d : Int) (e f : Bool) (t l : Int) (s : ByteArray) (c0 : ¬ d < 0) (c1 : ¬ 255 < d) (c2 : ¬ t < 0) (c3 : ¬ 255 < t) (c4 : ¬ 4096 < (s.size : Int)) (c5 : ¬ 0 ≤ l) (w : World) : Calls Tryz.prog 93 #[.agg #[.bool a, .bool b, .bool o, .int .i64 d, .bool e, .bool f, .int .i64 t, .int .i64 l, .string s]] w fun e' w' => e' = .returned (.bool (false)) ∧ Below w.heap.size w w' := by
  have d0 : decide (d < 0) = false := decide_eq_false c0
  have d1 : decide (255 < d) = false := decide_eq_false c1
  have d2 : decide (t < 0) = false := decide_eq_false c2
  have d3 : decide (255 < t) = false := decide_eq_false c3
  have d4 : decide (4096 < (s.size : Int)) = false := decide_eq_false c4
  have d5 : decide (0 ≤ l) = false := decide_eq_false c5
  go_enter Tryz.func93, Tryz.ntmps93
  go_wp2
  go_ret
  exact ⟨rfl, ((Bag.nil w).new 83 _).below⟩
theorem rrightL_6 (a b o : Bool) (d : Int) (e f : Bool) (t l : Int) (s : ByteArray) (c0 : ¬ d < 0) (c1 : ¬ 255 < d) (c2 : ¬ t < 0) (c3 : ¬ 255 < t) (c4 : ¬ 4096 < (s.size : Int)) (c5 : 0 ≤ l) (c6 : ¬ l ≤ 4) (w : World) : Calls Tryz.prog 93 #[.agg #[.bool a, .bool b, .bool o, .int .i64 d, .bool e, .bool f, .int .i64 t, .int .i64 l, .string s]] w fun e' w' => e' = .returned (.bool (false)) ∧ Below w.heap.size w w' := by
  have d0 : decide (d < 0) = false := decide_eq_false c0
  have d1 : decide (255 < d) = false := decide_eq_false c1
  have d2 : decide (t < 0) = false := decide_eq_false c2
  have d3 : decide (255 < t) = false := decide_eq_false c3
  have d4 : decide (4096 < (s.size : Int)) = false := decide_eq_false c4
  have d5 : decide (0 ≤ l) = true := decide_eq_true c5
  have d6 : decide (l ≤ 4) = false := decide_eq_false c6
  go_enter Tryz.func93, Tryz.ntmps93
  go_wp2
  go_ret
  exact ⟨rfl, ((Bag.nil w).new 83 _).below⟩
theorem rrightL_7 (a b o : Bool) (d : Int) (e f : Bool) (t l : Int) (s : ByteArray) (c0 : ¬ d < 0) (c1 : ¬ 255 < d) (c2 : ¬ t < 0) (c3 : ¬ 255 < t) (c4 : ¬ 4096 < (s.size : Int)) (c5 : 0 ≤ l) (c6 : l ≤ 4) (w : World) : Calls Tryz.prog 93 #[.agg #[.bool a, .bool b, .bool o, .int .i64 d, .bool e, .bool f, .int .i64 t, .int .i64 l, .string s]] w fun e' w' => e' = .returned (.bool (f == (l == 0))) ∧ Below w.heap.size w w' := by
  have d0 : decide (d < 0) = false := decide_eq_false c0
  have d1 : decide (255 < d) = false := decide_eq_false c1
  have d2 : decide (t < 0) = false := decide_eq_false c2
  have d3 : decide (255 < t) = false := decide_eq_false c3
  have d4 : decide (4096 < (s.size : Int)) = false := decide_eq_false c4
  have d5 : decide (0 ≤ l) = true := decide_eq_true c5
  have d6 : decide (l ≤ 4) = true := decide_eq_true c6
  go_enter Tryz.func93, Tryz.ntmps93
  go_wp2
  go_ret
  exact ⟨rfl, ((Bag.nil w).new 83 _).below⟩
theorem rrightL_any (x : Ln) (w : World) : Calls Tryz.prog 93 #[.agg #[.bool (x).a, .bool (x).b, .bool (x).o, .int .i64 (x).d, .bool (x).e, .bool (x).f, .int .i64 (x).t, .int .i64 (x).l, .string (x).s]] w fun e' w' => e' = .returned (.bool x.right) ∧ Below w.heap.size w w' := by
  obtain ⟨a, b, o, d, e, f, t, l, s⟩ := x
  by_cases c0 : d < 0
  · rw [show Ln.right ⟨a, b, o, d, e, f, t, l, s⟩ = false from by unfold Ln.right; simp; omega]
    exact rrightL_0 a b o d e f t l s c0 w
  by_cases c1 : 255 < d
  · rw [show Ln.right ⟨a, b, o, d, e, f, t, l, s⟩ = false from by unfold Ln.right; simp; omega]
    exact rrightL_1 a b o d e f t l s c0 c1 w
  by_cases c2 : t < 0
  · rw [show Ln.right ⟨a, b, o, d, e, f, t, l, s⟩ = false from by unfold Ln.right; simp; omega]
    exact rrightL_2 a b o d e f t l s c0 c1 c2 w
  by_cases c3 : 255 < t
  · rw [show Ln.right ⟨a, b, o, d, e, f, t, l, s⟩ = false from by unfold Ln.right; simp; omega]
    exact rrightL_3 a b o d e f t l s c0 c1 c2 c3 w
  by_cases c4 : 4096 < (s.size : Int)
  · rw [show Ln.right ⟨a, b, o, d, e, f, t, l, s⟩ = false from by unfold Ln.right; simp; omega]
    exact rrightL_4 a b o d e f t l s c0 c1 c2 c3 c4 w
  by_cases c5 : ¬ 0 ≤ l
  · rw [show Ln.right ⟨a, b, o, d, e, f, t, l, s⟩ = false from by unfold Ln.right; simp; omega]
    exact rrightL_5 a b o d e f t l s c0 c1 c2 c3 c4 c5 w
  replace c5 : 0 ≤ l := by omega
  by_cases c6 : ¬ l ≤ 4
  · rw [show Ln.right ⟨a, b, o, d, e, f, t, l, s⟩ = false from by unfold Ln.right; simp; omega]
    exact rrightL_6 a b o d e f t l s c0 c1 c2 c3 c4 c5 c6 w
  replace c6 : l ≤ 4 := by omega
  rw [show Ln.right ⟨a, b, o, d, e, f, t, l, s⟩ = (f == (l == 0)) from by
    unfold Ln.right
    have h0 : decide (l = 0) = (l == 0) := by rw [Bool.eq_iff_iff]; simp
    simp only [h0]
    rw [decide_eq_true (show 0 ≤ d by omega), decide_eq_true (show d ≤ 255 by omega), decide_eq_true (show 0 ≤ t by omega), decide_eq_true (show t ≤ 255 by omega), decide_eq_true (show s.size ≤ 4096 by omega), decide_eq_true c5, decide_eq_true c6]; rfl]
  exact rrightL_7 a b o d e f t l s c0 c1 c2 c3 c4 c5 c6 w
end Go.Proofs.YtlegcfjafdihlaaGreatDoor
/-
  The reference of package clock. Condition: where said, the clock is valid.
-/
namespace Go.Proofs.YtlegcfjafdihlaaGreatDoor
open Go.RowKit
set_option linter.unusedSimpArgs false
set_option linter.unusedVariables false
set_option maxHeartbeats 4000000
set_option maxRecDepth 100000
attribute [local irreducible] wpQuiet
theorem rright_0 (e r : Bool) (p l : Int)  (c0 : ¬ 1 ≤ p) (w : World) : Calls Tryz.prog 96 #[.agg #[.bool e, .bool r, .int .i64 p, .int .i64 l]] w fun e' w' => e' = .returned (.bool false) ∧ Below w.heap.size w w' := by
  have d0 : decide (1 ≤ p) = false := decide_eq_false c0
  go_enter Tryz.func96, Tryz.ntmps96
  go_wp2
  go_ret
  exact ⟨rfl, ((Bag.nil w).new 39 _).below⟩
theorem rright_1 (e r : Bool) (p l : Int) (c0 : 1 ≤ p) (c1 : ¬ p ≤ 65535) (w : World) : Calls Tryz.prog 96 #[.agg #[.bool e, .bool r, .int .i64 p, .int .i64 l]] w fun e' w' => e' = .returned (.bool false) ∧ Below w.heap.size w w' := by
  have d0 : decide (1 ≤ p) = true := decide_eq_true c0
  have d1 : decide (p ≤ 65535) = false := decide_eq_false c1
  go_enter Tryz.func96, Tryz.ntmps96
  go_wp2
  go_ret
  exact ⟨rfl, ((Bag.nil w).new 39 _).below⟩
theorem rright_2 (e r : Bool) (p l : Int) (c0 : 1 ≤ p) (c1 : p ≤ 65535) (c2 : ¬ 1 ≤ l) (w : World) : Calls Tryz.prog 96 #[.agg #[.bool e, .bool r, .int .i64 p, .int .i64 l]] w fun e' w' => e' = .returned (.bool false) ∧ Below w.heap.size w w' := by
  have d0 : decide (1 ≤ p) = true := decide_eq_true c0
  have d1 : decide (p ≤ 65535) = true := decide_eq_true c1
  have d2 : decide (1 ≤ l) = false := decide_eq_false c2
  go_enter Tryz.func96, Tryz.ntmps96
  go_wp2
  go_ret
  exact ⟨rfl, ((Bag.nil w).new 39 _).below⟩
theorem rright_3 (e r : Bool) (p l : Int) (c0 : 1 ≤ p) (c1 : p ≤ 65535) (c2 : 1 ≤ l) (c3 : ¬ l ≤ p) (w : World) : Calls Tryz.prog 96 #[.agg #[.bool e, .bool r, .int .i64 p, .int .i64 l]] w fun e' w' => e' = .returned (.bool false) ∧ Below w.heap.size w w' := by
  have d0 : decide (1 ≤ p) = true := decide_eq_true c0
  have d1 : decide (p ≤ 65535) = true := decide_eq_true c1
  have d2 : decide (1 ≤ l) = true := decide_eq_true c2
  have d3 : decide (l ≤ p) = false := decide_eq_false c3
  go_enter Tryz.func96, Tryz.ntmps96
  go_wp2
  go_ret
  exact ⟨rfl, ((Bag.nil w).new 39 _).below⟩
theorem rright_4 (e r : Bool) (p l : Int) (c0 : 1 ≤ p) (c1 : p ≤ 65535) (c2 : 1 ≤ l) (c3 : l ≤ p) (w : World) : Calls Tryz.prog 96 #[.agg #[.bool e, .bool r, .int .i64 p, .int .i64 l]] w fun e' w' => e' = .returned (.bool true) ∧ Below w.heap.size w w' := by
  have d0 : decide (1 ≤ p) = true := decide_eq_true c0
  have d1 : decide (p ≤ 65535) = true := decide_eq_true c1
  have d2 : decide (1 ≤ l) = true := decide_eq_true c2
  have d3 : decide (l ≤ p) = true := decide_eq_true c3
  go_enter Tryz.func96, Tryz.ntmps96
  go_wp2
  go_ret
  exact ⟨rfl, ((Bag.nil w).new 39 _).below⟩
theorem rright_any_13 (c : Ck) (w : World) : Calls Tryz.prog 96 #[.agg #[.bool c.e, .bool c.r, .int .i64 c.p, .int .i64 c.l]] w fun e' w' => e' = .returned (.bool c.right) ∧ Below w.heap.size w w' := by
  obtain ⟨e, r, p, l⟩ := c
  unfold Ck.right
  by_cases c0 : ¬ 1 ≤ p
  · have := rright_0 e r p l c0 w
    simpa [c0] using this
  replace c0 : 1 ≤ p := by omega
  by_cases c1 : ¬ p ≤ 65535
  · have := rright_1 e r p l c0 c1 w
    simpa [c0, c1] using this
  replace c1 : p ≤ 65535 := by omega
  by_cases c2 : ¬ 1 ≤ l
  · have := rright_2 e r p l c0 c1 c2 w
    simpa [c0, c1, c2] using this
  replace c2 : 1 ≤ l := by omega
  by_cases c3 : ¬ l ≤ p
  · have := rright_3 e r p l c0 c1 c2 c3 w
    simpa [c0, c1, c2, c3] using this
  replace c3 : l ≤ p := by omega
  have := rright_4 e r p l c0 c1 c2 c3 w
  simpa [c0, c1, c2, c3] using this
end Go.Proofs.YtlegcfjafdihlaaGreatDoor
/-
  word, bit, Reset, Accept, Requests, Mount, Read of the reference. No condition.
-/
namespace Go.Proofs.YtlegcfjafdihlaaGreatDoor
open Go.RowKit
set_option linter.unusedSimpArgs false
set_option linter.unusedVariables false
set_option maxHeartbeats 4000000
set_option maxRecDepth 100000
attribute [local irreducible] wpQuiet

theorem rwordT_any (n : Int) (w : World) : Calls Tryz.prog 134 #[.int .i64 n] w fun e' w' => e' = .returned (.bool (wordV_17 n)) ∧ Below w.heap.size w w' := by
  have hB := Below.refl w.heap.size w
  unfold wordV_17
  by_cases h1 : 0 ≤ n
  · have d1 : decide (0 ≤ n) = true := decide_eq_true h1
    go_enter Tryz.func134, Tryz.ntmps134
    go_wp2
    go_ret
    exact ⟨by simp [h1], hB⟩
  · have d1 : decide (0 ≤ n) = false := decide_eq_false h1
    go_enter Tryz.func134, Tryz.ntmps134
    go_wp2
    go_ret
    exact ⟨by simp, hB⟩
end Go.Proofs.YtlegcfjafdihlaaGreatDoor
