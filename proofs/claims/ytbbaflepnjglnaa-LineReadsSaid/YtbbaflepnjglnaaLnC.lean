/-
  Right of the reference of package line. No condition.
-/
import Derived.Test.YtbbaflepnjglnaaLnB
namespace Go.Proofs.Ytbbaflepnjglnaa
open Go.RowKit
set_option linter.unusedSimpArgs false
set_option linter.unusedVariables false
set_option maxHeartbeats 4000000
set_option maxRecDepth 100000
attribute [local irreducible] wpQuiet
theorem rrightL_0 (a b o : Bool) (d : Int) (e f : Bool) (t l : Int) (s : ByteArray) (c0 : d < 0) (w : World) : Calls Try.prog 10 #[.agg #[.bool a, .bool b, .bool o, .int .i64 d, .bool e, .bool f, .int .i64 t, .int .i64 l, .string s]] w fun e' w' => e' = .returned (.bool (false)) ∧ Below w.heap.size w w' := by
  have d0 : decide (d < 0) = true := decide_eq_true c0
  go_enter Try.func10, Try.ntmps10
  go_wp2
  go_ret
  exact ⟨rfl, ((Bag.nil w).new 23 _).below⟩
theorem rrightL_1 (a b o : Bool) (d : Int) (e f : Bool) (t l : Int) (s : ByteArray) (c0 : ¬ d < 0) (c1 : 255 < d) (w : World) : Calls Try.prog 10 #[.agg #[.bool a, .bool b, .bool o, .int .i64 d, .bool e, .bool f, .int .i64 t, .int .i64 l, .string s]] w fun e' w' => e' = .returned (.bool (false)) ∧ Below w.heap.size w w' := by
  have d0 : decide (d < 0) = false := decide_eq_false c0
  have d1 : decide (255 < d) = true := decide_eq_true c1
  go_enter Try.func10, Try.ntmps10
  go_wp2
  go_ret
  exact ⟨rfl, ((Bag.nil w).new 23 _).below⟩
theorem rrightL_2 (a b o : Bool) (d : Int) (e f : Bool) (t l : Int) (s : ByteArray) (c0 : ¬ d < 0) (c1 : ¬ 255 < d) (c2 : t < 0) (w : World) : Calls Try.prog 10 #[.agg #[.bool a, .bool b, .bool o, .int .i64 d, .bool e, .bool f, .int .i64 t, .int .i64 l, .string s]] w fun e' w' => e' = .returned (.bool (false)) ∧ Below w.heap.size w w' := by
  have d0 : decide (d < 0) = false := decide_eq_false c0
  have d1 : decide (255 < d) = false := decide_eq_false c1
  have d2 : decide (t < 0) = true := decide_eq_true c2
  go_enter Try.func10, Try.ntmps10
  go_wp2
  go_ret
  exact ⟨rfl, ((Bag.nil w).new 23 _).below⟩
theorem rrightL_3 (a b o : Bool) (d : Int) (e f : Bool) (t l : Int) (s : ByteArray) (c0 : ¬ d < 0) (c1 : ¬ 255 < d) (c2 : ¬ t < 0) (c3 : 255 < t) (w : World) : Calls Try.prog 10 #[.agg #[.bool a, .bool b, .bool o, .int .i64 d, .bool e, .bool f, .int .i64 t, .int .i64 l, .string s]] w fun e' w' => e' = .returned (.bool (false)) ∧ Below w.heap.size w w' := by
  have d0 : decide (d < 0) = false := decide_eq_false c0
  have d1 : decide (255 < d) = false := decide_eq_false c1
  have d2 : decide (t < 0) = false := decide_eq_false c2
  have d3 : decide (255 < t) = true := decide_eq_true c3
  go_enter Try.func10, Try.ntmps10
  go_wp2
  go_ret
  exact ⟨rfl, ((Bag.nil w).new 23 _).below⟩
theorem rrightL_4 (a b o : Bool) (d : Int) (e f : Bool) (t l : Int) (s : ByteArray) (c0 : ¬ d < 0) (c1 : ¬ 255 < d) (c2 : ¬ t < 0) (c3 : ¬ 255 < t) (c4 : 4096 < (s.size : Int)) (w : World) : Calls Try.prog 10 #[.agg #[.bool a, .bool b, .bool o, .int .i64 d, .bool e, .bool f, .int .i64 t, .int .i64 l, .string s]] w fun e' w' => e' = .returned (.bool (false)) ∧ Below w.heap.size w w' := by
  have d0 : decide (d < 0) = false := decide_eq_false c0
  have d1 : decide (255 < d) = false := decide_eq_false c1
  have d2 : decide (t < 0) = false := decide_eq_false c2
  have d3 : decide (255 < t) = false := decide_eq_false c3
  have d4 : decide (4096 < (s.size : Int)) = true := decide_eq_true c4
  go_enter Try.func10, Try.ntmps10
  go_wp2
  go_ret
  exact ⟨rfl, ((Bag.nil w).new 23 _).below⟩
theorem rrightL_5 (a b o : Bool) (d : Int) (e f : Bool) (t l : Int) (s : ByteArray) (c0 : ¬ d < 0) (c1 : ¬ 255 < d) (c2 : ¬ t < 0) (c3 : ¬ 255 < t) (c4 : ¬ 4096 < (s.size : Int)) (c5 : ¬ 0 ≤ l) (w : World) : Calls Try.prog 10 #[.agg #[.bool a, .bool b, .bool o, .int .i64 d, .bool e, .bool f, .int .i64 t, .int .i64 l, .string s]] w fun e' w' => e' = .returned (.bool (false)) ∧ Below w.heap.size w w' := by
  have d0 : decide (d < 0) = false := decide_eq_false c0
  have d1 : decide (255 < d) = false := decide_eq_false c1
  have d2 : decide (t < 0) = false := decide_eq_false c2
  have d3 : decide (255 < t) = false := decide_eq_false c3
  have d4 : decide (4096 < (s.size : Int)) = false := decide_eq_false c4
  have d5 : decide (0 ≤ l) = false := decide_eq_false c5
  go_enter Try.func10, Try.ntmps10
  go_wp2
  go_ret
  exact ⟨rfl, ((Bag.nil w).new 23 _).below⟩
theorem rrightL_6 (a b o : Bool) (d : Int) (e f : Bool) (t l : Int) (s : ByteArray) (c0 : ¬ d < 0) (c1 : ¬ 255 < d) (c2 : ¬ t < 0) (c3 : ¬ 255 < t) (c4 : ¬ 4096 < (s.size : Int)) (c5 : 0 ≤ l) (c6 : ¬ l ≤ 4) (w : World) : Calls Try.prog 10 #[.agg #[.bool a, .bool b, .bool o, .int .i64 d, .bool e, .bool f, .int .i64 t, .int .i64 l, .string s]] w fun e' w' => e' = .returned (.bool (false)) ∧ Below w.heap.size w w' := by
  have d0 : decide (d < 0) = false := decide_eq_false c0
  have d1 : decide (255 < d) = false := decide_eq_false c1
  have d2 : decide (t < 0) = false := decide_eq_false c2
  have d3 : decide (255 < t) = false := decide_eq_false c3
  have d4 : decide (4096 < (s.size : Int)) = false := decide_eq_false c4
  have d5 : decide (0 ≤ l) = true := decide_eq_true c5
  have d6 : decide (l ≤ 4) = false := decide_eq_false c6
  go_enter Try.func10, Try.ntmps10
  go_wp2
  go_ret
  exact ⟨rfl, ((Bag.nil w).new 23 _).below⟩
theorem rrightL_7 (a b o : Bool) (d : Int) (e f : Bool) (t l : Int) (s : ByteArray) (c0 : ¬ d < 0) (c1 : ¬ 255 < d) (c2 : ¬ t < 0) (c3 : ¬ 255 < t) (c4 : ¬ 4096 < (s.size : Int)) (c5 : 0 ≤ l) (c6 : l ≤ 4) (w : World) : Calls Try.prog 10 #[.agg #[.bool a, .bool b, .bool o, .int .i64 d, .bool e, .bool f, .int .i64 t, .int .i64 l, .string s]] w fun e' w' => e' = .returned (.bool (f == (l == 0))) ∧ Below w.heap.size w w' := by
  have d0 : decide (d < 0) = false := decide_eq_false c0
  have d1 : decide (255 < d) = false := decide_eq_false c1
  have d2 : decide (t < 0) = false := decide_eq_false c2
  have d3 : decide (255 < t) = false := decide_eq_false c3
  have d4 : decide (4096 < (s.size : Int)) = false := decide_eq_false c4
  have d5 : decide (0 ≤ l) = true := decide_eq_true c5
  have d6 : decide (l ≤ 4) = true := decide_eq_true c6
  go_enter Try.func10, Try.ntmps10
  go_wp2
  go_ret
  exact ⟨rfl, ((Bag.nil w).new 23 _).below⟩
theorem rrightL_any (x : Ln) (w : World) : Calls Try.prog 10 #[.agg #[.bool (x).a, .bool (x).b, .bool (x).o, .int .i64 (x).d, .bool (x).e, .bool (x).f, .int .i64 (x).t, .int .i64 (x).l, .string (x).s]] w fun e' w' => e' = .returned (.bool x.right) ∧ Below w.heap.size w w' := by
  obtain ⟨a, b, o, d, e, f, t, l, s⟩ := x
  by_cases c0 : d < 0
  · rw [show Ln.right ⟨a, b, o, d, e, f, t, l, s⟩ = false from by unfold Ln.right; simp; omega]
    exact rrightL_0 a b o d e f t l s c0 w
  by_cases c1 : 255 < d
  · rw [show Ln.right ⟨a, b, o, d, e, f, t, l, s⟩ = false from by unfold Ln.right; simp; omega]
    exact rrightL_1 a b o d e f t l s c0 c1 w
  by_cases c2 : t < 0
  · rw [show Ln.right ⟨a, b, o, d, e, f, t, l, s⟩ = false from by unfold Ln.right; simp; omega]
    exact rrightL_2 a b o d e f t l s c0 c1 c2 w
  by_cases c3 : 255 < t
  · rw [show Ln.right ⟨a, b, o, d, e, f, t, l, s⟩ = false from by unfold Ln.right; simp; omega]
    exact rrightL_3 a b o d e f t l s c0 c1 c2 c3 w
  by_cases c4 : 4096 < (s.size : Int)
  · rw [show Ln.right ⟨a, b, o, d, e, f, t, l, s⟩ = false from by unfold Ln.right; simp; omega]
    exact rrightL_4 a b o d e f t l s c0 c1 c2 c3 c4 w
  by_cases c5 : ¬ 0 ≤ l
  · rw [show Ln.right ⟨a, b, o, d, e, f, t, l, s⟩ = false from by unfold Ln.right; simp; omega]
    exact rrightL_5 a b o d e f t l s c0 c1 c2 c3 c4 c5 w
  replace c5 : 0 ≤ l := by omega
  by_cases c6 : ¬ l ≤ 4
  · rw [show Ln.right ⟨a, b, o, d, e, f, t, l, s⟩ = false from by unfold Ln.right; simp; omega]
    exact rrightL_6 a b o d e f t l s c0 c1 c2 c3 c4 c5 c6 w
  replace c6 : l ≤ 4 := by omega
  rw [show Ln.right ⟨a, b, o, d, e, f, t, l, s⟩ = (f == (l == 0)) from by
    unfold Ln.right
    have h0 : decide (l = 0) = (l == 0) := by rw [Bool.eq_iff_iff]; simp
    simp only [h0]
    rw [decide_eq_true (show 0 ≤ d by omega), decide_eq_true (show d ≤ 255 by omega), decide_eq_true (show 0 ≤ t by omega), decide_eq_true (show t ≤ 255 by omega), decide_eq_true (show s.size ≤ 4096 by omega), decide_eq_true c5, decide_eq_true c6]; rfl]
  exact rrightL_7 a b o d e f t l s c0 c1 c2 c3 c4 c5 c6 w
end Go.Proofs.Ytbbaflepnjglnaa
