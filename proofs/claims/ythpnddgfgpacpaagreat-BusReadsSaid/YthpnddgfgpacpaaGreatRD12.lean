import Derived.Test.YthpnddgfgpacpaaGreatRD11
import Derived.Test.YthpnddgfgpacpaaGreatRD03
import Derived.Test.YthpnddgfgpacpaaGreatRD05
/-
  Right of the reference of package line. No condition.
-/
namespace Go.Proofs.YthpnddgfgpacpaaGreat
open Go.RowKit
set_option linter.unusedSimpArgs false
set_option linter.unusedVariables false
set_option maxHeartbeats 4000000
set_option maxRecDepth 100000
attribute [local irreducible] wpQuiet
theorem rrightL_0 (a b o : Bool) (d : Int) (e f : Bool) (t l : Int) (s : ByteArray) (c0 : d < 0) (w : World) : Calls Tryz.prog 30 #[.agg #[.bool a, .bool b, .bool o, .int .i64 d, .bool e, .bool f, .int .i64 t, .int .i64 l, .string s]] w fun e' w' => e' = .returned (.bool (false)) ∧ Below w.heap.size w w' := by
  have d0 : decide (d < 0) = true := decide_eq_true c0
  go_enter Tryz.func30, Tryz.ntmps30
  go_wp2
  go_ret
  exact ⟨rfl, ((Bag.nil w).new 68 _).below⟩
theorem rrightL_1 (a b o : Bool) (d : Int) (e f : Bool) (t l : Int) (s : ByteArray) (c0 : ¬ d < 0) (c1 : 255 < d) (w : World) : Calls Tryz.prog 30 #[.agg #[.bool a, .bool b, .bool o, .int .i64 d, .bool e, .bool f, .int .i64 t, .int .i64 l, .string s]] w fun e' w' => e' = .returned (.bool (false)) ∧ Below w.heap.size w w' := by
  have d0 : decide (d < 0) = false := decide_eq_false c0
  have d1 : decide (255 < d) = true := decide_eq_true c1
  go_enter Tryz.func30, Tryz.ntmps30
  go_wp2
  go_ret
  exact ⟨rfl, ((Bag.nil w).new 68 _).below⟩
theorem rrightL_2 (a b o : Bool) (d : Int) (e f : Bool) (t l : Int) (s : ByteArray) (c0 : ¬ d < 0) (c1 : ¬ 255 < d) (c2 : t < 0) (w : World) : Calls Tryz.prog 30 #[.agg #[.bool a, .bool b, .bool o, .int .i64 d, .bool e, .bool f, .int .i64 t, .int .i64 l, .string s]] w fun e' w' => e' = .returned (.bool (false)) ∧ Below w.heap.size w w' := by
  have d0 : decide (d < 0) = false := decide_eq_false c0
  have d1 : decide (255 < d) = false := decide_eq_false c1
  have d2 : decide (t < 0) = true := decide_eq_true c2
  go_enter Tryz.func30, Tryz.ntmps30
  go_wp2
  go_ret
  exact ⟨rfl, ((Bag.nil w).new 68 _).below⟩
theorem rrightL_3 (a b o : Bool) (d : Int) (e f : Bool) (t l : Int) (s : ByteArray) (c0 : ¬ d < 0) (c1 : ¬ 255 < d) (c2 : ¬ t < 0) (c3 : 255 < t) (w : World) : Calls Tryz.prog 30 #[.agg #[.bool a, .bool b, .bool o, .int .i64 d, .bool e, .bool f, .int .i64 t, .int .i64 l, .string s]] w fun e' w' => e' = .returned (.bool (false)) ∧ Below w.heap.size w w' := by
  have d0 : decide (d < 0) = false := decide_eq_false c0
  have d1 : decide (255 < d) = false := decide_eq_false c1
  have d2 : decide (t < 0) = false := decide_eq_false c2
  have d3 : decide (255 < t) = true := decide_eq_true c3
  go_enter Tryz.func30, Tryz.ntmps30
  go_wp2
  go_ret
  exact ⟨rfl, ((Bag.nil w).new 68 _).below⟩
theorem rrightL_4 (a b o : Bool) (d : Int) (e f : Bool) (t l : Int) (s : ByteArray) (c0 : ¬ d < 0) (c1 : ¬ 255 < d) (c2 : ¬ t < 0) (c3 : ¬ 255 < t) (c4 : 4096 < (s.size : Int)) (w : World) : Calls Tryz.prog 30 #[.agg #[.bool a, .bool b, .bool o, .int .i64 d, .bool e, .bool f, .int .i64 t, .int .i64 l, .string s]] w fun e' w' => e' = .returned (.bool (false)) ∧ Below w.heap.size w w' := by
  have d0 : decide (d < 0) = false := decide_eq_false c0
  have d1 : decide (255 < d) = false := decide_eq_false c1
  have d2 : decide (t < 0) = false := decide_eq_false c2
  have d3 : decide (255 < t) = false := decide_eq_false c3
  have d4 : decide (4096 < (s.size : Int)) = true := decide_eq_true c4
  go_enter Tryz.func30, Tryz.ntmps30
  go_wp2
  go_ret
  exact ⟨rfl, ((Bag.nil w).new 68 _).below⟩
theorem rrightL_5 (a b o : Bool) (d : Int) (e f : Bool) (t l : Int) (s : ByteArray) (c0 : ¬ d < 0) (c1 : ¬ 255 < d) (c2 : ¬ t < 0) (c3 : ¬ 255 < t) (c4 : ¬ 4096 < (s.size : Int)) (c5 : ¬ 0 ≤ l) (w : World) : Calls Tryz.prog 30 #[.agg #[.bool a, .bool b, .bool o, .int .i64 d, .bool e, .bool f, .int .i64 t, .int .i64 l, .string s]] w fun e' w' => e' = .returned (.bool (false)) ∧ Below w.heap.size w w' := by
  have d0 : decide (d < 0) = false := decide_eq_false c0
  have d1 : decide (255 < d) = false := decide_eq_false c1
  have d2 : decide (t < 0) = false := decide_eq_false c2
  have d3 : decide (255 < t) = false := decide_eq_false c3
  have d4 : decide (4096 < (s.size : Int)) = false := decide_eq_false c4
  have d5 : decide (0 ≤ l) = false := decide_eq_false c5
  go_enter Tryz.func30, Tryz.ntmps30
  go_wp2
  go_ret
  exact ⟨rfl, ((Bag.nil w).new 68 _).below⟩
theorem rrightL_6 (a b o : Bool) (d : Int) (e f : Bool) (t l : Int) (s : ByteArray) (c0 : ¬ d < 0) (c1 : ¬ 255 < d) (c2 : ¬ t < 0) (c3 : ¬ 255 < t) (c4 : ¬ 4096 < (s.size : Int)) (c5 : 0 ≤ l) (c6 : ¬ l ≤ 4) (w : World) : Calls Tryz.prog 30 #[.agg #[.bool a, .bool b, .bool o, .int .i64 d, .bool e, .bool f, .int .i64 t, .int .i64 l, .string s]] w fun e' w' => e' = .returned (.bool (false)) ∧ Below w.heap.size w w' := by
  have d0 : decide (d < 0) = false := decide_eq_false c0
  have d1 : decide (255 < d) = false := decide_eq_false c1
  have d2 : decide (t < 0) = false := decide_eq_false c2
  have d3 : decide (255 < t) = false := decide_eq_false c3
  have d4 : decide (4096 < (s.size : Int)) = false := decide_eq_false c4
  have d5 : decide (0 ≤ l) = true := decide_eq_true c5
  have d6 : decide (l ≤ 4) = false := decide_eq_false c6
  go_enter Tryz.func30, Tryz.ntmps30
  go_wp2
  go_ret
  exact ⟨rfl, ((Bag.nil w).new 68 _).below⟩
theorem rrightL_7 (a b o : Bool) (d : Int) (e f : Bool) (t l : Int) (s : ByteArray) (c0 : ¬ d < 0) (c1 : ¬ 255 < d) (c2 : ¬ t < 0) (c3 : ¬ 255 < t) (c4 : ¬ 4096 < (s.size : Int)) (c5 : 0 ≤ l) (c6 : l ≤ 4) (w : World) : Calls Tryz.prog 30 #[.agg #[.bool a, .bool b, .bool o, .int .i64 d, .bool e, .bool f, .int .i64 t, .int .i64 l, .string s]] w fun e' w' => e' = .returned (.bool (f == (l == 0))) ∧ Below w.heap.size w w' := by
  have d0 : decide (d < 0) = false := decide_eq_false c0
  have d1 : decide (255 < d) = false := decide_eq_false c1
  have d2 : decide (t < 0) = false := decide_eq_false c2
  have d3 : decide (255 < t) = false := decide_eq_false c3
  have d4 : decide (4096 < (s.size : Int)) = false := decide_eq_false c4
  have d5 : decide (0 ≤ l) = true := decide_eq_true c5
  have d6 : decide (l ≤ 4) = true := decide_eq_true c6
  go_enter Tryz.func30, Tryz.ntmps30
  go_wp2
  go_ret
  exact ⟨rfl, ((Bag.nil w).new 68 _).below⟩
theorem rrightL_any (x : Ln) (w : World) : Calls Tryz.prog 30 #[.agg #[.bool (x).a, .bool (x).b, .bool (x).o, .int .i64 (x).d, .bool (x).e, .bool (x).f, .int .i64 (x).t, .int .i64 (x).l, .string (x).s]] w fun e' w' => e' = .returned (.bool x.right) ∧ Below w.heap.size w w' := by
  obtain ⟨a, b, o, d, e, f, t, l, s⟩ := x
  by_cases c0 : d < 0
  · rw [show Ln.right ⟨a, b, o, d, e, f, t, l, s⟩ = false from by unfold Ln.right; simp; omega]
    exact rrightL_0 a b o d e f t l s c0 w
  by_cases c1 : 255 < d
  · rw [show Ln.right ⟨a, b, o, d, e, f, t, l, s⟩ = false from by unfold Ln.right; simp; omega]
    exact rrightL_1 a b o d e f t l s c0 c1 w
  by_cases c2 : t < 0
  · rw [show Ln.right ⟨a, b, o, d, e, f, t, l, s⟩ = false from by unfold Ln.right; simp; omega]
    exact rrightL_2 a b o d e f t l s c0 c1 c2 w
  by_cases c3 : 255 < t
  · rw [show Ln.right ⟨a, b, o, d, e, f, t, l, s⟩ = false from by unfold Ln.right; simp; omega]
    exact rrightL_3 a b o d e f t l s c0 c1 c2 c3 w
  by_cases c4 : 4096 < (s.size : Int)
  · rw [show Ln.right ⟨a, b, o, d, e, f, t, l, s⟩ = false from by unfold Ln.right; simp; omega]
    exact rrightL_4 a b o d e f t l s c0 c1 c2 c3 c4 w
  by_cases c5 : ¬ 0 ≤ l
  · rw [show Ln.right ⟨a, b, o, d, e, f, t, l, s⟩ = false from by unfold Ln.right; simp; omega]
    exact rrightL_5 a b o d e f t l s c0 c1 c2 c3 c4 c5 w
  replace c5 : 0 ≤ l := by omega
  by_cases c6 : ¬ l ≤ 4
  · rw [show Ln.right ⟨a, b, o, d, e, f, t, l, s⟩ = false from by unfold Ln.right; simp; omega]
    exact rrightL_6 a b o d e f t l s c0 c1 c2 c3 c4 c5 c6 w
  replace c6 : l ≤ 4 := by omega
  rw [show Ln.right ⟨a, b, o, d, e, f, t, l, s⟩ = (f == (l == 0)) from by
    unfold Ln.right
    have h0 : decide (l = 0) = (l == 0) := by rw [Bool.eq_iff_iff]; simp
    simp only [h0]
    rw [decide_eq_true (show 0 ≤ d by omega), decide_eq_true (show d ≤ 255 by omega), decide_eq_true (show 0 ≤ t by omega), decide_eq_true (show t ≤ 255 by omega), decide_eq_true (show s.size ≤ 4096 by omega), decide_eq_true c5, decide_eq_true c6]; rfl]
  exact rrightL_7 a b o d e f t l s c0 c1 c2 c3 c4 c5 c6 w
end Go.Proofs.YthpnddgfgpacpaaGreat
/-
  The reference of package clock. Condition: where said, the clock is valid.
-/
namespace Go.Proofs.YthpnddgfgpacpaaGreat
open Go.RowKit
set_option linter.unusedSimpArgs false
set_option linter.unusedVariables false
set_option maxHeartbeats 4000000
set_option maxRecDepth 100000
attribute [local irreducible] wpQuiet
theorem rright_0 (e r : Bool) (p l : Int)  (c0 : ¬ 1 ≤ p) (w : World) : Calls Tryz.prog 33 #[.agg #[.bool e, .bool r, .int .i64 p, .int .i64 l]] w fun e' w' => e' = .returned (.bool false) ∧ Below w.heap.size w w' := by
  have d0 : decide (1 ≤ p) = false := decide_eq_false c0
  go_enter Tryz.func33, Tryz.ntmps33
  go_wp2
  go_ret
  exact ⟨rfl, ((Bag.nil w).new 34 _).below⟩
theorem rright_1 (e r : Bool) (p l : Int) (c0 : 1 ≤ p) (c1 : ¬ p ≤ 65535) (w : World) : Calls Tryz.prog 33 #[.agg #[.bool e, .bool r, .int .i64 p, .int .i64 l]] w fun e' w' => e' = .returned (.bool false) ∧ Below w.heap.size w w' := by
  have d0 : decide (1 ≤ p) = true := decide_eq_true c0
  have d1 : decide (p ≤ 65535) = false := decide_eq_false c1
  go_enter Tryz.func33, Tryz.ntmps33
  go_wp2
  go_ret
  exact ⟨rfl, ((Bag.nil w).new 34 _).below⟩
theorem rright_2 (e r : Bool) (p l : Int) (c0 : 1 ≤ p) (c1 : p ≤ 65535) (c2 : ¬ 1 ≤ l) (w : World) : Calls Tryz.prog 33 #[.agg #[.bool e, .bool r, .int .i64 p, .int .i64 l]] w fun e' w' => e' = .returned (.bool false) ∧ Below w.heap.size w w' := by
  have d0 : decide (1 ≤ p) = true := decide_eq_true c0
  have d1 : decide (p ≤ 65535) = true := decide_eq_true c1
  have d2 : decide (1 ≤ l) = false := decide_eq_false c2
  go_enter Tryz.func33, Tryz.ntmps33
  go_wp2
  go_ret
  exact ⟨rfl, ((Bag.nil w).new 34 _).below⟩
theorem rright_3 (e r : Bool) (p l : Int) (c0 : 1 ≤ p) (c1 : p ≤ 65535) (c2 : 1 ≤ l) (c3 : ¬ l ≤ p) (w : World) : Calls Tryz.prog 33 #[.agg #[.bool e, .bool r, .int .i64 p, .int .i64 l]] w fun e' w' => e' = .returned (.bool false) ∧ Below w.heap.size w w' := by
  have d0 : decide (1 ≤ p) = true := decide_eq_true c0
  have d1 : decide (p ≤ 65535) = true := decide_eq_true c1
  have d2 : decide (1 ≤ l) = true := decide_eq_true c2
  have d3 : decide (l ≤ p) = false := decide_eq_false c3
  go_enter Tryz.func33, Tryz.ntmps33
  go_wp2
  go_ret
  exact ⟨rfl, ((Bag.nil w).new 34 _).below⟩
theorem rright_4 (e r : Bool) (p l : Int) (c0 : 1 ≤ p) (c1 : p ≤ 65535) (c2 : 1 ≤ l) (c3 : l ≤ p) (w : World) : Calls Tryz.prog 33 #[.agg #[.bool e, .bool r, .int .i64 p, .int .i64 l]] w fun e' w' => e' = .returned (.bool true) ∧ Below w.heap.size w w' := by
  have d0 : decide (1 ≤ p) = true := decide_eq_true c0
  have d1 : decide (p ≤ 65535) = true := decide_eq_true c1
  have d2 : decide (1 ≤ l) = true := decide_eq_true c2
  have d3 : decide (l ≤ p) = true := decide_eq_true c3
  go_enter Tryz.func33, Tryz.ntmps33
  go_wp2
  go_ret
  exact ⟨rfl, ((Bag.nil w).new 34 _).below⟩
theorem rright_any_13 (c : Ck) (w : World) : Calls Tryz.prog 33 #[.agg #[.bool c.e, .bool c.r, .int .i64 c.p, .int .i64 c.l]] w fun e' w' => e' = .returned (.bool c.right) ∧ Below w.heap.size w w' := by
  obtain ⟨e, r, p, l⟩ := c
  unfold Ck.right
  by_cases c0 : ¬ 1 ≤ p
  · have := rright_0 e r p l c0 w
    simpa [c0] using this
  replace c0 : 1 ≤ p := by omega
  by_cases c1 : ¬ p ≤ 65535
  · have := rright_1 e r p l c0 c1 w
    simpa [c0, c1] using this
  replace c1 : p ≤ 65535 := by omega
  by_cases c2 : ¬ 1 ≤ l
  · have := rright_2 e r p l c0 c1 c2 w
    simpa [c0, c1, c2] using this
  replace c2 : 1 ≤ l := by omega
  by_cases c3 : ¬ l ≤ p
  · have := rright_3 e r p l c0 c1 c2 c3 w
    simpa [c0, c1, c2, c3] using this
  replace c3 : l ≤ p := by omega
  have := rright_4 e r p l c0 c1 c2 c3 w
  simpa [c0, c1, c2, c3] using this
theorem rread_any_13 (c : Ck) (w : World) : Calls Tryz.prog 94 #[.agg #[.bool c.e, .bool c.r, .int .i64 c.p, .int .i64 c.l]] w fun e' w' => e' = .returned (.int .i64 c.read) ∧ Below w.heap.size w w' := by
  obtain ⟨e, r, p, l⟩ := c
  cases e <;> cases r
  · have hX := (Bag.nil w).new 34 [.bool false, .bool false, .int .i64 p, .int .i64 l]
    go_enter Tryz.func94, Tryz.ntmps94
    go_wp2
    go_ret
    exact ⟨rfl, hX.below⟩
  · have hX := (Bag.nil w).new 34 [.bool false, .bool true, .int .i64 p, .int .i64 l]
    go_enter Tryz.func94, Tryz.ntmps94
    go_wp2
    go_ret
    exact ⟨rfl, hX.below⟩
  · have hX := (Bag.nil w).new 34 [.bool true, .bool false, .int .i64 p, .int .i64 l]
    go_enter Tryz.func94, Tryz.ntmps94
    go_wp2
    go_ret
    exact ⟨rfl, hX.below⟩
  · have hX := (Bag.nil w).new 34 [.bool true, .bool true, .int .i64 p, .int .i64 l]
    go_enter Tryz.func94, Tryz.ntmps94
    go_wp2
    go_ret
    exact ⟨rfl, hX.below⟩
theorem and_bits (v : Int) : (bits .and .i64 v 64 != 0) = decide (v / 64 % 2 = 1) ∧ (bits .and .i64 v 128 != 0) = decide (v / 128 % 2 = 1) := by
  have h1 : bits .and .i64 v 64 = v / 64 % 2 * 64 := i_and (c := 64) (by decide) (field _ 6 1) (by intro h; omega)
  have h2 : bits .and .i64 v 128 = v / 128 % 2 * 128 := i_and (c := 128) (by decide) (field _ 7 1) (by intro h; omega)
  constructor
  · rw [h1, Bool.eq_iff_iff]; simp; omega
  · rw [h2, Bool.eq_iff_iff]; simp; omega
theorem rnew_any_13 (n : Int) (w : World) : Calls Tryz.prog 69 #[.int .i64 n] w fun e' w' => e' = .returned (.tuple #[.agg #[.bool ((newK n).1).e, .bool ((newK n).1).r, .int .i64 ((newK n).1).p, .int .i64 ((newK n).1).l], .int .i64 (newK n).2]) ∧ Below w.heap.size w w' := by
  unfold newK
  have hX := (Bag.nil w).new 34 [.bool false, .bool false, .int .i64 0, .int .i64 0]
  by_cases h1 : n < 1
  · have d1 : decide (n < 1) = true := decide_eq_true h1
    rw [if_neg (by omega)]
    go_enter Tryz.func69, Tryz.ntmps69
    go_wp2
    exact bodyPost_ret (results_ct Tryz.results69 rfl ((((Bag.nil w).new 34 _).all _ _ _ List.mem_cons_self).loadVar rfl aggK_13 sizK_13)) rfl ⟨rfl, ((Bag.nil w).new 34 _).below⟩
  · have d1 : decide (n < 1) = false := decide_eq_false h1
    by_cases h2 : 65535 < n
    · have d2 : decide (65535 < n) = true := decide_eq_true h2
      rw [if_neg (by omega)]
      go_enter Tryz.func69, Tryz.ntmps69
      go_wp2
      exact bodyPost_ret (results_ct Tryz.results69 rfl ((((Bag.nil w).new 34 _).all _ _ _ List.mem_cons_self).loadVar rfl aggK_13 sizK_13)) rfl ⟨rfl, ((Bag.nil w).new 34 _).below⟩
    · have d2 : decide (65535 < n) = false := decide_eq_false h2
      rw [if_pos (by omega)]
      go_enter Tryz.func69, Tryz.ntmps69
      go_wp2
      exact bodyPost_ret (results_ct Tryz.results69 rfl ((((Bag.nil w).new 34 _).all _ _ _ List.mem_cons_self).loadVar rfl aggK_13 sizK_13)) rfl ⟨rfl, ((Bag.nil w).new 34 _).below⟩
end Go.Proofs.YthpnddgfgpacpaaGreat
/-
  word, bit, Reset, Accept, Requests, Mount, Read of the reference. No condition.
-/
namespace Go.Proofs.YthpnddgfgpacpaaGreat
open Go.RowKit
set_option linter.unusedSimpArgs false
set_option linter.unusedVariables false
set_option maxHeartbeats 4000000
set_option maxRecDepth 100000
attribute [local irreducible] wpQuiet

theorem rwordT_any (n : Int) (w : World) : Calls Tryz.prog 79 #[.int .i64 n] w fun e' w' => e' = .returned (.bool (wordV_17 n)) ∧ Below w.heap.size w w' := by
  have hB := Below.refl w.heap.size w
  unfold wordV_17
  by_cases h1 : 0 ≤ n
  · have d1 : decide (0 ≤ n) = true := decide_eq_true h1
    go_enter Tryz.func79, Tryz.ntmps79
    go_wp2
    go_ret
    exact ⟨by simp [h1], hB⟩
  · have d1 : decide (0 ≤ n) = false := decide_eq_false h1
    go_enter Tryz.func79, Tryz.ntmps79
    go_wp2
    go_ret
    exact ⟨by simp, hB⟩
theorem rbit_any (b : Bool) (n : Int) (w : World) : Calls Tryz.prog 129 #[.bool b, .int .i64 n] w fun e' w' => e' = .returned (.int .i64 (if b = true then n else 0)) ∧ w = w' := by
  cases b
  all_goals
    go_enter Tryz.func129, Tryz.ntmps129
    go_wp2
    go_ret
    exact ⟨rfl, rfl⟩
theorem rreadT_any (K : Tp) (g : Int) (hc0 : 0 ≤ K.c) (hc1 : K.c ≤ 6) (A1 : Option Addr) (n1 c1 : Nat) (w : World) : Calls Tryz.prog 96 #[.agg #[(.slice A1 n1 c1), .int .i64 (K).p, .bool (K).n, .bool (K).r, .bool (K).e, .bool (K).m, .bool (K).d, .int .i64 (K).c, .int .i64 (K).k, .int .i64 (K).a, .int .i64 (K).l], .int .i64 g] w fun e' w' => e' = .returned (.tuple #[.int .i64 (K.rd g).1, .bool (K.rd g).2]) ∧ Below w.heap.size w w' := by
  obtain ⟨R, p, n, r, e, m, d, c, k, a, l⟩ := K
  dsimp only at hc0 hc1
  unfold Tp.rd stT
  have hX := (Bag.nil w).new 42 [(.slice A1 n1 c1), .int .i64 p, .bool n, .bool r, .bool e, .bool m, .bool d, .int .i64 c, .int .i64 k, .int .i64 a, .int .i64 l]
  by_cases h0 : g = 0
  · subst h0
    rw [if_pos rfl]
    have hb := fun b n w => rbit_any b n w
    dsimp only
    obtain ⟨b1, hb1, g1⟩ : ∃ b1 : Int, (if n = true then (64 : Int) else 0) = b1 ∧ 0 ≤ b1 ∧ b1 ≤ 64 := by cases n <;> exact ⟨_, rfl, by decide, by decide⟩
    obtain ⟨b2, hb2, g2⟩ : ∃ b1 : Int, (if r = true then (128 : Int) else 0) = b1 ∧ 0 ≤ b1 ∧ b1 ≤ 128 := by cases r <;> exact ⟨_, rfl, by decide, by decide⟩
    obtain ⟨b3, hb3, g3⟩ : ∃ b1 : Int, (if m = true then (256 : Int) else 0) = b1 ∧ 0 ≤ b1 ∧ b1 ≤ 256 := by cases m <;> exact ⟨_, rfl, by decide, by decide⟩
    obtain ⟨b4, hb4, g4⟩ : ∃ b1 : Int, (if d = true then (512 : Int) else 0) = b1 ∧ 0 ≤ b1 ∧ b1 ≤ 512 := by cases d <;> exact ⟨_, rfl, by decide, by decide⟩
    obtain ⟨b5, hb5, g5⟩ : ∃ b1 : Int, (if e = true then (32768 : Int) else 0) = b1 ∧ 0 ≤ b1 ∧ b1 ≤ 32768 := by cases e <;> exact ⟨_, rfl, by decide, by decide⟩
    have k1 := fun w => rbit_any n 64 w
    have k2 := fun w => rbit_any r 128 w
    have k3 := fun w => rbit_any m 256 w
    have k4 := fun w => rbit_any d 512 w
    have k5 := fun w => rbit_any e 32768 w
    rw [hb1] at k1 ⊢
    rw [hb2] at k2 ⊢
    rw [hb3] at k3 ⊢
    rw [hb4] at k4 ⊢
    rw [hb5] at k5 ⊢
    clear hb1 hb2 hb3 hb4 hb5 hb
    have w0 : IntKind.i64.wrap (2 * c) = 2 * c := by rw [wrap_i64]; unfold wrap64; omega
    have w1 : IntKind.i64.wrap (2 * c + b1) = 2 * c + b1 := by rw [wrap_i64]; unfold wrap64; omega
    have w2 : IntKind.i64.wrap (2 * c + b1 + b2) = 2 * c + b1 + b2 := by rw [wrap_i64]; unfold wrap64; omega
    have w3 : IntKind.i64.wrap (2 * c + b1 + b2 + b3) = 2 * c + b1 + b2 + b3 := by rw [wrap_i64]; unfold wrap64; omega
    have w4 : IntKind.i64.wrap (2 * c + b1 + b2 + b3 + b4) = 2 * c + b1 + b2 + b3 + b4 := by rw [wrap_i64]; unfold wrap64; omega
    have w5 : IntKind.i64.wrap (2 * c + b1 + b2 + b3 + b4 + b5) = 2 * c + b1 + b2 + b3 + b4 + b5 := by rw [wrap_i64]; unfold wrap64; omega
    clear g1 g2 g3 g4 g5 hc0 hc1
    go_enter Tryz.func96, Tryz.ntmps96
    go_wp2
    refine region_class (fun w' => Bag [(w.heap.size, 42, [(.slice A1 n1 c1), .int .i64 p, .bool n, .bool r, .bool e, .bool m, .bool d, .int .i64 c, .int .i64 k, .int .i64 a, .int .i64 l])] w w') (by kernel_rfl) (by kernel_rfl) hX.drew ?_
    repeat
      first
        | (refine BigFrame.wpQuiet_skip (by rfl) ?_
           simp only [Act.put, List.setIfInBounds_toArray, List.set_cons_zero, List.set_cons_succ])
        | (refine BigFrame.wpQuiet_want (by rfl) (fun K hK => ?_)
           apply Exists.intro
           refine ⟨fun wq hq => ?_, hK _ ?_⟩
           · first
               | (refine quiet_load 3 _ _ _ rfl rfl ((hq.all _ _ _ (.head _)).loadCell rfl int_cell))
               | (refine quiet_load 4 _ _ _ rfl rfl ((hq.all _ _ _ (.head _)).loadCell rfl bool_cell))
               | (unfold Oper.quietAt
                  go_simp
                  first
                    | with_reducible rfl
                    | ((go_at_call 129); with_reducible refine (k1 _).mono ?_; exact fun e w' ⟨he, hw⟩ => ⟨he, (by subst hw; exact hq)⟩)
                    | ((go_at_call 129); with_reducible refine (k2 _).mono ?_; exact fun e w' ⟨he, hw⟩ => ⟨he, (by subst hw; exact hq)⟩)
                    | ((go_at_call 129); with_reducible refine (k3 _).mono ?_; exact fun e w' ⟨he, hw⟩ => ⟨he, (by subst hw; exact hq)⟩)
                    | ((go_at_call 129); with_reducible refine (k4 _).mono ?_; exact fun e w' ⟨he, hw⟩ => ⟨he, (by subst hw; exact hq)⟩)
                    | ((go_at_call 129); with_reducible refine (k5 _).mono ?_; exact fun e w' ⟨he, hw⟩ => ⟨he, (by subst hw; exact hq)⟩)
                 )
           clear hK K
           simp only [Act.put, List.setIfInBounds_toArray, List.set_cons_zero, List.set_cons_succ])
    refine wpQuiet_nil ?_
    intro w4 hX
    go_wp2
    go_ret2
    exact ⟨rfl, hX.below⟩
  have e0 : (g == 0) = false := by simpa using h0
  rw [if_neg h0]
  by_cases h2 : g = 2
  · subst h2
    rw [if_pos rfl]
    go_enter Tryz.func96, Tryz.ntmps96
    go_wp2
    go_ret2
    exact ⟨rfl, hX.below⟩
  have e2 : (g == 2) = false := by simpa using h2
  rw [if_neg h2]
  by_cases h4 : g = 4
  · subst h4
    rw [if_pos rfl]
    go_enter Tryz.func96, Tryz.ntmps96
    go_wp2
    go_ret2
    exact ⟨rfl, hX.below⟩
  have e4 : (g == 4) = false := by simpa using h4
  rw [if_neg h4]
  go_enter Tryz.func96, Tryz.ntmps96
  go_wp2
  go_ret2
  exact ⟨rfl, hX.below⟩
end Go.Proofs.YthpnddgfgpacpaaGreat
/-
  start, Write of the reference. No condition.
-/
namespace Go.Proofs.YthpnddgfgpacpaaGreat
open Go.RowKit
set_option linter.unusedSimpArgs false
set_option linter.unusedVariables false
set_option maxHeartbeats 4000000
set_option maxRecDepth 100000
attribute [local irreducible] wpQuiet

theorem siz_int_17 (w : World) : (sizeOf 3).run Tryz.prog w = .ok 1 w := by kernel_rfl
theorem siz_bool_17 (w : World) : (sizeOf 4).run Tryz.prog w = .ok 1 w := by kernel_rfl
theorem andT64 (n : Int) : (bits .and .i64 n 64 != 0) = decide (n / 64 % 2 = 1) := by
  have h1 : bits .and .i64 n 64 = n / 64 % 2 * 64 := i_and (c := 64) (by decide) (field _ 6 1) (by intro h; omega)
  rw [h1, Bool.eq_iff_iff]; simp; omega
theorem andT7 (n : Int) : bits .and .i64 n 7 = n % 8 := i_and (c := 7) (by decide) (field _ 0 3) (by intro h; omega)
theorem andT16 (n : Int) : bits .and .i64 n 65535 = n % 65536 := i_and (c := 65535) (by decide) (field _ 0 16) (by intro h; omega)
end Go.Proofs.YthpnddgfgpacpaaGreat
