/-
  The reference of package clock. Condition: where said, the clock is valid.
-/
import Derived.Test.YtaejomjpobdmkaaCkA
import Derived.Test.YtaejomjpobdmkaaArC
namespace Go.Proofs.Ytaejomjpobdmkaa
open Go.RowKit
set_option linter.unusedSimpArgs false
set_option linter.unusedVariables false
set_option maxHeartbeats 4000000
set_option maxRecDepth 100000
attribute [local irreducible] wpQuiet
theorem rright_0 (e r : Bool) (p l : Int)  (c0 : ¬ 1 ≤ p) (w : World) : Calls Try.prog 10 #[.agg #[.bool e, .bool r, .int .i64 p, .int .i64 l]] w fun e' w' => e' = .returned (.bool false) ∧ Below w.heap.size w w' := by
  have d0 : decide (1 ≤ p) = false := decide_eq_false c0
  go_enter Try.func10, Try.ntmps10
  go_wp2
  go_ret
  exact ⟨rfl, ((Bag.nil w).new 23 _).below⟩
theorem rright_1 (e r : Bool) (p l : Int) (c0 : 1 ≤ p) (c1 : ¬ p ≤ 65535) (w : World) : Calls Try.prog 10 #[.agg #[.bool e, .bool r, .int .i64 p, .int .i64 l]] w fun e' w' => e' = .returned (.bool false) ∧ Below w.heap.size w w' := by
  have d0 : decide (1 ≤ p) = true := decide_eq_true c0
  have d1 : decide (p ≤ 65535) = false := decide_eq_false c1
  go_enter Try.func10, Try.ntmps10
  go_wp2
  go_ret
  exact ⟨rfl, ((Bag.nil w).new 23 _).below⟩
theorem rright_2 (e r : Bool) (p l : Int) (c0 : 1 ≤ p) (c1 : p ≤ 65535) (c2 : ¬ 1 ≤ l) (w : World) : Calls Try.prog 10 #[.agg #[.bool e, .bool r, .int .i64 p, .int .i64 l]] w fun e' w' => e' = .returned (.bool false) ∧ Below w.heap.size w w' := by
  have d0 : decide (1 ≤ p) = true := decide_eq_true c0
  have d1 : decide (p ≤ 65535) = true := decide_eq_true c1
  have d2 : decide (1 ≤ l) = false := decide_eq_false c2
  go_enter Try.func10, Try.ntmps10
  go_wp2
  go_ret
  exact ⟨rfl, ((Bag.nil w).new 23 _).below⟩
theorem rright_3 (e r : Bool) (p l : Int) (c0 : 1 ≤ p) (c1 : p ≤ 65535) (c2 : 1 ≤ l) (c3 : ¬ l ≤ p) (w : World) : Calls Try.prog 10 #[.agg #[.bool e, .bool r, .int .i64 p, .int .i64 l]] w fun e' w' => e' = .returned (.bool false) ∧ Below w.heap.size w w' := by
  have d0 : decide (1 ≤ p) = true := decide_eq_true c0
  have d1 : decide (p ≤ 65535) = true := decide_eq_true c1
  have d2 : decide (1 ≤ l) = true := decide_eq_true c2
  have d3 : decide (l ≤ p) = false := decide_eq_false c3
  go_enter Try.func10, Try.ntmps10
  go_wp2
  go_ret
  exact ⟨rfl, ((Bag.nil w).new 23 _).below⟩
theorem rright_4 (e r : Bool) (p l : Int) (c0 : 1 ≤ p) (c1 : p ≤ 65535) (c2 : 1 ≤ l) (c3 : l ≤ p) (w : World) : Calls Try.prog 10 #[.agg #[.bool e, .bool r, .int .i64 p, .int .i64 l]] w fun e' w' => e' = .returned (.bool true) ∧ Below w.heap.size w w' := by
  have d0 : decide (1 ≤ p) = true := decide_eq_true c0
  have d1 : decide (p ≤ 65535) = true := decide_eq_true c1
  have d2 : decide (1 ≤ l) = true := decide_eq_true c2
  have d3 : decide (l ≤ p) = true := decide_eq_true c3
  go_enter Try.func10, Try.ntmps10
  go_wp2
  go_ret
  exact ⟨rfl, ((Bag.nil w).new 23 _).below⟩
theorem rright_any (c : Ck) (w : World) : Calls Try.prog 10 #[.agg #[.bool c.e, .bool c.r, .int .i64 c.p, .int .i64 c.l]] w fun e' w' => e' = .returned (.bool c.right) ∧ Below w.heap.size w w' := by
  obtain ⟨e, r, p, l⟩ := c
  unfold Ck.right
  by_cases c0 : ¬ 1 ≤ p
  · have := rright_0 e r p l c0 w
    simpa [c0] using this
  replace c0 : 1 ≤ p := by omega
  by_cases c1 : ¬ p ≤ 65535
  · have := rright_1 e r p l c0 c1 w
    simpa [c0, c1] using this
  replace c1 : p ≤ 65535 := by omega
  by_cases c2 : ¬ 1 ≤ l
  · have := rright_2 e r p l c0 c1 c2 w
    simpa [c0, c1, c2] using this
  replace c2 : 1 ≤ l := by omega
  by_cases c3 : ¬ l ≤ p
  · have := rright_3 e r p l c0 c1 c2 c3 w
    simpa [c0, c1, c2, c3] using this
  replace c3 : l ≤ p := by omega
  have := rright_4 e r p l c0 c1 c2 c3 w
  simpa [c0, c1, c2, c3] using this
theorem rtick_1 (e r : Bool) (p : Int) (w : World) : Calls Try.prog 13 #[.agg #[.bool e, .bool r, .int .i64 p, .int .i64 1]] w fun e' w' => e' = .returned (.agg #[.bool e, .bool true, .int .i64 p, .int .i64 p]) ∧ Below w.heap.size w w' := by
  go_enter Try.func13, Try.ntmps13
  go_wp2
  exact bodyPost_ret (results_c Try.results13 rfl (((two_new w _ _).all _ _ _ List.mem_cons_self).loadVar rfl aggK sizK)) rfl ⟨rfl, (two_new w _ _).below⟩
theorem rtick_n (e r : Bool) (p l : Int) (h : 1 ≤ l ∧ l ≤ 65535) (hne : ¬ l = 1) (w : World) : Calls Try.prog 13 #[.agg #[.bool e, .bool r, .int .i64 p, .int .i64 l]] w fun e' w' => e' = .returned (.agg #[.bool e, .bool r, .int .i64 p, .int .i64 (l - 1)]) ∧ Below w.heap.size w w' := by
  have hw : wrap64 (l - 1) = l - 1 := by unfold wrap64; omega
  have hz : (l - 1 == 0) = false := by simp; omega
  go_enter Try.func13, Try.ntmps13
  go_wp2
  exact bodyPost_ret (results_c Try.results13 rfl (((two_new w _ _).all _ _ _ List.mem_cons_self).loadVar rfl aggK sizK)) rfl ⟨rfl, (two_new w _ _).below⟩
theorem rtick_any (c : Ck) (h : c.right = true) (w : World) : Calls Try.prog 13 #[.agg #[.bool c.e, .bool c.r, .int .i64 c.p, .int .i64 c.l]] w fun e' w' => e' = .returned (.agg #[.bool (c.tick).e, .bool (c.tick).r, .int .i64 (c.tick).p, .int .i64 (c.tick).l]) ∧ Below w.heap.size w w' := by
  have h' := (Ck.right_iff c).1 h
  obtain ⟨e, r, p, l⟩ := c
  unfold Ck.tick
  simp only at h' ⊢
  by_cases hl : l = 1
  · subst hl
    exact rtick_1 e r p w
  · rw [if_neg hl]
    exact rtick_n e r p l (by omega) hl w
theorem rreset_any (c : Ck) (w : World) : Calls Try.prog 15 #[.agg #[.bool c.e, .bool c.r, .int .i64 c.p, .int .i64 c.l]] w fun e' w' => e' = .returned (.agg #[.bool (c.reset).e, .bool (c.reset).r, .int .i64 (c.reset).p, .int .i64 (c.reset).l]) ∧ Below w.heap.size w w' := by
  obtain ⟨e, r, p, l⟩ := c
  simp only [Ck.reset]
  go_enter Try.func15, Try.ntmps15
  go_wp2
  exact bodyPost_ret (results_c Try.results15 rfl (((two_new w _ _).all _ _ _ List.mem_cons_self).loadVar rfl aggK sizK)) rfl ⟨rfl, (two_new w _ _).below⟩
theorem racc_any (c : Ck) (v : Int) (w : World) : Calls Try.prog 24 #[.agg #[.bool c.e, .bool c.r, .int .i64 c.p, .int .i64 c.l], .int .i64 v] w fun e' w' => e' = .returned (.agg #[.bool (c.acc v).e, .bool (c.acc v).r, .int .i64 (c.acc v).p, .int .i64 (c.acc v).l]) ∧ Below w.heap.size w w' := by
  obtain ⟨e, r, p, l⟩ := c
  unfold Ck.acc
  by_cases hv : v = 64
  · subst hv
    go_enter Try.func24, Try.ntmps24
    go_wp2
    exact bodyPost_ret (results_c Try.results24 rfl (((two_new w _ _).all _ _ _ List.mem_cons_self).loadVar rfl aggK sizK)) rfl ⟨rfl, (two_new w _ _).below⟩
  · rw [if_neg hv]
    have he : (v == 64) = false := by simpa using hv
    go_enter Try.func24, Try.ntmps24
    go_wp2
    exact bodyPost_ret (results_c Try.results24 rfl (((two_new w _ _).all _ _ _ List.mem_cons_self).loadVar rfl aggK sizK)) rfl ⟨rfl, (two_new w _ _).below⟩
theorem rread_any (c : Ck) (w : World) : Calls Try.prog 17 #[.agg #[.bool c.e, .bool c.r, .int .i64 c.p, .int .i64 c.l]] w fun e' w' => e' = .returned (.int .i64 c.read) ∧ Below w.heap.size w w' := by
  obtain ⟨e, r, p, l⟩ := c
  cases e <;> cases r
  · have hX := (Bag.nil w).new 23 [.bool false, .bool false, .int .i64 p, .int .i64 l]
    go_enter Try.func17, Try.ntmps17
    go_wp2
    go_ret
    exact ⟨rfl, hX.below⟩
  · have hX := (Bag.nil w).new 23 [.bool false, .bool true, .int .i64 p, .int .i64 l]
    go_enter Try.func17, Try.ntmps17
    go_wp2
    go_ret
    exact ⟨rfl, hX.below⟩
  · have hX := (Bag.nil w).new 23 [.bool true, .bool false, .int .i64 p, .int .i64 l]
    go_enter Try.func17, Try.ntmps17
    go_wp2
    go_ret
    exact ⟨rfl, hX.below⟩
  · have hX := (Bag.nil w).new 23 [.bool true, .bool true, .int .i64 p, .int .i64 l]
    go_enter Try.func17, Try.ntmps17
    go_wp2
    go_ret
    exact ⟨rfl, hX.below⟩
theorem and_bits (v : Int) : (bits .and .i64 v 64 != 0) = decide (v / 64 % 2 = 1) ∧ (bits .and .i64 v 128 != 0) = decide (v / 128 % 2 = 1) := by
  have h1 : bits .and .i64 v 64 = v / 64 % 2 * 64 := i_and (c := 64) (by decide) (field _ 6 1) (by intro h; omega)
  have h2 : bits .and .i64 v 128 = v / 128 % 2 * 128 := i_and (c := 128) (by decide) (field _ 7 1) (by intro h; omega)
  constructor
  · rw [h1, Bool.eq_iff_iff]; simp; omega
  · rw [h2, Bool.eq_iff_iff]; simp; omega
theorem rwrite_any (c : Ck) (v : Int) (w : World) : Calls Try.prog 19 #[.agg #[.bool c.e, .bool c.r, .int .i64 c.p, .int .i64 c.l], .int .i64 v] w fun e' w' => e' = .returned (.agg #[.bool (c.write v).e, .bool (c.write v).r, .int .i64 (c.write v).p, .int .i64 (c.write v).l]) ∧ Below w.heap.size w w' := by
  obtain ⟨e, r, p, l⟩ := c
  obtain ⟨h1, h2⟩ := and_bits v
  simp only [Ck.write]
  generalize decide (v / 64 % 2 = 1) = b1 at *
  generalize decide (v / 128 % 2 = 1) = b2 at *
  cases r
  · go_enter Try.func19, Try.ntmps19
    go_wp2
    exact bodyPost_ret (results_c Try.results19 rfl (((two_new w _ _).all _ _ _ List.mem_cons_self).loadVar rfl aggK sizK)) rfl ⟨rfl, (two_new w _ _).below⟩
  · go_enter Try.func19, Try.ntmps19
    go_wp2
    exact bodyPost_ret (results_c Try.results19 rfl (((two_new w _ _).all _ _ _ List.mem_cons_self).loadVar rfl aggK sizK)) rfl ⟨rfl, (two_new w _ _).below⟩
theorem rnew_any (n : Int) (w : World) : Calls Try.prog 8 #[.int .i64 n] w fun e' w' => e' = .returned (.tuple #[.agg #[.bool ((newK n).1).e, .bool ((newK n).1).r, .int .i64 ((newK n).1).p, .int .i64 ((newK n).1).l], .int .i64 (newK n).2]) ∧ Below w.heap.size w w' := by
  unfold newK
  have hX := (Bag.nil w).new 23 [.bool false, .bool false, .int .i64 0, .int .i64 0]
  by_cases h1 : n < 1
  · have d1 : decide (n < 1) = true := decide_eq_true h1
    rw [if_neg (by omega)]
    go_enter Try.func8, Try.ntmps8
    go_wp2
    exact bodyPost_ret (results_ct Try.results8 rfl ((((Bag.nil w).new 23 _).all _ _ _ List.mem_cons_self).loadVar rfl aggK sizK)) rfl ⟨rfl, ((Bag.nil w).new 23 _).below⟩
  · have d1 : decide (n < 1) = false := decide_eq_false h1
    by_cases h2 : 65535 < n
    · have d2 : decide (65535 < n) = true := decide_eq_true h2
      rw [if_neg (by omega)]
      go_enter Try.func8, Try.ntmps8
      go_wp2
      exact bodyPost_ret (results_ct Try.results8 rfl ((((Bag.nil w).new 23 _).all _ _ _ List.mem_cons_self).loadVar rfl aggK sizK)) rfl ⟨rfl, ((Bag.nil w).new 23 _).below⟩
    · have d2 : decide (65535 < n) = false := decide_eq_false h2
      rw [if_pos (by omega)]
      go_enter Try.func8, Try.ntmps8
      go_wp2
      exact bodyPost_ret (results_ct Try.results8 rfl ((((Bag.nil w).new 23 _).all _ _ _ List.mem_cons_self).loadVar rfl aggK sizK)) rfl ⟨rfl, ((Bag.nil w).new 23 _).below⟩
theorem rreq_any (c : Ck) (w : World) : Calls Try.prog 22 #[.agg #[.bool c.e, .bool c.r, .int .i64 c.p, .int .i64 c.l]] w fun e' w' => ∃ v, e' = .returned v ∧ Rqs w' v c.req ∧ Below w.heap.size w w' := by
  obtain ⟨e, r, p, l⟩ := c
  cases e <;> cases r
  · go_enter Try.func22, Try.ntmps22
    go_wp2
    go_ret
    exact ⟨_, rfl, Rw.nil _, ((Bag.nil w).new 23 _).below⟩
  · go_enter Try.func22, Try.ntmps22
    go_wp2
    go_ret
    exact ⟨_, rfl, Rw.nil _, ((Bag.nil w).new 23 _).below⟩
  · go_enter Try.func22, Try.ntmps22
    go_wp2
    go_ret
    exact ⟨_, rfl, Rw.nil _, ((Bag.nil w).new 23 _).below⟩
  · go_enter Try.func22, Try.ntmps22
    go_wp2
    go_ret
    exact ⟨_, rfl, rqs_two w _ [(6, 64)] 1 rfl, (((Bag.nil w).new 23 _).new 38 _).below⟩
end Go.Proofs.Ytaejomjpobdmkaa
