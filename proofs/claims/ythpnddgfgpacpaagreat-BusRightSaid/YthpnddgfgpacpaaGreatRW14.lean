import Derived.Test.YthpnddgfgpacpaaGreatRW06
import Derived.Test.YthpnddgfgpacpaaGreatRW07
import Derived.Test.YthpnddgfgpacpaaGreatRW13
/-
  The reference of package clock. Condition: where said, the clock is valid.
-/
namespace Go.Proofs.YthpnddgfgpacpaaGreat
open Go.RowKit
set_option linter.unusedSimpArgs false
set_option linter.unusedVariables false
set_option maxHeartbeats 4000000
set_option maxRecDepth 100000
attribute [local irreducible] wpQuiet
theorem rright_0 (e r : Bool) (p l : Int)  (c0 : ¬ 1 ≤ p) (w : World) : Calls Tryz.prog 33 #[.agg #[.bool e, .bool r, .int .i64 p, .int .i64 l]] w fun e' w' => e' = .returned (.bool false) ∧ Below w.heap.size w w' := by
  have d0 : decide (1 ≤ p) = false := decide_eq_false c0
  go_enter Tryz.func33, Tryz.ntmps33
  go_wp2
  go_ret
  exact ⟨rfl, ((Bag.nil w).new 34 _).below⟩
theorem rright_1 (e r : Bool) (p l : Int) (c0 : 1 ≤ p) (c1 : ¬ p ≤ 65535) (w : World) : Calls Tryz.prog 33 #[.agg #[.bool e, .bool r, .int .i64 p, .int .i64 l]] w fun e' w' => e' = .returned (.bool false) ∧ Below w.heap.size w w' := by
  have d0 : decide (1 ≤ p) = true := decide_eq_true c0
  have d1 : decide (p ≤ 65535) = false := decide_eq_false c1
  go_enter Tryz.func33, Tryz.ntmps33
  go_wp2
  go_ret
  exact ⟨rfl, ((Bag.nil w).new 34 _).below⟩
theorem rright_2 (e r : Bool) (p l : Int) (c0 : 1 ≤ p) (c1 : p ≤ 65535) (c2 : ¬ 1 ≤ l) (w : World) : Calls Tryz.prog 33 #[.agg #[.bool e, .bool r, .int .i64 p, .int .i64 l]] w fun e' w' => e' = .returned (.bool false) ∧ Below w.heap.size w w' := by
  have d0 : decide (1 ≤ p) = true := decide_eq_true c0
  have d1 : decide (p ≤ 65535) = true := decide_eq_true c1
  have d2 : decide (1 ≤ l) = false := decide_eq_false c2
  go_enter Tryz.func33, Tryz.ntmps33
  go_wp2
  go_ret
  exact ⟨rfl, ((Bag.nil w).new 34 _).below⟩
theorem rright_3 (e r : Bool) (p l : Int) (c0 : 1 ≤ p) (c1 : p ≤ 65535) (c2 : 1 ≤ l) (c3 : ¬ l ≤ p) (w : World) : Calls Tryz.prog 33 #[.agg #[.bool e, .bool r, .int .i64 p, .int .i64 l]] w fun e' w' => e' = .returned (.bool false) ∧ Below w.heap.size w w' := by
  have d0 : decide (1 ≤ p) = true := decide_eq_true c0
  have d1 : decide (p ≤ 65535) = true := decide_eq_true c1
  have d2 : decide (1 ≤ l) = true := decide_eq_true c2
  have d3 : decide (l ≤ p) = false := decide_eq_false c3
  go_enter Tryz.func33, Tryz.ntmps33
  go_wp2
  go_ret
  exact ⟨rfl, ((Bag.nil w).new 34 _).below⟩
theorem rright_4 (e r : Bool) (p l : Int) (c0 : 1 ≤ p) (c1 : p ≤ 65535) (c2 : 1 ≤ l) (c3 : l ≤ p) (w : World) : Calls Tryz.prog 33 #[.agg #[.bool e, .bool r, .int .i64 p, .int .i64 l]] w fun e' w' => e' = .returned (.bool true) ∧ Below w.heap.size w w' := by
  have d0 : decide (1 ≤ p) = true := decide_eq_true c0
  have d1 : decide (p ≤ 65535) = true := decide_eq_true c1
  have d2 : decide (1 ≤ l) = true := decide_eq_true c2
  have d3 : decide (l ≤ p) = true := decide_eq_true c3
  go_enter Tryz.func33, Tryz.ntmps33
  go_wp2
  go_ret
  exact ⟨rfl, ((Bag.nil w).new 34 _).below⟩
theorem rright_any_13 (c : Ck) (w : World) : Calls Tryz.prog 33 #[.agg #[.bool c.e, .bool c.r, .int .i64 c.p, .int .i64 c.l]] w fun e' w' => e' = .returned (.bool c.right) ∧ Below w.heap.size w w' := by
  obtain ⟨e, r, p, l⟩ := c
  unfold Ck.right
  by_cases c0 : ¬ 1 ≤ p
  · have := rright_0 e r p l c0 w
    simpa [c0] using this
  replace c0 : 1 ≤ p := by omega
  by_cases c1 : ¬ p ≤ 65535
  · have := rright_1 e r p l c0 c1 w
    simpa [c0, c1] using this
  replace c1 : p ≤ 65535 := by omega
  by_cases c2 : ¬ 1 ≤ l
  · have := rright_2 e r p l c0 c1 c2 w
    simpa [c0, c1, c2] using this
  replace c2 : 1 ≤ l := by omega
  by_cases c3 : ¬ l ≤ p
  · have := rright_3 e r p l c0 c1 c2 c3 w
    simpa [c0, c1, c2, c3] using this
  replace c3 : l ≤ p := by omega
  have := rright_4 e r p l c0 c1 c2 c3 w
  simpa [c0, c1, c2, c3] using this
theorem and_bits (v : Int) : (bits .and .i64 v 64 != 0) = decide (v / 64 % 2 = 1) ∧ (bits .and .i64 v 128 != 0) = decide (v / 128 % 2 = 1) := by
  have h1 : bits .and .i64 v 64 = v / 64 % 2 * 64 := i_and (c := 64) (by decide) (field _ 6 1) (by intro h; omega)
  have h2 : bits .and .i64 v 128 = v / 128 % 2 * 128 := i_and (c := 128) (by decide) (field _ 7 1) (by intro h; omega)
  constructor
  · rw [h1, Bool.eq_iff_iff]; simp; omega
  · rw [h2, Bool.eq_iff_iff]; simp; omega
theorem rwrite_any_13 (c : Ck) (v : Int) (w : World) : Calls Tryz.prog 106 #[.agg #[.bool c.e, .bool c.r, .int .i64 c.p, .int .i64 c.l], .int .i64 v] w fun e' w' => e' = .returned (.agg #[.bool (c.write v).e, .bool (c.write v).r, .int .i64 (c.write v).p, .int .i64 (c.write v).l]) ∧ Below w.heap.size w w' := by
  obtain ⟨e, r, p, l⟩ := c
  obtain ⟨h1, h2⟩ := and_bits v
  simp only [Ck.write]
  generalize decide (v / 64 % 2 = 1) = b1 at *
  generalize decide (v / 128 % 2 = 1) = b2 at *
  cases r
  · go_enter Tryz.func106, Tryz.ntmps106
    go_wp2
    exact bodyPost_ret (results_c Tryz.results106 rfl (((two_new w _ _).all _ _ _ List.mem_cons_self).loadVar rfl aggK_13 sizK_13)) rfl ⟨rfl, (two_new w _ _).below⟩
  · go_enter Tryz.func106, Tryz.ntmps106
    go_wp2
    exact bodyPost_ret (results_c Tryz.results106 rfl (((two_new w _ _).all _ _ _ List.mem_cons_self).loadVar rfl aggK_13 sizK_13)) rfl ⟨rfl, (two_new w _ _).below⟩
theorem rnew_any_13 (n : Int) (w : World) : Calls Tryz.prog 69 #[.int .i64 n] w fun e' w' => e' = .returned (.tuple #[.agg #[.bool ((newK n).1).e, .bool ((newK n).1).r, .int .i64 ((newK n).1).p, .int .i64 ((newK n).1).l], .int .i64 (newK n).2]) ∧ Below w.heap.size w w' := by
  unfold newK
  have hX := (Bag.nil w).new 34 [.bool false, .bool false, .int .i64 0, .int .i64 0]
  by_cases h1 : n < 1
  · have d1 : decide (n < 1) = true := decide_eq_true h1
    rw [if_neg (by omega)]
    go_enter Tryz.func69, Tryz.ntmps69
    go_wp2
    exact bodyPost_ret (results_ct Tryz.results69 rfl ((((Bag.nil w).new 34 _).all _ _ _ List.mem_cons_self).loadVar rfl aggK_13 sizK_13)) rfl ⟨rfl, ((Bag.nil w).new 34 _).below⟩
  · have d1 : decide (n < 1) = false := decide_eq_false h1
    by_cases h2 : 65535 < n
    · have d2 : decide (65535 < n) = true := decide_eq_true h2
      rw [if_neg (by omega)]
      go_enter Tryz.func69, Tryz.ntmps69
      go_wp2
      exact bodyPost_ret (results_ct Tryz.results69 rfl ((((Bag.nil w).new 34 _).all _ _ _ List.mem_cons_self).loadVar rfl aggK_13 sizK_13)) rfl ⟨rfl, ((Bag.nil w).new 34 _).below⟩
    · have d2 : decide (65535 < n) = false := decide_eq_false h2
      rw [if_pos (by omega)]
      go_enter Tryz.func69, Tryz.ntmps69
      go_wp2
      exact bodyPost_ret (results_ct Tryz.results69 rfl ((((Bag.nil w).new 34 _).all _ _ _ List.mem_cons_self).loadVar rfl aggK_13 sizK_13)) rfl ⟨rfl, ((Bag.nil w).new 34 _).below⟩
end Go.Proofs.YthpnddgfgpacpaaGreat
/-
  word, bit, Reset, Accept, Requests, Mount, Read of the reference. No condition.
-/
namespace Go.Proofs.YthpnddgfgpacpaaGreat
open Go.RowKit
set_option linter.unusedSimpArgs false
set_option linter.unusedVariables false
set_option maxHeartbeats 4000000
set_option maxRecDepth 100000
attribute [local irreducible] wpQuiet

theorem rwordT_any (n : Int) (w : World) : Calls Tryz.prog 79 #[.int .i64 n] w fun e' w' => e' = .returned (.bool (wordV_17 n)) ∧ Below w.heap.size w w' := by
  have hB := Below.refl w.heap.size w
  unfold wordV_17
  by_cases h1 : 0 ≤ n
  · have d1 : decide (0 ≤ n) = true := decide_eq_true h1
    go_enter Tryz.func79, Tryz.ntmps79
    go_wp2
    go_ret
    exact ⟨by simp [h1], hB⟩
  · have d1 : decide (0 ≤ n) = false := decide_eq_false h1
    go_enter Tryz.func79, Tryz.ntmps79
    go_wp2
    go_ret
    exact ⟨by simp, hB⟩
end Go.Proofs.YthpnddgfgpacpaaGreat
/-
  start, Write of the reference. No condition.
-/
namespace Go.Proofs.YthpnddgfgpacpaaGreat
open Go.RowKit
set_option linter.unusedSimpArgs false
set_option linter.unusedVariables false
set_option maxHeartbeats 4000000
set_option maxRecDepth 100000
attribute [local irreducible] wpQuiet

theorem siz_int_17 (w : World) : (sizeOf 3).run Tryz.prog w = .ok 1 w := by kernel_rfl
theorem siz_bool_17 (w : World) : (sizeOf 4).run Tryz.prog w = .ok 1 w := by kernel_rfl
theorem andT64 (n : Int) : (bits .and .i64 n 64 != 0) = decide (n / 64 % 2 = 1) := by
  have h1 : bits .and .i64 n 64 = n / 64 % 2 * 64 := i_and (c := 64) (by decide) (field _ 6 1) (by intro h; omega)
  rw [h1, Bool.eq_iff_iff]; simp; omega
theorem andT1 (n : Int) : (bits .and .i64 n 1 != 0) = decide (n % 2 = 1) := by
  have h1 : bits .and .i64 n 1 = n % 2 := i_and (c := 1) (by decide) (field _ 0 1) (by intro h; omega)
  rw [h1, Bool.eq_iff_iff]; simp; omega
theorem andT7 (n : Int) : bits .and .i64 n 7 = n % 8 := i_and (c := 7) (by decide) (field _ 0 3) (by intro h; omega)
theorem andT16 (n : Int) : bits .and .i64 n 65535 = n % 65536 := i_and (c := 65535) (by decide) (field _ 0 16) (by intro h; omega)
theorem rgoT_any (K : Tp) (q : Int) (A1 : Option Addr) (n1 c1 : Nat) (w : World) : Calls Tryz.prog 135 #[.agg #[(.slice A1 n1 c1), .int .i64 (K).p, .bool (K).n, .bool (K).r, .bool (K).e, .bool (K).m, .bool (K).d, .int .i64 (K).c, .int .i64 (K).k, .int .i64 (K).a, .int .i64 (K).l], .int .i64 q] w fun e' w' => e' = .returned (.agg #[(.slice A1 n1 c1), .int .i64 (K.go q).p, .bool (K.go q).n, .bool (K.go q).r, .bool (K.go q).e, .bool (K.go q).m, .bool (K.go q).d, .int .i64 (K.go q).c, .int .i64 (K.go q).k, .int .i64 (K.go q).a, .int .i64 (K.go q).l]) ∧ Below w.heap.size w w' := by
  obtain ⟨R, p, n, r, e, m, d, c, k, a, l⟩ := K
  unfold Tp.go
  by_cases h0 : q = 0
  · subst h0
    rw [if_pos (.inl rfl)]
    go_enter Tryz.func135, Tryz.ntmps135
    go_wp2
    exact bodyPost_ret (results_c Tryz.results135 rfl (((two_tp w _ _).all _ _ _ List.mem_cons_self).loadVar rfl aggT sizT)) rfl ⟨rfl, (two_tp w _ _).below⟩
  by_cases h7 : q = 7
  · subst h7
    rw [if_pos (.inr rfl)]
    go_enter Tryz.func135, Tryz.ntmps135
    go_wp2
    exact bodyPost_ret (results_c Tryz.results135 rfl (((two_tp w _ _).all _ _ _ List.mem_cons_self).loadVar rfl aggT sizT)) rfl ⟨rfl, (two_tp w _ _).below⟩
  have e0 : (q != 0) = true := by simpa using h0
  have e7 : (q == 7) = false := by simpa using h7
  rw [if_neg (fun h => by rcases h with h | h; exact h0 h; exact h7 h)]
  go_enter Tryz.func135, Tryz.ntmps135
  go_wp2
  exact bodyPost_ret (results_c Tryz.results135 rfl (((two_tp w _ _).all _ _ _ List.mem_cons_self).loadVar rfl aggT sizT)) rfl ⟨rfl, (two_tp w _ _).below⟩
theorem rwrT_2 (K : Tp) (v : Int) (A1 : Option Addr) (n1 c1 : Nat) (w : World) : Calls Tryz.prog 108 #[.agg #[(.slice A1 n1 c1), .int .i64 (K).p, .bool (K).n, .bool (K).r, .bool (K).e, .bool (K).m, .bool (K).d, .int .i64 (K).c, .int .i64 (K).k, .int .i64 (K).a, .int .i64 (K).l], .int .i64 2, .int .i64 v] w fun e' w' => e' = .returned (.tuple #[.agg #[(.slice A1 n1 c1), .int .i64 ((K.wr 2 v).1).p, .bool ((K.wr 2 v).1).n, .bool ((K.wr 2 v).1).r, .bool ((K.wr 2 v).1).e, .bool ((K.wr 2 v).1).m, .bool ((K.wr 2 v).1).d, .int .i64 ((K.wr 2 v).1).c, .int .i64 ((K.wr 2 v).1).k, .int .i64 ((K.wr 2 v).1).a, .int .i64 ((K.wr 2 v).1).l], .bool true]) ∧ Below w.heap.size w w' := by
  obtain ⟨R, p, n, r, e, m, d, c, k, a, l⟩ := K
  have hv := andT16 v
  cases r
  · go_enter Tryz.func108, Tryz.ntmps108
    go_wp2
    exact bodyPost_ret (results_ct Tryz.results108 rfl (((two_tp w _ _).all _ _ _ List.mem_cons_self).loadVar rfl aggT sizT)) rfl ⟨rfl, (two_tp w _ _).below⟩
  · show Calls _ _ _ _ fun e' w' => e' = .returned (.tuple #[.agg #[(.slice A1 n1 c1), .int .i64 p, .bool n, .bool true, .bool e, .bool m, .bool d, .int .i64 c, .int .i64 (v % 65536), .int .i64 a, .int .i64 l], .bool true]) ∧ _
    go_enter Tryz.func108, Tryz.ntmps108
    go_wp2
    exact bodyPost_ret (results_ct Tryz.results108 rfl (((two_tp w _ _).all _ _ _ List.mem_cons_self).loadVar rfl aggT sizT)) rfl ⟨rfl, (two_tp w _ _).below⟩
theorem rwrT_4 (K : Tp) (v : Int) (A1 : Option Addr) (n1 c1 : Nat) (w : World) : Calls Tryz.prog 108 #[.agg #[(.slice A1 n1 c1), .int .i64 (K).p, .bool (K).n, .bool (K).r, .bool (K).e, .bool (K).m, .bool (K).d, .int .i64 (K).c, .int .i64 (K).k, .int .i64 (K).a, .int .i64 (K).l], .int .i64 4, .int .i64 v] w fun e' w' => e' = .returned (.tuple #[.agg #[(.slice A1 n1 c1), .int .i64 ((K.wr 4 v).1).p, .bool ((K.wr 4 v).1).n, .bool ((K.wr 4 v).1).r, .bool ((K.wr 4 v).1).e, .bool ((K.wr 4 v).1).m, .bool ((K.wr 4 v).1).d, .int .i64 ((K.wr 4 v).1).c, .int .i64 ((K.wr 4 v).1).k, .int .i64 ((K.wr 4 v).1).a, .int .i64 ((K.wr 4 v).1).l], .bool true]) ∧ Below w.heap.size w w' := by
  obtain ⟨R, p, n, r, e, m, d, c, k, a, l⟩ := K
  have hv := andT16 v
  cases r
  · go_enter Tryz.func108, Tryz.ntmps108
    go_wp2
    exact bodyPost_ret (results_ct Tryz.results108 rfl (((two_tp w _ _).all _ _ _ List.mem_cons_self).loadVar rfl aggT sizT)) rfl ⟨rfl, (two_tp w _ _).below⟩
  · show Calls _ _ _ _ fun e' w' => e' = .returned (.tuple #[.agg #[(.slice A1 n1 c1), .int .i64 p, .bool n, .bool true, .bool e, .bool m, .bool d, .int .i64 c, .int .i64 k, .int .i64 (v % 65536), .int .i64 l], .bool true]) ∧ _
    go_enter Tryz.func108, Tryz.ntmps108
    go_wp2
    exact bodyPost_ret (results_ct Tryz.results108 rfl (((two_tp w _ _).all _ _ _ List.mem_cons_self).loadVar rfl aggT sizT)) rfl ⟨rfl, (two_tp w _ _).below⟩
theorem rwrT_no (K : Tp) (g v : Int) (h0 : g ≠ 0) (h2 : g ≠ 2) (h4 : g ≠ 4) (A1 : Option Addr) (n1 c1 : Nat) (w : World) : Calls Tryz.prog 108 #[.agg #[(.slice A1 n1 c1), .int .i64 (K).p, .bool (K).n, .bool (K).r, .bool (K).e, .bool (K).m, .bool (K).d, .int .i64 (K).c, .int .i64 (K).k, .int .i64 (K).a, .int .i64 (K).l], .int .i64 g, .int .i64 v] w fun e' w' => e' = .returned (.tuple #[.agg #[(.slice A1 n1 c1), .int .i64 (K).p, .bool (K).n, .bool (K).r, .bool (K).e, .bool (K).m, .bool (K).d, .int .i64 (K).c, .int .i64 (K).k, .int .i64 (K).a, .int .i64 (K).l], .bool false]) ∧ Below w.heap.size w w' := by
  obtain ⟨R, p, n, r, e, m, d, c, k, a, l⟩ := K
  have d0 : (g == 0) = false := by simpa using h0
  have d2 : (g == 2) = false := by simpa using h2
  have d4 : (g == 4) = false := by simpa using h4
  go_enter Tryz.func108, Tryz.ntmps108
  go_wp2
  exact bodyPost_ret (results_ct Tryz.results108 rfl (((two_tp w _ _).all _ _ _ List.mem_cons_self).loadVar rfl aggT sizT)) rfl ⟨rfl, (two_tp w _ _).below⟩
theorem rwrT_0 (K : Tp) (v : Int) (A1 : Option Addr) (n1 c1 : Nat) (w : World) : Calls Tryz.prog 108 #[.agg #[(.slice A1 n1 c1), .int .i64 (K).p, .bool (K).n, .bool (K).r, .bool (K).e, .bool (K).m, .bool (K).d, .int .i64 (K).c, .int .i64 (K).k, .int .i64 (K).a, .int .i64 (K).l], .int .i64 0, .int .i64 v] w fun e' w' => e' = .returned (.tuple #[.agg #[(.slice A1 n1 c1), .int .i64 ((K.wr 0 v).1).p, .bool ((K.wr 0 v).1).n, .bool ((K.wr 0 v).1).r, .bool ((K.wr 0 v).1).e, .bool ((K.wr 0 v).1).m, .bool ((K.wr 0 v).1).d, .int .i64 ((K.wr 0 v).1).c, .int .i64 ((K.wr 0 v).1).k, .int .i64 ((K.wr 0 v).1).a, .int .i64 ((K.wr 0 v).1).l], .bool true]) ∧ Below w.heap.size w w' := by
  have h64 := andT64 v
  have h1 := andT1 v
  have h7 := andT7 (v / 2)
  have hw : K.wr 0 v = (if K.r = true ∧ v % 2 = 1 then ({ K with n := decide (v / 64 % 2 = 1) }.go (v / 2 % 8), true) else ({ K with n := decide (v / 64 % 2 = 1) }, true)) := rfl
  rw [hw]
  clear hw
  have hst := fun w => rgoT_any { K with n := decide (v / 64 % 2 = 1) } (v / 2 % 8) A1 n1 c1 w
  obtain ⟨R, p, n, r, e, m, d, c, k, a, l⟩ := K
  dsimp only at hst ⊢
  generalize decide (v / 64 % 2 = 1) = b1 at *
  cases r
  · rw [if_neg (by simp)]
    clear hst
    go_enter Tryz.func108, Tryz.ntmps108
    go_wp2
    exact bodyPost_ret (results_ct Tryz.results108 rfl (((two_tp w _ _).all _ _ _ List.mem_cons_self).loadVar rfl aggT sizT)) rfl ⟨rfl, (two_tp w _ _).below⟩
  · by_cases hv : v % 2 = 1
    · rw [decide_eq_true hv] at h1
      rw [if_pos ⟨rfl, hv⟩]
      clear hv
      dsimp only
      generalize Tp.go _ _ = K2 at *
      generalize v / 2 % 8 = q at *
      have hX := two_tp w [(.slice A1 n1 c1), .int .i64 p, .bool n, .bool true, .bool e, .bool m, .bool d, .int .i64 c, .int .i64 k, .int .i64 a, .int .i64 l] [.slice none 0 0, .int .i64 0, .bool false, .bool false, .bool false, .bool false, .bool false, .int .i64 0, .int .i64 0, .int .i64 0, .int .i64 0]
      go_enter Tryz.func108, Tryz.ntmps108
      go_wp2_with (first | ((with_reducible refine at_load ?_); refine wpList_bag_cell hX int_cell _ rfl rfl rfl rfl (by first | exact .head _ | exact .tail _ (.head _)) rfl ?_) | ((with_reducible refine at_load ?_); refine wpList_bag_cell hX bool_cell _ rfl rfl rfl rfl (by first | exact .head _ | exact .tail _ (.head _)) rfl ?_) | ((with_reducible refine at_load ?_); refine wpList_bag_cell hX slS_cell _ rfl rfl rfl rfl (by first | exact .head _ | exact .tail _ (.head _)) rfl ?_) | ((with_reducible refine at_load ?_); refine wpList_bag_part (k := 0) hX aggT sizT _ rfl rfl rfl rfl (by first | exact .head _ | exact .tail _ (.head _)) (fun jz vz hz => (congrArg (fun n => ([_, _, _, _, _, _, _, _, _, _, _] : List Value)[n]?) (Nat.zero_add jz)).trans hz) rfl ?_) | ((with_reducible refine at_store ?_); first | (refine wpList_bag_putV (z := .bool _) hX.swap siz_bool_17 _ _ rfl rfl rfl rfl rfl rfl (by simp) rfl rfl ?_; intro wp hX3 hk3 hz3; clear hz3; clear hX; have hX := hX3; clear hk3 hX3; simp only [List.set_cons_zero, List.set_cons_succ] at hX) | (refine wpList_bag_putV (z := .bool _) hX siz_bool_17 _ _ rfl rfl rfl rfl rfl rfl (by simp) rfl rfl ?_; intro wp hX3 hk3 hz3; clear hz3; clear hX; have hX := hX3; clear hk3 hX3; simp only [List.set_cons_zero, List.set_cons_succ] at hX)) | (go_at_call 135; (with_reducible refine (hst _).mono ?_); rintro e' ws ⟨rfl, hbb⟩; replace hX := hX.step hbb; clear hbb) | ((with_reducible refine at_store ?_); refine wpList_bag_overV (cs' := [(.slice A1 n1 c1), .int .i64 (K2).p, .bool (K2).n, .bool (K2).r, .bool (K2).e, .bool (K2).m, .bool (K2).d, .int .i64 (K2).c, .int .i64 (K2).k, .int .i64 (K2).a, .int .i64 (K2).l]) hX.swap aggT sizT _ _ rfl rfl rfl rfl rfl rfl rfl rfl (one_tp rfl _ _ _ _ _ _ _ _ _ _) ?_; clear hX; intro wz hX hkz; clear hkz) | ((with_reducible refine at_store ?_); refine wpList_bag_overV (cs' := [(.slice A1 n1 c1), .int .i64 (K2).p, .bool (K2).n, .bool (K2).r, .bool (K2).e, .bool (K2).m, .bool (K2).d, .int .i64 (K2).c, .int .i64 (K2).k, .int .i64 (K2).a, .int .i64 (K2).l]) hX aggT sizT _ _ rfl rfl rfl rfl rfl rfl rfl rfl (one_tp rfl _ _ _ _ _ _ _ _ _ _) ?_; clear hX; intro wz hX hkz; clear hkz))
      first | exact bodyPost_ret (results_ct Tryz.results108 rfl ((hX.all _ _ _ (.head _)).loadVar rfl aggT sizT)) rfl ⟨rfl, hX.below⟩ | exact bodyPost_ret (results_ct Tryz.results108 rfl ((hX.all _ _ _ (.tail _ (.head _))).loadVar rfl aggT sizT)) rfl ⟨rfl, hX.below⟩
    · rw [decide_eq_false hv] at h1
      rw [if_neg (by intro h; exact hv h.2)]
      clear hst
      go_enter Tryz.func108, Tryz.ntmps108
      go_wp2
      exact bodyPost_ret (results_ct Tryz.results108 rfl (((two_tp w _ _).all _ _ _ List.mem_cons_self).loadVar rfl aggT sizT)) rfl ⟨rfl, (two_tp w _ _).below⟩
theorem rwriteT_any (K : Tp) (g v : Int) (vs : Value) (w : World) (X : Nat → Prop) (hs : StsX X w vs K.R) : Calls Tryz.prog 108 #[.agg #[vs, .int .i64 (K).p, .bool (K).n, .bool (K).r, .bool (K).e, .bool (K).m, .bool (K).d, .int .i64 (K).c, .int .i64 (K).k, .int .i64 (K).a, .int .i64 (K).l], .int .i64 g, .int .i64 v] w fun e' w' => ∃ x, e' = .returned (.tuple #[x, .bool (K.wr g v).2]) ∧ TpX X w' x (K.wr g v).1 ∧ Below w.heap.size w w' := by
  obtain ⟨A1, c1, rfl, _⟩ := hs.now.form
  have hR : (K.wr g v).1.R = K.R := by
    unfold Tp.wr Tp.go
    repeat' split
    all_goals rfl
  have fin : ∀ K2 : Tp, K2.R = K.R → ∀ w', Below w.heap.size w w' → TpX X w' (.agg #[(.slice A1 K.R.length c1), .int .i64 (K2).p, .bool (K2).n, .bool (K2).r, .bool (K2).e, .bool (K2).m, .bool (K2).d, .int .i64 (K2).c, .int .i64 (K2).k, .int .i64 (K2).a, .int .i64 (K2).l]) K2 := fun K2 h w' hb' => ⟨_, rfl, by rw [h]; exact hs.below hb'⟩
  by_cases h0 : g = 0
  · subst h0
    have h2 : (K.wr 0 v).2 = true := by unfold Tp.wr; rw [if_pos rfl]; split <;> rfl
    rw [h2]
    exact (rwrT_0 K v A1 _ c1 w).mono fun e' w' ⟨h1, h2⟩ => ⟨_, h1, fin _ hR _ h2, h2⟩
  by_cases h2 : g = 2
  · subst h2
    exact (rwrT_2 K v A1 _ c1 w).mono fun e' w' ⟨h1, h2⟩ => ⟨_, h1, fin _ hR _ h2, h2⟩
  by_cases h4 : g = 4
  · subst h4
    exact (rwrT_4 K v A1 _ c1 w).mono fun e' w' ⟨h1, h2⟩ => ⟨_, h1, fin _ hR _ h2, h2⟩
  have hz : K.wr g v = (K, false) := by unfold Tp.wr; rw [if_neg h0, if_neg h2, if_neg h4]
  rw [hz]
  exact (rwrT_no K g v h0 h2 h4 A1 _ c1 w).mono fun e' w' ⟨h1, h2⟩ => ⟨_, h1, fin _ rfl _ h2, h2⟩
end Go.Proofs.YthpnddgfgpacpaaGreat
