/-
  word, Reset, failed, Accept, Requests, Read of the reference. No condition.
-/
import Derived.Test.YtjolhlfjpnlcnaaDkA
import Derived.Test.YtjolhlfjpnlcnaaArC
namespace Go.Proofs.Ytjolhlfjpnlcnaa
open Go.RowKit
set_option linter.unusedSimpArgs false
set_option linter.unusedVariables false
set_option maxHeartbeats 4000000
set_option maxRecDepth 100000
attribute [local irreducible] wpQuiet

theorem rword_any (n : Int) (w : World) : Calls Try.prog 34 #[.int .i64 n] w fun e' w' => e' = .returned (.bool (wordV n)) ∧ Below w.heap.size w w' := by
  have hB := Below.refl w.heap.size w
  unfold wordV
  by_cases h1 : 0 ≤ n
  · have d1 : decide (0 ≤ n) = true := decide_eq_true h1
    go_enter Try.func34, Try.ntmps34
    go_wp2
    go_ret
    exact ⟨by simp [h1], hB⟩
  · have d1 : decide (0 ≤ n) = false := decide_eq_false h1
    go_enter Try.func34, Try.ntmps34
    go_wp2
    go_ret
    exact ⟨by simp, hB⟩
theorem rresetK_any (K : Dk) (A1 : Option Addr) (n1 c1 : Nat) (A2 : Option Addr) (n2 c2 : Nat) (w : World) : Calls Try.prog 19 #[.agg #[(.slice A1 n1 c1), (.slice A2 n2 c2), .bool (K).n, .bool (K).r, .bool (K).e, .int .i64 (K).c, .int .i64 (K).w, .int .i64 (K).a, .int .i64 (K).s, .int .i64 (K).l]] w fun e' w' => e' = .returned (.agg #[(.slice A1 n1 c1), (.slice A2 n2 c2), .bool (K.reset).n, .bool (K.reset).r, .bool (K.reset).e, .int .i64 (K.reset).c, .int .i64 (K.reset).w, .int .i64 (K.reset).a, .int .i64 (K.reset).s, .int .i64 (K.reset).l]) ∧ Below w.heap.size w w' := by
  obtain ⟨D, n, r, e, c, w1, a, s, l⟩ := K
  unfold Dk.reset
  go_enter Try.func19, Try.ntmps19
  go_wp2
  exact bodyPost_ret (results_c Try.results19 rfl (((two_dk w _ _).all _ _ _ List.mem_cons_self).loadVar rfl aggK sizK)) rfl ⟨rfl, (two_dk w _ _).below⟩
theorem rfailK_any (K : Dk) (A1 : Option Addr) (n1 c1 : Nat) (A2 : Option Addr) (n2 c2 : Nat) (w : World) : Calls Try.prog 45 #[.agg #[(.slice A1 n1 c1), (.slice A2 n2 c2), .bool (K).n, .bool (K).r, .bool (K).e, .int .i64 (K).c, .int .i64 (K).w, .int .i64 (K).a, .int .i64 (K).s, .int .i64 (K).l]] w fun e' w' => e' = .returned (.agg #[(.slice A1 n1 c1), (.slice A2 n2 c2), .bool (K.fail).n, .bool (K.fail).r, .bool (K.fail).e, .int .i64 (K.fail).c, .int .i64 (K.fail).w, .int .i64 (K.fail).a, .int .i64 (K.fail).s, .int .i64 (K.fail).l]) ∧ Below w.heap.size w w' := by
  obtain ⟨D, n, r, e, c, w1, a, s, l⟩ := K
  unfold Dk.fail
  go_enter Try.func45, Try.ntmps45
  go_wp2
  exact bodyPost_ret (results_c Try.results45 rfl (((two_dk w _ _).all _ _ _ List.mem_cons_self).loadVar rfl aggK sizK)) rfl ⟨rfl, (two_dk w _ _).below⟩
theorem raccK_any (K : Dk) (v : Int) (A1 : Option Addr) (n1 c1 : Nat) (A2 : Option Addr) (n2 c2 : Nat) (w : World) : Calls Try.prog 24 #[.agg #[(.slice A1 n1 c1), (.slice A2 n2 c2), .bool (K).n, .bool (K).r, .bool (K).e, .int .i64 (K).c, .int .i64 (K).w, .int .i64 (K).a, .int .i64 (K).s, .int .i64 (K).l], .int .i64 v] w fun e' w' => e' = .returned (.agg #[(.slice A1 n1 c1), (.slice A2 n2 c2), .bool (K.acc v).n, .bool (K.acc v).r, .bool (K.acc v).e, .int .i64 (K.acc v).c, .int .i64 (K.acc v).w, .int .i64 (K.acc v).a, .int .i64 (K.acc v).s, .int .i64 (K.acc v).l]) ∧ Below w.heap.size w w' := by
  obtain ⟨D, n, r, e, c, w1, a, s, l⟩ := K
  unfold Dk.acc
  by_cases h : v = 160
  · subst h
    rw [if_pos rfl]
    go_enter Try.func24, Try.ntmps24
    go_wp2
    exact bodyPost_ret (results_c Try.results24 rfl (((two_dk w _ _).all _ _ _ List.mem_cons_self).loadVar rfl aggK sizK)) rfl ⟨rfl, (two_dk w _ _).below⟩
  · have hv : (v == 160) = false := by simpa using h
    rw [if_neg h]
    go_enter Try.func24, Try.ntmps24
    go_wp2
    exact bodyPost_ret (results_c Try.results24 rfl (((two_dk w _ _).all _ _ _ List.mem_cons_self).loadVar rfl aggK sizK)) rfl ⟨rfl, (two_dk w _ _).below⟩
theorem rreqK_any (K : Dk) (A1 : Option Addr) (n1 c1 : Nat) (A2 : Option Addr) (n2 c2 : Nat) (w : World) : Calls Try.prog 22 #[.agg #[(.slice A1 n1 c1), (.slice A2 n2 c2), .bool (K).n, .bool (K).r, .bool (K).e, .int .i64 (K).c, .int .i64 (K).w, .int .i64 (K).a, .int .i64 (K).s, .int .i64 (K).l]] w fun e' w' => ∃ v, e' = .returned v ∧ Rqs w' v K.req ∧ Below w.heap.size w w' := by
  obtain ⟨D, n, r, e, c, w1, a, s, l⟩ := K
  have hX := (Bag.nil w).new 27 [(.slice A1 n1 c1), (.slice A2 n2 c2), .bool n, .bool r, .bool e, .int .i64 c, .int .i64 w1, .int .i64 a, .int .i64 s, .int .i64 l]
  cases n
  · go_enter Try.func22, Try.ntmps22
    go_wp2
    go_ret
    exact ⟨_, rfl, Rw.nil _, hX.below⟩
  · cases r
    · go_enter Try.func22, Try.ntmps22
      go_wp2
      go_ret
      exact ⟨_, rfl, Rw.nil _, hX.below⟩
    · go_enter Try.func22, Try.ntmps22
      go_wp2
      go_ret
      have hr := rqs_new (w.alloc (.cells ([(.slice A1 n1 c1), (.slice A2 n2 c2), .bool true, .bool true, .bool e, .int .i64 c, .int .i64 w1, .int .i64 a, .int .i64 s, .int .i64 l] : List Value).toArray 27)) [(5, 160)] 1 rfl
      rw [show (w.alloc (.cells ([(.slice A1 n1 c1), (.slice A2 n2 c2), .bool true, .bool true, .bool e, .int .i64 c, .int .i64 w1, .int .i64 a, .int .i64 s, .int .i64 l] : List Value).toArray 27)).heap.size = w.heap.size + 1 from Array.size_push ..] at hr
      exact ⟨_, rfl, hr, hX.below.alloc hX.below.size _⟩
theorem rreadK_any (K : Dk) (g : Int) (hc0 : 0 ≤ K.c) (hc1 : K.c ≤ 3) (A1 : Option Addr) (n1 c1 : Nat) (A2 : Option Addr) (n2 c2 : Nat) (w : World) : Calls Try.prog 15 #[.agg #[(.slice A1 n1 c1), (.slice A2 n2 c2), .bool (K).n, .bool (K).r, .bool (K).e, .int .i64 (K).c, .int .i64 (K).w, .int .i64 (K).a, .int .i64 (K).s, .int .i64 (K).l], .int .i64 g] w fun e' w' => e' = .returned (.tuple #[.int .i64 (K.rd g).1, .bool (K.rd g).2]) ∧ Below w.heap.size w w' := by
  obtain ⟨D, n, r, e, c, w1, a, s, l⟩ := K
  dsimp only at hc0 hc1
  unfold Dk.rd stK
  have hX := (Bag.nil w).new 27 [(.slice A1 n1 c1), (.slice A2 n2 c2), .bool n, .bool r, .bool e, .int .i64 c, .int .i64 w1, .int .i64 a, .int .i64 s, .int .i64 l]
  by_cases h2 : g = 2
  · subst h2
    rw [if_pos rfl]
    go_enter Try.func15, Try.ntmps15
    go_wp2
    go_ret2
    exact ⟨rfl, hX.below⟩
  have e2 : (g == 2) = false := by simpa using h2
  rw [if_neg h2]
  by_cases h4 : g = 4
  · subst h4
    rw [if_pos rfl]
    go_enter Try.func15, Try.ntmps15
    go_wp2
    go_ret2
    exact ⟨rfl, hX.below⟩
  have e4 : (g == 4) = false := by simpa using h4
  rw [if_neg h4]
  by_cases h6 : g = 6
  · subst h6
    rw [if_pos rfl]
    go_enter Try.func15, Try.ntmps15
    go_wp2
    go_ret2
    exact ⟨rfl, hX.below⟩
  have e6 : (g == 6) = false := by simpa using h6
  rw [if_neg h6]
  by_cases h0 : g = 0
  · subst h0
    rw [if_pos rfl]
    have w0 : IntKind.i64.wrap (2 * c) = 2 * c := by rw [wrap_i64]; unfold wrap64; omega
    have w1' : IntKind.i64.wrap (2 * c + 64) = 2 * c + 64 := by rw [wrap_i64]; unfold wrap64; omega
    have w2 : IntKind.i64.wrap (2 * c + 128) = 2 * c + 128 := by rw [wrap_i64]; unfold wrap64; omega
    have w3 : IntKind.i64.wrap (2 * c + 64 + 128) = 2 * c + 64 + 128 := by rw [wrap_i64]; unfold wrap64; omega
    have w4 : IntKind.i64.wrap (2 * c + 32768) = 2 * c + 32768 := by rw [wrap_i64]; unfold wrap64; omega
    have w5 : IntKind.i64.wrap (2 * c + 64 + 32768) = 2 * c + 64 + 32768 := by rw [wrap_i64]; unfold wrap64; omega
    have w6 : IntKind.i64.wrap (2 * c + 128 + 32768) = 2 * c + 128 + 32768 := by rw [wrap_i64]; unfold wrap64; omega
    have w7 : IntKind.i64.wrap (2 * c + 64 + 128 + 32768) = 2 * c + 64 + 128 + 32768 := by rw [wrap_i64]; unfold wrap64; omega
    cases n <;> cases r <;> cases e
    all_goals
      go_enter Try.func15, Try.ntmps15
      go_wp2
      go_ret2
      exact ⟨by simp, hX.below⟩
  · have e0 : (g == 0) = false := by simpa using h0
    have e0' : (g != 0) = true := by simpa using h0
    rw [if_neg h0]
    go_enter Try.func15, Try.ntmps15
    go_wp2
    go_ret2
    exact ⟨rfl, hX.below⟩
end Go.Proofs.Ytjolhlfjpnlcnaa
