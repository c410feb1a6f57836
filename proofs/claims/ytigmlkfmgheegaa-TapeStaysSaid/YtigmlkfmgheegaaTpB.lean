/-
  word, bit, Reset, Accept, Requests, Mount, Read of the reference. No condition.
-/
import Derived.Test.YtigmlkfmgheegaaTpA
import Derived.Test.YtigmlkfmgheegaaArC
namespace Go.Proofs.Ytigmlkfmgheegaa
open Go.RowKit
set_option linter.unusedSimpArgs false
set_option linter.unusedVariables false
set_option maxHeartbeats 4000000
set_option maxRecDepth 100000
attribute [local irreducible] wpQuiet

theorem rwordT_any (n : Int) (w : World) : Calls Try.prog 42 #[.int .i64 n] w fun e' w' => e' = .returned (.bool (wordV n)) ∧ Below w.heap.size w w' := by
  have hB := Below.refl w.heap.size w
  unfold wordV
  by_cases h1 : 0 ≤ n
  · have d1 : decide (0 ≤ n) = true := decide_eq_true h1
    go_enter Try.func42, Try.ntmps42
    go_wp2
    go_ret
    exact ⟨by simp [h1], hB⟩
  · have d1 : decide (0 ≤ n) = false := decide_eq_false h1
    go_enter Try.func42, Try.ntmps42
    go_wp2
    go_ret
    exact ⟨by simp, hB⟩
theorem rbit_any (b : Bool) (n : Int) (w : World) : Calls Try.prog 44 #[.bool b, .int .i64 n] w fun e' w' => e' = .returned (.int .i64 (if b = true then n else 0)) ∧ w = w' := by
  cases b
  all_goals
    go_enter Try.func44, Try.ntmps44
    go_wp2
    go_ret
    exact ⟨rfl, rfl⟩
theorem rresetT_any (K : Tp) (A1 : Option Addr) (n1 c1 : Nat) (w : World) : Calls Try.prog 25 #[.agg #[(.slice A1 n1 c1), .int .i64 (K).p, .bool (K).n, .bool (K).r, .bool (K).e, .bool (K).m, .bool (K).d, .int .i64 (K).c, .int .i64 (K).k, .int .i64 (K).a, .int .i64 (K).l]] w fun e' w' => e' = .returned (.agg #[(.slice A1 n1 c1), .int .i64 (K.reset).p, .bool (K.reset).n, .bool (K.reset).r, .bool (K.reset).e, .bool (K.reset).m, .bool (K.reset).d, .int .i64 (K.reset).c, .int .i64 (K.reset).k, .int .i64 (K.reset).a, .int .i64 (K.reset).l]) ∧ Below w.heap.size w w' := by
  obtain ⟨R, p, n, r, e, m, d, c, k, a, l⟩ := K
  unfold Tp.reset
  go_enter Try.func25, Try.ntmps25
  go_wp2
  exact bodyPost_ret (results_c Try.results25 rfl (((two_tp w _ _).all _ _ _ List.mem_cons_self).loadVar rfl aggT sizT)) rfl ⟨rfl, (two_tp w _ _).below⟩
theorem raccT_any (K : Tp) (v : Int) (A1 : Option Addr) (n1 c1 : Nat) (w : World) : Calls Try.prog 23 #[.agg #[(.slice A1 n1 c1), .int .i64 (K).p, .bool (K).n, .bool (K).r, .bool (K).e, .bool (K).m, .bool (K).d, .int .i64 (K).c, .int .i64 (K).k, .int .i64 (K).a, .int .i64 (K).l], .int .i64 v] w fun e' w' => e' = .returned (.agg #[(.slice A1 n1 c1), .int .i64 (K.acc v).p, .bool (K.acc v).n, .bool (K.acc v).r, .bool (K.acc v).e, .bool (K.acc v).m, .bool (K.acc v).d, .int .i64 (K.acc v).c, .int .i64 (K.acc v).k, .int .i64 (K.acc v).a, .int .i64 (K.acc v).l]) ∧ Below w.heap.size w w' := by
  obtain ⟨R, p, n, r, e, m, d, c, k, a, l⟩ := K
  unfold Tp.acc
  by_cases h : v = 164
  · subst h
    rw [if_pos rfl]
    go_enter Try.func23, Try.ntmps23
    go_wp2
    exact bodyPost_ret (results_c Try.results23 rfl (((two_tp w _ _).all _ _ _ List.mem_cons_self).loadVar rfl aggT sizT)) rfl ⟨rfl, (two_tp w _ _).below⟩
  · have hv : (v == 164) = false := by simpa using h
    rw [if_neg h]
    go_enter Try.func23, Try.ntmps23
    go_wp2
    exact bodyPost_ret (results_c Try.results23 rfl (((two_tp w _ _).all _ _ _ List.mem_cons_self).loadVar rfl aggT sizT)) rfl ⟨rfl, (two_tp w _ _).below⟩
theorem rmountT_any (K : Tp) (A1 : Option Addr) (n1 c1 : Nat) (w : World) : Calls Try.prog 27 #[.agg #[(.slice A1 n1 c1), .int .i64 (K).p, .bool (K).n, .bool (K).r, .bool (K).e, .bool (K).m, .bool (K).d, .int .i64 (K).c, .int .i64 (K).k, .int .i64 (K).a, .int .i64 (K).l]] w fun e' w' => e' = .returned (.agg #[(.slice A1 n1 c1), .int .i64 (K.mount).p, .bool (K.mount).n, .bool (K.mount).r, .bool (K.mount).e, .bool (K.mount).m, .bool (K.mount).d, .int .i64 (K.mount).c, .int .i64 (K.mount).k, .int .i64 (K.mount).a, .int .i64 (K.mount).l]) ∧ Below w.heap.size w w' := by
  obtain ⟨R, p, n, r, e, m, d, c, k, a, l⟩ := K
  unfold Tp.mount
  by_cases h : l = 0
  · subst h
    rw [if_pos rfl]
    go_enter Try.func27, Try.ntmps27
    go_wp2
    exact bodyPost_ret (results_c Try.results27 rfl (((two_tp w _ _).all _ _ _ List.mem_cons_self).loadVar rfl aggT sizT)) rfl ⟨rfl, (two_tp w _ _).below⟩
  · have hv : (l != 0) = true := by simpa using h
    rw [if_neg h]
    go_enter Try.func27, Try.ntmps27
    go_wp2
    exact bodyPost_ret (results_c Try.results27 rfl (((two_tp w _ _).all _ _ _ List.mem_cons_self).loadVar rfl aggT sizT)) rfl ⟨rfl, (two_tp w _ _).below⟩
theorem rreqT_any (K : Tp) (A1 : Option Addr) (n1 c1 : Nat) (w : World) : Calls Try.prog 21 #[.agg #[(.slice A1 n1 c1), .int .i64 (K).p, .bool (K).n, .bool (K).r, .bool (K).e, .bool (K).m, .bool (K).d, .int .i64 (K).c, .int .i64 (K).k, .int .i64 (K).a, .int .i64 (K).l]] w fun e' w' => ∃ v, e' = .returned v ∧ Rqs w' v K.req ∧ Below w.heap.size w w' := by
  obtain ⟨R, p, n, r, e, m, d, c, k, a, l⟩ := K
  have hX := (Bag.nil w).new 24 [(.slice A1 n1 c1), .int .i64 p, .bool n, .bool r, .bool e, .bool m, .bool d, .int .i64 c, .int .i64 k, .int .i64 a, .int .i64 l]
  cases n
  · go_enter Try.func21, Try.ntmps21
    go_wp2
    go_ret
    exact ⟨_, rfl, Rw.nil _, hX.below⟩
  · cases r
    · go_enter Try.func21, Try.ntmps21
      go_wp2
      go_ret
      exact ⟨_, rfl, Rw.nil _, hX.below⟩
    · go_enter Try.func21, Try.ntmps21
      go_wp2
      go_ret
      have hr := rqs_new (w.alloc (.cells ([(.slice A1 n1 c1), .int .i64 p, .bool true, .bool true, .bool e, .bool m, .bool d, .int .i64 c, .int .i64 k, .int .i64 a, .int .i64 l] : List Value).toArray 24)) [(5, 164)] 1 rfl
      rw [show (w.alloc (.cells ([(.slice A1 n1 c1), .int .i64 p, .bool true, .bool true, .bool e, .bool m, .bool d, .int .i64 c, .int .i64 k, .int .i64 a, .int .i64 l] : List Value).toArray 24)).heap.size = w.heap.size + 1 from Array.size_push ..] at hr
      exact ⟨_, rfl, hr, hX.below.alloc hX.below.size _⟩
theorem rreadT_any (K : Tp) (g : Int) (hc0 : 0 ≤ K.c) (hc1 : K.c ≤ 6) (A1 : Option Addr) (n1 c1 : Nat) (w : World) : Calls Try.prog 16 #[.agg #[(.slice A1 n1 c1), .int .i64 (K).p, .bool (K).n, .bool (K).r, .bool (K).e, .bool (K).m, .bool (K).d, .int .i64 (K).c, .int .i64 (K).k, .int .i64 (K).a, .int .i64 (K).l], .int .i64 g] w fun e' w' => e' = .returned (.tuple #[.int .i64 (K.rd g).1, .bool (K.rd g).2]) ∧ Below w.heap.size w w' := by
  obtain ⟨R, p, n, r, e, m, d, c, k, a, l⟩ := K
  dsimp only at hc0 hc1
  unfold Tp.rd stT
  have hX := (Bag.nil w).new 24 [(.slice A1 n1 c1), .int .i64 p, .bool n, .bool r, .bool e, .bool m, .bool d, .int .i64 c, .int .i64 k, .int .i64 a, .int .i64 l]
  by_cases h0 : g = 0
  · subst h0
    rw [if_pos rfl]
    have hb := fun b n w => rbit_any b n w
    dsimp only
    obtain ⟨b1, hb1, g1⟩ : ∃ b1 : Int, (if n = true then (64 : Int) else 0) = b1 ∧ 0 ≤ b1 ∧ b1 ≤ 64 := by cases n <;> exact ⟨_, rfl, by decide, by decide⟩
    obtain ⟨b2, hb2, g2⟩ : ∃ b1 : Int, (if r = true then (128 : Int) else 0) = b1 ∧ 0 ≤ b1 ∧ b1 ≤ 128 := by cases r <;> exact ⟨_, rfl, by decide, by decide⟩
    obtain ⟨b3, hb3, g3⟩ : ∃ b1 : Int, (if m = true then (256 : Int) else 0) = b1 ∧ 0 ≤ b1 ∧ b1 ≤ 256 := by cases m <;> exact ⟨_, rfl, by decide, by decide⟩
    obtain ⟨b4, hb4, g4⟩ : ∃ b1 : Int, (if d = true then (512 : Int) else 0) = b1 ∧ 0 ≤ b1 ∧ b1 ≤ 512 := by cases d <;> exact ⟨_, rfl, by decide, by decide⟩
    obtain ⟨b5, hb5, g5⟩ : ∃ b1 : Int, (if e = true then (32768 : Int) else 0) = b1 ∧ 0 ≤ b1 ∧ b1 ≤ 32768 := by cases e <;> exact ⟨_, rfl, by decide, by decide⟩
    have k1 := fun w => rbit_any n 64 w
    have k2 := fun w => rbit_any r 128 w
    have k3 := fun w => rbit_any m 256 w
    have k4 := fun w => rbit_any d 512 w
    have k5 := fun w => rbit_any e 32768 w
    rw [hb1] at k1 ⊢
    rw [hb2] at k2 ⊢
    rw [hb3] at k3 ⊢
    rw [hb4] at k4 ⊢
    rw [hb5] at k5 ⊢
    clear hb1 hb2 hb3 hb4 hb5 hb
    have w0 : IntKind.i64.wrap (2 * c) = 2 * c := by rw [wrap_i64]; unfold wrap64; omega
    have w1 : IntKind.i64.wrap (2 * c + b1) = 2 * c + b1 := by rw [wrap_i64]; unfold wrap64; omega
    have w2 : IntKind.i64.wrap (2 * c + b1 + b2) = 2 * c + b1 + b2 := by rw [wrap_i64]; unfold wrap64; omega
    have w3 : IntKind.i64.wrap (2 * c + b1 + b2 + b3) = 2 * c + b1 + b2 + b3 := by rw [wrap_i64]; unfold wrap64; omega
    have w4 : IntKind.i64.wrap (2 * c + b1 + b2 + b3 + b4) = 2 * c + b1 + b2 + b3 + b4 := by rw [wrap_i64]; unfold wrap64; omega
    have w5 : IntKind.i64.wrap (2 * c + b1 + b2 + b3 + b4 + b5) = 2 * c + b1 + b2 + b3 + b4 + b5 := by rw [wrap_i64]; unfold wrap64; omega
    clear g1 g2 g3 g4 g5 hc0 hc1
    go_enter Try.func16, Try.ntmps16
    go_wp2
    refine region_class (fun w' => Bag [(w.heap.size, 24, [(.slice A1 n1 c1), .int .i64 p, .bool n, .bool r, .bool e, .bool m, .bool d, .int .i64 c, .int .i64 k, .int .i64 a, .int .i64 l])] w w') (by kernel_rfl) (by kernel_rfl) hX.drew ?_
    repeat
      first
        | (refine BigFrame.wpQuiet_skip (by rfl) ?_
           simp only [Act.put, List.setIfInBounds_toArray, List.set_cons_zero, List.set_cons_succ])
        | (refine BigFrame.wpQuiet_want (by rfl) (fun K hK => ?_)
           apply Exists.intro
           refine ⟨fun wq hq => ?_, hK _ ?_⟩
           · first
               | (refine quiet_load 3 _ _ _ rfl rfl ((hq.all _ _ _ (.head _)).loadCell rfl int_cell))
               | (refine quiet_load 4 _ _ _ rfl rfl ((hq.all _ _ _ (.head _)).loadCell rfl bool_cell))
               | (unfold Oper.quietAt
                  go_simp
                  first
                    | with_reducible rfl
                    | ((go_at_call 44); with_reducible refine (k1 _).mono ?_; exact fun e w' ⟨he, hw⟩ => ⟨he, (by subst hw; exact hq)⟩)
                    | ((go_at_call 44); with_reducible refine (k2 _).mono ?_; exact fun e w' ⟨he, hw⟩ => ⟨he, (by subst hw; exact hq)⟩)
                    | ((go_at_call 44); with_reducible refine (k3 _).mono ?_; exact fun e w' ⟨he, hw⟩ => ⟨he, (by subst hw; exact hq)⟩)
                    | ((go_at_call 44); with_reducible refine (k4 _).mono ?_; exact fun e w' ⟨he, hw⟩ => ⟨he, (by subst hw; exact hq)⟩)
                    | ((go_at_call 44); with_reducible refine (k5 _).mono ?_; exact fun e w' ⟨he, hw⟩ => ⟨he, (by subst hw; exact hq)⟩)
                 )
           clear hK K
           simp only [Act.put, List.setIfInBounds_toArray, List.set_cons_zero, List.set_cons_succ])
    refine wpQuiet_nil ?_
    intro w4 hX
    go_wp2
    go_ret2
    exact ⟨rfl, hX.below⟩
  have e0 : (g == 0) = false := by simpa using h0
  rw [if_neg h0]
  by_cases h2 : g = 2
  · subst h2
    rw [if_pos rfl]
    go_enter Try.func16, Try.ntmps16
    go_wp2
    go_ret2
    exact ⟨rfl, hX.below⟩
  have e2 : (g == 2) = false := by simpa using h2
  rw [if_neg h2]
  by_cases h4 : g = 4
  · subst h4
    rw [if_pos rfl]
    go_enter Try.func16, Try.ntmps16
    go_wp2
    go_ret2
    exact ⟨rfl, hX.below⟩
  have e4 : (g == 4) = false := by simpa using h4
  rw [if_neg h4]
  go_enter Try.func16, Try.ntmps16
  go_wp2
  go_ret2
  exact ⟨rfl, hX.below⟩
end Go.Proofs.Ytigmlkfmgheegaa
