/-
  The reference of package line. No condition.
-/
import Derived.Test.YtbbaflepnjglnaaLnA
import Derived.Test.YtbbaflepnjglnaaArC
import Derived.Test.YtbbaflepnjglnaaTail
namespace Go.Proofs.Ytbbaflepnjglnaa
open Go.RowKit
set_option linter.unusedSimpArgs false
set_option linter.unusedVariables false
set_option maxHeartbeats 4000000
set_option maxRecDepth 100000
attribute [local irreducible] wpQuiet

theorem aggL (w : World) : (isAgg 23).run Try.prog w = .ok true w := by kernel_rfl
theorem sizL (w : World) : (sizeOf 23).run Try.prog w = .ok 9 w := by kernel_rfl
theorem two_newL (w : World) (cs ds : List Value) : Bag [(w.heap.size + 1, 23, ds), (w.heap.size, 23, cs)] w ((w.alloc (.cells cs.toArray 23)).alloc (.cells ds.toArray 23)) := by
  have h := ((Bag.nil w).new 23 cs).new 23 ds
  rw [show (w.alloc (.cells cs.toArray 23)).heap.size = w.heap.size + 1 from Array.size_push ..] at h
  exact h
theorem one_ln (a b o : Bool) (d : Int) (e f : Bool) (t l : Int) (s : ByteArray) : ∀ v ∈ ([.bool a, .bool b, .bool o, .int .i64 d, .bool e, .bool f, .int .i64 t, .int .i64 l, .string s] : List Value), v.oneCell' = true := by
  intro u hu
  simp at hu
  rcases hu with rfl | rfl | rfl | rfl | rfl | rfl | rfl | rfl | rfl <;> rfl
theorem and_64 (n : Int) : (bits .and .i64 n 64 != 0) = decide (n / 64 % 2 = 1) := by
  have h1 : bits .and .i64 n 64 = n / 64 % 2 * 64 := i_and (c := 64) (by decide) (field _ 6 1) (by intro h; omega)
  rw [h1, Bool.eq_iff_iff]; simp; omega
theorem rnewL_any (w : World) : Calls Try.prog 12 #[] w fun e' w' => e' = .returned (.agg #[.bool (Ln.new).a, .bool (Ln.new).b, .bool (Ln.new).o, .int .i64 (Ln.new).d, .bool (Ln.new).e, .bool (Ln.new).f, .int .i64 (Ln.new).t, .int .i64 (Ln.new).l, .string (Ln.new).s]) ∧ Below w.heap.size w w' := by
  go_enter Try.func12, Try.ntmps12
  go_wp2
  exact bodyPost_ret (results_c Try.results12 rfl ((((Bag.nil w).new 23 _).all _ _ _ List.mem_cons_self).loadVar rfl aggL sizL)) rfl ⟨rfl, ((Bag.nil w).new 23 _).below⟩
theorem rtyp_any (x : Ln) (n : Int) (w : World) : Calls Try.prog 17 #[.agg #[.bool (x).a, .bool (x).b, .bool (x).o, .int .i64 (x).d, .bool (x).e, .bool (x).f, .int .i64 (x).t, .int .i64 (x).l, .string (x).s], .int .i64 n] w fun e' w' => e' = .returned (.agg #[.bool (x.typ n).a, .bool (x.typ n).b, .bool (x.typ n).o, .int .i64 (x.typ n).d, .bool (x.typ n).e, .bool (x.typ n).f, .int .i64 (x.typ n).t, .int .i64 (x.typ n).l, .string (x.typ n).s]) ∧ Below w.heap.size w w' := by
  obtain ⟨a, b, o, d, e, f, t, l, s⟩ := x
  have A := a255 n
  simp only [Ln.typ]
  generalize n % 256 = m at *
  cases o <;> cases b
  all_goals
    go_enter Try.func17, Try.ntmps17
    go_wp2
    exact bodyPost_ret (results_c Try.results17 rfl (((two_newL w _ _).all _ _ _ List.mem_cons_self).loadVar rfl aggL sizL)) rfl ⟨rfl, (two_newL w _ _).below⟩
theorem rbits_any (e r : Bool) (w : World) : Calls Try.prog 32 #[.bool e, .bool r] w fun e' w' => e' = .returned (.int .i64 (stB e r)) ∧ w = w' := by
  cases e <;> cases r
  all_goals
    go_enter Try.func32, Try.ntmps32
    go_wp2
    go_ret
    exact ⟨rfl, rfl⟩
theorem rresetL_any (x : Ln) (w : World) : Calls Try.prog 23 #[.agg #[.bool (x).a, .bool (x).b, .bool (x).o, .int .i64 (x).d, .bool (x).e, .bool (x).f, .int .i64 (x).t, .int .i64 (x).l, .string (x).s]] w fun e' w' => e' = .returned (.agg #[.bool (x.reset).a, .bool (x.reset).b, .bool (x.reset).o, .int .i64 (x.reset).d, .bool (x.reset).e, .bool (x.reset).f, .int .i64 (x.reset).t, .int .i64 (x.reset).l, .string (x.reset).s]) ∧ Below w.heap.size w w' := by
  obtain ⟨a, b, o, d, e, f, t, l, s⟩ := x
  simp only [Ln.reset]
  go_enter Try.func23, Try.ntmps23
  go_wp2
  exact bodyPost_ret (results_c Try.results23 rfl (((two_newL w _ _).all _ _ _ List.mem_cons_self).loadVar rfl aggL sizL)) rfl ⟨rfl, (two_newL w _ _).below⟩
theorem rwr_any (x : Ln) (g n : Int) (w : World) : Calls Try.prog 19 #[.agg #[.bool (x).a, .bool (x).b, .bool (x).o, .int .i64 (x).d, .bool (x).e, .bool (x).f, .int .i64 (x).t, .int .i64 (x).l, .string (x).s], .int .i64 g, .int .i64 n] w fun e' w' => e' = .returned (.agg #[.bool (x.wr g n).a, .bool (x.wr g n).b, .bool (x.wr g n).o, .int .i64 (x.wr g n).d, .bool (x.wr g n).e, .bool (x.wr g n).f, .int .i64 (x.wr g n).t, .int .i64 (x.wr g n).l, .string (x.wr g n).s]) ∧ Below w.heap.size w w' := by
  obtain ⟨a, b, o, d, e, f, t, l, s⟩ := x
  have A := a255 n
  have A2 := and_64 n
  unfold Ln.wr
  generalize n % 256 = m at *
  generalize decide (n / 64 % 2 = 1) = q at *
  by_cases g0 : g = 0
  · subst g0
    go_enter Try.func19, Try.ntmps19
    go_wp2
    exact bodyPost_ret (results_c Try.results19 rfl (((two_newL w _ _).all _ _ _ List.mem_cons_self).loadVar rfl aggL sizL)) rfl ⟨rfl, (two_newL w _ _).below⟩
  have e0 : (g == 0) = false := by simpa using g0
  by_cases g4 : g = 4
  · subst g4
    go_enter Try.func19, Try.ntmps19
    go_wp2
    exact bodyPost_ret (results_c Try.results19 rfl (((two_newL w _ _).all _ _ _ List.mem_cons_self).loadVar rfl aggL sizL)) rfl ⟨rfl, (two_newL w _ _).below⟩
  have e4 : (g == 4) = false := by simpa using g4
  by_cases g6 : g = 6
  · subst g6
    cases f
    all_goals
      go_enter Try.func19, Try.ntmps19
      go_wp2
      exact bodyPost_ret (results_c Try.results19 rfl (((two_newL w _ _).all _ _ _ List.mem_cons_self).loadVar rfl aggL sizL)) rfl ⟨rfl, (two_newL w _ _).below⟩
  have e6 : (g == 6) = false := by simpa using g6
  rw [if_neg g0, if_neg g4, if_neg g6]
  go_enter Try.func19, Try.ntmps19
  go_wp2
  exact bodyPost_ret (results_c Try.results19 rfl (((two_newL w _ _).all _ _ _ List.mem_cons_self).loadVar rfl aggL sizL)) rfl ⟨rfl, (two_newL w _ _).below⟩
theorem rrd_any (x : Ln) (hx : 0 ≤ x.d ∧ x.d ≤ 255) (g : Int) (w : World) : Calls Try.prog 15 #[.agg #[.bool (x).a, .bool (x).b, .bool (x).o, .int .i64 (x).d, .bool (x).e, .bool (x).f, .int .i64 (x).t, .int .i64 (x).l, .string (x).s], .int .i64 g] w fun e' w' => e' = .returned (.tuple #[.agg #[.bool ((x.rd g).1).a, .bool ((x.rd g).1).b, .bool ((x.rd g).1).o, .int .i64 ((x.rd g).1).d, .bool ((x.rd g).1).e, .bool ((x.rd g).1).f, .int .i64 ((x.rd g).1).t, .int .i64 ((x.rd g).1).l, .string ((x.rd g).1).s], .int .i64 (x.rd g).2]) ∧ Below w.heap.size w w' := by
  obtain ⟨a, b, o, d, e, f, t, l, s⟩ := x
  have hbt := rbits_any
  unfold Ln.rd
  simp only at hx
  by_cases g0 : g = 0
  · subst g0
    have h1 := hbt a b
    generalize stB a b = q at *
    go_enter Try.func15, Try.ntmps15
    go_wp2
    refine region_class_tail (fun w' => Bag [(w.heap.size + 1, 23, [.bool false, .bool false, .bool false, .int .i64 0, .bool false, .bool false, .int .i64 0, .int .i64 0, .string ⟨#[]⟩]), (w.heap.size, 23, [.bool a, .bool b, .bool o, .int .i64 d, .bool e, .bool f, .int .i64 t, .int .i64 l, .string s])] w w') 6 (by kernel_rfl) (by kernel_rfl) (two_newL w _ _).drew ?_
    repeat
      first
        | (refine BigFrame.wpQuiet_skip (by rfl) ?_
           simp only [Act.put, List.setIfInBounds_toArray, List.set_cons_zero, List.set_cons_succ])
        | (refine BigFrame.wpQuiet_want (by rfl) (fun K hK => ?_)
           apply Exists.intro
           refine ⟨fun wq hq => ?_, hK _ ?_⟩
           · first
               | (refine quiet_load 23 _ _ _ rfl rfl ((hq.all _ _ _ (.tail _ (.head _))).loadAt rfl aggL sizL))
               | (refine quiet_load 4 _ _ _ rfl rfl ((hq.all _ _ _ (.tail _ (.head _))).loadCell rfl bool_cell))
               | (unfold Oper.quietAt
                  go_simp
                  first
                    | with_reducible rfl
                    | ((go_at_call 32); with_reducible refine (h1 _).mono ?_; exact fun e w' ⟨he, hw⟩ => ⟨he, (by subst hw; exact hq)⟩)
                 )
           clear hK K
           simp only [Act.put, List.setIfInBounds_toArray, List.set_cons_zero, List.set_cons_succ])
    refine wpQuiet_nil ?_
    intro w4 hX
    simp only [List.drop_succ_cons, List.drop_zero]
    go_wp2_with (first | ((with_reducible refine at_store ?_); refine wpList_bag_over hX aggL sizL _ _ rfl rfl rfl rfl rfl rfl rfl rfl (one_ln _ _ _ _ _ _ _ _ _) ?_; clear hX; intro wz hX))
    exact bodyPost_ret (results_ct Try.results15 rfl ((hX.all _ _ _ List.mem_cons_self).loadVar rfl aggL sizL)) rfl ⟨rfl, hX.below⟩
  have e0 : (g == 0) = false := by simpa using g0
  by_cases g2 : g = 2
  · subst g2
    have hw : wrap64 (d + 32768) = d + 32768 := by unfold wrap64; omega
    cases o
    · rw [if_neg g0, if_pos rfl]
      simp only [Bool.false_eq_true, if_false, Int.add_zero]
      go_enter Try.func15, Try.ntmps15
      go_wp2
      exact bodyPost_ret (results_ct Try.results15 rfl (((two_newL w _ _).all _ _ _ List.mem_cons_self).loadVar rfl aggL sizL)) rfl ⟨rfl, (two_newL w _ _).below⟩
    · go_enter Try.func15, Try.ntmps15
      go_wp2
      exact bodyPost_ret (results_ct Try.results15 rfl (((two_newL w _ _).all _ _ _ List.mem_cons_self).loadVar rfl aggL sizL)) rfl ⟨rfl, (two_newL w _ _).below⟩
  have e2 : (g == 2) = false := by simpa using g2
  by_cases g4 : g = 4
  · subst g4
    have h1 := hbt e f
    generalize stB e f = q at *
    go_enter Try.func15, Try.ntmps15
    go_wp2
    refine region_class_tail (fun w' => Bag [(w.heap.size + 1, 23, [.bool false, .bool false, .bool false, .int .i64 0, .bool false, .bool false, .int .i64 0, .int .i64 0, .string ⟨#[]⟩]), (w.heap.size, 23, [.bool a, .bool b, .bool o, .int .i64 d, .bool e, .bool f, .int .i64 t, .int .i64 l, .string s])] w w') 6 (by kernel_rfl) (by kernel_rfl) (two_newL w _ _).drew ?_
    repeat
      first
        | (refine BigFrame.wpQuiet_skip (by rfl) ?_
           simp only [Act.put, List.setIfInBounds_toArray, List.set_cons_zero, List.set_cons_succ])
        | (refine BigFrame.wpQuiet_want (by rfl) (fun K hK => ?_)
           apply Exists.intro
           refine ⟨fun wq hq => ?_, hK _ ?_⟩
           · first
               | (refine quiet_load 23 _ _ _ rfl rfl ((hq.all _ _ _ (.tail _ (.head _))).loadAt rfl aggL sizL))
               | (refine quiet_load 4 _ _ _ rfl rfl ((hq.all _ _ _ (.tail _ (.head _))).loadCell rfl bool_cell))
               | (unfold Oper.quietAt
                  go_simp
                  first
                    | with_reducible rfl
                    | ((go_at_call 32); with_reducible refine (h1 _).mono ?_; exact fun e w' ⟨he, hw⟩ => ⟨he, (by subst hw; exact hq)⟩)
                 )
           clear hK K
           simp only [Act.put, List.setIfInBounds_toArray, List.set_cons_zero, List.set_cons_succ])
    refine wpQuiet_nil ?_
    intro w4 hX
    simp only [List.drop_succ_cons, List.drop_zero]
    go_wp2_with (first | ((with_reducible refine at_store ?_); refine wpList_bag_over hX aggL sizL _ _ rfl rfl rfl rfl rfl rfl rfl rfl (one_ln _ _ _ _ _ _ _ _ _) ?_; clear hX; intro wz hX))
    exact bodyPost_ret (results_ct Try.results15 rfl ((hX.all _ _ _ List.mem_cons_self).loadVar rfl aggL sizL)) rfl ⟨rfl, hX.below⟩
  have e4 : (g == 4) = false := by simpa using g4
  rw [if_neg g0, if_neg g2, if_neg g4]
  go_enter Try.func15, Try.ntmps15
  go_wp2
  exact bodyPost_ret (results_ct Try.results15 rfl (((two_newL w _ _).all _ _ _ List.mem_cons_self).loadVar rfl aggL sizL)) rfl ⟨rfl, (two_newL w _ _).below⟩
end Go.Proofs.Ytbbaflepnjglnaa
