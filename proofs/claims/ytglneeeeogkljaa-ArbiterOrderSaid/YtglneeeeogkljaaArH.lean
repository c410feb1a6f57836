/-
  Valid, rank, Before of arbiter. No condition.
-/
import Derived.Test.YtglneeeeogkljaaArG
import Derived.Test.YtglneeeeogkljaaArE
import Derived.Test.YtglneeeeogkljaaTail
import Derived.Sort.Grow
import Derived.Deep.Draws
namespace Go.Proofs.Ytglneeeeogkljaa
open Go.RowKit
set_option linter.unusedSimpArgs false
set_option linter.unusedVariables false
set_option maxHeartbeats 4000000
set_option maxRecDepth 100000
attribute [local irreducible] wpQuiet
theorem pval_0 (p v : Int)  (c0 : ¬ 1 ≤ p) (w : World) : Calls Try.prog 8 #[.agg [.int .i64 p, .int .i64 v].toArray] w fun e w' => e = .returned (.bool false) ∧ Below w.heap.size w w' := by
  have d0 : decide (1 ≤ p) = false := decide_eq_false c0
  have hX := Bag.nil w
  have hX := hX.new 23 [.int .i64 p, .int .i64 v]
  have hR0 : ([.int .i64 p, .int .i64 v] : List Value)[0]? = some (.int .i64 p) := rfl
  have hR1 : ([.int .i64 p, .int .i64 v] : List Value)[1]? = some (.int .i64 v) := rfl
  generalize ([.int .i64 p, .int .i64 v] : List Value) = CR at *
  go_enter Try.func8, Try.ntmps8
  go_wp2_with (first | (refine wpList_bag_cell hX int_cell _ rfl rfl rfl rfl (by first | exact .head _ | exact .tail _ (.head _)) (by assumption) ?_))
  go_ret
  exact ⟨rfl, hX.below⟩
theorem pval_1 (p v : Int) (c0 : 1 ≤ p) (c1 : ¬ p ≤ 7) (w : World) : Calls Try.prog 8 #[.agg [.int .i64 p, .int .i64 v].toArray] w fun e w' => e = .returned (.bool false) ∧ Below w.heap.size w w' := by
  have d0 : decide (1 ≤ p) = true := decide_eq_true c0
  have d1 : decide (p ≤ 7) = false := decide_eq_false c1
  have hX := Bag.nil w
  have hX := hX.new 23 [.int .i64 p, .int .i64 v]
  have hR0 : ([.int .i64 p, .int .i64 v] : List Value)[0]? = some (.int .i64 p) := rfl
  have hR1 : ([.int .i64 p, .int .i64 v] : List Value)[1]? = some (.int .i64 v) := rfl
  generalize ([.int .i64 p, .int .i64 v] : List Value) = CR at *
  go_enter Try.func8, Try.ntmps8
  go_wp2_with (first | (refine wpList_bag_cell hX int_cell _ rfl rfl rfl rfl (by first | exact .head _ | exact .tail _ (.head _)) (by assumption) ?_))
  go_ret
  exact ⟨rfl, hX.below⟩
theorem pval_2 (p v : Int) (c0 : 1 ≤ p) (c1 : p ≤ 7) (c2 : ¬ 4 ≤ v) (w : World) : Calls Try.prog 8 #[.agg [.int .i64 p, .int .i64 v].toArray] w fun e w' => e = .returned (.bool false) ∧ Below w.heap.size w w' := by
  have d0 : decide (1 ≤ p) = true := decide_eq_true c0
  have d1 : decide (p ≤ 7) = true := decide_eq_true c1
  have d2 : decide (4 ≤ v) = false := decide_eq_false c2
  have hX := Bag.nil w
  have hX := hX.new 23 [.int .i64 p, .int .i64 v]
  have hR0 : ([.int .i64 p, .int .i64 v] : List Value)[0]? = some (.int .i64 p) := rfl
  have hR1 : ([.int .i64 p, .int .i64 v] : List Value)[1]? = some (.int .i64 v) := rfl
  generalize ([.int .i64 p, .int .i64 v] : List Value) = CR at *
  go_enter Try.func8, Try.ntmps8
  go_wp2_with (first | (refine wpList_bag_cell hX int_cell _ rfl rfl rfl rfl (by first | exact .head _ | exact .tail _ (.head _)) (by assumption) ?_))
  go_ret
  exact ⟨rfl, hX.below⟩
theorem pval_3 (p v : Int) (c0 : 1 ≤ p) (c1 : p ≤ 7) (c2 : 4 ≤ v) (c3 : ¬ v ≤ 252) (w : World) : Calls Try.prog 8 #[.agg [.int .i64 p, .int .i64 v].toArray] w fun e w' => e = .returned (.bool false) ∧ Below w.heap.size w w' := by
  have d0 : decide (1 ≤ p) = true := decide_eq_true c0
  have d1 : decide (p ≤ 7) = true := decide_eq_true c1
  have d2 : decide (4 ≤ v) = true := decide_eq_true c2
  have d3 : decide (v ≤ 252) = false := decide_eq_false c3
  have hX := Bag.nil w
  have hX := hX.new 23 [.int .i64 p, .int .i64 v]
  have hR0 : ([.int .i64 p, .int .i64 v] : List Value)[0]? = some (.int .i64 p) := rfl
  have hR1 : ([.int .i64 p, .int .i64 v] : List Value)[1]? = some (.int .i64 v) := rfl
  generalize ([.int .i64 p, .int .i64 v] : List Value) = CR at *
  go_enter Try.func8, Try.ntmps8
  go_wp2_with (first | (refine wpList_bag_cell hX int_cell _ rfl rfl rfl rfl (by first | exact .head _ | exact .tail _ (.head _)) (by assumption) ?_))
  go_ret
  exact ⟨rfl, hX.below⟩
theorem pval_4 (p v : Int) (c0 : 1 ≤ p) (c1 : p ≤ 7) (c2 : 4 ≤ v) (c3 : v ≤ 252) (w : World) : Calls Try.prog 8 #[.agg [.int .i64 p, .int .i64 v].toArray] w fun e w' => e = .returned (.bool (decide (v % 4 = 0))) ∧ Below w.heap.size w w' := by
  have d0 : decide (1 ≤ p) = true := decide_eq_true c0
  have d1 : decide (p ≤ 7) = true := decide_eq_true c1
  have d2 : decide (4 ≤ v) = true := decide_eq_true c2
  have d3 : decide (v ≤ 252) = true := decide_eq_true c3
  have hm : v.tmod 4 = v % 4 := Int.tmod_eq_emod_of_nonneg (by omega)
  have he : (v % 4 == 0) = decide (v % 4 = 0) := by rw [Bool.eq_iff_iff]; simp
  have hX := Bag.nil w
  have hX := hX.new 23 [.int .i64 p, .int .i64 v]
  have hR0 : ([.int .i64 p, .int .i64 v] : List Value)[0]? = some (.int .i64 p) := rfl
  have hR1 : ([.int .i64 p, .int .i64 v] : List Value)[1]? = some (.int .i64 v) := rfl
  generalize ([.int .i64 p, .int .i64 v] : List Value) = CR at *
  go_enter Try.func8, Try.ntmps8
  go_wp2_with (first | (refine wpList_bag_cell hX int_cell _ rfl rfl rfl rfl (by first | exact .head _ | exact .tail _ (.head _)) (by assumption) ?_))
  go_ret
  exact ⟨rfl, hX.below⟩
theorem pValid_any (q : Rq) (w : World) : Calls Try.prog 8 #[.agg [.int .i64 q.1, .int .i64 q.2].toArray] w fun e w' => e = .returned (.bool (okQ q)) ∧ Below w.heap.size w w' := by
  obtain ⟨p, v⟩ := q
  unfold okQ
  by_cases c0 : ¬ 1 ≤ p
  · have := pval_0 p v c0 w
    simpa [c0] using this
  replace c0 : 1 ≤ p := by omega
  by_cases c1 : ¬ p ≤ 7
  · have := pval_1 p v c0 c1 w
    simpa [c0, c1] using this
  replace c1 : p ≤ 7 := by omega
  by_cases c2 : ¬ 4 ≤ v
  · have := pval_2 p v c0 c1 c2 w
    simpa [c0, c1, c2] using this
  replace c2 : 4 ≤ v := by omega
  by_cases c3 : ¬ v ≤ 252
  · have := pval_3 p v c0 c1 c2 c3 w
    simpa [c0, c1, c2, c3] using this
  replace c3 : v ≤ 252 := by omega
  have := pval_4 p v c0 c1 c2 c3 w
  simpa [c0, c1, c2, c3] using this
theorem prank_64 (w : World) : Calls Try.prog 25 #[.int .i64 64] w fun e w' => e = .returned (.int .i64 (rk 64)) ∧ w = w' := by
  go_enter Try.func25, Try.ntmps25
  go_wp2
  go_ret
  exact ⟨rfl, rfl⟩
theorem prank_160 (w : World) : Calls Try.prog 25 #[.int .i64 160] w fun e w' => e = .returned (.int .i64 (rk 160)) ∧ w = w' := by
  go_enter Try.func25, Try.ntmps25
  go_wp2
  go_ret
  exact ⟨rfl, rfl⟩
theorem prank_164 (w : World) : Calls Try.prog 25 #[.int .i64 164] w fun e w' => e = .returned (.int .i64 (rk 164)) ∧ w = w' := by
  go_enter Try.func25, Try.ntmps25
  go_wp2
  go_ret
  exact ⟨rfl, rfl⟩
theorem prank_any (v : Int) (w : World) : Calls Try.prog 25 #[.int .i64 v] w fun e w' => e = .returned (.int .i64 (rk v)) ∧ w = w' := by
  by_cases n0 : v = 64
  · subst n0; exact prank_64 w
  by_cases n1 : v = 160
  · subst n1; exact prank_160 w
  by_cases n2 : v = 164
  · subst n2; exact prank_164 w
  rw [show rk v = v from by unfold rk; rw [if_neg n0, if_neg n1, if_neg n2]]
  have e0 : (v == 64) = false := by simpa using n0
  have e1 : (v == 160) = false := by simpa using n1
  have e2 : (v == 164) = false := by simpa using n2
  go_enter Try.func25, Try.ntmps25
  go_wp2
  go_ret
  exact ⟨rfl, rfl⟩
theorem isnan_any (v : Int) (w : World) : Calls Try.prog 30 #[.int .i64 v] w fun e w' => e = .returned (.bool false) ∧ w = w' := by
  have e0 : (v != v) = false := by simp
  go_enter Try.func30, Try.ntmps30
  go_wp2
  go_ret
  exact ⟨rfl, rfl⟩
theorem cmp_lt (x y : Int) (c : x < y) (w : World) : Calls Try.prog 24 #[.int .i64 x, .int .i64 y] w fun e w' => e = .returned (.int .i64 (-1)) ∧ w = w' := by
  have d1 : decide (x < y) = true := decide_eq_true c
  clear c
  go_enter Try.func24, Try.ntmps24
  go_wp2_with (go_at_call 30; (with_reducible refine (isnan_any _ _).mono ?_); rintro e w' ⟨rfl, rfl⟩)
  go_ret
  exact ⟨rfl, rfl⟩
theorem cmp_gt (x y : Int) (c : y < x) (w : World) : Calls Try.prog 24 #[.int .i64 x, .int .i64 y] w fun e w' => e = .returned (.int .i64 (1)) ∧ w = w' := by
  have d1 : decide (x < y) = false := decide_eq_false (by omega)
  have d2 : decide (y < x) = true := decide_eq_true c
  clear c
  go_enter Try.func24, Try.ntmps24
  go_wp2_with (go_at_call 30; (with_reducible refine (isnan_any _ _).mono ?_); rintro e w' ⟨rfl, rfl⟩)
  go_ret
  exact ⟨rfl, rfl⟩
theorem cmp_eq (x y : Int) (c : x = y) (w : World) : Calls Try.prog 24 #[.int .i64 x, .int .i64 y] w fun e w' => e = .returned (.int .i64 (0)) ∧ w = w' := by
  have d1 : decide (x < y) = false := decide_eq_false (by omega)
  have d2 : decide (y < x) = false := decide_eq_false (by omega)
  clear c
  go_enter Try.func24, Try.ntmps24
  go_wp2_with (go_at_call 30; (with_reducible refine (isnan_any _ _).mono ?_); rintro e w' ⟨rfl, rfl⟩)
  go_ret
  exact ⟨rfl, rfl⟩
theorem cmp_any (x y : Int) (w : World) : Calls Try.prog 24 #[.int .i64 x, .int .i64 y] w fun e w' => e = .returned (.int .i64 (cmpI x y)) ∧ w = w' := by
  unfold cmpI
  by_cases c : x < y
  · rw [if_pos c]; exact cmp_lt x y c w
  rw [if_neg c]
  by_cases d : y < x
  · rw [if_pos d]; exact cmp_gt x y d w
  rw [if_neg d]; exact cmp_eq x y (by omega) w
theorem or_x (x y : Int) (c : ¬ x = 0) (g : Nat) (w : World) (h0 : w.cell? ⟨g, 0, none⟩ = some (.int .i64 x)) (h1 : w.cell? ⟨g, 1, none⟩ = some (.int .i64 y)) : Calls Try.prog 23 #[.slice (some ⟨g, 0, none⟩) 2 2] w fun e w' => e = .returned (.int .i64 (x)) ∧ w = w' := by
  have d1 : (x != 0) = true := by simpa using c
  go_enter Try.func23, Try.ntmps23
  go_wp2
  refine wp_loop_rounds 3 ?_
  rw [rounds_succ]
  go_wp2
  all_goals go_ret
  all_goals exact ⟨rfl, rfl⟩
theorem or_y (x y : Int) (c : x = 0) (d : ¬ y = 0) (g : Nat) (w : World) (h0 : w.cell? ⟨g, 0, none⟩ = some (.int .i64 x)) (h1 : w.cell? ⟨g, 1, none⟩ = some (.int .i64 y)) : Calls Try.prog 23 #[.slice (some ⟨g, 0, none⟩) 2 2] w fun e w' => e = .returned (.int .i64 (y)) ∧ w = w' := by
  subst c
  have d1 : (y != 0) = true := by simpa using d
  clear d
  go_enter Try.func23, Try.ntmps23
  go_wp2
  refine wp_loop_rounds 3 ?_
  rw [rounds_succ]
  go_wp2
  rw [rounds_succ]
  go_wp2
  all_goals go_ret
  all_goals exact ⟨rfl, rfl⟩
theorem or_z (x y : Int) (c : x = 0) (d : y = 0) (g : Nat) (w : World) (h0 : w.cell? ⟨g, 0, none⟩ = some (.int .i64 x)) (h1 : w.cell? ⟨g, 1, none⟩ = some (.int .i64 y)) : Calls Try.prog 23 #[.slice (some ⟨g, 0, none⟩) 2 2] w fun e w' => e = .returned (.int .i64 (0)) ∧ w = w' := by
  subst c
  subst d
  go_enter Try.func23, Try.ntmps23
  go_wp2
  refine wp_loop_rounds 3 ?_
  rw [rounds_succ]
  go_wp2
  rw [rounds_succ]
  go_wp2
  rw [rounds_succ]
  go_wp2
  all_goals go_ret
  all_goals exact ⟨rfl, rfl⟩
theorem or_any (x y : Int) (g : Nat) (w : World) (h0 : w.cell? ⟨g, 0, none⟩ = some (.int .i64 x)) (h1 : w.cell? ⟨g, 1, none⟩ = some (.int .i64 y)) : Calls Try.prog 23 #[.slice (some ⟨g, 0, none⟩) 2 2] w fun e w' => e = .returned (.int .i64 (or2 x y)) ∧ w = w' := by
  unfold or2
  by_cases c : x = 0
  · rw [if_pos c]
    by_cases d : y = 0
    · have := or_z x y c d g w h0 h1
      rwa [d]
    · exact or_y x y c d g w h0 h1
  · rw [if_neg c]; exact or_x x y c g w h0 h1
theorem cells_int2 (w : World) (x y : Value) : (w.alloc (.cells #[x, y] 3)).cell? ⟨w.heap.size, 0, none⟩ = some x ∧ (w.alloc (.cells #[x, y] 3)).cell? ⟨w.heap.size, 1, none⟩ = some y :=
  ⟨(Blk.new 3 w [x, y]).cell rfl, (Blk.new 3 w [x, y]).cell rfl⟩
theorem compare_at (p v q u : Int) (w : World) : Calls Try.prog 18 #[.agg [.int .i64 p, .int .i64 v].toArray, .agg [.int .i64 q, .int .i64 u].toArray] w fun e w' => e = .returned (.int .i64 (cf (p, v) (q, u))) ∧ w' = (((w.alloc (.cells [.int .i64 p, .int .i64 v].toArray 23)).alloc (.cells [.int .i64 q, .int .i64 u].toArray 23)).drew).alloc (.cells #[.int .i64 (cmpI q p), .int .i64 (cmpI (rk v) (rk u))] 3) := by
  have h1 := prank_any v
  have h2 := prank_any u
  have h3 := cmp_any q p
  have h4 := cmp_any (rk v) (rk u)
  show Calls _ _ _ _ fun e w' => e = .returned (.int .i64 (or2 (cmpI q p) (cmpI (rk v) (rk u)))) ∧ _
  have hor := fun w => or_any (cmpI q p) (cmpI (rk v) (rk u)) w.heap.size (w.alloc (.cells #[.int .i64 (cmpI q p), .int .i64 (cmpI (rk v) (rk u))] 3)) (cells_int2 w _ _).1 (cells_int2 w _ _).2
  generalize cmpI q p = c1 at *
  generalize cmpI (rk v) (rk u) = c2 at *
  generalize rk v = y at *
  generalize rk u = z at *
  have hX := Bag.nil w
  have hX := hX.new 23 [.int .i64 p, .int .i64 v]
  have hR0 : ([.int .i64 p, .int .i64 v] : List Value)[0]? = some (.int .i64 p) := rfl
  have hR1 : ([.int .i64 p, .int .i64 v] : List Value)[1]? = some (.int .i64 v) := rfl
  generalize ([.int .i64 p, .int .i64 v] : List Value) = CR at *
  have hX := hX.new 23 [.int .i64 q, .int .i64 u]
  have hS0 : ([.int .i64 q, .int .i64 u] : List Value)[0]? = some (.int .i64 q) := rfl
  have hS1 : ([.int .i64 q, .int .i64 u] : List Value)[1]? = some (.int .i64 u) := rfl
  generalize ([.int .i64 q, .int .i64 u] : List Value) = CS at *
  have hsz : (w.alloc (.cells CR.toArray 23)).heap.size = w.heap.size + 1 := Array.size_push ..
  rw [hsz] at hX
  have hA : ∀ wq, wq = ((w.alloc (.cells CR.toArray 23)).alloc (.cells CS.toArray 23)).drew → ∀ B cs, (B, 23, cs) ∈ [(w.heap.size + 1, 23, CS), (w.heap.size, 23, CR)] → Blk 23 wq B cs := fun wq h B cs hm => by subst h; exact hX.drew.all _ _ _ hm
  clear hX hsz
  go_enter Try.func18, Try.ntmps18
  go_wp2
  refine region_class_tail (fun w' => w' = ((w.alloc (.cells CR.toArray 23)).alloc (.cells CS.toArray 23)).drew) 12 (by kernel_rfl) (by kernel_rfl) rfl ?_
  repeat
    first
      | (refine BigFrame.wpQuiet_skip (by rfl) ?_
         simp only [Act.put, List.setIfInBounds_toArray, List.set_cons_zero, List.set_cons_succ])
      | (refine BigFrame.wpQuiet_want (by rfl) (fun K hK => ?_)
         apply Exists.intro
         refine ⟨fun wq hq => ?_, hK _ ?_⟩
         · first
             | (refine quiet_load 3 _ _ _ rfl rfl ((hA _ hq _ _ (by first | exact .head _ | exact .tail _ (.head _))).loadCell (by assumption) int_cell))
             | (unfold Oper.quietAt
                go_simp
                first
                  | with_reducible rfl
                  | ((go_at_call 25); with_reducible refine (h1 _).mono ?_; exact fun e w' ⟨he, hw⟩ => ⟨he, (by first | exact hw.symm | (subst hw; exact hq))⟩)
                  | ((go_at_call 25); with_reducible refine (h2 _).mono ?_; exact fun e w' ⟨he, hw⟩ => ⟨he, (by first | exact hw.symm | (subst hw; exact hq))⟩)
                  | ((go_at_call 24); with_reducible refine (h3 _).mono ?_; exact fun e w' ⟨he, hw⟩ => ⟨he, (by first | exact hw.symm | (subst hw; exact hq))⟩)
                  | ((go_at_call 24); with_reducible refine (h4 _).mono ?_; exact fun e w' ⟨he, hw⟩ => ⟨he, (by first | exact hw.symm | (subst hw; exact hq))⟩)
               )
         clear hK K
         simp only [Act.put, List.setIfInBounds_toArray, List.set_cons_zero, List.set_cons_succ])
  refine wpQuiet_nil ?_
  intro w4 hw4
  have hw5 : Hid (w4 = ((w.alloc (.cells CR.toArray 23)).alloc (.cells CS.toArray 23)).drew) := hw4
  clear hw4
  go_wp2_with (go_at_call 23; (with_reducible refine (hor _).mono ?_); rintro e w' ⟨rfl, rfl⟩)
  go_ret
  exact ⟨rfl, by rw [show w4 = _ from hw5]⟩
theorem compare_any (a b : Rq) (w : World) : Calls Try.prog 18 #[.agg [.int .i64 a.1, .int .i64 a.2].toArray, .agg [.int .i64 b.1, .int .i64 b.2].toArray] w fun e w' => e = .returned (.int .i64 (cf a b)) ∧ ∃ q os', w' = Sort.grow (w.drewN q) os' := by
  obtain ⟨p, v⟩ := a
  obtain ⟨q, u⟩ := b
  refine (compare_at p v q u w).mono fun e w' ⟨he, hw⟩ => ⟨he, 1, #[.cells [.int .i64 p, .int .i64 v].toArray 23] ++ #[.cells [.int .i64 q, .int .i64 u].toArray 23] ++ #[.cells #[.int .i64 (cmpI q p), .int .i64 (cmpI (rk v) (rk u))] 3], ?_⟩
  rw [hw, Sort.alloc_eq_grow, Sort.alloc_eq_grow, Sort.alloc_eq_grow, Sort.grow_grow, Sort.drew_grow, Sort.grow_grow]
  rfl
theorem compare_below (a b : Rq) (w : World) : Calls Try.prog 18 #[.agg [.int .i64 a.1, .int .i64 a.2].toArray, .agg [.int .i64 b.1, .int .i64 b.2].toArray] w fun e w' => e = .returned (.int .i64 (cf a b)) ∧ Below w.heap.size w w' := by
  obtain ⟨p, v⟩ := a
  obtain ⟨q, u⟩ := b
  refine (compare_at p v q u w).mono fun e w' ⟨he, hw⟩ => ⟨he, ?_⟩
  rw [hw]
  have h1 := (Below.refl w.heap.size w).alloc (Nat.le_refl _) (.cells [.int .i64 p, .int .i64 v].toArray 23)
  have h2 := h1.alloc h1.size (.cells [.int .i64 q, .int .i64 u].toArray 23)
  exact h2.drew.alloc h2.drew.size _
theorem inter_any (q : Rq) (n : Int) (w : World) : Calls Try.prog 21 #[.agg [.int .i64 q.1, .int .i64 q.2].toArray, .int .i64 n] w fun e w' => e = .returned (.bool (decide (pr n < q.1))) ∧ Below w.heap.size w w' := by
  obtain ⟨p, v⟩ := q
  have hp := fun w => prio_any n w
  generalize pr n = m at *
  have hX := Bag.nil w
  have hX := hX.new 23 [.int .i64 p, .int .i64 v]
  have hR0 : ([.int .i64 p, .int .i64 v] : List Value)[0]? = some (.int .i64 p) := rfl
  have hR1 : ([.int .i64 p, .int .i64 v] : List Value)[1]? = some (.int .i64 v) := rfl
  generalize ([.int .i64 p, .int .i64 v] : List Value) = CR at *
  go_enter Try.func21, Try.ntmps21
  go_wp2
  refine region_class (fun w' => Bag [(w.heap.size, 23, CR)] w w') (by kernel_rfl) (by kernel_rfl) hX.drew ?_
  repeat
    first
      | (refine BigFrame.wpQuiet_skip (by rfl) ?_
         simp only [Act.put, List.setIfInBounds_toArray, List.set_cons_zero, List.set_cons_succ])
      | (refine BigFrame.wpQuiet_want (by rfl) (fun K hK => ?_)
         apply Exists.intro
         refine ⟨fun wq hq => ?_, hK _ ?_⟩
         · first
             | (refine quiet_load 3 _ _ _ rfl rfl ((hq.all _ _ _ (by first | exact .head _ | exact .tail _ (.head _))).loadCell (by assumption) int_cell))
             | (unfold Oper.quietAt
                go_simp
                first
                  | with_reducible rfl
                  | ((go_at_call 29); with_reducible refine (hp _).mono ?_; exact fun e w' ⟨he, hw⟩ => ⟨he, (by subst hw; exact hq)⟩)
               )
         clear hK K
         simp only [Act.put, List.setIfInBounds_toArray, List.set_cons_zero, List.set_cons_succ])
  refine wpQuiet_nil ?_
  intro w4 hX
  go_wp2
  go_ret
  exact ⟨rfl, hX.below⟩
end Go.Proofs.Ytglneeeeogkljaa
