/-
  Valid, rank, Before of emulatorref12. No condition.
-/
import Derived.Test.YtglneeeeogkljaaArA
import Derived.Test.YtglneeeeogkljaaReg
namespace Go.Proofs.Ytglneeeeogkljaa
open Go.RowKit
set_option linter.unusedSimpArgs false
set_option linter.unusedVariables false
set_option maxHeartbeats 4000000
set_option maxRecDepth 100000
attribute [local irreducible] wpQuiet
theorem rval_0 (p v : Int)  (c0 : ¬ 1 ≤ p) (w : World) : Calls Try.prog 9 #[.agg [.int .i64 p, .int .i64 v].toArray] w fun e w' => e = .returned (.bool false) ∧ Below w.heap.size w w' := by
  have d0 : decide (1 ≤ p) = false := decide_eq_false c0
  have hX := Bag.nil w
  have hX := hX.new 23 [.int .i64 p, .int .i64 v]
  have hR0 : ([.int .i64 p, .int .i64 v] : List Value)[0]? = some (.int .i64 p) := rfl
  have hR1 : ([.int .i64 p, .int .i64 v] : List Value)[1]? = some (.int .i64 v) := rfl
  generalize ([.int .i64 p, .int .i64 v] : List Value) = CR at *
  go_enter Try.func9, Try.ntmps9
  go_wp2_with (first | (refine wpList_bag_cell hX int_cell _ rfl rfl rfl rfl (by first | exact .head _ | exact .tail _ (.head _)) (by assumption) ?_))
  go_ret
  exact ⟨rfl, hX.below⟩
theorem rval_1 (p v : Int) (c0 : 1 ≤ p) (c1 : ¬ p ≤ 7) (w : World) : Calls Try.prog 9 #[.agg [.int .i64 p, .int .i64 v].toArray] w fun e w' => e = .returned (.bool false) ∧ Below w.heap.size w w' := by
  have d0 : decide (1 ≤ p) = true := decide_eq_true c0
  have d1 : decide (p ≤ 7) = false := decide_eq_false c1
  have hX := Bag.nil w
  have hX := hX.new 23 [.int .i64 p, .int .i64 v]
  have hR0 : ([.int .i64 p, .int .i64 v] : List Value)[0]? = some (.int .i64 p) := rfl
  have hR1 : ([.int .i64 p, .int .i64 v] : List Value)[1]? = some (.int .i64 v) := rfl
  generalize ([.int .i64 p, .int .i64 v] : List Value) = CR at *
  go_enter Try.func9, Try.ntmps9
  go_wp2_with (first | (refine wpList_bag_cell hX int_cell _ rfl rfl rfl rfl (by first | exact .head _ | exact .tail _ (.head _)) (by assumption) ?_))
  go_ret
  exact ⟨rfl, hX.below⟩
theorem rval_2 (p v : Int) (c0 : 1 ≤ p) (c1 : p ≤ 7) (c2 : ¬ 4 ≤ v) (w : World) : Calls Try.prog 9 #[.agg [.int .i64 p, .int .i64 v].toArray] w fun e w' => e = .returned (.bool false) ∧ Below w.heap.size w w' := by
  have d0 : decide (1 ≤ p) = true := decide_eq_true c0
  have d1 : decide (p ≤ 7) = true := decide_eq_true c1
  have d2 : decide (4 ≤ v) = false := decide_eq_false c2
  have hX := Bag.nil w
  have hX := hX.new 23 [.int .i64 p, .int .i64 v]
  have hR0 : ([.int .i64 p, .int .i64 v] : List Value)[0]? = some (.int .i64 p) := rfl
  have hR1 : ([.int .i64 p, .int .i64 v] : List Value)[1]? = some (.int .i64 v) := rfl
  generalize ([.int .i64 p, .int .i64 v] : List Value) = CR at *
  go_enter Try.func9, Try.ntmps9
  go_wp2_with (first | (refine wpList_bag_cell hX int_cell _ rfl rfl rfl rfl (by first | exact .head _ | exact .tail _ (.head _)) (by assumption) ?_))
  go_ret
  exact ⟨rfl, hX.below⟩
theorem rval_3 (p v : Int) (c0 : 1 ≤ p) (c1 : p ≤ 7) (c2 : 4 ≤ v) (c3 : ¬ v ≤ 252) (w : World) : Calls Try.prog 9 #[.agg [.int .i64 p, .int .i64 v].toArray] w fun e w' => e = .returned (.bool false) ∧ Below w.heap.size w w' := by
  have d0 : decide (1 ≤ p) = true := decide_eq_true c0
  have d1 : decide (p ≤ 7) = true := decide_eq_true c1
  have d2 : decide (4 ≤ v) = true := decide_eq_true c2
  have d3 : decide (v ≤ 252) = false := decide_eq_false c3
  have hX := Bag.nil w
  have hX := hX.new 23 [.int .i64 p, .int .i64 v]
  have hR0 : ([.int .i64 p, .int .i64 v] : List Value)[0]? = some (.int .i64 p) := rfl
  have hR1 : ([.int .i64 p, .int .i64 v] : List Value)[1]? = some (.int .i64 v) := rfl
  generalize ([.int .i64 p, .int .i64 v] : List Value) = CR at *
  go_enter Try.func9, Try.ntmps9
  go_wp2_with (first | (refine wpList_bag_cell hX int_cell _ rfl rfl rfl rfl (by first | exact .head _ | exact .tail _ (.head _)) (by assumption) ?_))
  go_ret
  exact ⟨rfl, hX.below⟩
theorem rval_4 (p v : Int) (c0 : 1 ≤ p) (c1 : p ≤ 7) (c2 : 4 ≤ v) (c3 : v ≤ 252) (w : World) : Calls Try.prog 9 #[.agg [.int .i64 p, .int .i64 v].toArray] w fun e w' => e = .returned (.bool (decide (v % 4 = 0))) ∧ Below w.heap.size w w' := by
  have d0 : decide (1 ≤ p) = true := decide_eq_true c0
  have d1 : decide (p ≤ 7) = true := decide_eq_true c1
  have d2 : decide (4 ≤ v) = true := decide_eq_true c2
  have d3 : decide (v ≤ 252) = true := decide_eq_true c3
  have hm : v.tmod 4 = v % 4 := Int.tmod_eq_emod_of_nonneg (by omega)
  have he : (v % 4 == 0) = decide (v % 4 = 0) := by rw [Bool.eq_iff_iff]; simp
  have hX := Bag.nil w
  have hX := hX.new 23 [.int .i64 p, .int .i64 v]
  have hR0 : ([.int .i64 p, .int .i64 v] : List Value)[0]? = some (.int .i64 p) := rfl
  have hR1 : ([.int .i64 p, .int .i64 v] : List Value)[1]? = some (.int .i64 v) := rfl
  generalize ([.int .i64 p, .int .i64 v] : List Value) = CR at *
  go_enter Try.func9, Try.ntmps9
  go_wp2_with (first | (refine wpList_bag_cell hX int_cell _ rfl rfl rfl rfl (by first | exact .head _ | exact .tail _ (.head _)) (by assumption) ?_))
  go_ret
  exact ⟨rfl, hX.below⟩
theorem rValid_any (q : Rq) (w : World) : Calls Try.prog 9 #[.agg [.int .i64 q.1, .int .i64 q.2].toArray] w fun e w' => e = .returned (.bool (okQ q)) ∧ Below w.heap.size w w' := by
  obtain ⟨p, v⟩ := q
  unfold okQ
  by_cases c0 : ¬ 1 ≤ p
  · have := rval_0 p v c0 w
    simpa [c0] using this
  replace c0 : 1 ≤ p := by omega
  by_cases c1 : ¬ p ≤ 7
  · have := rval_1 p v c0 c1 w
    simpa [c0, c1] using this
  replace c1 : p ≤ 7 := by omega
  by_cases c2 : ¬ 4 ≤ v
  · have := rval_2 p v c0 c1 c2 w
    simpa [c0, c1, c2] using this
  replace c2 : 4 ≤ v := by omega
  by_cases c3 : ¬ v ≤ 252
  · have := rval_3 p v c0 c1 c2 c3 w
    simpa [c0, c1, c2, c3] using this
  replace c3 : v ≤ 252 := by omega
  have := rval_4 p v c0 c1 c2 c3 w
  simpa [c0, c1, c2, c3] using this
theorem rrank_64 (w : World) : Calls Try.prog 28 #[.int .i64 64] w fun e w' => e = .returned (.int .i64 (rnk 64)) ∧ w = w' := by
  go_enter Try.func28, Try.ntmps28
  go_wp2
  go_ret
  exact ⟨rfl, rfl⟩
theorem rrank_160 (w : World) : Calls Try.prog 28 #[.int .i64 160] w fun e w' => e = .returned (.int .i64 (rnk 160)) ∧ w = w' := by
  go_enter Try.func28, Try.ntmps28
  go_wp2
  go_ret
  exact ⟨rfl, rfl⟩
theorem rrank_164 (w : World) : Calls Try.prog 28 #[.int .i64 164] w fun e w' => e = .returned (.int .i64 (rnk 164)) ∧ w = w' := by
  go_enter Try.func28, Try.ntmps28
  go_wp2
  go_ret
  exact ⟨rfl, rfl⟩
theorem rrank_any (v : Int) (h : 4 ≤ v ∧ v ≤ 252) (w : World) : Calls Try.prog 28 #[.int .i64 v] w fun e w' => e = .returned (.int .i64 (rnk v)) ∧ w = w' := by
  by_cases n0 : v = 64
  · subst n0; exact rrank_64 w
  by_cases n1 : v = 160
  · subst n1; exact rrank_160 w
  by_cases n2 : v = 164
  · subst n2; exact rrank_164 w
  rw [show rnk v = 3 + v from by unfold rnk; rw [if_neg n0, if_neg n1, if_neg n2]]
  have e0 : (v == 64) = false := by simpa using n0
  have e1 : (v == 160) = false := by simpa using n1
  have e2 : (v == 164) = false := by simpa using n2
  go_enter Try.func28, Try.ntmps28
  go_wp2
  go_ret
  exact ⟨rfl, rfl⟩
theorem rbef_ne (p v q u : Int) (hv : 4 ≤ v ∧ v ≤ 252) (hu : 4 ≤ u ∧ u ≤ 252) (c : ¬ p = q) (w : World) : Calls Try.prog 20 #[.agg [.int .i64 p, .int .i64 v].toArray, .agg [.int .i64 q, .int .i64 u].toArray] w fun e w' => e = .returned (.bool (decide (q < p))) ∧ Below w.heap.size w w' := by
  have e : (p != q) = true := by simpa using c
  clear c
  have h1 := rrank_any v hv
  have h2 := rrank_any u hu
  generalize rnk v = y at *
  generalize rnk u = z at *
  clear hv hu
  have hX := Bag.nil w
  have hX := hX.new 23 [.int .i64 p, .int .i64 v]
  have hR0 : ([.int .i64 p, .int .i64 v] : List Value)[0]? = some (.int .i64 p) := rfl
  have hR1 : ([.int .i64 p, .int .i64 v] : List Value)[1]? = some (.int .i64 v) := rfl
  generalize ([.int .i64 p, .int .i64 v] : List Value) = CR at *
  have hX := hX.new 23 [.int .i64 q, .int .i64 u]
  have hS0 : ([.int .i64 q, .int .i64 u] : List Value)[0]? = some (.int .i64 q) := rfl
  have hS1 : ([.int .i64 q, .int .i64 u] : List Value)[1]? = some (.int .i64 u) := rfl
  generalize ([.int .i64 q, .int .i64 u] : List Value) = CS at *
  have hsz : (w.alloc (.cells CR.toArray 23)).heap.size = w.heap.size + 1 := Array.size_push ..
  rw [hsz] at hX
  go_enter Try.func20, Try.ntmps20
  go_wp2_with (first | (refine wpList_bag_cell hX int_cell _ rfl rfl rfl rfl (by first | exact .head _ | exact .tail _ (.head _)) (by assumption) ?_))
  go_ret
  exact ⟨rfl, hX.below⟩
theorem rbef_eq (p v q u : Int) (hv : 4 ≤ v ∧ v ≤ 252) (hu : 4 ≤ u ∧ u ≤ 252) (c : p = q) (w : World) : Calls Try.prog 20 #[.agg [.int .i64 p, .int .i64 v].toArray, .agg [.int .i64 q, .int .i64 u].toArray] w fun e w' => e = .returned (.bool (decide (rnk v < rnk u))) ∧ Below w.heap.size w w' := by
  have e : (p != q) = false := by simpa using c
  clear c
  have h1 := rrank_any v hv
  have h2 := rrank_any u hu
  generalize rnk v = y at *
  generalize rnk u = z at *
  clear hv hu
  have hX := Bag.nil w
  have hX := hX.new 23 [.int .i64 p, .int .i64 v]
  have hR0 : ([.int .i64 p, .int .i64 v] : List Value)[0]? = some (.int .i64 p) := rfl
  have hR1 : ([.int .i64 p, .int .i64 v] : List Value)[1]? = some (.int .i64 v) := rfl
  generalize ([.int .i64 p, .int .i64 v] : List Value) = CR at *
  have hX := hX.new 23 [.int .i64 q, .int .i64 u]
  have hS0 : ([.int .i64 q, .int .i64 u] : List Value)[0]? = some (.int .i64 q) := rfl
  have hS1 : ([.int .i64 q, .int .i64 u] : List Value)[1]? = some (.int .i64 u) := rfl
  generalize ([.int .i64 q, .int .i64 u] : List Value) = CS at *
  have hsz : (w.alloc (.cells CR.toArray 23)).heap.size = w.heap.size + 1 := Array.size_push ..
  rw [hsz] at hX
  go_enter Try.func20, Try.ntmps20
  go_wp2_with (first | (refine wpList_bag_cell hX int_cell _ rfl rfl rfl rfl (by first | exact .head _ | exact .tail _ (.head _)) (by assumption) ?_))
  refine region_class (fun w' => Bag [(w.heap.size + 1, 23, CS), (w.heap.size, 23, CR)] w w') (by kernel_rfl) (by kernel_rfl) hX.drew ?_
  repeat
    first
      | (refine BigFrame.wpQuiet_skip (by rfl) ?_
         simp only [Act.put, List.setIfInBounds_toArray, List.set_cons_zero, List.set_cons_succ])
      | (refine BigFrame.wpQuiet_want (by rfl) (fun K hK => ?_)
         apply Exists.intro
         refine ⟨fun wq hq => ?_, hK _ ?_⟩
         · first
             | (refine quiet_load 3 _ _ _ rfl rfl ((hq.all _ _ _ (by first | exact .head _ | exact .tail _ (.head _))).loadCell (by assumption) int_cell))
             | (unfold Oper.quietAt
                go_simp
                first
                  | with_reducible rfl
                  | ((go_at_call 28); with_reducible refine (h1 _).mono ?_; exact fun e w' ⟨he, hw⟩ => ⟨he, (by subst hw; exact hq)⟩)
                  | ((go_at_call 28); with_reducible refine (h2 _).mono ?_; exact fun e w' ⟨he, hw⟩ => ⟨he, (by subst hw; exact hq)⟩)
               )
         clear hK K
         simp only [Act.put, List.setIfInBounds_toArray, List.set_cons_zero, List.set_cons_succ])
  refine wpQuiet_nil ?_
  intro w4 hX
  go_wp2
  go_ret
  exact ⟨rfl, hX.below⟩
theorem rBefore_any (a b : Rq) (ha : okQ a = true) (hb : okQ b = true) (w : World) : Calls Try.prog 20 #[.agg [.int .i64 a.1, .int .i64 a.2].toArray, .agg [.int .i64 b.1, .int .i64 b.2].toArray] w fun e w' => e = .returned (.bool (bef a b)) ∧ Below w.heap.size w w' := by
  rw [okQ_iff] at ha hb
  unfold bef
  by_cases c : a.1 = b.1
  · rw [if_pos c]; exact rbef_eq a.1 a.2 b.1 b.2 (by omega) (by omega) c w
  · rw [if_neg c]; exact rbef_ne a.1 a.2 b.1 b.2 (by omega) (by omega) c w
end Go.Proofs.Ytglneeeeogkljaa
