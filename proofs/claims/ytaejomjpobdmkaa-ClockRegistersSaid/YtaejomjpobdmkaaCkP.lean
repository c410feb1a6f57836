/-
  The contracts of package clock: none is a condition any more. No condition.
-/
import Derived.Test.YtaejomjpobdmkaaCkL
namespace Go.Proofs.Ytaejomjpobdmkaa
open Go.RowKit
set_option linter.unusedSimpArgs false
set_option linter.unusedVariables false
set_option maxHeartbeats 4000000
set_option maxRecDepth 100000
attribute [local irreducible] wpQuiet
theorem pright_0 (e r : Bool) (p l : Int)  (c0 : ¬ 1 ≤ p) (w : World) : Calls Try.prog 9 #[.agg #[.bool e, .bool r, .int .i64 p, .int .i64 l]] w fun e' w' => e' = .returned (.bool false) ∧ Below w.heap.size w w' := by
  have d0 : decide (1 ≤ p) = false := decide_eq_false c0
  go_enter Try.func9, Try.ntmps9
  go_wp2
  go_ret
  exact ⟨rfl, ((Bag.nil w).new 23 _).below⟩
theorem pright_1 (e r : Bool) (p l : Int) (c0 : 1 ≤ p) (c1 : ¬ p ≤ 65535) (w : World) : Calls Try.prog 9 #[.agg #[.bool e, .bool r, .int .i64 p, .int .i64 l]] w fun e' w' => e' = .returned (.bool false) ∧ Below w.heap.size w w' := by
  have d0 : decide (1 ≤ p) = true := decide_eq_true c0
  have d1 : decide (p ≤ 65535) = false := decide_eq_false c1
  go_enter Try.func9, Try.ntmps9
  go_wp2
  go_ret
  exact ⟨rfl, ((Bag.nil w).new 23 _).below⟩
theorem pright_2 (e r : Bool) (p l : Int) (c0 : 1 ≤ p) (c1 : p ≤ 65535) (c2 : ¬ 1 ≤ l) (w : World) : Calls Try.prog 9 #[.agg #[.bool e, .bool r, .int .i64 p, .int .i64 l]] w fun e' w' => e' = .returned (.bool false) ∧ Below w.heap.size w w' := by
  have d0 : decide (1 ≤ p) = true := decide_eq_true c0
  have d1 : decide (p ≤ 65535) = true := decide_eq_true c1
  have d2 : decide (1 ≤ l) = false := decide_eq_false c2
  go_enter Try.func9, Try.ntmps9
  go_wp2
  go_ret
  exact ⟨rfl, ((Bag.nil w).new 23 _).below⟩
theorem pright_3 (e r : Bool) (p l : Int) (c0 : 1 ≤ p) (c1 : p ≤ 65535) (c2 : 1 ≤ l) (c3 : ¬ l ≤ p) (w : World) : Calls Try.prog 9 #[.agg #[.bool e, .bool r, .int .i64 p, .int .i64 l]] w fun e' w' => e' = .returned (.bool false) ∧ Below w.heap.size w w' := by
  have d0 : decide (1 ≤ p) = true := decide_eq_true c0
  have d1 : decide (p ≤ 65535) = true := decide_eq_true c1
  have d2 : decide (1 ≤ l) = true := decide_eq_true c2
  have d3 : decide (l ≤ p) = false := decide_eq_false c3
  go_enter Try.func9, Try.ntmps9
  go_wp2
  go_ret
  exact ⟨rfl, ((Bag.nil w).new 23 _).below⟩
theorem pright_4 (e r : Bool) (p l : Int) (c0 : 1 ≤ p) (c1 : p ≤ 65535) (c2 : 1 ≤ l) (c3 : l ≤ p) (w : World) : Calls Try.prog 9 #[.agg #[.bool e, .bool r, .int .i64 p, .int .i64 l]] w fun e' w' => e' = .returned (.bool true) ∧ Below w.heap.size w w' := by
  have d0 : decide (1 ≤ p) = true := decide_eq_true c0
  have d1 : decide (p ≤ 65535) = true := decide_eq_true c1
  have d2 : decide (1 ≤ l) = true := decide_eq_true c2
  have d3 : decide (l ≤ p) = true := decide_eq_true c3
  go_enter Try.func9, Try.ntmps9
  go_wp2
  go_ret
  exact ⟨rfl, ((Bag.nil w).new 23 _).below⟩
theorem pright_any (c : Ck) (w : World) : Calls Try.prog 9 #[.agg #[.bool c.e, .bool c.r, .int .i64 c.p, .int .i64 c.l]] w fun e' w' => e' = .returned (.bool c.right) ∧ Below w.heap.size w w' := by
  obtain ⟨e, r, p, l⟩ := c
  unfold Ck.right
  by_cases c0 : ¬ 1 ≤ p
  · have := pright_0 e r p l c0 w
    simpa [c0] using this
  replace c0 : 1 ≤ p := by omega
  by_cases c1 : ¬ p ≤ 65535
  · have := pright_1 e r p l c0 c1 w
    simpa [c0, c1] using this
  replace c1 : p ≤ 65535 := by omega
  by_cases c2 : ¬ 1 ≤ l
  · have := pright_2 e r p l c0 c1 c2 w
    simpa [c0, c1, c2] using this
  replace c2 : 1 ≤ l := by omega
  by_cases c3 : ¬ l ≤ p
  · have := pright_3 e r p l c0 c1 c2 c3 w
    simpa [c0, c1, c2, c3] using this
  replace c3 : l ≤ p := by omega
  have := pright_4 e r p l c0 c1 c2 c3 w
  simpa [c0, c1, c2, c3] using this
theorem ptick_1 (e r : Bool) (p : Int) (w : World) : Calls Try.prog 12 #[.agg #[.bool e, .bool r, .int .i64 p, .int .i64 1]] w fun e' w' => e' = .returned (.agg #[.bool e, .bool true, .int .i64 p, .int .i64 p]) ∧ Below w.heap.size w w' := by
  go_enter Try.func12, Try.ntmps12
  go_wp2
  exact bodyPost_ret (results_c Try.results12 rfl (((two_new w _ _).all _ _ _ List.mem_cons_self).loadVar rfl aggK sizK)) rfl ⟨rfl, (two_new w _ _).below⟩
theorem ptick_n (e r : Bool) (p l : Int) (h : 1 ≤ l ∧ l ≤ 65535) (hne : ¬ l = 1) (w : World) : Calls Try.prog 12 #[.agg #[.bool e, .bool r, .int .i64 p, .int .i64 l]] w fun e' w' => e' = .returned (.agg #[.bool e, .bool r, .int .i64 p, .int .i64 (l - 1)]) ∧ Below w.heap.size w w' := by
  have hw : wrap64 (l - 1) = l - 1 := by unfold wrap64; omega
  have hz : (l - 1 == 0) = false := by simp; omega
  go_enter Try.func12, Try.ntmps12
  go_wp2
  exact bodyPost_ret (results_c Try.results12 rfl (((two_new w _ _).all _ _ _ List.mem_cons_self).loadVar rfl aggK sizK)) rfl ⟨rfl, (two_new w _ _).below⟩
theorem ptick_any (c : Ck) (h : c.right = true) (w : World) : Calls Try.prog 12 #[.agg #[.bool c.e, .bool c.r, .int .i64 c.p, .int .i64 c.l]] w fun e' w' => e' = .returned (.agg #[.bool (c.tick).e, .bool (c.tick).r, .int .i64 (c.tick).p, .int .i64 (c.tick).l]) ∧ Below w.heap.size w w' := by
  have h' := (Ck.right_iff c).1 h
  obtain ⟨e, r, p, l⟩ := c
  unfold Ck.tick
  simp only at h' ⊢
  by_cases hl : l = 1
  · subst hl
    exact ptick_1 e r p w
  · rw [if_neg hl]
    exact ptick_n e r p l (by omega) hl w
theorem pacc_any (c : Ck) (v : Int) (w : World) : Calls Try.prog 23 #[.agg #[.bool c.e, .bool c.r, .int .i64 c.p, .int .i64 c.l], .int .i64 v] w fun e' w' => e' = .returned (.agg #[.bool (c.acc v).e, .bool (c.acc v).r, .int .i64 (c.acc v).p, .int .i64 (c.acc v).l]) ∧ Below w.heap.size w w' := by
  obtain ⟨e, r, p, l⟩ := c
  unfold Ck.acc
  by_cases hv : v = 64
  · subst hv
    go_enter Try.func23, Try.ntmps23
    go_wp2
    exact bodyPost_ret (results_c Try.results23 rfl (((two_new w _ _).all _ _ _ List.mem_cons_self).loadVar rfl aggK sizK)) rfl ⟨rfl, (two_new w _ _).below⟩
  · rw [if_neg hv]
    have he : (v == 64) = false := by simpa using hv
    go_enter Try.func23, Try.ntmps23
    go_wp2
    exact bodyPost_ret (results_c Try.results23 rfl (((two_new w _ _).all _ _ _ List.mem_cons_self).loadVar rfl aggK sizK)) rfl ⟨rfl, (two_new w _ _).below⟩
theorem pread_any (c : Ck) (w : World) : Calls Try.prog 16 #[.agg #[.bool c.e, .bool c.r, .int .i64 c.p, .int .i64 c.l]] w fun e' w' => e' = .returned (.int .i64 c.read) ∧ Below w.heap.size w w' := by
  obtain ⟨e, r, p, l⟩ := c
  have o1 : bits .or .i64 0 64 = 64 := by decide
  have o2 : bits .or .i64 0 128 = 128 := by decide
  have o3 : bits .or .i64 64 128 = 192 := by decide
  cases e <;> cases r
  · have hX := (Bag.nil w).new 23 [.bool false, .bool false, .int .i64 p, .int .i64 l]
    go_enter Try.func16, Try.ntmps16
    go_wp2
    go_ret
    exact ⟨rfl, hX.below⟩
  · have hX := (Bag.nil w).new 23 [.bool false, .bool true, .int .i64 p, .int .i64 l]
    go_enter Try.func16, Try.ntmps16
    go_wp2
    go_ret
    exact ⟨rfl, hX.below⟩
  · have hX := (Bag.nil w).new 23 [.bool true, .bool false, .int .i64 p, .int .i64 l]
    go_enter Try.func16, Try.ntmps16
    go_wp2
    go_ret
    exact ⟨rfl, hX.below⟩
  · have hX := (Bag.nil w).new 23 [.bool true, .bool true, .int .i64 p, .int .i64 l]
    go_enter Try.func16, Try.ntmps16
    go_wp2
    go_ret
    exact ⟨rfl, hX.below⟩
theorem pwrite_any (c : Ck) (v : Int) (w : World) : Calls Try.prog 18 #[.agg #[.bool c.e, .bool c.r, .int .i64 c.p, .int .i64 c.l], .int .i64 v] w fun e' w' => e' = .returned (.agg #[.bool (c.write v).e, .bool (c.write v).r, .int .i64 (c.write v).p, .int .i64 (c.write v).l]) ∧ Below w.heap.size w w' := by
  obtain ⟨e, r, p, l⟩ := c
  obtain ⟨h1, h2⟩ := and_bits v
  simp only [Ck.write]
  generalize decide (v / 64 % 2 = 1) = b1 at *
  generalize decide (v / 128 % 2 = 1) = b2 at *
  cases r
  · go_enter Try.func18, Try.ntmps18
    go_wp2
    exact bodyPost_ret (results_c Try.results18 rfl (((two_new w _ _).all _ _ _ List.mem_cons_self).loadVar rfl aggK sizK)) rfl ⟨rfl, (two_new w _ _).below⟩
  · go_enter Try.func18, Try.ntmps18
    go_wp2
    exact bodyPost_ret (results_c Try.results18 rfl (((two_new w _ _).all _ _ _ List.mem_cons_self).loadVar rfl aggK sizK)) rfl ⟨rfl, (two_new w _ _).below⟩
theorem preq_any (c : Ck) (w : World) : Calls Try.prog 21 #[.agg #[.bool c.e, .bool c.r, .int .i64 c.p, .int .i64 c.l]] w fun e' w' => ∃ v, e' = .returned v ∧ Rqs w' v c.req ∧ Below w.heap.size w w' := by
  obtain ⟨e, r, p, l⟩ := c
  cases e <;> cases r
  · go_enter Try.func21, Try.ntmps21
    go_wp2
    go_ret
    exact ⟨_, rfl, Rw.nil _, ((Bag.nil w).new 23 _).below⟩
  · go_enter Try.func21, Try.ntmps21
    go_wp2
    go_ret
    exact ⟨_, rfl, Rw.nil _, ((Bag.nil w).new 23 _).below⟩
  · go_enter Try.func21, Try.ntmps21
    go_wp2
    go_ret
    exact ⟨_, rfl, Rw.nil _, ((Bag.nil w).new 23 _).below⟩
  · go_enter Try.func21, Try.ntmps21
    go_wp2
    go_ret
    exact ⟨_, rfl, rqs_two w _ [(6, 64)] 1 rfl, (((Bag.nil w).new 23 _).new 38 _).below⟩
theorem punused_any (n : Int) (w : World) : Calls Try.prog 25 #[.int .i64 n] w fun e' w' => e' = .returned (.agg #[.bool false, .bool false, .int .i64 n, .int .i64 n]) ∧ Below w.heap.size w w' := by
  go_enter Try.func25, Try.ntmps25
  go_wp2
  exact bodyPost_ret (results_c Try.results25 rfl ((((Bag.nil w).new 23 _).all _ _ _ List.mem_cons_self).loadVar rfl aggK sizK)) rfl ⟨rfl, ((Bag.nil w).new 23 _).below⟩
theorem preset_any (c : Ck) (w : World) : Calls Try.prog 14 #[.agg #[.bool c.e, .bool c.r, .int .i64 c.p, .int .i64 c.l]] w fun e' w' => e' = .returned (.agg #[.bool c.reset.e, .bool c.reset.r, .int .i64 c.reset.p, .int .i64 c.reset.l]) ∧ Below w.heap.size w w' := by
  obtain ⟨e, r, p, l⟩ := c
  simp only [Ck.reset]
  have h1 := punused_any p
  have hX := two_new w [.bool e, .bool r, .int .i64 p, .int .i64 l] [.bool false, .bool false, .int .i64 0, .int .i64 0]
  go_enter Try.func14, Try.ntmps14
  go_wp2_with (first | (go_at_call 25; first | ((with_reducible refine (h1 _).mono ?_); rintro e' w' ⟨rfl, hb⟩; replace hX := hX.step hb; clear hb)) | ((with_reducible refine at_store ?_); refine wpList_bag_over hX aggK sizK _ _ rfl rfl rfl rfl rfl rfl rfl rfl (one_ck _ _ _ _) ?_; clear hX; intro wz hX))
  exact bodyPost_ret (results_c Try.results14 rfl ((hX.all _ _ _ (.head _)).loadVar rfl aggK sizK)) rfl ⟨rfl, hX.below⟩
theorem pnew_yes (n : Int) (h : 1 ≤ n ∧ n ≤ 65535) (w : World) : Calls Try.prog 7 #[.int .i64 n] w fun e' w' => e' = .returned (.tuple #[.agg #[.bool false, .bool false, .int .i64 n, .int .i64 n], .int .i64 0]) ∧ Below w.heap.size w w' := by
  have h1 := punused_any n
  have h2 : ∀ w, Calls Try.prog 9 #[.agg #[.bool false, .bool false, .int .i64 n, .int .i64 n]] w fun e' w' => e' = .returned (.bool true) ∧ Below w.heap.size w w' := fun w => by
    have := pright_any ⟨false, false, n, n⟩ w
    rwa [show (⟨false, false, n, n⟩ : Ck).right = true from by rw [Ck.right_iff]; simp only; omega] at this
  clear h
  have hX := (Bag.nil w).new 23 [.bool false, .bool false, .int .i64 0, .int .i64 0]
  go_enter Try.func7, Try.ntmps7
  go_wp2_with (first | (go_at_call 25; first | ((with_reducible refine (h1 _).mono ?_); rintro e' w' ⟨rfl, hb⟩; replace hX := hX.step hb; clear hb)) | (go_at_call 9; first | ((with_reducible refine (h2 _).mono ?_); rintro e' w' ⟨rfl, hb⟩; replace hX := hX.step hb; clear hb)) | ((with_reducible refine at_store ?_); refine wpList_bag_store (zs := [.bool false, .bool false, .int .i64 0, .int .i64 0]) hX aggK sizK _ _ rfl rfl rfl rfl rfl rfl rfl rfl (one_ck _ _ _ _) ?_; clear hX; intro wz hX) | ((with_reducible refine at_store ?_); refine wpList_bag_over hX.swap aggK sizK _ _ rfl rfl rfl rfl rfl rfl rfl rfl (one_ck _ _ _ _) ?_; clear hX; intro wz hX) | ((with_reducible refine at_load ?_); refine wpList_bag_part (k := 0) hX aggK sizK _ rfl rfl rfl rfl (by first | exact .head _ | exact .tail _ (.head _) | exact .tail _ (.tail _ (.head _))) (fun jz vz hz => (congrArg (fun n => ([_, _, _, _] : List Value)[n]?) (Nat.zero_add jz)).trans hz) rfl ?_) | (refine wpList_build_run 23 (.agg #[.bool false, .bool false, .int .i64 0, .int .i64 0]) rfl rfl zeroK ?_))
  exact bodyPost_ret (results_ct Try.results7 rfl ((hX.all w.heap.size 23 [.bool false, .bool false, .int .i64 n, .int .i64 n] (by first | exact .head _ | exact .tail _ (.head _))).loadVar rfl aggK sizK)) rfl ⟨rfl, hX.below⟩
theorem pnew_no (n : Int) (h : ¬ (1 ≤ n ∧ n ≤ 65535)) (w : World) : Calls Try.prog 7 #[.int .i64 n] w fun e' w' => e' = .returned (.tuple #[.agg #[.bool false, .bool false, .int .i64 0, .int .i64 0], .int .i64 2]) ∧ Below w.heap.size w w' := by
  have h1 := punused_any n
  have h2 : ∀ w, Calls Try.prog 9 #[.agg #[.bool false, .bool false, .int .i64 n, .int .i64 n]] w fun e' w' => e' = .returned (.bool false) ∧ Below w.heap.size w w' := fun w => by
    have := pright_any ⟨false, false, n, n⟩ w
    rwa [show (⟨false, false, n, n⟩ : Ck).right = false from by rw [Bool.eq_false_iff, ne_eq, Ck.right_iff]; simp only; omega] at this
  clear h
  have hX := (Bag.nil w).new 23 [.bool false, .bool false, .int .i64 0, .int .i64 0]
  go_enter Try.func7, Try.ntmps7
  go_wp2_with (first | (go_at_call 25; first | ((with_reducible refine (h1 _).mono ?_); rintro e' w' ⟨rfl, hb⟩; replace hX := hX.step hb; clear hb)) | (go_at_call 9; first | ((with_reducible refine (h2 _).mono ?_); rintro e' w' ⟨rfl, hb⟩; replace hX := hX.step hb; clear hb)) | ((with_reducible refine at_store ?_); refine wpList_bag_store (zs := [.bool false, .bool false, .int .i64 0, .int .i64 0]) hX aggK sizK _ _ rfl rfl rfl rfl rfl rfl rfl rfl (one_ck _ _ _ _) ?_; clear hX; intro wz hX) | ((with_reducible refine at_store ?_); refine wpList_bag_over hX.swap aggK sizK _ _ rfl rfl rfl rfl rfl rfl rfl rfl (one_ck _ _ _ _) ?_; clear hX; intro wz hX) | ((with_reducible refine at_load ?_); refine wpList_bag_part (k := 0) hX aggK sizK _ rfl rfl rfl rfl (by first | exact .head _ | exact .tail _ (.head _) | exact .tail _ (.tail _ (.head _))) (fun jz vz hz => (congrArg (fun n => ([_, _, _, _] : List Value)[n]?) (Nat.zero_add jz)).trans hz) rfl ?_) | (refine wpList_build_run 23 (.agg #[.bool false, .bool false, .int .i64 0, .int .i64 0]) rfl rfl zeroK ?_))
  exact bodyPost_ret (results_ct Try.results7 rfl ((hX.all w.heap.size 23 [.bool false, .bool false, .int .i64 0, .int .i64 0] (by first | exact .head _ | exact .tail _ (.head _))).loadVar rfl aggK sizK)) rfl ⟨rfl, hX.below⟩
theorem pnew_any (n : Int) (w : World) : Calls Try.prog 7 #[.int .i64 n] w fun e' w' => e' = .returned (.tuple #[.agg #[.bool (newK n).1.e, .bool (newK n).1.r, .int .i64 (newK n).1.p, .int .i64 (newK n).1.l], .int .i64 (newK n).2]) ∧ Below w.heap.size w w' := by
  unfold newK
  by_cases h : 1 ≤ n ∧ n ≤ 65535
  · rw [if_pos h]; exact pnew_yes n h w
  · rw [if_neg h]; exact pnew_no n h w
theorem clk_c : CkC := ⟨pnew_any, pright_any, fun c w h => ptick_any c h w, fun c w _ => pread_any c w, fun c v w _ => pwrite_any c v w, fun c w _ => preq_any c w, fun c v w _ => pacc_any c v w, fun c w _ => preset_any c w⟩
end Go.Proofs.Ytaejomjpobdmkaa
