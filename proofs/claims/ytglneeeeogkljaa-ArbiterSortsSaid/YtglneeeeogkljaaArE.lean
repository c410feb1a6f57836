/-
  Best and Grant of the reference. Condition: at most 2^40 requests.
-/
import Derived.Test.YtglneeeeogkljaaArD
namespace Go.Proofs.Ytglneeeeogkljaa
open Go.RowKit
set_option linter.unusedSimpArgs false
set_option linter.unusedVariables false
set_option maxHeartbeats 4000000
set_option maxRecDepth 100000
attribute [local irreducible] wpQuiet

def pr (n : Int) : Int := n / 32 % 8
theorem pr_bd (n : Int) : 0 ≤ pr n ∧ pr n ≤ 7 := by unfold pr; omega
theorem a224 (n : Int) : bits .and .i64 n 224 = pr n * 32 := i_and (c := 224) (by decide) (field _ 5 3) (by intro h; unfold pr; omega)
theorem prio_any (n : Int) (w : World) : Calls Try.prog 29 #[.int .i64 n] w fun e w' => e = .returned (.int .i64 (pr n)) ∧ w = w' := by
  have A := a224 n
  have hb := pr_bd n
  have hd : pr n * 32 / 32 = pr n := by omega
  generalize pr n = M at *
  go_enter Try.func29, Try.ntmps29
  go_wp2
  go_ret
  exact ⟨rfl, rfl⟩
theorem rprio_any (n : Int) (w : World) : Calls Try.prog 22 #[.int .i64 n] w fun e w' => e = .returned (.int .i64 (pr n)) ∧ w = w' := by
  have A : bits .and .i64 (n / 32) 7 = pr n := a7 _
  generalize pr n = M at *
  go_enter Try.func22, Try.ntmps22
  go_wp2
  go_ret
  exact ⟨rfl, rfl⟩
theorem zeroQ (w : World) : (Instr.build 23 #[]).run Try.prog w = .ok (.agg #[.int .i64 0, .int .i64 0]) w := by kernel_rfl
theorem bst_nil {l : List Rq} (h : srt l = []) : bst l = ((0, 0), false) := by unfold bst; rw [h]
theorem bst_cons {l : List Rq} {q : Rq} {r : List Rq} (h : srt l = q :: r) : bst l = (q, true) := by unfold bst; rw [h]
theorem rBest_any (v : Value) (l : List Rq) (hl : l.length ≤ 1099511627776) (w : World) (hv : Rqs w v l) :
    Calls Try.prog 12 #[v] w fun e w' => e = .returned (.tuple #[.agg #[.int .i64 (bst l).1.1, .int .i64 (bst l).1.2], .bool (bst l).2]) ∧ Below w.heap.size w w' := by
  have hX := (Bag.nil w).new 23 [.int .i64 0, .int .i64 0]
  have hs := rSort_any v l hl _ (Rw.alloc hv (.cells #[.int .i64 0, .int .i64 0] 23))
  clear hv
  cases hsl : srt l with
  | nil =>
    rw [hsl] at hs
    rw [bst_nil hsl]
    clear hsl
    go_enter Try.func12, Try.ntmps12
    go_wp2_with (first | (go_at_call 15; (with_reducible refine hs.mono ?_); rintro e w' ⟨r, rfl, hown, hb⟩; replace hX := hX.step hb; obtain ⟨A, c, rfl, _, _⟩ := Rw.of_own hown; clear hown hb) | (refine wpList_bag_over hX aggQ sizQ _ _ rfl rfl rfl rfl rfl rfl rfl rfl (by intro u hu; simp at hu; rcases hu with rfl | rfl <;> rfl) ?_; clear hX; intro wz hX) | (refine wpList_build_run 23 (.agg #[.int .i64 0, .int .i64 0]) rfl rfl zeroQ ?_))
    exact bodyPost_ret (results_ct Try.results12 rfl ((hX.all _ _ _ List.mem_cons_self).loadVar rfl aggQ sizQ)) rfl ⟨rfl, hX.below⟩
  | cons q rest =>
    rw [hsl] at hs
    rw [bst_cons hsl]
    clear hsl
    go_enter Try.func12, Try.ntmps12
    go_wp2_with (first | (go_at_call 15; (with_reducible refine hs.mono ?_); rintro e w' ⟨r, rfl, hown, hb⟩; replace hX := hX.step hb; obtain ⟨g, cap, rfl, hca, _, _, _, _⟩ := own_at hown (Nat.succ_pos _); have hrow : Rqs w' _ (q :: rest) := Rw.of_own hown; have hz : (⟨g, 0, none⟩ : Addr).add (0 * 2) = ⟨g, 0, none⟩ := rfl; have hld := Rqs.load (k := 0) hrow rfl rfl; rw [hz] at hld; clear hown hb hrow hz) | (refine wpList_loadW rfl 23 _ _ _ rfl rfl hld ?_) | (refine wpList_bag_over hX aggQ sizQ _ _ rfl rfl rfl rfl rfl rfl rfl rfl (by intro u hu; simp at hu; rcases hu with rfl | rfl <;> rfl) ?_; clear hX; intro wz hX) | (refine wpList_build_run 23 (.agg #[.int .i64 0, .int .i64 0]) rfl rfl zeroQ ?_))
    exact bodyPost_ret (results_ct Try.results12 rfl ((hX.all _ _ _ List.mem_cons_self).loadVar rfl aggQ sizQ)) rfl ⟨rfl, hX.below⟩
theorem grt_no {l : List Rq} {p : Int} (h : (bst l).2 = false ∨ (bst l).1.1 ≤ p) : grt l p = ((0, 0), false) := by
  unfold grt
  rw [if_neg]
  rintro ⟨h1, h2⟩
  rcases h with h | h
  · rw [h] at h1; cases h1
  · omega
theorem grt_yes {l : List Rq} {p : Int} (h : (bst l).2 = true) (h2 : ¬ (bst l).1.1 ≤ p) : grt l p = ((bst l).1, true) := if_pos ⟨h, by omega⟩
theorem rGrant_any (v : Value) (l : List Rq) (n : Int) (hl : l.length ≤ 1099511627776) (w : World) (hv : Rqs w v l) :
    Calls Try.prog 17 #[v, .int .i64 n] w fun e w' => e = .returned (.tuple #[.agg #[.int .i64 (grt l (pr n)).1.1, .int .i64 (grt l (pr n)).1.2], .bool (grt l (pr n)).2]) ∧ Below w.heap.size w w' := by
  have hX := (Bag.nil w).new 23 [.int .i64 0, .int .i64 0]
  have hs := rBest_any v l hl _ (Rw.alloc hv (.cells #[.int .i64 0, .int .i64 0] 23))
  have hp := fun w => rprio_any n w
  have hno := grt_no (l := l) (p := pr n)
  have hyes := grt_yes (l := l) (p := pr n)
  clear hv
  generalize grt l (pr n) = G at *
  obtain ⟨⟨y, z⟩, t⟩ := G
  generalize bst l = B at *
  obtain ⟨⟨p, u⟩, ok⟩ := B
  generalize pr n = m at *
  simp only at *
  cases ok with
  | false =>
    cases hno (.inl rfl)
    clear hno hyes
    go_enter Try.func17, Try.ntmps17
    go_wp2_with (first | (go_at_call 12; (with_reducible refine hs.mono ?_); rintro e w' ⟨rfl, hb⟩; replace hX := hX.step hb; clear hb) | (refine wpList_bag_store (zs := [.int .i64 0, .int .i64 0]) hX aggQ sizQ _ _ rfl rfl rfl rfl rfl rfl rfl rfl (by intro u hu; simp at hu; rcases hu with rfl | rfl <;> rfl) ?_; clear hX; intro wz hX) | (refine wpList_bag_over hX aggQ sizQ _ _ rfl rfl rfl rfl rfl rfl rfl rfl (by intro u hu; simp at hu; rcases hu with rfl | rfl <;> rfl) ?_; clear hX; intro wz hX) | (refine wpList_build_run 23 (.agg #[.int .i64 0, .int .i64 0]) rfl rfl zeroQ ?_))
    refine region_class (fun wy => Bag _ w wy) (by kernel_rfl) (by kernel_rfl) hX.drew ?_
    repeat
      first
        | (refine BigFrame.wpQuiet_skip (by rfl) ?_
           simp only [Act.put, List.setIfInBounds_toArray, List.set_cons_zero, List.set_cons_succ])
        | (refine BigFrame.wpQuiet_want (by rfl) (fun K hK => ?_)
           apply Exists.intro
           refine ⟨fun wq hq => ?_, hK _ ?_⟩
           · first
               | (refine quiet_load 3 _ _ _ rfl rfl ((hq.all _ _ _ (by first | exact .head _ | exact .tail _ (.head _))).loadCell (by first | assumption | rfl) int_cell))
               | (unfold Oper.quietAt
                  go_simp
                  first
                    | with_reducible rfl
                    | ((go_at_call 22); with_reducible refine (hp _).mono ?_; exact fun e w' ⟨he, hw⟩ => ⟨he, (by subst hw; exact hq)⟩)
                 )
           clear hK K
           simp only [Act.put, List.setIfInBounds_toArray, List.set_cons_zero, List.set_cons_succ])
    refine wpQuiet_nil ?_
    intro w4 hX
    replace hX := hX.swap
    go_wp2_with (first | (refine wpList_bag_part (k := 0) hX aggQ sizQ _ rfl rfl rfl rfl (.tail _ (.head _)) (fun jz vz hz => (congrArg (fun n => ([_, _] : List Value)[n]?) (Nat.zero_add jz)).trans hz) rfl ?_) | (refine wpList_bag_over hX aggQ sizQ _ _ rfl rfl rfl rfl rfl rfl rfl rfl (by intro u hu; simp at hu; rcases hu with rfl | rfl <;> rfl) ?_; clear hX; intro wz hX) | (refine wpList_build_run 23 (.agg #[.int .i64 0, .int .i64 0]) rfl rfl zeroQ ?_))
    exact bodyPost_ret (results_ct Try.results17 rfl ((hX.all _ _ _ List.mem_cons_self).loadVar rfl aggQ sizQ)) rfl ⟨rfl, hX.below⟩
  | true =>
    by_cases hc : p ≤ m
    · have hd : decide (p ≤ m) = true := decide_eq_true hc
      cases hno (.inr hc)
      clear hno hyes
      go_enter Try.func17, Try.ntmps17
      go_wp2_with (first | (go_at_call 12; (with_reducible refine hs.mono ?_); rintro e w' ⟨rfl, hb⟩; replace hX := hX.step hb; clear hb) | (refine wpList_bag_store (zs := [.int .i64 0, .int .i64 0]) hX aggQ sizQ _ _ rfl rfl rfl rfl rfl rfl rfl rfl (by intro u hu; simp at hu; rcases hu with rfl | rfl <;> rfl) ?_; clear hX; intro wz hX) | (refine wpList_bag_over hX aggQ sizQ _ _ rfl rfl rfl rfl rfl rfl rfl rfl (by intro u hu; simp at hu; rcases hu with rfl | rfl <;> rfl) ?_; clear hX; intro wz hX) | (refine wpList_build_run 23 (.agg #[.int .i64 0, .int .i64 0]) rfl rfl zeroQ ?_))
      refine region_class (fun wy => Bag _ w wy) (by kernel_rfl) (by kernel_rfl) hX.drew ?_
      repeat
        first
          | (refine BigFrame.wpQuiet_skip (by rfl) ?_
             simp only [Act.put, List.setIfInBounds_toArray, List.set_cons_zero, List.set_cons_succ])
          | (refine BigFrame.wpQuiet_want (by rfl) (fun K hK => ?_)
             apply Exists.intro
             refine ⟨fun wq hq => ?_, hK _ ?_⟩
             · first
                 | (refine quiet_load 3 _ _ _ rfl rfl ((hq.all _ _ _ (by first | exact .head _ | exact .tail _ (.head _))).loadCell (by first | assumption | rfl) int_cell))
                 | (unfold Oper.quietAt
                    go_simp
                    first
                      | with_reducible rfl
                      | ((go_at_call 22); with_reducible refine (hp _).mono ?_; exact fun e w' ⟨he, hw⟩ => ⟨he, (by subst hw; exact hq)⟩)
                   )
             clear hK K
             simp only [Act.put, List.setIfInBounds_toArray, List.set_cons_zero, List.set_cons_succ])
      refine wpQuiet_nil ?_
      intro w4 hX
      replace hX := hX.swap
      go_wp2_with (first | (refine wpList_bag_part (k := 0) hX aggQ sizQ _ rfl rfl rfl rfl (.tail _ (.head _)) (fun jz vz hz => (congrArg (fun n => ([_, _] : List Value)[n]?) (Nat.zero_add jz)).trans hz) rfl ?_) | (refine wpList_bag_over hX aggQ sizQ _ _ rfl rfl rfl rfl rfl rfl rfl rfl (by intro u hu; simp at hu; rcases hu with rfl | rfl <;> rfl) ?_; clear hX; intro wz hX) | (refine wpList_build_run 23 (.agg #[.int .i64 0, .int .i64 0]) rfl rfl zeroQ ?_))
      exact bodyPost_ret (results_ct Try.results17 rfl ((hX.all _ _ _ List.mem_cons_self).loadVar rfl aggQ sizQ)) rfl ⟨rfl, hX.below⟩
    · have hd : decide (p ≤ m) = false := decide_eq_false hc
      cases hyes rfl hc
      clear hno hyes
      go_enter Try.func17, Try.ntmps17
      go_wp2_with (first | (go_at_call 12; (with_reducible refine hs.mono ?_); rintro e w' ⟨rfl, hb⟩; replace hX := hX.step hb; clear hb) | (refine wpList_bag_store (zs := [.int .i64 0, .int .i64 0]) hX aggQ sizQ _ _ rfl rfl rfl rfl rfl rfl rfl rfl (by intro u hu; simp at hu; rcases hu with rfl | rfl <;> rfl) ?_; clear hX; intro wz hX) | (refine wpList_bag_over hX aggQ sizQ _ _ rfl rfl rfl rfl rfl rfl rfl rfl (by intro u hu; simp at hu; rcases hu with rfl | rfl <;> rfl) ?_; clear hX; intro wz hX) | (refine wpList_build_run 23 (.agg #[.int .i64 0, .int .i64 0]) rfl rfl zeroQ ?_))
      refine region_class (fun wy => Bag _ w wy) (by kernel_rfl) (by kernel_rfl) hX.drew ?_
      repeat
        first
          | (refine BigFrame.wpQuiet_skip (by rfl) ?_
             simp only [Act.put, List.setIfInBounds_toArray, List.set_cons_zero, List.set_cons_succ])
          | (refine BigFrame.wpQuiet_want (by rfl) (fun K hK => ?_)
             apply Exists.intro
             refine ⟨fun wq hq => ?_, hK _ ?_⟩
             · first
                 | (refine quiet_load 3 _ _ _ rfl rfl ((hq.all _ _ _ (by first | exact .head _ | exact .tail _ (.head _))).loadCell (by first | assumption | rfl) int_cell))
                 | (unfold Oper.quietAt
                    go_simp
                    first
                      | with_reducible rfl
                      | ((go_at_call 22); with_reducible refine (hp _).mono ?_; exact fun e w' ⟨he, hw⟩ => ⟨he, (by subst hw; exact hq)⟩)
                   )
             clear hK K
             simp only [Act.put, List.setIfInBounds_toArray, List.set_cons_zero, List.set_cons_succ])
      refine wpQuiet_nil ?_
      intro w4 hX
      replace hX := hX.swap
      go_wp2_with (first | (refine wpList_bag_part (k := 0) hX aggQ sizQ _ rfl rfl rfl rfl (.tail _ (.head _)) (fun jz vz hz => (congrArg (fun n => ([_, _] : List Value)[n]?) (Nat.zero_add jz)).trans hz) rfl ?_) | (refine wpList_bag_over hX aggQ sizQ _ _ rfl rfl rfl rfl rfl rfl rfl rfl (by intro u hu; simp at hu; rcases hu with rfl | rfl <;> rfl) ?_; clear hX; intro wz hX) | (refine wpList_build_run 23 (.agg #[.int .i64 0, .int .i64 0]) rfl rfl zeroQ ?_))
      exact bodyPost_ret (results_ct Try.results17 rfl ((hX.all _ _ _ List.mem_cons_self).loadVar rfl aggQ sizQ)) rfl ⟨rfl, hX.below⟩
end Go.Proofs.Ytglneeeeogkljaa
