/-
  Walks over Sub of package word. Condition: the table of widths holds its four numbers.
-/
import Derived.Test.YtpimdbglmoopcaaDoorWalkB
namespace Go.Proofs.YtpimdbglmoopcaaDoor
open Go.RowKit
attribute [local irreducible] wpQuiet

set_option maxHeartbeats 1000000 in
theorem Sub_f1 (a b c : Int) (w : World) (W : Wid w) (hg : (ng 32768 (a % 65536) == ng 32768 (b % 65536)) = false) :
    Calls Tryd.prog 20 #[.int .i64 a, .int .i64 b, .int .i64 c, .bool false] w fun e w' =>
      e = .returned (.tuple #[.int .i64 ((a % 65536 - b % 65536 - c % 2) % 65536), .int .i64 (bits .or .i64 (bits .or .i64 (fl 65535 32768 ((a % 65536 - b % 65536 - c % 2) % 65536)) (whn 2 (ng 32768 ((a % 65536 - b % 65536 - c % 2) % 65536) == ng 32768 (b % 65536)))) (whn 1 (decide (a % 65536 - b % 65536 - c % 2 < 0))))]) ∧ Below w.heap.size w w' := by
  have A1 := and_65535
  have A2 := and_1
  go_enter Tryd.func20, Tryd.ntmps20
  go_wp2_with (first | (go_at_call 42; refine (widthOf_f _ W).mono ?_; rintro e w1 ⟨rfl, hb⟩))
  have hB := box_put 65535 32768 w w1 hb
  generalize hw2 : w1.alloc (.cells #[.int .i64 65535, .int .i64 32768] 50) = w2 at hB ⊢
  have hz : w.heap.size ≤ w1.heap.size := hb.size
  clear hw2
  generalize w1.heap.size = B1 at *
  obtain ⟨h0, h1, h2, h3⟩ := hB
  go_region_held3 (fun w' => w'.cell? ⟨B1, 0, none⟩ = some (.int .i64 65535) ∧ w'.cell? ⟨B1, 1, none⟩ = some (.int .i64 32768) ∧ B1 < w'.heap.size ∧ Below w.heap.size w w')
    (first | exact ⟨h0, h1, h2, h3.drew⟩ | assumption)
    (first | fail)
  go_wp2
  clear hb
  refine region_class (fun w' => w'.cell? ⟨B1, 0, none⟩ = some (.int .i64 65535) ∧ w'.cell? ⟨B1, 1, none⟩ = some (.int .i64 32768) ∧ B1 < w'.heap.size ∧ Below w.heap.size w w') (by kernel_rfl) (by kernel_rfl) ⟨h0, h1, h2, h3.drew.drew⟩ ?_
  repeat
    first
      | (refine BigFrame.wpQuiet_skip (by rfl) ?_
         simp only [Act.put, List.setIfInBounds_toArray, List.set_cons_zero, List.set_cons_succ])
      | (refine BigFrame.wpQuiet_want (by rfl) (fun K hK => ?_)
         apply Exists.intro
         refine ⟨fun wq hq => ?_, hK _ ?_⟩
         · obtain ⟨c0, c1, c2, c3⟩ := hq
           unfold Oper.quietAt
           go_simp
           first
             | with_reducible rfl
               | ((go_at_call 43); exact (neg_any _ _ _ _).mono (fun e w' ⟨he, hb⟩ => ⟨he, box_step ⟨c0, c1, c2, c3⟩ (by assumption) hb⟩))
         clear hK K
         simp only [Act.put, List.setIfInBounds_toArray, List.set_cons_zero, List.set_cons_succ])
  refine wpQuiet_nil ?_
  intro w4 hS
  obtain ⟨h0, h1, h2, h3⟩ := hS
  go_wp2_with (first | (go_at_call 44; refine (flags_any _ _ _ _).mono ?_; rintro e w' ⟨rfl, hb⟩) | (go_at_call 45; refine (when_any _ _ _).mono ?_; rintro e w' ⟨rfl, rfl⟩))
  go_ret2
  exact ⟨rfl, h3.trans (hb.mono h3.size)⟩

set_option maxHeartbeats 1000000 in
theorem Sub_f0 (a b c : Int) (w : World) (W : Wid w) (hg : (ng 32768 (a % 65536) == ng 32768 (b % 65536)) = true) :
    Calls Tryd.prog 20 #[.int .i64 a, .int .i64 b, .int .i64 c, .bool false] w fun e w' =>
      e = .returned (.tuple #[.int .i64 ((a % 65536 - b % 65536 - c % 2) % 65536), .int .i64 (bits .or .i64 (bits .or .i64 (fl 65535 32768 ((a % 65536 - b % 65536 - c % 2) % 65536)) (whn 2 (false))) (whn 1 (decide (a % 65536 - b % 65536 - c % 2 < 0))))]) ∧ Below w.heap.size w w' := by
  have A1 := and_65535
  have A2 := and_1
  go_enter Tryd.func20, Tryd.ntmps20
  go_wp2_with (first | (go_at_call 42; refine (widthOf_f _ W).mono ?_; rintro e w1 ⟨rfl, hb⟩))
  have hB := box_put 65535 32768 w w1 hb
  generalize hw2 : w1.alloc (.cells #[.int .i64 65535, .int .i64 32768] 50) = w2 at hB ⊢
  have hz : w.heap.size ≤ w1.heap.size := hb.size
  clear hw2
  generalize w1.heap.size = B1 at *
  obtain ⟨h0, h1, h2, h3⟩ := hB
  go_region_held3 (fun w' => w'.cell? ⟨B1, 0, none⟩ = some (.int .i64 65535) ∧ w'.cell? ⟨B1, 1, none⟩ = some (.int .i64 32768) ∧ B1 < w'.heap.size ∧ Below w.heap.size w w')
    (first | exact ⟨h0, h1, h2, h3.drew⟩ | assumption)
    (first | fail)
  go_wp2
  clear hb
  refine region_class (fun w' => w'.cell? ⟨B1, 0, none⟩ = some (.int .i64 65535) ∧ w'.cell? ⟨B1, 1, none⟩ = some (.int .i64 32768) ∧ B1 < w'.heap.size ∧ Below w.heap.size w w') (by kernel_rfl) (by kernel_rfl) ⟨h0, h1, h2, h3.drew.drew⟩ ?_
  repeat
    first
      | (refine BigFrame.wpQuiet_skip (by rfl) ?_
         simp only [Act.put, List.setIfInBounds_toArray, List.set_cons_zero, List.set_cons_succ])
      | (refine BigFrame.wpQuiet_want (by rfl) (fun K hK => ?_)
         apply Exists.intro
         refine ⟨fun wq hq => ?_, hK _ ?_⟩
         · obtain ⟨c0, c1, c2, c3⟩ := hq
           unfold Oper.quietAt
           go_simp
           first
             | with_reducible rfl
               | ((go_at_call 43); exact (neg_any _ _ _ _).mono (fun e w' ⟨he, hb⟩ => ⟨he, box_step ⟨c0, c1, c2, c3⟩ (by assumption) hb⟩))
         clear hK K
         simp only [Act.put, List.setIfInBounds_toArray, List.set_cons_zero, List.set_cons_succ])
  refine wpQuiet_nil ?_
  intro w4 hS
  obtain ⟨h0, h1, h2, h3⟩ := hS
  go_wp2_with (first | (go_at_call 44; refine (flags_any _ _ _ _).mono ?_; rintro e w' ⟨rfl, hb⟩) | (go_at_call 45; refine (when_any _ _ _).mono ?_; rintro e w' ⟨rfl, rfl⟩))
  go_ret2
  exact ⟨rfl, h3.trans (hb.mono h3.size)⟩

set_option maxHeartbeats 1000000 in
theorem Sub_t1 (a b c : Int) (w : World) (W : Wid w) (hg : (ng 128 (a % 256) == ng 128 (b % 256)) = false) :
    Calls Tryd.prog 20 #[.int .i64 a, .int .i64 b, .int .i64 c, .bool true] w fun e w' =>
      e = .returned (.tuple #[.int .i64 ((a % 256 - b % 256 - c % 2) % 256), .int .i64 (bits .or .i64 (bits .or .i64 (fl 255 128 ((a % 256 - b % 256 - c % 2) % 256)) (whn 2 (ng 128 ((a % 256 - b % 256 - c % 2) % 256) == ng 128 (b % 256)))) (whn 1 (decide (a % 256 - b % 256 - c % 2 < 0))))]) ∧ Below w.heap.size w w' := by
  have A1 := and_255
  have A2 := and_1
  go_enter Tryd.func20, Tryd.ntmps20
  go_wp2_with (first | (go_at_call 42; refine (widthOf_t _ W).mono ?_; rintro e w1 ⟨rfl, hb⟩))
  have hB := box_put 255 128 w w1 hb
  generalize hw2 : w1.alloc (.cells #[.int .i64 255, .int .i64 128] 50) = w2 at hB ⊢
  have hz : w.heap.size ≤ w1.heap.size := hb.size
  clear hw2
  generalize w1.heap.size = B1 at *
  obtain ⟨h0, h1, h2, h3⟩ := hB
  go_region_held3 (fun w' => w'.cell? ⟨B1, 0, none⟩ = some (.int .i64 255) ∧ w'.cell? ⟨B1, 1, none⟩ = some (.int .i64 128) ∧ B1 < w'.heap.size ∧ Below w.heap.size w w')
    (first | exact ⟨h0, h1, h2, h3.drew⟩ | assumption)
    (first | fail)
  go_wp2
  clear hb
  refine region_class (fun w' => w'.cell? ⟨B1, 0, none⟩ = some (.int .i64 255) ∧ w'.cell? ⟨B1, 1, none⟩ = some (.int .i64 128) ∧ B1 < w'.heap.size ∧ Below w.heap.size w w') (by kernel_rfl) (by kernel_rfl) ⟨h0, h1, h2, h3.drew.drew⟩ ?_
  repeat
    first
      | (refine BigFrame.wpQuiet_skip (by rfl) ?_
         simp only [Act.put, List.setIfInBounds_toArray, List.set_cons_zero, List.set_cons_succ])
      | (refine BigFrame.wpQuiet_want (by rfl) (fun K hK => ?_)
         apply Exists.intro
         refine ⟨fun wq hq => ?_, hK _ ?_⟩
         · obtain ⟨c0, c1, c2, c3⟩ := hq
           unfold Oper.quietAt
           go_simp
           first
             | with_reducible rfl
               | ((go_at_call 43); exact (neg_any _ _ _ _).mono (fun e w' ⟨he, hb⟩ => ⟨he, box_step ⟨c0, c1, c2, c3⟩ (by assumption) hb⟩))
         clear hK K
         simp only [Act.put, List.setIfInBounds_toArray, List.set_cons_zero, List.set_cons_succ])
  refine wpQuiet_nil ?_
  intro w4 hS
  obtain ⟨h0, h1, h2, h3⟩ := hS
  go_wp2_with (first | (go_at_call 44; refine (flags_any _ _ _ _).mono ?_; rintro e w' ⟨rfl, hb⟩) | (go_at_call 45; refine (when_any _ _ _).mono ?_; rintro e w' ⟨rfl, rfl⟩))
  go_ret2
  exact ⟨rfl, h3.trans (hb.mono h3.size)⟩

set_option maxHeartbeats 1000000 in
theorem Sub_t0 (a b c : Int) (w : World) (W : Wid w) (hg : (ng 128 (a % 256) == ng 128 (b % 256)) = true) :
    Calls Tryd.prog 20 #[.int .i64 a, .int .i64 b, .int .i64 c, .bool true] w fun e w' =>
      e = .returned (.tuple #[.int .i64 ((a % 256 - b % 256 - c % 2) % 256), .int .i64 (bits .or .i64 (bits .or .i64 (fl 255 128 ((a % 256 - b % 256 - c % 2) % 256)) (whn 2 (false))) (whn 1 (decide (a % 256 - b % 256 - c % 2 < 0))))]) ∧ Below w.heap.size w w' := by
  have A1 := and_255
  have A2 := and_1
  go_enter Tryd.func20, Tryd.ntmps20
  go_wp2_with (first | (go_at_call 42; refine (widthOf_t _ W).mono ?_; rintro e w1 ⟨rfl, hb⟩))
  have hB := box_put 255 128 w w1 hb
  generalize hw2 : w1.alloc (.cells #[.int .i64 255, .int .i64 128] 50) = w2 at hB ⊢
  have hz : w.heap.size ≤ w1.heap.size := hb.size
  clear hw2
  generalize w1.heap.size = B1 at *
  obtain ⟨h0, h1, h2, h3⟩ := hB
  go_region_held3 (fun w' => w'.cell? ⟨B1, 0, none⟩ = some (.int .i64 255) ∧ w'.cell? ⟨B1, 1, none⟩ = some (.int .i64 128) ∧ B1 < w'.heap.size ∧ Below w.heap.size w w')
    (first | exact ⟨h0, h1, h2, h3.drew⟩ | assumption)
    (first | fail)
  go_wp2
  clear hb
  refine region_class (fun w' => w'.cell? ⟨B1, 0, none⟩ = some (.int .i64 255) ∧ w'.cell? ⟨B1, 1, none⟩ = some (.int .i64 128) ∧ B1 < w'.heap.size ∧ Below w.heap.size w w') (by kernel_rfl) (by kernel_rfl) ⟨h0, h1, h2, h3.drew.drew⟩ ?_
  repeat
    first
      | (refine BigFrame.wpQuiet_skip (by rfl) ?_
         simp only [Act.put, List.setIfInBounds_toArray, List.set_cons_zero, List.set_cons_succ])
      | (refine BigFrame.wpQuiet_want (by rfl) (fun K hK => ?_)
         apply Exists.intro
         refine ⟨fun wq hq => ?_, hK _ ?_⟩
         · obtain ⟨c0, c1, c2, c3⟩ := hq
           unfold Oper.quietAt
           go_simp
           first
             | with_reducible rfl
               | ((go_at_call 43); exact (neg_any _ _ _ _).mono (fun e w' ⟨he, hb⟩ => ⟨he, box_step ⟨c0, c1, c2, c3⟩ (by assumption) hb⟩))
         clear hK K
         simp only [Act.put, List.setIfInBounds_toArray, List.set_cons_zero, List.set_cons_succ])
  refine wpQuiet_nil ?_
  intro w4 hS
  obtain ⟨h0, h1, h2, h3⟩ := hS
  go_wp2_with (first | (go_at_call 44; refine (flags_any _ _ _ _).mono ?_; rintro e w' ⟨rfl, hb⟩) | (go_at_call 45; refine (when_any _ _ _).mono ?_; rintro e w' ⟨rfl, rfl⟩))
  go_ret2
  exact ⟨rfl, h3.trans (hb.mono h3.size)⟩

end Go.Proofs.YtpimdbglmoopcaaDoor
