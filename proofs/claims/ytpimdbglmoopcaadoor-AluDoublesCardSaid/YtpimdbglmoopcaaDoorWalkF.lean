/-
  What Rotate of package word returns. Condition: the table of widths holds its four numbers.
-/
import Derived.Test.YtpimdbglmoopcaaDoorWalkE
namespace Go.Proofs.YtpimdbglmoopcaaDoor
open Go.RowKit
attribute [local irreducible] wpQuiet

theorem negb_any (n : Int) (w : World) :
    Calls Tryd.prog 43 #[.agg #[.int .i64 255, .int .i64 128], .int .i64 n] w fun e w' => e = .returned (.bool (neg true n)) ∧ Below w.heap.size w w' :=
  (neg_any _ _ _ _).mono fun _ _ ⟨he, hb⟩ => ⟨by rw [he, ng_t], hb⟩

theorem flb_any (n : Int) (w : World) :
    Calls Tryd.prog 44 #[.agg #[.int .i64 255, .int .i64 128], .int .i64 n] w fun e w' => e = .returned (.int .i64 (cod (neg true n) (zer true n) false false)) ∧ Below w.heap.size w w' :=
  (flags_any _ _ _ _).mono fun _ _ ⟨he, hb⟩ => ⟨by rw [he, fl_t], hb⟩

theorem or_vc (n z v c : Bool) : bits .or .i64 (bits .or .i64 (cod n z false false) (whn 2 v)) (whn 1 c) = cod n z v c := by rw [or_v, or_c]

set_option maxHeartbeats 1000000 in
theorem Rotate_lw (x c : Int) (w : World) (W : Wid w) :
    Calls Tryd.prog 30 #[.int .i64 x, .int .i64 c, .bool true, .bool false] w fun e w' =>
      e = .returned (.tuple #[.int .i64 ((x % 65536 * 2 + c % 2) % 65536), .int .i64 (bits .or .i64 (bits .or .i64 (cod (neg false ((x % 65536 * 2 + c % 2) % 65536)) (zer false ((x % 65536 * 2 + c % 2) % 65536)) false false) (whn 2 (!(neg false ((x % 65536 * 2 + c % 2) % 65536) == (neg false (x % 65536)))))) (whn 1 (neg false (x % 65536))))]) ∧ Below w.heap.size w w' := by
  have A1 := and_65535
  have A2 := and_1
  have A3 := or_low (x % 65536) (c % 2) (by omega) (by omega) (by omega) (by omega)
  have A4 : IntKind.i64.wrap (x % 65536 * 2) = x % 65536 * 2 := IntWalk.i64_in _ (by omega)
  go_enter Tryd.func30, Tryd.ntmps30
  go_wp2_with (first | (go_at_call 42; refine (widthOf_f _ W).mono ?_; rintro e w1 ⟨rfl, hb⟩))
  have hB := box_put 65535 32768 w w1 hb
  generalize hw2 : w1.alloc (.cells #[.int .i64 65535, .int .i64 32768] 50) = w2 at hB ⊢
  have hz : w.heap.size ≤ w1.heap.size := hb.size
  clear hw2
  generalize w1.heap.size = B1 at *
  clear hb
  obtain ⟨h0, h1, h2, h3⟩ := hB
  go_wp2
  refine region_class (fun w' => w'.cell? ⟨B1, 0, none⟩ = some (.int .i64 65535) ∧ w'.cell? ⟨B1, 1, none⟩ = some (.int .i64 32768) ∧ B1 < w'.heap.size ∧ Below w.heap.size w w') (by kernel_rfl) (by kernel_rfl) ⟨h0, h1, h2, h3.drew⟩ ?_
  repeat
    first
      | (refine BigFrame.wpQuiet_skip (by rfl) ?_
         simp only [Act.put, List.setIfInBounds_toArray, List.set_cons_zero, List.set_cons_succ])
      | (refine BigFrame.wpQuiet_want (by rfl) (fun K hK => ?_)
         apply Exists.intro
         refine ⟨fun wq hq => ?_, hK _ ?_⟩
         · obtain ⟨c0, c1, c2, c3⟩ := hq
           unfold Oper.quietAt
           go_simp
           first
             | with_reducible rfl
             | ((go_at_call 43); exact (negw_any _ _).mono (fun e w' ⟨he, hb⟩ => ⟨he, box_step ⟨c0, c1, c2, c3⟩ (by assumption) hb⟩))
             | ((go_at_call 44); exact (flw_any _ _).mono (fun e w' ⟨he, hb⟩ => ⟨he, box_step ⟨c0, c1, c2, c3⟩ (by assumption) hb⟩))
             | ((go_at_call 45); exact (when_any _ _ _).mono (fun e w' ⟨he, hw⟩ => ⟨he, hw ▸ ⟨c0, c1, c2, c3⟩⟩))
         clear hK K
         simp only [Act.put, List.setIfInBounds_toArray, List.set_cons_zero, List.set_cons_succ])
  refine wpQuiet_nil ?_
  intro w4 hS
  obtain ⟨h0, h1, h2, h3⟩ := hS
  go_wp2
  refine region_class (fun w' => w'.cell? ⟨B1, 0, none⟩ = some (.int .i64 65535) ∧ w'.cell? ⟨B1, 1, none⟩ = some (.int .i64 32768) ∧ B1 < w'.heap.size ∧ Below w.heap.size w w') (by kernel_rfl) (by kernel_rfl) ⟨h0, h1, h2, h3.drew⟩ ?_
  repeat
    first
      | (refine BigFrame.wpQuiet_skip (by rfl) ?_
         simp only [Act.put, List.setIfInBounds_toArray, List.set_cons_zero, List.set_cons_succ])
      | (refine BigFrame.wpQuiet_want (by rfl) (fun K hK => ?_)
         apply Exists.intro
         refine ⟨fun wq hq => ?_, hK _ ?_⟩
         · obtain ⟨c0, c1, c2, c3⟩ := hq
           unfold Oper.quietAt
           go_simp
           first
             | with_reducible rfl
             | ((go_at_call 43); exact (negw_any _ _).mono (fun e w' ⟨he, hb⟩ => ⟨he, box_step ⟨c0, c1, c2, c3⟩ (by assumption) hb⟩))
             | ((go_at_call 44); exact (flw_any _ _).mono (fun e w' ⟨he, hb⟩ => ⟨he, box_step ⟨c0, c1, c2, c3⟩ (by assumption) hb⟩))
             | ((go_at_call 45); exact (when_any _ _ _).mono (fun e w' ⟨he, hw⟩ => ⟨he, hw ▸ ⟨c0, c1, c2, c3⟩⟩))
         clear hK K
         simp only [Act.put, List.setIfInBounds_toArray, List.set_cons_zero, List.set_cons_succ])
  refine wpQuiet_nil ?_
  intro w4 hS
  obtain ⟨h0, h1, h2, h3⟩ := hS
  go_wp2
  go_ret2
  exact ⟨ret_pair' rfl rfl, h3⟩

set_option maxHeartbeats 1000000 in
theorem Rotate_lb (x c : Int) (w : World) (W : Wid w) :
    Calls Tryd.prog 30 #[.int .i64 x, .int .i64 c, .bool true, .bool true] w fun e w' =>
      e = .returned (.tuple #[.int .i64 ((x % 256 * 2 + c % 2) % 256), .int .i64 (bits .or .i64 (bits .or .i64 (cod (neg true ((x % 256 * 2 + c % 2) % 256)) (zer true ((x % 256 * 2 + c % 2) % 256)) false false) (whn 2 (!(neg true ((x % 256 * 2 + c % 2) % 256) == (neg true (x % 256)))))) (whn 1 (neg true (x % 256))))]) ∧ Below w.heap.size w w' := by
  have A1 := and_255
  have A2 := and_1
  have A3 := or_low (x % 256) (c % 2) (by omega) (by omega) (by omega) (by omega)
  have A4 : IntKind.i64.wrap (x % 256 * 2) = x % 256 * 2 := IntWalk.i64_in _ (by omega)
  go_enter Tryd.func30, Tryd.ntmps30
  go_wp2_with (first | (go_at_call 42; refine (widthOf_t _ W).mono ?_; rintro e w1 ⟨rfl, hb⟩))
  have hB := box_put 255 128 w w1 hb
  generalize hw2 : w1.alloc (.cells #[.int .i64 255, .int .i64 128] 50) = w2 at hB ⊢
  have hz : w.heap.size ≤ w1.heap.size := hb.size
  clear hw2
  generalize w1.heap.size = B1 at *
  clear hb
  obtain ⟨h0, h1, h2, h3⟩ := hB
  go_wp2
  refine region_class (fun w' => w'.cell? ⟨B1, 0, none⟩ = some (.int .i64 255) ∧ w'.cell? ⟨B1, 1, none⟩ = some (.int .i64 128) ∧ B1 < w'.heap.size ∧ Below w.heap.size w w') (by kernel_rfl) (by kernel_rfl) ⟨h0, h1, h2, h3.drew⟩ ?_
  repeat
    first
      | (refine BigFrame.wpQuiet_skip (by rfl) ?_
         simp only [Act.put, List.setIfInBounds_toArray, List.set_cons_zero, List.set_cons_succ])
      | (refine BigFrame.wpQuiet_want (by rfl) (fun K hK => ?_)
         apply Exists.intro
         refine ⟨fun wq hq => ?_, hK _ ?_⟩
         · obtain ⟨c0, c1, c2, c3⟩ := hq
           unfold Oper.quietAt
           go_simp
           first
             | with_reducible rfl
             | ((go_at_call 43); exact (negb_any _ _).mono (fun e w' ⟨he, hb⟩ => ⟨he, box_step ⟨c0, c1, c2, c3⟩ (by assumption) hb⟩))
             | ((go_at_call 44); exact (flb_any _ _).mono (fun e w' ⟨he, hb⟩ => ⟨he, box_step ⟨c0, c1, c2, c3⟩ (by assumption) hb⟩))
             | ((go_at_call 45); exact (when_any _ _ _).mono (fun e w' ⟨he, hw⟩ => ⟨he, hw ▸ ⟨c0, c1, c2, c3⟩⟩))
         clear hK K
         simp only [Act.put, List.setIfInBounds_toArray, List.set_cons_zero, List.set_cons_succ])
  refine wpQuiet_nil ?_
  intro w4 hS
  obtain ⟨h0, h1, h2, h3⟩ := hS
  go_wp2
  refine region_class (fun w' => w'.cell? ⟨B1, 0, none⟩ = some (.int .i64 255) ∧ w'.cell? ⟨B1, 1, none⟩ = some (.int .i64 128) ∧ B1 < w'.heap.size ∧ Below w.heap.size w w') (by kernel_rfl) (by kernel_rfl) ⟨h0, h1, h2, h3.drew⟩ ?_
  repeat
    first
      | (refine BigFrame.wpQuiet_skip (by rfl) ?_
         simp only [Act.put, List.setIfInBounds_toArray, List.set_cons_zero, List.set_cons_succ])
      | (refine BigFrame.wpQuiet_want (by rfl) (fun K hK => ?_)
         apply Exists.intro
         refine ⟨fun wq hq => ?_, hK _ ?_⟩
         · obtain ⟨c0, c1, c2, c3⟩ := hq
           unfold Oper.quietAt
           go_simp
           first
             | with_reducible rfl
             | ((go_at_call 43); exact (negb_any _ _).mono (fun e w' ⟨he, hb⟩ => ⟨he, box_step ⟨c0, c1, c2, c3⟩ (by assumption) hb⟩))
             | ((go_at_call 44); exact (flb_any _ _).mono (fun e w' ⟨he, hb⟩ => ⟨he, box_step ⟨c0, c1, c2, c3⟩ (by assumption) hb⟩))
             | ((go_at_call 45); exact (when_any _ _ _).mono (fun e w' ⟨he, hw⟩ => ⟨he, hw ▸ ⟨c0, c1, c2, c3⟩⟩))
         clear hK K
         simp only [Act.put, List.setIfInBounds_toArray, List.set_cons_zero, List.set_cons_succ])
  refine wpQuiet_nil ?_
  intro w4 hS
  obtain ⟨h0, h1, h2, h3⟩ := hS
  go_wp2
  go_ret2
  exact ⟨ret_pair' rfl rfl, h3⟩

set_option maxHeartbeats 1000000 in
theorem Rotate_rw (x c : Int) (w : World) (W : Wid w) :
    Calls Tryd.prog 30 #[.int .i64 x, .int .i64 c, .bool false, .bool false] w fun e w' =>
      e = .returned (.tuple #[.int .i64 (x % 65536 / 2 + c % 2 * 32768), .int .i64 (bits .or .i64 (bits .or .i64 (cod (neg false (x % 65536 / 2 + c % 2 * 32768)) (zer false (x % 65536 / 2 + c % 2 * 32768)) false false) (whn 2 (!(neg false (x % 65536 / 2 + c % 2 * 32768) == (x % 2 != 0))))) (whn 1 (x % 2 != 0)))]) ∧ Below w.heap.size w w' := by
  have A1 := and_65535
  have A2 := and_1
  have A3 : bits .or .i64 (x % 65536 / 2) (c % 2 * 32768) = x % 65536 / 2 + c % 2 * 32768 := or_high 15 (by decide) (x % 65536 / 2) (c % 2) (by omega) (by omega) (by omega) (by omega)
  go_enter Tryd.func30, Tryd.ntmps30
  go_wp2_with (first | (go_at_call 42; refine (widthOf_f _ W).mono ?_; rintro e w1 ⟨rfl, hb⟩))
  have hB := box_put 65535 32768 w w1 hb
  generalize hw2 : w1.alloc (.cells #[.int .i64 65535, .int .i64 32768] 50) = w2 at hB ⊢
  have hz : w.heap.size ≤ w1.heap.size := hb.size
  clear hw2
  generalize w1.heap.size = B1 at *
  clear hb
  obtain ⟨h0, h1, h2, h3⟩ := hB
  go_wp2
  refine region_class (fun w' => w'.cell? ⟨B1, 0, none⟩ = some (.int .i64 65535) ∧ w'.cell? ⟨B1, 1, none⟩ = some (.int .i64 32768) ∧ B1 < w'.heap.size ∧ Below w.heap.size w w') (by kernel_rfl) (by kernel_rfl) ⟨h0, h1, h2, h3.drew⟩ ?_
  repeat
    first
      | (refine BigFrame.wpQuiet_skip (by rfl) ?_
         simp only [Act.put, List.setIfInBounds_toArray, List.set_cons_zero, List.set_cons_succ])
      | (refine BigFrame.wpQuiet_want (by rfl) (fun K hK => ?_)
         apply Exists.intro
         refine ⟨fun wq hq => ?_, hK _ ?_⟩
         · obtain ⟨c0, c1, c2, c3⟩ := hq
           unfold Oper.quietAt
           go_simp
           first
             | with_reducible rfl
             | ((go_at_call 43); exact (negw_any _ _).mono (fun e w' ⟨he, hb⟩ => ⟨he, box_step ⟨c0, c1, c2, c3⟩ (by assumption) hb⟩))
             | ((go_at_call 44); exact (flw_any _ _).mono (fun e w' ⟨he, hb⟩ => ⟨he, box_step ⟨c0, c1, c2, c3⟩ (by assumption) hb⟩))
             | ((go_at_call 45); exact (when_any _ _ _).mono (fun e w' ⟨he, hw⟩ => ⟨he, hw ▸ ⟨c0, c1, c2, c3⟩⟩))
         clear hK K
         simp only [Act.put, List.setIfInBounds_toArray, List.set_cons_zero, List.set_cons_succ])
  refine wpQuiet_nil ?_
  intro w4 hS
  obtain ⟨h0, h1, h2, h3⟩ := hS
  go_wp2
  go_ret2
  exact ⟨ret_pair' rfl rfl, h3⟩

set_option maxHeartbeats 1000000 in
theorem Rotate_rb (x c : Int) (w : World) (W : Wid w) :
    Calls Tryd.prog 30 #[.int .i64 x, .int .i64 c, .bool false, .bool true] w fun e w' =>
      e = .returned (.tuple #[.int .i64 (x % 256 / 2 + c % 2 * 128), .int .i64 (bits .or .i64 (bits .or .i64 (cod (neg true (x % 256 / 2 + c % 2 * 128)) (zer true (x % 256 / 2 + c % 2 * 128)) false false) (whn 2 (!(neg true (x % 256 / 2 + c % 2 * 128) == (x % 2 != 0))))) (whn 1 (x % 2 != 0)))]) ∧ Below w.heap.size w w' := by
  have A1 := and_255
  have A2 := and_1
  have A3 : bits .or .i64 (x % 256 / 2) (c % 2 * 128) = x % 256 / 2 + c % 2 * 128 := or_high 7 (by decide) (x % 256 / 2) (c % 2) (by omega) (by omega) (by omega) (by omega)
  go_enter Tryd.func30, Tryd.ntmps30
  go_wp2_with (first | (go_at_call 42; refine (widthOf_t _ W).mono ?_; rintro e w1 ⟨rfl, hb⟩))
  have hB := box_put 255 128 w w1 hb
  generalize hw2 : w1.alloc (.cells #[.int .i64 255, .int .i64 128] 50) = w2 at hB ⊢
  have hz : w.heap.size ≤ w1.heap.size := hb.size
  clear hw2
  generalize w1.heap.size = B1 at *
  clear hb
  obtain ⟨h0, h1, h2, h3⟩ := hB
  go_wp2
  refine region_class (fun w' => w'.cell? ⟨B1, 0, none⟩ = some (.int .i64 255) ∧ w'.cell? ⟨B1, 1, none⟩ = some (.int .i64 128) ∧ B1 < w'.heap.size ∧ Below w.heap.size w w') (by kernel_rfl) (by kernel_rfl) ⟨h0, h1, h2, h3.drew⟩ ?_
  repeat
    first
      | (refine BigFrame.wpQuiet_skip (by rfl) ?_
         simp only [Act.put, List.setIfInBounds_toArray, List.set_cons_zero, List.set_cons_succ])
      | (refine BigFrame.wpQuiet_want (by rfl) (fun K hK => ?_)
         apply Exists.intro
         refine ⟨fun wq hq => ?_, hK _ ?_⟩
         · obtain ⟨c0, c1, c2, c3⟩ := hq
           unfold Oper.quietAt
           go_simp
           first
             | with_reducible rfl
             | ((go_at_call 43); exact (negb_any _ _).mono (fun e w' ⟨he, hb⟩ => ⟨he, box_step ⟨c0, c1, c2, c3⟩ (by assumption) hb⟩))
             | ((go_at_call 44); exact (flb_any _ _).mono (fun e w' ⟨he, hb⟩ => ⟨he, box_step ⟨c0, c1, c2, c3⟩ (by assumption) hb⟩))
             | ((go_at_call 45); exact (when_any _ _ _).mono (fun e w' ⟨he, hw⟩ => ⟨he, hw ▸ ⟨c0, c1, c2, c3⟩⟩))
         clear hK K
         simp only [Act.put, List.setIfInBounds_toArray, List.set_cons_zero, List.set_cons_succ])
  refine wpQuiet_nil ?_
  intro w4 hS
  obtain ⟨h0, h1, h2, h3⟩ := hS
  go_wp2
  go_ret2
  exact ⟨ret_pair' rfl rfl, h3⟩

theorem odd_eq (x : Int) : (x % 2 != 0) = decide (x % 2 = 1) := by
  rw [Bool.eq_iff_iff]
  simp
  omega

theorem Rotate_any (l b : Bool) (x c : Int) (w : World) (W : Wid w) :
    Calls Tryd.prog 30 #[.int .i64 x, .int .i64 c, .bool l, .bool b] w fun e w' => e = .returned (.tuple #[.int .i64 (rotR l b x c), .int .i64 (rotF l b x c)]) ∧ Below w.heap.size w w' := by
  cases l <;> cases b
  · refine (Rotate_rw x c w W).mono fun e w' ⟨he, hb⟩ => ⟨he.trans (ret_pair' ?_ ?_), hb⟩
    · show _ = x % 65536 / 2 + 32768 * (c % 2)
      omega
    · rw [or_vc, odd_eq, show x % 65536 / 2 + c % 2 * 32768 = rotR false false x c from by show _ = x % 65536 / 2 + 32768 * (c % 2); omega]
      rfl
  · refine (Rotate_rb x c w W).mono fun e w' ⟨he, hb⟩ => ⟨he.trans (ret_pair' ?_ ?_), hb⟩
    · show _ = x % 256 / 2 + 128 * (c % 2)
      omega
    · rw [or_vc, odd_eq, show x % 256 / 2 + c % 2 * 128 = rotR false true x c from by show _ = x % 256 / 2 + 128 * (c % 2); omega]
      rfl
  · refine (Rotate_lw x c w W).mono fun e w' ⟨he, hb⟩ => ⟨he.trans (ret_pair' rfl ?_), hb⟩
    rw [or_vc, neg_op_f x]
    rfl
  · refine (Rotate_lb x c w W).mono fun e w' ⟨he, hb⟩ => ⟨he.trans (ret_pair' rfl ?_), hb⟩
    rw [or_vc, neg_op_t x]
    rfl

#print axioms Rotate_any
end Go.Proofs.YtpimdbglmoopcaaDoor
