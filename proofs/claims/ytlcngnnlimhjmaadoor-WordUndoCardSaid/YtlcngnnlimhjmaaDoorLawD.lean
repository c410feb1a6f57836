/-
  The walk over the statement WordUndo: it returns true, and what lay in memory stays. Condition: the table of widths holds its four numbers.
-/
import Derived.Test.YtlcngnnlimhjmaaDoorLawC
import Derived.Test.YtlcngnnlimhjmaaDoorPlainC
namespace Go.Proofs.YtlcngnnlimhjmaaDoor
open Go.RowKit
set_option maxRecDepth 100000
attribute [local irreducible] wpQuiet

set_option maxHeartbeats 400000 in
theorem sig_any (b : Bool) (n : Int) (w : World) (h : -4611686018427387904 ≤ n ∧ n ≤ 4611686018427387904) :
    Calls Tryd.prog 30 #[.int .i64 n, .bool b] w fun e w' => e = .returned (.int .i64 (sg b n)) ∧ w = w' := by
  have A1 := and_65535
  have A2 := and_255
  obtain ⟨h0, h1⟩ := h
  cases b
  all_goals
    go_enter Tryd.func30, Tryd.ntmps30
    go_wp2
    go_ret
    exact ⟨rfl, rfl⟩

set_option maxHeartbeats 4000000 in
theorem WordUndo_f (a b c : Int) (w : World) (W : Wid w) :
    Calls Tryd.prog 8 #[.agg #[.int .i64 a, .int .i64 b, .int .i64 c, .bool false]] w fun e w' => e = .returned (.bool true) ∧ Below w.heap.size w w' := by
  have A1 := and_65535
  have A2 := and_1
  have P1 := back_f a b c
  have P2 : addR false a b c = (a % 65536 + b % 65536 + c % 2) % 65536 := rfl
  have P3 : subR false a b c = (a % 65536 - b % 65536 - c % 2) % 65536 := rfl
  have P4 := addV_f a b c
  have P5 := subV_f a b c
  have P6 := addC_f a b c
  have P7 := subC_f a b c
  have hx := sg_bd (a % 65536)
  have hy := sg_bd (b % 65536)
  have PX : IntKind.i64.wrap (sg false (a % 65536) + sg false (b % 65536)) = sg false (a % 65536) + sg false (b % 65536) := IntWalk.i64_in _ (by omega)
  have PY : IntKind.i64.wrap (sg false (a % 65536) + sg false (b % 65536) + c % 2) = undX false a b c := IntWalk.i64_in _ (by omega)
  have PZ : IntKind.i64.wrap (sg false (a % 65536) - sg false (b % 65536)) = sg false (a % 65536) - sg false (b % 65536) := IntWalk.i64_in _ (by omega)
  have PW : IntKind.i64.wrap (sg false (a % 65536) - sg false (b % 65536) - c % 2) = undY false a b c := IntWalk.i64_in _ (by omega)
  have hX : -1000000 ≤ undX false a b c ∧ undX false a b c ≤ 1000000 := by show -1000000 ≤ sg false (a % 65536) + sg false (b % 65536) + c % 2 ∧ sg false (a % 65536) + sg false (b % 65536) + c % 2 ≤ 1000000; omega
  have hY : -1000000 ≤ undY false a b c ∧ undY false a b c ≤ 1000000 := by show -1000000 ≤ sg false (a % 65536) - sg false (b % 65536) - c % 2 ∧ sg false (a % 65536) - sg false (b % 65536) - c % 2 ≤ 1000000; omega
  go_enter Tryd.func8, Tryd.ntmps8
  go_wp2_with fail
  have hS := box4_new w a b c false
  have W := W.below ((Below.refl w.heap.size w).alloc (Nat.le_refl _) (.cells #[.int .i64 a, .int .i64 b, .int .i64 c, .bool false] 27))
  have hB := (Below.refl w.heap.size w).alloc (Nat.le_refl _) (.cells #[.int .i64 a, .int .i64 b, .int .i64 c, .bool false] 27)
  generalize w.alloc (.cells #[.int .i64 a, .int .i64 b, .int .i64 c, .bool false] 27) = w2 at hS W hB ⊢
  obtain ⟨B1, hB1⟩ : ∃ B1, w.heap.size = B1 := ⟨_, rfl⟩
  rw [hB1] at hS
  simp only [hB1]
  clear hB1
  have c0 := hS.1
  have c1 := hS.2.1
  have c2 := hS.2.2.1
  have c3 := hS.2.2.2.1
  go_wp2_with (first | (go_at_call 18; refine (Add_any _ _ _ _ _ W).mono ?_; rintro e w' ⟨rfl, hb⟩; have W := W.below hb; have hB := hB.trans (hb.mono hB.size); have hS := box4_step hS hb; have c0 := hS.1; have c1 := hS.2.1; have c2 := hS.2.2.1; have c3 := hS.2.2.2.1; clear hb) | (go_at_call 20; refine (Sub_any _ _ _ _ _ W).mono ?_; rintro e w' ⟨rfl, hb⟩; have W := W.below hb; have hB := hB.trans (hb.mono hB.size); have hS := box4_step hS hb; have c0 := hS.1; have c1 := hS.2.1; have c2 := hS.2.2.1; have c3 := hS.2.2.2.1; clear hb))
  refine region_class (fun w' => Wid w' ∧ Below w.heap.size w w' ∧ w'.cell? ⟨B1, 0, none⟩ = some (.int .i64 a) ∧ w'.cell? ⟨B1, 1, none⟩ = some (.int .i64 b) ∧ w'.cell? ⟨B1, 2, none⟩ = some (.int .i64 c) ∧ w'.cell? ⟨B1, 3, none⟩ = some (.bool false) ∧ B1 < w'.heap.size) (by kernel_rfl) (by kernel_rfl) ⟨W.drew, hB.drew, hS⟩ ?_
  clear hS c0 c1 c2 c3 W hB
  repeat
    first
      | (refine BigFrame.wpQuiet_skip (by rfl) ?_
         simp only [Act.put, List.setIfInBounds_toArray, List.set_cons_zero, List.set_cons_succ])
      | (refine BigFrame.wpQuiet_want (by rfl) (fun K hK => ?_)
         apply Exists.intro
         refine ⟨fun wq hq => ?_, hK _ ?_⟩
         · obtain ⟨_, _, c0, c1, c2, c3, _⟩ := id hq
           unfold Oper.quietAt
           go_simp
           first
             | with_reducible rfl
             | ((go_at_call 30); exact (sig_any _ _ _ (by omega)).mono (fun e w' ⟨he, hw⟩ => ⟨he, hw ▸ hq⟩))
         clear hK K
         simp only [Act.put, List.setIfInBounds_toArray, List.set_cons_zero, List.set_cons_succ])
  refine wpQuiet_nil ?_
  intro w4 hq
  obtain ⟨W, hB, hS⟩ := hq
  have c0 := hS.1
  have c1 := hS.2.1
  have c2 := hS.2.2.1
  have c3 := hS.2.2.2.1
  go_wp2_with fail
  refine region_class (fun w' => Wid w' ∧ Below w.heap.size w w' ∧ w'.cell? ⟨B1, 0, none⟩ = some (.int .i64 a) ∧ w'.cell? ⟨B1, 1, none⟩ = some (.int .i64 b) ∧ w'.cell? ⟨B1, 2, none⟩ = some (.int .i64 c) ∧ w'.cell? ⟨B1, 3, none⟩ = some (.bool false) ∧ B1 < w'.heap.size) (by kernel_rfl) (by kernel_rfl) ⟨W.drew, hB.drew, hS⟩ ?_
  clear hS c0 c1 c2 c3 W hB
  repeat
    first
      | (refine BigFrame.wpQuiet_skip (by rfl) ?_
         simp only [Act.put, List.setIfInBounds_toArray, List.set_cons_zero, List.set_cons_succ])
      | (refine BigFrame.wpQuiet_want (by rfl) (fun K hK => ?_)
         apply Exists.intro
         refine ⟨fun wq hq => ?_, hK _ ?_⟩
         · obtain ⟨_, _, c0, c1, c2, c3, _⟩ := id hq
           unfold Oper.quietAt
           go_simp
           first
             | with_reducible rfl
             | ((go_at_call 30); exact (sig_any _ _ _ (by omega)).mono (fun e w' ⟨he, hw⟩ => ⟨he, hw ▸ hq⟩))
         clear hK K
         simp only [Act.put, List.setIfInBounds_toArray, List.set_cons_zero, List.set_cons_succ])
  refine wpQuiet_nil ?_
  intro w4 hq
  obtain ⟨W, hB, hS⟩ := hq
  have c0 := hS.1
  have c1 := hS.2.1
  have c2 := hS.2.2.1
  have c3 := hS.2.2.2.1
  go_wp2_with (first | (go_at_call 30; refine (sig_any _ _ _ (by omega)).mono ?_; rintro e w' ⟨rfl, rfl⟩) | (go_at_call 17; refine (alive_any _ W).mono ?_; rintro e w' ⟨rfl, hb⟩; have hB := hB.trans (hb.mono hB.size); clear hb))
  go_ret
  exact ⟨rfl, hB⟩

set_option maxHeartbeats 4000000 in
theorem WordUndo_t (a b c : Int) (w : World) (W : Wid w) :
    Calls Tryd.prog 8 #[.agg #[.int .i64 a, .int .i64 b, .int .i64 c, .bool true]] w fun e w' => e = .returned (.bool true) ∧ Below w.heap.size w w' := by
  have A1 := and_255
  have A2 := and_1
  have P1 := back_t a b c
  have P2 : addR true a b c = (a % 256 + b % 256 + c % 2) % 256 := rfl
  have P3 : subR true a b c = (a % 256 - b % 256 - c % 2) % 256 := rfl
  have P4 := addV_t a b c
  have P5 := subV_t a b c
  have P6 := addC_t a b c
  have P7 := subC_t a b c
  have hx := sgb_bd (a % 256)
  have hy := sgb_bd (b % 256)
  have PX : IntKind.i64.wrap (sg true (a % 256) + sg true (b % 256)) = sg true (a % 256) + sg true (b % 256) := IntWalk.i64_in _ (by omega)
  have PY : IntKind.i64.wrap (sg true (a % 256) + sg true (b % 256) + c % 2) = undX true a b c := IntWalk.i64_in _ (by omega)
  have PZ : IntKind.i64.wrap (sg true (a % 256) - sg true (b % 256)) = sg true (a % 256) - sg true (b % 256) := IntWalk.i64_in _ (by omega)
  have PW : IntKind.i64.wrap (sg true (a % 256) - sg true (b % 256) - c % 2) = undY true a b c := IntWalk.i64_in _ (by omega)
  have hX : -1000000 ≤ undX true a b c ∧ undX true a b c ≤ 1000000 := by show -1000000 ≤ sg true (a % 256) + sg true (b % 256) + c % 2 ∧ sg true (a % 256) + sg true (b % 256) + c % 2 ≤ 1000000; omega
  have hY : -1000000 ≤ undY true a b c ∧ undY true a b c ≤ 1000000 := by show -1000000 ≤ sg true (a % 256) - sg true (b % 256) - c % 2 ∧ sg true (a % 256) - sg true (b % 256) - c % 2 ≤ 1000000; omega
  go_enter Tryd.func8, Tryd.ntmps8
  go_wp2_with fail
  have hS := box4_new w a b c true
  have W := W.below ((Below.refl w.heap.size w).alloc (Nat.le_refl _) (.cells #[.int .i64 a, .int .i64 b, .int .i64 c, .bool true] 27))
  have hB := (Below.refl w.heap.size w).alloc (Nat.le_refl _) (.cells #[.int .i64 a, .int .i64 b, .int .i64 c, .bool true] 27)
  generalize w.alloc (.cells #[.int .i64 a, .int .i64 b, .int .i64 c, .bool true] 27) = w2 at hS W hB ⊢
  obtain ⟨B1, hB1⟩ : ∃ B1, w.heap.size = B1 := ⟨_, rfl⟩
  rw [hB1] at hS
  simp only [hB1]
  clear hB1
  have c0 := hS.1
  have c1 := hS.2.1
  have c2 := hS.2.2.1
  have c3 := hS.2.2.2.1
  go_wp2_with (first | (go_at_call 18; refine (Add_any _ _ _ _ _ W).mono ?_; rintro e w' ⟨rfl, hb⟩; have W := W.below hb; have hB := hB.trans (hb.mono hB.size); have hS := box4_step hS hb; have c0 := hS.1; have c1 := hS.2.1; have c2 := hS.2.2.1; have c3 := hS.2.2.2.1; clear hb) | (go_at_call 20; refine (Sub_any _ _ _ _ _ W).mono ?_; rintro e w' ⟨rfl, hb⟩; have W := W.below hb; have hB := hB.trans (hb.mono hB.size); have hS := box4_step hS hb; have c0 := hS.1; have c1 := hS.2.1; have c2 := hS.2.2.1; have c3 := hS.2.2.2.1; clear hb))
  refine region_class (fun w' => Wid w' ∧ Below w.heap.size w w' ∧ w'.cell? ⟨B1, 0, none⟩ = some (.int .i64 a) ∧ w'.cell? ⟨B1, 1, none⟩ = some (.int .i64 b) ∧ w'.cell? ⟨B1, 2, none⟩ = some (.int .i64 c) ∧ w'.cell? ⟨B1, 3, none⟩ = some (.bool true) ∧ B1 < w'.heap.size) (by kernel_rfl) (by kernel_rfl) ⟨W.drew, hB.drew, hS⟩ ?_
  clear hS c0 c1 c2 c3 W hB
  repeat
    first
      | (refine BigFrame.wpQuiet_skip (by rfl) ?_
         simp only [Act.put, List.setIfInBounds_toArray, List.set_cons_zero, List.set_cons_succ])
      | (refine BigFrame.wpQuiet_want (by rfl) (fun K hK => ?_)
         apply Exists.intro
         refine ⟨fun wq hq => ?_, hK _ ?_⟩
         · obtain ⟨_, _, c0, c1, c2, c3, _⟩ := id hq
           unfold Oper.quietAt
           go_simp
           first
             | with_reducible rfl
             | ((go_at_call 30); exact (sig_any _ _ _ (by omega)).mono (fun e w' ⟨he, hw⟩ => ⟨he, hw ▸ hq⟩))
         clear hK K
         simp only [Act.put, List.setIfInBounds_toArray, List.set_cons_zero, List.set_cons_succ])
  refine wpQuiet_nil ?_
  intro w4 hq
  obtain ⟨W, hB, hS⟩ := hq
  have c0 := hS.1
  have c1 := hS.2.1
  have c2 := hS.2.2.1
  have c3 := hS.2.2.2.1
  go_wp2_with fail
  refine region_class (fun w' => Wid w' ∧ Below w.heap.size w w' ∧ w'.cell? ⟨B1, 0, none⟩ = some (.int .i64 a) ∧ w'.cell? ⟨B1, 1, none⟩ = some (.int .i64 b) ∧ w'.cell? ⟨B1, 2, none⟩ = some (.int .i64 c) ∧ w'.cell? ⟨B1, 3, none⟩ = some (.bool true) ∧ B1 < w'.heap.size) (by kernel_rfl) (by kernel_rfl) ⟨W.drew, hB.drew, hS⟩ ?_
  clear hS c0 c1 c2 c3 W hB
  repeat
    first
      | (refine BigFrame.wpQuiet_skip (by rfl) ?_
         simp only [Act.put, List.setIfInBounds_toArray, List.set_cons_zero, List.set_cons_succ])
      | (refine BigFrame.wpQuiet_want (by rfl) (fun K hK => ?_)
         apply Exists.intro
         refine ⟨fun wq hq => ?_, hK _ ?_⟩
         · obtain ⟨_, _, c0, c1, c2, c3, _⟩ := id hq
           unfold Oper.quietAt
           go_simp
           first
             | with_reducible rfl
             | ((go_at_call 30); exact (sig_any _ _ _ (by omega)).mono (fun e w' ⟨he, hw⟩ => ⟨he, hw ▸ hq⟩))
         clear hK K
         simp only [Act.put, List.setIfInBounds_toArray, List.set_cons_zero, List.set_cons_succ])
  refine wpQuiet_nil ?_
  intro w4 hq
  obtain ⟨W, hB, hS⟩ := hq
  have c0 := hS.1
  have c1 := hS.2.1
  have c2 := hS.2.2.1
  have c3 := hS.2.2.2.1
  go_wp2_with (first | (go_at_call 30; refine (sig_any _ _ _ (by omega)).mono ?_; rintro e w' ⟨rfl, rfl⟩) | (go_at_call 17; refine (alive_any _ W).mono ?_; rintro e w' ⟨rfl, hb⟩; have hB := hB.trans (hb.mono hB.size); clear hb))
  go_ret
  exact ⟨rfl, hB⟩

end Go.Proofs.YtlcngnnlimhjmaaDoor
