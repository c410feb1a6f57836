/-
  Walks over the statements OperandValid, OperandFields, OperandSteps, OperandReturns and OperandStacks: whatever the input, they answer true. No condition.
-/
import Derived.Test.YtgppklkaehhokaaOpE
namespace Go.Proofs.Ytgppklkaehhokaa
open Go.RowKit
set_option linter.unusedSimpArgs false
set_option maxHeartbeats 4000000
set_option maxRecDepth 100000
attribute [local irreducible] wpQuiet
theorem Bx.alloc {B : Nat} {m r x : Int} {w0 w : World} (h : Bx B m r x w0 w) (o : Obj) : Bx B m r x w0 (w.alloc o) := h.step ((Below.refl _ _).alloc (Nat.le_refl _) _)
theorem Bx.more {B : Nat} {m r x : Int} {w0 w : World} (h : Bx B m r x w0 w) (m' r' x' : Int) : Bx w.heap.size m' r' x' w0 (w.alloc (.cells #[.int .i64 m', .int .i64 r', .int .i64 x'] 23)) :=
  ⟨by simp, by simp, by simp, by simp, h.below.alloc h.below.size _⟩

theorem valid_law (m r x : Int) (w : World) : Calls Try.prog 3 #[.agg #[.int .i64 m, .int .i64 r, .int .i64 x]] w fun e w' => e = .returned (.bool true) ∧ Below w.heap.size w w' := by
  have k1 := fun w => valid_any m r x w
  have k2 := fun w => rvalid_any m r x w
  have k3 := fun w => writable_any m r x w
  have k4 := fun w => rwritable_any m r x w
  have hX := Bx.put m r x w
  generalize vdR m r x = V at *
  generalize wrR m r x = W at *
  cases V <;> cases W
  all_goals
    go_enter Try.func3, Try.ntmps3
    go_wp2_with fail
    have c0 := hX.c0
    have c1 := hX.c1
    have c2 := hX.c2
    generalize w.alloc (.cells #[.int .i64 m, .int .i64 r, .int .i64 x] 23) = w1 at *
    generalize hBB : w.heap.size = B at hX c0 c1 c2 ⊢
    refine region_class (fun w' => Bx B m r x w w') (by kernel_rfl) (by kernel_rfl) (hX.drew) ?_
    clear hX c0 c1 c2
    repeat
      first
        | (refine BigFrame.wpQuiet_skip (by rfl) ?_
           simp only [Act.put, List.setIfInBounds_toArray, List.set_cons_zero, List.set_cons_succ])
        | (refine BigFrame.wpQuiet_want (by rfl) (fun K hK => ?_)
           apply Exists.intro
           refine ⟨fun wq hq => ?_, hK _ ?_⟩
           · have c0 := hq.c0; have c1 := hq.c1; have c2 := hq.c2
             unfold Oper.quietAt
             go_simp
             first
               | with_reducible rfl
               | ((go_at_call 8); with_reducible refine (k1 _).mono ?_; exact fun e w' ⟨he, hb⟩ => ⟨he, hq.step hb⟩)
               | ((go_at_call 9); with_reducible refine (k2 _).mono ?_; exact fun e w' ⟨he, hb⟩ => ⟨he, hq.step hb⟩)
               | ((go_at_call 10); with_reducible refine (k3 _).mono ?_; exact fun e w' ⟨he, hb⟩ => ⟨he, hq.step hb⟩)
               | ((go_at_call 11); with_reducible refine (k4 _).mono ?_; exact fun e w' ⟨he, hb⟩ => ⟨he, hq.step hb⟩)
               | ((go_at_call 12); with_reducible refine (alive_any _).mono ?_; exact fun e w' ⟨he, hb⟩ => ⟨he, hq.step hb⟩)
           clear hK K
           simp only [Act.put, List.setIfInBounds_toArray, List.set_cons_zero, List.set_cons_succ])
    refine wpQuiet_nil ?_
    intro w4 hX
    go_wp2
    go_ret
    exact ⟨rfl, by first | exact hX.below | exact hBB ▸ hX.below⟩

theorem fields_law (m r x n : Int) (w : World) : Calls Try.prog 4 #[.agg #[.int .i64 m, .int .i64 r, .int .i64 x], .int .i64 n] w fun e w' => e = .returned (.bool true) ∧ Below w.heap.size w w' := by
  have k1 := fun w => field_any m r x w
  have k2 := fun w => rfield_any m r x w
  have k3 := fun w => from_any n w
  have k4 := fun w => rfrom_any n w
  have hX := Bx.put m r x w
  generalize fdR m r = V at *
  generalize n / 8 % 8 = M at *
  generalize n % 8 = N at *
  go_enter Try.func4, Try.ntmps4
  go_wp2_with fail
  have c0 := hX.c0
  have c1 := hX.c1
  have c2 := hX.c2
  generalize w.alloc (.cells #[.int .i64 m, .int .i64 r, .int .i64 x] 23) = w1 at *
  generalize hBB : w.heap.size = B at hX c0 c1 c2 ⊢
  refine region_class (fun w' => Bx B m r x w w') (by kernel_rfl) (by kernel_rfl) (hX.drew) ?_
  clear hX c0 c1 c2
  repeat
    first
      | (refine BigFrame.wpQuiet_skip (by rfl) ?_
         simp only [Act.put, List.setIfInBounds_toArray, List.set_cons_zero, List.set_cons_succ])
      | (refine BigFrame.wpQuiet_want (by rfl) (fun K hK => ?_)
         apply Exists.intro
         refine ⟨fun wq hq => ?_, hK _ ?_⟩
         · have c0 := hq.c0; have c1 := hq.c1; have c2 := hq.c2
           unfold Oper.quietAt
           go_simp
           first
             | with_reducible rfl
             | ((go_at_call 13); with_reducible refine (k1 _).mono ?_; exact fun e w' ⟨he, hb⟩ => ⟨he, hq.step hb⟩)
             | ((go_at_call 14); with_reducible refine (k2 _).mono ?_; exact fun e w' ⟨he, hb⟩ => ⟨he, hq.step hb⟩)
             | ((go_at_call 15); with_reducible refine (k3 _).mono ?_; exact fun e w' ⟨he, hb⟩ => ⟨he, hq.step hb⟩)
             | ((go_at_call 16); with_reducible refine (k4 _).mono ?_; exact fun e w' ⟨he, hb⟩ => ⟨he, hq.step hb⟩)
             | ((go_at_call 12); with_reducible refine (alive_any _).mono ?_; exact fun e w' ⟨he, hb⟩ => ⟨he, hq.step hb⟩)
         clear hK K
         simp only [Act.put, List.setIfInBounds_toArray, List.set_cons_zero, List.set_cons_succ])
  refine wpQuiet_nil ?_
  intro w4 hX
  go_wp2
  go_ret
  exact ⟨rfl, by first | exact hX.below | exact hBB ▸ hX.below⟩

theorem steps_law (m r x : Int) (b : Bool) (w : World) : Calls Try.prog 5 #[.agg #[.int .i64 m, .int .i64 r, .int .i64 x], .bool b] w fun e w' => e = .returned (.bool true) ∧ Below w.heap.size w w' := by
  have k1 := fun w => ext_any m r x w
  have k2 := fun w => rext_any m r x w
  have k3 := fun w => def_any m r x w
  have k4 := fun w => rdef_any m r x w
  have k5 := fun w => step_any m r x b w
  have k6 := fun w => rstep_any m r x b w
  have hX := Bx.put m r x w
  generalize stR (m % 8) (r % 8) b = S at *
  generalize exR (m % 8) (r % 8) = V at *
  generalize dfR (m % 8) = W at *
  cases V <;> cases W
  all_goals
    go_enter Try.func5, Try.ntmps5
    go_wp2_with fail
    have c0 := hX.c0
    have c1 := hX.c1
    have c2 := hX.c2
    generalize w.alloc (.cells #[.int .i64 m, .int .i64 r, .int .i64 x] 23) = w1 at *
    generalize hBB : w.heap.size = B at hX c0 c1 c2 ⊢
    refine region_class (fun w' => Bx B m r x w w') (by kernel_rfl) (by kernel_rfl) (hX.drew) ?_
    clear hX c0 c1 c2
    repeat
      first
        | (refine BigFrame.wpQuiet_skip (by rfl) ?_
           simp only [Act.put, List.setIfInBounds_toArray, List.set_cons_zero, List.set_cons_succ])
        | (refine BigFrame.wpQuiet_want (by rfl) (fun K hK => ?_)
           apply Exists.intro
           refine ⟨fun wq hq => ?_, hK _ ?_⟩
           · have c0 := hq.c0; have c1 := hq.c1; have c2 := hq.c2
             unfold Oper.quietAt
             go_simp
             first
               | with_reducible rfl
               | ((go_at_call 17); with_reducible refine (k1 _).mono ?_; exact fun e w' ⟨he, hb⟩ => ⟨he, hq.step hb⟩)
               | ((go_at_call 18); with_reducible refine (k2 _).mono ?_; exact fun e w' ⟨he, hb⟩ => ⟨he, hq.step hb⟩)
               | ((go_at_call 19); with_reducible refine (k3 _).mono ?_; exact fun e w' ⟨he, hb⟩ => ⟨he, hq.step hb⟩)
               | ((go_at_call 20); with_reducible refine (k4 _).mono ?_; exact fun e w' ⟨he, hb⟩ => ⟨he, hq.step hb⟩)
               | ((go_at_call 21); with_reducible refine (k5 _).mono ?_; exact fun e w' ⟨he, hb⟩ => ⟨he, hq.step hb⟩)
               | ((go_at_call 22); with_reducible refine (k6 _).mono ?_; exact fun e w' ⟨he, hb⟩ => ⟨he, hq.step hb⟩)
               | ((go_at_call 12); with_reducible refine (alive_any _).mono ?_; exact fun e w' ⟨he, hb⟩ => ⟨he, hq.step hb⟩)
           clear hK K
           simp only [Act.put, List.setIfInBounds_toArray, List.set_cons_zero, List.set_cons_succ])
    refine wpQuiet_nil ?_
    intro w4 hX
    go_wp2
    go_ret
    exact ⟨rfl, by first | exact hX.below | exact hBB ▸ hX.below⟩

theorem stacks_law (m r x : Int) (b : Bool) (w : World) : Calls Try.prog 7 #[.agg #[.int .i64 m, .int .i64 r, .int .i64 x], .bool b] w fun e w' => e = .returned (.bool true) ∧ Below w.heap.size w w' := by
  have k1 := fun w => ext_any m r x w
  have k5 := fun w => step_any m r x b w
  have A := a6 r
  have hX := Bx.put m r x w
  have hS : (exR (m % 8) (r % 8) = true ∧ stR (m % 8) (r % 8) b = 0) ∨ (exR (m % 8) (r % 8) = false ∧ (r / 2 % 4 * 2 = 6 ∧ (stR (m % 8) (r % 8) b = 0 ∨ stR (m % 8) (r % 8) b = 2 ∨ stR (m % 8) (r % 8) b = -2) ∨ r / 2 % 4 * 2 ≠ 6 ∧ -2 ≤ stR (m % 8) (r % 8) b ∧ stR (m % 8) (r % 8) b ≤ 2)) := by
    cases hE : exR (m % 8) (r % 8)
    · refine Or.inr ⟨rfl, ?_⟩
      by_cases h6 : r / 2 % 4 * 2 = 6
      · exact Or.inl ⟨h6, stR_stack b (by omega)⟩
      · exact Or.inr ⟨h6, stR_bd _ _ _⟩
    · exact Or.inl ⟨rfl, stR_ex b hE⟩
  generalize stR (m % 8) (r % 8) b = S at *
  generalize exR (m % 8) (r % 8) = V at *
  generalize r / 2 % 4 * 2 = Q at *
  rcases hS with ⟨rfl, rfl⟩ | ⟨rfl, ⟨rfl, rfl | rfl | rfl⟩ | ⟨h6, h1, h2⟩⟩
  · by_cases h6 : Q = 6
    · subst h6
      go_enter Try.func7, Try.ntmps7
      go_wp2_with fail
      have c0 := hX.c0
      have c1 := hX.c1
      have c2 := hX.c2
      generalize w.alloc (.cells #[.int .i64 m, .int .i64 r, .int .i64 x] 23) = w1 at *
      generalize hBB : w.heap.size = B at hX c0 c1 c2 ⊢
      go_wp2_with (first | (go_at_call 17; with_reducible refine (k1 _).mono ?_; rintro e w' ⟨rfl, hb⟩; have hX := hX.step hb; have c0 := hX.c0; have c1 := hX.c1; have c2 := hX.c2; clear hb) | (go_at_call 21; with_reducible refine (k5 _).mono ?_; rintro e w' ⟨rfl, hb⟩; have hX := hX.step hb; have c0 := hX.c0; have c1 := hX.c1; have c2 := hX.c2; clear hb) | (go_at_call 12; with_reducible refine (alive_any _).mono ?_; rintro e w' ⟨rfl, hb⟩; have hX := hX.step hb; have c0 := hX.c0; have c1 := hX.c1; have c2 := hX.c2; clear hb))
      go_ret
      exact ⟨rfl, by first | exact hX.below | exact hBB ▸ hX.below⟩
    · have e6 : (Q != 6) = true := by simpa using h6
      clear h6
      go_enter Try.func7, Try.ntmps7
      go_wp2_with fail
      have c0 := hX.c0
      have c1 := hX.c1
      have c2 := hX.c2
      generalize w.alloc (.cells #[.int .i64 m, .int .i64 r, .int .i64 x] 23) = w1 at *
      generalize hBB : w.heap.size = B at hX c0 c1 c2 ⊢
      go_wp2_with (first | (go_at_call 17; with_reducible refine (k1 _).mono ?_; rintro e w' ⟨rfl, hb⟩; have hX := hX.step hb; have c0 := hX.c0; have c1 := hX.c1; have c2 := hX.c2; clear hb) | (go_at_call 21; with_reducible refine (k5 _).mono ?_; rintro e w' ⟨rfl, hb⟩; have hX := hX.step hb; have c0 := hX.c0; have c1 := hX.c1; have c2 := hX.c2; clear hb) | (go_at_call 12; with_reducible refine (alive_any _).mono ?_; rintro e w' ⟨rfl, hb⟩; have hX := hX.step hb; have c0 := hX.c0; have c1 := hX.c1; have c2 := hX.c2; clear hb))
      go_ret
      exact ⟨rfl, by first | exact hX.below | exact hBB ▸ hX.below⟩
  · go_enter Try.func7, Try.ntmps7
    go_wp2_with fail
    have c0 := hX.c0
    have c1 := hX.c1
    have c2 := hX.c2
    generalize w.alloc (.cells #[.int .i64 m, .int .i64 r, .int .i64 x] 23) = w1 at *
    generalize hBB : w.heap.size = B at hX c0 c1 c2 ⊢
    go_wp2_with (first | (go_at_call 17; with_reducible refine (k1 _).mono ?_; rintro e w' ⟨rfl, hb⟩; have hX := hX.step hb; have c0 := hX.c0; have c1 := hX.c1; have c2 := hX.c2; clear hb) | (go_at_call 21; with_reducible refine (k5 _).mono ?_; rintro e w' ⟨rfl, hb⟩; have hX := hX.step hb; have c0 := hX.c0; have c1 := hX.c1; have c2 := hX.c2; clear hb) | (go_at_call 12; with_reducible refine (alive_any _).mono ?_; rintro e w' ⟨rfl, hb⟩; have hX := hX.step hb; have c0 := hX.c0; have c1 := hX.c1; have c2 := hX.c2; clear hb))
    go_ret
    exact ⟨rfl, by first | exact hX.below | exact hBB ▸ hX.below⟩
  · go_enter Try.func7, Try.ntmps7
    go_wp2_with fail
    have c0 := hX.c0
    have c1 := hX.c1
    have c2 := hX.c2
    generalize w.alloc (.cells #[.int .i64 m, .int .i64 r, .int .i64 x] 23) = w1 at *
    generalize hBB : w.heap.size = B at hX c0 c1 c2 ⊢
    go_wp2_with (first | (go_at_call 17; with_reducible refine (k1 _).mono ?_; rintro e w' ⟨rfl, hb⟩; have hX := hX.step hb; have c0 := hX.c0; have c1 := hX.c1; have c2 := hX.c2; clear hb) | (go_at_call 21; with_reducible refine (k5 _).mono ?_; rintro e w' ⟨rfl, hb⟩; have hX := hX.step hb; have c0 := hX.c0; have c1 := hX.c1; have c2 := hX.c2; clear hb) | (go_at_call 12; with_reducible refine (alive_any _).mono ?_; rintro e w' ⟨rfl, hb⟩; have hX := hX.step hb; have c0 := hX.c0; have c1 := hX.c1; have c2 := hX.c2; clear hb))
    go_ret
    exact ⟨rfl, by first | exact hX.below | exact hBB ▸ hX.below⟩
  · go_enter Try.func7, Try.ntmps7
    go_wp2_with fail
    have c0 := hX.c0
    have c1 := hX.c1
    have c2 := hX.c2
    generalize w.alloc (.cells #[.int .i64 m, .int .i64 r, .int .i64 x] 23) = w1 at *
    generalize hBB : w.heap.size = B at hX c0 c1 c2 ⊢
    go_wp2_with (first | (go_at_call 17; with_reducible refine (k1 _).mono ?_; rintro e w' ⟨rfl, hb⟩; have hX := hX.step hb; have c0 := hX.c0; have c1 := hX.c1; have c2 := hX.c2; clear hb) | (go_at_call 21; with_reducible refine (k5 _).mono ?_; rintro e w' ⟨rfl, hb⟩; have hX := hX.step hb; have c0 := hX.c0; have c1 := hX.c1; have c2 := hX.c2; clear hb) | (go_at_call 12; with_reducible refine (alive_any _).mono ?_; rintro e w' ⟨rfl, hb⟩; have hX := hX.step hb; have c0 := hX.c0; have c1 := hX.c1; have c2 := hX.c2; clear hb))
    go_ret
    exact ⟨rfl, by first | exact hX.below | exact hBB ▸ hX.below⟩
  · have e6 : (Q != 6) = true := by simpa using h6
    clear h6
    go_enter Try.func7, Try.ntmps7
    go_wp2_with fail
    have c0 := hX.c0
    have c1 := hX.c1
    have c2 := hX.c2
    generalize w.alloc (.cells #[.int .i64 m, .int .i64 r, .int .i64 x] 23) = w1 at *
    generalize hBB : w.heap.size = B at hX c0 c1 c2 ⊢
    go_wp2_with (first | (go_at_call 17; with_reducible refine (k1 _).mono ?_; rintro e w' ⟨rfl, hb⟩; have hX := hX.step hb; have c0 := hX.c0; have c1 := hX.c1; have c2 := hX.c2; clear hb) | (go_at_call 21; with_reducible refine (k5 _).mono ?_; rintro e w' ⟨rfl, hb⟩; have hX := hX.step hb; have c0 := hX.c0; have c1 := hX.c1; have c2 := hX.c2; clear hb) | (go_at_call 12; with_reducible refine (alive_any _).mono ?_; rintro e w' ⟨rfl, hb⟩; have hX := hX.step hb; have c0 := hX.c0; have c1 := hX.c1; have c2 := hX.c2; clear hb))
    go_ret
    exact ⟨rfl, by first | exact hX.below | exact hBB ▸ hX.below⟩

end Go.Proofs.Ytgppklkaehhokaa
