/-
  Walks over Step, Valid, Writable, Field and From of package operand and of its reference. No condition.
-/
import Derived.Test.YtgppklkaehhokaaOpB
namespace Go.Proofs.Ytgppklkaehhokaa
open Go.RowKit
set_option linter.unusedSimpArgs false
set_option maxHeartbeats 1000000
set_option maxRecDepth 100000
attribute [local irreducible] wpQuiet

theorem unit_any (m r x : Int) (b : Bool) (w : World) : Calls Try.prog 27 #[.agg #[.int .i64 m, .int .i64 r, .int .i64 x], .bool b] w fun e w' => e = .returned (.int .i64 (unR (r % 8) b)) ∧ Below w.heap.size w w' := by
  have hr := fun w => reg_any m r x w
  have hX := Bx.put m r x w
  generalize r % 8 = R at *
  by_cases h6 : R = 6
  · subst h6
    cases b
    all_goals
      go_enter Try.func27, Try.ntmps27
      go_wp2_with fail
      have c0 := hX.c0
      have c1 := hX.c1
      have c2 := hX.c2
      generalize w.alloc (.cells #[.int .i64 m, .int .i64 r, .int .i64 x] 23) = w1 at *
      generalize hBB : w.heap.size = B at hX c0 c1 c2 ⊢
      go_wp2_with (first | (go_at_call 24; with_reducible refine (hr _).mono ?_; rintro e w' ⟨rfl, hb⟩; have hX := hX.step hb; have c0 := hX.c0; have c1 := hX.c1; have c2 := hX.c2; clear hb))
      go_ret
      exact ⟨rfl, by first | exact hX.below | exact hBB ▸ hX.below⟩
  · by_cases h7 : R = 7
    · subst h7
      cases b
      all_goals
        go_enter Try.func27, Try.ntmps27
        go_wp2_with fail
        have c0 := hX.c0
        have c1 := hX.c1
        have c2 := hX.c2
        generalize w.alloc (.cells #[.int .i64 m, .int .i64 r, .int .i64 x] 23) = w1 at *
        generalize hBB : w.heap.size = B at hX c0 c1 c2 ⊢
        go_wp2_with (first | (go_at_call 24; with_reducible refine (hr _).mono ?_; rintro e w' ⟨rfl, hb⟩; have hX := hX.step hb; have c0 := hX.c0; have c1 := hX.c1; have c2 := hX.c2; clear hb))
        go_ret
        exact ⟨rfl, by first | exact hX.below | exact hBB ▸ hX.below⟩
    · have e6 : (R != 6) = true := by simpa using h6
      have e7 : (R != 7) = true := by simpa using h7
      have hu : ∀ b, unR R b = if b = true then 1 else 2 := fun b => by unfold unR; simp [h6, h7]
      rw [hu]
      clear hu
      cases b
      all_goals
        go_enter Try.func27, Try.ntmps27
        go_wp2_with fail
        have c0 := hX.c0
        have c1 := hX.c1
        have c2 := hX.c2
        generalize w.alloc (.cells #[.int .i64 m, .int .i64 r, .int .i64 x] 23) = w1 at *
        generalize hBB : w.heap.size = B at hX c0 c1 c2 ⊢
        go_wp2_with (first | (go_at_call 24; with_reducible refine (hr _).mono ?_; rintro e w' ⟨rfl, hb⟩; have hX := hX.step hb; have c0 := hX.c0; have c1 := hX.c1; have c2 := hX.c2; clear hb))
        go_ret
        exact ⟨rfl, by first | exact hX.below | exact hBB ▸ hX.below⟩

theorem step_any (m r x : Int) (b : Bool) (w : World) : Calls Try.prog 21 #[.agg #[.int .i64 m, .int .i64 r, .int .i64 x], .bool b] w fun e w' => e = .returned (.int .i64 (stR (m % 8) (r % 8) b)) ∧ Below w.heap.size w w' := by
  have hm := fun w => mode_any m r x w
  have he := fun w => ext_any m r x w
  have hu := fun w => unit_any m r x b w
  have hM := low_bd m
  have hX := Bx.put m r x w
  unfold stR
  have hU := unR_cases (r % 8) b
  generalize unR (r % 8) b = U at *
  generalize m % 8 = M at *
  generalize exR M (r % 8) = E at *
  cases E
  · rcases low_cases hM with rfl | rfl | rfl | rfl | rfl | rfl | rfl | rfl
    all_goals
      clear hM
      rcases hU with rfl | rfl
    all_goals
      go_enter Try.func21, Try.ntmps21
      go_wp2_with fail
      have c0 := hX.c0
      have c1 := hX.c1
      have c2 := hX.c2
      generalize w.alloc (.cells #[.int .i64 m, .int .i64 r, .int .i64 x] 23) = w1 at *
      generalize hBB : w.heap.size = B at hX c0 c1 c2 ⊢
      go_wp2_with (first | (go_at_call 17; with_reducible refine (he _).mono ?_; rintro e w' ⟨rfl, hb⟩; have hX := hX.step hb; have c0 := hX.c0; have c1 := hX.c1; have c2 := hX.c2; clear hb) | (go_at_call 23; with_reducible refine (hm _).mono ?_; rintro e w' ⟨rfl, hb⟩; have hX := hX.step hb; have c0 := hX.c0; have c1 := hX.c1; have c2 := hX.c2; clear hb) | (go_at_call 27; with_reducible refine (hu _).mono ?_; rintro e w' ⟨rfl, hb⟩; have hX := hX.step hb; have c0 := hX.c0; have c1 := hX.c1; have c2 := hX.c2; clear hb))
      go_ret
      exact ⟨rfl, by first | exact hX.below | exact hBB ▸ hX.below⟩
  · clear hM hU
    go_enter Try.func21, Try.ntmps21
    go_wp2_with fail
    have c0 := hX.c0
    have c1 := hX.c1
    have c2 := hX.c2
    generalize w.alloc (.cells #[.int .i64 m, .int .i64 r, .int .i64 x] 23) = w1 at *
    generalize hBB : w.heap.size = B at hX c0 c1 c2 ⊢
    go_wp2_with (first | (go_at_call 17; with_reducible refine (he _).mono ?_; rintro e w' ⟨rfl, hb⟩; have hX := hX.step hb; have c0 := hX.c0; have c1 := hX.c1; have c2 := hX.c2; clear hb))
    go_ret
    exact ⟨rfl, by first | exact hX.below | exact hBB ▸ hX.below⟩

theorem rstep_any (m r x : Int) (b : Bool) (w : World) : Calls Try.prog 22 #[.agg #[.int .i64 m, .int .i64 r, .int .i64 x], .bool b] w fun e w' => e = .returned (.int .i64 (stR (m % 8) (r % 8) b)) ∧ Below w.heap.size w w' := by
  have hm := fun w => rmode_any m r x w
  have hr := fun w => rreg_any m r x w
  have he := fun w => rext_any m r x w
  have hM := low_bd m
  have hR := low_bd r
  have hX := Bx.put m r x w
  unfold stR
  generalize hE : exR (m % 8) (r % 8) = E at *
  clear hE
  generalize m % 8 = M at *
  generalize r % 8 = R at *
  have hU : unR R b = if b = true ∧ R < 6 then 1 else 2 := by
    unfold unR
    by_cases hb : b = true
    · by_cases h6 : R < 6
      · rw [if_pos ⟨hb, by omega, by omega⟩, if_pos ⟨hb, h6⟩]
      · rw [if_neg (by omega), if_neg (by omega)]
    · rw [if_neg (fun h => hb h.1), if_neg (fun h => hb h.1)]
  rw [hU]
  clear hU
  obtain ⟨hR, hR7⟩ := hR
  cases E
  · rcases low_cases hM with rfl | rfl | rfl | rfl | rfl | rfl | rfl | rfl
    all_goals
      clear hM
      cases b
    all_goals
      by_cases h6 : R < 6
    all_goals
      simp only [h6, and_true, and_false, if_true, if_false, Bool.false_eq_true, false_and, true_and]
      go_enter Try.func22, Try.ntmps22
      go_wp2_with fail
      have c0 := hX.c0
      have c1 := hX.c1
      have c2 := hX.c2
      generalize w.alloc (.cells #[.int .i64 m, .int .i64 r, .int .i64 x] 23) = w1 at *
      generalize hBB : w.heap.size = B at hX c0 c1 c2 ⊢
      go_wp2_with (first | (go_at_call 18; with_reducible refine (he _).mono ?_; rintro e w' ⟨rfl, hb⟩; have hX := hX.step hb; have c0 := hX.c0; have c1 := hX.c1; have c2 := hX.c2; clear hb) | (go_at_call 25; with_reducible refine (hm _).mono ?_; rintro e w' ⟨rfl, hb⟩; have hX := hX.step hb; have c0 := hX.c0; have c1 := hX.c1; have c2 := hX.c2; clear hb) | (go_at_call 26; with_reducible refine (hr _).mono ?_; rintro e w' ⟨rfl, hb⟩; have hX := hX.step hb; have c0 := hX.c0; have c1 := hX.c1; have c2 := hX.c2; clear hb))
      go_ret
      exact ⟨rfl, by first | exact hX.below | exact hBB ▸ hX.below⟩
  · clear hM
    go_enter Try.func22, Try.ntmps22
    go_wp2_with fail
    have c0 := hX.c0
    have c1 := hX.c1
    have c2 := hX.c2
    generalize w.alloc (.cells #[.int .i64 m, .int .i64 r, .int .i64 x] 23) = w1 at *
    generalize hBB : w.heap.size = B at hX c0 c1 c2 ⊢
    go_wp2_with (first | (go_at_call 18; with_reducible refine (he _).mono ?_; rintro e w' ⟨rfl, hb⟩; have hX := hX.step hb; have c0 := hX.c0; have c1 := hX.c1; have c2 := hX.c2; clear hb))
    go_ret
    exact ⟨rfl, by first | exact hX.below | exact hBB ▸ hX.below⟩

theorem field_any (m r x : Int) (w : World) : Calls Try.prog 13 #[.agg #[.int .i64 m, .int .i64 r, .int .i64 x]] w fun e w' => e = .returned (.int .i64 (fdR m r)) ∧ Below w.heap.size w w' := by
  have hm := fun w => mode_any m r x w
  have hr := fun w => reg_any m r x w
  have hX := Bx.put m r x w
  have hM := low_bd m
  have hR := low_bd r
  unfold fdR
  generalize m % 8 = M at *
  generalize r % 8 = R at *
  have A := or_shl hM hR
  obtain ⟨hM, hM2⟩ := hM
  have V : IntKind.i64.wrap (M * 8) = M * 8 := by rw [wrap_i64]; exact IntWalk.wrap64_in _ ⟨by omega, by omega⟩
  obtain ⟨hR, hR2⟩ := hR
  go_enter Try.func13, Try.ntmps13
  go_wp2_with fail
  have c0 := hX.c0
  have c1 := hX.c1
  have c2 := hX.c2
  generalize w.alloc (.cells #[.int .i64 m, .int .i64 r, .int .i64 x] 23) = w1 at *
  generalize hBB : w.heap.size = B at hX c0 c1 c2 ⊢
  refine region_class (fun w' => Bx B m r x w w') (by kernel_rfl) (by kernel_rfl) (hX.drew) ?_
  clear hX c0 c1 c2
  repeat
    first
      | (refine BigFrame.wpQuiet_skip (by rfl) ?_
         simp only [Act.put, List.setIfInBounds_toArray, List.set_cons_zero, List.set_cons_succ])
      | (refine BigFrame.wpQuiet_want (by rfl) (fun K hK => ?_)
         apply Exists.intro
         refine ⟨fun wq hq => ?_, hK _ ?_⟩
         · have c0 := hq.c0; have c1 := hq.c1; have c2 := hq.c2
           unfold Oper.quietAt
           go_simp
           first
             | with_reducible rfl
             | ((go_at_call 23); with_reducible refine (hm _).mono ?_; exact fun e w' ⟨he, hb⟩ => ⟨he, hq.step hb⟩)
             | ((go_at_call 24); with_reducible refine (hr _).mono ?_; exact fun e w' ⟨he, hb⟩ => ⟨he, hq.step hb⟩)
         clear hK K
         simp only [Act.put, List.setIfInBounds_toArray, List.set_cons_zero, List.set_cons_succ])
  refine wpQuiet_nil ?_
  intro w4 hX
  go_wp2
  go_ret
  exact ⟨rfl, by first | exact hX.below | exact hBB ▸ hX.below⟩

theorem rfield_any (m r x : Int) (w : World) : Calls Try.prog 14 #[.agg #[.int .i64 m, .int .i64 r, .int .i64 x]] w fun e w' => e = .returned (.int .i64 (fdR m r)) ∧ Below w.heap.size w w' := by
  have hm := fun w => rmode_any m r x w
  have hr := fun w => rreg_any m r x w
  have hX := Bx.put m r x w
  have hM := low_bd m
  have hR := low_bd r
  unfold fdR
  generalize m % 8 = M at *
  generalize r % 8 = R at *
  obtain ⟨hM, hM2⟩ := hM
  obtain ⟨hR, hR2⟩ := hR
  have V : IntKind.i64.wrap (8 * M) = 8 * M := by rw [wrap_i64]; exact IntWalk.wrap64_in _ ⟨by omega, by omega⟩
  have V2 : IntKind.i64.wrap (8 * M + R) = 8 * M + R := by rw [wrap_i64]; exact IntWalk.wrap64_in _ ⟨by omega, by omega⟩
  go_enter Try.func14, Try.ntmps14
  go_wp2_with fail
  have c0 := hX.c0
  have c1 := hX.c1
  have c2 := hX.c2
  generalize w.alloc (.cells #[.int .i64 m, .int .i64 r, .int .i64 x] 23) = w1 at *
  generalize hBB : w.heap.size = B at hX c0 c1 c2 ⊢
  refine region_class (fun w' => Bx B m r x w w') (by kernel_rfl) (by kernel_rfl) (hX.drew) ?_
  clear hX c0 c1 c2
  repeat
    first
      | (refine BigFrame.wpQuiet_skip (by rfl) ?_
         simp only [Act.put, List.setIfInBounds_toArray, List.set_cons_zero, List.set_cons_succ])
      | (refine BigFrame.wpQuiet_want (by rfl) (fun K hK => ?_)
         apply Exists.intro
         refine ⟨fun wq hq => ?_, hK _ ?_⟩
         · have c0 := hq.c0; have c1 := hq.c1; have c2 := hq.c2
           unfold Oper.quietAt
           go_simp
           first
             | with_reducible rfl
             | ((go_at_call 25); with_reducible refine (hm _).mono ?_; exact fun e w' ⟨he, hb⟩ => ⟨he, hq.step hb⟩)
             | ((go_at_call 26); with_reducible refine (hr _).mono ?_; exact fun e w' ⟨he, hb⟩ => ⟨he, hq.step hb⟩)
         clear hK K
         simp only [Act.put, List.setIfInBounds_toArray, List.set_cons_zero, List.set_cons_succ])
  refine wpQuiet_nil ?_
  intro w4 hX
  go_wp2
  go_ret
  exact ⟨rfl, by first | exact hX.below | exact hBB ▸ hX.below⟩

theorem from_any (n : Int) (w : World) : Calls Try.prog 15 #[.int .i64 n] w fun e w' => e = .returned (.agg #[.int .i64 (n / 8 % 8), .int .i64 (n % 8), .int .i64 0]) ∧ Below w.heap.size w w' := by
  have A := a7 (n / 8)
  have B := a7 n
  generalize n / 8 % 8 = M at *
  generalize n % 8 = R at *
  go_enter Try.func15, Try.ntmps15
  go_wp2
  refine bodyPost_ret (v := .agg #[.int .i64 M, .int .i64 R, .int .i64 0]) (by simp [results, Try.results15, go_sem]) rfl ⟨rfl, (Below.refl _ _).alloc (Nat.le_refl _) _⟩

theorem rfrom_any (n : Int) (w : World) : Calls Try.prog 16 #[.int .i64 n] w fun e w' => e = .returned (.agg #[.int .i64 (n / 8 % 8), .int .i64 (n % 8), .int .i64 0]) ∧ Below w.heap.size w w' := by
  have A := a63 n
  have hF : 0 ≤ n % 64 ∧ n % 64 ≤ 63 := by omega
  have h1 : n / 8 % 8 = n % 64 / 8 := by omega
  have h2 : n % 8 = n % 64 % 8 := by omega
  rw [h1, h2]
  clear h1 h2
  generalize n % 64 = F at *
  obtain ⟨hF, hF2⟩ := hF
  go_enter Try.func16, Try.ntmps16
  go_wp2
  refine bodyPost_ret (v := .agg #[.int .i64 (F / 8), .int .i64 (F % 8), .int .i64 0]) (by simp [results, Try.results16, go_sem]) rfl ⟨rfl, (Below.refl _ _).alloc (Nat.le_refl _) _⟩

end Go.Proofs.Ytgppklkaehhokaa
