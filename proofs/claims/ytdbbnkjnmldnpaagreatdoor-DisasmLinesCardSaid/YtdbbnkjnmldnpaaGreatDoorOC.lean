import Derived.Test.YtdbbnkjnmldnpaaGreatDoorOA
/-
  Walks over Step, Valid, Writable, Field and From of package operand and of its reference. No condition.
-/
namespace Go.Proofs.YtdbbnkjnmldnpaaGreatDoor
open Go.RowKit
set_option linter.unusedSimpArgs false
set_option maxHeartbeats 1000000
set_option maxRecDepth 100000
attribute [local irreducible] wpQuiet

theorem rfield_any (m r x : Int) (w : World) : Calls Tryz.prog 96 #[.agg #[.int .i64 m, .int .i64 r, .int .i64 x]] w fun e w' => e = .returned (.int .i64 (fdR m r)) ∧ Below w.heap.size w w' := by
  have hm := fun w => rmode_any m r x w
  have hr := fun w => rreg_any m r x w
  have hX := Bx.put m r x w
  have hM := low_bd m
  have hR := low_bd r
  unfold fdR
  generalize m % 8 = M at *
  generalize r % 8 = R at *
  obtain ⟨hM, hM2⟩ := hM
  obtain ⟨hR, hR2⟩ := hR
  have V : IntKind.i64.wrap (8 * M) = 8 * M := by rw [wrap_i64]; exact IntWalk.wrap64_in _ ⟨by omega, by omega⟩
  have V2 : IntKind.i64.wrap (8 * M + R) = 8 * M + R := by rw [wrap_i64]; exact IntWalk.wrap64_in _ ⟨by omega, by omega⟩
  go_enter Tryz.func96, Tryz.ntmps96
  go_wp2_with fail
  have c0 := hX.c0
  have c1 := hX.c1
  have c2 := hX.c2
  generalize w.alloc (.cells #[.int .i64 m, .int .i64 r, .int .i64 x] 33) = w1 at *
  generalize hBB : w.heap.size = B at hX c0 c1 c2 ⊢
  refine region_class (fun w' => Bx B m r x w w') (by kernel_rfl) (by kernel_rfl) (hX.drew) ?_
  clear hX c0 c1 c2
  repeat
    first
      | (refine BigFrame.wpQuiet_skip (by rfl) ?_
         simp only [Act.put, List.setIfInBounds_toArray, List.set_cons_zero, List.set_cons_succ])
      | (refine BigFrame.wpQuiet_want (by rfl) (fun K hK => ?_)
         apply Exists.intro
         refine ⟨fun wq hq => ?_, hK _ ?_⟩
         · have c0 := hq.c0; have c1 := hq.c1; have c2 := hq.c2
           unfold Oper.quietAt
           go_simp
           first
             | with_reducible rfl
             | ((go_at_call 61); with_reducible refine (hm _).mono ?_; exact fun e w' ⟨he, hb⟩ => ⟨he, hq.step hb⟩)
             | ((go_at_call 62); with_reducible refine (hr _).mono ?_; exact fun e w' ⟨he, hb⟩ => ⟨he, hq.step hb⟩)
         clear hK K
         simp only [Act.put, List.setIfInBounds_toArray, List.set_cons_zero, List.set_cons_succ])
  refine wpQuiet_nil ?_
  intro w4 hX
  go_wp2
  go_ret
  exact ⟨rfl, by first | exact hX.below | exact hBB ▸ hX.below⟩

theorem from_any (n : Int) (w : World) : Calls Tryz.prog 90 #[.int .i64 n] w fun e w' => e = .returned (.agg #[.int .i64 (n / 8 % 8), .int .i64 (n % 8), .int .i64 0]) ∧ Below w.heap.size w w' := by
  have A := a7 (n / 8)
  have B := a7 n
  generalize n / 8 % 8 = M at *
  generalize n % 8 = R at *
  go_enter Tryz.func90, Tryz.ntmps90
  go_wp2
  refine bodyPost_ret (v := .agg #[.int .i64 M, .int .i64 R, .int .i64 0]) (by simp [results, Tryz.results90, go_sem]) rfl ⟨rfl, (Below.refl _ _).alloc (Nat.le_refl _) _⟩

theorem rfrom_any (n : Int) (w : World) : Calls Tryz.prog 57 #[.int .i64 n] w fun e w' => e = .returned (.agg #[.int .i64 (n / 8 % 8), .int .i64 (n % 8), .int .i64 0]) ∧ Below w.heap.size w w' := by
  have A := a63 n
  have hF : 0 ≤ n % 64 ∧ n % 64 ≤ 63 := by omega
  have h1 : n / 8 % 8 = n % 64 / 8 := by omega
  have h2 : n % 8 = n % 64 % 8 := by omega
  rw [h1, h2]
  clear h1 h2
  generalize n % 64 = F at *
  obtain ⟨hF, hF2⟩ := hF
  go_enter Tryz.func57, Tryz.ntmps57
  go_wp2
  refine bodyPost_ret (v := .agg #[.int .i64 (F / 8), .int .i64 (F % 8), .int .i64 0]) (by simp [results, Tryz.results57, go_sem]) rfl ⟨rfl, (Below.refl _ _).alloc (Nat.le_refl _) _⟩

end Go.Proofs.YtdbbnkjnmldnpaaGreatDoor

/-
  Walks over Valid and Writable of package operand and of its reference, and over the chapter's examples. No condition.
-/
namespace Go.Proofs.YtdbbnkjnmldnpaaGreatDoor
open Go.RowKit
set_option linter.unusedSimpArgs false
set_option maxHeartbeats 1000000
set_option maxRecDepth 100000
attribute [local irreducible] wpQuiet
theorem vd_m {m : Int} (r x : Int) (h : m % 8 ≠ m) : vdR m r x = false := by
  unfold vdR; rw [decide_eq_false (by omega)]; rfl
theorem vd_r (m : Int) {r : Int} (x : Int) (h : r % 8 ≠ r) : vdR m r x = false := by
  unfold vdR; rw [decide_eq_false (by omega)]; rfl
theorem vd_in {m r x : Int} (h1 : m % 8 = m) (h2 : r % 8 = r) : vdR m r x = if exR m r = true then decide (0 ≤ x ∧ x ≤ 65535) else decide (x = 0) := by
  unfold vdR; rw [h1, h2, Bool.eq_iff_iff, Bool.and_eq_true, Bool.or_eq_true, decide_eq_true_eq, decide_eq_true_eq]
  have hm := low_bd m
  have hr := low_bd r
  by_cases he : exR m r = true
  · rw [if_pos he, decide_eq_true_eq]; constructor
    · intro h; omega
    · intro h; exact ⟨by omega, Or.inr he⟩
  · rw [if_neg he, decide_eq_true_eq]; constructor
    · intro h; exact h.2.resolve_right he
    · intro h; exact ⟨by omega, Or.inl h⟩
theorem vd_out {m r x : Int} (h : ¬ (0 ≤ m ∧ m ≤ 7 ∧ 0 ≤ r ∧ r ≤ 7 ∧ 0 ≤ x ∧ x ≤ 65535)) : vdR m r x = false := by
  unfold vdR; rw [decide_eq_false h]; rfl
theorem vd_all {m r x : Int} (h : 0 ≤ m ∧ m ≤ 7 ∧ 0 ≤ r ∧ r ≤ 7 ∧ 0 ≤ x ∧ x ≤ 65535) : vdR m r x = (decide (x = 0) || exR (m % 8) (r % 8)) := by
  unfold vdR; rw [decide_eq_true h]; rfl

theorem valid_any (m r x : Int) (w : World) : Calls Tryz.prog 18 #[.agg #[.int .i64 m, .int .i64 r, .int .i64 x]] w fun e w' => e = .returned (.bool (vdR m r x)) ∧ Below w.heap.size w w' := by
  have hm := fun w => mode_any m r x w
  have hr := fun w => reg_any m r x w
  have he := fun w => ext_any m r x w
  have hX := Bx.put m r x w
  by_cases h1 : m % 8 = m
  · by_cases h2 : r % 8 = r
    · rw [vd_in h1 h2]
      rw [h1, h2] at he
      rw [h1] at hm
      rw [h2] at hr
      clear h1 h2
      generalize exR m r = E at *
      cases E
      · simp only [Bool.false_eq_true, if_false]
        go_enter Tryz.func18, Tryz.ntmps18
        go_wp2_with fail
        have c0 := hX.c0
        have c1 := hX.c1
        have c2 := hX.c2
        generalize w.alloc (.cells #[.int .i64 m, .int .i64 r, .int .i64 x] 33) = w1 at *
        generalize hBB : w.heap.size = B at hX c0 c1 c2 ⊢
        refine region_class (fun w' => Bx B m r x w w') (by kernel_rfl) (by kernel_rfl) (hX.drew) ?_
        clear hX c0 c1 c2
        repeat
          first
            | (refine BigFrame.wpQuiet_skip (by rfl) ?_
               simp only [Act.put, List.setIfInBounds_toArray, List.set_cons_zero, List.set_cons_succ])
            | (refine BigFrame.wpQuiet_want (by rfl) (fun K hK => ?_)
               apply Exists.intro
               refine ⟨fun wq hq => ?_, hK _ ?_⟩
               · have c0 := hq.c0; have c1 := hq.c1; have c2 := hq.c2
                 unfold Oper.quietAt
                 go_simp
                 first
                   | with_reducible rfl
                   | ((go_at_call 39); with_reducible refine (hm _).mono ?_; exact fun e w' ⟨he, hb⟩ => ⟨he, hq.step hb⟩)
                   | ((go_at_call 40); with_reducible refine (hr _).mono ?_; exact fun e w' ⟨he, hb⟩ => ⟨he, hq.step hb⟩)
               clear hK K
               simp only [Act.put, List.setIfInBounds_toArray, List.set_cons_zero, List.set_cons_succ])
        refine wpQuiet_nil ?_
        intro w4 hX
        have c0 := hX.c0
        have c1 := hX.c1
        have c2 := hX.c2
        go_wp2_with (first | (go_at_call 41; with_reducible refine (he _).mono ?_; rintro e w' ⟨rfl, hb⟩; have hX := hX.step hb; have c0 := hX.c0; have c1 := hX.c1; have c2 := hX.c2; clear hb))
        go_ret
        exact ⟨ret_bool (by rw [Bool.eq_iff_iff]; simp), by first | exact hX.below | exact hBB ▸ hX.below⟩
      · simp only [if_true]
        by_cases x0 : 0 ≤ x
        · by_cases x1 : x ≤ 65535
          · rw [decide_eq_true ⟨x0, x1⟩]
            go_enter Tryz.func18, Tryz.ntmps18
            go_wp2_with fail
            have c0 := hX.c0
            have c1 := hX.c1
            have c2 := hX.c2
            generalize w.alloc (.cells #[.int .i64 m, .int .i64 r, .int .i64 x] 33) = w1 at *
            generalize hBB : w.heap.size = B at hX c0 c1 c2 ⊢
            refine region_class (fun w' => Bx B m r x w w') (by kernel_rfl) (by kernel_rfl) (hX.drew) ?_
            clear hX c0 c1 c2
            repeat
              first
                | (refine BigFrame.wpQuiet_skip (by rfl) ?_
                   simp only [Act.put, List.setIfInBounds_toArray, List.set_cons_zero, List.set_cons_succ])
                | (refine BigFrame.wpQuiet_want (by rfl) (fun K hK => ?_)
                   apply Exists.intro
                   refine ⟨fun wq hq => ?_, hK _ ?_⟩
                   · have c0 := hq.c0; have c1 := hq.c1; have c2 := hq.c2
                     unfold Oper.quietAt
                     go_simp
                     first
                       | with_reducible rfl
                       | ((go_at_call 39); with_reducible refine (hm _).mono ?_; exact fun e w' ⟨he, hb⟩ => ⟨he, hq.step hb⟩)
                       | ((go_at_call 40); with_reducible refine (hr _).mono ?_; exact fun e w' ⟨he, hb⟩ => ⟨he, hq.step hb⟩)
                   clear hK K
                   simp only [Act.put, List.setIfInBounds_toArray, List.set_cons_zero, List.set_cons_succ])
            refine wpQuiet_nil ?_
            intro w4 hX
            have c0 := hX.c0
            have c1 := hX.c1
            have c2 := hX.c2
            go_wp2_with (first | (go_at_call 41; with_reducible refine (he _).mono ?_; rintro e w' ⟨rfl, hb⟩; have hX := hX.step hb; have c0 := hX.c0; have c1 := hX.c1; have c2 := hX.c2; clear hb))
            go_ret
            exact ⟨rfl, by first | exact hX.below | exact hBB ▸ hX.below⟩
          · rw [decide_eq_false (by omega)]
            have x2 : decide (x ≤ 65535) = false := decide_eq_false x1
            go_enter Tryz.func18, Tryz.ntmps18
            go_wp2_with fail
            have c0 := hX.c0
            have c1 := hX.c1
            have c2 := hX.c2
            generalize w.alloc (.cells #[.int .i64 m, .int .i64 r, .int .i64 x] 33) = w1 at *
            generalize hBB : w.heap.size = B at hX c0 c1 c2 ⊢
            refine region_class (fun w' => Bx B m r x w w') (by kernel_rfl) (by kernel_rfl) (hX.drew) ?_
            clear hX c0 c1 c2
            repeat
              first
                | (refine BigFrame.wpQuiet_skip (by rfl) ?_
                   simp only [Act.put, List.setIfInBounds_toArray, List.set_cons_zero, List.set_cons_succ])
                | (refine BigFrame.wpQuiet_want (by rfl) (fun K hK => ?_)
                   apply Exists.intro
                   refine ⟨fun wq hq => ?_, hK _ ?_⟩
                   · have c0 := hq.c0; have c1 := hq.c1; have c2 := hq.c2
                     unfold Oper.quietAt
                     go_simp
                     first
                       | with_reducible rfl
                       | ((go_at_call 39); with_reducible refine (hm _).mono ?_; exact fun e w' ⟨he, hb⟩ => ⟨he, hq.step hb⟩)
                       | ((go_at_call 40); with_reducible refine (hr _).mono ?_; exact fun e w' ⟨he, hb⟩ => ⟨he, hq.step hb⟩)
                   clear hK K
                   simp only [Act.put, List.setIfInBounds_toArray, List.set_cons_zero, List.set_cons_succ])
            refine wpQuiet_nil ?_
            intro w4 hX
            have c0 := hX.c0
            have c1 := hX.c1
            have c2 := hX.c2
            go_wp2_with (first | (go_at_call 41; with_reducible refine (he _).mono ?_; rintro e w' ⟨rfl, hb⟩; have hX := hX.step hb; have c0 := hX.c0; have c1 := hX.c1; have c2 := hX.c2; clear hb))
            go_ret
            exact ⟨rfl, by first | exact hX.below | exact hBB ▸ hX.below⟩
        · rw [decide_eq_false (by omega)]
          go_enter Tryz.func18, Tryz.ntmps18
          go_wp2_with fail
          have c0 := hX.c0
          have c1 := hX.c1
          have c2 := hX.c2
          generalize w.alloc (.cells #[.int .i64 m, .int .i64 r, .int .i64 x] 33) = w1 at *
          generalize hBB : w.heap.size = B at hX c0 c1 c2 ⊢
          refine region_class (fun w' => Bx B m r x w w') (by kernel_rfl) (by kernel_rfl) (hX.drew) ?_
          clear hX c0 c1 c2
          repeat
            first
              | (refine BigFrame.wpQuiet_skip (by rfl) ?_
                 simp only [Act.put, List.setIfInBounds_toArray, List.set_cons_zero, List.set_cons_succ])
              | (refine BigFrame.wpQuiet_want (by rfl) (fun K hK => ?_)
                 apply Exists.intro
                 refine ⟨fun wq hq => ?_, hK _ ?_⟩
                 · have c0 := hq.c0; have c1 := hq.c1; have c2 := hq.c2
                   unfold Oper.quietAt
                   go_simp
                   first
                     | with_reducible rfl
                     | ((go_at_call 39); with_reducible refine (hm _).mono ?_; exact fun e w' ⟨he, hb⟩ => ⟨he, hq.step hb⟩)
                     | ((go_at_call 40); with_reducible refine (hr _).mono ?_; exact fun e w' ⟨he, hb⟩ => ⟨he, hq.step hb⟩)
                 clear hK K
                 simp only [Act.put, List.setIfInBounds_toArray, List.set_cons_zero, List.set_cons_succ])
          refine wpQuiet_nil ?_
          intro w4 hX
          have c0 := hX.c0
          have c1 := hX.c1
          have c2 := hX.c2
          go_wp2_with (first | (go_at_call 41; with_reducible refine (he _).mono ?_; rintro e w' ⟨rfl, hb⟩; have hX := hX.step hb; have c0 := hX.c0; have c1 := hX.c1; have c2 := hX.c2; clear hb))
          go_ret
          exact ⟨rfl, by first | exact hX.below | exact hBB ▸ hX.below⟩
    · rw [vd_r m x h2]
      rw [h1] at hm
      generalize r % 8 = R at *
      have e2 : (R != r) = true := by simpa using h2
      clear h2
      go_enter Tryz.func18, Tryz.ntmps18
      go_wp2_with fail
      have c0 := hX.c0
      have c1 := hX.c1
      have c2 := hX.c2
      generalize w.alloc (.cells #[.int .i64 m, .int .i64 r, .int .i64 x] 33) = w1 at *
      generalize hBB : w.heap.size = B at hX c0 c1 c2 ⊢
      refine region_class (fun w' => Bx B m r x w w') (by kernel_rfl) (by kernel_rfl) (hX.drew) ?_
      clear hX c0 c1 c2
      repeat
        first
          | (refine BigFrame.wpQuiet_skip (by rfl) ?_
             simp only [Act.put, List.setIfInBounds_toArray, List.set_cons_zero, List.set_cons_succ])
          | (refine BigFrame.wpQuiet_want (by rfl) (fun K hK => ?_)
             apply Exists.intro
             refine ⟨fun wq hq => ?_, hK _ ?_⟩
             · have c0 := hq.c0; have c1 := hq.c1; have c2 := hq.c2
               unfold Oper.quietAt
               go_simp
               first
                 | with_reducible rfl
                 | ((go_at_call 39); with_reducible refine (hm _).mono ?_; exact fun e w' ⟨he, hb⟩ => ⟨he, hq.step hb⟩)
                 | ((go_at_call 40); with_reducible refine (hr _).mono ?_; exact fun e w' ⟨he, hb⟩ => ⟨he, hq.step hb⟩)
             clear hK K
             simp only [Act.put, List.setIfInBounds_toArray, List.set_cons_zero, List.set_cons_succ])
      refine wpQuiet_nil ?_
      intro w4 hX
      go_wp2
      go_ret
      exact ⟨rfl, by first | exact hX.below | exact hBB ▸ hX.below⟩
  · rw [vd_m r x h1]
    generalize m % 8 = M at *
    have e1 : (M != m) = true := by simpa using h1
    clear h1
    go_enter Tryz.func18, Tryz.ntmps18
    go_wp2_with fail
    have c0 := hX.c0
    have c1 := hX.c1
    have c2 := hX.c2
    generalize w.alloc (.cells #[.int .i64 m, .int .i64 r, .int .i64 x] 33) = w1 at *
    generalize hBB : w.heap.size = B at hX c0 c1 c2 ⊢
    refine region_class (fun w' => Bx B m r x w w') (by kernel_rfl) (by kernel_rfl) (hX.drew) ?_
    clear hX c0 c1 c2
    repeat
      first
        | (refine BigFrame.wpQuiet_skip (by rfl) ?_
           simp only [Act.put, List.setIfInBounds_toArray, List.set_cons_zero, List.set_cons_succ])
        | (refine BigFrame.wpQuiet_want (by rfl) (fun K hK => ?_)
           apply Exists.intro
           refine ⟨fun wq hq => ?_, hK _ ?_⟩
           · have c0 := hq.c0; have c1 := hq.c1; have c2 := hq.c2
             unfold Oper.quietAt
             go_simp
             first
               | with_reducible rfl
               | ((go_at_call 39); with_reducible refine (hm _).mono ?_; exact fun e w' ⟨he, hb⟩ => ⟨he, hq.step hb⟩)
               | ((go_at_call 40); with_reducible refine (hr _).mono ?_; exact fun e w' ⟨he, hb⟩ => ⟨he, hq.step hb⟩)
           clear hK K
           simp only [Act.put, List.setIfInBounds_toArray, List.set_cons_zero, List.set_cons_succ])
    refine wpQuiet_nil ?_
    intro w4 hX
    go_wp2
    go_ret
    exact ⟨rfl, by first | exact hX.below | exact hBB ▸ hX.below⟩

theorem rvalid_any (m r x : Int) (w : World) : Calls Tryz.prog 65 #[.agg #[.int .i64 m, .int .i64 r, .int .i64 x]] w fun e w' => e = .returned (.bool (vdR m r x)) ∧ Below w.heap.size w w' := by
  have he := fun w => rext_any m r x w
  have hX := Bx.put m r x w
  by_cases h1 : m < 0
  · rw [vd_out (by omega)]
    go_enter Tryz.func65, Tryz.ntmps65
    go_wp2_with fail
    have c0 := hX.c0
    have c1 := hX.c1
    have c2 := hX.c2
    generalize w.alloc (.cells #[.int .i64 m, .int .i64 r, .int .i64 x] 33) = w1 at *
    generalize hBB : w.heap.size = B at hX c0 c1 c2 ⊢
    go_wp2_with (first | (go_at_call 30; with_reducible refine (he _).mono ?_; rintro e w' ⟨rfl, hb⟩; have hX := hX.step hb; have c0 := hX.c0; have c1 := hX.c1; have c2 := hX.c2; clear hb))
    go_ret
    exact ⟨rfl, by first | exact hX.below | exact hBB ▸ hX.below⟩
  · have g1 := Int.not_lt.1 h1
    clear h1
    by_cases h2 : 7 < m
    · rw [vd_out (by omega)]
      go_enter Tryz.func65, Tryz.ntmps65
      go_wp2_with fail
      have c0 := hX.c0
      have c1 := hX.c1
      have c2 := hX.c2
      generalize w.alloc (.cells #[.int .i64 m, .int .i64 r, .int .i64 x] 33) = w1 at *
      generalize hBB : w.heap.size = B at hX c0 c1 c2 ⊢
      go_wp2_with (first | (go_at_call 30; with_reducible refine (he _).mono ?_; rintro e w' ⟨rfl, hb⟩; have hX := hX.step hb; have c0 := hX.c0; have c1 := hX.c1; have c2 := hX.c2; clear hb))
      go_ret
      exact ⟨rfl, by first | exact hX.below | exact hBB ▸ hX.below⟩
    · have g2 := Int.not_lt.1 h2
      clear h2
      by_cases h3 : r < 0
      · rw [vd_out (by omega)]
        go_enter Tryz.func65, Tryz.ntmps65
        go_wp2_with fail
        have c0 := hX.c0
        have c1 := hX.c1
        have c2 := hX.c2
        generalize w.alloc (.cells #[.int .i64 m, .int .i64 r, .int .i64 x] 33) = w1 at *
        generalize hBB : w.heap.size = B at hX c0 c1 c2 ⊢
        go_wp2_with (first | (go_at_call 30; with_reducible refine (he _).mono ?_; rintro e w' ⟨rfl, hb⟩; have hX := hX.step hb; have c0 := hX.c0; have c1 := hX.c1; have c2 := hX.c2; clear hb))
        go_ret
        exact ⟨rfl, by first | exact hX.below | exact hBB ▸ hX.below⟩
      · have g3 := Int.not_lt.1 h3
        clear h3
        by_cases h4 : 7 < r
        · rw [vd_out (by omega)]
          go_enter Tryz.func65, Tryz.ntmps65
          go_wp2_with fail
          have c0 := hX.c0
          have c1 := hX.c1
          have c2 := hX.c2
          generalize w.alloc (.cells #[.int .i64 m, .int .i64 r, .int .i64 x] 33) = w1 at *
          generalize hBB : w.heap.size = B at hX c0 c1 c2 ⊢
          go_wp2_with (first | (go_at_call 30; with_reducible refine (he _).mono ?_; rintro e w' ⟨rfl, hb⟩; have hX := hX.step hb; have c0 := hX.c0; have c1 := hX.c1; have c2 := hX.c2; clear hb))
          go_ret
          exact ⟨rfl, by first | exact hX.below | exact hBB ▸ hX.below⟩
        · have g4 := Int.not_lt.1 h4
          clear h4
          by_cases h5 : x < 0
          · rw [vd_out (by omega)]
            go_enter Tryz.func65, Tryz.ntmps65
            go_wp2_with fail
            have c0 := hX.c0
            have c1 := hX.c1
            have c2 := hX.c2
            generalize w.alloc (.cells #[.int .i64 m, .int .i64 r, .int .i64 x] 33) = w1 at *
            generalize hBB : w.heap.size = B at hX c0 c1 c2 ⊢
            go_wp2_with (first | (go_at_call 30; with_reducible refine (he _).mono ?_; rintro e w' ⟨rfl, hb⟩; have hX := hX.step hb; have c0 := hX.c0; have c1 := hX.c1; have c2 := hX.c2; clear hb))
            go_ret
            exact ⟨rfl, by first | exact hX.below | exact hBB ▸ hX.below⟩
          · have g5 := Int.not_lt.1 h5
            clear h5
            by_cases h6 : 65535 < x
            · rw [vd_out (by omega)]
              go_enter Tryz.func65, Tryz.ntmps65
              go_wp2_with fail
              have c0 := hX.c0
              have c1 := hX.c1
              have c2 := hX.c2
              generalize w.alloc (.cells #[.int .i64 m, .int .i64 r, .int .i64 x] 33) = w1 at *
              generalize hBB : w.heap.size = B at hX c0 c1 c2 ⊢
              go_wp2_with (first | (go_at_call 30; with_reducible refine (he _).mono ?_; rintro e w' ⟨rfl, hb⟩; have hX := hX.step hb; have c0 := hX.c0; have c1 := hX.c1; have c2 := hX.c2; clear hb))
              go_ret
              exact ⟨rfl, by first | exact hX.below | exact hBB ▸ hX.below⟩
            · have g6 := Int.not_lt.1 h6
              clear h6
              rw [vd_all (by omega)]
              by_cases hx : x = 0
              · rw [decide_eq_true hx]
                simp only [Bool.true_or]
                subst hx
                go_enter Tryz.func65, Tryz.ntmps65
                go_wp2_with fail
                have c0 := hX.c0
                have c1 := hX.c1
                have c2 := hX.c2
                generalize w.alloc (.cells #[.int .i64 m, .int .i64 r, .int .i64 0] 33) = w1 at *
                generalize hBB : w.heap.size = B at hX c0 c1 c2 ⊢
                go_wp2_with (first | (go_at_call 30; with_reducible refine (he _).mono ?_; rintro e w' ⟨rfl, hb⟩; have hX := hX.step hb; have c0 := hX.c0; have c1 := hX.c1; have c2 := hX.c2; clear hb))
                go_ret
                exact ⟨rfl, by first | exact hX.below | exact hBB ▸ hX.below⟩
              · rw [decide_eq_false hx]
                simp only [Bool.false_or]
                have ex : (x == 0) = false := by simpa using hx
                generalize exR (m % 8) (r % 8) = E at *
                cases E
                all_goals
                  go_enter Tryz.func65, Tryz.ntmps65
                  go_wp2_with fail
                  have c0 := hX.c0
                  have c1 := hX.c1
                  have c2 := hX.c2
                  generalize w.alloc (.cells #[.int .i64 m, .int .i64 r, .int .i64 x] 33) = w1 at *
                  generalize hBB : w.heap.size = B at hX c0 c1 c2 ⊢
                  go_wp2_with (first | (go_at_call 30; with_reducible refine (he _).mono ?_; rintro e w' ⟨rfl, hb⟩; have hX := hX.step hb; have c0 := hX.c0; have c1 := hX.c1; have c2 := hX.c2; clear hb))
                  go_ret
                  exact ⟨rfl, by first | exact hX.below | exact hBB ▸ hX.below⟩

end Go.Proofs.YtdbbnkjnmldnpaaGreatDoor
