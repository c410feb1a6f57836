/-
  Walk over Valid of the reference of package inst. Condition: the tables read as the program's text lays them (asked by the boxes alone).
-/
import Derived.Test.YtdbbnkjnmldnpaaGreatDoorInRa
import Derived.Test.YtdbbnkjnmldnpaaGreatDoorInG
namespace Go.Proofs.YtdbbnkjnmldnpaaGreatDoor
open Go.RowKit
set_option linter.unusedSimpArgs false
set_option linter.unusedVariables false
set_option maxHeartbeats 40000000
set_option maxRecDepth 100000
attribute [local irreducible] wpQuiet

theorem leaf5 {o g : Int} (h : o = 9) : (g.tmod 2 == 1) = (decide (o = 9) && decide (g.tmod 2 = 1)) := by rw [decide_eq_true h]; rfl
theorem leaf6 {o p : Int} (h : o = 41 ∨ o = 42) : (p != 0) = (!false && (!false && (!false && (!false && (!false && (!decide (o = 41) && !decide (o = 42) || !decide (p = 0))))))) := by rcases h with rfl | rfl <;> (simp; rfl)

theorem rValid_any (o : Int) (b : Bool) (m r x p q y g n : Int) {A : Addr} {c : Nat} (W0 : World) (W : Frm A c W0) : Calls Tryz.prog 32 #[.agg #[.int .i64 o, .bool b, .int .i64 m, .int .i64 r, .int .i64 x, .int .i64 p, .int .i64 q, .int .i64 y, .int .i64 g, .int .i64 n]] W0 fun e w' => e = .returned (.bool (rvR ⟨o, b, m, r, x, p, q, y, g, n⟩)) ∧ Below W0.heap.size W0 w' := by
  have hX := (St.start W).put [.int .i64 o, .bool b, .int .i64 m, .int .i64 r, .int .i64 x, .int .i64 p, .int .i64 q, .int .i64 y, .int .i64 g, .int .i64 n] 36
  have j1 := fun w => hasbyte_any o w
  have j2 := fun w => hassrc_any o w
  have j3 := fun w => hasdst_any o w
  have j4 := fun w => hasreg_any o w
  have j5 := fun w => least_any o w
  have j6 := fun w => greatest_any o w
  have v1 := fun w => rvalid_any m r x w
  have v2 := fun w => rvalid_any p q y w
  have hR : rvR ⟨o, b, m, r, x, p, q, y, g, n⟩ = (!bad1 o b && (!bad2 o m r x && (!bad3 o p q y && (!bad4 o g n && (!bad5 o g && good6 o p))))) := rfl
  rw [hR]
  clear hR
  obtain ⟨Q1, hQ1⟩ : ∃ Q, Hid (Q = bad1 o b) := ⟨_, rfl⟩
  obtain ⟨Q2, hQ2⟩ : ∃ Q, Hid (Q = bad2 o m r x) := ⟨_, rfl⟩
  obtain ⟨Q3, hQ3⟩ : ∃ Q, Hid (Q = bad3 o p q y) := ⟨_, rfl⟩
  obtain ⟨Q4, hQ4⟩ : ∃ Q, Hid (Q = bad4 o g n) := ⟨_, rfl⟩
  obtain ⟨Q5, hQ5⟩ : ∃ Q, Hid (Q = bad5 o g) := ⟨_, rfl⟩
  obtain ⟨Q6, hQ6⟩ : ∃ Q, Hid (Q = good6 o p) := ⟨_, rfl⟩
  rw [show bad1 o b = Q1 from Eq.symm hQ1, show bad2 o m r x = Q2 from Eq.symm hQ2, show bad3 o p q y = Q3 from Eq.symm hQ3, show bad4 o g n = Q4 from Eq.symm hQ4, show bad5 o g = Q5 from Eq.symm hQ5, show good6 o p = Q6 from Eq.symm hQ6]
  unfold bad1 at hQ1
  unfold bad2 at hQ2
  unfold bad3 at hQ3
  unfold bad4 at hQ4
  unfold bad5 at hQ5
  unfold good6 at hQ6
  generalize hbyR o = HB at *
  generalize hsR o = HS at *
  generalize hdR o = HD at *
  generalize hrgR o = HG at *
  generalize loR o = LO at *
  generalize hiR o = HI at *
  generalize vdR m r x = V1 at *
  generalize vdR p q y = V2 at *
  go_enter Tryz.func32, Tryz.ntmps32
  go_upto_region 1 with fail
  obtain ⟨i0, i1, i2, i3, i4, i5, i6, i7, i8, i9⟩ := hX.ten 0 rfl
  generalize W0.alloc (.cells #[.int .i64 o, .bool b, .int .i64 m, .int .i64 r, .int .i64 x, .int .i64 p, .int .i64 q, .int .i64 y, .int .i64 g, .int .i64 n] 36) = w1 at *
  generalize hBB : W0.heap.size = B at hX i0 i1 i2 i3 i4 i5 i6 i7 i8 i9 ⊢
  go_cut [0, 20] (fun _ s wx => s = .bool Q1 ∧ St A c [(B, [.int .i64 o, .bool b, .int .i64 m, .int .i64 r, .int .i64 x, .int .i64 p, .int .i64 q, .int .i64 y, .int .i64 g, .int .i64 n])] W0 wx)
  case first =>
    clear hQ2 hQ3 hQ4 hQ5 hQ6
    cases HB
    all_goals (cases b)
    all_goals
      go_wp2_with (first | (go_at_call 64; with_reducible refine (j1 _).mono ?_; rintro e w' ⟨rfl, hb⟩; have hX := hX.step hb; obtain ⟨i0, i1, i2, i3, i4, i5, i6, i7, i8, i9⟩ := hX.ten 0 rfl; clear hb))
      all_goals
        go_meet
        have hq := hQ1
        unfold Hid at hq
        refine ⟨congrArg Value.bool ?_, hX⟩
        clear hX hQ1
        clear i0 i1 i2 i3 i4 i5 i6 i7 i8 i9
        subst hq
        try clear j1; try clear j2; try clear j3; try clear j4; try clear j5; try clear j6; try clear v1; try clear v2; try clear W
        first | rfl | (simp; done) | (simp; omega) | (simp [zz]; done) | (simp [zz]; omega) | (unfold Hid at t5; simp [t5]; done) | (unfold Hid at t5; simp [t5]; omega) | exact leaf5 (by assumption) | trace_state
  case rest =>
    obtain ⟨rfl, hX⟩ := hcut
    clear i0 i1 i2 i3 i4 i5 i6 i7 i8 i9
    obtain ⟨i0, i1, i2, i3, i4, i5, i6, i7, i8, i9⟩ := hX.ten 0 rfl
    cases Q1
    case true =>
      go_wp2_with fail
      go_ret
      exact ⟨rfl, by first | exact hX.below | exact hBB ▸ hX.below⟩
    case false =>
      go_upto_region 3 with fail
      go_cut [0, 41] (fun _ s wx => s = .bool Q2 ∧ St A c [(B, [.int .i64 o, .bool b, .int .i64 m, .int .i64 r, .int .i64 x, .int .i64 p, .int .i64 q, .int .i64 y, .int .i64 g, .int .i64 n])] W0 wx)
      case first =>
        clear hQ3 hQ4 hQ5 hQ6
        cases HS
        all_goals (cases V1)
        all_goals
          go_wp2_with (first | (go_at_call 29; with_reducible refine (j2 _).mono ?_; rintro e w' ⟨rfl, hb⟩; have hX := hX.step hb; obtain ⟨i0, i1, i2, i3, i4, i5, i6, i7, i8, i9⟩ := hX.ten 0 rfl; clear hb) | (go_at_call 65; with_reducible refine (v1 _).mono ?_; rintro e w' ⟨rfl, hb⟩; have hX := hX.step hb; obtain ⟨i0, i1, i2, i3, i4, i5, i6, i7, i8, i9⟩ := hX.ten 0 rfl; clear hb))
          all_goals
            go_meet
            have hq := hQ2
            unfold Hid at hq
            refine ⟨congrArg Value.bool ?_, hX⟩
            clear hX hQ2
            clear i0 i1 i2 i3 i4 i5 i6 i7 i8 i9
            subst hq
            try clear j1; try clear j2; try clear j3; try clear j4; try clear j5; try clear j6; try clear v1; try clear v2; try clear W
            first | rfl | (simp; done) | (simp; omega) | (simp [zz]; done) | (simp [zz]; omega) | (unfold Hid at t5; simp [t5]; done) | (unfold Hid at t5; simp [t5]; omega) | exact leaf5 (by assumption) | trace_state
      case rest =>
        obtain ⟨rfl, hX⟩ := hcut
        clear i0 i1 i2 i3 i4 i5 i6 i7 i8 i9
        obtain ⟨i0, i1, i2, i3, i4, i5, i6, i7, i8, i9⟩ := hX.ten 0 rfl
        cases Q2
        case true =>
          go_wp2_with fail
          go_ret
          exact ⟨rfl, by first | exact hX.below | exact hBB ▸ hX.below⟩
        case false =>
          go_upto_region 5 with fail
          go_cut [0, 62] (fun _ s wx => s = .bool Q3 ∧ St A c [(B, [.int .i64 o, .bool b, .int .i64 m, .int .i64 r, .int .i64 x, .int .i64 p, .int .i64 q, .int .i64 y, .int .i64 g, .int .i64 n])] W0 wx)
          case first =>
            clear hQ4 hQ5 hQ6
            cases HD
            all_goals (cases V2)
            all_goals
              go_wp2_with (first | (go_at_call 31; with_reducible refine (j3 _).mono ?_; rintro e w' ⟨rfl, hb⟩; have hX := hX.step hb; obtain ⟨i0, i1, i2, i3, i4, i5, i6, i7, i8, i9⟩ := hX.ten 0 rfl; clear hb) | (go_at_call 65; with_reducible refine (v2 _).mono ?_; rintro e w' ⟨rfl, hb⟩; have hX := hX.step hb; obtain ⟨i0, i1, i2, i3, i4, i5, i6, i7, i8, i9⟩ := hX.ten 0 rfl; clear hb))
              all_goals
                go_meet
                have hq := hQ3
                unfold Hid at hq
                refine ⟨congrArg Value.bool ?_, hX⟩
                clear hX hQ3
                clear i0 i1 i2 i3 i4 i5 i6 i7 i8 i9
                subst hq
                try clear j1; try clear j2; try clear j3; try clear j4; try clear j5; try clear j6; try clear v1; try clear v2; try clear W
                first | rfl | (simp; done) | (simp; omega) | (simp [zz]; done) | (simp [zz]; omega) | (unfold Hid at t5; simp [t5]; done) | (unfold Hid at t5; simp [t5]; omega) | exact leaf5 (by assumption) | trace_state
          case rest =>
            obtain ⟨rfl, hX⟩ := hcut
            clear i0 i1 i2 i3 i4 i5 i6 i7 i8 i9
            obtain ⟨i0, i1, i2, i3, i4, i5, i6, i7, i8, i9⟩ := hX.ten 0 rfl
            cases Q3
            case true =>
              go_wp2_with fail
              go_ret
              exact ⟨rfl, by first | exact hX.below | exact hBB ▸ hX.below⟩
            case false =>
              go_upto_region 7 with fail
              go_cut [0, 97] (fun _ s wx => s = .bool Q4 ∧ St A c [(B, [.int .i64 o, .bool b, .int .i64 m, .int .i64 r, .int .i64 x, .int .i64 p, .int .i64 q, .int .i64 y, .int .i64 g, .int .i64 n])] W0 wx)
              case first =>
                clear hQ5 hQ6
                by_cases t1 : g < 0
                · have t1d : decide (g < 0) = true := decide_eq_true t1
                  refine region_class (fun w' => St A c [(B, [.int .i64 o, .bool b, .int .i64 m, .int .i64 r, .int .i64 x, .int .i64 p, .int .i64 q, .int .i64 y, .int .i64 g, .int .i64 n])] W0 w') (by kernel_rfl) (by kernel_rfl) hX.drew ?_
                  clear hX i0 i1 i2 i3 i4 i5 i6 i7 i8 i9
                  repeat
                    first
                      | (refine BigFrame.wpQuiet_skip (by rfl) ?_
                         simp only [Act.put, List.setIfInBounds_toArray, List.set_cons_zero, List.set_cons_succ])
                      | (refine BigFrame.wpQuiet_want (by rfl) (fun K hK => ?_)
                         apply Exists.intro
                         refine ⟨fun wq hq => ?_, hK _ ?_⟩
                         · obtain ⟨i0, i1, i2, i3, i4, i5, i6, i7, i8, i9⟩ := hq.ten 0 rfl
                           unfold Oper.quietAt
                           go_simp
                           first
                             | with_reducible rfl
                             | ((go_at_call 66); with_reducible refine (j4 _).mono ?_; exact fun e w' ⟨he, hb⟩ => ⟨he, hq.step hb⟩)
                             | ((go_at_call 67); with_reducible refine (j5 _).mono ?_; exact fun e w' ⟨he, hb⟩ => ⟨he, hq.step hb⟩)
                             | ((go_at_call 68); with_reducible refine (j6 _).mono ?_; exact fun e w' ⟨he, hb⟩ => ⟨he, hq.step hb⟩)
                         clear hK K
                         simp only [Act.put, List.setIfInBounds_toArray, List.set_cons_zero, List.set_cons_succ])
                  refine wpQuiet_nil ?_
                  intro w4 hX
                  obtain ⟨i0, i1, i2, i3, i4, i5, i6, i7, i8, i9⟩ := hX.ten 0 rfl
                  go_wp2_with fail
                  go_meet
                  have hq := hQ4
                  unfold Hid at hq
                  refine ⟨congrArg Value.bool ?_, hX⟩
                  clear hX hQ4
                  clear i0 i1 i2 i3 i4 i5 i6 i7 i8 i9
                  subst hq
                  try clear j1; try clear j2; try clear j3; try clear j4; try clear j5; try clear j6; try clear v1; try clear v2; try clear W
                  first | rfl | (simp; done) | (simp; omega) | (simp [zz]; done) | (simp [zz]; omega) | (unfold Hid at t5; simp [t5]; done) | (unfold Hid at t5; simp [t5]; omega) | exact leaf5 (by assumption) | trace_state
                · have t1d : decide (g < 0) = false := decide_eq_false t1
                  by_cases t2 : 7 < g
                  · have t2d : decide (7 < g) = true := decide_eq_true t2
                    refine region_class (fun w' => St A c [(B, [.int .i64 o, .bool b, .int .i64 m, .int .i64 r, .int .i64 x, .int .i64 p, .int .i64 q, .int .i64 y, .int .i64 g, .int .i64 n])] W0 w') (by kernel_rfl) (by kernel_rfl) hX.drew ?_
                    clear hX i0 i1 i2 i3 i4 i5 i6 i7 i8 i9
                    repeat
                      first
                        | (refine BigFrame.wpQuiet_skip (by rfl) ?_
                           simp only [Act.put, List.setIfInBounds_toArray, List.set_cons_zero, List.set_cons_succ])
                        | (refine BigFrame.wpQuiet_want (by rfl) (fun K hK => ?_)
                           apply Exists.intro
                           refine ⟨fun wq hq => ?_, hK _ ?_⟩
                           · obtain ⟨i0, i1, i2, i3, i4, i5, i6, i7, i8, i9⟩ := hq.ten 0 rfl
                             unfold Oper.quietAt
                             go_simp
                             first
                               | with_reducible rfl
                               | ((go_at_call 66); with_reducible refine (j4 _).mono ?_; exact fun e w' ⟨he, hb⟩ => ⟨he, hq.step hb⟩)
                               | ((go_at_call 67); with_reducible refine (j5 _).mono ?_; exact fun e w' ⟨he, hb⟩ => ⟨he, hq.step hb⟩)
                               | ((go_at_call 68); with_reducible refine (j6 _).mono ?_; exact fun e w' ⟨he, hb⟩ => ⟨he, hq.step hb⟩)
                           clear hK K
                           simp only [Act.put, List.setIfInBounds_toArray, List.set_cons_zero, List.set_cons_succ])
                    refine wpQuiet_nil ?_
                    intro w4 hX
                    obtain ⟨i0, i1, i2, i3, i4, i5, i6, i7, i8, i9⟩ := hX.ten 0 rfl
                    go_wp2_with fail
                    go_meet
                    have hq := hQ4
                    unfold Hid at hq
                    refine ⟨congrArg Value.bool ?_, hX⟩
                    clear hX hQ4
                    clear i0 i1 i2 i3 i4 i5 i6 i7 i8 i9
                    subst hq
                    try clear j1; try clear j2; try clear j3; try clear j4; try clear j5; try clear j6; try clear v1; try clear v2; try clear W
                    first | rfl | (simp; done) | (simp; omega) | (simp [zz]; done) | (simp [zz]; omega) | (unfold Hid at t5; simp [t5]; done) | (unfold Hid at t5; simp [t5]; omega) | exact leaf5 (by assumption) | trace_state
                  · have t2d : decide (7 < g) = false := decide_eq_false t2
                    by_cases t5 : g = 0
                    · have t5d : (g != 0) = false := by simp [t5]
                      replace t5 : Hid (g = 0) := t5
                      by_cases t3 : n < LO
                      · have t3d : decide (n < LO) = true := decide_eq_true t3
                        refine region_class (fun w' => St A c [(B, [.int .i64 o, .bool b, .int .i64 m, .int .i64 r, .int .i64 x, .int .i64 p, .int .i64 q, .int .i64 y, .int .i64 g, .int .i64 n])] W0 w') (by kernel_rfl) (by kernel_rfl) hX.drew ?_
                        clear hX i0 i1 i2 i3 i4 i5 i6 i7 i8 i9
                        repeat
                          first
                            | (refine BigFrame.wpQuiet_skip (by rfl) ?_
                               simp only [Act.put, List.setIfInBounds_toArray, List.set_cons_zero, List.set_cons_succ])
                            | (refine BigFrame.wpQuiet_want (by rfl) (fun K hK => ?_)
                               apply Exists.intro
                               refine ⟨fun wq hq => ?_, hK _ ?_⟩
                               · obtain ⟨i0, i1, i2, i3, i4, i5, i6, i7, i8, i9⟩ := hq.ten 0 rfl
                                 unfold Oper.quietAt
                                 go_simp
                                 first
                                   | with_reducible rfl
                                   | ((go_at_call 66); with_reducible refine (j4 _).mono ?_; exact fun e w' ⟨he, hb⟩ => ⟨he, hq.step hb⟩)
                                   | ((go_at_call 67); with_reducible refine (j5 _).mono ?_; exact fun e w' ⟨he, hb⟩ => ⟨he, hq.step hb⟩)
                                   | ((go_at_call 68); with_reducible refine (j6 _).mono ?_; exact fun e w' ⟨he, hb⟩ => ⟨he, hq.step hb⟩)
                               clear hK K
                               simp only [Act.put, List.setIfInBounds_toArray, List.set_cons_zero, List.set_cons_succ])
                        refine wpQuiet_nil ?_
                        intro w4 hX
                        obtain ⟨i0, i1, i2, i3, i4, i5, i6, i7, i8, i9⟩ := hX.ten 0 rfl
                        go_wp2_with fail
                        go_meet
                        have hq := hQ4
                        unfold Hid at hq
                        refine ⟨congrArg Value.bool ?_, hX⟩
                        clear hX hQ4
                        clear i0 i1 i2 i3 i4 i5 i6 i7 i8 i9
                        subst hq
                        try clear j1; try clear j2; try clear j3; try clear j4; try clear j5; try clear j6; try clear v1; try clear v2; try clear W
                        first | rfl | (simp; done) | (simp; omega) | (simp [zz]; done) | (simp [zz]; omega) | (unfold Hid at t5; simp [t5]; done) | (unfold Hid at t5; simp [t5]; omega) | exact leaf5 (by assumption) | trace_state
                      · have t3d : decide (n < LO) = false := decide_eq_false t3
                        by_cases t4 : HI < n
                        · have t4d : decide (HI < n) = true := decide_eq_true t4
                          refine region_class (fun w' => St A c [(B, [.int .i64 o, .bool b, .int .i64 m, .int .i64 r, .int .i64 x, .int .i64 p, .int .i64 q, .int .i64 y, .int .i64 g, .int .i64 n])] W0 w') (by kernel_rfl) (by kernel_rfl) hX.drew ?_
                          clear hX i0 i1 i2 i3 i4 i5 i6 i7 i8 i9
                          repeat
                            first
                              | (refine BigFrame.wpQuiet_skip (by rfl) ?_
                                 simp only [Act.put, List.setIfInBounds_toArray, List.set_cons_zero, List.set_cons_succ])
                              | (refine BigFrame.wpQuiet_want (by rfl) (fun K hK => ?_)
                                 apply Exists.intro
                                 refine ⟨fun wq hq => ?_, hK _ ?_⟩
                                 · obtain ⟨i0, i1, i2, i3, i4, i5, i6, i7, i8, i9⟩ := hq.ten 0 rfl
                                   unfold Oper.quietAt
                                   go_simp
                                   first
                                     | with_reducible rfl
                                     | ((go_at_call 66); with_reducible refine (j4 _).mono ?_; exact fun e w' ⟨he, hb⟩ => ⟨he, hq.step hb⟩)
                                     | ((go_at_call 67); with_reducible refine (j5 _).mono ?_; exact fun e w' ⟨he, hb⟩ => ⟨he, hq.step hb⟩)
                                     | ((go_at_call 68); with_reducible refine (j6 _).mono ?_; exact fun e w' ⟨he, hb⟩ => ⟨he, hq.step hb⟩)
                                 clear hK K
                                 simp only [Act.put, List.setIfInBounds_toArray, List.set_cons_zero, List.set_cons_succ])
                          refine wpQuiet_nil ?_
                          intro w4 hX
                          obtain ⟨i0, i1, i2, i3, i4, i5, i6, i7, i8, i9⟩ := hX.ten 0 rfl
                          go_wp2_with fail
                          go_meet
                          have hq := hQ4
                          unfold Hid at hq
                          refine ⟨congrArg Value.bool ?_, hX⟩
                          clear hX hQ4
                          clear i0 i1 i2 i3 i4 i5 i6 i7 i8 i9
                          subst hq
                          try clear j1; try clear j2; try clear j3; try clear j4; try clear j5; try clear j6; try clear v1; try clear v2; try clear W
                          first | rfl | (simp; done) | (simp; omega) | (simp [zz]; done) | (simp [zz]; omega) | (unfold Hid at t5; simp [t5]; done) | (unfold Hid at t5; simp [t5]; omega) | exact leaf5 (by assumption) | trace_state
                        · have t4d : decide (HI < n) = false := decide_eq_false t4
                          refine region_class (fun w' => St A c [(B, [.int .i64 o, .bool b, .int .i64 m, .int .i64 r, .int .i64 x, .int .i64 p, .int .i64 q, .int .i64 y, .int .i64 g, .int .i64 n])] W0 w') (by kernel_rfl) (by kernel_rfl) hX.drew ?_
                          clear hX i0 i1 i2 i3 i4 i5 i6 i7 i8 i9
                          repeat
                            first
                              | (refine BigFrame.wpQuiet_skip (by rfl) ?_
                                 simp only [Act.put, List.setIfInBounds_toArray, List.set_cons_zero, List.set_cons_succ])
                              | (refine BigFrame.wpQuiet_want (by rfl) (fun K hK => ?_)
                                 apply Exists.intro
                                 refine ⟨fun wq hq => ?_, hK _ ?_⟩
                                 · obtain ⟨i0, i1, i2, i3, i4, i5, i6, i7, i8, i9⟩ := hq.ten 0 rfl
                                   unfold Oper.quietAt
                                   go_simp
                                   first
                                     | with_reducible rfl
                                     | ((go_at_call 66); with_reducible refine (j4 _).mono ?_; exact fun e w' ⟨he, hb⟩ => ⟨he, hq.step hb⟩)
                                     | ((go_at_call 67); with_reducible refine (j5 _).mono ?_; exact fun e w' ⟨he, hb⟩ => ⟨he, hq.step hb⟩)
                                     | ((go_at_call 68); with_reducible refine (j6 _).mono ?_; exact fun e w' ⟨he, hb⟩ => ⟨he, hq.step hb⟩)
                                 clear hK K
                                 simp only [Act.put, List.setIfInBounds_toArray, List.set_cons_zero, List.set_cons_succ])
                          refine wpQuiet_nil ?_
                          intro w4 hX
                          obtain ⟨i0, i1, i2, i3, i4, i5, i6, i7, i8, i9⟩ := hX.ten 0 rfl
                          go_wp2_with fail
                          go_meet
                          have hq := hQ4
                          unfold Hid at hq
                          refine ⟨congrArg Value.bool ?_, hX⟩
                          clear hX hQ4
                          clear i0 i1 i2 i3 i4 i5 i6 i7 i8 i9
                          subst hq
                          try clear j1; try clear j2; try clear j3; try clear j4; try clear j5; try clear j6; try clear v1; try clear v2; try clear W
                          first | rfl | (simp; done) | (simp; omega) | (simp [zz]; done) | (simp [zz]; omega) | (unfold Hid at t5; simp [t5]; done) | (unfold Hid at t5; simp [t5]; omega) | exact leaf5 (by assumption) | trace_state
                    · have t5d : (g != 0) = true := by simpa using t5
                      replace t5 : Hid (¬ g = 0) := t5
                      cases HG
                      · skip
                        refine region_class (fun w' => St A c [(B, [.int .i64 o, .bool b, .int .i64 m, .int .i64 r, .int .i64 x, .int .i64 p, .int .i64 q, .int .i64 y, .int .i64 g, .int .i64 n])] W0 w') (by kernel_rfl) (by kernel_rfl) hX.drew ?_
                        clear hX i0 i1 i2 i3 i4 i5 i6 i7 i8 i9
                        repeat
                          first
                            | (refine BigFrame.wpQuiet_skip (by rfl) ?_
                               simp only [Act.put, List.setIfInBounds_toArray, List.set_cons_zero, List.set_cons_succ])
                            | (refine BigFrame.wpQuiet_want (by rfl) (fun K hK => ?_)
                               apply Exists.intro
                               refine ⟨fun wq hq => ?_, hK _ ?_⟩
                               · obtain ⟨i0, i1, i2, i3, i4, i5, i6, i7, i8, i9⟩ := hq.ten 0 rfl
                                 unfold Oper.quietAt
                                 go_simp
                                 first
                                   | with_reducible rfl
                                   | ((go_at_call 66); with_reducible refine (j4 _).mono ?_; exact fun e w' ⟨he, hb⟩ => ⟨he, hq.step hb⟩)
                                   | ((go_at_call 67); with_reducible refine (j5 _).mono ?_; exact fun e w' ⟨he, hb⟩ => ⟨he, hq.step hb⟩)
                                   | ((go_at_call 68); with_reducible refine (j6 _).mono ?_; exact fun e w' ⟨he, hb⟩ => ⟨he, hq.step hb⟩)
                               clear hK K
                               simp only [Act.put, List.setIfInBounds_toArray, List.set_cons_zero, List.set_cons_succ])
                        refine wpQuiet_nil ?_
                        intro w4 hX
                        obtain ⟨i0, i1, i2, i3, i4, i5, i6, i7, i8, i9⟩ := hX.ten 0 rfl
                        go_wp2_with fail
                        go_meet
                        have hq := hQ4
                        unfold Hid at hq
                        refine ⟨congrArg Value.bool ?_, hX⟩
                        clear hX hQ4
                        clear i0 i1 i2 i3 i4 i5 i6 i7 i8 i9
                        subst hq
                        try clear j1; try clear j2; try clear j3; try clear j4; try clear j5; try clear j6; try clear v1; try clear v2; try clear W
                        first | rfl | (simp; done) | (simp; omega) | (simp [zz]; done) | (simp [zz]; omega) | (unfold Hid at t5; simp [t5]; done) | (unfold Hid at t5; simp [t5]; omega) | exact leaf5 (by assumption) | trace_state
                      · skip
                        by_cases t3 : n < LO
                        · have t3d : decide (n < LO) = true := decide_eq_true t3
                          refine region_class (fun w' => St A c [(B, [.int .i64 o, .bool b, .int .i64 m, .int .i64 r, .int .i64 x, .int .i64 p, .int .i64 q, .int .i64 y, .int .i64 g, .int .i64 n])] W0 w') (by kernel_rfl) (by kernel_rfl) hX.drew ?_
                          clear hX i0 i1 i2 i3 i4 i5 i6 i7 i8 i9
                          repeat
                            first
                              | (refine BigFrame.wpQuiet_skip (by rfl) ?_
                                 simp only [Act.put, List.setIfInBounds_toArray, List.set_cons_zero, List.set_cons_succ])
                              | (refine BigFrame.wpQuiet_want (by rfl) (fun K hK => ?_)
                                 apply Exists.intro
                                 refine ⟨fun wq hq => ?_, hK _ ?_⟩
                                 · obtain ⟨i0, i1, i2, i3, i4, i5, i6, i7, i8, i9⟩ := hq.ten 0 rfl
                                   unfold Oper.quietAt
                                   go_simp
                                   first
                                     | with_reducible rfl
                                     | ((go_at_call 66); with_reducible refine (j4 _).mono ?_; exact fun e w' ⟨he, hb⟩ => ⟨he, hq.step hb⟩)
                                     | ((go_at_call 67); with_reducible refine (j5 _).mono ?_; exact fun e w' ⟨he, hb⟩ => ⟨he, hq.step hb⟩)
                                     | ((go_at_call 68); with_reducible refine (j6 _).mono ?_; exact fun e w' ⟨he, hb⟩ => ⟨he, hq.step hb⟩)
                                 clear hK K
                                 simp only [Act.put, List.setIfInBounds_toArray, List.set_cons_zero, List.set_cons_succ])
                          refine wpQuiet_nil ?_
                          intro w4 hX
                          obtain ⟨i0, i1, i2, i3, i4, i5, i6, i7, i8, i9⟩ := hX.ten 0 rfl
                          go_wp2_with fail
                          go_meet
                          have hq := hQ4
                          unfold Hid at hq
                          refine ⟨congrArg Value.bool ?_, hX⟩
                          clear hX hQ4
                          clear i0 i1 i2 i3 i4 i5 i6 i7 i8 i9
                          subst hq
                          try clear j1; try clear j2; try clear j3; try clear j4; try clear j5; try clear j6; try clear v1; try clear v2; try clear W
                          first | rfl | (simp; done) | (simp; omega) | (simp [zz]; done) | (simp [zz]; omega) | (unfold Hid at t5; simp [t5]; done) | (unfold Hid at t5; simp [t5]; omega) | exact leaf5 (by assumption) | trace_state
                        · have t3d : decide (n < LO) = false := decide_eq_false t3
                          by_cases t4 : HI < n
                          · have t4d : decide (HI < n) = true := decide_eq_true t4
                            refine region_class (fun w' => St A c [(B, [.int .i64 o, .bool b, .int .i64 m, .int .i64 r, .int .i64 x, .int .i64 p, .int .i64 q, .int .i64 y, .int .i64 g, .int .i64 n])] W0 w') (by kernel_rfl) (by kernel_rfl) hX.drew ?_
                            clear hX i0 i1 i2 i3 i4 i5 i6 i7 i8 i9
                            repeat
                              first
                                | (refine BigFrame.wpQuiet_skip (by rfl) ?_
                                   simp only [Act.put, List.setIfInBounds_toArray, List.set_cons_zero, List.set_cons_succ])
                                | (refine BigFrame.wpQuiet_want (by rfl) (fun K hK => ?_)
                                   apply Exists.intro
                                   refine ⟨fun wq hq => ?_, hK _ ?_⟩
                                   · obtain ⟨i0, i1, i2, i3, i4, i5, i6, i7, i8, i9⟩ := hq.ten 0 rfl
                                     unfold Oper.quietAt
                                     go_simp
                                     first
                                       | with_reducible rfl
                                       | ((go_at_call 66); with_reducible refine (j4 _).mono ?_; exact fun e w' ⟨he, hb⟩ => ⟨he, hq.step hb⟩)
                                       | ((go_at_call 67); with_reducible refine (j5 _).mono ?_; exact fun e w' ⟨he, hb⟩ => ⟨he, hq.step hb⟩)
                                       | ((go_at_call 68); with_reducible refine (j6 _).mono ?_; exact fun e w' ⟨he, hb⟩ => ⟨he, hq.step hb⟩)
                                   clear hK K
                                   simp only [Act.put, List.setIfInBounds_toArray, List.set_cons_zero, List.set_cons_succ])
                            refine wpQuiet_nil ?_
                            intro w4 hX
                            obtain ⟨i0, i1, i2, i3, i4, i5, i6, i7, i8, i9⟩ := hX.ten 0 rfl
                            go_wp2_with fail
                            go_meet
                            have hq := hQ4
                            unfold Hid at hq
                            refine ⟨congrArg Value.bool ?_, hX⟩
                            clear hX hQ4
                            clear i0 i1 i2 i3 i4 i5 i6 i7 i8 i9
                            subst hq
                            try clear j1; try clear j2; try clear j3; try clear j4; try clear j5; try clear j6; try clear v1; try clear v2; try clear W
                            first | rfl | (simp; done) | (simp; omega) | (simp [zz]; done) | (simp [zz]; omega) | (unfold Hid at t5; simp [t5]; done) | (unfold Hid at t5; simp [t5]; omega) | exact leaf5 (by assumption) | trace_state
                          · have t4d : decide (HI < n) = false := decide_eq_false t4
                            refine region_class (fun w' => St A c [(B, [.int .i64 o, .bool b, .int .i64 m, .int .i64 r, .int .i64 x, .int .i64 p, .int .i64 q, .int .i64 y, .int .i64 g, .int .i64 n])] W0 w') (by kernel_rfl) (by kernel_rfl) hX.drew ?_
                            clear hX i0 i1 i2 i3 i4 i5 i6 i7 i8 i9
                            repeat
                              first
                                | (refine BigFrame.wpQuiet_skip (by rfl) ?_
                                   simp only [Act.put, List.setIfInBounds_toArray, List.set_cons_zero, List.set_cons_succ])
                                | (refine BigFrame.wpQuiet_want (by rfl) (fun K hK => ?_)
                                   apply Exists.intro
                                   refine ⟨fun wq hq => ?_, hK _ ?_⟩
                                   · obtain ⟨i0, i1, i2, i3, i4, i5, i6, i7, i8, i9⟩ := hq.ten 0 rfl
                                     unfold Oper.quietAt
                                     go_simp
                                     first
                                       | with_reducible rfl
                                       | ((go_at_call 66); with_reducible refine (j4 _).mono ?_; exact fun e w' ⟨he, hb⟩ => ⟨he, hq.step hb⟩)
                                       | ((go_at_call 67); with_reducible refine (j5 _).mono ?_; exact fun e w' ⟨he, hb⟩ => ⟨he, hq.step hb⟩)
                                       | ((go_at_call 68); with_reducible refine (j6 _).mono ?_; exact fun e w' ⟨he, hb⟩ => ⟨he, hq.step hb⟩)
                                   clear hK K
                                   simp only [Act.put, List.setIfInBounds_toArray, List.set_cons_zero, List.set_cons_succ])
                            refine wpQuiet_nil ?_
                            intro w4 hX
                            obtain ⟨i0, i1, i2, i3, i4, i5, i6, i7, i8, i9⟩ := hX.ten 0 rfl
                            go_wp2_with fail
                            go_meet
                            have hq := hQ4
                            unfold Hid at hq
                            refine ⟨congrArg Value.bool ?_, hX⟩
                            clear hX hQ4
                            clear i0 i1 i2 i3 i4 i5 i6 i7 i8 i9
                            subst hq
                            try clear j1; try clear j2; try clear j3; try clear j4; try clear j5; try clear j6; try clear v1; try clear v2; try clear W
                            first | rfl | (simp; done) | (simp; omega) | (simp [zz]; done) | (simp [zz]; omega) | (unfold Hid at t5; simp [t5]; done) | (unfold Hid at t5; simp [t5]; omega) | exact leaf5 (by assumption) | trace_state
              case rest =>
                obtain ⟨rfl, hX⟩ := hcut
                clear i0 i1 i2 i3 i4 i5 i6 i7 i8 i9
                obtain ⟨i0, i1, i2, i3, i4, i5, i6, i7, i8, i9⟩ := hX.ten 0 rfl
                cases Q4
                case true =>
                  go_wp2_with fail
                  go_ret
                  exact ⟨rfl, by first | exact hX.below | exact hBB ▸ hX.below⟩
                case false =>
                  go_upto_region 9 with fail
                  go_cut [0, 106] (fun _ s wx => s = .bool Q5 ∧ St A c [(B, [.int .i64 o, .bool b, .int .i64 m, .int .i64 r, .int .i64 x, .int .i64 p, .int .i64 q, .int .i64 y, .int .i64 g, .int .i64 n])] W0 wx)
                  case first =>
                    clear hQ6
                    go_wp2_with (first | fail)
                    all_goals
                      go_meet
                      have hq := hQ5
                      unfold Hid at hq
                      refine ⟨congrArg Value.bool ?_, hX⟩
                      clear hX hQ5
                      clear i0 i1 i2 i3 i4 i5 i6 i7 i8 i9
                      subst hq
                      try clear j1; try clear j2; try clear j3; try clear j4; try clear j5; try clear j6; try clear v1; try clear v2; try clear W
                      first | rfl | (simp; done) | (simp; omega) | (simp [zz]; done) | (simp [zz]; omega) | (unfold Hid at t5; simp [t5]; done) | (unfold Hid at t5; simp [t5]; omega) | exact leaf5 (by assumption) | trace_state
                  case rest =>
                    obtain ⟨rfl, hX⟩ := hcut
                    clear i0 i1 i2 i3 i4 i5 i6 i7 i8 i9
                    obtain ⟨i0, i1, i2, i3, i4, i5, i6, i7, i8, i9⟩ := hX.ten 0 rfl
                    cases Q5
                    case true =>
                      go_wp2_with fail
                      go_ret
                      exact ⟨rfl, by first | exact hX.below | exact hBB ▸ hX.below⟩
                    case false =>
                      go_upto_region 11 with fail
                      go_wp2_with fail
                      all_goals
                        go_ret
                        refine ⟨ret_bool ?_, by first | exact hX.below | exact hBB ▸ hX.below⟩
                        have hq := hQ6
                        unfold Hid at hq
                        clear hX hQ6
                        clear i0 i1 i2 i3 i4 i5 i6 i7 i8 i9
                        subst hq
                        try clear j1; try clear j2; try clear j3; try clear j4; try clear j5; try clear j6; try clear v1; try clear v2; try clear W
                        first | rfl | (simp; done) | (simp; omega) | exact leaf6 (by omega) | trace_state

end Go.Proofs.YtdbbnkjnmldnpaaGreatDoor
