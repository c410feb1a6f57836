/-
  Walks over the fields of an instruction, held against a form. Condition: the tables read as the program's text lays them.
-/
import Derived.Test.YtdbbnkjnmldnpaaGreatDoorInC
namespace Go.Proofs.YtdbbnkjnmldnpaaGreatDoor
open Go.RowKit
set_option linter.unusedSimpArgs false
set_option linter.unusedVariables false
set_option maxHeartbeats 40000000
set_option maxRecDepth 100000
attribute [local irreducible] wpQuiet

theorem holds_any (f l d a e0 e1 e2 e3 e4 e5 : Int) (h3 : IsM e3) (h4 : 0 ≤ e4 ∧ e4 ≤ 255) (h5 : -128 ≤ e5 ∧ e5 ≤ 0) (o : Int) (b : Bool) (m r x p q y g n : Int) {A : Addr} {c : Nat} (W0 : World) (W : Frm A c W0) :
    Calls Tryz.prog 72 #[.agg #[.int .i64 e0, .int .i64 e1, .int .i64 e2, .int .i64 e3, .int .i64 e4, .int .i64 e5], .agg #[.int .i64 o, .bool b, .int .i64 m, .int .i64 r, .int .i64 x, .int .i64 p, .int .i64 q, .int .i64 y, .int .i64 g, .int .i64 n]] W0 fun e w' => e = .returned (.bool (hoR ⟨f, l, d, a, e0, e1, e2, e3, e4, e5⟩ ⟨o, b, m, r, x, p, q, y, g, n⟩)) ∧ Below W0.heap.size W0 w' := by
  have hH1 := fun w => hoO_any m r x e1 w
  have hH2 := fun w => hoO_any p q y e2 w
  have hT := fun w (k : Frm A c w) => take_any e3 e3 h3 (by rcases h3 with rfl | rfl | rfl | rfl | rfl | rfl | rfl <;> decide) w k
  obtain ⟨h41, h42⟩ := h4
  obtain ⟨h51, h52⟩ := h5
  have V : IntKind.i64.wrap (e5 + e4) = e5 + e4 := by rw [wrap_i64]; exact IntWalk.wrap64_in _ ⟨by omega, by omega⟩
  have hR : hoR ⟨f, l, d, a, e0, e1, e2, e3, e4, e5⟩ ⟨o, b, m, r, x, p, q, y, g, n⟩ = ((!decide (e0 = 0) || !b) && hoO m r x e1 && hoO p q y e2 && decide (0 ≤ g) && decide (g ≤ takeR e3 e3) && decide (e5 ≤ n) && decide (n ≤ e5 + e4)) := rfl
  rw [hR]
  clear hR h3
  generalize hoO m r x e1 = H1 at *
  generalize hoO p q y e2 = H2 at *
  generalize takeR e3 e3 = T at *
  by_cases z : e0 = 0
  · subst z
    cases b
    · have hR : ∀ X1 X2 X3 X4 X5 X6 : Bool, ((!decide ((0 : Int) = 0) || !false) && X1 && X2 && X3 && X4 && X5 && X6) = (X1 && X2 && X3 && X4 && X5 && X6) := fun _ _ _ _ _ _ => by simp
      rw [hR]
      clear hR
      cases H1
      · rw [show ∀ X2 X3 X4 X5 X6 : Bool, (false && X2 && X3 && X4 && X5 && X6) = false from fun _ _ _ _ _ => by simp]
        have hX := St.put2 W [.int .i64 0, .int .i64 e1, .int .i64 e2, .int .i64 e3, .int .i64 e4, .int .i64 e5] [.int .i64 o, .bool false, .int .i64 m, .int .i64 r, .int .i64 x, .int .i64 p, .int .i64 q, .int .i64 y, .int .i64 g, .int .i64 n] 67 36
        go_enter Tryz.func72, Tryz.ntmps72
        go_wp2_with fail
        obtain ⟨i0, i1, i2, i3, i4, i5, i6, i7, i8, i9⟩ := hX.ten 0 rfl; have c0 := hX.c 1 0 rfl rfl; have c1 := hX.c 1 1 rfl rfl; have c2 := hX.c 1 2 rfl rfl; have c3 := hX.c 1 3 rfl rfl; have c4 := hX.c 1 4 rfl rfl; have c5 := hX.c 1 5 rfl rfl
        generalize (W0.alloc (.cells #[.int .i64 0, .int .i64 e1, .int .i64 e2, .int .i64 e3, .int .i64 e4, .int .i64 e5] 67)).alloc (.cells #[.int .i64 o, .bool false, .int .i64 m, .int .i64 r, .int .i64 x, .int .i64 p, .int .i64 q, .int .i64 y, .int .i64 g, .int .i64 n] 36) = w1 at *
        generalize hCC : W0.heap.size + 1 = C at hX i0 i1 i2 i3 i4 i5 i6 i7 i8 i9 c0 c1 c2 c3 c4 c5 ⊢
        generalize hBB : W0.heap.size = B at hX i0 i1 i2 i3 i4 i5 i6 i7 i8 i9 c0 c1 c2 c3 c4 c5 ⊢
        refine region_class (fun w' => St A c [(C, [.int .i64 o, .bool false, .int .i64 m, .int .i64 r, .int .i64 x, .int .i64 p, .int .i64 q, .int .i64 y, .int .i64 g, .int .i64 n]), (B, [.int .i64 0, .int .i64 e1, .int .i64 e2, .int .i64 e3, .int .i64 e4, .int .i64 e5])] W0 w') (by kernel_rfl) (by kernel_rfl) hX.drew ?_
        clear hX i0 i1 i2 i3 i4 i5 i6 i7 i8 i9 c0 c1 c2 c3 c4 c5
        repeat
          first
            | (refine BigFrame.wpQuiet_skip (by rfl) ?_
               simp only [Act.put, List.setIfInBounds_toArray, List.set_cons_zero, List.set_cons_succ])
            | (refine BigFrame.wpQuiet_want (by rfl) (fun K hK => ?_)
               apply Exists.intro
               refine ⟨fun wq hq => ?_, hK _ ?_⟩
               · obtain ⟨i0, i1, i2, i3, i4, i5, i6, i7, i8, i9⟩ := hq.ten 0 rfl; have c0 := hq.c 1 0 rfl rfl; have c1 := hq.c 1 1 rfl rfl; have c2 := hq.c 1 2 rfl rfl; have c3 := hq.c 1 3 rfl rfl; have c4 := hq.c 1 4 rfl rfl; have c5 := hq.c 1 5 rfl rfl
                 unfold Oper.quietAt
                 go_simp
                 first
                   | with_reducible rfl
                   | ((go_at_call 85); with_reducible refine (hH1 _).mono ?_; exact fun e w' ⟨he, hb⟩ => ⟨he, hq.step hb⟩)
                   | ((go_at_call 85); with_reducible refine (hH2 _).mono ?_; exact fun e w' ⟨he, hb⟩ => ⟨he, hq.step hb⟩)
                   | ((go_at_call 86); with_reducible refine (hT _ hq.frm).mono ?_; exact fun e w' ⟨he, hb⟩ => ⟨he, hq.step hb⟩)
               clear hK K
               simp only [Act.put, List.setIfInBounds_toArray, List.set_cons_zero, List.set_cons_succ])
        refine wpQuiet_nil ?_
        intro w4 hX
        obtain ⟨i0, i1, i2, i3, i4, i5, i6, i7, i8, i9⟩ := hX.ten 0 rfl; have c0 := hX.c 1 0 rfl rfl; have c1 := hX.c 1 1 rfl rfl; have c2 := hX.c 1 2 rfl rfl; have c3 := hX.c 1 3 rfl rfl; have c4 := hX.c 1 4 rfl rfl; have c5 := hX.c 1 5 rfl rfl
        go_wp2_with fail
        go_ret
        exact ⟨rfl, by first | exact hX.below | exact hBB ▸ hX.below⟩
      · cases H2
        · rw [show ∀ X3 X4 X5 X6 : Bool, (true && false && X3 && X4 && X5 && X6) = false from fun _ _ _ _ => by simp]
          have hX := St.put2 W [.int .i64 0, .int .i64 e1, .int .i64 e2, .int .i64 e3, .int .i64 e4, .int .i64 e5] [.int .i64 o, .bool false, .int .i64 m, .int .i64 r, .int .i64 x, .int .i64 p, .int .i64 q, .int .i64 y, .int .i64 g, .int .i64 n] 67 36
          go_enter Tryz.func72, Tryz.ntmps72
          go_wp2_with fail
          obtain ⟨i0, i1, i2, i3, i4, i5, i6, i7, i8, i9⟩ := hX.ten 0 rfl; have c0 := hX.c 1 0 rfl rfl; have c1 := hX.c 1 1 rfl rfl; have c2 := hX.c 1 2 rfl rfl; have c3 := hX.c 1 3 rfl rfl; have c4 := hX.c 1 4 rfl rfl; have c5 := hX.c 1 5 rfl rfl
          generalize (W0.alloc (.cells #[.int .i64 0, .int .i64 e1, .int .i64 e2, .int .i64 e3, .int .i64 e4, .int .i64 e5] 67)).alloc (.cells #[.int .i64 o, .bool false, .int .i64 m, .int .i64 r, .int .i64 x, .int .i64 p, .int .i64 q, .int .i64 y, .int .i64 g, .int .i64 n] 36) = w1 at *
          generalize hCC : W0.heap.size + 1 = C at hX i0 i1 i2 i3 i4 i5 i6 i7 i8 i9 c0 c1 c2 c3 c4 c5 ⊢
          generalize hBB : W0.heap.size = B at hX i0 i1 i2 i3 i4 i5 i6 i7 i8 i9 c0 c1 c2 c3 c4 c5 ⊢
          refine region_class (fun w' => St A c [(C, [.int .i64 o, .bool false, .int .i64 m, .int .i64 r, .int .i64 x, .int .i64 p, .int .i64 q, .int .i64 y, .int .i64 g, .int .i64 n]), (B, [.int .i64 0, .int .i64 e1, .int .i64 e2, .int .i64 e3, .int .i64 e4, .int .i64 e5])] W0 w') (by kernel_rfl) (by kernel_rfl) hX.drew ?_
          clear hX i0 i1 i2 i3 i4 i5 i6 i7 i8 i9 c0 c1 c2 c3 c4 c5
          repeat
            first
              | (refine BigFrame.wpQuiet_skip (by rfl) ?_
                 simp only [Act.put, List.setIfInBounds_toArray, List.set_cons_zero, List.set_cons_succ])
              | (refine BigFrame.wpQuiet_want (by rfl) (fun K hK => ?_)
                 apply Exists.intro
                 refine ⟨fun wq hq => ?_, hK _ ?_⟩
                 · obtain ⟨i0, i1, i2, i3, i4, i5, i6, i7, i8, i9⟩ := hq.ten 0 rfl; have c0 := hq.c 1 0 rfl rfl; have c1 := hq.c 1 1 rfl rfl; have c2 := hq.c 1 2 rfl rfl; have c3 := hq.c 1 3 rfl rfl; have c4 := hq.c 1 4 rfl rfl; have c5 := hq.c 1 5 rfl rfl
                   unfold Oper.quietAt
                   go_simp
                   first
                     | with_reducible rfl
                     | ((go_at_call 85); with_reducible refine (hH1 _).mono ?_; exact fun e w' ⟨he, hb⟩ => ⟨he, hq.step hb⟩)
                     | ((go_at_call 85); with_reducible refine (hH2 _).mono ?_; exact fun e w' ⟨he, hb⟩ => ⟨he, hq.step hb⟩)
                     | ((go_at_call 86); with_reducible refine (hT _ hq.frm).mono ?_; exact fun e w' ⟨he, hb⟩ => ⟨he, hq.step hb⟩)
                 clear hK K
                 simp only [Act.put, List.setIfInBounds_toArray, List.set_cons_zero, List.set_cons_succ])
          refine wpQuiet_nil ?_
          intro w4 hX
          obtain ⟨i0, i1, i2, i3, i4, i5, i6, i7, i8, i9⟩ := hX.ten 0 rfl; have c0 := hX.c 1 0 rfl rfl; have c1 := hX.c 1 1 rfl rfl; have c2 := hX.c 1 2 rfl rfl; have c3 := hX.c 1 3 rfl rfl; have c4 := hX.c 1 4 rfl rfl; have c5 := hX.c 1 5 rfl rfl
          go_wp2_with fail
          go_ret
          exact ⟨rfl, by first | exact hX.below | exact hBB ▸ hX.below⟩
        · rw [show ∀ X3 X4 X5 X6 : Bool, (true && true && X3 && X4 && X5 && X6) = (X3 && X4 && X5 && X6) from fun _ _ _ _ => by simp]
          by_cases g0 : 0 ≤ g
          · have d0 : decide (0 ≤ g) = true := decide_eq_true g0
            rw [d0]
            by_cases g1 : g ≤ T
            · have d1 : decide (g ≤ T) = true := decide_eq_true g1
              rw [d1]
              by_cases n0 : e5 ≤ n
              · have d2 : decide (e5 ≤ n) = true := decide_eq_true n0
                rw [d2, show ∀ X : Bool, (true && true && true && X) = X from fun _ => by simp]
                have hX := St.put2 W [.int .i64 0, .int .i64 e1, .int .i64 e2, .int .i64 e3, .int .i64 e4, .int .i64 e5] [.int .i64 o, .bool false, .int .i64 m, .int .i64 r, .int .i64 x, .int .i64 p, .int .i64 q, .int .i64 y, .int .i64 g, .int .i64 n] 67 36
                go_enter Tryz.func72, Tryz.ntmps72
                go_wp2_with fail
                obtain ⟨i0, i1, i2, i3, i4, i5, i6, i7, i8, i9⟩ := hX.ten 0 rfl; have c0 := hX.c 1 0 rfl rfl; have c1 := hX.c 1 1 rfl rfl; have c2 := hX.c 1 2 rfl rfl; have c3 := hX.c 1 3 rfl rfl; have c4 := hX.c 1 4 rfl rfl; have c5 := hX.c 1 5 rfl rfl
                generalize (W0.alloc (.cells #[.int .i64 0, .int .i64 e1, .int .i64 e2, .int .i64 e3, .int .i64 e4, .int .i64 e5] 67)).alloc (.cells #[.int .i64 o, .bool false, .int .i64 m, .int .i64 r, .int .i64 x, .int .i64 p, .int .i64 q, .int .i64 y, .int .i64 g, .int .i64 n] 36) = w1 at *
                generalize hCC : W0.heap.size + 1 = C at hX i0 i1 i2 i3 i4 i5 i6 i7 i8 i9 c0 c1 c2 c3 c4 c5 ⊢
                generalize hBB : W0.heap.size = B at hX i0 i1 i2 i3 i4 i5 i6 i7 i8 i9 c0 c1 c2 c3 c4 c5 ⊢
                refine region_class (fun w' => St A c [(C, [.int .i64 o, .bool false, .int .i64 m, .int .i64 r, .int .i64 x, .int .i64 p, .int .i64 q, .int .i64 y, .int .i64 g, .int .i64 n]), (B, [.int .i64 0, .int .i64 e1, .int .i64 e2, .int .i64 e3, .int .i64 e4, .int .i64 e5])] W0 w') (by kernel_rfl) (by kernel_rfl) hX.drew ?_
                clear hX i0 i1 i2 i3 i4 i5 i6 i7 i8 i9 c0 c1 c2 c3 c4 c5
                repeat
                  first
                    | (refine BigFrame.wpQuiet_skip (by rfl) ?_
                       simp only [Act.put, List.setIfInBounds_toArray, List.set_cons_zero, List.set_cons_succ])
                    | (refine BigFrame.wpQuiet_want (by rfl) (fun K hK => ?_)
                       apply Exists.intro
                       refine ⟨fun wq hq => ?_, hK _ ?_⟩
                       · obtain ⟨i0, i1, i2, i3, i4, i5, i6, i7, i8, i9⟩ := hq.ten 0 rfl; have c0 := hq.c 1 0 rfl rfl; have c1 := hq.c 1 1 rfl rfl; have c2 := hq.c 1 2 rfl rfl; have c3 := hq.c 1 3 rfl rfl; have c4 := hq.c 1 4 rfl rfl; have c5 := hq.c 1 5 rfl rfl
                         unfold Oper.quietAt
                         go_simp
                         first
                           | with_reducible rfl
                           | ((go_at_call 85); with_reducible refine (hH1 _).mono ?_; exact fun e w' ⟨he, hb⟩ => ⟨he, hq.step hb⟩)
                           | ((go_at_call 85); with_reducible refine (hH2 _).mono ?_; exact fun e w' ⟨he, hb⟩ => ⟨he, hq.step hb⟩)
                           | ((go_at_call 86); with_reducible refine (hT _ hq.frm).mono ?_; exact fun e w' ⟨he, hb⟩ => ⟨he, hq.step hb⟩)
                       clear hK K
                       simp only [Act.put, List.setIfInBounds_toArray, List.set_cons_zero, List.set_cons_succ])
                refine wpQuiet_nil ?_
                intro w4 hX
                obtain ⟨i0, i1, i2, i3, i4, i5, i6, i7, i8, i9⟩ := hX.ten 0 rfl; have c0 := hX.c 1 0 rfl rfl; have c1 := hX.c 1 1 rfl rfl; have c2 := hX.c 1 2 rfl rfl; have c3 := hX.c 1 3 rfl rfl; have c4 := hX.c 1 4 rfl rfl; have c5 := hX.c 1 5 rfl rfl
                go_wp2_with fail
                go_ret
                exact ⟨rfl, by first | exact hX.below | exact hBB ▸ hX.below⟩
              · have d2 : decide (e5 ≤ n) = false := decide_eq_false n0
                rw [d2, show ∀ X : Bool, (true && true && false && X) = false from fun _ => by simp]
                have hX := St.put2 W [.int .i64 0, .int .i64 e1, .int .i64 e2, .int .i64 e3, .int .i64 e4, .int .i64 e5] [.int .i64 o, .bool false, .int .i64 m, .int .i64 r, .int .i64 x, .int .i64 p, .int .i64 q, .int .i64 y, .int .i64 g, .int .i64 n] 67 36
                go_enter Tryz.func72, Tryz.ntmps72
                go_wp2_with fail
                obtain ⟨i0, i1, i2, i3, i4, i5, i6, i7, i8, i9⟩ := hX.ten 0 rfl; have c0 := hX.c 1 0 rfl rfl; have c1 := hX.c 1 1 rfl rfl; have c2 := hX.c 1 2 rfl rfl; have c3 := hX.c 1 3 rfl rfl; have c4 := hX.c 1 4 rfl rfl; have c5 := hX.c 1 5 rfl rfl
                generalize (W0.alloc (.cells #[.int .i64 0, .int .i64 e1, .int .i64 e2, .int .i64 e3, .int .i64 e4, .int .i64 e5] 67)).alloc (.cells #[.int .i64 o, .bool false, .int .i64 m, .int .i64 r, .int .i64 x, .int .i64 p, .int .i64 q, .int .i64 y, .int .i64 g, .int .i64 n] 36) = w1 at *
                generalize hCC : W0.heap.size + 1 = C at hX i0 i1 i2 i3 i4 i5 i6 i7 i8 i9 c0 c1 c2 c3 c4 c5 ⊢
                generalize hBB : W0.heap.size = B at hX i0 i1 i2 i3 i4 i5 i6 i7 i8 i9 c0 c1 c2 c3 c4 c5 ⊢
                refine region_class (fun w' => St A c [(C, [.int .i64 o, .bool false, .int .i64 m, .int .i64 r, .int .i64 x, .int .i64 p, .int .i64 q, .int .i64 y, .int .i64 g, .int .i64 n]), (B, [.int .i64 0, .int .i64 e1, .int .i64 e2, .int .i64 e3, .int .i64 e4, .int .i64 e5])] W0 w') (by kernel_rfl) (by kernel_rfl) hX.drew ?_
                clear hX i0 i1 i2 i3 i4 i5 i6 i7 i8 i9 c0 c1 c2 c3 c4 c5
                repeat
                  first
                    | (refine BigFrame.wpQuiet_skip (by rfl) ?_
                       simp only [Act.put, List.setIfInBounds_toArray, List.set_cons_zero, List.set_cons_succ])
                    | (refine BigFrame.wpQuiet_want (by rfl) (fun K hK => ?_)
                       apply Exists.intro
                       refine ⟨fun wq hq => ?_, hK _ ?_⟩
                       · obtain ⟨i0, i1, i2, i3, i4, i5, i6, i7, i8, i9⟩ := hq.ten 0 rfl; have c0 := hq.c 1 0 rfl rfl; have c1 := hq.c 1 1 rfl rfl; have c2 := hq.c 1 2 rfl rfl; have c3 := hq.c 1 3 rfl rfl; have c4 := hq.c 1 4 rfl rfl; have c5 := hq.c 1 5 rfl rfl
                         unfold Oper.quietAt
                         go_simp
                         first
                           | with_reducible rfl
                           | ((go_at_call 85); with_reducible refine (hH1 _).mono ?_; exact fun e w' ⟨he, hb⟩ => ⟨he, hq.step hb⟩)
                           | ((go_at_call 85); with_reducible refine (hH2 _).mono ?_; exact fun e w' ⟨he, hb⟩ => ⟨he, hq.step hb⟩)
                           | ((go_at_call 86); with_reducible refine (hT _ hq.frm).mono ?_; exact fun e w' ⟨he, hb⟩ => ⟨he, hq.step hb⟩)
                       clear hK K
                       simp only [Act.put, List.setIfInBounds_toArray, List.set_cons_zero, List.set_cons_succ])
                refine wpQuiet_nil ?_
                intro w4 hX
                obtain ⟨i0, i1, i2, i3, i4, i5, i6, i7, i8, i9⟩ := hX.ten 0 rfl; have c0 := hX.c 1 0 rfl rfl; have c1 := hX.c 1 1 rfl rfl; have c2 := hX.c 1 2 rfl rfl; have c3 := hX.c 1 3 rfl rfl; have c4 := hX.c 1 4 rfl rfl; have c5 := hX.c 1 5 rfl rfl
                go_wp2_with fail
                go_ret
                exact ⟨rfl, by first | exact hX.below | exact hBB ▸ hX.below⟩
            · have d1 : decide (g ≤ T) = false := decide_eq_false g1
              rw [d1, show ∀ X Y : Bool, (true && false && X && Y) = false from fun _ _ => by simp]
              have hX := St.put2 W [.int .i64 0, .int .i64 e1, .int .i64 e2, .int .i64 e3, .int .i64 e4, .int .i64 e5] [.int .i64 o, .bool false, .int .i64 m, .int .i64 r, .int .i64 x, .int .i64 p, .int .i64 q, .int .i64 y, .int .i64 g, .int .i64 n] 67 36
              go_enter Tryz.func72, Tryz.ntmps72
              go_wp2_with fail
              obtain ⟨i0, i1, i2, i3, i4, i5, i6, i7, i8, i9⟩ := hX.ten 0 rfl; have c0 := hX.c 1 0 rfl rfl; have c1 := hX.c 1 1 rfl rfl; have c2 := hX.c 1 2 rfl rfl; have c3 := hX.c 1 3 rfl rfl; have c4 := hX.c 1 4 rfl rfl; have c5 := hX.c 1 5 rfl rfl
              generalize (W0.alloc (.cells #[.int .i64 0, .int .i64 e1, .int .i64 e2, .int .i64 e3, .int .i64 e4, .int .i64 e5] 67)).alloc (.cells #[.int .i64 o, .bool false, .int .i64 m, .int .i64 r, .int .i64 x, .int .i64 p, .int .i64 q, .int .i64 y, .int .i64 g, .int .i64 n] 36) = w1 at *
              generalize hCC : W0.heap.size + 1 = C at hX i0 i1 i2 i3 i4 i5 i6 i7 i8 i9 c0 c1 c2 c3 c4 c5 ⊢
              generalize hBB : W0.heap.size = B at hX i0 i1 i2 i3 i4 i5 i6 i7 i8 i9 c0 c1 c2 c3 c4 c5 ⊢
              refine region_class (fun w' => St A c [(C, [.int .i64 o, .bool false, .int .i64 m, .int .i64 r, .int .i64 x, .int .i64 p, .int .i64 q, .int .i64 y, .int .i64 g, .int .i64 n]), (B, [.int .i64 0, .int .i64 e1, .int .i64 e2, .int .i64 e3, .int .i64 e4, .int .i64 e5])] W0 w') (by kernel_rfl) (by kernel_rfl) hX.drew ?_
              clear hX i0 i1 i2 i3 i4 i5 i6 i7 i8 i9 c0 c1 c2 c3 c4 c5
              repeat
                first
                  | (refine BigFrame.wpQuiet_skip (by rfl) ?_
                     simp only [Act.put, List.setIfInBounds_toArray, List.set_cons_zero, List.set_cons_succ])
                  | (refine BigFrame.wpQuiet_want (by rfl) (fun K hK => ?_)
                     apply Exists.intro
                     refine ⟨fun wq hq => ?_, hK _ ?_⟩
                     · obtain ⟨i0, i1, i2, i3, i4, i5, i6, i7, i8, i9⟩ := hq.ten 0 rfl; have c0 := hq.c 1 0 rfl rfl; have c1 := hq.c 1 1 rfl rfl; have c2 := hq.c 1 2 rfl rfl; have c3 := hq.c 1 3 rfl rfl; have c4 := hq.c 1 4 rfl rfl; have c5 := hq.c 1 5 rfl rfl
                       unfold Oper.quietAt
                       go_simp
                       first
                         | with_reducible rfl
                         | ((go_at_call 85); with_reducible refine (hH1 _).mono ?_; exact fun e w' ⟨he, hb⟩ => ⟨he, hq.step hb⟩)
                         | ((go_at_call 85); with_reducible refine (hH2 _).mono ?_; exact fun e w' ⟨he, hb⟩ => ⟨he, hq.step hb⟩)
                         | ((go_at_call 86); with_reducible refine (hT _ hq.frm).mono ?_; exact fun e w' ⟨he, hb⟩ => ⟨he, hq.step hb⟩)
                     clear hK K
                     simp only [Act.put, List.setIfInBounds_toArray, List.set_cons_zero, List.set_cons_succ])
              refine wpQuiet_nil ?_
              intro w4 hX
              obtain ⟨i0, i1, i2, i3, i4, i5, i6, i7, i8, i9⟩ := hX.ten 0 rfl; have c0 := hX.c 1 0 rfl rfl; have c1 := hX.c 1 1 rfl rfl; have c2 := hX.c 1 2 rfl rfl; have c3 := hX.c 1 3 rfl rfl; have c4 := hX.c 1 4 rfl rfl; have c5 := hX.c 1 5 rfl rfl
              go_wp2_with fail
              go_ret
              exact ⟨rfl, by first | exact hX.below | exact hBB ▸ hX.below⟩
          · have d0 : decide (0 ≤ g) = false := decide_eq_false g0
            rw [d0, show ∀ X Y Z : Bool, (false && X && Y && Z) = false from fun _ _ _ => by simp]
            have hX := St.put2 W [.int .i64 0, .int .i64 e1, .int .i64 e2, .int .i64 e3, .int .i64 e4, .int .i64 e5] [.int .i64 o, .bool false, .int .i64 m, .int .i64 r, .int .i64 x, .int .i64 p, .int .i64 q, .int .i64 y, .int .i64 g, .int .i64 n] 67 36
            go_enter Tryz.func72, Tryz.ntmps72
            go_wp2_with fail
            obtain ⟨i0, i1, i2, i3, i4, i5, i6, i7, i8, i9⟩ := hX.ten 0 rfl; have c0 := hX.c 1 0 rfl rfl; have c1 := hX.c 1 1 rfl rfl; have c2 := hX.c 1 2 rfl rfl; have c3 := hX.c 1 3 rfl rfl; have c4 := hX.c 1 4 rfl rfl; have c5 := hX.c 1 5 rfl rfl
            generalize (W0.alloc (.cells #[.int .i64 0, .int .i64 e1, .int .i64 e2, .int .i64 e3, .int .i64 e4, .int .i64 e5] 67)).alloc (.cells #[.int .i64 o, .bool false, .int .i64 m, .int .i64 r, .int .i64 x, .int .i64 p, .int .i64 q, .int .i64 y, .int .i64 g, .int .i64 n] 36) = w1 at *
            generalize hCC : W0.heap.size + 1 = C at hX i0 i1 i2 i3 i4 i5 i6 i7 i8 i9 c0 c1 c2 c3 c4 c5 ⊢
            generalize hBB : W0.heap.size = B at hX i0 i1 i2 i3 i4 i5 i6 i7 i8 i9 c0 c1 c2 c3 c4 c5 ⊢
            refine region_class (fun w' => St A c [(C, [.int .i64 o, .bool false, .int .i64 m, .int .i64 r, .int .i64 x, .int .i64 p, .int .i64 q, .int .i64 y, .int .i64 g, .int .i64 n]), (B, [.int .i64 0, .int .i64 e1, .int .i64 e2, .int .i64 e3, .int .i64 e4, .int .i64 e5])] W0 w') (by kernel_rfl) (by kernel_rfl) hX.drew ?_
            clear hX i0 i1 i2 i3 i4 i5 i6 i7 i8 i9 c0 c1 c2 c3 c4 c5
            repeat
              first
                | (refine BigFrame.wpQuiet_skip (by rfl) ?_
                   simp only [Act.put, List.setIfInBounds_toArray, List.set_cons_zero, List.set_cons_succ])
                | (refine BigFrame.wpQuiet_want (by rfl) (fun K hK => ?_)
                   apply Exists.intro
                   refine ⟨fun wq hq => ?_, hK _ ?_⟩
                   · obtain ⟨i0, i1, i2, i3, i4, i5, i6, i7, i8, i9⟩ := hq.ten 0 rfl; have c0 := hq.c 1 0 rfl rfl; have c1 := hq.c 1 1 rfl rfl; have c2 := hq.c 1 2 rfl rfl; have c3 := hq.c 1 3 rfl rfl; have c4 := hq.c 1 4 rfl rfl; have c5 := hq.c 1 5 rfl rfl
                     unfold Oper.quietAt
                     go_simp
                     first
                       | with_reducible rfl
                       | ((go_at_call 85); with_reducible refine (hH1 _).mono ?_; exact fun e w' ⟨he, hb⟩ => ⟨he, hq.step hb⟩)
                       | ((go_at_call 85); with_reducible refine (hH2 _).mono ?_; exact fun e w' ⟨he, hb⟩ => ⟨he, hq.step hb⟩)
                       | ((go_at_call 86); with_reducible refine (hT _ hq.frm).mono ?_; exact fun e w' ⟨he, hb⟩ => ⟨he, hq.step hb⟩)
                   clear hK K
                   simp only [Act.put, List.setIfInBounds_toArray, List.set_cons_zero, List.set_cons_succ])
            refine wpQuiet_nil ?_
            intro w4 hX
            obtain ⟨i0, i1, i2, i3, i4, i5, i6, i7, i8, i9⟩ := hX.ten 0 rfl; have c0 := hX.c 1 0 rfl rfl; have c1 := hX.c 1 1 rfl rfl; have c2 := hX.c 1 2 rfl rfl; have c3 := hX.c 1 3 rfl rfl; have c4 := hX.c 1 4 rfl rfl; have c5 := hX.c 1 5 rfl rfl
            go_wp2_with fail
            go_ret
            exact ⟨rfl, by first | exact hX.below | exact hBB ▸ hX.below⟩
    · have hR : ∀ X1 X2 X3 X4 X5 X6 : Bool, ((!decide ((0 : Int) = 0) || !true) && X1 && X2 && X3 && X4 && X5 && X6) = false := fun _ _ _ _ _ _ => by simp
      rw [hR]
      clear hR
      have hX := St.put2 W [.int .i64 0, .int .i64 e1, .int .i64 e2, .int .i64 e3, .int .i64 e4, .int .i64 e5] [.int .i64 o, .bool true, .int .i64 m, .int .i64 r, .int .i64 x, .int .i64 p, .int .i64 q, .int .i64 y, .int .i64 g, .int .i64 n] 67 36
      go_enter Tryz.func72, Tryz.ntmps72
      go_wp2_with fail
      obtain ⟨i0, i1, i2, i3, i4, i5, i6, i7, i8, i9⟩ := hX.ten 0 rfl; have c0 := hX.c 1 0 rfl rfl; have c1 := hX.c 1 1 rfl rfl; have c2 := hX.c 1 2 rfl rfl; have c3 := hX.c 1 3 rfl rfl; have c4 := hX.c 1 4 rfl rfl; have c5 := hX.c 1 5 rfl rfl
      generalize (W0.alloc (.cells #[.int .i64 0, .int .i64 e1, .int .i64 e2, .int .i64 e3, .int .i64 e4, .int .i64 e5] 67)).alloc (.cells #[.int .i64 o, .bool true, .int .i64 m, .int .i64 r, .int .i64 x, .int .i64 p, .int .i64 q, .int .i64 y, .int .i64 g, .int .i64 n] 36) = w1 at *
      generalize hCC : W0.heap.size + 1 = C at hX i0 i1 i2 i3 i4 i5 i6 i7 i8 i9 c0 c1 c2 c3 c4 c5 ⊢
      generalize hBB : W0.heap.size = B at hX i0 i1 i2 i3 i4 i5 i6 i7 i8 i9 c0 c1 c2 c3 c4 c5 ⊢
      refine region_class (fun w' => St A c [(C, [.int .i64 o, .bool true, .int .i64 m, .int .i64 r, .int .i64 x, .int .i64 p, .int .i64 q, .int .i64 y, .int .i64 g, .int .i64 n]), (B, [.int .i64 0, .int .i64 e1, .int .i64 e2, .int .i64 e3, .int .i64 e4, .int .i64 e5])] W0 w') (by kernel_rfl) (by kernel_rfl) hX.drew ?_
      clear hX i0 i1 i2 i3 i4 i5 i6 i7 i8 i9 c0 c1 c2 c3 c4 c5
      repeat
        first
          | (refine BigFrame.wpQuiet_skip (by rfl) ?_
             simp only [Act.put, List.setIfInBounds_toArray, List.set_cons_zero, List.set_cons_succ])
          | (refine BigFrame.wpQuiet_want (by rfl) (fun K hK => ?_)
             apply Exists.intro
             refine ⟨fun wq hq => ?_, hK _ ?_⟩
             · obtain ⟨i0, i1, i2, i3, i4, i5, i6, i7, i8, i9⟩ := hq.ten 0 rfl; have c0 := hq.c 1 0 rfl rfl; have c1 := hq.c 1 1 rfl rfl; have c2 := hq.c 1 2 rfl rfl; have c3 := hq.c 1 3 rfl rfl; have c4 := hq.c 1 4 rfl rfl; have c5 := hq.c 1 5 rfl rfl
               unfold Oper.quietAt
               go_simp
               first
                 | with_reducible rfl
                 | ((go_at_call 85); with_reducible refine (hH1 _).mono ?_; exact fun e w' ⟨he, hb⟩ => ⟨he, hq.step hb⟩)
                 | ((go_at_call 85); with_reducible refine (hH2 _).mono ?_; exact fun e w' ⟨he, hb⟩ => ⟨he, hq.step hb⟩)
                 | ((go_at_call 86); with_reducible refine (hT _ hq.frm).mono ?_; exact fun e w' ⟨he, hb⟩ => ⟨he, hq.step hb⟩)
             clear hK K
             simp only [Act.put, List.setIfInBounds_toArray, List.set_cons_zero, List.set_cons_succ])
      refine wpQuiet_nil ?_
      intro w4 hX
      obtain ⟨i0, i1, i2, i3, i4, i5, i6, i7, i8, i9⟩ := hX.ten 0 rfl; have c0 := hX.c 1 0 rfl rfl; have c1 := hX.c 1 1 rfl rfl; have c2 := hX.c 1 2 rfl rfl; have c3 := hX.c 1 3 rfl rfl; have c4 := hX.c 1 4 rfl rfl; have c5 := hX.c 1 5 rfl rfl
      go_wp2_with fail
      go_ret
      exact ⟨rfl, by first | exact hX.below | exact hBB ▸ hX.below⟩
  · have hz : (e0 != 0) = true := by simpa using z
    have hR : ∀ X1 X2 X3 X4 X5 X6 : Bool, ((!decide (e0 = 0) || !b) && X1 && X2 && X3 && X4 && X5 && X6) = (X1 && X2 && X3 && X4 && X5 && X6) := fun _ _ _ _ _ _ => by simp [z]
    rw [hR]
    clear hR z
    cases H1
    · rw [show ∀ X2 X3 X4 X5 X6 : Bool, (false && X2 && X3 && X4 && X5 && X6) = false from fun _ _ _ _ _ => by simp]
      have hX := St.put2 W [.int .i64 e0, .int .i64 e1, .int .i64 e2, .int .i64 e3, .int .i64 e4, .int .i64 e5] [.int .i64 o, .bool b, .int .i64 m, .int .i64 r, .int .i64 x, .int .i64 p, .int .i64 q, .int .i64 y, .int .i64 g, .int .i64 n] 67 36
      go_enter Tryz.func72, Tryz.ntmps72
      go_wp2_with fail
      obtain ⟨i0, i1, i2, i3, i4, i5, i6, i7, i8, i9⟩ := hX.ten 0 rfl; have c0 := hX.c 1 0 rfl rfl; have c1 := hX.c 1 1 rfl rfl; have c2 := hX.c 1 2 rfl rfl; have c3 := hX.c 1 3 rfl rfl; have c4 := hX.c 1 4 rfl rfl; have c5 := hX.c 1 5 rfl rfl
      generalize (W0.alloc (.cells #[.int .i64 e0, .int .i64 e1, .int .i64 e2, .int .i64 e3, .int .i64 e4, .int .i64 e5] 67)).alloc (.cells #[.int .i64 o, .bool b, .int .i64 m, .int .i64 r, .int .i64 x, .int .i64 p, .int .i64 q, .int .i64 y, .int .i64 g, .int .i64 n] 36) = w1 at *
      generalize hCC : W0.heap.size + 1 = C at hX i0 i1 i2 i3 i4 i5 i6 i7 i8 i9 c0 c1 c2 c3 c4 c5 ⊢
      generalize hBB : W0.heap.size = B at hX i0 i1 i2 i3 i4 i5 i6 i7 i8 i9 c0 c1 c2 c3 c4 c5 ⊢
      refine region_class (fun w' => St A c [(C, [.int .i64 o, .bool b, .int .i64 m, .int .i64 r, .int .i64 x, .int .i64 p, .int .i64 q, .int .i64 y, .int .i64 g, .int .i64 n]), (B, [.int .i64 e0, .int .i64 e1, .int .i64 e2, .int .i64 e3, .int .i64 e4, .int .i64 e5])] W0 w') (by kernel_rfl) (by kernel_rfl) hX.drew ?_
      clear hX i0 i1 i2 i3 i4 i5 i6 i7 i8 i9 c0 c1 c2 c3 c4 c5
      repeat
        first
          | (refine BigFrame.wpQuiet_skip (by rfl) ?_
             simp only [Act.put, List.setIfInBounds_toArray, List.set_cons_zero, List.set_cons_succ])
          | (refine BigFrame.wpQuiet_want (by rfl) (fun K hK => ?_)
             apply Exists.intro
             refine ⟨fun wq hq => ?_, hK _ ?_⟩
             · obtain ⟨i0, i1, i2, i3, i4, i5, i6, i7, i8, i9⟩ := hq.ten 0 rfl; have c0 := hq.c 1 0 rfl rfl; have c1 := hq.c 1 1 rfl rfl; have c2 := hq.c 1 2 rfl rfl; have c3 := hq.c 1 3 rfl rfl; have c4 := hq.c 1 4 rfl rfl; have c5 := hq.c 1 5 rfl rfl
               unfold Oper.quietAt
               go_simp
               first
                 | with_reducible rfl
                 | ((go_at_call 85); with_reducible refine (hH1 _).mono ?_; exact fun e w' ⟨he, hb⟩ => ⟨he, hq.step hb⟩)
                 | ((go_at_call 85); with_reducible refine (hH2 _).mono ?_; exact fun e w' ⟨he, hb⟩ => ⟨he, hq.step hb⟩)
                 | ((go_at_call 86); with_reducible refine (hT _ hq.frm).mono ?_; exact fun e w' ⟨he, hb⟩ => ⟨he, hq.step hb⟩)
             clear hK K
             simp only [Act.put, List.setIfInBounds_toArray, List.set_cons_zero, List.set_cons_succ])
      refine wpQuiet_nil ?_
      intro w4 hX
      obtain ⟨i0, i1, i2, i3, i4, i5, i6, i7, i8, i9⟩ := hX.ten 0 rfl; have c0 := hX.c 1 0 rfl rfl; have c1 := hX.c 1 1 rfl rfl; have c2 := hX.c 1 2 rfl rfl; have c3 := hX.c 1 3 rfl rfl; have c4 := hX.c 1 4 rfl rfl; have c5 := hX.c 1 5 rfl rfl
      go_wp2_with fail
      go_ret
      exact ⟨rfl, by first | exact hX.below | exact hBB ▸ hX.below⟩
    · cases H2
      · rw [show ∀ X3 X4 X5 X6 : Bool, (true && false && X3 && X4 && X5 && X6) = false from fun _ _ _ _ => by simp]
        have hX := St.put2 W [.int .i64 e0, .int .i64 e1, .int .i64 e2, .int .i64 e3, .int .i64 e4, .int .i64 e5] [.int .i64 o, .bool b, .int .i64 m, .int .i64 r, .int .i64 x, .int .i64 p, .int .i64 q, .int .i64 y, .int .i64 g, .int .i64 n] 67 36
        go_enter Tryz.func72, Tryz.ntmps72
        go_wp2_with fail
        obtain ⟨i0, i1, i2, i3, i4, i5, i6, i7, i8, i9⟩ := hX.ten 0 rfl; have c0 := hX.c 1 0 rfl rfl; have c1 := hX.c 1 1 rfl rfl; have c2 := hX.c 1 2 rfl rfl; have c3 := hX.c 1 3 rfl rfl; have c4 := hX.c 1 4 rfl rfl; have c5 := hX.c 1 5 rfl rfl
        generalize (W0.alloc (.cells #[.int .i64 e0, .int .i64 e1, .int .i64 e2, .int .i64 e3, .int .i64 e4, .int .i64 e5] 67)).alloc (.cells #[.int .i64 o, .bool b, .int .i64 m, .int .i64 r, .int .i64 x, .int .i64 p, .int .i64 q, .int .i64 y, .int .i64 g, .int .i64 n] 36) = w1 at *
        generalize hCC : W0.heap.size + 1 = C at hX i0 i1 i2 i3 i4 i5 i6 i7 i8 i9 c0 c1 c2 c3 c4 c5 ⊢
        generalize hBB : W0.heap.size = B at hX i0 i1 i2 i3 i4 i5 i6 i7 i8 i9 c0 c1 c2 c3 c4 c5 ⊢
        refine region_class (fun w' => St A c [(C, [.int .i64 o, .bool b, .int .i64 m, .int .i64 r, .int .i64 x, .int .i64 p, .int .i64 q, .int .i64 y, .int .i64 g, .int .i64 n]), (B, [.int .i64 e0, .int .i64 e1, .int .i64 e2, .int .i64 e3, .int .i64 e4, .int .i64 e5])] W0 w') (by kernel_rfl) (by kernel_rfl) hX.drew ?_
        clear hX i0 i1 i2 i3 i4 i5 i6 i7 i8 i9 c0 c1 c2 c3 c4 c5
        repeat
          first
            | (refine BigFrame.wpQuiet_skip (by rfl) ?_
               simp only [Act.put, List.setIfInBounds_toArray, List.set_cons_zero, List.set_cons_succ])
            | (refine BigFrame.wpQuiet_want (by rfl) (fun K hK => ?_)
               apply Exists.intro
               refine ⟨fun wq hq => ?_, hK _ ?_⟩
               · obtain ⟨i0, i1, i2, i3, i4, i5, i6, i7, i8, i9⟩ := hq.ten 0 rfl; have c0 := hq.c 1 0 rfl rfl; have c1 := hq.c 1 1 rfl rfl; have c2 := hq.c 1 2 rfl rfl; have c3 := hq.c 1 3 rfl rfl; have c4 := hq.c 1 4 rfl rfl; have c5 := hq.c 1 5 rfl rfl
                 unfold Oper.quietAt
                 go_simp
                 first
                   | with_reducible rfl
                   | ((go_at_call 85); with_reducible refine (hH1 _).mono ?_; exact fun e w' ⟨he, hb⟩ => ⟨he, hq.step hb⟩)
                   | ((go_at_call 85); with_reducible refine (hH2 _).mono ?_; exact fun e w' ⟨he, hb⟩ => ⟨he, hq.step hb⟩)
                   | ((go_at_call 86); with_reducible refine (hT _ hq.frm).mono ?_; exact fun e w' ⟨he, hb⟩ => ⟨he, hq.step hb⟩)
               clear hK K
               simp only [Act.put, List.setIfInBounds_toArray, List.set_cons_zero, List.set_cons_succ])
        refine wpQuiet_nil ?_
        intro w4 hX
        obtain ⟨i0, i1, i2, i3, i4, i5, i6, i7, i8, i9⟩ := hX.ten 0 rfl; have c0 := hX.c 1 0 rfl rfl; have c1 := hX.c 1 1 rfl rfl; have c2 := hX.c 1 2 rfl rfl; have c3 := hX.c 1 3 rfl rfl; have c4 := hX.c 1 4 rfl rfl; have c5 := hX.c 1 5 rfl rfl
        go_wp2_with fail
        go_ret
        exact ⟨rfl, by first | exact hX.below | exact hBB ▸ hX.below⟩
      · rw [show ∀ X3 X4 X5 X6 : Bool, (true && true && X3 && X4 && X5 && X6) = (X3 && X4 && X5 && X6) from fun _ _ _ _ => by simp]
        by_cases g0 : 0 ≤ g
        · have d0 : decide (0 ≤ g) = true := decide_eq_true g0
          rw [d0]
          by_cases g1 : g ≤ T
          · have d1 : decide (g ≤ T) = true := decide_eq_true g1
            rw [d1]
            by_cases n0 : e5 ≤ n
            · have d2 : decide (e5 ≤ n) = true := decide_eq_true n0
              rw [d2, show ∀ X : Bool, (true && true && true && X) = X from fun _ => by simp]
              have hX := St.put2 W [.int .i64 e0, .int .i64 e1, .int .i64 e2, .int .i64 e3, .int .i64 e4, .int .i64 e5] [.int .i64 o, .bool b, .int .i64 m, .int .i64 r, .int .i64 x, .int .i64 p, .int .i64 q, .int .i64 y, .int .i64 g, .int .i64 n] 67 36
              go_enter Tryz.func72, Tryz.ntmps72
              go_wp2_with fail
              obtain ⟨i0, i1, i2, i3, i4, i5, i6, i7, i8, i9⟩ := hX.ten 0 rfl; have c0 := hX.c 1 0 rfl rfl; have c1 := hX.c 1 1 rfl rfl; have c2 := hX.c 1 2 rfl rfl; have c3 := hX.c 1 3 rfl rfl; have c4 := hX.c 1 4 rfl rfl; have c5 := hX.c 1 5 rfl rfl
              generalize (W0.alloc (.cells #[.int .i64 e0, .int .i64 e1, .int .i64 e2, .int .i64 e3, .int .i64 e4, .int .i64 e5] 67)).alloc (.cells #[.int .i64 o, .bool b, .int .i64 m, .int .i64 r, .int .i64 x, .int .i64 p, .int .i64 q, .int .i64 y, .int .i64 g, .int .i64 n] 36) = w1 at *
              generalize hCC : W0.heap.size + 1 = C at hX i0 i1 i2 i3 i4 i5 i6 i7 i8 i9 c0 c1 c2 c3 c4 c5 ⊢
              generalize hBB : W0.heap.size = B at hX i0 i1 i2 i3 i4 i5 i6 i7 i8 i9 c0 c1 c2 c3 c4 c5 ⊢
              refine region_class (fun w' => St A c [(C, [.int .i64 o, .bool b, .int .i64 m, .int .i64 r, .int .i64 x, .int .i64 p, .int .i64 q, .int .i64 y, .int .i64 g, .int .i64 n]), (B, [.int .i64 e0, .int .i64 e1, .int .i64 e2, .int .i64 e3, .int .i64 e4, .int .i64 e5])] W0 w') (by kernel_rfl) (by kernel_rfl) hX.drew ?_
              clear hX i0 i1 i2 i3 i4 i5 i6 i7 i8 i9 c0 c1 c2 c3 c4 c5
              repeat
                first
                  | (refine BigFrame.wpQuiet_skip (by rfl) ?_
                     simp only [Act.put, List.setIfInBounds_toArray, List.set_cons_zero, List.set_cons_succ])
                  | (refine BigFrame.wpQuiet_want (by rfl) (fun K hK => ?_)
                     apply Exists.intro
                     refine ⟨fun wq hq => ?_, hK _ ?_⟩
                     · obtain ⟨i0, i1, i2, i3, i4, i5, i6, i7, i8, i9⟩ := hq.ten 0 rfl; have c0 := hq.c 1 0 rfl rfl; have c1 := hq.c 1 1 rfl rfl; have c2 := hq.c 1 2 rfl rfl; have c3 := hq.c 1 3 rfl rfl; have c4 := hq.c 1 4 rfl rfl; have c5 := hq.c 1 5 rfl rfl
                       unfold Oper.quietAt
                       go_simp
                       first
                         | with_reducible rfl
                         | ((go_at_call 85); with_reducible refine (hH1 _).mono ?_; exact fun e w' ⟨he, hb⟩ => ⟨he, hq.step hb⟩)
                         | ((go_at_call 85); with_reducible refine (hH2 _).mono ?_; exact fun e w' ⟨he, hb⟩ => ⟨he, hq.step hb⟩)
                         | ((go_at_call 86); with_reducible refine (hT _ hq.frm).mono ?_; exact fun e w' ⟨he, hb⟩ => ⟨he, hq.step hb⟩)
                     clear hK K
                     simp only [Act.put, List.setIfInBounds_toArray, List.set_cons_zero, List.set_cons_succ])
              refine wpQuiet_nil ?_
              intro w4 hX
              obtain ⟨i0, i1, i2, i3, i4, i5, i6, i7, i8, i9⟩ := hX.ten 0 rfl; have c0 := hX.c 1 0 rfl rfl; have c1 := hX.c 1 1 rfl rfl; have c2 := hX.c 1 2 rfl rfl; have c3 := hX.c 1 3 rfl rfl; have c4 := hX.c 1 4 rfl rfl; have c5 := hX.c 1 5 rfl rfl
              go_wp2_with fail
              go_ret
              exact ⟨rfl, by first | exact hX.below | exact hBB ▸ hX.below⟩
            · have d2 : decide (e5 ≤ n) = false := decide_eq_false n0
              rw [d2, show ∀ X : Bool, (true && true && false && X) = false from fun _ => by simp]
              have hX := St.put2 W [.int .i64 e0, .int .i64 e1, .int .i64 e2, .int .i64 e3, .int .i64 e4, .int .i64 e5] [.int .i64 o, .bool b, .int .i64 m, .int .i64 r, .int .i64 x, .int .i64 p, .int .i64 q, .int .i64 y, .int .i64 g, .int .i64 n] 67 36
              go_enter Tryz.func72, Tryz.ntmps72
              go_wp2_with fail
              obtain ⟨i0, i1, i2, i3, i4, i5, i6, i7, i8, i9⟩ := hX.ten 0 rfl; have c0 := hX.c 1 0 rfl rfl; have c1 := hX.c 1 1 rfl rfl; have c2 := hX.c 1 2 rfl rfl; have c3 := hX.c 1 3 rfl rfl; have c4 := hX.c 1 4 rfl rfl; have c5 := hX.c 1 5 rfl rfl
              generalize (W0.alloc (.cells #[.int .i64 e0, .int .i64 e1, .int .i64 e2, .int .i64 e3, .int .i64 e4, .int .i64 e5] 67)).alloc (.cells #[.int .i64 o, .bool b, .int .i64 m, .int .i64 r, .int .i64 x, .int .i64 p, .int .i64 q, .int .i64 y, .int .i64 g, .int .i64 n] 36) = w1 at *
              generalize hCC : W0.heap.size + 1 = C at hX i0 i1 i2 i3 i4 i5 i6 i7 i8 i9 c0 c1 c2 c3 c4 c5 ⊢
              generalize hBB : W0.heap.size = B at hX i0 i1 i2 i3 i4 i5 i6 i7 i8 i9 c0 c1 c2 c3 c4 c5 ⊢
              refine region_class (fun w' => St A c [(C, [.int .i64 o, .bool b, .int .i64 m, .int .i64 r, .int .i64 x, .int .i64 p, .int .i64 q, .int .i64 y, .int .i64 g, .int .i64 n]), (B, [.int .i64 e0, .int .i64 e1, .int .i64 e2, .int .i64 e3, .int .i64 e4, .int .i64 e5])] W0 w') (by kernel_rfl) (by kernel_rfl) hX.drew ?_
              clear hX i0 i1 i2 i3 i4 i5 i6 i7 i8 i9 c0 c1 c2 c3 c4 c5
              repeat
                first
                  | (refine BigFrame.wpQuiet_skip (by rfl) ?_
                     simp only [Act.put, List.setIfInBounds_toArray, List.set_cons_zero, List.set_cons_succ])
                  | (refine BigFrame.wpQuiet_want (by rfl) (fun K hK => ?_)
                     apply Exists.intro
                     refine ⟨fun wq hq => ?_, hK _ ?_⟩
                     · obtain ⟨i0, i1, i2, i3, i4, i5, i6, i7, i8, i9⟩ := hq.ten 0 rfl; have c0 := hq.c 1 0 rfl rfl; have c1 := hq.c 1 1 rfl rfl; have c2 := hq.c 1 2 rfl rfl; have c3 := hq.c 1 3 rfl rfl; have c4 := hq.c 1 4 rfl rfl; have c5 := hq.c 1 5 rfl rfl
                       unfold Oper.quietAt
                       go_simp
                       first
                         | with_reducible rfl
                         | ((go_at_call 85); with_reducible refine (hH1 _).mono ?_; exact fun e w' ⟨he, hb⟩ => ⟨he, hq.step hb⟩)
                         | ((go_at_call 85); with_reducible refine (hH2 _).mono ?_; exact fun e w' ⟨he, hb⟩ => ⟨he, hq.step hb⟩)
                         | ((go_at_call 86); with_reducible refine (hT _ hq.frm).mono ?_; exact fun e w' ⟨he, hb⟩ => ⟨he, hq.step hb⟩)
                     clear hK K
                     simp only [Act.put, List.setIfInBounds_toArray, List.set_cons_zero, List.set_cons_succ])
              refine wpQuiet_nil ?_
              intro w4 hX
              obtain ⟨i0, i1, i2, i3, i4, i5, i6, i7, i8, i9⟩ := hX.ten 0 rfl; have c0 := hX.c 1 0 rfl rfl; have c1 := hX.c 1 1 rfl rfl; have c2 := hX.c 1 2 rfl rfl; have c3 := hX.c 1 3 rfl rfl; have c4 := hX.c 1 4 rfl rfl; have c5 := hX.c 1 5 rfl rfl
              go_wp2_with fail
              go_ret
              exact ⟨rfl, by first | exact hX.below | exact hBB ▸ hX.below⟩
          · have d1 : decide (g ≤ T) = false := decide_eq_false g1
            rw [d1, show ∀ X Y : Bool, (true && false && X && Y) = false from fun _ _ => by simp]
            have hX := St.put2 W [.int .i64 e0, .int .i64 e1, .int .i64 e2, .int .i64 e3, .int .i64 e4, .int .i64 e5] [.int .i64 o, .bool b, .int .i64 m, .int .i64 r, .int .i64 x, .int .i64 p, .int .i64 q, .int .i64 y, .int .i64 g, .int .i64 n] 67 36
            go_enter Tryz.func72, Tryz.ntmps72
            go_wp2_with fail
            obtain ⟨i0, i1, i2, i3, i4, i5, i6, i7, i8, i9⟩ := hX.ten 0 rfl; have c0 := hX.c 1 0 rfl rfl; have c1 := hX.c 1 1 rfl rfl; have c2 := hX.c 1 2 rfl rfl; have c3 := hX.c 1 3 rfl rfl; have c4 := hX.c 1 4 rfl rfl; have c5 := hX.c 1 5 rfl rfl
            generalize (W0.alloc (.cells #[.int .i64 e0, .int .i64 e1, .int .i64 e2, .int .i64 e3, .int .i64 e4, .int .i64 e5] 67)).alloc (.cells #[.int .i64 o, .bool b, .int .i64 m, .int .i64 r, .int .i64 x, .int .i64 p, .int .i64 q, .int .i64 y, .int .i64 g, .int .i64 n] 36) = w1 at *
            generalize hCC : W0.heap.size + 1 = C at hX i0 i1 i2 i3 i4 i5 i6 i7 i8 i9 c0 c1 c2 c3 c4 c5 ⊢
            generalize hBB : W0.heap.size = B at hX i0 i1 i2 i3 i4 i5 i6 i7 i8 i9 c0 c1 c2 c3 c4 c5 ⊢
            refine region_class (fun w' => St A c [(C, [.int .i64 o, .bool b, .int .i64 m, .int .i64 r, .int .i64 x, .int .i64 p, .int .i64 q, .int .i64 y, .int .i64 g, .int .i64 n]), (B, [.int .i64 e0, .int .i64 e1, .int .i64 e2, .int .i64 e3, .int .i64 e4, .int .i64 e5])] W0 w') (by kernel_rfl) (by kernel_rfl) hX.drew ?_
            clear hX i0 i1 i2 i3 i4 i5 i6 i7 i8 i9 c0 c1 c2 c3 c4 c5
            repeat
              first
                | (refine BigFrame.wpQuiet_skip (by rfl) ?_
                   simp only [Act.put, List.setIfInBounds_toArray, List.set_cons_zero, List.set_cons_succ])
                | (refine BigFrame.wpQuiet_want (by rfl) (fun K hK => ?_)
                   apply Exists.intro
                   refine ⟨fun wq hq => ?_, hK _ ?_⟩
                   · obtain ⟨i0, i1, i2, i3, i4, i5, i6, i7, i8, i9⟩ := hq.ten 0 rfl; have c0 := hq.c 1 0 rfl rfl; have c1 := hq.c 1 1 rfl rfl; have c2 := hq.c 1 2 rfl rfl; have c3 := hq.c 1 3 rfl rfl; have c4 := hq.c 1 4 rfl rfl; have c5 := hq.c 1 5 rfl rfl
                     unfold Oper.quietAt
                     go_simp
                     first
                       | with_reducible rfl
                       | ((go_at_call 85); with_reducible refine (hH1 _).mono ?_; exact fun e w' ⟨he, hb⟩ => ⟨he, hq.step hb⟩)
                       | ((go_at_call 85); with_reducible refine (hH2 _).mono ?_; exact fun e w' ⟨he, hb⟩ => ⟨he, hq.step hb⟩)
                       | ((go_at_call 86); with_reducible refine (hT _ hq.frm).mono ?_; exact fun e w' ⟨he, hb⟩ => ⟨he, hq.step hb⟩)
                   clear hK K
                   simp only [Act.put, List.setIfInBounds_toArray, List.set_cons_zero, List.set_cons_succ])
            refine wpQuiet_nil ?_
            intro w4 hX
            obtain ⟨i0, i1, i2, i3, i4, i5, i6, i7, i8, i9⟩ := hX.ten 0 rfl; have c0 := hX.c 1 0 rfl rfl; have c1 := hX.c 1 1 rfl rfl; have c2 := hX.c 1 2 rfl rfl; have c3 := hX.c 1 3 rfl rfl; have c4 := hX.c 1 4 rfl rfl; have c5 := hX.c 1 5 rfl rfl
            go_wp2_with fail
            go_ret
            exact ⟨rfl, by first | exact hX.below | exact hBB ▸ hX.below⟩
        · have d0 : decide (0 ≤ g) = false := decide_eq_false g0
          rw [d0, show ∀ X Y Z : Bool, (false && X && Y && Z) = false from fun _ _ _ => by simp]
          have hX := St.put2 W [.int .i64 e0, .int .i64 e1, .int .i64 e2, .int .i64 e3, .int .i64 e4, .int .i64 e5] [.int .i64 o, .bool b, .int .i64 m, .int .i64 r, .int .i64 x, .int .i64 p, .int .i64 q, .int .i64 y, .int .i64 g, .int .i64 n] 67 36
          go_enter Tryz.func72, Tryz.ntmps72
          go_wp2_with fail
          obtain ⟨i0, i1, i2, i3, i4, i5, i6, i7, i8, i9⟩ := hX.ten 0 rfl; have c0 := hX.c 1 0 rfl rfl; have c1 := hX.c 1 1 rfl rfl; have c2 := hX.c 1 2 rfl rfl; have c3 := hX.c 1 3 rfl rfl; have c4 := hX.c 1 4 rfl rfl; have c5 := hX.c 1 5 rfl rfl
          generalize (W0.alloc (.cells #[.int .i64 e0, .int .i64 e1, .int .i64 e2, .int .i64 e3, .int .i64 e4, .int .i64 e5] 67)).alloc (.cells #[.int .i64 o, .bool b, .int .i64 m, .int .i64 r, .int .i64 x, .int .i64 p, .int .i64 q, .int .i64 y, .int .i64 g, .int .i64 n] 36) = w1 at *
          generalize hCC : W0.heap.size + 1 = C at hX i0 i1 i2 i3 i4 i5 i6 i7 i8 i9 c0 c1 c2 c3 c4 c5 ⊢
          generalize hBB : W0.heap.size = B at hX i0 i1 i2 i3 i4 i5 i6 i7 i8 i9 c0 c1 c2 c3 c4 c5 ⊢
          refine region_class (fun w' => St A c [(C, [.int .i64 o, .bool b, .int .i64 m, .int .i64 r, .int .i64 x, .int .i64 p, .int .i64 q, .int .i64 y, .int .i64 g, .int .i64 n]), (B, [.int .i64 e0, .int .i64 e1, .int .i64 e2, .int .i64 e3, .int .i64 e4, .int .i64 e5])] W0 w') (by kernel_rfl) (by kernel_rfl) hX.drew ?_
          clear hX i0 i1 i2 i3 i4 i5 i6 i7 i8 i9 c0 c1 c2 c3 c4 c5
          repeat
            first
              | (refine BigFrame.wpQuiet_skip (by rfl) ?_
                 simp only [Act.put, List.setIfInBounds_toArray, List.set_cons_zero, List.set_cons_succ])
              | (refine BigFrame.wpQuiet_want (by rfl) (fun K hK => ?_)
                 apply Exists.intro
                 refine ⟨fun wq hq => ?_, hK _ ?_⟩
                 · obtain ⟨i0, i1, i2, i3, i4, i5, i6, i7, i8, i9⟩ := hq.ten 0 rfl; have c0 := hq.c 1 0 rfl rfl; have c1 := hq.c 1 1 rfl rfl; have c2 := hq.c 1 2 rfl rfl; have c3 := hq.c 1 3 rfl rfl; have c4 := hq.c 1 4 rfl rfl; have c5 := hq.c 1 5 rfl rfl
                   unfold Oper.quietAt
                   go_simp
                   first
                     | with_reducible rfl
                     | ((go_at_call 85); with_reducible refine (hH1 _).mono ?_; exact fun e w' ⟨he, hb⟩ => ⟨he, hq.step hb⟩)
                     | ((go_at_call 85); with_reducible refine (hH2 _).mono ?_; exact fun e w' ⟨he, hb⟩ => ⟨he, hq.step hb⟩)
                     | ((go_at_call 86); with_reducible refine (hT _ hq.frm).mono ?_; exact fun e w' ⟨he, hb⟩ => ⟨he, hq.step hb⟩)
                 clear hK K
                 simp only [Act.put, List.setIfInBounds_toArray, List.set_cons_zero, List.set_cons_succ])
          refine wpQuiet_nil ?_
          intro w4 hX
          obtain ⟨i0, i1, i2, i3, i4, i5, i6, i7, i8, i9⟩ := hX.ten 0 rfl; have c0 := hX.c 1 0 rfl rfl; have c1 := hX.c 1 1 rfl rfl; have c2 := hX.c 1 2 rfl rfl; have c3 := hX.c 1 3 rfl rfl; have c4 := hX.c 1 4 rfl rfl; have c5 := hX.c 1 5 rfl rfl
          go_wp2_with fail
          go_ret
          exact ⟨rfl, by first | exact hX.below | exact hBB ▸ hX.below⟩

end Go.Proofs.YtdbbnkjnmldnpaaGreatDoor
