/-
  Walks over first of the reference of package inst, one for each class of operations. Condition: the tables read as the program's text lays them (asked by the boxes alone).
-/
import Derived.Test.YtlaikajgpgpidaaDoorInRa
namespace Go.Proofs.YtlaikajgpgpidaaDoor
open Go.RowKit
set_option linter.unusedSimpArgs false
set_option linter.unusedVariables false
set_option maxHeartbeats 4000000
set_option maxRecDepth 100000
attribute [local irreducible] wpQuiet

theorem first_1 (b : Bool) (m r x p q y g n : Int) (hg : 0 ≤ g ∧ g ≤ 7) (hn : -128 ≤ n ∧ n ≤ 255) {A : Addr} {c : Nat} (W0 : World) (W : Frm A c W0) :
    Calls Tryd.prog 34 #[.agg #[.int .i64 6, .bool b, .int .i64 m, .int .i64 r, .int .i64 x, .int .i64 p, .int .i64 q, .int .i64 y, .int .i64 g, .int .i64 n]] W0 fun e w' => e = .returned (.int .i64 (rfR ⟨6, b, m, r, x, p, q, y, g, n⟩)) ∧ Below W0.heap.size W0 w' := by
  have hX := (St.start W).put [.int .i64 6, .bool b, .int .i64 m, .int .i64 r, .int .i64 x, .int .i64 p, .int .i64 q, .int .i64 y, .int .i64 g, .int .i64 n] 28
  have e : rfR ⟨6, b, m, r, x, p, q, y, g, n⟩ = 24576 + 64 * fdR m r + fdR p q := by
    unfold rfR
    rw [if_neg (by simp; try omega), if_pos (by simp; try omega)]
  rw [e]
  clear e
  have hS := fdR_bds m r
  have hD := fdR_bds p q
  have j1 := fun w => rfield_any m r x w
  have j2 := fun w => rfield_any p q y w
  have j3 := fun w => islong_any 6 w
  have hil : isL 6 = false := by unfold isL; simp
  rw [hil] at j3
  have ei : ∀ a b : Int, a = b → Ending.returned (.int .i64 a) = .returned (.int .i64 b) := fun a b h => ret_int h
  generalize fdR m r = U at *
  generalize fdR p q = V at *
  obtain ⟨hS1, hS2⟩ := hS
  obtain ⟨hD1, hD2⟩ := hD
  obtain ⟨hg1, hg2⟩ := hg
  obtain ⟨hn1, hn2⟩ := hn
  have hm : (n + 256).tmod 256 = (n + 256) % 256 := Int.tmod_eq_emod_of_nonneg (by omega)
  cases b
  · go_enter Tryd.func34, Tryd.ntmps34
    go_upto_region 4 with fail
    have i0 := hX.c 0 0 rfl rfl; have i1 := hX.c 0 1 rfl rfl; have i2 := hX.c 0 2 rfl rfl; have i3 := hX.c 0 3 rfl rfl; have i4 := hX.c 0 4 rfl rfl; have i5 := hX.c 0 5 rfl rfl; have i6 := hX.c 0 6 rfl rfl; have i7 := hX.c 0 7 rfl rfl; have i8 := hX.c 0 8 rfl rfl; have i9 := hX.c 0 9 rfl rfl
    generalize W0.alloc (.cells #[.int .i64 6, .bool false, .int .i64 m, .int .i64 r, .int .i64 x, .int .i64 p, .int .i64 q, .int .i64 y, .int .i64 g, .int .i64 n] 28) = w1 at *
    generalize hBB : W0.heap.size = B at hX i0 i1 i2 i3 i4 i5 i6 i7 i8 i9 ⊢
    refine region_class (fun w' => St A c [(B, [.int .i64 6, .bool false, .int .i64 m, .int .i64 r, .int .i64 x, .int .i64 p, .int .i64 q, .int .i64 y, .int .i64 g, .int .i64 n])] W0 w') (by kernel_rfl) (by kernel_rfl) hX.drew ?_
    clear hX i0 i1 i2 i3 i4 i5 i6 i7 i8 i9
    repeat
      first
        | (refine BigFrame.wpQuiet_skip (by rfl) ?_
           simp only [Act.put, List.setIfInBounds_toArray, List.set_cons_zero, List.set_cons_succ])
        | (refine BigFrame.wpQuiet_want (by rfl) (fun K hK => ?_)
           apply Exists.intro
           refine ⟨fun wq hq => ?_, hK _ ?_⟩
           · have i0 := hq.c 0 0 rfl rfl; have i1 := hq.c 0 1 rfl rfl; have i2 := hq.c 0 2 rfl rfl; have i3 := hq.c 0 3 rfl rfl; have i4 := hq.c 0 4 rfl rfl; have i5 := hq.c 0 5 rfl rfl; have i6 := hq.c 0 6 rfl rfl; have i7 := hq.c 0 7 rfl rfl; have i8 := hq.c 0 8 rfl rfl; have i9 := hq.c 0 9 rfl rfl
             unfold Oper.quietAt
             go_simp
             first
               | with_reducible rfl
               | ((go_at_call 57); with_reducible refine (j1 _).mono ?_; exact fun e w' ⟨he, hb⟩ => ⟨he, hq.step hb⟩)
               | ((go_at_call 57); with_reducible refine (j2 _).mono ?_; exact fun e w' ⟨he, hb⟩ => ⟨he, hq.step hb⟩)
           clear hK K
           simp only [Act.put, List.setIfInBounds_toArray, List.set_cons_zero, List.set_cons_succ])
    refine wpQuiet_nil ?_
    intro w4 hX
    have i0 := hX.c 0 0 rfl rfl; have i1 := hX.c 0 1 rfl rfl; have i2 := hX.c 0 2 rfl rfl; have i3 := hX.c 0 3 rfl rfl; have i4 := hX.c 0 4 rfl rfl; have i5 := hX.c 0 5 rfl rfl; have i6 := hX.c 0 6 rfl rfl; have i7 := hX.c 0 7 rfl rfl; have i8 := hX.c 0 8 rfl rfl; have i9 := hX.c 0 9 rfl rfl
    go_wp2_with (first | (go_at_call 50; with_reducible refine (j3 _).mono ?_; rintro e w' ⟨rfl, hb⟩; have hX := hX.step hb; have i0 := hX.c 0 0 rfl rfl; have i1 := hX.c 0 1 rfl rfl; have i2 := hX.c 0 2 rfl rfl; have i3 := hX.c 0 3 rfl rfl; have i4 := hX.c 0 4 rfl rfl; have i5 := hX.c 0 5 rfl rfl; have i6 := hX.c 0 6 rfl rfl; have i7 := hX.c 0 7 rfl rfl; have i8 := hX.c 0 8 rfl rfl; have i9 := hX.c 0 9 rfl rfl; clear hb))
    go_ret
    refine ⟨ei _ _ ?_, by first | exact hX.below | exact hBB ▸ hX.below⟩
    clear hX
    first | rfl | omega | (simp; done) | (simp; omega)
  · go_enter Tryd.func34, Tryd.ntmps34
    go_upto_region 4 with fail
    have i0 := hX.c 0 0 rfl rfl; have i1 := hX.c 0 1 rfl rfl; have i2 := hX.c 0 2 rfl rfl; have i3 := hX.c 0 3 rfl rfl; have i4 := hX.c 0 4 rfl rfl; have i5 := hX.c 0 5 rfl rfl; have i6 := hX.c 0 6 rfl rfl; have i7 := hX.c 0 7 rfl rfl; have i8 := hX.c 0 8 rfl rfl; have i9 := hX.c 0 9 rfl rfl
    generalize W0.alloc (.cells #[.int .i64 6, .bool true, .int .i64 m, .int .i64 r, .int .i64 x, .int .i64 p, .int .i64 q, .int .i64 y, .int .i64 g, .int .i64 n] 28) = w1 at *
    generalize hBB : W0.heap.size = B at hX i0 i1 i2 i3 i4 i5 i6 i7 i8 i9 ⊢
    refine region_class (fun w' => St A c [(B, [.int .i64 6, .bool true, .int .i64 m, .int .i64 r, .int .i64 x, .int .i64 p, .int .i64 q, .int .i64 y, .int .i64 g, .int .i64 n])] W0 w') (by kernel_rfl) (by kernel_rfl) hX.drew ?_
    clear hX i0 i1 i2 i3 i4 i5 i6 i7 i8 i9
    repeat
      first
        | (refine BigFrame.wpQuiet_skip (by rfl) ?_
           simp only [Act.put, List.setIfInBounds_toArray, List.set_cons_zero, List.set_cons_succ])
        | (refine BigFrame.wpQuiet_want (by rfl) (fun K hK => ?_)
           apply Exists.intro
           refine ⟨fun wq hq => ?_, hK _ ?_⟩
           · have i0 := hq.c 0 0 rfl rfl; have i1 := hq.c 0 1 rfl rfl; have i2 := hq.c 0 2 rfl rfl; have i3 := hq.c 0 3 rfl rfl; have i4 := hq.c 0 4 rfl rfl; have i5 := hq.c 0 5 rfl rfl; have i6 := hq.c 0 6 rfl rfl; have i7 := hq.c 0 7 rfl rfl; have i8 := hq.c 0 8 rfl rfl; have i9 := hq.c 0 9 rfl rfl
             unfold Oper.quietAt
             go_simp
             first
               | with_reducible rfl
               | ((go_at_call 57); with_reducible refine (j1 _).mono ?_; exact fun e w' ⟨he, hb⟩ => ⟨he, hq.step hb⟩)
               | ((go_at_call 57); with_reducible refine (j2 _).mono ?_; exact fun e w' ⟨he, hb⟩ => ⟨he, hq.step hb⟩)
           clear hK K
           simp only [Act.put, List.setIfInBounds_toArray, List.set_cons_zero, List.set_cons_succ])
    refine wpQuiet_nil ?_
    intro w4 hX
    have i0 := hX.c 0 0 rfl rfl; have i1 := hX.c 0 1 rfl rfl; have i2 := hX.c 0 2 rfl rfl; have i3 := hX.c 0 3 rfl rfl; have i4 := hX.c 0 4 rfl rfl; have i5 := hX.c 0 5 rfl rfl; have i6 := hX.c 0 6 rfl rfl; have i7 := hX.c 0 7 rfl rfl; have i8 := hX.c 0 8 rfl rfl; have i9 := hX.c 0 9 rfl rfl
    go_wp2_with (first | (go_at_call 50; with_reducible refine (j3 _).mono ?_; rintro e w' ⟨rfl, hb⟩; have hX := hX.step hb; have i0 := hX.c 0 0 rfl rfl; have i1 := hX.c 0 1 rfl rfl; have i2 := hX.c 0 2 rfl rfl; have i3 := hX.c 0 3 rfl rfl; have i4 := hX.c 0 4 rfl rfl; have i5 := hX.c 0 5 rfl rfl; have i6 := hX.c 0 6 rfl rfl; have i7 := hX.c 0 7 rfl rfl; have i8 := hX.c 0 8 rfl rfl; have i9 := hX.c 0 9 rfl rfl; clear hb))
    go_ret
    refine ⟨ei _ _ ?_, by first | exact hX.below | exact hBB ▸ hX.below⟩
    clear hX
    first | rfl | omega | (simp; done) | (simp; omega)

theorem first_3 (o : Int) (b : Bool) (m r x p q y g n : Int) (ho : 8 ≤ o ∧ o ≤ 10) (hg : 0 ≤ g ∧ g ≤ 7) (hn : -128 ≤ n ∧ n ≤ 255) {A : Addr} {c : Nat} (W0 : World) (W : Frm A c W0) :
    Calls Tryd.prog 34 #[.agg #[.int .i64 o, .bool b, .int .i64 m, .int .i64 r, .int .i64 x, .int .i64 p, .int .i64 q, .int .i64 y, .int .i64 g, .int .i64 n]] W0 fun e w' => e = .returned (.int .i64 (rfR ⟨o, b, m, r, x, p, q, y, g, n⟩)) ∧ Below W0.heap.size W0 w' := by
  have hX := (St.start W).put [.int .i64 o, .bool b, .int .i64 m, .int .i64 r, .int .i64 x, .int .i64 p, .int .i64 q, .int .i64 y, .int .i64 g, .int .i64 n] 28
  have e : rfR ⟨o, b, m, r, x, p, q, y, g, n⟩ = 28672 + 512 * (o - 8) + 64 * g + fdR m r := by
    unfold rfR
    rw [if_neg (by simp; try omega), if_neg (by simp; try omega), if_neg (by simp; try omega), if_pos (by simp; try omega)]
  rw [e]
  clear e
  have hS := fdR_bds m r
  have hD := fdR_bds p q
  have j1 := fun w => rfield_any m r x w
  have j2 := fun w => rfield_any p q y w
  have j3 := fun w => islong_any o w
  have hil : isL o = true := by unfold isL; simp; omega
  rw [hil] at j3
  have ei : ∀ a b : Int, a = b → Ending.returned (.int .i64 a) = .returned (.int .i64 b) := fun a b h => ret_int h
  generalize fdR m r = U at *
  generalize fdR p q = V at *
  obtain ⟨hS1, hS2⟩ := hS
  obtain ⟨hD1, hD2⟩ := hD
  obtain ⟨hg1, hg2⟩ := hg
  obtain ⟨hn1, hn2⟩ := hn
  have hm : (n + 256).tmod 256 = (n + 256) % 256 := Int.tmod_eq_emod_of_nonneg (by omega)
  obtain ⟨ho1, ho2⟩ := ho
  have f0 : decide (1 ≤ o) = true := decide_eq_true (by omega)
  have f1 : decide (o ≤ 5) = false := decide_eq_false (by omega)
  have f2 : (o == 6) = false := by simp; omega
  have f3 : (o == 7) = false := by simp; omega
  cases b
  · go_enter Tryd.func34, Tryd.ntmps34
    go_upto_region 4 with fail
    have i0 := hX.c 0 0 rfl rfl; have i1 := hX.c 0 1 rfl rfl; have i2 := hX.c 0 2 rfl rfl; have i3 := hX.c 0 3 rfl rfl; have i4 := hX.c 0 4 rfl rfl; have i5 := hX.c 0 5 rfl rfl; have i6 := hX.c 0 6 rfl rfl; have i7 := hX.c 0 7 rfl rfl; have i8 := hX.c 0 8 rfl rfl; have i9 := hX.c 0 9 rfl rfl
    generalize W0.alloc (.cells #[.int .i64 o, .bool false, .int .i64 m, .int .i64 r, .int .i64 x, .int .i64 p, .int .i64 q, .int .i64 y, .int .i64 g, .int .i64 n] 28) = w1 at *
    generalize hBB : W0.heap.size = B at hX i0 i1 i2 i3 i4 i5 i6 i7 i8 i9 ⊢
    refine region_class (fun w' => St A c [(B, [.int .i64 o, .bool false, .int .i64 m, .int .i64 r, .int .i64 x, .int .i64 p, .int .i64 q, .int .i64 y, .int .i64 g, .int .i64 n])] W0 w') (by kernel_rfl) (by kernel_rfl) hX.drew ?_
    clear hX i0 i1 i2 i3 i4 i5 i6 i7 i8 i9
    repeat
      first
        | (refine BigFrame.wpQuiet_skip (by rfl) ?_
           simp only [Act.put, List.setIfInBounds_toArray, List.set_cons_zero, List.set_cons_succ])
        | (refine BigFrame.wpQuiet_want (by rfl) (fun K hK => ?_)
           apply Exists.intro
           refine ⟨fun wq hq => ?_, hK _ ?_⟩
           · have i0 := hq.c 0 0 rfl rfl; have i1 := hq.c 0 1 rfl rfl; have i2 := hq.c 0 2 rfl rfl; have i3 := hq.c 0 3 rfl rfl; have i4 := hq.c 0 4 rfl rfl; have i5 := hq.c 0 5 rfl rfl; have i6 := hq.c 0 6 rfl rfl; have i7 := hq.c 0 7 rfl rfl; have i8 := hq.c 0 8 rfl rfl; have i9 := hq.c 0 9 rfl rfl
             unfold Oper.quietAt
             go_simp
             first
               | with_reducible rfl
               | ((go_at_call 57); with_reducible refine (j1 _).mono ?_; exact fun e w' ⟨he, hb⟩ => ⟨he, hq.step hb⟩)
               | ((go_at_call 57); with_reducible refine (j2 _).mono ?_; exact fun e w' ⟨he, hb⟩ => ⟨he, hq.step hb⟩)
           clear hK K
           simp only [Act.put, List.setIfInBounds_toArray, List.set_cons_zero, List.set_cons_succ])
    refine wpQuiet_nil ?_
    intro w4 hX
    have i0 := hX.c 0 0 rfl rfl; have i1 := hX.c 0 1 rfl rfl; have i2 := hX.c 0 2 rfl rfl; have i3 := hX.c 0 3 rfl rfl; have i4 := hX.c 0 4 rfl rfl; have i5 := hX.c 0 5 rfl rfl; have i6 := hX.c 0 6 rfl rfl; have i7 := hX.c 0 7 rfl rfl; have i8 := hX.c 0 8 rfl rfl; have i9 := hX.c 0 9 rfl rfl
    go_wp2_with (first | (go_at_call 50; with_reducible refine (j3 _).mono ?_; rintro e w' ⟨rfl, hb⟩; have hX := hX.step hb; have i0 := hX.c 0 0 rfl rfl; have i1 := hX.c 0 1 rfl rfl; have i2 := hX.c 0 2 rfl rfl; have i3 := hX.c 0 3 rfl rfl; have i4 := hX.c 0 4 rfl rfl; have i5 := hX.c 0 5 rfl rfl; have i6 := hX.c 0 6 rfl rfl; have i7 := hX.c 0 7 rfl rfl; have i8 := hX.c 0 8 rfl rfl; have i9 := hX.c 0 9 rfl rfl; clear hb))
    go_ret
    refine ⟨ei _ _ ?_, by first | exact hX.below | exact hBB ▸ hX.below⟩
    clear hX
    first | rfl | omega | (simp; done) | (simp; omega)
  · go_enter Tryd.func34, Tryd.ntmps34
    go_upto_region 4 with fail
    have i0 := hX.c 0 0 rfl rfl; have i1 := hX.c 0 1 rfl rfl; have i2 := hX.c 0 2 rfl rfl; have i3 := hX.c 0 3 rfl rfl; have i4 := hX.c 0 4 rfl rfl; have i5 := hX.c 0 5 rfl rfl; have i6 := hX.c 0 6 rfl rfl; have i7 := hX.c 0 7 rfl rfl; have i8 := hX.c 0 8 rfl rfl; have i9 := hX.c 0 9 rfl rfl
    generalize W0.alloc (.cells #[.int .i64 o, .bool true, .int .i64 m, .int .i64 r, .int .i64 x, .int .i64 p, .int .i64 q, .int .i64 y, .int .i64 g, .int .i64 n] 28) = w1 at *
    generalize hBB : W0.heap.size = B at hX i0 i1 i2 i3 i4 i5 i6 i7 i8 i9 ⊢
    refine region_class (fun w' => St A c [(B, [.int .i64 o, .bool true, .int .i64 m, .int .i64 r, .int .i64 x, .int .i64 p, .int .i64 q, .int .i64 y, .int .i64 g, .int .i64 n])] W0 w') (by kernel_rfl) (by kernel_rfl) hX.drew ?_
    clear hX i0 i1 i2 i3 i4 i5 i6 i7 i8 i9
    repeat
      first
        | (refine BigFrame.wpQuiet_skip (by rfl) ?_
           simp only [Act.put, List.setIfInBounds_toArray, List.set_cons_zero, List.set_cons_succ])
        | (refine BigFrame.wpQuiet_want (by rfl) (fun K hK => ?_)
           apply Exists.intro
           refine ⟨fun wq hq => ?_, hK _ ?_⟩
           · have i0 := hq.c 0 0 rfl rfl; have i1 := hq.c 0 1 rfl rfl; have i2 := hq.c 0 2 rfl rfl; have i3 := hq.c 0 3 rfl rfl; have i4 := hq.c 0 4 rfl rfl; have i5 := hq.c 0 5 rfl rfl; have i6 := hq.c 0 6 rfl rfl; have i7 := hq.c 0 7 rfl rfl; have i8 := hq.c 0 8 rfl rfl; have i9 := hq.c 0 9 rfl rfl
             unfold Oper.quietAt
             go_simp
             first
               | with_reducible rfl
               | ((go_at_call 57); with_reducible refine (j1 _).mono ?_; exact fun e w' ⟨he, hb⟩ => ⟨he, hq.step hb⟩)
               | ((go_at_call 57); with_reducible refine (j2 _).mono ?_; exact fun e w' ⟨he, hb⟩ => ⟨he, hq.step hb⟩)
           clear hK K
           simp only [Act.put, List.setIfInBounds_toArray, List.set_cons_zero, List.set_cons_succ])
    refine wpQuiet_nil ?_
    intro w4 hX
    have i0 := hX.c 0 0 rfl rfl; have i1 := hX.c 0 1 rfl rfl; have i2 := hX.c 0 2 rfl rfl; have i3 := hX.c 0 3 rfl rfl; have i4 := hX.c 0 4 rfl rfl; have i5 := hX.c 0 5 rfl rfl; have i6 := hX.c 0 6 rfl rfl; have i7 := hX.c 0 7 rfl rfl; have i8 := hX.c 0 8 rfl rfl; have i9 := hX.c 0 9 rfl rfl
    go_wp2_with (first | (go_at_call 50; with_reducible refine (j3 _).mono ?_; rintro e w' ⟨rfl, hb⟩; have hX := hX.step hb; have i0 := hX.c 0 0 rfl rfl; have i1 := hX.c 0 1 rfl rfl; have i2 := hX.c 0 2 rfl rfl; have i3 := hX.c 0 3 rfl rfl; have i4 := hX.c 0 4 rfl rfl; have i5 := hX.c 0 5 rfl rfl; have i6 := hX.c 0 6 rfl rfl; have i7 := hX.c 0 7 rfl rfl; have i8 := hX.c 0 8 rfl rfl; have i9 := hX.c 0 9 rfl rfl; clear hb))
    go_ret
    refine ⟨ei _ _ ?_, by first | exact hX.below | exact hBB ▸ hX.below⟩
    clear hX
    first | rfl | omega | (simp; done) | (simp; omega)

theorem first_5 (o : Int) (b : Bool) (m r x p q y g n : Int) (ho : 12 ≤ o ∧ o ≤ 19) (hg : 0 ≤ g ∧ g ≤ 7) (hn : -128 ≤ n ∧ n ≤ 255) {A : Addr} {c : Nat} (W0 : World) (W : Frm A c W0) :
    Calls Tryd.prog 34 #[.agg #[.int .i64 o, .bool b, .int .i64 m, .int .i64 r, .int .i64 x, .int .i64 p, .int .i64 q, .int .i64 y, .int .i64 g, .int .i64 n]] W0 fun e w' => e = .returned (.int .i64 (rfR ⟨o, b, m, r, x, p, q, y, g, n⟩)) ∧ Below W0.heap.size W0 w' := by
  have hX := (St.start W).put [.int .i64 o, .bool b, .int .i64 m, .int .i64 r, .int .i64 x, .int .i64 p, .int .i64 q, .int .i64 y, .int .i64 g, .int .i64 n] 28
  have e : rfR ⟨o, b, m, r, x, p, q, y, g, n⟩ = (if b = true then 32768 else 0) + 2560 + 64 * (o - 12) + fdR p q := by
    unfold rfR
    rw [if_neg (by simp; try omega), if_neg (by simp; try omega), if_neg (by simp; try omega), if_neg (by simp; try omega), if_neg (by simp; try omega), if_pos (by simp; try omega)]
  rw [e]
  clear e
  have hS := fdR_bds m r
  have hD := fdR_bds p q
  have j1 := fun w => rfield_any m r x w
  have j2 := fun w => rfield_any p q y w
  have j3 := fun w => islong_any o w
  have hil : isL o = false := by unfold isL; simp; omega
  rw [hil] at j3
  have ei : ∀ a b : Int, a = b → Ending.returned (.int .i64 a) = .returned (.int .i64 b) := fun a b h => ret_int h
  generalize fdR m r = U at *
  generalize fdR p q = V at *
  obtain ⟨hS1, hS2⟩ := hS
  obtain ⟨hD1, hD2⟩ := hD
  obtain ⟨hg1, hg2⟩ := hg
  obtain ⟨hn1, hn2⟩ := hn
  have hm : (n + 256).tmod 256 = (n + 256) % 256 := Int.tmod_eq_emod_of_nonneg (by omega)
  obtain ⟨ho1, ho2⟩ := ho
  have f0 : decide (1 ≤ o) = true := decide_eq_true (by omega)
  have f1 : decide (o ≤ 5) = false := decide_eq_false (by omega)
  have f2 : (o == 6) = false := by simp; omega
  have f3 : (o == 7) = false := by simp; omega
  have f4 : (o == 11) = false := by simp; omega
  have f5 : decide (12 ≤ o) = true := decide_eq_true (by omega)
  have f6 : decide (o ≤ 19) = true := decide_eq_true (by omega)
  cases b
  · go_enter Tryd.func34, Tryd.ntmps34
    go_upto_region 4 with fail
    have i0 := hX.c 0 0 rfl rfl; have i1 := hX.c 0 1 rfl rfl; have i2 := hX.c 0 2 rfl rfl; have i3 := hX.c 0 3 rfl rfl; have i4 := hX.c 0 4 rfl rfl; have i5 := hX.c 0 5 rfl rfl; have i6 := hX.c 0 6 rfl rfl; have i7 := hX.c 0 7 rfl rfl; have i8 := hX.c 0 8 rfl rfl; have i9 := hX.c 0 9 rfl rfl
    generalize W0.alloc (.cells #[.int .i64 o, .bool false, .int .i64 m, .int .i64 r, .int .i64 x, .int .i64 p, .int .i64 q, .int .i64 y, .int .i64 g, .int .i64 n] 28) = w1 at *
    generalize hBB : W0.heap.size = B at hX i0 i1 i2 i3 i4 i5 i6 i7 i8 i9 ⊢
    refine region_class (fun w' => St A c [(B, [.int .i64 o, .bool false, .int .i64 m, .int .i64 r, .int .i64 x, .int .i64 p, .int .i64 q, .int .i64 y, .int .i64 g, .int .i64 n])] W0 w') (by kernel_rfl) (by kernel_rfl) hX.drew ?_
    clear hX i0 i1 i2 i3 i4 i5 i6 i7 i8 i9
    repeat
      first
        | (refine BigFrame.wpQuiet_skip (by rfl) ?_
           simp only [Act.put, List.setIfInBounds_toArray, List.set_cons_zero, List.set_cons_succ])
        | (refine BigFrame.wpQuiet_want (by rfl) (fun K hK => ?_)
           apply Exists.intro
           refine ⟨fun wq hq => ?_, hK _ ?_⟩
           · have i0 := hq.c 0 0 rfl rfl; have i1 := hq.c 0 1 rfl rfl; have i2 := hq.c 0 2 rfl rfl; have i3 := hq.c 0 3 rfl rfl; have i4 := hq.c 0 4 rfl rfl; have i5 := hq.c 0 5 rfl rfl; have i6 := hq.c 0 6 rfl rfl; have i7 := hq.c 0 7 rfl rfl; have i8 := hq.c 0 8 rfl rfl; have i9 := hq.c 0 9 rfl rfl
             unfold Oper.quietAt
             go_simp
             first
               | with_reducible rfl
               | ((go_at_call 57); with_reducible refine (j1 _).mono ?_; exact fun e w' ⟨he, hb⟩ => ⟨he, hq.step hb⟩)
               | ((go_at_call 57); with_reducible refine (j2 _).mono ?_; exact fun e w' ⟨he, hb⟩ => ⟨he, hq.step hb⟩)
           clear hK K
           simp only [Act.put, List.setIfInBounds_toArray, List.set_cons_zero, List.set_cons_succ])
    refine wpQuiet_nil ?_
    intro w4 hX
    have i0 := hX.c 0 0 rfl rfl; have i1 := hX.c 0 1 rfl rfl; have i2 := hX.c 0 2 rfl rfl; have i3 := hX.c 0 3 rfl rfl; have i4 := hX.c 0 4 rfl rfl; have i5 := hX.c 0 5 rfl rfl; have i6 := hX.c 0 6 rfl rfl; have i7 := hX.c 0 7 rfl rfl; have i8 := hX.c 0 8 rfl rfl; have i9 := hX.c 0 9 rfl rfl
    go_wp2_with (first | (go_at_call 50; with_reducible refine (j3 _).mono ?_; rintro e w' ⟨rfl, hb⟩; have hX := hX.step hb; have i0 := hX.c 0 0 rfl rfl; have i1 := hX.c 0 1 rfl rfl; have i2 := hX.c 0 2 rfl rfl; have i3 := hX.c 0 3 rfl rfl; have i4 := hX.c 0 4 rfl rfl; have i5 := hX.c 0 5 rfl rfl; have i6 := hX.c 0 6 rfl rfl; have i7 := hX.c 0 7 rfl rfl; have i8 := hX.c 0 8 rfl rfl; have i9 := hX.c 0 9 rfl rfl; clear hb))
    go_ret
    refine ⟨ei _ _ ?_, by first | exact hX.below | exact hBB ▸ hX.below⟩
    clear hX
    first | rfl | omega | (simp; done) | (simp; omega)
  · go_enter Tryd.func34, Tryd.ntmps34
    go_upto_region 4 with fail
    have i0 := hX.c 0 0 rfl rfl; have i1 := hX.c 0 1 rfl rfl; have i2 := hX.c 0 2 rfl rfl; have i3 := hX.c 0 3 rfl rfl; have i4 := hX.c 0 4 rfl rfl; have i5 := hX.c 0 5 rfl rfl; have i6 := hX.c 0 6 rfl rfl; have i7 := hX.c 0 7 rfl rfl; have i8 := hX.c 0 8 rfl rfl; have i9 := hX.c 0 9 rfl rfl
    generalize W0.alloc (.cells #[.int .i64 o, .bool true, .int .i64 m, .int .i64 r, .int .i64 x, .int .i64 p, .int .i64 q, .int .i64 y, .int .i64 g, .int .i64 n] 28) = w1 at *
    generalize hBB : W0.heap.size = B at hX i0 i1 i2 i3 i4 i5 i6 i7 i8 i9 ⊢
    refine region_class (fun w' => St A c [(B, [.int .i64 o, .bool true, .int .i64 m, .int .i64 r, .int .i64 x, .int .i64 p, .int .i64 q, .int .i64 y, .int .i64 g, .int .i64 n])] W0 w') (by kernel_rfl) (by kernel_rfl) hX.drew ?_
    clear hX i0 i1 i2 i3 i4 i5 i6 i7 i8 i9
    repeat
      first
        | (refine BigFrame.wpQuiet_skip (by rfl) ?_
           simp only [Act.put, List.setIfInBounds_toArray, List.set_cons_zero, List.set_cons_succ])
        | (refine BigFrame.wpQuiet_want (by rfl) (fun K hK => ?_)
           apply Exists.intro
           refine ⟨fun wq hq => ?_, hK _ ?_⟩
           · have i0 := hq.c 0 0 rfl rfl; have i1 := hq.c 0 1 rfl rfl; have i2 := hq.c 0 2 rfl rfl; have i3 := hq.c 0 3 rfl rfl; have i4 := hq.c 0 4 rfl rfl; have i5 := hq.c 0 5 rfl rfl; have i6 := hq.c 0 6 rfl rfl; have i7 := hq.c 0 7 rfl rfl; have i8 := hq.c 0 8 rfl rfl; have i9 := hq.c 0 9 rfl rfl
             unfold Oper.quietAt
             go_simp
             first
               | with_reducible rfl
               | ((go_at_call 57); with_reducible refine (j1 _).mono ?_; exact fun e w' ⟨he, hb⟩ => ⟨he, hq.step hb⟩)
               | ((go_at_call 57); with_reducible refine (j2 _).mono ?_; exact fun e w' ⟨he, hb⟩ => ⟨he, hq.step hb⟩)
           clear hK K
           simp only [Act.put, List.setIfInBounds_toArray, List.set_cons_zero, List.set_cons_succ])
    refine wpQuiet_nil ?_
    intro w4 hX
    have i0 := hX.c 0 0 rfl rfl; have i1 := hX.c 0 1 rfl rfl; have i2 := hX.c 0 2 rfl rfl; have i3 := hX.c 0 3 rfl rfl; have i4 := hX.c 0 4 rfl rfl; have i5 := hX.c 0 5 rfl rfl; have i6 := hX.c 0 6 rfl rfl; have i7 := hX.c 0 7 rfl rfl; have i8 := hX.c 0 8 rfl rfl; have i9 := hX.c 0 9 rfl rfl
    go_wp2_with (first | (go_at_call 50; with_reducible refine (j3 _).mono ?_; rintro e w' ⟨rfl, hb⟩; have hX := hX.step hb; have i0 := hX.c 0 0 rfl rfl; have i1 := hX.c 0 1 rfl rfl; have i2 := hX.c 0 2 rfl rfl; have i3 := hX.c 0 3 rfl rfl; have i4 := hX.c 0 4 rfl rfl; have i5 := hX.c 0 5 rfl rfl; have i6 := hX.c 0 6 rfl rfl; have i7 := hX.c 0 7 rfl rfl; have i8 := hX.c 0 8 rfl rfl; have i9 := hX.c 0 9 rfl rfl; clear hb))
    go_ret
    refine ⟨ei _ _ ?_, by first | exact hX.below | exact hBB ▸ hX.below⟩
    clear hX
    first | rfl | omega | (simp; done) | (simp; omega)

theorem first_7 (b : Bool) (m r x p q y g n : Int) (hg : 0 ≤ g ∧ g ≤ 7) (hn : -128 ≤ n ∧ n ≤ 255) {A : Addr} {c : Nat} (W0 : World) (W : Frm A c W0) :
    Calls Tryd.prog 34 #[.agg #[.int .i64 24, .bool b, .int .i64 m, .int .i64 r, .int .i64 x, .int .i64 p, .int .i64 q, .int .i64 y, .int .i64 g, .int .i64 n]] W0 fun e w' => e = .returned (.int .i64 (rfR ⟨24, b, m, r, x, p, q, y, g, n⟩)) ∧ Below W0.heap.size W0 w' := by
  have hX := (St.start W).put [.int .i64 24, .bool b, .int .i64 m, .int .i64 r, .int .i64 x, .int .i64 p, .int .i64 q, .int .i64 y, .int .i64 g, .int .i64 n] 28
  have e : rfR ⟨24, b, m, r, x, p, q, y, g, n⟩ = 192 + fdR p q := by
    unfold rfR
    rw [if_neg (by simp; try omega), if_neg (by simp; try omega), if_neg (by simp; try omega), if_neg (by simp; try omega), if_neg (by simp; try omega), if_neg (by simp; try omega), if_neg (by simp; try omega), if_pos (by simp; try omega)]
  rw [e]
  clear e
  have hS := fdR_bds m r
  have hD := fdR_bds p q
  have j1 := fun w => rfield_any m r x w
  have j2 := fun w => rfield_any p q y w
  have j3 := fun w => islong_any 24 w
  have hil : isL 24 = false := by unfold isL; simp
  rw [hil] at j3
  have ei : ∀ a b : Int, a = b → Ending.returned (.int .i64 a) = .returned (.int .i64 b) := fun a b h => ret_int h
  generalize fdR m r = U at *
  generalize fdR p q = V at *
  obtain ⟨hS1, hS2⟩ := hS
  obtain ⟨hD1, hD2⟩ := hD
  obtain ⟨hg1, hg2⟩ := hg
  obtain ⟨hn1, hn2⟩ := hn
  have hm : (n + 256).tmod 256 = (n + 256) % 256 := Int.tmod_eq_emod_of_nonneg (by omega)
  cases b
  · go_enter Tryd.func34, Tryd.ntmps34
    go_upto_region 4 with fail
    have i0 := hX.c 0 0 rfl rfl; have i1 := hX.c 0 1 rfl rfl; have i2 := hX.c 0 2 rfl rfl; have i3 := hX.c 0 3 rfl rfl; have i4 := hX.c 0 4 rfl rfl; have i5 := hX.c 0 5 rfl rfl; have i6 := hX.c 0 6 rfl rfl; have i7 := hX.c 0 7 rfl rfl; have i8 := hX.c 0 8 rfl rfl; have i9 := hX.c 0 9 rfl rfl
    generalize W0.alloc (.cells #[.int .i64 24, .bool false, .int .i64 m, .int .i64 r, .int .i64 x, .int .i64 p, .int .i64 q, .int .i64 y, .int .i64 g, .int .i64 n] 28) = w1 at *
    generalize hBB : W0.heap.size = B at hX i0 i1 i2 i3 i4 i5 i6 i7 i8 i9 ⊢
    refine region_class (fun w' => St A c [(B, [.int .i64 24, .bool false, .int .i64 m, .int .i64 r, .int .i64 x, .int .i64 p, .int .i64 q, .int .i64 y, .int .i64 g, .int .i64 n])] W0 w') (by kernel_rfl) (by kernel_rfl) hX.drew ?_
    clear hX i0 i1 i2 i3 i4 i5 i6 i7 i8 i9
    repeat
      first
        | (refine BigFrame.wpQuiet_skip (by rfl) ?_
           simp only [Act.put, List.setIfInBounds_toArray, List.set_cons_zero, List.set_cons_succ])
        | (refine BigFrame.wpQuiet_want (by rfl) (fun K hK => ?_)
           apply Exists.intro
           refine ⟨fun wq hq => ?_, hK _ ?_⟩
           · have i0 := hq.c 0 0 rfl rfl; have i1 := hq.c 0 1 rfl rfl; have i2 := hq.c 0 2 rfl rfl; have i3 := hq.c 0 3 rfl rfl; have i4 := hq.c 0 4 rfl rfl; have i5 := hq.c 0 5 rfl rfl; have i6 := hq.c 0 6 rfl rfl; have i7 := hq.c 0 7 rfl rfl; have i8 := hq.c 0 8 rfl rfl; have i9 := hq.c 0 9 rfl rfl
             unfold Oper.quietAt
             go_simp
             first
               | with_reducible rfl
               | ((go_at_call 57); with_reducible refine (j1 _).mono ?_; exact fun e w' ⟨he, hb⟩ => ⟨he, hq.step hb⟩)
               | ((go_at_call 57); with_reducible refine (j2 _).mono ?_; exact fun e w' ⟨he, hb⟩ => ⟨he, hq.step hb⟩)
           clear hK K
           simp only [Act.put, List.setIfInBounds_toArray, List.set_cons_zero, List.set_cons_succ])
    refine wpQuiet_nil ?_
    intro w4 hX
    have i0 := hX.c 0 0 rfl rfl; have i1 := hX.c 0 1 rfl rfl; have i2 := hX.c 0 2 rfl rfl; have i3 := hX.c 0 3 rfl rfl; have i4 := hX.c 0 4 rfl rfl; have i5 := hX.c 0 5 rfl rfl; have i6 := hX.c 0 6 rfl rfl; have i7 := hX.c 0 7 rfl rfl; have i8 := hX.c 0 8 rfl rfl; have i9 := hX.c 0 9 rfl rfl
    go_wp2_with (first | (go_at_call 50; with_reducible refine (j3 _).mono ?_; rintro e w' ⟨rfl, hb⟩; have hX := hX.step hb; have i0 := hX.c 0 0 rfl rfl; have i1 := hX.c 0 1 rfl rfl; have i2 := hX.c 0 2 rfl rfl; have i3 := hX.c 0 3 rfl rfl; have i4 := hX.c 0 4 rfl rfl; have i5 := hX.c 0 5 rfl rfl; have i6 := hX.c 0 6 rfl rfl; have i7 := hX.c 0 7 rfl rfl; have i8 := hX.c 0 8 rfl rfl; have i9 := hX.c 0 9 rfl rfl; clear hb))
    go_ret
    refine ⟨ei _ _ ?_, by first | exact hX.below | exact hBB ▸ hX.below⟩
    clear hX
    first | rfl | omega | (simp; done) | (simp; omega)
  · go_enter Tryd.func34, Tryd.ntmps34
    go_upto_region 4 with fail
    have i0 := hX.c 0 0 rfl rfl; have i1 := hX.c 0 1 rfl rfl; have i2 := hX.c 0 2 rfl rfl; have i3 := hX.c 0 3 rfl rfl; have i4 := hX.c 0 4 rfl rfl; have i5 := hX.c 0 5 rfl rfl; have i6 := hX.c 0 6 rfl rfl; have i7 := hX.c 0 7 rfl rfl; have i8 := hX.c 0 8 rfl rfl; have i9 := hX.c 0 9 rfl rfl
    generalize W0.alloc (.cells #[.int .i64 24, .bool true, .int .i64 m, .int .i64 r, .int .i64 x, .int .i64 p, .int .i64 q, .int .i64 y, .int .i64 g, .int .i64 n] 28) = w1 at *
    generalize hBB : W0.heap.size = B at hX i0 i1 i2 i3 i4 i5 i6 i7 i8 i9 ⊢
    refine region_class (fun w' => St A c [(B, [.int .i64 24, .bool true, .int .i64 m, .int .i64 r, .int .i64 x, .int .i64 p, .int .i64 q, .int .i64 y, .int .i64 g, .int .i64 n])] W0 w') (by kernel_rfl) (by kernel_rfl) hX.drew ?_
    clear hX i0 i1 i2 i3 i4 i5 i6 i7 i8 i9
    repeat
      first
        | (refine BigFrame.wpQuiet_skip (by rfl) ?_
           simp only [Act.put, List.setIfInBounds_toArray, List.set_cons_zero, List.set_cons_succ])
        | (refine BigFrame.wpQuiet_want (by rfl) (fun K hK => ?_)
           apply Exists.intro
           refine ⟨fun wq hq => ?_, hK _ ?_⟩
           · have i0 := hq.c 0 0 rfl rfl; have i1 := hq.c 0 1 rfl rfl; have i2 := hq.c 0 2 rfl rfl; have i3 := hq.c 0 3 rfl rfl; have i4 := hq.c 0 4 rfl rfl; have i5 := hq.c 0 5 rfl rfl; have i6 := hq.c 0 6 rfl rfl; have i7 := hq.c 0 7 rfl rfl; have i8 := hq.c 0 8 rfl rfl; have i9 := hq.c 0 9 rfl rfl
             unfold Oper.quietAt
             go_simp
             first
               | with_reducible rfl
               | ((go_at_call 57); with_reducible refine (j1 _).mono ?_; exact fun e w' ⟨he, hb⟩ => ⟨he, hq.step hb⟩)
               | ((go_at_call 57); with_reducible refine (j2 _).mono ?_; exact fun e w' ⟨he, hb⟩ => ⟨he, hq.step hb⟩)
           clear hK K
           simp only [Act.put, List.setIfInBounds_toArray, List.set_cons_zero, List.set_cons_succ])
    refine wpQuiet_nil ?_
    intro w4 hX
    have i0 := hX.c 0 0 rfl rfl; have i1 := hX.c 0 1 rfl rfl; have i2 := hX.c 0 2 rfl rfl; have i3 := hX.c 0 3 rfl rfl; have i4 := hX.c 0 4 rfl rfl; have i5 := hX.c 0 5 rfl rfl; have i6 := hX.c 0 6 rfl rfl; have i7 := hX.c 0 7 rfl rfl; have i8 := hX.c 0 8 rfl rfl; have i9 := hX.c 0 9 rfl rfl
    go_wp2_with (first | (go_at_call 50; with_reducible refine (j3 _).mono ?_; rintro e w' ⟨rfl, hb⟩; have hX := hX.step hb; have i0 := hX.c 0 0 rfl rfl; have i1 := hX.c 0 1 rfl rfl; have i2 := hX.c 0 2 rfl rfl; have i3 := hX.c 0 3 rfl rfl; have i4 := hX.c 0 4 rfl rfl; have i5 := hX.c 0 5 rfl rfl; have i6 := hX.c 0 6 rfl rfl; have i7 := hX.c 0 7 rfl rfl; have i8 := hX.c 0 8 rfl rfl; have i9 := hX.c 0 9 rfl rfl; clear hb))
    go_ret
    refine ⟨ei _ _ ?_, by first | exact hX.below | exact hBB ▸ hX.below⟩
    clear hX
    first | rfl | omega | (simp; done) | (simp; omega)

theorem first_9 (o : Int) (b : Bool) (m r x p q y g n : Int) (ho : 26 ≤ o ∧ o ≤ 32) (hg : 0 ≤ g ∧ g ≤ 7) (hn : -128 ≤ n ∧ n ≤ 255) {A : Addr} {c : Nat} (W0 : World) (W : Frm A c W0) :
    Calls Tryd.prog 34 #[.agg #[.int .i64 o, .bool b, .int .i64 m, .int .i64 r, .int .i64 x, .int .i64 p, .int .i64 q, .int .i64 y, .int .i64 g, .int .i64 n]] W0 fun e w' => e = .returned (.int .i64 (rfR ⟨o, b, m, r, x, p, q, y, g, n⟩)) ∧ Below W0.heap.size W0 w' := by
  have hX := (St.start W).put [.int .i64 o, .bool b, .int .i64 m, .int .i64 r, .int .i64 x, .int .i64 p, .int .i64 q, .int .i64 y, .int .i64 g, .int .i64 n] 28
  have e : rfR ⟨o, b, m, r, x, p, q, y, g, n⟩ = 256 * (o - 26 + 1) + (n + 256) % 256 := by
    unfold rfR
    rw [if_neg (by simp; try omega), if_neg (by simp; try omega), if_neg (by simp; try omega), if_neg (by simp; try omega), if_neg (by simp; try omega), if_neg (by simp; try omega), if_neg (by simp; try omega), if_neg (by simp; try omega), if_neg (by simp; try omega), if_pos (by simp; try omega)]
  rw [e]
  clear e
  have hS := fdR_bds m r
  have hD := fdR_bds p q
  have j1 := fun w => rfield_any m r x w
  have j2 := fun w => rfield_any p q y w
  have j3 := fun w => islong_any o w
  have hil : isL o = false := by unfold isL; simp; omega
  rw [hil] at j3
  have ei : ∀ a b : Int, a = b → Ending.returned (.int .i64 a) = .returned (.int .i64 b) := fun a b h => ret_int h
  generalize fdR m r = U at *
  generalize fdR p q = V at *
  obtain ⟨hS1, hS2⟩ := hS
  obtain ⟨hD1, hD2⟩ := hD
  obtain ⟨hg1, hg2⟩ := hg
  obtain ⟨hn1, hn2⟩ := hn
  have hm : (n + 256).tmod 256 = (n + 256) % 256 := Int.tmod_eq_emod_of_nonneg (by omega)
  obtain ⟨ho1, ho2⟩ := ho
  have f0 : decide (1 ≤ o) = true := decide_eq_true (by omega)
  have f1 : decide (o ≤ 5) = false := decide_eq_false (by omega)
  have f2 : (o == 6) = false := by simp; omega
  have f3 : (o == 7) = false := by simp; omega
  have f4 : (o == 11) = false := by simp; omega
  have f5 : decide (12 ≤ o) = true := decide_eq_true (by omega)
  have f6 : decide (o ≤ 19) = false := decide_eq_false (by omega)
  have f7 : decide (20 ≤ o) = true := decide_eq_true (by omega)
  have f8 : decide (o ≤ 23) = false := decide_eq_false (by omega)
  have f9 : (o == 24) = false := by simp; omega
  have f10 : (o == 25) = false := by simp; omega
  have f11 : decide (26 ≤ o) = true := decide_eq_true (by omega)
  have f12 : decide (o ≤ 32) = true := decide_eq_true (by omega)
  cases b
  · go_enter Tryd.func34, Tryd.ntmps34
    go_upto_region 4 with fail
    have i0 := hX.c 0 0 rfl rfl; have i1 := hX.c 0 1 rfl rfl; have i2 := hX.c 0 2 rfl rfl; have i3 := hX.c 0 3 rfl rfl; have i4 := hX.c 0 4 rfl rfl; have i5 := hX.c 0 5 rfl rfl; have i6 := hX.c 0 6 rfl rfl; have i7 := hX.c 0 7 rfl rfl; have i8 := hX.c 0 8 rfl rfl; have i9 := hX.c 0 9 rfl rfl
    generalize W0.alloc (.cells #[.int .i64 o, .bool false, .int .i64 m, .int .i64 r, .int .i64 x, .int .i64 p, .int .i64 q, .int .i64 y, .int .i64 g, .int .i64 n] 28) = w1 at *
    generalize hBB : W0.heap.size = B at hX i0 i1 i2 i3 i4 i5 i6 i7 i8 i9 ⊢
    refine region_class (fun w' => St A c [(B, [.int .i64 o, .bool false, .int .i64 m, .int .i64 r, .int .i64 x, .int .i64 p, .int .i64 q, .int .i64 y, .int .i64 g, .int .i64 n])] W0 w') (by kernel_rfl) (by kernel_rfl) hX.drew ?_
    clear hX i0 i1 i2 i3 i4 i5 i6 i7 i8 i9
    repeat
      first
        | (refine BigFrame.wpQuiet_skip (by rfl) ?_
           simp only [Act.put, List.setIfInBounds_toArray, List.set_cons_zero, List.set_cons_succ])
        | (refine BigFrame.wpQuiet_want (by rfl) (fun K hK => ?_)
           apply Exists.intro
           refine ⟨fun wq hq => ?_, hK _ ?_⟩
           · have i0 := hq.c 0 0 rfl rfl; have i1 := hq.c 0 1 rfl rfl; have i2 := hq.c 0 2 rfl rfl; have i3 := hq.c 0 3 rfl rfl; have i4 := hq.c 0 4 rfl rfl; have i5 := hq.c 0 5 rfl rfl; have i6 := hq.c 0 6 rfl rfl; have i7 := hq.c 0 7 rfl rfl; have i8 := hq.c 0 8 rfl rfl; have i9 := hq.c 0 9 rfl rfl
             unfold Oper.quietAt
             go_simp
             first
               | with_reducible rfl
               | ((go_at_call 57); with_reducible refine (j1 _).mono ?_; exact fun e w' ⟨he, hb⟩ => ⟨he, hq.step hb⟩)
               | ((go_at_call 57); with_reducible refine (j2 _).mono ?_; exact fun e w' ⟨he, hb⟩ => ⟨he, hq.step hb⟩)
           clear hK K
           simp only [Act.put, List.setIfInBounds_toArray, List.set_cons_zero, List.set_cons_succ])
    refine wpQuiet_nil ?_
    intro w4 hX
    have i0 := hX.c 0 0 rfl rfl; have i1 := hX.c 0 1 rfl rfl; have i2 := hX.c 0 2 rfl rfl; have i3 := hX.c 0 3 rfl rfl; have i4 := hX.c 0 4 rfl rfl; have i5 := hX.c 0 5 rfl rfl; have i6 := hX.c 0 6 rfl rfl; have i7 := hX.c 0 7 rfl rfl; have i8 := hX.c 0 8 rfl rfl; have i9 := hX.c 0 9 rfl rfl
    go_wp2_with (first | (go_at_call 50; with_reducible refine (j3 _).mono ?_; rintro e w' ⟨rfl, hb⟩; have hX := hX.step hb; have i0 := hX.c 0 0 rfl rfl; have i1 := hX.c 0 1 rfl rfl; have i2 := hX.c 0 2 rfl rfl; have i3 := hX.c 0 3 rfl rfl; have i4 := hX.c 0 4 rfl rfl; have i5 := hX.c 0 5 rfl rfl; have i6 := hX.c 0 6 rfl rfl; have i7 := hX.c 0 7 rfl rfl; have i8 := hX.c 0 8 rfl rfl; have i9 := hX.c 0 9 rfl rfl; clear hb))
    go_ret
    refine ⟨ei _ _ ?_, by first | exact hX.below | exact hBB ▸ hX.below⟩
    clear hX
    first | rfl | omega | (simp; done) | (simp; omega)
  · go_enter Tryd.func34, Tryd.ntmps34
    go_upto_region 4 with fail
    have i0 := hX.c 0 0 rfl rfl; have i1 := hX.c 0 1 rfl rfl; have i2 := hX.c 0 2 rfl rfl; have i3 := hX.c 0 3 rfl rfl; have i4 := hX.c 0 4 rfl rfl; have i5 := hX.c 0 5 rfl rfl; have i6 := hX.c 0 6 rfl rfl; have i7 := hX.c 0 7 rfl rfl; have i8 := hX.c 0 8 rfl rfl; have i9 := hX.c 0 9 rfl rfl
    generalize W0.alloc (.cells #[.int .i64 o, .bool true, .int .i64 m, .int .i64 r, .int .i64 x, .int .i64 p, .int .i64 q, .int .i64 y, .int .i64 g, .int .i64 n] 28) = w1 at *
    generalize hBB : W0.heap.size = B at hX i0 i1 i2 i3 i4 i5 i6 i7 i8 i9 ⊢
    refine region_class (fun w' => St A c [(B, [.int .i64 o, .bool true, .int .i64 m, .int .i64 r, .int .i64 x, .int .i64 p, .int .i64 q, .int .i64 y, .int .i64 g, .int .i64 n])] W0 w') (by kernel_rfl) (by kernel_rfl) hX.drew ?_
    clear hX i0 i1 i2 i3 i4 i5 i6 i7 i8 i9
    repeat
      first
        | (refine BigFrame.wpQuiet_skip (by rfl) ?_
           simp only [Act.put, List.setIfInBounds_toArray, List.set_cons_zero, List.set_cons_succ])
        | (refine BigFrame.wpQuiet_want (by rfl) (fun K hK => ?_)
           apply Exists.intro
           refine ⟨fun wq hq => ?_, hK _ ?_⟩
           · have i0 := hq.c 0 0 rfl rfl; have i1 := hq.c 0 1 rfl rfl; have i2 := hq.c 0 2 rfl rfl; have i3 := hq.c 0 3 rfl rfl; have i4 := hq.c 0 4 rfl rfl; have i5 := hq.c 0 5 rfl rfl; have i6 := hq.c 0 6 rfl rfl; have i7 := hq.c 0 7 rfl rfl; have i8 := hq.c 0 8 rfl rfl; have i9 := hq.c 0 9 rfl rfl
             unfold Oper.quietAt
             go_simp
             first
               | with_reducible rfl
               | ((go_at_call 57); with_reducible refine (j1 _).mono ?_; exact fun e w' ⟨he, hb⟩ => ⟨he, hq.step hb⟩)
               | ((go_at_call 57); with_reducible refine (j2 _).mono ?_; exact fun e w' ⟨he, hb⟩ => ⟨he, hq.step hb⟩)
           clear hK K
           simp only [Act.put, List.setIfInBounds_toArray, List.set_cons_zero, List.set_cons_succ])
    refine wpQuiet_nil ?_
    intro w4 hX
    have i0 := hX.c 0 0 rfl rfl; have i1 := hX.c 0 1 rfl rfl; have i2 := hX.c 0 2 rfl rfl; have i3 := hX.c 0 3 rfl rfl; have i4 := hX.c 0 4 rfl rfl; have i5 := hX.c 0 5 rfl rfl; have i6 := hX.c 0 6 rfl rfl; have i7 := hX.c 0 7 rfl rfl; have i8 := hX.c 0 8 rfl rfl; have i9 := hX.c 0 9 rfl rfl
    go_wp2_with (first | (go_at_call 50; with_reducible refine (j3 _).mono ?_; rintro e w' ⟨rfl, hb⟩; have hX := hX.step hb; have i0 := hX.c 0 0 rfl rfl; have i1 := hX.c 0 1 rfl rfl; have i2 := hX.c 0 2 rfl rfl; have i3 := hX.c 0 3 rfl rfl; have i4 := hX.c 0 4 rfl rfl; have i5 := hX.c 0 5 rfl rfl; have i6 := hX.c 0 6 rfl rfl; have i7 := hX.c 0 7 rfl rfl; have i8 := hX.c 0 8 rfl rfl; have i9 := hX.c 0 9 rfl rfl; clear hb))
    go_ret
    refine ⟨ei _ _ ?_, by first | exact hX.below | exact hBB ▸ hX.below⟩
    clear hX
    first | rfl | omega | (simp; done) | (simp; omega)

theorem first_11 (b : Bool) (m r x p q y g n : Int) (hg : 0 ≤ g ∧ g ≤ 7) (hn : -128 ≤ n ∧ n ≤ 255) {A : Addr} {c : Nat} (W0 : World) (W : Frm A c W0) :
    Calls Tryd.prog 34 #[.agg #[.int .i64 41, .bool b, .int .i64 m, .int .i64 r, .int .i64 x, .int .i64 p, .int .i64 q, .int .i64 y, .int .i64 g, .int .i64 n]] W0 fun e w' => e = .returned (.int .i64 (rfR ⟨41, b, m, r, x, p, q, y, g, n⟩)) ∧ Below W0.heap.size W0 w' := by
  have hX := (St.start W).put [.int .i64 41, .bool b, .int .i64 m, .int .i64 r, .int .i64 x, .int .i64 p, .int .i64 q, .int .i64 y, .int .i64 g, .int .i64 n] 28
  have e : rfR ⟨41, b, m, r, x, p, q, y, g, n⟩ = 64 + fdR p q := by
    unfold rfR
    rw [if_neg (by simp; try omega), if_neg (by simp; try omega), if_neg (by simp; try omega), if_neg (by simp; try omega), if_neg (by simp; try omega), if_neg (by simp; try omega), if_neg (by simp; try omega), if_neg (by simp; try omega), if_neg (by simp; try omega), if_neg (by simp; try omega), if_neg (by simp; try omega), if_pos (by simp; try omega)]
  rw [e]
  clear e
  have hS := fdR_bds m r
  have hD := fdR_bds p q
  have j1 := fun w => rfield_any m r x w
  have j2 := fun w => rfield_any p q y w
  have j3 := fun w => islong_any 41 w
  have hil : isL 41 = false := by unfold isL; simp
  rw [hil] at j3
  have ei : ∀ a b : Int, a = b → Ending.returned (.int .i64 a) = .returned (.int .i64 b) := fun a b h => ret_int h
  generalize fdR m r = U at *
  generalize fdR p q = V at *
  obtain ⟨hS1, hS2⟩ := hS
  obtain ⟨hD1, hD2⟩ := hD
  obtain ⟨hg1, hg2⟩ := hg
  obtain ⟨hn1, hn2⟩ := hn
  have hm : (n + 256).tmod 256 = (n + 256) % 256 := Int.tmod_eq_emod_of_nonneg (by omega)
  cases b
  · go_enter Tryd.func34, Tryd.ntmps34
    go_upto_region 4 with fail
    have i0 := hX.c 0 0 rfl rfl; have i1 := hX.c 0 1 rfl rfl; have i2 := hX.c 0 2 rfl rfl; have i3 := hX.c 0 3 rfl rfl; have i4 := hX.c 0 4 rfl rfl; have i5 := hX.c 0 5 rfl rfl; have i6 := hX.c 0 6 rfl rfl; have i7 := hX.c 0 7 rfl rfl; have i8 := hX.c 0 8 rfl rfl; have i9 := hX.c 0 9 rfl rfl
    generalize W0.alloc (.cells #[.int .i64 41, .bool false, .int .i64 m, .int .i64 r, .int .i64 x, .int .i64 p, .int .i64 q, .int .i64 y, .int .i64 g, .int .i64 n] 28) = w1 at *
    generalize hBB : W0.heap.size = B at hX i0 i1 i2 i3 i4 i5 i6 i7 i8 i9 ⊢
    refine region_class (fun w' => St A c [(B, [.int .i64 41, .bool false, .int .i64 m, .int .i64 r, .int .i64 x, .int .i64 p, .int .i64 q, .int .i64 y, .int .i64 g, .int .i64 n])] W0 w') (by kernel_rfl) (by kernel_rfl) hX.drew ?_
    clear hX i0 i1 i2 i3 i4 i5 i6 i7 i8 i9
    repeat
      first
        | (refine BigFrame.wpQuiet_skip (by rfl) ?_
           simp only [Act.put, List.setIfInBounds_toArray, List.set_cons_zero, List.set_cons_succ])
        | (refine BigFrame.wpQuiet_want (by rfl) (fun K hK => ?_)
           apply Exists.intro
           refine ⟨fun wq hq => ?_, hK _ ?_⟩
           · have i0 := hq.c 0 0 rfl rfl; have i1 := hq.c 0 1 rfl rfl; have i2 := hq.c 0 2 rfl rfl; have i3 := hq.c 0 3 rfl rfl; have i4 := hq.c 0 4 rfl rfl; have i5 := hq.c 0 5 rfl rfl; have i6 := hq.c 0 6 rfl rfl; have i7 := hq.c 0 7 rfl rfl; have i8 := hq.c 0 8 rfl rfl; have i9 := hq.c 0 9 rfl rfl
             unfold Oper.quietAt
             go_simp
             first
               | with_reducible rfl
               | ((go_at_call 57); with_reducible refine (j1 _).mono ?_; exact fun e w' ⟨he, hb⟩ => ⟨he, hq.step hb⟩)
               | ((go_at_call 57); with_reducible refine (j2 _).mono ?_; exact fun e w' ⟨he, hb⟩ => ⟨he, hq.step hb⟩)
           clear hK K
           simp only [Act.put, List.setIfInBounds_toArray, List.set_cons_zero, List.set_cons_succ])
    refine wpQuiet_nil ?_
    intro w4 hX
    have i0 := hX.c 0 0 rfl rfl; have i1 := hX.c 0 1 rfl rfl; have i2 := hX.c 0 2 rfl rfl; have i3 := hX.c 0 3 rfl rfl; have i4 := hX.c 0 4 rfl rfl; have i5 := hX.c 0 5 rfl rfl; have i6 := hX.c 0 6 rfl rfl; have i7 := hX.c 0 7 rfl rfl; have i8 := hX.c 0 8 rfl rfl; have i9 := hX.c 0 9 rfl rfl
    go_wp2_with (first | (go_at_call 50; with_reducible refine (j3 _).mono ?_; rintro e w' ⟨rfl, hb⟩; have hX := hX.step hb; have i0 := hX.c 0 0 rfl rfl; have i1 := hX.c 0 1 rfl rfl; have i2 := hX.c 0 2 rfl rfl; have i3 := hX.c 0 3 rfl rfl; have i4 := hX.c 0 4 rfl rfl; have i5 := hX.c 0 5 rfl rfl; have i6 := hX.c 0 6 rfl rfl; have i7 := hX.c 0 7 rfl rfl; have i8 := hX.c 0 8 rfl rfl; have i9 := hX.c 0 9 rfl rfl; clear hb))
    go_ret
    refine ⟨ei _ _ ?_, by first | exact hX.below | exact hBB ▸ hX.below⟩
    clear hX
    first | rfl | omega | (simp; done) | (simp; omega)
  · go_enter Tryd.func34, Tryd.ntmps34
    go_upto_region 4 with fail
    have i0 := hX.c 0 0 rfl rfl; have i1 := hX.c 0 1 rfl rfl; have i2 := hX.c 0 2 rfl rfl; have i3 := hX.c 0 3 rfl rfl; have i4 := hX.c 0 4 rfl rfl; have i5 := hX.c 0 5 rfl rfl; have i6 := hX.c 0 6 rfl rfl; have i7 := hX.c 0 7 rfl rfl; have i8 := hX.c 0 8 rfl rfl; have i9 := hX.c 0 9 rfl rfl
    generalize W0.alloc (.cells #[.int .i64 41, .bool true, .int .i64 m, .int .i64 r, .int .i64 x, .int .i64 p, .int .i64 q, .int .i64 y, .int .i64 g, .int .i64 n] 28) = w1 at *
    generalize hBB : W0.heap.size = B at hX i0 i1 i2 i3 i4 i5 i6 i7 i8 i9 ⊢
    refine region_class (fun w' => St A c [(B, [.int .i64 41, .bool true, .int .i64 m, .int .i64 r, .int .i64 x, .int .i64 p, .int .i64 q, .int .i64 y, .int .i64 g, .int .i64 n])] W0 w') (by kernel_rfl) (by kernel_rfl) hX.drew ?_
    clear hX i0 i1 i2 i3 i4 i5 i6 i7 i8 i9
    repeat
      first
        | (refine BigFrame.wpQuiet_skip (by rfl) ?_
           simp only [Act.put, List.setIfInBounds_toArray, List.set_cons_zero, List.set_cons_succ])
        | (refine BigFrame.wpQuiet_want (by rfl) (fun K hK => ?_)
           apply Exists.intro
           refine ⟨fun wq hq => ?_, hK _ ?_⟩
           · have i0 := hq.c 0 0 rfl rfl; have i1 := hq.c 0 1 rfl rfl; have i2 := hq.c 0 2 rfl rfl; have i3 := hq.c 0 3 rfl rfl; have i4 := hq.c 0 4 rfl rfl; have i5 := hq.c 0 5 rfl rfl; have i6 := hq.c 0 6 rfl rfl; have i7 := hq.c 0 7 rfl rfl; have i8 := hq.c 0 8 rfl rfl; have i9 := hq.c 0 9 rfl rfl
             unfold Oper.quietAt
             go_simp
             first
               | with_reducible rfl
               | ((go_at_call 57); with_reducible refine (j1 _).mono ?_; exact fun e w' ⟨he, hb⟩ => ⟨he, hq.step hb⟩)
               | ((go_at_call 57); with_reducible refine (j2 _).mono ?_; exact fun e w' ⟨he, hb⟩ => ⟨he, hq.step hb⟩)
           clear hK K
           simp only [Act.put, List.setIfInBounds_toArray, List.set_cons_zero, List.set_cons_succ])
    refine wpQuiet_nil ?_
    intro w4 hX
    have i0 := hX.c 0 0 rfl rfl; have i1 := hX.c 0 1 rfl rfl; have i2 := hX.c 0 2 rfl rfl; have i3 := hX.c 0 3 rfl rfl; have i4 := hX.c 0 4 rfl rfl; have i5 := hX.c 0 5 rfl rfl; have i6 := hX.c 0 6 rfl rfl; have i7 := hX.c 0 7 rfl rfl; have i8 := hX.c 0 8 rfl rfl; have i9 := hX.c 0 9 rfl rfl
    go_wp2_with (first | (go_at_call 50; with_reducible refine (j3 _).mono ?_; rintro e w' ⟨rfl, hb⟩; have hX := hX.step hb; have i0 := hX.c 0 0 rfl rfl; have i1 := hX.c 0 1 rfl rfl; have i2 := hX.c 0 2 rfl rfl; have i3 := hX.c 0 3 rfl rfl; have i4 := hX.c 0 4 rfl rfl; have i5 := hX.c 0 5 rfl rfl; have i6 := hX.c 0 6 rfl rfl; have i7 := hX.c 0 7 rfl rfl; have i8 := hX.c 0 8 rfl rfl; have i9 := hX.c 0 9 rfl rfl; clear hb))
    go_ret
    refine ⟨ei _ _ ?_, by first | exact hX.below | exact hBB ▸ hX.below⟩
    clear hX
    first | rfl | omega | (simp; done) | (simp; omega)

theorem first_13 (b : Bool) (m r x p q y g n : Int) (hg : 0 ≤ g ∧ g ≤ 7) (hn : -128 ≤ n ∧ n ≤ 255) {A : Addr} {c : Nat} (W0 : World) (W : Frm A c W0) :
    Calls Tryd.prog 34 #[.agg #[.int .i64 43, .bool b, .int .i64 m, .int .i64 r, .int .i64 x, .int .i64 p, .int .i64 q, .int .i64 y, .int .i64 g, .int .i64 n]] W0 fun e w' => e = .returned (.int .i64 (rfR ⟨43, b, m, r, x, p, q, y, g, n⟩)) ∧ Below W0.heap.size W0 w' := by
  have hX := (St.start W).put [.int .i64 43, .bool b, .int .i64 m, .int .i64 r, .int .i64 x, .int .i64 p, .int .i64 q, .int .i64 y, .int .i64 g, .int .i64 n] 28
  have e : rfR ⟨43, b, m, r, x, p, q, y, g, n⟩ = 128 + g := by
    unfold rfR
    rw [if_neg (by simp; try omega), if_neg (by simp; try omega), if_neg (by simp; try omega), if_neg (by simp; try omega), if_neg (by simp; try omega), if_neg (by simp; try omega), if_neg (by simp; try omega), if_neg (by simp; try omega), if_neg (by simp; try omega), if_neg (by simp; try omega), if_neg (by simp; try omega), if_neg (by simp; try omega), if_neg (by simp; try omega), if_pos (by simp; try omega)]
  rw [e]
  clear e
  have hS := fdR_bds m r
  have hD := fdR_bds p q
  have j1 := fun w => rfield_any m r x w
  have j2 := fun w => rfield_any p q y w
  have j3 := fun w => islong_any 43 w
  have hil : isL 43 = false := by unfold isL; simp
  rw [hil] at j3
  have ei : ∀ a b : Int, a = b → Ending.returned (.int .i64 a) = .returned (.int .i64 b) := fun a b h => ret_int h
  generalize fdR m r = U at *
  generalize fdR p q = V at *
  obtain ⟨hS1, hS2⟩ := hS
  obtain ⟨hD1, hD2⟩ := hD
  obtain ⟨hg1, hg2⟩ := hg
  obtain ⟨hn1, hn2⟩ := hn
  have hm : (n + 256).tmod 256 = (n + 256) % 256 := Int.tmod_eq_emod_of_nonneg (by omega)
  cases b
  · go_enter Tryd.func34, Tryd.ntmps34
    go_upto_region 4 with fail
    have i0 := hX.c 0 0 rfl rfl; have i1 := hX.c 0 1 rfl rfl; have i2 := hX.c 0 2 rfl rfl; have i3 := hX.c 0 3 rfl rfl; have i4 := hX.c 0 4 rfl rfl; have i5 := hX.c 0 5 rfl rfl; have i6 := hX.c 0 6 rfl rfl; have i7 := hX.c 0 7 rfl rfl; have i8 := hX.c 0 8 rfl rfl; have i9 := hX.c 0 9 rfl rfl
    generalize W0.alloc (.cells #[.int .i64 43, .bool false, .int .i64 m, .int .i64 r, .int .i64 x, .int .i64 p, .int .i64 q, .int .i64 y, .int .i64 g, .int .i64 n] 28) = w1 at *
    generalize hBB : W0.heap.size = B at hX i0 i1 i2 i3 i4 i5 i6 i7 i8 i9 ⊢
    refine region_class (fun w' => St A c [(B, [.int .i64 43, .bool false, .int .i64 m, .int .i64 r, .int .i64 x, .int .i64 p, .int .i64 q, .int .i64 y, .int .i64 g, .int .i64 n])] W0 w') (by kernel_rfl) (by kernel_rfl) hX.drew ?_
    clear hX i0 i1 i2 i3 i4 i5 i6 i7 i8 i9
    repeat
      first
        | (refine BigFrame.wpQuiet_skip (by rfl) ?_
           simp only [Act.put, List.setIfInBounds_toArray, List.set_cons_zero, List.set_cons_succ])
        | (refine BigFrame.wpQuiet_want (by rfl) (fun K hK => ?_)
           apply Exists.intro
           refine ⟨fun wq hq => ?_, hK _ ?_⟩
           · have i0 := hq.c 0 0 rfl rfl; have i1 := hq.c 0 1 rfl rfl; have i2 := hq.c 0 2 rfl rfl; have i3 := hq.c 0 3 rfl rfl; have i4 := hq.c 0 4 rfl rfl; have i5 := hq.c 0 5 rfl rfl; have i6 := hq.c 0 6 rfl rfl; have i7 := hq.c 0 7 rfl rfl; have i8 := hq.c 0 8 rfl rfl; have i9 := hq.c 0 9 rfl rfl
             unfold Oper.quietAt
             go_simp
             first
               | with_reducible rfl
               | ((go_at_call 57); with_reducible refine (j1 _).mono ?_; exact fun e w' ⟨he, hb⟩ => ⟨he, hq.step hb⟩)
               | ((go_at_call 57); with_reducible refine (j2 _).mono ?_; exact fun e w' ⟨he, hb⟩ => ⟨he, hq.step hb⟩)
           clear hK K
           simp only [Act.put, List.setIfInBounds_toArray, List.set_cons_zero, List.set_cons_succ])
    refine wpQuiet_nil ?_
    intro w4 hX
    have i0 := hX.c 0 0 rfl rfl; have i1 := hX.c 0 1 rfl rfl; have i2 := hX.c 0 2 rfl rfl; have i3 := hX.c 0 3 rfl rfl; have i4 := hX.c 0 4 rfl rfl; have i5 := hX.c 0 5 rfl rfl; have i6 := hX.c 0 6 rfl rfl; have i7 := hX.c 0 7 rfl rfl; have i8 := hX.c 0 8 rfl rfl; have i9 := hX.c 0 9 rfl rfl
    go_wp2_with (first | (go_at_call 50; with_reducible refine (j3 _).mono ?_; rintro e w' ⟨rfl, hb⟩; have hX := hX.step hb; have i0 := hX.c 0 0 rfl rfl; have i1 := hX.c 0 1 rfl rfl; have i2 := hX.c 0 2 rfl rfl; have i3 := hX.c 0 3 rfl rfl; have i4 := hX.c 0 4 rfl rfl; have i5 := hX.c 0 5 rfl rfl; have i6 := hX.c 0 6 rfl rfl; have i7 := hX.c 0 7 rfl rfl; have i8 := hX.c 0 8 rfl rfl; have i9 := hX.c 0 9 rfl rfl; clear hb))
    go_ret
    refine ⟨ei _ _ ?_, by first | exact hX.below | exact hBB ▸ hX.below⟩
    clear hX
    first | rfl | omega | (simp; done) | (simp; omega)
  · go_enter Tryd.func34, Tryd.ntmps34
    go_upto_region 4 with fail
    have i0 := hX.c 0 0 rfl rfl; have i1 := hX.c 0 1 rfl rfl; have i2 := hX.c 0 2 rfl rfl; have i3 := hX.c 0 3 rfl rfl; have i4 := hX.c 0 4 rfl rfl; have i5 := hX.c 0 5 rfl rfl; have i6 := hX.c 0 6 rfl rfl; have i7 := hX.c 0 7 rfl rfl; have i8 := hX.c 0 8 rfl rfl; have i9 := hX.c 0 9 rfl rfl
    generalize W0.alloc (.cells #[.int .i64 43, .bool true, .int .i64 m, .int .i64 r, .int .i64 x, .int .i64 p, .int .i64 q, .int .i64 y, .int .i64 g, .int .i64 n] 28) = w1 at *
    generalize hBB : W0.heap.size = B at hX i0 i1 i2 i3 i4 i5 i6 i7 i8 i9 ⊢
    refine region_class (fun w' => St A c [(B, [.int .i64 43, .bool true, .int .i64 m, .int .i64 r, .int .i64 x, .int .i64 p, .int .i64 q, .int .i64 y, .int .i64 g, .int .i64 n])] W0 w') (by kernel_rfl) (by kernel_rfl) hX.drew ?_
    clear hX i0 i1 i2 i3 i4 i5 i6 i7 i8 i9
    repeat
      first
        | (refine BigFrame.wpQuiet_skip (by rfl) ?_
           simp only [Act.put, List.setIfInBounds_toArray, List.set_cons_zero, List.set_cons_succ])
        | (refine BigFrame.wpQuiet_want (by rfl) (fun K hK => ?_)
           apply Exists.intro
           refine ⟨fun wq hq => ?_, hK _ ?_⟩
           · have i0 := hq.c 0 0 rfl rfl; have i1 := hq.c 0 1 rfl rfl; have i2 := hq.c 0 2 rfl rfl; have i3 := hq.c 0 3 rfl rfl; have i4 := hq.c 0 4 rfl rfl; have i5 := hq.c 0 5 rfl rfl; have i6 := hq.c 0 6 rfl rfl; have i7 := hq.c 0 7 rfl rfl; have i8 := hq.c 0 8 rfl rfl; have i9 := hq.c 0 9 rfl rfl
             unfold Oper.quietAt
             go_simp
             first
               | with_reducible rfl
               | ((go_at_call 57); with_reducible refine (j1 _).mono ?_; exact fun e w' ⟨he, hb⟩ => ⟨he, hq.step hb⟩)
               | ((go_at_call 57); with_reducible refine (j2 _).mono ?_; exact fun e w' ⟨he, hb⟩ => ⟨he, hq.step hb⟩)
           clear hK K
           simp only [Act.put, List.setIfInBounds_toArray, List.set_cons_zero, List.set_cons_succ])
    refine wpQuiet_nil ?_
    intro w4 hX
    have i0 := hX.c 0 0 rfl rfl; have i1 := hX.c 0 1 rfl rfl; have i2 := hX.c 0 2 rfl rfl; have i3 := hX.c 0 3 rfl rfl; have i4 := hX.c 0 4 rfl rfl; have i5 := hX.c 0 5 rfl rfl; have i6 := hX.c 0 6 rfl rfl; have i7 := hX.c 0 7 rfl rfl; have i8 := hX.c 0 8 rfl rfl; have i9 := hX.c 0 9 rfl rfl
    go_wp2_with (first | (go_at_call 50; with_reducible refine (j3 _).mono ?_; rintro e w' ⟨rfl, hb⟩; have hX := hX.step hb; have i0 := hX.c 0 0 rfl rfl; have i1 := hX.c 0 1 rfl rfl; have i2 := hX.c 0 2 rfl rfl; have i3 := hX.c 0 3 rfl rfl; have i4 := hX.c 0 4 rfl rfl; have i5 := hX.c 0 5 rfl rfl; have i6 := hX.c 0 6 rfl rfl; have i7 := hX.c 0 7 rfl rfl; have i8 := hX.c 0 8 rfl rfl; have i9 := hX.c 0 9 rfl rfl; clear hb))
    go_ret
    refine ⟨ei _ _ ?_, by first | exact hX.below | exact hBB ▸ hX.below⟩
    clear hX
    first | rfl | omega | (simp; done) | (simp; omega)

theorem first_15 (b : Bool) (m r x p q y g n : Int) (hg : 0 ≤ g ∧ g ≤ 7) (hn : -128 ≤ n ∧ n ≤ 255) {A : Addr} {c : Nat} (W0 : World) (W : Frm A c W0) :
    Calls Tryd.prog 34 #[.agg #[.int .i64 45, .bool b, .int .i64 m, .int .i64 r, .int .i64 x, .int .i64 p, .int .i64 q, .int .i64 y, .int .i64 g, .int .i64 n]] W0 fun e w' => e = .returned (.int .i64 (rfR ⟨45, b, m, r, x, p, q, y, g, n⟩)) ∧ Below W0.heap.size W0 w' := by
  have hX := (St.start W).put [.int .i64 45, .bool b, .int .i64 m, .int .i64 r, .int .i64 x, .int .i64 p, .int .i64 q, .int .i64 y, .int .i64 g, .int .i64 n] 28
  have e : rfR ⟨45, b, m, r, x, p, q, y, g, n⟩ = 34816 + n := by
    unfold rfR
    rw [if_neg (by simp; try omega), if_neg (by simp; try omega), if_neg (by simp; try omega), if_neg (by simp; try omega), if_neg (by simp; try omega), if_neg (by simp; try omega), if_neg (by simp; try omega), if_neg (by simp; try omega), if_neg (by simp; try omega), if_neg (by simp; try omega), if_neg (by simp; try omega), if_neg (by simp; try omega), if_neg (by simp; try omega), if_neg (by simp; try omega), if_neg (by simp; try omega), if_pos (by simp; try omega)]
  rw [e]
  clear e
  have hS := fdR_bds m r
  have hD := fdR_bds p q
  have j1 := fun w => rfield_any m r x w
  have j2 := fun w => rfield_any p q y w
  have j3 := fun w => islong_any 45 w
  have hil : isL 45 = false := by unfold isL; simp
  rw [hil] at j3
  have ei : ∀ a b : Int, a = b → Ending.returned (.int .i64 a) = .returned (.int .i64 b) := fun a b h => ret_int h
  generalize fdR m r = U at *
  generalize fdR p q = V at *
  obtain ⟨hS1, hS2⟩ := hS
  obtain ⟨hD1, hD2⟩ := hD
  obtain ⟨hg1, hg2⟩ := hg
  obtain ⟨hn1, hn2⟩ := hn
  have hm : (n + 256).tmod 256 = (n + 256) % 256 := Int.tmod_eq_emod_of_nonneg (by omega)
  cases b
  · go_enter Tryd.func34, Tryd.ntmps34
    go_upto_region 4 with fail
    have i0 := hX.c 0 0 rfl rfl; have i1 := hX.c 0 1 rfl rfl; have i2 := hX.c 0 2 rfl rfl; have i3 := hX.c 0 3 rfl rfl; have i4 := hX.c 0 4 rfl rfl; have i5 := hX.c 0 5 rfl rfl; have i6 := hX.c 0 6 rfl rfl; have i7 := hX.c 0 7 rfl rfl; have i8 := hX.c 0 8 rfl rfl; have i9 := hX.c 0 9 rfl rfl
    generalize W0.alloc (.cells #[.int .i64 45, .bool false, .int .i64 m, .int .i64 r, .int .i64 x, .int .i64 p, .int .i64 q, .int .i64 y, .int .i64 g, .int .i64 n] 28) = w1 at *
    generalize hBB : W0.heap.size = B at hX i0 i1 i2 i3 i4 i5 i6 i7 i8 i9 ⊢
    refine region_class (fun w' => St A c [(B, [.int .i64 45, .bool false, .int .i64 m, .int .i64 r, .int .i64 x, .int .i64 p, .int .i64 q, .int .i64 y, .int .i64 g, .int .i64 n])] W0 w') (by kernel_rfl) (by kernel_rfl) hX.drew ?_
    clear hX i0 i1 i2 i3 i4 i5 i6 i7 i8 i9
    repeat
      first
        | (refine BigFrame.wpQuiet_skip (by rfl) ?_
           simp only [Act.put, List.setIfInBounds_toArray, List.set_cons_zero, List.set_cons_succ])
        | (refine BigFrame.wpQuiet_want (by rfl) (fun K hK => ?_)
           apply Exists.intro
           refine ⟨fun wq hq => ?_, hK _ ?_⟩
           · have i0 := hq.c 0 0 rfl rfl; have i1 := hq.c 0 1 rfl rfl; have i2 := hq.c 0 2 rfl rfl; have i3 := hq.c 0 3 rfl rfl; have i4 := hq.c 0 4 rfl rfl; have i5 := hq.c 0 5 rfl rfl; have i6 := hq.c 0 6 rfl rfl; have i7 := hq.c 0 7 rfl rfl; have i8 := hq.c 0 8 rfl rfl; have i9 := hq.c 0 9 rfl rfl
             unfold Oper.quietAt
             go_simp
             first
               | with_reducible rfl
               | ((go_at_call 57); with_reducible refine (j1 _).mono ?_; exact fun e w' ⟨he, hb⟩ => ⟨he, hq.step hb⟩)
               | ((go_at_call 57); with_reducible refine (j2 _).mono ?_; exact fun e w' ⟨he, hb⟩ => ⟨he, hq.step hb⟩)
           clear hK K
           simp only [Act.put, List.setIfInBounds_toArray, List.set_cons_zero, List.set_cons_succ])
    refine wpQuiet_nil ?_
    intro w4 hX
    have i0 := hX.c 0 0 rfl rfl; have i1 := hX.c 0 1 rfl rfl; have i2 := hX.c 0 2 rfl rfl; have i3 := hX.c 0 3 rfl rfl; have i4 := hX.c 0 4 rfl rfl; have i5 := hX.c 0 5 rfl rfl; have i6 := hX.c 0 6 rfl rfl; have i7 := hX.c 0 7 rfl rfl; have i8 := hX.c 0 8 rfl rfl; have i9 := hX.c 0 9 rfl rfl
    go_wp2_with (first | (go_at_call 50; with_reducible refine (j3 _).mono ?_; rintro e w' ⟨rfl, hb⟩; have hX := hX.step hb; have i0 := hX.c 0 0 rfl rfl; have i1 := hX.c 0 1 rfl rfl; have i2 := hX.c 0 2 rfl rfl; have i3 := hX.c 0 3 rfl rfl; have i4 := hX.c 0 4 rfl rfl; have i5 := hX.c 0 5 rfl rfl; have i6 := hX.c 0 6 rfl rfl; have i7 := hX.c 0 7 rfl rfl; have i8 := hX.c 0 8 rfl rfl; have i9 := hX.c 0 9 rfl rfl; clear hb))
    go_ret
    refine ⟨ei _ _ ?_, by first | exact hX.below | exact hBB ▸ hX.below⟩
    clear hX
    first | rfl | omega | (simp; done) | (simp; omega)
  · go_enter Tryd.func34, Tryd.ntmps34
    go_upto_region 4 with fail
    have i0 := hX.c 0 0 rfl rfl; have i1 := hX.c 0 1 rfl rfl; have i2 := hX.c 0 2 rfl rfl; have i3 := hX.c 0 3 rfl rfl; have i4 := hX.c 0 4 rfl rfl; have i5 := hX.c 0 5 rfl rfl; have i6 := hX.c 0 6 rfl rfl; have i7 := hX.c 0 7 rfl rfl; have i8 := hX.c 0 8 rfl rfl; have i9 := hX.c 0 9 rfl rfl
    generalize W0.alloc (.cells #[.int .i64 45, .bool true, .int .i64 m, .int .i64 r, .int .i64 x, .int .i64 p, .int .i64 q, .int .i64 y, .int .i64 g, .int .i64 n] 28) = w1 at *
    generalize hBB : W0.heap.size = B at hX i0 i1 i2 i3 i4 i5 i6 i7 i8 i9 ⊢
    refine region_class (fun w' => St A c [(B, [.int .i64 45, .bool true, .int .i64 m, .int .i64 r, .int .i64 x, .int .i64 p, .int .i64 q, .int .i64 y, .int .i64 g, .int .i64 n])] W0 w') (by kernel_rfl) (by kernel_rfl) hX.drew ?_
    clear hX i0 i1 i2 i3 i4 i5 i6 i7 i8 i9
    repeat
      first
        | (refine BigFrame.wpQuiet_skip (by rfl) ?_
           simp only [Act.put, List.setIfInBounds_toArray, List.set_cons_zero, List.set_cons_succ])
        | (refine BigFrame.wpQuiet_want (by rfl) (fun K hK => ?_)
           apply Exists.intro
           refine ⟨fun wq hq => ?_, hK _ ?_⟩
           · have i0 := hq.c 0 0 rfl rfl; have i1 := hq.c 0 1 rfl rfl; have i2 := hq.c 0 2 rfl rfl; have i3 := hq.c 0 3 rfl rfl; have i4 := hq.c 0 4 rfl rfl; have i5 := hq.c 0 5 rfl rfl; have i6 := hq.c 0 6 rfl rfl; have i7 := hq.c 0 7 rfl rfl; have i8 := hq.c 0 8 rfl rfl; have i9 := hq.c 0 9 rfl rfl
             unfold Oper.quietAt
             go_simp
             first
               | with_reducible rfl
               | ((go_at_call 57); with_reducible refine (j1 _).mono ?_; exact fun e w' ⟨he, hb⟩ => ⟨he, hq.step hb⟩)
               | ((go_at_call 57); with_reducible refine (j2 _).mono ?_; exact fun e w' ⟨he, hb⟩ => ⟨he, hq.step hb⟩)
           clear hK K
           simp only [Act.put, List.setIfInBounds_toArray, List.set_cons_zero, List.set_cons_succ])
    refine wpQuiet_nil ?_
    intro w4 hX
    have i0 := hX.c 0 0 rfl rfl; have i1 := hX.c 0 1 rfl rfl; have i2 := hX.c 0 2 rfl rfl; have i3 := hX.c 0 3 rfl rfl; have i4 := hX.c 0 4 rfl rfl; have i5 := hX.c 0 5 rfl rfl; have i6 := hX.c 0 6 rfl rfl; have i7 := hX.c 0 7 rfl rfl; have i8 := hX.c 0 8 rfl rfl; have i9 := hX.c 0 9 rfl rfl
    go_wp2_with (first | (go_at_call 50; with_reducible refine (j3 _).mono ?_; rintro e w' ⟨rfl, hb⟩; have hX := hX.step hb; have i0 := hX.c 0 0 rfl rfl; have i1 := hX.c 0 1 rfl rfl; have i2 := hX.c 0 2 rfl rfl; have i3 := hX.c 0 3 rfl rfl; have i4 := hX.c 0 4 rfl rfl; have i5 := hX.c 0 5 rfl rfl; have i6 := hX.c 0 6 rfl rfl; have i7 := hX.c 0 7 rfl rfl; have i8 := hX.c 0 8 rfl rfl; have i9 := hX.c 0 9 rfl rfl; clear hb))
    go_ret
    refine ⟨ei _ _ ?_, by first | exact hX.below | exact hBB ▸ hX.below⟩
    clear hX
    first | rfl | omega | (simp; done) | (simp; omega)

theorem first_17 (b : Bool) (m r x p q y g n : Int) (hg : 0 ≤ g ∧ g ≤ 7) (hn : -128 ≤ n ∧ n ≤ 255) {A : Addr} {c : Nat} (W0 : World) (W : Frm A c W0) :
    Calls Tryd.prog 34 #[.agg #[.int .i64 53, .bool b, .int .i64 m, .int .i64 r, .int .i64 x, .int .i64 p, .int .i64 q, .int .i64 y, .int .i64 g, .int .i64 n]] W0 fun e w' => e = .returned (.int .i64 (rfR ⟨53, b, m, r, x, p, q, y, g, n⟩)) ∧ Below W0.heap.size W0 w' := by
  have hX := (St.start W).put [.int .i64 53, .bool b, .int .i64 m, .int .i64 r, .int .i64 x, .int .i64 p, .int .i64 q, .int .i64 y, .int .i64 g, .int .i64 n] 28
  have e : rfR ⟨53, b, m, r, x, p, q, y, g, n⟩ = 160 + n := by
    unfold rfR
    rw [if_neg (by simp; try omega), if_neg (by simp; try omega), if_neg (by simp; try omega), if_neg (by simp; try omega), if_neg (by simp; try omega), if_neg (by simp; try omega), if_neg (by simp; try omega), if_neg (by simp; try omega), if_neg (by simp; try omega), if_neg (by simp; try omega), if_neg (by simp; try omega), if_neg (by simp; try omega), if_neg (by simp; try omega), if_neg (by simp; try omega), if_neg (by simp; try omega), if_neg (by simp; try omega), if_neg (by simp; try omega), if_pos (by simp; try omega)]
  rw [e]
  clear e
  have hS := fdR_bds m r
  have hD := fdR_bds p q
  have j1 := fun w => rfield_any m r x w
  have j2 := fun w => rfield_any p q y w
  have j3 := fun w => islong_any 53 w
  have hil : isL 53 = false := by unfold isL; simp
  rw [hil] at j3
  have ei : ∀ a b : Int, a = b → Ending.returned (.int .i64 a) = .returned (.int .i64 b) := fun a b h => ret_int h
  generalize fdR m r = U at *
  generalize fdR p q = V at *
  obtain ⟨hS1, hS2⟩ := hS
  obtain ⟨hD1, hD2⟩ := hD
  obtain ⟨hg1, hg2⟩ := hg
  obtain ⟨hn1, hn2⟩ := hn
  have hm : (n + 256).tmod 256 = (n + 256) % 256 := Int.tmod_eq_emod_of_nonneg (by omega)
  cases b
  · go_enter Tryd.func34, Tryd.ntmps34
    go_upto_region 4 with fail
    have i0 := hX.c 0 0 rfl rfl; have i1 := hX.c 0 1 rfl rfl; have i2 := hX.c 0 2 rfl rfl; have i3 := hX.c 0 3 rfl rfl; have i4 := hX.c 0 4 rfl rfl; have i5 := hX.c 0 5 rfl rfl; have i6 := hX.c 0 6 rfl rfl; have i7 := hX.c 0 7 rfl rfl; have i8 := hX.c 0 8 rfl rfl; have i9 := hX.c 0 9 rfl rfl
    generalize W0.alloc (.cells #[.int .i64 53, .bool false, .int .i64 m, .int .i64 r, .int .i64 x, .int .i64 p, .int .i64 q, .int .i64 y, .int .i64 g, .int .i64 n] 28) = w1 at *
    generalize hBB : W0.heap.size = B at hX i0 i1 i2 i3 i4 i5 i6 i7 i8 i9 ⊢
    refine region_class (fun w' => St A c [(B, [.int .i64 53, .bool false, .int .i64 m, .int .i64 r, .int .i64 x, .int .i64 p, .int .i64 q, .int .i64 y, .int .i64 g, .int .i64 n])] W0 w') (by kernel_rfl) (by kernel_rfl) hX.drew ?_
    clear hX i0 i1 i2 i3 i4 i5 i6 i7 i8 i9
    repeat
      first
        | (refine BigFrame.wpQuiet_skip (by rfl) ?_
           simp only [Act.put, List.setIfInBounds_toArray, List.set_cons_zero, List.set_cons_succ])
        | (refine BigFrame.wpQuiet_want (by rfl) (fun K hK => ?_)
           apply Exists.intro
           refine ⟨fun wq hq => ?_, hK _ ?_⟩
           · have i0 := hq.c 0 0 rfl rfl; have i1 := hq.c 0 1 rfl rfl; have i2 := hq.c 0 2 rfl rfl; have i3 := hq.c 0 3 rfl rfl; have i4 := hq.c 0 4 rfl rfl; have i5 := hq.c 0 5 rfl rfl; have i6 := hq.c 0 6 rfl rfl; have i7 := hq.c 0 7 rfl rfl; have i8 := hq.c 0 8 rfl rfl; have i9 := hq.c 0 9 rfl rfl
             unfold Oper.quietAt
             go_simp
             first
               | with_reducible rfl
               | ((go_at_call 57); with_reducible refine (j1 _).mono ?_; exact fun e w' ⟨he, hb⟩ => ⟨he, hq.step hb⟩)
               | ((go_at_call 57); with_reducible refine (j2 _).mono ?_; exact fun e w' ⟨he, hb⟩ => ⟨he, hq.step hb⟩)
           clear hK K
           simp only [Act.put, List.setIfInBounds_toArray, List.set_cons_zero, List.set_cons_succ])
    refine wpQuiet_nil ?_
    intro w4 hX
    have i0 := hX.c 0 0 rfl rfl; have i1 := hX.c 0 1 rfl rfl; have i2 := hX.c 0 2 rfl rfl; have i3 := hX.c 0 3 rfl rfl; have i4 := hX.c 0 4 rfl rfl; have i5 := hX.c 0 5 rfl rfl; have i6 := hX.c 0 6 rfl rfl; have i7 := hX.c 0 7 rfl rfl; have i8 := hX.c 0 8 rfl rfl; have i9 := hX.c 0 9 rfl rfl
    go_wp2_with (first | (go_at_call 50; with_reducible refine (j3 _).mono ?_; rintro e w' ⟨rfl, hb⟩; have hX := hX.step hb; have i0 := hX.c 0 0 rfl rfl; have i1 := hX.c 0 1 rfl rfl; have i2 := hX.c 0 2 rfl rfl; have i3 := hX.c 0 3 rfl rfl; have i4 := hX.c 0 4 rfl rfl; have i5 := hX.c 0 5 rfl rfl; have i6 := hX.c 0 6 rfl rfl; have i7 := hX.c 0 7 rfl rfl; have i8 := hX.c 0 8 rfl rfl; have i9 := hX.c 0 9 rfl rfl; clear hb))
    go_ret
    refine ⟨ei _ _ ?_, by first | exact hX.below | exact hBB ▸ hX.below⟩
    clear hX
    first | rfl | omega | (simp; done) | (simp; omega)
  · go_enter Tryd.func34, Tryd.ntmps34
    go_upto_region 4 with fail
    have i0 := hX.c 0 0 rfl rfl; have i1 := hX.c 0 1 rfl rfl; have i2 := hX.c 0 2 rfl rfl; have i3 := hX.c 0 3 rfl rfl; have i4 := hX.c 0 4 rfl rfl; have i5 := hX.c 0 5 rfl rfl; have i6 := hX.c 0 6 rfl rfl; have i7 := hX.c 0 7 rfl rfl; have i8 := hX.c 0 8 rfl rfl; have i9 := hX.c 0 9 rfl rfl
    generalize W0.alloc (.cells #[.int .i64 53, .bool true, .int .i64 m, .int .i64 r, .int .i64 x, .int .i64 p, .int .i64 q, .int .i64 y, .int .i64 g, .int .i64 n] 28) = w1 at *
    generalize hBB : W0.heap.size = B at hX i0 i1 i2 i3 i4 i5 i6 i7 i8 i9 ⊢
    refine region_class (fun w' => St A c [(B, [.int .i64 53, .bool true, .int .i64 m, .int .i64 r, .int .i64 x, .int .i64 p, .int .i64 q, .int .i64 y, .int .i64 g, .int .i64 n])] W0 w') (by kernel_rfl) (by kernel_rfl) hX.drew ?_
    clear hX i0 i1 i2 i3 i4 i5 i6 i7 i8 i9
    repeat
      first
        | (refine BigFrame.wpQuiet_skip (by rfl) ?_
           simp only [Act.put, List.setIfInBounds_toArray, List.set_cons_zero, List.set_cons_succ])
        | (refine BigFrame.wpQuiet_want (by rfl) (fun K hK => ?_)
           apply Exists.intro
           refine ⟨fun wq hq => ?_, hK _ ?_⟩
           · have i0 := hq.c 0 0 rfl rfl; have i1 := hq.c 0 1 rfl rfl; have i2 := hq.c 0 2 rfl rfl; have i3 := hq.c 0 3 rfl rfl; have i4 := hq.c 0 4 rfl rfl; have i5 := hq.c 0 5 rfl rfl; have i6 := hq.c 0 6 rfl rfl; have i7 := hq.c 0 7 rfl rfl; have i8 := hq.c 0 8 rfl rfl; have i9 := hq.c 0 9 rfl rfl
             unfold Oper.quietAt
             go_simp
             first
               | with_reducible rfl
               | ((go_at_call 57); with_reducible refine (j1 _).mono ?_; exact fun e w' ⟨he, hb⟩ => ⟨he, hq.step hb⟩)
               | ((go_at_call 57); with_reducible refine (j2 _).mono ?_; exact fun e w' ⟨he, hb⟩ => ⟨he, hq.step hb⟩)
           clear hK K
           simp only [Act.put, List.setIfInBounds_toArray, List.set_cons_zero, List.set_cons_succ])
    refine wpQuiet_nil ?_
    intro w4 hX
    have i0 := hX.c 0 0 rfl rfl; have i1 := hX.c 0 1 rfl rfl; have i2 := hX.c 0 2 rfl rfl; have i3 := hX.c 0 3 rfl rfl; have i4 := hX.c 0 4 rfl rfl; have i5 := hX.c 0 5 rfl rfl; have i6 := hX.c 0 6 rfl rfl; have i7 := hX.c 0 7 rfl rfl; have i8 := hX.c 0 8 rfl rfl; have i9 := hX.c 0 9 rfl rfl
    go_wp2_with (first | (go_at_call 50; with_reducible refine (j3 _).mono ?_; rintro e w' ⟨rfl, hb⟩; have hX := hX.step hb; have i0 := hX.c 0 0 rfl rfl; have i1 := hX.c 0 1 rfl rfl; have i2 := hX.c 0 2 rfl rfl; have i3 := hX.c 0 3 rfl rfl; have i4 := hX.c 0 4 rfl rfl; have i5 := hX.c 0 5 rfl rfl; have i6 := hX.c 0 6 rfl rfl; have i7 := hX.c 0 7 rfl rfl; have i8 := hX.c 0 8 rfl rfl; have i9 := hX.c 0 9 rfl rfl; clear hb))
    go_ret
    refine ⟨ei _ _ ?_, by first | exact hX.below | exact hBB ▸ hX.below⟩
    clear hX
    first | rfl | omega | (simp; done) | (simp; omega)

theorem first_19 (b : Bool) (m r x p q y g n : Int) (hg : 0 ≤ g ∧ g ≤ 7) (hn : -128 ≤ n ∧ n ≤ 255) {A : Addr} {c : Nat} (W0 : World) (W : Frm A c W0) :
    Calls Tryd.prog 34 #[.agg #[.int .i64 55, .bool b, .int .i64 m, .int .i64 r, .int .i64 x, .int .i64 p, .int .i64 q, .int .i64 y, .int .i64 g, .int .i64 n]] W0 fun e w' => e = .returned (.int .i64 (rfR ⟨55, b, m, r, x, p, q, y, g, n⟩)) ∧ Below W0.heap.size W0 w' := by
  have hX := (St.start W).put [.int .i64 55, .bool b, .int .i64 m, .int .i64 r, .int .i64 x, .int .i64 p, .int .i64 q, .int .i64 y, .int .i64 g, .int .i64 n] 28
  have e : rfR ⟨55, b, m, r, x, p, q, y, g, n⟩ = 3392 + fdR m r := by
    unfold rfR
    rw [if_neg (by simp; try omega), if_neg (by simp; try omega), if_neg (by simp; try omega), if_neg (by simp; try omega), if_neg (by simp; try omega), if_neg (by simp; try omega), if_neg (by simp; try omega), if_neg (by simp; try omega), if_neg (by simp; try omega), if_neg (by simp; try omega), if_neg (by simp; try omega), if_neg (by simp; try omega), if_neg (by simp; try omega), if_neg (by simp; try omega), if_neg (by simp; try omega), if_neg (by simp; try omega), if_neg (by simp; try omega), if_neg (by simp; try omega), if_neg (by simp; try omega), if_pos (by simp; try omega)]
  rw [e]
  clear e
  have hS := fdR_bds m r
  have hD := fdR_bds p q
  have j1 := fun w => rfield_any m r x w
  have j2 := fun w => rfield_any p q y w
  have j3 := fun w => islong_any 55 w
  have hil : isL 55 = false := by unfold isL; simp
  rw [hil] at j3
  have ei : ∀ a b : Int, a = b → Ending.returned (.int .i64 a) = .returned (.int .i64 b) := fun a b h => ret_int h
  generalize fdR m r = U at *
  generalize fdR p q = V at *
  obtain ⟨hS1, hS2⟩ := hS
  obtain ⟨hD1, hD2⟩ := hD
  obtain ⟨hg1, hg2⟩ := hg
  obtain ⟨hn1, hn2⟩ := hn
  have hm : (n + 256).tmod 256 = (n + 256) % 256 := Int.tmod_eq_emod_of_nonneg (by omega)
  cases b
  · go_enter Tryd.func34, Tryd.ntmps34
    go_upto_region 4 with fail
    have i0 := hX.c 0 0 rfl rfl; have i1 := hX.c 0 1 rfl rfl; have i2 := hX.c 0 2 rfl rfl; have i3 := hX.c 0 3 rfl rfl; have i4 := hX.c 0 4 rfl rfl; have i5 := hX.c 0 5 rfl rfl; have i6 := hX.c 0 6 rfl rfl; have i7 := hX.c 0 7 rfl rfl; have i8 := hX.c 0 8 rfl rfl; have i9 := hX.c 0 9 rfl rfl
    generalize W0.alloc (.cells #[.int .i64 55, .bool false, .int .i64 m, .int .i64 r, .int .i64 x, .int .i64 p, .int .i64 q, .int .i64 y, .int .i64 g, .int .i64 n] 28) = w1 at *
    generalize hBB : W0.heap.size = B at hX i0 i1 i2 i3 i4 i5 i6 i7 i8 i9 ⊢
    refine region_class (fun w' => St A c [(B, [.int .i64 55, .bool false, .int .i64 m, .int .i64 r, .int .i64 x, .int .i64 p, .int .i64 q, .int .i64 y, .int .i64 g, .int .i64 n])] W0 w') (by kernel_rfl) (by kernel_rfl) hX.drew ?_
    clear hX i0 i1 i2 i3 i4 i5 i6 i7 i8 i9
    repeat
      first
        | (refine BigFrame.wpQuiet_skip (by rfl) ?_
           simp only [Act.put, List.setIfInBounds_toArray, List.set_cons_zero, List.set_cons_succ])
        | (refine BigFrame.wpQuiet_want (by rfl) (fun K hK => ?_)
           apply Exists.intro
           refine ⟨fun wq hq => ?_, hK _ ?_⟩
           · have i0 := hq.c 0 0 rfl rfl; have i1 := hq.c 0 1 rfl rfl; have i2 := hq.c 0 2 rfl rfl; have i3 := hq.c 0 3 rfl rfl; have i4 := hq.c 0 4 rfl rfl; have i5 := hq.c 0 5 rfl rfl; have i6 := hq.c 0 6 rfl rfl; have i7 := hq.c 0 7 rfl rfl; have i8 := hq.c 0 8 rfl rfl; have i9 := hq.c 0 9 rfl rfl
             unfold Oper.quietAt
             go_simp
             first
               | with_reducible rfl
               | ((go_at_call 57); with_reducible refine (j1 _).mono ?_; exact fun e w' ⟨he, hb⟩ => ⟨he, hq.step hb⟩)
               | ((go_at_call 57); with_reducible refine (j2 _).mono ?_; exact fun e w' ⟨he, hb⟩ => ⟨he, hq.step hb⟩)
           clear hK K
           simp only [Act.put, List.setIfInBounds_toArray, List.set_cons_zero, List.set_cons_succ])
    refine wpQuiet_nil ?_
    intro w4 hX
    have i0 := hX.c 0 0 rfl rfl; have i1 := hX.c 0 1 rfl rfl; have i2 := hX.c 0 2 rfl rfl; have i3 := hX.c 0 3 rfl rfl; have i4 := hX.c 0 4 rfl rfl; have i5 := hX.c 0 5 rfl rfl; have i6 := hX.c 0 6 rfl rfl; have i7 := hX.c 0 7 rfl rfl; have i8 := hX.c 0 8 rfl rfl; have i9 := hX.c 0 9 rfl rfl
    go_wp2_with (first | (go_at_call 50; with_reducible refine (j3 _).mono ?_; rintro e w' ⟨rfl, hb⟩; have hX := hX.step hb; have i0 := hX.c 0 0 rfl rfl; have i1 := hX.c 0 1 rfl rfl; have i2 := hX.c 0 2 rfl rfl; have i3 := hX.c 0 3 rfl rfl; have i4 := hX.c 0 4 rfl rfl; have i5 := hX.c 0 5 rfl rfl; have i6 := hX.c 0 6 rfl rfl; have i7 := hX.c 0 7 rfl rfl; have i8 := hX.c 0 8 rfl rfl; have i9 := hX.c 0 9 rfl rfl; clear hb))
    go_ret
    refine ⟨ei _ _ ?_, by first | exact hX.below | exact hBB ▸ hX.below⟩
    clear hX
    first | rfl | omega | (simp; done) | (simp; omega)
  · go_enter Tryd.func34, Tryd.ntmps34
    go_upto_region 4 with fail
    have i0 := hX.c 0 0 rfl rfl; have i1 := hX.c 0 1 rfl rfl; have i2 := hX.c 0 2 rfl rfl; have i3 := hX.c 0 3 rfl rfl; have i4 := hX.c 0 4 rfl rfl; have i5 := hX.c 0 5 rfl rfl; have i6 := hX.c 0 6 rfl rfl; have i7 := hX.c 0 7 rfl rfl; have i8 := hX.c 0 8 rfl rfl; have i9 := hX.c 0 9 rfl rfl
    generalize W0.alloc (.cells #[.int .i64 55, .bool true, .int .i64 m, .int .i64 r, .int .i64 x, .int .i64 p, .int .i64 q, .int .i64 y, .int .i64 g, .int .i64 n] 28) = w1 at *
    generalize hBB : W0.heap.size = B at hX i0 i1 i2 i3 i4 i5 i6 i7 i8 i9 ⊢
    refine region_class (fun w' => St A c [(B, [.int .i64 55, .bool true, .int .i64 m, .int .i64 r, .int .i64 x, .int .i64 p, .int .i64 q, .int .i64 y, .int .i64 g, .int .i64 n])] W0 w') (by kernel_rfl) (by kernel_rfl) hX.drew ?_
    clear hX i0 i1 i2 i3 i4 i5 i6 i7 i8 i9
    repeat
      first
        | (refine BigFrame.wpQuiet_skip (by rfl) ?_
           simp only [Act.put, List.setIfInBounds_toArray, List.set_cons_zero, List.set_cons_succ])
        | (refine BigFrame.wpQuiet_want (by rfl) (fun K hK => ?_)
           apply Exists.intro
           refine ⟨fun wq hq => ?_, hK _ ?_⟩
           · have i0 := hq.c 0 0 rfl rfl; have i1 := hq.c 0 1 rfl rfl; have i2 := hq.c 0 2 rfl rfl; have i3 := hq.c 0 3 rfl rfl; have i4 := hq.c 0 4 rfl rfl; have i5 := hq.c 0 5 rfl rfl; have i6 := hq.c 0 6 rfl rfl; have i7 := hq.c 0 7 rfl rfl; have i8 := hq.c 0 8 rfl rfl; have i9 := hq.c 0 9 rfl rfl
             unfold Oper.quietAt
             go_simp
             first
               | with_reducible rfl
               | ((go_at_call 57); with_reducible refine (j1 _).mono ?_; exact fun e w' ⟨he, hb⟩ => ⟨he, hq.step hb⟩)
               | ((go_at_call 57); with_reducible refine (j2 _).mono ?_; exact fun e w' ⟨he, hb⟩ => ⟨he, hq.step hb⟩)
           clear hK K
           simp only [Act.put, List.setIfInBounds_toArray, List.set_cons_zero, List.set_cons_succ])
    refine wpQuiet_nil ?_
    intro w4 hX
    have i0 := hX.c 0 0 rfl rfl; have i1 := hX.c 0 1 rfl rfl; have i2 := hX.c 0 2 rfl rfl; have i3 := hX.c 0 3 rfl rfl; have i4 := hX.c 0 4 rfl rfl; have i5 := hX.c 0 5 rfl rfl; have i6 := hX.c 0 6 rfl rfl; have i7 := hX.c 0 7 rfl rfl; have i8 := hX.c 0 8 rfl rfl; have i9 := hX.c 0 9 rfl rfl
    go_wp2_with (first | (go_at_call 50; with_reducible refine (j3 _).mono ?_; rintro e w' ⟨rfl, hb⟩; have hX := hX.step hb; have i0 := hX.c 0 0 rfl rfl; have i1 := hX.c 0 1 rfl rfl; have i2 := hX.c 0 2 rfl rfl; have i3 := hX.c 0 3 rfl rfl; have i4 := hX.c 0 4 rfl rfl; have i5 := hX.c 0 5 rfl rfl; have i6 := hX.c 0 6 rfl rfl; have i7 := hX.c 0 7 rfl rfl; have i8 := hX.c 0 8 rfl rfl; have i9 := hX.c 0 9 rfl rfl; clear hb))
    go_ret
    refine ⟨ei _ _ ?_, by first | exact hX.below | exact hBB ▸ hX.below⟩
    clear hX
    first | rfl | omega | (simp; done) | (simp; omega)

theorem first_21 (b : Bool) (m r x p q y g n : Int) (hg : 0 ≤ g ∧ g ≤ 7) (hn : -128 ≤ n ∧ n ≤ 255) {A : Addr} {c : Nat} (W0 : World) (W : Frm A c W0) :
    Calls Tryd.prog 34 #[.agg #[.int .i64 50, .bool b, .int .i64 m, .int .i64 r, .int .i64 x, .int .i64 p, .int .i64 q, .int .i64 y, .int .i64 g, .int .i64 n]] W0 fun e w' => e = .returned (.int .i64 (rfR ⟨50, b, m, r, x, p, q, y, g, n⟩)) ∧ Below W0.heap.size W0 w' := by
  have hX := (St.start W).put [.int .i64 50, .bool b, .int .i64 m, .int .i64 r, .int .i64 x, .int .i64 p, .int .i64 q, .int .i64 y, .int .i64 g, .int .i64 n] 28
  have e : rfR ⟨50, b, m, r, x, p, q, y, g, n⟩ = 0 := by
    unfold rfR
    rw [if_neg (by simp; try omega), if_neg (by simp; try omega), if_neg (by simp; try omega), if_neg (by simp; try omega), if_neg (by simp; try omega), if_neg (by simp; try omega), if_neg (by simp; try omega), if_neg (by simp; try omega), if_neg (by simp; try omega), if_neg (by simp; try omega), if_neg (by simp; try omega), if_neg (by simp; try omega), if_neg (by simp; try omega), if_neg (by simp; try omega), if_neg (by simp; try omega), if_neg (by simp; try omega), if_neg (by simp; try omega), if_neg (by simp; try omega), if_neg (by simp; try omega), if_neg (by simp; try omega), if_neg (by simp; try omega), if_pos (by simp; try omega)]
  rw [e]
  clear e
  have hS := fdR_bds m r
  have hD := fdR_bds p q
  have j1 := fun w => rfield_any m r x w
  have j2 := fun w => rfield_any p q y w
  have j3 := fun w => islong_any 50 w
  have hil : isL 50 = false := by unfold isL; simp
  rw [hil] at j3
  have ei : ∀ a b : Int, a = b → Ending.returned (.int .i64 a) = .returned (.int .i64 b) := fun a b h => ret_int h
  generalize fdR m r = U at *
  generalize fdR p q = V at *
  obtain ⟨hS1, hS2⟩ := hS
  obtain ⟨hD1, hD2⟩ := hD
  obtain ⟨hg1, hg2⟩ := hg
  obtain ⟨hn1, hn2⟩ := hn
  have hm : (n + 256).tmod 256 = (n + 256) % 256 := Int.tmod_eq_emod_of_nonneg (by omega)
  cases b
  · go_enter Tryd.func34, Tryd.ntmps34
    go_upto_region 4 with fail
    have i0 := hX.c 0 0 rfl rfl; have i1 := hX.c 0 1 rfl rfl; have i2 := hX.c 0 2 rfl rfl; have i3 := hX.c 0 3 rfl rfl; have i4 := hX.c 0 4 rfl rfl; have i5 := hX.c 0 5 rfl rfl; have i6 := hX.c 0 6 rfl rfl; have i7 := hX.c 0 7 rfl rfl; have i8 := hX.c 0 8 rfl rfl; have i9 := hX.c 0 9 rfl rfl
    generalize W0.alloc (.cells #[.int .i64 50, .bool false, .int .i64 m, .int .i64 r, .int .i64 x, .int .i64 p, .int .i64 q, .int .i64 y, .int .i64 g, .int .i64 n] 28) = w1 at *
    generalize hBB : W0.heap.size = B at hX i0 i1 i2 i3 i4 i5 i6 i7 i8 i9 ⊢
    refine region_class (fun w' => St A c [(B, [.int .i64 50, .bool false, .int .i64 m, .int .i64 r, .int .i64 x, .int .i64 p, .int .i64 q, .int .i64 y, .int .i64 g, .int .i64 n])] W0 w') (by kernel_rfl) (by kernel_rfl) hX.drew ?_
    clear hX i0 i1 i2 i3 i4 i5 i6 i7 i8 i9
    repeat
      first
        | (refine BigFrame.wpQuiet_skip (by rfl) ?_
           simp only [Act.put, List.setIfInBounds_toArray, List.set_cons_zero, List.set_cons_succ])
        | (refine BigFrame.wpQuiet_want (by rfl) (fun K hK => ?_)
           apply Exists.intro
           refine ⟨fun wq hq => ?_, hK _ ?_⟩
           · have i0 := hq.c 0 0 rfl rfl; have i1 := hq.c 0 1 rfl rfl; have i2 := hq.c 0 2 rfl rfl; have i3 := hq.c 0 3 rfl rfl; have i4 := hq.c 0 4 rfl rfl; have i5 := hq.c 0 5 rfl rfl; have i6 := hq.c 0 6 rfl rfl; have i7 := hq.c 0 7 rfl rfl; have i8 := hq.c 0 8 rfl rfl; have i9 := hq.c 0 9 rfl rfl
             unfold Oper.quietAt
             go_simp
             first
               | with_reducible rfl
               | ((go_at_call 57); with_reducible refine (j1 _).mono ?_; exact fun e w' ⟨he, hb⟩ => ⟨he, hq.step hb⟩)
               | ((go_at_call 57); with_reducible refine (j2 _).mono ?_; exact fun e w' ⟨he, hb⟩ => ⟨he, hq.step hb⟩)
           clear hK K
           simp only [Act.put, List.setIfInBounds_toArray, List.set_cons_zero, List.set_cons_succ])
    refine wpQuiet_nil ?_
    intro w4 hX
    have i0 := hX.c 0 0 rfl rfl; have i1 := hX.c 0 1 rfl rfl; have i2 := hX.c 0 2 rfl rfl; have i3 := hX.c 0 3 rfl rfl; have i4 := hX.c 0 4 rfl rfl; have i5 := hX.c 0 5 rfl rfl; have i6 := hX.c 0 6 rfl rfl; have i7 := hX.c 0 7 rfl rfl; have i8 := hX.c 0 8 rfl rfl; have i9 := hX.c 0 9 rfl rfl
    go_wp2_with (first | (go_at_call 50; with_reducible refine (j3 _).mono ?_; rintro e w' ⟨rfl, hb⟩; have hX := hX.step hb; have i0 := hX.c 0 0 rfl rfl; have i1 := hX.c 0 1 rfl rfl; have i2 := hX.c 0 2 rfl rfl; have i3 := hX.c 0 3 rfl rfl; have i4 := hX.c 0 4 rfl rfl; have i5 := hX.c 0 5 rfl rfl; have i6 := hX.c 0 6 rfl rfl; have i7 := hX.c 0 7 rfl rfl; have i8 := hX.c 0 8 rfl rfl; have i9 := hX.c 0 9 rfl rfl; clear hb))
    go_ret
    refine ⟨ei _ _ ?_, by first | exact hX.below | exact hBB ▸ hX.below⟩
    clear hX
    first | rfl | omega | (simp; done) | (simp; omega)
  · go_enter Tryd.func34, Tryd.ntmps34
    go_upto_region 4 with fail
    have i0 := hX.c 0 0 rfl rfl; have i1 := hX.c 0 1 rfl rfl; have i2 := hX.c 0 2 rfl rfl; have i3 := hX.c 0 3 rfl rfl; have i4 := hX.c 0 4 rfl rfl; have i5 := hX.c 0 5 rfl rfl; have i6 := hX.c 0 6 rfl rfl; have i7 := hX.c 0 7 rfl rfl; have i8 := hX.c 0 8 rfl rfl; have i9 := hX.c 0 9 rfl rfl
    generalize W0.alloc (.cells #[.int .i64 50, .bool true, .int .i64 m, .int .i64 r, .int .i64 x, .int .i64 p, .int .i64 q, .int .i64 y, .int .i64 g, .int .i64 n] 28) = w1 at *
    generalize hBB : W0.heap.size = B at hX i0 i1 i2 i3 i4 i5 i6 i7 i8 i9 ⊢
    refine region_class (fun w' => St A c [(B, [.int .i64 50, .bool true, .int .i64 m, .int .i64 r, .int .i64 x, .int .i64 p, .int .i64 q, .int .i64 y, .int .i64 g, .int .i64 n])] W0 w') (by kernel_rfl) (by kernel_rfl) hX.drew ?_
    clear hX i0 i1 i2 i3 i4 i5 i6 i7 i8 i9
    repeat
      first
        | (refine BigFrame.wpQuiet_skip (by rfl) ?_
           simp only [Act.put, List.setIfInBounds_toArray, List.set_cons_zero, List.set_cons_succ])
        | (refine BigFrame.wpQuiet_want (by rfl) (fun K hK => ?_)
           apply Exists.intro
           refine ⟨fun wq hq => ?_, hK _ ?_⟩
           · have i0 := hq.c 0 0 rfl rfl; have i1 := hq.c 0 1 rfl rfl; have i2 := hq.c 0 2 rfl rfl; have i3 := hq.c 0 3 rfl rfl; have i4 := hq.c 0 4 rfl rfl; have i5 := hq.c 0 5 rfl rfl; have i6 := hq.c 0 6 rfl rfl; have i7 := hq.c 0 7 rfl rfl; have i8 := hq.c 0 8 rfl rfl; have i9 := hq.c 0 9 rfl rfl
             unfold Oper.quietAt
             go_simp
             first
               | with_reducible rfl
               | ((go_at_call 57); with_reducible refine (j1 _).mono ?_; exact fun e w' ⟨he, hb⟩ => ⟨he, hq.step hb⟩)
               | ((go_at_call 57); with_reducible refine (j2 _).mono ?_; exact fun e w' ⟨he, hb⟩ => ⟨he, hq.step hb⟩)
           clear hK K
           simp only [Act.put, List.setIfInBounds_toArray, List.set_cons_zero, List.set_cons_succ])
    refine wpQuiet_nil ?_
    intro w4 hX
    have i0 := hX.c 0 0 rfl rfl; have i1 := hX.c 0 1 rfl rfl; have i2 := hX.c 0 2 rfl rfl; have i3 := hX.c 0 3 rfl rfl; have i4 := hX.c 0 4 rfl rfl; have i5 := hX.c 0 5 rfl rfl; have i6 := hX.c 0 6 rfl rfl; have i7 := hX.c 0 7 rfl rfl; have i8 := hX.c 0 8 rfl rfl; have i9 := hX.c 0 9 rfl rfl
    go_wp2_with (first | (go_at_call 50; with_reducible refine (j3 _).mono ?_; rintro e w' ⟨rfl, hb⟩; have hX := hX.step hb; have i0 := hX.c 0 0 rfl rfl; have i1 := hX.c 0 1 rfl rfl; have i2 := hX.c 0 2 rfl rfl; have i3 := hX.c 0 3 rfl rfl; have i4 := hX.c 0 4 rfl rfl; have i5 := hX.c 0 5 rfl rfl; have i6 := hX.c 0 6 rfl rfl; have i7 := hX.c 0 7 rfl rfl; have i8 := hX.c 0 8 rfl rfl; have i9 := hX.c 0 9 rfl rfl; clear hb))
    go_ret
    refine ⟨ei _ _ ?_, by first | exact hX.below | exact hBB ▸ hX.below⟩
    clear hX
    first | rfl | omega | (simp; done) | (simp; omega)

theorem first_23 (b : Bool) (m r x p q y g n : Int) (hg : 0 ≤ g ∧ g ≤ 7) (hn : -128 ≤ n ∧ n ≤ 255) {A : Addr} {c : Nat} (W0 : World) (W : Frm A c W0) :
    Calls Tryd.prog 34 #[.agg #[.int .i64 49, .bool b, .int .i64 m, .int .i64 r, .int .i64 x, .int .i64 p, .int .i64 q, .int .i64 y, .int .i64 g, .int .i64 n]] W0 fun e w' => e = .returned (.int .i64 (rfR ⟨49, b, m, r, x, p, q, y, g, n⟩)) ∧ Below W0.heap.size W0 w' := by
  have hX := (St.start W).put [.int .i64 49, .bool b, .int .i64 m, .int .i64 r, .int .i64 x, .int .i64 p, .int .i64 q, .int .i64 y, .int .i64 g, .int .i64 n] 28
  have e : rfR ⟨49, b, m, r, x, p, q, y, g, n⟩ = 2 := by
    unfold rfR
    rw [if_neg (by simp; try omega), if_neg (by simp; try omega), if_neg (by simp; try omega), if_neg (by simp; try omega), if_neg (by simp; try omega), if_neg (by simp; try omega), if_neg (by simp; try omega), if_neg (by simp; try omega), if_neg (by simp; try omega), if_neg (by simp; try omega), if_neg (by simp; try omega), if_neg (by simp; try omega), if_neg (by simp; try omega), if_neg (by simp; try omega), if_neg (by simp; try omega), if_neg (by simp; try omega), if_neg (by simp; try omega), if_neg (by simp; try omega), if_neg (by simp; try omega), if_neg (by simp; try omega), if_neg (by simp; try omega), if_neg (by simp; try omega), if_neg (by simp; try omega), if_pos (by simp; try omega)]
  rw [e]
  clear e
  have hS := fdR_bds m r
  have hD := fdR_bds p q
  have j1 := fun w => rfield_any m r x w
  have j2 := fun w => rfield_any p q y w
  have j3 := fun w => islong_any 49 w
  have hil : isL 49 = false := by unfold isL; simp
  rw [hil] at j3
  have ei : ∀ a b : Int, a = b → Ending.returned (.int .i64 a) = .returned (.int .i64 b) := fun a b h => ret_int h
  generalize fdR m r = U at *
  generalize fdR p q = V at *
  obtain ⟨hS1, hS2⟩ := hS
  obtain ⟨hD1, hD2⟩ := hD
  obtain ⟨hg1, hg2⟩ := hg
  obtain ⟨hn1, hn2⟩ := hn
  have hm : (n + 256).tmod 256 = (n + 256) % 256 := Int.tmod_eq_emod_of_nonneg (by omega)
  cases b
  · go_enter Tryd.func34, Tryd.ntmps34
    go_upto_region 4 with fail
    have i0 := hX.c 0 0 rfl rfl; have i1 := hX.c 0 1 rfl rfl; have i2 := hX.c 0 2 rfl rfl; have i3 := hX.c 0 3 rfl rfl; have i4 := hX.c 0 4 rfl rfl; have i5 := hX.c 0 5 rfl rfl; have i6 := hX.c 0 6 rfl rfl; have i7 := hX.c 0 7 rfl rfl; have i8 := hX.c 0 8 rfl rfl; have i9 := hX.c 0 9 rfl rfl
    generalize W0.alloc (.cells #[.int .i64 49, .bool false, .int .i64 m, .int .i64 r, .int .i64 x, .int .i64 p, .int .i64 q, .int .i64 y, .int .i64 g, .int .i64 n] 28) = w1 at *
    generalize hBB : W0.heap.size = B at hX i0 i1 i2 i3 i4 i5 i6 i7 i8 i9 ⊢
    refine region_class (fun w' => St A c [(B, [.int .i64 49, .bool false, .int .i64 m, .int .i64 r, .int .i64 x, .int .i64 p, .int .i64 q, .int .i64 y, .int .i64 g, .int .i64 n])] W0 w') (by kernel_rfl) (by kernel_rfl) hX.drew ?_
    clear hX i0 i1 i2 i3 i4 i5 i6 i7 i8 i9
    repeat
      first
        | (refine BigFrame.wpQuiet_skip (by rfl) ?_
           simp only [Act.put, List.setIfInBounds_toArray, List.set_cons_zero, List.set_cons_succ])
        | (refine BigFrame.wpQuiet_want (by rfl) (fun K hK => ?_)
           apply Exists.intro
           refine ⟨fun wq hq => ?_, hK _ ?_⟩
           · have i0 := hq.c 0 0 rfl rfl; have i1 := hq.c 0 1 rfl rfl; have i2 := hq.c 0 2 rfl rfl; have i3 := hq.c 0 3 rfl rfl; have i4 := hq.c 0 4 rfl rfl; have i5 := hq.c 0 5 rfl rfl; have i6 := hq.c 0 6 rfl rfl; have i7 := hq.c 0 7 rfl rfl; have i8 := hq.c 0 8 rfl rfl; have i9 := hq.c 0 9 rfl rfl
             unfold Oper.quietAt
             go_simp
             first
               | with_reducible rfl
               | ((go_at_call 57); with_reducible refine (j1 _).mono ?_; exact fun e w' ⟨he, hb⟩ => ⟨he, hq.step hb⟩)
               | ((go_at_call 57); with_reducible refine (j2 _).mono ?_; exact fun e w' ⟨he, hb⟩ => ⟨he, hq.step hb⟩)
           clear hK K
           simp only [Act.put, List.setIfInBounds_toArray, List.set_cons_zero, List.set_cons_succ])
    refine wpQuiet_nil ?_
    intro w4 hX
    have i0 := hX.c 0 0 rfl rfl; have i1 := hX.c 0 1 rfl rfl; have i2 := hX.c 0 2 rfl rfl; have i3 := hX.c 0 3 rfl rfl; have i4 := hX.c 0 4 rfl rfl; have i5 := hX.c 0 5 rfl rfl; have i6 := hX.c 0 6 rfl rfl; have i7 := hX.c 0 7 rfl rfl; have i8 := hX.c 0 8 rfl rfl; have i9 := hX.c 0 9 rfl rfl
    go_wp2_with (first | (go_at_call 50; with_reducible refine (j3 _).mono ?_; rintro e w' ⟨rfl, hb⟩; have hX := hX.step hb; have i0 := hX.c 0 0 rfl rfl; have i1 := hX.c 0 1 rfl rfl; have i2 := hX.c 0 2 rfl rfl; have i3 := hX.c 0 3 rfl rfl; have i4 := hX.c 0 4 rfl rfl; have i5 := hX.c 0 5 rfl rfl; have i6 := hX.c 0 6 rfl rfl; have i7 := hX.c 0 7 rfl rfl; have i8 := hX.c 0 8 rfl rfl; have i9 := hX.c 0 9 rfl rfl; clear hb))
    go_ret
    refine ⟨ei _ _ ?_, by first | exact hX.below | exact hBB ▸ hX.below⟩
    clear hX
    first | rfl | omega | (simp; done) | (simp; omega)
  · go_enter Tryd.func34, Tryd.ntmps34
    go_upto_region 4 with fail
    have i0 := hX.c 0 0 rfl rfl; have i1 := hX.c 0 1 rfl rfl; have i2 := hX.c 0 2 rfl rfl; have i3 := hX.c 0 3 rfl rfl; have i4 := hX.c 0 4 rfl rfl; have i5 := hX.c 0 5 rfl rfl; have i6 := hX.c 0 6 rfl rfl; have i7 := hX.c 0 7 rfl rfl; have i8 := hX.c 0 8 rfl rfl; have i9 := hX.c 0 9 rfl rfl
    generalize W0.alloc (.cells #[.int .i64 49, .bool true, .int .i64 m, .int .i64 r, .int .i64 x, .int .i64 p, .int .i64 q, .int .i64 y, .int .i64 g, .int .i64 n] 28) = w1 at *
    generalize hBB : W0.heap.size = B at hX i0 i1 i2 i3 i4 i5 i6 i7 i8 i9 ⊢
    refine region_class (fun w' => St A c [(B, [.int .i64 49, .bool true, .int .i64 m, .int .i64 r, .int .i64 x, .int .i64 p, .int .i64 q, .int .i64 y, .int .i64 g, .int .i64 n])] W0 w') (by kernel_rfl) (by kernel_rfl) hX.drew ?_
    clear hX i0 i1 i2 i3 i4 i5 i6 i7 i8 i9
    repeat
      first
        | (refine BigFrame.wpQuiet_skip (by rfl) ?_
           simp only [Act.put, List.setIfInBounds_toArray, List.set_cons_zero, List.set_cons_succ])
        | (refine BigFrame.wpQuiet_want (by rfl) (fun K hK => ?_)
           apply Exists.intro
           refine ⟨fun wq hq => ?_, hK _ ?_⟩
           · have i0 := hq.c 0 0 rfl rfl; have i1 := hq.c 0 1 rfl rfl; have i2 := hq.c 0 2 rfl rfl; have i3 := hq.c 0 3 rfl rfl; have i4 := hq.c 0 4 rfl rfl; have i5 := hq.c 0 5 rfl rfl; have i6 := hq.c 0 6 rfl rfl; have i7 := hq.c 0 7 rfl rfl; have i8 := hq.c 0 8 rfl rfl; have i9 := hq.c 0 9 rfl rfl
             unfold Oper.quietAt
             go_simp
             first
               | with_reducible rfl
               | ((go_at_call 57); with_reducible refine (j1 _).mono ?_; exact fun e w' ⟨he, hb⟩ => ⟨he, hq.step hb⟩)
               | ((go_at_call 57); with_reducible refine (j2 _).mono ?_; exact fun e w' ⟨he, hb⟩ => ⟨he, hq.step hb⟩)
           clear hK K
           simp only [Act.put, List.setIfInBounds_toArray, List.set_cons_zero, List.set_cons_succ])
    refine wpQuiet_nil ?_
    intro w4 hX
    have i0 := hX.c 0 0 rfl rfl; have i1 := hX.c 0 1 rfl rfl; have i2 := hX.c 0 2 rfl rfl; have i3 := hX.c 0 3 rfl rfl; have i4 := hX.c 0 4 rfl rfl; have i5 := hX.c 0 5 rfl rfl; have i6 := hX.c 0 6 rfl rfl; have i7 := hX.c 0 7 rfl rfl; have i8 := hX.c 0 8 rfl rfl; have i9 := hX.c 0 9 rfl rfl
    go_wp2_with (first | (go_at_call 50; with_reducible refine (j3 _).mono ?_; rintro e w' ⟨rfl, hb⟩; have hX := hX.step hb; have i0 := hX.c 0 0 rfl rfl; have i1 := hX.c 0 1 rfl rfl; have i2 := hX.c 0 2 rfl rfl; have i3 := hX.c 0 3 rfl rfl; have i4 := hX.c 0 4 rfl rfl; have i5 := hX.c 0 5 rfl rfl; have i6 := hX.c 0 6 rfl rfl; have i7 := hX.c 0 7 rfl rfl; have i8 := hX.c 0 8 rfl rfl; have i9 := hX.c 0 9 rfl rfl; clear hb))
    go_ret
    refine ⟨ei _ _ ?_, by first | exact hX.below | exact hBB ▸ hX.below⟩
    clear hX
    first | rfl | omega | (simp; done) | (simp; omega)

theorem first_25 (b : Bool) (m r x p q y g n : Int) (hg : 0 ≤ g ∧ g ≤ 7) (hn : -128 ≤ n ∧ n ≤ 255) {A : Addr} {c : Nat} (W0 : World) (W : Frm A c W0) :
    Calls Tryd.prog 34 #[.agg #[.int .i64 48, .bool b, .int .i64 m, .int .i64 r, .int .i64 x, .int .i64 p, .int .i64 q, .int .i64 y, .int .i64 g, .int .i64 n]] W0 fun e w' => e = .returned (.int .i64 (rfR ⟨48, b, m, r, x, p, q, y, g, n⟩)) ∧ Below W0.heap.size W0 w' := by
  have hX := (St.start W).put [.int .i64 48, .bool b, .int .i64 m, .int .i64 r, .int .i64 x, .int .i64 p, .int .i64 q, .int .i64 y, .int .i64 g, .int .i64 n] 28
  have e : rfR ⟨48, b, m, r, x, p, q, y, g, n⟩ = 4 := by
    unfold rfR
    rw [if_neg (by simp; try omega), if_neg (by simp; try omega), if_neg (by simp; try omega), if_neg (by simp; try omega), if_neg (by simp; try omega), if_neg (by simp; try omega), if_neg (by simp; try omega), if_neg (by simp; try omega), if_neg (by simp; try omega), if_neg (by simp; try omega), if_neg (by simp; try omega), if_neg (by simp; try omega), if_neg (by simp; try omega), if_neg (by simp; try omega), if_neg (by simp; try omega), if_neg (by simp; try omega), if_neg (by simp; try omega), if_neg (by simp; try omega), if_neg (by simp; try omega), if_neg (by simp; try omega), if_neg (by simp; try omega), if_neg (by simp; try omega), if_neg (by simp; try omega), if_neg (by simp; try omega), if_neg (by simp; try omega), if_pos (by simp; try omega)]
  rw [e]
  clear e
  have hS := fdR_bds m r
  have hD := fdR_bds p q
  have j1 := fun w => rfield_any m r x w
  have j2 := fun w => rfield_any p q y w
  have j3 := fun w => islong_any 48 w
  have hil : isL 48 = false := by unfold isL; simp
  rw [hil] at j3
  have ei : ∀ a b : Int, a = b → Ending.returned (.int .i64 a) = .returned (.int .i64 b) := fun a b h => ret_int h
  generalize fdR m r = U at *
  generalize fdR p q = V at *
  obtain ⟨hS1, hS2⟩ := hS
  obtain ⟨hD1, hD2⟩ := hD
  obtain ⟨hg1, hg2⟩ := hg
  obtain ⟨hn1, hn2⟩ := hn
  have hm : (n + 256).tmod 256 = (n + 256) % 256 := Int.tmod_eq_emod_of_nonneg (by omega)
  cases b
  · go_enter Tryd.func34, Tryd.ntmps34
    go_upto_region 4 with fail
    have i0 := hX.c 0 0 rfl rfl; have i1 := hX.c 0 1 rfl rfl; have i2 := hX.c 0 2 rfl rfl; have i3 := hX.c 0 3 rfl rfl; have i4 := hX.c 0 4 rfl rfl; have i5 := hX.c 0 5 rfl rfl; have i6 := hX.c 0 6 rfl rfl; have i7 := hX.c 0 7 rfl rfl; have i8 := hX.c 0 8 rfl rfl; have i9 := hX.c 0 9 rfl rfl
    generalize W0.alloc (.cells #[.int .i64 48, .bool false, .int .i64 m, .int .i64 r, .int .i64 x, .int .i64 p, .int .i64 q, .int .i64 y, .int .i64 g, .int .i64 n] 28) = w1 at *
    generalize hBB : W0.heap.size = B at hX i0 i1 i2 i3 i4 i5 i6 i7 i8 i9 ⊢
    refine region_class (fun w' => St A c [(B, [.int .i64 48, .bool false, .int .i64 m, .int .i64 r, .int .i64 x, .int .i64 p, .int .i64 q, .int .i64 y, .int .i64 g, .int .i64 n])] W0 w') (by kernel_rfl) (by kernel_rfl) hX.drew ?_
    clear hX i0 i1 i2 i3 i4 i5 i6 i7 i8 i9
    repeat
      first
        | (refine BigFrame.wpQuiet_skip (by rfl) ?_
           simp only [Act.put, List.setIfInBounds_toArray, List.set_cons_zero, List.set_cons_succ])
        | (refine BigFrame.wpQuiet_want (by rfl) (fun K hK => ?_)
           apply Exists.intro
           refine ⟨fun wq hq => ?_, hK _ ?_⟩
           · have i0 := hq.c 0 0 rfl rfl; have i1 := hq.c 0 1 rfl rfl; have i2 := hq.c 0 2 rfl rfl; have i3 := hq.c 0 3 rfl rfl; have i4 := hq.c 0 4 rfl rfl; have i5 := hq.c 0 5 rfl rfl; have i6 := hq.c 0 6 rfl rfl; have i7 := hq.c 0 7 rfl rfl; have i8 := hq.c 0 8 rfl rfl; have i9 := hq.c 0 9 rfl rfl
             unfold Oper.quietAt
             go_simp
             first
               | with_reducible rfl
               | ((go_at_call 57); with_reducible refine (j1 _).mono ?_; exact fun e w' ⟨he, hb⟩ => ⟨he, hq.step hb⟩)
               | ((go_at_call 57); with_reducible refine (j2 _).mono ?_; exact fun e w' ⟨he, hb⟩ => ⟨he, hq.step hb⟩)
           clear hK K
           simp only [Act.put, List.setIfInBounds_toArray, List.set_cons_zero, List.set_cons_succ])
    refine wpQuiet_nil ?_
    intro w4 hX
    have i0 := hX.c 0 0 rfl rfl; have i1 := hX.c 0 1 rfl rfl; have i2 := hX.c 0 2 rfl rfl; have i3 := hX.c 0 3 rfl rfl; have i4 := hX.c 0 4 rfl rfl; have i5 := hX.c 0 5 rfl rfl; have i6 := hX.c 0 6 rfl rfl; have i7 := hX.c 0 7 rfl rfl; have i8 := hX.c 0 8 rfl rfl; have i9 := hX.c 0 9 rfl rfl
    go_wp2_with (first | (go_at_call 50; with_reducible refine (j3 _).mono ?_; rintro e w' ⟨rfl, hb⟩; have hX := hX.step hb; have i0 := hX.c 0 0 rfl rfl; have i1 := hX.c 0 1 rfl rfl; have i2 := hX.c 0 2 rfl rfl; have i3 := hX.c 0 3 rfl rfl; have i4 := hX.c 0 4 rfl rfl; have i5 := hX.c 0 5 rfl rfl; have i6 := hX.c 0 6 rfl rfl; have i7 := hX.c 0 7 rfl rfl; have i8 := hX.c 0 8 rfl rfl; have i9 := hX.c 0 9 rfl rfl; clear hb))
    go_ret
    refine ⟨ei _ _ ?_, by first | exact hX.below | exact hBB ▸ hX.below⟩
    clear hX
    first | rfl | omega | (simp; done) | (simp; omega)
  · go_enter Tryd.func34, Tryd.ntmps34
    go_upto_region 4 with fail
    have i0 := hX.c 0 0 rfl rfl; have i1 := hX.c 0 1 rfl rfl; have i2 := hX.c 0 2 rfl rfl; have i3 := hX.c 0 3 rfl rfl; have i4 := hX.c 0 4 rfl rfl; have i5 := hX.c 0 5 rfl rfl; have i6 := hX.c 0 6 rfl rfl; have i7 := hX.c 0 7 rfl rfl; have i8 := hX.c 0 8 rfl rfl; have i9 := hX.c 0 9 rfl rfl
    generalize W0.alloc (.cells #[.int .i64 48, .bool true, .int .i64 m, .int .i64 r, .int .i64 x, .int .i64 p, .int .i64 q, .int .i64 y, .int .i64 g, .int .i64 n] 28) = w1 at *
    generalize hBB : W0.heap.size = B at hX i0 i1 i2 i3 i4 i5 i6 i7 i8 i9 ⊢
    refine region_class (fun w' => St A c [(B, [.int .i64 48, .bool true, .int .i64 m, .int .i64 r, .int .i64 x, .int .i64 p, .int .i64 q, .int .i64 y, .int .i64 g, .int .i64 n])] W0 w') (by kernel_rfl) (by kernel_rfl) hX.drew ?_
    clear hX i0 i1 i2 i3 i4 i5 i6 i7 i8 i9
    repeat
      first
        | (refine BigFrame.wpQuiet_skip (by rfl) ?_
           simp only [Act.put, List.setIfInBounds_toArray, List.set_cons_zero, List.set_cons_succ])
        | (refine BigFrame.wpQuiet_want (by rfl) (fun K hK => ?_)
           apply Exists.intro
           refine ⟨fun wq hq => ?_, hK _ ?_⟩
           · have i0 := hq.c 0 0 rfl rfl; have i1 := hq.c 0 1 rfl rfl; have i2 := hq.c 0 2 rfl rfl; have i3 := hq.c 0 3 rfl rfl; have i4 := hq.c 0 4 rfl rfl; have i5 := hq.c 0 5 rfl rfl; have i6 := hq.c 0 6 rfl rfl; have i7 := hq.c 0 7 rfl rfl; have i8 := hq.c 0 8 rfl rfl; have i9 := hq.c 0 9 rfl rfl
             unfold Oper.quietAt
             go_simp
             first
               | with_reducible rfl
               | ((go_at_call 57); with_reducible refine (j1 _).mono ?_; exact fun e w' ⟨he, hb⟩ => ⟨he, hq.step hb⟩)
               | ((go_at_call 57); with_reducible refine (j2 _).mono ?_; exact fun e w' ⟨he, hb⟩ => ⟨he, hq.step hb⟩)
           clear hK K
           simp only [Act.put, List.setIfInBounds_toArray, List.set_cons_zero, List.set_cons_succ])
    refine wpQuiet_nil ?_
    intro w4 hX
    have i0 := hX.c 0 0 rfl rfl; have i1 := hX.c 0 1 rfl rfl; have i2 := hX.c 0 2 rfl rfl; have i3 := hX.c 0 3 rfl rfl; have i4 := hX.c 0 4 rfl rfl; have i5 := hX.c 0 5 rfl rfl; have i6 := hX.c 0 6 rfl rfl; have i7 := hX.c 0 7 rfl rfl; have i8 := hX.c 0 8 rfl rfl; have i9 := hX.c 0 9 rfl rfl
    go_wp2_with (first | (go_at_call 50; with_reducible refine (j3 _).mono ?_; rintro e w' ⟨rfl, hb⟩; have hX := hX.step hb; have i0 := hX.c 0 0 rfl rfl; have i1 := hX.c 0 1 rfl rfl; have i2 := hX.c 0 2 rfl rfl; have i3 := hX.c 0 3 rfl rfl; have i4 := hX.c 0 4 rfl rfl; have i5 := hX.c 0 5 rfl rfl; have i6 := hX.c 0 6 rfl rfl; have i7 := hX.c 0 7 rfl rfl; have i8 := hX.c 0 8 rfl rfl; have i9 := hX.c 0 9 rfl rfl; clear hb))
    go_ret
    refine ⟨ei _ _ ?_, by first | exact hX.below | exact hBB ▸ hX.below⟩
    clear hX
    first | rfl | omega | (simp; done) | (simp; omega)

end Go.Proofs.YtlaikajgpgpidaaDoor
