/-
  Walks over first of the reference of package inst, one for each class of operations. Condition: the tables read as the program's text lays them (asked by the boxes alone).
-/
import Derived.Test.YtlaikajgpgpidaaDoorInRa
namespace Go.Proofs.YtlaikajgpgpidaaDoor
open Go.RowKit
set_option linter.unusedSimpArgs false
set_option linter.unusedVariables false
set_option maxHeartbeats 4000000
set_option maxRecDepth 100000
attribute [local irreducible] wpQuiet

theorem first_0 (o : Int) (b : Bool) (m r x p q y g n : Int) (ho : 1 ≤ o ∧ o ≤ 5) (hg : 0 ≤ g ∧ g ≤ 7) (hn : -128 ≤ n ∧ n ≤ 255) {A : Addr} {c : Nat} (W0 : World) (W : Frm A c W0) :
    Calls Tryd.prog 34 #[.agg #[.int .i64 o, .bool b, .int .i64 m, .int .i64 r, .int .i64 x, .int .i64 p, .int .i64 q, .int .i64 y, .int .i64 g, .int .i64 n]] W0 fun e w' => e = .returned (.int .i64 (rfR ⟨o, b, m, r, x, p, q, y, g, n⟩)) ∧ Below W0.heap.size W0 w' := by
  have hX := (St.start W).put [.int .i64 o, .bool b, .int .i64 m, .int .i64 r, .int .i64 x, .int .i64 p, .int .i64 q, .int .i64 y, .int .i64 g, .int .i64 n] 28
  have e : rfR ⟨o, b, m, r, x, p, q, y, g, n⟩ = (if b = true then 32768 else 0) + 4096 * (o - 1 + 1) + 64 * fdR m r + fdR p q := by
    unfold rfR
    rw [if_pos (by simp; try omega)]
  rw [e]
  clear e
  have hS := fdR_bds m r
  have hD := fdR_bds p q
  have j1 := fun w => rfield_any m r x w
  have j2 := fun w => rfield_any p q y w
  have j3 := fun w => islong_any o w
  have hil : isL o = false := by unfold isL; simp; omega
  rw [hil] at j3
  have ei : ∀ a b : Int, a = b → Ending.returned (.int .i64 a) = .returned (.int .i64 b) := fun a b h => ret_int h
  generalize fdR m r = U at *
  generalize fdR p q = V at *
  obtain ⟨hS1, hS2⟩ := hS
  obtain ⟨hD1, hD2⟩ := hD
  obtain ⟨hg1, hg2⟩ := hg
  obtain ⟨hn1, hn2⟩ := hn
  have hm : (n + 256).tmod 256 = (n + 256) % 256 := Int.tmod_eq_emod_of_nonneg (by omega)
  obtain ⟨ho1, ho2⟩ := ho
  have f0 : decide (1 ≤ o) = true := decide_eq_true (by omega)
  have f1 : decide (o ≤ 5) = true := decide_eq_true (by omega)
  cases b
  · go_enter Tryd.func34, Tryd.ntmps34
    go_upto_region 4 with fail
    have i0 := hX.c 0 0 rfl rfl; have i1 := hX.c 0 1 rfl rfl; have i2 := hX.c 0 2 rfl rfl; have i3 := hX.c 0 3 rfl rfl; have i4 := hX.c 0 4 rfl rfl; have i5 := hX.c 0 5 rfl rfl; have i6 := hX.c 0 6 rfl rfl; have i7 := hX.c 0 7 rfl rfl; have i8 := hX.c 0 8 rfl rfl; have i9 := hX.c 0 9 rfl rfl
    generalize W0.alloc (.cells #[.int .i64 o, .bool false, .int .i64 m, .int .i64 r, .int .i64 x, .int .i64 p, .int .i64 q, .int .i64 y, .int .i64 g, .int .i64 n] 28) = w1 at *
    generalize hBB : W0.heap.size = B at hX i0 i1 i2 i3 i4 i5 i6 i7 i8 i9 ⊢
    refine region_class (fun w' => St A c [(B, [.int .i64 o, .bool false, .int .i64 m, .int .i64 r, .int .i64 x, .int .i64 p, .int .i64 q, .int .i64 y, .int .i64 g, .int .i64 n])] W0 w') (by kernel_rfl) (by kernel_rfl) hX.drew ?_
    clear hX i0 i1 i2 i3 i4 i5 i6 i7 i8 i9
    repeat
      first
        | (refine BigFrame.wpQuiet_skip (by rfl) ?_
           simp only [Act.put, List.setIfInBounds_toArray, List.set_cons_zero, List.set_cons_succ])
        | (refine BigFrame.wpQuiet_want (by rfl) (fun K hK => ?_)
           apply Exists.intro
           refine ⟨fun wq hq => ?_, hK _ ?_⟩
           · have i0 := hq.c 0 0 rfl rfl; have i1 := hq.c 0 1 rfl rfl; have i2 := hq.c 0 2 rfl rfl; have i3 := hq.c 0 3 rfl rfl; have i4 := hq.c 0 4 rfl rfl; have i5 := hq.c 0 5 rfl rfl; have i6 := hq.c 0 6 rfl rfl; have i7 := hq.c 0 7 rfl rfl; have i8 := hq.c 0 8 rfl rfl; have i9 := hq.c 0 9 rfl rfl
             unfold Oper.quietAt
             go_simp
             first
               | with_reducible rfl
               | ((go_at_call 57); with_reducible refine (j1 _).mono ?_; exact fun e w' ⟨he, hb⟩ => ⟨he, hq.step hb⟩)
               | ((go_at_call 57); with_reducible refine (j2 _).mono ?_; exact fun e w' ⟨he, hb⟩ => ⟨he, hq.step hb⟩)
           clear hK K
           simp only [Act.put, List.setIfInBounds_toArray, List.set_cons_zero, List.set_cons_succ])
    refine wpQuiet_nil ?_
    intro w4 hX
    have i0 := hX.c 0 0 rfl rfl; have i1 := hX.c 0 1 rfl rfl; have i2 := hX.c 0 2 rfl rfl; have i3 := hX.c 0 3 rfl rfl; have i4 := hX.c 0 4 rfl rfl; have i5 := hX.c 0 5 rfl rfl; have i6 := hX.c 0 6 rfl rfl; have i7 := hX.c 0 7 rfl rfl; have i8 := hX.c 0 8 rfl rfl; have i9 := hX.c 0 9 rfl rfl
    go_wp2_with (first | (go_at_call 50; with_reducible refine (j3 _).mono ?_; rintro e w' ⟨rfl, hb⟩; have hX := hX.step hb; have i0 := hX.c 0 0 rfl rfl; have i1 := hX.c 0 1 rfl rfl; have i2 := hX.c 0 2 rfl rfl; have i3 := hX.c 0 3 rfl rfl; have i4 := hX.c 0 4 rfl rfl; have i5 := hX.c 0 5 rfl rfl; have i6 := hX.c 0 6 rfl rfl; have i7 := hX.c 0 7 rfl rfl; have i8 := hX.c 0 8 rfl rfl; have i9 := hX.c 0 9 rfl rfl; clear hb))
    go_ret
    refine ⟨ei _ _ ?_, by first | exact hX.below | exact hBB ▸ hX.below⟩
    clear hX
    first | rfl | omega | (simp; done) | (simp; omega)
  · go_enter Tryd.func34, Tryd.ntmps34
    go_upto_region 4 with fail
    have i0 := hX.c 0 0 rfl rfl; have i1 := hX.c 0 1 rfl rfl; have i2 := hX.c 0 2 rfl rfl; have i3 := hX.c 0 3 rfl rfl; have i4 := hX.c 0 4 rfl rfl; have i5 := hX.c 0 5 rfl rfl; have i6 := hX.c 0 6 rfl rfl; have i7 := hX.c 0 7 rfl rfl; have i8 := hX.c 0 8 rfl rfl; have i9 := hX.c 0 9 rfl rfl
    generalize W0.alloc (.cells #[.int .i64 o, .bool true, .int .i64 m, .int .i64 r, .int .i64 x, .int .i64 p, .int .i64 q, .int .i64 y, .int .i64 g, .int .i64 n] 28) = w1 at *
    generalize hBB : W0.heap.size = B at hX i0 i1 i2 i3 i4 i5 i6 i7 i8 i9 ⊢
    refine region_class (fun w' => St A c [(B, [.int .i64 o, .bool true, .int .i64 m, .int .i64 r, .int .i64 x, .int .i64 p, .int .i64 q, .int .i64 y, .int .i64 g, .int .i64 n])] W0 w') (by kernel_rfl) (by kernel_rfl) hX.drew ?_
    clear hX i0 i1 i2 i3 i4 i5 i6 i7 i8 i9
    repeat
      first
        | (refine BigFrame.wpQuiet_skip (by rfl) ?_
           simp only [Act.put, List.setIfInBounds_toArray, List.set_cons_zero, List.set_cons_succ])
        | (refine BigFrame.wpQuiet_want (by rfl) (fun K hK => ?_)
           apply Exists.intro
           refine ⟨fun wq hq => ?_, hK _ ?_⟩
           · have i0 := hq.c 0 0 rfl rfl; have i1 := hq.c 0 1 rfl rfl; have i2 := hq.c 0 2 rfl rfl; have i3 := hq.c 0 3 rfl rfl; have i4 := hq.c 0 4 rfl rfl; have i5 := hq.c 0 5 rfl rfl; have i6 := hq.c 0 6 rfl rfl; have i7 := hq.c 0 7 rfl rfl; have i8 := hq.c 0 8 rfl rfl; have i9 := hq.c 0 9 rfl rfl
             unfold Oper.quietAt
             go_simp
             first
               | with_reducible rfl
               | ((go_at_call 57); with_reducible refine (j1 _).mono ?_; exact fun e w' ⟨he, hb⟩ => ⟨he, hq.step hb⟩)
               | ((go_at_call 57); with_reducible refine (j2 _).mono ?_; exact fun e w' ⟨he, hb⟩ => ⟨he, hq.step hb⟩)
           clear hK K
           simp only [Act.put, List.setIfInBounds_toArray, List.set_cons_zero, List.set_cons_succ])
    refine wpQuiet_nil ?_
    intro w4 hX
    have i0 := hX.c 0 0 rfl rfl; have i1 := hX.c 0 1 rfl rfl; have i2 := hX.c 0 2 rfl rfl; have i3 := hX.c 0 3 rfl rfl; have i4 := hX.c 0 4 rfl rfl; have i5 := hX.c 0 5 rfl rfl; have i6 := hX.c 0 6 rfl rfl; have i7 := hX.c 0 7 rfl rfl; have i8 := hX.c 0 8 rfl rfl; have i9 := hX.c 0 9 rfl rfl
    go_wp2_with (first | (go_at_call 50; with_reducible refine (j3 _).mono ?_; rintro e w' ⟨rfl, hb⟩; have hX := hX.step hb; have i0 := hX.c 0 0 rfl rfl; have i1 := hX.c 0 1 rfl rfl; have i2 := hX.c 0 2 rfl rfl; have i3 := hX.c 0 3 rfl rfl; have i4 := hX.c 0 4 rfl rfl; have i5 := hX.c 0 5 rfl rfl; have i6 := hX.c 0 6 rfl rfl; have i7 := hX.c 0 7 rfl rfl; have i8 := hX.c 0 8 rfl rfl; have i9 := hX.c 0 9 rfl rfl; clear hb))
    go_ret
    refine ⟨ei _ _ ?_, by first | exact hX.below | exact hBB ▸ hX.below⟩
    clear hX
    first | rfl | omega | (simp; done) | (simp; omega)

theorem first_2 (b : Bool) (m r x p q y g n : Int) (hg : 0 ≤ g ∧ g ≤ 7) (hn : -128 ≤ n ∧ n ≤ 255) {A : Addr} {c : Nat} (W0 : World) (W : Frm A c W0) :
    Calls Tryd.prog 34 #[.agg #[.int .i64 7, .bool b, .int .i64 m, .int .i64 r, .int .i64 x, .int .i64 p, .int .i64 q, .int .i64 y, .int .i64 g, .int .i64 n]] W0 fun e w' => e = .returned (.int .i64 (rfR ⟨7, b, m, r, x, p, q, y, g, n⟩)) ∧ Below W0.heap.size W0 w' := by
  have hX := (St.start W).put [.int .i64 7, .bool b, .int .i64 m, .int .i64 r, .int .i64 x, .int .i64 p, .int .i64 q, .int .i64 y, .int .i64 g, .int .i64 n] 28
  have e : rfR ⟨7, b, m, r, x, p, q, y, g, n⟩ = 57344 + 64 * fdR m r + fdR p q := by
    unfold rfR
    rw [if_neg (by simp; try omega), if_neg (by simp; try omega), if_pos (by simp; try omega)]
  rw [e]
  clear e
  have hS := fdR_bds m r
  have hD := fdR_bds p q
  have j1 := fun w => rfield_any m r x w
  have j2 := fun w => rfield_any p q y w
  have j3 := fun w => islong_any 7 w
  have hil : isL 7 = false := by unfold isL; simp
  rw [hil] at j3
  have ei : ∀ a b : Int, a = b → Ending.returned (.int .i64 a) = .returned (.int .i64 b) := fun a b h => ret_int h
  generalize fdR m r = U at *
  generalize fdR p q = V at *
  obtain ⟨hS1, hS2⟩ := hS
  obtain ⟨hD1, hD2⟩ := hD
  obtain ⟨hg1, hg2⟩ := hg
  obtain ⟨hn1, hn2⟩ := hn
  have hm : (n + 256).tmod 256 = (n + 256) % 256 := Int.tmod_eq_emod_of_nonneg (by omega)
  cases b
  · go_enter Tryd.func34, Tryd.ntmps34
    go_upto_region 4 with fail
    have i0 := hX.c 0 0 rfl rfl; have i1 := hX.c 0 1 rfl rfl; have i2 := hX.c 0 2 rfl rfl; have i3 := hX.c 0 3 rfl rfl; have i4 := hX.c 0 4 rfl rfl; have i5 := hX.c 0 5 rfl rfl; have i6 := hX.c 0 6 rfl rfl; have i7 := hX.c 0 7 rfl rfl; have i8 := hX.c 0 8 rfl rfl; have i9 := hX.c 0 9 rfl rfl
    generalize W0.alloc (.cells #[.int .i64 7, .bool false, .int .i64 m, .int .i64 r, .int .i64 x, .int .i64 p, .int .i64 q, .int .i64 y, .int .i64 g, .int .i64 n] 28) = w1 at *
    generalize hBB : W0.heap.size = B at hX i0 i1 i2 i3 i4 i5 i6 i7 i8 i9 ⊢
    refine region_class (fun w' => St A c [(B, [.int .i64 7, .bool false, .int .i64 m, .int .i64 r, .int .i64 x, .int .i64 p, .int .i64 q, .int .i64 y, .int .i64 g, .int .i64 n])] W0 w') (by kernel_rfl) (by kernel_rfl) hX.drew ?_
    clear hX i0 i1 i2 i3 i4 i5 i6 i7 i8 i9
    repeat
      first
        | (refine BigFrame.wpQuiet_skip (by rfl) ?_
           simp only [Act.put, List.setIfInBounds_toArray, List.set_cons_zero, List.set_cons_succ])
        | (refine BigFrame.wpQuiet_want (by rfl) (fun K hK => ?_)
           apply Exists.intro
           refine ⟨fun wq hq => ?_, hK _ ?_⟩
           · have i0 := hq.c 0 0 rfl rfl; have i1 := hq.c 0 1 rfl rfl; have i2 := hq.c 0 2 rfl rfl; have i3 := hq.c 0 3 rfl rfl; have i4 := hq.c 0 4 rfl rfl; have i5 := hq.c 0 5 rfl rfl; have i6 := hq.c 0 6 rfl rfl; have i7 := hq.c 0 7 rfl rfl; have i8 := hq.c 0 8 rfl rfl; have i9 := hq.c 0 9 rfl rfl
             unfold Oper.quietAt
             go_simp
             first
               | with_reducible rfl
               | ((go_at_call 57); with_reducible refine (j1 _).mono ?_; exact fun e w' ⟨he, hb⟩ => ⟨he, hq.step hb⟩)
               | ((go_at_call 57); with_reducible refine (j2 _).mono ?_; exact fun e w' ⟨he, hb⟩ => ⟨he, hq.step hb⟩)
           clear hK K
           simp only [Act.put, List.setIfInBounds_toArray, List.set_cons_zero, List.set_cons_succ])
    refine wpQuiet_nil ?_
    intro w4 hX
    have i0 := hX.c 0 0 rfl rfl; have i1 := hX.c 0 1 rfl rfl; have i2 := hX.c 0 2 rfl rfl; have i3 := hX.c 0 3 rfl rfl; have i4 := hX.c 0 4 rfl rfl; have i5 := hX.c 0 5 rfl rfl; have i6 := hX.c 0 6 rfl rfl; have i7 := hX.c 0 7 rfl rfl; have i8 := hX.c 0 8 rfl rfl; have i9 := hX.c 0 9 rfl rfl
    go_wp2_with (first | (go_at_call 50; with_reducible refine (j3 _).mono ?_; rintro e w' ⟨rfl, hb⟩; have hX := hX.step hb; have i0 := hX.c 0 0 rfl rfl; have i1 := hX.c 0 1 rfl rfl; have i2 := hX.c 0 2 rfl rfl; have i3 := hX.c 0 3 rfl rfl; have i4 := hX.c 0 4 rfl rfl; have i5 := hX.c 0 5 rfl rfl; have i6 := hX.c 0 6 rfl rfl; have i7 := hX.c 0 7 rfl rfl; have i8 := hX.c 0 8 rfl rfl; have i9 := hX.c 0 9 rfl rfl; clear hb))
    go_ret
    refine ⟨ei _ _ ?_, by first | exact hX.below | exact hBB ▸ hX.below⟩
    clear hX
    first | rfl | omega | (simp; done) | (simp; omega)
  · go_enter Tryd.func34, Tryd.ntmps34
    go_upto_region 4 with fail
    have i0 := hX.c 0 0 rfl rfl; have i1 := hX.c 0 1 rfl rfl; have i2 := hX.c 0 2 rfl rfl; have i3 := hX.c 0 3 rfl rfl; have i4 := hX.c 0 4 rfl rfl; have i5 := hX.c 0 5 rfl rfl; have i6 := hX.c 0 6 rfl rfl; have i7 := hX.c 0 7 rfl rfl; have i8 := hX.c 0 8 rfl rfl; have i9 := hX.c 0 9 rfl rfl
    generalize W0.alloc (.cells #[.int .i64 7, .bool true, .int .i64 m, .int .i64 r, .int .i64 x, .int .i64 p, .int .i64 q, .int .i64 y, .int .i64 g, .int .i64 n] 28) = w1 at *
    generalize hBB : W0.heap.size = B at hX i0 i1 i2 i3 i4 i5 i6 i7 i8 i9 ⊢
    refine region_class (fun w' => St A c [(B, [.int .i64 7, .bool true, .int .i64 m, .int .i64 r, .int .i64 x, .int .i64 p, .int .i64 q, .int .i64 y, .int .i64 g, .int .i64 n])] W0 w') (by kernel_rfl) (by kernel_rfl) hX.drew ?_
    clear hX i0 i1 i2 i3 i4 i5 i6 i7 i8 i9
    repeat
      first
        | (refine BigFrame.wpQuiet_skip (by rfl) ?_
           simp only [Act.put, List.setIfInBounds_toArray, List.set_cons_zero, List.set_cons_succ])
        | (refine BigFrame.wpQuiet_want (by rfl) (fun K hK => ?_)
           apply Exists.intro
           refine ⟨fun wq hq => ?_, hK _ ?_⟩
           · have i0 := hq.c 0 0 rfl rfl; have i1 := hq.c 0 1 rfl rfl; have i2 := hq.c 0 2 rfl rfl; have i3 := hq.c 0 3 rfl rfl; have i4 := hq.c 0 4 rfl rfl; have i5 := hq.c 0 5 rfl rfl; have i6 := hq.c 0 6 rfl rfl; have i7 := hq.c 0 7 rfl rfl; have i8 := hq.c 0 8 rfl rfl; have i9 := hq.c 0 9 rfl rfl
             unfold Oper.quietAt
             go_simp
             first
               | with_reducible rfl
               | ((go_at_call 57); with_reducible refine (j1 _).mono ?_; exact fun e w' ⟨he, hb⟩ => ⟨he, hq.step hb⟩)
               | ((go_at_call 57); with_reducible refine (j2 _).mono ?_; exact fun e w' ⟨he, hb⟩ => ⟨he, hq.step hb⟩)
           clear hK K
           simp only [Act.put, List.setIfInBounds_toArray, List.set_cons_zero, List.set_cons_succ])
    refine wpQuiet_nil ?_
    intro w4 hX
    have i0 := hX.c 0 0 rfl rfl; have i1 := hX.c 0 1 rfl rfl; have i2 := hX.c 0 2 rfl rfl; have i3 := hX.c 0 3 rfl rfl; have i4 := hX.c 0 4 rfl rfl; have i5 := hX.c 0 5 rfl rfl; have i6 := hX.c 0 6 rfl rfl; have i7 := hX.c 0 7 rfl rfl; have i8 := hX.c 0 8 rfl rfl; have i9 := hX.c 0 9 rfl rfl
    go_wp2_with (first | (go_at_call 50; with_reducible refine (j3 _).mono ?_; rintro e w' ⟨rfl, hb⟩; have hX := hX.step hb; have i0 := hX.c 0 0 rfl rfl; have i1 := hX.c 0 1 rfl rfl; have i2 := hX.c 0 2 rfl rfl; have i3 := hX.c 0 3 rfl rfl; have i4 := hX.c 0 4 rfl rfl; have i5 := hX.c 0 5 rfl rfl; have i6 := hX.c 0 6 rfl rfl; have i7 := hX.c 0 7 rfl rfl; have i8 := hX.c 0 8 rfl rfl; have i9 := hX.c 0 9 rfl rfl; clear hb))
    go_ret
    refine ⟨ei _ _ ?_, by first | exact hX.below | exact hBB ▸ hX.below⟩
    clear hX
    first | rfl | omega | (simp; done) | (simp; omega)

theorem first_4 (b : Bool) (m r x p q y g n : Int) (hg : 0 ≤ g ∧ g ≤ 7) (hn : -128 ≤ n ∧ n ≤ 255) {A : Addr} {c : Nat} (W0 : World) (W : Frm A c W0) :
    Calls Tryd.prog 34 #[.agg #[.int .i64 11, .bool b, .int .i64 m, .int .i64 r, .int .i64 x, .int .i64 p, .int .i64 q, .int .i64 y, .int .i64 g, .int .i64 n]] W0 fun e w' => e = .returned (.int .i64 (rfR ⟨11, b, m, r, x, p, q, y, g, n⟩)) ∧ Below W0.heap.size W0 w' := by
  have hX := (St.start W).put [.int .i64 11, .bool b, .int .i64 m, .int .i64 r, .int .i64 x, .int .i64 p, .int .i64 q, .int .i64 y, .int .i64 g, .int .i64 n] 28
  have e : rfR ⟨11, b, m, r, x, p, q, y, g, n⟩ = 30720 + 64 * g + fdR p q := by
    unfold rfR
    rw [if_neg (by simp; try omega), if_neg (by simp; try omega), if_neg (by simp; try omega), if_neg (by simp; try omega), if_pos (by simp; try omega)]
  rw [e]
  clear e
  have hS := fdR_bds m r
  have hD := fdR_bds p q
  have j1 := fun w => rfield_any m r x w
  have j2 := fun w => rfield_any p q y w
  have j3 := fun w => islong_any 11 w
  have hil : isL 11 = false := by unfold isL; simp
  rw [hil] at j3
  have ei : ∀ a b : Int, a = b → Ending.returned (.int .i64 a) = .returned (.int .i64 b) := fun a b h => ret_int h
  generalize fdR m r = U at *
  generalize fdR p q = V at *
  obtain ⟨hS1, hS2⟩ := hS
  obtain ⟨hD1, hD2⟩ := hD
  obtain ⟨hg1, hg2⟩ := hg
  obtain ⟨hn1, hn2⟩ := hn
  have hm : (n + 256).tmod 256 = (n + 256) % 256 := Int.tmod_eq_emod_of_nonneg (by omega)
  cases b
  · go_enter Tryd.func34, Tryd.ntmps34
    go_upto_region 4 with fail
    have i0 := hX.c 0 0 rfl rfl; have i1 := hX.c 0 1 rfl rfl; have i2 := hX.c 0 2 rfl rfl; have i3 := hX.c 0 3 rfl rfl; have i4 := hX.c 0 4 rfl rfl; have i5 := hX.c 0 5 rfl rfl; have i6 := hX.c 0 6 rfl rfl; have i7 := hX.c 0 7 rfl rfl; have i8 := hX.c 0 8 rfl rfl; have i9 := hX.c 0 9 rfl rfl
    generalize W0.alloc (.cells #[.int .i64 11, .bool false, .int .i64 m, .int .i64 r, .int .i64 x, .int .i64 p, .int .i64 q, .int .i64 y, .int .i64 g, .int .i64 n] 28) = w1 at *
    generalize hBB : W0.heap.size = B at hX i0 i1 i2 i3 i4 i5 i6 i7 i8 i9 ⊢
    refine region_class (fun w' => St A c [(B, [.int .i64 11, .bool false, .int .i64 m, .int .i64 r, .int .i64 x, .int .i64 p, .int .i64 q, .int .i64 y, .int .i64 g, .int .i64 n])] W0 w') (by kernel_rfl) (by kernel_rfl) hX.drew ?_
    clear hX i0 i1 i2 i3 i4 i5 i6 i7 i8 i9
    repeat
      first
        | (refine BigFrame.wpQuiet_skip (by rfl) ?_
           simp only [Act.put, List.setIfInBounds_toArray, List.set_cons_zero, List.set_cons_succ])
        | (refine BigFrame.wpQuiet_want (by rfl) (fun K hK => ?_)
           apply Exists.intro
           refine ⟨fun wq hq => ?_, hK _ ?_⟩
           · have i0 := hq.c 0 0 rfl rfl; have i1 := hq.c 0 1 rfl rfl; have i2 := hq.c 0 2 rfl rfl; have i3 := hq.c 0 3 rfl rfl; have i4 := hq.c 0 4 rfl rfl; have i5 := hq.c 0 5 rfl rfl; have i6 := hq.c 0 6 rfl rfl; have i7 := hq.c 0 7 rfl rfl; have i8 := hq.c 0 8 rfl rfl; have i9 := hq.c 0 9 rfl rfl
             unfold Oper.quietAt
             go_simp
             first
               | with_reducible rfl
               | ((go_at_call 57); with_reducible refine (j1 _).mono ?_; exact fun e w' ⟨he, hb⟩ => ⟨he, hq.step hb⟩)
               | ((go_at_call 57); with_reducible refine (j2 _).mono ?_; exact fun e w' ⟨he, hb⟩ => ⟨he, hq.step hb⟩)
           clear hK K
           simp only [Act.put, List.setIfInBounds_toArray, List.set_cons_zero, List.set_cons_succ])
    refine wpQuiet_nil ?_
    intro w4 hX
    have i0 := hX.c 0 0 rfl rfl; have i1 := hX.c 0 1 rfl rfl; have i2 := hX.c 0 2 rfl rfl; have i3 := hX.c 0 3 rfl rfl; have i4 := hX.c 0 4 rfl rfl; have i5 := hX.c 0 5 rfl rfl; have i6 := hX.c 0 6 rfl rfl; have i7 := hX.c 0 7 rfl rfl; have i8 := hX.c 0 8 rfl rfl; have i9 := hX.c 0 9 rfl rfl
    go_wp2_with (first | (go_at_call 50; with_reducible refine (j3 _).mono ?_; rintro e w' ⟨rfl, hb⟩; have hX := hX.step hb; have i0 := hX.c 0 0 rfl rfl; have i1 := hX.c 0 1 rfl rfl; have i2 := hX.c 0 2 rfl rfl; have i3 := hX.c 0 3 rfl rfl; have i4 := hX.c 0 4 rfl rfl; have i5 := hX.c 0 5 rfl rfl; have i6 := hX.c 0 6 rfl rfl; have i7 := hX.c 0 7 rfl rfl; have i8 := hX.c 0 8 rfl rfl; have i9 := hX.c 0 9 rfl rfl; clear hb))
    go_ret
    refine ⟨ei _ _ ?_, by first | exact hX.below | exact hBB ▸ hX.below⟩
    clear hX
    first | rfl | omega | (simp; done) | (simp; omega)
  · go_enter Tryd.func34, Tryd.ntmps34
    go_upto_region 4 with fail
    have i0 := hX.c 0 0 rfl rfl; have i1 := hX.c 0 1 rfl rfl; have i2 := hX.c 0 2 rfl rfl; have i3 := hX.c 0 3 rfl rfl; have i4 := hX.c 0 4 rfl rfl; have i5 := hX.c 0 5 rfl rfl; have i6 := hX.c 0 6 rfl rfl; have i7 := hX.c 0 7 rfl rfl; have i8 := hX.c 0 8 rfl rfl; have i9 := hX.c 0 9 rfl rfl
    generalize W0.alloc (.cells #[.int .i64 11, .bool true, .int .i64 m, .int .i64 r, .int .i64 x, .int .i64 p, .int .i64 q, .int .i64 y, .int .i64 g, .int .i64 n] 28) = w1 at *
    generalize hBB : W0.heap.size = B at hX i0 i1 i2 i3 i4 i5 i6 i7 i8 i9 ⊢
    refine region_class (fun w' => St A c [(B, [.int .i64 11, .bool true, .int .i64 m, .int .i64 r, .int .i64 x, .int .i64 p, .int .i64 q, .int .i64 y, .int .i64 g, .int .i64 n])] W0 w') (by kernel_rfl) (by kernel_rfl) hX.drew ?_
    clear hX i0 i1 i2 i3 i4 i5 i6 i7 i8 i9
    repeat
      first
        | (refine BigFrame.wpQuiet_skip (by rfl) ?_
           simp only [Act.put, List.setIfInBounds_toArray, List.set_cons_zero, List.set_cons_succ])
        | (refine BigFrame.wpQuiet_want (by rfl) (fun K hK => ?_)
           apply Exists.intro
           refine ⟨fun wq hq => ?_, hK _ ?_⟩
           · have i0 := hq.c 0 0 rfl rfl; have i1 := hq.c 0 1 rfl rfl; have i2 := hq.c 0 2 rfl rfl; have i3 := hq.c 0 3 rfl rfl; have i4 := hq.c 0 4 rfl rfl; have i5 := hq.c 0 5 rfl rfl; have i6 := hq.c 0 6 rfl rfl; have i7 := hq.c 0 7 rfl rfl; have i8 := hq.c 0 8 rfl rfl; have i9 := hq.c 0 9 rfl rfl
             unfold Oper.quietAt
             go_simp
             first
               | with_reducible rfl
               | ((go_at_call 57); with_reducible refine (j1 _).mono ?_; exact fun e w' ⟨he, hb⟩ => ⟨he, hq.step hb⟩)
               | ((go_at_call 57); with_reducible refine (j2 _).mono ?_; exact fun e w' ⟨he, hb⟩ => ⟨he, hq.step hb⟩)
           clear hK K
           simp only [Act.put, List.setIfInBounds_toArray, List.set_cons_zero, List.set_cons_succ])
    refine wpQuiet_nil ?_
    intro w4 hX
    have i0 := hX.c 0 0 rfl rfl; have i1 := hX.c 0 1 rfl rfl; have i2 := hX.c 0 2 rfl rfl; have i3 := hX.c 0 3 rfl rfl; have i4 := hX.c 0 4 rfl rfl; have i5 := hX.c 0 5 rfl rfl; have i6 := hX.c 0 6 rfl rfl; have i7 := hX.c 0 7 rfl rfl; have i8 := hX.c 0 8 rfl rfl; have i9 := hX.c 0 9 rfl rfl
    go_wp2_with (first | (go_at_call 50; with_reducible refine (j3 _).mono ?_; rintro e w' ⟨rfl, hb⟩; have hX := hX.step hb; have i0 := hX.c 0 0 rfl rfl; have i1 := hX.c 0 1 rfl rfl; have i2 := hX.c 0 2 rfl rfl; have i3 := hX.c 0 3 rfl rfl; have i4 := hX.c 0 4 rfl rfl; have i5 := hX.c 0 5 rfl rfl; have i6 := hX.c 0 6 rfl rfl; have i7 := hX.c 0 7 rfl rfl; have i8 := hX.c 0 8 rfl rfl; have i9 := hX.c 0 9 rfl rfl; clear hb))
    go_ret
    refine ⟨ei _ _ ?_, by first | exact hX.below | exact hBB ▸ hX.below⟩
    clear hX
    first | rfl | omega | (simp; done) | (simp; omega)

theorem first_6 (o : Int) (b : Bool) (m r x p q y g n : Int) (ho : 20 ≤ o ∧ o ≤ 23) (hg : 0 ≤ g ∧ g ≤ 7) (hn : -128 ≤ n ∧ n ≤ 255) {A : Addr} {c : Nat} (W0 : World) (W : Frm A c W0) :
    Calls Tryd.prog 34 #[.agg #[.int .i64 o, .bool b, .int .i64 m, .int .i64 r, .int .i64 x, .int .i64 p, .int .i64 q, .int .i64 y, .int .i64 g, .int .i64 n]] W0 fun e w' => e = .returned (.int .i64 (rfR ⟨o, b, m, r, x, p, q, y, g, n⟩)) ∧ Below W0.heap.size W0 w' := by
  have hX := (St.start W).put [.int .i64 o, .bool b, .int .i64 m, .int .i64 r, .int .i64 x, .int .i64 p, .int .i64 q, .int .i64 y, .int .i64 g, .int .i64 n] 28
  have e : rfR ⟨o, b, m, r, x, p, q, y, g, n⟩ = (if b = true then 32768 else 0) + 3072 + 64 * (o - 20) + fdR p q := by
    unfold rfR
    rw [if_neg (by simp; try omega), if_neg (by simp; try omega), if_neg (by simp; try omega), if_neg (by simp; try omega), if_neg (by simp; try omega), if_neg (by simp; try omega), if_pos (by simp; try omega)]
  rw [e]
  clear e
  have hS := fdR_bds m r
  have hD := fdR_bds p q
  have j1 := fun w => rfield_any m r x w
  have j2 := fun w => rfield_any p q y w
  have j3 := fun w => islong_any o w
  have hil : isL o = false := by unfold isL; simp; omega
  rw [hil] at j3
  have ei : ∀ a b : Int, a = b → Ending.returned (.int .i64 a) = .returned (.int .i64 b) := fun a b h => ret_int h
  generalize fdR m r = U at *
  generalize fdR p q = V at *
  obtain ⟨hS1, hS2⟩ := hS
  obtain ⟨hD1, hD2⟩ := hD
  obtain ⟨hg1, hg2⟩ := hg
  obtain ⟨hn1, hn2⟩ := hn
  have hm : (n + 256).tmod 256 = (n + 256) % 256 := Int.tmod_eq_emod_of_nonneg (by omega)
  obtain ⟨ho1, ho2⟩ := ho
  have f0 : decide (1 ≤ o) = true := decide_eq_true (by omega)
  have f1 : decide (o ≤ 5) = false := decide_eq_false (by omega)
  have f2 : (o == 6) = false := by simp; omega
  have f3 : (o == 7) = false := by simp; omega
  have f4 : (o == 11) = false := by simp; omega
  have f5 : decide (12 ≤ o) = true := decide_eq_true (by omega)
  have f6 : decide (o ≤ 19) = false := decide_eq_false (by omega)
  have f7 : decide (20 ≤ o) = true := decide_eq_true (by omega)
  have f8 : decide (o ≤ 23) = true := decide_eq_true (by omega)
  cases b
  · go_enter Tryd.func34, Tryd.ntmps34
    go_upto_region 4 with fail
    have i0 := hX.c 0 0 rfl rfl; have i1 := hX.c 0 1 rfl rfl; have i2 := hX.c 0 2 rfl rfl; have i3 := hX.c 0 3 rfl rfl; have i4 := hX.c 0 4 rfl rfl; have i5 := hX.c 0 5 rfl rfl; have i6 := hX.c 0 6 rfl rfl; have i7 := hX.c 0 7 rfl rfl; have i8 := hX.c 0 8 rfl rfl; have i9 := hX.c 0 9 rfl rfl
    generalize W0.alloc (.cells #[.int .i64 o, .bool false, .int .i64 m, .int .i64 r, .int .i64 x, .int .i64 p, .int .i64 q, .int .i64 y, .int .i64 g, .int .i64 n] 28) = w1 at *
    generalize hBB : W0.heap.size = B at hX i0 i1 i2 i3 i4 i5 i6 i7 i8 i9 ⊢
    refine region_class (fun w' => St A c [(B, [.int .i64 o, .bool false, .int .i64 m, .int .i64 r, .int .i64 x, .int .i64 p, .int .i64 q, .int .i64 y, .int .i64 g, .int .i64 n])] W0 w') (by kernel_rfl) (by kernel_rfl) hX.drew ?_
    clear hX i0 i1 i2 i3 i4 i5 i6 i7 i8 i9
    repeat
      first
        | (refine BigFrame.wpQuiet_skip (by rfl) ?_
           simp only [Act.put, List.setIfInBounds_toArray, List.set_cons_zero, List.set_cons_succ])
        | (refine BigFrame.wpQuiet_want (by rfl) (fun K hK => ?_)
           apply Exists.intro
           refine ⟨fun wq hq => ?_, hK _ ?_⟩
           · have i0 := hq.c 0 0 rfl rfl; have i1 := hq.c 0 1 rfl rfl; have i2 := hq.c 0 2 rfl rfl; have i3 := hq.c 0 3 rfl rfl; have i4 := hq.c 0 4 rfl rfl; have i5 := hq.c 0 5 rfl rfl; have i6 := hq.c 0 6 rfl rfl; have i7 := hq.c 0 7 rfl rfl; have i8 := hq.c 0 8 rfl rfl; have i9 := hq.c 0 9 rfl rfl
             unfold Oper.quietAt
             go_simp
             first
               | with_reducible rfl
               | ((go_at_call 57); with_reducible refine (j1 _).mono ?_; exact fun e w' ⟨he, hb⟩ => ⟨he, hq.step hb⟩)
               | ((go_at_call 57); with_reducible refine (j2 _).mono ?_; exact fun e w' ⟨he, hb⟩ => ⟨he, hq.step hb⟩)
           clear hK K
           simp only [Act.put, List.setIfInBounds_toArray, List.set_cons_zero, List.set_cons_succ])
    refine wpQuiet_nil ?_
    intro w4 hX
    have i0 := hX.c 0 0 rfl rfl; have i1 := hX.c 0 1 rfl rfl; have i2 := hX.c 0 2 rfl rfl; have i3 := hX.c 0 3 rfl rfl; have i4 := hX.c 0 4 rfl rfl; have i5 := hX.c 0 5 rfl rfl; have i6 := hX.c 0 6 rfl rfl; have i7 := hX.c 0 7 rfl rfl; have i8 := hX.c 0 8 rfl rfl; have i9 := hX.c 0 9 rfl rfl
    go_wp2_with (first | (go_at_call 50; with_reducible refine (j3 _).mono ?_; rintro e w' ⟨rfl, hb⟩; have hX := hX.step hb; have i0 := hX.c 0 0 rfl rfl; have i1 := hX.c 0 1 rfl rfl; have i2 := hX.c 0 2 rfl rfl; have i3 := hX.c 0 3 rfl rfl; have i4 := hX.c 0 4 rfl rfl; have i5 := hX.c 0 5 rfl rfl; have i6 := hX.c 0 6 rfl rfl; have i7 := hX.c 0 7 rfl rfl; have i8 := hX.c 0 8 rfl rfl; have i9 := hX.c 0 9 rfl rfl; clear hb))
    go_ret
    refine ⟨ei _ _ ?_, by first | exact hX.below | exact hBB ▸ hX.below⟩
    clear hX
    first | rfl | omega | (simp; done) | (simp; omega)
  · go_enter Tryd.func34, Tryd.ntmps34
    go_upto_region 4 with fail
    have i0 := hX.c 0 0 rfl rfl; have i1 := hX.c 0 1 rfl rfl; have i2 := hX.c 0 2 rfl rfl; have i3 := hX.c 0 3 rfl rfl; have i4 := hX.c 0 4 rfl rfl; have i5 := hX.c 0 5 rfl rfl; have i6 := hX.c 0 6 rfl rfl; have i7 := hX.c 0 7 rfl rfl; have i8 := hX.c 0 8 rfl rfl; have i9 := hX.c 0 9 rfl rfl
    generalize W0.alloc (.cells #[.int .i64 o, .bool true, .int .i64 m, .int .i64 r, .int .i64 x, .int .i64 p, .int .i64 q, .int .i64 y, .int .i64 g, .int .i64 n] 28) = w1 at *
    generalize hBB : W0.heap.size = B at hX i0 i1 i2 i3 i4 i5 i6 i7 i8 i9 ⊢
    refine region_class (fun w' => St A c [(B, [.int .i64 o, .bool true, .int .i64 m, .int .i64 r, .int .i64 x, .int .i64 p, .int .i64 q, .int .i64 y, .int .i64 g, .int .i64 n])] W0 w') (by kernel_rfl) (by kernel_rfl) hX.drew ?_
    clear hX i0 i1 i2 i3 i4 i5 i6 i7 i8 i9
    repeat
      first
        | (refine BigFrame.wpQuiet_skip (by rfl) ?_
           simp only [Act.put, List.setIfInBounds_toArray, List.set_cons_zero, List.set_cons_succ])
        | (refine BigFrame.wpQuiet_want (by rfl) (fun K hK => ?_)
           apply Exists.intro
           refine ⟨fun wq hq => ?_, hK _ ?_⟩
           · have i0 := hq.c 0 0 rfl rfl; have i1 := hq.c 0 1 rfl rfl; have i2 := hq.c 0 2 rfl rfl; have i3 := hq.c 0 3 rfl rfl; have i4 := hq.c 0 4 rfl rfl; have i5 := hq.c 0 5 rfl rfl; have i6 := hq.c 0 6 rfl rfl; have i7 := hq.c 0 7 rfl rfl; have i8 := hq.c 0 8 rfl rfl; have i9 := hq.c 0 9 rfl rfl
             unfold Oper.quietAt
             go_simp
             first
               | with_reducible rfl
               | ((go_at_call 57); with_reducible refine (j1 _).mono ?_; exact fun e w' ⟨he, hb⟩ => ⟨he, hq.step hb⟩)
               | ((go_at_call 57); with_reducible refine (j2 _).mono ?_; exact fun e w' ⟨he, hb⟩ => ⟨he, hq.step hb⟩)
           clear hK K
           simp only [Act.put, List.setIfInBounds_toArray, List.set_cons_zero, List.set_cons_succ])
    refine wpQuiet_nil ?_
    intro w4 hX
    have i0 := hX.c 0 0 rfl rfl; have i1 := hX.c 0 1 rfl rfl; have i2 := hX.c 0 2 rfl rfl; have i3 := hX.c 0 3 rfl rfl; have i4 := hX.c 0 4 rfl rfl; have i5 := hX.c 0 5 rfl rfl; have i6 := hX.c 0 6 rfl rfl; have i7 := hX.c 0 7 rfl rfl; have i8 := hX.c 0 8 rfl rfl; have i9 := hX.c 0 9 rfl rfl
    go_wp2_with (first | (go_at_call 50; with_reducible refine (j3 _).mono ?_; rintro e w' ⟨rfl, hb⟩; have hX := hX.step hb; have i0 := hX.c 0 0 rfl rfl; have i1 := hX.c 0 1 rfl rfl; have i2 := hX.c 0 2 rfl rfl; have i3 := hX.c 0 3 rfl rfl; have i4 := hX.c 0 4 rfl rfl; have i5 := hX.c 0 5 rfl rfl; have i6 := hX.c 0 6 rfl rfl; have i7 := hX.c 0 7 rfl rfl; have i8 := hX.c 0 8 rfl rfl; have i9 := hX.c 0 9 rfl rfl; clear hb))
    go_ret
    refine ⟨ei _ _ ?_, by first | exact hX.below | exact hBB ▸ hX.below⟩
    clear hX
    first | rfl | omega | (simp; done) | (simp; omega)

theorem first_8 (b : Bool) (m r x p q y g n : Int) (hg : 0 ≤ g ∧ g ≤ 7) (hn : -128 ≤ n ∧ n ≤ 255) {A : Addr} {c : Nat} (W0 : World) (W : Frm A c W0) :
    Calls Tryd.prog 34 #[.agg #[.int .i64 25, .bool b, .int .i64 m, .int .i64 r, .int .i64 x, .int .i64 p, .int .i64 q, .int .i64 y, .int .i64 g, .int .i64 n]] W0 fun e w' => e = .returned (.int .i64 (rfR ⟨25, b, m, r, x, p, q, y, g, n⟩)) ∧ Below W0.heap.size W0 w' := by
  have hX := (St.start W).put [.int .i64 25, .bool b, .int .i64 m, .int .i64 r, .int .i64 x, .int .i64 p, .int .i64 q, .int .i64 y, .int .i64 g, .int .i64 n] 28
  have e : rfR ⟨25, b, m, r, x, p, q, y, g, n⟩ = 3520 + fdR p q := by
    unfold rfR
    rw [if_neg (by simp; try omega), if_neg (by simp; try omega), if_neg (by simp; try omega), if_neg (by simp; try omega), if_neg (by simp; try omega), if_neg (by simp; try omega), if_neg (by simp; try omega), if_neg (by simp; try omega), if_pos (by simp; try omega)]
  rw [e]
  clear e
  have hS := fdR_bds m r
  have hD := fdR_bds p q
  have j1 := fun w => rfield_any m r x w
  have j2 := fun w => rfield_any p q y w
  have j3 := fun w => islong_any 25 w
  have hil : isL 25 = false := by unfold isL; simp
  rw [hil] at j3
  have ei : ∀ a b : Int, a = b → Ending.returned (.int .i64 a) = .returned (.int .i64 b) := fun a b h => ret_int h
  generalize fdR m r = U at *
  generalize fdR p q = V at *
  obtain ⟨hS1, hS2⟩ := hS
  obtain ⟨hD1, hD2⟩ := hD
  obtain ⟨hg1, hg2⟩ := hg
  obtain ⟨hn1, hn2⟩ := hn
  have hm : (n + 256).tmod 256 = (n + 256) % 256 := Int.tmod_eq_emod_of_nonneg (by omega)
  cases b
  · go_enter Tryd.func34, Tryd.ntmps34
    go_upto_region 4 with fail
    have i0 := hX.c 0 0 rfl rfl; have i1 := hX.c 0 1 rfl rfl; have i2 := hX.c 0 2 rfl rfl; have i3 := hX.c 0 3 rfl rfl; have i4 := hX.c 0 4 rfl rfl; have i5 := hX.c 0 5 rfl rfl; have i6 := hX.c 0 6 rfl rfl; have i7 := hX.c 0 7 rfl rfl; have i8 := hX.c 0 8 rfl rfl; have i9 := hX.c 0 9 rfl rfl
    generalize W0.alloc (.cells #[.int .i64 25, .bool false, .int .i64 m, .int .i64 r, .int .i64 x, .int .i64 p, .int .i64 q, .int .i64 y, .int .i64 g, .int .i64 n] 28) = w1 at *
    generalize hBB : W0.heap.size = B at hX i0 i1 i2 i3 i4 i5 i6 i7 i8 i9 ⊢
    refine region_class (fun w' => St A c [(B, [.int .i64 25, .bool false, .int .i64 m, .int .i64 r, .int .i64 x, .int .i64 p, .int .i64 q, .int .i64 y, .int .i64 g, .int .i64 n])] W0 w') (by kernel_rfl) (by kernel_rfl) hX.drew ?_
    clear hX i0 i1 i2 i3 i4 i5 i6 i7 i8 i9
    repeat
      first
        | (refine BigFrame.wpQuiet_skip (by rfl) ?_
           simp only [Act.put, List.setIfInBounds_toArray, List.set_cons_zero, List.set_cons_succ])
        | (refine BigFrame.wpQuiet_want (by rfl) (fun K hK => ?_)
           apply Exists.intro
           refine ⟨fun wq hq => ?_, hK _ ?_⟩
           · have i0 := hq.c 0 0 rfl rfl; have i1 := hq.c 0 1 rfl rfl; have i2 := hq.c 0 2 rfl rfl; have i3 := hq.c 0 3 rfl rfl; have i4 := hq.c 0 4 rfl rfl; have i5 := hq.c 0 5 rfl rfl; have i6 := hq.c 0 6 rfl rfl; have i7 := hq.c 0 7 rfl rfl; have i8 := hq.c 0 8 rfl rfl; have i9 := hq.c 0 9 rfl rfl
             unfold Oper.quietAt
             go_simp
             first
               | with_reducible rfl
               | ((go_at_call 57); with_reducible refine (j1 _).mono ?_; exact fun e w' ⟨he, hb⟩ => ⟨he, hq.step hb⟩)
               | ((go_at_call 57); with_reducible refine (j2 _).mono ?_; exact fun e w' ⟨he, hb⟩ => ⟨he, hq.step hb⟩)
           clear hK K
           simp only [Act.put, List.setIfInBounds_toArray, List.set_cons_zero, List.set_cons_succ])
    refine wpQuiet_nil ?_
    intro w4 hX
    have i0 := hX.c 0 0 rfl rfl; have i1 := hX.c 0 1 rfl rfl; have i2 := hX.c 0 2 rfl rfl; have i3 := hX.c 0 3 rfl rfl; have i4 := hX.c 0 4 rfl rfl; have i5 := hX.c 0 5 rfl rfl; have i6 := hX.c 0 6 rfl rfl; have i7 := hX.c 0 7 rfl rfl; have i8 := hX.c 0 8 rfl rfl; have i9 := hX.c 0 9 rfl rfl
    go_wp2_with (first | (go_at_call 50; with_reducible refine (j3 _).mono ?_; rintro e w' ⟨rfl, hb⟩; have hX := hX.step hb; have i0 := hX.c 0 0 rfl rfl; have i1 := hX.c 0 1 rfl rfl; have i2 := hX.c 0 2 rfl rfl; have i3 := hX.c 0 3 rfl rfl; have i4 := hX.c 0 4 rfl rfl; have i5 := hX.c 0 5 rfl rfl; have i6 := hX.c 0 6 rfl rfl; have i7 := hX.c 0 7 rfl rfl; have i8 := hX.c 0 8 rfl rfl; have i9 := hX.c 0 9 rfl rfl; clear hb))
    go_ret
    refine ⟨ei _ _ ?_, by first | exact hX.below | exact hBB ▸ hX.below⟩
    clear hX
    first | rfl | omega | (simp; done) | (simp; omega)
  · go_enter Tryd.func34, Tryd.ntmps34
    go_upto_region 4 with fail
    have i0 := hX.c 0 0 rfl rfl; have i1 := hX.c 0 1 rfl rfl; have i2 := hX.c 0 2 rfl rfl; have i3 := hX.c 0 3 rfl rfl; have i4 := hX.c 0 4 rfl rfl; have i5 := hX.c 0 5 rfl rfl; have i6 := hX.c 0 6 rfl rfl; have i7 := hX.c 0 7 rfl rfl; have i8 := hX.c 0 8 rfl rfl; have i9 := hX.c 0 9 rfl rfl
    generalize W0.alloc (.cells #[.int .i64 25, .bool true, .int .i64 m, .int .i64 r, .int .i64 x, .int .i64 p, .int .i64 q, .int .i64 y, .int .i64 g, .int .i64 n] 28) = w1 at *
    generalize hBB : W0.heap.size = B at hX i0 i1 i2 i3 i4 i5 i6 i7 i8 i9 ⊢
    refine region_class (fun w' => St A c [(B, [.int .i64 25, .bool true, .int .i64 m, .int .i64 r, .int .i64 x, .int .i64 p, .int .i64 q, .int .i64 y, .int .i64 g, .int .i64 n])] W0 w') (by kernel_rfl) (by kernel_rfl) hX.drew ?_
    clear hX i0 i1 i2 i3 i4 i5 i6 i7 i8 i9
    repeat
      first
        | (refine BigFrame.wpQuiet_skip (by rfl) ?_
           simp only [Act.put, List.setIfInBounds_toArray, List.set_cons_zero, List.set_cons_succ])
        | (refine BigFrame.wpQuiet_want (by rfl) (fun K hK => ?_)
           apply Exists.intro
           refine ⟨fun wq hq => ?_, hK _ ?_⟩
           · have i0 := hq.c 0 0 rfl rfl; have i1 := hq.c 0 1 rfl rfl; have i2 := hq.c 0 2 rfl rfl; have i3 := hq.c 0 3 rfl rfl; have i4 := hq.c 0 4 rfl rfl; have i5 := hq.c 0 5 rfl rfl; have i6 := hq.c 0 6 rfl rfl; have i7 := hq.c 0 7 rfl rfl; have i8 := hq.c 0 8 rfl rfl; have i9 := hq.c 0 9 rfl rfl
             unfold Oper.quietAt
             go_simp
             first
               | with_reducible rfl
               | ((go_at_call 57); with_reducible refine (j1 _).mono ?_; exact fun e w' ⟨he, hb⟩ => ⟨he, hq.step hb⟩)
               | ((go_at_call 57); with_reducible refine (j2 _).mono ?_; exact fun e w' ⟨he, hb⟩ => ⟨he, hq.step hb⟩)
           clear hK K
           simp only [Act.put, List.setIfInBounds_toArray, List.set_cons_zero, List.set_cons_succ])
    refine wpQuiet_nil ?_
    intro w4 hX
    have i0 := hX.c 0 0 rfl rfl; have i1 := hX.c 0 1 rfl rfl; have i2 := hX.c 0 2 rfl rfl; have i3 := hX.c 0 3 rfl rfl; have i4 := hX.c 0 4 rfl rfl; have i5 := hX.c 0 5 rfl rfl; have i6 := hX.c 0 6 rfl rfl; have i7 := hX.c 0 7 rfl rfl; have i8 := hX.c 0 8 rfl rfl; have i9 := hX.c 0 9 rfl rfl
    go_wp2_with (first | (go_at_call 50; with_reducible refine (j3 _).mono ?_; rintro e w' ⟨rfl, hb⟩; have hX := hX.step hb; have i0 := hX.c 0 0 rfl rfl; have i1 := hX.c 0 1 rfl rfl; have i2 := hX.c 0 2 rfl rfl; have i3 := hX.c 0 3 rfl rfl; have i4 := hX.c 0 4 rfl rfl; have i5 := hX.c 0 5 rfl rfl; have i6 := hX.c 0 6 rfl rfl; have i7 := hX.c 0 7 rfl rfl; have i8 := hX.c 0 8 rfl rfl; have i9 := hX.c 0 9 rfl rfl; clear hb))
    go_ret
    refine ⟨ei _ _ ?_, by first | exact hX.below | exact hBB ▸ hX.below⟩
    clear hX
    first | rfl | omega | (simp; done) | (simp; omega)

theorem first_10 (o : Int) (b : Bool) (m r x p q y g n : Int) (ho : 33 ≤ o ∧ o ≤ 40) (hg : 0 ≤ g ∧ g ≤ 7) (hn : -128 ≤ n ∧ n ≤ 255) {A : Addr} {c : Nat} (W0 : World) (W : Frm A c W0) :
    Calls Tryd.prog 34 #[.agg #[.int .i64 o, .bool b, .int .i64 m, .int .i64 r, .int .i64 x, .int .i64 p, .int .i64 q, .int .i64 y, .int .i64 g, .int .i64 n]] W0 fun e w' => e = .returned (.int .i64 (rfR ⟨o, b, m, r, x, p, q, y, g, n⟩)) ∧ Below W0.heap.size W0 w' := by
  have hX := (St.start W).put [.int .i64 o, .bool b, .int .i64 m, .int .i64 r, .int .i64 x, .int .i64 p, .int .i64 q, .int .i64 y, .int .i64 g, .int .i64 n] 28
  have e : rfR ⟨o, b, m, r, x, p, q, y, g, n⟩ = 32768 + 256 * (o - 33) + (n + 256) % 256 := by
    unfold rfR
    rw [if_neg (by simp; try omega), if_neg (by simp; try omega), if_neg (by simp; try omega), if_neg (by simp; try omega), if_neg (by simp; try omega), if_neg (by simp; try omega), if_neg (by simp; try omega), if_neg (by simp; try omega), if_neg (by simp; try omega), if_neg (by simp; try omega), if_pos (by simp; try omega)]
  rw [e]
  clear e
  have hS := fdR_bds m r
  have hD := fdR_bds p q
  have j1 := fun w => rfield_any m r x w
  have j2 := fun w => rfield_any p q y w
  have j3 := fun w => islong_any o w
  have hil : isL o = false := by unfold isL; simp; omega
  rw [hil] at j3
  have ei : ∀ a b : Int, a = b → Ending.returned (.int .i64 a) = .returned (.int .i64 b) := fun a b h => ret_int h
  generalize fdR m r = U at *
  generalize fdR p q = V at *
  obtain ⟨hS1, hS2⟩ := hS
  obtain ⟨hD1, hD2⟩ := hD
  obtain ⟨hg1, hg2⟩ := hg
  obtain ⟨hn1, hn2⟩ := hn
  have hm : (n + 256).tmod 256 = (n + 256) % 256 := Int.tmod_eq_emod_of_nonneg (by omega)
  obtain ⟨ho1, ho2⟩ := ho
  have f0 : decide (1 ≤ o) = true := decide_eq_true (by omega)
  have f1 : decide (o ≤ 5) = false := decide_eq_false (by omega)
  have f2 : (o == 6) = false := by simp; omega
  have f3 : (o == 7) = false := by simp; omega
  have f4 : (o == 11) = false := by simp; omega
  have f5 : decide (12 ≤ o) = true := decide_eq_true (by omega)
  have f6 : decide (o ≤ 19) = false := decide_eq_false (by omega)
  have f7 : decide (20 ≤ o) = true := decide_eq_true (by omega)
  have f8 : decide (o ≤ 23) = false := decide_eq_false (by omega)
  have f9 : (o == 24) = false := by simp; omega
  have f10 : (o == 25) = false := by simp; omega
  have f11 : decide (26 ≤ o) = true := decide_eq_true (by omega)
  have f12 : decide (o ≤ 32) = false := decide_eq_false (by omega)
  have f13 : decide (33 ≤ o) = true := decide_eq_true (by omega)
  have f14 : decide (o ≤ 40) = true := decide_eq_true (by omega)
  cases b
  · go_enter Tryd.func34, Tryd.ntmps34
    go_upto_region 4 with fail
    have i0 := hX.c 0 0 rfl rfl; have i1 := hX.c 0 1 rfl rfl; have i2 := hX.c 0 2 rfl rfl; have i3 := hX.c 0 3 rfl rfl; have i4 := hX.c 0 4 rfl rfl; have i5 := hX.c 0 5 rfl rfl; have i6 := hX.c 0 6 rfl rfl; have i7 := hX.c 0 7 rfl rfl; have i8 := hX.c 0 8 rfl rfl; have i9 := hX.c 0 9 rfl rfl
    generalize W0.alloc (.cells #[.int .i64 o, .bool false, .int .i64 m, .int .i64 r, .int .i64 x, .int .i64 p, .int .i64 q, .int .i64 y, .int .i64 g, .int .i64 n] 28) = w1 at *
    generalize hBB : W0.heap.size = B at hX i0 i1 i2 i3 i4 i5 i6 i7 i8 i9 ⊢
    refine region_class (fun w' => St A c [(B, [.int .i64 o, .bool false, .int .i64 m, .int .i64 r, .int .i64 x, .int .i64 p, .int .i64 q, .int .i64 y, .int .i64 g, .int .i64 n])] W0 w') (by kernel_rfl) (by kernel_rfl) hX.drew ?_
    clear hX i0 i1 i2 i3 i4 i5 i6 i7 i8 i9
    repeat
      first
        | (refine BigFrame.wpQuiet_skip (by rfl) ?_
           simp only [Act.put, List.setIfInBounds_toArray, List.set_cons_zero, List.set_cons_succ])
        | (refine BigFrame.wpQuiet_want (by rfl) (fun K hK => ?_)
           apply Exists.intro
           refine ⟨fun wq hq => ?_, hK _ ?_⟩
           · have i0 := hq.c 0 0 rfl rfl; have i1 := hq.c 0 1 rfl rfl; have i2 := hq.c 0 2 rfl rfl; have i3 := hq.c 0 3 rfl rfl; have i4 := hq.c 0 4 rfl rfl; have i5 := hq.c 0 5 rfl rfl; have i6 := hq.c 0 6 rfl rfl; have i7 := hq.c 0 7 rfl rfl; have i8 := hq.c 0 8 rfl rfl; have i9 := hq.c 0 9 rfl rfl
             unfold Oper.quietAt
             go_simp
             first
               | with_reducible rfl
               | ((go_at_call 57); with_reducible refine (j1 _).mono ?_; exact fun e w' ⟨he, hb⟩ => ⟨he, hq.step hb⟩)
               | ((go_at_call 57); with_reducible refine (j2 _).mono ?_; exact fun e w' ⟨he, hb⟩ => ⟨he, hq.step hb⟩)
           clear hK K
           simp only [Act.put, List.setIfInBounds_toArray, List.set_cons_zero, List.set_cons_succ])
    refine wpQuiet_nil ?_
    intro w4 hX
    have i0 := hX.c 0 0 rfl rfl; have i1 := hX.c 0 1 rfl rfl; have i2 := hX.c 0 2 rfl rfl; have i3 := hX.c 0 3 rfl rfl; have i4 := hX.c 0 4 rfl rfl; have i5 := hX.c 0 5 rfl rfl; have i6 := hX.c 0 6 rfl rfl; have i7 := hX.c 0 7 rfl rfl; have i8 := hX.c 0 8 rfl rfl; have i9 := hX.c 0 9 rfl rfl
    go_wp2_with (first | (go_at_call 50; with_reducible refine (j3 _).mono ?_; rintro e w' ⟨rfl, hb⟩; have hX := hX.step hb; have i0 := hX.c 0 0 rfl rfl; have i1 := hX.c 0 1 rfl rfl; have i2 := hX.c 0 2 rfl rfl; have i3 := hX.c 0 3 rfl rfl; have i4 := hX.c 0 4 rfl rfl; have i5 := hX.c 0 5 rfl rfl; have i6 := hX.c 0 6 rfl rfl; have i7 := hX.c 0 7 rfl rfl; have i8 := hX.c 0 8 rfl rfl; have i9 := hX.c 0 9 rfl rfl; clear hb))
    go_ret
    refine ⟨ei _ _ ?_, by first | exact hX.below | exact hBB ▸ hX.below⟩
    clear hX
    first | rfl | omega | (simp; done) | (simp; omega)
  · go_enter Tryd.func34, Tryd.ntmps34
    go_upto_region 4 with fail
    have i0 := hX.c 0 0 rfl rfl; have i1 := hX.c 0 1 rfl rfl; have i2 := hX.c 0 2 rfl rfl; have i3 := hX.c 0 3 rfl rfl; have i4 := hX.c 0 4 rfl rfl; have i5 := hX.c 0 5 rfl rfl; have i6 := hX.c 0 6 rfl rfl; have i7 := hX.c 0 7 rfl rfl; have i8 := hX.c 0 8 rfl rfl; have i9 := hX.c 0 9 rfl rfl
    generalize W0.alloc (.cells #[.int .i64 o, .bool true, .int .i64 m, .int .i64 r, .int .i64 x, .int .i64 p, .int .i64 q, .int .i64 y, .int .i64 g, .int .i64 n] 28) = w1 at *
    generalize hBB : W0.heap.size = B at hX i0 i1 i2 i3 i4 i5 i6 i7 i8 i9 ⊢
    refine region_class (fun w' => St A c [(B, [.int .i64 o, .bool true, .int .i64 m, .int .i64 r, .int .i64 x, .int .i64 p, .int .i64 q, .int .i64 y, .int .i64 g, .int .i64 n])] W0 w') (by kernel_rfl) (by kernel_rfl) hX.drew ?_
    clear hX i0 i1 i2 i3 i4 i5 i6 i7 i8 i9
    repeat
      first
        | (refine BigFrame.wpQuiet_skip (by rfl) ?_
           simp only [Act.put, List.setIfInBounds_toArray, List.set_cons_zero, List.set_cons_succ])
        | (refine BigFrame.wpQuiet_want (by rfl) (fun K hK => ?_)
           apply Exists.intro
           refine ⟨fun wq hq => ?_, hK _ ?_⟩
           · have i0 := hq.c 0 0 rfl rfl; have i1 := hq.c 0 1 rfl rfl; have i2 := hq.c 0 2 rfl rfl; have i3 := hq.c 0 3 rfl rfl; have i4 := hq.c 0 4 rfl rfl; have i5 := hq.c 0 5 rfl rfl; have i6 := hq.c 0 6 rfl rfl; have i7 := hq.c 0 7 rfl rfl; have i8 := hq.c 0 8 rfl rfl; have i9 := hq.c 0 9 rfl rfl
             unfold Oper.quietAt
             go_simp
             first
               | with_reducible rfl
               | ((go_at_call 57); with_reducible refine (j1 _).mono ?_; exact fun e w' ⟨he, hb⟩ => ⟨he, hq.step hb⟩)
               | ((go_at_call 57); with_reducible refine (j2 _).mono ?_; exact fun e w' ⟨he, hb⟩ => ⟨he, hq.step hb⟩)
           clear hK K
           simp only [Act.put, List.setIfInBounds_toArray, List.set_cons_zero, List.set_cons_succ])
    refine wpQuiet_nil ?_
    intro w4 hX
    have i0 := hX.c 0 0 rfl rfl; have i1 := hX.c 0 1 rfl rfl; have i2 := hX.c 0 2 rfl rfl; have i3 := hX.c 0 3 rfl rfl; have i4 := hX.c 0 4 rfl rfl; have i5 := hX.c 0 5 rfl rfl; have i6 := hX.c 0 6 rfl rfl; have i7 := hX.c 0 7 rfl rfl; have i8 := hX.c 0 8 rfl rfl; have i9 := hX.c 0 9 rfl rfl
    go_wp2_with (first | (go_at_call 50; with_reducible refine (j3 _).mono ?_; rintro e w' ⟨rfl, hb⟩; have hX := hX.step hb; have i0 := hX.c 0 0 rfl rfl; have i1 := hX.c 0 1 rfl rfl; have i2 := hX.c 0 2 rfl rfl; have i3 := hX.c 0 3 rfl rfl; have i4 := hX.c 0 4 rfl rfl; have i5 := hX.c 0 5 rfl rfl; have i6 := hX.c 0 6 rfl rfl; have i7 := hX.c 0 7 rfl rfl; have i8 := hX.c 0 8 rfl rfl; have i9 := hX.c 0 9 rfl rfl; clear hb))
    go_ret
    refine ⟨ei _ _ ?_, by first | exact hX.below | exact hBB ▸ hX.below⟩
    clear hX
    first | rfl | omega | (simp; done) | (simp; omega)

theorem first_12 (b : Bool) (m r x p q y g n : Int) (hg : 0 ≤ g ∧ g ≤ 7) (hn : -128 ≤ n ∧ n ≤ 255) {A : Addr} {c : Nat} (W0 : World) (W : Frm A c W0) :
    Calls Tryd.prog 34 #[.agg #[.int .i64 42, .bool b, .int .i64 m, .int .i64 r, .int .i64 x, .int .i64 p, .int .i64 q, .int .i64 y, .int .i64 g, .int .i64 n]] W0 fun e w' => e = .returned (.int .i64 (rfR ⟨42, b, m, r, x, p, q, y, g, n⟩)) ∧ Below W0.heap.size W0 w' := by
  have hX := (St.start W).put [.int .i64 42, .bool b, .int .i64 m, .int .i64 r, .int .i64 x, .int .i64 p, .int .i64 q, .int .i64 y, .int .i64 g, .int .i64 n] 28
  have e : rfR ⟨42, b, m, r, x, p, q, y, g, n⟩ = 2048 + 64 * g + fdR p q := by
    unfold rfR
    rw [if_neg (by simp; try omega), if_neg (by simp; try omega), if_neg (by simp; try omega), if_neg (by simp; try omega), if_neg (by simp; try omega), if_neg (by simp; try omega), if_neg (by simp; try omega), if_neg (by simp; try omega), if_neg (by simp; try omega), if_neg (by simp; try omega), if_neg (by simp; try omega), if_neg (by simp; try omega), if_pos (by simp; try omega)]
  rw [e]
  clear e
  have hS := fdR_bds m r
  have hD := fdR_bds p q
  have j1 := fun w => rfield_any m r x w
  have j2 := fun w => rfield_any p q y w
  have j3 := fun w => islong_any 42 w
  have hil : isL 42 = false := by unfold isL; simp
  rw [hil] at j3
  have ei : ∀ a b : Int, a = b → Ending.returned (.int .i64 a) = .returned (.int .i64 b) := fun a b h => ret_int h
  generalize fdR m r = U at *
  generalize fdR p q = V at *
  obtain ⟨hS1, hS2⟩ := hS
  obtain ⟨hD1, hD2⟩ := hD
  obtain ⟨hg1, hg2⟩ := hg
  obtain ⟨hn1, hn2⟩ := hn
  have hm : (n + 256).tmod 256 = (n + 256) % 256 := Int.tmod_eq_emod_of_nonneg (by omega)
  cases b
  · go_enter Tryd.func34, Tryd.ntmps34
    go_upto_region 4 with fail
    have i0 := hX.c 0 0 rfl rfl; have i1 := hX.c 0 1 rfl rfl; have i2 := hX.c 0 2 rfl rfl; have i3 := hX.c 0 3 rfl rfl; have i4 := hX.c 0 4 rfl rfl; have i5 := hX.c 0 5 rfl rfl; have i6 := hX.c 0 6 rfl rfl; have i7 := hX.c 0 7 rfl rfl; have i8 := hX.c 0 8 rfl rfl; have i9 := hX.c 0 9 rfl rfl
    generalize W0.alloc (.cells #[.int .i64 42, .bool false, .int .i64 m, .int .i64 r, .int .i64 x, .int .i64 p, .int .i64 q, .int .i64 y, .int .i64 g, .int .i64 n] 28) = w1 at *
    generalize hBB : W0.heap.size = B at hX i0 i1 i2 i3 i4 i5 i6 i7 i8 i9 ⊢
    refine region_class (fun w' => St A c [(B, [.int .i64 42, .bool false, .int .i64 m, .int .i64 r, .int .i64 x, .int .i64 p, .int .i64 q, .int .i64 y, .int .i64 g, .int .i64 n])] W0 w') (by kernel_rfl) (by kernel_rfl) hX.drew ?_
    clear hX i0 i1 i2 i3 i4 i5 i6 i7 i8 i9
    repeat
      first
        | (refine BigFrame.wpQuiet_skip (by rfl) ?_
           simp only [Act.put, List.setIfInBounds_toArray, List.set_cons_zero, List.set_cons_succ])
        | (refine BigFrame.wpQuiet_want (by rfl) (fun K hK => ?_)
           apply Exists.intro
           refine ⟨fun wq hq => ?_, hK _ ?_⟩
           · have i0 := hq.c 0 0 rfl rfl; have i1 := hq.c 0 1 rfl rfl; have i2 := hq.c 0 2 rfl rfl; have i3 := hq.c 0 3 rfl rfl; have i4 := hq.c 0 4 rfl rfl; have i5 := hq.c 0 5 rfl rfl; have i6 := hq.c 0 6 rfl rfl; have i7 := hq.c 0 7 rfl rfl; have i8 := hq.c 0 8 rfl rfl; have i9 := hq.c 0 9 rfl rfl
             unfold Oper.quietAt
             go_simp
             first
               | with_reducible rfl
               | ((go_at_call 57); with_reducible refine (j1 _).mono ?_; exact fun e w' ⟨he, hb⟩ => ⟨he, hq.step hb⟩)
               | ((go_at_call 57); with_reducible refine (j2 _).mono ?_; exact fun e w' ⟨he, hb⟩ => ⟨he, hq.step hb⟩)
           clear hK K
           simp only [Act.put, List.setIfInBounds_toArray, List.set_cons_zero, List.set_cons_succ])
    refine wpQuiet_nil ?_
    intro w4 hX
    have i0 := hX.c 0 0 rfl rfl; have i1 := hX.c 0 1 rfl rfl; have i2 := hX.c 0 2 rfl rfl; have i3 := hX.c 0 3 rfl rfl; have i4 := hX.c 0 4 rfl rfl; have i5 := hX.c 0 5 rfl rfl; have i6 := hX.c 0 6 rfl rfl; have i7 := hX.c 0 7 rfl rfl; have i8 := hX.c 0 8 rfl rfl; have i9 := hX.c 0 9 rfl rfl
    go_wp2_with (first | (go_at_call 50; with_reducible refine (j3 _).mono ?_; rintro e w' ⟨rfl, hb⟩; have hX := hX.step hb; have i0 := hX.c 0 0 rfl rfl; have i1 := hX.c 0 1 rfl rfl; have i2 := hX.c 0 2 rfl rfl; have i3 := hX.c 0 3 rfl rfl; have i4 := hX.c 0 4 rfl rfl; have i5 := hX.c 0 5 rfl rfl; have i6 := hX.c 0 6 rfl rfl; have i7 := hX.c 0 7 rfl rfl; have i8 := hX.c 0 8 rfl rfl; have i9 := hX.c 0 9 rfl rfl; clear hb))
    go_ret
    refine ⟨ei _ _ ?_, by first | exact hX.below | exact hBB ▸ hX.below⟩
    clear hX
    first | rfl | omega | (simp; done) | (simp; omega)
  · go_enter Tryd.func34, Tryd.ntmps34
    go_upto_region 4 with fail
    have i0 := hX.c 0 0 rfl rfl; have i1 := hX.c 0 1 rfl rfl; have i2 := hX.c 0 2 rfl rfl; have i3 := hX.c 0 3 rfl rfl; have i4 := hX.c 0 4 rfl rfl; have i5 := hX.c 0 5 rfl rfl; have i6 := hX.c 0 6 rfl rfl; have i7 := hX.c 0 7 rfl rfl; have i8 := hX.c 0 8 rfl rfl; have i9 := hX.c 0 9 rfl rfl
    generalize W0.alloc (.cells #[.int .i64 42, .bool true, .int .i64 m, .int .i64 r, .int .i64 x, .int .i64 p, .int .i64 q, .int .i64 y, .int .i64 g, .int .i64 n] 28) = w1 at *
    generalize hBB : W0.heap.size = B at hX i0 i1 i2 i3 i4 i5 i6 i7 i8 i9 ⊢
    refine region_class (fun w' => St A c [(B, [.int .i64 42, .bool true, .int .i64 m, .int .i64 r, .int .i64 x, .int .i64 p, .int .i64 q, .int .i64 y, .int .i64 g, .int .i64 n])] W0 w') (by kernel_rfl) (by kernel_rfl) hX.drew ?_
    clear hX i0 i1 i2 i3 i4 i5 i6 i7 i8 i9
    repeat
      first
        | (refine BigFrame.wpQuiet_skip (by rfl) ?_
           simp only [Act.put, List.setIfInBounds_toArray, List.set_cons_zero, List.set_cons_succ])
        | (refine BigFrame.wpQuiet_want (by rfl) (fun K hK => ?_)
           apply Exists.intro
           refine ⟨fun wq hq => ?_, hK _ ?_⟩
           · have i0 := hq.c 0 0 rfl rfl; have i1 := hq.c 0 1 rfl rfl; have i2 := hq.c 0 2 rfl rfl; have i3 := hq.c 0 3 rfl rfl; have i4 := hq.c 0 4 rfl rfl; have i5 := hq.c 0 5 rfl rfl; have i6 := hq.c 0 6 rfl rfl; have i7 := hq.c 0 7 rfl rfl; have i8 := hq.c 0 8 rfl rfl; have i9 := hq.c 0 9 rfl rfl
             unfold Oper.quietAt
             go_simp
             first
               | with_reducible rfl
               | ((go_at_call 57); with_reducible refine (j1 _).mono ?_; exact fun e w' ⟨he, hb⟩ => ⟨he, hq.step hb⟩)
               | ((go_at_call 57); with_reducible refine (j2 _).mono ?_; exact fun e w' ⟨he, hb⟩ => ⟨he, hq.step hb⟩)
           clear hK K
           simp only [Act.put, List.setIfInBounds_toArray, List.set_cons_zero, List.set_cons_succ])
    refine wpQuiet_nil ?_
    intro w4 hX
    have i0 := hX.c 0 0 rfl rfl; have i1 := hX.c 0 1 rfl rfl; have i2 := hX.c 0 2 rfl rfl; have i3 := hX.c 0 3 rfl rfl; have i4 := hX.c 0 4 rfl rfl; have i5 := hX.c 0 5 rfl rfl; have i6 := hX.c 0 6 rfl rfl; have i7 := hX.c 0 7 rfl rfl; have i8 := hX.c 0 8 rfl rfl; have i9 := hX.c 0 9 rfl rfl
    go_wp2_with (first | (go_at_call 50; with_reducible refine (j3 _).mono ?_; rintro e w' ⟨rfl, hb⟩; have hX := hX.step hb; have i0 := hX.c 0 0 rfl rfl; have i1 := hX.c 0 1 rfl rfl; have i2 := hX.c 0 2 rfl rfl; have i3 := hX.c 0 3 rfl rfl; have i4 := hX.c 0 4 rfl rfl; have i5 := hX.c 0 5 rfl rfl; have i6 := hX.c 0 6 rfl rfl; have i7 := hX.c 0 7 rfl rfl; have i8 := hX.c 0 8 rfl rfl; have i9 := hX.c 0 9 rfl rfl; clear hb))
    go_ret
    refine ⟨ei _ _ ?_, by first | exact hX.below | exact hBB ▸ hX.below⟩
    clear hX
    first | rfl | omega | (simp; done) | (simp; omega)

theorem first_14 (b : Bool) (m r x p q y g n : Int) (hg : 0 ≤ g ∧ g ≤ 7) (hn : -128 ≤ n ∧ n ≤ 255) {A : Addr} {c : Nat} (W0 : World) (W : Frm A c W0) :
    Calls Tryd.prog 34 #[.agg #[.int .i64 44, .bool b, .int .i64 m, .int .i64 r, .int .i64 x, .int .i64 p, .int .i64 q, .int .i64 y, .int .i64 g, .int .i64 n]] W0 fun e w' => e = .returned (.int .i64 (rfR ⟨44, b, m, r, x, p, q, y, g, n⟩)) ∧ Below W0.heap.size W0 w' := by
  have hX := (St.start W).put [.int .i64 44, .bool b, .int .i64 m, .int .i64 r, .int .i64 x, .int .i64 p, .int .i64 q, .int .i64 y, .int .i64 g, .int .i64 n] 28
  have e : rfR ⟨44, b, m, r, x, p, q, y, g, n⟩ = 32256 + 64 * g + n := by
    unfold rfR
    rw [if_neg (by simp; try omega), if_neg (by simp; try omega), if_neg (by simp; try omega), if_neg (by simp; try omega), if_neg (by simp; try omega), if_neg (by simp; try omega), if_neg (by simp; try omega), if_neg (by simp; try omega), if_neg (by simp; try omega), if_neg (by simp; try omega), if_neg (by simp; try omega), if_neg (by simp; try omega), if_neg (by simp; try omega), if_neg (by simp; try omega), if_pos (by simp; try omega)]
  rw [e]
  clear e
  have hS := fdR_bds m r
  have hD := fdR_bds p q
  have j1 := fun w => rfield_any m r x w
  have j2 := fun w => rfield_any p q y w
  have j3 := fun w => islong_any 44 w
  have hil : isL 44 = false := by unfold isL; simp
  rw [hil] at j3
  have ei : ∀ a b : Int, a = b → Ending.returned (.int .i64 a) = .returned (.int .i64 b) := fun a b h => ret_int h
  generalize fdR m r = U at *
  generalize fdR p q = V at *
  obtain ⟨hS1, hS2⟩ := hS
  obtain ⟨hD1, hD2⟩ := hD
  obtain ⟨hg1, hg2⟩ := hg
  obtain ⟨hn1, hn2⟩ := hn
  have hm : (n + 256).tmod 256 = (n + 256) % 256 := Int.tmod_eq_emod_of_nonneg (by omega)
  cases b
  · go_enter Tryd.func34, Tryd.ntmps34
    go_upto_region 4 with fail
    have i0 := hX.c 0 0 rfl rfl; have i1 := hX.c 0 1 rfl rfl; have i2 := hX.c 0 2 rfl rfl; have i3 := hX.c 0 3 rfl rfl; have i4 := hX.c 0 4 rfl rfl; have i5 := hX.c 0 5 rfl rfl; have i6 := hX.c 0 6 rfl rfl; have i7 := hX.c 0 7 rfl rfl; have i8 := hX.c 0 8 rfl rfl; have i9 := hX.c 0 9 rfl rfl
    generalize W0.alloc (.cells #[.int .i64 44, .bool false, .int .i64 m, .int .i64 r, .int .i64 x, .int .i64 p, .int .i64 q, .int .i64 y, .int .i64 g, .int .i64 n] 28) = w1 at *
    generalize hBB : W0.heap.size = B at hX i0 i1 i2 i3 i4 i5 i6 i7 i8 i9 ⊢
    refine region_class (fun w' => St A c [(B, [.int .i64 44, .bool false, .int .i64 m, .int .i64 r, .int .i64 x, .int .i64 p, .int .i64 q, .int .i64 y, .int .i64 g, .int .i64 n])] W0 w') (by kernel_rfl) (by kernel_rfl) hX.drew ?_
    clear hX i0 i1 i2 i3 i4 i5 i6 i7 i8 i9
    repeat
      first
        | (refine BigFrame.wpQuiet_skip (by rfl) ?_
           simp only [Act.put, List.setIfInBounds_toArray, List.set_cons_zero, List.set_cons_succ])
        | (refine BigFrame.wpQuiet_want (by rfl) (fun K hK => ?_)
           apply Exists.intro
           refine ⟨fun wq hq => ?_, hK _ ?_⟩
           · have i0 := hq.c 0 0 rfl rfl; have i1 := hq.c 0 1 rfl rfl; have i2 := hq.c 0 2 rfl rfl; have i3 := hq.c 0 3 rfl rfl; have i4 := hq.c 0 4 rfl rfl; have i5 := hq.c 0 5 rfl rfl; have i6 := hq.c 0 6 rfl rfl; have i7 := hq.c 0 7 rfl rfl; have i8 := hq.c 0 8 rfl rfl; have i9 := hq.c 0 9 rfl rfl
             unfold Oper.quietAt
             go_simp
             first
               | with_reducible rfl
               | ((go_at_call 57); with_reducible refine (j1 _).mono ?_; exact fun e w' ⟨he, hb⟩ => ⟨he, hq.step hb⟩)
               | ((go_at_call 57); with_reducible refine (j2 _).mono ?_; exact fun e w' ⟨he, hb⟩ => ⟨he, hq.step hb⟩)
           clear hK K
           simp only [Act.put, List.setIfInBounds_toArray, List.set_cons_zero, List.set_cons_succ])
    refine wpQuiet_nil ?_
    intro w4 hX
    have i0 := hX.c 0 0 rfl rfl; have i1 := hX.c 0 1 rfl rfl; have i2 := hX.c 0 2 rfl rfl; have i3 := hX.c 0 3 rfl rfl; have i4 := hX.c 0 4 rfl rfl; have i5 := hX.c 0 5 rfl rfl; have i6 := hX.c 0 6 rfl rfl; have i7 := hX.c 0 7 rfl rfl; have i8 := hX.c 0 8 rfl rfl; have i9 := hX.c 0 9 rfl rfl
    go_wp2_with (first | (go_at_call 50; with_reducible refine (j3 _).mono ?_; rintro e w' ⟨rfl, hb⟩; have hX := hX.step hb; have i0 := hX.c 0 0 rfl rfl; have i1 := hX.c 0 1 rfl rfl; have i2 := hX.c 0 2 rfl rfl; have i3 := hX.c 0 3 rfl rfl; have i4 := hX.c 0 4 rfl rfl; have i5 := hX.c 0 5 rfl rfl; have i6 := hX.c 0 6 rfl rfl; have i7 := hX.c 0 7 rfl rfl; have i8 := hX.c 0 8 rfl rfl; have i9 := hX.c 0 9 rfl rfl; clear hb))
    go_ret
    refine ⟨ei _ _ ?_, by first | exact hX.below | exact hBB ▸ hX.below⟩
    clear hX
    first | rfl | omega | (simp; done) | (simp; omega)
  · go_enter Tryd.func34, Tryd.ntmps34
    go_upto_region 4 with fail
    have i0 := hX.c 0 0 rfl rfl; have i1 := hX.c 0 1 rfl rfl; have i2 := hX.c 0 2 rfl rfl; have i3 := hX.c 0 3 rfl rfl; have i4 := hX.c 0 4 rfl rfl; have i5 := hX.c 0 5 rfl rfl; have i6 := hX.c 0 6 rfl rfl; have i7 := hX.c 0 7 rfl rfl; have i8 := hX.c 0 8 rfl rfl; have i9 := hX.c 0 9 rfl rfl
    generalize W0.alloc (.cells #[.int .i64 44, .bool true, .int .i64 m, .int .i64 r, .int .i64 x, .int .i64 p, .int .i64 q, .int .i64 y, .int .i64 g, .int .i64 n] 28) = w1 at *
    generalize hBB : W0.heap.size = B at hX i0 i1 i2 i3 i4 i5 i6 i7 i8 i9 ⊢
    refine region_class (fun w' => St A c [(B, [.int .i64 44, .bool true, .int .i64 m, .int .i64 r, .int .i64 x, .int .i64 p, .int .i64 q, .int .i64 y, .int .i64 g, .int .i64 n])] W0 w') (by kernel_rfl) (by kernel_rfl) hX.drew ?_
    clear hX i0 i1 i2 i3 i4 i5 i6 i7 i8 i9
    repeat
      first
        | (refine BigFrame.wpQuiet_skip (by rfl) ?_
           simp only [Act.put, List.setIfInBounds_toArray, List.set_cons_zero, List.set_cons_succ])
        | (refine BigFrame.wpQuiet_want (by rfl) (fun K hK => ?_)
           apply Exists.intro
           refine ⟨fun wq hq => ?_, hK _ ?_⟩
           · have i0 := hq.c 0 0 rfl rfl; have i1 := hq.c 0 1 rfl rfl; have i2 := hq.c 0 2 rfl rfl; have i3 := hq.c 0 3 rfl rfl; have i4 := hq.c 0 4 rfl rfl; have i5 := hq.c 0 5 rfl rfl; have i6 := hq.c 0 6 rfl rfl; have i7 := hq.c 0 7 rfl rfl; have i8 := hq.c 0 8 rfl rfl; have i9 := hq.c 0 9 rfl rfl
             unfold Oper.quietAt
             go_simp
             first
               | with_reducible rfl
               | ((go_at_call 57); with_reducible refine (j1 _).mono ?_; exact fun e w' ⟨he, hb⟩ => ⟨he, hq.step hb⟩)
               | ((go_at_call 57); with_reducible refine (j2 _).mono ?_; exact fun e w' ⟨he, hb⟩ => ⟨he, hq.step hb⟩)
           clear hK K
           simp only [Act.put, List.setIfInBounds_toArray, List.set_cons_zero, List.set_cons_succ])
    refine wpQuiet_nil ?_
    intro w4 hX
    have i0 := hX.c 0 0 rfl rfl; have i1 := hX.c 0 1 rfl rfl; have i2 := hX.c 0 2 rfl rfl; have i3 := hX.c 0 3 rfl rfl; have i4 := hX.c 0 4 rfl rfl; have i5 := hX.c 0 5 rfl rfl; have i6 := hX.c 0 6 rfl rfl; have i7 := hX.c 0 7 rfl rfl; have i8 := hX.c 0 8 rfl rfl; have i9 := hX.c 0 9 rfl rfl
    go_wp2_with (first | (go_at_call 50; with_reducible refine (j3 _).mono ?_; rintro e w' ⟨rfl, hb⟩; have hX := hX.step hb; have i0 := hX.c 0 0 rfl rfl; have i1 := hX.c 0 1 rfl rfl; have i2 := hX.c 0 2 rfl rfl; have i3 := hX.c 0 3 rfl rfl; have i4 := hX.c 0 4 rfl rfl; have i5 := hX.c 0 5 rfl rfl; have i6 := hX.c 0 6 rfl rfl; have i7 := hX.c 0 7 rfl rfl; have i8 := hX.c 0 8 rfl rfl; have i9 := hX.c 0 9 rfl rfl; clear hb))
    go_ret
    refine ⟨ei _ _ ?_, by first | exact hX.below | exact hBB ▸ hX.below⟩
    clear hX
    first | rfl | omega | (simp; done) | (simp; omega)

theorem first_16 (b : Bool) (m r x p q y g n : Int) (hg : 0 ≤ g ∧ g ≤ 7) (hn : -128 ≤ n ∧ n ≤ 255) {A : Addr} {c : Nat} (W0 : World) (W : Frm A c W0) :
    Calls Tryd.prog 34 #[.agg #[.int .i64 46, .bool b, .int .i64 m, .int .i64 r, .int .i64 x, .int .i64 p, .int .i64 q, .int .i64 y, .int .i64 g, .int .i64 n]] W0 fun e w' => e = .returned (.int .i64 (rfR ⟨46, b, m, r, x, p, q, y, g, n⟩)) ∧ Below W0.heap.size W0 w' := by
  have hX := (St.start W).put [.int .i64 46, .bool b, .int .i64 m, .int .i64 r, .int .i64 x, .int .i64 p, .int .i64 q, .int .i64 y, .int .i64 g, .int .i64 n] 28
  have e : rfR ⟨46, b, m, r, x, p, q, y, g, n⟩ = 35072 + n := by
    unfold rfR
    rw [if_neg (by simp; try omega), if_neg (by simp; try omega), if_neg (by simp; try omega), if_neg (by simp; try omega), if_neg (by simp; try omega), if_neg (by simp; try omega), if_neg (by simp; try omega), if_neg (by simp; try omega), if_neg (by simp; try omega), if_neg (by simp; try omega), if_neg (by simp; try omega), if_neg (by simp; try omega), if_neg (by simp; try omega), if_neg (by simp; try omega), if_neg (by simp; try omega), if_neg (by simp; try omega), if_pos (by simp; try omega)]
  rw [e]
  clear e
  have hS := fdR_bds m r
  have hD := fdR_bds p q
  have j1 := fun w => rfield_any m r x w
  have j2 := fun w => rfield_any p q y w
  have j3 := fun w => islong_any 46 w
  have hil : isL 46 = false := by unfold isL; simp
  rw [hil] at j3
  have ei : ∀ a b : Int, a = b → Ending.returned (.int .i64 a) = .returned (.int .i64 b) := fun a b h => ret_int h
  generalize fdR m r = U at *
  generalize fdR p q = V at *
  obtain ⟨hS1, hS2⟩ := hS
  obtain ⟨hD1, hD2⟩ := hD
  obtain ⟨hg1, hg2⟩ := hg
  obtain ⟨hn1, hn2⟩ := hn
  have hm : (n + 256).tmod 256 = (n + 256) % 256 := Int.tmod_eq_emod_of_nonneg (by omega)
  cases b
  · go_enter Tryd.func34, Tryd.ntmps34
    go_upto_region 4 with fail
    have i0 := hX.c 0 0 rfl rfl; have i1 := hX.c 0 1 rfl rfl; have i2 := hX.c 0 2 rfl rfl; have i3 := hX.c 0 3 rfl rfl; have i4 := hX.c 0 4 rfl rfl; have i5 := hX.c 0 5 rfl rfl; have i6 := hX.c 0 6 rfl rfl; have i7 := hX.c 0 7 rfl rfl; have i8 := hX.c 0 8 rfl rfl; have i9 := hX.c 0 9 rfl rfl
    generalize W0.alloc (.cells #[.int .i64 46, .bool false, .int .i64 m, .int .i64 r, .int .i64 x, .int .i64 p, .int .i64 q, .int .i64 y, .int .i64 g, .int .i64 n] 28) = w1 at *
    generalize hBB : W0.heap.size = B at hX i0 i1 i2 i3 i4 i5 i6 i7 i8 i9 ⊢
    refine region_class (fun w' => St A c [(B, [.int .i64 46, .bool false, .int .i64 m, .int .i64 r, .int .i64 x, .int .i64 p, .int .i64 q, .int .i64 y, .int .i64 g, .int .i64 n])] W0 w') (by kernel_rfl) (by kernel_rfl) hX.drew ?_
    clear hX i0 i1 i2 i3 i4 i5 i6 i7 i8 i9
    repeat
      first
        | (refine BigFrame.wpQuiet_skip (by rfl) ?_
           simp only [Act.put, List.setIfInBounds_toArray, List.set_cons_zero, List.set_cons_succ])
        | (refine BigFrame.wpQuiet_want (by rfl) (fun K hK => ?_)
           apply Exists.intro
           refine ⟨fun wq hq => ?_, hK _ ?_⟩
           · have i0 := hq.c 0 0 rfl rfl; have i1 := hq.c 0 1 rfl rfl; have i2 := hq.c 0 2 rfl rfl; have i3 := hq.c 0 3 rfl rfl; have i4 := hq.c 0 4 rfl rfl; have i5 := hq.c 0 5 rfl rfl; have i6 := hq.c 0 6 rfl rfl; have i7 := hq.c 0 7 rfl rfl; have i8 := hq.c 0 8 rfl rfl; have i9 := hq.c 0 9 rfl rfl
             unfold Oper.quietAt
             go_simp
             first
               | with_reducible rfl
               | ((go_at_call 57); with_reducible refine (j1 _).mono ?_; exact fun e w' ⟨he, hb⟩ => ⟨he, hq.step hb⟩)
               | ((go_at_call 57); with_reducible refine (j2 _).mono ?_; exact fun e w' ⟨he, hb⟩ => ⟨he, hq.step hb⟩)
           clear hK K
           simp only [Act.put, List.setIfInBounds_toArray, List.set_cons_zero, List.set_cons_succ])
    refine wpQuiet_nil ?_
    intro w4 hX
    have i0 := hX.c 0 0 rfl rfl; have i1 := hX.c 0 1 rfl rfl; have i2 := hX.c 0 2 rfl rfl; have i3 := hX.c 0 3 rfl rfl; have i4 := hX.c 0 4 rfl rfl; have i5 := hX.c 0 5 rfl rfl; have i6 := hX.c 0 6 rfl rfl; have i7 := hX.c 0 7 rfl rfl; have i8 := hX.c 0 8 rfl rfl; have i9 := hX.c 0 9 rfl rfl
    go_wp2_with (first | (go_at_call 50; with_reducible refine (j3 _).mono ?_; rintro e w' ⟨rfl, hb⟩; have hX := hX.step hb; have i0 := hX.c 0 0 rfl rfl; have i1 := hX.c 0 1 rfl rfl; have i2 := hX.c 0 2 rfl rfl; have i3 := hX.c 0 3 rfl rfl; have i4 := hX.c 0 4 rfl rfl; have i5 := hX.c 0 5 rfl rfl; have i6 := hX.c 0 6 rfl rfl; have i7 := hX.c 0 7 rfl rfl; have i8 := hX.c 0 8 rfl rfl; have i9 := hX.c 0 9 rfl rfl; clear hb))
    go_ret
    refine ⟨ei _ _ ?_, by first | exact hX.below | exact hBB ▸ hX.below⟩
    clear hX
    first | rfl | omega | (simp; done) | (simp; omega)
  · go_enter Tryd.func34, Tryd.ntmps34
    go_upto_region 4 with fail
    have i0 := hX.c 0 0 rfl rfl; have i1 := hX.c 0 1 rfl rfl; have i2 := hX.c 0 2 rfl rfl; have i3 := hX.c 0 3 rfl rfl; have i4 := hX.c 0 4 rfl rfl; have i5 := hX.c 0 5 rfl rfl; have i6 := hX.c 0 6 rfl rfl; have i7 := hX.c 0 7 rfl rfl; have i8 := hX.c 0 8 rfl rfl; have i9 := hX.c 0 9 rfl rfl
    generalize W0.alloc (.cells #[.int .i64 46, .bool true, .int .i64 m, .int .i64 r, .int .i64 x, .int .i64 p, .int .i64 q, .int .i64 y, .int .i64 g, .int .i64 n] 28) = w1 at *
    generalize hBB : W0.heap.size = B at hX i0 i1 i2 i3 i4 i5 i6 i7 i8 i9 ⊢
    refine region_class (fun w' => St A c [(B, [.int .i64 46, .bool true, .int .i64 m, .int .i64 r, .int .i64 x, .int .i64 p, .int .i64 q, .int .i64 y, .int .i64 g, .int .i64 n])] W0 w') (by kernel_rfl) (by kernel_rfl) hX.drew ?_
    clear hX i0 i1 i2 i3 i4 i5 i6 i7 i8 i9
    repeat
      first
        | (refine BigFrame.wpQuiet_skip (by rfl) ?_
           simp only [Act.put, List.setIfInBounds_toArray, List.set_cons_zero, List.set_cons_succ])
        | (refine BigFrame.wpQuiet_want (by rfl) (fun K hK => ?_)
           apply Exists.intro
           refine ⟨fun wq hq => ?_, hK _ ?_⟩
           · have i0 := hq.c 0 0 rfl rfl; have i1 := hq.c 0 1 rfl rfl; have i2 := hq.c 0 2 rfl rfl; have i3 := hq.c 0 3 rfl rfl; have i4 := hq.c 0 4 rfl rfl; have i5 := hq.c 0 5 rfl rfl; have i6 := hq.c 0 6 rfl rfl; have i7 := hq.c 0 7 rfl rfl; have i8 := hq.c 0 8 rfl rfl; have i9 := hq.c 0 9 rfl rfl
             unfold Oper.quietAt
             go_simp
             first
               | with_reducible rfl
               | ((go_at_call 57); with_reducible refine (j1 _).mono ?_; exact fun e w' ⟨he, hb⟩ => ⟨he, hq.step hb⟩)
               | ((go_at_call 57); with_reducible refine (j2 _).mono ?_; exact fun e w' ⟨he, hb⟩ => ⟨he, hq.step hb⟩)
           clear hK K
           simp only [Act.put, List.setIfInBounds_toArray, List.set_cons_zero, List.set_cons_succ])
    refine wpQuiet_nil ?_
    intro w4 hX
    have i0 := hX.c 0 0 rfl rfl; have i1 := hX.c 0 1 rfl rfl; have i2 := hX.c 0 2 rfl rfl; have i3 := hX.c 0 3 rfl rfl; have i4 := hX.c 0 4 rfl rfl; have i5 := hX.c 0 5 rfl rfl; have i6 := hX.c 0 6 rfl rfl; have i7 := hX.c 0 7 rfl rfl; have i8 := hX.c 0 8 rfl rfl; have i9 := hX.c 0 9 rfl rfl
    go_wp2_with (first | (go_at_call 50; with_reducible refine (j3 _).mono ?_; rintro e w' ⟨rfl, hb⟩; have hX := hX.step hb; have i0 := hX.c 0 0 rfl rfl; have i1 := hX.c 0 1 rfl rfl; have i2 := hX.c 0 2 rfl rfl; have i3 := hX.c 0 3 rfl rfl; have i4 := hX.c 0 4 rfl rfl; have i5 := hX.c 0 5 rfl rfl; have i6 := hX.c 0 6 rfl rfl; have i7 := hX.c 0 7 rfl rfl; have i8 := hX.c 0 8 rfl rfl; have i9 := hX.c 0 9 rfl rfl; clear hb))
    go_ret
    refine ⟨ei _ _ ?_, by first | exact hX.below | exact hBB ▸ hX.below⟩
    clear hX
    first | rfl | omega | (simp; done) | (simp; omega)

theorem first_18 (b : Bool) (m r x p q y g n : Int) (hg : 0 ≤ g ∧ g ≤ 7) (hn : -128 ≤ n ∧ n ≤ 255) {A : Addr} {c : Nat} (W0 : World) (W : Frm A c W0) :
    Calls Tryd.prog 34 #[.agg #[.int .i64 54, .bool b, .int .i64 m, .int .i64 r, .int .i64 x, .int .i64 p, .int .i64 q, .int .i64 y, .int .i64 g, .int .i64 n]] W0 fun e w' => e = .returned (.int .i64 (rfR ⟨54, b, m, r, x, p, q, y, g, n⟩)) ∧ Below W0.heap.size W0 w' := by
  have hX := (St.start W).put [.int .i64 54, .bool b, .int .i64 m, .int .i64 r, .int .i64 x, .int .i64 p, .int .i64 q, .int .i64 y, .int .i64 g, .int .i64 n] 28
  have e : rfR ⟨54, b, m, r, x, p, q, y, g, n⟩ = 176 + n := by
    unfold rfR
    rw [if_neg (by simp; try omega), if_neg (by simp; try omega), if_neg (by simp; try omega), if_neg (by simp; try omega), if_neg (by simp; try omega), if_neg (by simp; try omega), if_neg (by simp; try omega), if_neg (by simp; try omega), if_neg (by simp; try omega), if_neg (by simp; try omega), if_neg (by simp; try omega), if_neg (by simp; try omega), if_neg (by simp; try omega), if_neg (by simp; try omega), if_neg (by simp; try omega), if_neg (by simp; try omega), if_neg (by simp; try omega), if_neg (by simp; try omega), if_pos (by simp; try omega)]
  rw [e]
  clear e
  have hS := fdR_bds m r
  have hD := fdR_bds p q
  have j1 := fun w => rfield_any m r x w
  have j2 := fun w => rfield_any p q y w
  have j3 := fun w => islong_any 54 w
  have hil : isL 54 = false := by unfold isL; simp
  rw [hil] at j3
  have ei : ∀ a b : Int, a = b → Ending.returned (.int .i64 a) = .returned (.int .i64 b) := fun a b h => ret_int h
  generalize fdR m r = U at *
  generalize fdR p q = V at *
  obtain ⟨hS1, hS2⟩ := hS
  obtain ⟨hD1, hD2⟩ := hD
  obtain ⟨hg1, hg2⟩ := hg
  obtain ⟨hn1, hn2⟩ := hn
  have hm : (n + 256).tmod 256 = (n + 256) % 256 := Int.tmod_eq_emod_of_nonneg (by omega)
  cases b
  · go_enter Tryd.func34, Tryd.ntmps34
    go_upto_region 4 with fail
    have i0 := hX.c 0 0 rfl rfl; have i1 := hX.c 0 1 rfl rfl; have i2 := hX.c 0 2 rfl rfl; have i3 := hX.c 0 3 rfl rfl; have i4 := hX.c 0 4 rfl rfl; have i5 := hX.c 0 5 rfl rfl; have i6 := hX.c 0 6 rfl rfl; have i7 := hX.c 0 7 rfl rfl; have i8 := hX.c 0 8 rfl rfl; have i9 := hX.c 0 9 rfl rfl
    generalize W0.alloc (.cells #[.int .i64 54, .bool false, .int .i64 m, .int .i64 r, .int .i64 x, .int .i64 p, .int .i64 q, .int .i64 y, .int .i64 g, .int .i64 n] 28) = w1 at *
    generalize hBB : W0.heap.size = B at hX i0 i1 i2 i3 i4 i5 i6 i7 i8 i9 ⊢
    refine region_class (fun w' => St A c [(B, [.int .i64 54, .bool false, .int .i64 m, .int .i64 r, .int .i64 x, .int .i64 p, .int .i64 q, .int .i64 y, .int .i64 g, .int .i64 n])] W0 w') (by kernel_rfl) (by kernel_rfl) hX.drew ?_
    clear hX i0 i1 i2 i3 i4 i5 i6 i7 i8 i9
    repeat
      first
        | (refine BigFrame.wpQuiet_skip (by rfl) ?_
           simp only [Act.put, List.setIfInBounds_toArray, List.set_cons_zero, List.set_cons_succ])
        | (refine BigFrame.wpQuiet_want (by rfl) (fun K hK => ?_)
           apply Exists.intro
           refine ⟨fun wq hq => ?_, hK _ ?_⟩
           · have i0 := hq.c 0 0 rfl rfl; have i1 := hq.c 0 1 rfl rfl; have i2 := hq.c 0 2 rfl rfl; have i3 := hq.c 0 3 rfl rfl; have i4 := hq.c 0 4 rfl rfl; have i5 := hq.c 0 5 rfl rfl; have i6 := hq.c 0 6 rfl rfl; have i7 := hq.c 0 7 rfl rfl; have i8 := hq.c 0 8 rfl rfl; have i9 := hq.c 0 9 rfl rfl
             unfold Oper.quietAt
             go_simp
             first
               | with_reducible rfl
               | ((go_at_call 57); with_reducible refine (j1 _).mono ?_; exact fun e w' ⟨he, hb⟩ => ⟨he, hq.step hb⟩)
               | ((go_at_call 57); with_reducible refine (j2 _).mono ?_; exact fun e w' ⟨he, hb⟩ => ⟨he, hq.step hb⟩)
           clear hK K
           simp only [Act.put, List.setIfInBounds_toArray, List.set_cons_zero, List.set_cons_succ])
    refine wpQuiet_nil ?_
    intro w4 hX
    have i0 := hX.c 0 0 rfl rfl; have i1 := hX.c 0 1 rfl rfl; have i2 := hX.c 0 2 rfl rfl; have i3 := hX.c 0 3 rfl rfl; have i4 := hX.c 0 4 rfl rfl; have i5 := hX.c 0 5 rfl rfl; have i6 := hX.c 0 6 rfl rfl; have i7 := hX.c 0 7 rfl rfl; have i8 := hX.c 0 8 rfl rfl; have i9 := hX.c 0 9 rfl rfl
    go_wp2_with (first | (go_at_call 50; with_reducible refine (j3 _).mono ?_; rintro e w' ⟨rfl, hb⟩; have hX := hX.step hb; have i0 := hX.c 0 0 rfl rfl; have i1 := hX.c 0 1 rfl rfl; have i2 := hX.c 0 2 rfl rfl; have i3 := hX.c 0 3 rfl rfl; have i4 := hX.c 0 4 rfl rfl; have i5 := hX.c 0 5 rfl rfl; have i6 := hX.c 0 6 rfl rfl; have i7 := hX.c 0 7 rfl rfl; have i8 := hX.c 0 8 rfl rfl; have i9 := hX.c 0 9 rfl rfl; clear hb))
    go_ret
    refine ⟨ei _ _ ?_, by first | exact hX.below | exact hBB ▸ hX.below⟩
    clear hX
    first | rfl | omega | (simp; done) | (simp; omega)
  · go_enter Tryd.func34, Tryd.ntmps34
    go_upto_region 4 with fail
    have i0 := hX.c 0 0 rfl rfl; have i1 := hX.c 0 1 rfl rfl; have i2 := hX.c 0 2 rfl rfl; have i3 := hX.c 0 3 rfl rfl; have i4 := hX.c 0 4 rfl rfl; have i5 := hX.c 0 5 rfl rfl; have i6 := hX.c 0 6 rfl rfl; have i7 := hX.c 0 7 rfl rfl; have i8 := hX.c 0 8 rfl rfl; have i9 := hX.c 0 9 rfl rfl
    generalize W0.alloc (.cells #[.int .i64 54, .bool true, .int .i64 m, .int .i64 r, .int .i64 x, .int .i64 p, .int .i64 q, .int .i64 y, .int .i64 g, .int .i64 n] 28) = w1 at *
    generalize hBB : W0.heap.size = B at hX i0 i1 i2 i3 i4 i5 i6 i7 i8 i9 ⊢
    refine region_class (fun w' => St A c [(B, [.int .i64 54, .bool true, .int .i64 m, .int .i64 r, .int .i64 x, .int .i64 p, .int .i64 q, .int .i64 y, .int .i64 g, .int .i64 n])] W0 w') (by kernel_rfl) (by kernel_rfl) hX.drew ?_
    clear hX i0 i1 i2 i3 i4 i5 i6 i7 i8 i9
    repeat
      first
        | (refine BigFrame.wpQuiet_skip (by rfl) ?_
           simp only [Act.put, List.setIfInBounds_toArray, List.set_cons_zero, List.set_cons_succ])
        | (refine BigFrame.wpQuiet_want (by rfl) (fun K hK => ?_)
           apply Exists.intro
           refine ⟨fun wq hq => ?_, hK _ ?_⟩
           · have i0 := hq.c 0 0 rfl rfl; have i1 := hq.c 0 1 rfl rfl; have i2 := hq.c 0 2 rfl rfl; have i3 := hq.c 0 3 rfl rfl; have i4 := hq.c 0 4 rfl rfl; have i5 := hq.c 0 5 rfl rfl; have i6 := hq.c 0 6 rfl rfl; have i7 := hq.c 0 7 rfl rfl; have i8 := hq.c 0 8 rfl rfl; have i9 := hq.c 0 9 rfl rfl
             unfold Oper.quietAt
             go_simp
             first
               | with_reducible rfl
               | ((go_at_call 57); with_reducible refine (j1 _).mono ?_; exact fun e w' ⟨he, hb⟩ => ⟨he, hq.step hb⟩)
               | ((go_at_call 57); with_reducible refine (j2 _).mono ?_; exact fun e w' ⟨he, hb⟩ => ⟨he, hq.step hb⟩)
           clear hK K
           simp only [Act.put, List.setIfInBounds_toArray, List.set_cons_zero, List.set_cons_succ])
    refine wpQuiet_nil ?_
    intro w4 hX
    have i0 := hX.c 0 0 rfl rfl; have i1 := hX.c 0 1 rfl rfl; have i2 := hX.c 0 2 rfl rfl; have i3 := hX.c 0 3 rfl rfl; have i4 := hX.c 0 4 rfl rfl; have i5 := hX.c 0 5 rfl rfl; have i6 := hX.c 0 6 rfl rfl; have i7 := hX.c 0 7 rfl rfl; have i8 := hX.c 0 8 rfl rfl; have i9 := hX.c 0 9 rfl rfl
    go_wp2_with (first | (go_at_call 50; with_reducible refine (j3 _).mono ?_; rintro e w' ⟨rfl, hb⟩; have hX := hX.step hb; have i0 := hX.c 0 0 rfl rfl; have i1 := hX.c 0 1 rfl rfl; have i2 := hX.c 0 2 rfl rfl; have i3 := hX.c 0 3 rfl rfl; have i4 := hX.c 0 4 rfl rfl; have i5 := hX.c 0 5 rfl rfl; have i6 := hX.c 0 6 rfl rfl; have i7 := hX.c 0 7 rfl rfl; have i8 := hX.c 0 8 rfl rfl; have i9 := hX.c 0 9 rfl rfl; clear hb))
    go_ret
    refine ⟨ei _ _ ?_, by first | exact hX.below | exact hBB ▸ hX.below⟩
    clear hX
    first | rfl | omega | (simp; done) | (simp; omega)

theorem first_20 (b : Bool) (m r x p q y g n : Int) (hg : 0 ≤ g ∧ g ≤ 7) (hn : -128 ≤ n ∧ n ≤ 255) {A : Addr} {c : Nat} (W0 : World) (W : Frm A c W0) :
    Calls Tryd.prog 34 #[.agg #[.int .i64 56, .bool b, .int .i64 m, .int .i64 r, .int .i64 x, .int .i64 p, .int .i64 q, .int .i64 y, .int .i64 g, .int .i64 n]] W0 fun e w' => e = .returned (.int .i64 (rfR ⟨56, b, m, r, x, p, q, y, g, n⟩)) ∧ Below W0.heap.size W0 w' := by
  have hX := (St.start W).put [.int .i64 56, .bool b, .int .i64 m, .int .i64 r, .int .i64 x, .int .i64 p, .int .i64 q, .int .i64 y, .int .i64 g, .int .i64 n] 28
  have e : rfR ⟨56, b, m, r, x, p, q, y, g, n⟩ = 3456 + fdR p q := by
    unfold rfR
    rw [if_neg (by simp; try omega), if_neg (by simp; try omega), if_neg (by simp; try omega), if_neg (by simp; try omega), if_neg (by simp; try omega), if_neg (by simp; try omega), if_neg (by simp; try omega), if_neg (by simp; try omega), if_neg (by simp; try omega), if_neg (by simp; try omega), if_neg (by simp; try omega), if_neg (by simp; try omega), if_neg (by simp; try omega), if_neg (by simp; try omega), if_neg (by simp; try omega), if_neg (by simp; try omega), if_neg (by simp; try omega), if_neg (by simp; try omega), if_neg (by simp; try omega), if_neg (by simp; try omega), if_pos (by simp; try omega)]
  rw [e]
  clear e
  have hS := fdR_bds m r
  have hD := fdR_bds p q
  have j1 := fun w => rfield_any m r x w
  have j2 := fun w => rfield_any p q y w
  have j3 := fun w => islong_any 56 w
  have hil : isL 56 = false := by unfold isL; simp
  rw [hil] at j3
  have ei : ∀ a b : Int, a = b → Ending.returned (.int .i64 a) = .returned (.int .i64 b) := fun a b h => ret_int h
  generalize fdR m r = U at *
  generalize fdR p q = V at *
  obtain ⟨hS1, hS2⟩ := hS
  obtain ⟨hD1, hD2⟩ := hD
  obtain ⟨hg1, hg2⟩ := hg
  obtain ⟨hn1, hn2⟩ := hn
  have hm : (n + 256).tmod 256 = (n + 256) % 256 := Int.tmod_eq_emod_of_nonneg (by omega)
  cases b
  · go_enter Tryd.func34, Tryd.ntmps34
    go_upto_region 4 with fail
    have i0 := hX.c 0 0 rfl rfl; have i1 := hX.c 0 1 rfl rfl; have i2 := hX.c 0 2 rfl rfl; have i3 := hX.c 0 3 rfl rfl; have i4 := hX.c 0 4 rfl rfl; have i5 := hX.c 0 5 rfl rfl; have i6 := hX.c 0 6 rfl rfl; have i7 := hX.c 0 7 rfl rfl; have i8 := hX.c 0 8 rfl rfl; have i9 := hX.c 0 9 rfl rfl
    generalize W0.alloc (.cells #[.int .i64 56, .bool false, .int .i64 m, .int .i64 r, .int .i64 x, .int .i64 p, .int .i64 q, .int .i64 y, .int .i64 g, .int .i64 n] 28) = w1 at *
    generalize hBB : W0.heap.size = B at hX i0 i1 i2 i3 i4 i5 i6 i7 i8 i9 ⊢
    refine region_class (fun w' => St A c [(B, [.int .i64 56, .bool false, .int .i64 m, .int .i64 r, .int .i64 x, .int .i64 p, .int .i64 q, .int .i64 y, .int .i64 g, .int .i64 n])] W0 w') (by kernel_rfl) (by kernel_rfl) hX.drew ?_
    clear hX i0 i1 i2 i3 i4 i5 i6 i7 i8 i9
    repeat
      first
        | (refine BigFrame.wpQuiet_skip (by rfl) ?_
           simp only [Act.put, List.setIfInBounds_toArray, List.set_cons_zero, List.set_cons_succ])
        | (refine BigFrame.wpQuiet_want (by rfl) (fun K hK => ?_)
           apply Exists.intro
           refine ⟨fun wq hq => ?_, hK _ ?_⟩
           · have i0 := hq.c 0 0 rfl rfl; have i1 := hq.c 0 1 rfl rfl; have i2 := hq.c 0 2 rfl rfl; have i3 := hq.c 0 3 rfl rfl; have i4 := hq.c 0 4 rfl rfl; have i5 := hq.c 0 5 rfl rfl; have i6 := hq.c 0 6 rfl rfl; have i7 := hq.c 0 7 rfl rfl; have i8 := hq.c 0 8 rfl rfl; have i9 := hq.c 0 9 rfl rfl
             unfold Oper.quietAt
             go_simp
             first
               | with_reducible rfl
               | ((go_at_call 57); with_reducible refine (j1 _).mono ?_; exact fun e w' ⟨he, hb⟩ => ⟨he, hq.step hb⟩)
               | ((go_at_call 57); with_reducible refine (j2 _).mono ?_; exact fun e w' ⟨he, hb⟩ => ⟨he, hq.step hb⟩)
           clear hK K
           simp only [Act.put, List.setIfInBounds_toArray, List.set_cons_zero, List.set_cons_succ])
    refine wpQuiet_nil ?_
    intro w4 hX
    have i0 := hX.c 0 0 rfl rfl; have i1 := hX.c 0 1 rfl rfl; have i2 := hX.c 0 2 rfl rfl; have i3 := hX.c 0 3 rfl rfl; have i4 := hX.c 0 4 rfl rfl; have i5 := hX.c 0 5 rfl rfl; have i6 := hX.c 0 6 rfl rfl; have i7 := hX.c 0 7 rfl rfl; have i8 := hX.c 0 8 rfl rfl; have i9 := hX.c 0 9 rfl rfl
    go_wp2_with (first | (go_at_call 50; with_reducible refine (j3 _).mono ?_; rintro e w' ⟨rfl, hb⟩; have hX := hX.step hb; have i0 := hX.c 0 0 rfl rfl; have i1 := hX.c 0 1 rfl rfl; have i2 := hX.c 0 2 rfl rfl; have i3 := hX.c 0 3 rfl rfl; have i4 := hX.c 0 4 rfl rfl; have i5 := hX.c 0 5 rfl rfl; have i6 := hX.c 0 6 rfl rfl; have i7 := hX.c 0 7 rfl rfl; have i8 := hX.c 0 8 rfl rfl; have i9 := hX.c 0 9 rfl rfl; clear hb))
    go_ret
    refine ⟨ei _ _ ?_, by first | exact hX.below | exact hBB ▸ hX.below⟩
    clear hX
    first | rfl | omega | (simp; done) | (simp; omega)
  · go_enter Tryd.func34, Tryd.ntmps34
    go_upto_region 4 with fail
    have i0 := hX.c 0 0 rfl rfl; have i1 := hX.c 0 1 rfl rfl; have i2 := hX.c 0 2 rfl rfl; have i3 := hX.c 0 3 rfl rfl; have i4 := hX.c 0 4 rfl rfl; have i5 := hX.c 0 5 rfl rfl; have i6 := hX.c 0 6 rfl rfl; have i7 := hX.c 0 7 rfl rfl; have i8 := hX.c 0 8 rfl rfl; have i9 := hX.c 0 9 rfl rfl
    generalize W0.alloc (.cells #[.int .i64 56, .bool true, .int .i64 m, .int .i64 r, .int .i64 x, .int .i64 p, .int .i64 q, .int .i64 y, .int .i64 g, .int .i64 n] 28) = w1 at *
    generalize hBB : W0.heap.size = B at hX i0 i1 i2 i3 i4 i5 i6 i7 i8 i9 ⊢
    refine region_class (fun w' => St A c [(B, [.int .i64 56, .bool true, .int .i64 m, .int .i64 r, .int .i64 x, .int .i64 p, .int .i64 q, .int .i64 y, .int .i64 g, .int .i64 n])] W0 w') (by kernel_rfl) (by kernel_rfl) hX.drew ?_
    clear hX i0 i1 i2 i3 i4 i5 i6 i7 i8 i9
    repeat
      first
        | (refine BigFrame.wpQuiet_skip (by rfl) ?_
           simp only [Act.put, List.setIfInBounds_toArray, List.set_cons_zero, List.set_cons_succ])
        | (refine BigFrame.wpQuiet_want (by rfl) (fun K hK => ?_)
           apply Exists.intro
           refine ⟨fun wq hq => ?_, hK _ ?_⟩
           · have i0 := hq.c 0 0 rfl rfl; have i1 := hq.c 0 1 rfl rfl; have i2 := hq.c 0 2 rfl rfl; have i3 := hq.c 0 3 rfl rfl; have i4 := hq.c 0 4 rfl rfl; have i5 := hq.c 0 5 rfl rfl; have i6 := hq.c 0 6 rfl rfl; have i7 := hq.c 0 7 rfl rfl; have i8 := hq.c 0 8 rfl rfl; have i9 := hq.c 0 9 rfl rfl
             unfold Oper.quietAt
             go_simp
             first
               | with_reducible rfl
               | ((go_at_call 57); with_reducible refine (j1 _).mono ?_; exact fun e w' ⟨he, hb⟩ => ⟨he, hq.step hb⟩)
               | ((go_at_call 57); with_reducible refine (j2 _).mono ?_; exact fun e w' ⟨he, hb⟩ => ⟨he, hq.step hb⟩)
           clear hK K
           simp only [Act.put, List.setIfInBounds_toArray, List.set_cons_zero, List.set_cons_succ])
    refine wpQuiet_nil ?_
    intro w4 hX
    have i0 := hX.c 0 0 rfl rfl; have i1 := hX.c 0 1 rfl rfl; have i2 := hX.c 0 2 rfl rfl; have i3 := hX.c 0 3 rfl rfl; have i4 := hX.c 0 4 rfl rfl; have i5 := hX.c 0 5 rfl rfl; have i6 := hX.c 0 6 rfl rfl; have i7 := hX.c 0 7 rfl rfl; have i8 := hX.c 0 8 rfl rfl; have i9 := hX.c 0 9 rfl rfl
    go_wp2_with (first | (go_at_call 50; with_reducible refine (j3 _).mono ?_; rintro e w' ⟨rfl, hb⟩; have hX := hX.step hb; have i0 := hX.c 0 0 rfl rfl; have i1 := hX.c 0 1 rfl rfl; have i2 := hX.c 0 2 rfl rfl; have i3 := hX.c 0 3 rfl rfl; have i4 := hX.c 0 4 rfl rfl; have i5 := hX.c 0 5 rfl rfl; have i6 := hX.c 0 6 rfl rfl; have i7 := hX.c 0 7 rfl rfl; have i8 := hX.c 0 8 rfl rfl; have i9 := hX.c 0 9 rfl rfl; clear hb))
    go_ret
    refine ⟨ei _ _ ?_, by first | exact hX.below | exact hBB ▸ hX.below⟩
    clear hX
    first | rfl | omega | (simp; done) | (simp; omega)

theorem first_22 (b : Bool) (m r x p q y g n : Int) (hg : 0 ≤ g ∧ g ≤ 7) (hn : -128 ≤ n ∧ n ≤ 255) {A : Addr} {c : Nat} (W0 : World) (W : Frm A c W0) :
    Calls Tryd.prog 34 #[.agg #[.int .i64 51, .bool b, .int .i64 m, .int .i64 r, .int .i64 x, .int .i64 p, .int .i64 q, .int .i64 y, .int .i64 g, .int .i64 n]] W0 fun e w' => e = .returned (.int .i64 (rfR ⟨51, b, m, r, x, p, q, y, g, n⟩)) ∧ Below W0.heap.size W0 w' := by
  have hX := (St.start W).put [.int .i64 51, .bool b, .int .i64 m, .int .i64 r, .int .i64 x, .int .i64 p, .int .i64 q, .int .i64 y, .int .i64 g, .int .i64 n] 28
  have e : rfR ⟨51, b, m, r, x, p, q, y, g, n⟩ = 1 := by
    unfold rfR
    rw [if_neg (by simp; try omega), if_neg (by simp; try omega), if_neg (by simp; try omega), if_neg (by simp; try omega), if_neg (by simp; try omega), if_neg (by simp; try omega), if_neg (by simp; try omega), if_neg (by simp; try omega), if_neg (by simp; try omega), if_neg (by simp; try omega), if_neg (by simp; try omega), if_neg (by simp; try omega), if_neg (by simp; try omega), if_neg (by simp; try omega), if_neg (by simp; try omega), if_neg (by simp; try omega), if_neg (by simp; try omega), if_neg (by simp; try omega), if_neg (by simp; try omega), if_neg (by simp; try omega), if_neg (by simp; try omega), if_neg (by simp; try omega), if_pos (by simp; try omega)]
  rw [e]
  clear e
  have hS := fdR_bds m r
  have hD := fdR_bds p q
  have j1 := fun w => rfield_any m r x w
  have j2 := fun w => rfield_any p q y w
  have j3 := fun w => islong_any 51 w
  have hil : isL 51 = false := by unfold isL; simp
  rw [hil] at j3
  have ei : ∀ a b : Int, a = b → Ending.returned (.int .i64 a) = .returned (.int .i64 b) := fun a b h => ret_int h
  generalize fdR m r = U at *
  generalize fdR p q = V at *
  obtain ⟨hS1, hS2⟩ := hS
  obtain ⟨hD1, hD2⟩ := hD
  obtain ⟨hg1, hg2⟩ := hg
  obtain ⟨hn1, hn2⟩ := hn
  have hm : (n + 256).tmod 256 = (n + 256) % 256 := Int.tmod_eq_emod_of_nonneg (by omega)
  cases b
  · go_enter Tryd.func34, Tryd.ntmps34
    go_upto_region 4 with fail
    have i0 := hX.c 0 0 rfl rfl; have i1 := hX.c 0 1 rfl rfl; have i2 := hX.c 0 2 rfl rfl; have i3 := hX.c 0 3 rfl rfl; have i4 := hX.c 0 4 rfl rfl; have i5 := hX.c 0 5 rfl rfl; have i6 := hX.c 0 6 rfl rfl; have i7 := hX.c 0 7 rfl rfl; have i8 := hX.c 0 8 rfl rfl; have i9 := hX.c 0 9 rfl rfl
    generalize W0.alloc (.cells #[.int .i64 51, .bool false, .int .i64 m, .int .i64 r, .int .i64 x, .int .i64 p, .int .i64 q, .int .i64 y, .int .i64 g, .int .i64 n] 28) = w1 at *
    generalize hBB : W0.heap.size = B at hX i0 i1 i2 i3 i4 i5 i6 i7 i8 i9 ⊢
    refine region_class (fun w' => St A c [(B, [.int .i64 51, .bool false, .int .i64 m, .int .i64 r, .int .i64 x, .int .i64 p, .int .i64 q, .int .i64 y, .int .i64 g, .int .i64 n])] W0 w') (by kernel_rfl) (by kernel_rfl) hX.drew ?_
    clear hX i0 i1 i2 i3 i4 i5 i6 i7 i8 i9
    repeat
      first
        | (refine BigFrame.wpQuiet_skip (by rfl) ?_
           simp only [Act.put, List.setIfInBounds_toArray, List.set_cons_zero, List.set_cons_succ])
        | (refine BigFrame.wpQuiet_want (by rfl) (fun K hK => ?_)
           apply Exists.intro
           refine ⟨fun wq hq => ?_, hK _ ?_⟩
           · have i0 := hq.c 0 0 rfl rfl; have i1 := hq.c 0 1 rfl rfl; have i2 := hq.c 0 2 rfl rfl; have i3 := hq.c 0 3 rfl rfl; have i4 := hq.c 0 4 rfl rfl; have i5 := hq.c 0 5 rfl rfl; have i6 := hq.c 0 6 rfl rfl; have i7 := hq.c 0 7 rfl rfl; have i8 := hq.c 0 8 rfl rfl; have i9 := hq.c 0 9 rfl rfl
             unfold Oper.quietAt
             go_simp
             first
               | with_reducible rfl
               | ((go_at_call 57); with_reducible refine (j1 _).mono ?_; exact fun e w' ⟨he, hb⟩ => ⟨he, hq.step hb⟩)
               | ((go_at_call 57); with_reducible refine (j2 _).mono ?_; exact fun e w' ⟨he, hb⟩ => ⟨he, hq.step hb⟩)
           clear hK K
           simp only [Act.put, List.setIfInBounds_toArray, List.set_cons_zero, List.set_cons_succ])
    refine wpQuiet_nil ?_
    intro w4 hX
    have i0 := hX.c 0 0 rfl rfl; have i1 := hX.c 0 1 rfl rfl; have i2 := hX.c 0 2 rfl rfl; have i3 := hX.c 0 3 rfl rfl; have i4 := hX.c 0 4 rfl rfl; have i5 := hX.c 0 5 rfl rfl; have i6 := hX.c 0 6 rfl rfl; have i7 := hX.c 0 7 rfl rfl; have i8 := hX.c 0 8 rfl rfl; have i9 := hX.c 0 9 rfl rfl
    go_wp2_with (first | (go_at_call 50; with_reducible refine (j3 _).mono ?_; rintro e w' ⟨rfl, hb⟩; have hX := hX.step hb; have i0 := hX.c 0 0 rfl rfl; have i1 := hX.c 0 1 rfl rfl; have i2 := hX.c 0 2 rfl rfl; have i3 := hX.c 0 3 rfl rfl; have i4 := hX.c 0 4 rfl rfl; have i5 := hX.c 0 5 rfl rfl; have i6 := hX.c 0 6 rfl rfl; have i7 := hX.c 0 7 rfl rfl; have i8 := hX.c 0 8 rfl rfl; have i9 := hX.c 0 9 rfl rfl; clear hb))
    go_ret
    refine ⟨ei _ _ ?_, by first | exact hX.below | exact hBB ▸ hX.below⟩
    clear hX
    first | rfl | omega | (simp; done) | (simp; omega)
  · go_enter Tryd.func34, Tryd.ntmps34
    go_upto_region 4 with fail
    have i0 := hX.c 0 0 rfl rfl; have i1 := hX.c 0 1 rfl rfl; have i2 := hX.c 0 2 rfl rfl; have i3 := hX.c 0 3 rfl rfl; have i4 := hX.c 0 4 rfl rfl; have i5 := hX.c 0 5 rfl rfl; have i6 := hX.c 0 6 rfl rfl; have i7 := hX.c 0 7 rfl rfl; have i8 := hX.c 0 8 rfl rfl; have i9 := hX.c 0 9 rfl rfl
    generalize W0.alloc (.cells #[.int .i64 51, .bool true, .int .i64 m, .int .i64 r, .int .i64 x, .int .i64 p, .int .i64 q, .int .i64 y, .int .i64 g, .int .i64 n] 28) = w1 at *
    generalize hBB : W0.heap.size = B at hX i0 i1 i2 i3 i4 i5 i6 i7 i8 i9 ⊢
    refine region_class (fun w' => St A c [(B, [.int .i64 51, .bool true, .int .i64 m, .int .i64 r, .int .i64 x, .int .i64 p, .int .i64 q, .int .i64 y, .int .i64 g, .int .i64 n])] W0 w') (by kernel_rfl) (by kernel_rfl) hX.drew ?_
    clear hX i0 i1 i2 i3 i4 i5 i6 i7 i8 i9
    repeat
      first
        | (refine BigFrame.wpQuiet_skip (by rfl) ?_
           simp only [Act.put, List.setIfInBounds_toArray, List.set_cons_zero, List.set_cons_succ])
        | (refine BigFrame.wpQuiet_want (by rfl) (fun K hK => ?_)
           apply Exists.intro
           refine ⟨fun wq hq => ?_, hK _ ?_⟩
           · have i0 := hq.c 0 0 rfl rfl; have i1 := hq.c 0 1 rfl rfl; have i2 := hq.c 0 2 rfl rfl; have i3 := hq.c 0 3 rfl rfl; have i4 := hq.c 0 4 rfl rfl; have i5 := hq.c 0 5 rfl rfl; have i6 := hq.c 0 6 rfl rfl; have i7 := hq.c 0 7 rfl rfl; have i8 := hq.c 0 8 rfl rfl; have i9 := hq.c 0 9 rfl rfl
             unfold Oper.quietAt
             go_simp
             first
               | with_reducible rfl
               | ((go_at_call 57); with_reducible refine (j1 _).mono ?_; exact fun e w' ⟨he, hb⟩ => ⟨he, hq.step hb⟩)
               | ((go_at_call 57); with_reducible refine (j2 _).mono ?_; exact fun e w' ⟨he, hb⟩ => ⟨he, hq.step hb⟩)
           clear hK K
           simp only [Act.put, List.setIfInBounds_toArray, List.set_cons_zero, List.set_cons_succ])
    refine wpQuiet_nil ?_
    intro w4 hX
    have i0 := hX.c 0 0 rfl rfl; have i1 := hX.c 0 1 rfl rfl; have i2 := hX.c 0 2 rfl rfl; have i3 := hX.c 0 3 rfl rfl; have i4 := hX.c 0 4 rfl rfl; have i5 := hX.c 0 5 rfl rfl; have i6 := hX.c 0 6 rfl rfl; have i7 := hX.c 0 7 rfl rfl; have i8 := hX.c 0 8 rfl rfl; have i9 := hX.c 0 9 rfl rfl
    go_wp2_with (first | (go_at_call 50; with_reducible refine (j3 _).mono ?_; rintro e w' ⟨rfl, hb⟩; have hX := hX.step hb; have i0 := hX.c 0 0 rfl rfl; have i1 := hX.c 0 1 rfl rfl; have i2 := hX.c 0 2 rfl rfl; have i3 := hX.c 0 3 rfl rfl; have i4 := hX.c 0 4 rfl rfl; have i5 := hX.c 0 5 rfl rfl; have i6 := hX.c 0 6 rfl rfl; have i7 := hX.c 0 7 rfl rfl; have i8 := hX.c 0 8 rfl rfl; have i9 := hX.c 0 9 rfl rfl; clear hb))
    go_ret
    refine ⟨ei _ _ ?_, by first | exact hX.below | exact hBB ▸ hX.below⟩
    clear hX
    first | rfl | omega | (simp; done) | (simp; omega)

theorem first_24 (b : Bool) (m r x p q y g n : Int) (hg : 0 ≤ g ∧ g ≤ 7) (hn : -128 ≤ n ∧ n ≤ 255) {A : Addr} {c : Nat} (W0 : World) (W : Frm A c W0) :
    Calls Tryd.prog 34 #[.agg #[.int .i64 47, .bool b, .int .i64 m, .int .i64 r, .int .i64 x, .int .i64 p, .int .i64 q, .int .i64 y, .int .i64 g, .int .i64 n]] W0 fun e w' => e = .returned (.int .i64 (rfR ⟨47, b, m, r, x, p, q, y, g, n⟩)) ∧ Below W0.heap.size W0 w' := by
  have hX := (St.start W).put [.int .i64 47, .bool b, .int .i64 m, .int .i64 r, .int .i64 x, .int .i64 p, .int .i64 q, .int .i64 y, .int .i64 g, .int .i64 n] 28
  have e : rfR ⟨47, b, m, r, x, p, q, y, g, n⟩ = 3 := by
    unfold rfR
    rw [if_neg (by simp; try omega), if_neg (by simp; try omega), if_neg (by simp; try omega), if_neg (by simp; try omega), if_neg (by simp; try omega), if_neg (by simp; try omega), if_neg (by simp; try omega), if_neg (by simp; try omega), if_neg (by simp; try omega), if_neg (by simp; try omega), if_neg (by simp; try omega), if_neg (by simp; try omega), if_neg (by simp; try omega), if_neg (by simp; try omega), if_neg (by simp; try omega), if_neg (by simp; try omega), if_neg (by simp; try omega), if_neg (by simp; try omega), if_neg (by simp; try omega), if_neg (by simp; try omega), if_neg (by simp; try omega), if_neg (by simp; try omega), if_neg (by simp; try omega), if_neg (by simp; try omega), if_pos (by simp; try omega)]
  rw [e]
  clear e
  have hS := fdR_bds m r
  have hD := fdR_bds p q
  have j1 := fun w => rfield_any m r x w
  have j2 := fun w => rfield_any p q y w
  have j3 := fun w => islong_any 47 w
  have hil : isL 47 = false := by unfold isL; simp
  rw [hil] at j3
  have ei : ∀ a b : Int, a = b → Ending.returned (.int .i64 a) = .returned (.int .i64 b) := fun a b h => ret_int h
  generalize fdR m r = U at *
  generalize fdR p q = V at *
  obtain ⟨hS1, hS2⟩ := hS
  obtain ⟨hD1, hD2⟩ := hD
  obtain ⟨hg1, hg2⟩ := hg
  obtain ⟨hn1, hn2⟩ := hn
  have hm : (n + 256).tmod 256 = (n + 256) % 256 := Int.tmod_eq_emod_of_nonneg (by omega)
  cases b
  · go_enter Tryd.func34, Tryd.ntmps34
    go_upto_region 4 with fail
    have i0 := hX.c 0 0 rfl rfl; have i1 := hX.c 0 1 rfl rfl; have i2 := hX.c 0 2 rfl rfl; have i3 := hX.c 0 3 rfl rfl; have i4 := hX.c 0 4 rfl rfl; have i5 := hX.c 0 5 rfl rfl; have i6 := hX.c 0 6 rfl rfl; have i7 := hX.c 0 7 rfl rfl; have i8 := hX.c 0 8 rfl rfl; have i9 := hX.c 0 9 rfl rfl
    generalize W0.alloc (.cells #[.int .i64 47, .bool false, .int .i64 m, .int .i64 r, .int .i64 x, .int .i64 p, .int .i64 q, .int .i64 y, .int .i64 g, .int .i64 n] 28) = w1 at *
    generalize hBB : W0.heap.size = B at hX i0 i1 i2 i3 i4 i5 i6 i7 i8 i9 ⊢
    refine region_class (fun w' => St A c [(B, [.int .i64 47, .bool false, .int .i64 m, .int .i64 r, .int .i64 x, .int .i64 p, .int .i64 q, .int .i64 y, .int .i64 g, .int .i64 n])] W0 w') (by kernel_rfl) (by kernel_rfl) hX.drew ?_
    clear hX i0 i1 i2 i3 i4 i5 i6 i7 i8 i9
    repeat
      first
        | (refine BigFrame.wpQuiet_skip (by rfl) ?_
           simp only [Act.put, List.setIfInBounds_toArray, List.set_cons_zero, List.set_cons_succ])
        | (refine BigFrame.wpQuiet_want (by rfl) (fun K hK => ?_)
           apply Exists.intro
           refine ⟨fun wq hq => ?_, hK _ ?_⟩
           · have i0 := hq.c 0 0 rfl rfl; have i1 := hq.c 0 1 rfl rfl; have i2 := hq.c 0 2 rfl rfl; have i3 := hq.c 0 3 rfl rfl; have i4 := hq.c 0 4 rfl rfl; have i5 := hq.c 0 5 rfl rfl; have i6 := hq.c 0 6 rfl rfl; have i7 := hq.c 0 7 rfl rfl; have i8 := hq.c 0 8 rfl rfl; have i9 := hq.c 0 9 rfl rfl
             unfold Oper.quietAt
             go_simp
             first
               | with_reducible rfl
               | ((go_at_call 57); with_reducible refine (j1 _).mono ?_; exact fun e w' ⟨he, hb⟩ => ⟨he, hq.step hb⟩)
               | ((go_at_call 57); with_reducible refine (j2 _).mono ?_; exact fun e w' ⟨he, hb⟩ => ⟨he, hq.step hb⟩)
           clear hK K
           simp only [Act.put, List.setIfInBounds_toArray, List.set_cons_zero, List.set_cons_succ])
    refine wpQuiet_nil ?_
    intro w4 hX
    have i0 := hX.c 0 0 rfl rfl; have i1 := hX.c 0 1 rfl rfl; have i2 := hX.c 0 2 rfl rfl; have i3 := hX.c 0 3 rfl rfl; have i4 := hX.c 0 4 rfl rfl; have i5 := hX.c 0 5 rfl rfl; have i6 := hX.c 0 6 rfl rfl; have i7 := hX.c 0 7 rfl rfl; have i8 := hX.c 0 8 rfl rfl; have i9 := hX.c 0 9 rfl rfl
    go_wp2_with (first | (go_at_call 50; with_reducible refine (j3 _).mono ?_; rintro e w' ⟨rfl, hb⟩; have hX := hX.step hb; have i0 := hX.c 0 0 rfl rfl; have i1 := hX.c 0 1 rfl rfl; have i2 := hX.c 0 2 rfl rfl; have i3 := hX.c 0 3 rfl rfl; have i4 := hX.c 0 4 rfl rfl; have i5 := hX.c 0 5 rfl rfl; have i6 := hX.c 0 6 rfl rfl; have i7 := hX.c 0 7 rfl rfl; have i8 := hX.c 0 8 rfl rfl; have i9 := hX.c 0 9 rfl rfl; clear hb))
    go_ret
    refine ⟨ei _ _ ?_, by first | exact hX.below | exact hBB ▸ hX.below⟩
    clear hX
    first | rfl | omega | (simp; done) | (simp; omega)
  · go_enter Tryd.func34, Tryd.ntmps34
    go_upto_region 4 with fail
    have i0 := hX.c 0 0 rfl rfl; have i1 := hX.c 0 1 rfl rfl; have i2 := hX.c 0 2 rfl rfl; have i3 := hX.c 0 3 rfl rfl; have i4 := hX.c 0 4 rfl rfl; have i5 := hX.c 0 5 rfl rfl; have i6 := hX.c 0 6 rfl rfl; have i7 := hX.c 0 7 rfl rfl; have i8 := hX.c 0 8 rfl rfl; have i9 := hX.c 0 9 rfl rfl
    generalize W0.alloc (.cells #[.int .i64 47, .bool true, .int .i64 m, .int .i64 r, .int .i64 x, .int .i64 p, .int .i64 q, .int .i64 y, .int .i64 g, .int .i64 n] 28) = w1 at *
    generalize hBB : W0.heap.size = B at hX i0 i1 i2 i3 i4 i5 i6 i7 i8 i9 ⊢
    refine region_class (fun w' => St A c [(B, [.int .i64 47, .bool true, .int .i64 m, .int .i64 r, .int .i64 x, .int .i64 p, .int .i64 q, .int .i64 y, .int .i64 g, .int .i64 n])] W0 w') (by kernel_rfl) (by kernel_rfl) hX.drew ?_
    clear hX i0 i1 i2 i3 i4 i5 i6 i7 i8 i9
    repeat
      first
        | (refine BigFrame.wpQuiet_skip (by rfl) ?_
           simp only [Act.put, List.setIfInBounds_toArray, List.set_cons_zero, List.set_cons_succ])
        | (refine BigFrame.wpQuiet_want (by rfl) (fun K hK => ?_)
           apply Exists.intro
           refine ⟨fun wq hq => ?_, hK _ ?_⟩
           · have i0 := hq.c 0 0 rfl rfl; have i1 := hq.c 0 1 rfl rfl; have i2 := hq.c 0 2 rfl rfl; have i3 := hq.c 0 3 rfl rfl; have i4 := hq.c 0 4 rfl rfl; have i5 := hq.c 0 5 rfl rfl; have i6 := hq.c 0 6 rfl rfl; have i7 := hq.c 0 7 rfl rfl; have i8 := hq.c 0 8 rfl rfl; have i9 := hq.c 0 9 rfl rfl
             unfold Oper.quietAt
             go_simp
             first
               | with_reducible rfl
               | ((go_at_call 57); with_reducible refine (j1 _).mono ?_; exact fun e w' ⟨he, hb⟩ => ⟨he, hq.step hb⟩)
               | ((go_at_call 57); with_reducible refine (j2 _).mono ?_; exact fun e w' ⟨he, hb⟩ => ⟨he, hq.step hb⟩)
           clear hK K
           simp only [Act.put, List.setIfInBounds_toArray, List.set_cons_zero, List.set_cons_succ])
    refine wpQuiet_nil ?_
    intro w4 hX
    have i0 := hX.c 0 0 rfl rfl; have i1 := hX.c 0 1 rfl rfl; have i2 := hX.c 0 2 rfl rfl; have i3 := hX.c 0 3 rfl rfl; have i4 := hX.c 0 4 rfl rfl; have i5 := hX.c 0 5 rfl rfl; have i6 := hX.c 0 6 rfl rfl; have i7 := hX.c 0 7 rfl rfl; have i8 := hX.c 0 8 rfl rfl; have i9 := hX.c 0 9 rfl rfl
    go_wp2_with (first | (go_at_call 50; with_reducible refine (j3 _).mono ?_; rintro e w' ⟨rfl, hb⟩; have hX := hX.step hb; have i0 := hX.c 0 0 rfl rfl; have i1 := hX.c 0 1 rfl rfl; have i2 := hX.c 0 2 rfl rfl; have i3 := hX.c 0 3 rfl rfl; have i4 := hX.c 0 4 rfl rfl; have i5 := hX.c 0 5 rfl rfl; have i6 := hX.c 0 6 rfl rfl; have i7 := hX.c 0 7 rfl rfl; have i8 := hX.c 0 8 rfl rfl; have i9 := hX.c 0 9 rfl rfl; clear hb))
    go_ret
    refine ⟨ei _ _ ?_, by first | exact hX.below | exact hBB ▸ hX.below⟩
    clear hX
    first | rfl | omega | (simp; done) | (simp; omega)

theorem first_26 (b : Bool) (m r x p q y g n : Int) (hg : 0 ≤ g ∧ g ≤ 7) (hn : -128 ≤ n ∧ n ≤ 255) {A : Addr} {c : Nat} (W0 : World) (W : Frm A c W0) :
    Calls Tryd.prog 34 #[.agg #[.int .i64 52, .bool b, .int .i64 m, .int .i64 r, .int .i64 x, .int .i64 p, .int .i64 q, .int .i64 y, .int .i64 g, .int .i64 n]] W0 fun e w' => e = .returned (.int .i64 (rfR ⟨52, b, m, r, x, p, q, y, g, n⟩)) ∧ Below W0.heap.size W0 w' := by
  have hX := (St.start W).put [.int .i64 52, .bool b, .int .i64 m, .int .i64 r, .int .i64 x, .int .i64 p, .int .i64 q, .int .i64 y, .int .i64 g, .int .i64 n] 28
  have e : rfR ⟨52, b, m, r, x, p, q, y, g, n⟩ = 5 := by
    unfold rfR
    rw [if_neg (by simp; try omega), if_neg (by simp; try omega), if_neg (by simp; try omega), if_neg (by simp; try omega), if_neg (by simp; try omega), if_neg (by simp; try omega), if_neg (by simp; try omega), if_neg (by simp; try omega), if_neg (by simp; try omega), if_neg (by simp; try omega), if_neg (by simp; try omega), if_neg (by simp; try omega), if_neg (by simp; try omega), if_neg (by simp; try omega), if_neg (by simp; try omega), if_neg (by simp; try omega), if_neg (by simp; try omega), if_neg (by simp; try omega), if_neg (by simp; try omega), if_neg (by simp; try omega), if_neg (by simp; try omega), if_neg (by simp; try omega), if_neg (by simp; try omega), if_neg (by simp; try omega), if_neg (by simp; try omega), if_neg (by simp; try omega)]
  rw [e]
  clear e
  have hS := fdR_bds m r
  have hD := fdR_bds p q
  have j1 := fun w => rfield_any m r x w
  have j2 := fun w => rfield_any p q y w
  have j3 := fun w => islong_any 52 w
  have hil : isL 52 = false := by unfold isL; simp
  rw [hil] at j3
  have ei : ∀ a b : Int, a = b → Ending.returned (.int .i64 a) = .returned (.int .i64 b) := fun a b h => ret_int h
  generalize fdR m r = U at *
  generalize fdR p q = V at *
  obtain ⟨hS1, hS2⟩ := hS
  obtain ⟨hD1, hD2⟩ := hD
  obtain ⟨hg1, hg2⟩ := hg
  obtain ⟨hn1, hn2⟩ := hn
  have hm : (n + 256).tmod 256 = (n + 256) % 256 := Int.tmod_eq_emod_of_nonneg (by omega)
  cases b
  · go_enter Tryd.func34, Tryd.ntmps34
    go_upto_region 4 with fail
    have i0 := hX.c 0 0 rfl rfl; have i1 := hX.c 0 1 rfl rfl; have i2 := hX.c 0 2 rfl rfl; have i3 := hX.c 0 3 rfl rfl; have i4 := hX.c 0 4 rfl rfl; have i5 := hX.c 0 5 rfl rfl; have i6 := hX.c 0 6 rfl rfl; have i7 := hX.c 0 7 rfl rfl; have i8 := hX.c 0 8 rfl rfl; have i9 := hX.c 0 9 rfl rfl
    generalize W0.alloc (.cells #[.int .i64 52, .bool false, .int .i64 m, .int .i64 r, .int .i64 x, .int .i64 p, .int .i64 q, .int .i64 y, .int .i64 g, .int .i64 n] 28) = w1 at *
    generalize hBB : W0.heap.size = B at hX i0 i1 i2 i3 i4 i5 i6 i7 i8 i9 ⊢
    refine region_class (fun w' => St A c [(B, [.int .i64 52, .bool false, .int .i64 m, .int .i64 r, .int .i64 x, .int .i64 p, .int .i64 q, .int .i64 y, .int .i64 g, .int .i64 n])] W0 w') (by kernel_rfl) (by kernel_rfl) hX.drew ?_
    clear hX i0 i1 i2 i3 i4 i5 i6 i7 i8 i9
    repeat
      first
        | (refine BigFrame.wpQuiet_skip (by rfl) ?_
           simp only [Act.put, List.setIfInBounds_toArray, List.set_cons_zero, List.set_cons_succ])
        | (refine BigFrame.wpQuiet_want (by rfl) (fun K hK => ?_)
           apply Exists.intro
           refine ⟨fun wq hq => ?_, hK _ ?_⟩
           · have i0 := hq.c 0 0 rfl rfl; have i1 := hq.c 0 1 rfl rfl; have i2 := hq.c 0 2 rfl rfl; have i3 := hq.c 0 3 rfl rfl; have i4 := hq.c 0 4 rfl rfl; have i5 := hq.c 0 5 rfl rfl; have i6 := hq.c 0 6 rfl rfl; have i7 := hq.c 0 7 rfl rfl; have i8 := hq.c 0 8 rfl rfl; have i9 := hq.c 0 9 rfl rfl
             unfold Oper.quietAt
             go_simp
             first
               | with_reducible rfl
               | ((go_at_call 57); with_reducible refine (j1 _).mono ?_; exact fun e w' ⟨he, hb⟩ => ⟨he, hq.step hb⟩)
               | ((go_at_call 57); with_reducible refine (j2 _).mono ?_; exact fun e w' ⟨he, hb⟩ => ⟨he, hq.step hb⟩)
           clear hK K
           simp only [Act.put, List.setIfInBounds_toArray, List.set_cons_zero, List.set_cons_succ])
    refine wpQuiet_nil ?_
    intro w4 hX
    have i0 := hX.c 0 0 rfl rfl; have i1 := hX.c 0 1 rfl rfl; have i2 := hX.c 0 2 rfl rfl; have i3 := hX.c 0 3 rfl rfl; have i4 := hX.c 0 4 rfl rfl; have i5 := hX.c 0 5 rfl rfl; have i6 := hX.c 0 6 rfl rfl; have i7 := hX.c 0 7 rfl rfl; have i8 := hX.c 0 8 rfl rfl; have i9 := hX.c 0 9 rfl rfl
    go_wp2_with (first | (go_at_call 50; with_reducible refine (j3 _).mono ?_; rintro e w' ⟨rfl, hb⟩; have hX := hX.step hb; have i0 := hX.c 0 0 rfl rfl; have i1 := hX.c 0 1 rfl rfl; have i2 := hX.c 0 2 rfl rfl; have i3 := hX.c 0 3 rfl rfl; have i4 := hX.c 0 4 rfl rfl; have i5 := hX.c 0 5 rfl rfl; have i6 := hX.c 0 6 rfl rfl; have i7 := hX.c 0 7 rfl rfl; have i8 := hX.c 0 8 rfl rfl; have i9 := hX.c 0 9 rfl rfl; clear hb))
    go_ret
    refine ⟨ei _ _ ?_, by first | exact hX.below | exact hBB ▸ hX.below⟩
    clear hX
    first | rfl | omega | (simp; done) | (simp; omega)
  · go_enter Tryd.func34, Tryd.ntmps34
    go_upto_region 4 with fail
    have i0 := hX.c 0 0 rfl rfl; have i1 := hX.c 0 1 rfl rfl; have i2 := hX.c 0 2 rfl rfl; have i3 := hX.c 0 3 rfl rfl; have i4 := hX.c 0 4 rfl rfl; have i5 := hX.c 0 5 rfl rfl; have i6 := hX.c 0 6 rfl rfl; have i7 := hX.c 0 7 rfl rfl; have i8 := hX.c 0 8 rfl rfl; have i9 := hX.c 0 9 rfl rfl
    generalize W0.alloc (.cells #[.int .i64 52, .bool true, .int .i64 m, .int .i64 r, .int .i64 x, .int .i64 p, .int .i64 q, .int .i64 y, .int .i64 g, .int .i64 n] 28) = w1 at *
    generalize hBB : W0.heap.size = B at hX i0 i1 i2 i3 i4 i5 i6 i7 i8 i9 ⊢
    refine region_class (fun w' => St A c [(B, [.int .i64 52, .bool true, .int .i64 m, .int .i64 r, .int .i64 x, .int .i64 p, .int .i64 q, .int .i64 y, .int .i64 g, .int .i64 n])] W0 w') (by kernel_rfl) (by kernel_rfl) hX.drew ?_
    clear hX i0 i1 i2 i3 i4 i5 i6 i7 i8 i9
    repeat
      first
        | (refine BigFrame.wpQuiet_skip (by rfl) ?_
           simp only [Act.put, List.setIfInBounds_toArray, List.set_cons_zero, List.set_cons_succ])
        | (refine BigFrame.wpQuiet_want (by rfl) (fun K hK => ?_)
           apply Exists.intro
           refine ⟨fun wq hq => ?_, hK _ ?_⟩
           · have i0 := hq.c 0 0 rfl rfl; have i1 := hq.c 0 1 rfl rfl; have i2 := hq.c 0 2 rfl rfl; have i3 := hq.c 0 3 rfl rfl; have i4 := hq.c 0 4 rfl rfl; have i5 := hq.c 0 5 rfl rfl; have i6 := hq.c 0 6 rfl rfl; have i7 := hq.c 0 7 rfl rfl; have i8 := hq.c 0 8 rfl rfl; have i9 := hq.c 0 9 rfl rfl
             unfold Oper.quietAt
             go_simp
             first
               | with_reducible rfl
               | ((go_at_call 57); with_reducible refine (j1 _).mono ?_; exact fun e w' ⟨he, hb⟩ => ⟨he, hq.step hb⟩)
               | ((go_at_call 57); with_reducible refine (j2 _).mono ?_; exact fun e w' ⟨he, hb⟩ => ⟨he, hq.step hb⟩)
           clear hK K
           simp only [Act.put, List.setIfInBounds_toArray, List.set_cons_zero, List.set_cons_succ])
    refine wpQuiet_nil ?_
    intro w4 hX
    have i0 := hX.c 0 0 rfl rfl; have i1 := hX.c 0 1 rfl rfl; have i2 := hX.c 0 2 rfl rfl; have i3 := hX.c 0 3 rfl rfl; have i4 := hX.c 0 4 rfl rfl; have i5 := hX.c 0 5 rfl rfl; have i6 := hX.c 0 6 rfl rfl; have i7 := hX.c 0 7 rfl rfl; have i8 := hX.c 0 8 rfl rfl; have i9 := hX.c 0 9 rfl rfl
    go_wp2_with (first | (go_at_call 50; with_reducible refine (j3 _).mono ?_; rintro e w' ⟨rfl, hb⟩; have hX := hX.step hb; have i0 := hX.c 0 0 rfl rfl; have i1 := hX.c 0 1 rfl rfl; have i2 := hX.c 0 2 rfl rfl; have i3 := hX.c 0 3 rfl rfl; have i4 := hX.c 0 4 rfl rfl; have i5 := hX.c 0 5 rfl rfl; have i6 := hX.c 0 6 rfl rfl; have i7 := hX.c 0 7 rfl rfl; have i8 := hX.c 0 8 rfl rfl; have i9 := hX.c 0 9 rfl rfl; clear hb))
    go_ret
    refine ⟨ei _ _ ?_, by first | exact hX.below | exact hBB ▸ hX.below⟩
    clear hX
    first | rfl | omega | (simp; done) | (simp; omega)

end Go.Proofs.YtlaikajgpgpidaaDoor
