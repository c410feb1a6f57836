/-
  Walks over first (some number), Encode (as many words as the length says) and Length of the reference of package inst. Condition: the tables read as the program's text lays them (asked by the boxes alone).
-/
import Derived.Test.YtdbbnkjnmldnpaaGreatDoorInXa
namespace Go.Proofs.YtdbbnkjnmldnpaaGreatDoor
open Go.RowKit
set_option linter.unusedSimpArgs false
set_option linter.unusedVariables false
set_option maxHeartbeats 20000000
set_option maxRecDepth 100000
attribute [local irreducible] wpQuiet

theorem first_some (o : Int) (b : Bool) (m r x p q y g n : Int) {A : Addr} {c : Nat} (W0 : World) (W : Frm A c W0) :
    Calls Tryz.prog 84 #[.agg #[.int .i64 o, .bool b, .int .i64 m, .int .i64 r, .int .i64 x, .int .i64 p, .int .i64 q, .int .i64 y, .int .i64 g, .int .i64 n]] W0 fun e w' => ∃ F1 : Int, e = .returned (.int .i64 F1) ∧ Below W0.heap.size W0 w' := by
  have hX := (St.start W).put [.int .i64 o, .bool b, .int .i64 m, .int .i64 r, .int .i64 x, .int .i64 p, .int .i64 q, .int .i64 y, .int .i64 g, .int .i64 n] 36
  have j1 := fun w => rfield_any m r x w
  have j2 := fun w => rfield_any p q y w
  have j3 := fun w => islong_any o w
  generalize fdR m r = U at *
  generalize fdR p q = V at *
  generalize isL o = IL at *
  cases b
  · go_enter Tryz.func84, Tryz.ntmps84
    go_upto_region 4 with fail
    obtain ⟨i0, i1, i2, i3, i4, i5, i6, i7, i8, i9⟩ := hX.ten 0 rfl
    generalize W0.alloc (.cells #[.int .i64 o, .bool false, .int .i64 m, .int .i64 r, .int .i64 x, .int .i64 p, .int .i64 q, .int .i64 y, .int .i64 g, .int .i64 n] 36) = w1 at *
    generalize hBB : W0.heap.size = B at hX i0 i1 i2 i3 i4 i5 i6 i7 i8 i9 ⊢
    refine region_class (fun w' => St A c [(B, [.int .i64 o, .bool false, .int .i64 m, .int .i64 r, .int .i64 x, .int .i64 p, .int .i64 q, .int .i64 y, .int .i64 g, .int .i64 n])] W0 w') (by kernel_rfl) (by kernel_rfl) hX.drew ?_
    clear hX i0 i1 i2 i3 i4 i5 i6 i7 i8 i9
    repeat
      first
        | (refine BigFrame.wpQuiet_skip (by rfl) ?_
           simp only [Act.put, List.setIfInBounds_toArray, List.set_cons_zero, List.set_cons_succ])
        | (refine BigFrame.wpQuiet_want (by rfl) (fun K hK => ?_)
           apply Exists.intro
           refine ⟨fun wq hq => ?_, hK _ ?_⟩
           · obtain ⟨i0, i1, i2, i3, i4, i5, i6, i7, i8, i9⟩ := hq.ten 0 rfl
             unfold Oper.quietAt
             go_simp
             first
               | with_reducible rfl
               | ((go_at_call 96); with_reducible refine (j1 _).mono ?_; exact fun e w' ⟨he, hb⟩ => ⟨he, hq.step hb⟩)
               | ((go_at_call 96); with_reducible refine (j2 _).mono ?_; exact fun e w' ⟨he, hb⟩ => ⟨he, hq.step hb⟩)
           clear hK K
           simp only [Act.put, List.setIfInBounds_toArray, List.set_cons_zero, List.set_cons_succ])
    refine wpQuiet_nil ?_
    intro w4 hX
    obtain ⟨i0, i1, i2, i3, i4, i5, i6, i7, i8, i9⟩ := hX.ten 0 rfl
    go_wp2_with (first | (go_at_call 60; with_reducible refine (j3 _).mono ?_; rintro e w' ⟨rfl, hb⟩; have hX := hX.step hb; obtain ⟨i0, i1, i2, i3, i4, i5, i6, i7, i8, i9⟩ := hX.ten 0 rfl; clear hb))
    all_goals go_ret
    all_goals first | exact ⟨⟨_, rfl⟩, hX.below⟩ | exact ⟨⟨_, rfl⟩, hBB ▸ hX.below⟩ | exact ⟨_, rfl, hX.below⟩ | exact ⟨_, rfl, hBB ▸ hX.below⟩ | exact hX.below | exact hBB ▸ hX.below | trace_state
  · go_enter Tryz.func84, Tryz.ntmps84
    go_upto_region 4 with fail
    obtain ⟨i0, i1, i2, i3, i4, i5, i6, i7, i8, i9⟩ := hX.ten 0 rfl
    generalize W0.alloc (.cells #[.int .i64 o, .bool true, .int .i64 m, .int .i64 r, .int .i64 x, .int .i64 p, .int .i64 q, .int .i64 y, .int .i64 g, .int .i64 n] 36) = w1 at *
    generalize hBB : W0.heap.size = B at hX i0 i1 i2 i3 i4 i5 i6 i7 i8 i9 ⊢
    refine region_class (fun w' => St A c [(B, [.int .i64 o, .bool true, .int .i64 m, .int .i64 r, .int .i64 x, .int .i64 p, .int .i64 q, .int .i64 y, .int .i64 g, .int .i64 n])] W0 w') (by kernel_rfl) (by kernel_rfl) hX.drew ?_
    clear hX i0 i1 i2 i3 i4 i5 i6 i7 i8 i9
    repeat
      first
        | (refine BigFrame.wpQuiet_skip (by rfl) ?_
           simp only [Act.put, List.setIfInBounds_toArray, List.set_cons_zero, List.set_cons_succ])
        | (refine BigFrame.wpQuiet_want (by rfl) (fun K hK => ?_)
           apply Exists.intro
           refine ⟨fun wq hq => ?_, hK _ ?_⟩
           · obtain ⟨i0, i1, i2, i3, i4, i5, i6, i7, i8, i9⟩ := hq.ten 0 rfl
             unfold Oper.quietAt
             go_simp
             first
               | with_reducible rfl
               | ((go_at_call 96); with_reducible refine (j1 _).mono ?_; exact fun e w' ⟨he, hb⟩ => ⟨he, hq.step hb⟩)
               | ((go_at_call 96); with_reducible refine (j2 _).mono ?_; exact fun e w' ⟨he, hb⟩ => ⟨he, hq.step hb⟩)
           clear hK K
           simp only [Act.put, List.setIfInBounds_toArray, List.set_cons_zero, List.set_cons_succ])
    refine wpQuiet_nil ?_
    intro w4 hX
    obtain ⟨i0, i1, i2, i3, i4, i5, i6, i7, i8, i9⟩ := hX.ten 0 rfl
    go_wp2_with (first | (go_at_call 60; with_reducible refine (j3 _).mono ?_; rintro e w' ⟨rfl, hb⟩; have hX := hX.step hb; obtain ⟨i0, i1, i2, i3, i4, i5, i6, i7, i8, i9⟩ := hX.ten 0 rfl; clear hb))
    all_goals go_ret
    all_goals first | exact ⟨⟨_, rfl⟩, hX.below⟩ | exact ⟨⟨_, rfl⟩, hBB ▸ hX.below⟩ | exact ⟨_, rfl, hX.below⟩ | exact ⟨_, rfl, hBB ▸ hX.below⟩ | exact hX.below | exact hBB ▸ hX.below | trace_state

theorem rEncode_some (o : Int) (b : Bool) (m r x p q y g n : Int) {A : Addr} {c : Nat} (W0 : World) (W : Frm A c W0) : Calls Tryz.prog 70 #[.agg #[.int .i64 o, .bool b, .int .i64 m, .int .i64 r, .int .i64 x, .int .i64 p, .int .i64 q, .int .i64 y, .int .i64 g, .int .i64 n]] W0 fun e w' => ∃ v L k, e = .returned (.tuple #[v, .int .i64 k]) ∧ (Nums .i64 w' v L ∧ (L.length : Int) = lenR ⟨o, b, m, r, x, p, q, y, g, n⟩) ∧ Below W0.heap.size W0 w' := by
  have hX := (St.start W).put [.int .i64 o, .bool b, .int .i64 m, .int .i64 r, .int .i64 x, .int .i64 p, .int .i64 q, .int .i64 y, .int .i64 g, .int .i64 n] 36
  have hv := fun w (k : Frm A c w) => rV_any o b m r x p q y g n w k
  cases hV : vR ⟨o, b, m, r, x, p, q, y, g, n⟩ with
  | false =>
    have e1 : lenR ⟨o, b, m, r, x, p, q, y, g, n⟩ = 0 := by unfold lenR; rw [hV]; rfl
    rw [e1]
    rw [hV] at hv
    clear e1
    go_enter Tryz.func70, Tryz.ntmps70
    go_wp2_with fail
    obtain ⟨i0, i1, i2, i3, i4, i5, i6, i7, i8, i9⟩ := hX.ten 0 rfl
    generalize W0.alloc (.cells #[.int .i64 o, .bool b, .int .i64 m, .int .i64 r, .int .i64 x, .int .i64 p, .int .i64 q, .int .i64 y, .int .i64 g, .int .i64 n] 36) = w1 at *
    generalize hBB : W0.heap.size = B at hX i0 i1 i2 i3 i4 i5 i6 i7 i8 i9 ⊢
    go_wp2_with (first | (go_at_call 32; with_reducible refine (hv _ hX.frm).mono ?_; rintro e w' ⟨rfl, hb⟩; have hX := hX.step hb; obtain ⟨i0, i1, i2, i3, i4, i5, i6, i7, i8, i9⟩ := hX.ten 0 rfl; clear hb))
    go_ret2
    exact ⟨_, [], _, rfl, ⟨Nums.nil _ _, rfl⟩, by first | exact hX.below | exact hBB ▸ hX.below⟩
  | true =>
    have hw := fun w (k : Frm A c w) => first_some o b m r x p q y g n w k
    have e1 : lenR ⟨o, b, m, r, x, p, q, y, g, n⟩ = 1 + bi (exR (m % 8) (r % 8)) + bi (exR (p % 8) (q % 8)) := by unfold lenR; rw [hV]; rfl
    rw [e1]
    rw [hV] at hv
    have z1 : hsR o = false → exR (m % 8) (r % 8) = false := fun k => by obtain ⟨rfl, rfl, _⟩ := hs_zero hV k; decide
    have z2 : hdR o = false → exR (p % 8) (q % 8) = false := fun k => by obtain ⟨rfl, rfl, _⟩ := hd_zero hV k; decide
    clear e1 hV
    have hE1 := fun w => rext_any m r x w
    have hE2 := fun w => rext_any p q y w
    have hH1 := fun w => hassrc_any o w
    have hH2 := fun w => hasdst_any o w
    obtain ⟨ti, hi, hz0, hz1, hz2⟩ := info_parts info64
    generalize hsR o = HS at *
    generalize hdR o = HD at *
    generalize exR (m % 8) (r % 8) = S at *
    generalize exR (p % 8) (q % 8) = D at *
    cases S
    all_goals (cases HS)
    all_goals (try (exact absurd (z1 rfl) (by decide)))
    all_goals (cases D)
    all_goals (cases HD)
    all_goals (try (exact absurd (z2 rfl) (by decide)))
    all_goals
      clear z1 z2
      go_enter Tryz.func70, Tryz.ntmps70
      go_wp2_with fail
      obtain ⟨i0, i1, i2, i3, i4, i5, i6, i7, i8, i9⟩ := hX.ten 0 rfl
      generalize W0.alloc (.cells #[.int .i64 o, .bool b, .int .i64 m, .int .i64 r, .int .i64 x, .int .i64 p, .int .i64 q, .int .i64 y, .int .i64 g, .int .i64 n] 36) = w1 at *
      generalize hBB : W0.heap.size = B at hX i0 i1 i2 i3 i4 i5 i6 i7 i8 i9 ⊢
      go_wp2_with (first | (go_at_call 32; with_reducible refine (hv _ hX.frm).mono ?_; rintro e w' ⟨rfl, hb⟩; have hX := hX.step hb; obtain ⟨i0, i1, i2, i3, i4, i5, i6, i7, i8, i9⟩ := hX.ten 0 rfl; clear hb) | (go_at_call 84; with_reducible refine (hw _ hX.frm).mono ?_; rintro _ w' ⟨F1, rfl, hb⟩; have hX := hX.step hb; clear hb; obtain ⟨N, hN⟩ : ∃ N, N = w'.heap.size := ⟨_, rfl⟩; have hlt := fun e he => hN ▸ (hX.bx e he).lt; have hlowN : W0.heap.size ≤ N := (by have := hX.below.size; omega); have hown := own_one w' 3 (.int .i64 F1) (Nat.le_of_eq hN); have hNle : N ≤ (w'.alloc (.cells #[.int .i64 F1] 3)).heap.size := le_alloc (Nat.le_of_eq hN) _; have hX := hX.alloc (.cells #[.int .i64 F1] 3); clear hN; obtain ⟨i0, i1, i2, i3, i4, i5, i6, i7, i8, i9⟩ := hX.ten 0 rfl) | (go_at_call 29; with_reducible refine (hH1 _).mono ?_; rintro _ w' ⟨rfl, hb⟩; have hX := hX.step hb; have hown := own_step hown hb; have hNle := Nat.le_trans hNle hb.size; clear hb; obtain ⟨i0, i1, i2, i3, i4, i5, i6, i7, i8, i9⟩ := hX.ten 0 rfl) | (go_at_call 31; with_reducible refine (hH2 _).mono ?_; rintro _ w' ⟨rfl, hb⟩; have hX := hX.step hb; have hown := own_step hown hb; have hNle := Nat.le_trans hNle hb.size; clear hb; obtain ⟨i0, i1, i2, i3, i4, i5, i6, i7, i8, i9⟩ := hX.ten 0 rfl) | (go_at_call 30; with_reducible refine (hE1 _).mono ?_; rintro _ w' ⟨rfl, hb⟩; have hX := hX.step hb; have hown := own_step hown hb; have hNle := Nat.le_trans hNle hb.size; clear hb; obtain ⟨i0, i1, i2, i3, i4, i5, i6, i7, i8, i9⟩ := hX.ten 0 rfl) | (go_at_call 30; with_reducible refine (hE2 _).mono ?_; rintro _ w' ⟨rfl, hb⟩; have hX := hX.step hb; have hown := own_step hown hb; have hNle := Nat.le_trans hNle hb.size; clear hb; obtain ⟨i0, i1, i2, i3, i4, i5, i6, i7, i8, i9⟩ := hX.ten 0 rfl) | (at_builtin; refine wpList_append_own _ rfl (.tmp 19) (.tmp 23) 22 rfl N 3 ti (.int .i64 0) 1 8 Tryz.underlying22 hi hz0 hz1 hz2 rfl (by decide) _ _ _ rfl (hown.alloc _) ⟨w'.heap.size, 0, none⟩ 1 1 [.int .i64 x] rfl rfl (cell_one_new _ _ _) (fun x hx => by simp at hx; subst hx; rfl) (by unfold maxLen; omega) (by omega) (le_alloc hNle _) ?_; intro v' w1 hown' hgrow _; have hNle : N ≤ w1.heap.size := Nat.le_trans (le_alloc hNle _) hgrow.size; have hX := (hX.alloc (.cells #[.int .i64 x] 3)).grown hgrow hlt (fun k hk => (hown.lt k hk).1) hlowN; have hown := hown'; clear hown' hgrow; obtain ⟨i0, i1, i2, i3, i4, i5, i6, i7, i8, i9⟩ := hX.ten 0 rfl) | (at_builtin; refine wpList_append_own _ rfl (.tmp 33) (.tmp 37) 22 rfl N 3 ti (.int .i64 0) 1 8 Tryz.underlying22 hi hz0 hz1 hz2 rfl (by decide) _ _ _ rfl (hown.alloc _) ⟨w'.heap.size, 0, none⟩ 1 1 [.int .i64 y] rfl rfl (cell_one_new _ _ _) (fun x hx => by simp at hx; subst hx; rfl) (by unfold maxLen; omega) (by omega) (le_alloc hNle _) ?_; intro v' w1 hown' hgrow _; have hNle : N ≤ w1.heap.size := Nat.le_trans (le_alloc hNle _) hgrow.size; have hX := (hX.alloc (.cells #[.int .i64 y] 3)).grown hgrow hlt (fun k hk => (hown.lt k hk).1) hlowN; have hown := hown'; clear hown' hgrow; obtain ⟨i0, i1, i2, i3, i4, i5, i6, i7, i8, i9⟩ := hX.ten 0 rfl))
      go_ret2
      first
        | exact ⟨_, _, _, rfl, ⟨Nums.of_own (l := [_]) hown, rfl⟩, by first | exact hX.below | exact hBB ▸ hX.below⟩
        | exact ⟨_, _, _, rfl, ⟨Nums.of_own (l := [_, _]) hown, rfl⟩, by first | exact hX.below | exact hBB ▸ hX.below⟩
        | exact ⟨_, _, _, rfl, ⟨Nums.of_own (l := [_, _, _]) hown, rfl⟩, by first | exact hX.below | exact hBB ▸ hX.below⟩

theorem Nums.parts {k : IntKind} {w : World} {v : Value} {l : List Int} (h : Nums k w v l) : ∃ A c, v = .slice A l.length c := by
  obtain ⟨A, c, h, _, _⟩ := h
  exact ⟨A, c, h⟩
theorem rLength_any (o : Int) (b : Bool) (m r x p q y g n : Int) {A : Addr} {c : Nat} (W0 : World) (W : Frm A c W0) : Calls Tryz.prog 36 #[.agg #[.int .i64 o, .bool b, .int .i64 m, .int .i64 r, .int .i64 x, .int .i64 p, .int .i64 q, .int .i64 y, .int .i64 g, .int .i64 n]] W0 fun e w' => e = .returned (.int .i64 (lenR ⟨o, b, m, r, x, p, q, y, g, n⟩)) ∧ Below W0.heap.size W0 w' := by
  have hX := (St.start W).put [.int .i64 o, .bool b, .int .i64 m, .int .i64 r, .int .i64 x, .int .i64 p, .int .i64 q, .int .i64 y, .int .i64 g, .int .i64 n] 36
  have hv := fun w (k : Frm A c w) => rEncode_some o b m r x p q y g n w k
  generalize lenR ⟨o, b, m, r, x, p, q, y, g, n⟩ = LN at *
  go_enter Tryz.func36, Tryz.ntmps36
  go_wp2_with fail
  obtain ⟨i0, i1, i2, i3, i4, i5, i6, i7, i8, i9⟩ := hX.ten 0 rfl
  generalize W0.alloc (.cells #[.int .i64 o, .bool b, .int .i64 m, .int .i64 r, .int .i64 x, .int .i64 p, .int .i64 q, .int .i64 y, .int .i64 g, .int .i64 n] 36) = w1 at *
  generalize hBB : W0.heap.size = B at hX i0 i1 i2 i3 i4 i5 i6 i7 i8 i9 ⊢
  go_wp2_with (first | (go_at_call 70; with_reducible refine (hv _ hX.frm).mono ?_; (rintro _ w' ⟨v, L, k, rfl, ⟨hN, hL⟩, hb⟩; have hP := hN.parts; clear hN; obtain ⟨va, vc, hvv⟩ := hP; rw [hvv]; have hX := hX.step hb; clear hb)))
  go_ret
  exact ⟨by first | rfl | exact ret_int hL, by first | exact hX.below | exact hBB ▸ hX.below⟩

end Go.Proofs.YtdbbnkjnmldnpaaGreatDoor
