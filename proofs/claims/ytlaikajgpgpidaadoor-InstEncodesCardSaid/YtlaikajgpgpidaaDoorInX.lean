/-
  Walks over Encode, Length, Ends and Privileged of the reference of package inst. Condition: the tables read as the program's text lays them (asked by the boxes alone).
-/
import Derived.Test.YtlaikajgpgpidaaDoorInW
import Derived.Test.YtlaikajgpgpidaaDoorInRc
namespace Go.Proofs.YtlaikajgpgpidaaDoor
open Go.RowKit
set_option linter.unusedSimpArgs false
set_option linter.unusedVariables false
set_option maxHeartbeats 4000000
set_option maxRecDepth 100000
attribute [local irreducible] wpQuiet

theorem rv_parts {o : Int} {b : Bool} {m r x p q y g n : Int} (hv : vR ⟨o, b, m, r, x, p, q, y, g, n⟩ = true) : bad1 o b = false ∧ bad2 o m r x = false ∧ bad3 o p q y = false ∧ bad4 o g n = false := by
  rw [← rv_eq] at hv
  unfold rvR at hv
  simp only [Bool.and_eq_true, Bool.not_eq_true'] at hv
  exact ⟨hv.1, hv.2.1, hv.2.2.1, hv.2.2.2.1⟩
theorem hs_zero {o : Int} {b : Bool} {m r x p q y g n : Int} (hv : vR ⟨o, b, m, r, x, p, q, y, g, n⟩ = true) (h : hsR o = false) : m = 0 ∧ r = 0 ∧ x = 0 := by
  have k := (rv_parts hv).2.1
  unfold bad2 zz at k
  rw [h, if_neg (by decide)] at k
  simpa using k
theorem hd_zero {o : Int} {b : Bool} {m r x p q y g n : Int} (hv : vR ⟨o, b, m, r, x, p, q, y, g, n⟩ = true) (h : hdR o = false) : p = 0 ∧ q = 0 ∧ y = 0 := by
  have k := (rv_parts hv).2.2.1
  unfold bad3 zz at k
  rw [h, if_neg (by decide)] at k
  simpa using k
theorem v_rng {o : Int} {b : Bool} {m r x p q y g n : Int} (hv : vR ⟨o, b, m, r, x, p, q, y, g, n⟩ = true) : (1 ≤ o ∧ o ≤ 56) ∧ (0 ≤ g ∧ g ≤ 7) ∧ (-128 ≤ n ∧ n ≤ 255) := by
  obtain ⟨k1, _, _, k4⟩ := rv_parts hv
  unfold bad1 at k1
  unfold bad4 at k4
  simp only [Bool.or_eq_false_iff, decide_eq_false_iff_not] at k1 k4
  have hl : -128 ≤ loR o := by unfold loR; split <;> omega
  have hh : hiR o ≤ 255 := by unfold hiR; repeat' split
                              all_goals omega
  obtain ⟨k41, k42, _, k43, k44⟩ := k4
  obtain ⟨k11, k12, _⟩ := k1
  exact ⟨⟨by omega, by omega⟩, ⟨by omega, by omega⟩, ⟨by omega, by omega⟩⟩
theorem ex00 : exR ((0 : Int) % 8) ((0 : Int) % 8) = false := by decide
theorem rV_any (o : Int) (b : Bool) (m r x p q y g n : Int) {A : Addr} {c : Nat} (W0 : World) (W : Frm A c W0) : Calls Tryd.prog 15 #[.agg #[.int .i64 o, .bool b, .int .i64 m, .int .i64 r, .int .i64 x, .int .i64 p, .int .i64 q, .int .i64 y, .int .i64 g, .int .i64 n]] W0 fun e w' => e = .returned (.bool (vR ⟨o, b, m, r, x, p, q, y, g, n⟩)) ∧ Below W0.heap.size W0 w' := by
  rw [← rv_eq]; exact rValid_any o b m r x p q y g n W0 W

theorem rEncode_any (o : Int) (b : Bool) (m r x p q y g n : Int) {A : Addr} {c : Nat} (W0 : World) (W : Frm A c W0) : Calls Tryd.prog 12 #[.agg #[.int .i64 o, .bool b, .int .i64 m, .int .i64 r, .int .i64 x, .int .i64 p, .int .i64 q, .int .i64 y, .int .i64 g, .int .i64 n]] W0 fun e w' => ∃ v, e = .returned (.tuple #[v, .int .i64 (encE ⟨o, b, m, r, x, p, q, y, g, n⟩)]) ∧ Nums .i64 w' v (encL ⟨o, b, m, r, x, p, q, y, g, n⟩) ∧ Below W0.heap.size W0 w' := by
  have hX := (St.start W).put [.int .i64 o, .bool b, .int .i64 m, .int .i64 r, .int .i64 x, .int .i64 p, .int .i64 q, .int .i64 y, .int .i64 g, .int .i64 n] 28
  have hv := fun w (k : Frm A c w) => rV_any o b m r x p q y g n w k
  cases hV : vR ⟨o, b, m, r, x, p, q, y, g, n⟩ with
  | false =>
    have e1 : encE ⟨o, b, m, r, x, p, q, y, g, n⟩ = 1 := by unfold encE; rw [hV]; rfl
    have e2 : encL ⟨o, b, m, r, x, p, q, y, g, n⟩ = [] := by unfold encL; rw [hV]; rfl
    rw [e1, e2]
    rw [hV] at hv
    clear e1 e2
    go_enter Tryd.func12, Tryd.ntmps12
    go_wp2_with fail
    have i0 := hX.c 0 0 rfl rfl; have i1 := hX.c 0 1 rfl rfl; have i2 := hX.c 0 2 rfl rfl; have i3 := hX.c 0 3 rfl rfl; have i4 := hX.c 0 4 rfl rfl; have i5 := hX.c 0 5 rfl rfl; have i6 := hX.c 0 6 rfl rfl; have i7 := hX.c 0 7 rfl rfl; have i8 := hX.c 0 8 rfl rfl; have i9 := hX.c 0 9 rfl rfl
    generalize W0.alloc (.cells #[.int .i64 o, .bool b, .int .i64 m, .int .i64 r, .int .i64 x, .int .i64 p, .int .i64 q, .int .i64 y, .int .i64 g, .int .i64 n] 28) = w1 at *
    generalize hBB : W0.heap.size = B at hX i0 i1 i2 i3 i4 i5 i6 i7 i8 i9 ⊢
    go_wp2_with (first | (go_at_call 15; with_reducible refine (hv _ hX.frm).mono ?_; rintro e w' ⟨rfl, hb⟩; have hX := hX.step hb; have i0 := hX.c 0 0 rfl rfl; have i1 := hX.c 0 1 rfl rfl; have i2 := hX.c 0 2 rfl rfl; have i3 := hX.c 0 3 rfl rfl; have i4 := hX.c 0 4 rfl rfl; have i5 := hX.c 0 5 rfl rfl; have i6 := hX.c 0 6 rfl rfl; have i7 := hX.c 0 7 rfl rfl; have i8 := hX.c 0 8 rfl rfl; have i9 := hX.c 0 9 rfl rfl; clear hb))
    go_ret2
    exact ⟨_, rfl, Nums.nil _ _, by first | exact hX.below | exact hBB ▸ hX.below⟩
  | true =>
    obtain ⟨ho, hg, hn⟩ := v_rng hV
    have hw := fun w (k : Frm A c w) => first_any o b m r x p q y g n ho hg hn w k
    have e0 := (enc_all hV).eq
    rw [← e0] at hw
    have e1 : encE ⟨o, b, m, r, x, p, q, y, g, n⟩ = 0 := by unfold encE; rw [hV]; rfl
    have e2 : encL ⟨o, b, m, r, x, p, q, y, g, n⟩ = fstR ⟨o, b, m, r, x, p, q, y, g, n⟩ :: ((if exR (m % 8) (r % 8) = true then [x] else []) ++ (if exR (p % 8) (q % 8) = true then [y] else [])) := by unfold encL; rw [hV]; rfl
    rw [e1, e2]
    rw [hV] at hv
    have z1 : hsR o = false → exR (m % 8) (r % 8) = false := fun k => by obtain ⟨rfl, rfl, _⟩ := hs_zero hV k; decide
    have z2 : hdR o = false → exR (p % 8) (q % 8) = false := fun k => by obtain ⟨rfl, rfl, _⟩ := hd_zero hV k; decide
    clear e1 e2 e0 hV ho hg hn
    have hE1 := fun w => rext_any m r x w
    have hE2 := fun w => rext_any p q y w
    have hH1 := fun w => hassrc_any o w
    have hH2 := fun w => hasdst_any o w
    obtain ⟨ti, hi, hz0, hz1, hz2⟩ := info_parts info64
    generalize fstR ⟨o, b, m, r, x, p, q, y, g, n⟩ = F1 at *
    generalize hsR o = HS at *
    generalize hdR o = HD at *
    generalize exR (m % 8) (r % 8) = S at *
    generalize exR (p % 8) (q % 8) = D at *
    cases HS
    · have hs := z1 rfl
      subst hs
      cases HD
      · have hd := z2 rfl
        subst hd
        show Calls _ _ _ _ fun e w' => ∃ v, e = .returned (.tuple #[v, .int .i64 0]) ∧ Nums .i64 w' v [F1] ∧ Below W0.heap.size W0 w'
        go_enter Tryd.func12, Tryd.ntmps12
        go_wp2_with fail
        have i0 := hX.c 0 0 rfl rfl; have i1 := hX.c 0 1 rfl rfl; have i2 := hX.c 0 2 rfl rfl; have i3 := hX.c 0 3 rfl rfl; have i4 := hX.c 0 4 rfl rfl; have i5 := hX.c 0 5 rfl rfl; have i6 := hX.c 0 6 rfl rfl; have i7 := hX.c 0 7 rfl rfl; have i8 := hX.c 0 8 rfl rfl; have i9 := hX.c 0 9 rfl rfl
        generalize W0.alloc (.cells #[.int .i64 o, .bool b, .int .i64 m, .int .i64 r, .int .i64 x, .int .i64 p, .int .i64 q, .int .i64 y, .int .i64 g, .int .i64 n] 28) = w1 at *
        generalize hBB : W0.heap.size = B at hX i0 i1 i2 i3 i4 i5 i6 i7 i8 i9 ⊢
        go_wp2_with (first | (go_at_call 15; with_reducible refine (hv _ hX.frm).mono ?_; rintro e w' ⟨rfl, hb⟩; have hX := hX.step hb; have i0 := hX.c 0 0 rfl rfl; have i1 := hX.c 0 1 rfl rfl; have i2 := hX.c 0 2 rfl rfl; have i3 := hX.c 0 3 rfl rfl; have i4 := hX.c 0 4 rfl rfl; have i5 := hX.c 0 5 rfl rfl; have i6 := hX.c 0 6 rfl rfl; have i7 := hX.c 0 7 rfl rfl; have i8 := hX.c 0 8 rfl rfl; have i9 := hX.c 0 9 rfl rfl; clear hb) | (go_at_call 34; with_reducible refine (hw _ hX.frm).mono ?_; rintro _ w' ⟨rfl, hb⟩; have hX := hX.step hb; clear hb; obtain ⟨N, hN⟩ : ∃ N, N = w'.heap.size := ⟨_, rfl⟩; have hlt := fun e he => hN ▸ (hX.bx e he).lt; have hlowN : W0.heap.size ≤ N := (by have := hX.below.size; omega); have hown := own_one w' 3 (.int .i64 F1) (Nat.le_of_eq hN); have hNle : N ≤ (w'.alloc (.cells #[.int .i64 F1] 3)).heap.size := le_alloc (Nat.le_of_eq hN) _; have hX := hX.alloc (.cells #[.int .i64 F1] 3); clear hN; have i0 := hX.c 0 0 rfl rfl; have i1 := hX.c 0 1 rfl rfl; have i2 := hX.c 0 2 rfl rfl; have i3 := hX.c 0 3 rfl rfl; have i4 := hX.c 0 4 rfl rfl; have i5 := hX.c 0 5 rfl rfl; have i6 := hX.c 0 6 rfl rfl; have i7 := hX.c 0 7 rfl rfl; have i8 := hX.c 0 8 rfl rfl; have i9 := hX.c 0 9 rfl rfl) | (go_at_call 28; with_reducible refine (hH1 _).mono ?_; rintro _ w' ⟨rfl, hb⟩; have hX := hX.step hb; have hown := own_step hown hb; have hNle := Nat.le_trans hNle hb.size; clear hb; have i0 := hX.c 0 0 rfl rfl; have i1 := hX.c 0 1 rfl rfl; have i2 := hX.c 0 2 rfl rfl; have i3 := hX.c 0 3 rfl rfl; have i4 := hX.c 0 4 rfl rfl; have i5 := hX.c 0 5 rfl rfl; have i6 := hX.c 0 6 rfl rfl; have i7 := hX.c 0 7 rfl rfl; have i8 := hX.c 0 8 rfl rfl; have i9 := hX.c 0 9 rfl rfl) | (go_at_call 30; with_reducible refine (hH2 _).mono ?_; rintro _ w' ⟨rfl, hb⟩; have hX := hX.step hb; have hown := own_step hown hb; have hNle := Nat.le_trans hNle hb.size; clear hb; have i0 := hX.c 0 0 rfl rfl; have i1 := hX.c 0 1 rfl rfl; have i2 := hX.c 0 2 rfl rfl; have i3 := hX.c 0 3 rfl rfl; have i4 := hX.c 0 4 rfl rfl; have i5 := hX.c 0 5 rfl rfl; have i6 := hX.c 0 6 rfl rfl; have i7 := hX.c 0 7 rfl rfl; have i8 := hX.c 0 8 rfl rfl; have i9 := hX.c 0 9 rfl rfl) | (go_at_call 29; with_reducible refine (hE1 _).mono ?_; rintro _ w' ⟨rfl, hb⟩; have hX := hX.step hb; have hown := own_step hown hb; have hNle := Nat.le_trans hNle hb.size; clear hb; have i0 := hX.c 0 0 rfl rfl; have i1 := hX.c 0 1 rfl rfl; have i2 := hX.c 0 2 rfl rfl; have i3 := hX.c 0 3 rfl rfl; have i4 := hX.c 0 4 rfl rfl; have i5 := hX.c 0 5 rfl rfl; have i6 := hX.c 0 6 rfl rfl; have i7 := hX.c 0 7 rfl rfl; have i8 := hX.c 0 8 rfl rfl; have i9 := hX.c 0 9 rfl rfl) | (go_at_call 29; with_reducible refine (hE2 _).mono ?_; rintro _ w' ⟨rfl, hb⟩; have hX := hX.step hb; have hown := own_step hown hb; have hNle := Nat.le_trans hNle hb.size; clear hb; have i0 := hX.c 0 0 rfl rfl; have i1 := hX.c 0 1 rfl rfl; have i2 := hX.c 0 2 rfl rfl; have i3 := hX.c 0 3 rfl rfl; have i4 := hX.c 0 4 rfl rfl; have i5 := hX.c 0 5 rfl rfl; have i6 := hX.c 0 6 rfl rfl; have i7 := hX.c 0 7 rfl rfl; have i8 := hX.c 0 8 rfl rfl; have i9 := hX.c 0 9 rfl rfl))
        go_ret2
        exact ⟨_, rfl, Nums.of_own (l := [F1]) hown, by first | exact hX.below | exact hBB ▸ hX.below⟩
      · cases D
        · skip
          show Calls _ _ _ _ fun e w' => ∃ v, e = .returned (.tuple #[v, .int .i64 0]) ∧ Nums .i64 w' v [F1] ∧ Below W0.heap.size W0 w'
          go_enter Tryd.func12, Tryd.ntmps12
          go_wp2_with fail
          have i0 := hX.c 0 0 rfl rfl; have i1 := hX.c 0 1 rfl rfl; have i2 := hX.c 0 2 rfl rfl; have i3 := hX.c 0 3 rfl rfl; have i4 := hX.c 0 4 rfl rfl; have i5 := hX.c 0 5 rfl rfl; have i6 := hX.c 0 6 rfl rfl; have i7 := hX.c 0 7 rfl rfl; have i8 := hX.c 0 8 rfl rfl; have i9 := hX.c 0 9 rfl rfl
          generalize W0.alloc (.cells #[.int .i64 o, .bool b, .int .i64 m, .int .i64 r, .int .i64 x, .int .i64 p, .int .i64 q, .int .i64 y, .int .i64 g, .int .i64 n] 28) = w1 at *
          generalize hBB : W0.heap.size = B at hX i0 i1 i2 i3 i4 i5 i6 i7 i8 i9 ⊢
          go_wp2_with (first | (go_at_call 15; with_reducible refine (hv _ hX.frm).mono ?_; rintro e w' ⟨rfl, hb⟩; have hX := hX.step hb; have i0 := hX.c 0 0 rfl rfl; have i1 := hX.c 0 1 rfl rfl; have i2 := hX.c 0 2 rfl rfl; have i3 := hX.c 0 3 rfl rfl; have i4 := hX.c 0 4 rfl rfl; have i5 := hX.c 0 5 rfl rfl; have i6 := hX.c 0 6 rfl rfl; have i7 := hX.c 0 7 rfl rfl; have i8 := hX.c 0 8 rfl rfl; have i9 := hX.c 0 9 rfl rfl; clear hb) | (go_at_call 34; with_reducible refine (hw _ hX.frm).mono ?_; rintro _ w' ⟨rfl, hb⟩; have hX := hX.step hb; clear hb; obtain ⟨N, hN⟩ : ∃ N, N = w'.heap.size := ⟨_, rfl⟩; have hlt := fun e he => hN ▸ (hX.bx e he).lt; have hlowN : W0.heap.size ≤ N := (by have := hX.below.size; omega); have hown := own_one w' 3 (.int .i64 F1) (Nat.le_of_eq hN); have hNle : N ≤ (w'.alloc (.cells #[.int .i64 F1] 3)).heap.size := le_alloc (Nat.le_of_eq hN) _; have hX := hX.alloc (.cells #[.int .i64 F1] 3); clear hN; have i0 := hX.c 0 0 rfl rfl; have i1 := hX.c 0 1 rfl rfl; have i2 := hX.c 0 2 rfl rfl; have i3 := hX.c 0 3 rfl rfl; have i4 := hX.c 0 4 rfl rfl; have i5 := hX.c 0 5 rfl rfl; have i6 := hX.c 0 6 rfl rfl; have i7 := hX.c 0 7 rfl rfl; have i8 := hX.c 0 8 rfl rfl; have i9 := hX.c 0 9 rfl rfl) | (go_at_call 28; with_reducible refine (hH1 _).mono ?_; rintro _ w' ⟨rfl, hb⟩; have hX := hX.step hb; have hown := own_step hown hb; have hNle := Nat.le_trans hNle hb.size; clear hb; have i0 := hX.c 0 0 rfl rfl; have i1 := hX.c 0 1 rfl rfl; have i2 := hX.c 0 2 rfl rfl; have i3 := hX.c 0 3 rfl rfl; have i4 := hX.c 0 4 rfl rfl; have i5 := hX.c 0 5 rfl rfl; have i6 := hX.c 0 6 rfl rfl; have i7 := hX.c 0 7 rfl rfl; have i8 := hX.c 0 8 rfl rfl; have i9 := hX.c 0 9 rfl rfl) | (go_at_call 30; with_reducible refine (hH2 _).mono ?_; rintro _ w' ⟨rfl, hb⟩; have hX := hX.step hb; have hown := own_step hown hb; have hNle := Nat.le_trans hNle hb.size; clear hb; have i0 := hX.c 0 0 rfl rfl; have i1 := hX.c 0 1 rfl rfl; have i2 := hX.c 0 2 rfl rfl; have i3 := hX.c 0 3 rfl rfl; have i4 := hX.c 0 4 rfl rfl; have i5 := hX.c 0 5 rfl rfl; have i6 := hX.c 0 6 rfl rfl; have i7 := hX.c 0 7 rfl rfl; have i8 := hX.c 0 8 rfl rfl; have i9 := hX.c 0 9 rfl rfl) | (go_at_call 29; with_reducible refine (hE1 _).mono ?_; rintro _ w' ⟨rfl, hb⟩; have hX := hX.step hb; have hown := own_step hown hb; have hNle := Nat.le_trans hNle hb.size; clear hb; have i0 := hX.c 0 0 rfl rfl; have i1 := hX.c 0 1 rfl rfl; have i2 := hX.c 0 2 rfl rfl; have i3 := hX.c 0 3 rfl rfl; have i4 := hX.c 0 4 rfl rfl; have i5 := hX.c 0 5 rfl rfl; have i6 := hX.c 0 6 rfl rfl; have i7 := hX.c 0 7 rfl rfl; have i8 := hX.c 0 8 rfl rfl; have i9 := hX.c 0 9 rfl rfl) | (go_at_call 29; with_reducible refine (hE2 _).mono ?_; rintro _ w' ⟨rfl, hb⟩; have hX := hX.step hb; have hown := own_step hown hb; have hNle := Nat.le_trans hNle hb.size; clear hb; have i0 := hX.c 0 0 rfl rfl; have i1 := hX.c 0 1 rfl rfl; have i2 := hX.c 0 2 rfl rfl; have i3 := hX.c 0 3 rfl rfl; have i4 := hX.c 0 4 rfl rfl; have i5 := hX.c 0 5 rfl rfl; have i6 := hX.c 0 6 rfl rfl; have i7 := hX.c 0 7 rfl rfl; have i8 := hX.c 0 8 rfl rfl; have i9 := hX.c 0 9 rfl rfl))
          go_ret2
          exact ⟨_, rfl, Nums.of_own (l := [F1]) hown, by first | exact hX.below | exact hBB ▸ hX.below⟩
        · skip
          show Calls _ _ _ _ fun e w' => ∃ v, e = .returned (.tuple #[v, .int .i64 0]) ∧ Nums .i64 w' v [F1, y] ∧ Below W0.heap.size W0 w'
          go_enter Tryd.func12, Tryd.ntmps12
          go_wp2_with fail
          have i0 := hX.c 0 0 rfl rfl; have i1 := hX.c 0 1 rfl rfl; have i2 := hX.c 0 2 rfl rfl; have i3 := hX.c 0 3 rfl rfl; have i4 := hX.c 0 4 rfl rfl; have i5 := hX.c 0 5 rfl rfl; have i6 := hX.c 0 6 rfl rfl; have i7 := hX.c 0 7 rfl rfl; have i8 := hX.c 0 8 rfl rfl; have i9 := hX.c 0 9 rfl rfl
          generalize W0.alloc (.cells #[.int .i64 o, .bool b, .int .i64 m, .int .i64 r, .int .i64 x, .int .i64 p, .int .i64 q, .int .i64 y, .int .i64 g, .int .i64 n] 28) = w1 at *
          generalize hBB : W0.heap.size = B at hX i0 i1 i2 i3 i4 i5 i6 i7 i8 i9 ⊢
          go_wp2_with (first | (go_at_call 15; with_reducible refine (hv _ hX.frm).mono ?_; rintro e w' ⟨rfl, hb⟩; have hX := hX.step hb; have i0 := hX.c 0 0 rfl rfl; have i1 := hX.c 0 1 rfl rfl; have i2 := hX.c 0 2 rfl rfl; have i3 := hX.c 0 3 rfl rfl; have i4 := hX.c 0 4 rfl rfl; have i5 := hX.c 0 5 rfl rfl; have i6 := hX.c 0 6 rfl rfl; have i7 := hX.c 0 7 rfl rfl; have i8 := hX.c 0 8 rfl rfl; have i9 := hX.c 0 9 rfl rfl; clear hb) | (go_at_call 34; with_reducible refine (hw _ hX.frm).mono ?_; rintro _ w' ⟨rfl, hb⟩; have hX := hX.step hb; clear hb; obtain ⟨N, hN⟩ : ∃ N, N = w'.heap.size := ⟨_, rfl⟩; have hlt := fun e he => hN ▸ (hX.bx e he).lt; have hlowN : W0.heap.size ≤ N := (by have := hX.below.size; omega); have hown := own_one w' 3 (.int .i64 F1) (Nat.le_of_eq hN); have hNle : N ≤ (w'.alloc (.cells #[.int .i64 F1] 3)).heap.size := le_alloc (Nat.le_of_eq hN) _; have hX := hX.alloc (.cells #[.int .i64 F1] 3); clear hN; have i0 := hX.c 0 0 rfl rfl; have i1 := hX.c 0 1 rfl rfl; have i2 := hX.c 0 2 rfl rfl; have i3 := hX.c 0 3 rfl rfl; have i4 := hX.c 0 4 rfl rfl; have i5 := hX.c 0 5 rfl rfl; have i6 := hX.c 0 6 rfl rfl; have i7 := hX.c 0 7 rfl rfl; have i8 := hX.c 0 8 rfl rfl; have i9 := hX.c 0 9 rfl rfl) | (go_at_call 28; with_reducible refine (hH1 _).mono ?_; rintro _ w' ⟨rfl, hb⟩; have hX := hX.step hb; have hown := own_step hown hb; have hNle := Nat.le_trans hNle hb.size; clear hb; have i0 := hX.c 0 0 rfl rfl; have i1 := hX.c 0 1 rfl rfl; have i2 := hX.c 0 2 rfl rfl; have i3 := hX.c 0 3 rfl rfl; have i4 := hX.c 0 4 rfl rfl; have i5 := hX.c 0 5 rfl rfl; have i6 := hX.c 0 6 rfl rfl; have i7 := hX.c 0 7 rfl rfl; have i8 := hX.c 0 8 rfl rfl; have i9 := hX.c 0 9 rfl rfl) | (go_at_call 30; with_reducible refine (hH2 _).mono ?_; rintro _ w' ⟨rfl, hb⟩; have hX := hX.step hb; have hown := own_step hown hb; have hNle := Nat.le_trans hNle hb.size; clear hb; have i0 := hX.c 0 0 rfl rfl; have i1 := hX.c 0 1 rfl rfl; have i2 := hX.c 0 2 rfl rfl; have i3 := hX.c 0 3 rfl rfl; have i4 := hX.c 0 4 rfl rfl; have i5 := hX.c 0 5 rfl rfl; have i6 := hX.c 0 6 rfl rfl; have i7 := hX.c 0 7 rfl rfl; have i8 := hX.c 0 8 rfl rfl; have i9 := hX.c 0 9 rfl rfl) | (go_at_call 29; with_reducible refine (hE1 _).mono ?_; rintro _ w' ⟨rfl, hb⟩; have hX := hX.step hb; have hown := own_step hown hb; have hNle := Nat.le_trans hNle hb.size; clear hb; have i0 := hX.c 0 0 rfl rfl; have i1 := hX.c 0 1 rfl rfl; have i2 := hX.c 0 2 rfl rfl; have i3 := hX.c 0 3 rfl rfl; have i4 := hX.c 0 4 rfl rfl; have i5 := hX.c 0 5 rfl rfl; have i6 := hX.c 0 6 rfl rfl; have i7 := hX.c 0 7 rfl rfl; have i8 := hX.c 0 8 rfl rfl; have i9 := hX.c 0 9 rfl rfl) | (go_at_call 29; with_reducible refine (hE2 _).mono ?_; rintro _ w' ⟨rfl, hb⟩; have hX := hX.step hb; have hown := own_step hown hb; have hNle := Nat.le_trans hNle hb.size; clear hb; have i0 := hX.c 0 0 rfl rfl; have i1 := hX.c 0 1 rfl rfl; have i2 := hX.c 0 2 rfl rfl; have i3 := hX.c 0 3 rfl rfl; have i4 := hX.c 0 4 rfl rfl; have i5 := hX.c 0 5 rfl rfl; have i6 := hX.c 0 6 rfl rfl; have i7 := hX.c 0 7 rfl rfl; have i8 := hX.c 0 8 rfl rfl; have i9 := hX.c 0 9 rfl rfl) | (at_builtin; refine wpList_append_own _ rfl (.tmp 33) (.tmp 37) 22 rfl N 3 ti (.int .i64 0) 1 8 Tryd.underlying22 hi hz0 hz1 hz2 rfl (by decide) _ _ _ rfl (hown.alloc _) ⟨w'.heap.size, 0, none⟩ 1 1 [.int .i64 y] rfl rfl (cell_one_new _ _ _) (fun x hx => by simp at hx; subst hx; rfl) (by unfold maxLen; omega) (by omega) (le_alloc hNle _) ?_; intro v' w1 hown' hgrow _; have hNle : N ≤ w1.heap.size := Nat.le_trans (le_alloc hNle _) hgrow.size; have hX := (hX.alloc (.cells #[.int .i64 y] 3)).grown hgrow hlt (fun k hk => (hown.lt k hk).1) hlowN; have hown := hown'; clear hown' hgrow; have i0 := hX.c 0 0 rfl rfl; have i1 := hX.c 0 1 rfl rfl; have i2 := hX.c 0 2 rfl rfl; have i3 := hX.c 0 3 rfl rfl; have i4 := hX.c 0 4 rfl rfl; have i5 := hX.c 0 5 rfl rfl; have i6 := hX.c 0 6 rfl rfl; have i7 := hX.c 0 7 rfl rfl; have i8 := hX.c 0 8 rfl rfl; have i9 := hX.c 0 9 rfl rfl))
          go_ret2
          exact ⟨_, rfl, Nums.of_own (l := [F1, y]) hown, by first | exact hX.below | exact hBB ▸ hX.below⟩
    · cases S
      · skip
        cases HD
        · have hd := z2 rfl
          subst hd
          show Calls _ _ _ _ fun e w' => ∃ v, e = .returned (.tuple #[v, .int .i64 0]) ∧ Nums .i64 w' v [F1] ∧ Below W0.heap.size W0 w'
          go_enter Tryd.func12, Tryd.ntmps12
          go_wp2_with fail
          have i0 := hX.c 0 0 rfl rfl; have i1 := hX.c 0 1 rfl rfl; have i2 := hX.c 0 2 rfl rfl; have i3 := hX.c 0 3 rfl rfl; have i4 := hX.c 0 4 rfl rfl; have i5 := hX.c 0 5 rfl rfl; have i6 := hX.c 0 6 rfl rfl; have i7 := hX.c 0 7 rfl rfl; have i8 := hX.c 0 8 rfl rfl; have i9 := hX.c 0 9 rfl rfl
          generalize W0.alloc (.cells #[.int .i64 o, .bool b, .int .i64 m, .int .i64 r, .int .i64 x, .int .i64 p, .int .i64 q, .int .i64 y, .int .i64 g, .int .i64 n] 28) = w1 at *
          generalize hBB : W0.heap.size = B at hX i0 i1 i2 i3 i4 i5 i6 i7 i8 i9 ⊢
          go_wp2_with (first | (go_at_call 15; with_reducible refine (hv _ hX.frm).mono ?_; rintro e w' ⟨rfl, hb⟩; have hX := hX.step hb; have i0 := hX.c 0 0 rfl rfl; have i1 := hX.c 0 1 rfl rfl; have i2 := hX.c 0 2 rfl rfl; have i3 := hX.c 0 3 rfl rfl; have i4 := hX.c 0 4 rfl rfl; have i5 := hX.c 0 5 rfl rfl; have i6 := hX.c 0 6 rfl rfl; have i7 := hX.c 0 7 rfl rfl; have i8 := hX.c 0 8 rfl rfl; have i9 := hX.c 0 9 rfl rfl; clear hb) | (go_at_call 34; with_reducible refine (hw _ hX.frm).mono ?_; rintro _ w' ⟨rfl, hb⟩; have hX := hX.step hb; clear hb; obtain ⟨N, hN⟩ : ∃ N, N = w'.heap.size := ⟨_, rfl⟩; have hlt := fun e he => hN ▸ (hX.bx e he).lt; have hlowN : W0.heap.size ≤ N := (by have := hX.below.size; omega); have hown := own_one w' 3 (.int .i64 F1) (Nat.le_of_eq hN); have hNle : N ≤ (w'.alloc (.cells #[.int .i64 F1] 3)).heap.size := le_alloc (Nat.le_of_eq hN) _; have hX := hX.alloc (.cells #[.int .i64 F1] 3); clear hN; have i0 := hX.c 0 0 rfl rfl; have i1 := hX.c 0 1 rfl rfl; have i2 := hX.c 0 2 rfl rfl; have i3 := hX.c 0 3 rfl rfl; have i4 := hX.c 0 4 rfl rfl; have i5 := hX.c 0 5 rfl rfl; have i6 := hX.c 0 6 rfl rfl; have i7 := hX.c 0 7 rfl rfl; have i8 := hX.c 0 8 rfl rfl; have i9 := hX.c 0 9 rfl rfl) | (go_at_call 28; with_reducible refine (hH1 _).mono ?_; rintro _ w' ⟨rfl, hb⟩; have hX := hX.step hb; have hown := own_step hown hb; have hNle := Nat.le_trans hNle hb.size; clear hb; have i0 := hX.c 0 0 rfl rfl; have i1 := hX.c 0 1 rfl rfl; have i2 := hX.c 0 2 rfl rfl; have i3 := hX.c 0 3 rfl rfl; have i4 := hX.c 0 4 rfl rfl; have i5 := hX.c 0 5 rfl rfl; have i6 := hX.c 0 6 rfl rfl; have i7 := hX.c 0 7 rfl rfl; have i8 := hX.c 0 8 rfl rfl; have i9 := hX.c 0 9 rfl rfl) | (go_at_call 30; with_reducible refine (hH2 _).mono ?_; rintro _ w' ⟨rfl, hb⟩; have hX := hX.step hb; have hown := own_step hown hb; have hNle := Nat.le_trans hNle hb.size; clear hb; have i0 := hX.c 0 0 rfl rfl; have i1 := hX.c 0 1 rfl rfl; have i2 := hX.c 0 2 rfl rfl; have i3 := hX.c 0 3 rfl rfl; have i4 := hX.c 0 4 rfl rfl; have i5 := hX.c 0 5 rfl rfl; have i6 := hX.c 0 6 rfl rfl; have i7 := hX.c 0 7 rfl rfl; have i8 := hX.c 0 8 rfl rfl; have i9 := hX.c 0 9 rfl rfl) | (go_at_call 29; with_reducible refine (hE1 _).mono ?_; rintro _ w' ⟨rfl, hb⟩; have hX := hX.step hb; have hown := own_step hown hb; have hNle := Nat.le_trans hNle hb.size; clear hb; have i0 := hX.c 0 0 rfl rfl; have i1 := hX.c 0 1 rfl rfl; have i2 := hX.c 0 2 rfl rfl; have i3 := hX.c 0 3 rfl rfl; have i4 := hX.c 0 4 rfl rfl; have i5 := hX.c 0 5 rfl rfl; have i6 := hX.c 0 6 rfl rfl; have i7 := hX.c 0 7 rfl rfl; have i8 := hX.c 0 8 rfl rfl; have i9 := hX.c 0 9 rfl rfl) | (go_at_call 29; with_reducible refine (hE2 _).mono ?_; rintro _ w' ⟨rfl, hb⟩; have hX := hX.step hb; have hown := own_step hown hb; have hNle := Nat.le_trans hNle hb.size; clear hb; have i0 := hX.c 0 0 rfl rfl; have i1 := hX.c 0 1 rfl rfl; have i2 := hX.c 0 2 rfl rfl; have i3 := hX.c 0 3 rfl rfl; have i4 := hX.c 0 4 rfl rfl; have i5 := hX.c 0 5 rfl rfl; have i6 := hX.c 0 6 rfl rfl; have i7 := hX.c 0 7 rfl rfl; have i8 := hX.c 0 8 rfl rfl; have i9 := hX.c 0 9 rfl rfl))
          go_ret2
          exact ⟨_, rfl, Nums.of_own (l := [F1]) hown, by first | exact hX.below | exact hBB ▸ hX.below⟩
        · cases D
          · skip
            show Calls _ _ _ _ fun e w' => ∃ v, e = .returned (.tuple #[v, .int .i64 0]) ∧ Nums .i64 w' v [F1] ∧ Below W0.heap.size W0 w'
            go_enter Tryd.func12, Tryd.ntmps12
            go_wp2_with fail
            have i0 := hX.c 0 0 rfl rfl; have i1 := hX.c 0 1 rfl rfl; have i2 := hX.c 0 2 rfl rfl; have i3 := hX.c 0 3 rfl rfl; have i4 := hX.c 0 4 rfl rfl; have i5 := hX.c 0 5 rfl rfl; have i6 := hX.c 0 6 rfl rfl; have i7 := hX.c 0 7 rfl rfl; have i8 := hX.c 0 8 rfl rfl; have i9 := hX.c 0 9 rfl rfl
            generalize W0.alloc (.cells #[.int .i64 o, .bool b, .int .i64 m, .int .i64 r, .int .i64 x, .int .i64 p, .int .i64 q, .int .i64 y, .int .i64 g, .int .i64 n] 28) = w1 at *
            generalize hBB : W0.heap.size = B at hX i0 i1 i2 i3 i4 i5 i6 i7 i8 i9 ⊢
            go_wp2_with (first | (go_at_call 15; with_reducible refine (hv _ hX.frm).mono ?_; rintro e w' ⟨rfl, hb⟩; have hX := hX.step hb; have i0 := hX.c 0 0 rfl rfl; have i1 := hX.c 0 1 rfl rfl; have i2 := hX.c 0 2 rfl rfl; have i3 := hX.c 0 3 rfl rfl; have i4 := hX.c 0 4 rfl rfl; have i5 := hX.c 0 5 rfl rfl; have i6 := hX.c 0 6 rfl rfl; have i7 := hX.c 0 7 rfl rfl; have i8 := hX.c 0 8 rfl rfl; have i9 := hX.c 0 9 rfl rfl; clear hb) | (go_at_call 34; with_reducible refine (hw _ hX.frm).mono ?_; rintro _ w' ⟨rfl, hb⟩; have hX := hX.step hb; clear hb; obtain ⟨N, hN⟩ : ∃ N, N = w'.heap.size := ⟨_, rfl⟩; have hlt := fun e he => hN ▸ (hX.bx e he).lt; have hlowN : W0.heap.size ≤ N := (by have := hX.below.size; omega); have hown := own_one w' 3 (.int .i64 F1) (Nat.le_of_eq hN); have hNle : N ≤ (w'.alloc (.cells #[.int .i64 F1] 3)).heap.size := le_alloc (Nat.le_of_eq hN) _; have hX := hX.alloc (.cells #[.int .i64 F1] 3); clear hN; have i0 := hX.c 0 0 rfl rfl; have i1 := hX.c 0 1 rfl rfl; have i2 := hX.c 0 2 rfl rfl; have i3 := hX.c 0 3 rfl rfl; have i4 := hX.c 0 4 rfl rfl; have i5 := hX.c 0 5 rfl rfl; have i6 := hX.c 0 6 rfl rfl; have i7 := hX.c 0 7 rfl rfl; have i8 := hX.c 0 8 rfl rfl; have i9 := hX.c 0 9 rfl rfl) | (go_at_call 28; with_reducible refine (hH1 _).mono ?_; rintro _ w' ⟨rfl, hb⟩; have hX := hX.step hb; have hown := own_step hown hb; have hNle := Nat.le_trans hNle hb.size; clear hb; have i0 := hX.c 0 0 rfl rfl; have i1 := hX.c 0 1 rfl rfl; have i2 := hX.c 0 2 rfl rfl; have i3 := hX.c 0 3 rfl rfl; have i4 := hX.c 0 4 rfl rfl; have i5 := hX.c 0 5 rfl rfl; have i6 := hX.c 0 6 rfl rfl; have i7 := hX.c 0 7 rfl rfl; have i8 := hX.c 0 8 rfl rfl; have i9 := hX.c 0 9 rfl rfl) | (go_at_call 30; with_reducible refine (hH2 _).mono ?_; rintro _ w' ⟨rfl, hb⟩; have hX := hX.step hb; have hown := own_step hown hb; have hNle := Nat.le_trans hNle hb.size; clear hb; have i0 := hX.c 0 0 rfl rfl; have i1 := hX.c 0 1 rfl rfl; have i2 := hX.c 0 2 rfl rfl; have i3 := hX.c 0 3 rfl rfl; have i4 := hX.c 0 4 rfl rfl; have i5 := hX.c 0 5 rfl rfl; have i6 := hX.c 0 6 rfl rfl; have i7 := hX.c 0 7 rfl rfl; have i8 := hX.c 0 8 rfl rfl; have i9 := hX.c 0 9 rfl rfl) | (go_at_call 29; with_reducible refine (hE1 _).mono ?_; rintro _ w' ⟨rfl, hb⟩; have hX := hX.step hb; have hown := own_step hown hb; have hNle := Nat.le_trans hNle hb.size; clear hb; have i0 := hX.c 0 0 rfl rfl; have i1 := hX.c 0 1 rfl rfl; have i2 := hX.c 0 2 rfl rfl; have i3 := hX.c 0 3 rfl rfl; have i4 := hX.c 0 4 rfl rfl; have i5 := hX.c 0 5 rfl rfl; have i6 := hX.c 0 6 rfl rfl; have i7 := hX.c 0 7 rfl rfl; have i8 := hX.c 0 8 rfl rfl; have i9 := hX.c 0 9 rfl rfl) | (go_at_call 29; with_reducible refine (hE2 _).mono ?_; rintro _ w' ⟨rfl, hb⟩; have hX := hX.step hb; have hown := own_step hown hb; have hNle := Nat.le_trans hNle hb.size; clear hb; have i0 := hX.c 0 0 rfl rfl; have i1 := hX.c 0 1 rfl rfl; have i2 := hX.c 0 2 rfl rfl; have i3 := hX.c 0 3 rfl rfl; have i4 := hX.c 0 4 rfl rfl; have i5 := hX.c 0 5 rfl rfl; have i6 := hX.c 0 6 rfl rfl; have i7 := hX.c 0 7 rfl rfl; have i8 := hX.c 0 8 rfl rfl; have i9 := hX.c 0 9 rfl rfl))
            go_ret2
            exact ⟨_, rfl, Nums.of_own (l := [F1]) hown, by first | exact hX.below | exact hBB ▸ hX.below⟩
          · skip
            show Calls _ _ _ _ fun e w' => ∃ v, e = .returned (.tuple #[v, .int .i64 0]) ∧ Nums .i64 w' v [F1, y] ∧ Below W0.heap.size W0 w'
            go_enter Tryd.func12, Tryd.ntmps12
            go_wp2_with fail
            have i0 := hX.c 0 0 rfl rfl; have i1 := hX.c 0 1 rfl rfl; have i2 := hX.c 0 2 rfl rfl; have i3 := hX.c 0 3 rfl rfl; have i4 := hX.c 0 4 rfl rfl; have i5 := hX.c 0 5 rfl rfl; have i6 := hX.c 0 6 rfl rfl; have i7 := hX.c 0 7 rfl rfl; have i8 := hX.c 0 8 rfl rfl; have i9 := hX.c 0 9 rfl rfl
            generalize W0.alloc (.cells #[.int .i64 o, .bool b, .int .i64 m, .int .i64 r, .int .i64 x, .int .i64 p, .int .i64 q, .int .i64 y, .int .i64 g, .int .i64 n] 28) = w1 at *
            generalize hBB : W0.heap.size = B at hX i0 i1 i2 i3 i4 i5 i6 i7 i8 i9 ⊢
            go_wp2_with (first | (go_at_call 15; with_reducible refine (hv _ hX.frm).mono ?_; rintro e w' ⟨rfl, hb⟩; have hX := hX.step hb; have i0 := hX.c 0 0 rfl rfl; have i1 := hX.c 0 1 rfl rfl; have i2 := hX.c 0 2 rfl rfl; have i3 := hX.c 0 3 rfl rfl; have i4 := hX.c 0 4 rfl rfl; have i5 := hX.c 0 5 rfl rfl; have i6 := hX.c 0 6 rfl rfl; have i7 := hX.c 0 7 rfl rfl; have i8 := hX.c 0 8 rfl rfl; have i9 := hX.c 0 9 rfl rfl; clear hb) | (go_at_call 34; with_reducible refine (hw _ hX.frm).mono ?_; rintro _ w' ⟨rfl, hb⟩; have hX := hX.step hb; clear hb; obtain ⟨N, hN⟩ : ∃ N, N = w'.heap.size := ⟨_, rfl⟩; have hlt := fun e he => hN ▸ (hX.bx e he).lt; have hlowN : W0.heap.size ≤ N := (by have := hX.below.size; omega); have hown := own_one w' 3 (.int .i64 F1) (Nat.le_of_eq hN); have hNle : N ≤ (w'.alloc (.cells #[.int .i64 F1] 3)).heap.size := le_alloc (Nat.le_of_eq hN) _; have hX := hX.alloc (.cells #[.int .i64 F1] 3); clear hN; have i0 := hX.c 0 0 rfl rfl; have i1 := hX.c 0 1 rfl rfl; have i2 := hX.c 0 2 rfl rfl; have i3 := hX.c 0 3 rfl rfl; have i4 := hX.c 0 4 rfl rfl; have i5 := hX.c 0 5 rfl rfl; have i6 := hX.c 0 6 rfl rfl; have i7 := hX.c 0 7 rfl rfl; have i8 := hX.c 0 8 rfl rfl; have i9 := hX.c 0 9 rfl rfl) | (go_at_call 28; with_reducible refine (hH1 _).mono ?_; rintro _ w' ⟨rfl, hb⟩; have hX := hX.step hb; have hown := own_step hown hb; have hNle := Nat.le_trans hNle hb.size; clear hb; have i0 := hX.c 0 0 rfl rfl; have i1 := hX.c 0 1 rfl rfl; have i2 := hX.c 0 2 rfl rfl; have i3 := hX.c 0 3 rfl rfl; have i4 := hX.c 0 4 rfl rfl; have i5 := hX.c 0 5 rfl rfl; have i6 := hX.c 0 6 rfl rfl; have i7 := hX.c 0 7 rfl rfl; have i8 := hX.c 0 8 rfl rfl; have i9 := hX.c 0 9 rfl rfl) | (go_at_call 30; with_reducible refine (hH2 _).mono ?_; rintro _ w' ⟨rfl, hb⟩; have hX := hX.step hb; have hown := own_step hown hb; have hNle := Nat.le_trans hNle hb.size; clear hb; have i0 := hX.c 0 0 rfl rfl; have i1 := hX.c 0 1 rfl rfl; have i2 := hX.c 0 2 rfl rfl; have i3 := hX.c 0 3 rfl rfl; have i4 := hX.c 0 4 rfl rfl; have i5 := hX.c 0 5 rfl rfl; have i6 := hX.c 0 6 rfl rfl; have i7 := hX.c 0 7 rfl rfl; have i8 := hX.c 0 8 rfl rfl; have i9 := hX.c 0 9 rfl rfl) | (go_at_call 29; with_reducible refine (hE1 _).mono ?_; rintro _ w' ⟨rfl, hb⟩; have hX := hX.step hb; have hown := own_step hown hb; have hNle := Nat.le_trans hNle hb.size; clear hb; have i0 := hX.c 0 0 rfl rfl; have i1 := hX.c 0 1 rfl rfl; have i2 := hX.c 0 2 rfl rfl; have i3 := hX.c 0 3 rfl rfl; have i4 := hX.c 0 4 rfl rfl; have i5 := hX.c 0 5 rfl rfl; have i6 := hX.c 0 6 rfl rfl; have i7 := hX.c 0 7 rfl rfl; have i8 := hX.c 0 8 rfl rfl; have i9 := hX.c 0 9 rfl rfl) | (go_at_call 29; with_reducible refine (hE2 _).mono ?_; rintro _ w' ⟨rfl, hb⟩; have hX := hX.step hb; have hown := own_step hown hb; have hNle := Nat.le_trans hNle hb.size; clear hb; have i0 := hX.c 0 0 rfl rfl; have i1 := hX.c 0 1 rfl rfl; have i2 := hX.c 0 2 rfl rfl; have i3 := hX.c 0 3 rfl rfl; have i4 := hX.c 0 4 rfl rfl; have i5 := hX.c 0 5 rfl rfl; have i6 := hX.c 0 6 rfl rfl; have i7 := hX.c 0 7 rfl rfl; have i8 := hX.c 0 8 rfl rfl; have i9 := hX.c 0 9 rfl rfl) | (at_builtin; refine wpList_append_own _ rfl (.tmp 33) (.tmp 37) 22 rfl N 3 ti (.int .i64 0) 1 8 Tryd.underlying22 hi hz0 hz1 hz2 rfl (by decide) _ _ _ rfl (hown.alloc _) ⟨w'.heap.size, 0, none⟩ 1 1 [.int .i64 y] rfl rfl (cell_one_new _ _ _) (fun x hx => by simp at hx; subst hx; rfl) (by unfold maxLen; omega) (by omega) (le_alloc hNle _) ?_; intro v' w1 hown' hgrow _; have hNle : N ≤ w1.heap.size := Nat.le_trans (le_alloc hNle _) hgrow.size; have hX := (hX.alloc (.cells #[.int .i64 y] 3)).grown hgrow hlt (fun k hk => (hown.lt k hk).1) hlowN; have hown := hown'; clear hown' hgrow; have i0 := hX.c 0 0 rfl rfl; have i1 := hX.c 0 1 rfl rfl; have i2 := hX.c 0 2 rfl rfl; have i3 := hX.c 0 3 rfl rfl; have i4 := hX.c 0 4 rfl rfl; have i5 := hX.c 0 5 rfl rfl; have i6 := hX.c 0 6 rfl rfl; have i7 := hX.c 0 7 rfl rfl; have i8 := hX.c 0 8 rfl rfl; have i9 := hX.c 0 9 rfl rfl))
            go_ret2
            exact ⟨_, rfl, Nums.of_own (l := [F1, y]) hown, by first | exact hX.below | exact hBB ▸ hX.below⟩
      · skip
        cases HD
        · have hd := z2 rfl
          subst hd
          show Calls _ _ _ _ fun e w' => ∃ v, e = .returned (.tuple #[v, .int .i64 0]) ∧ Nums .i64 w' v [F1, x] ∧ Below W0.heap.size W0 w'
          go_enter Tryd.func12, Tryd.ntmps12
          go_wp2_with fail
          have i0 := hX.c 0 0 rfl rfl; have i1 := hX.c 0 1 rfl rfl; have i2 := hX.c 0 2 rfl rfl; have i3 := hX.c 0 3 rfl rfl; have i4 := hX.c 0 4 rfl rfl; have i5 := hX.c 0 5 rfl rfl; have i6 := hX.c 0 6 rfl rfl; have i7 := hX.c 0 7 rfl rfl; have i8 := hX.c 0 8 rfl rfl; have i9 := hX.c 0 9 rfl rfl
          generalize W0.alloc (.cells #[.int .i64 o, .bool b, .int .i64 m, .int .i64 r, .int .i64 x, .int .i64 p, .int .i64 q, .int .i64 y, .int .i64 g, .int .i64 n] 28) = w1 at *
          generalize hBB : W0.heap.size = B at hX i0 i1 i2 i3 i4 i5 i6 i7 i8 i9 ⊢
          go_wp2_with (first | (go_at_call 15; with_reducible refine (hv _ hX.frm).mono ?_; rintro e w' ⟨rfl, hb⟩; have hX := hX.step hb; have i0 := hX.c 0 0 rfl rfl; have i1 := hX.c 0 1 rfl rfl; have i2 := hX.c 0 2 rfl rfl; have i3 := hX.c 0 3 rfl rfl; have i4 := hX.c 0 4 rfl rfl; have i5 := hX.c 0 5 rfl rfl; have i6 := hX.c 0 6 rfl rfl; have i7 := hX.c 0 7 rfl rfl; have i8 := hX.c 0 8 rfl rfl; have i9 := hX.c 0 9 rfl rfl; clear hb) | (go_at_call 34; with_reducible refine (hw _ hX.frm).mono ?_; rintro _ w' ⟨rfl, hb⟩; have hX := hX.step hb; clear hb; obtain ⟨N, hN⟩ : ∃ N, N = w'.heap.size := ⟨_, rfl⟩; have hlt := fun e he => hN ▸ (hX.bx e he).lt; have hlowN : W0.heap.size ≤ N := (by have := hX.below.size; omega); have hown := own_one w' 3 (.int .i64 F1) (Nat.le_of_eq hN); have hNle : N ≤ (w'.alloc (.cells #[.int .i64 F1] 3)).heap.size := le_alloc (Nat.le_of_eq hN) _; have hX := hX.alloc (.cells #[.int .i64 F1] 3); clear hN; have i0 := hX.c 0 0 rfl rfl; have i1 := hX.c 0 1 rfl rfl; have i2 := hX.c 0 2 rfl rfl; have i3 := hX.c 0 3 rfl rfl; have i4 := hX.c 0 4 rfl rfl; have i5 := hX.c 0 5 rfl rfl; have i6 := hX.c 0 6 rfl rfl; have i7 := hX.c 0 7 rfl rfl; have i8 := hX.c 0 8 rfl rfl; have i9 := hX.c 0 9 rfl rfl) | (go_at_call 28; with_reducible refine (hH1 _).mono ?_; rintro _ w' ⟨rfl, hb⟩; have hX := hX.step hb; have hown := own_step hown hb; have hNle := Nat.le_trans hNle hb.size; clear hb; have i0 := hX.c 0 0 rfl rfl; have i1 := hX.c 0 1 rfl rfl; have i2 := hX.c 0 2 rfl rfl; have i3 := hX.c 0 3 rfl rfl; have i4 := hX.c 0 4 rfl rfl; have i5 := hX.c 0 5 rfl rfl; have i6 := hX.c 0 6 rfl rfl; have i7 := hX.c 0 7 rfl rfl; have i8 := hX.c 0 8 rfl rfl; have i9 := hX.c 0 9 rfl rfl) | (go_at_call 30; with_reducible refine (hH2 _).mono ?_; rintro _ w' ⟨rfl, hb⟩; have hX := hX.step hb; have hown := own_step hown hb; have hNle := Nat.le_trans hNle hb.size; clear hb; have i0 := hX.c 0 0 rfl rfl; have i1 := hX.c 0 1 rfl rfl; have i2 := hX.c 0 2 rfl rfl; have i3 := hX.c 0 3 rfl rfl; have i4 := hX.c 0 4 rfl rfl; have i5 := hX.c 0 5 rfl rfl; have i6 := hX.c 0 6 rfl rfl; have i7 := hX.c 0 7 rfl rfl; have i8 := hX.c 0 8 rfl rfl; have i9 := hX.c 0 9 rfl rfl) | (go_at_call 29; with_reducible refine (hE1 _).mono ?_; rintro _ w' ⟨rfl, hb⟩; have hX := hX.step hb; have hown := own_step hown hb; have hNle := Nat.le_trans hNle hb.size; clear hb; have i0 := hX.c 0 0 rfl rfl; have i1 := hX.c 0 1 rfl rfl; have i2 := hX.c 0 2 rfl rfl; have i3 := hX.c 0 3 rfl rfl; have i4 := hX.c 0 4 rfl rfl; have i5 := hX.c 0 5 rfl rfl; have i6 := hX.c 0 6 rfl rfl; have i7 := hX.c 0 7 rfl rfl; have i8 := hX.c 0 8 rfl rfl; have i9 := hX.c 0 9 rfl rfl) | (go_at_call 29; with_reducible refine (hE2 _).mono ?_; rintro _ w' ⟨rfl, hb⟩; have hX := hX.step hb; have hown := own_step hown hb; have hNle := Nat.le_trans hNle hb.size; clear hb; have i0 := hX.c 0 0 rfl rfl; have i1 := hX.c 0 1 rfl rfl; have i2 := hX.c 0 2 rfl rfl; have i3 := hX.c 0 3 rfl rfl; have i4 := hX.c 0 4 rfl rfl; have i5 := hX.c 0 5 rfl rfl; have i6 := hX.c 0 6 rfl rfl; have i7 := hX.c 0 7 rfl rfl; have i8 := hX.c 0 8 rfl rfl; have i9 := hX.c 0 9 rfl rfl) | (at_builtin; refine wpList_append_own _ rfl (.tmp 19) (.tmp 23) 22 rfl N 3 ti (.int .i64 0) 1 8 Tryd.underlying22 hi hz0 hz1 hz2 rfl (by decide) _ _ _ rfl (hown.alloc _) ⟨w'.heap.size, 0, none⟩ 1 1 [.int .i64 x] rfl rfl (cell_one_new _ _ _) (fun x hx => by simp at hx; subst hx; rfl) (by unfold maxLen; omega) (by omega) (le_alloc hNle _) ?_; intro v' w1 hown' hgrow _; have hNle : N ≤ w1.heap.size := Nat.le_trans (le_alloc hNle _) hgrow.size; have hX := (hX.alloc (.cells #[.int .i64 x] 3)).grown hgrow hlt (fun k hk => (hown.lt k hk).1) hlowN; have hown := hown'; clear hown' hgrow; have i0 := hX.c 0 0 rfl rfl; have i1 := hX.c 0 1 rfl rfl; have i2 := hX.c 0 2 rfl rfl; have i3 := hX.c 0 3 rfl rfl; have i4 := hX.c 0 4 rfl rfl; have i5 := hX.c 0 5 rfl rfl; have i6 := hX.c 0 6 rfl rfl; have i7 := hX.c 0 7 rfl rfl; have i8 := hX.c 0 8 rfl rfl; have i9 := hX.c 0 9 rfl rfl))
          go_ret2
          exact ⟨_, rfl, Nums.of_own (l := [F1, x]) hown, by first | exact hX.below | exact hBB ▸ hX.below⟩
        · cases D
          · skip
            show Calls _ _ _ _ fun e w' => ∃ v, e = .returned (.tuple #[v, .int .i64 0]) ∧ Nums .i64 w' v [F1, x] ∧ Below W0.heap.size W0 w'
            go_enter Tryd.func12, Tryd.ntmps12
            go_wp2_with fail
            have i0 := hX.c 0 0 rfl rfl; have i1 := hX.c 0 1 rfl rfl; have i2 := hX.c 0 2 rfl rfl; have i3 := hX.c 0 3 rfl rfl; have i4 := hX.c 0 4 rfl rfl; have i5 := hX.c 0 5 rfl rfl; have i6 := hX.c 0 6 rfl rfl; have i7 := hX.c 0 7 rfl rfl; have i8 := hX.c 0 8 rfl rfl; have i9 := hX.c 0 9 rfl rfl
            generalize W0.alloc (.cells #[.int .i64 o, .bool b, .int .i64 m, .int .i64 r, .int .i64 x, .int .i64 p, .int .i64 q, .int .i64 y, .int .i64 g, .int .i64 n] 28) = w1 at *
            generalize hBB : W0.heap.size = B at hX i0 i1 i2 i3 i4 i5 i6 i7 i8 i9 ⊢
            go_wp2_with (first | (go_at_call 15; with_reducible refine (hv _ hX.frm).mono ?_; rintro e w' ⟨rfl, hb⟩; have hX := hX.step hb; have i0 := hX.c 0 0 rfl rfl; have i1 := hX.c 0 1 rfl rfl; have i2 := hX.c 0 2 rfl rfl; have i3 := hX.c 0 3 rfl rfl; have i4 := hX.c 0 4 rfl rfl; have i5 := hX.c 0 5 rfl rfl; have i6 := hX.c 0 6 rfl rfl; have i7 := hX.c 0 7 rfl rfl; have i8 := hX.c 0 8 rfl rfl; have i9 := hX.c 0 9 rfl rfl; clear hb) | (go_at_call 34; with_reducible refine (hw _ hX.frm).mono ?_; rintro _ w' ⟨rfl, hb⟩; have hX := hX.step hb; clear hb; obtain ⟨N, hN⟩ : ∃ N, N = w'.heap.size := ⟨_, rfl⟩; have hlt := fun e he => hN ▸ (hX.bx e he).lt; have hlowN : W0.heap.size ≤ N := (by have := hX.below.size; omega); have hown := own_one w' 3 (.int .i64 F1) (Nat.le_of_eq hN); have hNle : N ≤ (w'.alloc (.cells #[.int .i64 F1] 3)).heap.size := le_alloc (Nat.le_of_eq hN) _; have hX := hX.alloc (.cells #[.int .i64 F1] 3); clear hN; have i0 := hX.c 0 0 rfl rfl; have i1 := hX.c 0 1 rfl rfl; have i2 := hX.c 0 2 rfl rfl; have i3 := hX.c 0 3 rfl rfl; have i4 := hX.c 0 4 rfl rfl; have i5 := hX.c 0 5 rfl rfl; have i6 := hX.c 0 6 rfl rfl; have i7 := hX.c 0 7 rfl rfl; have i8 := hX.c 0 8 rfl rfl; have i9 := hX.c 0 9 rfl rfl) | (go_at_call 28; with_reducible refine (hH1 _).mono ?_; rintro _ w' ⟨rfl, hb⟩; have hX := hX.step hb; have hown := own_step hown hb; have hNle := Nat.le_trans hNle hb.size; clear hb; have i0 := hX.c 0 0 rfl rfl; have i1 := hX.c 0 1 rfl rfl; have i2 := hX.c 0 2 rfl rfl; have i3 := hX.c 0 3 rfl rfl; have i4 := hX.c 0 4 rfl rfl; have i5 := hX.c 0 5 rfl rfl; have i6 := hX.c 0 6 rfl rfl; have i7 := hX.c 0 7 rfl rfl; have i8 := hX.c 0 8 rfl rfl; have i9 := hX.c 0 9 rfl rfl) | (go_at_call 30; with_reducible refine (hH2 _).mono ?_; rintro _ w' ⟨rfl, hb⟩; have hX := hX.step hb; have hown := own_step hown hb; have hNle := Nat.le_trans hNle hb.size; clear hb; have i0 := hX.c 0 0 rfl rfl; have i1 := hX.c 0 1 rfl rfl; have i2 := hX.c 0 2 rfl rfl; have i3 := hX.c 0 3 rfl rfl; have i4 := hX.c 0 4 rfl rfl; have i5 := hX.c 0 5 rfl rfl; have i6 := hX.c 0 6 rfl rfl; have i7 := hX.c 0 7 rfl rfl; have i8 := hX.c 0 8 rfl rfl; have i9 := hX.c 0 9 rfl rfl) | (go_at_call 29; with_reducible refine (hE1 _).mono ?_; rintro _ w' ⟨rfl, hb⟩; have hX := hX.step hb; have hown := own_step hown hb; have hNle := Nat.le_trans hNle hb.size; clear hb; have i0 := hX.c 0 0 rfl rfl; have i1 := hX.c 0 1 rfl rfl; have i2 := hX.c 0 2 rfl rfl; have i3 := hX.c 0 3 rfl rfl; have i4 := hX.c 0 4 rfl rfl; have i5 := hX.c 0 5 rfl rfl; have i6 := hX.c 0 6 rfl rfl; have i7 := hX.c 0 7 rfl rfl; have i8 := hX.c 0 8 rfl rfl; have i9 := hX.c 0 9 rfl rfl) | (go_at_call 29; with_reducible refine (hE2 _).mono ?_; rintro _ w' ⟨rfl, hb⟩; have hX := hX.step hb; have hown := own_step hown hb; have hNle := Nat.le_trans hNle hb.size; clear hb; have i0 := hX.c 0 0 rfl rfl; have i1 := hX.c 0 1 rfl rfl; have i2 := hX.c 0 2 rfl rfl; have i3 := hX.c 0 3 rfl rfl; have i4 := hX.c 0 4 rfl rfl; have i5 := hX.c 0 5 rfl rfl; have i6 := hX.c 0 6 rfl rfl; have i7 := hX.c 0 7 rfl rfl; have i8 := hX.c 0 8 rfl rfl; have i9 := hX.c 0 9 rfl rfl) | (at_builtin; refine wpList_append_own _ rfl (.tmp 19) (.tmp 23) 22 rfl N 3 ti (.int .i64 0) 1 8 Tryd.underlying22 hi hz0 hz1 hz2 rfl (by decide) _ _ _ rfl (hown.alloc _) ⟨w'.heap.size, 0, none⟩ 1 1 [.int .i64 x] rfl rfl (cell_one_new _ _ _) (fun x hx => by simp at hx; subst hx; rfl) (by unfold maxLen; omega) (by omega) (le_alloc hNle _) ?_; intro v' w1 hown' hgrow _; have hNle : N ≤ w1.heap.size := Nat.le_trans (le_alloc hNle _) hgrow.size; have hX := (hX.alloc (.cells #[.int .i64 x] 3)).grown hgrow hlt (fun k hk => (hown.lt k hk).1) hlowN; have hown := hown'; clear hown' hgrow; have i0 := hX.c 0 0 rfl rfl; have i1 := hX.c 0 1 rfl rfl; have i2 := hX.c 0 2 rfl rfl; have i3 := hX.c 0 3 rfl rfl; have i4 := hX.c 0 4 rfl rfl; have i5 := hX.c 0 5 rfl rfl; have i6 := hX.c 0 6 rfl rfl; have i7 := hX.c 0 7 rfl rfl; have i8 := hX.c 0 8 rfl rfl; have i9 := hX.c 0 9 rfl rfl))
            go_ret2
            exact ⟨_, rfl, Nums.of_own (l := [F1, x]) hown, by first | exact hX.below | exact hBB ▸ hX.below⟩
          · skip
            show Calls _ _ _ _ fun e w' => ∃ v, e = .returned (.tuple #[v, .int .i64 0]) ∧ Nums .i64 w' v [F1, x, y] ∧ Below W0.heap.size W0 w'
            go_enter Tryd.func12, Tryd.ntmps12
            go_wp2_with fail
            have i0 := hX.c 0 0 rfl rfl; have i1 := hX.c 0 1 rfl rfl; have i2 := hX.c 0 2 rfl rfl; have i3 := hX.c 0 3 rfl rfl; have i4 := hX.c 0 4 rfl rfl; have i5 := hX.c 0 5 rfl rfl; have i6 := hX.c 0 6 rfl rfl; have i7 := hX.c 0 7 rfl rfl; have i8 := hX.c 0 8 rfl rfl; have i9 := hX.c 0 9 rfl rfl
            generalize W0.alloc (.cells #[.int .i64 o, .bool b, .int .i64 m, .int .i64 r, .int .i64 x, .int .i64 p, .int .i64 q, .int .i64 y, .int .i64 g, .int .i64 n] 28) = w1 at *
            generalize hBB : W0.heap.size = B at hX i0 i1 i2 i3 i4 i5 i6 i7 i8 i9 ⊢
            go_wp2_with (first | (go_at_call 15; with_reducible refine (hv _ hX.frm).mono ?_; rintro e w' ⟨rfl, hb⟩; have hX := hX.step hb; have i0 := hX.c 0 0 rfl rfl; have i1 := hX.c 0 1 rfl rfl; have i2 := hX.c 0 2 rfl rfl; have i3 := hX.c 0 3 rfl rfl; have i4 := hX.c 0 4 rfl rfl; have i5 := hX.c 0 5 rfl rfl; have i6 := hX.c 0 6 rfl rfl; have i7 := hX.c 0 7 rfl rfl; have i8 := hX.c 0 8 rfl rfl; have i9 := hX.c 0 9 rfl rfl; clear hb) | (go_at_call 34; with_reducible refine (hw _ hX.frm).mono ?_; rintro _ w' ⟨rfl, hb⟩; have hX := hX.step hb; clear hb; obtain ⟨N, hN⟩ : ∃ N, N = w'.heap.size := ⟨_, rfl⟩; have hlt := fun e he => hN ▸ (hX.bx e he).lt; have hlowN : W0.heap.size ≤ N := (by have := hX.below.size; omega); have hown := own_one w' 3 (.int .i64 F1) (Nat.le_of_eq hN); have hNle : N ≤ (w'.alloc (.cells #[.int .i64 F1] 3)).heap.size := le_alloc (Nat.le_of_eq hN) _; have hX := hX.alloc (.cells #[.int .i64 F1] 3); clear hN; have i0 := hX.c 0 0 rfl rfl; have i1 := hX.c 0 1 rfl rfl; have i2 := hX.c 0 2 rfl rfl; have i3 := hX.c 0 3 rfl rfl; have i4 := hX.c 0 4 rfl rfl; have i5 := hX.c 0 5 rfl rfl; have i6 := hX.c 0 6 rfl rfl; have i7 := hX.c 0 7 rfl rfl; have i8 := hX.c 0 8 rfl rfl; have i9 := hX.c 0 9 rfl rfl) | (go_at_call 28; with_reducible refine (hH1 _).mono ?_; rintro _ w' ⟨rfl, hb⟩; have hX := hX.step hb; have hown := own_step hown hb; have hNle := Nat.le_trans hNle hb.size; clear hb; have i0 := hX.c 0 0 rfl rfl; have i1 := hX.c 0 1 rfl rfl; have i2 := hX.c 0 2 rfl rfl; have i3 := hX.c 0 3 rfl rfl; have i4 := hX.c 0 4 rfl rfl; have i5 := hX.c 0 5 rfl rfl; have i6 := hX.c 0 6 rfl rfl; have i7 := hX.c 0 7 rfl rfl; have i8 := hX.c 0 8 rfl rfl; have i9 := hX.c 0 9 rfl rfl) | (go_at_call 30; with_reducible refine (hH2 _).mono ?_; rintro _ w' ⟨rfl, hb⟩; have hX := hX.step hb; have hown := own_step hown hb; have hNle := Nat.le_trans hNle hb.size; clear hb; have i0 := hX.c 0 0 rfl rfl; have i1 := hX.c 0 1 rfl rfl; have i2 := hX.c 0 2 rfl rfl; have i3 := hX.c 0 3 rfl rfl; have i4 := hX.c 0 4 rfl rfl; have i5 := hX.c 0 5 rfl rfl; have i6 := hX.c 0 6 rfl rfl; have i7 := hX.c 0 7 rfl rfl; have i8 := hX.c 0 8 rfl rfl; have i9 := hX.c 0 9 rfl rfl) | (go_at_call 29; with_reducible refine (hE1 _).mono ?_; rintro _ w' ⟨rfl, hb⟩; have hX := hX.step hb; have hown := own_step hown hb; have hNle := Nat.le_trans hNle hb.size; clear hb; have i0 := hX.c 0 0 rfl rfl; have i1 := hX.c 0 1 rfl rfl; have i2 := hX.c 0 2 rfl rfl; have i3 := hX.c 0 3 rfl rfl; have i4 := hX.c 0 4 rfl rfl; have i5 := hX.c 0 5 rfl rfl; have i6 := hX.c 0 6 rfl rfl; have i7 := hX.c 0 7 rfl rfl; have i8 := hX.c 0 8 rfl rfl; have i9 := hX.c 0 9 rfl rfl) | (go_at_call 29; with_reducible refine (hE2 _).mono ?_; rintro _ w' ⟨rfl, hb⟩; have hX := hX.step hb; have hown := own_step hown hb; have hNle := Nat.le_trans hNle hb.size; clear hb; have i0 := hX.c 0 0 rfl rfl; have i1 := hX.c 0 1 rfl rfl; have i2 := hX.c 0 2 rfl rfl; have i3 := hX.c 0 3 rfl rfl; have i4 := hX.c 0 4 rfl rfl; have i5 := hX.c 0 5 rfl rfl; have i6 := hX.c 0 6 rfl rfl; have i7 := hX.c 0 7 rfl rfl; have i8 := hX.c 0 8 rfl rfl; have i9 := hX.c 0 9 rfl rfl) | (at_builtin; refine wpList_append_own _ rfl (.tmp 19) (.tmp 23) 22 rfl N 3 ti (.int .i64 0) 1 8 Tryd.underlying22 hi hz0 hz1 hz2 rfl (by decide) _ _ _ rfl (hown.alloc _) ⟨w'.heap.size, 0, none⟩ 1 1 [.int .i64 x] rfl rfl (cell_one_new _ _ _) (fun x hx => by simp at hx; subst hx; rfl) (by unfold maxLen; omega) (by omega) (le_alloc hNle _) ?_; intro v' w1 hown' hgrow _; have hNle : N ≤ w1.heap.size := Nat.le_trans (le_alloc hNle _) hgrow.size; have hX := (hX.alloc (.cells #[.int .i64 x] 3)).grown hgrow hlt (fun k hk => (hown.lt k hk).1) hlowN; have hown := hown'; clear hown' hgrow; have i0 := hX.c 0 0 rfl rfl; have i1 := hX.c 0 1 rfl rfl; have i2 := hX.c 0 2 rfl rfl; have i3 := hX.c 0 3 rfl rfl; have i4 := hX.c 0 4 rfl rfl; have i5 := hX.c 0 5 rfl rfl; have i6 := hX.c 0 6 rfl rfl; have i7 := hX.c 0 7 rfl rfl; have i8 := hX.c 0 8 rfl rfl; have i9 := hX.c 0 9 rfl rfl) | (at_builtin; refine wpList_append_own _ rfl (.tmp 33) (.tmp 37) 22 rfl N 3 ti (.int .i64 0) 1 8 Tryd.underlying22 hi hz0 hz1 hz2 rfl (by decide) _ _ _ rfl (hown.alloc _) ⟨w'.heap.size, 0, none⟩ 1 1 [.int .i64 y] rfl rfl (cell_one_new _ _ _) (fun x hx => by simp at hx; subst hx; rfl) (by unfold maxLen; omega) (by omega) (le_alloc hNle _) ?_; intro v' w1 hown' hgrow _; have hNle : N ≤ w1.heap.size := Nat.le_trans (le_alloc hNle _) hgrow.size; have hX := (hX.alloc (.cells #[.int .i64 y] 3)).grown hgrow hlt (fun k hk => (hown.lt k hk).1) hlowN; have hown := hown'; clear hown' hgrow; have i0 := hX.c 0 0 rfl rfl; have i1 := hX.c 0 1 rfl rfl; have i2 := hX.c 0 2 rfl rfl; have i3 := hX.c 0 3 rfl rfl; have i4 := hX.c 0 4 rfl rfl; have i5 := hX.c 0 5 rfl rfl; have i6 := hX.c 0 6 rfl rfl; have i7 := hX.c 0 7 rfl rfl; have i8 := hX.c 0 8 rfl rfl; have i9 := hX.c 0 9 rfl rfl))
            go_ret2
            exact ⟨_, rfl, Nums.of_own (l := [F1, x, y]) hown, by first | exact hX.below | exact hBB ▸ hX.below⟩

theorem Nums.parts {k : IntKind} {w : World} {v : Value} {l : List Int} (h : Nums k w v l) : ∃ A c, v = .slice A l.length c := by
  obtain ⟨A, c, h, _, _⟩ := h
  exact ⟨A, c, h⟩
theorem len_wd (i : In) : ((wdR i).length : Int) = nR i := by
  unfold wdR nR
  cases exS i <;> cases exD i <;> rfl
theorem rLength_any (o : Int) (b : Bool) (m r x p q y g n : Int) {A : Addr} {c : Nat} (W0 : World) (W : Frm A c W0) : Calls Tryd.prog 17 #[.agg #[.int .i64 o, .bool b, .int .i64 m, .int .i64 r, .int .i64 x, .int .i64 p, .int .i64 q, .int .i64 y, .int .i64 g, .int .i64 n]] W0 fun e w' => e = .returned (.int .i64 (lenR ⟨o, b, m, r, x, p, q, y, g, n⟩)) ∧ Below W0.heap.size W0 w' := by
  have hX := (St.start W).put [.int .i64 o, .bool b, .int .i64 m, .int .i64 r, .int .i64 x, .int .i64 p, .int .i64 q, .int .i64 y, .int .i64 g, .int .i64 n] 28
  have hv := fun w (k : Frm A c w) => rEncode_any o b m r x p q y g n w k
  have e : ((encL ⟨o, b, m, r, x, p, q, y, g, n⟩).length : Int) = lenR ⟨o, b, m, r, x, p, q, y, g, n⟩ := by
    unfold encL lenR
    cases vR ⟨o, b, m, r, x, p, q, y, g, n⟩
    · rfl
    · exact len_wd _
  rw [← e]
  clear e
  go_enter Tryd.func17, Tryd.ntmps17
  go_wp2_with fail
  have i0 := hX.c 0 0 rfl rfl; have i1 := hX.c 0 1 rfl rfl; have i2 := hX.c 0 2 rfl rfl; have i3 := hX.c 0 3 rfl rfl; have i4 := hX.c 0 4 rfl rfl; have i5 := hX.c 0 5 rfl rfl; have i6 := hX.c 0 6 rfl rfl; have i7 := hX.c 0 7 rfl rfl; have i8 := hX.c 0 8 rfl rfl; have i9 := hX.c 0 9 rfl rfl
  generalize W0.alloc (.cells #[.int .i64 o, .bool b, .int .i64 m, .int .i64 r, .int .i64 x, .int .i64 p, .int .i64 q, .int .i64 y, .int .i64 g, .int .i64 n] 28) = w1 at *
  generalize hBB : W0.heap.size = B at hX i0 i1 i2 i3 i4 i5 i6 i7 i8 i9 ⊢
  go_wp2_with (first | (go_at_call 12; with_reducible refine (hv _ hX.frm).mono ?_; (rintro _ w' ⟨v, rfl, hN, hb⟩; have hP := hN.parts; clear hN; obtain ⟨va, vc, hvv⟩ := hP; rw [hvv]; have hX := hX.step hb; clear hb)))
  go_ret
  exact ⟨rfl, by first | exact hX.below | exact hBB ▸ hX.below⟩

theorem rPrivileged_any (o : Int) (b : Bool) (m r x p q y g n : Int) {A : Addr} {c : Nat} (W0 : World) (W : Frm A c W0) : Calls Tryd.prog 21 #[.agg #[.int .i64 o, .bool b, .int .i64 m, .int .i64 r, .int .i64 x, .int .i64 p, .int .i64 q, .int .i64 y, .int .i64 g, .int .i64 n]] W0 fun e w' => e = .returned (.bool (prR ⟨o, b, m, r, x, p, q, y, g, n⟩)) ∧ Below W0.heap.size W0 w' := by
  have hX := (St.start W).put [.int .i64 o, .bool b, .int .i64 m, .int .i64 r, .int .i64 x, .int .i64 p, .int .i64 q, .int .i64 y, .int .i64 g, .int .i64 n] 28
  have hv := fun w (k : Frm A c w) => rV_any o b m r x p q y g n w k
  have e : prR ⟨o, b, m, r, x, p, q, y, g, n⟩ = (decide (50 ≤ o ∧ o ≤ 52) && vR ⟨o, b, m, r, x, p, q, y, g, n⟩) := rfl
  rw [e]
  clear e
  generalize vR ⟨o, b, m, r, x, p, q, y, g, n⟩ = VV at *
  cases VV
  · rw [Bool.and_false]
    go_enter Tryd.func21, Tryd.ntmps21
    go_wp2_with fail
    have i0 := hX.c 0 0 rfl rfl; have i1 := hX.c 0 1 rfl rfl; have i2 := hX.c 0 2 rfl rfl; have i3 := hX.c 0 3 rfl rfl; have i4 := hX.c 0 4 rfl rfl; have i5 := hX.c 0 5 rfl rfl; have i6 := hX.c 0 6 rfl rfl; have i7 := hX.c 0 7 rfl rfl; have i8 := hX.c 0 8 rfl rfl; have i9 := hX.c 0 9 rfl rfl
    generalize W0.alloc (.cells #[.int .i64 o, .bool b, .int .i64 m, .int .i64 r, .int .i64 x, .int .i64 p, .int .i64 q, .int .i64 y, .int .i64 g, .int .i64 n] 28) = w1 at *
    generalize hBB : W0.heap.size = B at hX i0 i1 i2 i3 i4 i5 i6 i7 i8 i9 ⊢
    go_wp2_with (first | (go_at_call 15; with_reducible refine (hv _ hX.frm).mono ?_; rintro e w' ⟨rfl, hb⟩; have hX := hX.step hb; have i0 := hX.c 0 0 rfl rfl; have i1 := hX.c 0 1 rfl rfl; have i2 := hX.c 0 2 rfl rfl; have i3 := hX.c 0 3 rfl rfl; have i4 := hX.c 0 4 rfl rfl; have i5 := hX.c 0 5 rfl rfl; have i6 := hX.c 0 6 rfl rfl; have i7 := hX.c 0 7 rfl rfl; have i8 := hX.c 0 8 rfl rfl; have i9 := hX.c 0 9 rfl rfl; clear hb))
    go_ret
    exact ⟨rfl, by first | exact hX.below | exact hBB ▸ hX.below⟩
  · rw [Bool.and_true]
    have e : ∀ b : Bool, (b = true ↔ (50 ≤ o ∧ o ≤ 52)) → Ending.returned (.bool b) = .returned (.bool (decide (50 ≤ o ∧ o ≤ 52))) := fun b h => ret_bool (b_iff (by rw [decide_eq_true_eq]) h)
    go_enter Tryd.func21, Tryd.ntmps21
    go_wp2_with fail
    have i0 := hX.c 0 0 rfl rfl; have i1 := hX.c 0 1 rfl rfl; have i2 := hX.c 0 2 rfl rfl; have i3 := hX.c 0 3 rfl rfl; have i4 := hX.c 0 4 rfl rfl; have i5 := hX.c 0 5 rfl rfl; have i6 := hX.c 0 6 rfl rfl; have i7 := hX.c 0 7 rfl rfl; have i8 := hX.c 0 8 rfl rfl; have i9 := hX.c 0 9 rfl rfl
    generalize W0.alloc (.cells #[.int .i64 o, .bool b, .int .i64 m, .int .i64 r, .int .i64 x, .int .i64 p, .int .i64 q, .int .i64 y, .int .i64 g, .int .i64 n] 28) = w1 at *
    generalize hBB : W0.heap.size = B at hX i0 i1 i2 i3 i4 i5 i6 i7 i8 i9 ⊢
    go_wp2_with (first | (go_at_call 15; with_reducible refine (hv _ hX.frm).mono ?_; rintro e w' ⟨rfl, hb⟩; have hX := hX.step hb; have i0 := hX.c 0 0 rfl rfl; have i1 := hX.c 0 1 rfl rfl; have i2 := hX.c 0 2 rfl rfl; have i3 := hX.c 0 3 rfl rfl; have i4 := hX.c 0 4 rfl rfl; have i5 := hX.c 0 5 rfl rfl; have i6 := hX.c 0 6 rfl rfl; have i7 := hX.c 0 7 rfl rfl; have i8 := hX.c 0 8 rfl rfl; have i9 := hX.c 0 9 rfl rfl; clear hb))
    all_goals
      go_ret
      refine ⟨e _ ?_, by first | exact hX.below | exact hBB ▸ hX.below⟩
      clear e hX hv W
      clear i0 i1 i2 i3 i4 i5 i6 i7 i8 i9
      try simp only [beq_iff_eq, beq_eq_false_iff_ne, ne_eq] at *
      first
        | omega
        | (simp only [beq_iff_eq]; omega)
        | (simp; omega)

theorem rEnds_any (o : Int) (b : Bool) (m r x p q y g n : Int) {A : Addr} {c : Nat} (W0 : World) (W : Frm A c W0) : Calls Tryd.prog 19 #[.agg #[.int .i64 o, .bool b, .int .i64 m, .int .i64 r, .int .i64 x, .int .i64 p, .int .i64 q, .int .i64 y, .int .i64 g, .int .i64 n]] W0 fun e w' => e = .returned (.bool (endR ⟨o, b, m, r, x, p, q, y, g, n⟩)) ∧ Below W0.heap.size W0 w' := by
  have hX := (St.start W).put [.int .i64 o, .bool b, .int .i64 m, .int .i64 r, .int .i64 x, .int .i64 p, .int .i64 q, .int .i64 y, .int .i64 g, .int .i64 n] 28
  have hv := fun w (k : Frm A c w) => rV_any o b m r x p q y g n w k
  have e : endR ⟨o, b, m, r, x, p, q, y, g, n⟩ = (vR ⟨o, b, m, r, x, p, q, y, g, n⟩ && (leR o || ccR ⟨o, b, m, r, x, p, q, y, g, n⟩)) := rfl
  rw [e]
  clear e
  have hz := fun (hv : vR ⟨o, b, m, r, x, p, q, y, g, n⟩ = true) => hd_zero hv
  generalize vR ⟨o, b, m, r, x, p, q, y, g, n⟩ = VV at *
  cases VV
  · rw [Bool.false_and]
    go_enter Tryd.func19, Tryd.ntmps19
    go_wp2_with fail
    have i0 := hX.c 0 0 rfl rfl; have i1 := hX.c 0 1 rfl rfl; have i2 := hX.c 0 2 rfl rfl; have i3 := hX.c 0 3 rfl rfl; have i4 := hX.c 0 4 rfl rfl; have i5 := hX.c 0 5 rfl rfl; have i6 := hX.c 0 6 rfl rfl; have i7 := hX.c 0 7 rfl rfl; have i8 := hX.c 0 8 rfl rfl; have i9 := hX.c 0 9 rfl rfl
    generalize W0.alloc (.cells #[.int .i64 o, .bool b, .int .i64 m, .int .i64 r, .int .i64 x, .int .i64 p, .int .i64 q, .int .i64 y, .int .i64 g, .int .i64 n] 28) = w1 at *
    generalize hBB : W0.heap.size = B at hX i0 i1 i2 i3 i4 i5 i6 i7 i8 i9 ⊢
    go_wp2_with (first | (go_at_call 15; with_reducible refine (hv _ hX.frm).mono ?_; rintro e w' ⟨rfl, hb⟩; have hX := hX.step hb; have i0 := hX.c 0 0 rfl rfl; have i1 := hX.c 0 1 rfl rfl; have i2 := hX.c 0 2 rfl rfl; have i3 := hX.c 0 3 rfl rfl; have i4 := hX.c 0 4 rfl rfl; have i5 := hX.c 0 5 rfl rfl; have i6 := hX.c 0 6 rfl rfl; have i7 := hX.c 0 7 rfl rfl; have i8 := hX.c 0 8 rfl rfl; have i9 := hX.c 0 9 rfl rfl; clear hb))
    go_ret
    exact ⟨rfl, by first | exact hX.below | exact hBB ▸ hX.below⟩
  · rw [Bool.true_and]
    have hz := hz rfl
    have iB := isB_iff o
    have iD := hd_iff o
    have j1 := fun w => isbranch_any o w
    have j2 := fun w => hasdst_any o w
    have ec : (leR o || ccR ⟨o, b, m, r, x, p, q, y, g, n⟩) = true ↔ (((26 ≤ o ∧ o ≤ 52) ∨ o = 56) ∨ ((o = 8 ∨ o = 9 ∨ o = 10) ∧ 6 ≤ g) ∨ ((¬ (o = 8 ∨ o = 9 ∨ o = 10) ∧ ¬ (o = 2 ∨ o = 3 ∨ o = 19)) ∧ (p = 0 ∧ q = 7))) := by
      unfold leR ccR
      by_cases t1 : o = 8 ∨ o = 9 ∨ o = 10
      · simp only [if_pos t1, Bool.or_eq_true, decide_eq_true_eq]; omega
      · by_cases t2 : o = 2 ∨ o = 3 ∨ o = 19
        · simp only [if_neg t1, if_pos t2, Bool.or_eq_true, decide_eq_true_eq, Bool.false_eq_true, or_false]; omega
        · simp only [if_neg t1, if_neg t2, Bool.or_eq_true, decide_eq_true_eq]; omega
    have e : ∀ b : Bool, (b = true ↔ (((26 ≤ o ∧ o ≤ 52) ∨ o = 56) ∨ ((o = 8 ∨ o = 9 ∨ o = 10) ∧ 6 ≤ g) ∨ ((¬ (o = 8 ∨ o = 9 ∨ o = 10) ∧ ¬ (o = 2 ∨ o = 3 ∨ o = 19)) ∧ (p = 0 ∧ q = 7)))) → Ending.returned (.bool b) = .returned (.bool (leR o || ccR ⟨o, b, m, r, x, p, q, y, g, n⟩)) := fun b h => ret_bool (b_iff ec h)
    clear ec
    replace hz : ¬ ((1 ≤ o ∧ o ≤ 7) ∨ (11 ≤ o ∧ o ≤ 25) ∨ o = 41 ∨ o = 42 ∨ o = 56) → q = 0 := fun k => (hz (Bool.eq_false_iff.2 (fun h => k (iD.1 h)))).2.1
    generalize isB o = IB at *
    generalize hdR o = ID at *
    replace iB := hid iB
    replace iD := hid iD
    replace hz := hid hz
    cases IB <;> cases ID
    all_goals
      go_enter Tryd.func19, Tryd.ntmps19
      go_wp2_with fail
      have i0 := hX.c 0 0 rfl rfl; have i1 := hX.c 0 1 rfl rfl; have i2 := hX.c 0 2 rfl rfl; have i3 := hX.c 0 3 rfl rfl; have i4 := hX.c 0 4 rfl rfl; have i5 := hX.c 0 5 rfl rfl; have i6 := hX.c 0 6 rfl rfl; have i7 := hX.c 0 7 rfl rfl; have i8 := hX.c 0 8 rfl rfl; have i9 := hX.c 0 9 rfl rfl
      generalize W0.alloc (.cells #[.int .i64 o, .bool b, .int .i64 m, .int .i64 r, .int .i64 x, .int .i64 p, .int .i64 q, .int .i64 y, .int .i64 g, .int .i64 n] 28) = w1 at *
      generalize hBB : W0.heap.size = B at hX i0 i1 i2 i3 i4 i5 i6 i7 i8 i9 ⊢
      go_wp2_with (first | (go_at_call 15; with_reducible refine (hv _ hX.frm).mono ?_; rintro e w' ⟨rfl, hb⟩; have hX := hX.step hb; have i0 := hX.c 0 0 rfl rfl; have i1 := hX.c 0 1 rfl rfl; have i2 := hX.c 0 2 rfl rfl; have i3 := hX.c 0 3 rfl rfl; have i4 := hX.c 0 4 rfl rfl; have i5 := hX.c 0 5 rfl rfl; have i6 := hX.c 0 6 rfl rfl; have i7 := hX.c 0 7 rfl rfl; have i8 := hX.c 0 8 rfl rfl; have i9 := hX.c 0 9 rfl rfl; clear hb) | (go_at_call 42; with_reducible refine (j1 _).mono ?_; rintro e w' ⟨rfl, hb⟩; have hX := hX.step hb; have i0 := hX.c 0 0 rfl rfl; have i1 := hX.c 0 1 rfl rfl; have i2 := hX.c 0 2 rfl rfl; have i3 := hX.c 0 3 rfl rfl; have i4 := hX.c 0 4 rfl rfl; have i5 := hX.c 0 5 rfl rfl; have i6 := hX.c 0 6 rfl rfl; have i7 := hX.c 0 7 rfl rfl; have i8 := hX.c 0 8 rfl rfl; have i9 := hX.c 0 9 rfl rfl; clear hb) | (go_at_call 30; with_reducible refine (j2 _).mono ?_; rintro e w' ⟨rfl, hb⟩; have hX := hX.step hb; have i0 := hX.c 0 0 rfl rfl; have i1 := hX.c 0 1 rfl rfl; have i2 := hX.c 0 2 rfl rfl; have i3 := hX.c 0 3 rfl rfl; have i4 := hX.c 0 4 rfl rfl; have i5 := hX.c 0 5 rfl rfl; have i6 := hX.c 0 6 rfl rfl; have i7 := hX.c 0 7 rfl rfl; have i8 := hX.c 0 8 rfl rfl; have i9 := hX.c 0 9 rfl rfl; clear hb))
      all_goals
        go_ret
        refine ⟨e _ ?_, by first | exact hX.below | exact hBB ▸ hX.below⟩
        unfold Hid at iB iD hz
        clear e hX hv W j1 j2
        clear i0 i1 i2 i3 i4 i5 i6 i7 i8 i9
        try simp only [beq_iff_eq, beq_eq_false_iff_ne, ne_eq, Bool.false_eq_true, false_iff, true_iff] at *
        first
          | omega
          | (simp only [decide_eq_true_eq, beq_iff_eq, Bool.false_eq_true, false_iff, true_iff]; omega)
          | (simp; omega)

end Go.Proofs.YtlaikajgpgpidaaDoor
