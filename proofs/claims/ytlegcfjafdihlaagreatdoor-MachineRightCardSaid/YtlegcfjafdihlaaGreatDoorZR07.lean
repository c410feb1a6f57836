import Derived.Test.YtlegcfjafdihlaaGreatDoorZR05
/-
  Right, Fair of the reference. Condition: at most 2^40 sectors and bad ones.
-/
namespace Go.Proofs.YtlegcfjafdihlaaGreatDoor
open Go.RowKit
set_option linter.unusedSimpArgs false
set_option linter.unusedVariables false
set_option maxHeartbeats 4000000
set_option maxRecDepth 100000
attribute [local irreducible] wpQuiet

theorem rrightD_any (D : Drv) (hl : D.B.length ≤ 1099511627776) (hl2 : D.S.length ≤ 1099511627776) (vs vb : Value) (w : World) (hs : Sts w vs D.S) (hb : Its w vb D.B) : Calls Tryz.prog 133 #[.agg #[vs, vb]] w fun e w' => e = .returned (.bool D.right) ∧ Below w.heap.size w w' := by
  obtain ⟨A, c, rfl, _, hc⟩ := hs.form
  obtain ⟨A2, c2, rfl, _, hc2⟩ := hb.form
  have hX := (Bag.nil w).new 43 [.slice A D.S.length c, .slice A2 D.B.length c2]
  have hri := right_iff D
  obtain ⟨S, B⟩ := D
  dsimp only at hri hc hc2 hX hl hl2 ⊢
  clear hb hs
  generalize hR : Drv.right ⟨S, B⟩ = r at *
  clear hR
  by_cases h1 : S.length < 1
  · have hr : r = false := by cases r <;> simp_all
    subst hr
    have d1 : decide ((S.length : Int) < 1) = true := decide_eq_true (by omega)
    have d1n : decide (S.length < 1) = true := decide_eq_true h1
    clear hri hc hc2
    go_enter Tryz.func133, Tryz.ntmps133
    go_wp2_with (first | ((with_reducible refine at_load ?_); refine wpList_bag_cell hX slS_cell _ rfl rfl rfl rfl (by first | exact .head _) rfl ?_) | ((with_reducible refine at_load ?_); refine wpList_bag_cell hX slI_cell _ rfl rfl rfl rfl (by first | exact .head _) rfl ?_))
    go_ret
    exact ⟨rfl, hX.below⟩
  have d1 : decide ((S.length : Int) < 1) = false := decide_eq_false (by omega)
  have d1n : decide (S.length < 1) = false := decide_eq_false h1
  by_cases h2 : 256 < S.length
  · have hr : r = false := by cases r; rfl; have := (hri.1 rfl).2.1; omega
    subst hr
    have d2 : decide ((256 : Int) < (S.length : Int)) = true := decide_eq_true (by omega)
    have d2n : decide (256 < S.length) = true := decide_eq_true h2
    clear hri hc hc2
    go_enter Tryz.func133, Tryz.ntmps133
    go_wp2_with (first | ((with_reducible refine at_load ?_); refine wpList_bag_cell hX slS_cell _ rfl rfl rfl rfl (by first | exact .head _) rfl ?_) | ((with_reducible refine at_load ?_); refine wpList_bag_cell hX slI_cell _ rfl rfl rfl rfl (by first | exact .head _) rfl ?_))
    go_ret
    exact ⟨rfl, hX.below⟩
  have d2 : decide ((256 : Int) < (S.length : Int)) = false := decide_eq_false (by omega)
  have d2n : decide (256 < S.length) = false := decide_eq_false h2
  go_enter Tryz.func133, Tryz.ntmps133
  go_wp2_with (first | ((with_reducible refine at_load ?_); refine wpList_bag_cell hX slS_cell _ rfl rfl rfl rfl (by first | exact .head _) rfl ?_) | ((with_reducible refine at_load ?_); refine wpList_bag_cell hX slI_cell _ rfl rfl rfl rfl (by first | exact .head _) rfl ?_))
  clear d1 d1n d2 d2n
  go_loopw [3] (fun iv wr => ∃ i : Nat, i ≤ S.length ∧ iv = .int .i64 i ∧ Hid (∀ (j : Nat) s, j < i → S[j]? = some s → s.size = 128) ∧ Bag [(w.heap.size, 43, [.slice A S.length c, .slice A2 B.length c2])] w wr) (fun i _ => match i with | .int _ q => S.length - q.toNat | _ => 0)
  case atStart => exact ⟨0, Nat.zero_le _, rfl, fun j s hj => absurd hj (Nat.not_lt_zero j), hX⟩
  case round =>
    clear hX
    obtain ⟨i, hi, rfl, hN, hX⟩ := hrel
    by_cases hin : i < S.length
    · have hii : (i : Int) < (S.length : Int) := by omega
      have hx := List.getElem?_eq_getElem hin
      have hm := List.getElem_mem hin
      generalize S[i] = x at *
      obtain ⟨a, rfl, hL⟩ := hc i x hx
      by_cases hsz : x.size = 128
      · have hsb : ((x.size : Int) != 128) = false := by simp; omega
        have hN2 : Hid (∀ (j : Nat) s, j < i + 1 → S[j]? = some s → s.size = 128) := fun j s hj hs => by
          rcases (by omega : j < i ∨ j = i) with h | rfl
          · exact (show ∀ (j : Nat) s, j < i → S[j]? = some s → s.size = 128 from hN) j s h hs
          · rw [hx] at hs; cases hs; exact hsz
        have hszi : (x.size : Int) = 128 := by omega
        clear hN hx hsz hc hri hc2 hm
        go_wp2_with (first | ((with_reducible refine at_load ?_); refine wpList_bag_cell hX slS_cell _ rfl rfl rfl rfl (by first | exact .head _) rfl ?_) | ((with_reducible refine at_load ?_); refine wpList_bag_cell hX slI_cell _ rfl rfl rfl rfl (by first | exact .head _) rfl ?_) | ((with_reducible refine at_load ?_); refine wpList_loadW rfl 9 _ _ _ rfl rfl (hL _ hX.below) ?_))
        exact ⟨⟨i + 1, by omega, by go_num, hN2, hX⟩, by simp only; omega⟩
      · have hsb : ((x.size : Int) != 128) = true := by simp; omega
        have hr : r = false := by cases r; rfl; exact absurd ((hri.1 rfl).2.2.1 x hm) hsz
        subst hr
        clear hN hx hsz hc hri hc2 hm
        go_wp2_with (first | ((with_reducible refine at_load ?_); refine wpList_bag_cell hX slS_cell _ rfl rfl rfl rfl (by first | exact .head _) rfl ?_) | ((with_reducible refine at_load ?_); refine wpList_bag_cell hX slI_cell _ rfl rfl rfl rfl (by first | exact .head _) rfl ?_) | ((with_reducible refine at_load ?_); refine wpList_loadW rfl 9 _ _ _ rfl rfl (hL _ hX.below) ?_))
        go_ret
        exact ⟨rfl, hX.below⟩
    · have hii : ¬ (i : Int) < (S.length : Int) := by omega
      have hall : ∀ s ∈ S, s.size = 128 := fun s hs => by
        obtain ⟨j, hj⟩ := List.mem_iff_getElem?.1 hs
        have hjl : j < S.length := (List.getElem?_eq_some_iff.1 hj).1
        exact (show ∀ (j : Nat) s, j < i → S[j]? = some s → s.size = 128 from hN) j s (by omega) hj
      have hri2 : r = true ↔ okB S.length B = true := ⟨fun h => (hri.1 h).2.2.2, fun h => hri.2 ⟨by omega, by omega, hall, h⟩⟩
      clear hri hall hN hc
      obtain ⟨iv, hiv⟩ : ∃ iv : Int, (i : Int) = iv := ⟨_, rfl⟩
      go_wp2_with (first | ((with_reducible refine at_load ?_); refine wpList_bag_cell hX slS_cell _ rfl rfl rfl rfl (by first | exact .head _) rfl ?_) | ((with_reducible refine at_load ?_); refine wpList_bag_cell hX slI_cell _ rfl rfl rfl rfl (by first | exact .head _) rfl ?_))
      go_loopw [4] (fun iv wr => ∃ i : Nat, i ≤ B.length ∧ iv = .int .i64 i ∧ Hid (∀ j : Nat, j < i → okAt S.length B j = true) ∧ Bag [(w.heap.size, 43, [.slice A S.length c, .slice A2 B.length c2])] w wr) (fun i _ => match i with | .int _ q => B.length - q.toNat | _ => 0)
      case atStart => exact ⟨0, Nat.zero_le _, rfl, fun j hj => absurd hj (Nat.not_lt_zero j), hX⟩
      case round =>
        clear hX
        obtain ⟨k, hk, rfl, hN, hX⟩ := hrel
        by_cases hkn : k < B.length
        · have hki : (k : Int) < (B.length : Int) := by omega
          have hx := List.getElem?_eq_getElem hkn
          have hgx : B.getD k 0 = B[k] := by rw [List.getD_eq_getElem?_getD, hx]; rfl
          generalize B[k] = x at *
          obtain ⟨a, rfl, hL⟩ := hc2 k x hx
          have hko := okAt_iff S.length B k
          rw [hgx] at hko
          have hrf : okAt S.length B k = false → r = false := fun h => by
            cases r
            · rfl
            · have := (okB_iff _ _).1 (hri2.1 rfl) k hkn; rw [h] at this; cases this
          have hN2 : okAt S.length B k = true → Hid (∀ j : Nat, j < k + 1 → okAt S.length B j = true) := fun h j hj => by
            rcases (by omega : j < k ∨ j = k) with h' | rfl
            · exact (show ∀ j : Nat, j < k → okAt S.length B j = true from hN) j h'
            · exact h
          by_cases q0 : x < 0
          · have d0 : decide (x < 0) = true := decide_eq_true q0
            have hr : r = false := hrf (by cases h : okAt S.length B k; rfl; have := hko.1 h; omega)
            subst hr
            clear hrf hN2 hko hN hri2 hc2 hx hgx
            go_wp2_with (first | ((with_reducible refine at_load ?_); refine wpList_bag_cell hX slS_cell _ rfl rfl rfl rfl (by first | exact .head _) rfl ?_) | ((with_reducible refine at_load ?_); refine wpList_bag_cell hX slI_cell _ rfl rfl rfl rfl (by first | exact .head _) rfl ?_))
            refine region_class (fun w' => Bag [(w.heap.size, 43, [.slice A S.length c, .slice (some a) B.length c2])] w w') (by kernel_rfl) (by kernel_rfl) hX.drew ?_
            repeat
              first
                | (refine BigFrame.wpQuiet_skip (by rfl) ?_
                   simp only [Act.put, List.setIfInBounds_toArray, List.set_cons_zero, List.set_cons_succ])
                | (refine BigFrame.wpQuiet_want (by rfl) (fun K hK => ?_)
                   apply Exists.intro
                   refine ⟨fun wq hq => ?_, hK _ ?_⟩
                   · first
                       | (refine quiet_load 41 _ _ _ rfl rfl ((hq.all _ _ _ (.head _)).loadCell rfl slS_cell))
                       | (refine quiet_load 31 _ _ _ rfl rfl ((hq.all _ _ _ (.head _)).loadCell rfl slI_cell))
                       | (refine quiet_load 3 _ _ _ rfl rfl (hL _ hq.below))
                       | (unfold Oper.quietAt
                          go_simp
                          first
                            | with_reducible rfl
                         )
                   clear hK K
                   simp only [Act.put, List.setIfInBounds_toArray, List.set_cons_zero, List.set_cons_succ])
            refine wpQuiet_nil ?_
            intro w4 hX
            go_wp2
            go_ret
            exact ⟨rfl, hX.below⟩
          have d0 : decide (x < 0) = false := decide_eq_false q0
          by_cases q1 : (S.length : Int) ≤ x
          · have d1 : decide ((S.length : Int) ≤ x) = true := decide_eq_true q1
            have hr : r = false := hrf (by cases h : okAt S.length B k; rfl; have := hko.1 h; omega)
            subst hr
            clear hrf hN2 hko hN hri2 hc2 hx hgx
            go_wp2_with (first | ((with_reducible refine at_load ?_); refine wpList_bag_cell hX slS_cell _ rfl rfl rfl rfl (by first | exact .head _) rfl ?_) | ((with_reducible refine at_load ?_); refine wpList_bag_cell hX slI_cell _ rfl rfl rfl rfl (by first | exact .head _) rfl ?_))
            refine region_class (fun w' => Bag [(w.heap.size, 43, [.slice A S.length c, .slice (some a) B.length c2])] w w') (by kernel_rfl) (by kernel_rfl) hX.drew ?_
            repeat
              first
                | (refine BigFrame.wpQuiet_skip (by rfl) ?_
                   simp only [Act.put, List.setIfInBounds_toArray, List.set_cons_zero, List.set_cons_succ])
                | (refine BigFrame.wpQuiet_want (by rfl) (fun K hK => ?_)
                   apply Exists.intro
                   refine ⟨fun wq hq => ?_, hK _ ?_⟩
                   · first
                       | (refine quiet_load 41 _ _ _ rfl rfl ((hq.all _ _ _ (.head _)).loadCell rfl slS_cell))
                       | (refine quiet_load 31 _ _ _ rfl rfl ((hq.all _ _ _ (.head _)).loadCell rfl slI_cell))
                       | (refine quiet_load 3 _ _ _ rfl rfl (hL _ hq.below))
                       | (unfold Oper.quietAt
                          go_simp
                          first
                            | with_reducible rfl
                         )
                   clear hK K
                   simp only [Act.put, List.setIfInBounds_toArray, List.set_cons_zero, List.set_cons_succ])
            refine wpQuiet_nil ?_
            intro w4 hX
            go_wp2
            go_ret
            exact ⟨rfl, hX.below⟩
          have d1 : decide ((S.length : Int) ≤ x) = false := decide_eq_false q1
          by_cases q2 : k = 0
          · subst q2
            have hok := hN2 (hko.2 ⟨by omega, by omega, .inl rfl⟩)
            clear hrf hN2 hko hN hri2 hc2 hx hgx
            go_wp2_with (first | ((with_reducible refine at_load ?_); refine wpList_bag_cell hX slS_cell _ rfl rfl rfl rfl (by first | exact .head _) rfl ?_) | ((with_reducible refine at_load ?_); refine wpList_bag_cell hX slI_cell _ rfl rfl rfl rfl (by first | exact .head _) rfl ?_))
            refine region_class (fun w' => Bag [(w.heap.size, 43, [.slice A S.length c, .slice (some a) B.length c2])] w w') (by kernel_rfl) (by kernel_rfl) hX.drew ?_
            repeat
              first
                | (refine BigFrame.wpQuiet_skip (by rfl) ?_
                   simp only [Act.put, List.setIfInBounds_toArray, List.set_cons_zero, List.set_cons_succ])
                | (refine BigFrame.wpQuiet_want (by rfl) (fun K hK => ?_)
                   apply Exists.intro
                   refine ⟨fun wq hq => ?_, hK _ ?_⟩
                   · first
                       | (refine quiet_load 41 _ _ _ rfl rfl ((hq.all _ _ _ (.head _)).loadCell rfl slS_cell))
                       | (refine quiet_load 31 _ _ _ rfl rfl ((hq.all _ _ _ (.head _)).loadCell rfl slI_cell))
                       | (refine quiet_load 3 _ _ _ rfl rfl (hL _ hq.below))
                       | (unfold Oper.quietAt
                          go_simp
                          first
                            | with_reducible rfl
                         )
                   clear hK K
                   simp only [Act.put, List.setIfInBounds_toArray, List.set_cons_zero, List.set_cons_succ])
            refine wpQuiet_nil ?_
            intro w4 hX
            go_wp2
            exact ⟨⟨1, by omega, rfl, hok, hX⟩, by simp only; omega⟩
          obtain ⟨j, hkj⟩ : ∃ j, k = j + 1 := ⟨k - 1, by omega⟩
          have d2 : decide ((0 : Int) < (k : Int)) = true := decide_eq_true (by omega)
          have d2n : decide (0 < k) = true := decide_eq_true (by omega)
          have hw1 : IntKind.i64.wrap ((k : Int) - 1) = (j : Int) := by rw [wrap_i64]; unfold wrap64; omega
          have hy := List.getElem?_eq_getElem (show j < B.length by omega)
          have hkj1 : k - 1 = j := by omega
          have hgy : B.getD (k - 1) 0 = B[j] := by rw [hkj1, List.getD_eq_getElem?_getD, hy]; rfl
          rw [hgy] at hko
          generalize B[j] = y at *
          obtain ⟨a', ha', hL2⟩ := hc2 j y hy
          cases ha'
          have hji : (j : Int) < (B.length : Int) := by omega
          by_cases q3 : x ≤ y
          · have d3 : decide (x ≤ y) = true := decide_eq_true q3
            have hr : r = false := hrf (by cases h : okAt S.length B k; rfl; have := hko.1 h; omega)
            subst hr
            clear hrf hN2 hko hN hri2 hc2 hx hgx hy hgy hkj hkj1
            go_wp2_with (first | ((with_reducible refine at_load ?_); refine wpList_bag_cell hX slS_cell _ rfl rfl rfl rfl (by first | exact .head _) rfl ?_) | ((with_reducible refine at_load ?_); refine wpList_bag_cell hX slI_cell _ rfl rfl rfl rfl (by first | exact .head _) rfl ?_))
            refine region_class (fun w' => Bag [(w.heap.size, 43, [.slice A S.length c, .slice (some a) B.length c2])] w w') (by kernel_rfl) (by kernel_rfl) hX.drew ?_
            repeat
              first
                | (refine BigFrame.wpQuiet_skip (by rfl) ?_
                   simp only [Act.put, List.setIfInBounds_toArray, List.set_cons_zero, List.set_cons_succ])
                | (refine BigFrame.wpQuiet_want (by rfl) (fun K hK => ?_)
                   apply Exists.intro
                   refine ⟨fun wq hq => ?_, hK _ ?_⟩
                   · first
                       | (refine quiet_load 41 _ _ _ rfl rfl ((hq.all _ _ _ (.head _)).loadCell rfl slS_cell))
                       | (refine quiet_load 31 _ _ _ rfl rfl ((hq.all _ _ _ (.head _)).loadCell rfl slI_cell))
                       | (refine quiet_load 3 _ _ _ rfl rfl (hL _ hq.below))
                       | (refine quiet_load 3 _ _ _ rfl rfl (hL2 _ hq.below))
                       | (unfold Oper.quietAt
                          go_simp
                          first
                            | with_reducible rfl
                         )
                   clear hK K
                   simp only [Act.put, List.setIfInBounds_toArray, List.set_cons_zero, List.set_cons_succ])
            refine wpQuiet_nil ?_
            intro w4 hX
            go_wp2
            go_ret
            exact ⟨rfl, hX.below⟩
          · have d3 : decide (x ≤ y) = false := decide_eq_false q3
            have hok := hN2 (hko.2 ⟨by omega, by omega, .inr (by omega)⟩)
            clear hrf hN2 hko hN hri2 hc2 hx hgx hy hgy hkj hkj1
            go_wp2_with (first | ((with_reducible refine at_load ?_); refine wpList_bag_cell hX slS_cell _ rfl rfl rfl rfl (by first | exact .head _) rfl ?_) | ((with_reducible refine at_load ?_); refine wpList_bag_cell hX slI_cell _ rfl rfl rfl rfl (by first | exact .head _) rfl ?_))
            refine region_class (fun w' => Bag [(w.heap.size, 43, [.slice A S.length c, .slice (some a) B.length c2])] w w') (by kernel_rfl) (by kernel_rfl) hX.drew ?_
            repeat
              first
                | (refine BigFrame.wpQuiet_skip (by rfl) ?_
                   simp only [Act.put, List.setIfInBounds_toArray, List.set_cons_zero, List.set_cons_succ])
                | (refine BigFrame.wpQuiet_want (by rfl) (fun K hK => ?_)
                   apply Exists.intro
                   refine ⟨fun wq hq => ?_, hK _ ?_⟩
                   · first
                       | (refine quiet_load 41 _ _ _ rfl rfl ((hq.all _ _ _ (.head _)).loadCell rfl slS_cell))
                       | (refine quiet_load 31 _ _ _ rfl rfl ((hq.all _ _ _ (.head _)).loadCell rfl slI_cell))
                       | (refine quiet_load 3 _ _ _ rfl rfl (hL _ hq.below))
                       | (refine quiet_load 3 _ _ _ rfl rfl (hL2 _ hq.below))
                       | (unfold Oper.quietAt
                          go_simp
                          first
                            | with_reducible rfl
                         )
                   clear hK K
                   simp only [Act.put, List.setIfInBounds_toArray, List.set_cons_zero, List.set_cons_succ])
            refine wpQuiet_nil ?_
            intro w4 hX
            go_wp2
            exact ⟨⟨k + 1, by omega, by go_num, hok, hX⟩, by simp only; omega⟩
        · have hki : ¬ (k : Int) < (B.length : Int) := by omega
          have hr : r = true := hri2.2 ((okB_iff _ _).2 fun j hj => (show ∀ j : Nat, j < k → okAt S.length B j = true from hN) j (by omega))
          subst hr
          clear hri2 hN hc2
          go_wp2_with (first | ((with_reducible refine at_load ?_); refine wpList_bag_cell hX slS_cell _ rfl rfl rfl rfl (by first | exact .head _) rfl ?_) | ((with_reducible refine at_load ?_); refine wpList_bag_cell hX slI_cell _ rfl rfl rfl rfl (by first | exact .head _) rfl ?_))
          go_ret
          exact ⟨rfl, hX.below⟩
end Go.Proofs.YtlegcfjafdihlaaGreatDoor
