/-
  Diff of the program. Condition: at most 2^40 sectors.
-/
import Derived.Test.YtohfniejflibmaaDvU
namespace Go.Proofs.Ytohfniejflibmaa
open Go.RowKit
set_option linter.unusedSimpArgs false
set_option linter.unusedVariables false
set_option maxHeartbeats 4000000
set_option maxRecDepth 100000
attribute [local irreducible] wpQuiet
theorem pdiff_any (D E : Drv) (hl : D.S.length ≤ 1099511627776) (hl2 : E.S.length ≤ 1099511627776) (vs vb vs2 vb2 : Value) (w : World) (X : Nat → Prop) (hXl : ∀ b, X b → b < w.heap.size) (hs : Sts w vs D.S) (hs2 : Sts w vs2 E.S) : Calls Try.prog 27 #[.agg #[vs, vb], .agg #[vs2, vb2]] w fun e w' => ∃ v, e = .returned v ∧ ItsX X w' v (dfV D.S E.S) ∧ Below w.heap.size w w' := by
  obtain ⟨A, c, rfl, _, hc⟩ := hs.form
  obtain ⟨A2, c2, rfl, _, hc2⟩ := hs2.form
  have hX := two_dv w [.slice A D.S.length c, vb] [.slice A2 E.S.length c2, vb2]
  clear hs hs2
  rw [df_dk]
  go_enter Try.func27, Try.ntmps27
  go_wp2_with (first | ((with_reducible refine at_load ?_); refine wpList_bag_cell hX slS_cell _ rfl rfl rfl rfl (by first | exact .head _ | exact .tail _ (.head _)) rfl ?_) | ((with_reducible refine at_load ?_); refine wpList_bag_cell hX slI_cell _ rfl rfl rfl rfl (by first | exact .head _ | exact .tail _ (.head _)) rfl ?_))
  trace_state
  go_loopw [5, 6, 14] (fun v sv iv wr => ∃ (k : Nat) (v' : Value), k ≤ max D.S.length E.S.length ∧ v' = v ∧ iv = .int .i64 k ∧ wr.ownsRow (w.heap.size + 2) 3 1 v' (dk D.S E.S k).length ((dk D.S E.S k).map (Value.int .i64)) ∧ Bag [(w.heap.size + 1, 25, [.slice A2 E.S.length c2, vb2]), (w.heap.size, 25, [.slice A D.S.length c, vb])] w wr) (fun _ _ iv _ => match iv with | .int _ q => max D.S.length E.S.length - q.toNat | _ => 0)
  case atStart => exact ⟨0, _, Nat.zero_le _, rfl, rfl, World.ownsRow_nil _ _ _ _, hX⟩
  case round =>
    clear hX
    obtain ⟨k, v, hk, rfl, rfl, hown, hX⟩ := hrel
    have hA := fun w => phas_any A D.S.length c vb (k : Int) w
    have hE := fun w => phas_any A2 E.S.length c2 vb2 (k : Int) w
    by_cases hkm : k < max D.S.length E.S.length
    · have hkm2 : (k : Int) < ((max D.S.length E.S.length : Nat) : Int) := by omega
      by_cases hka : k < D.S.length
      · have ai : (k : Int) < (D.S.length : Int) := by omega
        rw [show hasV D.S.length (k : Int) = true from (hasV_iff _ _).2 (by omega)] at hA
        have hx := List.getElem?_eq_getElem hka
        generalize D.S[k] = x at *
        obtain ⟨a, rfl, hL⟩ := hc k x hx
        by_cases hkb : k < E.S.length
        · have bi : (k : Int) < (E.S.length : Int) := by omega
          rw [show hasV E.S.length (k : Int) = true from (hasV_iff _ _).2 (by omega)] at hE
          have hy := List.getElem?_eq_getElem hkb
          generalize E.S[k] = y at *
          obtain ⟨a2, rfl, hL2⟩ := hc2 k y hy
          by_cases hxy : x = y
          · have hdk : D.S[k]? = E.S[k]? := by rw [hx, hy, hxy]
            have hne : (x.toList == y.toList) = true := str_eq hxy
            have hne2 : (!(x.toList == y.toList)) = false := by rw [hne]; rfl
            have hk1 := hid (dk_eq hdk)
            clear hdk hx hy hxy hc hc2
            go_wp2_with (first | ((with_reducible refine at_load ?_); refine wpList_bag_cell hX slS_cell _ rfl rfl rfl rfl (by first | exact .head _ | exact .tail _ (.head _)) rfl ?_) | ((with_reducible refine at_load ?_); refine wpList_bag_cell hX slI_cell _ rfl rfl rfl rfl (by first | exact .head _ | exact .tail _ (.head _)) rfl ?_))
            refine region_class (fun w' => Bag [(w.heap.size + 1, 25, [.slice (some a2) E.S.length c2, vb2]), (w.heap.size, 25, [.slice (some a) D.S.length c, vb])] w w' ∧ w'.ownsRow (w.heap.size + 2) 3 1 v (dk D.S E.S k).length ((dk D.S E.S k).map (Value.int .i64))) (by kernel_rfl) (by kernel_rfl) ⟨hX.drew, World.ownsRow.drew hown⟩ ?_
            repeat
              first
                | (refine BigFrame.wpQuiet_skip (by rfl) ?_
                   simp only [Act.put, List.setIfInBounds_toArray, List.set_cons_zero, List.set_cons_succ])
                | (refine BigFrame.wpQuiet_want (by rfl) (fun K hK => ?_)
                   apply Exists.intro
                   refine ⟨fun wq hq => ?_, hK _ ?_⟩
                   · first
                       | (refine quiet_load 25 _ _ _ rfl rfl ((hq.1.all _ _ _ (.head _)).loadAt rfl aggD sizD))
                       | (refine quiet_load 25 _ _ _ rfl rfl ((hq.1.all _ _ _ (.tail _ (.head _))).loadAt rfl aggD sizD))
                       | (refine quiet_load 22 _ _ _ rfl rfl ((hq.1.all _ _ _ (.head _)).loadCell rfl slS_cell))
                       | (refine quiet_load 22 _ _ _ rfl rfl ((hq.1.all _ _ _ (.tail _ (.head _))).loadCell rfl slS_cell))
                       | (refine quiet_load 9 _ _ _ rfl rfl (hL _ hq.1.below))
                       | (refine quiet_load 9 _ _ _ rfl rfl (hL2 _ hq.1.below))
                       | (unfold Oper.quietAt
                          go_simp
                          first
                            | with_reducible rfl
                            | ((go_at_call 33); with_reducible refine (hA _).mono ?_; exact fun e w' ⟨he, hw⟩ => ⟨he, ⟨Bag.step hq.1 hw, own_step hq.2 hw⟩⟩)
                            | ((go_at_call 33); with_reducible refine (hE _).mono ?_; exact fun e w' ⟨he, hw⟩ => ⟨he, ⟨Bag.step hq.1 hw, own_step hq.2 hw⟩⟩)
                         )
                   clear hK K
                   simp only [Act.put, List.setIfInBounds_toArray, List.set_cons_zero, List.set_cons_succ])
            refine wpQuiet_nil ?_
            intro w4 ⟨hX, hown⟩
            go_wp2
            exact ⟨⟨k + 1, v, by omega, rfl, by go_num, by rw [show dk D.S E.S (k + 1) = _ from hk1]; exact hown, hX⟩, by simp only; omega⟩
          · have hdk : D.S[k]? ≠ E.S[k]? := by rw [hx, hy]; intro h; exact hxy (Option.some.inj h)
            have hne : (x.toList == y.toList) = false := str_ne hxy
            have hne2 : (!(x.toList == y.toList)) = true := by rw [hne]; rfl
            have hk1 := hid (dk_ne hdk)
            clear hdk hx hy hxy hc hc2
            go_wp2_with (first | ((with_reducible refine at_load ?_); refine wpList_bag_cell hX slS_cell _ rfl rfl rfl rfl (by first | exact .head _ | exact .tail _ (.head _)) rfl ?_) | ((with_reducible refine at_load ?_); refine wpList_bag_cell hX slI_cell _ rfl rfl rfl rfl (by first | exact .head _ | exact .tail _ (.head _)) rfl ?_))
            refine region_class (fun w' => Bag [(w.heap.size + 1, 25, [.slice (some a2) E.S.length c2, vb2]), (w.heap.size, 25, [.slice (some a) D.S.length c, vb])] w w' ∧ w'.ownsRow (w.heap.size + 2) 3 1 v (dk D.S E.S k).length ((dk D.S E.S k).map (Value.int .i64))) (by kernel_rfl) (by kernel_rfl) ⟨hX.drew, World.ownsRow.drew hown⟩ ?_
            repeat
              first
                | (refine BigFrame.wpQuiet_skip (by rfl) ?_
                   simp only [Act.put, List.setIfInBounds_toArray, List.set_cons_zero, List.set_cons_succ])
                | (refine BigFrame.wpQuiet_want (by rfl) (fun K hK => ?_)
                   apply Exists.intro
                   refine ⟨fun wq hq => ?_, hK _ ?_⟩
                   · first
                       | (refine quiet_load 25 _ _ _ rfl rfl ((hq.1.all _ _ _ (.head _)).loadAt rfl aggD sizD))
                       | (refine quiet_load 25 _ _ _ rfl rfl ((hq.1.all _ _ _ (.tail _ (.head _))).loadAt rfl aggD sizD))
                       | (refine quiet_load 22 _ _ _ rfl rfl ((hq.1.all _ _ _ (.head _)).loadCell rfl slS_cell))
                       | (refine quiet_load 22 _ _ _ rfl rfl ((hq.1.all _ _ _ (.tail _ (.head _))).loadCell rfl slS_cell))
                       | (refine quiet_load 9 _ _ _ rfl rfl (hL _ hq.1.below))
                       | (refine quiet_load 9 _ _ _ rfl rfl (hL2 _ hq.1.below))
                       | (unfold Oper.quietAt
                          go_simp
                          first
                            | with_reducible rfl
                            | ((go_at_call 33); with_reducible refine (hA _).mono ?_; exact fun e w' ⟨he, hw⟩ => ⟨he, ⟨Bag.step hq.1 hw, own_step hq.2 hw⟩⟩)
                            | ((go_at_call 33); with_reducible refine (hE _).mono ?_; exact fun e w' ⟨he, hw⟩ => ⟨he, ⟨Bag.step hq.1 hw, own_step hq.2 hw⟩⟩)
                         )
                   clear hK K
                   simp only [Act.put, List.setIfInBounds_toArray, List.set_cons_zero, List.set_cons_succ])
            refine wpQuiet_nil ?_
            intro w4 ⟨hX, hown⟩
            have hsz0 : w.heap.size + 1 < w4.heap.size := (hX.all _ _ _ (.head _)).lt
            go_wp2_with (first | (at_builtin; refine wpList_appI rfl (.tmp 40) (.tmp 42) rfl (w.heap.size + 2) _ _ _ rfl (World.ownsRow.alloc hown _) ⟨w4.heap.size, 0, none⟩ 1 1 [.int .i64 k] rfl rfl cell_one (fun x hx => by simp at hx; subst hx; rfl) (by have := dk_le D.S E.S k; omega) (by simp <;> omega) ?_; intro v2 w2 ho2 hb2 _; replace hX := (Bag.step hX ((Below.refl _ _).alloc (Nat.le_refl _) (.cells #[.int .i64 k] 3))).stepN hb2 (fun b hb => by simp at hb; rcases hb with rfl | rfl <;> simp) (by omega); clear hb2))
            exact ⟨⟨k + 1, v2, by omega, rfl, by go_num, by rw [show dk D.S E.S (k + 1) = _ from hk1, List.length_append, List.map_append]; exact ho2, hX⟩, by simp only; omega⟩
        · rw [show hasV E.S.length (k : Int) = false from (by rw [Bool.eq_false_iff]; intro h; have := (hasV_iff _ _).1 h; omega)] at hE
          have hdk : D.S[k]? ≠ E.S[k]? := by rw [hx, List.getElem?_eq_none (by omega)]; intro h; cases h
          have hk1 := hid (dk_ne hdk)
          clear hdk hx hc hc2
          go_wp2_with (first | ((with_reducible refine at_load ?_); refine wpList_bag_cell hX slS_cell _ rfl rfl rfl rfl (by first | exact .head _ | exact .tail _ (.head _)) rfl ?_) | ((with_reducible refine at_load ?_); refine wpList_bag_cell hX slI_cell _ rfl rfl rfl rfl (by first | exact .head _ | exact .tail _ (.head _)) rfl ?_))
          refine region_class (fun w' => Bag [(w.heap.size + 1, 25, [.slice A2 E.S.length c2, vb2]), (w.heap.size, 25, [.slice (some a) D.S.length c, vb])] w w' ∧ w'.ownsRow (w.heap.size + 2) 3 1 v (dk D.S E.S k).length ((dk D.S E.S k).map (Value.int .i64))) (by kernel_rfl) (by kernel_rfl) ⟨hX.drew, World.ownsRow.drew hown⟩ ?_
          repeat
            first
              | (refine BigFrame.wpQuiet_skip (by rfl) ?_
                 simp only [Act.put, List.setIfInBounds_toArray, List.set_cons_zero, List.set_cons_succ])
              | (refine BigFrame.wpQuiet_want (by rfl) (fun K hK => ?_)
                 apply Exists.intro
                 refine ⟨fun wq hq => ?_, hK _ ?_⟩
                 · first
                     | (refine quiet_load 25 _ _ _ rfl rfl ((hq.1.all _ _ _ (.head _)).loadAt rfl aggD sizD))
                     | (refine quiet_load 25 _ _ _ rfl rfl ((hq.1.all _ _ _ (.tail _ (.head _))).loadAt rfl aggD sizD))
                     | (refine quiet_load 22 _ _ _ rfl rfl ((hq.1.all _ _ _ (.head _)).loadCell rfl slS_cell))
                     | (refine quiet_load 22 _ _ _ rfl rfl ((hq.1.all _ _ _ (.tail _ (.head _))).loadCell rfl slS_cell))
                     | (refine quiet_load 9 _ _ _ rfl rfl (hL _ hq.1.below))
                     | (unfold Oper.quietAt
                        go_simp
                        first
                          | with_reducible rfl
                          | ((go_at_call 33); with_reducible refine (hA _).mono ?_; exact fun e w' ⟨he, hw⟩ => ⟨he, ⟨Bag.step hq.1 hw, own_step hq.2 hw⟩⟩)
                          | ((go_at_call 33); with_reducible refine (hE _).mono ?_; exact fun e w' ⟨he, hw⟩ => ⟨he, ⟨Bag.step hq.1 hw, own_step hq.2 hw⟩⟩)
                       )
                 clear hK K
                 simp only [Act.put, List.setIfInBounds_toArray, List.set_cons_zero, List.set_cons_succ])
          refine wpQuiet_nil ?_
          intro w4 ⟨hX, hown⟩
          have hsz0 : w.heap.size + 1 < w4.heap.size := (hX.all _ _ _ (.head _)).lt
          go_wp2_with (first | (at_builtin; refine wpList_appI rfl (.tmp 40) (.tmp 42) rfl (w.heap.size + 2) _ _ _ rfl (World.ownsRow.alloc hown _) ⟨w4.heap.size, 0, none⟩ 1 1 [.int .i64 k] rfl rfl cell_one (fun x hx => by simp at hx; subst hx; rfl) (by have := dk_le D.S E.S k; omega) (by simp <;> omega) ?_; intro v2 w2 ho2 hb2 _; replace hX := (Bag.step hX ((Below.refl _ _).alloc (Nat.le_refl _) (.cells #[.int .i64 k] 3))).stepN hb2 (fun b hb => by simp at hb; rcases hb with rfl | rfl <;> simp) (by omega); clear hb2))
          exact ⟨⟨k + 1, v2, by omega, rfl, by go_num, by rw [show dk D.S E.S (k + 1) = _ from hk1, List.length_append, List.map_append]; exact ho2, hX⟩, by simp only; omega⟩
      · rw [show hasV D.S.length (k : Int) = false from (by rw [Bool.eq_false_iff]; intro h; have := (hasV_iff _ _).1 h; omega)] at hA
        have hkb : k < E.S.length := by omega
        have hdk : D.S[k]? ≠ E.S[k]? := by rw [List.getElem?_eq_getElem hkb, List.getElem?_eq_none (by omega)]; intro h; cases h
        have hk1 := hid (dk_ne hdk)
        clear hdk  hc hc2
        go_wp2_with (first | ((with_reducible refine at_load ?_); refine wpList_bag_cell hX slS_cell _ rfl rfl rfl rfl (by first | exact .head _ | exact .tail _ (.head _)) rfl ?_) | ((with_reducible refine at_load ?_); refine wpList_bag_cell hX slI_cell _ rfl rfl rfl rfl (by first | exact .head _ | exact .tail _ (.head _)) rfl ?_))
        refine region_class (fun w' => Bag [(w.heap.size + 1, 25, [.slice A2 E.S.length c2, vb2]), (w.heap.size, 25, [.slice A D.S.length c, vb])] w w' ∧ w'.ownsRow (w.heap.size + 2) 3 1 v (dk D.S E.S k).length ((dk D.S E.S k).map (Value.int .i64))) (by kernel_rfl) (by kernel_rfl) ⟨hX.drew, World.ownsRow.drew hown⟩ ?_
        repeat
          first
            | (refine BigFrame.wpQuiet_skip (by rfl) ?_
               simp only [Act.put, List.setIfInBounds_toArray, List.set_cons_zero, List.set_cons_succ])
            | (refine BigFrame.wpQuiet_want (by rfl) (fun K hK => ?_)
               apply Exists.intro
               refine ⟨fun wq hq => ?_, hK _ ?_⟩
               · first
                   | (refine quiet_load 25 _ _ _ rfl rfl ((hq.1.all _ _ _ (.head _)).loadAt rfl aggD sizD))
                   | (refine quiet_load 25 _ _ _ rfl rfl ((hq.1.all _ _ _ (.tail _ (.head _))).loadAt rfl aggD sizD))
                   | (refine quiet_load 22 _ _ _ rfl rfl ((hq.1.all _ _ _ (.head _)).loadCell rfl slS_cell))
                   | (refine quiet_load 22 _ _ _ rfl rfl ((hq.1.all _ _ _ (.tail _ (.head _))).loadCell rfl slS_cell))
                   | (unfold Oper.quietAt
                      go_simp
                      first
                        | with_reducible rfl
                        | ((go_at_call 33); with_reducible refine (hA _).mono ?_; exact fun e w' ⟨he, hw⟩ => ⟨he, ⟨Bag.step hq.1 hw, own_step hq.2 hw⟩⟩)
                        | ((go_at_call 33); with_reducible refine (hE _).mono ?_; exact fun e w' ⟨he, hw⟩ => ⟨he, ⟨Bag.step hq.1 hw, own_step hq.2 hw⟩⟩)
                     )
               clear hK K
               simp only [Act.put, List.setIfInBounds_toArray, List.set_cons_zero, List.set_cons_succ])
        refine wpQuiet_nil ?_
        intro w4 ⟨hX, hown⟩
        have hsz0 : w.heap.size + 1 < w4.heap.size := (hX.all _ _ _ (.head _)).lt
        go_wp2_with (first | (at_builtin; refine wpList_appI rfl (.tmp 40) (.tmp 42) rfl (w.heap.size + 2) _ _ _ rfl (World.ownsRow.alloc hown _) ⟨w4.heap.size, 0, none⟩ 1 1 [.int .i64 k] rfl rfl cell_one (fun x hx => by simp at hx; subst hx; rfl) (by have := dk_le D.S E.S k; omega) (by simp <;> omega) ?_; intro v2 w2 ho2 hb2 _; replace hX := (Bag.step hX ((Below.refl _ _).alloc (Nat.le_refl _) (.cells #[.int .i64 k] 3))).stepN hb2 (fun b hb => by simp at hb; rcases hb with rfl | rfl <;> simp) (by omega); clear hb2))
        exact ⟨⟨k + 1, v2, by omega, rfl, by go_num, by rw [show dk D.S E.S (k + 1) = _ from hk1, List.length_append, List.map_append]; exact ho2, hX⟩, by simp only; omega⟩
    · obtain rfl : k = max D.S.length E.S.length := by omega
      have hkm2 : ¬ ((max D.S.length E.S.length : Nat) : Int) < ((max D.S.length E.S.length : Nat) : Int) := by omega
      clear hc hc2 hA hE
      go_wp2_with (first | ((with_reducible refine at_load ?_); refine wpList_bag_cell hX slS_cell _ rfl rfl rfl rfl (by first | exact .head _ | exact .tail _ (.head _)) rfl ?_) | ((with_reducible refine at_load ?_); refine wpList_bag_cell hX slI_cell _ rfl rfl rfl rfl (by first | exact .head _ | exact .tail _ (.head _)) rfl ?_))
      go_ret
      exact ⟨_, rfl, itsX_of (fun b hb => by have := hXl b hb; omega) (hid rfl) (hid rfl) hown, hX.below⟩
end Go.Proofs.Ytohfniejflibmaa
