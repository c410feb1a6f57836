/-
  alive. Condition: the contracts.
-/
import Derived.Test.YtigmlkfmgheegaaTS
namespace Go.Proofs.Ytigmlkfmgheegaa
open Go.RowKit
set_option linter.unusedSimpArgs false
set_option linter.unusedVariables false
set_option maxHeartbeats 4000000
set_option maxRecDepth 100000
attribute [local irreducible] wpQuiet

theorem alive_any (W0 : World) (H : TpC W0) : Calls Try.prog 14 #[] W0 fun e' w' => e' = .returned (.bool true) ∧ Below W0.heap.size W0 w' := by
  have hX := Bag.nil W0
  have cN := fun (wS : World) (h : Below W0.heap.size W0 wS) => c_new W0 H (.slice (some ⟨wS.heap.size, 0, none⟩) 3 3) (XL []) (wS.alloc (.cells #[.string ⟨#[97, 98]⟩, .string ⟨#[]⟩, .string ⟨#[99]⟩] 9)) (h.alloc h.size _) xl_lt0 (sts_blk (l := L3) (Blk.new 9 wS [.string ⟨#[97, 98]⟩, .string ⟨#[]⟩, .string ⟨#[99]⟩]) rfl)
  go_enter Try.func14, Try.ntmps14
  go_wp2_with (first | (go_at_call 36; (with_reducible refine (newm_256 _).mono ?_); rintro e' wM ⟨vm, rfl, ho, hbb⟩; have hm : ItsX (XL []) _ _ _ := its_own xl_lt0 ho; replace hX := hX.step hbb; obtain ⟨A6, c6, rfl, _⟩ := hm.now.form; clear hbb ho) | ((with_reducible refine at_store ?_); refine wpList_bag_overV (cs' := [(.slice A6 M256.length c6), .slice none 0 0]) (hX.new 44 [.slice none 0 0, .slice none 0 0]) aggSt sizSt _ _ rfl rfl rfl rfl rfl rfl rfl rfl (one_st rfl rfl) ?_; clear hX; intro wS hX hkz; replace hm := hm.off (new_keepT hkz) (fun _ _ h => h); clear hkz) | (go_at_call 9; (with_reducible refine (cN _ hX.below).mono ?_); rintro e' wN ⟨vs1, rfl, hs1, hbb⟩; replace hX := (hX.step ((Below.refl wS.heap.size wS).alloc (Nat.le_refl _) (.cells ([.string ⟨#[97, 98]⟩, .string ⟨#[]⟩, .string ⟨#[99]⟩] : List Value).toArray 9))).step hbb; replace hm := (hm.below ((Below.refl wS.heap.size wS).alloc (Nat.le_refl _) (.cells ([.string ⟨#[97, 98]⟩, .string ⟨#[]⟩, .string ⟨#[99]⟩] : List Value).toArray 9))).below hbb; obtain ⟨A1, c1, rfl, _⟩ := hs1.now.form; clear hbb) | ((with_reducible refine at_store ?_); refine wpList_bag_overV (cs' := [(.slice A1 L3.length c1), .int .i64 0, .bool false, .bool true, .bool false, .bool false, .bool false, .int .i64 0, .int .i64 0, .int .i64 0, .int .i64 0]) (hX.new 24 [.slice none 0 0, .int .i64 0, .bool false, .bool false, .bool false, .bool false, .bool false, .int .i64 0, .int .i64 0, .int .i64 0, .int .i64 0]) aggT sizT _ _ rfl rfl rfl rfl rfl rfl rfl rfl (one_tp rfl _ _ _ _ _ _ _ _ _ _) ?_; clear hX; intro wT hX hkz; replace hm := hm.off (new_keepT hkz) (fun _ _ h => h); replace hs1 := hs1.off (new_keepT hkz) (fun _ _ h => h); clear hkz))
  go_cut [6, 7] from 35 to 41 (fun p q wx => ∃ b7 b8 vsR ym yz, p = .pointer (some ⟨b7, 0, none⟩) ∧ q = .pointer (some ⟨b8, 0, none⟩) ∧ StsX (XL []) wx (.slice A1 L3.length c1) L3 ∧ ItsX (XL []) wx (.slice A6 M256.length c6) M256 ∧ StsX (XL []) wx vsR L3 ∧ ItsX (XL []) wx ym mv1 ∧ ItsX (XL []) wx yz [] ∧ Bag [(b7, 24, [vsR, .int .i64 1, .bool false, .bool true, .bool false, .bool false, .bool false, .int .i64 1, .int .i64 3, .int .i64 10, .int .i64 0]), (b8, 44, [ym, yz]), (wN.heap.size, 24, [(.slice A1 L3.length c1), .int .i64 0, .bool false, .bool true, .bool false, .bool false, .bool false, .int .i64 0, .int .i64 0, .int .i64 0, .int .i64 0]), (wM.heap.size, 44, [(.slice A6 M256.length c6), .slice none 0 0])] W0 wx)
  case first =>
    have hdd := bag_drew hX
    replace hX := hX.drew
    replace hs1 := hs1.below hdd
    replace hm := hm.below hdd
    clear hdd
    refine region_hoistF (fun w' => Bag [(wN.heap.size, 24, [(.slice A1 L3.length c1), .int .i64 0, .bool false, .bool true, .bool false, .bool false, .bool false, .int .i64 0, .int .i64 0, .int .i64 0, .int .i64 0]), (wM.heap.size, 44, [(.slice A6 M256.length c6), .slice none 0 0])] W0 w') 10 9 [7, 8] [(0, false), (2, false), (1, true), (3, true), (4, false), (5, false), (6, false)] [(9, true)] (by kernel_rfl) (by kernel_rfl) (fun _ _ dd _ _ h => by cases dd <;> exact h) hX ?_
    (try simp only [Act.put, List.setIfInBounds_toArray, List.set_cons_zero, List.set_cons_succ])
    repeat any_goals (first
      | (refine wpFl_q' rfl rfl (fun KK hKK => ?_)
         apply Exists.intro
         refine ⟨fun wq hq => ?_, hKK _ ?_⟩
         · try dsimp only at hq
           first
             | exact run_load_op 24 _ _ rfl rfl ((hq.all _ _ _ (.head _)).loadAt rfl aggT sizT)
             | exact run_load_op 24 _ _ rfl rfl ((hq.all _ _ _ (.tail _ (.head _))).loadAt rfl aggT sizT)
             | exact run_load_op 44 _ _ rfl rfl ((hq.all _ _ _ (.head _)).loadAt rfl aggSt sizSt)
             | exact run_load_op 44 _ _ rfl rfl ((hq.all _ _ _ (.tail _ (.head _))).loadAt rfl aggSt sizSt)
             | (unfold execOp; go_simp; done)
             | (unfold execOp; go_simp; with_reducible rfl)
         clear hKK KK
         simp only [Act.put, List.setIfInBounds_toArray, List.set_cons_zero, List.set_cons_succ])
      | (refine wpFl_call rfl rfl (fun KK hKK => ?_) ?_
    )
      | (unfold Oper.semiAt
         go_simp
         simp only [semiUpon]
         refine ⟨trivial, ?_⟩
         first
           | (refine (c_A5 W0 H _ _ _ hX.below (by first | exact xl_lt0 | exact xl_lt1 hX | exact xl_lt2 hX) hs1).mono ?_
              rintro e' wB ⟨vsA, rfl, hsA, hbb⟩
              refine ⟨_, rfl, hKK _ _ (by first | exact hX.step hbb | exact (hX.step hbb).restS | exact (hX.step hbb).restS.restS) ?_⟩
              clear hKK KK
              replace hX := hX.step hbb
              (try replace hs1 := hs1.below hbb)
              (try replace hm := hm.below hbb)
              (try replace hsR := hsR.below hbb)
              (try replace hmR := hmR.below hbb)
              (try replace hzR := hzR.below hbb)
              clear hbb
              simp only [Act.put, List.setIfInBounds_toArray, List.set_cons_zero, List.set_cons_succ])
           | (refine (c_T1 W0 H _ _ _ _ _ hX.below (by first | exact xl_lt0 | exact xl_lt1 hX | exact xl_lt2 hX) hsA hm (Sv.nil _ _)).mono ?_
              rintro e' wC ⟨vsR, ym, yz, rfl, hsR, hmR, hzR, hbb⟩
              refine ⟨_, rfl, hKK _ _ (by first | exact hX.step hbb | exact (hX.step hbb).restS | exact (hX.step hbb).restS.restS) ?_⟩
              clear hKK KK
              replace hX := hX.step hbb
              (try replace hs1 := hs1.below hbb)
              (try replace hm := hm.below hbb)
              (try replace hsA := hsA.below hbb)
              clear hbb
              simp only [Act.put, List.setIfInBounds_toArray, List.set_cons_zero, List.set_cons_succ]))
      | (refine pool2 ?_ ?_
    )
      | (refine pool1 ?_
    )
      | (exact pool0
    )
      | (refine wpFl_pool ?_
    )
      | (first
           | refine wpFl_alloc 24 [.slice none 0 0, .int .i64 0, .bool false, .bool false, .bool false, .bool false, .bool false, .int .i64 0, .int .i64 0, .int .i64 0, .int .i64 0] rfl rfl rfl alloc_tp (fun bT wa eb ew => ?_)
           | refine wpFl_alloc 44 [.slice none 0 0, .slice none 0 0] rfl rfl rfl alloc_st (fun bS wa eb ew => ?_)
         have hba := below_new ew
         have hXa := bag_newT hX eb ew
         clear hX
         have hX := hXa
         clear hXa
         (try replace hs1 := hs1.weak hba (xl_newE eb))
         (try replace hm := hm.weak hba (xl_newE eb))
         (try replace hsA := hsA.weak hba (xl_newE eb))
         (try replace hsR := hsR.weak hba (xl_newE eb))
         (try replace hmR := hmR.weak hba (xl_newE eb))
         (try replace hzR := hzR.weak hba (xl_newE eb))
         clear hba eb ew
         refine ⟨by first | exact hX.restS.restS | exact hX.restS, ?_⟩
         first
           | change wpFl _ _ _ _ _ _ [7] _ _ _
           | change wpFl _ _ _ _ _ _ [8] _ _ _
           | change wpFl _ _ _ _ _ _ [] _ _ _
         simp only [Act.put, List.setIfInBounds_toArray, List.set_cons_zero, List.set_cons_succ])
      | (refine wpFl_end ?_
         first
             | (refine wpHp_over (cs' := [vsR, .int .i64 1, .bool false, .bool true, .bool false, .bool false, .bool false, .int .i64 1, .int .i64 3, .int .i64 10, .int .i64 0]) rfl rfl hX aggT sizT _ _ rfl rfl rfl rfl rfl rfl (one_tp (sts_one hsR.now) _ _ _ _ _ _ _ _ _ _) (fun w7 hX7 hk7 => ⟨hX7.restS.restS, ?_⟩)
                (try replace hs1 := hs1.over hk7 xl_1)
                (try replace hm := hm.over hk7 xl_1)
                (try replace hsA := hsA.over hk7 xl_1)
                (try replace hsR := hsR.over hk7 xl_1)
                (try replace hmR := hmR.over hk7 xl_1)
                (try replace hzR := hzR.over hk7 xl_1)
                clear hX hk7
                have hX := hX7
                clear hX7
                simp only [Act.put, List.setIfInBounds_toArray, List.set_cons_zero, List.set_cons_succ]
                refine wpHp_nil ?_
                simp only [List.drop_succ_cons, List.drop_zero]
                go_wp2_with (first | ((with_reducible refine at_store ?_); refine wpList_bag_overV (cs' := [ym, yz]) hX.swap aggSt sizSt _ _ rfl rfl rfl rfl rfl rfl rfl rfl (one_st (its_one hmR.now) (its_one hzR.now)) ?_; clear hX; intro wz hX hkz; (try replace hs1 := hs1.over hkz xl_2); (try replace hm := hm.over hkz xl_2); (try replace hsA := hsA.over hkz xl_2); (try replace hsR := hsR.over hkz xl_2); (try replace hmR := hmR.over hkz xl_2); (try replace hzR := hzR.over hkz xl_2); clear hkz))
                go_meet
                exact ⟨_, _, _, _, _, rfl, rfl, hs1.less xl_nil, hm.less xl_nil, hsR.less xl_nil, hmR.less xl_nil, hzR.less xl_nil, hX.swap⟩)
             | (refine wpHp_over (cs' := [vsR, .int .i64 1, .bool false, .bool true, .bool false, .bool false, .bool false, .int .i64 1, .int .i64 3, .int .i64 10, .int .i64 0]) rfl rfl hX.swap aggT sizT _ _ rfl rfl rfl rfl rfl rfl (one_tp (sts_one hsR.now) _ _ _ _ _ _ _ _ _ _) (fun w7 hX7 hk7 => ⟨hX7.restS.restS, ?_⟩)
                (try replace hs1 := hs1.over hk7 xl_2)
                (try replace hm := hm.over hk7 xl_2)
                (try replace hsA := hsA.over hk7 xl_2)
                (try replace hsR := hsR.over hk7 xl_2)
                (try replace hmR := hmR.over hk7 xl_2)
                (try replace hzR := hzR.over hk7 xl_2)
                clear hX hk7
                have hX := hX7
                clear hX7
                simp only [Act.put, List.setIfInBounds_toArray, List.set_cons_zero, List.set_cons_succ]
                refine wpHp_nil ?_
                simp only [List.drop_succ_cons, List.drop_zero]
                go_wp2_with (first | ((with_reducible refine at_store ?_); refine wpList_bag_overV (cs' := [ym, yz]) hX.swap aggSt sizSt _ _ rfl rfl rfl rfl rfl rfl rfl rfl (one_st (its_one hmR.now) (its_one hzR.now)) ?_; clear hX; intro wz hX hkz; (try replace hs1 := hs1.over hkz xl_1); (try replace hm := hm.over hkz xl_1); (try replace hsA := hsA.over hkz xl_1); (try replace hsR := hsR.over hkz xl_1); (try replace hmR := hmR.over hkz xl_1); (try replace hzR := hzR.over hkz xl_1); clear hkz))
                go_meet
                exact ⟨_, _, _, _, _, rfl, rfl, hs1.less xl_nil, hm.less xl_nil, hsR.less xl_nil, hmR.less xl_nil, hzR.less xl_nil, hX.swap⟩)))
  case rest =>
  obtain ⟨b6, b7, vsT1, vmT1, vzT1, rfl, rfl, hs1, hm, hsT1, hmT1, hzT1, hX⟩ := hcut
  obtain ⟨A7, c7, rfl, _⟩ := hmT1.now.form
  go_wp2_with (first | ((with_reducible refine at_load ?_); refine wpList_bag_part (k := 0) hX aggT sizT _ rfl rfl rfl rfl (by first | exact .head _ | exact .tail _ (.head _) | exact .tail _ (.tail _ (.head _)) | exact .tail _ (.tail _ (.tail _ (.head _))) | exact .tail _ (.tail _ (.tail _ (.tail _ (.head _)))) | exact .tail _ (.tail _ (.tail _ (.tail _ (.tail _ (.head _))))) | exact .tail _ (.tail _ (.tail _ (.tail _ (.tail _ (.tail _ (.head _)))))) | exact .tail _ (.tail _ (.tail _ (.tail _ (.tail _ (.tail _ (.tail _ (.head _)))))))) (fun jz vz hz => (congrArg (fun n => ([_, _, _, _, _, _, _, _, _, _, _] : List Value)[n]?) (Nat.zero_add jz)).trans hz) rfl ?_) | ((with_reducible refine at_load ?_); refine wpList_bag_part (k := 0) hX aggSt sizSt _ rfl rfl rfl rfl (by first | exact .head _ | exact .tail _ (.head _) | exact .tail _ (.tail _ (.head _)) | exact .tail _ (.tail _ (.tail _ (.head _))) | exact .tail _ (.tail _ (.tail _ (.tail _ (.head _)))) | exact .tail _ (.tail _ (.tail _ (.tail _ (.tail _ (.head _))))) | exact .tail _ (.tail _ (.tail _ (.tail _ (.tail _ (.tail _ (.head _)))))) | exact .tail _ (.tail _ (.tail _ (.tail _ (.tail _ (.tail _ (.tail _ (.head _)))))))) (fun jz vz hz => (congrArg (fun n => ([_, _] : List Value)[n]?) (Nat.zero_add jz)).trans hz) rfl ?_) | ((with_reducible refine at_load ?_); refine wpList_bag_cell hX slI_cell _ rfl rfl rfl rfl (by first | exact .head _ | exact .tail _ (.head _) | exact .tail _ (.tail _ (.head _)) | exact .tail _ (.tail _ (.tail _ (.head _)))) rfl ?_) | ((with_reducible refine at_load ?_); refine wpList_bag_cell hX slS_cell _ rfl rfl rfl rfl (by first | exact .head _ | exact .tail _ (.head _) | exact .tail _ (.tail _ (.head _)) | exact .tail _ (.tail _ (.tail _ (.head _)))) rfl ?_) | ((with_reducible refine at_load ?_); refine wpList_bag_cell hX int_cell _ rfl rfl rfl rfl (by first | exact .head _ | exact .tail _ (.head _) | exact .tail _ (.tail _ (.head _)) | exact .tail _ (.tail _ (.tail _ (.head _)))) rfl ?_) | ((with_reducible refine at_load ?_); refine wpList_bag_cell hX bool_cell _ rfl rfl rfl rfl (by first | exact .head _ | exact .tail _ (.head _) | exact .tail _ (.tail _ (.head _)) | exact .tail _ (.tail _ (.tail _ (.head _)))) rfl ?_) | (go_at_call 33; (with_reducible refine (c_by1 _ _ hmT1.now).mono ?_); rintro e' wB ⟨rfl, hbb⟩; replace hX := hX.step hbb; replace hs1 := hs1.below hbb; replace hm := hm.below hbb; replace hsT1 := hsT1.below hbb; replace hmT1 := hmT1.below hbb; replace hzT1 := hzT1.below hbb; clear hbb) | (go_at_call 34; (with_reducible refine (c_T2 W0 H _ _ _ (XL []) _ hX.below xl_lt0 hsT1 hmT1 hzT1).mono ?_); rintro e' wCT2 ⟨vsT2, vmT2, vzT2, rfl, hsT2, hmT2, hzT2, hbb⟩; replace hX := hX.step hbb; replace hs1 := hs1.below hbb; replace hm := hm.below hbb; clear hbb hsT1 hmT1 hzT1) | ((with_reducible refine at_store ?_); refine wpList_bag_overV (cs' := [vsT2, .int .i64 2, .bool false, .bool true, .bool false, .bool true, .bool false, .int .i64 1, .int .i64 3, .int .i64 10, .int .i64 0]) (bag_new2 (w := wCT2) hX 24 [.slice none 0 0, .int .i64 0, .bool false, .bool false, .bool false, .bool false, .bool false, .int .i64 0, .int .i64 0, .int .i64 0, .int .i64 0] 44 [.slice none 0 0, .slice none 0 0]) aggT sizT _ _ rfl rfl rfl rfl rfl rfl rfl rfl (one_tp (sts_one hsT2.now) _ _ _ _ _ _ _ _ _ _) ?_; clear hX; intro wy hX hkz; replace hs1 := ((hs1.weak (al2 _ _ _) xl_two : StsX (XL [wCT2.heap.size, wCT2.heap.size + 1]) _ _ _)).over hkz xl_1; replace hm := ((hm.weak (al2 _ _ _) xl_two : ItsX (XL [wCT2.heap.size, wCT2.heap.size + 1]) _ _ _)).over hkz xl_1; replace hsT2 := ((hsT2.weak (al2 _ _ _) xl_two : StsX (XL [wCT2.heap.size, wCT2.heap.size + 1]) _ _ _)).over hkz xl_1; replace hmT2 := ((hmT2.weak (al2 _ _ _) xl_two : ItsX (XL [wCT2.heap.size, wCT2.heap.size + 1]) _ _ _)).over hkz xl_1; replace hzT2 := ((hzT2.weak (al2 _ _ _) xl_two : ItsX (XL [wCT2.heap.size, wCT2.heap.size + 1]) _ _ _)).over hkz xl_1; clear hkz) | ((with_reducible refine at_store ?_); refine wpList_bag_overV (cs' := [vmT2, vzT2]) hX.swap aggSt sizSt _ _ rfl rfl rfl rfl rfl rfl rfl rfl (one_st (its_one hmT2.now) (its_one hzT2.now)) ?_; clear hX; intro wz hX hkz; replace hs1 : StsX (XL []) _ _ _ := (hs1.over hkz xl_3).less xl_nil; replace hm : ItsX (XL []) _ _ _ := (hm.over hkz xl_3).less xl_nil; replace hsT2 : StsX (XL []) _ _ _ := (hsT2.over hkz xl_3).less xl_nil; replace hmT2 : ItsX (XL []) _ _ _ := (hmT2.over hkz xl_3).less xl_nil; replace hzT2 : ItsX (XL []) _ _ _ := (hzT2.over hkz xl_3).less xl_nil; replace hX := hX.swap; clear hkz) | (go_at_call 34; (with_reducible refine (c_T3 W0 H _ _ _ (XL []) _ hX.below xl_lt0 hsT2 hmT2 hzT2).mono ?_); rintro e' wCT3 ⟨vsT3, vmT3, vzT3, rfl, hsT3, hmT3, hzT3, hbb⟩; replace hX := hX.step hbb; replace hs1 := hs1.below hbb; replace hm := hm.below hbb; clear hbb hsT2 hmT2 hzT2) | ((with_reducible refine at_store ?_); refine wpList_bag_overV (cs' := [vsT3, .int .i64 3, .bool false, .bool true, .bool false, .bool false, .bool false, .int .i64 1, .int .i64 2, .int .i64 10, .int .i64 0]) (bag_new2 (w := wCT3) hX 24 [.slice none 0 0, .int .i64 0, .bool false, .bool false, .bool false, .bool false, .bool false, .int .i64 0, .int .i64 0, .int .i64 0, .int .i64 0] 44 [.slice none 0 0, .slice none 0 0]) aggT sizT _ _ rfl rfl rfl rfl rfl rfl rfl rfl (one_tp (sts_one hsT3.now) _ _ _ _ _ _ _ _ _ _) ?_; clear hX; intro wy hX hkz; replace hs1 := ((hs1.weak (al2 _ _ _) xl_two : StsX (XL [wCT3.heap.size, wCT3.heap.size + 1]) _ _ _)).over hkz xl_1; replace hm := ((hm.weak (al2 _ _ _) xl_two : ItsX (XL [wCT3.heap.size, wCT3.heap.size + 1]) _ _ _)).over hkz xl_1; replace hsT3 := ((hsT3.weak (al2 _ _ _) xl_two : StsX (XL [wCT3.heap.size, wCT3.heap.size + 1]) _ _ _)).over hkz xl_1; replace hmT3 := ((hmT3.weak (al2 _ _ _) xl_two : ItsX (XL [wCT3.heap.size, wCT3.heap.size + 1]) _ _ _)).over hkz xl_1; replace hzT3 := ((hzT3.weak (al2 _ _ _) xl_two : ItsX (XL [wCT3.heap.size, wCT3.heap.size + 1]) _ _ _)).over hkz xl_1; clear hkz) | ((with_reducible refine at_store ?_); refine wpList_bag_overV (cs' := [vmT3, vzT3]) hX.swap aggSt sizSt _ _ rfl rfl rfl rfl rfl rfl rfl rfl (one_st (its_one hmT3.now) (its_one hzT3.now)) ?_; clear hX; intro wz hX hkz; replace hs1 : StsX (XL []) _ _ _ := (hs1.over hkz xl_3).less xl_nil; replace hm : ItsX (XL []) _ _ _ := (hm.over hkz xl_3).less xl_nil; replace hsT3 : StsX (XL []) _ _ _ := (hsT3.over hkz xl_3).less xl_nil; replace hmT3 : ItsX (XL []) _ _ _ := (hmT3.over hkz xl_3).less xl_nil; replace hzT3 : ItsX (XL []) _ _ _ := (hzT3.over hkz xl_3).less xl_nil; replace hX := hX.swap; clear hkz) | (go_at_call 34; (with_reducible refine (c_T4 W0 H _ _ _ (XL []) _ hX.below xl_lt0 hsT3 hmT3 hzT3).mono ?_); rintro e' wCT4 ⟨vsT4, vmT4, vzT4, rfl, hsT4, hmT4, hzT4, hbb⟩; replace hX := hX.step hbb; replace hs1 := hs1.below hbb; replace hm := hm.below hbb; clear hbb hsT3 hmT3 hzT3) | ((with_reducible refine at_store ?_); refine wpList_bag_overV (cs' := [vsT4, .int .i64 3, .bool false, .bool true, .bool true, .bool false, .bool true, .int .i64 1, .int .i64 2, .int .i64 10, .int .i64 0]) (bag_new2 (w := wCT4) hX 24 [.slice none 0 0, .int .i64 0, .bool false, .bool false, .bool false, .bool false, .bool false, .int .i64 0, .int .i64 0, .int .i64 0, .int .i64 0] 44 [.slice none 0 0, .slice none 0 0]) aggT sizT _ _ rfl rfl rfl rfl rfl rfl rfl rfl (one_tp (sts_one hsT4.now) _ _ _ _ _ _ _ _ _ _) ?_; clear hX; intro wy hX hkz; replace hs1 := ((hs1.weak (al2 _ _ _) xl_two : StsX (XL [wCT4.heap.size, wCT4.heap.size + 1]) _ _ _)).over hkz xl_1; replace hm := ((hm.weak (al2 _ _ _) xl_two : ItsX (XL [wCT4.heap.size, wCT4.heap.size + 1]) _ _ _)).over hkz xl_1; replace hsT4 := ((hsT4.weak (al2 _ _ _) xl_two : StsX (XL [wCT4.heap.size, wCT4.heap.size + 1]) _ _ _)).over hkz xl_1; replace hmT4 := ((hmT4.weak (al2 _ _ _) xl_two : ItsX (XL [wCT4.heap.size, wCT4.heap.size + 1]) _ _ _)).over hkz xl_1; replace hzT4 := ((hzT4.weak (al2 _ _ _) xl_two : ItsX (XL [wCT4.heap.size, wCT4.heap.size + 1]) _ _ _)).over hkz xl_1; clear hkz) | ((with_reducible refine at_store ?_); refine wpList_bag_overV (cs' := [vmT4, vzT4]) hX.swap aggSt sizSt _ _ rfl rfl rfl rfl rfl rfl rfl rfl (one_st (its_one hmT4.now) (its_one hzT4.now)) ?_; clear hX; intro wz hX hkz; replace hs1 : StsX (XL []) _ _ _ := (hs1.over hkz xl_3).less xl_nil; replace hm : ItsX (XL []) _ _ _ := (hm.over hkz xl_3).less xl_nil; replace hsT4 : StsX (XL []) _ _ _ := (hsT4.over hkz xl_3).less xl_nil; replace hmT4 : ItsX (XL []) _ _ _ := (hmT4.over hkz xl_3).less xl_nil; replace hzT4 : ItsX (XL []) _ _ _ := (hzT4.over hkz xl_3).less xl_nil; replace hX := hX.swap; clear hkz))
  replace hX := hX.sub (l' := [(wCT4.heap.size, 24, [vsT4, .int .i64 3, .bool false, .bool true, .bool true, .bool false, .bool true, .int .i64 1, .int .i64 2, .int .i64 10, .int .i64 0]), (wCT3.heap.size, 24, [vsT3, .int .i64 3, .bool false, .bool true, .bool false, .bool false, .bool false, .int .i64 1, .int .i64 2, .int .i64 10, .int .i64 0]), (wCT2.heap.size, 24, [vsT2, .int .i64 2, .bool false, .bool true, .bool false, .bool true, .bool false, .int .i64 1, .int .i64 3, .int .i64 10, .int .i64 0]), (b6, 24, [vsT1, .int .i64 1, .bool false, .bool true, .bool false, .bool false, .bool false, .int .i64 1, .int .i64 3, .int .i64 10, .int .i64 0]), (wN.heap.size, 24, [(.slice A1 L3.length c1), .int .i64 0, .bool false, .bool true, .bool false, .bool false, .bool false, .int .i64 0, .int .i64 0, .int .i64 0, .int .i64 0]), (wM.heap.size, 44, [(.slice A6 M256.length c6), .slice none 0 0])]) (.cons_cons _ (.cons _ (.cons_cons _ (.cons _ (.cons_cons _ (.cons _ (.cons_cons _ (.cons _ (.refl _)))))))))
  clear hsT4 hmT4 hzT4
  go_cut [16, 17] from 66 to 72 (fun p q wx => ∃ b7 b8 vsR ym yz, p = .pointer (some ⟨b7, 0, none⟩) ∧ q = .pointer (some ⟨b8, 0, none⟩) ∧ StsX (XL []) wx (.slice A1 L3.length c1) L3 ∧ ItsX (XL []) wx (.slice A6 M256.length c6) M256 ∧ StsX (XL []) wx vsR L3 ∧ ItsX (XL []) wx ym mvU ∧ ItsX (XL []) wx yz [] ∧ Bag [(b7, 24, [vsR, .int .i64 1, .bool false, .bool true, .bool true, .bool false, .bool false, .int .i64 1, .int .i64 0, .int .i64 10, .int .i64 0]), (b8, 44, [ym, yz]), (wCT4.heap.size, 24, [vsT4, .int .i64 3, .bool false, .bool true, .bool true, .bool false, .bool true, .int .i64 1, .int .i64 2, .int .i64 10, .int .i64 0]), (wCT3.heap.size, 24, [vsT3, .int .i64 3, .bool false, .bool true, .bool false, .bool false, .bool false, .int .i64 1, .int .i64 2, .int .i64 10, .int .i64 0]), (wCT2.heap.size, 24, [vsT2, .int .i64 2, .bool false, .bool true, .bool false, .bool true, .bool false, .int .i64 1, .int .i64 3, .int .i64 10, .int .i64 0]), (b6, 24, [vsT1, .int .i64 1, .bool false, .bool true, .bool false, .bool false, .bool false, .int .i64 1, .int .i64 3, .int .i64 10, .int .i64 0]), (wN.heap.size, 24, [(.slice A1 L3.length c1), .int .i64 0, .bool false, .bool true, .bool false, .bool false, .bool false, .int .i64 0, .int .i64 0, .int .i64 0, .int .i64 0]), (wM.heap.size, 44, [(.slice A6 M256.length c6), .slice none 0 0])] W0 wx)
  case first =>
    have hdd := bag_drew hX
    replace hX := hX.drew
    replace hs1 := hs1.below hdd
    replace hm := hm.below hdd
    clear hdd
    refine region_hoistF (fun w' => Bag [(wCT4.heap.size, 24, [vsT4, .int .i64 3, .bool false, .bool true, .bool true, .bool false, .bool true, .int .i64 1, .int .i64 2, .int .i64 10, .int .i64 0]), (wCT3.heap.size, 24, [vsT3, .int .i64 3, .bool false, .bool true, .bool false, .bool false, .bool false, .int .i64 1, .int .i64 2, .int .i64 10, .int .i64 0]), (wCT2.heap.size, 24, [vsT2, .int .i64 2, .bool false, .bool true, .bool false, .bool true, .bool false, .int .i64 1, .int .i64 3, .int .i64 10, .int .i64 0]), (b6, 24, [vsT1, .int .i64 1, .bool false, .bool true, .bool false, .bool false, .bool false, .int .i64 1, .int .i64 3, .int .i64 10, .int .i64 0]), (wN.heap.size, 24, [(.slice A1 L3.length c1), .int .i64 0, .bool false, .bool true, .bool false, .bool false, .bool false, .int .i64 0, .int .i64 0, .int .i64 0, .int .i64 0]), (wM.heap.size, 44, [(.slice A6 M256.length c6), .slice none 0 0])] W0 w') 10 9 [7, 8] [(0, false), (2, false), (1, true), (3, true), (4, false), (5, false), (6, false)] [(9, true)] (by kernel_rfl) (by kernel_rfl) (fun _ _ dd _ _ h => by cases dd <;> exact h) hX ?_
    (try simp only [Act.put, List.setIfInBounds_toArray, List.set_cons_zero, List.set_cons_succ])
    repeat any_goals (first
      | (refine wpFl_q' rfl rfl (fun KK hKK => ?_)
         apply Exists.intro
         refine ⟨fun wq hq => ?_, hKK _ ?_⟩
         · try dsimp only at hq
           first
             | exact run_load_op 24 _ _ rfl rfl ((hq.all _ _ _ (.head _)).loadAt rfl aggT sizT)
             | exact run_load_op 24 _ _ rfl rfl ((hq.all _ _ _ (.tail _ (.head _))).loadAt rfl aggT sizT)
             | exact run_load_op 24 _ _ rfl rfl ((hq.all _ _ _ (.tail _ (.tail _ (.head _)))).loadAt rfl aggT sizT)
             | exact run_load_op 24 _ _ rfl rfl ((hq.all _ _ _ (.tail _ (.tail _ (.tail _ (.head _))))).loadAt rfl aggT sizT)
             | exact run_load_op 24 _ _ rfl rfl ((hq.all _ _ _ (.tail _ (.tail _ (.tail _ (.tail _ (.head _)))))).loadAt rfl aggT sizT)
             | exact run_load_op 24 _ _ rfl rfl ((hq.all _ _ _ (.tail _ (.tail _ (.tail _ (.tail _ (.tail _ (.head _))))))).loadAt rfl aggT sizT)
             | exact run_load_op 24 _ _ rfl rfl ((hq.all _ _ _ (.tail _ (.tail _ (.tail _ (.tail _ (.tail _ (.tail _ (.head _)))))))).loadAt rfl aggT sizT)
             | exact run_load_op 24 _ _ rfl rfl ((hq.all _ _ _ (.tail _ (.tail _ (.tail _ (.tail _ (.tail _ (.tail _ (.tail _ (.head _))))))))).loadAt rfl aggT sizT)
             | exact run_load_op 44 _ _ rfl rfl ((hq.all _ _ _ (.head _)).loadAt rfl aggSt sizSt)
             | exact run_load_op 44 _ _ rfl rfl ((hq.all _ _ _ (.tail _ (.head _))).loadAt rfl aggSt sizSt)
             | exact run_load_op 44 _ _ rfl rfl ((hq.all _ _ _ (.tail _ (.tail _ (.head _)))).loadAt rfl aggSt sizSt)
             | exact run_load_op 44 _ _ rfl rfl ((hq.all _ _ _ (.tail _ (.tail _ (.tail _ (.head _))))).loadAt rfl aggSt sizSt)
             | exact run_load_op 44 _ _ rfl rfl ((hq.all _ _ _ (.tail _ (.tail _ (.tail _ (.tail _ (.head _)))))).loadAt rfl aggSt sizSt)
             | exact run_load_op 44 _ _ rfl rfl ((hq.all _ _ _ (.tail _ (.tail _ (.tail _ (.tail _ (.tail _ (.head _))))))).loadAt rfl aggSt sizSt)
             | exact run_load_op 44 _ _ rfl rfl ((hq.all _ _ _ (.tail _ (.tail _ (.tail _ (.tail _ (.tail _ (.tail _ (.head _)))))))).loadAt rfl aggSt sizSt)
             | exact run_load_op 44 _ _ rfl rfl ((hq.all _ _ _ (.tail _ (.tail _ (.tail _ (.tail _ (.tail _ (.tail _ (.tail _ (.head _))))))))).loadAt rfl aggSt sizSt)
             | (unfold execOp; go_simp; done)
             | (unfold execOp; go_simp; with_reducible rfl)
         clear hKK KK
         simp only [Act.put, List.setIfInBounds_toArray, List.set_cons_zero, List.set_cons_succ])
      | (refine wpFl_call rfl rfl (fun KK hKK => ?_) ?_
    )
      | (unfold Oper.semiAt
         go_simp
         simp only [semiUpon]
         refine ⟨trivial, ?_⟩
         first
           | (refine (c_A1 W0 H _ _ _ hX.below (by first | exact xl_lt0 | exact xl_lt1 hX | exact xl_lt2 hX) hs1).mono ?_
              rintro e' wB ⟨vsA, rfl, hsA, hbb⟩
              refine ⟨_, rfl, hKK _ _ (by first | exact hX.step hbb | exact (hX.step hbb).restS | exact (hX.step hbb).restS.restS) ?_⟩
              clear hKK KK
              replace hX := hX.step hbb
              (try replace hs1 := hs1.below hbb)
              (try replace hm := hm.below hbb)
              (try replace hsR := hsR.below hbb)
              (try replace hmR := hmR.below hbb)
              (try replace hzR := hzR.below hbb)
              clear hbb
              simp only [Act.put, List.setIfInBounds_toArray, List.set_cons_zero, List.set_cons_succ])
           | (refine (c_U1 W0 H _ _ _ _ _ hX.below (by first | exact xl_lt0 | exact xl_lt1 hX | exact xl_lt2 hX) hsA hm (Sv.nil _ _)).mono ?_
              rintro e' wC ⟨vsR, ym, yz, rfl, hsR, hmR, hzR, hbb⟩
              refine ⟨_, rfl, hKK _ _ (by first | exact hX.step hbb | exact (hX.step hbb).restS | exact (hX.step hbb).restS.restS) ?_⟩
              clear hKK KK
              replace hX := hX.step hbb
              (try replace hs1 := hs1.below hbb)
              (try replace hm := hm.below hbb)
              (try replace hsA := hsA.below hbb)
              clear hbb
              simp only [Act.put, List.setIfInBounds_toArray, List.set_cons_zero, List.set_cons_succ]))
      | (refine pool2 ?_ ?_
    )
      | (refine pool1 ?_
    )
      | (exact pool0
    )
      | (refine wpFl_pool ?_
    )
      | (first
           | refine wpFl_alloc 24 [.slice none 0 0, .int .i64 0, .bool false, .bool false, .bool false, .bool false, .bool false, .int .i64 0, .int .i64 0, .int .i64 0, .int .i64 0] rfl rfl rfl alloc_tp (fun bT wa eb ew => ?_)
           | refine wpFl_alloc 44 [.slice none 0 0, .slice none 0 0] rfl rfl rfl alloc_st (fun bS wa eb ew => ?_)
         have hba := below_new ew
         have hXa := bag_newT hX eb ew
         clear hX
         have hX := hXa
         clear hXa
         (try replace hs1 := hs1.weak hba (xl_newE eb))
         (try replace hm := hm.weak hba (xl_newE eb))
         (try replace hsA := hsA.weak hba (xl_newE eb))
         (try replace hsR := hsR.weak hba (xl_newE eb))
         (try replace hmR := hmR.weak hba (xl_newE eb))
         (try replace hzR := hzR.weak hba (xl_newE eb))
         clear hba eb ew
         refine ⟨by first | exact hX.restS.restS | exact hX.restS, ?_⟩
         first
           | change wpFl _ _ _ _ _ _ [7] _ _ _
           | change wpFl _ _ _ _ _ _ [8] _ _ _
           | change wpFl _ _ _ _ _ _ [] _ _ _
         simp only [Act.put, List.setIfInBounds_toArray, List.set_cons_zero, List.set_cons_succ])
      | (refine wpFl_end ?_
         first
             | (refine wpHp_over (cs' := [vsR, .int .i64 1, .bool false, .bool true, .bool true, .bool false, .bool false, .int .i64 1, .int .i64 0, .int .i64 10, .int .i64 0]) rfl rfl hX aggT sizT _ _ rfl rfl rfl rfl rfl rfl (one_tp (sts_one hsR.now) _ _ _ _ _ _ _ _ _ _) (fun w7 hX7 hk7 => ⟨hX7.restS.restS, ?_⟩)
                (try replace hs1 := hs1.over hk7 xl_1)
                (try replace hm := hm.over hk7 xl_1)
                (try replace hsA := hsA.over hk7 xl_1)
                (try replace hsR := hsR.over hk7 xl_1)
                (try replace hmR := hmR.over hk7 xl_1)
                (try replace hzR := hzR.over hk7 xl_1)
                clear hX hk7
                have hX := hX7
                clear hX7
                simp only [Act.put, List.setIfInBounds_toArray, List.set_cons_zero, List.set_cons_succ]
                refine wpHp_nil ?_
                simp only [List.drop_succ_cons, List.drop_zero]
                go_wp2_with (first | ((with_reducible refine at_store ?_); refine wpList_bag_overV (cs' := [ym, yz]) hX.swap aggSt sizSt _ _ rfl rfl rfl rfl rfl rfl rfl rfl (one_st (its_one hmR.now) (its_one hzR.now)) ?_; clear hX; intro wz hX hkz; (try replace hs1 := hs1.over hkz xl_2); (try replace hm := hm.over hkz xl_2); (try replace hsA := hsA.over hkz xl_2); (try replace hsR := hsR.over hkz xl_2); (try replace hmR := hmR.over hkz xl_2); (try replace hzR := hzR.over hkz xl_2); clear hkz))
                go_meet
                exact ⟨_, _, _, _, _, rfl, rfl, hs1.less xl_nil, hm.less xl_nil, hsR.less xl_nil, hmR.less xl_nil, hzR.less xl_nil, hX.swap⟩)
             | (refine wpHp_over (cs' := [vsR, .int .i64 1, .bool false, .bool true, .bool true, .bool false, .bool false, .int .i64 1, .int .i64 0, .int .i64 10, .int .i64 0]) rfl rfl hX.swap aggT sizT _ _ rfl rfl rfl rfl rfl rfl (one_tp (sts_one hsR.now) _ _ _ _ _ _ _ _ _ _) (fun w7 hX7 hk7 => ⟨hX7.restS.restS, ?_⟩)
                (try replace hs1 := hs1.over hk7 xl_2)
                (try replace hm := hm.over hk7 xl_2)
                (try replace hsA := hsA.over hk7 xl_2)
                (try replace hsR := hsR.over hk7 xl_2)
                (try replace hmR := hmR.over hk7 xl_2)
                (try replace hzR := hzR.over hk7 xl_2)
                clear hX hk7
                have hX := hX7
                clear hX7
                simp only [Act.put, List.setIfInBounds_toArray, List.set_cons_zero, List.set_cons_succ]
                refine wpHp_nil ?_
                simp only [List.drop_succ_cons, List.drop_zero]
                go_wp2_with (first | ((with_reducible refine at_store ?_); refine wpList_bag_overV (cs' := [ym, yz]) hX.swap aggSt sizSt _ _ rfl rfl rfl rfl rfl rfl rfl rfl (one_st (its_one hmR.now) (its_one hzR.now)) ?_; clear hX; intro wz hX hkz; (try replace hs1 := hs1.over hkz xl_1); (try replace hm := hm.over hkz xl_1); (try replace hsA := hsA.over hkz xl_1); (try replace hsR := hsR.over hkz xl_1); (try replace hmR := hmR.over hkz xl_1); (try replace hzR := hzR.over hkz xl_1); clear hkz))
                go_meet
                exact ⟨_, _, _, _, _, rfl, rfl, hs1.less xl_nil, hm.less xl_nil, hsR.less xl_nil, hmR.less xl_nil, hzR.less xl_nil, hX.swap⟩)))
  case rest =>
  obtain ⟨b16, b17, vsU1, vmU1, vzU1, rfl, rfl, hs1, hm, hsU1, hmU1, hzU1, hX⟩ := hcut
  obtain ⟨A8, c8, rfl, _⟩ := hmU1.now.form
  go_wp2_with (first | ((with_reducible refine at_load ?_); refine wpList_bag_cell hX slI_cell _ rfl rfl rfl rfl (by first | exact .head _ | exact .tail _ (.head _) | exact .tail _ (.tail _ (.head _))) rfl ?_) | ((with_reducible refine at_load ?_); refine wpList_bag_cell hX slS_cell _ rfl rfl rfl rfl (by first | exact .head _ | exact .tail _ (.head _) | exact .tail _ (.tail _ (.head _))) rfl ?_) | ((with_reducible refine at_load ?_); refine wpList_bag_cell hX int_cell _ rfl rfl rfl rfl (by first | exact .head _ | exact .tail _ (.head _) | exact .tail _ (.tail _ (.head _))) rfl ?_) | ((with_reducible refine at_load ?_); refine wpList_bag_cell hX bool_cell _ rfl rfl rfl rfl (by first | exact .head _ | exact .tail _ (.head _) | exact .tail _ (.tail _ (.head _))) rfl ?_) | (go_at_call 33; (with_reducible refine (c_by2 _ _ hmU1.now).mono ?_); rintro e' wB ⟨rfl, hbb⟩; replace hX := hX.step hbb; replace hs1 := hs1.below hbb; replace hm := hm.below hbb; clear hbb hsU1 hmU1 hzU1))
  replace hX := hX.sub (l' := [(b16, 24, [vsU1, .int .i64 1, .bool false, .bool true, .bool true, .bool false, .bool false, .int .i64 1, .int .i64 0, .int .i64 10, .int .i64 0]), (wCT4.heap.size, 24, [vsT4, .int .i64 3, .bool false, .bool true, .bool true, .bool false, .bool true, .int .i64 1, .int .i64 2, .int .i64 10, .int .i64 0]), (wCT3.heap.size, 24, [vsT3, .int .i64 3, .bool false, .bool true, .bool false, .bool false, .bool false, .int .i64 1, .int .i64 2, .int .i64 10, .int .i64 0]), (wCT2.heap.size, 24, [vsT2, .int .i64 2, .bool false, .bool true, .bool false, .bool true, .bool false, .int .i64 1, .int .i64 3, .int .i64 10, .int .i64 0]), (b6, 24, [vsT1, .int .i64 1, .bool false, .bool true, .bool false, .bool false, .bool false, .int .i64 1, .int .i64 3, .int .i64 10, .int .i64 0]), (wN.heap.size, 24, [(.slice A1 L3.length c1), .int .i64 0, .bool false, .bool true, .bool false, .bool false, .bool false, .int .i64 0, .int .i64 0, .int .i64 0, .int .i64 0]), (wM.heap.size, 44, [(.slice A6 M256.length c6), .slice none 0 0])]) (.cons_cons _ (.cons _ (.refl _)))
  go_cut [20, 21] from 79 to 85 (fun p q wx => ∃ b7 b8 vsR ym yz, p = .pointer (some ⟨b7, 0, none⟩) ∧ q = .pointer (some ⟨b8, 0, none⟩) ∧ StsX (XL []) wx (.slice A1 L3.length c1) L3 ∧ ItsX (XL []) wx (.slice A6 M256.length c6) M256 ∧ StsX (XL []) wx vsR [⟨#[0, 0]⟩] ∧ ItsX (XL []) wx ym M256 ∧ ItsX (XL []) wx yz [] ∧ Bag [(b7, 24, [vsR, .int .i64 1, .bool false, .bool true, .bool false, .bool false, .bool false, .int .i64 2, .int .i64 2, .int .i64 10, .int .i64 0]), (b8, 44, [ym, yz]), (b16, 24, [vsU1, .int .i64 1, .bool false, .bool true, .bool true, .bool false, .bool false, .int .i64 1, .int .i64 0, .int .i64 10, .int .i64 0]), (wCT4.heap.size, 24, [vsT4, .int .i64 3, .bool false, .bool true, .bool true, .bool false, .bool true, .int .i64 1, .int .i64 2, .int .i64 10, .int .i64 0]), (wCT3.heap.size, 24, [vsT3, .int .i64 3, .bool false, .bool true, .bool false, .bool false, .bool false, .int .i64 1, .int .i64 2, .int .i64 10, .int .i64 0]), (wCT2.heap.size, 24, [vsT2, .int .i64 2, .bool false, .bool true, .bool false, .bool true, .bool false, .int .i64 1, .int .i64 3, .int .i64 10, .int .i64 0]), (b6, 24, [vsT1, .int .i64 1, .bool false, .bool true, .bool false, .bool false, .bool false, .int .i64 1, .int .i64 3, .int .i64 10, .int .i64 0]), (wN.heap.size, 24, [(.slice A1 L3.length c1), .int .i64 0, .bool false, .bool true, .bool false, .bool false, .bool false, .int .i64 0, .int .i64 0, .int .i64 0, .int .i64 0]), (wM.heap.size, 44, [(.slice A6 M256.length c6), .slice none 0 0])] W0 wx)
  case first =>
    have hdd := bag_drew hX
    replace hX := hX.drew
    replace hs1 := hs1.below hdd
    replace hm := hm.below hdd
    clear hdd
    refine region_hoistF (fun w' => Bag [(b16, 24, [vsU1, .int .i64 1, .bool false, .bool true, .bool true, .bool false, .bool false, .int .i64 1, .int .i64 0, .int .i64 10, .int .i64 0]), (wCT4.heap.size, 24, [vsT4, .int .i64 3, .bool false, .bool true, .bool true, .bool false, .bool true, .int .i64 1, .int .i64 2, .int .i64 10, .int .i64 0]), (wCT3.heap.size, 24, [vsT3, .int .i64 3, .bool false, .bool true, .bool false, .bool false, .bool false, .int .i64 1, .int .i64 2, .int .i64 10, .int .i64 0]), (wCT2.heap.size, 24, [vsT2, .int .i64 2, .bool false, .bool true, .bool false, .bool true, .bool false, .int .i64 1, .int .i64 3, .int .i64 10, .int .i64 0]), (b6, 24, [vsT1, .int .i64 1, .bool false, .bool true, .bool false, .bool false, .bool false, .int .i64 1, .int .i64 3, .int .i64 10, .int .i64 0]), (wN.heap.size, 24, [(.slice A1 L3.length c1), .int .i64 0, .bool false, .bool true, .bool false, .bool false, .bool false, .int .i64 0, .int .i64 0, .int .i64 0, .int .i64 0]), (wM.heap.size, 44, [(.slice A6 M256.length c6), .slice none 0 0])] W0 w') 10 9 [7, 8] [(0, false), (2, false), (1, true), (3, true), (4, false), (5, false), (6, false)] [(9, true)] (by kernel_rfl) (by kernel_rfl) (fun _ _ dd _ _ h => by cases dd <;> exact h) hX ?_
    (try simp only [Act.put, List.setIfInBounds_toArray, List.set_cons_zero, List.set_cons_succ])
    repeat any_goals (first
      | (refine wpFl_q' rfl rfl (fun KK hKK => ?_)
         apply Exists.intro
         refine ⟨fun wq hq => ?_, hKK _ ?_⟩
         · try dsimp only at hq
           first
             | exact run_load_op 24 _ _ rfl rfl ((hq.all _ _ _ (.head _)).loadAt rfl aggT sizT)
             | exact run_load_op 24 _ _ rfl rfl ((hq.all _ _ _ (.tail _ (.head _))).loadAt rfl aggT sizT)
             | exact run_load_op 24 _ _ rfl rfl ((hq.all _ _ _ (.tail _ (.tail _ (.head _)))).loadAt rfl aggT sizT)
             | exact run_load_op 24 _ _ rfl rfl ((hq.all _ _ _ (.tail _ (.tail _ (.tail _ (.head _))))).loadAt rfl aggT sizT)
             | exact run_load_op 24 _ _ rfl rfl ((hq.all _ _ _ (.tail _ (.tail _ (.tail _ (.tail _ (.head _)))))).loadAt rfl aggT sizT)
             | exact run_load_op 24 _ _ rfl rfl ((hq.all _ _ _ (.tail _ (.tail _ (.tail _ (.tail _ (.tail _ (.head _))))))).loadAt rfl aggT sizT)
             | exact run_load_op 24 _ _ rfl rfl ((hq.all _ _ _ (.tail _ (.tail _ (.tail _ (.tail _ (.tail _ (.tail _ (.head _)))))))).loadAt rfl aggT sizT)
             | exact run_load_op 24 _ _ rfl rfl ((hq.all _ _ _ (.tail _ (.tail _ (.tail _ (.tail _ (.tail _ (.tail _ (.tail _ (.head _))))))))).loadAt rfl aggT sizT)
             | exact run_load_op 44 _ _ rfl rfl ((hq.all _ _ _ (.head _)).loadAt rfl aggSt sizSt)
             | exact run_load_op 44 _ _ rfl rfl ((hq.all _ _ _ (.tail _ (.head _))).loadAt rfl aggSt sizSt)
             | exact run_load_op 44 _ _ rfl rfl ((hq.all _ _ _ (.tail _ (.tail _ (.head _)))).loadAt rfl aggSt sizSt)
             | exact run_load_op 44 _ _ rfl rfl ((hq.all _ _ _ (.tail _ (.tail _ (.tail _ (.head _))))).loadAt rfl aggSt sizSt)
             | exact run_load_op 44 _ _ rfl rfl ((hq.all _ _ _ (.tail _ (.tail _ (.tail _ (.tail _ (.head _)))))).loadAt rfl aggSt sizSt)
             | exact run_load_op 44 _ _ rfl rfl ((hq.all _ _ _ (.tail _ (.tail _ (.tail _ (.tail _ (.tail _ (.head _))))))).loadAt rfl aggSt sizSt)
             | exact run_load_op 44 _ _ rfl rfl ((hq.all _ _ _ (.tail _ (.tail _ (.tail _ (.tail _ (.tail _ (.tail _ (.head _)))))))).loadAt rfl aggSt sizSt)
             | exact run_load_op 44 _ _ rfl rfl ((hq.all _ _ _ (.tail _ (.tail _ (.tail _ (.tail _ (.tail _ (.tail _ (.tail _ (.head _))))))))).loadAt rfl aggSt sizSt)
             | (unfold execOp; go_simp; done)
             | (unfold execOp; go_simp; with_reducible rfl)
         clear hKK KK
         simp only [Act.put, List.setIfInBounds_toArray, List.set_cons_zero, List.set_cons_succ])
      | (refine wpFl_call rfl rfl (fun KK hKK => ?_) ?_
    )
      | (unfold Oper.semiAt
         go_simp
         simp only [semiUpon]
         refine ⟨trivial, ?_⟩
         first
           | (refine (c_A2 W0 H _ _ _ hX.below (by first | exact xl_lt0 | exact xl_lt1 hX | exact xl_lt2 hX) hs1).mono ?_
              rintro e' wB ⟨vsA, rfl, hsA, hbb⟩
              refine ⟨_, rfl, hKK _ _ (by first | exact hX.step hbb | exact (hX.step hbb).restS | exact (hX.step hbb).restS.restS) ?_⟩
              clear hKK KK
              replace hX := hX.step hbb
              (try replace hs1 := hs1.below hbb)
              (try replace hm := hm.below hbb)
              (try replace hsR := hsR.below hbb)
              (try replace hmR := hmR.below hbb)
              (try replace hzR := hzR.below hbb)
              clear hbb
              simp only [Act.put, List.setIfInBounds_toArray, List.set_cons_zero, List.set_cons_succ])
           | (refine (c_V1 W0 H _ _ _ _ _ hX.below (by first | exact xl_lt0 | exact xl_lt1 hX | exact xl_lt2 hX) hsA hm (Sv.nil _ _)).mono ?_
              rintro e' wC ⟨vsR, ym, yz, rfl, hsR, hmR, hzR, hbb⟩
              refine ⟨_, rfl, hKK _ _ (by first | exact hX.step hbb | exact (hX.step hbb).restS | exact (hX.step hbb).restS.restS) ?_⟩
              clear hKK KK
              replace hX := hX.step hbb
              (try replace hs1 := hs1.below hbb)
              (try replace hm := hm.below hbb)
              (try replace hsA := hsA.below hbb)
              clear hbb
              simp only [Act.put, List.setIfInBounds_toArray, List.set_cons_zero, List.set_cons_succ]))
      | (refine pool2 ?_ ?_
    )
      | (refine pool1 ?_
    )
      | (exact pool0
    )
      | (refine wpFl_pool ?_
    )
      | (first
           | refine wpFl_alloc 24 [.slice none 0 0, .int .i64 0, .bool false, .bool false, .bool false, .bool false, .bool false, .int .i64 0, .int .i64 0, .int .i64 0, .int .i64 0] rfl rfl rfl alloc_tp (fun bT wa eb ew => ?_)
           | refine wpFl_alloc 44 [.slice none 0 0, .slice none 0 0] rfl rfl rfl alloc_st (fun bS wa eb ew => ?_)
         have hba := below_new ew
         have hXa := bag_newT hX eb ew
         clear hX
         have hX := hXa
         clear hXa
         (try replace hs1 := hs1.weak hba (xl_newE eb))
         (try replace hm := hm.weak hba (xl_newE eb))
         (try replace hsA := hsA.weak hba (xl_newE eb))
         (try replace hsR := hsR.weak hba (xl_newE eb))
         (try replace hmR := hmR.weak hba (xl_newE eb))
         (try replace hzR := hzR.weak hba (xl_newE eb))
         clear hba eb ew
         refine ⟨by first | exact hX.restS.restS | exact hX.restS, ?_⟩
         first
           | change wpFl _ _ _ _ _ _ [7] _ _ _
           | change wpFl _ _ _ _ _ _ [8] _ _ _
           | change wpFl _ _ _ _ _ _ [] _ _ _
         simp only [Act.put, List.setIfInBounds_toArray, List.set_cons_zero, List.set_cons_succ])
      | (refine wpFl_end ?_
         first
             | (refine wpHp_over (cs' := [vsR, .int .i64 1, .bool false, .bool true, .bool false, .bool false, .bool false, .int .i64 2, .int .i64 2, .int .i64 10, .int .i64 0]) rfl rfl hX aggT sizT _ _ rfl rfl rfl rfl rfl rfl (one_tp (sts_one hsR.now) _ _ _ _ _ _ _ _ _ _) (fun w7 hX7 hk7 => ⟨hX7.restS.restS, ?_⟩)
                (try replace hs1 := hs1.over hk7 xl_1)
                (try replace hm := hm.over hk7 xl_1)
                (try replace hsA := hsA.over hk7 xl_1)
                (try replace hsR := hsR.over hk7 xl_1)
                (try replace hmR := hmR.over hk7 xl_1)
                (try replace hzR := hzR.over hk7 xl_1)
                clear hX hk7
                have hX := hX7
                clear hX7
                simp only [Act.put, List.setIfInBounds_toArray, List.set_cons_zero, List.set_cons_succ]
                refine wpHp_nil ?_
                simp only [List.drop_succ_cons, List.drop_zero]
                go_wp2_with (first | ((with_reducible refine at_store ?_); refine wpList_bag_overV (cs' := [ym, yz]) hX.swap aggSt sizSt _ _ rfl rfl rfl rfl rfl rfl rfl rfl (one_st (its_one hmR.now) (its_one hzR.now)) ?_; clear hX; intro wz hX hkz; (try replace hs1 := hs1.over hkz xl_2); (try replace hm := hm.over hkz xl_2); (try replace hsA := hsA.over hkz xl_2); (try replace hsR := hsR.over hkz xl_2); (try replace hmR := hmR.over hkz xl_2); (try replace hzR := hzR.over hkz xl_2); clear hkz))
                go_meet
                exact ⟨_, _, _, _, _, rfl, rfl, hs1.less xl_nil, hm.less xl_nil, hsR.less xl_nil, hmR.less xl_nil, hzR.less xl_nil, hX.swap⟩)
             | (refine wpHp_over (cs' := [vsR, .int .i64 1, .bool false, .bool true, .bool false, .bool false, .bool false, .int .i64 2, .int .i64 2, .int .i64 10, .int .i64 0]) rfl rfl hX.swap aggT sizT _ _ rfl rfl rfl rfl rfl rfl (one_tp (sts_one hsR.now) _ _ _ _ _ _ _ _ _ _) (fun w7 hX7 hk7 => ⟨hX7.restS.restS, ?_⟩)
                (try replace hs1 := hs1.over hk7 xl_2)
                (try replace hm := hm.over hk7 xl_2)
                (try replace hsA := hsA.over hk7 xl_2)
                (try replace hsR := hsR.over hk7 xl_2)
                (try replace hmR := hmR.over hk7 xl_2)
                (try replace hzR := hzR.over hk7 xl_2)
                clear hX hk7
                have hX := hX7
                clear hX7
                simp only [Act.put, List.setIfInBounds_toArray, List.set_cons_zero, List.set_cons_succ]
                refine wpHp_nil ?_
                simp only [List.drop_succ_cons, List.drop_zero]
                go_wp2_with (first | ((with_reducible refine at_store ?_); refine wpList_bag_overV (cs' := [ym, yz]) hX.swap aggSt sizSt _ _ rfl rfl rfl rfl rfl rfl rfl rfl (one_st (its_one hmR.now) (its_one hzR.now)) ?_; clear hX; intro wz hX hkz; (try replace hs1 := hs1.over hkz xl_1); (try replace hm := hm.over hkz xl_1); (try replace hsA := hsA.over hkz xl_1); (try replace hsR := hsR.over hkz xl_1); (try replace hmR := hmR.over hkz xl_1); (try replace hzR := hzR.over hkz xl_1); clear hkz))
                go_meet
                exact ⟨_, _, _, _, _, rfl, rfl, hs1.less xl_nil, hm.less xl_nil, hsR.less xl_nil, hmR.less xl_nil, hzR.less xl_nil, hX.swap⟩)))
  case rest =>
  obtain ⟨b20, b21, vsV1, vmV1, vzV1, rfl, rfl, hs1, hm, hsV1, hmV1, hzV1, hX⟩ := hcut
  obtain ⟨A9, c9, rfl, _⟩ := hsV1.now.form
  go_upto_region 13 with (first | (go_at_call 17; (with_reducible refine (c_no W0 H _ (XL []) _ hX.below xl_lt0 hs1).mono ?_); rintro e' wW ⟨vsN, rfl, hsN, hbb⟩; replace hX := hX.step hbb; clear hbb) | ((with_reducible refine at_store ?_); refine wpList_bag_overV (cs' := [vsN, .int .i64 0, .bool false, .bool true, .bool false, .bool false, .bool false, .int .i64 0, .int .i64 0, .int .i64 0, .int .i64 0]) (hX.new 24 [.slice none 0 0, .int .i64 0, .bool false, .bool false, .bool false, .bool false, .bool false, .int .i64 0, .int .i64 0, .int .i64 0, .int .i64 0]) aggT sizT _ _ rfl rfl rfl rfl rfl rfl rfl rfl (one_tp (sts_one hsN.now) _ _ _ _ _ _ _ _ _ _) ?_; clear hX; intro wz hX hkz; clear hkz hsN) | ((with_reducible refine at_load ?_); refine wpList_bag_cell hX int_cell _ rfl rfl rfl rfl (by first | exact .head _ | exact .tail _ (.head _) | exact .tail _ (.tail _ (.head _)) | exact .tail _ (.tail _ (.tail _ (.head _))) | exact .tail _ (.tail _ (.tail _ (.tail _ (.head _)))) | exact .tail _ (.tail _ (.tail _ (.tail _ (.tail _ (.head _))))) | exact .tail _ (.tail _ (.tail _ (.tail _ (.tail _ (.tail _ (.head _)))))) | exact .tail _ (.tail _ (.tail _ (.tail _ (.tail _ (.tail _ (.tail _ (.head _))))))) | exact .tail _ (.tail _ (.tail _ (.tail _ (.tail _ (.tail _ (.tail _ (.tail _ (.head _))))))))) rfl ?_) | ((with_reducible refine at_load ?_); refine wpList_bag_cell hX bool_cell _ rfl rfl rfl rfl (by first | exact .head _ | exact .tail _ (.head _) | exact .tail _ (.tail _ (.head _)) | exact .tail _ (.tail _ (.tail _ (.head _))) | exact .tail _ (.tail _ (.tail _ (.tail _ (.head _)))) | exact .tail _ (.tail _ (.tail _ (.tail _ (.tail _ (.head _))))) | exact .tail _ (.tail _ (.tail _ (.tail _ (.tail _ (.tail _ (.head _)))))) | exact .tail _ (.tail _ (.tail _ (.tail _ (.tail _ (.tail _ (.tail _ (.head _))))))) | exact .tail _ (.tail _ (.tail _ (.tail _ (.tail _ (.tail _ (.tail _ (.tail _ (.head _))))))))) rfl ?_) | ((with_reducible refine at_load ?_); refine wpList_bag_cell hX slS_cell _ rfl rfl rfl rfl (by first | exact .head _ | exact .tail _ (.head _) | exact .tail _ (.tail _ (.head _)) | exact .tail _ (.tail _ (.tail _ (.head _))) | exact .tail _ (.tail _ (.tail _ (.tail _ (.head _)))) | exact .tail _ (.tail _ (.tail _ (.tail _ (.tail _ (.head _))))) | exact .tail _ (.tail _ (.tail _ (.tail _ (.tail _ (.tail _ (.head _)))))) | exact .tail _ (.tail _ (.tail _ (.tail _ (.tail _ (.tail _ (.tail _ (.head _))))))) | exact .tail _ (.tail _ (.tail _ (.tail _ (.tail _ (.tail _ (.tail _ (.tail _ (.head _))))))))) rfl ?_) | ((with_reducible refine at_load ?_); refine wpList_bag_part (k := 0) hX aggT sizT _ rfl rfl rfl rfl (by first | exact .tail _ (.head _) | exact .tail _ (.tail _ (.head _)) | exact .tail _ (.tail _ (.tail _ (.head _))) | exact .tail _ (.tail _ (.tail _ (.tail _ (.head _)))) | exact .tail _ (.tail _ (.tail _ (.tail _ (.tail _ (.head _))))) | exact .tail _ (.tail _ (.tail _ (.tail _ (.tail _ (.tail _ (.head _)))))) | exact .tail _ (.tail _ (.tail _ (.tail _ (.tail _ (.tail _ (.tail _ (.head _))))))) | exact .tail _ (.tail _ (.tail _ (.tail _ (.tail _ (.tail _ (.tail _ (.tail _ (.head _))))))))) (fun jz vz hz => (congrArg (fun n => ([_, _, _, _, _, _, _, _, _, _, _] : List Value)[n]?) (Nat.zero_add jz)).trans hz) rfl ?_))
  dsimp only [List.append]
  go_wp2_with (first | (go_at_call 17; (with_reducible refine (c_no W0 H _ (XL []) _ hX.below xl_lt0 hs1).mono ?_); rintro e' wW ⟨vsN, rfl, hsN, hbb⟩; replace hX := hX.step hbb; clear hbb) | ((with_reducible refine at_store ?_); refine wpList_bag_overV (cs' := [vsN, .int .i64 0, .bool false, .bool true, .bool false, .bool false, .bool false, .int .i64 0, .int .i64 0, .int .i64 0, .int .i64 0]) (hX.new 24 [.slice none 0 0, .int .i64 0, .bool false, .bool false, .bool false, .bool false, .bool false, .int .i64 0, .int .i64 0, .int .i64 0, .int .i64 0]) aggT sizT _ _ rfl rfl rfl rfl rfl rfl rfl rfl (one_tp (sts_one hsN.now) _ _ _ _ _ _ _ _ _ _) ?_; clear hX; intro wz hX hkz; clear hkz hsN) | ((with_reducible refine at_load ?_); refine wpList_bag_cell hX int_cell _ rfl rfl rfl rfl (by first | exact .head _ | exact .tail _ (.head _) | exact .tail _ (.tail _ (.head _)) | exact .tail _ (.tail _ (.tail _ (.head _))) | exact .tail _ (.tail _ (.tail _ (.tail _ (.head _)))) | exact .tail _ (.tail _ (.tail _ (.tail _ (.tail _ (.head _))))) | exact .tail _ (.tail _ (.tail _ (.tail _ (.tail _ (.tail _ (.head _)))))) | exact .tail _ (.tail _ (.tail _ (.tail _ (.tail _ (.tail _ (.tail _ (.head _))))))) | exact .tail _ (.tail _ (.tail _ (.tail _ (.tail _ (.tail _ (.tail _ (.tail _ (.head _))))))))) rfl ?_) | ((with_reducible refine at_load ?_); refine wpList_bag_cell hX bool_cell _ rfl rfl rfl rfl (by first | exact .head _ | exact .tail _ (.head _) | exact .tail _ (.tail _ (.head _)) | exact .tail _ (.tail _ (.tail _ (.head _))) | exact .tail _ (.tail _ (.tail _ (.tail _ (.head _)))) | exact .tail _ (.tail _ (.tail _ (.tail _ (.tail _ (.head _))))) | exact .tail _ (.tail _ (.tail _ (.tail _ (.tail _ (.tail _ (.head _)))))) | exact .tail _ (.tail _ (.tail _ (.tail _ (.tail _ (.tail _ (.tail _ (.head _))))))) | exact .tail _ (.tail _ (.tail _ (.tail _ (.tail _ (.tail _ (.tail _ (.tail _ (.head _))))))))) rfl ?_) | ((with_reducible refine at_load ?_); refine wpList_bag_cell hX slS_cell _ rfl rfl rfl rfl (by first | exact .head _ | exact .tail _ (.head _) | exact .tail _ (.tail _ (.head _)) | exact .tail _ (.tail _ (.tail _ (.head _))) | exact .tail _ (.tail _ (.tail _ (.tail _ (.head _)))) | exact .tail _ (.tail _ (.tail _ (.tail _ (.tail _ (.head _))))) | exact .tail _ (.tail _ (.tail _ (.tail _ (.tail _ (.tail _ (.head _)))))) | exact .tail _ (.tail _ (.tail _ (.tail _ (.tail _ (.tail _ (.tail _ (.head _))))))) | exact .tail _ (.tail _ (.tail _ (.tail _ (.tail _ (.tail _ (.tail _ (.tail _ (.head _))))))))) rfl ?_) | ((with_reducible refine at_load ?_); refine wpList_bag_part (k := 0) hX aggT sizT _ rfl rfl rfl rfl (by first | exact .tail _ (.head _) | exact .tail _ (.tail _ (.head _)) | exact .tail _ (.tail _ (.tail _ (.head _))) | exact .tail _ (.tail _ (.tail _ (.tail _ (.head _)))) | exact .tail _ (.tail _ (.tail _ (.tail _ (.tail _ (.head _))))) | exact .tail _ (.tail _ (.tail _ (.tail _ (.tail _ (.tail _ (.head _)))))) | exact .tail _ (.tail _ (.tail _ (.tail _ (.tail _ (.tail _ (.tail _ (.head _))))))) | exact .tail _ (.tail _ (.tail _ (.tail _ (.tail _ (.tail _ (.tail _ (.tail _ (.head _))))))))) (fun jz vz hz => (congrArg (fun n => ([_, _, _, _, _, _, _, _, _, _, _] : List Value)[n]?) (Nat.zero_add jz)).trans hz) rfl ?_))
  go_ret
  exact ⟨rfl, hX.below⟩
theorem alive_true (W0 : World) (H : TpC W0) : AlT W0 := fun w hb => alive_any w (H.step hb)
end Go.Proofs.Ytigmlkfmgheegaa
