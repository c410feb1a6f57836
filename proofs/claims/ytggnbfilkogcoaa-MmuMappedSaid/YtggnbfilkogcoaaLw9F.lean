/-
  The law MmuMapped: addresses within the range. Condition: the address is a word (what the type uint16 says).
-/
import Derived.Test.YtggnbfilkogcoaaLw9E
namespace Go.Proofs.Ytggnbfilkogcoaa
open Go.RowKit
set_option linter.unusedSimpArgs false
set_option linter.unusedVariables false
set_option maxHeartbeats 8000000
set_option maxRecDepth 100000
attribute [local irreducible] wpQuiet

theorem mapped_in01 (u : Un) (hu : u.ok) (base blocks ad : Int) (a0 : 0 ≤ ad) (a1 : ad ≤ 65535) (W0 : World) (hr : u.right = true) (h : okMap 0 base blocks 1) (ho : ¬ 64 * blocks ≤ ad) : Calls Try.prog 9 #[.agg u.L.toArray, .agg [.int .i64 0, .int .i64 base, .int .i64 blocks, .int .i64 1].toArray, .int .u16 ad] W0 fun e w' => e = .returned (.bool true) ∧ Below W0.heap.size W0 w' := by
  have hX := ((Bag.nil W0).new 27 u.L).new 42 [.int .i64 0, .int .i64 base, .int .i64 blocks, .int .i64 1]
  rw [show (W0.alloc (.cells u.L.toArray 27)).heap.size = W0.heap.size + 1 by simp] at hX
  have hR0 : ([.int .i64 0, .int .i64 base, .int .i64 blocks, .int .i64 1] : List Value)[0]? = some (.int .i64 0) := rfl
  have hR1 : ([.int .i64 0, .int .i64 base, .int .i64 blocks, .int .i64 1] : List Value)[1]? = some (.int .i64 base) := rfl
  have hR2 : ([.int .i64 0, .int .i64 base, .int .i64 blocks, .int .i64 1] : List Value)[2]? = some (.int .i64 blocks) := rfl
  have hR3 : ([.int .i64 0, .int .i64 base, .int .i64 blocks, .int .i64 1] : List Value)[3]? = some (.int .i64 1) := rfl
  generalize ([.int .i64 0, .int .i64 base, .int .i64 blocks, .int .i64 1] : List Value) = A at *
  have h1 := fun w => right_any u hu w
  have h4 := fun w => alive_true w
  rw [hr] at h1
  have h2 := fun w => map_ok u hu 0 0 rfl (by decide) base blocks 1 h w
  have hz := zero_unit
  have hzl := Un.zlen
  have hzo := Un.z_ok
  have hbd := build_unit
  have hU := Un.mapU_ok u 0 1 base blocks 8
  have hV := Un.onMap_ok u 0 1 base blocks
  have hset := onMap_set u 0 1 base blocks
  have hlt : 0 < (u.mapU 0 1 base blocks 8).L.length := by rw [Un.len hU]; decide
  have hVr := onMap_right (u := u) (m := 0) hu hr h
  have hot := onMap_other u hu (m := 0) (by decide) 1 base blocks
  have hNl : (((u.pg.drop 8).take 8).flatMap Pg.L).length = 32 := by rw [flat_len, mode_len hu (m := 1) (by decide)]
  have hqm := mode_eq ((u.pg.drop 8).take 8) (mode_len hu (m := 1) (by decide))
  have hcu := mode_cells hu (m := 1) (by decide)
  have hcv := mode_cells hV (m := 1) (by decide)
  rw [show 8 * 1 = 8 by rfl, show 1 + 1 * 32 = 33 by rfl] at hcu hcv
  rw [show 8 * (1 - 0) = 8 by rfl] at hot
  rw [hot] at hcv
  have h3 := fun w => trans_any _ hV hVr 0 ad false w
  have h5 := fun w => trans_any _ hV hVr 0 ad true w
  have hT := trans_ok hV 0 ad false
  have hT2 := trans_ok hV 0 ad true
  obtain ⟨hrt, hra, hrw⟩ : ((u.onMap 0 1 base blocks).trans 0 ad false).2.2 = 0 ∧ ((u.onMap 0 1 base blocks).trans 0 ad false).1 = 64 * base + ad ∧ ((u.onMap 0 1 base blocks).trans 0 ad true).2.2 = 8 := onMap_in (u := u) (m := 0) (by decide) h a0 a1 ho
  generalize (u.onMap 0 1 base blocks).trans 0 ad false = R at *
  generalize (u.onMap 0 1 base blocks).trans 0 ad true = S at *
  obtain ⟨ra, T, rt⟩ := R
  obtain ⟨rb, T2, rw⟩ := S
  simp only at *
  subst hrt hra hrw
  generalize u.onMap 0 1 base blocks = V at *
  generalize u.mapU 0 1 base blocks 8 = U at *
  generalize ((u.pg.drop 8).take 8).flatMap Pg.L = N at *
  generalize Un.z = Z at *
  unfold okMap at h
  obtain ⟨_, _, k0, k1, b0, b1, s0, s1⟩ := h
  have V1 : IntKind.i64.wrap (64 * blocks) = 64 * blocks := by rw [wrap_i64]; exact IntWalk.wrap64_in _ ⟨by omega, by omega⟩
  have V3 : IntKind.i64.wrap 1 = 1 := by decide
  have V2 : IntKind.i64.wrap ad = ad := by rw [wrap_i64]; exact IntWalk.wrap64_in _ ⟨by omega, by omega⟩
  have V4 : IntKind.i64.wrap (64 * base) = 64 * base := by rw [wrap_i64]; exact IntWalk.wrap64_in _ ⟨by omega, by omega⟩
  have V5 : IntKind.i64.wrap (64 * base + ad) = 64 * base + ad := by rw [wrap_i64]; exact IntWalk.wrap64_in _ ⟨by omega, by omega⟩
  go_enter Try.func9, Try.ntmps9
  go_wp2_with (first
    | (go_at_call 10; first | (with_reducible refine (h1 _).mono ?_; rintro e w' ⟨rfl, hb⟩; replace hX := hX.step hb; clear hb))
    | (go_at_call 19; first | (with_reducible refine (h2 _).mono ?_; rintro e w' ⟨rfl, hb⟩; replace hX := hX.step hb; clear hb))
    | (go_at_call 13; first | (with_reducible refine (h3 _).mono ?_; rintro e w' ⟨rfl, hb⟩; replace hX := hX.step hb; clear hb) | (with_reducible refine (h5 _).mono ?_; rintro e w' ⟨rfl, hb⟩; replace hX := hX.step hb; clear hb))
    | (refine wpList_unit_load hX _ rfl rfl rfl rfl (by first | exact .head _ | exact .tail _ (.head _) | exact .tail _ (.tail _ (.head _)) | exact .tail _ (.tail _ (.tail _ (.head _))) | exact .tail _ (.tail _ (.tail _ (.tail _ (.head _))))) (by assumption) ?_)
    | (refine wpList_bag_cell hX int_cell _ rfl rfl rfl rfl (by first | exact .head _ | exact .tail _ (.head _) | exact .tail _ (.tail _ (.head _)) | exact .tail _ (.tail _ (.tail _ (.head _))) | exact .tail _ (.tail _ (.tail _ (.tail _ (.head _))))) (by assumption) ?_)
    | (refine wpList_unit_store hX _ _ rfl rfl rfl rfl rfl rfl (by assumption) hzo ?_; clear hX; intro w2 hX)
    | (refine wpList_bag_putB hX siz_bool _ _ rfl rfl rfl rfl rfl rfl (by assumption) ?_; clear hX; intro w2 hX; rw [hset] at hX))
  refine region_class (fun w' => Bag _ W0 w') (by kernel_rfl) (by kernel_rfl) hX.drew ?_
  clear hX
  repeat
    first
      | (refine BigFrame.wpQuiet_skip (by rfl) ?_
         simp only [Act.put, List.setIfInBounds_toArray, List.set_cons_zero, List.set_cons_succ])
      | (refine BigFrame.wpQuiet_want (by rfl) (fun K hK => ?_)
         apply Exists.intro
         refine ⟨fun wq hq => ?_, hK _ ?_⟩
         · first
             | (refine quiet_load 3 _ _ _ rfl rfl ((hq.all _ _ _ (by first | exact .head _ | exact .tail _ (.head _) | exact .tail _ (.tail _ (.head _)) | exact .tail _ (.tail _ (.tail _ (.head _))) | exact .tail _ (.tail _ (.tail _ (.tail _ (.head _)))))).loadCell (by assumption) int_cell))
             | (refine quiet_load 24 _ _ _ rfl rfl ((hq.all _ _ _ (by first | exact .head _ | exact .tail _ (.head _) | exact .tail _ (.tail _ (.head _)) | exact .tail _ (.tail _ (.tail _ (.head _))) | exact .tail _ (.tail _ (.tail _ (.tail _ (.head _)))))).loadAtSub (by assumption) (by assumption) agg_mode siz_mode))
             | (unfold Oper.quietAt
                go_simp
                first
                  | with_reducible rfl
                  | ((go_at_call 12); with_reducible refine (h4 _).mono ?_; exact fun e w' ⟨he, hb⟩ => ⟨he, hq.step hb⟩))
         clear hK K
         simp only [Act.put, List.setIfInBounds_toArray, List.set_cons_zero, List.set_cons_succ])
  refine wpQuiet_nil ?_
  intro w4 hX
  go_wp2
  go_ret
  exact ⟨rfl, hX.below⟩

theorem mapped_in02 (u : Un) (hu : u.ok) (base blocks ad : Int) (a0 : 0 ≤ ad) (a1 : ad ≤ 65535) (W0 : World) (hr : u.right = true) (h : okMap 0 base blocks 2) (ho : ¬ 64 * blocks ≤ ad) : Calls Try.prog 9 #[.agg u.L.toArray, .agg [.int .i64 0, .int .i64 base, .int .i64 blocks, .int .i64 2].toArray, .int .u16 ad] W0 fun e w' => e = .returned (.bool true) ∧ Below W0.heap.size W0 w' := by
  have hX := ((Bag.nil W0).new 27 u.L).new 42 [.int .i64 0, .int .i64 base, .int .i64 blocks, .int .i64 2]
  rw [show (W0.alloc (.cells u.L.toArray 27)).heap.size = W0.heap.size + 1 by simp] at hX
  have hR0 : ([.int .i64 0, .int .i64 base, .int .i64 blocks, .int .i64 2] : List Value)[0]? = some (.int .i64 0) := rfl
  have hR1 : ([.int .i64 0, .int .i64 base, .int .i64 blocks, .int .i64 2] : List Value)[1]? = some (.int .i64 base) := rfl
  have hR2 : ([.int .i64 0, .int .i64 base, .int .i64 blocks, .int .i64 2] : List Value)[2]? = some (.int .i64 blocks) := rfl
  have hR3 : ([.int .i64 0, .int .i64 base, .int .i64 blocks, .int .i64 2] : List Value)[3]? = some (.int .i64 2) := rfl
  generalize ([.int .i64 0, .int .i64 base, .int .i64 blocks, .int .i64 2] : List Value) = A at *
  have h1 := fun w => right_any u hu w
  have h4 := fun w => alive_true w
  rw [hr] at h1
  have h2 := fun w => map_ok u hu 0 0 rfl (by decide) base blocks 2 h w
  have hz := zero_unit
  have hzl := Un.zlen
  have hzo := Un.z_ok
  have hbd := build_unit
  have hU := Un.mapU_ok u 0 2 base blocks 8
  have hV := Un.onMap_ok u 0 2 base blocks
  have hset := onMap_set u 0 2 base blocks
  have hlt : 0 < (u.mapU 0 2 base blocks 8).L.length := by rw [Un.len hU]; decide
  have hVr := onMap_right (u := u) (m := 0) hu hr h
  have hot := onMap_other u hu (m := 0) (by decide) 2 base blocks
  have hNl : (((u.pg.drop 8).take 8).flatMap Pg.L).length = 32 := by rw [flat_len, mode_len hu (m := 1) (by decide)]
  have hqm := mode_eq ((u.pg.drop 8).take 8) (mode_len hu (m := 1) (by decide))
  have hcu := mode_cells hu (m := 1) (by decide)
  have hcv := mode_cells hV (m := 1) (by decide)
  rw [show 8 * 1 = 8 by rfl, show 1 + 1 * 32 = 33 by rfl] at hcu hcv
  rw [show 8 * (1 - 0) = 8 by rfl] at hot
  rw [hot] at hcv
  have h3 := fun w => trans_any _ hV hVr 0 ad false w
  have h5 := fun w => trans_any _ hV hVr 0 ad true w
  have hT := trans_ok hV 0 ad false
  have hT2 := trans_ok hV 0 ad true
  obtain ⟨hrt, hra, hrw⟩ : ((u.onMap 0 2 base blocks).trans 0 ad false).2.2 = 0 ∧ ((u.onMap 0 2 base blocks).trans 0 ad false).1 = 64 * base + ad ∧ ((u.onMap 0 2 base blocks).trans 0 ad true).2.2 = 0 := onMap_in (u := u) (m := 0) (by decide) h a0 a1 ho
  generalize (u.onMap 0 2 base blocks).trans 0 ad false = R at *
  generalize (u.onMap 0 2 base blocks).trans 0 ad true = S at *
  obtain ⟨ra, T, rt⟩ := R
  obtain ⟨rb, T2, rw⟩ := S
  simp only at *
  subst hrt hra hrw
  generalize u.onMap 0 2 base blocks = V at *
  generalize u.mapU 0 2 base blocks 8 = U at *
  generalize ((u.pg.drop 8).take 8).flatMap Pg.L = N at *
  generalize Un.z = Z at *
  unfold okMap at h
  obtain ⟨_, _, k0, k1, b0, b1, s0, s1⟩ := h
  have V1 : IntKind.i64.wrap (64 * blocks) = 64 * blocks := by rw [wrap_i64]; exact IntWalk.wrap64_in _ ⟨by omega, by omega⟩
  have V3 : IntKind.i64.wrap 1 = 1 := by decide
  have V2 : IntKind.i64.wrap ad = ad := by rw [wrap_i64]; exact IntWalk.wrap64_in _ ⟨by omega, by omega⟩
  have V4 : IntKind.i64.wrap (64 * base) = 64 * base := by rw [wrap_i64]; exact IntWalk.wrap64_in _ ⟨by omega, by omega⟩
  have V5 : IntKind.i64.wrap (64 * base + ad) = 64 * base + ad := by rw [wrap_i64]; exact IntWalk.wrap64_in _ ⟨by omega, by omega⟩
  go_enter Try.func9, Try.ntmps9
  go_wp2_with (first
    | (go_at_call 10; first | (with_reducible refine (h1 _).mono ?_; rintro e w' ⟨rfl, hb⟩; replace hX := hX.step hb; clear hb))
    | (go_at_call 19; first | (with_reducible refine (h2 _).mono ?_; rintro e w' ⟨rfl, hb⟩; replace hX := hX.step hb; clear hb))
    | (go_at_call 13; first | (with_reducible refine (h3 _).mono ?_; rintro e w' ⟨rfl, hb⟩; replace hX := hX.step hb; clear hb) | (with_reducible refine (h5 _).mono ?_; rintro e w' ⟨rfl, hb⟩; replace hX := hX.step hb; clear hb))
    | (refine wpList_unit_load hX _ rfl rfl rfl rfl (by first | exact .head _ | exact .tail _ (.head _) | exact .tail _ (.tail _ (.head _)) | exact .tail _ (.tail _ (.tail _ (.head _))) | exact .tail _ (.tail _ (.tail _ (.tail _ (.head _))))) (by assumption) ?_)
    | (refine wpList_bag_cell hX int_cell _ rfl rfl rfl rfl (by first | exact .head _ | exact .tail _ (.head _) | exact .tail _ (.tail _ (.head _)) | exact .tail _ (.tail _ (.tail _ (.head _))) | exact .tail _ (.tail _ (.tail _ (.tail _ (.head _))))) (by assumption) ?_)
    | (refine wpList_unit_store hX _ _ rfl rfl rfl rfl rfl rfl (by assumption) hzo ?_; clear hX; intro w2 hX)
    | (refine wpList_bag_putB hX siz_bool _ _ rfl rfl rfl rfl rfl rfl (by assumption) ?_; clear hX; intro w2 hX; rw [hset] at hX))
  refine region_class (fun w' => Bag _ W0 w') (by kernel_rfl) (by kernel_rfl) hX.drew ?_
  clear hX
  repeat
    first
      | (refine BigFrame.wpQuiet_skip (by rfl) ?_
         simp only [Act.put, List.setIfInBounds_toArray, List.set_cons_zero, List.set_cons_succ])
      | (refine BigFrame.wpQuiet_want (by rfl) (fun K hK => ?_)
         apply Exists.intro
         refine ⟨fun wq hq => ?_, hK _ ?_⟩
         · first
             | (refine quiet_load 3 _ _ _ rfl rfl ((hq.all _ _ _ (by first | exact .head _ | exact .tail _ (.head _) | exact .tail _ (.tail _ (.head _)) | exact .tail _ (.tail _ (.tail _ (.head _))) | exact .tail _ (.tail _ (.tail _ (.tail _ (.head _)))))).loadCell (by assumption) int_cell))
             | (refine quiet_load 24 _ _ _ rfl rfl ((hq.all _ _ _ (by first | exact .head _ | exact .tail _ (.head _) | exact .tail _ (.tail _ (.head _)) | exact .tail _ (.tail _ (.tail _ (.head _))) | exact .tail _ (.tail _ (.tail _ (.tail _ (.head _)))))).loadAtSub (by assumption) (by assumption) agg_mode siz_mode))
             | (unfold Oper.quietAt
                go_simp
                first
                  | with_reducible rfl
                  | ((go_at_call 12); with_reducible refine (h4 _).mono ?_; exact fun e w' ⟨he, hb⟩ => ⟨he, hq.step hb⟩))
         clear hK K
         simp only [Act.put, List.setIfInBounds_toArray, List.set_cons_zero, List.set_cons_succ])
  refine wpQuiet_nil ?_
  intro w4 hX
  go_wp2
  go_ret
  exact ⟨rfl, hX.below⟩

theorem mapped_in11 (u : Un) (hu : u.ok) (base blocks ad : Int) (a0 : 0 ≤ ad) (a1 : ad ≤ 65535) (W0 : World) (hr : u.right = true) (h : okMap 1 base blocks 1) (ho : ¬ 64 * blocks ≤ ad) : Calls Try.prog 9 #[.agg u.L.toArray, .agg [.int .i64 1, .int .i64 base, .int .i64 blocks, .int .i64 1].toArray, .int .u16 ad] W0 fun e w' => e = .returned (.bool true) ∧ Below W0.heap.size W0 w' := by
  have hX := ((Bag.nil W0).new 27 u.L).new 42 [.int .i64 1, .int .i64 base, .int .i64 blocks, .int .i64 1]
  rw [show (W0.alloc (.cells u.L.toArray 27)).heap.size = W0.heap.size + 1 by simp] at hX
  have hR0 : ([.int .i64 1, .int .i64 base, .int .i64 blocks, .int .i64 1] : List Value)[0]? = some (.int .i64 1) := rfl
  have hR1 : ([.int .i64 1, .int .i64 base, .int .i64 blocks, .int .i64 1] : List Value)[1]? = some (.int .i64 base) := rfl
  have hR2 : ([.int .i64 1, .int .i64 base, .int .i64 blocks, .int .i64 1] : List Value)[2]? = some (.int .i64 blocks) := rfl
  have hR3 : ([.int .i64 1, .int .i64 base, .int .i64 blocks, .int .i64 1] : List Value)[3]? = some (.int .i64 1) := rfl
  generalize ([.int .i64 1, .int .i64 base, .int .i64 blocks, .int .i64 1] : List Value) = A at *
  have h1 := fun w => right_any u hu w
  have h4 := fun w => alive_true w
  rw [hr] at h1
  have h2 := fun w => map_ok u hu 1 1 rfl (by decide) base blocks 1 h w
  have hz := zero_unit
  have hzl := Un.zlen
  have hzo := Un.z_ok
  have hbd := build_unit
  have hU := Un.mapU_ok u 1 1 base blocks 8
  have hV := Un.onMap_ok u 1 1 base blocks
  have hset := onMap_set u 1 1 base blocks
  have hlt : 0 < (u.mapU 1 1 base blocks 8).L.length := by rw [Un.len hU]; decide
  have hVr := onMap_right (u := u) (m := 1) hu hr h
  have hot := onMap_other u hu (m := 1) (by decide) 1 base blocks
  have hNl : (((u.pg.drop 0).take 8).flatMap Pg.L).length = 32 := by rw [flat_len, mode_len hu (m := 0) (by decide)]
  have hqm := mode_eq ((u.pg.drop 0).take 8) (mode_len hu (m := 0) (by decide))
  have hcu := mode_cells hu (m := 0) (by decide)
  have hcv := mode_cells hV (m := 0) (by decide)
  rw [show 8 * 0 = 0 by rfl, show 1 + 0 * 32 = 1 by rfl] at hcu hcv
  rw [show 8 * (1 - 1) = 0 by rfl] at hot
  rw [hot] at hcv
  have h3 := fun w => trans_any _ hV hVr 1 ad false w
  have h5 := fun w => trans_any _ hV hVr 1 ad true w
  have hT := trans_ok hV 1 ad false
  have hT2 := trans_ok hV 1 ad true
  obtain ⟨hrt, hra, hrw⟩ : ((u.onMap 1 1 base blocks).trans 1 ad false).2.2 = 0 ∧ ((u.onMap 1 1 base blocks).trans 1 ad false).1 = 64 * base + ad ∧ ((u.onMap 1 1 base blocks).trans 1 ad true).2.2 = 8 := onMap_in (u := u) (m := 1) (by decide) h a0 a1 ho
  generalize (u.onMap 1 1 base blocks).trans 1 ad false = R at *
  generalize (u.onMap 1 1 base blocks).trans 1 ad true = S at *
  obtain ⟨ra, T, rt⟩ := R
  obtain ⟨rb, T2, rw⟩ := S
  simp only at *
  subst hrt hra hrw
  generalize u.onMap 1 1 base blocks = V at *
  generalize u.mapU 1 1 base blocks 8 = U at *
  generalize ((u.pg.drop 0).take 8).flatMap Pg.L = N at *
  generalize Un.z = Z at *
  unfold okMap at h
  obtain ⟨_, _, k0, k1, b0, b1, s0, s1⟩ := h
  have V1 : IntKind.i64.wrap (64 * blocks) = 64 * blocks := by rw [wrap_i64]; exact IntWalk.wrap64_in _ ⟨by omega, by omega⟩
  have V3 : IntKind.i64.wrap 0 = 0 := by decide
  have V2 : IntKind.i64.wrap ad = ad := by rw [wrap_i64]; exact IntWalk.wrap64_in _ ⟨by omega, by omega⟩
  have V4 : IntKind.i64.wrap (64 * base) = 64 * base := by rw [wrap_i64]; exact IntWalk.wrap64_in _ ⟨by omega, by omega⟩
  have V5 : IntKind.i64.wrap (64 * base + ad) = 64 * base + ad := by rw [wrap_i64]; exact IntWalk.wrap64_in _ ⟨by omega, by omega⟩
  go_enter Try.func9, Try.ntmps9
  go_wp2_with (first
    | (go_at_call 10; first | (with_reducible refine (h1 _).mono ?_; rintro e w' ⟨rfl, hb⟩; replace hX := hX.step hb; clear hb))
    | (go_at_call 19; first | (with_reducible refine (h2 _).mono ?_; rintro e w' ⟨rfl, hb⟩; replace hX := hX.step hb; clear hb))
    | (go_at_call 13; first | (with_reducible refine (h3 _).mono ?_; rintro e w' ⟨rfl, hb⟩; replace hX := hX.step hb; clear hb) | (with_reducible refine (h5 _).mono ?_; rintro e w' ⟨rfl, hb⟩; replace hX := hX.step hb; clear hb))
    | (refine wpList_unit_load hX _ rfl rfl rfl rfl (by first | exact .head _ | exact .tail _ (.head _) | exact .tail _ (.tail _ (.head _)) | exact .tail _ (.tail _ (.tail _ (.head _))) | exact .tail _ (.tail _ (.tail _ (.tail _ (.head _))))) (by assumption) ?_)
    | (refine wpList_bag_cell hX int_cell _ rfl rfl rfl rfl (by first | exact .head _ | exact .tail _ (.head _) | exact .tail _ (.tail _ (.head _)) | exact .tail _ (.tail _ (.tail _ (.head _))) | exact .tail _ (.tail _ (.tail _ (.tail _ (.head _))))) (by assumption) ?_)
    | (refine wpList_unit_store hX _ _ rfl rfl rfl rfl rfl rfl (by assumption) hzo ?_; clear hX; intro w2 hX)
    | (refine wpList_bag_putB hX siz_bool _ _ rfl rfl rfl rfl rfl rfl (by assumption) ?_; clear hX; intro w2 hX; rw [hset] at hX))
  refine region_class (fun w' => Bag _ W0 w') (by kernel_rfl) (by kernel_rfl) hX.drew ?_
  clear hX
  repeat
    first
      | (refine BigFrame.wpQuiet_skip (by rfl) ?_
         simp only [Act.put, List.setIfInBounds_toArray, List.set_cons_zero, List.set_cons_succ])
      | (refine BigFrame.wpQuiet_want (by rfl) (fun K hK => ?_)
         apply Exists.intro
         refine ⟨fun wq hq => ?_, hK _ ?_⟩
         · first
             | (refine quiet_load 3 _ _ _ rfl rfl ((hq.all _ _ _ (by first | exact .head _ | exact .tail _ (.head _) | exact .tail _ (.tail _ (.head _)) | exact .tail _ (.tail _ (.tail _ (.head _))) | exact .tail _ (.tail _ (.tail _ (.tail _ (.head _)))))).loadCell (by assumption) int_cell))
             | (refine quiet_load 24 _ _ _ rfl rfl ((hq.all _ _ _ (by first | exact .head _ | exact .tail _ (.head _) | exact .tail _ (.tail _ (.head _)) | exact .tail _ (.tail _ (.tail _ (.head _))) | exact .tail _ (.tail _ (.tail _ (.tail _ (.head _)))))).loadAtSub (by assumption) (by assumption) agg_mode siz_mode))
             | (unfold Oper.quietAt
                go_simp
                first
                  | with_reducible rfl
                  | ((go_at_call 12); with_reducible refine (h4 _).mono ?_; exact fun e w' ⟨he, hb⟩ => ⟨he, hq.step hb⟩))
         clear hK K
         simp only [Act.put, List.setIfInBounds_toArray, List.set_cons_zero, List.set_cons_succ])
  refine wpQuiet_nil ?_
  intro w4 hX
  go_wp2
  go_ret
  exact ⟨rfl, hX.below⟩

theorem mapped_in12 (u : Un) (hu : u.ok) (base blocks ad : Int) (a0 : 0 ≤ ad) (a1 : ad ≤ 65535) (W0 : World) (hr : u.right = true) (h : okMap 1 base blocks 2) (ho : ¬ 64 * blocks ≤ ad) : Calls Try.prog 9 #[.agg u.L.toArray, .agg [.int .i64 1, .int .i64 base, .int .i64 blocks, .int .i64 2].toArray, .int .u16 ad] W0 fun e w' => e = .returned (.bool true) ∧ Below W0.heap.size W0 w' := by
  have hX := ((Bag.nil W0).new 27 u.L).new 42 [.int .i64 1, .int .i64 base, .int .i64 blocks, .int .i64 2]
  rw [show (W0.alloc (.cells u.L.toArray 27)).heap.size = W0.heap.size + 1 by simp] at hX
  have hR0 : ([.int .i64 1, .int .i64 base, .int .i64 blocks, .int .i64 2] : List Value)[0]? = some (.int .i64 1) := rfl
  have hR1 : ([.int .i64 1, .int .i64 base, .int .i64 blocks, .int .i64 2] : List Value)[1]? = some (.int .i64 base) := rfl
  have hR2 : ([.int .i64 1, .int .i64 base, .int .i64 blocks, .int .i64 2] : List Value)[2]? = some (.int .i64 blocks) := rfl
  have hR3 : ([.int .i64 1, .int .i64 base, .int .i64 blocks, .int .i64 2] : List Value)[3]? = some (.int .i64 2) := rfl
  generalize ([.int .i64 1, .int .i64 base, .int .i64 blocks, .int .i64 2] : List Value) = A at *
  have h1 := fun w => right_any u hu w
  have h4 := fun w => alive_true w
  rw [hr] at h1
  have h2 := fun w => map_ok u hu 1 1 rfl (by decide) base blocks 2 h w
  have hz := zero_unit
  have hzl := Un.zlen
  have hzo := Un.z_ok
  have hbd := build_unit
  have hU := Un.mapU_ok u 1 2 base blocks 8
  have hV := Un.onMap_ok u 1 2 base blocks
  have hset := onMap_set u 1 2 base blocks
  have hlt : 0 < (u.mapU 1 2 base blocks 8).L.length := by rw [Un.len hU]; decide
  have hVr := onMap_right (u := u) (m := 1) hu hr h
  have hot := onMap_other u hu (m := 1) (by decide) 2 base blocks
  have hNl : (((u.pg.drop 0).take 8).flatMap Pg.L).length = 32 := by rw [flat_len, mode_len hu (m := 0) (by decide)]
  have hqm := mode_eq ((u.pg.drop 0).take 8) (mode_len hu (m := 0) (by decide))
  have hcu := mode_cells hu (m := 0) (by decide)
  have hcv := mode_cells hV (m := 0) (by decide)
  rw [show 8 * 0 = 0 by rfl, show 1 + 0 * 32 = 1 by rfl] at hcu hcv
  rw [show 8 * (1 - 1) = 0 by rfl] at hot
  rw [hot] at hcv
  have h3 := fun w => trans_any _ hV hVr 1 ad false w
  have h5 := fun w => trans_any _ hV hVr 1 ad true w
  have hT := trans_ok hV 1 ad false
  have hT2 := trans_ok hV 1 ad true
  obtain ⟨hrt, hra, hrw⟩ : ((u.onMap 1 2 base blocks).trans 1 ad false).2.2 = 0 ∧ ((u.onMap 1 2 base blocks).trans 1 ad false).1 = 64 * base + ad ∧ ((u.onMap 1 2 base blocks).trans 1 ad true).2.2 = 0 := onMap_in (u := u) (m := 1) (by decide) h a0 a1 ho
  generalize (u.onMap 1 2 base blocks).trans 1 ad false = R at *
  generalize (u.onMap 1 2 base blocks).trans 1 ad true = S at *
  obtain ⟨ra, T, rt⟩ := R
  obtain ⟨rb, T2, rw⟩ := S
  simp only at *
  subst hrt hra hrw
  generalize u.onMap 1 2 base blocks = V at *
  generalize u.mapU 1 2 base blocks 8 = U at *
  generalize ((u.pg.drop 0).take 8).flatMap Pg.L = N at *
  generalize Un.z = Z at *
  unfold okMap at h
  obtain ⟨_, _, k0, k1, b0, b1, s0, s1⟩ := h
  have V1 : IntKind.i64.wrap (64 * blocks) = 64 * blocks := by rw [wrap_i64]; exact IntWalk.wrap64_in _ ⟨by omega, by omega⟩
  have V3 : IntKind.i64.wrap 0 = 0 := by decide
  have V2 : IntKind.i64.wrap ad = ad := by rw [wrap_i64]; exact IntWalk.wrap64_in _ ⟨by omega, by omega⟩
  have V4 : IntKind.i64.wrap (64 * base) = 64 * base := by rw [wrap_i64]; exact IntWalk.wrap64_in _ ⟨by omega, by omega⟩
  have V5 : IntKind.i64.wrap (64 * base + ad) = 64 * base + ad := by rw [wrap_i64]; exact IntWalk.wrap64_in _ ⟨by omega, by omega⟩
  go_enter Try.func9, Try.ntmps9
  go_wp2_with (first
    | (go_at_call 10; first | (with_reducible refine (h1 _).mono ?_; rintro e w' ⟨rfl, hb⟩; replace hX := hX.step hb; clear hb))
    | (go_at_call 19; first | (with_reducible refine (h2 _).mono ?_; rintro e w' ⟨rfl, hb⟩; replace hX := hX.step hb; clear hb))
    | (go_at_call 13; first | (with_reducible refine (h3 _).mono ?_; rintro e w' ⟨rfl, hb⟩; replace hX := hX.step hb; clear hb) | (with_reducible refine (h5 _).mono ?_; rintro e w' ⟨rfl, hb⟩; replace hX := hX.step hb; clear hb))
    | (refine wpList_unit_load hX _ rfl rfl rfl rfl (by first | exact .head _ | exact .tail _ (.head _) | exact .tail _ (.tail _ (.head _)) | exact .tail _ (.tail _ (.tail _ (.head _))) | exact .tail _ (.tail _ (.tail _ (.tail _ (.head _))))) (by assumption) ?_)
    | (refine wpList_bag_cell hX int_cell _ rfl rfl rfl rfl (by first | exact .head _ | exact .tail _ (.head _) | exact .tail _ (.tail _ (.head _)) | exact .tail _ (.tail _ (.tail _ (.head _))) | exact .tail _ (.tail _ (.tail _ (.tail _ (.head _))))) (by assumption) ?_)
    | (refine wpList_unit_store hX _ _ rfl rfl rfl rfl rfl rfl (by assumption) hzo ?_; clear hX; intro w2 hX)
    | (refine wpList_bag_putB hX siz_bool _ _ rfl rfl rfl rfl rfl rfl (by assumption) ?_; clear hX; intro w2 hX; rw [hset] at hX))
  refine region_class (fun w' => Bag _ W0 w') (by kernel_rfl) (by kernel_rfl) hX.drew ?_
  clear hX
  repeat
    first
      | (refine BigFrame.wpQuiet_skip (by rfl) ?_
         simp only [Act.put, List.setIfInBounds_toArray, List.set_cons_zero, List.set_cons_succ])
      | (refine BigFrame.wpQuiet_want (by rfl) (fun K hK => ?_)
         apply Exists.intro
         refine ⟨fun wq hq => ?_, hK _ ?_⟩
         · first
             | (refine quiet_load 3 _ _ _ rfl rfl ((hq.all _ _ _ (by first | exact .head _ | exact .tail _ (.head _) | exact .tail _ (.tail _ (.head _)) | exact .tail _ (.tail _ (.tail _ (.head _))) | exact .tail _ (.tail _ (.tail _ (.tail _ (.head _)))))).loadCell (by assumption) int_cell))
             | (refine quiet_load 24 _ _ _ rfl rfl ((hq.all _ _ _ (by first | exact .head _ | exact .tail _ (.head _) | exact .tail _ (.tail _ (.head _)) | exact .tail _ (.tail _ (.tail _ (.head _))) | exact .tail _ (.tail _ (.tail _ (.tail _ (.head _)))))).loadAtSub (by assumption) (by assumption) agg_mode siz_mode))
             | (unfold Oper.quietAt
                go_simp
                first
                  | with_reducible rfl
                  | ((go_at_call 12); with_reducible refine (h4 _).mono ?_; exact fun e w' ⟨he, hb⟩ => ⟨he, hq.step hb⟩))
         clear hK K
         simp only [Act.put, List.setIfInBounds_toArray, List.set_cons_zero, List.set_cons_succ])
  refine wpQuiet_nil ?_
  intro w4 hX
  go_wp2
  go_ret
  exact ⟨rfl, hX.below⟩
end Go.Proofs.Ytggnbfilkogcoaa
