/-
  The law MmuMapped. Condition: the address is a word (what the type uint16 says).
-/
import Derived.Test.YtggnbfilkogcoaaLw9D
namespace Go.Proofs.Ytggnbfilkogcoaa
open Go.RowKit
set_option linter.unusedSimpArgs false
set_option linter.unusedVariables false
set_option maxHeartbeats 8000000
set_option maxRecDepth 100000
attribute [local irreducible] wpQuiet

theorem mode_cells {u : Un} (hu : u.ok) {m : Nat} (hm : m < 2) : ∀ j v, (((u.pg.drop (8 * m)).take 8).flatMap Pg.L)[j]? = some v → u.L[1 + m * 32 + j]? = some v := by
  intro j v h
  have hl : u.pg.length = 16 := hu
  have hj := (List.getElem?_eq_some_iff.1 h).1
  rw [flat_len, mode_len hu hm] at hj
  have e : (u.pg.flatMap Pg.L)[m * 32 + j]? = some v := by
    rw [← flat_take, ← flat_drop, List.getElem?_take_of_lt (by omega), List.getElem?_drop, show 4 * (8 * m) = m * 32 by omega] at h
    exact h
  have := Un.modes hu _ _ e
  rw [← Nat.add_assoc] at this
  exact this
theorem mapped_no (u : Un) (hu : u.ok) (mode base blocks acc ad : Int) (a0 : 0 ≤ ad) (a1 : ad ≤ 65535) (W0 : World) (h : u.right = false ∨ mode < 0 ∨ 1 < mode) : Calls Try.prog 9 #[.agg u.L.toArray, .agg [.int .i64 mode, .int .i64 base, .int .i64 blocks, .int .i64 acc].toArray, .int .u16 ad] W0 fun e w' => e = .returned (.bool true) ∧ Below W0.heap.size W0 w' := by
  have hX := ((Bag.nil W0).new 27 u.L).new 42 [.int .i64 mode, .int .i64 base, .int .i64 blocks, .int .i64 acc]
  rw [show (W0.alloc (.cells u.L.toArray 27)).heap.size = W0.heap.size + 1 by simp] at hX
  have hR0 : ([.int .i64 mode, .int .i64 base, .int .i64 blocks, .int .i64 acc] : List Value)[0]? = some (.int .i64 mode) := rfl
  have hR1 : ([.int .i64 mode, .int .i64 base, .int .i64 blocks, .int .i64 acc] : List Value)[1]? = some (.int .i64 base) := rfl
  have hR2 : ([.int .i64 mode, .int .i64 base, .int .i64 blocks, .int .i64 acc] : List Value)[2]? = some (.int .i64 blocks) := rfl
  have hR3 : ([.int .i64 mode, .int .i64 base, .int .i64 blocks, .int .i64 acc] : List Value)[3]? = some (.int .i64 acc) := rfl
  generalize ([.int .i64 mode, .int .i64 base, .int .i64 blocks, .int .i64 acc] : List Value) = A at *
  have h1 := fun w => right_any u hu w
  have h4 := fun w => alive_true w
  cases hr : u.right
  · rw [hr] at h1
    clear h
    go_enter Try.func9, Try.ntmps9
    go_wp2_with (first
      | (go_at_call 10; first | (with_reducible refine (h1 _).mono ?_; rintro e w' ⟨rfl, hb⟩; replace hX := hX.step hb; clear hb))
      | (go_at_call 12; first | (with_reducible refine (h4 _).mono ?_; rintro e w' ⟨rfl, hb⟩; replace hX := hX.step hb; clear hb))
      | (refine wpList_unit_load hX _ rfl rfl rfl rfl (by first | exact .head _ | exact .tail _ (.head _) | exact .tail _ (.tail _ (.head _)) | exact .tail _ (.tail _ (.tail _ (.head _))) | exact .tail _ (.tail _ (.tail _ (.tail _ (.head _))))) (by assumption) ?_))
    go_ret
    exact ⟨rfl, hX.below⟩
  · rw [hr] at h1 h
    by_cases hm : mode < 0
    · clear h
      go_enter Try.func9, Try.ntmps9
      go_wp2_with (first
        | (go_at_call 10; first | (with_reducible refine (h1 _).mono ?_; rintro e w' ⟨rfl, hb⟩; replace hX := hX.step hb; clear hb))
        | (go_at_call 12; first | (with_reducible refine (h4 _).mono ?_; rintro e w' ⟨rfl, hb⟩; replace hX := hX.step hb; clear hb))
        | (refine wpList_unit_load hX _ rfl rfl rfl rfl (by first | exact .head _ | exact .tail _ (.head _) | exact .tail _ (.tail _ (.head _)) | exact .tail _ (.tail _ (.tail _ (.head _))) | exact .tail _ (.tail _ (.tail _ (.tail _ (.head _))))) (by assumption) ?_)
        | (refine wpList_bag_cell hX int_cell _ rfl rfl rfl rfl (by first | exact .head _ | exact .tail _ (.head _) | exact .tail _ (.tail _ (.head _)) | exact .tail _ (.tail _ (.tail _ (.head _))) | exact .tail _ (.tail _ (.tail _ (.tail _ (.head _))))) (by assumption) ?_))
      go_ret
      exact ⟨rfl, hX.below⟩
    · have hm2 : 1 < mode := by
        rcases h with h | h | h
        · cases h
        · exact absurd h hm
        · exact h
      have hd : decide (mode < 0) = false := decide_eq_false hm
      clear h
      go_enter Try.func9, Try.ntmps9
      go_wp2_with (first
        | (go_at_call 10; first | (with_reducible refine (h1 _).mono ?_; rintro e w' ⟨rfl, hb⟩; replace hX := hX.step hb; clear hb))
        | (go_at_call 12; first | (with_reducible refine (h4 _).mono ?_; rintro e w' ⟨rfl, hb⟩; replace hX := hX.step hb; clear hb))
        | (refine wpList_unit_load hX _ rfl rfl rfl rfl (by first | exact .head _ | exact .tail _ (.head _) | exact .tail _ (.tail _ (.head _)) | exact .tail _ (.tail _ (.tail _ (.head _))) | exact .tail _ (.tail _ (.tail _ (.tail _ (.head _))))) (by assumption) ?_)
        | (refine wpList_bag_cell hX int_cell _ rfl rfl rfl rfl (by first | exact .head _ | exact .tail _ (.head _) | exact .tail _ (.tail _ (.head _)) | exact .tail _ (.tail _ (.tail _ (.head _))) | exact .tail _ (.tail _ (.tail _ (.tail _ (.head _))))) (by assumption) ?_))
      go_ret
      exact ⟨rfl, hX.below⟩

theorem mapped_bad (u : Un) (hu : u.ok) (mode base blocks acc ad : Int) (a0 : 0 ≤ ad) (a1 : ad ≤ 65535) (W0 : World) (hr : u.right = true) (m0 : 0 ≤ mode) (m1 : mode ≤ 1) (h : ¬ okMap mode base blocks acc) : Calls Try.prog 9 #[.agg u.L.toArray, .agg [.int .i64 mode, .int .i64 base, .int .i64 blocks, .int .i64 acc].toArray, .int .u16 ad] W0 fun e w' => e = .returned (.bool true) ∧ Below W0.heap.size W0 w' := by
  have hX := ((Bag.nil W0).new 27 u.L).new 42 [.int .i64 mode, .int .i64 base, .int .i64 blocks, .int .i64 acc]
  rw [show (W0.alloc (.cells u.L.toArray 27)).heap.size = W0.heap.size + 1 by simp] at hX
  have hR0 : ([.int .i64 mode, .int .i64 base, .int .i64 blocks, .int .i64 acc] : List Value)[0]? = some (.int .i64 mode) := rfl
  have hR1 : ([.int .i64 mode, .int .i64 base, .int .i64 blocks, .int .i64 acc] : List Value)[1]? = some (.int .i64 base) := rfl
  have hR2 : ([.int .i64 mode, .int .i64 base, .int .i64 blocks, .int .i64 acc] : List Value)[2]? = some (.int .i64 blocks) := rfl
  have hR3 : ([.int .i64 mode, .int .i64 base, .int .i64 blocks, .int .i64 acc] : List Value)[3]? = some (.int .i64 acc) := rfl
  generalize ([.int .i64 mode, .int .i64 base, .int .i64 blocks, .int .i64 acc] : List Value) = A at *
  have h1 := fun w => right_any u hu w
  have h4 := fun w => alive_true w
  rw [hr] at h1
  have h2 := fun w => map_bad u hu mode base blocks acc h w
  have hz := zero_unit
  have hzl := Un.zlen
  have hzo := Un.z_ok
  have hbd := build_unit
  have hq := unit_eq _ hzo
  generalize Un.z = Z at *
  clear h
  have hd : decide (mode < 0) = false := decide_eq_false (by omega)
  have hd2 : decide (1 < mode) = false := decide_eq_false (by omega)
  go_enter Try.func9, Try.ntmps9
  go_wp2_with (first
    | (go_at_call 10; first | (with_reducible refine (h1 _).mono ?_; rintro e w' ⟨rfl, hb⟩; replace hX := hX.step hb; clear hb))
    | (go_at_call 12; first | (with_reducible refine (h4 _).mono ?_; rintro e w' ⟨rfl, hb⟩; replace hX := hX.step hb; clear hb))
    | (go_at_call 19; first | (with_reducible refine (h2 _).mono ?_; rintro e w' ⟨rfl, hb⟩; replace hX := hX.step hb; clear hb))
    | (refine wpList_build_run 27 (.agg Z.L.toArray) rfl rfl hbd ?_)
    | (refine wpList_unit_load hX _ rfl rfl rfl rfl (by first | exact .head _ | exact .tail _ (.head _) | exact .tail _ (.tail _ (.head _)) | exact .tail _ (.tail _ (.tail _ (.head _))) | exact .tail _ (.tail _ (.tail _ (.tail _ (.head _))))) (by assumption) ?_)
    | (refine wpList_bag_cell hX int_cell _ rfl rfl rfl rfl (by first | exact .head _ | exact .tail _ (.head _) | exact .tail _ (.tail _ (.head _)) | exact .tail _ (.tail _ (.tail _ (.head _))) | exact .tail _ (.tail _ (.tail _ (.tail _ (.head _))))) (by assumption) ?_)
    | (refine wpList_unit_store hX _ _ rfl rfl rfl rfl rfl rfl (by assumption) hzo ?_; clear hX; intro w2 hX))
  go_ret
  exact ⟨rfl, hX.below⟩

theorem mapped_out0 (u : Un) (hu : u.ok) (base blocks acc ad : Int) (a0 : 0 ≤ ad) (a1 : ad ≤ 65535) (W0 : World) (hr : u.right = true) (h : okMap 0 base blocks acc) (ho : 64 * blocks ≤ ad) : Calls Try.prog 9 #[.agg u.L.toArray, .agg [.int .i64 0, .int .i64 base, .int .i64 blocks, .int .i64 acc].toArray, .int .u16 ad] W0 fun e w' => e = .returned (.bool true) ∧ Below W0.heap.size W0 w' := by
  have hX := ((Bag.nil W0).new 27 u.L).new 42 [.int .i64 0, .int .i64 base, .int .i64 blocks, .int .i64 acc]
  rw [show (W0.alloc (.cells u.L.toArray 27)).heap.size = W0.heap.size + 1 by simp] at hX
  have hR0 : ([.int .i64 0, .int .i64 base, .int .i64 blocks, .int .i64 acc] : List Value)[0]? = some (.int .i64 0) := rfl
  have hR1 : ([.int .i64 0, .int .i64 base, .int .i64 blocks, .int .i64 acc] : List Value)[1]? = some (.int .i64 base) := rfl
  have hR2 : ([.int .i64 0, .int .i64 base, .int .i64 blocks, .int .i64 acc] : List Value)[2]? = some (.int .i64 blocks) := rfl
  have hR3 : ([.int .i64 0, .int .i64 base, .int .i64 blocks, .int .i64 acc] : List Value)[3]? = some (.int .i64 acc) := rfl
  generalize ([.int .i64 0, .int .i64 base, .int .i64 blocks, .int .i64 acc] : List Value) = A at *
  have h1 := fun w => right_any u hu w
  have h4 := fun w => alive_true w
  rw [hr] at h1
  have h2 := fun w => map_ok u hu 0 0 rfl (by decide) base blocks acc h w
  have hz := zero_unit
  have hzl := Un.zlen
  have hzo := Un.z_ok
  have hbd := build_unit
  have hU := Un.mapU_ok u 0 acc base blocks 8
  have hV := Un.onMap_ok u 0 acc base blocks
  have hset := onMap_set u 0 acc base blocks
  have hlt : 0 < (u.mapU 0 acc base blocks 8).L.length := by rw [Un.len hU]; decide
  have hVr := onMap_right (u := u) (m := 0) hu hr h
  have hot := onMap_other u hu (m := 0) (by decide) acc base blocks
  have hNl : (((u.pg.drop 8).take 8).flatMap Pg.L).length = 32 := by rw [flat_len, mode_len hu (m := 1) (by decide)]
  have hqm := mode_eq ((u.pg.drop 8).take 8) (mode_len hu (m := 1) (by decide))
  have hcu := mode_cells hu (m := 1) (by decide)
  have hcv := mode_cells hV (m := 1) (by decide)
  rw [show 8 * 1 = 8 by rfl, show 1 + 1 * 32 = 33 by rfl] at hcu hcv
  rw [show 8 * (1 - 0) = 8 by rfl] at hot
  rw [hot] at hcv
  have h3 := fun w => trans_any _ hV hVr 0 ad false w
  have hT := trans_ok hV 0 ad false
  have hrt : ((u.onMap 0 acc base blocks).trans 0 ad false).2.2 = 8 := onMap_out (u := u) (m := 0) (by decide) h a0 a1 ho
  generalize (u.onMap 0 acc base blocks).trans 0 ad false = R at *
  obtain ⟨ra, T, rt⟩ := R
  simp only at *
  subst hrt
  generalize u.onMap 0 acc base blocks = V at *
  generalize u.mapU 0 acc base blocks 8 = U at *
  generalize ((u.pg.drop 8).take 8).flatMap Pg.L = N at *
  generalize Un.z = Z at *
  unfold okMap at h
  obtain ⟨_, _, k0, k1, b0, b1, s0, s1⟩ := h
  have V1 : IntKind.i64.wrap (64 * blocks) = 64 * blocks := by rw [wrap_i64]; exact IntWalk.wrap64_in _ ⟨by omega, by omega⟩
  have V3 : IntKind.i64.wrap 1 = 1 := by decide
  have V2 : IntKind.i64.wrap ad = ad := by rw [wrap_i64]; exact IntWalk.wrap64_in _ ⟨by omega, by omega⟩
  go_enter Try.func9, Try.ntmps9
  go_wp2_with (first
    | (go_at_call 10; first | (with_reducible refine (h1 _).mono ?_; rintro e w' ⟨rfl, hb⟩; replace hX := hX.step hb; clear hb))
    | (go_at_call 19; first | (with_reducible refine (h2 _).mono ?_; rintro e w' ⟨rfl, hb⟩; replace hX := hX.step hb; clear hb))
    | (go_at_call 13; first | (with_reducible refine (h3 _).mono ?_; rintro e w' ⟨rfl, hb⟩; replace hX := hX.step hb; clear hb))
    | (refine wpList_unit_load hX _ rfl rfl rfl rfl (by first | exact .head _ | exact .tail _ (.head _) | exact .tail _ (.tail _ (.head _)) | exact .tail _ (.tail _ (.tail _ (.head _))) | exact .tail _ (.tail _ (.tail _ (.tail _ (.head _))))) (by assumption) ?_)
    | (refine wpList_bag_cell hX int_cell _ rfl rfl rfl rfl (by first | exact .head _ | exact .tail _ (.head _) | exact .tail _ (.tail _ (.head _)) | exact .tail _ (.tail _ (.tail _ (.head _))) | exact .tail _ (.tail _ (.tail _ (.tail _ (.head _))))) (by assumption) ?_)
    | (refine wpList_unit_store hX _ _ rfl rfl rfl rfl rfl rfl (by assumption) hzo ?_; clear hX; intro w2 hX)
    | (refine wpList_bag_putB hX siz_bool _ _ rfl rfl rfl rfl rfl rfl (by assumption) ?_; clear hX; intro w2 hX; rw [hset] at hX))
  refine region_class (fun w' => Bag _ W0 w') (by kernel_rfl) (by kernel_rfl) hX.drew ?_
  clear hX
  repeat
    first
      | (refine BigFrame.wpQuiet_skip (by rfl) ?_
         simp only [Act.put, List.setIfInBounds_toArray, List.set_cons_zero, List.set_cons_succ])
      | (refine BigFrame.wpQuiet_want (by rfl) (fun K hK => ?_)
         apply Exists.intro
         refine ⟨fun wq hq => ?_, hK _ ?_⟩
         · first
             | (refine quiet_load 3 _ _ _ rfl rfl ((hq.all _ _ _ (by first | exact .head _ | exact .tail _ (.head _) | exact .tail _ (.tail _ (.head _)) | exact .tail _ (.tail _ (.tail _ (.head _))) | exact .tail _ (.tail _ (.tail _ (.tail _ (.head _)))))).loadCell (by assumption) int_cell))
             | (refine quiet_load 24 _ _ _ rfl rfl ((hq.all _ _ _ (by first | exact .head _ | exact .tail _ (.head _) | exact .tail _ (.tail _ (.head _)) | exact .tail _ (.tail _ (.tail _ (.head _))) | exact .tail _ (.tail _ (.tail _ (.tail _ (.head _)))))).loadAtSub (by assumption) (by assumption) agg_mode siz_mode))
             | (unfold Oper.quietAt
                go_simp
                first
                  | with_reducible rfl
                  | ((go_at_call 12); with_reducible refine (h4 _).mono ?_; exact fun e w' ⟨he, hb⟩ => ⟨he, hq.step hb⟩))
         clear hK K
         simp only [Act.put, List.setIfInBounds_toArray, List.set_cons_zero, List.set_cons_succ])
  refine wpQuiet_nil ?_
  intro w4 hX
  go_wp2
  go_ret
  exact ⟨rfl, hX.below⟩

theorem mapped_out1 (u : Un) (hu : u.ok) (base blocks acc ad : Int) (a0 : 0 ≤ ad) (a1 : ad ≤ 65535) (W0 : World) (hr : u.right = true) (h : okMap 1 base blocks acc) (ho : 64 * blocks ≤ ad) : Calls Try.prog 9 #[.agg u.L.toArray, .agg [.int .i64 1, .int .i64 base, .int .i64 blocks, .int .i64 acc].toArray, .int .u16 ad] W0 fun e w' => e = .returned (.bool true) ∧ Below W0.heap.size W0 w' := by
  have hX := ((Bag.nil W0).new 27 u.L).new 42 [.int .i64 1, .int .i64 base, .int .i64 blocks, .int .i64 acc]
  rw [show (W0.alloc (.cells u.L.toArray 27)).heap.size = W0.heap.size + 1 by simp] at hX
  have hR0 : ([.int .i64 1, .int .i64 base, .int .i64 blocks, .int .i64 acc] : List Value)[0]? = some (.int .i64 1) := rfl
  have hR1 : ([.int .i64 1, .int .i64 base, .int .i64 blocks, .int .i64 acc] : List Value)[1]? = some (.int .i64 base) := rfl
  have hR2 : ([.int .i64 1, .int .i64 base, .int .i64 blocks, .int .i64 acc] : List Value)[2]? = some (.int .i64 blocks) := rfl
  have hR3 : ([.int .i64 1, .int .i64 base, .int .i64 blocks, .int .i64 acc] : List Value)[3]? = some (.int .i64 acc) := rfl
  generalize ([.int .i64 1, .int .i64 base, .int .i64 blocks, .int .i64 acc] : List Value) = A at *
  have h1 := fun w => right_any u hu w
  have h4 := fun w => alive_true w
  rw [hr] at h1
  have h2 := fun w => map_ok u hu 1 1 rfl (by decide) base blocks acc h w
  have hz := zero_unit
  have hzl := Un.zlen
  have hzo := Un.z_ok
  have hbd := build_unit
  have hU := Un.mapU_ok u 1 acc base blocks 8
  have hV := Un.onMap_ok u 1 acc base blocks
  have hset := onMap_set u 1 acc base blocks
  have hlt : 0 < (u.mapU 1 acc base blocks 8).L.length := by rw [Un.len hU]; decide
  have hVr := onMap_right (u := u) (m := 1) hu hr h
  have hot := onMap_other u hu (m := 1) (by decide) acc base blocks
  have hNl : (((u.pg.drop 0).take 8).flatMap Pg.L).length = 32 := by rw [flat_len, mode_len hu (m := 0) (by decide)]
  have hqm := mode_eq ((u.pg.drop 0).take 8) (mode_len hu (m := 0) (by decide))
  have hcu := mode_cells hu (m := 0) (by decide)
  have hcv := mode_cells hV (m := 0) (by decide)
  rw [show 8 * 0 = 0 by rfl, show 1 + 0 * 32 = 1 by rfl] at hcu hcv
  rw [show 8 * (1 - 1) = 0 by rfl] at hot
  rw [hot] at hcv
  have h3 := fun w => trans_any _ hV hVr 1 ad false w
  have hT := trans_ok hV 1 ad false
  have hrt : ((u.onMap 1 acc base blocks).trans 1 ad false).2.2 = 8 := onMap_out (u := u) (m := 1) (by decide) h a0 a1 ho
  generalize (u.onMap 1 acc base blocks).trans 1 ad false = R at *
  obtain ⟨ra, T, rt⟩ := R
  simp only at *
  subst hrt
  generalize u.onMap 1 acc base blocks = V at *
  generalize u.mapU 1 acc base blocks 8 = U at *
  generalize ((u.pg.drop 0).take 8).flatMap Pg.L = N at *
  generalize Un.z = Z at *
  unfold okMap at h
  obtain ⟨_, _, k0, k1, b0, b1, s0, s1⟩ := h
  have V1 : IntKind.i64.wrap (64 * blocks) = 64 * blocks := by rw [wrap_i64]; exact IntWalk.wrap64_in _ ⟨by omega, by omega⟩
  have V3 : IntKind.i64.wrap 0 = 0 := by decide
  have V2 : IntKind.i64.wrap ad = ad := by rw [wrap_i64]; exact IntWalk.wrap64_in _ ⟨by omega, by omega⟩
  go_enter Try.func9, Try.ntmps9
  go_wp2_with (first
    | (go_at_call 10; first | (with_reducible refine (h1 _).mono ?_; rintro e w' ⟨rfl, hb⟩; replace hX := hX.step hb; clear hb))
    | (go_at_call 19; first | (with_reducible refine (h2 _).mono ?_; rintro e w' ⟨rfl, hb⟩; replace hX := hX.step hb; clear hb))
    | (go_at_call 13; first | (with_reducible refine (h3 _).mono ?_; rintro e w' ⟨rfl, hb⟩; replace hX := hX.step hb; clear hb))
    | (refine wpList_unit_load hX _ rfl rfl rfl rfl (by first | exact .head _ | exact .tail _ (.head _) | exact .tail _ (.tail _ (.head _)) | exact .tail _ (.tail _ (.tail _ (.head _))) | exact .tail _ (.tail _ (.tail _ (.tail _ (.head _))))) (by assumption) ?_)
    | (refine wpList_bag_cell hX int_cell _ rfl rfl rfl rfl (by first | exact .head _ | exact .tail _ (.head _) | exact .tail _ (.tail _ (.head _)) | exact .tail _ (.tail _ (.tail _ (.head _))) | exact .tail _ (.tail _ (.tail _ (.tail _ (.head _))))) (by assumption) ?_)
    | (refine wpList_unit_store hX _ _ rfl rfl rfl rfl rfl rfl (by assumption) hzo ?_; clear hX; intro w2 hX)
    | (refine wpList_bag_putB hX siz_bool _ _ rfl rfl rfl rfl rfl rfl (by assumption) ?_; clear hX; intro w2 hX; rw [hset] at hX))
  refine region_class (fun w' => Bag _ W0 w') (by kernel_rfl) (by kernel_rfl) hX.drew ?_
  clear hX
  repeat
    first
      | (refine BigFrame.wpQuiet_skip (by rfl) ?_
         simp only [Act.put, List.setIfInBounds_toArray, List.set_cons_zero, List.set_cons_succ])
      | (refine BigFrame.wpQuiet_want (by rfl) (fun K hK => ?_)
         apply Exists.intro
         refine ⟨fun wq hq => ?_, hK _ ?_⟩
         · first
             | (refine quiet_load 3 _ _ _ rfl rfl ((hq.all _ _ _ (by first | exact .head _ | exact .tail _ (.head _) | exact .tail _ (.tail _ (.head _)) | exact .tail _ (.tail _ (.tail _ (.head _))) | exact .tail _ (.tail _ (.tail _ (.tail _ (.head _)))))).loadCell (by assumption) int_cell))
             | (refine quiet_load 24 _ _ _ rfl rfl ((hq.all _ _ _ (by first | exact .head _ | exact .tail _ (.head _) | exact .tail _ (.tail _ (.head _)) | exact .tail _ (.tail _ (.tail _ (.head _))) | exact .tail _ (.tail _ (.tail _ (.tail _ (.head _)))))).loadAtSub (by assumption) (by assumption) agg_mode siz_mode))
             | (unfold Oper.quietAt
                go_simp
                first
                  | with_reducible rfl
                  | ((go_at_call 12); with_reducible refine (h4 _).mono ?_; exact fun e w' ⟨he, hb⟩ => ⟨he, hq.step hb⟩))
         clear hK K
         simp only [Act.put, List.setIfInBounds_toArray, List.set_cons_zero, List.set_cons_succ])
  refine wpQuiet_nil ?_
  intro w4 hX
  go_wp2
  go_ret
  exact ⟨rfl, hX.below⟩
end Go.Proofs.Ytggnbfilkogcoaa
