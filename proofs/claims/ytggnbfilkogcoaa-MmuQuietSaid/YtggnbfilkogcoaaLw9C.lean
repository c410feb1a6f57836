/-
  The law MmuQuiet. No condition.
-/
import Derived.Test.YtggnbfilkogcoaaLw9P
import Derived.Test.YtggnbfilkogcoaaLw9B
namespace Go.Proofs.Ytggnbfilkogcoaa
open Go.RowKit
set_option linter.unusedSimpArgs false
set_option linter.unusedVariables false
set_option maxHeartbeats 8000000
set_option maxRecDepth 100000
attribute [local irreducible] wpQuiet

theorem quiet_law (u : Un) (hu : u.ok) (mode addr : Int) (wr : Bool) (W0 : World) : Calls Try.prog 7 #[.agg (accL u mode addr wr).toArray] W0 fun e w' => e = .returned (.bool true) ∧ Below W0.heap.size W0 w' := by
  have hX := (Bag.nil W0).new 31 (accL u mode addr wr)
  have hA0 := accL_u u mode addr wr
  have hAo := hA0 0 _ (Un.at0 u)
  have hAp : ∀ j v, (u.pg.flatMap Pg.L)[j]? = some v → (accL u mode addr wr)[1 + j]? = some v := fun j v h => by
    have e := hA0 (1 + j) v (Un.modes hu j v h)
    rw [Nat.zero_add] at e; exact e
  have hMl : (u.pg.flatMap Pg.L).length = 64 := by rw [flat_len, show u.pg.length = 16 from hu]
  obtain ⟨hA1, hA2, hA3⟩ := accL_at hu mode addr wr
  generalize accL u mode addr wr = A at *
  have h1 := fun w => right_any u hu w
  have h4 := fun w => alive_true w
  have hz := zero_unit
  have hzl := Un.zlen
  have hzo := Un.z_ok
  have hbd := build_unit
  cases hr : u.right
  · rw [hr] at h1
    go_enter Try.func7, Try.ntmps7
    go_wp2_with (first
      | (go_at_call 10; first | (with_reducible refine (h1 _).mono ?_; rintro e w' ⟨rfl, hb⟩; replace hX := hX.step hb; clear hb))
      | (go_at_call 12; first | (with_reducible refine (h4 _).mono ?_; rintro e w' ⟨rfl, hb⟩; replace hX := hX.step hb; clear hb))
      | (refine wpList_unit_part hX _ rfl rfl rfl rfl (by first | exact .head _ | exact .tail _ (.head _) | exact .tail _ (.tail _ (.head _)) | exact .tail _ (.tail _ (.tail _ (.head _))) | exact .tail _ (.tail _ (.tail _ (.tail _ (.head _))))) (by assumption) (by assumption) ?_))
    go_ret
    exact ⟨rfl, hX.below⟩
  · rw [hr] at h1
    have h2 := fun w => trans_any u hu hr mode addr wr w
    have hT := trans_ok hu mode addr wr
    have h5 := fun w => right_any _ hT w
    rw [trans_right hu hr mode addr wr] at h5
    obtain ⟨r0, r1⟩ := trans_addr u mode addr wr
    have hc := trans_cases u mode addr wr
    have hq := unit_eq _ hu
    have hqp := pages_eq _ hu
    generalize u.trans mode addr wr = R at *
    obtain ⟨ra, V, rt⟩ := R
    simp only at *
    generalize Un.z = Z at *
    rcases hc with ⟨rfl, hc⟩ | ⟨rfl, hon, rfl, hst, hpg⟩
    · cases wr
      · obtain rfl := hc rfl
        generalize V.pg.flatMap Pg.L = M at *
        go_enter Try.func7, Try.ntmps7
        go_wp2_with (first
          | (go_at_call 10; first | (with_reducible refine (h1 _).mono ?_; rintro e w' ⟨rfl, hb⟩; replace hX := hX.step hb; clear hb) | (with_reducible refine (h5 _).mono ?_; rintro e w' ⟨rfl, hb⟩; replace hX := hX.step hb; clear hb))
          | (go_at_call 13; first | (with_reducible refine (h2 _).mono ?_; rintro e w' ⟨rfl, hb⟩; replace hX := hX.step hb; clear hb))
          | (go_at_call 12; first | (with_reducible refine (h4 _).mono ?_; rintro e w' ⟨rfl, hb⟩; replace hX := hX.step hb; clear hb))
          | (refine wpList_unit_part hX _ rfl rfl rfl rfl (by first | exact .head _ | exact .tail _ (.head _) | exact .tail _ (.tail _ (.head _)) | exact .tail _ (.tail _ (.tail _ (.head _))) | exact .tail _ (.tail _ (.tail _ (.tail _ (.head _))))) (by assumption) (by assumption) ?_)
          | (refine wpList_bag_cell hX int_cell _ rfl rfl rfl rfl (by first | exact .head _ | exact .tail _ (.head _) | exact .tail _ (.tail _ (.head _)) | exact .tail _ (.tail _ (.tail _ (.head _))) | exact .tail _ (.tail _ (.tail _ (.tail _ (.head _))))) (by assumption) ?_)
          | (refine wpList_bag_cell hX bool_cell _ rfl rfl rfl rfl (by first | exact .head _ | exact .tail _ (.head _) | exact .tail _ (.tail _ (.head _)) | exact .tail _ (.tail _ (.tail _ (.head _))) | exact .tail _ (.tail _ (.tail _ (.tail _ (.head _))))) (by assumption) ?_)
          | (refine wpList_unit_load hX _ rfl rfl rfl rfl (by first | exact .head _ | exact .tail _ (.head _) | exact .tail _ (.tail _ (.head _)) | exact .tail _ (.tail _ (.tail _ (.head _))) | exact .tail _ (.tail _ (.tail _ (.tail _ (.head _))))) (by assumption) ?_)
          | (refine wpList_unit_store hX _ _ rfl rfl rfl rfl rfl rfl (by assumption) hzo ?_; clear hX; intro w2 hX))
        go_ret
        exact ⟨rfl, hX.below⟩
      · generalize u.pg.flatMap Pg.L = M at *
        clear hc
        go_enter Try.func7, Try.ntmps7
        go_wp2_with (first
          | (go_at_call 10; first | (with_reducible refine (h1 _).mono ?_; rintro e w' ⟨rfl, hb⟩; replace hX := hX.step hb; clear hb) | (with_reducible refine (h5 _).mono ?_; rintro e w' ⟨rfl, hb⟩; replace hX := hX.step hb; clear hb))
          | (go_at_call 13; first | (with_reducible refine (h2 _).mono ?_; rintro e w' ⟨rfl, hb⟩; replace hX := hX.step hb; clear hb))
          | (go_at_call 12; first | (with_reducible refine (h4 _).mono ?_; rintro e w' ⟨rfl, hb⟩; replace hX := hX.step hb; clear hb))
          | (refine wpList_unit_part hX _ rfl rfl rfl rfl (by first | exact .head _ | exact .tail _ (.head _) | exact .tail _ (.tail _ (.head _)) | exact .tail _ (.tail _ (.tail _ (.head _))) | exact .tail _ (.tail _ (.tail _ (.tail _ (.head _))))) (by assumption) (by assumption) ?_)
          | (refine wpList_bag_cell hX int_cell _ rfl rfl rfl rfl (by first | exact .head _ | exact .tail _ (.head _) | exact .tail _ (.tail _ (.head _)) | exact .tail _ (.tail _ (.tail _ (.head _))) | exact .tail _ (.tail _ (.tail _ (.tail _ (.head _))))) (by assumption) ?_)
          | (refine wpList_bag_cell hX bool_cell _ rfl rfl rfl rfl (by first | exact .head _ | exact .tail _ (.head _) | exact .tail _ (.tail _ (.head _)) | exact .tail _ (.tail _ (.tail _ (.head _))) | exact .tail _ (.tail _ (.tail _ (.tail _ (.head _))))) (by assumption) ?_)
          | (refine wpList_unit_load hX _ rfl rfl rfl rfl (by first | exact .head _ | exact .tail _ (.head _) | exact .tail _ (.tail _ (.head _)) | exact .tail _ (.tail _ (.tail _ (.head _))) | exact .tail _ (.tail _ (.tail _ (.tail _ (.head _))))) (by assumption) ?_)
          | (refine wpList_unit_store hX _ _ rfl rfl rfl rfl rfl rfl (by assumption) hzo ?_; clear hX; intro w2 hX))
        go_ret
        exact ⟨rfl, hX.below⟩
    · have h65 := Un.at65 hT
      have hVp := Un.modes hT
      rw [hpg] at hVp
      rw [hon] at hAo
      generalize u.pg.flatMap Pg.L = M at *
      generalize V.st = s at *
      go_enter Try.func7, Try.ntmps7
      go_wp2_with (first
        | (go_at_call 10; first | (with_reducible refine (h1 _).mono ?_; rintro e w' ⟨rfl, hb⟩; replace hX := hX.step hb; clear hb) | (with_reducible refine (h5 _).mono ?_; rintro e w' ⟨rfl, hb⟩; replace hX := hX.step hb; clear hb))
        | (go_at_call 13; first | (with_reducible refine (h2 _).mono ?_; rintro e w' ⟨rfl, hb⟩; replace hX := hX.step hb; clear hb))
        | (go_at_call 12; first | (with_reducible refine (h4 _).mono ?_; rintro e w' ⟨rfl, hb⟩; replace hX := hX.step hb; clear hb))
        | (refine wpList_unit_part hX _ rfl rfl rfl rfl (by first | exact .head _ | exact .tail _ (.head _) | exact .tail _ (.tail _ (.head _)) | exact .tail _ (.tail _ (.tail _ (.head _))) | exact .tail _ (.tail _ (.tail _ (.tail _ (.head _))))) (by assumption) (by assumption) ?_)
        | (refine wpList_bag_part hX agg_modes siz_modes _ rfl rfl rfl rfl (by first | exact .head _ | exact .tail _ (.head _) | exact .tail _ (.tail _ (.head _)) | exact .tail _ (.tail _ (.tail _ (.head _))) | exact .tail _ (.tail _ (.tail _ (.tail _ (.head _))))) (by assumption) (by assumption) ?_)
        | (refine wpList_bag_cell hX int_cell _ rfl rfl rfl rfl (by first | exact .head _ | exact .tail _ (.head _) | exact .tail _ (.tail _ (.head _)) | exact .tail _ (.tail _ (.tail _ (.head _))) | exact .tail _ (.tail _ (.tail _ (.tail _ (.head _))))) (by assumption) ?_)
        | (refine wpList_bag_cell hX bool_cell _ rfl rfl rfl rfl (by first | exact .head _ | exact .tail _ (.head _) | exact .tail _ (.tail _ (.head _)) | exact .tail _ (.tail _ (.tail _ (.head _))) | exact .tail _ (.tail _ (.tail _ (.tail _ (.head _))))) (by assumption) ?_)
        | (refine wpList_unit_load hX _ rfl rfl rfl rfl (by first | exact .head _ | exact .tail _ (.head _) | exact .tail _ (.tail _ (.head _)) | exact .tail _ (.tail _ (.tail _ (.head _))) | exact .tail _ (.tail _ (.tail _ (.tail _ (.head _))))) (by assumption) ?_)
        | (refine wpList_unit_store hX _ _ rfl rfl rfl rfl rfl rfl (by assumption) hzo ?_; clear hX; intro w2 hX))
      go_ret
      exact ⟨rfl, hX.below⟩
end Go.Proofs.Ytggnbfilkogcoaa
