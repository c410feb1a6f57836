/-
  The law MmuCopies. No condition.
-/
import Derived.Test.YtggnbfilkogcoaaLw9P
import Derived.Test.YtggnbfilkogcoaaLw9B
namespace Go.Proofs.Ytggnbfilkogcoaa
open Go.RowKit
set_option linter.unusedSimpArgs false
set_option linter.unusedVariables false
set_option maxHeartbeats 8000000
set_option maxRecDepth 100000
attribute [local irreducible] wpQuiet

theorem siz_bool (w : World) : (sizeOf 4).run Try.prog w = .ok 1 w := by kernel_rfl
theorem copies_law (u : Un) (hu : u.ok) (W0 : World) : Calls Try.prog 8 #[.agg u.L.toArray] W0 fun e w' => e = .returned (.bool true) ∧ Below W0.heap.size W0 w' := by
  have hX := (Bag.nil W0).new 27 u.L
  have h1 := fun w => right_any u hu w
  have h4 := fun w => alive_true w
  have hz := zero_unit
  have hzl := Un.zlen
  have hzo := Un.z_ok
  have hbd := build_unit
  cases hr : u.right
  · rw [hr] at h1
    go_enter Try.func8, Try.ntmps8
    go_wp2_with (first
      | (go_at_call 10; first | (with_reducible refine (h1 _).mono ?_; rintro e w' ⟨rfl, hb⟩; replace hX := hX.step hb; clear hb))
      | (go_at_call 12; first | (with_reducible refine (h4 _).mono ?_; rintro e w' ⟨rfl, hb⟩; replace hX := hX.step hb; clear hb))
      | (refine wpList_unit_load hX _ rfl rfl rfl rfl (by first | exact .head _ | exact .tail _ (.head _) | exact .tail _ (.tail _ (.head _)) | exact .tail _ (.tail _ (.tail _ (.head _))) | exact .tail _ (.tail _ (.tail _ (.tail _ (.head _))))) (by assumption) ?_))
    go_ret
    exact ⟨rfl, hX.below⟩
  · rw [hr] at h1
    obtain ⟨Z, hZ⟩ : ∃ Z, Hid (Un.z = Z) := ⟨_, rfl⟩
    rw [show Un.z = Z from hZ] at hz hzl hzo
    go_enter Try.func8, Try.ntmps8
    go_wp2_with (first
      | (go_at_call 10; first | (with_reducible refine (h1 _).mono ?_; rintro e w' ⟨rfl, hb⟩; replace hX := hX.step hb; clear hb))
      | (go_at_call 12; first | (with_reducible refine (h4 _).mono ?_; rintro e w' ⟨rfl, hb⟩; replace hX := hX.step hb; clear hb))
      | (refine wpList_unit_load hX _ rfl rfl rfl rfl (by first | exact .head _ | exact .tail _ (.head _) | exact .tail _ (.tail _ (.head _)) | exact .tail _ (.tail _ (.tail _ (.head _))) | exact .tail _ (.tail _ (.tail _ (.tail _ (.head _))))) (by assumption) ?_))
    replace hX := hX.new 27 Z.L
    generalize (w'.alloc (.cells Z.L.toArray 27)) = wa at *
    generalize w'.heap.size = C at *
    rw [← show Un.z = Z from hZ, ← Un.copyU_zero u] at hX
    go_loopw [4] (fun o wr => ∃ j : Nat, j ≤ 32 ∧ o = .int .i64 (16 + 2 * (j : Int)) ∧ Bag [(C, 27, (u.copyU j).L), (W0.heap.size, 27, u.L)] W0 wr)
      (fun o _ => 100 - (intOf o).toNat)
    case atStart => exact ⟨0, by decide, rfl, hX⟩
    case round =>
      clear hX
      obtain ⟨j, hj, rfl, hX⟩ := hrel
      by_cases hj2 : j < 32
      · have j0 : (0 : Int) ≤ (j : Int) := by omega
        have j1 : (j : Int) < 32 := by omega
        have j2 : 16 + 2 * (j : Int) < 80 := by omega
        have hu2 := Un.copyU_ok u j
        have hu3 := Un.copyU_ok u (j + 1)
        have h2 := fun w => read_any u hu hr (16 + 2 * (j : Int)) w
        have h3 := fun w => write_any (u.copyU j) hu2 (16 + 2 * (j : Int)) (u.read (16 + 2 * (j : Int))).1 w
        rw [Un.copyU_step u hr hu hj2] at h3
        have hb : (u.read (16 + 2 * (j : Int))).2 = true := by rw [Un.read_reg u hr hu hj2]
        rw [hb] at h2
        generalize (u.read (16 + 2 * (j : Int))).1 = v at *
        clear hb
        go_wp2_with (first
          | (go_at_call 15; first | (with_reducible refine (h2 _).mono ?_; rintro e w' ⟨rfl, hb⟩; replace hX := hX.step hb; clear hb))
          | (go_at_call 17; first | (with_reducible refine (h3 _).mono ?_; rintro e w' ⟨rfl, hb⟩; replace hX := hX.step hb; clear hb))
          | (refine wpList_unit_load hX _ rfl rfl rfl rfl (by first | exact .head _ | exact .tail _ (.head _) | exact .tail _ (.tail _ (.head _)) | exact .tail _ (.tail _ (.tail _ (.head _))) | exact .tail _ (.tail _ (.tail _ (.tail _ (.head _))))) (by assumption) ?_)
          | (refine wpList_unit_over hX _ _ rfl rfl rfl rfl rfl rfl (by assumption) (Un.len (by assumption)) ?_; clear hX; intro w2 hX))
        refine ⟨⟨j + 1, by omega, by first | (congr 1; done) | (congr 1; omega), hX⟩, by simp only [intOf]; omega⟩
      · obtain rfl : j = 32 := by omega
        replace hX := hX.swap
        rw [← congrArg Un.L (Un.clrU_zero u hu)] at hX
        have hcp := Un.modes (Un.copyU_ok u 32)
        rw [Un.copied u] at hcp
        have hcl := Un.modes (Un.clrU_ok u 16)
        have hl16 : (u.clrU 16).pg.length = 16 := Un.clrU_ok u 16
        have hMl : ((u.clrU 16).pg.flatMap Pg.L).length = 64 := by rw [flat_len, hl16]
        have hqp := pages_eq _ hl16
        generalize (u.clrU 16).pg.flatMap Pg.L = M at *
        generalize (u.copyU 32).L = D at *
        go_wp2
        go_loopw [7] (fun i wr => ∃ m : Nat, m ≤ 2 ∧ i = .int .i64 m ∧ Bag [(W0.heap.size, 27, (u.clrU (8 * m)).L), (C, 27, D)] W0 wr)
          (fun i _ => 2 - (intOf i).toNat)
        case atStart => exact ⟨0, by decide, rfl, hX⟩
        case round =>
          clear hX
          obtain ⟨m, hm, rfl, hX⟩ := hrel
          by_cases hm2 : m < 2
          · have m0 : (0 : Int) ≤ (m : Int) := by omega
            have m1 : (m : Int) < 2 := by omega
            go_wp2
            go_loopw [8] (fun i wr => ∃ p : Nat, p ≤ 8 ∧ i = .int .i64 p ∧ Bag [(W0.heap.size, 27, (u.clrU (8 * m + p)).L), (C, 27, D)] W0 wr)
              (fun i _ => 8 - (intOf i).toNat)
            case atStart => exact ⟨0, by decide, rfl, hX⟩
            case round =>
              clear hX
              obtain ⟨p, hp, rfl, hX⟩ := hrel
              by_cases hp8 : p < 8
              · have p0 : (0 : Int) ≤ (p : Int) := by omega
                have p1 : (p : Int) < 8 := by omega
                have hset : (u.clrU (8 * m + p)).L.set (1 + m * 32 + p * 4 + 3) (.bool false) = (u.clrU (8 * m + (p + 1))).L := by
                  have hg := Un.clrU_at u (8 * m + p) (8 * m + p) (by omega)
                  rw [if_neg (by omega)] at hg
                  have e := Un.setp (p' := (u.pgAt (8 * m + p)).clr) hg 3 (by decide) (.bool false) rfl
                  rw [show 1 + m * 32 + p * 4 + 3 = 1 + (4 * (8 * m + p) + 3) by omega, e]
                  exact congrArg Un.L (Un.clrU_step u (8 * m + p) (by omega))
                have hlt : 1 + m * 32 + p * 4 + 3 < (u.clrU (8 * m + p)).L.length := by rw [Un.len (Un.clrU_ok u _)]; omega
                go_wp2_with (first
                  | (refine wpList_bag_putB hX siz_bool _ _ rfl rfl rfl rfl rfl rfl (by assumption) ?_; clear hX; intro w2 hX; rw [hset] at hX))
                refine ⟨⟨p + 1, by omega, by go_num, hX⟩, by simp only [intOf]; omega⟩
              · obtain rfl : p = 8 := by omega
                go_wp2
                go_round
                case rel => exact ⟨m + 1, by omega, by go_num, hX⟩
                case measure => simp [intOf]; omega
          · obtain rfl : m = 2 := by omega
            go_wp2_with (first
              | (refine wpList_bag_part hX agg_modes siz_modes _ rfl rfl rfl rfl (by first | exact .head _ | exact .tail _ (.head _) | exact .tail _ (.tail _ (.head _)) | exact .tail _ (.tail _ (.tail _ (.head _))) | exact .tail _ (.tail _ (.tail _ (.tail _ (.head _))))) (by assumption) (by assumption) ?_)
              | (go_at_call 12; first | (with_reducible refine (h4 _).mono ?_; rintro e w' ⟨rfl, hb⟩; replace hX := hX.step hb; clear hb)))
            go_ret
            exact ⟨rfl, hX.below⟩
end Go.Proofs.Ytggnbfilkogcoaa
