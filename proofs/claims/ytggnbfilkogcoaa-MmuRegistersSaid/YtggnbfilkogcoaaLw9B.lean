/-
  The laws of Translate, of Read and Write, and of Map and Reset, of package mmu. No condition.
-/
import Derived.Test.YtggnbfilkogcoaaLw9A
namespace Go.Proofs.Ytggnbfilkogcoaa
open Go.RowKit
set_option linter.unusedSimpArgs false
set_option linter.unusedVariables false
set_option maxHeartbeats 8000000
set_option maxRecDepth 100000
attribute [local irreducible] wpQuiet

/-- The cells of an access. -/
def accL (u : Un) (mode addr : Int) (wr : Bool) : List Value := u.L ++ [.int .i64 mode, .int .i64 addr, .bool wr]
theorem accL_u (u : Un) (mode addr : Int) (wr : Bool) : ∀ j v, u.L[j]? = some v → (accL u mode addr wr)[0 + j]? = some v := by
  intro j v h
  rw [Nat.zero_add, accL, List.getElem?_append_left (List.getElem?_eq_some_iff.1 h).1]; exact h
theorem accL_at {u : Un} (hu : u.ok) (mode addr : Int) (wr : Bool) : (accL u mode addr wr)[67]? = some (.int .i64 mode) ∧ (accL u mode addr wr)[68]? = some (.int .i64 addr) ∧ (accL u mode addr wr)[69]? = some (.bool wr) := by
  have hl := Un.len hu
  unfold accL
  refine ⟨?_, ?_, ?_⟩ <;> rw [List.getElem?_append_right (by omega), hl] <;> rfl

theorem translates_law (u : Un) (hu : u.ok) (mode addr : Int) (wr : Bool) (W0 : World) : Calls Try.prog 4 #[.agg (accL u mode addr wr).toArray] W0 fun e w' => e = .returned (.bool true) ∧ Below W0.heap.size W0 w' := by
  have hX := (Bag.nil W0).new 31 (accL u mode addr wr)
  have hA0 := accL_u u mode addr wr
  obtain ⟨hA1, hA2, hA3⟩ := accL_at hu mode addr wr
  generalize accL u mode addr wr = A at *
  have h1 := fun w => rright_any u hu w
  have h4 := fun w => alive_true w
  have hz := zero_unit
  have hzl := Un.zlen
  have hzo := Un.z_ok
  have hbd := build_unit
  cases hr : u.right
  · rw [hr] at h1
    go_enter Try.func4, Try.ntmps4
    go_wp2_with (first
      | (go_at_call 11; first | (with_reducible refine (h1 _).mono ?_; rintro e w' ⟨rfl, hb⟩; replace hX := hX.step hb; clear hb))
      | (go_at_call 12; first | (with_reducible refine (h4 _).mono ?_; rintro e w' ⟨rfl, hb⟩; replace hX := hX.step hb; clear hb))
      | (refine wpList_unit_part hX _ rfl rfl rfl rfl (by first | exact .head _ | exact .tail _ (.head _) | exact .tail _ (.tail _ (.head _)) | exact .tail _ (.tail _ (.tail _ (.head _))) | exact .tail _ (.tail _ (.tail _ (.tail _ (.head _))))) (by assumption) (by assumption) ?_))
    go_ret
    exact ⟨rfl, hX.below⟩
  · rw [hr] at h1
    have h2 := fun w => trans_any u hu hr mode addr wr w
    have h3 := fun w => rtrans_any u hu hr mode addr wr w
    have hT := trans_ok hu mode addr wr
    have hq := unit_eq _ hT
    generalize u.trans mode addr wr = R at *
    obtain ⟨ra, T, rt⟩ := R
    simp only at *
    generalize Un.z = Z at *
    go_enter Try.func4, Try.ntmps4
    go_wp2_with (first
      | (go_at_call 11; first | (with_reducible refine (h1 _).mono ?_; rintro e w' ⟨rfl, hb⟩; replace hX := hX.step hb; clear hb))
      | (go_at_call 13; first | (with_reducible refine (h2 _).mono ?_; rintro e w' ⟨rfl, hb⟩; replace hX := hX.step hb; clear hb))
      | (go_at_call 14; first | (with_reducible refine (h3 _).mono ?_; rintro e w' ⟨rfl, hb⟩; replace hX := hX.step hb; clear hb))
      | (go_at_call 12; first | (with_reducible refine (h4 _).mono ?_; rintro e w' ⟨rfl, hb⟩; replace hX := hX.step hb; clear hb))
      | (refine wpList_unit_part hX _ rfl rfl rfl rfl (by first | exact .head _ | exact .tail _ (.head _) | exact .tail _ (.tail _ (.head _)) | exact .tail _ (.tail _ (.tail _ (.head _))) | exact .tail _ (.tail _ (.tail _ (.tail _ (.head _))))) (by assumption) (by assumption) ?_)
      | (refine wpList_bag_cell hX int_cell _ rfl rfl rfl rfl (by first | exact .head _ | exact .tail _ (.head _) | exact .tail _ (.tail _ (.head _)) | exact .tail _ (.tail _ (.tail _ (.head _))) | exact .tail _ (.tail _ (.tail _ (.tail _ (.head _))))) (by assumption) ?_)
      | (refine wpList_bag_cell hX bool_cell _ rfl rfl rfl rfl (by first | exact .head _ | exact .tail _ (.head _) | exact .tail _ (.tail _ (.head _)) | exact .tail _ (.tail _ (.tail _ (.head _))) | exact .tail _ (.tail _ (.tail _ (.tail _ (.head _))))) (by assumption) ?_)
      | (refine wpList_unit_load hX _ rfl rfl rfl rfl (by first | exact .head _ | exact .tail _ (.head _) | exact .tail _ (.tail _ (.head _)) | exact .tail _ (.tail _ (.tail _ (.head _))) | exact .tail _ (.tail _ (.tail _ (.tail _ (.head _))))) (by assumption) ?_)
      | (refine wpList_unit_store hX _ _ rfl rfl rfl rfl rfl rfl (by assumption) hzo ?_; clear hX; intro w2 hX))
    go_ret
    exact ⟨rfl, hX.below⟩

theorem registers_law (u : Un) (hu : u.ok) (n v : Int) (W0 : World) : Calls Try.prog 5 #[.agg u.L.toArray, .int .i64 n, .int .i64 v] W0 fun e w' => e = .returned (.bool true) ∧ Below W0.heap.size W0 w' := by
  have hX := (Bag.nil W0).new 27 u.L
  have h1 := fun w => rright_any u hu w
  have h4 := fun w => alive_true w
  have hz := zero_unit
  have hzl := Un.zlen
  have hzo := Un.z_ok
  have hbd := build_unit
  cases hr : u.right
  · rw [hr] at h1
    go_enter Try.func5, Try.ntmps5
    go_wp2_with (first
      | (go_at_call 11; first | (with_reducible refine (h1 _).mono ?_; rintro e w' ⟨rfl, hb⟩; replace hX := hX.step hb; clear hb))
      | (go_at_call 12; first | (with_reducible refine (h4 _).mono ?_; rintro e w' ⟨rfl, hb⟩; replace hX := hX.step hb; clear hb))
      | (refine wpList_unit_load hX _ rfl rfl rfl rfl (by first | exact .head _ | exact .tail _ (.head _) | exact .tail _ (.tail _ (.head _)) | exact .tail _ (.tail _ (.tail _ (.head _))) | exact .tail _ (.tail _ (.tail _ (.tail _ (.head _))))) (by assumption) ?_))
    go_ret
    exact ⟨rfl, hX.below⟩
  · rw [hr] at h1
    have h2 := fun w => read_any u hu hr n w
    have h3 := fun w => rread_any u hu hr n w
    have h5 := fun w => write_any u hu n v w
    have h6 := fun w => rwrite_any u hu n v w
    have hT := write_ok hu n v
    have hq := unit_eq _ hT
    have h7 := fun w => right_any _ hT w
    rw [write_right hu hr n v] at h7
    generalize u.read n = R at *
    generalize u.write n v = S at *
    obtain ⟨ra, rb⟩ := R
    obtain ⟨T, tb⟩ := S
    simp only at *
    generalize Un.z = Z at *
    go_enter Try.func5, Try.ntmps5
    go_wp2_with (first
      | (go_at_call 11; first | (with_reducible refine (h1 _).mono ?_; rintro e w' ⟨rfl, hb⟩; replace hX := hX.step hb; clear hb))
      | (go_at_call 10; first | (with_reducible refine (h7 _).mono ?_; rintro e w' ⟨rfl, hb⟩; replace hX := hX.step hb; clear hb))
      | (go_at_call 15; first | (with_reducible refine (h2 _).mono ?_; rintro e w' ⟨rfl, hb⟩; replace hX := hX.step hb; clear hb))
      | (go_at_call 16; first | (with_reducible refine (h3 _).mono ?_; rintro e w' ⟨rfl, hb⟩; replace hX := hX.step hb; clear hb))
      | (go_at_call 17; first | (with_reducible refine (h5 _).mono ?_; rintro e w' ⟨rfl, hb⟩; replace hX := hX.step hb; clear hb))
      | (go_at_call 18; first | (with_reducible refine (h6 _).mono ?_; rintro e w' ⟨rfl, hb⟩; replace hX := hX.step hb; clear hb))
      | (go_at_call 12; first | (with_reducible refine (h4 _).mono ?_; rintro e w' ⟨rfl, hb⟩; replace hX := hX.step hb; clear hb))
      | (refine wpList_unit_load hX _ rfl rfl rfl rfl (by first | exact .head _ | exact .tail _ (.head _) | exact .tail _ (.tail _ (.head _)) | exact .tail _ (.tail _ (.tail _ (.head _))) | exact .tail _ (.tail _ (.tail _ (.tail _ (.head _))))) (by assumption) ?_)
      | (refine wpList_unit_store hX _ _ rfl rfl rfl rfl rfl rfl (by assumption) hzo ?_; clear hX; intro w2 hX))
    go_ret
    exact ⟨rfl, hX.below⟩

theorem maps_law (u : Un) (hu : u.ok) (mode base blocks acc : Int) (W0 : World) : Calls Try.prog 6 #[.agg u.L.toArray, .agg [.int .i64 mode, .int .i64 base, .int .i64 blocks, .int .i64 acc].toArray] W0 fun e w' => e = .returned (.bool true) ∧ Below W0.heap.size W0 w' := by
  have hX := ((Bag.nil W0).new 27 u.L).new 42 [.int .i64 mode, .int .i64 base, .int .i64 blocks, .int .i64 acc]
  rw [show (W0.alloc (.cells u.L.toArray 27)).heap.size = W0.heap.size + 1 by simp] at hX
  have hR0 : ([.int .i64 mode, .int .i64 base, .int .i64 blocks, .int .i64 acc] : List Value)[0]? = some (.int .i64 mode) := rfl
  have hR1 : ([.int .i64 mode, .int .i64 base, .int .i64 blocks, .int .i64 acc] : List Value)[1]? = some (.int .i64 base) := rfl
  have hR2 : ([.int .i64 mode, .int .i64 base, .int .i64 blocks, .int .i64 acc] : List Value)[2]? = some (.int .i64 blocks) := rfl
  have hR3 : ([.int .i64 mode, .int .i64 base, .int .i64 blocks, .int .i64 acc] : List Value)[3]? = some (.int .i64 acc) := rfl
  generalize ([.int .i64 mode, .int .i64 base, .int .i64 blocks, .int .i64 acc] : List Value) = A at *
  have h1 := fun w => rright_any u hu w
  have h4 := fun w => alive_true w
  have hz := zero_unit
  have hzl := Un.zlen
  have hzo := Un.z_ok
  have hbd := build_unit
  have h2 := fun w => map_any u hu mode base blocks acc w
  have h3 := fun w => rmap_any u hu mode base blocks acc w
  have h5 := fun w => reset_any u hu w
  have hT := map_unit_ok u hu mode base blocks acc
  have hq := unit_eq _ hT
  have hqz := unit_eq _ hzo
  generalize u.map mode base blocks acc = R at *
  obtain ⟨T, rt⟩ := R
  simp only at *
  generalize Un.z = Z at *
  cases hr : u.right
  · rw [hr] at h1
    go_enter Try.func6, Try.ntmps6
    go_wp2_with (first
      | (go_at_call 11; first | (with_reducible refine (h1 _).mono ?_; rintro e w' ⟨rfl, hb⟩; replace hX := hX.step hb; clear hb))
      | (go_at_call 12; first | (with_reducible refine (h4 _).mono ?_; rintro e w' ⟨rfl, hb⟩; replace hX := hX.step hb; clear hb))
      | (refine wpList_unit_load hX _ rfl rfl rfl rfl (by first | exact .head _ | exact .tail _ (.head _) | exact .tail _ (.tail _ (.head _)) | exact .tail _ (.tail _ (.tail _ (.head _))) | exact .tail _ (.tail _ (.tail _ (.tail _ (.head _))))) (by assumption) ?_))
    go_ret
    exact ⟨rfl, hX.below⟩
  · rw [hr] at h1
    go_enter Try.func6, Try.ntmps6
    go_wp2_with (first
      | (go_at_call 11; first | (with_reducible refine (h1 _).mono ?_; rintro e w' ⟨rfl, hb⟩; replace hX := hX.step hb; clear hb))
      | (go_at_call 19; first | (with_reducible refine (h2 _).mono ?_; rintro e w' ⟨rfl, hb⟩; replace hX := hX.step hb; clear hb))
      | (go_at_call 20; first | (with_reducible refine (h3 _).mono ?_; rintro e w' ⟨rfl, hb⟩; replace hX := hX.step hb; clear hb))
      | (go_at_call 21; first | (with_reducible refine (h5 _).mono ?_; rintro e w' ⟨rfl, hb⟩; replace hX := hX.step hb; clear hb))
      | (go_at_call 12; first | (with_reducible refine (h4 _).mono ?_; rintro e w' ⟨rfl, hb⟩; replace hX := hX.step hb; clear hb))
      | (refine wpList_build_run 27 (.agg Z.L.toArray) rfl rfl hbd ?_)
      | (refine wpList_bag_cell hX int_cell _ rfl rfl rfl rfl (by first | exact .head _ | exact .tail _ (.head _) | exact .tail _ (.tail _ (.head _)) | exact .tail _ (.tail _ (.tail _ (.head _))) | exact .tail _ (.tail _ (.tail _ (.tail _ (.head _))))) (by assumption) ?_)
      | (refine wpList_unit_load hX _ rfl rfl rfl rfl (by first | exact .head _ | exact .tail _ (.head _) | exact .tail _ (.tail _ (.head _)) | exact .tail _ (.tail _ (.tail _ (.head _))) | exact .tail _ (.tail _ (.tail _ (.tail _ (.head _))))) (by assumption) ?_)
      | (refine wpList_unit_store hX _ _ rfl rfl rfl rfl rfl rfl (by assumption) hzo ?_; clear hX; intro w2 hX))
    go_ret
    exact ⟨rfl, hX.below⟩
end Go.Proofs.Ytggnbfilkogcoaa
