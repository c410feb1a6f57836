/-
  The chapter's examples: alive answers true. No condition.
-/
import Derived.Test.YtggnbfilkogcoaaMuO
import Derived.Test.YtggnbfilkogcoaaBag
namespace Go.Proofs.Ytggnbfilkogcoaa
open Go.RowKit
set_option linter.unusedSimpArgs false
set_option linter.unusedVariables false
set_option maxHeartbeats 8000000
set_option maxRecDepth 100000
attribute [local irreducible] wpQuiet

def eU1 : Un := Un.z.mapU 1 2 10 130 8
def eU2 : Un := (eU1.write 0 1).1
def eU3 : Un := (eU2.trans 1 8320 false).2.1
def eU4 : Un := (eU2.trans 1 5 true).2.1
theorem eU2_ok : eU2.ok := by show eU2.pg.length = 16; decide +kernel
theorem eU3_ok : eU3.ok := by show eU3.pg.length = 16; decide +kernel
theorem eU4_ok : eU4.ok := by show eU4.pg.length = 16; decide +kernel
theorem alive_true (W0 : World) : Calls Try.prog 12 #[] W0 fun e w' => e = .returned (.bool true) ∧ Below W0.heap.size W0 w' := by
  have hz := zero_unit
  have hzl := Un.zlen
  have hzo := Un.z_ok
  have h1 : ∀ w, Calls Try.prog 13 #[.agg Un.z.L.toArray, .int .i64 0, .int .i64 57344, .bool false] w fun e w' => e = .returned (.tuple #[.int .i64 253952, .agg Un.z.L.toArray, .int .i64 0]) ∧ Below w.heap.size w w' := fun w => trans_any Un.z Un.z_ok (by decide +kernel) 0 57344 false w
  have h2 : ∀ w, Calls Try.prog 19 #[.agg Un.z.L.toArray, .int .i64 1, .int .i64 10, .int .i64 130, .int .i64 2] w fun e w' => e = .returned (.tuple #[.agg eU1.L.toArray, .int .i64 0]) ∧ Below w.heap.size w w' := fun w => map_ok Un.z Un.z_ok 1 1 rfl (by decide) 10 130 2 (by unfold okMap; decide) w
  have h3 : ∀ w, Calls Try.prog 17 #[.agg eU1.L.toArray, .int .i64 0, .int .i64 1] w fun e w' => e = .returned (.tuple #[.agg eU2.L.toArray, .bool true]) ∧ Below w.heap.size w w' := fun w => write_any eU1 (Un.mapU_ok _ _ _ _ _ _) 0 1 w
  have o1 : eU1.ok := Un.mapU_ok _ _ _ _ _ _
  have o2 := eU2_ok
  have o3 := eU3_ok
  have o4 := eU4_ok
  have r2 : eU2.right = true := by decide +kernel
  have h4 : ∀ w, Calls Try.prog 13 #[.agg eU2.L.toArray, .int .i64 1, .int .i64 8319, .bool false] w fun e w' => e = .returned (.tuple #[.int .i64 8959, .agg eU2.L.toArray, .int .i64 0]) ∧ Below w.heap.size w w' := by
    have e : eU2.trans 1 8319 false = (8959, eU2, 0) := by rfl
    intro w
    have h := trans_any eU2 o2 r2 1 8319 false w
    rw [e] at h
    exact h
  have h5 : ∀ w, Calls Try.prog 13 #[.agg eU2.L.toArray, .int .i64 1, .int .i64 8320, .bool false] w fun e w' => e = .returned (.tuple #[.int .i64 0, .agg eU3.L.toArray, .int .i64 8]) ∧ Below w.heap.size w w' := by
    have e : eU2.trans 1 8320 false = (0, eU3, 8) := by rfl
    intro w
    have h := trans_any eU2 o2 r2 1 8320 false w
    rw [e] at h
    exact h
  have h6 : ∃ n, ∀ w, Calls Try.prog 13 #[.agg eU2.L.toArray, .int .i64 1, .int .i64 5, .bool true] w fun e w' => e = .returned (.tuple #[.int .i64 n, .agg eU4.L.toArray, .int .i64 0]) ∧ Below w.heap.size w w' := by
    have e : eU2.trans 1 5 true = ((eU2.trans 1 5 true).1, eU4, 0) := by rfl
    refine ⟨(eU2.trans 1 5 true).1, fun w => ?_⟩
    have h := trans_any eU2 o2 r2 1 5 true w
    rw [e] at h
    exact h
  obtain ⟨n6, h6⟩ := h6
  have h7 : ∀ w, Calls Try.prog 15 #[.agg eU4.L.toArray, .int .i64 50] w fun e w' => e = .returned (.tuple #[.int .i64 33408, .bool true]) ∧ Below w.heap.size w w' := by
    have e : eU4.read 50 = (33408, true) := by rfl
    intro w
    have h := read_any eU4 o4 (by decide +kernel) 50 w
    rw [e] at h
    exact h
  have h8 : ∀ w, Calls Try.prog 15 #[.agg eU3.L.toArray, .int .i64 0] w fun e w' => e = .returned (.tuple #[.int .i64 5, .bool true]) ∧ Below w.heap.size w w' := by
    have e : eU3.read 0 = (5, true) := by rfl
    intro w
    have h := read_any eU3 o3 (by decide +kernel) 0 w
    rw [e] at h
    exact h
  have hc : eU3.L[66]? = some (.int .i64 8320) := Un.at66 o3
  have hq := unit_eq eU2 o2
  have hbd := build_unit
  clear r2
  generalize eU4 = U4 at *
  generalize eU3 = U3 at *
  generalize eU2 = U2 at *
  generalize eU1 = U1 at *
  generalize Un.z = Z at *
  have hX := Bag.nil W0
  go_enter Try.func12, Try.ntmps12
  go_wp2_with (first
    | (go_at_call 13; first | (with_reducible refine (h1 _).mono ?_; rintro e w' ⟨rfl, hb⟩; replace hX := hX.step hb; clear hb) | (with_reducible refine (h4 _).mono ?_; rintro e w' ⟨rfl, hb⟩; replace hX := hX.step hb; clear hb) | (with_reducible refine (h5 _).mono ?_; rintro e w' ⟨rfl, hb⟩; replace hX := hX.step hb; clear hb) | (with_reducible refine (h6 _).mono ?_; rintro e w' ⟨rfl, hb⟩; replace hX := hX.step hb; clear hb))
    | (go_at_call 19; with_reducible refine (h2 _).mono ?_; rintro e w' ⟨rfl, hb⟩; replace hX := hX.step hb; clear hb)
    | (go_at_call 17; with_reducible refine (h3 _).mono ?_; rintro e w' ⟨rfl, hb⟩; replace hX := hX.step hb; clear hb)
    | (go_at_call 15; first | (with_reducible refine (h7 _).mono ?_; rintro e w' ⟨rfl, hb⟩; replace hX := hX.step hb; clear hb) | (with_reducible refine (h8 _).mono ?_; rintro e w' ⟨rfl, hb⟩; replace hX := hX.step hb; clear hb))
    | (refine wpList_build_run 27 (.agg Z.L.toArray) rfl rfl hbd ?_)
    | (refine wpList_unit_store hX _ _ rfl rfl rfl rfl rfl rfl (by assumption) hzo ?_; clear hX; intro w2 hX)
    | (refine wpList_unit_over hX _ _ rfl rfl rfl rfl rfl rfl (by assumption) (Un.len (by assumption)) ?_; clear hX; intro w2 hX)
    | (refine wpList_unit_load hX _ rfl rfl rfl rfl (by first | exact .head _ | exact .tail _ (.head _) | exact .tail _ (.tail _ (.head _)) | exact .tail _ (.tail _ (.tail _ (.head _))) | exact .tail _ (.tail _ (.tail _ (.tail _ (.head _))))) (by assumption) ?_)
    | (refine wpList_bag_cell hX int_cell _ rfl rfl rfl rfl (by first | exact .head _ | exact .tail _ (.head _) | exact .tail _ (.tail _ (.head _)) | exact .tail _ (.tail _ (.tail _ (.head _))) | exact .tail _ (.tail _ (.tail _ (.tail _ (.head _))))) (by assumption) ?_))
  go_ret
  exact ⟨rfl, hX.below⟩
end Go.Proofs.Ytggnbfilkogcoaa
