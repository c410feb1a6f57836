/-
  Registers equal themselves. No condition.
-/
import Derived.Test.YtlegcfjafdihlaaGreatDoorProg
import Derived.Test.YtlegcfjafdihlaaGreatDoorCells
import Derived.Laws.StructEq
import Derived.ChangeKeysEq
import Derived.KernelRfl
namespace Go.Proofs.YtlegcfjafdihlaaGreatDoor
open Go.RowKit
set_option linter.unusedSimpArgs false
set_option linter.unusedVariables false
set_option maxHeartbeats 4000000
set_option maxRecDepth 100000
/-- It equals itself. -/
def ReflAt (P : Program) (dd : Nat) (e : TypeId) (a : Value) : Prop := ∀ w, (Op.equalIn dd e a a).run P w = .ok true w
theorem items_refl {P : Program} {dd c : Nat} {e : TypeId} {xs : Array Value} : ∀ is : List Nat, (∀ i ∈ is, ∃ a, (∀ w, (part e xs (i * c)).run P w = .ok a w) ∧ ReflAt P dd e a) → ∀ w, (Op.eqItems dd e c xs xs is).run P w = .ok true w
  | [], _, w => by simp [Op.eqItems]
  | i :: is, h, w => by
    obtain ⟨a, h1, h2⟩ := h i List.mem_cons_self
    have ih := items_refl is (fun j hj => h j (List.mem_cons_of_mem _ hj)) w
    simp only [Op.eqItems, Sem.run_bind, h1, h2 w, Result.andThen_ok, Bool.not_true, Bool.false_eq_true, if_false]
    exact ih
theorem fields_refl {P : Program} {dd : Nat} {xs : Array Value} : ∀ fs : List Field, (∀ f ∈ fs, ∃ a, (∀ w, (part f.type xs f.offset).run P w = .ok a w) ∧ ReflAt P dd f.type a) → ∀ w, (Op.eqFields dd xs xs fs).run P w = .ok true w
  | [], _, w => by simp [Op.eqFields]
  | f :: fs, h, w => by
    obtain ⟨a, h1, h2⟩ := h f List.mem_cons_self
    have ih := fields_refl fs (fun j hj => h j (List.mem_cons_of_mem _ hj)) w
    by_cases hn : f.name ≠ "_"
    · simp only [Op.eqFields, if_pos hn, Sem.run_bind, h1, h2 w, Result.andThen_ok, Bool.not_true, Bool.false_eq_true, if_false]
      exact ih
    · simp only [Op.eqFields, if_neg hn]
      exact ih
theorem part_agg {P : Program} {e : TypeId} {n off : Nat} {xs : Array Value} (hagg : ∀ w, (isAgg e).run P w = .ok true w) (hsz : ∀ w, (sizeOf e).run P w = .ok n w) (w : World) : (part e xs off).run P w = .ok (.agg (xs.extract off (off + n))) w := by
  unfold part
  simp only [Sem.run_bind, hagg, hsz, Result.andThen_ok, if_true, Sem.run_pure]
theorem part_cell {P : Program} {e : TypeId} {off : Nat} {xs : Array Value} {v : Value} (hagg : ∀ w, (isAgg e).run P w = .ok false w) (hx : xs[off]? = some v) (w : World) : (part e xs off).run P w = .ok v w := by
  unfold part
  simp only [Sem.run_bind, hagg, Result.andThen_ok, Bool.false_eq_true, if_false, hx, Sem.run_pure]
theorem int_refl (d : Nat) (x : Int) : ReflAt Tryz.prog (d + 1) 3 (.int .i64 x) := fun w => by
  rw [run_equalIn_int (P := Tryz.prog) w d 3 .i64 .i64 x x Tryz.underlying3]; simp
theorem int_cell_9 (w : World) : (isAgg 3).run Tryz.prog w = .ok false w := by kernel_rfl
theorem ints_refl20 (d n : Nat) (T_ : TypeId) (hT : Tryz.prog.underlying T_ = some (.array n 3)) (l : List Int) (hl : l.length = n) : ReflAt Tryz.prog (d + 2) T_ (.agg (l.map (Value.int .i64)).toArray) := fun w => by
  obtain ⟨i, hi⟩ : ∃ i, Tryz.prog.info? 3 = some i := Option.isSome_iff_exists.1 (by kernel_rfl)
  rw [run_equalIn_array (P := Tryz.prog) w (d + 1) _ _ hT hi]
  refine items_refl _ (fun k hk => ?_) w
  have hk8 : k < l.length := by rw [hl]; exact List.mem_range.1 hk
  refine ⟨.int .i64 l[k], part_cell int_cell_9 ?_, int_refl d _⟩
  rw [show Tryz.prog.cellsOf 3 = 1 by kernel_rfl, Nat.mul_one]
  simp [hk8]
theorem cpu_fields20 : (Tryz.prog.fieldsOf 25).toList.map (fun f => (f.type, f.offset)) = [(22, 0), (23, 6), (3, 8), (3, 9)] := by kernel_rfl
theorem agg6_20 (w : World) : (isAgg 22).run Tryz.prog w = .ok true w := by kernel_rfl
theorem siz6_20 (w : World) : (sizeOf 22).run Tryz.prog w = .ok 6 w := by kernel_rfl
theorem agg2_20 (w : World) : (isAgg 23).run Tryz.prog w = .ok true w := by kernel_rfl
theorem siz2_20 (w : World) : (sizeOf 23).run Tryz.prog w = .ok 2 w := by kernel_rfl
theorem cpu_eq20 (c : List Int) (hc : c.length = 10) (w : World) : (Op.equalIn 10000 25 (.agg (c.map (Value.int .i64)).toArray) (.agg (c.map (Value.int .i64)).toArray)).run Tryz.prog w = .ok true w := by
  rw [run_equalIn_struct (P := Tryz.prog) w 9999 25 _ _ (by kernel_rfl) (by kernel_rfl)]
  refine fields_refl _ (fun f hf => ?_) w
  have hm : (f.type, f.offset) ∈ (Tryz.prog.fieldsOf 25).toList.map (fun f => (f.type, f.offset)) := List.mem_map_of_mem hf
  rw [cpu_fields20] at hm
  simp only [List.mem_cons, List.not_mem_nil, or_false, Prod.mk.injEq] at hm
  have ex : ∀ a n, a + n ≤ 10 → (c.map (Value.int .i64)).toArray.extract a (a + n) = (((c.drop a).take n).map (Value.int .i64)).toArray := fun a n _ => by
    rw [List.extract_toArray, List.extract_eq_take_drop, Nat.add_sub_cancel_left, List.map_take, List.map_drop]
  rcases hm with ⟨h1, h2⟩ | ⟨h1, h2⟩ | ⟨h1, h2⟩ | ⟨h1, h2⟩
  all_goals rw [h1, h2]
  · refine ⟨_, fun w => part_agg agg6_20 siz6_20 w, ?_⟩
    rw [ex 0 6 (by omega)]
    exact ints_refl20 9997 6 _ Tryz.underlying22 _ (by rw [List.length_take, List.length_drop]; omega)
  · refine ⟨_, fun w => part_agg agg2_20 siz2_20 w, ?_⟩
    rw [ex 6 2 (by omega)]
    exact ints_refl20 9997 2 _ Tryz.underlying23 _ (by rw [List.length_take, List.length_drop]; omega)
  · exact ⟨.int .i64 (c[8]'(by omega)), part_cell int_cell_9 (by simp [hc]), int_refl 9998 _⟩
  · exact ⟨.int .i64 (c[9]'(by omega)), part_cell int_cell_9 (by simp [hc]), int_refl 9998 _⟩
end Go.Proofs.YtlegcfjafdihlaaGreatDoor
