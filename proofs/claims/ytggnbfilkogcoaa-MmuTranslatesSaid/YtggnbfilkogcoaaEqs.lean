/-
  The equality of structs and arrays of any number of cells: each equals itself. No condition.
-/
import Derived.Test.YtggnbfilkogcoaaMuP
import Derived.Test.YtggnbfilkogcoaaCells
import Derived.Laws.StructEq
import Derived.ChangeKeysEq
import Derived.KernelRfl
namespace Go.Proofs.Ytggnbfilkogcoaa
open Go.RowKit
set_option linter.unusedSimpArgs false
set_option linter.unusedVariables false
set_option maxHeartbeats 1000000
set_option maxRecDepth 100000

/-- It equals itself. -/
def ReflAt (P : Program) (dd : Nat) (e : TypeId) (a : Value) : Prop := ∀ w, (Op.equalIn dd e a a).run P w = .ok true w
theorem items_refl {P : Program} {dd c : Nat} {e : TypeId} {xs : Array Value} : ∀ is : List Nat, (∀ i ∈ is, ∃ a, (∀ w, (part e xs (i * c)).run P w = .ok a w) ∧ ReflAt P dd e a) → ∀ w, (Op.eqItems dd e c xs xs is).run P w = .ok true w
  | [], _, w => by simp [Op.eqItems]
  | i :: is, h, w => by
    obtain ⟨a, h1, h2⟩ := h i List.mem_cons_self
    have ih := items_refl is (fun j hj => h j (List.mem_cons_of_mem _ hj)) w
    simp only [Op.eqItems, Sem.run_bind, h1, h2 w, Result.andThen_ok, Bool.not_true, Bool.false_eq_true, if_false]
    exact ih
theorem fields_refl {P : Program} {dd : Nat} {xs : Array Value} : ∀ fs : List Field, (∀ f ∈ fs, ∃ a, (∀ w, (part f.type xs f.offset).run P w = .ok a w) ∧ ReflAt P dd f.type a) → ∀ w, (Op.eqFields dd xs xs fs).run P w = .ok true w
  | [], _, w => by simp [Op.eqFields]
  | f :: fs, h, w => by
    obtain ⟨a, h1, h2⟩ := h f List.mem_cons_self
    have ih := fields_refl fs (fun j hj => h j (List.mem_cons_of_mem _ hj)) w
    by_cases hn : f.name ≠ "_"
    · simp only [Op.eqFields, if_pos hn, Sem.run_bind, h1, h2 w, Result.andThen_ok, Bool.not_true, Bool.false_eq_true, if_false]
      exact ih
    · simp only [Op.eqFields, if_neg hn]
      exact ih
theorem part_agg {P : Program} {e : TypeId} {n off : Nat} {xs : Array Value} (hagg : ∀ w, (isAgg e).run P w = .ok true w) (hsz : ∀ w, (sizeOf e).run P w = .ok n w) (w : World) : (part e xs off).run P w = .ok (.agg (xs.extract off (off + n))) w := by
  unfold part
  simp only [Sem.run_bind, hagg, hsz, Result.andThen_ok, if_true, Sem.run_pure]
theorem part_cell {P : Program} {e : TypeId} {off : Nat} {xs : Array Value} {v : Value} (hagg : ∀ w, (isAgg e).run P w = .ok false w) (hx : xs[off]? = some v) (w : World) : (part e xs off).run P w = .ok v w := by
  unfold part
  simp only [Sem.run_bind, hagg, Result.andThen_ok, Bool.false_eq_true, if_false, hx, Sem.run_pure]
theorem int_refl (d : Nat) (x : Int) : ReflAt Try.prog (d + 1) 3 (.int .i64 x) := fun w => by
  rw [run_equalIn_int (P := Try.prog) w d 3 .i64 .i64 x x Try.underlying3]; simp
theorem bool_refl (d : Nat) (x : Bool) : ReflAt Try.prog (d + 1) 4 (.bool x) := fun w => by
  rw [run_equalIn_bool' (P := Try.prog) w d 4 x x Try.underlying4]; simp
theorem int_cell (w : World) : (isAgg 3).run Try.prog w = .ok false w := by kernel_rfl
theorem bool_cell (w : World) : (isAgg 4).run Try.prog w = .ok false w := by kernel_rfl
theorem page_fields : (Try.prog.fieldsOf 23).toList.map (fun f => (f.type, f.offset)) = [(3, 0), (3, 1), (3, 2), (4, 3)] := by kernel_rfl
theorem page_refl (d : Nat) (p : Pg) : ReflAt Try.prog (d + 2) 23 (.agg p.L.toArray) := fun w => by
  rw [run_equalIn_struct (P := Try.prog) w (d + 1) 23 _ _ (by kernel_rfl) (by kernel_rfl)]
  refine fields_refl _ (fun f hf => ?_) w
  have hm : (f.type, f.offset) ∈ (Try.prog.fieldsOf 23).toList.map (fun f => (f.type, f.offset)) := List.mem_map_of_mem hf
  rw [page_fields] at hm
  simp only [List.mem_cons, List.not_mem_nil, or_false, Prod.mk.injEq] at hm
  rcases hm with ⟨h1, h2⟩ | ⟨h1, h2⟩ | ⟨h1, h2⟩ | ⟨h1, h2⟩
  all_goals rw [h1, h2]
  · exact ⟨_, part_cell int_cell (show p.L.toArray[0]? = some (.int .i64 p.b) from rfl), int_refl d p.b⟩
  · exact ⟨_, part_cell int_cell (show p.L.toArray[1]? = some (.int .i64 p.l) from rfl), int_refl d p.l⟩
  · exact ⟨_, part_cell int_cell (show p.L.toArray[2]? = some (.int .i64 p.a) from rfl), int_refl d p.a⟩
  · exact ⟨_, part_cell bool_cell (show p.L.toArray[3]? = some (.bool p.r) from rfl), bool_refl d p.r⟩

/-! ### Arrays of pages -/
theorem flat_drop : ∀ (a : Nat) (l : List Pg), (l.flatMap Pg.L).drop (4 * a) = (l.drop a).flatMap Pg.L
  | 0, l => by simp
  | a + 1, [] => by simp
  | a + 1, p :: r => by
    rw [List.flatMap_cons, show 4 * (a + 1) = p.L.length + 4 * a by show _ = 4 + 4 * a; omega, ← List.drop_drop, List.drop_left, flat_drop a r, List.drop_succ_cons]
theorem flat_take : ∀ (a : Nat) (l : List Pg), (l.flatMap Pg.L).take (4 * a) = (l.take a).flatMap Pg.L
  | 0, l => by simp
  | a + 1, [] => by simp
  | a + 1, p :: r => by
    rw [List.flatMap_cons, show 4 * (a + 1) = p.L.length + 4 * a by show _ = 4 + 4 * a; omega, List.take_length_add_append, flat_take a r, List.take_succ_cons, List.flatMap_cons]
theorem flat_extract (l : List Pg) (a n : Nat) : (l.flatMap Pg.L).toArray.extract (4 * a) (4 * a + 4 * n) = (((l.drop a).take n).flatMap Pg.L).toArray := by
  rw [List.extract_toArray, List.extract_eq_take_drop, Nat.add_sub_cancel_left, flat_drop, flat_take]
theorem agg23 (w : World) : (isAgg 23).run Try.prog w = .ok true w := by kernel_rfl
theorem siz23 (w : World) : (sizeOf 23).run Try.prog w = .ok 4 w := by kernel_rfl
theorem agg24 (w : World) : (isAgg 24).run Try.prog w = .ok true w := by kernel_rfl
theorem siz24 (w : World) : (sizeOf 24).run Try.prog w = .ok 32 w := by kernel_rfl
theorem agg25 (w : World) : (isAgg 25).run Try.prog w = .ok true w := by kernel_rfl
theorem siz25 (w : World) : (sizeOf 25).run Try.prog w = .ok 64 w := by kernel_rfl
theorem mode_refl (d : Nat) (l : List Pg) (hl : l.length = 8) : ReflAt Try.prog (d + 3) 24 (.agg (l.flatMap Pg.L).toArray) := fun w => by
  obtain ⟨i, hi⟩ : ∃ i, Try.prog.info? 23 = some i := Option.isSome_iff_exists.1 (by kernel_rfl)
  rw [run_equalIn_array (P := Try.prog) w (d + 2) _ _ Try.underlying24 hi]
  refine items_refl _ (fun k hk => ?_) w
  have hk8 : k < l.length := by rw [hl]; exact List.mem_range.1 hk
  refine ⟨_, fun w => part_agg agg23 siz23 w, ?_⟩
  rw [show Try.prog.cellsOf 23 = 4 by kernel_rfl]
  have e := flat_extract l k 1
  rw [Nat.mul_one, Nat.mul_comm 4 k] at e
  rw [e, List.take_one, List.head?_drop, List.getElem?_eq_getElem hk8]
  have q := page_refl d l[k]
  simpa using q
theorem pages_refl (d : Nat) (l : List Pg) (hl : l.length = 16) : ReflAt Try.prog (d + 4) 25 (.agg (l.flatMap Pg.L).toArray) := fun w => by
  obtain ⟨i, hi⟩ : ∃ i, Try.prog.info? 24 = some i := Option.isSome_iff_exists.1 (by kernel_rfl)
  rw [run_equalIn_array (P := Try.prog) w (d + 3) _ _ Try.underlying25 hi]
  refine items_refl _ (fun k hk => ?_) w
  have hk2 : k < 2 := List.mem_range.1 hk
  refine ⟨_, fun w => part_agg agg24 siz24 w, ?_⟩
  rw [show Try.prog.cellsOf 24 = 32 by kernel_rfl]
  have e := flat_extract l (8 * k) 8
  rw [show 4 * (8 * k) = k * 32 by omega] at e
  rw [e]
  exact mode_refl d _ (by rw [List.length_take, List.length_drop]; omega)
theorem unit_fields : (Try.prog.fieldsOf 27).toList.map (fun f => (f.type, f.offset)) = [(4, 0), (25, 1), (3, 65), (3, 66)] := by kernel_rfl
theorem Un.pages {u : Un} (h : u.ok) : u.L.toArray.extract 1 (1 + 64) = (u.pg.flatMap Pg.L).toArray := by
  have hl := flat_len u.pg
  rw [show u.pg.length = 16 from h] at hl
  rw [List.extract_toArray, List.extract_eq_take_drop]
  unfold Un.L
  rw [List.drop_succ_cons, List.drop_zero, List.take_append_of_le_length (by omega), List.take_of_length_le (by omega)]
theorem unit_refl (d : Nat) (u : Un) (hu : u.ok) : ReflAt Try.prog (d + 5) 27 (.agg u.L.toArray) := fun w => by
  rw [run_equalIn_struct (P := Try.prog) w (d + 4) 27 _ _ (by kernel_rfl) (by kernel_rfl)]
  refine fields_refl _ (fun f hf => ?_) w
  have hm : (f.type, f.offset) ∈ (Try.prog.fieldsOf 27).toList.map (fun f => (f.type, f.offset)) := List.mem_map_of_mem hf
  rw [unit_fields] at hm
  simp only [List.mem_cons, List.not_mem_nil, or_false, Prod.mk.injEq] at hm
  rcases hm with ⟨h1, h2⟩ | ⟨h1, h2⟩ | ⟨h1, h2⟩ | ⟨h1, h2⟩
  all_goals rw [h1, h2]
  · exact ⟨_, part_cell bool_cell (by simpa using Un.at0 u), bool_refl (d + 3) u.on⟩
  · refine ⟨_, fun w => part_agg agg25 siz25 w, ?_⟩
    rw [Un.pages hu]
    exact pages_refl d u.pg hu
  · exact ⟨_, part_cell int_cell (by simpa using Un.at65 hu), int_refl (d + 3) u.st⟩
  · exact ⟨_, part_cell int_cell (by simpa using Un.at66 hu), int_refl (d + 3) u.ad⟩
/-- As the walk asks it. -/
theorem unit_eq (u : Un) (hu : u.ok) (w : World) : (Op.equalIn 10000 27 (.agg u.L.toArray) (.agg u.L.toArray)).run Try.prog w = .ok true w := unit_refl 9995 u hu w
theorem pages_eq (l : List Pg) (hl : l.length = 16) (w : World) : (Op.equalIn 10000 25 (.agg (l.flatMap Pg.L).toArray) (.agg (l.flatMap Pg.L).toArray)).run Try.prog w = .ok true w := pages_refl 9996 l hl w
theorem mode_eq (l : List Pg) (hl : l.length = 8) (w : World) : (Op.equalIn 10000 24 (.agg (l.flatMap Pg.L).toArray) (.agg (l.flatMap Pg.L).toArray)).run Try.prog w = .ok true w := mode_refl 9997 l hl w
end Go.Proofs.Ytggnbfilkogcoaa
