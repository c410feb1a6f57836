import Derived.Test.YthpnddgfgpacpaaGreatRD13
import Derived.Test.YthpnddgfgpacpaaGreatRD24
import Derived.Laws.DeepStrings4
import Derived.Lib.Strings
import Derived.Lib.IndexBytes
import Derived.Lib.UnsafeStr
import Derived.Laws.IdiomStrings
import Derived.Test.YthpnddgfgpacpaaGreatRD18
import Derived.Test.YthpnddgfgpacpaaGreatRD20
import Derived.Test.YthpnddgfgpacpaaGreatRD00
import Derived.Laws.StructEq
import Derived.ChangeKeysEq
import Derived.KernelRfl
/-
  SameTexts, Same, passed, back, appended of the reference. Condition: at most 2^40 records; the head is on the tape.
-/
namespace Go.Proofs.YthpnddgfgpacpaaGreat
open Go.RowKit
set_option linter.unusedSimpArgs false
set_option linter.unusedVariables false
set_option maxHeartbeats 4000000
set_option maxRecDepth 100000
attribute [local irreducible] wpQuiet

theorem rsameS_any (L : List ByteArray) (hl : L.length ≤ 1099511627776) (v v2 : Value) (w : World) (h1 : Sts w v L) (h2 : Sts w v2 L) : Calls Tryz.prog 131 #[v, v2] w fun e' w' => e' = .returned (.bool true) ∧ Below w.heap.size w w' := by
  obtain ⟨A, c, rfl, _, hc⟩ := h1.form
  obtain ⟨A2, c2, rfl, _, hc2⟩ := h2.form
  have hB := Below.refl w.heap.size w
  clear h1 h2
  go_enter Tryz.func131, Tryz.ntmps131
  go_wp2
  go_loopw [5] (fun iv wr => ∃ i : Nat, i ≤ L.length ∧ iv = .int .i64 i ∧ Below w.heap.size w wr) (fun i _ => match i with | .int _ q => L.length - q.toNat | _ => 0)
  case atStart => exact ⟨0, Nat.zero_le _, rfl, hB⟩
  case round =>
    clear hB
    obtain ⟨i, hi, rfl, hB⟩ := hrel
    by_cases hin : i < L.length
    · have hii : (i : Int) < (L.length : Int) := by omega
      have hx := List.getElem?_eq_getElem hin
      generalize L[i] = x at *
      obtain ⟨a, rfl, hL⟩ := hc i x hx
      obtain ⟨a2, rfl, hL2⟩ := hc2 i x hx
      clear hx hc hc2
      go_wp2
      refine region_class (fun w' => Below w.heap.size w w') (by kernel_rfl) (by kernel_rfl) hB.drew ?_
      repeat
        first
          | (refine BigFrame.wpQuiet_skip (by rfl) ?_
             simp only [Act.put, List.setIfInBounds_toArray, List.set_cons_zero, List.set_cons_succ])
          | (refine BigFrame.wpQuiet_want (by rfl) (fun K hK => ?_)
             apply Exists.intro
             refine ⟨fun wq hq => ?_, hK _ ?_⟩
             · first
                 | (refine quiet_load 9 _ _ _ rfl rfl (hL _ hq))
                 | (refine quiet_load 9 _ _ _ rfl rfl (hL2 _ hq))
                 | (unfold Oper.quietAt
                    go_simp
                    first
                      | with_reducible rfl
                   )
             clear hK K
             simp only [Act.put, List.setIfInBounds_toArray, List.set_cons_zero, List.set_cons_succ])
      refine wpQuiet_nil ?_
      intro w4 hB
      go_wp2
      exact ⟨⟨i + 1, by omega, by go_num, hB⟩, by simp only; omega⟩
    · have hii : ¬ (i : Int) < (L.length : Int) := by omega
      clear hc hc2
      go_wp2
      go_ret
      exact ⟨rfl, hB⟩
theorem rsameT_any (K : Tp) (hl : K.R.length ≤ 1099511627776) (v v2 : Value) (w : World) (h1 : Sts w v K.R) (h2 : Sts w v2 K.R) : Calls Tryz.prog 101 #[.agg #[v, .int .i64 (K).p, .bool (K).n, .bool (K).r, .bool (K).e, .bool (K).m, .bool (K).d, .int .i64 (K).c, .int .i64 (K).k, .int .i64 (K).a, .int .i64 (K).l], .agg #[v2, .int .i64 (K).p, .bool (K).n, .bool (K).r, .bool (K).e, .bool (K).m, .bool (K).d, .int .i64 (K).c, .int .i64 (K).k, .int .i64 (K).a, .int .i64 (K).l]] w fun e' w' => e' = .returned (.bool true) ∧ Below w.heap.size w w' := by
  have hst := fun w' (h : Below w.heap.size w w') => rsameS_any K.R hl v v2 w' (Rz.below h1 h) (Rz.below h2 h)
  obtain ⟨A, c1, rfl, _⟩ := h1.form
  obtain ⟨A2, c2, rfl, _⟩ := h2.form
  obtain ⟨R, p, n, r, e, m, d, c, k, a, l⟩ := K
  dsimp only at *
  have hX := two_tp w [(.slice A R.length c1), .int .i64 p, .bool n, .bool r, .bool e, .bool m, .bool d, .int .i64 c, .int .i64 k, .int .i64 a, .int .i64 l] [(.slice A2 R.length c2), .int .i64 p, .bool n, .bool r, .bool e, .bool m, .bool d, .int .i64 c, .int .i64 k, .int .i64 a, .int .i64 l]
  clear h1 h2
  go_enter Tryz.func101, Tryz.ntmps101
  go_wp2_with (first | ((with_reducible refine at_load ?_); refine wpList_bag_cell hX int_cell _ rfl rfl rfl rfl (by first | exact .head _ | exact .tail _ (.head _)) rfl ?_) | ((with_reducible refine at_load ?_); refine wpList_bag_cell hX bool_cell _ rfl rfl rfl rfl (by first | exact .head _ | exact .tail _ (.head _)) rfl ?_) | ((with_reducible refine at_load ?_); refine wpList_bag_cell hX slS_cell _ rfl rfl rfl rfl (by first | exact .head _ | exact .tail _ (.head _)) rfl ?_) | (go_at_call 131; (with_reducible refine (hst _ hX.below).mono ?_); rintro e' w' ⟨rfl, hbb⟩; replace hX := hX.step hbb; clear hbb))
  go_ret
  exact ⟨by simp, hX.below⟩
end Go.Proofs.YthpnddgfgpacpaaGreat
/-
  Walks over Bytes of package memory and of its reference. Condition: lists have at most 2^40 elements.
-/
namespace Go.Proofs.YthpnddgfgpacpaaGreat
open Go.RowKit
set_option maxRecDepth 100000
set_option linter.unusedSimpArgs false
set_option linter.unusedVariables false
set_option maxHeartbeats 1000000
attribute [local irreducible] wpQuiet

/-- Byte j, as a cell. -/
def b8 (l : List Int) (a j : Nat) : Value := .int .u8 (byteN l (a + j))
end Go.Proofs.YthpnddgfgpacpaaGreat
/-
  cleared, spoilt, write of the reference. Condition: addresses are words; the head is on the tape.
-/
namespace Go.Proofs.YthpnddgfgpacpaaGreat
open Go.RowKit
set_option linter.unusedSimpArgs false
set_option linter.unusedVariables false
set_option maxHeartbeats 4000000
set_option maxRecDepth 100000
attribute [local irreducible] wpQuiet

theorem bag_lt {B : Nat} {t : TypeId} {cs : List Value} {l : List (Nat × TypeId × List Value)} {w0 w : World} (h : Bag ((B, t, cs) :: l) w0 w) : B < w.heap.size := (h.all _ _ _ (.head _)).lt
end Go.Proofs.YthpnddgfgpacpaaGreat
/-
  Results of a unit are valid, and the memory stays so: plain. The contracts of package tape over a world. No condition.
-/
namespace Go.Proofs.YthpnddgfgpacpaaGreat
open Go.RowKit
set_option linter.unusedSimpArgs false
set_option linter.unusedVariables false
set_option maxHeartbeats 4000000
set_option maxRecDepth 100000
attribute [local irreducible] wpQuiet

theorem Tp.right_iff (K : Tp) : K.right = true ↔ (K.R.length ≤ 64 ∧ (0 ≤ K.p ∧ K.p ≤ (K.R.length : Int)) ∧ (0 ≤ K.c ∧ K.c ≤ 6) ∧ (0 ≤ K.k ∧ K.k ≤ 65535) ∧ (0 ≤ K.a ∧ K.a ≤ 65535) ∧ (0 ≤ K.l ∧ K.l ≤ 16) ∧ K.r = decide (K.l = 0)) ∧ ∀ s ∈ K.R, s.size ≤ 512 := by
  unfold Tp.right; rw [Bool.and_eq_true, Tp.ok_iff, shortV_iff, wordV_iff_17, wordV_iff_17]
theorem tp_mk {R : List ByteArray} {p c k a l : Int} {n r e m d : Bool} (h1 : R.length ≤ 64) (h2 : 0 ≤ p ∧ p ≤ (R.length : Int)) (h3 : 0 ≤ c ∧ c ≤ 6) (h4 : 0 ≤ k ∧ k ≤ 65535) (h5 : 0 ≤ a ∧ a ≤ 65535) (h6 : 0 ≤ l ∧ l ≤ 16) (h7 : r = decide (l = 0)) (h8 : ∀ s ∈ R, s.size ≤ 512) : (Tp.mk R p n r e m d c k a l).right = true := (Tp.right_iff _).2 ⟨⟨h1, h2, h3, h4, h5, h6, h7⟩, h8⟩
theorem wrT_right {K : Tp} (h : K.right = true) (g v : Int) : (K.wr g v).1.right = true := by
  obtain ⟨⟨h1, h2, h3, h4, h5, h6, h7⟩, h8⟩ := (Tp.right_iff K).1 h
  unfold Tp.wr Tp.go
  repeat' split
  all_goals first
    | exact h
    | exact tp_mk h1 h2 h3 h4 h5 h6 h7 h8
    | exact tp_mk h1 h2 (by decide) h4 h5 h6 h7 h8
    | exact tp_mk h1 h2 (by omega) h4 h5 (by decide) rfl h8
    | exact tp_mk h1 h2 h3 (by omega) h5 h6 h7 h8
    | exact tp_mk h1 h2 h3 h4 (by omega) h6 h7 h8
/-- What a tick keeps. -/
structure KeptT (K : Tp) (m B : List Int) (T : Tp × List Int × List Int) : Prop where
  right : T.1.right = true
  mem : rightP T.2.1 T.2.2 = true
  ml : T.2.1.length = m.length
  bl : T.2.2.length ≤ B.length
theorem KeptT.refl {K K2 : Tp} {m B : List Int} (h : K2.right = true) (hm : rightP m B = true) : KeptT K m B (K2, m, B) := ⟨h, hm, rfl, Nat.le_refl _⟩
end Go.Proofs.YthpnddgfgpacpaaGreat
/-
  The equality of structs and arrays of any number of cells: each equals itself. No condition.
-/
namespace Go.Proofs.YthpnddgfgpacpaaGreat
open Go.RowKit
set_option linter.unusedSimpArgs false
set_option linter.unusedVariables false
set_option maxHeartbeats 1000000
set_option maxRecDepth 100000

/-- It equals itself. -/
def ReflAt (P : Program) (dd : Nat) (e : TypeId) (a : Value) : Prop := ∀ w, (Op.equalIn dd e a a).run P w = .ok true w
theorem items_refl {P : Program} {dd c : Nat} {e : TypeId} {xs : Array Value} : ∀ is : List Nat, (∀ i ∈ is, ∃ a, (∀ w, (part e xs (i * c)).run P w = .ok a w) ∧ ReflAt P dd e a) → ∀ w, (Op.eqItems dd e c xs xs is).run P w = .ok true w
  | [], _, w => by simp [Op.eqItems]
  | i :: is, h, w => by
    obtain ⟨a, h1, h2⟩ := h i List.mem_cons_self
    have ih := items_refl is (fun j hj => h j (List.mem_cons_of_mem _ hj)) w
    simp only [Op.eqItems, Sem.run_bind, h1, h2 w, Result.andThen_ok, Bool.not_true, Bool.false_eq_true, if_false]
    exact ih
theorem fields_refl {P : Program} {dd : Nat} {xs : Array Value} : ∀ fs : List Field, (∀ f ∈ fs, ∃ a, (∀ w, (part f.type xs f.offset).run P w = .ok a w) ∧ ReflAt P dd f.type a) → ∀ w, (Op.eqFields dd xs xs fs).run P w = .ok true w
  | [], _, w => by simp [Op.eqFields]
  | f :: fs, h, w => by
    obtain ⟨a, h1, h2⟩ := h f List.mem_cons_self
    have ih := fields_refl fs (fun j hj => h j (List.mem_cons_of_mem _ hj)) w
    by_cases hn : f.name ≠ "_"
    · simp only [Op.eqFields, if_pos hn, Sem.run_bind, h1, h2 w, Result.andThen_ok, Bool.not_true, Bool.false_eq_true, if_false]
      exact ih
    · simp only [Op.eqFields, if_neg hn]
      exact ih
theorem part_agg {P : Program} {e : TypeId} {n off : Nat} {xs : Array Value} (hagg : ∀ w, (isAgg e).run P w = .ok true w) (hsz : ∀ w, (sizeOf e).run P w = .ok n w) (w : World) : (part e xs off).run P w = .ok (.agg (xs.extract off (off + n))) w := by
  unfold part
  simp only [Sem.run_bind, hagg, hsz, Result.andThen_ok, if_true, Sem.run_pure]
theorem part_cell {P : Program} {e : TypeId} {off : Nat} {xs : Array Value} {v : Value} (hagg : ∀ w, (isAgg e).run P w = .ok false w) (hx : xs[off]? = some v) (w : World) : (part e xs off).run P w = .ok v w := by
  unfold part
  simp only [Sem.run_bind, hagg, Result.andThen_ok, Bool.false_eq_true, if_false, hx, Sem.run_pure]
theorem int_refl (d : Nat) (x : Int) : ReflAt Tryz.prog (d + 1) 3 (.int .i64 x) := fun w => by
  rw [run_equalIn_int (P := Tryz.prog) w d 3 .i64 .i64 x x Tryz.underlying3]; simp
theorem bool_refl (d : Nat) (x : Bool) : ReflAt Tryz.prog (d + 1) 4 (.bool x) := fun w => by
  rw [run_equalIn_bool' (P := Tryz.prog) w d 4 x x Tryz.underlying4]; simp
theorem int_cell_9 (w : World) : (isAgg 3).run Tryz.prog w = .ok false w := by kernel_rfl
theorem bool_cell_9 (w : World) : (isAgg 4).run Tryz.prog w = .ok false w := by kernel_rfl
theorem page_fields : (Tryz.prog.fieldsOf 28).toList.map (fun f => (f.type, f.offset)) = [(3, 0), (3, 1), (3, 2), (4, 3)] := by kernel_rfl
theorem page_refl (d : Nat) (p : Pg) : ReflAt Tryz.prog (d + 2) 28 (.agg p.L.toArray) := fun w => by
  rw [run_equalIn_struct (P := Tryz.prog) w (d + 1) 28 _ _ (by kernel_rfl) (by kernel_rfl)]
  refine fields_refl _ (fun f hf => ?_) w
  have hm : (f.type, f.offset) ∈ (Tryz.prog.fieldsOf 28).toList.map (fun f => (f.type, f.offset)) := List.mem_map_of_mem hf
  rw [page_fields] at hm
  simp only [List.mem_cons, List.not_mem_nil, or_false, Prod.mk.injEq] at hm
  rcases hm with ⟨h1, h2⟩ | ⟨h1, h2⟩ | ⟨h1, h2⟩ | ⟨h1, h2⟩
  all_goals rw [h1, h2]
  · exact ⟨_, part_cell int_cell_9 (show p.L.toArray[0]? = some (.int .i64 p.b) from rfl), int_refl d p.b⟩
  · exact ⟨_, part_cell int_cell_9 (show p.L.toArray[1]? = some (.int .i64 p.l) from rfl), int_refl d p.l⟩
  · exact ⟨_, part_cell int_cell_9 (show p.L.toArray[2]? = some (.int .i64 p.a) from rfl), int_refl d p.a⟩
  · exact ⟨_, part_cell bool_cell_9 (show p.L.toArray[3]? = some (.bool p.r) from rfl), bool_refl d p.r⟩

/-! ### Arrays of pages -/
theorem flat_drop_9 : ∀ (a : Nat) (l : List Pg), (l.flatMap Pg.L).drop (4 * a) = (l.drop a).flatMap Pg.L
  | 0, l => by simp
  | a + 1, [] => by simp
  | a + 1, p :: r => by
    rw [List.flatMap_cons, show 4 * (a + 1) = p.L.length + 4 * a by show _ = 4 + 4 * a; omega, ← List.drop_drop, List.drop_left, flat_drop_9 a r, List.drop_succ_cons]
theorem flat_take_9 : ∀ (a : Nat) (l : List Pg), (l.flatMap Pg.L).take (4 * a) = (l.take a).flatMap Pg.L
  | 0, l => by simp
  | a + 1, [] => by simp
  | a + 1, p :: r => by
    rw [List.flatMap_cons, show 4 * (a + 1) = p.L.length + 4 * a by show _ = 4 + 4 * a; omega, List.take_length_add_append, flat_take_9 a r, List.take_succ_cons, List.flatMap_cons]
theorem flat_extract (l : List Pg) (a n : Nat) : (l.flatMap Pg.L).toArray.extract (4 * a) (4 * a + 4 * n) = (((l.drop a).take n).flatMap Pg.L).toArray := by
  rw [List.extract_toArray, List.extract_eq_take_drop, Nat.add_sub_cancel_left, flat_drop_9, flat_take_9]
theorem agg23 (w : World) : (isAgg 28).run Tryz.prog w = .ok true w := by kernel_rfl
theorem siz23 (w : World) : (sizeOf 28).run Tryz.prog w = .ok 4 w := by kernel_rfl
theorem agg24 (w : World) : (isAgg 29).run Tryz.prog w = .ok true w := by kernel_rfl
theorem siz24 (w : World) : (sizeOf 29).run Tryz.prog w = .ok 32 w := by kernel_rfl
theorem agg25 (w : World) : (isAgg 30).run Tryz.prog w = .ok true w := by kernel_rfl
theorem siz25 (w : World) : (sizeOf 30).run Tryz.prog w = .ok 64 w := by kernel_rfl
theorem mode_refl (d : Nat) (l : List Pg) (hl : l.length = 8) : ReflAt Tryz.prog (d + 3) 29 (.agg (l.flatMap Pg.L).toArray) := fun w => by
  obtain ⟨i, hi⟩ : ∃ i, Tryz.prog.info? 28 = some i := Option.isSome_iff_exists.1 (by kernel_rfl)
  rw [run_equalIn_array (P := Tryz.prog) w (d + 2) _ _ Tryz.underlying29 hi]
  refine items_refl _ (fun k hk => ?_) w
  have hk8 : k < l.length := by rw [hl]; exact List.mem_range.1 hk
  refine ⟨_, fun w => part_agg agg23 siz23 w, ?_⟩
  rw [show Tryz.prog.cellsOf 28 = 4 by kernel_rfl]
  have e := flat_extract l k 1
  rw [Nat.mul_one, Nat.mul_comm 4 k] at e
  rw [e, List.take_one, List.head?_drop, List.getElem?_eq_getElem hk8]
  have q := page_refl d l[k]
  simpa using q
theorem pages_refl (d : Nat) (l : List Pg) (hl : l.length = 16) : ReflAt Tryz.prog (d + 4) 30 (.agg (l.flatMap Pg.L).toArray) := fun w => by
  obtain ⟨i, hi⟩ : ∃ i, Tryz.prog.info? 29 = some i := Option.isSome_iff_exists.1 (by kernel_rfl)
  rw [run_equalIn_array (P := Tryz.prog) w (d + 3) _ _ Tryz.underlying30 hi]
  refine items_refl _ (fun k hk => ?_) w
  have hk2 : k < 2 := List.mem_range.1 hk
  refine ⟨_, fun w => part_agg agg24 siz24 w, ?_⟩
  rw [show Tryz.prog.cellsOf 29 = 32 by kernel_rfl]
  have e := flat_extract l (8 * k) 8
  rw [show 4 * (8 * k) = k * 32 by omega] at e
  rw [e]
  exact mode_refl d _ (by rw [List.length_take, List.length_drop]; omega)
theorem unit_fields : (Tryz.prog.fieldsOf 32).toList.map (fun f => (f.type, f.offset)) = [(4, 0), (30, 1), (3, 65), (3, 66)] := by kernel_rfl
theorem Un.pages {u : Un} (h : u.ok) : u.L.toArray.extract 1 (1 + 64) = (u.pg.flatMap Pg.L).toArray := by
  have hl := flat_len u.pg
  rw [show u.pg.length = 16 from h] at hl
  rw [List.extract_toArray, List.extract_eq_take_drop]
  unfold Un.L
  rw [List.drop_succ_cons, List.drop_zero, List.take_append_of_le_length (by omega), List.take_of_length_le (by omega)]
theorem unit_refl (d : Nat) (u : Un) (hu : u.ok) : ReflAt Tryz.prog (d + 5) 32 (.agg u.L.toArray) := fun w => by
  rw [run_equalIn_struct (P := Tryz.prog) w (d + 4) 32 _ _ (by kernel_rfl) (by kernel_rfl)]
  refine fields_refl _ (fun f hf => ?_) w
  have hm : (f.type, f.offset) ∈ (Tryz.prog.fieldsOf 32).toList.map (fun f => (f.type, f.offset)) := List.mem_map_of_mem hf
  rw [unit_fields] at hm
  simp only [List.mem_cons, List.not_mem_nil, or_false, Prod.mk.injEq] at hm
  rcases hm with ⟨h1, h2⟩ | ⟨h1, h2⟩ | ⟨h1, h2⟩ | ⟨h1, h2⟩
  all_goals rw [h1, h2]
  · exact ⟨_, part_cell bool_cell_9 (by simpa using Un.at0 u), bool_refl (d + 3) u.on⟩
  · refine ⟨_, fun w => part_agg agg25 siz25 w, ?_⟩
    rw [Un.pages hu]
    exact pages_refl d u.pg hu
  · exact ⟨_, part_cell int_cell_9 (by simpa using Un.at65 hu), int_refl (d + 3) u.st⟩
  · exact ⟨_, part_cell int_cell_9 (by simpa using Un.at66 hu), int_refl (d + 3) u.ad⟩
/-- As the walk asks it. -/
theorem unit_eq (u : Un) (hu : u.ok) (w : World) : (Op.equalIn 10000 32 (.agg u.L.toArray) (.agg u.L.toArray)).run Tryz.prog w = .ok true w := unit_refl 9995 u hu w
end Go.Proofs.YthpnddgfgpacpaaGreat
