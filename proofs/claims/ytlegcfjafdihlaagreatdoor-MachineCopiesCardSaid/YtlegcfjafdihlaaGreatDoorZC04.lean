import Derived.Test.YtlegcfjafdihlaaGreatDoorZC03
import Derived.Test.YtlegcfjafdihlaaGreatDoorZC01
import Derived.Test.YtlegcfjafdihlaaGreatDoorZC02
import Derived.Laws.StructEq
import Derived.ChangeKeysEq
import Derived.KernelRfl
/-
  Map of the reference of package mmu. No condition but that the pages are sixteen.
-/
namespace Go.Proofs.YtlegcfjafdihlaaGreatDoor
open Go.RowKit
set_option linter.unusedSimpArgs false
set_option linter.unusedVariables false
set_option maxHeartbeats 8000000
set_option maxRecDepth 100000
attribute [local irreducible] wpQuiet

/-- The pages of a mode from number 8 - n on. -/
def mapGo (m : Nat) (acc : Int) : Nat → Un → Int → Int → Un
  | 0, u, _, _ => u
  | n + 1, u, base, blocks =>
    if 0 < blocks then mapGo m acc n (u.withP (8 * m + (7 - n)) ⟨base, min blocks 128, acc, false⟩) (base + min blocks 128) (blocks - min blocks 128)
    else mapGo m acc n (u.withP (8 * m + (7 - n)) Pg.z) base blocks
/-- A whole page stored, cell by cell: the worlds by name. -/
theorem Two.four {B C m p : Nat} {u v : Un} {w0 w : World} {g : Pg} (h : Two B C u v w0 w) (hg : u.pg[8 * m + p]? = some g) (hn : C ≠ B) (hB : w0.heap.size ≤ B) (g' : Pg) :
    ∃ W1 W2 W3 W4, w.setCell ⟨B, 1 + m * 32 + p * 4, none⟩ (.int .i64 g'.b) = W1 ∧ W1.setCell ⟨B, 1 + m * 32 + p * 4 + 1, none⟩ (.int .i64 g'.l) = W2 ∧ W2.setCell ⟨B, 1 + m * 32 + p * 4 + 2, none⟩ (.int .i64 g'.a) = W3 ∧ W3.setCell ⟨B, 1 + m * 32 + p * 4 + 3, none⟩ (.bool g'.r) = W4 ∧
      (w.cell? ⟨B, 1 + m * 32 + p * 4, none⟩ = some (.int .i64 g.b) ∧ w.frozen? ⟨B, 1 + m * 32 + p * 4, none⟩ = false) ∧ (W1.cell? ⟨B, 1 + m * 32 + p * 4 + 1, none⟩ = some (.int .i64 g.l) ∧ W1.frozen? ⟨B, 1 + m * 32 + p * 4 + 1, none⟩ = false) ∧
      (W2.cell? ⟨B, 1 + m * 32 + p * 4 + 2, none⟩ = some (.int .i64 g.a) ∧ W2.frozen? ⟨B, 1 + m * 32 + p * 4 + 2, none⟩ = false) ∧ (W3.cell? ⟨B, 1 + m * 32 + p * 4 + 3, none⟩ = some (.bool g.r) ∧ W3.frozen? ⟨B, 1 + m * 32 + p * 4 + 3, none⟩ = false) ∧ Two B C (u.withP (8 * m + p) g') v w0 W4 := by
  obtain ⟨gb, gl, ga, gr⟩ := g
  obtain ⟨b, l, a, r⟩ := g'
  have h1 := h.putF (g' := ⟨b, gl, ga, gr⟩) hg hn hB 0 (by decide) (.int .i64 b) rfl (1 + m * 32 + p * 4) rfl
  have hg1 := Un.withP_at (g' := ⟨b, gl, ga, gr⟩) hg
  have h2 := h1.putF (g' := ⟨b, l, ga, gr⟩) hg1 hn hB 1 (by decide) (.int .i64 l) rfl (1 + m * 32 + p * 4 + 1) rfl
  have hg2 := Un.withP_at (g' := ⟨b, l, ga, gr⟩) hg1
  have h3 := h2.putF (g' := ⟨b, l, a, gr⟩) hg2 hn hB 2 (by decide) (.int .i64 a) rfl (1 + m * 32 + p * 4 + 2) rfl
  have hg3 := Un.withP_at (g' := ⟨b, l, a, gr⟩) hg2
  have h4 := h3.putF (g' := ⟨b, l, a, r⟩) hg3 hn hB 3 (by decide) (.bool r) rfl (1 + m * 32 + p * 4 + 3) rfl
  rw [withP_twice, withP_twice, withP_twice] at h4
  exact ⟨_, _, _, _, rfl, rfl, rfl, rfl, ⟨(h.page hg).1, h.fz _⟩, ⟨(h1.page hg1).2.1, h1.fz _⟩, ⟨(h2.page hg2).2.2.1, h2.fz _⟩, ⟨(h3.page hg3).2.2.2, h3.fz _⟩, h4⟩
def okMap (mode base blocks acc : Int) : Prop := 0 ≤ mode ∧ mode ≤ 1 ∧ 1 ≤ acc ∧ acc ≤ 2 ∧ 0 ≤ blocks ∧ blocks ≤ 1024 ∧ 0 ≤ base ∧ base ≤ 4096 - blocks
end Go.Proofs.YtlegcfjafdihlaaGreatDoor
/-
  Right of the reference of package mmu. No condition but that the pages are sixteen.
-/
namespace Go.Proofs.YtlegcfjafdihlaaGreatDoor
open Go.RowKit
set_option linter.unusedSimpArgs false
set_option linter.unusedVariables false
set_option maxHeartbeats 8000000
set_option maxRecDepth 100000
attribute [local irreducible] wpQuiet

def Pg.good (g : Pg) : Bool := decide (0 ≤ g.b) && (decide (g.b ≤ 4095) && (decide (0 ≤ g.l) && (decide (g.l ≤ 128) && (decide (0 ≤ g.a) && decide (g.a ≤ 2)))))
def Un.tail (u : Un) : Bool := decide (0 ≤ u.st) && (decide (u.st ≤ 3) && (decide (0 ≤ u.ad) && decide (u.ad < 65536)))
def Un.right (u : Un) : Bool := u.pg.all Pg.good && u.tail
end Go.Proofs.YtlegcfjafdihlaaGreatDoor
/-
  The reference of package mmu: one contract for each function, over plain functions of units.
-/
namespace Go.Proofs.YtlegcfjafdihlaaGreatDoor
open Go.RowKit
set_option linter.unusedSimpArgs false
set_option linter.unusedVariables false
attribute [local irreducible] wpQuiet

def Un.pgAt (u : Un) (k : Nat) : Pg := u.pg.getD k Pg.z
def Un.kAt (mode addr : Int) : Nat := 8 * (mode % 2).toNat + (addr % 65536 / 8192).toNat
def Un.trans (u : Un) (mode addr : Int) (wr : Bool) : Int × Un × Int :=
  if u.on = true then
    if fltP (u.pgAt (Un.kAt mode addr)) (addr % 65536 % 8192) wr = 0 then
      ((64 * (u.pgAt (Un.kAt mode addr)).b + addr % 65536 % 8192) % 262144, if wr = true then u.withP (Un.kAt mode addr) { u.pgAt (Un.kAt mode addr) with r := true } else u, 0)
    else (0, { u with st := fltP (u.pgAt (Un.kAt mode addr)) (addr % 65536 % 8192) wr, ad := addr % 65536 }, 8)
  else if addr % 65536 < 57344 then (addr % 65536, u, 0) else (addr % 65536 + 196608, u, 0)

def regK (n : Int) : Nat := 8 * ((n - 16) / 32).toNat + ((n - 16) % 32 / 4).toNat
def Un.read (u : Un) (n : Int) : Int × Bool :=
  if n = 0 then (statV u, true) else if n = 2 then (u.ad, true)
  else if isReg n = true then (if (n - 16) % 4 = 2 then (descV (u.pgAt (regK n)), true) else ((u.pgAt (regK n)).b, true))
  else (0, false)
def Un.write (u : Un) (n v : Int) : Un × Bool :=
  if n = 0 then ({ u with on := decide (v % 65536 % 2 = 1), st := v % 65536 / 2 % 4 }, true) else if n = 2 then (u, true)
  else if isReg n = true then
    (if (n - 16) % 4 = 2 then (u.withP (regK n) ⟨(u.pgAt (regK n)).b, min (v % 65536 % 256) 128, min (v % 65536 / 256 % 4) 2, false⟩, true)
     else (u.withP (regK n) { u.pgAt (regK n) with b := v % 65536 % 4096 }, true))
  else (u, false)
open Classical in
noncomputable def Un.map (u : Un) (mode base blocks acc : Int) : Un × Int := if okMap mode base blocks acc then (mapGo mode.toNat acc 8 u base blocks, 0) else (Un.z, 1)
end Go.Proofs.YtlegcfjafdihlaaGreatDoor
/-
  The equality of structs and arrays of any number of cells: each equals itself. No condition.
-/
namespace Go.Proofs.YtlegcfjafdihlaaGreatDoor
open Go.RowKit
set_option linter.unusedSimpArgs false
set_option linter.unusedVariables false
set_option maxHeartbeats 1000000
set_option maxRecDepth 100000

/-- It equals itself. -/
def ReflAt (P : Program) (dd : Nat) (e : TypeId) (a : Value) : Prop := ∀ w, (Op.equalIn dd e a a).run P w = .ok true w
theorem items_refl {P : Program} {dd c : Nat} {e : TypeId} {xs : Array Value} : ∀ is : List Nat, (∀ i ∈ is, ∃ a, (∀ w, (part e xs (i * c)).run P w = .ok a w) ∧ ReflAt P dd e a) → ∀ w, (Op.eqItems dd e c xs xs is).run P w = .ok true w
  | [], _, w => by simp [Op.eqItems]
  | i :: is, h, w => by
    obtain ⟨a, h1, h2⟩ := h i List.mem_cons_self
    have ih := items_refl is (fun j hj => h j (List.mem_cons_of_mem _ hj)) w
    simp only [Op.eqItems, Sem.run_bind, h1, h2 w, Result.andThen_ok, Bool.not_true, Bool.false_eq_true, if_false]
    exact ih
theorem fields_refl {P : Program} {dd : Nat} {xs : Array Value} : ∀ fs : List Field, (∀ f ∈ fs, ∃ a, (∀ w, (part f.type xs f.offset).run P w = .ok a w) ∧ ReflAt P dd f.type a) → ∀ w, (Op.eqFields dd xs xs fs).run P w = .ok true w
  | [], _, w => by simp [Op.eqFields]
  | f :: fs, h, w => by
    obtain ⟨a, h1, h2⟩ := h f List.mem_cons_self
    have ih := fields_refl fs (fun j hj => h j (List.mem_cons_of_mem _ hj)) w
    by_cases hn : f.name ≠ "_"
    · simp only [Op.eqFields, if_pos hn, Sem.run_bind, h1, h2 w, Result.andThen_ok, Bool.not_true, Bool.false_eq_true, if_false]
      exact ih
    · simp only [Op.eqFields, if_neg hn]
      exact ih
theorem part_agg {P : Program} {e : TypeId} {n off : Nat} {xs : Array Value} (hagg : ∀ w, (isAgg e).run P w = .ok true w) (hsz : ∀ w, (sizeOf e).run P w = .ok n w) (w : World) : (part e xs off).run P w = .ok (.agg (xs.extract off (off + n))) w := by
  unfold part
  simp only [Sem.run_bind, hagg, hsz, Result.andThen_ok, if_true, Sem.run_pure]
theorem part_cell {P : Program} {e : TypeId} {off : Nat} {xs : Array Value} {v : Value} (hagg : ∀ w, (isAgg e).run P w = .ok false w) (hx : xs[off]? = some v) (w : World) : (part e xs off).run P w = .ok v w := by
  unfold part
  simp only [Sem.run_bind, hagg, Result.andThen_ok, Bool.false_eq_true, if_false, hx, Sem.run_pure]
theorem int_refl (d : Nat) (x : Int) : ReflAt Tryz.prog (d + 1) 3 (.int .i64 x) := fun w => by
  rw [run_equalIn_int (P := Tryz.prog) w d 3 .i64 .i64 x x Tryz.underlying3]; simp
theorem bool_refl (d : Nat) (x : Bool) : ReflAt Tryz.prog (d + 1) 4 (.bool x) := fun w => by
  rw [run_equalIn_bool' (P := Tryz.prog) w d 4 x x Tryz.underlying4]; simp
theorem int_cell_9 (w : World) : (isAgg 3).run Tryz.prog w = .ok false w := by kernel_rfl
theorem bool_cell_9 (w : World) : (isAgg 4).run Tryz.prog w = .ok false w := by kernel_rfl
theorem page_fields : (Tryz.prog.fieldsOf 33).toList.map (fun f => (f.type, f.offset)) = [(3, 0), (3, 1), (3, 2), (4, 3)] := by kernel_rfl
theorem page_refl (d : Nat) (p : Pg) : ReflAt Tryz.prog (d + 2) 33 (.agg p.L.toArray) := fun w => by
  rw [run_equalIn_struct (P := Tryz.prog) w (d + 1) 33 _ _ (by kernel_rfl) (by kernel_rfl)]
  refine fields_refl _ (fun f hf => ?_) w
  have hm : (f.type, f.offset) ∈ (Tryz.prog.fieldsOf 33).toList.map (fun f => (f.type, f.offset)) := List.mem_map_of_mem hf
  rw [page_fields] at hm
  simp only [List.mem_cons, List.not_mem_nil, or_false, Prod.mk.injEq] at hm
  rcases hm with ⟨h1, h2⟩ | ⟨h1, h2⟩ | ⟨h1, h2⟩ | ⟨h1, h2⟩
  all_goals rw [h1, h2]
  · exact ⟨_, part_cell int_cell_9 (show p.L.toArray[0]? = some (.int .i64 p.b) from rfl), int_refl d p.b⟩
  · exact ⟨_, part_cell int_cell_9 (show p.L.toArray[1]? = some (.int .i64 p.l) from rfl), int_refl d p.l⟩
  · exact ⟨_, part_cell int_cell_9 (show p.L.toArray[2]? = some (.int .i64 p.a) from rfl), int_refl d p.a⟩
  · exact ⟨_, part_cell bool_cell_9 (show p.L.toArray[3]? = some (.bool p.r) from rfl), bool_refl d p.r⟩

/-! ### Arrays of pages -/
theorem flat_drop_9 : ∀ (a : Nat) (l : List Pg), (l.flatMap Pg.L).drop (4 * a) = (l.drop a).flatMap Pg.L
  | 0, l => by simp
  | a + 1, [] => by simp
  | a + 1, p :: r => by
    rw [List.flatMap_cons, show 4 * (a + 1) = p.L.length + 4 * a by show _ = 4 + 4 * a; omega, ← List.drop_drop, List.drop_left, flat_drop_9 a r, List.drop_succ_cons]
theorem flat_take_9 : ∀ (a : Nat) (l : List Pg), (l.flatMap Pg.L).take (4 * a) = (l.take a).flatMap Pg.L
  | 0, l => by simp
  | a + 1, [] => by simp
  | a + 1, p :: r => by
    rw [List.flatMap_cons, show 4 * (a + 1) = p.L.length + 4 * a by show _ = 4 + 4 * a; omega, List.take_length_add_append, flat_take_9 a r, List.take_succ_cons, List.flatMap_cons]
theorem flat_extract (l : List Pg) (a n : Nat) : (l.flatMap Pg.L).toArray.extract (4 * a) (4 * a + 4 * n) = (((l.drop a).take n).flatMap Pg.L).toArray := by
  rw [List.extract_toArray, List.extract_eq_take_drop, Nat.add_sub_cancel_left, flat_drop_9, flat_take_9]
theorem agg23 (w : World) : (isAgg 33).run Tryz.prog w = .ok true w := by kernel_rfl
theorem siz23 (w : World) : (sizeOf 33).run Tryz.prog w = .ok 4 w := by kernel_rfl
theorem agg24 (w : World) : (isAgg 34).run Tryz.prog w = .ok true w := by kernel_rfl
theorem siz24 (w : World) : (sizeOf 34).run Tryz.prog w = .ok 32 w := by kernel_rfl
theorem agg25 (w : World) : (isAgg 35).run Tryz.prog w = .ok true w := by kernel_rfl
theorem siz25 (w : World) : (sizeOf 35).run Tryz.prog w = .ok 64 w := by kernel_rfl
theorem mode_refl (d : Nat) (l : List Pg) (hl : l.length = 8) : ReflAt Tryz.prog (d + 3) 34 (.agg (l.flatMap Pg.L).toArray) := fun w => by
  obtain ⟨i, hi⟩ : ∃ i, Tryz.prog.info? 33 = some i := Option.isSome_iff_exists.1 (by kernel_rfl)
  rw [run_equalIn_array (P := Tryz.prog) w (d + 2) _ _ Tryz.underlying34 hi]
  refine items_refl _ (fun k hk => ?_) w
  have hk8 : k < l.length := by rw [hl]; exact List.mem_range.1 hk
  refine ⟨_, fun w => part_agg agg23 siz23 w, ?_⟩
  rw [show Tryz.prog.cellsOf 33 = 4 by kernel_rfl]
  have e := flat_extract l k 1
  rw [Nat.mul_one, Nat.mul_comm 4 k] at e
  rw [e, List.take_one, List.head?_drop, List.getElem?_eq_getElem hk8]
  have q := page_refl d l[k]
  simpa using q
theorem pages_refl (d : Nat) (l : List Pg) (hl : l.length = 16) : ReflAt Tryz.prog (d + 4) 35 (.agg (l.flatMap Pg.L).toArray) := fun w => by
  obtain ⟨i, hi⟩ : ∃ i, Tryz.prog.info? 34 = some i := Option.isSome_iff_exists.1 (by kernel_rfl)
  rw [run_equalIn_array (P := Tryz.prog) w (d + 3) _ _ Tryz.underlying35 hi]
  refine items_refl _ (fun k hk => ?_) w
  have hk2 : k < 2 := List.mem_range.1 hk
  refine ⟨_, fun w => part_agg agg24 siz24 w, ?_⟩
  rw [show Tryz.prog.cellsOf 34 = 32 by kernel_rfl]
  have e := flat_extract l (8 * k) 8
  rw [show 4 * (8 * k) = k * 32 by omega] at e
  rw [e]
  exact mode_refl d _ (by rw [List.length_take, List.length_drop]; omega)
theorem unit_fields : (Tryz.prog.fieldsOf 37).toList.map (fun f => (f.type, f.offset)) = [(4, 0), (35, 1), (3, 65), (3, 66)] := by kernel_rfl
theorem Un.pages {u : Un} (h : u.ok) : u.L.toArray.extract 1 (1 + 64) = (u.pg.flatMap Pg.L).toArray := by
  have hl := flat_len u.pg
  rw [show u.pg.length = 16 from h] at hl
  rw [List.extract_toArray, List.extract_eq_take_drop]
  unfold Un.L
  rw [List.drop_succ_cons, List.drop_zero, List.take_append_of_le_length (by omega), List.take_of_length_le (by omega)]
theorem unit_refl (d : Nat) (u : Un) (hu : u.ok) : ReflAt Tryz.prog (d + 5) 37 (.agg u.L.toArray) := fun w => by
  rw [run_equalIn_struct (P := Tryz.prog) w (d + 4) 37 _ _ (by kernel_rfl) (by kernel_rfl)]
  refine fields_refl _ (fun f hf => ?_) w
  have hm : (f.type, f.offset) ∈ (Tryz.prog.fieldsOf 37).toList.map (fun f => (f.type, f.offset)) := List.mem_map_of_mem hf
  rw [unit_fields] at hm
  simp only [List.mem_cons, List.not_mem_nil, or_false, Prod.mk.injEq] at hm
  rcases hm with ⟨h1, h2⟩ | ⟨h1, h2⟩ | ⟨h1, h2⟩ | ⟨h1, h2⟩
  all_goals rw [h1, h2]
  · exact ⟨_, part_cell bool_cell_9 (by simpa using Un.at0 u), bool_refl (d + 3) u.on⟩
  · refine ⟨_, fun w => part_agg agg25 siz25 w, ?_⟩
    rw [Un.pages hu]
    exact pages_refl d u.pg hu
  · exact ⟨_, part_cell int_cell_9 (by simpa using Un.at65 hu), int_refl (d + 3) u.st⟩
  · exact ⟨_, part_cell int_cell_9 (by simpa using Un.at66 hu), int_refl (d + 3) u.ad⟩
/-- As the walk asks it. -/
theorem unit_eq (u : Un) (hu : u.ok) (w : World) : (Op.equalIn 10000 37 (.agg u.L.toArray) (.agg u.L.toArray)).run Tryz.prog w = .ok true w := unit_refl 9995 u hu w
end Go.Proofs.YtlegcfjafdihlaaGreatDoor
