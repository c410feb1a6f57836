import Derived.Test.YtlegcfjafdihlaaGreatDoorZR01
import Derived.Laws.StructEq
import Derived.ChangeKeysEq
import Derived.KernelRfl
import Derived.Test.YtlegcfjafdihlaaGreatDoorZR03
import Derived.Test.YtlegcfjafdihlaaGreatDoorZR02
/-
  The equality of structs and arrays of any number of cells: each equals itself. No condition.
-/
namespace Go.Proofs.YtlegcfjafdihlaaGreatDoor
open Go.RowKit
set_option linter.unusedSimpArgs false
set_option linter.unusedVariables false
set_option maxHeartbeats 1000000
set_option maxRecDepth 100000

/-- It equals itself. -/
def ReflAt (P : Program) (dd : Nat) (e : TypeId) (a : Value) : Prop := ∀ w, (Op.equalIn dd e a a).run P w = .ok true w
theorem items_refl {P : Program} {dd c : Nat} {e : TypeId} {xs : Array Value} : ∀ is : List Nat, (∀ i ∈ is, ∃ a, (∀ w, (part e xs (i * c)).run P w = .ok a w) ∧ ReflAt P dd e a) → ∀ w, (Op.eqItems dd e c xs xs is).run P w = .ok true w
  | [], _, w => by simp [Op.eqItems]
  | i :: is, h, w => by
    obtain ⟨a, h1, h2⟩ := h i List.mem_cons_self
    have ih := items_refl is (fun j hj => h j (List.mem_cons_of_mem _ hj)) w
    simp only [Op.eqItems, Sem.run_bind, h1, h2 w, Result.andThen_ok, Bool.not_true, Bool.false_eq_true, if_false]
    exact ih
theorem fields_refl {P : Program} {dd : Nat} {xs : Array Value} : ∀ fs : List Field, (∀ f ∈ fs, ∃ a, (∀ w, (part f.type xs f.offset).run P w = .ok a w) ∧ ReflAt P dd f.type a) → ∀ w, (Op.eqFields dd xs xs fs).run P w = .ok true w
  | [], _, w => by simp [Op.eqFields]
  | f :: fs, h, w => by
    obtain ⟨a, h1, h2⟩ := h f List.mem_cons_self
    have ih := fields_refl fs (fun j hj => h j (List.mem_cons_of_mem _ hj)) w
    by_cases hn : f.name ≠ "_"
    · simp only [Op.eqFields, if_pos hn, Sem.run_bind, h1, h2 w, Result.andThen_ok, Bool.not_true, Bool.false_eq_true, if_false]
      exact ih
    · simp only [Op.eqFields, if_neg hn]
      exact ih
theorem part_agg {P : Program} {e : TypeId} {n off : Nat} {xs : Array Value} (hagg : ∀ w, (isAgg e).run P w = .ok true w) (hsz : ∀ w, (sizeOf e).run P w = .ok n w) (w : World) : (part e xs off).run P w = .ok (.agg (xs.extract off (off + n))) w := by
  unfold part
  simp only [Sem.run_bind, hagg, hsz, Result.andThen_ok, if_true, Sem.run_pure]
theorem part_cell {P : Program} {e : TypeId} {off : Nat} {xs : Array Value} {v : Value} (hagg : ∀ w, (isAgg e).run P w = .ok false w) (hx : xs[off]? = some v) (w : World) : (part e xs off).run P w = .ok v w := by
  unfold part
  simp only [Sem.run_bind, hagg, Result.andThen_ok, Bool.false_eq_true, if_false, hx, Sem.run_pure]
theorem int_refl (d : Nat) (x : Int) : ReflAt Tryz.prog (d + 1) 3 (.int .i64 x) := fun w => by
  rw [run_equalIn_int (P := Tryz.prog) w d 3 .i64 .i64 x x Tryz.underlying3]; simp
theorem int_cell_9 (w : World) : (isAgg 3).run Tryz.prog w = .ok false w := by kernel_rfl
theorem flat_drop_9 : ∀ (a : Nat) (l : List Pg), (l.flatMap Pg.L).drop (4 * a) = (l.drop a).flatMap Pg.L
  | 0, l => by simp
  | a + 1, [] => by simp
  | a + 1, p :: r => by
    rw [List.flatMap_cons, show 4 * (a + 1) = p.L.length + 4 * a by show _ = 4 + 4 * a; omega, ← List.drop_drop, List.drop_left, flat_drop_9 a r, List.drop_succ_cons]
theorem flat_take_9 : ∀ (a : Nat) (l : List Pg), (l.flatMap Pg.L).take (4 * a) = (l.take a).flatMap Pg.L
  | 0, l => by simp
  | a + 1, [] => by simp
  | a + 1, p :: r => by
    rw [List.flatMap_cons, show 4 * (a + 1) = p.L.length + 4 * a by show _ = 4 + 4 * a; omega, List.take_length_add_append, flat_take_9 a r, List.take_succ_cons, List.flatMap_cons]
theorem Un.pages {u : Un} (h : u.ok) : u.L.toArray.extract 1 (1 + 64) = (u.pg.flatMap Pg.L).toArray := by
  have hl := flat_len u.pg
  rw [show u.pg.length = 16 from h] at hl
  rw [List.extract_toArray, List.extract_eq_take_drop]
  unfold Un.L
  rw [List.drop_succ_cons, List.drop_zero, List.take_append_of_le_length (by omega), List.take_of_length_le (by omega)]
end Go.Proofs.YtlegcfjafdihlaaGreatDoor
/-
  The small calls of package mmu: numbers, pages, pointers to pages. No condition but that pages are valid where it is said.
-/
namespace Go.Proofs.YtlegcfjafdihlaaGreatDoor
open Go.RowKit
set_option linter.unusedSimpArgs false
set_option linter.unusedVariables false
set_option maxHeartbeats 4000000
set_option maxRecDepth 100000
attribute [local irreducible] wpQuiet

def inB (n g : Int) : Bool := decide (0 ≤ n) && decide (n ≤ g)
theorem within_any_9 (n g : Int) (w : World) : Calls Tryz.prog 273 #[.int .i64 n, .int .i64 g] w fun e w' => e = .returned (.bool (inB n g)) ∧ w = w' := by
  unfold inB
  by_cases h : 0 ≤ n
  · rw [decide_eq_true h, Bool.true_and]
    have h2 : decide (0 ≤ n) = true := decide_eq_true h
    go_enter Tryz.func273, Tryz.ntmps273
    go_wp2
    go_ret
    exact ⟨rfl, rfl⟩
  · rw [decide_eq_false h, Bool.false_and]
    have h2 : decide (0 ≤ n) = false := decide_eq_false h
    go_enter Tryz.func273, Tryz.ntmps273
    go_wp2
    go_ret
    exact ⟨rfl, rfl⟩
end Go.Proofs.YtlegcfjafdihlaaGreatDoor
/-
  The calls of package mmu that take a page or a unit and change nothing else: rightPage, status, descriptor, mappable, Reset. Conditions: valid numbers where it is said.
-/
namespace Go.Proofs.YtlegcfjafdihlaaGreatDoor
open Go.RowKit
set_option linter.unusedSimpArgs false
set_option linter.unusedVariables false
set_option maxHeartbeats 4000000
set_option maxRecDepth 100000
attribute [local irreducible] wpQuiet

theorem right_page (g : Pg) (w : World) : Calls Tryz.prog 272 #[.agg g.L.toArray] w fun e w' => e = .returned (.bool g.good) ∧ Below w.heap.size w w' := by
  obtain ⟨b, l, a, r⟩ := g
  have hB : Below w.heap.size w (w.alloc (.cells #[.int .i64 b, .int .i64 l, .int .i64 a, .bool r] 33)) := (Below.refl _ _).alloc (Nat.le_refl _) _
  have hb := fun w => within_any_9 b 4095 w
  have hl := fun w => within_any_9 l 128 w
  have ha := fun w => within_any_9 a 2 w
  have e : Pg.good ⟨b, l, a, r⟩ = (inB b 4095 && (inB l 128 && inB a 2)) := by simp only [Pg.good, inB, Bool.and_assoc]
  rw [e]
  generalize inB b 4095 = q1 at *
  generalize inB l 128 = q2 at *
  generalize inB a 2 = q3 at *
  clear e
  show Calls Tryz.prog 272 #[.agg #[.int .i64 b, .int .i64 l, .int .i64 a, .bool r]] w _
  cases q1
  · go_enter Tryz.func272, Tryz.ntmps272
    go_wp2_with (first | (go_at_call 273; first | (with_reducible refine (hb _).mono ?_; rintro e w' ⟨rfl, rfl⟩) | (with_reducible refine (hl _).mono ?_; rintro e w' ⟨rfl, rfl⟩) | (with_reducible refine (ha _).mono ?_; rintro e w' ⟨rfl, rfl⟩)))
    go_ret
    exact ⟨rfl, hB⟩
  · cases q2
    · go_enter Tryz.func272, Tryz.ntmps272
      go_wp2_with (first | (go_at_call 273; first | (with_reducible refine (hb _).mono ?_; rintro e w' ⟨rfl, rfl⟩) | (with_reducible refine (hl _).mono ?_; rintro e w' ⟨rfl, rfl⟩) | (with_reducible refine (ha _).mono ?_; rintro e w' ⟨rfl, rfl⟩)))
      go_ret
      exact ⟨rfl, hB⟩
    · go_enter Tryz.func272, Tryz.ntmps272
      go_wp2_with (first | (go_at_call 273; first | (with_reducible refine (hb _).mono ?_; rintro e w' ⟨rfl, rfl⟩) | (with_reducible refine (hl _).mono ?_; rintro e w' ⟨rfl, rfl⟩) | (with_reducible refine (ha _).mono ?_; rintro e w' ⟨rfl, rfl⟩)))
      go_ret
      exact ⟨rfl, hB⟩

end Go.Proofs.YtlegcfjafdihlaaGreatDoor
/-
  Right and Reset of package mmu. No condition but that the pages are sixteen.
-/
namespace Go.Proofs.YtlegcfjafdihlaaGreatDoor
open Go.RowKit
set_option linter.unusedSimpArgs false
set_option linter.unusedVariables false
set_option maxHeartbeats 4000000
set_option maxRecDepth 100000
attribute [local irreducible] wpQuiet

theorem page_one (g : Pg) : ∀ v ∈ g.L, v.oneCell' = true := by
  intro v h
  simp [Pg.L] at h
  rcases h with rfl | rfl | rfl | rfl <;> rfl
theorem flat_one_9 (l : List Pg) : ∀ v ∈ l.flatMap Pg.L, v.oneCell' = true := by
  intro v h
  obtain ⟨p, _, h⟩ := List.mem_flatMap.1 h
  exact page_one p v h
def Z8 : List Value := (List.replicate 8 Pg.z).flatMap Pg.L
theorem zero_mode (w : World) : (zeroValue 34).run Tryz.prog w = .ok (.agg Z8.toArray) w := by kernel_rfl
theorem zero_pg (w : World) : (zeroValue 33).run Tryz.prog w = .ok (.agg Pg.z.L.toArray) w := by kernel_rfl
theorem agg_mode (w : World) : (isAgg 34).run Tryz.prog w = .ok true w := by kernel_rfl
theorem siz_mode (w : World) : (sizeOf 34).run Tryz.prog w = .ok 32 w := by kernel_rfl
theorem agg_modes (w : World) : (isAgg 35).run Tryz.prog w = .ok true w := by kernel_rfl
theorem siz_modes (w : World) : (sizeOf 35).run Tryz.prog w = .ok 64 w := by kernel_rfl
theorem agg_pg (w : World) : (isAgg 33).run Tryz.prog w = .ok true w := by kernel_rfl
theorem siz_pg (w : World) : (sizeOf 33).run Tryz.prog w = .ok 4 w := by kernel_rfl
theorem Un.tail_in (u : Un) : u.tail = (inB u.st 3 && inB u.ad 65535) := by
  have e : decide (u.ad < 65536) = decide (u.ad ≤ 65535) := decide_eq_decide.2 (by omega)
  simp only [Un.tail, inB, e, Bool.and_assoc]
theorem Un.modes {u : Un} (hu : u.ok) : ∀ j v, (u.pg.flatMap Pg.L)[j]? = some v → u.L[1 + j]? = some v := by
  intro j v h
  have hj := (List.getElem?_eq_some_iff.1 h).1
  rw [Nat.add_comm, Un.L, List.getElem?_cons_succ, List.getElem?_append_left hj]; exact h
theorem mode_len {u : Un} (hu : u.ok) {m : Nat} (hm : m < 2) : ((u.pg.drop (8 * m)).take 8).length = 8 := by
  have : u.pg.length = 16 := hu
  rw [List.length_take, List.length_drop]; omega

theorem right_any_9 (u : Un) (hu : u.ok) (W0 : World) : Calls Tryz.prog 265 #[.agg u.L.toArray] W0 fun e w' => e = .returned (.bool u.right) ∧ Below W0.heap.size W0 w' := by
  have hX := One.put u W0
  have hl16 : u.pg.length = 16 := hu
  obtain ⟨Q, hQ⟩ : ∃ Q, Hid_9 (Q = u.right) := ⟨_, rfl⟩
  rw [← show Q = u.right from hQ]
  have h65 := Un.at65 hu
  have h66 := Un.at66 hu
  have hz8 := zero_mode
  have hzp := zero_pg
  have hlZ : Z8.length = 32 := by decide
  have hlP : Pg.z.L.length = 4 := rfl
  have hw1 := fun w => within_any_9 u.st 3 w
  have hw2 := fun w => within_any_9 u.ad 65535 w
  have hrp := fun g w => right_page g w
  have hldP := (hX.b.loadAtSub (P := Tryz.prog) (T := 35) (k := 1) (n := 64) (Un.modes hu) (by rw [flat_len, hl16]) agg_modes siz_modes)
  generalize Z8 = Z8 at *
  generalize Pg.z.L = ZP at *
  obtain ⟨M, hM⟩ : ∃ M, Hid_9 (u.pg.flatMap Pg.L = M) := ⟨_, rfl⟩
  rw [show u.pg.flatMap Pg.L = M from hM] at hldP
  go_enter Tryz.func265, Tryz.ntmps265
  go_wp2_with (first | (refine wpList_load_run rfl 35 _ _ (.agg M.toArray) rfl rfl hldP ?_))
  go_loopw [9] (fun i wr => ∃ m : Nat, m ≤ 2 ∧ i = .int .i64 m ∧ One W0.heap.size u W0 wr ∧ Hid_9 (Q = ((u.pg.drop (8 * m)).all Pg.good && u.tail)))
    (fun i _ => 2 - (intOf i).toNat)
  case atStart => exact ⟨0, by decide, rfl, hX, hQ⟩
  case round =>
    clear hX hQ hldP
    obtain ⟨m, hm, rfl, hX, hQ⟩ := hrel
    by_cases hm2 : m < 2
    · obtain ⟨N, hN⟩ : ∃ N, Hid_9 (((u.pg.drop (8 * m)).take 8).flatMap Pg.L = N) := ⟨_, rfl⟩
      have hNl : N.length = 32 := by rw [← show _ = N from hN, flat_len, mode_len hu hm2]
      have hN1 : ∀ v ∈ N, v.oneCell' = true := by rw [← show _ = N from hN]; exact flat_one_9 _
      have hidx := fun w => run_index_agg (P := Tryz.prog) (t := 35) (e := 34) (w := w) (n := 2) (c := 32) (cs := M) (ds := N) m Tryz.underlying35 hm2 agg_mode siz_mode (by
        rw [← show _ = M from hM, ← show _ = N from hN, show m * 32 = 4 * (8 * m) by omega, flat_drop_9, show 32 = 4 * 8 by rfl, flat_take_9])
      go_wp2_with (first | (refine wpList_index_run rfl 35 _ _ (.agg M.toArray) (.int .i64 m) (.agg N.toArray) rfl rfl rfl (hidx _) ?_) | (refine wpList_store_run rfl rfl 34 _ _ _ N rfl rfl rfl agg_mode (by rw [hNl]; exact siz_mode) (run_store_new _ Z8 N (by rw [hNl, hlZ]) hN1) ?_) | (refine wpList_load_run rfl 34 _ _ (.agg N.toArray) rfl rfl ((Blk.new 34 _ N).loadAt hNl agg_mode siz_mode) ?_))
      have hY := hX.step ((Below.refl wr.heap.size wr).alloc (Nat.le_refl _) (.cells N.toArray 34))
      clear hX
      generalize wr.alloc (.cells N.toArray 34) = wa at *
      go_loopw [13] (fun i wq => ∃ p : Nat, p ≤ 8 ∧ i = .int .i64 p ∧ One W0.heap.size u W0 wq ∧ Hid_9 (Q = ((u.pg.drop (8 * m + p)).all Pg.good && u.tail)))
        (fun i _ => 8 - (intOf i).toNat)
      case atStart => exact ⟨0, by decide, rfl, hY, hQ⟩
      case round =>
        clear hY hQ
        obtain ⟨p, hp, rfl, hX, hQ⟩ := hrel
        by_cases hp8 : p < 8
        · obtain ⟨g, hg⟩ : ∃ g, u.pg[8 * m + p]? = some g := ⟨_, List.getElem?_eq_getElem (by omega)⟩
          have hd := all_drop hg
          have hpx := fun w => run_index_agg (P := Tryz.prog) (t := 34) (e := 33) (w := w) (n := 8) (c := 4) (cs := N) (ds := g.L) p Tryz.underlying34 hp8 agg_pg siz_pg (by
            rw [← show _ = N from hN, show p * 4 = 4 * p by omega, flat_drop_9, show (4 : Nat) = 4 * 1 by rfl, flat_take_9]
            rw [List.drop_take, List.drop_drop, List.take_take, Nat.min_eq_left (by omega), List.drop_eq_getElem_cons (by omega), List.take_succ_cons, List.take_zero, (List.getElem?_eq_some_iff.1 hg).2]
            simp)
          have hgl : g.L.length = 4 := rfl
          have hg1 := page_one g
          have hY := hX.step ((Below.refl wr.heap.size wr).alloc (Nat.le_refl _) (.cells g.L.toArray 33))
          have hrg := fun w => hrp g w
          obtain ⟨G, hG⟩ : ∃ G, Hid_9 (g.L = G) := ⟨_, rfl⟩
          rw [show g.L = G from hG] at hpx hgl hg1 hY hrg
          replace hd := hid_9 hd
          replace hg := hid_9 hg
          have hgg : ∃ b, g.good = b := ⟨_, rfl⟩
          obtain ⟨bg, hgg⟩ := hgg
          rw [hgg] at hrg
          replace hgg := hid_9 hgg
          clear hX
          cases bg
          · have hQ : Hid_9 (Q = false) := by
              show _ = _
              rw [show Q = _ from hQ, show _ = _ from hd, show g.good = false from hgg]; rfl
            go_wp2_with (first | (go_at_call 272; with_reducible refine (hrg _).mono ?_; rintro e w' ⟨rfl, hb⟩; have hY := hY.step hb) | (refine wpList_index_run rfl 34 _ _ (.agg N.toArray) (.int .i64 p) (.agg G.toArray) rfl rfl rfl (hpx _) ?_) | (refine wpList_store_run rfl rfl 33 _ _ _ G rfl rfl rfl agg_pg (by rw [hgl]; exact siz_pg) (run_store_new _ ZP G (by rw [hgl, hlP]) hg1) ?_) | (refine wpList_load_run rfl 33 _ _ (.agg G.toArray) rfl rfl ((Blk.new 33 _ G).loadAt hgl agg_pg siz_pg) ?_))
            go_ret
            exact ⟨ret_bool_9 (by rw [show Q = false from hQ]), hY.below⟩
          · have hQ : Hid_9 (Q = ((u.pg.drop (8 * m + (p + 1))).all Pg.good && u.tail)) := by
              show _ = _
              rw [show Q = _ from hQ, show _ = _ from hd, show g.good = true from hgg, Bool.true_and]
              rfl
            go_wp2_with (first | (go_at_call 272; with_reducible refine (hrg _).mono ?_; rintro e w' ⟨rfl, hb⟩; have hY := hY.step hb) | (refine wpList_index_run rfl 34 _ _ (.agg N.toArray) (.int .i64 p) (.agg G.toArray) rfl rfl rfl (hpx _) ?_) | (refine wpList_store_run rfl rfl 33 _ _ _ G rfl rfl rfl agg_pg (by rw [hgl]; exact siz_pg) (run_store_new _ ZP G (by rw [hgl, hlP]) hg1) ?_) | (refine wpList_load_run rfl 33 _ _ (.agg G.toArray) rfl rfl ((Blk.new 33 _ G).loadAt hgl agg_pg siz_pg) ?_))
            go_round
            case rel => exact ⟨p + 1, by omega, by go_num, hY, hQ⟩
            case measure => simp [intOf]; omega
        · obtain rfl : p = 8 := by omega
          go_wp2
          go_round
          case rel => exact ⟨m + 1, by omega, by go_num, hX, hQ⟩
          case measure => simp [intOf]; omega
    · obtain rfl : m = 2 := by omega
      have hQ : Hid_9 (Q = (inB u.st 3 && inB u.ad 65535)) := by
        show _ = _
        rw [show Q = _ from hQ, List.drop_eq_nil_of_le (by omega), ← Un.tail_in]
        rfl
      have c65 := hX.b.cell h65
      have c66 := hX.b.cell h66
      have hB := hX.below
      generalize u.st = s at *
      generalize u.ad = d at *
      generalize inB s 3 = q1 at *
      generalize inB d 65535 = q2 at *
      cases q1
      · have hQ : Hid_9 (Q = false) := hQ
        go_wp2_with (first | (go_at_call 273; first | (with_reducible refine (hw1 _).mono ?_; rintro e w' ⟨rfl, rfl⟩) | (with_reducible refine (hw2 _).mono ?_; rintro e w' ⟨rfl, rfl⟩)))
        go_ret
        exact ⟨ret_bool_9 (by rw [show Q = false from hQ]), hB⟩
      · have hQ : Hid_9 (Q = q2) := hQ
        go_wp2_with (first | (go_at_call 273; first | (with_reducible refine (hw1 _).mono ?_; rintro e w' ⟨rfl, rfl⟩) | (with_reducible refine (hw2 _).mono ?_; rintro e w' ⟨rfl, rfl⟩)))
        go_ret
        exact ⟨ret_bool_9 (by rw [show Q = q2 from hQ]), hB⟩
end Go.Proofs.YtlegcfjafdihlaaGreatDoor
