import Derived.Test.YtlegcfjafdihlaaGreatDoorZC12
import Derived.Laws.DeepStrings4
import Derived.Lib.Strings
import Derived.Lib.IndexBytes
import Derived.Lib.UnsafeStr
import Derived.Laws.IdiomStrings
import Derived.Test.YtlegcfjafdihlaaGreatDoorZC10
import Derived.Test.YtlegcfjafdihlaaGreatDoorZC11
import Derived.Test.YtlegcfjafdihlaaGreatDoorZC05
import Derived.Test.YtlegcfjafdihlaaGreatDoorZC06
import Derived.Test.YtlegcfjafdihlaaGreatDoorZC04
import Derived.Test.YtlegcfjafdihlaaGreatDoorZC08
/-
  Walks over Bytes of package memory and of its reference. Condition: lists have at most 2^40 elements.
-/
namespace Go.Proofs.YtlegcfjafdihlaaGreatDoor
open Go.RowKit
set_option maxRecDepth 100000
set_option linter.unusedSimpArgs false
set_option linter.unusedVariables false
set_option maxHeartbeats 1000000
attribute [local irreducible] wpQuiet

/-- Byte j, as a cell. -/
def b8 (l : List Int) (a j : Nat) : Value := .int .u8 (byteN l (a + j))
end Go.Proofs.YtlegcfjafdihlaaGreatDoor
/-
  cleared, spoilt, write of the reference. Condition: addresses are words; the head is on the tape.
-/
namespace Go.Proofs.YtlegcfjafdihlaaGreatDoor
open Go.RowKit
set_option linter.unusedSimpArgs false
set_option linter.unusedVariables false
set_option maxHeartbeats 4000000
set_option maxRecDepth 100000
attribute [local irreducible] wpQuiet

theorem bag_lt {B : Nat} {t : TypeId} {cs : List Value} {l : List (Nat × TypeId × List Value)} {w0 w : World} (h : Bag ((B, t, cs) :: l) w0 w) : B < w.heap.size := (h.all _ _ _ (.head _)).lt
end Go.Proofs.YtlegcfjafdihlaaGreatDoor
/-
  Results of a unit are valid, and the memory stays so: plain. The contracts of package tape over a world. No condition.
-/
namespace Go.Proofs.YtlegcfjafdihlaaGreatDoor
open Go.RowKit
set_option linter.unusedSimpArgs false
set_option linter.unusedVariables false
set_option maxHeartbeats 4000000
set_option maxRecDepth 100000
attribute [local irreducible] wpQuiet

/-- What a tick keeps. -/
structure KeptT (K : Tp) (m B : List Int) (T : Tp × List Int × List Int) : Prop where
  right : T.1.right = true
  mem : rightP T.2.1 T.2.2 = true
  ml : T.2.1.length = m.length
  bl : T.2.2.length ≤ B.length
theorem KeptT.refl {K K2 : Tp} {m B : List Int} (h : K2.right = true) (hm : rightP m B = true) : KeptT K m B (K2, m, B) := ⟨h, hm, rfl, Nat.le_refl _⟩
end Go.Proofs.YtlegcfjafdihlaaGreatDoor
/-
  Structs that equal themselves; SameLines, SameDisk of the reference of package save. Condition: at most 2^40 elements.
-/
namespace Go.Proofs.YtlegcfjafdihlaaGreatDoor
open Go.RowKit
set_option linter.unusedSimpArgs false
set_option linter.unusedVariables false
set_option maxHeartbeats 4000000
set_option maxRecDepth 100000
attribute [local irreducible] wpQuiet

theorem str_cell18 (w : World) : (isAgg 9).run Tryz.prog w = .ok false w := by kernel_rfl
theorem str_refl (d : Nat) (x : ByteArray) : ReflAt Tryz.prog (d + 1) 9 (.string x) := fun w => by
  rw [run_equalIn_string (P := Tryz.prog) (w := w) d 9 x x Tryz.underlying9]; simp
theorem line18_fields : (Tryz.prog.fieldsOf 83).toList.map (fun f => (f.type, f.offset)) = [(4, 0), (4, 1), (4, 2), (3, 3), (4, 4), (4, 5), (3, 6), (3, 7), (9, 8)] := by kernel_rfl
theorem line18_refl (d : Nat) (x : Ln) : ReflAt Tryz.prog (d + 2) 83 (.agg (lnL x).toArray) := fun w => by
  rw [run_equalIn_struct (P := Tryz.prog) w (d + 1) 83 _ _ (by kernel_rfl) (by kernel_rfl)]
  refine fields_refl _ (fun f hf => ?_) w
  have hm : (f.type, f.offset) ∈ (Tryz.prog.fieldsOf 83).toList.map (fun f => (f.type, f.offset)) := List.mem_map_of_mem hf
  rw [line18_fields] at hm
  simp only [List.mem_cons, List.not_mem_nil, or_false, Prod.mk.injEq] at hm
  rcases hm with ⟨h1, h2⟩ | ⟨h1, h2⟩ | ⟨h1, h2⟩ | ⟨h1, h2⟩ | ⟨h1, h2⟩ | ⟨h1, h2⟩ | ⟨h1, h2⟩ | ⟨h1, h2⟩ | ⟨h1, h2⟩
  all_goals rw [h1, h2]
  · exact ⟨_, part_cell bool_cell_9 (show (lnL x).toArray[0]? = some (.bool x.a) from rfl), bool_refl d x.a⟩
  · exact ⟨_, part_cell bool_cell_9 (show (lnL x).toArray[1]? = some (.bool x.b) from rfl), bool_refl d x.b⟩
  · exact ⟨_, part_cell bool_cell_9 (show (lnL x).toArray[2]? = some (.bool x.o) from rfl), bool_refl d x.o⟩
  · exact ⟨_, part_cell int_cell_9 (show (lnL x).toArray[3]? = some (.int .i64 x.d) from rfl), int_refl d x.d⟩
  · exact ⟨_, part_cell bool_cell_9 (show (lnL x).toArray[4]? = some (.bool x.e) from rfl), bool_refl d x.e⟩
  · exact ⟨_, part_cell bool_cell_9 (show (lnL x).toArray[5]? = some (.bool x.f) from rfl), bool_refl d x.f⟩
  · exact ⟨_, part_cell int_cell_9 (show (lnL x).toArray[6]? = some (.int .i64 x.t) from rfl), int_refl d x.t⟩
  · exact ⟨_, part_cell int_cell_9 (show (lnL x).toArray[7]? = some (.int .i64 x.l) from rfl), int_refl d x.l⟩
  · exact ⟨_, part_cell str_cell18 (show (lnL x).toArray[8]? = some (.string x.s) from rfl), str_refl d x.s⟩
theorem clock18_fields : (Tryz.prog.fieldsOf 39).toList.map (fun f => (f.type, f.offset)) = [(4, 0), (4, 1), (3, 2), (3, 3)] := by kernel_rfl
theorem clock18_refl (d : Nat) (c : Ck) : ReflAt Tryz.prog (d + 2) 39 (.agg (c.L).toArray) := fun w => by
  rw [run_equalIn_struct (P := Tryz.prog) w (d + 1) 39 _ _ (by kernel_rfl) (by kernel_rfl)]
  refine fields_refl _ (fun f hf => ?_) w
  have hm : (f.type, f.offset) ∈ (Tryz.prog.fieldsOf 39).toList.map (fun f => (f.type, f.offset)) := List.mem_map_of_mem hf
  rw [clock18_fields] at hm
  simp only [List.mem_cons, List.not_mem_nil, or_false, Prod.mk.injEq] at hm
  rcases hm with ⟨h1, h2⟩ | ⟨h1, h2⟩ | ⟨h1, h2⟩ | ⟨h1, h2⟩
  all_goals rw [h1, h2]
  · exact ⟨_, part_cell bool_cell_9 (show (c.L).toArray[0]? = some (.bool c.e) from rfl), bool_refl d c.e⟩
  · exact ⟨_, part_cell bool_cell_9 (show (c.L).toArray[1]? = some (.bool c.r) from rfl), bool_refl d c.r⟩
  · exact ⟨_, part_cell int_cell_9 (show (c.L).toArray[2]? = some (.int .i64 c.p) from rfl), int_refl d c.p⟩
  · exact ⟨_, part_cell int_cell_9 (show (c.L).toArray[3]? = some (.int .i64 c.l) from rfl), int_refl d c.l⟩
theorem line_eq18 (x : Ln) (w : World) : (Op.equalIn 10000 83 (.agg (lnL x).toArray) (.agg (lnL x).toArray)).run Tryz.prog w = .ok true w := line18_refl 9998 x w
theorem clock_eq18 (c : Ck) (w : World) : (Op.equalIn 10000 39 (.agg c.L.toArray) (.agg c.L.toArray)).run Tryz.prog w = .ok true w := clock18_refl 9998 c w
theorem ints_refl18 (d n : Nat) (T_ : TypeId) (hT : Tryz.prog.underlying T_ = some (.array n 3)) (l : List Int) (hl : l.length = n) : ReflAt Tryz.prog (d + 2) T_ (.agg (l.map (Value.int .i64)).toArray) := fun w => by
  obtain ⟨i, hi⟩ : ∃ i, Tryz.prog.info? 3 = some i := Option.isSome_iff_exists.1 (by kernel_rfl)
  rw [run_equalIn_array (P := Tryz.prog) w (d + 1) _ _ hT hi]
  refine items_refl _ (fun k hk => ?_) w
  have hk8 : k < l.length := by rw [hl]; exact List.mem_range.1 hk
  refine ⟨.int .i64 l[k], part_cell int_cell_9 ?_, int_refl d _⟩
  rw [show Tryz.prog.cellsOf 3 = 1 by kernel_rfl, Nat.mul_one]
  simp [hk8]
theorem cpu_fields : (Tryz.prog.fieldsOf 25).toList.map (fun f => (f.type, f.offset)) = [(22, 0), (23, 6), (3, 8), (3, 9)] := by kernel_rfl
theorem agg6_18 (w : World) : (isAgg 22).run Tryz.prog w = .ok true w := by kernel_rfl
theorem siz6_18 (w : World) : (sizeOf 22).run Tryz.prog w = .ok 6 w := by kernel_rfl
theorem agg2_18 (w : World) : (isAgg 23).run Tryz.prog w = .ok true w := by kernel_rfl
theorem siz2_18 (w : World) : (sizeOf 23).run Tryz.prog w = .ok 2 w := by kernel_rfl
theorem cpu_eq18 (c : List Int) (hc : c.length = 10) (w : World) : (Op.equalIn 10000 25 (.agg (c.map (Value.int .i64)).toArray) (.agg (c.map (Value.int .i64)).toArray)).run Tryz.prog w = .ok true w := by
  rw [run_equalIn_struct (P := Tryz.prog) w 9999 25 _ _ (by kernel_rfl) (by kernel_rfl)]
  refine fields_refl _ (fun f hf => ?_) w
  have hm : (f.type, f.offset) ∈ (Tryz.prog.fieldsOf 25).toList.map (fun f => (f.type, f.offset)) := List.mem_map_of_mem hf
  rw [cpu_fields] at hm
  simp only [List.mem_cons, List.not_mem_nil, or_false, Prod.mk.injEq] at hm
  have ex : ∀ a n, a + n ≤ 10 → (c.map (Value.int .i64)).toArray.extract a (a + n) = (((c.drop a).take n).map (Value.int .i64)).toArray := fun a n _ => by
    rw [List.extract_toArray, List.extract_eq_take_drop, Nat.add_sub_cancel_left, List.map_take, List.map_drop]
  rcases hm with ⟨h1, h2⟩ | ⟨h1, h2⟩ | ⟨h1, h2⟩ | ⟨h1, h2⟩
  all_goals rw [h1, h2]
  · refine ⟨_, fun w => part_agg agg6_18 siz6_18 w, ?_⟩
    rw [ex 0 6 (by omega)]
    exact ints_refl18 9997 6 _ Tryz.underlying22 _ (by rw [List.length_take, List.length_drop]; omega)
  · refine ⟨_, fun w => part_agg agg2_18 siz2_18 w, ?_⟩
    rw [ex 6 2 (by omega)]
    exact ints_refl18 9997 2 _ Tryz.underlying23 _ (by rw [List.length_take, List.length_drop]; omega)
  · exact ⟨.int .i64 (c[8]'(by omega)), part_cell int_cell_9 (by simp [hc]), int_refl 9998 _⟩
  · exact ⟨.int .i64 (c[9]'(by omega)), part_cell int_cell_9 (by simp [hc]), int_refl 9998 _⟩
theorem rsameLn_any (l : List Ln) (hl : l.length ≤ 1099511627776) (v v2 : Value) (w : World) (h1 : Lns w v l) (h2 : Lns w v2 l) : Calls Tryz.prog 88 #[v, v2] w fun e' w' => e' = .returned (.bool true) ∧ Below w.heap.size w w' := by
  obtain ⟨A, c, rfl, _, hc⟩ := lns_form h1
  obtain ⟨A2, c2, rfl, _, hc2⟩ := lns_form h2
  have hB := Below.refl w.heap.size w
  clear h1 h2
  go_enter Tryz.func88, Tryz.ntmps88
  go_wp2
  go_loopw [5] (fun iv wr => ∃ i : Nat, i ≤ l.length ∧ iv = .int .i64 i ∧ Below w.heap.size w wr) (fun i _ => match i with | .int _ q => l.length - q.toNat | _ => 0)
  case atStart => exact ⟨0, Nat.zero_le _, rfl, hB⟩
  case round =>
    clear hB
    obtain ⟨i, hi, rfl, hB⟩ := hrel
    by_cases hin : i < l.length
    · have hii : (i : Int) < (l.length : Int) := by omega
      have hx := List.getElem?_eq_getElem hin
      generalize l[i] = x at *
      obtain ⟨a, rfl, hL1⟩ := hc i x hx
      obtain ⟨a2, rfl, hL2⟩ := hc2 i x hx
      have hle := line_eq18 x
      clear hx hc hc2
      go_wp2
      refine region_class (fun w' => Below w.heap.size w w') (by kernel_rfl) (by kernel_rfl) hB.drew ?_
      repeat
        first
          | (refine BigFrame.wpQuiet_skip (by rfl) ?_
             simp only [Act.put, List.setIfInBounds_toArray, List.set_cons_zero, List.set_cons_succ])
          | (refine BigFrame.wpQuiet_want (by rfl) (fun K hK => ?_)
             apply Exists.intro
             refine ⟨fun wq hq => ?_, hK _ ?_⟩
             · first
                 | (refine quiet_load 83 _ _ _ rfl rfl (hL1 _ hq))
                 | (refine quiet_load 83 _ _ _ rfl rfl (hL2 _ hq))
                 | (unfold Oper.quietAt
                    go_simp
                    first
                      | with_reducible rfl
                   )
             clear hK K
             simp only [Act.put, List.setIfInBounds_toArray, List.set_cons_zero, List.set_cons_succ])
      refine wpQuiet_nil ?_
      intro w4 hB
      go_wp2
      exact ⟨⟨i + 1, by omega, by go_num, hB⟩, by simp only; omega⟩
    · have hii : ¬ (i : Int) < (l.length : Int) := by omega
      clear hc hc2
      go_wp2
      go_ret
      exact ⟨rfl, hB⟩
theorem same_two18 (l : List Int) (va vb : Value) (w : World) (hl : l.length ≤ 1099511627776) (ha : Nums .i64 w va l) (hb : Nums .i64 w vb l) : Calls Tryz.prog 87 #[va, vb] w fun e w' => e = .returned (.bool true) ∧ Below w.heap.size w w' := by
  have h := same_lists l l va vb hl w ha hb
  simpa using h
theorem rsameDk_any (K : Dk) (hl : K.D.S.length ≤ 1099511627776) (hl2 : K.D.B.length ≤ 1099511627776) (vs vd vs2 vd2 : Value) (w : World) (h1 : Sts w vs K.D.S) (h2 : Its w vd K.D.B) (h3 : Sts w vs2 K.D.S) (h4 : Its w vd2 K.D.B) : Calls Tryz.prog 89 #[.agg (dkL vs vd K).toArray, .agg (dkL vs2 vd2 K).toArray] w fun e' w' => e' = .returned (.bool true) ∧ Below w.heap.size w w' := by
  have hs := fun wz (h : Below w.heap.size w wz) => rsameS_any K.D.S hl vs vs2 wz (Rz.below h1 h) (Rz.below h3 h)
  have hd := fun wz (h : Below w.heap.size w wz) => same_two18 K.D.B vd vd2 wz hl2 (Its.nums18 (Rz.below h2 h)) (Its.nums18 (Rz.below h4 h))
  obtain ⟨A1, c1, rfl, _⟩ := h1.form
  obtain ⟨A2, c2, rfl, _⟩ := h2.form
  obtain ⟨A3, c3, rfl, _⟩ := h3.form
  obtain ⟨A4, c4, rfl, _⟩ := h4.form
  obtain ⟨D, n, r, e, c, w1, a, s, l⟩ := K
  have hX := two_bag w 45 45 (dkL (.slice A1 D.S.length c1) (.slice A2 D.B.length c2) (Dk.mk D n r e c w1 a s l)) (dkL (.slice A3 D.S.length c3) (.slice A4 D.B.length c4) (Dk.mk D n r e c w1 a s l))
  unfold dkL at *
  dsimp only at *
  clear h1 h2 h3 h4
  go_enter Tryz.func89, Tryz.ntmps89
  go_wp2_with (first | ((with_reducible refine at_load ?_); refine ldc hX slS_cell ?_) | ((with_reducible refine at_load ?_); refine ldc hX slI_cell ?_) | ((with_reducible refine at_load ?_); refine ldc hX int_cell ?_) | ((with_reducible refine at_load ?_); refine ldc hX bool_cell ?_) | (go_at_call 128; (with_reducible refine (hs _ hX.below).mono ?_); rintro e' wc ⟨rfl, hbb⟩; replace hX := hX.step hbb; clear hbb) | (go_at_call 87; (with_reducible refine (hd _ hX.below).mono ?_); rintro e' wc ⟨rfl, hbb⟩; replace hX := hX.step hbb; clear hbb))
  go_ret
  exact ⟨by simp, hX.below⟩
end Go.Proofs.YtlegcfjafdihlaaGreatDoor
