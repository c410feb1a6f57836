import Derived.Test.YthpnddgfgpacpaaGreatRW25
import Derived.Test.YthpnddgfgpacpaaGreatRW19
import Derived.Test.YthpnddgfgpacpaaGreatRW12
import Derived.Test.YthpnddgfgpacpaaGreatRW15
import Derived.Test.YthpnddgfgpacpaaGreatRW23
import Derived.Laws.DeepStrings4
import Derived.Lib.Strings
import Derived.Lib.IndexBytes
import Derived.Lib.UnsafeStr
import Derived.Laws.IdiomStrings
import Derived.Test.YthpnddgfgpacpaaGreatRW20
import Derived.Test.YthpnddgfgpacpaaGreatRW13
import Derived.Test.YthpnddgfgpacpaaGreatRW03
import Derived.Test.YthpnddgfgpacpaaGreatRW11
/-
  Accept, Reset of the reference. Condition: a valid machine.
-/
namespace Go.Proofs.YthpnddgfgpacpaaGreat
open Go.RowKit
set_option linter.unusedSimpArgs false
set_option linter.unusedVariables false
set_option maxHeartbeats 4000000
set_option maxRecDepth 100000
attribute [local irreducible] wpQuiet

theorem add018 (B j : Nat) : (⟨B, 0, none⟩ : Addr).add j = ⟨B, j, none⟩ := by unfold Addr.add; split <;> simp_all
section
variable {ops : Array Oper} {rest : List Oper} {o : Oper} {a : Act} {w w1 : World} {Q : Exit → Act → World → Prop}
/-- A slice of one line is made. -/
theorem wpList_sliceLn {y : Ln} (hg : o.guard = none) (x : Operand) (hop : o.op = Op.buildSlice 35 1 #[(0, x)]) (hx : a.eval x = .agg (lnL y).toArray) (hal : w1 = w)
    (h : ∀ w2, Below w.heap.size w w2 → (∀ j u, (lnL y)[j]? = some u → w2.cell? ((⟨w.heap.size, 0, none⟩ : Addr).add j) = some u) → wpList Tryz.prog ops Q rest (a.put o.dst (.slice (some ⟨w.heap.size, 0, none⟩) 1 1)) w2) : wpList Tryz.prog ops Q (o :: rest) a w1 := by
  subst hal
  refine wpList_plain hg fun K hK => ?_
  have h1 := h (w1.alloc (.cells (lnL y).toArray 68)) ((Below.refl _ _).alloc (Nat.le_refl _) _) (fun j u hu => by rw [add018]; exact (Blk.new _ _ _).cell hu)
  unfold Oper.wp execOp
  simp only [hop]
  generalize a.eval = E at hx ⊢
  have hl : lnL y = [.bool y.a, .bool y.b, .bool y.o, .int .i64 y.d, .bool y.e, .bool y.f, .int .i64 y.t, .int .i64 y.l, .string y.s] := rfl
  rw [hl] at hx h1
  go_simp
  exact hK _ _ h1
end
theorem at_st {P : Program} {ops : Array Oper} {Q : Exit → Act → World → Prop} {a : Act} {w : World} {l : List Oper} (T : TypeId) {ty : TypeId} {x y : Operand} {dst : Option Tmp} {pos : String} {after : Array Edge} {g : Option (Nat × Bool)} (h : wpList P ops Q ({ dst := dst, op := .store T x y, type := ty, pos := pos, after := after, guard := g } :: l) a w) : wpList P ops Q ({ dst := dst, op := .store T x y, type := ty, pos := pos, after := after, guard := g } :: l) a w := h
theorem at_ld {P : Program} {ops : Array Oper} {Q : Exit → Act → World → Prop} {a : Act} {w : World} {l : List Oper} (T : TypeId) {ty : TypeId} {x : Operand} {dst : Option Tmp} {pos : String} {after : Array Edge} {g : Option (Nat × Bool)} (h : wpList P ops Q ({ dst := dst, op := .load T x, type := ty, pos := pos, after := after, guard := g } :: l) a w) : wpList P ops Q ({ dst := dst, op := .load T x, type := ty, pos := pos, after := after, guard := g } :: l) a w := h
end Go.Proofs.YthpnddgfgpacpaaGreat
/-
  Results of a controller are valid: plain (out of stage 16's own text). No condition.
-/
namespace Go.Proofs.YthpnddgfgpacpaaGreat
open Go.RowKit
set_option linter.unusedSimpArgs false
set_option linter.unusedVariables false
set_option maxHeartbeats 4000000
set_option maxRecDepth 100000
attribute [local irreducible] wpQuiet

theorem words_iff : ∀ l : List Int, wordsB l = true ↔ ∀ x ∈ l, 0 ≤ x ∧ x ≤ 65535
  | [] => by simp [wordsB]
  | x :: r => by
    simp only [wordsB, Bool.and_eq_true, decide_eq_true_eq, List.mem_cons, forall_eq_or_imp, words_iff r]
theorem badB_low (n : Int) : ∀ (l : List Int) (a b : Int), a ≤ b → badB n b l = true → badB n a l = true
  | [], _, _, _, _ => rfl
  | x :: r, a, b, h, h1 => by
    simp only [badB, Bool.and_eq_true, decide_eq_true_eq] at h1 ⊢
    exact ⟨⟨by omega, h1.1.2⟩, h1.2⟩
theorem badB_filter (n : Int) (p : Int → Bool) : ∀ (l : List Int) (a : Int), badB n a l = true → badB n a (l.filter p) = true
  | [], _, _ => rfl
  | x :: r, a, h1 => by
    simp only [badB, Bool.and_eq_true, decide_eq_true_eq] at h1
    have ih := badB_filter n p r (x + 2) h1.2
    rw [List.filter_cons]
    split
    · simp only [badB, Bool.and_eq_true, decide_eq_true_eq]
      exact ⟨h1.1, ih⟩
    · exact badB_low n _ a (x + 2) (by omega) ih
/-- What a tick keeps. -/
structure Kept (K : Dk) (m B : List Int) (K2 : Dk) (m2 B2 : List Int) : Prop where
  right : K2.right = true
  mem : rightP m2 B2 = true
  ml : m2.length = m.length
  bl : B2.length ≤ B.length
  sl : K2.D.S.length = K.D.S.length
  db : K2.D.B = K.D.B
theorem Kept.refl {K : Dk} {m B : List Int} (h : K.right = true) (hm : rightP m B = true) : Kept K m B K m B := ⟨h, hm, rfl, Nat.le_refl _, rfl, rfl⟩
theorem Kept.trans {K1 K2 K3 : Dk} {m1 m2 m3 B1 B2 B3 : List Int} (h : Kept K1 m1 B1 K2 m2 B2) (h2 : Kept K2 m2 B2 K3 m3 B3) : Kept K1 m1 B1 K3 m3 B3 :=
  ⟨h2.right, h2.mem, h2.ml.trans h.ml, Nat.le_trans h2.bl h.bl, h2.sl.trans h.sl, h2.db.trans h.db⟩
theorem rightP_iff (m B : List Int) : rightP m B = true ↔ okS (2 * (m.length : Int)) = true ∧ (∀ x ∈ m, 0 ≤ x ∧ x ≤ 65535) ∧ badB (2 * (m.length : Int)) 0 B = true := by
  unfold rightP; simp only [Bool.and_eq_true, words_iff]
end Go.Proofs.YthpnddgfgpacpaaGreat
/-
  SameTexts, Same, passed, back, appended of the reference. Condition: at most 2^40 records; the head is on the tape.
-/
namespace Go.Proofs.YthpnddgfgpacpaaGreat
open Go.RowKit
set_option linter.unusedSimpArgs false
set_option linter.unusedVariables false
set_option maxHeartbeats 4000000
set_option maxRecDepth 100000
attribute [local irreducible] wpQuiet

theorem rsameS_any (L : List ByteArray) (hl : L.length ≤ 1099511627776) (v v2 : Value) (w : World) (h1 : Sts w v L) (h2 : Sts w v2 L) : Calls Tryz.prog 131 #[v, v2] w fun e' w' => e' = .returned (.bool true) ∧ Below w.heap.size w w' := by
  obtain ⟨A, c, rfl, _, hc⟩ := h1.form
  obtain ⟨A2, c2, rfl, _, hc2⟩ := h2.form
  have hB := Below.refl w.heap.size w
  clear h1 h2
  go_enter Tryz.func131, Tryz.ntmps131
  go_wp2
  go_loopw [5] (fun iv wr => ∃ i : Nat, i ≤ L.length ∧ iv = .int .i64 i ∧ Below w.heap.size w wr) (fun i _ => match i with | .int _ q => L.length - q.toNat | _ => 0)
  case atStart => exact ⟨0, Nat.zero_le _, rfl, hB⟩
  case round =>
    clear hB
    obtain ⟨i, hi, rfl, hB⟩ := hrel
    by_cases hin : i < L.length
    · have hii : (i : Int) < (L.length : Int) := by omega
      have hx := List.getElem?_eq_getElem hin
      generalize L[i] = x at *
      obtain ⟨a, rfl, hL⟩ := hc i x hx
      obtain ⟨a2, rfl, hL2⟩ := hc2 i x hx
      clear hx hc hc2
      go_wp2
      refine region_class (fun w' => Below w.heap.size w w') (by kernel_rfl) (by kernel_rfl) hB.drew ?_
      repeat
        first
          | (refine BigFrame.wpQuiet_skip (by rfl) ?_
             simp only [Act.put, List.setIfInBounds_toArray, List.set_cons_zero, List.set_cons_succ])
          | (refine BigFrame.wpQuiet_want (by rfl) (fun K hK => ?_)
             apply Exists.intro
             refine ⟨fun wq hq => ?_, hK _ ?_⟩
             · first
                 | (refine quiet_load 9 _ _ _ rfl rfl (hL _ hq))
                 | (refine quiet_load 9 _ _ _ rfl rfl (hL2 _ hq))
                 | (unfold Oper.quietAt
                    go_simp
                    first
                      | with_reducible rfl
                   )
             clear hK K
             simp only [Act.put, List.setIfInBounds_toArray, List.set_cons_zero, List.set_cons_succ])
      refine wpQuiet_nil ?_
      intro w4 hB
      go_wp2
      exact ⟨⟨i + 1, by omega, by go_num, hB⟩, by simp only; omega⟩
    · have hii : ¬ (i : Int) < (L.length : Int) := by omega
      clear hc hc2
      go_wp2
      go_ret
      exact ⟨rfl, hB⟩
theorem rsameT_any (K : Tp) (hl : K.R.length ≤ 1099511627776) (v v2 : Value) (w : World) (h1 : Sts w v K.R) (h2 : Sts w v2 K.R) : Calls Tryz.prog 101 #[.agg #[v, .int .i64 (K).p, .bool (K).n, .bool (K).r, .bool (K).e, .bool (K).m, .bool (K).d, .int .i64 (K).c, .int .i64 (K).k, .int .i64 (K).a, .int .i64 (K).l], .agg #[v2, .int .i64 (K).p, .bool (K).n, .bool (K).r, .bool (K).e, .bool (K).m, .bool (K).d, .int .i64 (K).c, .int .i64 (K).k, .int .i64 (K).a, .int .i64 (K).l]] w fun e' w' => e' = .returned (.bool true) ∧ Below w.heap.size w w' := by
  have hst := fun w' (h : Below w.heap.size w w') => rsameS_any K.R hl v v2 w' (Rz.below h1 h) (Rz.below h2 h)
  obtain ⟨A, c1, rfl, _⟩ := h1.form
  obtain ⟨A2, c2, rfl, _⟩ := h2.form
  obtain ⟨R, p, n, r, e, m, d, c, k, a, l⟩ := K
  dsimp only at *
  have hX := two_tp w [(.slice A R.length c1), .int .i64 p, .bool n, .bool r, .bool e, .bool m, .bool d, .int .i64 c, .int .i64 k, .int .i64 a, .int .i64 l] [(.slice A2 R.length c2), .int .i64 p, .bool n, .bool r, .bool e, .bool m, .bool d, .int .i64 c, .int .i64 k, .int .i64 a, .int .i64 l]
  clear h1 h2
  go_enter Tryz.func101, Tryz.ntmps101
  go_wp2_with (first | ((with_reducible refine at_load ?_); refine wpList_bag_cell hX int_cell _ rfl rfl rfl rfl (by first | exact .head _ | exact .tail _ (.head _)) rfl ?_) | ((with_reducible refine at_load ?_); refine wpList_bag_cell hX bool_cell _ rfl rfl rfl rfl (by first | exact .head _ | exact .tail _ (.head _)) rfl ?_) | ((with_reducible refine at_load ?_); refine wpList_bag_cell hX slS_cell _ rfl rfl rfl rfl (by first | exact .head _ | exact .tail _ (.head _)) rfl ?_) | (go_at_call 131; (with_reducible refine (hst _ hX.below).mono ?_); rintro e' w' ⟨rfl, hbb⟩; replace hX := hX.step hbb; clear hbb))
  go_ret
  exact ⟨by simp, hX.below⟩
end Go.Proofs.YthpnddgfgpacpaaGreat
/-
  Walks over Bytes of package memory and of its reference. Condition: lists have at most 2^40 elements.
-/
namespace Go.Proofs.YthpnddgfgpacpaaGreat
open Go.RowKit
set_option maxRecDepth 100000
set_option linter.unusedSimpArgs false
set_option linter.unusedVariables false
set_option maxHeartbeats 1000000
attribute [local irreducible] wpQuiet

/-- Byte j, as a cell. -/
def b8 (l : List Int) (a j : Nat) : Value := .int .u8 (byteN l (a + j))
end Go.Proofs.YthpnddgfgpacpaaGreat
/-
  cleared, spoilt, write of the reference. Condition: addresses are words; the head is on the tape.
-/
namespace Go.Proofs.YthpnddgfgpacpaaGreat
open Go.RowKit
set_option linter.unusedSimpArgs false
set_option linter.unusedVariables false
set_option maxHeartbeats 4000000
set_option maxRecDepth 100000
attribute [local irreducible] wpQuiet

theorem bag_lt {B : Nat} {t : TypeId} {cs : List Value} {l : List (Nat × TypeId × List Value)} {w0 w : World} (h : Bag ((B, t, cs) :: l) w0 w) : B < w.heap.size := (h.all _ _ _ (.head _)).lt
end Go.Proofs.YthpnddgfgpacpaaGreat
/-
  Results of a unit are valid, and the memory stays so: plain. The contracts of package tape over a world. No condition.
-/
namespace Go.Proofs.YthpnddgfgpacpaaGreat
open Go.RowKit
set_option linter.unusedSimpArgs false
set_option linter.unusedVariables false
set_option maxHeartbeats 4000000
set_option maxRecDepth 100000
attribute [local irreducible] wpQuiet

theorem Tp.right_iff (K : Tp) : K.right = true ↔ (K.R.length ≤ 64 ∧ (0 ≤ K.p ∧ K.p ≤ (K.R.length : Int)) ∧ (0 ≤ K.c ∧ K.c ≤ 6) ∧ (0 ≤ K.k ∧ K.k ≤ 65535) ∧ (0 ≤ K.a ∧ K.a ≤ 65535) ∧ (0 ≤ K.l ∧ K.l ≤ 16) ∧ K.r = decide (K.l = 0)) ∧ ∀ s ∈ K.R, s.size ≤ 512 := by
  unfold Tp.right; rw [Bool.and_eq_true, Tp.ok_iff, shortV_iff, wordV_iff_17, wordV_iff_17]
theorem tp_mk {R : List ByteArray} {p c k a l : Int} {n r e m d : Bool} (h1 : R.length ≤ 64) (h2 : 0 ≤ p ∧ p ≤ (R.length : Int)) (h3 : 0 ≤ c ∧ c ≤ 6) (h4 : 0 ≤ k ∧ k ≤ 65535) (h5 : 0 ≤ a ∧ a ≤ 65535) (h6 : 0 ≤ l ∧ l ≤ 16) (h7 : r = decide (l = 0)) (h8 : ∀ s ∈ R, s.size ≤ 512) : (Tp.mk R p n r e m d c k a l).right = true := (Tp.right_iff _).2 ⟨⟨h1, h2, h3, h4, h5, h6, h7⟩, h8⟩
theorem wrT_right {K : Tp} (h : K.right = true) (g v : Int) : (K.wr g v).1.right = true := by
  obtain ⟨⟨h1, h2, h3, h4, h5, h6, h7⟩, h8⟩ := (Tp.right_iff K).1 h
  unfold Tp.wr Tp.go
  repeat' split
  all_goals first
    | exact h
    | exact tp_mk h1 h2 h3 h4 h5 h6 h7 h8
    | exact tp_mk h1 h2 (by decide) h4 h5 h6 h7 h8
    | exact tp_mk h1 h2 (by omega) h4 h5 (by decide) rfl h8
    | exact tp_mk h1 h2 h3 (by omega) h5 h6 h7 h8
    | exact tp_mk h1 h2 h3 h4 (by omega) h6 h7 h8
/-- What a tick keeps. -/
structure KeptT (K : Tp) (m B : List Int) (T : Tp × List Int × List Int) : Prop where
  right : T.1.right = true
  mem : rightP T.2.1 T.2.2 = true
  ml : T.2.1.length = m.length
  bl : T.2.2.length ≤ B.length
theorem KeptT.refl {K K2 : Tp} {m B : List Int} (h : K2.right = true) (hm : rightP m B = true) : KeptT K m B (K2, m, B) := ⟨h, hm, rfl, Nat.le_refl _⟩
end Go.Proofs.YthpnddgfgpacpaaGreat
/-
  Structs that equal themselves; SameLines, SameDisk of the reference of package save. Condition: at most 2^40 elements.
-/
namespace Go.Proofs.YthpnddgfgpacpaaGreat
open Go.RowKit
set_option linter.unusedSimpArgs false
set_option linter.unusedVariables false
set_option maxHeartbeats 4000000
set_option maxRecDepth 100000
attribute [local irreducible] wpQuiet

theorem str_cell18 (w : World) : (isAgg 9).run Tryz.prog w = .ok false w := by kernel_rfl
theorem str_refl (d : Nat) (x : ByteArray) : ReflAt Tryz.prog (d + 1) 9 (.string x) := fun w => by
  rw [run_equalIn_string (P := Tryz.prog) (w := w) d 9 x x Tryz.underlying9]; simp
theorem line18_fields : (Tryz.prog.fieldsOf 68).toList.map (fun f => (f.type, f.offset)) = [(4, 0), (4, 1), (4, 2), (3, 3), (4, 4), (4, 5), (3, 6), (3, 7), (9, 8)] := by kernel_rfl
theorem line18_refl (d : Nat) (x : Ln) : ReflAt Tryz.prog (d + 2) 68 (.agg (lnL x).toArray) := fun w => by
  rw [run_equalIn_struct (P := Tryz.prog) w (d + 1) 68 _ _ (by kernel_rfl) (by kernel_rfl)]
  refine fields_refl _ (fun f hf => ?_) w
  have hm : (f.type, f.offset) ∈ (Tryz.prog.fieldsOf 68).toList.map (fun f => (f.type, f.offset)) := List.mem_map_of_mem hf
  rw [line18_fields] at hm
  simp only [List.mem_cons, List.not_mem_nil, or_false, Prod.mk.injEq] at hm
  rcases hm with ⟨h1, h2⟩ | ⟨h1, h2⟩ | ⟨h1, h2⟩ | ⟨h1, h2⟩ | ⟨h1, h2⟩ | ⟨h1, h2⟩ | ⟨h1, h2⟩ | ⟨h1, h2⟩ | ⟨h1, h2⟩
  all_goals rw [h1, h2]
  · exact ⟨_, part_cell bool_cell_9 (show (lnL x).toArray[0]? = some (.bool x.a) from rfl), bool_refl d x.a⟩
  · exact ⟨_, part_cell bool_cell_9 (show (lnL x).toArray[1]? = some (.bool x.b) from rfl), bool_refl d x.b⟩
  · exact ⟨_, part_cell bool_cell_9 (show (lnL x).toArray[2]? = some (.bool x.o) from rfl), bool_refl d x.o⟩
  · exact ⟨_, part_cell int_cell_9 (show (lnL x).toArray[3]? = some (.int .i64 x.d) from rfl), int_refl d x.d⟩
  · exact ⟨_, part_cell bool_cell_9 (show (lnL x).toArray[4]? = some (.bool x.e) from rfl), bool_refl d x.e⟩
  · exact ⟨_, part_cell bool_cell_9 (show (lnL x).toArray[5]? = some (.bool x.f) from rfl), bool_refl d x.f⟩
  · exact ⟨_, part_cell int_cell_9 (show (lnL x).toArray[6]? = some (.int .i64 x.t) from rfl), int_refl d x.t⟩
  · exact ⟨_, part_cell int_cell_9 (show (lnL x).toArray[7]? = some (.int .i64 x.l) from rfl), int_refl d x.l⟩
  · exact ⟨_, part_cell str_cell18 (show (lnL x).toArray[8]? = some (.string x.s) from rfl), str_refl d x.s⟩
theorem clock18_fields : (Tryz.prog.fieldsOf 34).toList.map (fun f => (f.type, f.offset)) = [(4, 0), (4, 1), (3, 2), (3, 3)] := by kernel_rfl
theorem clock18_refl (d : Nat) (c : Ck) : ReflAt Tryz.prog (d + 2) 34 (.agg (c.L).toArray) := fun w => by
  rw [run_equalIn_struct (P := Tryz.prog) w (d + 1) 34 _ _ (by kernel_rfl) (by kernel_rfl)]
  refine fields_refl _ (fun f hf => ?_) w
  have hm : (f.type, f.offset) ∈ (Tryz.prog.fieldsOf 34).toList.map (fun f => (f.type, f.offset)) := List.mem_map_of_mem hf
  rw [clock18_fields] at hm
  simp only [List.mem_cons, List.not_mem_nil, or_false, Prod.mk.injEq] at hm
  rcases hm with ⟨h1, h2⟩ | ⟨h1, h2⟩ | ⟨h1, h2⟩ | ⟨h1, h2⟩
  all_goals rw [h1, h2]
  · exact ⟨_, part_cell bool_cell_9 (show (c.L).toArray[0]? = some (.bool c.e) from rfl), bool_refl d c.e⟩
  · exact ⟨_, part_cell bool_cell_9 (show (c.L).toArray[1]? = some (.bool c.r) from rfl), bool_refl d c.r⟩
  · exact ⟨_, part_cell int_cell_9 (show (c.L).toArray[2]? = some (.int .i64 c.p) from rfl), int_refl d c.p⟩
  · exact ⟨_, part_cell int_cell_9 (show (c.L).toArray[3]? = some (.int .i64 c.l) from rfl), int_refl d c.l⟩
theorem line_eq18 (x : Ln) (w : World) : (Op.equalIn 10000 68 (.agg (lnL x).toArray) (.agg (lnL x).toArray)).run Tryz.prog w = .ok true w := line18_refl 9998 x w
theorem clock_eq18 (c : Ck) (w : World) : (Op.equalIn 10000 34 (.agg c.L.toArray) (.agg c.L.toArray)).run Tryz.prog w = .ok true w := clock18_refl 9998 c w
theorem ints_refl18 (d n : Nat) (T_ : TypeId) (hT : Tryz.prog.underlying T_ = some (.array n 3)) (l : List Int) (hl : l.length = n) : ReflAt Tryz.prog (d + 2) T_ (.agg (l.map (Value.int .i64)).toArray) := fun w => by
  obtain ⟨i, hi⟩ : ∃ i, Tryz.prog.info? 3 = some i := Option.isSome_iff_exists.1 (by kernel_rfl)
  rw [run_equalIn_array (P := Tryz.prog) w (d + 1) _ _ hT hi]
  refine items_refl _ (fun k hk => ?_) w
  have hk8 : k < l.length := by rw [hl]; exact List.mem_range.1 hk
  refine ⟨.int .i64 l[k], part_cell int_cell_9 ?_, int_refl d _⟩
  rw [show Tryz.prog.cellsOf 3 = 1 by kernel_rfl, Nat.mul_one]
  simp [hk8]
theorem cpu_fields : (Tryz.prog.fieldsOf 25).toList.map (fun f => (f.type, f.offset)) = [(22, 0), (23, 6), (3, 8), (3, 9)] := by kernel_rfl
theorem agg6_18 (w : World) : (isAgg 22).run Tryz.prog w = .ok true w := by kernel_rfl
theorem siz6_18 (w : World) : (sizeOf 22).run Tryz.prog w = .ok 6 w := by kernel_rfl
theorem agg2_18 (w : World) : (isAgg 23).run Tryz.prog w = .ok true w := by kernel_rfl
theorem siz2_18 (w : World) : (sizeOf 23).run Tryz.prog w = .ok 2 w := by kernel_rfl
theorem cpu_eq18 (c : List Int) (hc : c.length = 10) (w : World) : (Op.equalIn 10000 25 (.agg (c.map (Value.int .i64)).toArray) (.agg (c.map (Value.int .i64)).toArray)).run Tryz.prog w = .ok true w := by
  rw [run_equalIn_struct (P := Tryz.prog) w 9999 25 _ _ (by kernel_rfl) (by kernel_rfl)]
  refine fields_refl _ (fun f hf => ?_) w
  have hm : (f.type, f.offset) ∈ (Tryz.prog.fieldsOf 25).toList.map (fun f => (f.type, f.offset)) := List.mem_map_of_mem hf
  rw [cpu_fields] at hm
  simp only [List.mem_cons, List.not_mem_nil, or_false, Prod.mk.injEq] at hm
  have ex : ∀ a n, a + n ≤ 10 → (c.map (Value.int .i64)).toArray.extract a (a + n) = (((c.drop a).take n).map (Value.int .i64)).toArray := fun a n _ => by
    rw [List.extract_toArray, List.extract_eq_take_drop, Nat.add_sub_cancel_left, List.map_take, List.map_drop]
  rcases hm with ⟨h1, h2⟩ | ⟨h1, h2⟩ | ⟨h1, h2⟩ | ⟨h1, h2⟩
  all_goals rw [h1, h2]
  · refine ⟨_, fun w => part_agg agg6_18 siz6_18 w, ?_⟩
    rw [ex 0 6 (by omega)]
    exact ints_refl18 9997 6 _ Tryz.underlying22 _ (by rw [List.length_take, List.length_drop]; omega)
  · refine ⟨_, fun w => part_agg agg2_18 siz2_18 w, ?_⟩
    rw [ex 6 2 (by omega)]
    exact ints_refl18 9997 2 _ Tryz.underlying23 _ (by rw [List.length_take, List.length_drop]; omega)
  · exact ⟨.int .i64 (c[8]'(by omega)), part_cell int_cell_9 (by simp [hc]), int_refl 9998 _⟩
  · exact ⟨.int .i64 (c[9]'(by omega)), part_cell int_cell_9 (by simp [hc]), int_refl 9998 _⟩
theorem rsameLn_any (l : List Ln) (hl : l.length ≤ 1099511627776) (v v2 : Value) (w : World) (h1 : Lns w v l) (h2 : Lns w v2 l) : Calls Tryz.prog 99 #[v, v2] w fun e' w' => e' = .returned (.bool true) ∧ Below w.heap.size w w' := by
  obtain ⟨A, c, rfl, _, hc⟩ := lns_form h1
  obtain ⟨A2, c2, rfl, _, hc2⟩ := lns_form h2
  have hB := Below.refl w.heap.size w
  clear h1 h2
  go_enter Tryz.func99, Tryz.ntmps99
  go_wp2
  go_loopw [5] (fun iv wr => ∃ i : Nat, i ≤ l.length ∧ iv = .int .i64 i ∧ Below w.heap.size w wr) (fun i _ => match i with | .int _ q => l.length - q.toNat | _ => 0)
  case atStart => exact ⟨0, Nat.zero_le _, rfl, hB⟩
  case round =>
    clear hB
    obtain ⟨i, hi, rfl, hB⟩ := hrel
    by_cases hin : i < l.length
    · have hii : (i : Int) < (l.length : Int) := by omega
      have hx := List.getElem?_eq_getElem hin
      generalize l[i] = x at *
      obtain ⟨a, rfl, hL1⟩ := hc i x hx
      obtain ⟨a2, rfl, hL2⟩ := hc2 i x hx
      have hle := line_eq18 x
      clear hx hc hc2
      go_wp2
      refine region_class (fun w' => Below w.heap.size w w') (by kernel_rfl) (by kernel_rfl) hB.drew ?_
      repeat
        first
          | (refine BigFrame.wpQuiet_skip (by rfl) ?_
             simp only [Act.put, List.setIfInBounds_toArray, List.set_cons_zero, List.set_cons_succ])
          | (refine BigFrame.wpQuiet_want (by rfl) (fun K hK => ?_)
             apply Exists.intro
             refine ⟨fun wq hq => ?_, hK _ ?_⟩
             · first
                 | (refine quiet_load 68 _ _ _ rfl rfl (hL1 _ hq))
                 | (refine quiet_load 68 _ _ _ rfl rfl (hL2 _ hq))
                 | (unfold Oper.quietAt
                    go_simp
                    first
                      | with_reducible rfl
                   )
             clear hK K
             simp only [Act.put, List.setIfInBounds_toArray, List.set_cons_zero, List.set_cons_succ])
      refine wpQuiet_nil ?_
      intro w4 hB
      go_wp2
      exact ⟨⟨i + 1, by omega, by go_num, hB⟩, by simp only; omega⟩
    · have hii : ¬ (i : Int) < (l.length : Int) := by omega
      clear hc hc2
      go_wp2
      go_ret
      exact ⟨rfl, hB⟩
theorem same_two18 (l : List Int) (va vb : Value) (w : World) (hl : l.length ≤ 1099511627776) (ha : Nums .i64 w va l) (hb : Nums .i64 w vb l) : Calls Tryz.prog 98 #[va, vb] w fun e w' => e = .returned (.bool true) ∧ Below w.heap.size w w' := by
  have h := same_lists l l va vb hl w ha hb
  simpa using h
theorem rsameDk_any (K : Dk) (hl : K.D.S.length ≤ 1099511627776) (hl2 : K.D.B.length ≤ 1099511627776) (vs vd vs2 vd2 : Value) (w : World) (h1 : Sts w vs K.D.S) (h2 : Its w vd K.D.B) (h3 : Sts w vs2 K.D.S) (h4 : Its w vd2 K.D.B) : Calls Tryz.prog 100 #[.agg (dkL vs vd K).toArray, .agg (dkL vs2 vd2 K).toArray] w fun e' w' => e' = .returned (.bool true) ∧ Below w.heap.size w w' := by
  have hs := fun wz (h : Below w.heap.size w wz) => rsameS_any K.D.S hl vs vs2 wz (Rz.below h1 h) (Rz.below h3 h)
  have hd := fun wz (h : Below w.heap.size w wz) => same_two18 K.D.B vd vd2 wz hl2 (Its.nums18 (Rz.below h2 h)) (Its.nums18 (Rz.below h4 h))
  obtain ⟨A1, c1, rfl, _⟩ := h1.form
  obtain ⟨A2, c2, rfl, _⟩ := h2.form
  obtain ⟨A3, c3, rfl, _⟩ := h3.form
  obtain ⟨A4, c4, rfl, _⟩ := h4.form
  obtain ⟨D, n, r, e, c, w1, a, s, l⟩ := K
  have hX := two_bag w 40 40 (dkL (.slice A1 D.S.length c1) (.slice A2 D.B.length c2) (Dk.mk D n r e c w1 a s l)) (dkL (.slice A3 D.S.length c3) (.slice A4 D.B.length c4) (Dk.mk D n r e c w1 a s l))
  unfold dkL at *
  dsimp only at *
  clear h1 h2 h3 h4
  go_enter Tryz.func100, Tryz.ntmps100
  go_wp2_with (first | ((with_reducible refine at_load ?_); refine ldc hX slS_cell ?_) | ((with_reducible refine at_load ?_); refine ldc hX slI_cell ?_) | ((with_reducible refine at_load ?_); refine ldc hX int_cell ?_) | ((with_reducible refine at_load ?_); refine ldc hX bool_cell ?_) | (go_at_call 131; (with_reducible refine (hs _ hX.below).mono ?_); rintro e' wc ⟨rfl, hbb⟩; replace hX := hX.step hbb; clear hbb) | (go_at_call 98; (with_reducible refine (hd _ hX.below).mono ?_); rintro e' wc ⟨rfl, hbb⟩; replace hX := hX.step hbb; clear hbb))
  go_ret
  exact ⟨by simp, hX.below⟩
end Go.Proofs.YthpnddgfgpacpaaGreat
