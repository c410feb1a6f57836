import Derived.Test.YthpnddgfgpacpaaGreatRW21
import Derived.Test.YthpnddgfgpacpaaGreatRW23
import Derived.Test.YthpnddgfgpacpaaGreatRW24
/-
  low, Write of the reference. Condition: a valid machine.
-/
namespace Go.Proofs.YthpnddgfgpacpaaGreat
open Go.RowKit
set_option linter.unusedSimpArgs false
set_option linter.unusedVariables false
set_option maxHeartbeats 4000000
set_option maxRecDepth 100000
attribute [local irreducible] wpQuiet

theorem rlow_any (v : Int) (b : Bool) (w : World) : Calls Tryz.prog 46 #[.int .i64 v, .bool b] w fun e' w' => e' = .returned (.int .i64 (lowV18 v b)) ∧ Below w.heap.size w w' := by
  have hB := Below.refl w.heap.size w
  have h1 : bits .and .i64 v 255 = v % 256 := i_and (c := 255) (by decide) (field _ 0 8) (by intro h; omega)
  have h2 : bits .and .i64 v 65535 = v % 65536 := i_and (c := 65535) (by decide) (field _ 0 16) (by intro h; omega)
  unfold lowV18
  cases b
  · rw [if_neg (by decide)]
    go_enter Tryz.func46, Tryz.ntmps46
    go_wp2
    go_ret
    exact ⟨rfl, hB⟩
  · rw [if_pos rfl]
    go_enter Tryz.func46, Tryz.ntmps46
    go_wp2
    go_ret
    exact ⟨rfl, hB⟩
section
variable {X : Nat → Prop} {w : World} {A : Ma} {vm vb vl vs vd vt : Value}
theorem MaV.over {w' : World} {B : Nat} (h : MaV X w A vm vb vl vs vd vt) (hk : ∀ k, k ≠ B → w'.heap[k]? = w.heap[k]?) (hB : X B) : MaV X w' A vm vb vl vs vd vt := ⟨Sv.over18 h.m hk hB, Sv.over18 h.b hk hB, Sv.over18 h.l hk hB, Sv.over18 h.s hk hB, Sv.over18 h.d hk hB, Sv.over18 h.t hk hB⟩
theorem MaV.less {Y : Nat → Prop} (h : MaV X w A vm vb vl vs vd vt) (hY : ∀ b, Y b → X b) : MaV Y w A vm vb vl vs vd vt := ⟨Sv.less18 h.m hY, Sv.less18 h.b hY, Sv.less18 h.l hY, Sv.less18 h.s hY, Sv.less18 h.d hY, Sv.less18 h.t hY⟩
theorem MaV.cone (h : MaV X w A vm vb vl vs vd vt) (hA : A.ok) : ∀ v ∈ A.cells vm vb vl vs vd vt, v.oneCell' = true := Ma.cone hA h.o1 h.o2 h.o3 h.o4 h.o5 h.o6
end
/-- The blocks of a call, and one more. -/
def OwnP (X : Nat → Prop) (N B b : Nat) : Prop := OwnA X N b ∨ b = B
theorem ownP_lt {X : Nat → Prop} {N B n : Nat} (h : ∀ b, X b → b < N) (hn : N + 2 ≤ n) (hB : B < n) : ∀ b, OwnP X N B b → b < n := fun b hb => by
  rcases hb with hb | rfl
  · exact ownA18 h hn b hb
  · exact hB
theorem ownP_weak {X : Nat → Prop} {N B : Nat} (hB : N ≤ B) : ∀ b, b < N → OwnP X N B b → X b := fun b hb h => by
  rcases h with h | rfl
  · exact ownW18 b hb h
  · omega
theorem ownP_new {X : Nat → Prop} {N B n : Nat} (e : B = n) : ∀ b, b < n → OwnP X N B b → OwnA X N b := fun b hb h => by
  rcases h with h | rfl
  · exact h
  · omega
theorem pool1_18 {i : Nat} {p : Nat → Prop} (h1 : p i) : ∀ j ∈ [i], p j := fun j hj => by rw [List.mem_singleton.1 hj]; exact h1
theorem pool0_18 {p : Nat → Prop} : ∀ j ∈ ([] : List Nat), p j := fun j hj => (List.not_mem_nil hj).elim
theorem wrR_ok {A : Ma} (h : A.ok) (off v : Int) : (A.wrR off v).1.ok := by
  unfold Ma.wrR
  repeat' split
  all_goals first
    | exact h
    | exact ⟨h.1, h.2.1, un_wr_ok h.2.2 off v⟩
theorem mem_two {w : World} {N : Nat} {r s : Value} {M B : List Int} {X : Nat → Prop} (hX : ∀ b, X b → b < N) (h1 : Own N w r M) (h2 : Own N w s B) : ItsX X w r M ∧ ItsX X w s B := ⟨Sv.of_own h1 hX, Sv.of_own h2 hX⟩
theorem siz_sI18 (w : World) : (sizeOf 26).run Tryz.prog w = .ok 1 w := by kernel_rfl
theorem rbWrite_mem (A : Ma) (hA : A.ok) (hR : A.right = true) (vm vb vl vs vd vt : Value) (X : Nat → Prop) (w : World) (hXl : ∀ b, X b → b < w.heap.size) (hV : MaV X w A vm vb vl vs vd vt) (p : Int) (b : Bool) (v : Int) (hp : physP p < 253952) : Calls Tryz.prog 17 #[.agg (A.cells vm vb vl vs vd vt).toArray, .int .i64 p, .bool b, .int .i64 v] w fun e' w' => ∃ x, e' = .returned (.tuple #[x, .int .i64 (A.write p b v).2]) ∧ MaX X w' x (A.write p b v).1 ∧ Below w.heap.size w w' := by
  have hL := Ma.len hA vs vd vt
  have hX := two_ma w (A.cells vm vb vl vs vd vt)
  have hM := (Ma.parts hR).2.2.1
  have hWd : wordsB A.M = true := by unfold rightP at hM; simp only [Bool.and_eq_true] at hM; exact hM.2.1
  have hph := fun wz => rphys_any p wz
  have hle := mem_lens hM
  have hlo := fun wz => rlow_any v b wz
  unfold Ma.write
  rw [if_pos hp]
  generalize lowV18 v b = lv at *
  generalize physP p = P at *
  have hrm := fun (wz : World) (hb : Below w.heap.size w wz) => rwriteMg_any vm vb A.M A.B hle.1 hle.2 hWd P b lv wz (Its.nums18 (Rz.below hV.m.now hb)) (Its.nums18 (Rz.below hV.b.now hb))
  have hwt : writeT (2 * (A.M.length : Int)) P b = 0 ∨ writeT (2 * (A.M.length : Int)) P b = 1 := by unfold writeT; split <;> simp
  have o3 := hV.o3
  have o4 := hV.o4
  have o5 := hV.o5
  have o6 := hV.o6
  clear hM hle hWd hR
  rcases hwt with hwt | hwt
  · rw [hwt] at hrm
    rw [if_pos hwt]
    clear hwt
    go_enter Tryz.func17, Tryz.ntmps17
    go_upto_region 1 with (first | ((with_reducible refine at_alloc18 ?_); refine wpList_allocM rfl rfl ?_))
    generalize ((w.alloc (Obj.cells (A.cells vm vb vl vs vd vt).toArray 44)).alloc (Obj.cells mzL.toArray 44)) = wQ at hX ⊢
    go_wp2_with (first | (go_at_call 39; (with_reducible refine (hph _).mono ?_); rintro e' wc ⟨rfl, hbb⟩; replace hX := hX.step hbb; clear hbb))
    refine region_hoist (fun w' => Bag _ w w') 16 [(0, false), (1, false), (2, false), (3, false), (4, false), (5, false), (6, false), (7, false), (8, true), (9, true), (10, false), (11, false), (12, false), (13, false), (14, false), (15, false)] (by kernel_rfl) (by kernel_rfl) (fun _ _ dd _ _ h => by cases dd <;> exact h) hX.drew ?_
    refine wpHo_q' rfl rfl (fun KK hKK => ?_)
    apply Exists.intro
    refine ⟨fun wq hq => ?_, hKK _ ?_⟩
    · try dsimp only at hq
      first
        | exact run_load_op 26 _ _ rfl rfl ((hq.all _ _ _ (.tail _ (.head _))).loadCell (get_m hL) slI_cell)
        | exact run_load_op 26 _ _ rfl rfl ((hq.all _ _ _ (.tail _ (.head _))).loadCell (get_b hL) slI_cell)
        | (unfold execOp; go_simp; done)
        | (unfold execOp; go_simp; with_reducible rfl)
    clear hKK KK
    simp only [Act.put, List.setIfInBounds_toArray, List.set_cons_zero, List.set_cons_succ]
    refine wpHo_q' rfl rfl (fun KK hKK => ?_)
    apply Exists.intro
    refine ⟨fun wq hq => ?_, hKK _ ?_⟩
    · try dsimp only at hq
      first
        | exact run_load_op 26 _ _ rfl rfl ((hq.all _ _ _ (.tail _ (.head _))).loadCell (get_m hL) slI_cell)
        | exact run_load_op 26 _ _ rfl rfl ((hq.all _ _ _ (.tail _ (.head _))).loadCell (get_b hL) slI_cell)
        | (unfold execOp; go_simp; done)
        | (unfold execOp; go_simp; with_reducible rfl)
    clear hKK KK
    simp only [Act.put, List.setIfInBounds_toArray, List.set_cons_zero, List.set_cons_succ]
    refine wpHo_q' rfl rfl (fun KK hKK => ?_)
    apply Exists.intro
    refine ⟨fun wq hq => ?_, hKK _ ?_⟩
    · try dsimp only at hq
      first
        | exact run_load_op 26 _ _ rfl rfl ((hq.all _ _ _ (.tail _ (.head _))).loadCell (get_m hL) slI_cell)
        | exact run_load_op 26 _ _ rfl rfl ((hq.all _ _ _ (.tail _ (.head _))).loadCell (get_b hL) slI_cell)
        | (unfold execOp; go_simp; done)
        | (unfold execOp; go_simp; with_reducible rfl)
    clear hKK KK
    simp only [Act.put, List.setIfInBounds_toArray, List.set_cons_zero, List.set_cons_succ]
    refine wpHo_q' rfl rfl (fun KK hKK => ?_)
    apply Exists.intro
    refine ⟨fun wq hq => ?_, hKK _ ?_⟩
    · try dsimp only at hq
      first
        | exact run_load_op 26 _ _ rfl rfl ((hq.all _ _ _ (.tail _ (.head _))).loadCell (get_m hL) slI_cell)
        | exact run_load_op 26 _ _ rfl rfl ((hq.all _ _ _ (.tail _ (.head _))).loadCell (get_b hL) slI_cell)
        | (unfold execOp; go_simp; done)
        | (unfold execOp; go_simp; with_reducible rfl)
    clear hKK KK
    simp only [Act.put, List.setIfInBounds_toArray, List.set_cons_zero, List.set_cons_succ]
    refine wpHo_q' rfl rfl (fun KK hKK => ?_)
    apply Exists.intro
    refine ⟨fun wq hq => ?_, hKK _ ?_⟩
    · try dsimp only at hq
      first
        | exact run_load_op 26 _ _ rfl rfl ((hq.all _ _ _ (.tail _ (.head _))).loadCell (get_m hL) slI_cell)
        | exact run_load_op 26 _ _ rfl rfl ((hq.all _ _ _ (.tail _ (.head _))).loadCell (get_b hL) slI_cell)
        | (unfold execOp; go_simp; done)
        | (unfold execOp; go_simp; with_reducible rfl)
    clear hKK KK
    simp only [Act.put, List.setIfInBounds_toArray, List.set_cons_zero, List.set_cons_succ]
    refine wpHo_q' rfl rfl (fun KK hKK => ?_)
    apply Exists.intro
    refine ⟨fun wq hq => ?_, hKK _ ?_⟩
    · try dsimp only at hq
      first
        | exact run_load_op 26 _ _ rfl rfl ((hq.all _ _ _ (.tail _ (.head _))).loadCell (get_m hL) slI_cell)
        | exact run_load_op 26 _ _ rfl rfl ((hq.all _ _ _ (.tail _ (.head _))).loadCell (get_b hL) slI_cell)
        | (unfold execOp; go_simp; done)
        | (unfold execOp; go_simp; with_reducible rfl)
    clear hKK KK
    simp only [Act.put, List.setIfInBounds_toArray, List.set_cons_zero, List.set_cons_succ]
    refine wpHo_q' rfl rfl (fun KK hKK => ?_)
    apply Exists.intro
    refine ⟨fun wq hq => ?_, hKK _ ?_⟩
    · try dsimp only at hq
      first
        | exact run_load_op 26 _ _ rfl rfl ((hq.all _ _ _ (.tail _ (.head _))).loadCell (get_m hL) slI_cell)
        | exact run_load_op 26 _ _ rfl rfl ((hq.all _ _ _ (.tail _ (.head _))).loadCell (get_b hL) slI_cell)
        | (unfold execOp; go_simp; done)
        | (unfold execOp; go_simp; with_reducible rfl)
    clear hKK KK
    simp only [Act.put, List.setIfInBounds_toArray, List.set_cons_zero, List.set_cons_succ]
    refine wpHo_q' rfl rfl (fun KK hKK => ?_)
    apply Exists.intro
    refine ⟨fun wq hq => ?_, hKK _ ?_⟩
    · try dsimp only at hq
      first
        | exact run_load_op 26 _ _ rfl rfl ((hq.all _ _ _ (.tail _ (.head _))).loadCell (get_m hL) slI_cell)
        | exact run_load_op 26 _ _ rfl rfl ((hq.all _ _ _ (.tail _ (.head _))).loadCell (get_b hL) slI_cell)
        | (unfold execOp; go_simp; done)
        | (unfold execOp; go_simp; with_reducible rfl)
    clear hKK KK
    simp only [Act.put, List.setIfInBounds_toArray, List.set_cons_zero, List.set_cons_succ]
    refine wpHo_call rfl rfl (fun KK hKK => ?_)
    unfold Oper.semiAt
    go_simp
    simp only [semiUpon]
    refine ⟨trivial, ?_⟩
    refine (hlo _).mono ?_
    rintro e' wc ⟨rfl, hbb⟩
    refine ⟨_, rfl, hKK _ _ (hX.drew.step hbb) ?_⟩
    clear hKK KK
    have hX2 := hX.drew.step hbb
    clear hX
    have hX := hX2
    clear hX2 hbb
    simp only [Act.put, List.setIfInBounds_toArray, List.set_cons_zero, List.set_cons_succ]
    refine wpHo_call rfl rfl (fun KK hKK => ?_)
    unfold Oper.semiAt
    go_simp
    simp only [semiUpon]
    refine ⟨trivial, ?_⟩
    refine (hrm _ hX.below).mono ?_
    rintro e' wc ⟨r2, s2, rfl, hm2, hb2, hbb⟩
    refine ⟨_, rfl, hKK _ _ (hX.step hbb) ?_⟩
    clear hKK KK
    have hls := hX.below.size
    obtain ⟨hm3, hb3⟩ := mem_two (ownA18 hXl (show w.heap.size + 2 ≤ _ from (hX.all _ _ _ (.head _)).lt)) hm2 hb2
    clear hm2 hb2 hls
    have hX2 := hX.step hbb
    clear hX
    have hX := hX2
    clear hX2 hbb
    simp only [Act.put, List.setIfInBounds_toArray, List.set_cons_zero, List.set_cons_succ]
    refine wpHo_q' rfl rfl (fun KK hKK => ?_)
    apply Exists.intro
    refine ⟨fun wq hq => ?_, hKK _ ?_⟩
    · try dsimp only at hq
      first
        | exact run_load_op 26 _ _ rfl rfl ((hq.all _ _ _ (.tail _ (.head _))).loadCell (get_m hL) slI_cell)
        | exact run_load_op 26 _ _ rfl rfl ((hq.all _ _ _ (.tail _ (.head _))).loadCell (get_b hL) slI_cell)
        | (unfold execOp; go_simp; done)
        | (unfold execOp; go_simp; with_reducible rfl)
    clear hKK KK
    simp only [Act.put, List.setIfInBounds_toArray, List.set_cons_zero, List.set_cons_succ]
    refine wpHo_q' rfl rfl (fun KK hKK => ?_)
    apply Exists.intro
    refine ⟨fun wq hq => ?_, hKK _ ?_⟩
    · try dsimp only at hq
      first
        | exact run_load_op 26 _ _ rfl rfl ((hq.all _ _ _ (.tail _ (.head _))).loadCell (get_m hL) slI_cell)
        | exact run_load_op 26 _ _ rfl rfl ((hq.all _ _ _ (.tail _ (.head _))).loadCell (get_b hL) slI_cell)
        | (unfold execOp; go_simp; done)
        | (unfold execOp; go_simp; with_reducible rfl)
    clear hKK KK
    simp only [Act.put, List.setIfInBounds_toArray, List.set_cons_zero, List.set_cons_succ]
    refine wpHo_q' rfl rfl (fun KK hKK => ?_)
    apply Exists.intro
    refine ⟨fun wq hq => ?_, hKK _ ?_⟩
    · try dsimp only at hq
      first
        | exact run_load_op 26 _ _ rfl rfl ((hq.all _ _ _ (.tail _ (.head _))).loadCell (get_m hL) slI_cell)
        | exact run_load_op 26 _ _ rfl rfl ((hq.all _ _ _ (.tail _ (.head _))).loadCell (get_b hL) slI_cell)
        | (unfold execOp; go_simp; done)
        | (unfold execOp; go_simp; with_reducible rfl)
    clear hKK KK
    simp only [Act.put, List.setIfInBounds_toArray, List.set_cons_zero, List.set_cons_succ]
    refine wpHo_q' rfl rfl (fun KK hKK => ?_)
    apply Exists.intro
    refine ⟨fun wq hq => ?_, hKK _ ?_⟩
    · try dsimp only at hq
      first
        | exact run_load_op 26 _ _ rfl rfl ((hq.all _ _ _ (.tail _ (.head _))).loadCell (get_m hL) slI_cell)
        | exact run_load_op 26 _ _ rfl rfl ((hq.all _ _ _ (.tail _ (.head _))).loadCell (get_b hL) slI_cell)
        | (unfold execOp; go_simp; done)
        | (unfold execOp; go_simp; with_reducible rfl)
    clear hKK KK
    simp only [Act.put, List.setIfInBounds_toArray, List.set_cons_zero, List.set_cons_succ]
    refine wpHo_q' rfl rfl (fun KK hKK => ?_)
    apply Exists.intro
    refine ⟨fun wq hq => ?_, hKK _ ?_⟩
    · try dsimp only at hq
      first
        | exact run_load_op 26 _ _ rfl rfl ((hq.all _ _ _ (.tail _ (.head _))).loadCell (get_m hL) slI_cell)
        | exact run_load_op 26 _ _ rfl rfl ((hq.all _ _ _ (.tail _ (.head _))).loadCell (get_b hL) slI_cell)
        | (unfold execOp; go_simp; done)
        | (unfold execOp; go_simp; with_reducible rfl)
    clear hKK KK
    simp only [Act.put, List.setIfInBounds_toArray, List.set_cons_zero, List.set_cons_succ]
    refine wpHo_q' rfl rfl (fun KK hKK => ?_)
    apply Exists.intro
    refine ⟨fun wq hq => ?_, hKK _ ?_⟩
    · try dsimp only at hq
      first
        | exact run_load_op 26 _ _ rfl rfl ((hq.all _ _ _ (.tail _ (.head _))).loadCell (get_m hL) slI_cell)
        | exact run_load_op 26 _ _ rfl rfl ((hq.all _ _ _ (.tail _ (.head _))).loadCell (get_b hL) slI_cell)
        | (unfold execOp; go_simp; done)
        | (unfold execOp; go_simp; with_reducible rfl)
    clear hKK KK
    simp only [Act.put, List.setIfInBounds_toArray, List.set_cons_zero, List.set_cons_succ]
    refine wpHo_nil ?_
    simp only [List.drop_succ_cons, List.drop_zero]
    have ov := rz_one hm3.now
    have ov2 := rz_one hb3.now
    obtain ⟨Am, cm, rfl, _⟩ := hm3.now.form
    obtain ⟨Ab, cb, rfl, _⟩ := hb3.now.form
    go_wp2_with (first | ((with_reducible refine at_store ?_); refine stk2 hX siz_sI18 (Ma.set_m hA (writeM A.M P b lv) _) (by rw [Ma.clen hA]; decide) ov ?_; intro wS hY hkS; replace hm3 := Sv.over18 hm3 hkS (.inr (.inl rfl)); replace hb3 := Sv.over18 hb3 hkS (.inr (.inl rfl)); replace hX := hY; clear hY hkS) | ((with_reducible refine at_store ?_); refine stk2 hX siz_sI18 (Ma.set_b (A := ({ A with M := writeM A.M P b lv } : Ma)) hA (writeB (2 * (A.M.length : Int)) A.B P b) _) (by rw [Ma.clen (A := ({ A with M := writeM A.M P b lv } : Ma)) hA]; decide) ov2 ?_; intro wS hY hkS; replace hm3 := Sv.over18 hm3 hkS (.inr (.inl rfl)); replace hb3 := Sv.over18 hb3 hkS (.inr (.inl rfl)); replace hX := hY; clear hY hkS) | ((with_reducible refine at_load ?_); refine ldw (hn := Ma.clen (A := ({ A with M := writeM A.M P b lv, B := writeB (2 * (A.M.length : Int)) A.B P b } : Ma)) hA) hX aggM sizM ?_) | ((with_reducible refine at_store ?_); refine stw hX aggM sizM (Ma.cone (A := ({ A with M := writeM A.M P b lv, B := writeB (2 * (A.M.length : Int)) A.B P b } : Ma)) hA ov ov2 o3 o4 o5 o6) (hn := Ma.clen (A := ({ A with M := writeM A.M P b lv, B := writeB (2 * (A.M.length : Int)) A.B P b } : Ma)) hA) (hc := mzL_len) ?_; intro wS hY hkS; replace hm3 := Sv.over18 hm3 hkS (.inr (.inr rfl)); replace hb3 := Sv.over18 hb3 hkS (.inr (.inr rfl)); replace hX := hY; clear hY hkS))
    exact bodyPost_ret (results_ct Tryz.results17 rfl ((hX.all _ _ _ (.head _)).loadVar (Ma.clen (A := ({ A with M := writeM A.M P b lv, B := writeB (2 * (A.M.length : Int)) A.B P b } : Ma)) hA) aggM sizM)) rfl ⟨_, rfl, ⟨_, _, _, _, _, _, rfl, Sv.less18 hm3 (fun _ h => .inl h), Sv.less18 hb3 (fun _ h => .inl h), Sv.below hV.l hX.below, Sv.below hV.s hX.below, Sv.below hV.d hX.below, Sv.below hV.t hX.below⟩, hX.below⟩
  · rw [hwt] at hrm
    rw [if_neg (by omega), hwt]
    clear hwt
    go_enter Tryz.func17, Tryz.ntmps17
    go_upto_region 1 with (first | ((with_reducible refine at_alloc18 ?_); refine wpList_allocM rfl rfl ?_))
    generalize ((w.alloc (Obj.cells (A.cells vm vb vl vs vd vt).toArray 44)).alloc (Obj.cells mzL.toArray 44)) = wQ at hX ⊢
    go_wp2_with (first | (go_at_call 39; (with_reducible refine (hph _).mono ?_); rintro e' wc ⟨rfl, hbb⟩; replace hX := hX.step hbb; clear hbb))
    refine region_hoist (fun w' => Bag _ w w') 16 [(0, false), (1, false), (2, false), (3, false), (4, false), (5, false), (6, false), (7, false), (8, true), (9, true), (10, false), (11, false), (12, false), (13, false), (14, false), (15, false)] (by kernel_rfl) (by kernel_rfl) (fun _ _ dd _ _ h => by cases dd <;> exact h) hX.drew ?_
    refine wpHo_q' rfl rfl (fun KK hKK => ?_)
    apply Exists.intro
    refine ⟨fun wq hq => ?_, hKK _ ?_⟩
    · try dsimp only at hq
      first
        | exact run_load_op 26 _ _ rfl rfl ((hq.all _ _ _ (.tail _ (.head _))).loadCell (get_m hL) slI_cell)
        | exact run_load_op 26 _ _ rfl rfl ((hq.all _ _ _ (.tail _ (.head _))).loadCell (get_b hL) slI_cell)
        | (unfold execOp; go_simp; done)
        | (unfold execOp; go_simp; with_reducible rfl)
    clear hKK KK
    simp only [Act.put, List.setIfInBounds_toArray, List.set_cons_zero, List.set_cons_succ]
    refine wpHo_q' rfl rfl (fun KK hKK => ?_)
    apply Exists.intro
    refine ⟨fun wq hq => ?_, hKK _ ?_⟩
    · try dsimp only at hq
      first
        | exact run_load_op 26 _ _ rfl rfl ((hq.all _ _ _ (.tail _ (.head _))).loadCell (get_m hL) slI_cell)
        | exact run_load_op 26 _ _ rfl rfl ((hq.all _ _ _ (.tail _ (.head _))).loadCell (get_b hL) slI_cell)
        | (unfold execOp; go_simp; done)
        | (unfold execOp; go_simp; with_reducible rfl)
    clear hKK KK
    simp only [Act.put, List.setIfInBounds_toArray, List.set_cons_zero, List.set_cons_succ]
    refine wpHo_q' rfl rfl (fun KK hKK => ?_)
    apply Exists.intro
    refine ⟨fun wq hq => ?_, hKK _ ?_⟩
    · try dsimp only at hq
      first
        | exact run_load_op 26 _ _ rfl rfl ((hq.all _ _ _ (.tail _ (.head _))).loadCell (get_m hL) slI_cell)
        | exact run_load_op 26 _ _ rfl rfl ((hq.all _ _ _ (.tail _ (.head _))).loadCell (get_b hL) slI_cell)
        | (unfold execOp; go_simp; done)
        | (unfold execOp; go_simp; with_reducible rfl)
    clear hKK KK
    simp only [Act.put, List.setIfInBounds_toArray, List.set_cons_zero, List.set_cons_succ]
    refine wpHo_q' rfl rfl (fun KK hKK => ?_)
    apply Exists.intro
    refine ⟨fun wq hq => ?_, hKK _ ?_⟩
    · try dsimp only at hq
      first
        | exact run_load_op 26 _ _ rfl rfl ((hq.all _ _ _ (.tail _ (.head _))).loadCell (get_m hL) slI_cell)
        | exact run_load_op 26 _ _ rfl rfl ((hq.all _ _ _ (.tail _ (.head _))).loadCell (get_b hL) slI_cell)
        | (unfold execOp; go_simp; done)
        | (unfold execOp; go_simp; with_reducible rfl)
    clear hKK KK
    simp only [Act.put, List.setIfInBounds_toArray, List.set_cons_zero, List.set_cons_succ]
    refine wpHo_q' rfl rfl (fun KK hKK => ?_)
    apply Exists.intro
    refine ⟨fun wq hq => ?_, hKK _ ?_⟩
    · try dsimp only at hq
      first
        | exact run_load_op 26 _ _ rfl rfl ((hq.all _ _ _ (.tail _ (.head _))).loadCell (get_m hL) slI_cell)
        | exact run_load_op 26 _ _ rfl rfl ((hq.all _ _ _ (.tail _ (.head _))).loadCell (get_b hL) slI_cell)
        | (unfold execOp; go_simp; done)
        | (unfold execOp; go_simp; with_reducible rfl)
    clear hKK KK
    simp only [Act.put, List.setIfInBounds_toArray, List.set_cons_zero, List.set_cons_succ]
    refine wpHo_q' rfl rfl (fun KK hKK => ?_)
    apply Exists.intro
    refine ⟨fun wq hq => ?_, hKK _ ?_⟩
    · try dsimp only at hq
      first
        | exact run_load_op 26 _ _ rfl rfl ((hq.all _ _ _ (.tail _ (.head _))).loadCell (get_m hL) slI_cell)
        | exact run_load_op 26 _ _ rfl rfl ((hq.all _ _ _ (.tail _ (.head _))).loadCell (get_b hL) slI_cell)
        | (unfold execOp; go_simp; done)
        | (unfold execOp; go_simp; with_reducible rfl)
    clear hKK KK
    simp only [Act.put, List.setIfInBounds_toArray, List.set_cons_zero, List.set_cons_succ]
    refine wpHo_q' rfl rfl (fun KK hKK => ?_)
    apply Exists.intro
    refine ⟨fun wq hq => ?_, hKK _ ?_⟩
    · try dsimp only at hq
      first
        | exact run_load_op 26 _ _ rfl rfl ((hq.all _ _ _ (.tail _ (.head _))).loadCell (get_m hL) slI_cell)
        | exact run_load_op 26 _ _ rfl rfl ((hq.all _ _ _ (.tail _ (.head _))).loadCell (get_b hL) slI_cell)
        | (unfold execOp; go_simp; done)
        | (unfold execOp; go_simp; with_reducible rfl)
    clear hKK KK
    simp only [Act.put, List.setIfInBounds_toArray, List.set_cons_zero, List.set_cons_succ]
    refine wpHo_q' rfl rfl (fun KK hKK => ?_)
    apply Exists.intro
    refine ⟨fun wq hq => ?_, hKK _ ?_⟩
    · try dsimp only at hq
      first
        | exact run_load_op 26 _ _ rfl rfl ((hq.all _ _ _ (.tail _ (.head _))).loadCell (get_m hL) slI_cell)
        | exact run_load_op 26 _ _ rfl rfl ((hq.all _ _ _ (.tail _ (.head _))).loadCell (get_b hL) slI_cell)
        | (unfold execOp; go_simp; done)
        | (unfold execOp; go_simp; with_reducible rfl)
    clear hKK KK
    simp only [Act.put, List.setIfInBounds_toArray, List.set_cons_zero, List.set_cons_succ]
    refine wpHo_call rfl rfl (fun KK hKK => ?_)
    unfold Oper.semiAt
    go_simp
    simp only [semiUpon]
    refine ⟨trivial, ?_⟩
    refine (hlo _).mono ?_
    rintro e' wc ⟨rfl, hbb⟩
    refine ⟨_, rfl, hKK _ _ (hX.drew.step hbb) ?_⟩
    clear hKK KK
    have hX2 := hX.drew.step hbb
    clear hX
    have hX := hX2
    clear hX2 hbb
    simp only [Act.put, List.setIfInBounds_toArray, List.set_cons_zero, List.set_cons_succ]
    refine wpHo_call rfl rfl (fun KK hKK => ?_)
    unfold Oper.semiAt
    go_simp
    simp only [semiUpon]
    refine ⟨trivial, ?_⟩
    refine (hrm _ hX.below).mono ?_
    rintro e' wc ⟨r2, s2, rfl, hm2, hb2, hbb⟩
    refine ⟨_, rfl, hKK _ _ (hX.step hbb) ?_⟩
    clear hKK KK
    have hls := hX.below.size
    obtain ⟨hm3, hb3⟩ := mem_two (ownA18 hXl (show w.heap.size + 2 ≤ _ from (hX.all _ _ _ (.head _)).lt)) hm2 hb2
    clear hm2 hb2 hls
    have hX2 := hX.step hbb
    clear hX
    have hX := hX2
    clear hX2 hbb
    simp only [Act.put, List.setIfInBounds_toArray, List.set_cons_zero, List.set_cons_succ]
    refine wpHo_q' rfl rfl (fun KK hKK => ?_)
    apply Exists.intro
    refine ⟨fun wq hq => ?_, hKK _ ?_⟩
    · try dsimp only at hq
      first
        | exact run_load_op 26 _ _ rfl rfl ((hq.all _ _ _ (.tail _ (.head _))).loadCell (get_m hL) slI_cell)
        | exact run_load_op 26 _ _ rfl rfl ((hq.all _ _ _ (.tail _ (.head _))).loadCell (get_b hL) slI_cell)
        | (unfold execOp; go_simp; done)
        | (unfold execOp; go_simp; with_reducible rfl)
    clear hKK KK
    simp only [Act.put, List.setIfInBounds_toArray, List.set_cons_zero, List.set_cons_succ]
    refine wpHo_q' rfl rfl (fun KK hKK => ?_)
    apply Exists.intro
    refine ⟨fun wq hq => ?_, hKK _ ?_⟩
    · try dsimp only at hq
      first
        | exact run_load_op 26 _ _ rfl rfl ((hq.all _ _ _ (.tail _ (.head _))).loadCell (get_m hL) slI_cell)
        | exact run_load_op 26 _ _ rfl rfl ((hq.all _ _ _ (.tail _ (.head _))).loadCell (get_b hL) slI_cell)
        | (unfold execOp; go_simp; done)
        | (unfold execOp; go_simp; with_reducible rfl)
    clear hKK KK
    simp only [Act.put, List.setIfInBounds_toArray, List.set_cons_zero, List.set_cons_succ]
    refine wpHo_q' rfl rfl (fun KK hKK => ?_)
    apply Exists.intro
    refine ⟨fun wq hq => ?_, hKK _ ?_⟩
    · try dsimp only at hq
      first
        | exact run_load_op 26 _ _ rfl rfl ((hq.all _ _ _ (.tail _ (.head _))).loadCell (get_m hL) slI_cell)
        | exact run_load_op 26 _ _ rfl rfl ((hq.all _ _ _ (.tail _ (.head _))).loadCell (get_b hL) slI_cell)
        | (unfold execOp; go_simp; done)
        | (unfold execOp; go_simp; with_reducible rfl)
    clear hKK KK
    simp only [Act.put, List.setIfInBounds_toArray, List.set_cons_zero, List.set_cons_succ]
    refine wpHo_q' rfl rfl (fun KK hKK => ?_)
    apply Exists.intro
    refine ⟨fun wq hq => ?_, hKK _ ?_⟩
    · try dsimp only at hq
      first
        | exact run_load_op 26 _ _ rfl rfl ((hq.all _ _ _ (.tail _ (.head _))).loadCell (get_m hL) slI_cell)
        | exact run_load_op 26 _ _ rfl rfl ((hq.all _ _ _ (.tail _ (.head _))).loadCell (get_b hL) slI_cell)
        | (unfold execOp; go_simp; done)
        | (unfold execOp; go_simp; with_reducible rfl)
    clear hKK KK
    simp only [Act.put, List.setIfInBounds_toArray, List.set_cons_zero, List.set_cons_succ]
    refine wpHo_q' rfl rfl (fun KK hKK => ?_)
    apply Exists.intro
    refine ⟨fun wq hq => ?_, hKK _ ?_⟩
    · try dsimp only at hq
      first
        | exact run_load_op 26 _ _ rfl rfl ((hq.all _ _ _ (.tail _ (.head _))).loadCell (get_m hL) slI_cell)
        | exact run_load_op 26 _ _ rfl rfl ((hq.all _ _ _ (.tail _ (.head _))).loadCell (get_b hL) slI_cell)
        | (unfold execOp; go_simp; done)
        | (unfold execOp; go_simp; with_reducible rfl)
    clear hKK KK
    simp only [Act.put, List.setIfInBounds_toArray, List.set_cons_zero, List.set_cons_succ]
    refine wpHo_q' rfl rfl (fun KK hKK => ?_)
    apply Exists.intro
    refine ⟨fun wq hq => ?_, hKK _ ?_⟩
    · try dsimp only at hq
      first
        | exact run_load_op 26 _ _ rfl rfl ((hq.all _ _ _ (.tail _ (.head _))).loadCell (get_m hL) slI_cell)
        | exact run_load_op 26 _ _ rfl rfl ((hq.all _ _ _ (.tail _ (.head _))).loadCell (get_b hL) slI_cell)
        | (unfold execOp; go_simp; done)
        | (unfold execOp; go_simp; with_reducible rfl)
    clear hKK KK
    simp only [Act.put, List.setIfInBounds_toArray, List.set_cons_zero, List.set_cons_succ]
    refine wpHo_nil ?_
    simp only [List.drop_succ_cons, List.drop_zero]
    go_wp2_with (first | ((with_reducible refine at_load ?_); refine ldw (hn := Ma.clen hA) hX aggM sizM ?_) | ((with_reducible refine at_store ?_); refine stw hX aggM sizM (hV.cone hA) (hn := Ma.clen hA) (hc := mzL_len) ?_; intro wS hY hkS; replace hX := hY; clear hY hkS))
    exact bodyPost_ret (results_ct Tryz.results17 rfl ((hX.all _ _ _ (.head _)).loadVar (Ma.clen hA) aggM sizM)) rfl ⟨_, rfl, (hV.below hX.below).x, hX.below⟩
theorem rbWrite_odd (A : Ma) (hA : A.ok) (hR : A.right = true) (vm vb vl vs vd vt : Value) (X : Nat → Prop) (w : World) (hXl : ∀ b, X b → b < w.heap.size) (hV : MaV X w A vm vb vl vs vd vt) (p : Int) (b : Bool) (v : Int) (hp : ¬ physP p < 253952) (ho : (physP p - 253952) % 2 = 1) : Calls Tryz.prog 17 #[.agg (A.cells vm vb vl vs vd vt).toArray, .int .i64 p, .bool b, .int .i64 v] w fun e' w' => ∃ x, e' = .returned (.tuple #[x, .int .i64 (A.write p b v).2]) ∧ MaX X w' x (A.write p b v).1 ∧ Below w.heap.size w w' := by
  have hX := two_ma w (A.cells vm vb vl vs vd vt)
  have hph := fun wz => rphys_any p wz
  have h9 : physP p < 262144 := by unfold physP; omega
  unfold Ma.write
  rw [if_neg hp, if_pos ho]
  generalize physP p = P at *
  have w1 : IntKind.i64.wrap (P - 253952) = P - 253952 := by rw [wrap_i64]; unfold wrap64; omega
  have t1 : (P - 253952).tmod 2 = 1 := by rw [Int.tmod_eq_emod_of_nonneg (by omega)]; exact ho
  have w2 : IntKind.i64.wrap 1 = 1 := by decide
  clear ho h9
  go_enter Tryz.func17, Tryz.ntmps17
  go_upto_region 1 with (first | ((with_reducible refine at_alloc18 ?_); refine wpList_allocM rfl rfl ?_))
  generalize ((w.alloc (Obj.cells (A.cells vm vb vl vs vd vt).toArray 44)).alloc (Obj.cells mzL.toArray 44)) = wQ at hX ⊢
  go_wp2_with (first | ((with_reducible refine at_load ?_); refine ldw (hn := Ma.clen hA) hX aggM sizM ?_) | (go_at_call 39; (with_reducible refine (hph _).mono ?_); rintro e' wc ⟨rfl, hbb⟩; replace hX := hX.step hbb; clear hbb) | ((with_reducible refine at_store ?_); refine stw hX aggM sizM (hV.cone hA) (hn := Ma.clen hA) (hc := mzL_len) ?_; intro wS hY hkS; replace hX := hY; clear hY hkS))
  exact bodyPost_ret (results_ct Tryz.results17 rfl ((hX.all _ _ _ (.head _)).loadVar (Ma.clen hA) aggM sizM)) rfl ⟨_, rfl, (hV.below hX.below).x, hX.below⟩
theorem rbWrite_reg (A : Ma) (hA : A.ok) (hR : A.right = true) (vm vb vl vs vd vt : Value) (X : Nat → Prop) (w : World) (hXl : ∀ b, X b → b < w.heap.size) (hV : MaV X w A vm vb vl vs vd vt) (p : Int) (b : Bool) (v : Int) (hp : ¬ physP p < 253952) (ho : ¬ (physP p - 253952) % 2 = 1) : Calls Tryz.prog 17 #[.agg (A.cells vm vb vl vs vd vt).toArray, .int .i64 p, .bool b, .int .i64 v] w fun e' w' => ∃ x, e' = .returned (.tuple #[x, .int .i64 (A.write p b v).2]) ∧ MaX X w' x (A.write p b v).1 ∧ Below w.heap.size w w' := by
  have hX := two_ma w (A.cells vm vb vl vs vd vt)
  have hph := fun wz => rphys_any p wz
  have hlo := fun wz => rlow_any v b wz
  have h9 : physP p < 262144 := by unfold physP; omega
  unfold Ma.write
  rw [if_neg hp, if_neg ho]
  generalize physP p = P at *
  generalize lowV18 v b = lv at *
  obtain ⟨o, hoP⟩ : ∃ o, P - 253952 = o := ⟨_, rfl⟩
  have w1 : IntKind.i64.wrap (P - 253952) = o := by rw [hoP, wrap_i64]; unfold wrap64; omega
  rw [hoP] at ho ⊢
  have h0 : 0 ≤ o ∧ o < 8192 := by omega
  have t1 : o.tmod 2 = 0 := by rw [Int.tmod_eq_emod_of_nonneg h0.1]; omega
  have w2 : IntKind.i64.wrap 0 = 0 := by decide
  have hwr := fun (Xc : Nat → Prop) (wz : World) (hlt : ∀ b, Xc b → b < wz.heap.size) (hVz : MaV Xc wz A vm vb vl vs vd vt) => wrReg_any A hA hR vm vb vl vs vd vt Xc wz hlt hVz o lv h0
  have hA2 := wrR_ok hA o lv
  generalize A.wrR o lv = Q3 at *
  obtain ⟨A2, ok⟩ := Q3
  dsimp only at hwr hA2 ⊢
  clear hoP h0 ho h9 hR
  cases ok
  · rw [if_pos rfl]
    go_enter Tryz.func17, Tryz.ntmps17
    go_upto_region 1 with (first | ((with_reducible refine at_alloc18 ?_); refine wpList_allocM rfl rfl ?_))
    generalize ((w.alloc (Obj.cells (A.cells vm vb vl vs vd vt).toArray 44)).alloc (Obj.cells mzL.toArray 44)) = wQ at hX ⊢
    go_wp2_with (first | (go_at_call 39; (with_reducible refine (hph _).mono ?_); rintro e' wc ⟨rfl, hbb⟩; replace hX := hX.step hbb; clear hbb))
    replace hX := hX.drew
    refine region_hoistF (fun w' => Bag [(w.heap.size, 44, A.cells vm vb vl vs vd vt)] w w') 11 10 [9] [(0, false), (1, false), (2, false), (3, false), (4, true), (5, true), (6, false), (7, false), (8, false)] [(10, true)] (by kernel_rfl) (by kernel_rfl) (fun _ _ dd _ _ h => by cases dd <;> exact h) hX.restS ?_
    (try simp only [Act.put, List.setIfInBounds_toArray, List.set_cons_zero, List.set_cons_succ])
    repeat any_goals (first
      | (refine wpFl_q' rfl rfl (fun KK hKK => ?_)
         apply Exists.intro
         refine ⟨fun wq hq => ?_, hKK _ ?_⟩
         · try dsimp only at hq
           first
             | exact run_load_op 44 _ _ rfl rfl ((hq.all _ _ _ (.head _)).loadAt (Ma.clen hA) aggM sizM)
             | (unfold execOp; go_simp; done)
             | (unfold execOp; go_simp; with_reducible rfl)
         clear hKK KK
         simp only [Act.put, List.setIfInBounds_toArray, List.set_cons_zero, List.set_cons_succ])
      | (refine wpFl_call rfl rfl (fun KK hKK => ?_) ?_
    )
      | (unfold Oper.semiAt
         go_simp
         simp only [semiUpon]
         refine ⟨trivial, ?_⟩
         first
           | (refine (hlo _).mono ?_
              rintro e' wc ⟨rfl, hbb⟩
              refine ⟨_, rfl, hKK _ _ (by first | exact (hX.step hbb).restS.restS | exact (hX.step hbb).restS) ?_⟩
              clear hKK KK
              replace hX := hX.step hbb
              clear hbb
              simp only [Act.put, List.setIfInBounds_toArray, List.set_cons_zero, List.set_cons_succ])
           | (refine (hwr (OwnP X w.heap.size b9) _ (ownP_lt hXl (show w.heap.size + 2 ≤ _ from by first | exact (hX.all _ _ _ (.tail _ (.head _))).lt | exact (hX.all _ _ _ (.head _)).lt) (hX.all _ _ _ (.head _)).lt) (hV.weak hX.below (ownP_weak hb9))).mono ?_
              rintro e' wc ⟨x4, rfl, ⟨vm2, vb2, vl2, vs2, vd2, vt2, rfl, q1, q2, q3, q4, q5, q6⟩, hbb⟩
              refine ⟨_, rfl, hKK _ _ (by first | exact (hX.step hbb).restS.restS | exact (hX.step hbb).restS) ?_⟩
              clear hKK KK
              have hV2 : MaV (OwnP X w.heap.size b9) wc A2 vm2 vb2 vl2 vs2 vd2 vt2 := ⟨q1, q2, q3, q4, q5, q6⟩
              clear q1 q2 q3 q4 q5 q6
              replace hX := hX.step hbb
              clear hbb
              simp only [Act.put, List.setIfInBounds_toArray, List.set_cons_zero, List.set_cons_succ])
           | (refine (hwr (OwnA X w.heap.size) _ (ownA18 hXl (show w.heap.size + 2 ≤ _ from by first | exact (hX.all _ _ _ (.tail _ (.head _))).lt | exact (hX.all _ _ _ (.head _)).lt)) (hV.weak hX.below ownW18)).mono ?_
              rintro e' wc ⟨x4, rfl, ⟨vm2, vb2, vl2, vs2, vd2, vt2, rfl, q1, q2, q3, q4, q5, q6⟩, hbb⟩
              refine ⟨_, rfl, hKK _ _ (by first | exact (hX.step hbb).restS.restS | exact (hX.step hbb).restS) ?_⟩
              clear hKK KK
              have hV2 : MaV (OwnA X w.heap.size) wc A2 vm2 vb2 vl2 vs2 vd2 vt2 := ⟨q1, q2, q3, q4, q5, q6⟩
              clear q1 q2 q3 q4 q5 q6
              replace hX := hX.step hbb
              clear hbb
              simp only [Act.put, List.setIfInBounds_toArray, List.set_cons_zero, List.set_cons_succ]))
      | (refine pool1_18 ?_
    )
      | (exact pool0_18
    )
      | (refine wpFl_pool ?_
    )
      | (refine wpFl_alloc 44 mzL rfl rfl rfl run_allocM (fun b9 wa eb ew => ?_)
         have hb9 : w.heap.size ≤ b9 := eb ▸ hX.below.size
         have hba : Below _ _ wa := ew ▸ (Below.refl _ _).alloc (Nat.le_refl _) _
         have hXa := hX.new 44 mzL
         rw [← ew, ← eb] at hXa
         clear hX
         have hX := hXa
         clear hXa
         (try replace hV2 := hV2.weak hba (ownP_new (X := X) (N := w.heap.size) eb))
         clear hba eb ew
         refine ⟨hX.restS.restS, ?_⟩
         change wpFl _ _ _ _ _ _ [] _ _ _
         simp only [Act.put, List.setIfInBounds_toArray, List.set_cons_zero, List.set_cons_succ])
      | (refine wpFl_end ?_
         refine wpHp_over (cs' := A2.cells vm2 vb2 vl2 vs2 vd2 vt2) rfl rfl hX aggM sizM _ _ rfl rfl rfl rfl (Ma.clen hA2) mzL_len (hV2.cone hA2) (fun w7 hX7 hk7 => ⟨hX7.restS.restS, ?_⟩)
         replace hV2 := hV2.over hk7 (.inr rfl)
         clear hX hk7
         have hX := hX7
         clear hX7
         simp only [Act.put, List.setIfInBounds_toArray, List.set_cons_zero, List.set_cons_succ]
         refine wpHp_nil ?_
         simp only [List.drop_succ_cons, List.drop_zero]
         go_wp2_with (first | ((with_reducible refine at_load ?_); refine ldw (hn := Ma.clen hA) hX aggM sizM ?_) | ((with_reducible refine at_store ?_); refine stw2 hX aggM sizM (hV.cone hA) (hn := Ma.clen hA) (hc := mzL_len) ?_; intro wS hY hkS; replace hV2 := hV2.over hkS (.inl (.inr (.inr rfl))); replace hX := hY; clear hY hkS))
         exact bodyPost_ret (results_ct Tryz.results17 rfl ((hX.all _ _ _ (.tail _ (.head _))).loadVar (Ma.clen hA) aggM sizM)) rfl ⟨_, rfl, (hV.below hX.below).x, hX.below⟩))
  · rw [if_neg (by decide)]
    go_enter Tryz.func17, Tryz.ntmps17
    go_upto_region 1 with (first | ((with_reducible refine at_alloc18 ?_); refine wpList_allocM rfl rfl ?_))
    generalize ((w.alloc (Obj.cells (A.cells vm vb vl vs vd vt).toArray 44)).alloc (Obj.cells mzL.toArray 44)) = wQ at hX ⊢
    go_wp2_with (first | (go_at_call 39; (with_reducible refine (hph _).mono ?_); rintro e' wc ⟨rfl, hbb⟩; replace hX := hX.step hbb; clear hbb))
    replace hX := hX.drew
    refine region_hoistF (fun w' => Bag [(w.heap.size, 44, A.cells vm vb vl vs vd vt)] w w') 11 10 [9] [(0, false), (1, false), (2, false), (3, false), (4, true), (5, true), (6, false), (7, false), (8, false)] [(10, true)] (by kernel_rfl) (by kernel_rfl) (fun _ _ dd _ _ h => by cases dd <;> exact h) hX.restS ?_
    (try simp only [Act.put, List.setIfInBounds_toArray, List.set_cons_zero, List.set_cons_succ])
    repeat any_goals (first
      | (refine wpFl_q' rfl rfl (fun KK hKK => ?_)
         apply Exists.intro
         refine ⟨fun wq hq => ?_, hKK _ ?_⟩
         · try dsimp only at hq
           first
             | exact run_load_op 44 _ _ rfl rfl ((hq.all _ _ _ (.head _)).loadAt (Ma.clen hA) aggM sizM)
             | (unfold execOp; go_simp; done)
             | (unfold execOp; go_simp; with_reducible rfl)
         clear hKK KK
         simp only [Act.put, List.setIfInBounds_toArray, List.set_cons_zero, List.set_cons_succ])
      | (refine wpFl_call rfl rfl (fun KK hKK => ?_) ?_
    )
      | (unfold Oper.semiAt
         go_simp
         simp only [semiUpon]
         refine ⟨trivial, ?_⟩
         first
           | (refine (hlo _).mono ?_
              rintro e' wc ⟨rfl, hbb⟩
              refine ⟨_, rfl, hKK _ _ (by first | exact (hX.step hbb).restS.restS | exact (hX.step hbb).restS) ?_⟩
              clear hKK KK
              replace hX := hX.step hbb
              clear hbb
              simp only [Act.put, List.setIfInBounds_toArray, List.set_cons_zero, List.set_cons_succ])
           | (refine (hwr (OwnP X w.heap.size b9) _ (ownP_lt hXl (show w.heap.size + 2 ≤ _ from by first | exact (hX.all _ _ _ (.tail _ (.head _))).lt | exact (hX.all _ _ _ (.head _)).lt) (hX.all _ _ _ (.head _)).lt) (hV.weak hX.below (ownP_weak hb9))).mono ?_
              rintro e' wc ⟨x4, rfl, ⟨vm2, vb2, vl2, vs2, vd2, vt2, rfl, q1, q2, q3, q4, q5, q6⟩, hbb⟩
              refine ⟨_, rfl, hKK _ _ (by first | exact (hX.step hbb).restS.restS | exact (hX.step hbb).restS) ?_⟩
              clear hKK KK
              have hV2 : MaV (OwnP X w.heap.size b9) wc A2 vm2 vb2 vl2 vs2 vd2 vt2 := ⟨q1, q2, q3, q4, q5, q6⟩
              clear q1 q2 q3 q4 q5 q6
              replace hX := hX.step hbb
              clear hbb
              simp only [Act.put, List.setIfInBounds_toArray, List.set_cons_zero, List.set_cons_succ])
           | (refine (hwr (OwnA X w.heap.size) _ (ownA18 hXl (show w.heap.size + 2 ≤ _ from by first | exact (hX.all _ _ _ (.tail _ (.head _))).lt | exact (hX.all _ _ _ (.head _)).lt)) (hV.weak hX.below ownW18)).mono ?_
              rintro e' wc ⟨x4, rfl, ⟨vm2, vb2, vl2, vs2, vd2, vt2, rfl, q1, q2, q3, q4, q5, q6⟩, hbb⟩
              refine ⟨_, rfl, hKK _ _ (by first | exact (hX.step hbb).restS.restS | exact (hX.step hbb).restS) ?_⟩
              clear hKK KK
              have hV2 : MaV (OwnA X w.heap.size) wc A2 vm2 vb2 vl2 vs2 vd2 vt2 := ⟨q1, q2, q3, q4, q5, q6⟩
              clear q1 q2 q3 q4 q5 q6
              replace hX := hX.step hbb
              clear hbb
              simp only [Act.put, List.setIfInBounds_toArray, List.set_cons_zero, List.set_cons_succ]))
      | (refine pool1_18 ?_
    )
      | (exact pool0_18
    )
      | (refine wpFl_pool ?_
    )
      | (refine wpFl_alloc 44 mzL rfl rfl rfl run_allocM (fun b9 wa eb ew => ?_)
         have hb9 : w.heap.size ≤ b9 := eb ▸ hX.below.size
         have hba : Below _ _ wa := ew ▸ (Below.refl _ _).alloc (Nat.le_refl _) _
         have hXa := hX.new 44 mzL
         rw [← ew, ← eb] at hXa
         clear hX
         have hX := hXa
         clear hXa
         (try replace hV2 := hV2.weak hba (ownP_new (X := X) (N := w.heap.size) eb))
         clear hba eb ew
         refine ⟨hX.restS.restS, ?_⟩
         change wpFl _ _ _ _ _ _ [] _ _ _
         simp only [Act.put, List.setIfInBounds_toArray, List.set_cons_zero, List.set_cons_succ])
      | (refine wpFl_end ?_
         refine wpHp_over (cs' := A2.cells vm2 vb2 vl2 vs2 vd2 vt2) rfl rfl hX aggM sizM _ _ rfl rfl rfl rfl (Ma.clen hA2) mzL_len (hV2.cone hA2) (fun w7 hX7 hk7 => ⟨hX7.restS.restS, ?_⟩)
         replace hV2 := hV2.over hk7 (.inr rfl)
         clear hX hk7
         have hX := hX7
         clear hX7
         simp only [Act.put, List.setIfInBounds_toArray, List.set_cons_zero, List.set_cons_succ]
         refine wpHp_nil ?_
         simp only [List.drop_succ_cons, List.drop_zero]
         go_wp2_with (first | ((with_reducible refine at_load ?_); refine ldw (hn := Ma.clen hA2) hX aggM sizM ?_) | ((with_reducible refine at_store ?_); refine stw2 hX aggM sizM (hV2.cone hA2) (hn := Ma.clen hA2) (hc := mzL_len) ?_; intro wS hY hkS; replace hV2 := hV2.over hkS (.inl (.inr (.inr rfl))); replace hX := hY; clear hY hkS))
         exact bodyPost_ret (results_ct Tryz.results17 rfl ((hX.all _ _ _ (.tail _ (.head _))).loadVar (Ma.clen hA2) aggM sizM)) rfl ⟨_, rfl, (hV2.less (fun _ h => .inl (.inl h))).x, hX.below⟩))
theorem rbWrite_any (A : Ma) (hA : A.ok) (hR : A.right = true) (vm vb vl vs vd vt : Value) (X : Nat → Prop) (w : World) (hXl : ∀ b, X b → b < w.heap.size) (hV : MaV X w A vm vb vl vs vd vt) (p : Int) (b : Bool) (v : Int) : Calls Tryz.prog 17 #[.agg (A.cells vm vb vl vs vd vt).toArray, .int .i64 p, .bool b, .int .i64 v] w fun e' w' => ∃ x, e' = .returned (.tuple #[x, .int .i64 (A.write p b v).2]) ∧ MaX X w' x (A.write p b v).1 ∧ Below w.heap.size w w' := by
  by_cases hp : physP p < 253952
  · exact rbWrite_mem A hA hR vm vb vl vs vd vt X w hXl hV p b v hp
  by_cases ho : (physP p - 253952) % 2 = 1
  · exact rbWrite_odd A hA hR vm vb vl vs vd vt X w hXl hV p b v hp ho
  · exact rbWrite_reg A hA hR vm vb vl vs vd vt X w hXl hV p b v hp ho
end Go.Proofs.YthpnddgfgpacpaaGreat
