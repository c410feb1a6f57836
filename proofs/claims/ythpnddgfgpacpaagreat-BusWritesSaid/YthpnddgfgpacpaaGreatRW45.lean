import Derived.Test.YthpnddgfgpacpaaGreatRW44
import Derived.Deep.CutBlock
/-
  BusWrites.
-/
namespace Go.Proofs.YthpnddgfgpacpaaGreat
open Go.RowKit
set_option linter.unusedSimpArgs false
set_option linter.unusedVariables false
set_option maxHeartbeats 4000000
set_option maxRecDepth 100000
attribute [local irreducible] wpQuiet

theorem acc0 (p : Int) (b : Bool) (v : Int) : ([Value.int .i64 p, .bool b, .int .i64 v] : List Value)[0]? = some (.int .i64 p) := rfl
theorem acc1 (p : Int) (b : Bool) (v : Int) : ([Value.int .i64 p, .bool b, .int .i64 v] : List Value)[1]? = some (.bool b) := rfl
theorem acc2 (p : Int) (b : Bool) (v : Int) : ([Value.int .i64 p, .bool b, .int .i64 v] : List Value)[2]? = some (.int .i64 v) := rfl
theorem Ma.right_few {A : Ma} (h : A.right = true) : A.few := by
  have f := fewM_of h
  exact ⟨f.2.1, f.2.2, f.1.2.1, f.1.2.2.1, f.1.2.2.2⟩
theorem write_C (A : Ma) (p : Int) (b : Bool) (v : Int) : (A.write p b v).1.C = A.C := by
  unfold Ma.write Ma.wrR Ma.put
  repeat' split
  all_goals rfl
theorem BusWrites_law (A : Ma) (hA : A.ok) (c : List Int) (hc : A.C = c.map (Value.int .i64)) (hc10 : c.length = 10) (vm vb vl vs vd vt : Value) (w : World) (hN : MaNow w A vm vb vl vs vd vt) (p : Int) (b : Bool) (v : Int) : Calls Tryz.prog 5 #[.agg (A.cells vm vb vl vs vd vt).toArray, .agg #[.int .i64 p, .bool b, .int .i64 v]] w fun e' w' => e' = .returned (.bool true) ∧ Below w.heap.size w w' := by
  have hV := hN.sv18
  have hsm := fun wz (hb : Below w.heap.size w wz) => small_any A hA vm vb vl vs vd vt wz (hN.step hb)
  have hrr := fun wz (hb : Below w.heap.size w wz) (hl : A.little) => rbRight_any A hA (Ma.little_few hl) vm vb vl vs vd vt wz (hN.step hb)
  have hXm := two_bag w 44 53 (A.cells vm vb vl vs vd vt) [.int .i64 p, .bool b, .int .i64 v]
  cases hR : A.right
  · rw [hR] at hrr
    go_enter Tryz.func5, Tryz.ntmps5
    go_upto_region 1 with fail
    replace hV := hV.below hXm.below
    generalize ((w.alloc (Obj.cells (A.cells vm vb vl vs vd vt).toArray 44)).alloc (Obj.cells #[.int .i64 p, .bool b, .int .i64 v] 53)) = wQ at hXm hV ⊢
    have hXa := Bag.top hXm
    replace hXm := hXm.drop1
    go_wp2_with (first | ((with_reducible refine at_ld 44 ?_); first | refine ldw (hn := Ma.clen hA) hXm aggM sizM ?_) | (go_at_call 10; (with_reducible refine (hsm _ hXm.below).mono ?_); rintro e' wr ⟨bb, rfl, hlt, hbb⟩; (try replace hXm := hXm.step hbb); (try replace hXx := hXx.step hbb); (try replace hXy := hXy.step hbb); (try replace hV := hV.below hbb); (try replace hVx := hVx.below hbb); (try replace hVy := hVy.below hbb); clear hbb; cases bb) | (go_at_call 12; have hcc := hrr _ hXm.below (hlt (by first | exact rfl | trivial)); (with_reducible refine hcc.mono ?_); clear hcc; rintro e' wr ⟨rfl, hbb⟩; (try replace hXm := hXm.step hbb); (try replace hXx := hXx.step hbb); (try replace hXy := hXy.step hbb); (try replace hV := hV.below hbb); (try replace hVx := hVx.below hbb); (try replace hVy := hVy.below hbb); clear hbb) | (go_at_call 9; (with_reducible refine (alive_any _).mono ?_); rintro e' wr ⟨rfl, hbb⟩; (try replace hXm := hXm.step hbb); (try replace hXx := hXx.step hbb); (try replace hXy := hXy.step hbb); (try replace hV := hV.below hbb); (try replace hVx := hVx.below hbb); (try replace hVy := hVy.below hbb); clear hbb))
    all_goals exact bodyPost_ret (results_tmp (by rfl) _ _ _) rfl ⟨rfl, hXm.below⟩
  · rw [hR] at hrr
    have hA2 := Ma.write_ok hA p v b
    have hR2 := Ma.write_right hA hR p v b
    have hS2 := Ma.right_small hR2
    have hF2 := Ma.right_few hR2
    have hc2 : (A.write p b v).1.C = c.map (Value.int .i64) := (write_C A p b v).trans hc
    have hrd := fun wz (hV : MaV noB wz A vm vb vl vs vd vt) => bpWrite wz A vm vb vl vs vd vt p b v noB wz (Below.refl _ _) hA hR (fun _ q => q.elim) hV
    have hrf := fun wz (hV : MaV noB wz A vm vb vl vs vd vt) => rbWrite_any A hA hR vm vb vl vs vd vt noB wz (fun _ q => q.elim) hV p b v
    generalize A.write p b v = RR at *
    obtain ⟨A2, rt0⟩ := RR
    dsimp only at hA2 hS2 hc2 hrd hrf hR2 hF2
    clear hc hN
    go_enter Tryz.func5, Tryz.ntmps5
    go_upto_region 1 with fail
    replace hV := hV.below hXm.below
    generalize ((w.alloc (Obj.cells (A.cells vm vb vl vs vd vt).toArray 44)).alloc (Obj.cells #[.int .i64 p, .bool b, .int .i64 v] 53)) = wQ at hXm hV ⊢
    have hXa := Bag.top hXm
    replace hXm := hXm.drop1
    go_wp2_with (first | ((with_reducible refine at_ld 44 ?_); first | refine ldw (hn := Ma.clen hA) hXm aggM sizM ?_ | refine ldw (hn := Ma.clen hA2) hXx aggM sizM ?_ | refine ldw (hn := Ma.clen hA2) hXy aggM sizM ?_) | ((with_reducible refine at_ld 3 ?_); first | refine ldc (hk := acc0 p b v) hXa int_cell ?_ | refine ldc (hk := acc2 p b v) hXa int_cell ?_) | ((with_reducible refine at_ld 4 ?_); refine ldc (hk := acc1 p b v) hXa bool_cell ?_) | (go_at_call 10; (with_reducible refine (hsm _ hXm.below).mono ?_); rintro e' wr ⟨bb, rfl, hlt, hbb⟩; (try replace hXa := hXa.step hbb); (try replace hXm := hXm.step hbb); (try replace hXx := hXx.step hbb); (try replace hXy := hXy.step hbb); (try replace hV := hV.below hbb); (try replace hVx := hVx.below hbb); (try replace hVy := hVy.below hbb); clear hbb; cases bb) | (go_at_call 12; have hcc := hrr _ hXm.below (hlt (by first | exact rfl | trivial)); (with_reducible refine hcc.mono ?_); clear hcc; rintro e' wr ⟨rfl, hbb⟩; (try replace hXa := hXa.step hbb); (try replace hXm := hXm.step hbb); (try replace hXx := hXx.step hbb); (try replace hXy := hXy.step hbb); (try replace hV := hV.below hbb); (try replace hVx := hVx.below hbb); (try replace hVy := hVy.below hbb); clear hbb) | (go_at_call 9; (with_reducible refine (alive_any _).mono ?_); rintro e' wr ⟨rfl, hbb⟩; (try replace hXa := hXa.step hbb); (try replace hXm := hXm.step hbb); (try replace hXx := hXx.step hbb); (try replace hXy := hXy.step hbb); (try replace hV := hV.below hbb); (try replace hVx := hVx.below hbb); (try replace hVy := hVy.below hbb); clear hbb) | ((with_reducible refine at_alloc18 ?_); refine wpList_allocM rfl rfl ?_) | ((with_reducible refine at_st 44 ?_); first | (refine stn hXm aggM sizM (hVy.cone hA2) ?_ (hn := Ma.clen hA2) (hm := mzL_len); intro w3 hY hbb; have hXy := Bag.top hY; (try replace hXa := hXa.step hbb); (try replace hXm := hXm.step hbb); (try replace hXx := hXx.step hbb); (try replace hV := hV.below hbb); (try replace hVx := hVx.below hbb); (try replace hVy := hVy.below hbb); clear hY hbb) | (refine stn hXm aggM sizM (hVx.cone hA2) ?_ (hn := Ma.clen hA2) (hm := mzL_len); intro w3 hY hbb; have hXx := Bag.top hY; (try replace hXa := hXa.step hbb); (try replace hXm := hXm.step hbb); (try replace hXy := hXy.step hbb); (try replace hV := hV.below hbb); (try replace hVx := hVx.below hbb); (try replace hVy := hVy.below hbb); clear hY hbb)) | (go_at_call 16; have hcc := hrd _ hV; (with_reducible refine hcc.mono ?_); clear hcc; rintro e' wr ⟨x, rfl, ⟨rm, rb, rl, rs, rd, rt, rfl, r1, r2, r3, r4, r5, r6⟩, hbb⟩; (try replace hXa := hXa.step hbb); (try replace hXm := hXm.step hbb); (try replace hXx := hXx.step hbb); (try replace hXy := hXy.step hbb); (try replace hV := hV.below hbb); (try replace hVx := hVx.below hbb); (try replace hVy := hVy.below hbb); have hVx : MaV noB wr _ rm rb rl rs rd rt := ⟨r1, r2, r3, r4, r5, r6⟩; clear hbb r1 r2 r3 r4 r5 r6) | (go_at_call 17; have hcc := hrf _ hV; (with_reducible refine hcc.mono ?_); clear hcc; rintro e' wr ⟨x, rfl, ⟨rm, rb, rl, rs, rd, rt, rfl, r1, r2, r3, r4, r5, r6⟩, hbb⟩; (try replace hXa := hXa.step hbb); (try replace hXm := hXm.step hbb); (try replace hXx := hXx.step hbb); (try replace hXy := hXy.step hbb); (try replace hV := hV.below hbb); (try replace hVx := hVx.below hbb); (try replace hVy := hVy.below hbb); have hVy : MaV noB wr _ rm rb rl rs rd rt := ⟨r1, r2, r3, r4, r5, r6⟩; clear hbb r1 r2 r3 r4 r5 r6) | (go_at_call 15; have hcc := rsameMa_any hA2 hS2 c hc2 hc10 _ hVx.now hVy.now; (with_reducible refine hcc.mono ?_); clear hcc; rintro e' wr ⟨rfl, hbb⟩; (try replace hXa := hXa.step hbb); (try replace hXm := hXm.step hbb); (try replace hXx := hXx.step hbb); (try replace hXy := hXy.step hbb); (try replace hV := hV.below hbb); (try replace hVx := hVx.below hbb); (try replace hVy := hVy.below hbb); clear hbb) | (go_at_call 11; have hcc := bpRight _ A2 _ _ _ _ _ _ _ (Below.refl _ _) hA2 hF2 hVx.now; rw [hR2] at hcc; (with_reducible refine hcc.mono ?_); clear hcc; rintro e' wr ⟨rfl, hbb⟩; (try replace hXa := hXa.step hbb); (try replace hXm := hXm.step hbb); (try replace hXx := hXx.step hbb); (try replace hXy := hXy.step hbb); (try replace hV := hV.below hbb); (try replace hVx := hVx.below hbb); (try replace hVy := hVy.below hbb); clear hbb))
    all_goals exact bodyPost_ret (results_tmp (by rfl) _ _ _) rfl ⟨rfl, hXm.below⟩
end Go.Proofs.YthpnddgfgpacpaaGreat
/-
  Small of the laws gives one answer for one machine. No condition.
-/
namespace Go.Proofs.YthpnddgfgpacpaaGreat
open Go.RowKit
set_option linter.unusedSimpArgs false
set_option linter.unusedVariables false
set_option maxHeartbeats 4000000
set_option maxRecDepth 100000
attribute [local irreducible] wpQuiet

def stS (n : Int) (x : ByteArray) : Int := wrap64 (n + if 100000 < (x.size : Int) then 100000 else (x.size : Int))
theorem stS_min (n : Int) (x : ByteArray) : stS n x = wrap64 (n + min (x.size : Int) 100000) := by
  unfold stS
  rw [show (if 100000 < (x.size : Int) then (100000 : Int) else (x.size : Int)) = min (x.size : Int) 100000 by split <;> omega]
def sumS {α : Type} (g : α → ByteArray) (n : Int) (l : List α) (k : Nat) : Int := (l.take k).foldl (fun n x => stS n (g x)) n
theorem sum_step {α : Type} (g : α → ByteArray) (n : Int) {l : List α} {i : Nat} {x : α} (h : l[i]? = some x) : sumS g n l (i + 1) = stS (sumS g n l i) (g x) := by
  unfold sumS
  rw [List.take_add_one, h]
  simp
theorem sum_end {α : Type} (g : α → ByteArray) (n : Int) {l : List α} {i k : Nat} (h : l.length ≤ i) (hk : l.length ≤ k) : sumS g n l i = sumS g n l k := by
  unfold sumS
  rw [List.take_of_length_le h, List.take_of_length_le hk]
def Ma.sumA (A : Ma) : Int := sumS (fun (y : Ln) => y.s) (sumS (fun (y : ByteArray) => y) (sumS (fun (y : ByteArray) => y) 0 A.K.D.S 300) A.T.R 300) A.L 9
instance littleDec18 (A : Ma) : Decidable A.little := by unfold Ma.little; exact inferInstance
def Ma.smallB (A : Ma) : Bool := decide (A.sumA ≤ 60000 ∧ A.little)
theorem small_det (A : Ma) (hA : A.ok) (vm vb vl vs vd vt : Value) (w : World) (hN : MaNow w A vm vb vl vs vd vt) : Calls Tryz.prog 10 #[.agg (A.cells vm vb vl vs vd vt).toArray] w fun e' w' => e' = .returned (.bool A.smallB) ∧ Below w.heap.size w w' := by
  obtain ⟨Am, cm, rfl, _, _⟩ := hN.m.form
  obtain ⟨Ab, cb, rfl, _, _⟩ := hN.b.form
  obtain ⟨Al, cl, rfl, _, hcl⟩ := lns_out hN.l
  obtain ⟨As, cs, rfl, _, hcs⟩ := hN.s.form
  obtain ⟨Ad, cd, rfl, _, _⟩ := hN.d.form
  obtain ⟨At, ct, rfl, _, hct⟩ := hN.t.form
  have hL := Ma.len hA (.slice As A.K.D.S.length cs) (.slice Ad A.K.D.B.length cd) (.slice At A.T.R.length ct)
  have hX := (Bag.nil w).new 44 (A.cells (.slice Am A.M.length cm) (.slice Ab A.B.length cb) (.slice Al A.L.length cl) (.slice As A.K.D.S.length cs) (.slice Ad A.K.D.B.length cd) (.slice At A.T.R.length ct))
  clear hN
  go_enter Tryz.func10, Tryz.ntmps10
  go_upto_block 0 with fail
  go_cut [3, 4] from 7 to 30 (fun s i wx => ∃ k : Int, s = .int .i64 (sumS (fun (y : ByteArray) => y) (0) A.K.D.S 300) ∧ i = .int .i64 k ∧ Bag [(w.heap.size, 44, A.cells (.slice Am A.M.length cm) (.slice Ab A.B.length cb) (.slice Al A.L.length cl) (.slice As A.K.D.S.length cs) (.slice Ad A.K.D.B.length cd) (.slice At A.T.R.length ct))] w wx)
  case first =>
    go_wp2_with fail
    go_loopw [3, 4] (fun s iv wr => ∃ (i : Nat), s = .int .i64 (sumS (fun (y : ByteArray) => y) (0) A.K.D.S i) ∧ i ≤ 300 ∧ iv = .int .i64 i ∧ Bag [(w.heap.size, 44, A.cells (.slice Am A.M.length cm) (.slice Ab A.B.length cb) (.slice Al A.L.length cl) (.slice As A.K.D.S.length cs) (.slice Ad A.K.D.B.length cd) (.slice At A.T.R.length ct))] w wr) (fun _ iv _ => match iv with | .int _ q => 300 - q.toNat | _ => 0)
    case atStart => exact ⟨0, rfl, by omega, rfl, hX⟩
    case round =>
      clear hX
      obtain ⟨i, rfl, hi, rfl, hX⟩ := hrel
      by_cases h1 : i < A.K.D.S.length
      · have hii : (i : Int) < (A.K.D.S.length : Int) := by omega
        by_cases h2 : i < 300
        · have h2i : (i : Int) < 300 := by omega
          have hx := List.getElem?_eq_getElem h1
          generalize A.K.D.S[i] = x at *
          obtain ⟨a, rfl, hLd⟩ := hcs i x hx
          have hst := sum_step (fun (y : ByteArray) => y) (0) hx
          clear hx
          generalize hsm : (sumS (fun (y : ByteArray) => y) (0) A.K.D.S i) = sm at *
          go_wp2_with (first | ((with_reducible refine at_load ?_); refine ldc (v := .slice _ A.K.D.S.length cs) hX slS_cell ?_ (hk := get_d hL 0 _ rfl)) | ((with_reducible refine at_ld 9 ?_); refine wpList_load_run rfl 9 _ _ _ rfl rfl (hLd _ hX.below) ?_))
          exact ⟨⟨i + 1, (by first | exact congrArg _ hst.symm | exact congrArg _ ((stS_min _ _).symm.trans hst.symm)), by omega, by go_num, hX⟩, by simp only; omega⟩
        · have h2i : ¬ (i : Int) < 300 := by omega
          have hen : (sumS (fun (y : ByteArray) => y) (0) A.K.D.S i) = (sumS (fun (y : ByteArray) => y) (0) A.K.D.S 300) := congrArg _ (by omega)
          go_wp2_with (first | ((with_reducible refine at_load ?_); refine ldc (v := .slice _ A.K.D.S.length cs) hX slS_cell ?_ (hk := get_d hL 0 _ rfl)))
          go_meet
          exact ⟨_, (by first | rfl | exact congrArg _ hen), rfl, hX⟩
      · have hii : ¬ (i : Int) < (A.K.D.S.length : Int) := by omega
        have hen : (sumS (fun (y : ByteArray) => y) (0) A.K.D.S i) = (sumS (fun (y : ByteArray) => y) (0) A.K.D.S 300) := sum_end (fun (y : ByteArray) => y) (0) (by omega) (by omega)
        go_wp2_with (first | ((with_reducible refine at_load ?_); refine ldc (v := .slice _ A.K.D.S.length cs) hX slS_cell ?_ (hk := get_d hL 0 _ rfl)))
        go_meet
        exact ⟨_, (by first | rfl | exact congrArg _ hen), rfl, hX⟩
  case rest =>
  clear hX
  obtain ⟨k0, rfl, rfl, hX⟩ := hcut
  go_upto_block 2 with fail
  go_cut [3, 5] from 31 to 52 (fun s i wx => ∃ k : Int, s = .int .i64 (sumS (fun (y : ByteArray) => y) (sumS (fun (y : ByteArray) => y) 0 A.K.D.S 300) A.T.R 300) ∧ i = .int .i64 k ∧ Bag [(w.heap.size, 44, A.cells (.slice Am A.M.length cm) (.slice Ab A.B.length cb) (.slice Al A.L.length cl) (.slice As A.K.D.S.length cs) (.slice Ad A.K.D.B.length cd) (.slice At A.T.R.length ct))] w wx)
  case first =>
    go_wp2_with fail
    go_loopw [3, 5] (fun s iv wr => ∃ (i : Nat), s = .int .i64 (sumS (fun (y : ByteArray) => y) (sumS (fun (y : ByteArray) => y) 0 A.K.D.S 300) A.T.R i) ∧ i ≤ 300 ∧ iv = .int .i64 i ∧ Bag [(w.heap.size, 44, A.cells (.slice Am A.M.length cm) (.slice Ab A.B.length cb) (.slice Al A.L.length cl) (.slice As A.K.D.S.length cs) (.slice Ad A.K.D.B.length cd) (.slice At A.T.R.length ct))] w wr) (fun _ iv _ => match iv with | .int _ q => 300 - q.toNat | _ => 0)
    case atStart => exact ⟨0, rfl, by omega, rfl, hX⟩
    case round =>
      clear hX
      obtain ⟨i, rfl, hi, rfl, hX⟩ := hrel
      by_cases h1 : i < A.T.R.length
      · have hii : (i : Int) < (A.T.R.length : Int) := by omega
        by_cases h2 : i < 300
        · have h2i : (i : Int) < 300 := by omega
          have hx := List.getElem?_eq_getElem h1
          generalize A.T.R[i] = x at *
          obtain ⟨a, rfl, hLd⟩ := hct i x hx
          have hst := sum_step (fun (y : ByteArray) => y) (sumS (fun (y : ByteArray) => y) 0 A.K.D.S 300) hx
          clear hx
          generalize hsm : (sumS (fun (y : ByteArray) => y) (sumS (fun (y : ByteArray) => y) 0 A.K.D.S 300) A.T.R i) = sm at *
          go_wp2_with (first | ((with_reducible refine at_load ?_); refine ldc (v := .slice _ A.T.R.length ct) hX slS_cell ?_ (hk := get_t hL 0 _ rfl)) | ((with_reducible refine at_ld 9 ?_); refine wpList_load_run rfl 9 _ _ _ rfl rfl (hLd _ hX.below) ?_))
          exact ⟨⟨i + 1, (by first | exact congrArg _ hst.symm | exact congrArg _ ((stS_min _ _).symm.trans hst.symm)), by omega, by go_num, hX⟩, by simp only; omega⟩
        · have h2i : ¬ (i : Int) < 300 := by omega
          have hen : (sumS (fun (y : ByteArray) => y) (sumS (fun (y : ByteArray) => y) 0 A.K.D.S 300) A.T.R i) = (sumS (fun (y : ByteArray) => y) (sumS (fun (y : ByteArray) => y) 0 A.K.D.S 300) A.T.R 300) := congrArg _ (by omega)
          go_wp2_with (first | ((with_reducible refine at_load ?_); refine ldc (v := .slice _ A.T.R.length ct) hX slS_cell ?_ (hk := get_t hL 0 _ rfl)))
          go_meet
          exact ⟨_, (by first | rfl | exact congrArg _ hen), rfl, hX⟩
      · have hii : ¬ (i : Int) < (A.T.R.length : Int) := by omega
        have hen : (sumS (fun (y : ByteArray) => y) (sumS (fun (y : ByteArray) => y) 0 A.K.D.S 300) A.T.R i) = (sumS (fun (y : ByteArray) => y) (sumS (fun (y : ByteArray) => y) 0 A.K.D.S 300) A.T.R 300) := sum_end (fun (y : ByteArray) => y) (sumS (fun (y : ByteArray) => y) 0 A.K.D.S 300) (by omega) (by omega)
        go_wp2_with (first | ((with_reducible refine at_load ?_); refine ldc (v := .slice _ A.T.R.length ct) hX slS_cell ?_ (hk := get_t hL 0 _ rfl)))
        go_meet
        exact ⟨_, (by first | rfl | exact congrArg _ hen), rfl, hX⟩
  case rest =>
  clear hX
  obtain ⟨k2, rfl, rfl, hX⟩ := hcut
  go_upto_block 4 with fail
  go_cut [3, 6] from 53 to 73 (fun s i wx => ∃ k : Int, s = .int .i64 (sumS (fun (y : Ln) => y.s) (sumS (fun (y : ByteArray) => y) (sumS (fun (y : ByteArray) => y) 0 A.K.D.S 300) A.T.R 300) A.L 9) ∧ i = .int .i64 k ∧ Bag [(w.heap.size, 44, A.cells (.slice Am A.M.length cm) (.slice Ab A.B.length cb) (.slice Al A.L.length cl) (.slice As A.K.D.S.length cs) (.slice Ad A.K.D.B.length cd) (.slice At A.T.R.length ct))] w wx)
  case first =>
    go_wp2_with fail
    go_loopw [3, 6] (fun s iv wr => ∃ (i : Nat), s = .int .i64 (sumS (fun (y : Ln) => y.s) (sumS (fun (y : ByteArray) => y) (sumS (fun (y : ByteArray) => y) 0 A.K.D.S 300) A.T.R 300) A.L i) ∧ i ≤ 9 ∧ iv = .int .i64 i ∧ Bag [(w.heap.size, 44, A.cells (.slice Am A.M.length cm) (.slice Ab A.B.length cb) (.slice Al A.L.length cl) (.slice As A.K.D.S.length cs) (.slice Ad A.K.D.B.length cd) (.slice At A.T.R.length ct))] w wr) (fun _ iv _ => match iv with | .int _ q => 9 - q.toNat | _ => 0)
    case atStart => exact ⟨0, rfl, by omega, rfl, hX⟩
    case round =>
      clear hX
      obtain ⟨i, rfl, hi, rfl, hX⟩ := hrel
      by_cases h1 : i < A.L.length
      · have hii : (i : Int) < (A.L.length : Int) := by omega
        by_cases h2 : i < 9
        · have h2i : (i : Int) < 9 := by omega
          have hx := List.getElem?_eq_getElem h1
          generalize A.L[i] = x at *
          obtain ⟨a, rfl, hLd⟩ := hcl i x hx
          have hst := sum_step (fun (y : Ln) => y.s) (sumS (fun (y : ByteArray) => y) (sumS (fun (y : ByteArray) => y) 0 A.K.D.S 300) A.T.R 300) hx
          clear hx
          generalize hsm : (sumS (fun (y : Ln) => y.s) (sumS (fun (y : ByteArray) => y) (sumS (fun (y : ByteArray) => y) 0 A.K.D.S 300) A.T.R 300) A.L i) = sm at *
          go_wp2_with (first | ((with_reducible refine at_load ?_); refine ldc (v := .slice _ A.L.length cl) hX slL_cell ?_ (hk := get_l hL)) | ((with_reducible refine at_ld 9 ?_); refine wpList_load_run rfl 9 _ _ _ rfl rfl (hLd _ hX.below) ?_))
          exact ⟨⟨i + 1, (by first | exact congrArg _ hst.symm | exact congrArg _ ((stS_min _ _).symm.trans hst.symm)), by omega, by go_num, hX⟩, by simp only; omega⟩
        · have h2i : ¬ (i : Int) < 9 := by omega
          have hen : (sumS (fun (y : Ln) => y.s) (sumS (fun (y : ByteArray) => y) (sumS (fun (y : ByteArray) => y) 0 A.K.D.S 300) A.T.R 300) A.L i) = (sumS (fun (y : Ln) => y.s) (sumS (fun (y : ByteArray) => y) (sumS (fun (y : ByteArray) => y) 0 A.K.D.S 300) A.T.R 300) A.L 9) := congrArg _ (by omega)
          go_wp2_with (first | ((with_reducible refine at_load ?_); refine ldc (v := .slice _ A.L.length cl) hX slL_cell ?_ (hk := get_l hL)))
          go_meet
          exact ⟨_, (by first | rfl | exact congrArg _ hen), rfl, hX⟩
      · have hii : ¬ (i : Int) < (A.L.length : Int) := by omega
        have hen : (sumS (fun (y : Ln) => y.s) (sumS (fun (y : ByteArray) => y) (sumS (fun (y : ByteArray) => y) 0 A.K.D.S 300) A.T.R 300) A.L i) = (sumS (fun (y : Ln) => y.s) (sumS (fun (y : ByteArray) => y) (sumS (fun (y : ByteArray) => y) 0 A.K.D.S 300) A.T.R 300) A.L 9) := sum_end (fun (y : Ln) => y.s) (sumS (fun (y : ByteArray) => y) (sumS (fun (y : ByteArray) => y) 0 A.K.D.S 300) A.T.R 300) (by omega) (by omega)
        go_wp2_with (first | ((with_reducible refine at_load ?_); refine ldc (v := .slice _ A.L.length cl) hX slL_cell ?_ (hk := get_l hL)))
        go_meet
        exact ⟨_, (by first | rfl | exact congrArg _ hen), rfl, hX⟩
  case rest =>
  clear hX
  obtain ⟨k4, rfl, rfl, hX⟩ := hcut
  clear hcl hcs hct
  obtain ⟨n4, hn4⟩ : ∃ n4, A.sumA = n4 := ⟨_, rfl⟩
  rw [show sumS (fun (y : Ln) => y.s) (sumS (fun (y : ByteArray) => y) (sumS (fun (y : ByteArray) => y) 0 A.K.D.S 300) A.T.R 300) A.L 9 = n4 from hn4]
  by_cases c1 : ¬ n4 ≤ 60000
  · have ic1 : ¬ n4 ≤ 60000 := by omega
    go_wp2_with (first | ((with_reducible refine at_load ?_); refine ldc (v := .slice _ A.M.length cm) hX slI_cell ?_ (hk := get_m hL)) | ((with_reducible refine at_load ?_); refine ldc (v := .slice _ A.B.length cb) hX slI_cell ?_ (hk := get_b hL)) | ((with_reducible refine at_load ?_); refine ldc (v := .slice _ A.L.length cl) hX slL_cell ?_ (hk := get_l hL)) | ((with_reducible refine at_load ?_); refine ldc (v := .slice _ A.K.D.S.length cs) hX slS_cell ?_ (hk := get_d hL 0 _ rfl)) | ((with_reducible refine at_load ?_); refine ldc (v := .slice _ A.K.D.B.length cd) hX slI_cell ?_ (hk := get_d hL 1 _ rfl)) | ((with_reducible refine at_load ?_); refine ldc (v := .slice _ A.T.R.length ct) hX slS_cell ?_ (hk := get_t hL 0 _ rfl)))
    go_ret
    exact ⟨congrArg (fun q => Ending.returned (Value.bool q)) (show A.smallB = false from decide_eq_false (by unfold Ma.little; omega)).symm, hX.below⟩
  replace c1 : n4 ≤ 60000 := by omega
  have ic1 : n4 ≤ 60000 := by omega
  by_cases c2 : ¬ A.M.length ≤ 2048
  · have ic2 : ¬ (A.M.length : Int) ≤ 2048 := by omega
    go_wp2_with (first | ((with_reducible refine at_load ?_); refine ldc (v := .slice _ A.M.length cm) hX slI_cell ?_ (hk := get_m hL)) | ((with_reducible refine at_load ?_); refine ldc (v := .slice _ A.B.length cb) hX slI_cell ?_ (hk := get_b hL)) | ((with_reducible refine at_load ?_); refine ldc (v := .slice _ A.L.length cl) hX slL_cell ?_ (hk := get_l hL)) | ((with_reducible refine at_load ?_); refine ldc (v := .slice _ A.K.D.S.length cs) hX slS_cell ?_ (hk := get_d hL 0 _ rfl)) | ((with_reducible refine at_load ?_); refine ldc (v := .slice _ A.K.D.B.length cd) hX slI_cell ?_ (hk := get_d hL 1 _ rfl)) | ((with_reducible refine at_load ?_); refine ldc (v := .slice _ A.T.R.length ct) hX slS_cell ?_ (hk := get_t hL 0 _ rfl)))
    go_ret
    exact ⟨congrArg (fun q => Ending.returned (Value.bool q)) (show A.smallB = false from decide_eq_false (by unfold Ma.little; omega)).symm, hX.below⟩
  replace c2 : A.M.length ≤ 2048 := by omega
  have ic2 : (A.M.length : Int) ≤ 2048 := by omega
  by_cases c3 : ¬ A.B.length ≤ 64
  · have ic3 : ¬ (A.B.length : Int) ≤ 64 := by omega
    go_wp2_with (first | ((with_reducible refine at_load ?_); refine ldc (v := .slice _ A.M.length cm) hX slI_cell ?_ (hk := get_m hL)) | ((with_reducible refine at_load ?_); refine ldc (v := .slice _ A.B.length cb) hX slI_cell ?_ (hk := get_b hL)) | ((with_reducible refine at_load ?_); refine ldc (v := .slice _ A.L.length cl) hX slL_cell ?_ (hk := get_l hL)) | ((with_reducible refine at_load ?_); refine ldc (v := .slice _ A.K.D.S.length cs) hX slS_cell ?_ (hk := get_d hL 0 _ rfl)) | ((with_reducible refine at_load ?_); refine ldc (v := .slice _ A.K.D.B.length cd) hX slI_cell ?_ (hk := get_d hL 1 _ rfl)) | ((with_reducible refine at_load ?_); refine ldc (v := .slice _ A.T.R.length ct) hX slS_cell ?_ (hk := get_t hL 0 _ rfl)))
    go_ret
    exact ⟨congrArg (fun q => Ending.returned (Value.bool q)) (show A.smallB = false from decide_eq_false (by unfold Ma.little; omega)).symm, hX.below⟩
  replace c3 : A.B.length ≤ 64 := by omega
  have ic3 : (A.B.length : Int) ≤ 64 := by omega
  by_cases c4 : ¬ A.L.length ≤ 8
  · have ic4 : ¬ (A.L.length : Int) ≤ 8 := by omega
    go_wp2_with (first | ((with_reducible refine at_load ?_); refine ldc (v := .slice _ A.M.length cm) hX slI_cell ?_ (hk := get_m hL)) | ((with_reducible refine at_load ?_); refine ldc (v := .slice _ A.B.length cb) hX slI_cell ?_ (hk := get_b hL)) | ((with_reducible refine at_load ?_); refine ldc (v := .slice _ A.L.length cl) hX slL_cell ?_ (hk := get_l hL)) | ((with_reducible refine at_load ?_); refine ldc (v := .slice _ A.K.D.S.length cs) hX slS_cell ?_ (hk := get_d hL 0 _ rfl)) | ((with_reducible refine at_load ?_); refine ldc (v := .slice _ A.K.D.B.length cd) hX slI_cell ?_ (hk := get_d hL 1 _ rfl)) | ((with_reducible refine at_load ?_); refine ldc (v := .slice _ A.T.R.length ct) hX slS_cell ?_ (hk := get_t hL 0 _ rfl)))
    go_ret
    exact ⟨congrArg (fun q => Ending.returned (Value.bool q)) (show A.smallB = false from decide_eq_false (by unfold Ma.little; omega)).symm, hX.below⟩
  replace c4 : A.L.length ≤ 8 := by omega
  have ic4 : (A.L.length : Int) ≤ 8 := by omega
  by_cases c5 : ¬ A.K.D.S.length ≤ 256
  · have ic5 : ¬ (A.K.D.S.length : Int) ≤ 256 := by omega
    go_wp2_with (first | ((with_reducible refine at_load ?_); refine ldc (v := .slice _ A.M.length cm) hX slI_cell ?_ (hk := get_m hL)) | ((with_reducible refine at_load ?_); refine ldc (v := .slice _ A.B.length cb) hX slI_cell ?_ (hk := get_b hL)) | ((with_reducible refine at_load ?_); refine ldc (v := .slice _ A.L.length cl) hX slL_cell ?_ (hk := get_l hL)) | ((with_reducible refine at_load ?_); refine ldc (v := .slice _ A.K.D.S.length cs) hX slS_cell ?_ (hk := get_d hL 0 _ rfl)) | ((with_reducible refine at_load ?_); refine ldc (v := .slice _ A.K.D.B.length cd) hX slI_cell ?_ (hk := get_d hL 1 _ rfl)) | ((with_reducible refine at_load ?_); refine ldc (v := .slice _ A.T.R.length ct) hX slS_cell ?_ (hk := get_t hL 0 _ rfl)))
    go_ret
    exact ⟨congrArg (fun q => Ending.returned (Value.bool q)) (show A.smallB = false from decide_eq_false (by unfold Ma.little; omega)).symm, hX.below⟩
  replace c5 : A.K.D.S.length ≤ 256 := by omega
  have ic5 : (A.K.D.S.length : Int) ≤ 256 := by omega
  by_cases c6 : ¬ A.K.D.B.length ≤ 256
  · have ic6 : ¬ (A.K.D.B.length : Int) ≤ 256 := by omega
    go_wp2_with (first | ((with_reducible refine at_load ?_); refine ldc (v := .slice _ A.M.length cm) hX slI_cell ?_ (hk := get_m hL)) | ((with_reducible refine at_load ?_); refine ldc (v := .slice _ A.B.length cb) hX slI_cell ?_ (hk := get_b hL)) | ((with_reducible refine at_load ?_); refine ldc (v := .slice _ A.L.length cl) hX slL_cell ?_ (hk := get_l hL)) | ((with_reducible refine at_load ?_); refine ldc (v := .slice _ A.K.D.S.length cs) hX slS_cell ?_ (hk := get_d hL 0 _ rfl)) | ((with_reducible refine at_load ?_); refine ldc (v := .slice _ A.K.D.B.length cd) hX slI_cell ?_ (hk := get_d hL 1 _ rfl)) | ((with_reducible refine at_load ?_); refine ldc (v := .slice _ A.T.R.length ct) hX slS_cell ?_ (hk := get_t hL 0 _ rfl)))
    go_ret
    exact ⟨congrArg (fun q => Ending.returned (Value.bool q)) (show A.smallB = false from decide_eq_false (by unfold Ma.little; omega)).symm, hX.below⟩
  replace c6 : A.K.D.B.length ≤ 256 := by omega
  have ic6 : (A.K.D.B.length : Int) ≤ 256 := by omega
  by_cases c7 : ¬ A.T.R.length ≤ 70
  · have ic7 : ¬ (A.T.R.length : Int) ≤ 70 := by omega
    go_wp2_with (first | ((with_reducible refine at_load ?_); refine ldc (v := .slice _ A.M.length cm) hX slI_cell ?_ (hk := get_m hL)) | ((with_reducible refine at_load ?_); refine ldc (v := .slice _ A.B.length cb) hX slI_cell ?_ (hk := get_b hL)) | ((with_reducible refine at_load ?_); refine ldc (v := .slice _ A.L.length cl) hX slL_cell ?_ (hk := get_l hL)) | ((with_reducible refine at_load ?_); refine ldc (v := .slice _ A.K.D.S.length cs) hX slS_cell ?_ (hk := get_d hL 0 _ rfl)) | ((with_reducible refine at_load ?_); refine ldc (v := .slice _ A.K.D.B.length cd) hX slI_cell ?_ (hk := get_d hL 1 _ rfl)) | ((with_reducible refine at_load ?_); refine ldc (v := .slice _ A.T.R.length ct) hX slS_cell ?_ (hk := get_t hL 0 _ rfl)))
    go_ret
    exact ⟨congrArg (fun q => Ending.returned (Value.bool q)) (show A.smallB = false from decide_eq_false (by unfold Ma.little; omega)).symm, hX.below⟩
  replace c7 : A.T.R.length ≤ 70 := by omega
  have ic7 : (A.T.R.length : Int) ≤ 70 := by omega
  go_wp2_with (first | ((with_reducible refine at_load ?_); refine ldc (v := .slice _ A.M.length cm) hX slI_cell ?_ (hk := get_m hL)) | ((with_reducible refine at_load ?_); refine ldc (v := .slice _ A.B.length cb) hX slI_cell ?_ (hk := get_b hL)) | ((with_reducible refine at_load ?_); refine ldc (v := .slice _ A.L.length cl) hX slL_cell ?_ (hk := get_l hL)) | ((with_reducible refine at_load ?_); refine ldc (v := .slice _ A.K.D.S.length cs) hX slS_cell ?_ (hk := get_d hL 0 _ rfl)) | ((with_reducible refine at_load ?_); refine ldc (v := .slice _ A.K.D.B.length cd) hX slI_cell ?_ (hk := get_d hL 1 _ rfl)) | ((with_reducible refine at_load ?_); refine ldc (v := .slice _ A.T.R.length ct) hX slS_cell ?_ (hk := get_t hL 0 _ rfl)))
  go_ret
  exact ⟨congrArg (fun q => Ending.returned (Value.bool q)) (show A.smallB = true from decide_eq_true (by unfold Ma.little; omega)).symm, hX.below⟩
end Go.Proofs.YthpnddgfgpacpaaGreat
