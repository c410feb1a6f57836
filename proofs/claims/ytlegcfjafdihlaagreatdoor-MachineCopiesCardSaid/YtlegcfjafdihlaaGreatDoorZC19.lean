import Derived.Test.YtlegcfjafdihlaaGreatDoorZC18
import Derived.Deep.CutBlock
/-
  Small of the laws gives one answer for one machine. No condition.
-/
namespace Go.Proofs.YtlegcfjafdihlaaGreatDoor
open Go.RowKit
set_option linter.unusedSimpArgs false
set_option linter.unusedVariables false
set_option maxHeartbeats 4000000
set_option maxRecDepth 100000
attribute [local irreducible] wpQuiet

def stS (n : Int) (x : ByteArray) : Int := wrap64 (n + if 100000 < (x.size : Int) then 100000 else (x.size : Int))
theorem stS_min (n : Int) (x : ByteArray) : stS n x = wrap64 (n + min (x.size : Int) 100000) := by
  unfold stS
  rw [show (if 100000 < (x.size : Int) then (100000 : Int) else (x.size : Int)) = min (x.size : Int) 100000 by split <;> omega]
def sumS {α : Type} (g : α → ByteArray) (n : Int) (l : List α) (k : Nat) : Int := (l.take k).foldl (fun n x => stS n (g x)) n
theorem sum_step {α : Type} (g : α → ByteArray) (n : Int) {l : List α} {i : Nat} {x : α} (h : l[i]? = some x) : sumS g n l (i + 1) = stS (sumS g n l i) (g x) := by
  unfold sumS
  rw [List.take_add_one, h]
  simp
theorem sum_end {α : Type} (g : α → ByteArray) (n : Int) {l : List α} {i k : Nat} (h : l.length ≤ i) (hk : l.length ≤ k) : sumS g n l i = sumS g n l k := by
  unfold sumS
  rw [List.take_of_length_le h, List.take_of_length_le hk]
def Ma.sumA (A : Ma) : Int := sumS (fun (y : Ln) => y.s) (sumS (fun (y : ByteArray) => y) (sumS (fun (y : ByteArray) => y) 0 A.K.D.S 300) A.T.R 300) A.L 9
instance littleDec18 (A : Ma) : Decidable A.little := by unfold Ma.little; exact inferInstance
def Ma.smallB (A : Ma) : Bool := decide (A.sumA ≤ 60000 ∧ A.little)
theorem small_det (A : Ma) (hA : A.ok) (vm vb vl vs vd vt : Value) (w : World) (hN : MaNow w A vm vb vl vs vd vt) : Calls Tryz.prog 19 #[.agg (A.cells vm vb vl vs vd vt).toArray] w fun e' w' => e' = .returned (.bool A.smallB) ∧ Below w.heap.size w w' := by
  obtain ⟨Am, cm, rfl, _, _⟩ := hN.m.form
  obtain ⟨Ab, cb, rfl, _, _⟩ := hN.b.form
  obtain ⟨Al, cl, rfl, _, hcl⟩ := lns_out hN.l
  obtain ⟨As, cs, rfl, _, hcs⟩ := hN.s.form
  obtain ⟨Ad, cd, rfl, _, _⟩ := hN.d.form
  obtain ⟨At, ct, rfl, _, hct⟩ := hN.t.form
  have hL := Ma.len hA (.slice As A.K.D.S.length cs) (.slice Ad A.K.D.B.length cd) (.slice At A.T.R.length ct)
  have hX := (Bag.nil w).new 49 (A.cells (.slice Am A.M.length cm) (.slice Ab A.B.length cb) (.slice Al A.L.length cl) (.slice As A.K.D.S.length cs) (.slice Ad A.K.D.B.length cd) (.slice At A.T.R.length ct))
  clear hN
  go_enter Tryz.func19, Tryz.ntmps19
  go_upto_block 0 with fail
  go_cut [3, 4] from 7 to 30 (fun s i wx => ∃ k : Int, s = .int .i64 (sumS (fun (y : ByteArray) => y) (0) A.K.D.S 300) ∧ i = .int .i64 k ∧ Bag [(w.heap.size, 49, A.cells (.slice Am A.M.length cm) (.slice Ab A.B.length cb) (.slice Al A.L.length cl) (.slice As A.K.D.S.length cs) (.slice Ad A.K.D.B.length cd) (.slice At A.T.R.length ct))] w wx)
  case first =>
    go_wp2_with fail
    go_loopw [3, 4] (fun s iv wr => ∃ (i : Nat), s = .int .i64 (sumS (fun (y : ByteArray) => y) (0) A.K.D.S i) ∧ i ≤ 300 ∧ iv = .int .i64 i ∧ Bag [(w.heap.size, 49, A.cells (.slice Am A.M.length cm) (.slice Ab A.B.length cb) (.slice Al A.L.length cl) (.slice As A.K.D.S.length cs) (.slice Ad A.K.D.B.length cd) (.slice At A.T.R.length ct))] w wr) (fun _ iv _ => match iv with | .int _ q => 300 - q.toNat | _ => 0)
    case atStart => exact ⟨0, rfl, by omega, rfl, hX⟩
    case round =>
      clear hX
      obtain ⟨i, rfl, hi, rfl, hX⟩ := hrel
      by_cases h1 : i < A.K.D.S.length
      · have hii : (i : Int) < (A.K.D.S.length : Int) := by omega
        by_cases h2 : i < 300
        · have h2i : (i : Int) < 300 := by omega
          have hx := List.getElem?_eq_getElem h1
          generalize A.K.D.S[i] = x at *
          obtain ⟨a, rfl, hLd⟩ := hcs i x hx
          have hst := sum_step (fun (y : ByteArray) => y) (0) hx
          clear hx
          generalize hsm : (sumS (fun (y : ByteArray) => y) (0) A.K.D.S i) = sm at *
          go_wp2_with (first | ((with_reducible refine at_load ?_); refine ldc (v := .slice _ A.K.D.S.length cs) hX slS_cell ?_ (hk := get_d hL 0 _ rfl)) | ((with_reducible refine at_ld 9 ?_); refine wpList_load_run rfl 9 _ _ _ rfl rfl (hLd _ hX.below) ?_))
          exact ⟨⟨i + 1, (by first | exact congrArg _ hst.symm | exact congrArg _ ((stS_min _ _).symm.trans hst.symm)), by omega, by go_num, hX⟩, by simp only; omega⟩
        · have h2i : ¬ (i : Int) < 300 := by omega
          have hen : (sumS (fun (y : ByteArray) => y) (0) A.K.D.S i) = (sumS (fun (y : ByteArray) => y) (0) A.K.D.S 300) := congrArg _ (by omega)
          go_wp2_with (first | ((with_reducible refine at_load ?_); refine ldc (v := .slice _ A.K.D.S.length cs) hX slS_cell ?_ (hk := get_d hL 0 _ rfl)))
          go_meet
          exact ⟨_, (by first | rfl | exact congrArg _ hen), rfl, hX⟩
      · have hii : ¬ (i : Int) < (A.K.D.S.length : Int) := by omega
        have hen : (sumS (fun (y : ByteArray) => y) (0) A.K.D.S i) = (sumS (fun (y : ByteArray) => y) (0) A.K.D.S 300) := sum_end (fun (y : ByteArray) => y) (0) (by omega) (by omega)
        go_wp2_with (first | ((with_reducible refine at_load ?_); refine ldc (v := .slice _ A.K.D.S.length cs) hX slS_cell ?_ (hk := get_d hL 0 _ rfl)))
        go_meet
        exact ⟨_, (by first | rfl | exact congrArg _ hen), rfl, hX⟩
  case rest =>
  clear hX
  obtain ⟨k0, rfl, rfl, hX⟩ := hcut
  go_upto_block 2 with fail
  go_cut [3, 5] from 31 to 52 (fun s i wx => ∃ k : Int, s = .int .i64 (sumS (fun (y : ByteArray) => y) (sumS (fun (y : ByteArray) => y) 0 A.K.D.S 300) A.T.R 300) ∧ i = .int .i64 k ∧ Bag [(w.heap.size, 49, A.cells (.slice Am A.M.length cm) (.slice Ab A.B.length cb) (.slice Al A.L.length cl) (.slice As A.K.D.S.length cs) (.slice Ad A.K.D.B.length cd) (.slice At A.T.R.length ct))] w wx)
  case first =>
    go_wp2_with fail
    go_loopw [3, 5] (fun s iv wr => ∃ (i : Nat), s = .int .i64 (sumS (fun (y : ByteArray) => y) (sumS (fun (y : ByteArray) => y) 0 A.K.D.S 300) A.T.R i) ∧ i ≤ 300 ∧ iv = .int .i64 i ∧ Bag [(w.heap.size, 49, A.cells (.slice Am A.M.length cm) (.slice Ab A.B.length cb) (.slice Al A.L.length cl) (.slice As A.K.D.S.length cs) (.slice Ad A.K.D.B.length cd) (.slice At A.T.R.length ct))] w wr) (fun _ iv _ => match iv with | .int _ q => 300 - q.toNat | _ => 0)
    case atStart => exact ⟨0, rfl, by omega, rfl, hX⟩
    case round =>
      clear hX
      obtain ⟨i, rfl, hi, rfl, hX⟩ := hrel
      by_cases h1 : i < A.T.R.length
      · have hii : (i : Int) < (A.T.R.length : Int) := by omega
        by_cases h2 : i < 300
        · have h2i : (i : Int) < 300 := by omega
          have hx := List.getElem?_eq_getElem h1
          generalize A.T.R[i] = x at *
          obtain ⟨a, rfl, hLd⟩ := hct i x hx
          have hst := sum_step (fun (y : ByteArray) => y) (sumS (fun (y : ByteArray) => y) 0 A.K.D.S 300) hx
          clear hx
          generalize hsm : (sumS (fun (y : ByteArray) => y) (sumS (fun (y : ByteArray) => y) 0 A.K.D.S 300) A.T.R i) = sm at *
          go_wp2_with (first | ((with_reducible refine at_load ?_); refine ldc (v := .slice _ A.T.R.length ct) hX slS_cell ?_ (hk := get_t hL 0 _ rfl)) | ((with_reducible refine at_ld 9 ?_); refine wpList_load_run rfl 9 _ _ _ rfl rfl (hLd _ hX.below) ?_))
          exact ⟨⟨i + 1, (by first | exact congrArg _ hst.symm | exact congrArg _ ((stS_min _ _).symm.trans hst.symm)), by omega, by go_num, hX⟩, by simp only; omega⟩
        · have h2i : ¬ (i : Int) < 300 := by omega
          have hen : (sumS (fun (y : ByteArray) => y) (sumS (fun (y : ByteArray) => y) 0 A.K.D.S 300) A.T.R i) = (sumS (fun (y : ByteArray) => y) (sumS (fun (y : ByteArray) => y) 0 A.K.D.S 300) A.T.R 300) := congrArg _ (by omega)
          go_wp2_with (first | ((with_reducible refine at_load ?_); refine ldc (v := .slice _ A.T.R.length ct) hX slS_cell ?_ (hk := get_t hL 0 _ rfl)))
          go_meet
          exact ⟨_, (by first | rfl | exact congrArg _ hen), rfl, hX⟩
      · have hii : ¬ (i : Int) < (A.T.R.length : Int) := by omega
        have hen : (sumS (fun (y : ByteArray) => y) (sumS (fun (y : ByteArray) => y) 0 A.K.D.S 300) A.T.R i) = (sumS (fun (y : ByteArray) => y) (sumS (fun (y : ByteArray) => y) 0 A.K.D.S 300) A.T.R 300) := sum_end (fun (y : ByteArray) => y) (sumS (fun (y : ByteArray) => y) 0 A.K.D.S 300) (by omega) (by omega)
        go_wp2_with (first | ((with_reducible refine at_load ?_); refine ldc (v := .slice _ A.T.R.length ct) hX slS_cell ?_ (hk := get_t hL 0 _ rfl)))
        go_meet
        exact ⟨_, (by first | rfl | exact congrArg _ hen), rfl, hX⟩
  case rest =>
  clear hX
  obtain ⟨k2, rfl, rfl, hX⟩ := hcut
  go_upto_block 4 with fail
  go_cut [3, 6] from 53 to 73 (fun s i wx => ∃ k : Int, s = .int .i64 (sumS (fun (y : Ln) => y.s) (sumS (fun (y : ByteArray) => y) (sumS (fun (y : ByteArray) => y) 0 A.K.D.S 300) A.T.R 300) A.L 9) ∧ i = .int .i64 k ∧ Bag [(w.heap.size, 49, A.cells (.slice Am A.M.length cm) (.slice Ab A.B.length cb) (.slice Al A.L.length cl) (.slice As A.K.D.S.length cs) (.slice Ad A.K.D.B.length cd) (.slice At A.T.R.length ct))] w wx)
  case first =>
    go_wp2_with fail
    go_loopw [3, 6] (fun s iv wr => ∃ (i : Nat), s = .int .i64 (sumS (fun (y : Ln) => y.s) (sumS (fun (y : ByteArray) => y) (sumS (fun (y : ByteArray) => y) 0 A.K.D.S 300) A.T.R 300) A.L i) ∧ i ≤ 9 ∧ iv = .int .i64 i ∧ Bag [(w.heap.size, 49, A.cells (.slice Am A.M.length cm) (.slice Ab A.B.length cb) (.slice Al A.L.length cl) (.slice As A.K.D.S.length cs) (.slice Ad A.K.D.B.length cd) (.slice At A.T.R.length ct))] w wr) (fun _ iv _ => match iv with | .int _ q => 9 - q.toNat | _ => 0)
    case atStart => exact ⟨0, rfl, by omega, rfl, hX⟩
    case round =>
      clear hX
      obtain ⟨i, rfl, hi, rfl, hX⟩ := hrel
      by_cases h1 : i < A.L.length
      · have hii : (i : Int) < (A.L.length : Int) := by omega
        by_cases h2 : i < 9
        · have h2i : (i : Int) < 9 := by omega
          have hx := List.getElem?_eq_getElem h1
          generalize A.L[i] = x at *
          obtain ⟨a, rfl, hLd⟩ := hcl i x hx
          have hst := sum_step (fun (y : Ln) => y.s) (sumS (fun (y : ByteArray) => y) (sumS (fun (y : ByteArray) => y) 0 A.K.D.S 300) A.T.R 300) hx
          clear hx
          generalize hsm : (sumS (fun (y : Ln) => y.s) (sumS (fun (y : ByteArray) => y) (sumS (fun (y : ByteArray) => y) 0 A.K.D.S 300) A.T.R 300) A.L i) = sm at *
          go_wp2_with (first | ((with_reducible refine at_load ?_); refine ldc (v := .slice _ A.L.length cl) hX slL_cell ?_ (hk := get_l hL)) | ((with_reducible refine at_ld 9 ?_); refine wpList_load_run rfl 9 _ _ _ rfl rfl (hLd _ hX.below) ?_))
          exact ⟨⟨i + 1, (by first | exact congrArg _ hst.symm | exact congrArg _ ((stS_min _ _).symm.trans hst.symm)), by omega, by go_num, hX⟩, by simp only; omega⟩
        · have h2i : ¬ (i : Int) < 9 := by omega
          have hen : (sumS (fun (y : Ln) => y.s) (sumS (fun (y : ByteArray) => y) (sumS (fun (y : ByteArray) => y) 0 A.K.D.S 300) A.T.R 300) A.L i) = (sumS (fun (y : Ln) => y.s) (sumS (fun (y : ByteArray) => y) (sumS (fun (y : ByteArray) => y) 0 A.K.D.S 300) A.T.R 300) A.L 9) := congrArg _ (by omega)
          go_wp2_with (first | ((with_reducible refine at_load ?_); refine ldc (v := .slice _ A.L.length cl) hX slL_cell ?_ (hk := get_l hL)))
          go_meet
          exact ⟨_, (by first | rfl | exact congrArg _ hen), rfl, hX⟩
      · have hii : ¬ (i : Int) < (A.L.length : Int) := by omega
        have hen : (sumS (fun (y : Ln) => y.s) (sumS (fun (y : ByteArray) => y) (sumS (fun (y : ByteArray) => y) 0 A.K.D.S 300) A.T.R 300) A.L i) = (sumS (fun (y : Ln) => y.s) (sumS (fun (y : ByteArray) => y) (sumS (fun (y : ByteArray) => y) 0 A.K.D.S 300) A.T.R 300) A.L 9) := sum_end (fun (y : Ln) => y.s) (sumS (fun (y : ByteArray) => y) (sumS (fun (y : ByteArray) => y) 0 A.K.D.S 300) A.T.R 300) (by omega) (by omega)
        go_wp2_with (first | ((with_reducible refine at_load ?_); refine ldc (v := .slice _ A.L.length cl) hX slL_cell ?_ (hk := get_l hL)))
        go_meet
        exact ⟨_, (by first | rfl | exact congrArg _ hen), rfl, hX⟩
  case rest =>
  clear hX
  obtain ⟨k4, rfl, rfl, hX⟩ := hcut
  clear hcl hcs hct
  obtain ⟨n4, hn4⟩ : ∃ n4, A.sumA = n4 := ⟨_, rfl⟩
  rw [show sumS (fun (y : Ln) => y.s) (sumS (fun (y : ByteArray) => y) (sumS (fun (y : ByteArray) => y) 0 A.K.D.S 300) A.T.R 300) A.L 9 = n4 from hn4]
  by_cases c1 : ¬ n4 ≤ 60000
  · have ic1 : ¬ n4 ≤ 60000 := by omega
    go_wp2_with (first | ((with_reducible refine at_load ?_); refine ldc (v := .slice _ A.M.length cm) hX slI_cell ?_ (hk := get_m hL)) | ((with_reducible refine at_load ?_); refine ldc (v := .slice _ A.B.length cb) hX slI_cell ?_ (hk := get_b hL)) | ((with_reducible refine at_load ?_); refine ldc (v := .slice _ A.L.length cl) hX slL_cell ?_ (hk := get_l hL)) | ((with_reducible refine at_load ?_); refine ldc (v := .slice _ A.K.D.S.length cs) hX slS_cell ?_ (hk := get_d hL 0 _ rfl)) | ((with_reducible refine at_load ?_); refine ldc (v := .slice _ A.K.D.B.length cd) hX slI_cell ?_ (hk := get_d hL 1 _ rfl)) | ((with_reducible refine at_load ?_); refine ldc (v := .slice _ A.T.R.length ct) hX slS_cell ?_ (hk := get_t hL 0 _ rfl)))
    go_ret
    exact ⟨congrArg (fun q => Ending.returned (Value.bool q)) (show A.smallB = false from decide_eq_false (by unfold Ma.little; omega)).symm, hX.below⟩
  replace c1 : n4 ≤ 60000 := by omega
  have ic1 : n4 ≤ 60000 := by omega
  by_cases c2 : ¬ A.M.length ≤ 2048
  · have ic2 : ¬ (A.M.length : Int) ≤ 2048 := by omega
    go_wp2_with (first | ((with_reducible refine at_load ?_); refine ldc (v := .slice _ A.M.length cm) hX slI_cell ?_ (hk := get_m hL)) | ((with_reducible refine at_load ?_); refine ldc (v := .slice _ A.B.length cb) hX slI_cell ?_ (hk := get_b hL)) | ((with_reducible refine at_load ?_); refine ldc (v := .slice _ A.L.length cl) hX slL_cell ?_ (hk := get_l hL)) | ((with_reducible refine at_load ?_); refine ldc (v := .slice _ A.K.D.S.length cs) hX slS_cell ?_ (hk := get_d hL 0 _ rfl)) | ((with_reducible refine at_load ?_); refine ldc (v := .slice _ A.K.D.B.length cd) hX slI_cell ?_ (hk := get_d hL 1 _ rfl)) | ((with_reducible refine at_load ?_); refine ldc (v := .slice _ A.T.R.length ct) hX slS_cell ?_ (hk := get_t hL 0 _ rfl)))
    go_ret
    exact ⟨congrArg (fun q => Ending.returned (Value.bool q)) (show A.smallB = false from decide_eq_false (by unfold Ma.little; omega)).symm, hX.below⟩
  replace c2 : A.M.length ≤ 2048 := by omega
  have ic2 : (A.M.length : Int) ≤ 2048 := by omega
  by_cases c3 : ¬ A.B.length ≤ 64
  · have ic3 : ¬ (A.B.length : Int) ≤ 64 := by omega
    go_wp2_with (first | ((with_reducible refine at_load ?_); refine ldc (v := .slice _ A.M.length cm) hX slI_cell ?_ (hk := get_m hL)) | ((with_reducible refine at_load ?_); refine ldc (v := .slice _ A.B.length cb) hX slI_cell ?_ (hk := get_b hL)) | ((with_reducible refine at_load ?_); refine ldc (v := .slice _ A.L.length cl) hX slL_cell ?_ (hk := get_l hL)) | ((with_reducible refine at_load ?_); refine ldc (v := .slice _ A.K.D.S.length cs) hX slS_cell ?_ (hk := get_d hL 0 _ rfl)) | ((with_reducible refine at_load ?_); refine ldc (v := .slice _ A.K.D.B.length cd) hX slI_cell ?_ (hk := get_d hL 1 _ rfl)) | ((with_reducible refine at_load ?_); refine ldc (v := .slice _ A.T.R.length ct) hX slS_cell ?_ (hk := get_t hL 0 _ rfl)))
    go_ret
    exact ⟨congrArg (fun q => Ending.returned (Value.bool q)) (show A.smallB = false from decide_eq_false (by unfold Ma.little; omega)).symm, hX.below⟩
  replace c3 : A.B.length ≤ 64 := by omega
  have ic3 : (A.B.length : Int) ≤ 64 := by omega
  by_cases c4 : ¬ A.L.length ≤ 8
  · have ic4 : ¬ (A.L.length : Int) ≤ 8 := by omega
    go_wp2_with (first | ((with_reducible refine at_load ?_); refine ldc (v := .slice _ A.M.length cm) hX slI_cell ?_ (hk := get_m hL)) | ((with_reducible refine at_load ?_); refine ldc (v := .slice _ A.B.length cb) hX slI_cell ?_ (hk := get_b hL)) | ((with_reducible refine at_load ?_); refine ldc (v := .slice _ A.L.length cl) hX slL_cell ?_ (hk := get_l hL)) | ((with_reducible refine at_load ?_); refine ldc (v := .slice _ A.K.D.S.length cs) hX slS_cell ?_ (hk := get_d hL 0 _ rfl)) | ((with_reducible refine at_load ?_); refine ldc (v := .slice _ A.K.D.B.length cd) hX slI_cell ?_ (hk := get_d hL 1 _ rfl)) | ((with_reducible refine at_load ?_); refine ldc (v := .slice _ A.T.R.length ct) hX slS_cell ?_ (hk := get_t hL 0 _ rfl)))
    go_ret
    exact ⟨congrArg (fun q => Ending.returned (Value.bool q)) (show A.smallB = false from decide_eq_false (by unfold Ma.little; omega)).symm, hX.below⟩
  replace c4 : A.L.length ≤ 8 := by omega
  have ic4 : (A.L.length : Int) ≤ 8 := by omega
  by_cases c5 : ¬ A.K.D.S.length ≤ 256
  · have ic5 : ¬ (A.K.D.S.length : Int) ≤ 256 := by omega
    go_wp2_with (first | ((with_reducible refine at_load ?_); refine ldc (v := .slice _ A.M.length cm) hX slI_cell ?_ (hk := get_m hL)) | ((with_reducible refine at_load ?_); refine ldc (v := .slice _ A.B.length cb) hX slI_cell ?_ (hk := get_b hL)) | ((with_reducible refine at_load ?_); refine ldc (v := .slice _ A.L.length cl) hX slL_cell ?_ (hk := get_l hL)) | ((with_reducible refine at_load ?_); refine ldc (v := .slice _ A.K.D.S.length cs) hX slS_cell ?_ (hk := get_d hL 0 _ rfl)) | ((with_reducible refine at_load ?_); refine ldc (v := .slice _ A.K.D.B.length cd) hX slI_cell ?_ (hk := get_d hL 1 _ rfl)) | ((with_reducible refine at_load ?_); refine ldc (v := .slice _ A.T.R.length ct) hX slS_cell ?_ (hk := get_t hL 0 _ rfl)))
    go_ret
    exact ⟨congrArg (fun q => Ending.returned (Value.bool q)) (show A.smallB = false from decide_eq_false (by unfold Ma.little; omega)).symm, hX.below⟩
  replace c5 : A.K.D.S.length ≤ 256 := by omega
  have ic5 : (A.K.D.S.length : Int) ≤ 256 := by omega
  by_cases c6 : ¬ A.K.D.B.length ≤ 256
  · have ic6 : ¬ (A.K.D.B.length : Int) ≤ 256 := by omega
    go_wp2_with (first | ((with_reducible refine at_load ?_); refine ldc (v := .slice _ A.M.length cm) hX slI_cell ?_ (hk := get_m hL)) | ((with_reducible refine at_load ?_); refine ldc (v := .slice _ A.B.length cb) hX slI_cell ?_ (hk := get_b hL)) | ((with_reducible refine at_load ?_); refine ldc (v := .slice _ A.L.length cl) hX slL_cell ?_ (hk := get_l hL)) | ((with_reducible refine at_load ?_); refine ldc (v := .slice _ A.K.D.S.length cs) hX slS_cell ?_ (hk := get_d hL 0 _ rfl)) | ((with_reducible refine at_load ?_); refine ldc (v := .slice _ A.K.D.B.length cd) hX slI_cell ?_ (hk := get_d hL 1 _ rfl)) | ((with_reducible refine at_load ?_); refine ldc (v := .slice _ A.T.R.length ct) hX slS_cell ?_ (hk := get_t hL 0 _ rfl)))
    go_ret
    exact ⟨congrArg (fun q => Ending.returned (Value.bool q)) (show A.smallB = false from decide_eq_false (by unfold Ma.little; omega)).symm, hX.below⟩
  replace c6 : A.K.D.B.length ≤ 256 := by omega
  have ic6 : (A.K.D.B.length : Int) ≤ 256 := by omega
  by_cases c7 : ¬ A.T.R.length ≤ 70
  · have ic7 : ¬ (A.T.R.length : Int) ≤ 70 := by omega
    go_wp2_with (first | ((with_reducible refine at_load ?_); refine ldc (v := .slice _ A.M.length cm) hX slI_cell ?_ (hk := get_m hL)) | ((with_reducible refine at_load ?_); refine ldc (v := .slice _ A.B.length cb) hX slI_cell ?_ (hk := get_b hL)) | ((with_reducible refine at_load ?_); refine ldc (v := .slice _ A.L.length cl) hX slL_cell ?_ (hk := get_l hL)) | ((with_reducible refine at_load ?_); refine ldc (v := .slice _ A.K.D.S.length cs) hX slS_cell ?_ (hk := get_d hL 0 _ rfl)) | ((with_reducible refine at_load ?_); refine ldc (v := .slice _ A.K.D.B.length cd) hX slI_cell ?_ (hk := get_d hL 1 _ rfl)) | ((with_reducible refine at_load ?_); refine ldc (v := .slice _ A.T.R.length ct) hX slS_cell ?_ (hk := get_t hL 0 _ rfl)))
    go_ret
    exact ⟨congrArg (fun q => Ending.returned (Value.bool q)) (show A.smallB = false from decide_eq_false (by unfold Ma.little; omega)).symm, hX.below⟩
  replace c7 : A.T.R.length ≤ 70 := by omega
  have ic7 : (A.T.R.length : Int) ≤ 70 := by omega
  go_wp2_with (first | ((with_reducible refine at_load ?_); refine ldc (v := .slice _ A.M.length cm) hX slI_cell ?_ (hk := get_m hL)) | ((with_reducible refine at_load ?_); refine ldc (v := .slice _ A.B.length cb) hX slI_cell ?_ (hk := get_b hL)) | ((with_reducible refine at_load ?_); refine ldc (v := .slice _ A.L.length cl) hX slL_cell ?_ (hk := get_l hL)) | ((with_reducible refine at_load ?_); refine ldc (v := .slice _ A.K.D.S.length cs) hX slS_cell ?_ (hk := get_d hL 0 _ rfl)) | ((with_reducible refine at_load ?_); refine ldc (v := .slice _ A.K.D.B.length cd) hX slI_cell ?_ (hk := get_d hL 1 _ rfl)) | ((with_reducible refine at_load ?_); refine ldc (v := .slice _ A.T.R.length ct) hX slS_cell ?_ (hk := get_t hL 0 _ rfl)))
  go_ret
  exact ⟨congrArg (fun q => Ending.returned (Value.bool q)) (show A.smallB = true from decide_eq_true (by unfold Ma.little; omega)).symm, hX.below⟩
end Go.Proofs.YtlegcfjafdihlaaGreatDoor
