import Derived.Test.YthpnddgfgpacpaaGreatRD28
import Derived.Deep.CutBlock
import Derived.Test.YthpnddgfgpacpaaGreatRD48
import Derived.Test.YthpnddgfgpacpaaGreatRD27
import Derived.Test.YthpnddgfgpacpaaGreatRD17
/-
  Small of the laws: when it says yes, the machine is small. No condition.
-/
namespace Go.Proofs.YthpnddgfgpacpaaGreat
open Go.RowKit
set_option linter.unusedSimpArgs false
set_option linter.unusedVariables false
set_option maxHeartbeats 4000000
set_option maxRecDepth 100000
attribute [local irreducible] wpQuiet

def Ma.little (A : Ma) : Prop := A.M.length ≤ 2048 ∧ A.B.length ≤ 64 ∧ A.L.length ≤ 8 ∧ A.K.D.S.length ≤ 256 ∧ A.K.D.B.length ≤ 256 ∧ A.T.R.length ≤ 70
def SmallS (A : Ma) (w : World) (e' : Ending) (w' : World) : Prop := ∃ b, e' = .returned (.bool b) ∧ (b = true → A.little) ∧ Below w.heap.size w w'
theorem lns_out {w : World} {v : Value} {l : List Ln} (h : Lns w v l) : ∃ A c, v = .slice A l.length c ∧ l.length ≤ c ∧ ∀ (k : Nat) x, l[k]? = some x → ∃ a : Addr, A = some a ∧ ∀ w', Below w.heap.size w w' → (Instr.loadAt 9 (.pointer (some ((a.add (k * 9)).add 8)))).run Tryz.prog w' = .ok (.string x.s) w' := by
  have h0 := h
  obtain ⟨⟨A, c, rfl, hk, _⟩, _⟩ := h
  refine ⟨A, c, rfl, hk, fun k x hx => ?_⟩
  have h1 := flatM_get (g := lnL) (s := 9) (fun _ => rfl) l k x hx 8 (.string x.s) rfl
  obtain ⟨a, rfl⟩ := Rz.addr h0 h1
  exact ⟨a, rfl, fun w' hb => by rw [addr_add]; exact Rz.load (Rz.below h0 hb) str_cell h1⟩
theorem small_any (A : Ma) (hA : A.ok) (vm vb vl vs vd vt : Value) (w : World) (hN : MaNow w A vm vb vl vs vd vt) : Calls Tryz.prog 10 #[.agg (A.cells vm vb vl vs vd vt).toArray] w (SmallS A w) := by
  obtain ⟨Am, cm, rfl, _, _⟩ := hN.m.form
  obtain ⟨Ab, cb, rfl, _, _⟩ := hN.b.form
  obtain ⟨Al, cl, rfl, _, hcl⟩ := lns_out hN.l
  obtain ⟨As, cs, rfl, _, hcs⟩ := hN.s.form
  obtain ⟨Ad, cd, rfl, _, _⟩ := hN.d.form
  obtain ⟨At, ct, rfl, _, hct⟩ := hN.t.form
  have hL := Ma.len hA (.slice As A.K.D.S.length cs) (.slice Ad A.K.D.B.length cd) (.slice At A.T.R.length ct)
  have hX := (Bag.nil w).new 44 (A.cells (.slice Am A.M.length cm) (.slice Ab A.B.length cb) (.slice Al A.L.length cl) (.slice As A.K.D.S.length cs) (.slice Ad A.K.D.B.length cd) (.slice At A.T.R.length ct))
  clear hN
  go_enter Tryz.func10, Tryz.ntmps10
  go_upto_block 0 with fail
  go_cut [3, 4] from 7 to 30 (fun s i wx => ∃ n k : Int, s = .int .i64 n ∧ i = .int .i64 k ∧ Bag [(w.heap.size, 44, A.cells (.slice Am A.M.length cm) (.slice Ab A.B.length cb) (.slice Al A.L.length cl) (.slice As A.K.D.S.length cs) (.slice Ad A.K.D.B.length cd) (.slice At A.T.R.length ct))] w wx)
  case first =>
    go_wp2_with fail
    go_loopw [3, 4] (fun s iv wr => ∃ (n : Int) (i : Nat), s = .int .i64 n ∧ i ≤ 300 ∧ iv = .int .i64 i ∧ Bag [(w.heap.size, 44, A.cells (.slice Am A.M.length cm) (.slice Ab A.B.length cb) (.slice Al A.L.length cl) (.slice As A.K.D.S.length cs) (.slice Ad A.K.D.B.length cd) (.slice At A.T.R.length ct))] w wr) (fun _ iv _ => match iv with | .int _ q => 300 - q.toNat | _ => 0)
    case atStart => exact ⟨0, 0, rfl, by omega, rfl, hX⟩
    case round =>
      clear hX
      obtain ⟨n, i, rfl, hi, rfl, hX⟩ := hrel
      by_cases h1 : i < A.K.D.S.length
      · have hii : (i : Int) < (A.K.D.S.length : Int) := by omega
        by_cases h2 : i < 300
        · have h2i : (i : Int) < 300 := by omega
          have hx := List.getElem?_eq_getElem h1
          generalize A.K.D.S[i] = x at *
          obtain ⟨a, rfl, hLd⟩ := hcs i x hx
          clear hx
          go_wp2_with (first | ((with_reducible refine at_load ?_); refine ldc (v := .slice _ A.K.D.S.length cs) hX slS_cell ?_ (hk := get_d hL 0 _ rfl)) | ((with_reducible refine at_ld 9 ?_); refine wpList_load_run rfl 9 _ _ _ rfl rfl (hLd _ hX.below) ?_))
          exact ⟨⟨_, i + 1, rfl, by omega, by go_num, hX⟩, by simp only; omega⟩
        · have h2i : ¬ (i : Int) < 300 := by omega
          go_wp2_with (first | ((with_reducible refine at_load ?_); refine ldc (v := .slice _ A.K.D.S.length cs) hX slS_cell ?_ (hk := get_d hL 0 _ rfl)))
          go_meet
          exact ⟨_, _, rfl, rfl, hX⟩
      · have hii : ¬ (i : Int) < (A.K.D.S.length : Int) := by omega
        go_wp2_with (first | ((with_reducible refine at_load ?_); refine ldc (v := .slice _ A.K.D.S.length cs) hX slS_cell ?_ (hk := get_d hL 0 _ rfl)))
        go_meet
        exact ⟨_, _, rfl, rfl, hX⟩
  case rest =>
  clear hX
  obtain ⟨n0, k0, rfl, rfl, hX⟩ := hcut
  go_upto_block 2 with fail
  go_cut [3, 5] from 31 to 52 (fun s i wx => ∃ n k : Int, s = .int .i64 n ∧ i = .int .i64 k ∧ Bag [(w.heap.size, 44, A.cells (.slice Am A.M.length cm) (.slice Ab A.B.length cb) (.slice Al A.L.length cl) (.slice As A.K.D.S.length cs) (.slice Ad A.K.D.B.length cd) (.slice At A.T.R.length ct))] w wx)
  case first =>
    go_wp2_with fail
    go_loopw [3, 5] (fun s iv wr => ∃ (n : Int) (i : Nat), s = .int .i64 n ∧ i ≤ 300 ∧ iv = .int .i64 i ∧ Bag [(w.heap.size, 44, A.cells (.slice Am A.M.length cm) (.slice Ab A.B.length cb) (.slice Al A.L.length cl) (.slice As A.K.D.S.length cs) (.slice Ad A.K.D.B.length cd) (.slice At A.T.R.length ct))] w wr) (fun _ iv _ => match iv with | .int _ q => 300 - q.toNat | _ => 0)
    case atStart => exact ⟨n0, 0, rfl, by omega, rfl, hX⟩
    case round =>
      clear hX
      obtain ⟨n, i, rfl, hi, rfl, hX⟩ := hrel
      by_cases h1 : i < A.T.R.length
      · have hii : (i : Int) < (A.T.R.length : Int) := by omega
        by_cases h2 : i < 300
        · have h2i : (i : Int) < 300 := by omega
          have hx := List.getElem?_eq_getElem h1
          generalize A.T.R[i] = x at *
          obtain ⟨a, rfl, hLd⟩ := hct i x hx
          clear hx
          go_wp2_with (first | ((with_reducible refine at_load ?_); refine ldc (v := .slice _ A.T.R.length ct) hX slS_cell ?_ (hk := get_t hL 0 _ rfl)) | ((with_reducible refine at_ld 9 ?_); refine wpList_load_run rfl 9 _ _ _ rfl rfl (hLd _ hX.below) ?_))
          exact ⟨⟨_, i + 1, rfl, by omega, by go_num, hX⟩, by simp only; omega⟩
        · have h2i : ¬ (i : Int) < 300 := by omega
          go_wp2_with (first | ((with_reducible refine at_load ?_); refine ldc (v := .slice _ A.T.R.length ct) hX slS_cell ?_ (hk := get_t hL 0 _ rfl)))
          go_meet
          exact ⟨_, _, rfl, rfl, hX⟩
      · have hii : ¬ (i : Int) < (A.T.R.length : Int) := by omega
        go_wp2_with (first | ((with_reducible refine at_load ?_); refine ldc (v := .slice _ A.T.R.length ct) hX slS_cell ?_ (hk := get_t hL 0 _ rfl)))
        go_meet
        exact ⟨_, _, rfl, rfl, hX⟩
  case rest =>
  clear hX
  obtain ⟨n2, k2, rfl, rfl, hX⟩ := hcut
  go_upto_block 4 with fail
  go_cut [3, 6] from 53 to 73 (fun s i wx => ∃ n k : Int, s = .int .i64 n ∧ i = .int .i64 k ∧ Bag [(w.heap.size, 44, A.cells (.slice Am A.M.length cm) (.slice Ab A.B.length cb) (.slice Al A.L.length cl) (.slice As A.K.D.S.length cs) (.slice Ad A.K.D.B.length cd) (.slice At A.T.R.length ct))] w wx)
  case first =>
    go_wp2_with fail
    go_loopw [3, 6] (fun s iv wr => ∃ (n : Int) (i : Nat), s = .int .i64 n ∧ i ≤ 9 ∧ iv = .int .i64 i ∧ Bag [(w.heap.size, 44, A.cells (.slice Am A.M.length cm) (.slice Ab A.B.length cb) (.slice Al A.L.length cl) (.slice As A.K.D.S.length cs) (.slice Ad A.K.D.B.length cd) (.slice At A.T.R.length ct))] w wr) (fun _ iv _ => match iv with | .int _ q => 9 - q.toNat | _ => 0)
    case atStart => exact ⟨n2, 0, rfl, by omega, rfl, hX⟩
    case round =>
      clear hX
      obtain ⟨n, i, rfl, hi, rfl, hX⟩ := hrel
      by_cases h1 : i < A.L.length
      · have hii : (i : Int) < (A.L.length : Int) := by omega
        by_cases h2 : i < 9
        · have h2i : (i : Int) < 9 := by omega
          have hx := List.getElem?_eq_getElem h1
          generalize A.L[i] = x at *
          obtain ⟨a, rfl, hLd⟩ := hcl i x hx
          clear hx
          go_wp2_with (first | ((with_reducible refine at_load ?_); refine ldc (v := .slice _ A.L.length cl) hX slL_cell ?_ (hk := get_l hL)) | ((with_reducible refine at_ld 9 ?_); refine wpList_load_run rfl 9 _ _ _ rfl rfl (hLd _ hX.below) ?_))
          exact ⟨⟨_, i + 1, rfl, by omega, by go_num, hX⟩, by simp only; omega⟩
        · have h2i : ¬ (i : Int) < 9 := by omega
          go_wp2_with (first | ((with_reducible refine at_load ?_); refine ldc (v := .slice _ A.L.length cl) hX slL_cell ?_ (hk := get_l hL)))
          go_meet
          exact ⟨_, _, rfl, rfl, hX⟩
      · have hii : ¬ (i : Int) < (A.L.length : Int) := by omega
        go_wp2_with (first | ((with_reducible refine at_load ?_); refine ldc (v := .slice _ A.L.length cl) hX slL_cell ?_ (hk := get_l hL)))
        go_meet
        exact ⟨_, _, rfl, rfl, hX⟩
  case rest =>
  clear hX
  obtain ⟨n4, k4, rfl, rfl, hX⟩ := hcut
  clear hcl hcs hct
  by_cases c1 : ¬ n4 ≤ 60000
  · have ic1 : ¬ n4 ≤ 60000 := by omega
    go_wp2_with (first | ((with_reducible refine at_load ?_); refine ldc (v := .slice _ A.M.length cm) hX slI_cell ?_ (hk := get_m hL)) | ((with_reducible refine at_load ?_); refine ldc (v := .slice _ A.B.length cb) hX slI_cell ?_ (hk := get_b hL)) | ((with_reducible refine at_load ?_); refine ldc (v := .slice _ A.L.length cl) hX slL_cell ?_ (hk := get_l hL)) | ((with_reducible refine at_load ?_); refine ldc (v := .slice _ A.K.D.S.length cs) hX slS_cell ?_ (hk := get_d hL 0 _ rfl)) | ((with_reducible refine at_load ?_); refine ldc (v := .slice _ A.K.D.B.length cd) hX slI_cell ?_ (hk := get_d hL 1 _ rfl)) | ((with_reducible refine at_load ?_); refine ldc (v := .slice _ A.T.R.length ct) hX slS_cell ?_ (hk := get_t hL 0 _ rfl)))
    go_ret
    exact ⟨_, rfl, fun h => (by simp at h), hX.below⟩
  replace c1 : n4 ≤ 60000 := by omega
  have ic1 : n4 ≤ 60000 := by omega
  by_cases c2 : ¬ A.M.length ≤ 2048
  · have ic2 : ¬ (A.M.length : Int) ≤ 2048 := by omega
    go_wp2_with (first | ((with_reducible refine at_load ?_); refine ldc (v := .slice _ A.M.length cm) hX slI_cell ?_ (hk := get_m hL)) | ((with_reducible refine at_load ?_); refine ldc (v := .slice _ A.B.length cb) hX slI_cell ?_ (hk := get_b hL)) | ((with_reducible refine at_load ?_); refine ldc (v := .slice _ A.L.length cl) hX slL_cell ?_ (hk := get_l hL)) | ((with_reducible refine at_load ?_); refine ldc (v := .slice _ A.K.D.S.length cs) hX slS_cell ?_ (hk := get_d hL 0 _ rfl)) | ((with_reducible refine at_load ?_); refine ldc (v := .slice _ A.K.D.B.length cd) hX slI_cell ?_ (hk := get_d hL 1 _ rfl)) | ((with_reducible refine at_load ?_); refine ldc (v := .slice _ A.T.R.length ct) hX slS_cell ?_ (hk := get_t hL 0 _ rfl)))
    go_ret
    exact ⟨_, rfl, fun h => (by simp at h), hX.below⟩
  replace c2 : A.M.length ≤ 2048 := by omega
  have ic2 : (A.M.length : Int) ≤ 2048 := by omega
  by_cases c3 : ¬ A.B.length ≤ 64
  · have ic3 : ¬ (A.B.length : Int) ≤ 64 := by omega
    go_wp2_with (first | ((with_reducible refine at_load ?_); refine ldc (v := .slice _ A.M.length cm) hX slI_cell ?_ (hk := get_m hL)) | ((with_reducible refine at_load ?_); refine ldc (v := .slice _ A.B.length cb) hX slI_cell ?_ (hk := get_b hL)) | ((with_reducible refine at_load ?_); refine ldc (v := .slice _ A.L.length cl) hX slL_cell ?_ (hk := get_l hL)) | ((with_reducible refine at_load ?_); refine ldc (v := .slice _ A.K.D.S.length cs) hX slS_cell ?_ (hk := get_d hL 0 _ rfl)) | ((with_reducible refine at_load ?_); refine ldc (v := .slice _ A.K.D.B.length cd) hX slI_cell ?_ (hk := get_d hL 1 _ rfl)) | ((with_reducible refine at_load ?_); refine ldc (v := .slice _ A.T.R.length ct) hX slS_cell ?_ (hk := get_t hL 0 _ rfl)))
    go_ret
    exact ⟨_, rfl, fun h => (by simp at h), hX.below⟩
  replace c3 : A.B.length ≤ 64 := by omega
  have ic3 : (A.B.length : Int) ≤ 64 := by omega
  by_cases c4 : ¬ A.L.length ≤ 8
  · have ic4 : ¬ (A.L.length : Int) ≤ 8 := by omega
    go_wp2_with (first | ((with_reducible refine at_load ?_); refine ldc (v := .slice _ A.M.length cm) hX slI_cell ?_ (hk := get_m hL)) | ((with_reducible refine at_load ?_); refine ldc (v := .slice _ A.B.length cb) hX slI_cell ?_ (hk := get_b hL)) | ((with_reducible refine at_load ?_); refine ldc (v := .slice _ A.L.length cl) hX slL_cell ?_ (hk := get_l hL)) | ((with_reducible refine at_load ?_); refine ldc (v := .slice _ A.K.D.S.length cs) hX slS_cell ?_ (hk := get_d hL 0 _ rfl)) | ((with_reducible refine at_load ?_); refine ldc (v := .slice _ A.K.D.B.length cd) hX slI_cell ?_ (hk := get_d hL 1 _ rfl)) | ((with_reducible refine at_load ?_); refine ldc (v := .slice _ A.T.R.length ct) hX slS_cell ?_ (hk := get_t hL 0 _ rfl)))
    go_ret
    exact ⟨_, rfl, fun h => (by simp at h), hX.below⟩
  replace c4 : A.L.length ≤ 8 := by omega
  have ic4 : (A.L.length : Int) ≤ 8 := by omega
  by_cases c5 : ¬ A.K.D.S.length ≤ 256
  · have ic5 : ¬ (A.K.D.S.length : Int) ≤ 256 := by omega
    go_wp2_with (first | ((with_reducible refine at_load ?_); refine ldc (v := .slice _ A.M.length cm) hX slI_cell ?_ (hk := get_m hL)) | ((with_reducible refine at_load ?_); refine ldc (v := .slice _ A.B.length cb) hX slI_cell ?_ (hk := get_b hL)) | ((with_reducible refine at_load ?_); refine ldc (v := .slice _ A.L.length cl) hX slL_cell ?_ (hk := get_l hL)) | ((with_reducible refine at_load ?_); refine ldc (v := .slice _ A.K.D.S.length cs) hX slS_cell ?_ (hk := get_d hL 0 _ rfl)) | ((with_reducible refine at_load ?_); refine ldc (v := .slice _ A.K.D.B.length cd) hX slI_cell ?_ (hk := get_d hL 1 _ rfl)) | ((with_reducible refine at_load ?_); refine ldc (v := .slice _ A.T.R.length ct) hX slS_cell ?_ (hk := get_t hL 0 _ rfl)))
    go_ret
    exact ⟨_, rfl, fun h => (by simp at h), hX.below⟩
  replace c5 : A.K.D.S.length ≤ 256 := by omega
  have ic5 : (A.K.D.S.length : Int) ≤ 256 := by omega
  by_cases c6 : ¬ A.K.D.B.length ≤ 256
  · have ic6 : ¬ (A.K.D.B.length : Int) ≤ 256 := by omega
    go_wp2_with (first | ((with_reducible refine at_load ?_); refine ldc (v := .slice _ A.M.length cm) hX slI_cell ?_ (hk := get_m hL)) | ((with_reducible refine at_load ?_); refine ldc (v := .slice _ A.B.length cb) hX slI_cell ?_ (hk := get_b hL)) | ((with_reducible refine at_load ?_); refine ldc (v := .slice _ A.L.length cl) hX slL_cell ?_ (hk := get_l hL)) | ((with_reducible refine at_load ?_); refine ldc (v := .slice _ A.K.D.S.length cs) hX slS_cell ?_ (hk := get_d hL 0 _ rfl)) | ((with_reducible refine at_load ?_); refine ldc (v := .slice _ A.K.D.B.length cd) hX slI_cell ?_ (hk := get_d hL 1 _ rfl)) | ((with_reducible refine at_load ?_); refine ldc (v := .slice _ A.T.R.length ct) hX slS_cell ?_ (hk := get_t hL 0 _ rfl)))
    go_ret
    exact ⟨_, rfl, fun h => (by simp at h), hX.below⟩
  replace c6 : A.K.D.B.length ≤ 256 := by omega
  have ic6 : (A.K.D.B.length : Int) ≤ 256 := by omega
  by_cases c7 : ¬ A.T.R.length ≤ 70
  · have ic7 : ¬ (A.T.R.length : Int) ≤ 70 := by omega
    go_wp2_with (first | ((with_reducible refine at_load ?_); refine ldc (v := .slice _ A.M.length cm) hX slI_cell ?_ (hk := get_m hL)) | ((with_reducible refine at_load ?_); refine ldc (v := .slice _ A.B.length cb) hX slI_cell ?_ (hk := get_b hL)) | ((with_reducible refine at_load ?_); refine ldc (v := .slice _ A.L.length cl) hX slL_cell ?_ (hk := get_l hL)) | ((with_reducible refine at_load ?_); refine ldc (v := .slice _ A.K.D.S.length cs) hX slS_cell ?_ (hk := get_d hL 0 _ rfl)) | ((with_reducible refine at_load ?_); refine ldc (v := .slice _ A.K.D.B.length cd) hX slI_cell ?_ (hk := get_d hL 1 _ rfl)) | ((with_reducible refine at_load ?_); refine ldc (v := .slice _ A.T.R.length ct) hX slS_cell ?_ (hk := get_t hL 0 _ rfl)))
    go_ret
    exact ⟨_, rfl, fun h => (by simp at h), hX.below⟩
  replace c7 : A.T.R.length ≤ 70 := by omega
  have ic7 : (A.T.R.length : Int) ≤ 70 := by omega
  go_wp2_with (first | ((with_reducible refine at_load ?_); refine ldc (v := .slice _ A.M.length cm) hX slI_cell ?_ (hk := get_m hL)) | ((with_reducible refine at_load ?_); refine ldc (v := .slice _ A.B.length cb) hX slI_cell ?_ (hk := get_b hL)) | ((with_reducible refine at_load ?_); refine ldc (v := .slice _ A.L.length cl) hX slL_cell ?_ (hk := get_l hL)) | ((with_reducible refine at_load ?_); refine ldc (v := .slice _ A.K.D.S.length cs) hX slS_cell ?_ (hk := get_d hL 0 _ rfl)) | ((with_reducible refine at_load ?_); refine ldc (v := .slice _ A.K.D.B.length cd) hX slI_cell ?_ (hk := get_d hL 1 _ rfl)) | ((with_reducible refine at_load ?_); refine ldc (v := .slice _ A.T.R.length ct) hX slS_cell ?_ (hk := get_t hL 0 _ rfl)))
  go_ret
  exact ⟨_, rfl, fun _ => ⟨c2, c3, c4, c5, c6, c7⟩, hX.below⟩
end Go.Proofs.YthpnddgfgpacpaaGreat
/-
  BusReads.
-/
namespace Go.Proofs.YthpnddgfgpacpaaGreat
open Go.RowKit
set_option linter.unusedSimpArgs false
set_option linter.unusedVariables false
set_option maxHeartbeats 4000000
set_option maxRecDepth 100000
attribute [local irreducible] wpQuiet

theorem MaNow.sv18 {w : World} {A : Ma} {vm vb vl vs vd vt : Value} (h : MaNow w A vm vb vl vs vd vt) : MaV noB w A vm vb vl vs vd vt := ⟨Rz.sv h.m, Rz.sv h.b, Rz.sv h.l, Rz.sv h.s, Rz.sv h.d, Rz.sv h.t⟩
theorem Ma.little_few {A : Ma} (h : A.little) : A.few := by
  obtain ⟨h1, h2, h3, h4, h5, h6⟩ := h
  exact ⟨by omega, by omega, by omega, by omega, by omega⟩
theorem Ma.right_small {A : Ma} (h : A.right = true) : A.small := by
  have f := fewM_of h
  exact ⟨f.2.1, f.2.2, f.1.1, f.1.2.1, f.1.2.2.1, f.1.2.2.2⟩
theorem read_C (A : Ma) (p : Int) (b : Bool) : (A.read p b).1.C = A.C := by
  unfold Ma.read Ma.rdR Ma.put
  repeat' split
  all_goals rfl
theorem BusReads_law (A : Ma) (hA : A.ok) (c : List Int) (hc : A.C = c.map (Value.int .i64)) (hc10 : c.length = 10) (vm vb vl vs vd vt : Value) (w : World) (hN : MaNow w A vm vb vl vs vd vt) (p : Int) (b : Bool) : Calls Tryz.prog 4 #[.agg (A.cells vm vb vl vs vd vt).toArray, .int .i64 p, .bool b] w fun e' w' => e' = .returned (.bool true) ∧ Below w.heap.size w w' := by
  have hV := hN.sv18
  have hsm := fun wz (hb : Below w.heap.size w wz) => small_any A hA vm vb vl vs vd vt wz (hN.step hb)
  have hrr := fun wz (hb : Below w.heap.size w wz) (hl : A.little) => rbRight_any A hA (Ma.little_few hl) vm vb vl vs vd vt wz (hN.step hb)
  have hXm := (Bag.nil w).new 44 (A.cells vm vb vl vs vd vt)
  cases hR : A.right
  · rw [hR] at hrr
    go_enter Tryz.func4, Tryz.ntmps4
    go_upto_region 1 with fail
    replace hV := hV.below hXm.below
    generalize (w.alloc (Obj.cells (A.cells vm vb vl vs vd vt).toArray 44)) = wQ at hXm hV ⊢
    go_wp2_with (first | ((with_reducible refine at_ld 44 ?_); first | refine ldw (hn := Ma.clen hA) hXm aggM sizM ?_) | (go_at_call 10; (with_reducible refine (hsm _ hXm.below).mono ?_); rintro e' wr ⟨bb, rfl, hlt, hbb⟩; (try replace hXm := hXm.step hbb); (try replace hXx := hXx.step hbb); (try replace hXy := hXy.step hbb); (try replace hV := hV.below hbb); (try replace hVx := hVx.below hbb); (try replace hVy := hVy.below hbb); clear hbb; cases bb) | (go_at_call 12; have hcc := hrr _ hXm.below (hlt (by first | exact rfl | trivial)); (with_reducible refine hcc.mono ?_); clear hcc; rintro e' wr ⟨rfl, hbb⟩; (try replace hXm := hXm.step hbb); (try replace hXx := hXx.step hbb); (try replace hXy := hXy.step hbb); (try replace hV := hV.below hbb); (try replace hVx := hVx.below hbb); (try replace hVy := hVy.below hbb); clear hbb) | (go_at_call 9; (with_reducible refine (alive_any _).mono ?_); rintro e' wr ⟨rfl, hbb⟩; (try replace hXm := hXm.step hbb); (try replace hXx := hXx.step hbb); (try replace hXy := hXy.step hbb); (try replace hV := hV.below hbb); (try replace hVx := hVx.below hbb); (try replace hVy := hVy.below hbb); clear hbb))
    all_goals exact bodyPost_ret (results_tmp (by rfl) _ _ _) rfl ⟨rfl, hXm.below⟩
  · rw [hR] at hrr
    have hA2 := Ma.read_ok hA p b
    have hR2 := Ma.read_right hR p b
    have hS2 := Ma.right_small hR2
    have hc2 : (A.read p b).1.C = c.map (Value.int .i64) := (read_C A p b).trans hc
    have hrd := fun wz (hV : MaV noB wz A vm vb vl vs vd vt) => bpRead wz A vm vb vl vs vd vt p b noB wz (Below.refl _ _) hA hR (fun _ q => q.elim) hV
    have hrf := fun wz (hV : MaV noB wz A vm vb vl vs vd vt) => rbRead_x A hA hR vm vb vl vs vd vt noB wz (fun _ q => q.elim) hV p b
    generalize A.read p b = RR at *
    obtain ⟨A2, rv, rt0⟩ := RR
    dsimp only at hA2 hS2 hc2 hrd hrf
    clear hR2 hc hN
    go_enter Tryz.func4, Tryz.ntmps4
    go_upto_region 1 with fail
    replace hV := hV.below hXm.below
    generalize (w.alloc (Obj.cells (A.cells vm vb vl vs vd vt).toArray 44)) = wQ at hXm hV ⊢
    go_wp2_with (first | ((with_reducible refine at_ld 44 ?_); first | refine ldw (hn := Ma.clen hA) hXm aggM sizM ?_ | refine ldw (hn := Ma.clen hA2) hXx aggM sizM ?_ | refine ldw (hn := Ma.clen hA2) hXy aggM sizM ?_) | (go_at_call 10; (with_reducible refine (hsm _ hXm.below).mono ?_); rintro e' wr ⟨bb, rfl, hlt, hbb⟩; (try replace hXm := hXm.step hbb); (try replace hXx := hXx.step hbb); (try replace hXy := hXy.step hbb); (try replace hV := hV.below hbb); (try replace hVx := hVx.below hbb); (try replace hVy := hVy.below hbb); clear hbb; cases bb) | (go_at_call 12; have hcc := hrr _ hXm.below (hlt (by first | exact rfl | trivial)); (with_reducible refine hcc.mono ?_); clear hcc; rintro e' wr ⟨rfl, hbb⟩; (try replace hXm := hXm.step hbb); (try replace hXx := hXx.step hbb); (try replace hXy := hXy.step hbb); (try replace hV := hV.below hbb); (try replace hVx := hVx.below hbb); (try replace hVy := hVy.below hbb); clear hbb) | (go_at_call 9; (with_reducible refine (alive_any _).mono ?_); rintro e' wr ⟨rfl, hbb⟩; (try replace hXm := hXm.step hbb); (try replace hXx := hXx.step hbb); (try replace hXy := hXy.step hbb); (try replace hV := hV.below hbb); (try replace hVx := hVx.below hbb); (try replace hVy := hVy.below hbb); clear hbb) | ((with_reducible refine at_alloc18 ?_); refine wpList_allocM rfl rfl ?_) | ((with_reducible refine at_st 44 ?_); first | (refine stn hXm aggM sizM (hVy.cone hA2) ?_ (hn := Ma.clen hA2) (hm := mzL_len); intro w3 hY hbb; have hXy := Bag.top hY; (try replace hXm := hXm.step hbb); (try replace hXx := hXx.step hbb); (try replace hV := hV.below hbb); (try replace hVx := hVx.below hbb); (try replace hVy := hVy.below hbb); clear hY hbb) | (refine stn hXm aggM sizM (hVx.cone hA2) ?_ (hn := Ma.clen hA2) (hm := mzL_len); intro w3 hY hbb; have hXx := Bag.top hY; (try replace hXm := hXm.step hbb); (try replace hXy := hXy.step hbb); (try replace hV := hV.below hbb); (try replace hVx := hVx.below hbb); (try replace hVy := hVy.below hbb); clear hY hbb)) | (go_at_call 13; have hcc := hrd _ hV; (with_reducible refine hcc.mono ?_); clear hcc; rintro e' wr ⟨x, rfl, ⟨rm, rb, rl, rs, rd, rt, rfl, r1, r2, r3, r4, r5, r6⟩, hbb⟩; (try replace hXm := hXm.step hbb); (try replace hXx := hXx.step hbb); (try replace hXy := hXy.step hbb); (try replace hV := hV.below hbb); (try replace hVx := hVx.below hbb); (try replace hVy := hVy.below hbb); have hVx : MaV noB wr _ rm rb rl rs rd rt := ⟨r1, r2, r3, r4, r5, r6⟩; clear hbb r1 r2 r3 r4 r5 r6) | (go_at_call 14; have hcc := hrf _ hV; (with_reducible refine hcc.mono ?_); clear hcc; rintro e' wr ⟨x, rfl, ⟨rm, rb, rl, rs, rd, rt, rfl, r1, r2, r3, r4, r5, r6⟩, hbb⟩; (try replace hXm := hXm.step hbb); (try replace hXx := hXx.step hbb); (try replace hXy := hXy.step hbb); (try replace hV := hV.below hbb); (try replace hVx := hVx.below hbb); (try replace hVy := hVy.below hbb); have hVy : MaV noB wr _ rm rb rl rs rd rt := ⟨r1, r2, r3, r4, r5, r6⟩; clear hbb r1 r2 r3 r4 r5 r6) | (go_at_call 15; have hcc := rsameMa_any hA2 hS2 c hc2 hc10 _ hVx.now hVy.now; (with_reducible refine hcc.mono ?_); clear hcc; rintro e' wr ⟨rfl, hbb⟩; (try replace hXm := hXm.step hbb); (try replace hXx := hXx.step hbb); (try replace hXy := hXy.step hbb); (try replace hV := hV.below hbb); (try replace hVx := hVx.below hbb); (try replace hVy := hVy.below hbb); clear hbb))
    all_goals exact bodyPost_ret (results_tmp (by rfl) _ _ _) rfl ⟨rfl, hXm.below⟩
end Go.Proofs.YthpnddgfgpacpaaGreat
