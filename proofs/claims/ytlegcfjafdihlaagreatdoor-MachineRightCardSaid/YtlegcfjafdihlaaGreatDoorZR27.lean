import Derived.Test.YtlegcfjafdihlaaGreatDoorZR24
import Derived.Test.YtlegcfjafdihlaaGreatDoorZR18
import Derived.Test.YtlegcfjafdihlaaGreatDoorZR25
import Derived.Test.YtlegcfjafdihlaaGreatDoorZR26
/-
  Is a machine valid: the program's answer and the reference's. Condition: at most 2^40 elements in each list.
-/
namespace Go.Proofs.YtlegcfjafdihlaaGreatDoor
open Go.RowKit
set_option linter.unusedSimpArgs false
set_option linter.unusedVariables false
set_option maxHeartbeats 4000000
set_option maxRecDepth 100000
attribute [local irreducible] wpQuiet

theorem Ma.little_few20 {A : Ma} (h : A.little) : A.few := by
  obtain ⟨h1, h2, h3, h4, h5, h6⟩ := h
  exact ⟨by omega, by omega, by omega, by omega, by omega⟩
theorem aggB20 (w : World) : (isAgg 4).run Tryz.prog w = .ok false w := by kernel_rfl
theorem aggI20 (w : World) : (isAgg 3).run Tryz.prog w = .ok false w := by kernel_rfl
theorem sizB20 (w : World) : (sizeOf 4).run Tryz.prog w = .ok 1 w := by kernel_rfl
theorem sizI20 (w : World) : (sizeOf 3).run Tryz.prog w = .ok 1 w := by kernel_rfl
section
variable {A : Ma} (h : A.ok) {vm vb vl vs vd vt : Value}
include h
theorem getE_now : (A.cells vm vb vl vs vd vt)[105]? = some (.int .i64 A.now) := get_e (Ma.len h vs vd vt) 0 _ rfl
theorem getE_h : (A.cells vm vb vl vs vd vt)[106]? = some (.bool A.h) := get_e (Ma.len h vs vd vt) 1 _ rfl
theorem getE_a : (A.cells vm vb vl vs vd vt)[107]? = some (.bool A.a) := get_e (Ma.len h vs vd vt) 2 _ rfl
theorem getE_pw : (A.cells vm vb vl vs vd vt)[108]? = some (.int .i64 A.pw) := get_e (Ma.len h vs vd vt) 3 _ rfl
theorem getE_pt : (A.cells vm vb vl vs vd vt)[109]? = some (.bool A.pt) := get_e (Ma.len h vs vd vt) 4 _ rfl
theorem eLen : (A.C ++ [vm, vb] ++ A.U.L ++ A.k.L ++ [vl] ++ dkL vs vd A.K ++ tpL vt A.T).length = 105 := by
  have hL := Ma.len h vs vd vt
  simp [hL.c, hL.u, hL.k, hL.d, hL.t]
theorem setE_a (x : Bool) : (A.cells vm vb vl vs vd vt).set 107 (.bool x) = ({ A with a := x } : Ma).cells vm vb vl vs vd vt := by
  unfold Ma.cells
  rw [maL_e, maL_e, List.set_append_right _ _ (by rw [eLen h]; decide), eLen h]
  rfl
theorem setE_pw (x : Int) : (A.cells vm vb vl vs vd vt).set 108 (.int .i64 x) = ({ A with pw := x } : Ma).cells vm vb vl vs vd vt := by
  unfold Ma.cells
  rw [maL_e, maL_e, List.set_append_right _ _ (by rw [eLen h]; decide), eLen h]
  rfl
theorem setE_pt (x : Bool) : (A.cells vm vb vl vs vd vt).set 109 (.bool x) = ({ A with pt := x } : Ma).cells vm vb vl vs vd vt := by
  unfold Ma.cells
  rw [maL_e, maL_e, List.set_append_right _ _ (by rw [eLen h]; decide), eLen h]
  rfl
end
/-- A machine that is halted neither waits nor loses its power. -/
def Ma.settle (A : Ma) : Ma := if A.h = true then { A with a := false, pw := 0, pt := false } else A
theorem Ma.settle_ok {A : Ma} (h : A.ok) : A.settle.ok := by unfold Ma.settle; split <;> exact h
theorem settled_any (A : Ma) (hA : A.ok) (vm vb vl vs vd vt : Value) (o1 : vm.oneCell' = true) (o2 : vb.oneCell' = true) (o3 : vl.oneCell' = true) (o4 : vs.oneCell' = true) (o5 : vd.oneCell' = true) (o6 : vt.oneCell' = true) (w : World) :
    Calls Tryz.prog 53 #[.agg (A.cells vm vb vl vs vd vt).toArray] w fun e' w' => e' = .returned (.agg (A.settle.cells vm vb vl vs vd vt).toArray) ∧ Below w.heap.size w w' := by
  have hX := two_ma w (A.cells vm vb vl vs vd vt)
  replace hX := hX.swap
  unfold Ma.settle
  cases hh : A.h
  · have gh : (A.cells vm vb vl vs vd vt)[106]? = some (.bool false) := by rw [← hh]; exact getE_h hA
    rw [if_neg (by decide)]
    go_enter Tryz.func53, Tryz.ntmps53
    go_upto_region 1 with (first | ((with_reducible refine at_alloc18 ?_); refine wpList_allocM rfl rfl ?_))
    generalize ((w.alloc (Obj.cells (A.cells vm vb vl vs vd vt).toArray 49)).alloc (Obj.cells mzL.toArray 49)) = wQ at hX ⊢
    go_wp2_with (first | ((with_reducible refine at_ld 4 ?_); refine ldc (hk := gh) hX aggB20 ?_) | ((with_reducible refine at_ld 49 ?_); refine ldw (hn := Ma.clen hA) hX aggM sizM ?_) | ((with_reducible refine at_st 49 ?_); refine stw2 hX aggM sizM (Ma.cone hA o1 o2 o3 o4 o5 o6) (hn := Ma.clen hA) (hc := mzL_len) ?_; intro wS hY hkS; replace hX := hY; clear hY hkS))
    exact bodyPost_ret (results_c (by rfl) rfl ((hX.all _ _ _ (.tail _ (.head _))).loadVar (Ma.clen hA) aggM sizM)) rfl ⟨rfl, hX.below⟩
  · have gh : (A.cells vm vb vl vs vd vt)[106]? = some (.bool true) := by rw [← hh]; exact getE_h hA
    rw [if_pos rfl]
    have h1 : ({ A with a := false } : Ma).ok := hA
    have h2 : ({ A with a := false, pw := 0 } : Ma).ok := hA
    have h3 : ({ A with a := false, pw := 0, pt := false } : Ma).ok := hA
    go_enter Tryz.func53, Tryz.ntmps53
    go_upto_region 1 with (first | ((with_reducible refine at_alloc18 ?_); refine wpList_allocM rfl rfl ?_))
    generalize ((w.alloc (Obj.cells (A.cells vm vb vl vs vd vt).toArray 49)).alloc (Obj.cells mzL.toArray 49)) = wQ at hX ⊢
    go_wp2_with (first | ((with_reducible refine at_ld 4 ?_); refine ldc (hk := gh) hX aggB20 ?_) | ((with_reducible refine at_ld 49 ?_); refine ldw (hn := Ma.clen h3) hX aggM sizM ?_) | ((with_reducible refine at_st 49 ?_); refine stw2 hX aggM sizM (Ma.cone h3 o1 o2 o3 o4 o5 o6) (hn := Ma.clen h3) (hc := mzL_len) ?_; intro wS hY hkS; replace hX := hY; clear hY hkS) | ((with_reducible refine at_st 4 ?_); refine stk1 hX sizB20 (setE_a (A := A) hA false) (by rw [Ma.clen hA]; decide) rfl ?_; intro wS hY hkS; replace hX := hY; clear hY hkS) | ((with_reducible refine at_st 3 ?_); refine stk1 hX sizI20 (setE_pw (A := { A with a := false }) h1 0) (by rw [Ma.clen h1]; decide) rfl ?_; intro wS hY hkS; replace hX := hY; clear hY hkS) | ((with_reducible refine at_st 4 ?_); refine stk1 hX sizB20 (setE_pt (A := { A with a := false, pw := 0 }) h2 false) (by rw [Ma.clen h2]; decide) rfl ?_; intro wS hY hkS; replace hX := hY; clear hY hkS))
    exact bodyPost_ret (results_c (by rfl) rfl ((hX.all _ _ _ (.tail _ (.head _))).loadVar (Ma.clen h3) aggM sizM)) rfl ⟨by simp only [hh], hX.below⟩

/-! ### The registers of a machine -/
def rgC (c : List Int) (A : Ma) : List Value := c.map (Value.int .i64) ++ [.int .i64 A.now, .int .i64 A.pw, .bool A.h, .bool A.a, .bool A.pt]
def rzL : List Value := List.replicate 12 (.int .i64 0) ++ [.bool false, .bool false, .bool false]
theorem run_allocR (w : World) : (Instr.alloc 91 true (.tuple #[])).run Tryz.prog w = .ok (.pointer (some ⟨w.heap.size, 0, none⟩)) (w.alloc (.cells rzL.toArray 91)) := by kernel_rfl
section
variable {ops : Array Oper} {rest : List Oper} {o : Oper} {a : Act} {w : World} {Q : Exit → Act → World → Prop}
theorem wpList_allocR (hg : o.guard = none) (hop : o.op = Op.alloc 91) (h : wpList Tryz.prog ops Q rest (a.put o.dst (.pointer (some ⟨w.heap.size, 0, none⟩))) (w.alloc (.cells rzL.toArray 91))) : wpList Tryz.prog ops Q (o :: rest) a w :=
  wpList_plain hg fun _ hK => by
    unfold Oper.wp execOp
    simp only [hop, run_allocR, Sem.run_bind, Sem.run_pure, Result.andThen_ok]
    exact hK _ _ h
end
theorem aggR20 (w : World) : (isAgg 91).run Tryz.prog w = .ok true w := by kernel_rfl
theorem sizR20 (w : World) : (sizeOf 91).run Tryz.prog w = .ok 15 w := by kernel_rfl
theorem rg_build (c0 c1 c2 c3 c4 c5 c6 c7 c8 c9 n p : Int) (h a t : Bool) (w : World) : (Instr.build 91 #[(0, .agg #[.int .i64 c0, .int .i64 c1, .int .i64 c2, .int .i64 c3, .int .i64 c4, .int .i64 c5, .int .i64 c6, .int .i64 c7, .int .i64 c8, .int .i64 c9]), (1, .int .i64 n), (2, .int .i64 p), (3, .bool h), (4, .bool a), (5, .bool t)]).run Tryz.prog w =
    .ok (.agg #[.int .i64 c0, .int .i64 c1, .int .i64 c2, .int .i64 c3, .int .i64 c4, .int .i64 c5, .int .i64 c6, .int .i64 c7, .int .i64 c8, .int .i64 c9, .int .i64 n, .int .i64 p, .bool h, .bool a, .bool t]) w := by kernel_rfl
theorem rgC_one (c : List Int) (A : Ma) : ∀ v ∈ rgC c A, v.oneCell' = true := by
  intro v hv
  unfold rgC at hv
  rw [List.mem_append] at hv
  rcases hv with hv | hv
  · obtain ⟨x, _, rfl⟩ := List.mem_map.1 hv; rfl
  · simp only [List.mem_cons, List.not_mem_nil, or_false] at hv
    rcases hv with rfl | rfl | rfl | rfl | rfl <;> rfl
theorem regs_any (A : Ma) (hA : A.ok) (c : List Int) (hc : A.C = c.map (Value.int .i64)) (hc10 : c.length = 10) (vm vb vl vs vd vt : Value) (w : World) :
    Calls Tryz.prog 52 #[.agg (A.cells vm vb vl vs vd vt).toArray] w fun e' w' => e' = .returned (.agg (rgC c A).toArray) ∧ Below w.heap.size w w' := by
  have hX := two_bag w 49 91 (A.cells vm vb vl vs vd vt) rzL
  replace hX := hX.swap
  obtain ⟨r0, r1, r2, r3, r4, r5, r6, r7, r8, r9, rfl⟩ := ten hc10
  have gc : ∀ j v, A.C[j]? = some v → (A.cells vm vb vl vs vd vt)[0 + j]? = some v := get_c
  have hbu := rg_build r0 r1 r2 r3 r4 r5 r6 r7 r8 r9 A.now A.pw A.h A.a A.pt
  rw [hc] at gc
  go_enter Tryz.func52, Tryz.ntmps52
  go_upto_region 1 with (first | ((with_reducible refine at_alloc18 ?_); refine wpList_allocR rfl rfl ?_))
  generalize ((w.alloc (Obj.cells (A.cells vm vb vl vs vd vt).toArray 49)).alloc (Obj.cells rzL.toArray 91)) = wQ at hX ⊢
  go_wp2_with (first | ((with_reducible refine at_ld 25 ?_); refine ldp (k := 0) hX aggC18 sizC18 gc rfl ?_) | ((with_reducible refine at_ld 3 ?_); refine ldc (hk := getE_now hA) hX aggI20 ?_) | ((with_reducible refine at_ld 3 ?_); refine ldc (hk := getE_pw hA) hX aggI20 ?_) | ((with_reducible refine at_ld 4 ?_); refine ldc (hk := getE_h hA) hX aggB20 ?_) | ((with_reducible refine at_ld 4 ?_); refine ldc (hk := getE_a hA) hX aggB20 ?_) | ((with_reducible refine at_ld 4 ?_); refine ldc (hk := getE_pt hA) hX aggB20 ?_) | ((with_reducible refine at_st 91 ?_); refine stw2 (ds := rgC [r0, r1, r2, r3, r4, r5, r6, r7, r8, r9] A) hX aggR20 sizR20 (rgC_one _ A) ?_; intro wS hY hkS; replace hX := hY; clear hY hkS))
  exact bodyPost_ret (results_c (by rfl) rfl ((hX.all _ _ _ (.tail _ (.head _))).loadVar rfl aggR20 sizR20)) rfl ⟨rfl, hX.below⟩
end Go.Proofs.YtlegcfjafdihlaaGreatDoor
