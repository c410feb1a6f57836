import Derived.Test.YtlegcfjafdihlaaGreatDoorZC21
import Derived.Test.YtlegcfjafdihlaaGreatDoorZC31
/-
  MachineCopies: what the law answers. No condition.
-/
namespace Go.Proofs.YtlegcfjafdihlaaGreatDoor
open Go.RowKit
set_option linter.unusedSimpArgs false
set_option linter.unusedVariables false
set_option maxHeartbeats 8000000
set_option maxRecDepth 100000
attribute [local irreducible] wpQuiet

theorem FrM.step {N : Nat} {w w' : World} {A : Ma} {vm vb vl vs vd vt : Value} (h : FrM N w A vm vb vl vs vd vt) (hb : Below w.heap.size w w') : FrM N w' A vm vb vl vs vd vt := ⟨own_step h.m hb, own_step h.b hb, own_step h.l hb, own_step h.s hb, own_step h.d hb, own_step h.t hb⟩
theorem FrM.other {N g : Nat} {w w' : World} {A : Ma} {vm vb vl vs vd vt : Value} (h : FrM N w A vm vb vl vs vd vt) (hg : g < N) (hk : ∀ j, j ≠ g → w'.heap[j]? = w.heap[j]?) : FrM N w' A vm vb vl vs vd vt :=
  have k : ∀ j, N ≤ j → w'.heap[j]? = w.heap[j]? := fun j hj => hk j (by omega)
  ⟨own_other h.m k, own_other h.b k, own_other h.l k, own_other h.s k, own_other h.d k, own_other h.t k⟩
theorem FrM.now {N : Nat} {w : World} {A : Ma} {vm vb vl vs vd vt : Value} (h : FrM N w A vm vb vl vs vd vt) : MaNow w A vm vb vl vs vd vt := ⟨Rz.of_own h.m, Rz.of_own h.b, Rz.of_own h.l, Rz.of_own h.s, Rz.of_own h.d, Rz.of_own h.t⟩
theorem FrM.one {N : Nat} {w : World} {A : Ma} {vm vb vl vs vd vt : Value} (hA : A.ok) (h : FrM N w A vm vb vl vs vd vt) : ∀ v ∈ A.cells vm vb vl vs vd vt, v.oneCell' = true :=
  Ma.cone hA (Ma.own18 h.m).1 (Ma.own18 h.b).1 (Ma.own18 h.l).1 (Ma.own18 h.s).1 (Ma.own18 h.d).1 (Ma.own18 h.t).1
section
variable {ops : Array Oper} {rest : List Oper} {o : Oper} {a : Act} {w w1 : World} {Q : Exit → Act → World → Prop}
/-- A number is stored into a row of the call's own; the other blocks stay. -/
theorem wpList_row_store0 {N g n cap : Nat} {xs : List Value} {u : Value} (hown : w.ownsRow N 3 1 (.slice (some ⟨g, 0, none⟩) n cap) n xs) (x y : Operand) (hop : o.op = Op.store 3 x y) (hal : w1 = w) (hx : a.eval x = .pointer (some ⟨g, 0, none⟩)) (hy : a.eval y = u) (hdst : o.dst = none) (hw : Region.wanted o (yielded ops a.tmps) = true) (hj : 0 < n) (hz : u.cells = #[u]) (h1 : u.oneCell' = true)
    (h : ∀ w2, (∀ k, k ≠ g → w2.heap[k]? = w.heap[k]?) → Below N w w2 → wpList Tryz.prog ops Q rest a w2) : wpList Tryz.prog ops Q (o :: rest) a w1 := by
  subst hal
  have hg : N ≤ g := (World.ownsRow.lt hown g rfl).1
  have hl : xs.length = n := by have := hown.1; omega
  have hc := World.ownsRow.cellAt hown 0 (by omega)
  have hf := World.ownsRow.frozenAt hown 0
  obtain ⟨u0, hu0⟩ : ∃ u0, w1.cell? ⟨g, 0, none⟩ = some u0 := ⟨xs[0]'(by omega), by rw [hc, List.getElem?_eq_getElem]⟩
  have hr : (storeCells ⟨g, 0, none⟩ [u]).run Tryz.prog w1 = .ok () (w1.setCell ⟨g, 0, none⟩ u) := by
    simp [storeCells, go_sem]
    rw [run_store _ _ _ _ _ h1, hu0]
    simp [hf]
  exact BigFrame.wpList_want hw fun _ hK => by
    unfold Oper.wp execOp
    simp only [hop, hx, hy, hz, Instr.storeAt, Instr.sureAddr, storeVar, hr, sizI20, List.size_toArray, List.length_cons, List.length_nil, ne_eq, not_true_eq_false, if_false, Sem.run_bind, Sem.run_pure, Result.andThen_ok]
    exact hK _ _ (by rw [hdst]; exact h _ (fun k hk => heap_setCell_other w1 ⟨g, 0, none⟩ k u hk) ((Below.refl N w1).setCell hg u))
end
theorem own_load {w : World} {N n g cap : Nat} {xs : List Value} {v : Value} (h : w.ownsRow N 3 1 (.slice (some ⟨g, 0, none⟩) n cap) n xs) (hx : xs[0]? = some v) : (Instr.loadAt 3 (.pointer (some ⟨g, 0, none⟩))).run Tryz.prog w = .ok v w := Rz.load (Rz.of_own h) aggI20 hx
/-- A row of numbers is no box of a machine. -/
theorem bag_row {l : List (Nat × TypeId × List Value)} {w0 w : World} (hX : Bag l w0 w) (hl : ∀ b ∈ l, b.2.1 = 49) {N n : Nat} {g cap : Nat} {xs : List Value} (h : w.ownsRow N 3 1 (.slice (some ⟨g, 0, none⟩) n cap) n xs) : ∀ b ∈ l, b.1 ≠ g := by
  intro b hb e
  have h1 := hX.all b.1 b.2.1 b.2.2 hb
  rcases h.2 with ⟨hv, _⟩ | ⟨g', cap', cur, hv, _, hh, _⟩
  · cases hv
  · cases hv
    have h2 : w.heap[b.1]? = some (.cells b.2.2.toArray b.2.1 (0, 0)) := h1
    rw [e, hh, hl b hb] at h2
    cases h2
theorem MachineCopies_law (A : Ma) (hA : A.ok) (c : List Int) (hc : A.C = c.map (Value.int .i64)) (hc10 : c.length = 10) (vm vb vl vs vd vt : Value) (v : Int) {Ad : Addr} {cc : Nat} (w : World) (hT : Tab Ad cc w) (hN : MaNow w A vm vb vl vs vd vt) : Calls Tryz.prog 6 #[.agg (A.cells vm vb vl vs vd vt).toArray, .int .i64 v] w fun e' w' => e' = .returned (.bool true) ∧ Below w.heap.size w w' := by
  have hsm := fun wz (hb : Below w.heap.size w wz) => small_det A hA vm vb vl vs vd vt wz (hN.step hb)
  have hal := fun wz (hb : Below w.heap.size w wz) => aliveM_any (hT.below hb)
  have hX := (Bag.nil w).new 49 (A.cells vm vb vl vs vd vt)
  have hsw := fun wz (hb : Below w.heap.size w wz) => hN.step hb
  cases hs : A.smallB
  · rw [hs] at hsm
    go_enter Tryz.func6, Tryz.ntmps6
    go_upto_region 1 with fail
    generalize (w.alloc (Obj.cells (A.cells vm vb vl vs vd vt).toArray 49)) = wQ at hX ⊢
    go_wp2_with (first | ((with_reducible refine at_ld 49 ?_); refine ldw (hm := .head _) (hn := Ma.clen hA) hX aggM sizM ?_) | (go_at_call 19; (with_reducible refine (hsm _ hX.below).mono ?_); rintro e' wr ⟨rfl, hbb⟩; replace hX := hX.step hbb; clear hbb) | (go_at_call 16; (with_reducible refine (hal _ hX.below).mono ?_); rintro e' wr ⟨rfl, hbb⟩; replace hX := hX.step hbb; (try replace hx := hx.step hbb); (try replace hy := hy.step hbb); (try replace hz := hz.step hbb); clear hbb) | ((with_reducible refine at_ld 31 ?_); refine ldc (hm := .head _) (hk := get_m (Ma.len hA _ _ _)) hX slI_cell ?_))
    exact bodyPost_ret (results_tmp (by rfl) _ _ _) rfl ⟨rfl, hX.below⟩
  rw [hs] at hsm
  have hli : A.little := (of_decide_eq_true hs).2
  have hF := Ma.little_few20 hli
  have h4 : A.L.length ≤ 1099511627776 := by have := hli.2.2.1; omega
  obtain ⟨Am, cm, rfl, hcm, hld⟩ := hN.m.form
  rcases Nat.eq_zero_or_pos A.M.length with hz0 | hl0
  · rw [hz0] at hX hsm hsw hN ⊢
    clear hz0 hcm hld
    go_enter Tryz.func6, Tryz.ntmps6
    go_upto_region 1 with fail
    generalize (w.alloc (Obj.cells (A.cells (.slice Am 0 cm) vb vl vs vd vt).toArray 49)) = wQ at hX ⊢
    go_wp2_with (first | ((with_reducible refine at_ld 49 ?_); refine ldw (hm := .head _) (hn := Ma.clen hA) hX aggM sizM ?_) | (go_at_call 19; (with_reducible refine (hsm _ hX.below).mono ?_); rintro e' wr ⟨rfl, hbb⟩; replace hX := hX.step hbb; clear hbb) | (go_at_call 16; (with_reducible refine (hal _ hX.below).mono ?_); rintro e' wr ⟨rfl, hbb⟩; replace hX := hX.step hbb; (try replace hx := hx.step hbb); (try replace hy := hy.step hbb); (try replace hz := hz.step hbb); clear hbb) | ((with_reducible refine at_ld 31 ?_); refine ldc (hm := .head _) (hk := get_m (Ma.len hA _ _ _)) hX slI_cell ?_))
    exact bodyPost_ret (results_tmp (by rfl) _ _ _) rfl ⟨rfl, hX.below⟩
  obtain ⟨m0, hm0⟩ : ∃ m0, A.M[0]? = some m0 := ⟨A.M[0], List.getElem?_eq_getElem hl0⟩
  obtain ⟨ad, rfl, hlq⟩ := hld 0 m0 hm0
  clear hld
  have hcp := fun wz (hb : Below w.heap.size w wz) => mcopy_any A hA hF h4 (.slice (some ad) A.M.length cm) vb vl vs vd vt wz (hsw wz hb)
  have hrc := fun wz (hb : Below w.heap.size w wz) => rmcopy_any A hA hF h4 (.slice (some ad) A.M.length cm) vb vl vs vd vt wz (hsw wz hb)
  have e0 : ad.add 0 = ad := by unfold Addr.add; split <;> simp_all
  have hld0 : ∀ w', Below w.heap.size w w' → (Instr.loadAt 3 (.pointer (some ad))).run Tryz.prog w' = .ok (.int .i64 m0) w' := fun w' hb => by have := hlq w' hb; rwa [e0] at this
  have i0 : (0 : Int) < (A.M.length : Int) := by omega
  have d0 : decide ((A.M.length : Int) = 0) = false := decide_eq_false (by omega)
  have q0 : ¬ ((A.M.length : Int) = 0) := by omega
  have q1 : ((A.M.length : Int) == 0) = false := by simp only [beq_eq_false_iff_ne, ne_eq]; omega
  have hsl : A.small := by
    obtain ⟨k1, k2, k3, k4, k5, k6⟩ := hli
    exact ⟨by omega, by omega, by omega, by omega, by omega, by omega⟩
  have hmr : (A.M.map (Value.int .i64))[0]? = some (.int .i64 m0) := by rw [List.getElem?_map, hm0]; rfl
  clear hs hT hlq e0
  go_enter Tryz.func6, Tryz.ntmps6
  go_upto_region 1 with fail
  generalize (w.alloc (Obj.cells (A.cells (.slice (some ad) A.M.length cm) vb vl vs vd vt).toArray 49)) = wQ at hX ⊢
  go_wp2_with (first | ((with_reducible refine at_ld 49 ?_); refine ldw (hm := .head _) (hn := Ma.clen hA) hX aggM sizM ?_) | ((with_reducible refine at_ld 49 ?_); refine ldw (hm := .tail _ (.head _)) (hn := Ma.clen hA) hX aggM sizM ?_) | ((with_reducible refine at_ld 49 ?_); refine ldw (hm := .tail _ (.tail _ (.head _))) (hn := Ma.clen hA) hX aggM sizM ?_) | ((with_reducible refine at_ld 49 ?_); refine ldw (hm := .tail _ (.tail _ (.tail _ (.head _)))) (hn := Ma.clen hA) hX aggM sizM ?_) | (go_at_call 19; (with_reducible refine (hsm _ hX.below).mono ?_); rintro e' wr ⟨rfl, hbb⟩; replace hX := hX.step hbb; clear hbb) | (go_at_call 16; (with_reducible refine (hal _ hX.below).mono ?_); rintro e' wr ⟨rfl, hbb⟩; replace hX := hX.step hbb; (try replace hx := hx.step hbb); (try replace hy := hy.step hbb); (try replace hz := hz.step hbb); clear hbb) | ((with_reducible refine at_ld 31 ?_); refine ldc (hm := .head _) (hk := get_m (Ma.len hA _ _ _)) hX slI_cell ?_) | ((with_reducible refine at_ld 31 ?_); refine ldc (hm := .tail _ (.head _)) (hk := get_m (Ma.len hA _ _ _)) hX slI_cell ?_) | ((with_reducible refine at_ld 31 ?_); refine ldc (hm := .tail _ (.tail _ (.head _))) (hk := get_m (Ma.len hA _ _ _)) hX slI_cell ?_) | ((with_reducible refine at_ld 31 ?_); refine ldc (hm := .tail _ (.tail _ (.tail _ (.head _)))) (hk := get_m (Ma.len hA _ _ _)) hX slI_cell ?_) | ((with_reducible refine at_ld 3 ?_); refine wpList_loadW rfl 3 _ _ _ rfl rfl (hld0 _ hX.below) ?_) | (go_at_call 21; (with_reducible refine (hcp _ hX.below).mono ?_); rintro e' wr ⟨xm, xb, xl, xs, xd, xt, rfl, hx, hbb⟩; obtain ⟨Nx, hNx, hx⟩ : ∃ N, w.heap.size ≤ N ∧ FrM N wr A xm xb xl xs xd xt := ⟨_, (by have := hX.below.size; omega), hx⟩; obtain ⟨gx, cx, rfl, _, _, _⟩ := Own.form hx.m hl0; replace hX := hX.step hbb; clear hbb) | (go_at_call 22; have lx := (World.ownsRow.lt hx.m gx rfl).2; (with_reducible refine (hrc _ hX.below).mono ?_); rintro e' wr ⟨ym, yb, yl, ys, yd, yt, rfl, hy, hbb⟩; have lxy : gx < _ := Nat.lt_of_lt_of_le lx (Nat.le_add_right _ 2); obtain ⟨Ny, lxy, hNy, hy⟩ : ∃ N, gx < N ∧ w.heap.size ≤ N ∧ FrM N wr A ym yb yl ys yd yt := ⟨_, lxy, (by have := hX.below.size; omega), hy⟩; obtain ⟨gy, cy, rfl, _, _, _⟩ := Own.form hy.m hl0; replace hX := hX.step hbb; replace hx := hx.step hbb; clear hbb) | (go_at_call 21; have ly := (World.ownsRow.lt hy.m gy rfl).2; have hq := mcopy_any A hA hF h4 _ _ _ _ _ _ _ hy.now; (with_reducible refine hq.mono ?_); clear hq; rintro e' wr ⟨zm, zb, zl, zs, zd, zt, rfl, hz, hbb⟩; have lyz : gy < _ := Nat.lt_of_lt_of_le ly (Nat.le_add_right _ 2); obtain ⟨Nz, lyz, hNz, hz⟩ : ∃ N, gy < N ∧ w.heap.size ≤ N ∧ FrM N wr A zm zb zl zs zd zt := ⟨_, lyz, (by have := hX.below.size; omega), hz⟩; obtain ⟨gz, cz, rfl, _, _, _⟩ := Own.form hz.m hl0; replace hX := hX.step hbb; replace hy := hy.step hbb; clear hbb) | (go_at_call 17; have hq := rsameMa_any hA hsl c hc hc10 _ hx.now (hsw _ hX.below); (with_reducible refine hq.mono ?_); clear hq; rintro e' wr ⟨rfl, hbb⟩; replace hX := hX.step hbb; replace hx := hx.step hbb; clear hbb) | ((with_reducible refine at_alloc18 ?_); refine wpList_allocM rfl rfl ?_) | ((with_reducible refine at_st 49 ?_); refine stn (zs := mzL) hX aggM sizM (hz.one hA) (hn := Ma.clen hA) (hm := mzL_len) ?_; intro w6 hY hbb; replace hX := hY; (try replace hx := hx.step hbb); (try replace hy := hy.step hbb); (try replace hz := hz.step hbb); clear hY hbb) | ((with_reducible refine at_st 49 ?_); refine stn (zs := mzL) hX aggM sizM (hy.one hA) (hn := Ma.clen hA) (hm := mzL_len) ?_; intro w6 hY hbb; replace hX := hY; (try replace hx := hx.step hbb); (try replace hy := hy.step hbb); (try replace hz := hz.step hbb); clear hY hbb) | ((with_reducible refine at_st 49 ?_); refine stn (zs := mzL) hX aggM sizM (hx.one hA) (hn := Ma.clen hA) (hm := mzL_len) ?_; intro w6 hY hbb; replace hX := hY; (try replace hx := hx.step hbb); (try replace hy := hy.step hbb); (try replace hz := hz.step hbb); clear hY hbb) | ((with_reducible refine at_st 3 ?_); refine wpList_row_store0 hx.m _ _ rfl rfl rfl rfl rfl rfl hl0 rfl rfl ?_; intro w6 hk hbb; have hne := bag_row hX (fun b hb => by simp only [List.mem_cons, List.not_mem_nil, or_false] at hb; rcases hb with rfl | rfl | rfl <;> rfl) hx.m; replace hX := hX.same (fun b hb => hk b.1 (hne b hb)) (hX.below.trans (hbb.mono hNx)); replace hy := hy.other lxy hk; clear hne hk hbb hx) | ((with_reducible refine at_st 3 ?_); refine wpList_row_store0 hy.m _ _ rfl rfl rfl rfl rfl rfl hl0 rfl rfl ?_; intro w6 hk hbb; have hne := bag_row hX (fun b hb => by simp only [List.mem_cons, List.not_mem_nil, or_false] at hb; rcases hb with rfl | rfl | rfl | rfl <;> rfl) hy.m; replace hX := hX.same (fun b hb => hk b.1 (hne b hb)) (hX.below.trans (hbb.mono hNy)); replace hz := hz.other lyz hk; clear hne hk hbb hy) | ((with_reducible refine at_ld 3 ?_); refine wpList_loadW rfl 3 _ _ _ rfl rfl (own_load hz.m hmr) ?_))
  exact bodyPost_ret (results_tmp (by rfl) _ _ _) rfl ⟨by simp, hX.below⟩
end Go.Proofs.YtlegcfjafdihlaaGreatDoor
