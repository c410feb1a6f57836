import Derived.Test.YthpnddgfgpacpaaGreatRS35
/-
  Tick, Accept, Reset of the program. Condition: a valid machine.
-/
namespace Go.Proofs.YthpnddgfgpacpaaGreat
open Go.RowKit Go.Shelf
set_option linter.unusedSimpArgs false
set_option linter.unusedVariables false
set_option maxHeartbeats 4000000
set_option maxRecDepth 100000
attribute [local irreducible] wpQuiet
attribute [local go_sem] Oper.semAt_some

theorem pbReset_any (A : Ma) (hA : A.ok) (hR : A.right = true) (vm vb vl vs vd vt : Value) (X : Nat → Prop) (w : World) (hXl : ∀ b, X b → b < w.heap.size) (hV : MaV X w A vm vb vl vs vd vt) : Calls Tryz.prog 21 #[.agg (A.cells vm vb vl vs vd vt).toArray] w fun e' w' => ∃ x, e' = .returned x ∧ MaX X w' x A.reset ∧ Below w.heap.size w w' := by
  have hX := two_ma w (A.cells vm vb vl vs vd vt)
  replace hX := hX.swap
  have hl4 := (Ma.parts hR).1
  have hcp := fun (wz : World) (hb : Below w.heap.size w wz) => pcopM_any A hA (fewM_of hR) vm vb vl vs vd vt wz (hV.now.step hb)
  clear hV
  refine (callsIn_wide (n := 5)).1 ?_
  refine callsIn_of_wp_marks Tryz.func21 rfl trivial ?_ rfl
  refine wpIn_wide.2 ?_
  simp only [Tryz.ntmps21, List.size_toArray, List.length_cons, List.length_nil, Nat.reduceAdd, Nat.reduceSub, Array.replicate_succ, Array.replicate_zero, List.push_toArray, List.append_toArray, List.nil_append, List.cons_append]
  go_upto_region 1 with (first | ((with_reducible refine at_alloc18 ?_); refine wpList_allocM rfl rfl ?_))
  generalize ((w.alloc (Obj.cells (A.cells vm vb vl vs vd vt).toArray 44)).alloc (Obj.cells mzL.toArray 44)) = wQ at hX ⊢
  go_wp2_with (first | ((with_reducible refine at_ld 44 ?_); refine ldw (hn := Ma.clen hA) hX aggM sizM ?_) | (go_at_call 36; (with_reducible refine (hcp _ hX.below).mono ?_); rintro e' wc ⟨nm, nb, nl, ns, nd, nt, rfl, qm, qb, hF, hbb⟩; replace qm := own_base qm (show w.heap.size + 2 ≤ _ from by have h0 := (hX.all _ _ _ (.head _)).lt; have h1 := (hX.all _ _ _ (.tail _ (.head _))).lt; omega); replace qb := own_base qb (show w.heap.size + 2 ≤ _ from by have h0 := (hX.all _ _ _ (.head _)).lt; have h1 := (hX.all _ _ _ (.tail _ (.head _))).lt; omega); replace hF := hF.base (show w.heap.size + 2 ≤ _ from by have h0 := (hX.all _ _ _ (.head _)).lt; have h1 := (hX.all _ _ _ (.tail _ (.head _))).lt; omega); replace hX := hX.step hbb; have p1 := (Ma.own18 qm).1; have p2 := (Ma.own18 qb).1; have p3 := (Ma.own18 hF.l).1; have p4 := (Ma.own18 hF.s).1; have p5 := (Ma.own18 hF.d).1; have p6 := (Ma.own18 hF.t).1; obtain ⟨Al, cl, rfl, _, _⟩ := Rw.of_own hF.l; clear hbb) | ((with_reducible refine at_st 44 ?_); refine stw hX aggM sizM (Ma.cone hA p1 p2 p3 p4 p5 p6) (hn := Ma.clen hA) (hc := Ma.clen hA) ?_; intro wS hY hkS; replace qm := own_over hX qm (by decide) hkS; replace qb := own_over hX qb (by decide) hkS; replace hF := hF.over hX hkS; replace hX := hY; clear hY hkS) | ((with_reducible refine at_ld 35 ?_); refine ldc (hk := get_l (Ma.len hA _ _ _)) hX slL_cell ?_) | (go_at_call 29; (with_reducible refine (pdevs_any _ _).mono ?_); rintro e' wd ⟨rfl, rfl⟩))
  clear hcp
  have hN : w.heap.size + 2 ≤ wS.heap.size := by have h0 := (hX.all _ _ _ (.head _)).lt; have h1 := (hX.all _ _ _ (.tail _ (.head _))).lt; omega
  obtain ⟨g, hS, hg⟩ : ∃ g, DSt (XR X (w.heap.size + 1)) w w.heap.size g wS A nm nb (.slice Al A.L.length cl) ns nd nt ∧ (g = w.heap.size ∨ w.heap.size + 2 ≤ g ∧ ∃ cur, wS.heap[g]? = some (.cells cur 68 (0, 0))) := DSt.copied (fun b q => by rcases q with q | rfl; (have := hXl b q; omega); omega) hN hX.drop2 (by omega : w.heap.size < w.heap.size + 2) (by omega) qm qb hF
  clear qm qb hF
  have hRB := hX.drop1
  have hR2 : ∀ b ∈ [(w.heap.size + 1, 44, mzL)], b.1 ≠ w.heap.size ∧ b.1 ≠ g := fun b hb => by
    simp only [List.mem_cons, List.not_mem_nil, or_false] at hb
    rcases hb with rfl
    · exact ⟨by simp only; omega, by simp only; omega⟩
  have hgl : g < wS.heap.size := hS.xl g (.inr (.inr rfl))
  clear hX
  obtain ⟨n, hn⟩ : ∃ n, A.L.length = n := ⟨_, rfl⟩
  rw [hn] at hl4 ⊢
  have hAl := (Below.refl wS.heap.size wS).alloc (Nat.le_refl _) (.cells #[.int .i64 n] 3)
  have hc0 : (wS.alloc (.cells #[.int .i64 n] 3)).cell? ⟨wS.heap.size, 0, none⟩ = some (.int .i64 n) := (Blk.new 3 wS [.int .i64 n]).cell (k := 0) rfl
  have hlt0 : wS.heap.size < (wS.alloc (.cells #[.int .i64 n] 3)).heap.size := by simp
  refine (wpIn_wide (n := 5)).1 ?_
  refine wpIn_rangeFunc_ownG (F := Fence.wide) (n := 5) rfl (by omega) (gf := 75) (lb := #[.pointer (some ⟨wS.heap.size, 0, none⟩)]) rfl trivial (enters_of Tryz.func75 (by kernel_rfl) rfl) (dev_stops 4 (by omega) wS.heap.size n (by omega) _ hc0 hlt0) (fun h k => KpB.trans h k) (kpB_put hlt0) (Below.refl _ _) (fun _ => rfl)
    (fun pre W => LpI [(w.heap.size + 1, 44, mzL)] (XR X (w.heap.size + 1)) w w.heap.size g (wS.alloc (.cells #[.int .i64 n] 3)).heap.size (pre.foldl (fun a (x : Fin (n + 4)) => a.dReset x.val) A) W) (fun _ _ _ => False) (LpI.own _ (by simp; omega)) (fun _ _ _ _ _ hs _ _ => hs) ⟨⟨_, _, _, _, _, _, hS.step hAl⟩, hRB.step hAl, Nat.le_refl _⟩
    (fun x => { tmps := #[Value.agg (A.cells vm vb vl vs vd vt).toArray, Value.pointer (some { block := w.heap.size, off := 0 }), Value.pointer (some { block := w.heap.size + 1, off := 0 }), undef, devV x.val, Value.agg (A.cells vm vb vl vs vd vt).toArray, Value.agg (A.cells nm nb (Value.slice Al n cl) ns nd nt).toArray, Value.pointer (some { block := w.heap.size, off := 83 }), Value.slice Al n cl, Value.int IntKind.i64 ↑n, Value.func (Fn.func 75) #[] #[Value.pointer (some { block := wS.heap.size, off := 0 })], .int .i64 (devB x.val), devV x.val, undef, undef, undef], defers := [] }) ?assign ?body ?done ?stop
  case assign =>
    intro l x W K hK
    dsimp only [encD]
    gi_wp2
    exact hK
  case body =>
    rintro l pre x W ⟨⟨um, ub, ul, us, ud, ut, hS⟩, hRB, hW⟩ _
    have hfi : (pre.foldl (fun a (x : Fin (n + 4)) => a.dReset x.val) A).fine n := fold_inv (P := fun A : Ma => A.fine n) _ (fun b a h => fine_reset h a) pre A ⟨hA, hR, hn⟩
    have hsn : (pre ++ [x]).foldl (fun a (x : Fin (n + 4)) => a.dReset x.val) A = (pre.foldl (fun a (x : Fin (n + 4)) => a.dReset x.val) A).dReset x.val := by rw [List.foldl_append]; rfl
    have hpost : ∀ (a' : Act) (W' : World), (∃ vm vb vl vs vd vt, DSt (XR X (w.heap.size + 1)) w w.heap.size g W' ((pre.foldl (fun a (x : Fin (n + 4)) => a.dReset x.val) A).dReset x.val) vm vb vl vs vd vt) → Kpt w.heap.size g W W' → ownPostG (wS.alloc (.cells #[.int .i64 n] 3)).heap.size (KpB wS.heap.size) (fun pre W => LpI [(w.heap.size + 1, 44, mzL)] (XR X (w.heap.size + 1)) w w.heap.size g (wS.alloc (.cells #[.int .i64 n] 3)).heap.size (pre.foldl (fun a (x : Fin (n + 4)) => a.dReset x.val) A) W) (fun _ _ _ => False) (pre ++ [x]) W .normal a' W' := by
      rintro a' W' ⟨vm, vb, vl, vs, vd, vt, hS'⟩ hK
      refine ⟨hK.from (by omega) (by omega), hK.same _ (Nat.lt_of_lt_of_le hlt0 hW) (by omega) (by omega), ?_⟩
      show LpI _ _ _ _ _ _ ((pre ++ [x]).foldl _ A) W'
      rw [hsn]
      exact ⟨⟨_, _, _, _, _, _, hS'⟩, hRB.kpt hK hR2 hS'.bag.below, Nat.le_trans hW hK.size⟩
    generalize (ownPostG _ _ _ _ (pre ++ [x]) W) = PQ at hpost ⊢
    generalize pre.foldl (fun a (x : Fin (n + 4)) => a.dReset x.val) A = Ap at *
    clear hsn
    obtain ⟨q, hq⟩ := x
    have hq5 : q = 0 ∨ q = 1 ∨ q = 2 ∨ q = 3 ∨ ∃ k, q = k + 4 := by
      rcases Nat.lt_or_ge q 4 with h | h
      · omega
      · exact .inr (.inr (.inr (.inr ⟨q - 4, by omega⟩)))
    rcases hq5 with rfl | rfl | rfl | rfl | ⟨k, rfl⟩
    · have hc := md_reset_0 Ap hfi.1 hfi.2.1 um ub ul us ud ut (XR X (w.heap.size + 1)) w W w.heap.size g hS
      have hm : ∀ (m : Nat) (w : World), (method (m + 1) 133 (.agg #[]) "emulator/bus.reset").run Tryz.prog w = .ok (162, (.agg #[])) w := fun _ _ => by kernel_rfl
      dsimp only [devV, devB]
      gi_wp2_with (refine ⟨trivial, ?_⟩; gi_at_call 162; refine (CallsIn.inRound l (callsIn_wide.2 hc)).mono ?_; rintro e wr ⟨rfl, hD, hK⟩)
      exact hpost _ _ hD hK
    · have hc := md_reset_1 Ap hfi.1 hfi.2.1 um ub ul us ud ut (XR X (w.heap.size + 1)) w W w.heap.size g hS
      have hm : ∀ (m : Nat) (w : World), (method (m + 1) 134 (.agg #[]) "emulator/bus.reset").run Tryz.prog w = .ok (182, (.agg #[])) w := fun _ _ => by kernel_rfl
      dsimp only [devV, devB]
      gi_wp2_with (refine ⟨trivial, ?_⟩; gi_at_call 182; refine (CallsIn.inRound l (callsIn_wide.2 hc)).mono ?_; rintro e wr ⟨rfl, hD, hK⟩)
      exact hpost _ _ hD hK
    · have hc := md_reset_2 Ap hfi.1 hfi.2.1 um ub ul us ud ut (XR X (w.heap.size + 1)) w W w.heap.size g hS
      have hm : ∀ (m : Nat) (w : World), (method (m + 1) 135 (.agg #[]) "emulator/bus.reset").run Tryz.prog w = .ok (197, (.agg #[])) w := fun _ _ => by kernel_rfl
      dsimp only [devV, devB]
      gi_wp2_with (refine ⟨trivial, ?_⟩; gi_at_call 197; refine (CallsIn.inRound l (callsIn_wide.2 hc)).mono ?_; rintro e wr ⟨rfl, hD, hK⟩)
      exact hpost _ _ hD hK
    · have hc := md_reset_3 Ap hfi.1 hfi.2.1 um ub ul us ud ut (XR X (w.heap.size + 1)) w W w.heap.size g hS
      have hm : ∀ (m : Nat) (w : World), (method (m + 1) 136 (.agg #[]) "emulator/bus.reset").run Tryz.prog w = .ok (235, (.agg #[])) w := fun _ _ => by kernel_rfl
      dsimp only [devV, devB]
      gi_wp2_with (refine ⟨trivial, ?_⟩; gi_at_call 235; refine (CallsIn.inRound l (callsIn_wide.2 hc)).mono ?_; rintro e wr ⟨rfl, hD, hK⟩)
      exact hpost _ _ hD hK
    · have hc := md_reset_4 Ap hfi.1 hfi.2.1 k (by rw [hfi.2.2]; omega) um ub ul us ud ut (XR X (w.heap.size + 1)) w W w.heap.size g hS
      have hm : ∀ (m : Nat) (w : World), (method (m + 1) 137 (.int .i64 k) "emulator/bus.reset").run Tryz.prog w = .ok (268, (.int .i64 k)) w := fun _ _ => by kernel_rfl
      dsimp only [devV, devB]
      gi_wp2_with (refine ⟨trivial, ?_⟩; gi_at_call 268; refine (CallsIn.inRound l (callsIn_wide.2 hc)).mono ?_; rintro e wr ⟨rfl, hD, hK⟩)
      exact hpost _ _ hD hK
  case done =>
    rintro D xs W hD hSD ⟨⟨um, ub, ul, us, ud, ut, hS⟩, hRB, hW⟩ hKd
    rw [sdev_fold hSD (Ma.dReset), ← hn, reset_fold] at hS
    have hX := hS.bag.two hRB (by simp only; omega)
    have hM := hS.mav (fun h q => by
      rcases hg with rfl | ⟨hg, _⟩
      · exact h rfl
      · rcases q with q | rfl
        · have := hXl g q; omega
        · omega)
    have o1 := hM.o1
    have o2 := hM.o2
    have o3 := hM.o3
    have o4 := hM.o4
    have o5 := hM.o5
    have o6 := hM.o6
    have hD' : wS.heap.size + 1 ≤ D := by simpa using hD
    clear hS hRB hg
    have hAt : (A.reset).ok := Ma.reset_ok hA
    obtain ⟨At, hAe⟩ : ∃ At, Hid (At = A.reset) := ⟨_, hid rfl⟩
    rw [← show At = A.reset from hAe] at hX hM hAt
    go_wp2_with (first | ((with_reducible refine at_ld 44 ?_); refine ldw (hn := Ma.clen hAt) hX aggM sizM ?_) | ((with_reducible refine at_st 44 ?_); refine stw2 hX aggM sizM (Ma.cone hAt o1 o2 o3 o4 o5 o6) (hn := Ma.clen hAt) (hc := mzL_len) ?_; intro wS hY hkS; replace hKd := (hkS D (by omega)).trans hKd; replace hM := MaV.to hM (fun b _ q => hkS b (fun e => q (.inr e))) (fun b q => .inl q); replace hX := hY; clear hY hkS))
    refine ⟨by simp, .inl ⟨_, _, rfl, run_takeDeferred hKd, ?_⟩⟩
    have hgr := grownBy_putObj' wS D (.deferred none)
    have hnc : ∀ r, some D = some r → w.heap.size ≤ r ∧ NoCells wS r := fun r e => by cases e; exact ⟨by omega, _, hKd, rfl⟩
    have hX3 := hX.grown hgr hnc
    have hM3 := hM.grown hgr fun r e => (hnc r e).2
    refine ⟨_, results_c (by rfl) rfl ((hX3.all _ _ _ (.tail _ (.head _))).loadVar (Ma.clen hAt) aggM sizM), _, rfl, ?_, hX3.below⟩
    rw [← show At = A.reset from hAe]
    exact hM3.x
  case stop =>
    rintro D c pre W _ _ h _
    exact h.elim
theorem pbAccept_any (A : Ma) (hA : A.ok) (hR : A.right = true) (v : Int) (vm vb vl vs vd vt : Value) (X : Nat → Prop) (w : World) (hXl : ∀ b, X b → b < w.heap.size) (hV : MaV X w A vm vb vl vs vd vt) : Calls Tryz.prog 20 #[.agg (A.cells vm vb vl vs vd vt).toArray, .int .i64 v] w fun e' w' => ∃ x, e' = .returned x ∧ MaX X w' x (A.acc v) ∧ Below w.heap.size w w' := by
  have hX := three_mv w (A.cells vm vb vl vs vd vt) (.int .i64 v)
  have hl4 := (Ma.parts hR).1
  have hcp := fun (wz : World) (hb : Below w.heap.size w wz) => pcopM_any A hA (fewM_of hR) vm vb vl vs vd vt wz (hV.now.step hb)
  clear hV
  refine (callsIn_wide (n := 5)).1 ?_
  refine callsIn_of_wp_marks Tryz.func20 rfl trivial ?_ rfl
  refine wpIn_wide.2 ?_
  simp only [Tryz.ntmps20, List.size_toArray, List.length_cons, List.length_nil, Nat.reduceAdd, Nat.reduceSub, Array.replicate_succ, Array.replicate_zero, List.push_toArray, List.append_toArray, List.nil_append, List.cons_append]
  go_upto_region 1 with (first | ((with_reducible refine at_alloc18 ?_); refine wpList_allocM rfl rfl ?_))
  generalize (((w.alloc (Obj.cells (A.cells vm vb vl vs vd vt).toArray 44)).alloc (Obj.cells #[Value.int IntKind.i64 v] 3)).alloc (Obj.cells mzL.toArray 44)) = wQ at hX ⊢
  go_wp2_with (first | ((with_reducible refine at_ld 44 ?_); refine ldw (hn := Ma.clen hA) hX aggM sizM ?_) | (go_at_call 36; (with_reducible refine (hcp _ hX.below).mono ?_); rintro e' wc ⟨nm, nb, nl, ns, nd, nt, rfl, qm, qb, hF, hbb⟩; replace qm := own_base qm (show w.heap.size + 3 ≤ _ from by have h0 := (hX.all _ _ _ (.head _)).lt; have h1 := (hX.all _ _ _ (.tail _ (.head _))).lt; have h2 := (hX.all _ _ _ (.tail _ (.tail _ (.head _)))).lt; omega); replace qb := own_base qb (show w.heap.size + 3 ≤ _ from by have h0 := (hX.all _ _ _ (.head _)).lt; have h1 := (hX.all _ _ _ (.tail _ (.head _))).lt; have h2 := (hX.all _ _ _ (.tail _ (.tail _ (.head _)))).lt; omega); replace hF := hF.base (show w.heap.size + 3 ≤ _ from by have h0 := (hX.all _ _ _ (.head _)).lt; have h1 := (hX.all _ _ _ (.tail _ (.head _))).lt; have h2 := (hX.all _ _ _ (.tail _ (.tail _ (.head _)))).lt; omega); replace hX := hX.step hbb; have p1 := (Ma.own18 qm).1; have p2 := (Ma.own18 qb).1; have p3 := (Ma.own18 hF.l).1; have p4 := (Ma.own18 hF.s).1; have p5 := (Ma.own18 hF.d).1; have p6 := (Ma.own18 hF.t).1; obtain ⟨Al, cl, rfl, _, _⟩ := Rw.of_own hF.l; clear hbb) | ((with_reducible refine at_st 44 ?_); refine stw hX aggM sizM (Ma.cone hA p1 p2 p3 p4 p5 p6) (hn := Ma.clen hA) (hc := Ma.clen hA) ?_; intro wS hY hkS; replace qm := own_over hX qm (by decide) hkS; replace qb := own_over hX qb (by decide) hkS; replace hF := hF.over hX hkS; replace hX := hY; clear hY hkS) | ((with_reducible refine at_ld 35 ?_); refine ldc (hk := get_l (Ma.len hA _ _ _)) hX slL_cell ?_) | (go_at_call 29; (with_reducible refine (pdevs_any _ _).mono ?_); rintro e' wd ⟨rfl, rfl⟩))
  clear hcp
  have hN : w.heap.size + 3 ≤ wS.heap.size := by have h0 := (hX.all _ _ _ (.head _)).lt; have h1 := (hX.all _ _ _ (.tail _ (.head _))).lt; have h2 := (hX.all _ _ _ (.tail _ (.tail _ (.head _)))).lt; omega
  obtain ⟨g, hS, hg⟩ : ∃ g, DSt (XR X (w.heap.size + 2)) w w.heap.size g wS A nm nb (.slice Al A.L.length cl) ns nd nt ∧ (g = w.heap.size ∨ w.heap.size + 3 ≤ g ∧ ∃ cur, wS.heap[g]? = some (.cells cur 68 (0, 0))) := DSt.copied (fun b q => by rcases q with q | rfl; (have := hXl b q; omega); omega) hN hX.drop2.drop2 (by omega : w.heap.size < w.heap.size + 3) (by omega) qm qb hF
  clear qm qb hF
  have hRB := hX.drop1
  have hR2 : ∀ b ∈ [(w.heap.size + 1, 3, [.int .i64 v]), (w.heap.size + 2, 44, mzL)], b.1 ≠ w.heap.size ∧ b.1 ≠ g := fun b hb => by
    simp only [List.mem_cons, List.not_mem_nil, or_false] at hb
    rcases hb with rfl | rfl
    · exact ⟨by simp only; omega, by simp only; omega⟩
    · exact ⟨by simp only; omega, by simp only; omega⟩
  have hgl : g < wS.heap.size := hS.xl g (.inr (.inr rfl))
  clear hX
  obtain ⟨n, hn⟩ : ∃ n, A.L.length = n := ⟨_, rfl⟩
  rw [hn] at hl4 ⊢
  have hAl := (Below.refl wS.heap.size wS).alloc (Nat.le_refl _) (.cells #[.int .i64 n] 3)
  have hc0 : (wS.alloc (.cells #[.int .i64 n] 3)).cell? ⟨wS.heap.size, 0, none⟩ = some (.int .i64 n) := (Blk.new 3 wS [.int .i64 n]).cell (k := 0) rfl
  have hlt0 : wS.heap.size < (wS.alloc (.cells #[.int .i64 n] 3)).heap.size := by simp
  refine (wpIn_wide (n := 5)).1 ?_
  refine wpIn_rangeFunc_ownG (F := Fence.wide) (n := 5) rfl (by omega) (gf := 75) (lb := #[.pointer (some ⟨wS.heap.size, 0, none⟩)]) rfl trivial (enters_of Tryz.func75 (by kernel_rfl) rfl) (dev_stops 4 (by omega) wS.heap.size n (by omega) _ hc0 hlt0) (fun h k => KpB.trans h k) (kpB_put hlt0) (Below.refl _ _) (fun _ => rfl)
    (fun pre W => LpI [(w.heap.size + 1, 3, [.int .i64 v]), (w.heap.size + 2, 44, mzL)] (XR X (w.heap.size + 2)) w w.heap.size g (wS.alloc (.cells #[.int .i64 n] 3)).heap.size (pre.foldl (fun a (x : Fin (n + 4)) => Ma.dAcc v a x.val) A) W) (fun _ _ _ => False) (LpI.own _ (by simp; omega)) (fun _ _ _ _ _ hs _ _ => hs) ⟨⟨_, _, _, _, _, _, hS.step hAl⟩, hRB.step hAl, Nat.le_refl _⟩
    (fun x => { tmps := #[Value.agg (A.cells vm vb vl vs vd vt).toArray, Value.int IntKind.i64 v, Value.pointer (some { block := w.heap.size, off := 0 }), Value.pointer (some { block := w.heap.size + 1, off := 0 }), Value.pointer (some { block := w.heap.size + 2, off := 0 }), undef, devV x.val, Value.agg (A.cells vm vb vl vs vd vt).toArray, Value.agg (A.cells nm nb (Value.slice Al n cl) ns nd nt).toArray, Value.pointer (some { block := w.heap.size, off := 83 }), Value.slice Al n cl, Value.int IntKind.i64 ↑n, Value.func (Fn.func 75) #[] #[Value.pointer (some { block := wS.heap.size, off := 0 })], .int .i64 (devB x.val), devV x.val, undef, undef, undef, undef], defers := [] }) ?assign ?body ?done ?stop
  case assign =>
    intro l x W K hK
    dsimp only [encD]
    gi_wp2
    exact hK
  case body =>
    rintro l pre x W ⟨⟨um, ub, ul, us, ud, ut, hS⟩, hRB, hW⟩ _
    have hfi : (pre.foldl (fun a (x : Fin (n + 4)) => Ma.dAcc v a x.val) A).fine n := fold_inv (P := fun A : Ma => A.fine n) _ (fun b a h => fine_acc v h a) pre A ⟨hA, hR, hn⟩
    have hsn : (pre ++ [x]).foldl (fun a (x : Fin (n + 4)) => Ma.dAcc v a x.val) A = Ma.dAcc v (pre.foldl (fun a (x : Fin (n + 4)) => Ma.dAcc v a x.val) A) x.val := by rw [List.foldl_append]; rfl
    have hpost : ∀ (a' : Act) (W' : World), (∃ vm vb vl vs vd vt, DSt (XR X (w.heap.size + 2)) w w.heap.size g W' (Ma.dAcc v (pre.foldl (fun a (x : Fin (n + 4)) => Ma.dAcc v a x.val) A) x.val) vm vb vl vs vd vt) → Kpt w.heap.size g W W' → ownPostG (wS.alloc (.cells #[.int .i64 n] 3)).heap.size (KpB wS.heap.size) (fun pre W => LpI [(w.heap.size + 1, 3, [.int .i64 v]), (w.heap.size + 2, 44, mzL)] (XR X (w.heap.size + 2)) w w.heap.size g (wS.alloc (.cells #[.int .i64 n] 3)).heap.size (pre.foldl (fun a (x : Fin (n + 4)) => Ma.dAcc v a x.val) A) W) (fun _ _ _ => False) (pre ++ [x]) W .normal a' W' := by
      rintro a' W' ⟨vm, vb, vl, vs, vd, vt, hS'⟩ hK
      refine ⟨hK.from (by omega) (by omega), hK.same _ (Nat.lt_of_lt_of_le hlt0 hW) (by omega) (by omega), ?_⟩
      show LpI _ _ _ _ _ _ ((pre ++ [x]).foldl _ A) W'
      rw [hsn]
      exact ⟨⟨_, _, _, _, _, _, hS'⟩, hRB.kpt hK hR2 hS'.bag.below, Nat.le_trans hW hK.size⟩
    generalize (ownPostG _ _ _ _ (pre ++ [x]) W) = PQ at hpost ⊢
    generalize pre.foldl (fun a (x : Fin (n + 4)) => Ma.dAcc v a x.val) A = Ap at *
    clear hsn
    have hcv := (hRB.all _ _ _ (.head _)).cell (k := 0) rfl
    obtain ⟨q, hq⟩ := x
    have hq5 : q = 0 ∨ q = 1 ∨ q = 2 ∨ q = 3 ∨ ∃ k, q = k + 4 := by
      rcases Nat.lt_or_ge q 4 with h | h
      · omega
      · exact .inr (.inr (.inr (.inr ⟨q - 4, by omega⟩)))
    rcases hq5 with rfl | rfl | rfl | rfl | ⟨k, rfl⟩
    · have hc := md_accept_0 Ap v um ub ul us ud ut (XR X (w.heap.size + 2)) w W w.heap.size g hS
      have hm : ∀ (m : Nat) (w : World), (method (m + 1) 133 (.agg #[]) "emulator/bus.accept").run Tryz.prog w = .ok (159, (.agg #[])) w := fun _ _ => by kernel_rfl
      dsimp only [devV, devB]
      gi_wp2_with (refine ⟨trivial, ?_⟩; gi_at_call 159; refine (CallsIn.inRound l (callsIn_wide.2 hc)).mono ?_; rintro e wr ⟨rfl, hD, hK⟩)
      exact hpost _ _ hD hK
    · have hc := md_accept_1 Ap hfi.1 hfi.2.1 v um ub ul us ud ut (XR X (w.heap.size + 2)) w W w.heap.size g hS
      have hm : ∀ (m : Nat) (w : World), (method (m + 1) 134 (.agg #[]) "emulator/bus.accept").run Tryz.prog w = .ok (179, (.agg #[])) w := fun _ _ => by kernel_rfl
      dsimp only [devV, devB]
      gi_wp2_with (refine ⟨trivial, ?_⟩; gi_at_call 179; refine (CallsIn.inRound l (callsIn_wide.2 hc)).mono ?_; rintro e wr ⟨rfl, hD, hK⟩)
      exact hpost _ _ hD hK
    · have hc := md_accept_2 Ap hfi.1 hfi.2.1 v um ub ul us ud ut (XR X (w.heap.size + 2)) w W w.heap.size g hS
      have hm : ∀ (m : Nat) (w : World), (method (m + 1) 135 (.agg #[]) "emulator/bus.accept").run Tryz.prog w = .ok (194, (.agg #[])) w := fun _ _ => by kernel_rfl
      dsimp only [devV, devB]
      gi_wp2_with (refine ⟨trivial, ?_⟩; gi_at_call 194; refine (CallsIn.inRound l (callsIn_wide.2 hc)).mono ?_; rintro e wr ⟨rfl, hD, hK⟩)
      exact hpost _ _ hD hK
    · have hc := md_accept_3 Ap hfi.1 hfi.2.1 v um ub ul us ud ut (XR X (w.heap.size + 2)) w W w.heap.size g hS
      have hm : ∀ (m : Nat) (w : World), (method (m + 1) 136 (.agg #[]) "emulator/bus.accept").run Tryz.prog w = .ok (232, (.agg #[])) w := fun _ _ => by kernel_rfl
      dsimp only [devV, devB]
      gi_wp2_with (refine ⟨trivial, ?_⟩; gi_at_call 232; refine (CallsIn.inRound l (callsIn_wide.2 hc)).mono ?_; rintro e wr ⟨rfl, hD, hK⟩)
      exact hpost _ _ hD hK
    · have hc := md_accept_4 Ap hfi.1 hfi.2.1 v k (by rw [hfi.2.2]; omega) um ub ul us ud ut (XR X (w.heap.size + 2)) w W w.heap.size g hS
      have hm : ∀ (m : Nat) (w : World), (method (m + 1) 137 (.int .i64 k) "emulator/bus.accept").run Tryz.prog w = .ok (265, (.int .i64 k)) w := fun _ _ => by kernel_rfl
      dsimp only [devV, devB]
      gi_wp2_with (refine ⟨trivial, ?_⟩; gi_at_call 265; refine (CallsIn.inRound l (callsIn_wide.2 hc)).mono ?_; rintro e wr ⟨rfl, hD, hK⟩)
      exact hpost _ _ hD hK
  case done =>
    rintro D xs W hD hSD ⟨⟨um, ub, ul, us, ud, ut, hS⟩, hRB, hW⟩ hKd
    rw [sdev_fold hSD (Ma.dAcc v), ← hn, acc_fold] at hS
    have hX := hS.bag.two hRB.drop1 (by simp only; omega)
    have hM := hS.mav (fun h q => by
      rcases hg with rfl | ⟨hg, _⟩
      · exact h rfl
      · rcases q with q | rfl
        · have := hXl g q; omega
        · omega)
    have o1 := hM.o1
    have o2 := hM.o2
    have o3 := hM.o3
    have o4 := hM.o4
    have o5 := hM.o5
    have o6 := hM.o6
    have hD' : wS.heap.size + 1 ≤ D := by simpa using hD
    clear hS hRB hg
    have hAt : ((A.acc v)).ok := Ma.acc_ok hA v
    obtain ⟨At, hAe⟩ : ∃ At, Hid (At = (A.acc v)) := ⟨_, hid rfl⟩
    rw [← show At = (A.acc v) from hAe] at hX hM hAt
    go_wp2_with (first | ((with_reducible refine at_ld 44 ?_); refine ldw (hn := Ma.clen hAt) hX aggM sizM ?_) | ((with_reducible refine at_st 44 ?_); refine stw2 hX aggM sizM (Ma.cone hAt o1 o2 o3 o4 o5 o6) (hn := Ma.clen hAt) (hc := mzL_len) ?_; intro wS hY hkS; replace hKd := (hkS D (by omega)).trans hKd; replace hM := MaV.to hM (fun b _ q => hkS b (fun e => q (.inr e))) (fun b q => .inl q); replace hX := hY; clear hY hkS))
    refine ⟨by simp, .inl ⟨_, _, rfl, run_takeDeferred hKd, ?_⟩⟩
    have hgr := grownBy_putObj' wS D (.deferred none)
    have hnc : ∀ r, some D = some r → w.heap.size ≤ r ∧ NoCells wS r := fun r e => by cases e; exact ⟨by omega, _, hKd, rfl⟩
    have hX3 := hX.grown hgr hnc
    have hM3 := hM.grown hgr fun r e => (hnc r e).2
    refine ⟨_, results_c (by rfl) rfl ((hX3.all _ _ _ (.tail _ (.head _))).loadVar (Ma.clen hAt) aggM sizM), _, rfl, ?_, hX3.below⟩
    rw [← show At = (A.acc v) from hAe]
    exact hM3.x
  case stop =>
    rintro D c pre W _ _ h _
    exact h.elim
end Go.Proofs.YthpnddgfgpacpaaGreat
