import Derived.Test.YtlegcfjafdihlaaGreatDoorZR23
import Derived.Test.YtlegcfjafdihlaaGreatDoorZR15
import Derived.Deep.CutBlock
/-
  Right of the program. Condition: lists of at most 2^40 elements.
-/
namespace Go.Proofs.YtlegcfjafdihlaaGreatDoor
open Go.RowKit Go.Shelf
set_option linter.unusedSimpArgs false
set_option linter.unusedVariables false
set_option maxHeartbeats 4000000
set_option maxRecDepth 100000
attribute [local irreducible] wpQuiet
attribute [local go_sem] Oper.semAt_some

theorem pbRight_any (A : Ma) (hA : A.ok) (hF : A.few) (vm vb vl vs vd vt : Value) (w : World) (hN : MaNow w A vm vb vl vs vd vt) : Calls Tryz.prog 50 #[.agg (A.cells vm vb vl vs vd vt).toArray] w fun e' w' => e' = .returned (.bool A.right) ∧ Below w.heap.size w w' := by
  have hX := two_bag w 49 4 (A.cells vm vb vl vs vd vt) [.bool false]
  obtain ⟨aL, cL, rfl, hcl, _⟩ := lns_form hN.l
  have hmr := fun (wz : World) (hb : Below w.heap.size w wz) => right_any vm vb A.M A.B hF.1 hF.2.1 wz (Its.nums18 (Rz.below hN.m hb)) (Its.nums18 (Rz.below hN.b hb))
  by_cases h4 : 4 < A.L.length
  · have hr : A.right = false := by unfold Ma.right; rw [decide_eq_false (by omega : ¬ A.L.length ≤ 4)]; rfl
    have d4 : decide (4 < (A.L.length : Int)) = true := decide_eq_true (by omega)
    have d5 : (4 : Int) < (A.L.length : Int) := by omega
    rw [hr]
    clear hr hmr
    refine (callsIn_wide (n := 5)).1 ?_
    refine callsIn_of_wp_marks Tryz.func50 rfl trivial ?_ rfl
    refine wpIn_wide.2 ?_
    simp only [Tryz.ntmps50, List.size_toArray, List.length_cons, List.length_nil, Nat.reduceAdd, Nat.reduceSub, Array.replicate_succ, Array.replicate_zero, List.push_toArray, List.append_toArray, List.nil_append, List.cons_append]
    go_upto_region 1 with fail
    generalize ((w.alloc (Obj.cells (A.cells vm vb (.slice aL A.L.length cL) vs vd vt).toArray 49)).alloc (Obj.cells #[.bool false] 4)) = wS at hX ⊢
    have hX2 := hX.swap
    go_wp2_with (first | ((with_reducible refine at_ld 40 ?_); refine ldc (hk := get_l (Ma.len hA _ _ _)) hX2 slL_cell ?_) | ((with_reducible refine at_ld 31 ?_); refine ldc (hk := get_m (Ma.len hA _ _ _)) hX2 slI_cell ?_) | ((with_reducible refine at_ld 31 ?_); refine ldc (hk := get_b (Ma.len hA _ _ _)) hX2 slI_cell ?_) | (go_at_call 91; (with_reducible refine (hmr _ hX2.below).mono ?_); rintro e' wm ⟨rfl, rfl⟩) | ((with_reducible refine at_st 4 ?_); refine stk1 (k := 0) (cs' := [.bool false]) hX2.swap siz_bool rfl (by simp) rfl ?_; intro wT hY hkT))
    exact ⟨_, results_c (by rfl) rfl ((hY.all _ _ _ (.head _)).loadVarC (k := 0) rfl bool_cell), rfl, hY.below⟩
  have d4 : decide (4 < (A.L.length : Int)) = false := decide_eq_false (by omega)
  have d5 : ¬ (4 : Int) < (A.L.length : Int) := by omega
  cases hm : rightP A.M A.B
  · have hr : A.right = false := by unfold Ma.right; rw [hm]; simp
    rw [hm] at hmr
    rw [hr]
    clear hr hm
    refine (callsIn_wide (n := 5)).1 ?_
    refine callsIn_of_wp_marks Tryz.func50 rfl trivial ?_ rfl
    refine wpIn_wide.2 ?_
    simp only [Tryz.ntmps50, List.size_toArray, List.length_cons, List.length_nil, Nat.reduceAdd, Nat.reduceSub, Array.replicate_succ, Array.replicate_zero, List.push_toArray, List.append_toArray, List.nil_append, List.cons_append]
    go_upto_region 1 with fail
    generalize ((w.alloc (Obj.cells (A.cells vm vb (.slice aL A.L.length cL) vs vd vt).toArray 49)).alloc (Obj.cells #[.bool false] 4)) = wS at hX ⊢
    have hX2 := hX.swap
    go_wp2_with (first | ((with_reducible refine at_ld 40 ?_); refine ldc (hk := get_l (Ma.len hA _ _ _)) hX2 slL_cell ?_) | ((with_reducible refine at_ld 31 ?_); refine ldc (hk := get_m (Ma.len hA _ _ _)) hX2 slI_cell ?_) | ((with_reducible refine at_ld 31 ?_); refine ldc (hk := get_b (Ma.len hA _ _ _)) hX2 slI_cell ?_) | (go_at_call 91; (with_reducible refine (hmr _ hX2.below).mono ?_); rintro e' wm ⟨rfl, rfl⟩) | ((with_reducible refine at_st 4 ?_); refine stk1 (k := 0) (cs' := [.bool false]) hX2.swap siz_bool rfl (by simp) rfl ?_; intro wT hY hkT))
    exact ⟨_, results_c (by rfl) rfl ((hY.all _ _ _ (.head _)).loadVarC (k := 0) rfl bool_cell), rfl, hY.below⟩
  rw [hm] at hmr
  refine (callsIn_wide (n := 5)).1 ?_
  refine callsIn_of_wp_marks Tryz.func50 rfl trivial ?_ rfl
  refine wpIn_wide.2 ?_
  simp only [Tryz.ntmps50, List.size_toArray, List.length_cons, List.length_nil, Nat.reduceAdd, Nat.reduceSub, Array.replicate_succ, Array.replicate_zero, List.push_toArray, List.append_toArray, List.nil_append, List.cons_append]
  go_upto_region 1 with fail
  generalize ((w.alloc (Obj.cells (A.cells vm vb (.slice aL A.L.length cL) vs vd vt).toArray 49)).alloc (Obj.cells #[.bool false] 4)) = wS at hX ⊢
  have hX2 := hX.swap
  go_wp2_with (first | ((with_reducible refine at_ld 40 ?_); refine ldc (hk := get_l (Ma.len hA _ _ _)) hX2 slL_cell ?_) | ((with_reducible refine at_ld 31 ?_); refine ldc (hk := get_m (Ma.len hA _ _ _)) hX2 slI_cell ?_) | ((with_reducible refine at_ld 31 ?_); refine ldc (hk := get_b (Ma.len hA _ _ _)) hX2 slI_cell ?_) | (go_at_call 91; (with_reducible refine (hmr _ hX2.below).mono ?_); rintro e' wm ⟨rfl, rfl⟩) | (go_at_call 92; (with_reducible refine (pdevs_any _ _).mono ?_); rintro e' wd ⟨rfl, rfl⟩))
  clear hX2 hmr d4 d5
  have hNs : w.heap.size + 2 ≤ wS.heap.size := by have h1 := bag_lt hX; have h2 := bag_lt hX.swap; omega
  have hall := right_all A (by omega) hm
  obtain ⟨n, hn⟩ : ∃ n, A.L.length = n := ⟨_, rfl⟩
  rw [hn] at h4 hN hX hall ⊢
  have hAl := (Below.refl wS.heap.size wS).alloc (Nat.le_refl _) (.cells #[.int .i64 n] 3)
  have hc0 : (wS.alloc (.cells #[.int .i64 n] 3)).cell? ⟨wS.heap.size, 0, none⟩ = some (.int .i64 n) := (Blk.new 3 wS [.int .i64 n]).cell (k := 0) rfl
  have hlt0 : wS.heap.size < (wS.alloc (.cells #[.int .i64 n] 3)).heap.size := by simp
  refine (wpIn_wide (n := 5)).1 ?_
  refine wpIn_rangeFunc_ownG (F := Fence.wide) (n := 5) rfl (by omega) (gf := 131) (lb := #[.pointer (some ⟨wS.heap.size, 0, none⟩)]) rfl trivial (enters_of Tryz.func131 (by kernel_rfl) rfl) (dev_stops 4 (by omega) wS.heap.size n (by omega) _ hc0 hlt0) (fun h k => KpB.trans h k) (kpB_put hlt0) (Below.refl _ _) (fun _ => rfl)
    (fun (pre : List (Fin (n + 4))) W => (∀ x ∈ pre, A.dRight (Fin.val x) = true) ∧ Bag [(w.heap.size + 1, 4, [.bool false]), (w.heap.size, 49, A.cells vm vb (.slice aL n cL) vs vd vt)] w W ∧ (wS.alloc (.cells #[.int .i64 n] 3)).heap.size ≤ W.heap.size) (fun (c : Code) (pre : List (Fin (n + 4))) W => c = .ret ∧ (∃ x ∈ pre, A.dRight (Fin.val x) = false) ∧ Bag [(w.heap.size + 1, 4, [.bool false]), (w.heap.size, 49, A.cells vm vb (.slice aL n cL) vs vd vt)] w W) (fun s W W' row hs hg hr => ⟨hs.1, hs.2.1.grown hg (fun r e => ⟨by have := (hr r e).1; simp at this; omega, (hr r e).2⟩), Nat.le_trans hs.2.2 hg.size⟩) (fun c s W W' row hs hg hr => ⟨hs.1, hs.2.1, hs.2.2.grown hg (fun r e => ⟨by have := (hr r e).1; simp at this; omega, (hr r e).2⟩)⟩) ⟨fun x hx => (by cases hx), hX.step hAl, Nat.le_refl _⟩
    (fun x => { tmps := #[Value.agg (A.cells vm vb (.slice aL n cL) vs vd vt).toArray, Value.pointer (some { block := w.heap.size, off := 0 }), Value.pointer (some { block := w.heap.size + 1, off := 0 }), undef, devV x.val, Value.pointer (some { block := w.heap.size, off := 83 }), Value.slice aL n cL, Value.int IntKind.i64 ↑n, .bool false, .bool false, Value.pointer (some { block := w.heap.size, off := 10 }), vm, Value.pointer (some { block := w.heap.size, off := 11 }), vb, .bool true, .bool false, .bool false, Value.pointer (some { block := w.heap.size, off := 83 }), Value.slice aL n cL, Value.int IntKind.i64 ↑n, Value.func (Fn.func 131) #[] #[Value.pointer (some { block := wS.heap.size, off := 0 })], .int .i64 (devB x.val), devV x.val, undef, undef, undef], defers := [] }) ?assign ?body ?done ?stop
  case assign =>
    intro l x W K hK
    dsimp only [encD]
    gi_wp2
    exact hK
  case body =>
    rintro l pre x W ⟨hpr, hX, hW⟩ _
    have hgo : ∀ (a' : Act) (W' : World), Below W.heap.size W W' → A.dRight x.val = true → ownPostG (wS.alloc (.cells #[.int .i64 n] 3)).heap.size (KpB wS.heap.size) (fun (pre : List (Fin (n + 4))) W => (∀ x ∈ pre, A.dRight (Fin.val x) = true) ∧ Bag [(w.heap.size + 1, 4, [.bool false]), (w.heap.size, 49, A.cells vm vb (.slice aL n cL) vs vd vt)] w W ∧ (wS.alloc (.cells #[.int .i64 n] 3)).heap.size ≤ W.heap.size) (fun (c : Code) (pre : List (Fin (n + 4))) W => c = .ret ∧ (∃ x ∈ pre, A.dRight (Fin.val x) = false) ∧ Bag [(w.heap.size + 1, 4, [.bool false]), (w.heap.size, 49, A.cells vm vb (.slice aL n cL) vs vd vt)] w W) (pre ++ [x]) W .normal a' W' := fun a' W' hb hx => by
      refine ⟨(KeepsFrom.of_grownBy (row := none) ?_ (fun j e => by cases e)), hb.block _ (Nat.lt_of_lt_of_le hlt0 hW), fun y hy => ?_, hX.step hb, Nat.le_trans hW hb.size⟩
      · exact ⟨hb.os, hb.tape, hb.output, hb.size, fun k hk _ => hb.block k hk⟩
      · rcases List.mem_append.1 hy with hy | hy
        · exact hpr y hy
        · rw [List.mem_singleton.1 hy]; exact hx
    have hret : ∀ (a' : Act) (W' : World), Below W.heap.size W W' → A.dRight x.val = false → ownPostG (wS.alloc (.cells #[.int .i64 n] 3)).heap.size (KpB wS.heap.size) (fun (pre : List (Fin (n + 4))) W => (∀ x ∈ pre, A.dRight (Fin.val x) = true) ∧ Bag [(w.heap.size + 1, 4, [.bool false]), (w.heap.size, 49, A.cells vm vb (.slice aL n cL) vs vd vt)] w W ∧ (wS.alloc (.cells #[.int .i64 n] 3)).heap.size ≤ W.heap.size) (fun (c : Code) (pre : List (Fin (n + 4))) W => c = .ret ∧ (∃ x ∈ pre, A.dRight (Fin.val x) = false) ∧ Bag [(w.heap.size + 1, 4, [.bool false]), (w.heap.size, 49, A.cells vm vb (.slice aL n cL) vs vd vt)] w W) (pre ++ [x]) W .ret a' (W'.setCell ⟨w.heap.size + 1, 0, none⟩ (.bool false)) := fun a' W' hb hx => by
      refine ⟨⟨by rw [show (W'.setCell ⟨w.heap.size + 1, 0, none⟩ (.bool false)).heap.size = W'.heap.size from by simp [World.setCell]]; exact hb.size, fun k o hB hk hc => ?_⟩, rfl, ⟨x, by simp, hx⟩, (hX.step hb).set 0 (.bool false)⟩
      rw [Below.heap_setCell _ _ _ _ (by simp at hB; show k ≠ w.heap.size + 1; omega)]
      exact (hb.block k (Array.getElem?_eq_some_iff.1 hk).1).trans hk
    generalize (ownPostG _ _ _ _ (pre ++ [x]) W) = PQ at hgo hret ⊢
    obtain ⟨q, hq⟩ := x
    have hq5 : q = 0 ∨ q = 1 ∨ q = 2 ∨ q = 3 ∨ ∃ k, q = k + 4 := by
      rcases Nat.lt_or_ge q 4 with h | h
      · omega
      · exact .inr (.inr (.inr (.inr ⟨q - 4, by omega⟩)))
    dsimp only at hgo hret
    rcases hq5 with rfl | rfl | rfl | rfl | ⟨k, rfl⟩
    · have hc : Calls Tryz.prog 260 #[(.agg #[]), .pointer (some ⟨w.heap.size, 0, none⟩)] W fun e' w' => e' = .returned (.bool (A.dRight 0)) ∧ Below W.heap.size W w' := md_right_0 A hA hF vm vb (.slice aL n cL) vs vd vt w W w.heap.size hX.drop1 (hN.step hX.below)
      have hm : ∀ (m : Nat) (w : World), (method (m + 1) 178 (.agg #[]) "emulator/bus.right").run Tryz.prog w = .ok (260, (.agg #[])) w := fun _ _ => by kernel_rfl
      dsimp only [devV, devB]
      cases hb : A.dRight 0
      · rw [hb] at hc
        gi_wp2_with (refine ⟨trivial, ?_⟩; gi_at_call 260; refine (CallsIn.inRound l (callsIn_wide.2 hc)).mono ?_; rintro e wr ⟨rfl, hbb⟩; have hXr := hX.step hbb; have hcr := (hXr.all _ _ _ (.head _)).cell (k := 0) rfl; have hfr := Blk.frozen (hXr.all _ _ _ (.head _)) 0)
        exact hret _ _ hbb hb
      · rw [hb] at hc
        gi_wp2_with (refine ⟨trivial, ?_⟩; gi_at_call 260; refine (CallsIn.inRound l (callsIn_wide.2 hc)).mono ?_; rintro e wr ⟨rfl, hbb⟩)
        exact hgo _ _ hbb hb
    · have hc : Calls Tryz.prog 280 #[(.agg #[]), .pointer (some ⟨w.heap.size, 0, none⟩)] W fun e' w' => e' = .returned (.bool (A.dRight 1)) ∧ Below W.heap.size W w' := md_right_1 A hA hF vm vb (.slice aL n cL) vs vd vt w W w.heap.size hX.drop1 (hN.step hX.below)
      have hm : ∀ (m : Nat) (w : World), (method (m + 1) 179 (.agg #[]) "emulator/bus.right").run Tryz.prog w = .ok (280, (.agg #[])) w := fun _ _ => by kernel_rfl
      dsimp only [devV, devB]
      cases hb : A.dRight 1
      · rw [hb] at hc
        gi_wp2_with (refine ⟨trivial, ?_⟩; gi_at_call 280; refine (CallsIn.inRound l (callsIn_wide.2 hc)).mono ?_; rintro e wr ⟨rfl, hbb⟩; have hXr := hX.step hbb; have hcr := (hXr.all _ _ _ (.head _)).cell (k := 0) rfl; have hfr := Blk.frozen (hXr.all _ _ _ (.head _)) 0)
        exact hret _ _ hbb hb
      · rw [hb] at hc
        gi_wp2_with (refine ⟨trivial, ?_⟩; gi_at_call 280; refine (CallsIn.inRound l (callsIn_wide.2 hc)).mono ?_; rintro e wr ⟨rfl, hbb⟩)
        exact hgo _ _ hbb hb
    · have hc : Calls Tryz.prog 293 #[(.agg #[]), .pointer (some ⟨w.heap.size, 0, none⟩)] W fun e' w' => e' = .returned (.bool (A.dRight 2)) ∧ Below W.heap.size W w' := md_right_2 A hA hF vm vb (.slice aL n cL) vs vd vt w W w.heap.size hX.drop1 (hN.step hX.below)
      have hm : ∀ (m : Nat) (w : World), (method (m + 1) 180 (.agg #[]) "emulator/bus.right").run Tryz.prog w = .ok (293, (.agg #[])) w := fun _ _ => by kernel_rfl
      dsimp only [devV, devB]
      cases hb : A.dRight 2
      · rw [hb] at hc
        gi_wp2_with (refine ⟨trivial, ?_⟩; gi_at_call 293; refine (CallsIn.inRound l (callsIn_wide.2 hc)).mono ?_; rintro e wr ⟨rfl, hbb⟩; have hXr := hX.step hbb; have hcr := (hXr.all _ _ _ (.head _)).cell (k := 0) rfl; have hfr := Blk.frozen (hXr.all _ _ _ (.head _)) 0)
        exact hret _ _ hbb hb
      · rw [hb] at hc
        gi_wp2_with (refine ⟨trivial, ?_⟩; gi_at_call 293; refine (CallsIn.inRound l (callsIn_wide.2 hc)).mono ?_; rintro e wr ⟨rfl, hbb⟩)
        exact hgo _ _ hbb hb
    · have hc : Calls Tryz.prog 328 #[(.agg #[]), .pointer (some ⟨w.heap.size, 0, none⟩)] W fun e' w' => e' = .returned (.bool (A.dRight 3)) ∧ Below W.heap.size W w' := md_right_3 A hA hF vm vb (.slice aL n cL) vs vd vt w W w.heap.size hX.drop1 (hN.step hX.below)
      have hm : ∀ (m : Nat) (w : World), (method (m + 1) 181 (.agg #[]) "emulator/bus.right").run Tryz.prog w = .ok (328, (.agg #[])) w := fun _ _ => by kernel_rfl
      dsimp only [devV, devB]
      cases hb : A.dRight 3
      · rw [hb] at hc
        gi_wp2_with (refine ⟨trivial, ?_⟩; gi_at_call 328; refine (CallsIn.inRound l (callsIn_wide.2 hc)).mono ?_; rintro e wr ⟨rfl, hbb⟩; have hXr := hX.step hbb; have hcr := (hXr.all _ _ _ (.head _)).cell (k := 0) rfl; have hfr := Blk.frozen (hXr.all _ _ _ (.head _)) 0)
        exact hret _ _ hbb hb
      · rw [hb] at hc
        gi_wp2_with (refine ⟨trivial, ?_⟩; gi_at_call 328; refine (CallsIn.inRound l (callsIn_wide.2 hc)).mono ?_; rintro e wr ⟨rfl, hbb⟩)
        exact hgo _ _ hbb hb
    · have hc : Calls Tryz.prog 357 #[(.int .i64 k), .pointer (some ⟨w.heap.size, 0, none⟩)] W fun e' w' => e' = .returned (.bool (A.dRight (k + 4))) ∧ Below W.heap.size W w' := md_right_4 A hA k (by omega) (by omega) vm vb (.slice aL n cL) vs vd vt w W w.heap.size hX.drop1 (hN.step hX.below).l
      have hm : ∀ (m : Nat) (w : World), (method (m + 1) 182 (.int .i64 k) "emulator/bus.right").run Tryz.prog w = .ok (357, (.int .i64 k)) w := fun _ _ => by kernel_rfl
      dsimp only [devV, devB]
      cases hb : A.dRight (k + 4)
      · rw [hb] at hc
        gi_wp2_with (refine ⟨trivial, ?_⟩; gi_at_call 357; refine (CallsIn.inRound l (callsIn_wide.2 hc)).mono ?_; rintro e wr ⟨rfl, hbb⟩; have hXr := hX.step hbb; have hcr := (hXr.all _ _ _ (.head _)).cell (k := 0) rfl; have hfr := Blk.frozen (hXr.all _ _ _ (.head _)) 0)
        exact hret _ _ hbb hb
      · rw [hb] at hc
        gi_wp2_with (refine ⟨trivial, ?_⟩; gi_at_call 357; refine (CallsIn.inRound l (callsIn_wide.2 hc)).mono ?_; rintro e wr ⟨rfl, hbb⟩)
        exact hgo _ _ hbb hb
  case done =>
    rintro D xs W hD hSD ⟨hpr, hX, hW⟩ hKd
    have hr : A.right = true := hall.2 fun k hk => by
      have h1 : k ∈ xs.map Fin.val := by rw [show xs.map Fin.val = List.range (n + 4) from hSD]; exact List.mem_range.2 hk
      obtain ⟨x, hx, rfl⟩ := List.mem_map.1 h1
      exact hpr x hx
    have hD' : wS.heap.size + 1 ≤ D := by simpa using hD
    have hX2 := hX.swap
    go_wp2_with (first | ((with_reducible refine at_st 4 ?_); refine stk1 (k := 0) (cs' := [.bool true]) hX2.swap siz_bool rfl (by simp) rfl ?_; intro wT hY hkT))
    replace hKd := (hkT D (by omega)).trans hKd
    refine ⟨by simp, .inl ⟨_, _, rfl, run_takeDeferred hKd, ?_⟩⟩
    have hgr := grownBy_putObj' wT D (.deferred none)
    have hnc : ∀ r, some D = some r → w.heap.size ≤ r ∧ NoCells wT r := fun r e => by cases e; exact ⟨by omega, _, hKd, rfl⟩
    have hX3 := hY.grown hgr hnc
    exact ⟨_, results_c (by rfl) rfl ((hX3.all _ _ _ (.head _)).loadVarC (k := 0) rfl bool_cell), by rw [hr], hX3.below⟩
  case stop =>
    rintro D c pre W hD _ ⟨rfl, ⟨x, hx, hf⟩, hX⟩ hKd
    have hr : A.right = false := by
      cases h : A.right
      · rfl
      · have := hall.1 h x.val x.isLt
        rw [this] at hf; cases hf
    have hD' : wS.heap.size + 1 ≤ D := by simpa using hD
    gi_wp2
    refine ⟨by simp, .inl ⟨_, _, rfl, run_takeDeferred hKd, ?_⟩⟩
    have hgr := grownBy_putObj' W D (.deferred none)
    have hnc : ∀ r, some D = some r → w.heap.size ≤ r ∧ NoCells W r := fun r e => by cases e; exact ⟨by omega, _, hKd, rfl⟩
    have hX3 := hX.grown hgr hnc
    exact ⟨_, results_c (by rfl) rfl ((hX3.all _ _ _ (.head _)).loadVarC (k := 0) rfl bool_cell), by rw [hr], hX3.below⟩
end Go.Proofs.YtlegcfjafdihlaaGreatDoor
/-
  Small of the laws: when it says yes, the machine is small. No condition.
-/
namespace Go.Proofs.YtlegcfjafdihlaaGreatDoor
open Go.RowKit
set_option linter.unusedSimpArgs false
set_option linter.unusedVariables false
set_option maxHeartbeats 4000000
set_option maxRecDepth 100000
attribute [local irreducible] wpQuiet

def Ma.little (A : Ma) : Prop := A.M.length ≤ 2048 ∧ A.B.length ≤ 64 ∧ A.L.length ≤ 8 ∧ A.K.D.S.length ≤ 256 ∧ A.K.D.B.length ≤ 256 ∧ A.T.R.length ≤ 70
theorem lns_out {w : World} {v : Value} {l : List Ln} (h : Lns w v l) : ∃ A c, v = .slice A l.length c ∧ l.length ≤ c ∧ ∀ (k : Nat) x, l[k]? = some x → ∃ a : Addr, A = some a ∧ ∀ w', Below w.heap.size w w' → (Instr.loadAt 9 (.pointer (some ((a.add (k * 9)).add 8)))).run Tryz.prog w' = .ok (.string x.s) w' := by
  have h0 := h
  obtain ⟨⟨A, c, rfl, hk, _⟩, _⟩ := h
  refine ⟨A, c, rfl, hk, fun k x hx => ?_⟩
  have h1 := flatM_get (g := lnL) (s := 9) (fun _ => rfl) l k x hx 8 (.string x.s) rfl
  obtain ⟨a, rfl⟩ := Rz.addr h0 h1
  exact ⟨a, rfl, fun w' hb => by rw [addr_add]; exact Rz.load (Rz.below h0 hb) str_cell h1⟩
end Go.Proofs.YtlegcfjafdihlaaGreatDoor
