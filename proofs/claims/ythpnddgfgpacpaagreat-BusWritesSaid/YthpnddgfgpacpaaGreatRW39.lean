import Derived.Test.YthpnddgfgpacpaaGreatRW27
import Derived.Test.YthpnddgfgpacpaaGreatRW22
import Derived.Test.YthpnddgfgpacpaaGreatRW07
import Derived.Test.YthpnddgfgpacpaaGreatRW12
import Derived.Test.YthpnddgfgpacpaaGreatRW15
import Derived.Test.YthpnddgfgpacpaaGreatRW38
import Derived.Test.YthpnddgfgpacpaaGreatRW26
import Derived.Test.YthpnddgfgpacpaaGreatRW37
import Derived.Test.YthpnddgfgpacpaaGreatRW31
import Derived.Test.YthpnddgfgpacpaaGreatRW33
import Derived.Test.YthpnddgfgpacpaaGreatRW35
import Derived.Test.YthpnddgfgpacpaaGreatRW13
/-
  New of the reference of layer 20, at (256, 1, 1).
-/
namespace Go.Proofs.YthpnddgfgpacpaaGreat
open Go.RowKit
set_option linter.unusedSimpArgs false
set_option linter.unusedVariables false
set_option maxHeartbeats 4000000
set_option maxRecDepth 100000
attribute [local irreducible] wpQuiet

section
variable {ops : Array Oper} {rest : List Oper} {o : Oper} {a : Act} {w w1 : World} {Q : Exit → Act → World → Prop} {T : TypeId} {z : List Value}
theorem at_bd18 {l : List Oper} {T ty : TypeId} {xs : Array (Nat × Operand)} {dst : Option Tmp} {pos : String} {after : Array Edge} {g : Option (Nat × Bool)} (h : wpList Tryz.prog ops Q ({ dst := dst, op := .build T xs, type := ty, pos := pos, after := after, guard := g } :: l) a w) : wpList Tryz.prog ops Q ({ dst := dst, op := .build T xs, type := ty, pos := pos, after := after, guard := g } :: l) a w := h
theorem bld18 {xs : Array (Nat × Operand)} (v : Value) (hop : o.op = Op.build T xs) (hw : Region.wanted o (yielded ops a.tmps) = true) (hrun : ∀ w, (Instr.build T (xs.map fun p => (p.1, a.eval p.2))).run Tryz.prog w = .ok v w) (h : wpList Tryz.prog ops Q rest (a.put o.dst v) w) : wpList Tryz.prog ops Q (o :: rest) a w :=
  BigFrame.wpList_want hw fun _ hK => by
    unfold Oper.wp execOp
    simp only [hop, hrun, Sem.run_bind, Sem.run_pure, Result.andThen_ok]
    exact hK _ _ h
end
theorem one18 {v u : Value} (h1 : v.oneCell' = true) (h2 : u.oneCell' = true) : ∀ x ∈ ([v, u] : List Value), x.oneCell' = true := by
  intro x hx
  simp at hx
  rcases hx with rfl | rfl <;> assumption
def XN18 (X : Nat → Prop) (lo n b : Nat) : Prop := X b ∨ (lo ≤ b ∧ b < n)
theorem xn18 {X : Nat → Prop} {lo n : Nat} (hXl : ∀ b, X b → b < lo) (hn : lo ≤ n) : ∀ b, XN18 X lo n b → b < n := fun b q => by
  rcases q with q | q
  · have := hXl b q; omega
  · exact q.2
theorem xr_out {X : Nat → Prop} {n b : Nat} (hb : b < n) (q : XR X n b) : X b := by
  rcases q with q | rfl
  · exact q
  · omega
theorem aggD18 (w : World) : (isAgg 38).run Tryz.prog w = .ok true w := by kernel_rfl
theorem sizD18 (w : World) : (sizeOf 38).run Tryz.prog w = .ok 2 w := by kernel_rfl
def ma0 : Ma := ⟨List.replicate 10 (.int .i64 0), newL 256, [], Un.z, (newK 100).1, [Ln.new], Dk.new (newV 1).1, (newT []).1, 0, false, false, 0, false⟩
def ma1 (K : Dk) (c : Ck) (T : Tp) : Ma := ⟨List.replicate 10 (.int .i64 0), newL 256, [], Un.z, c, [], K, T, 0, false, false, 0, false⟩
theorem ma1_ok (K : Dk) (c : Ck) (T : Tp) : (ma1 K c T).ok := ⟨rfl, fun v hv => by rw [List.eq_of_mem_replicate hv]; rfl, rfl⟩
theorem ma0_ok : ma0.ok := ⟨rfl, fun v hv => by rw [List.eq_of_mem_replicate hv]; rfl, rfl⟩
theorem ma0_right : ma0.right = true := by decide +kernel
theorem rnewM_any (w : World) (X : Nat → Prop) (hXl : ∀ b, X b → b < w.heap.size) : Calls Tryz.prog 27 #[.int .i64 256, .int .i64 1, .int .i64 1] w fun e' w' => ∃ x, e' = .returned (.tuple #[x, .int .i64 0]) ∧ MaX X w' x ma0 ∧ Below w.heap.size w w' := by
  have hX := (Bag.nil w).new 44 mzL
  have h8 := fun wz => rnew_any 256 wz
  rw [show newE 256 = 0 from by decide +kernel] at h8
  have hv2 : (newV 1).2 = 0 := by decide +kernel
  have h15 := fun wz (X1 : Nat → Prop) (h : ∀ b, X1 b → b < wz.heap.size) => rnewD_any 1 wz X1 h
  have h16 := fun (vs vb : Value) wz (X1 : Nat → Prop) (h : ∀ b, X1 b → b < wz.heap.size) (h1 : Sts wz vs (newV 1).1.S) (h2 : Its wz vb (newV 1).1.B) => rnewK_any (newV 1).1 (by decide +kernel) (by decide +kernel) vs vb wz X1 h h1 h2
  have h17 := fun wz (X1 : Nat → Prop) (h : ∀ b, X1 b → b < wz.heap.size) => rnewT_any [] (by decide) (.slice none 0 0) wz X1 h (Sv.nil X1 wz).now
  rw [show (newT []).2 = 0 from by decide +kernel] at h17
  have h13 := fun wz => rnew_any_13 100 wz
  have h14 := fun wz => rnewL_any wz
  rw [hv2] at h15
  go_enter Tryz.func27, Tryz.ntmps27
  go_upto_region 1 with (first | ((with_reducible refine at_alloc18 ?_); refine wpList_allocM rfl rfl ?_))
  generalize (w.alloc (Obj.cells mzL.toArray 44)) = wQ at hX ⊢
  have hwQ := hX.below.size
  go_wp2_with (first | (go_at_call 66; (with_reducible refine (h8 _).mono ?_); rintro e' wc ⟨rm, rfl, qm, hbb⟩; replace hX := hX.step hbb; obtain ⟨Am, cm, rfl, _, _⟩ := Rw.of_own qm; clear hbb) | (go_at_call 67; have hX1l : ∀ b, XR X w.heap.size b → b < wc.heap.size := (fun b q => by rcases q with q | rfl; (have h1 := hXl b q; have h2 := hX.below.size; omega); exact bag_lt hX); (with_reducible refine (h15 _ _ hX1l).mono ?_); clear hX1l; rintro e' w5 ⟨x, rfl, ⟨vs, vb, rfl, hs, hb⟩, hbb⟩; replace hX := hX.step hbb; replace qm := own_step qm hbb; have hX5 := hbb.size; have p1 := rz_one hs.now; have p2 := rz_one hb.now; clear hbb) | ((with_reducible refine at_st 38 ?_); refine stn hX aggD18 sizD18 (one18 p1 p2) (hn := rfl) (hm := rfl) ?_; intro w6 hY hb6; replace hX := hY; replace qm := own_step qm hb6; replace hs := Sv.below hs hb6; replace hb := Sv.below hb hb6; have hX6 := hb6.size; clear hY hb6) | ((with_reducible refine at_ld 38 ?_); refine ldw (hn := rfl) hX aggD18 sizD18 ?_) | (go_at_call 68; have hN06 := bag_lt hX.swap; have hx6 := xn18 hXl hX.below.size; have hc6 := h16 _ _ _ _ hx6 hs.now hb.now; (with_reducible refine hc6.mono ?_); clear hc6; rintro e' w7 ⟨x, rfl, ⟨us, ub, rfl, hs2, hb2⟩, hbb⟩; replace hX := hX.step hbb; replace qm := own_step qm hbb; have hX7 := hX.below.size; have p1 := rz_one hs2.now; have p2 := rz_one hb2.now; clear hbb hs hb hx6) | ((with_reducible refine at_bd18 ?_); refine bld18 (.agg ((ma1 (Dk.new (newV 1).1) Ck.z Tp.z).cells (.slice Am (newL 256).length cm) (.slice none 0 0) (.slice none 0 0) us ub (.slice none 0 0)).toArray) rfl rfl (fun _ => by kernel_rfl) ?_) | ((with_reducible refine at_alloc18 ?_); refine wpList_allocM rfl rfl ?_) | ((with_reducible refine at_st 44 ?_); refine stn (zs := mzL) hX aggM sizM (Ma.cone (A := ma1 (Dk.new (newV 1).1) Ck.z Tp.z) (vm := .slice Am (newL 256).length cm) (vb := .slice none 0 0) (vl := .slice none 0 0) (vs := us) (vd := ub) (vt := .slice none 0 0) (ma1_ok _ _ _) rfl rfl rfl p1 p2 rfl) ?_ (hn := Ma.clen (ma1_ok _ _ _)) (hm := mzL_len); intro w8 hY hb8; replace hX := hY; replace qm := own_step qm hb8; have hs3 := Sv.weak hs2 hb8 (fun b hb q => xr_out hb q); have hb3 := Sv.weak hb2 hb8 (fun b hb q => xr_out hb q); have hX8 := bag_lt hX; clear hY hb8 hs2 hb2) | (go_at_call 69; (with_reducible refine (h13 _).mono ?_); rintro e' w9 ⟨rfl, hbb⟩; replace hX := hX.step hbb; replace qm := own_step qm hbb; replace hs3 := Sv.below hs3 hbb; replace hb3 := Sv.below hb3 hbb; have hX9 := hbb.size; clear hbb) | ((with_reducible refine at_st 34 ?_); refine stp1 hX aggK_13 sizK_13 (Ma.put_k (k' := (newK 100).1) (A := ma1 (Dk.new (newV 1).1) Ck.z Tp.z) (ma1_ok _ _ _)) rfl (by rw [Ma.clen (ma1_ok _ _ _)]; decide) (ck_one _) ?_; intro w10 hY hkS; replace qm := own_over hX qm (by decide) hkS; replace hs3 := Sv.over18 hs3 hkS (.inr rfl); replace hb3 := Sv.over18 hb3 hkS (.inr rfl); have hX10 := size_of_same hkS (hY.all _ _ _ (.head _)); clear hX; have hX : Bag ((_, _, (ma1 (Dk.new (newV 1).1) (newK 100).1 Tp.z).cells _ _ _ _ _ _) :: _) w w10 := hY; clear hY hkS) | (go_at_call 70; have hx7 := xn18 hXl hX.below.size; (with_reducible refine (h17 _ _ hx7).mono ?_); rintro e' w11 ⟨x, rfl, ⟨ut, rfl, ht⟩, hbb⟩; replace hX := hX.step hbb; replace qm := own_step qm hbb; replace hs3 := Sv.below hs3 hbb; replace hb3 := Sv.below hb3 hbb; have hX11 := hbb.size; have p3 := rz_one ht.now; clear hbb hx7) | ((with_reducible refine at_st 42 ?_); refine stp1 hX aggT sizT (Ma.put_t (T' := (newT []).1) (A := ma1 (Dk.new (newV 1).1) (newK 100).1 Tp.z) (ma1_ok _ _ _)) rfl (by rw [Ma.clen (ma1_ok _ _ _)]; decide) (tpL_one p3) ?_; intro w12 hY hkS; replace qm := own_over hX qm (by decide) hkS; replace hs3 := Sv.over18 hs3 hkS (.inr rfl); replace hb3 := Sv.over18 hb3 hkS (.inr rfl); replace ht := Sv.over18 ht hkS (.inr ⟨by omega, by omega⟩); have hX12 := size_of_same hkS (hY.all _ _ _ (.head _)); clear hX; have hX : Bag ((_, _, (ma1 (Dk.new (newV 1).1) (newK 100).1 (newT []).1).cells _ _ _ _ _ _) :: _) w w12 := hY; clear hY hkS))
  replace hX := hX.swap.drop1
  have hN0 : w.heap.size < w12.heap.size := bag_lt hX.swap
  have hN2 : w7.heap.size < w12.heap.size := bag_lt hX
  refine wp_loop_rounds 2 ?_
  rw [rounds_succ]
  go_wp2_with fail
  have hd := hX.drew
  refine region_hoistS (fun w' => Bag [(w7.heap.size, 44, ((ma1 (Dk.new (newV 1).1) (newK 100).1 (newT []).1).cells (.slice Am (newL 256).length cm) (.slice none 0 0) (.slice none 0 0) us ub ut)), (w.heap.size, 44, mzL)] w w') 5 [(0, false), (1, false), (2, true), (3, true), (4, true)] (by kernel_rfl) (by kernel_rfl) (fun _ _ dd _ _ h => by cases dd <;> exact h) hd ?_
  iterate 2
    refine wpHp_q' rfl rfl (fun KK hKK => ?_)
    apply Exists.intro
    refine ⟨fun wq hq => ?_, hKK _ ?_⟩
    · try dsimp only at hq
      first
        | exact run_load_op 35 _ _ rfl rfl ((hq.all _ _ _ (.head _)).loadCell (get_l (Ma.len (ma1_ok _ _ _) _ _ _)) slL_cell)
        | (unfold execOp; go_simp; with_reducible rfl)
    clear hKK KK
    simp only [Act.put, List.setIfInBounds_toArray, List.set_cons_zero, List.set_cons_succ]
  refine wpHp_call rfl rfl (fun KK hKK => ?_)
  unfold Oper.semiAt
  go_simp
  simp only [semiUpon]
  refine ⟨trivial, ?_⟩
  refine (h14 _).mono ?_
  rintro e' wc ⟨rfl, hbb⟩
  have hXc := hd.step hbb
  refine ⟨_, rfl, hKK _ _ hXc ?_⟩
  clear hKK KK
  simp only [Act.put, List.setIfInBounds_toArray, List.set_cons_zero, List.set_cons_succ]
  refine wpHp_op rfl (fun KK hKK => ?_)
  refine wpList_sliceLn (y := Ln.new) rfl _ rfl rfl rfl ?_
  intro wl hbl hcel
  have hXa := hXc.step hbl
  refine wpList_end (hKK _ _ hXa ?_)
  clear hKK KK
  simp only [Act.put, List.setIfInBounds_toArray, List.set_cons_zero, List.set_cons_succ]
  have hball : Below w12.heap.size w12 wl := ((Below.refl w12.heap.size w12).drew.trans (hbb.mono (Nat.le_refl _))).trans (hbl.mono hbb.size)
  refine wpHp_op rfl (fun KK hKK => ?_)
  refine wpList_appLn rfl (.tmp 58) (.tmp 60) rfl w12.heap.size _ 0 [] rfl (World.ownsRow_nil _ _ _ _) _ 1 1 (lnL Ln.new) rfl rfl hcel (lnL_one _) (by omega) hball.size ?_
  intro v2 w2 ho3 hb2
  have hX2 := hXa.stepN hb2 (by intro q hq; simp only [List.mem_cons, List.not_mem_nil, or_false] at hq; rcases hq with rfl | rfl <;> simp <;> omega) (by omega)
  refine wpList_end (hKK _ _ hX2 ?_)
  clear hKK KK
  have hbt := hball.trans hb2
  simp only [Act.put, List.setIfInBounds_toArray, List.set_cons_zero, List.set_cons_succ]
  refine wpHp_nil ?_
  simp only [List.drop_succ_cons, List.drop_zero]
  obtain ⟨Al, cl, rfl, _, _⟩ := Rw.of_own ho3
  replace qm := own_step qm hbt
  replace hs3 := Sv.below hs3 hbt
  replace hb3 := Sv.below hb3 hbt
  replace ht := Sv.below ht hbt
  clear hX hd hXc hXa hb2 hbt hball hbl hbb
  go_wp2_with (first | ((with_reducible refine at_st 35 ?_); refine stk1 hX2 siz_sL18 (Ma.set_l (A := ma1 (Dk.new (newV 1).1) (newK 100).1 (newT []).1) (ma1_ok _ _ _) [Ln.new] _) (by rw [Ma.clen (ma1_ok _ _ _)]; decide) rfl ?_; intro w13 hY hkS))
  have qm3 := own_over hX2 qm (by decide) hkS
  have hl3 := own_over hX2 ho3 (by decide) hkS
  replace hs3 := Sv.over18 hs3 hkS (.inr rfl)
  replace hb3 := Sv.over18 hb3 hkS (.inr rfl)
  replace ht := Sv.over18 ht hkS (.inr ⟨by omega, by omega⟩)
  have hX : Bag [(w7.heap.size, 44, ma0.cells (.slice Am (newL 256).length cm) (.slice none 0 0) (.slice Al 1 cl) us ub ut), (w.heap.size, 44, mzL)] w w13 := hY
  clear hX2 hY hkS qm ho3
  rw [rounds_succ]
  go_wp2_with (first | ((with_reducible refine at_ld 44 ?_); refine ldw (hn := Ma.clen ma0_ok) hX aggM sizM ?_) | ((with_reducible refine at_st 44 ?_); refine stw2 hX aggM sizM (Ma.cone ma0_ok rfl rfl rfl p1 p2 p3) (hn := Ma.clen ma0_ok) (hc := mzL_len) ?_; intro w14 hY hk14))
  have hm4 := own_over hX.swap qm3 (by decide) hk14
  have hl4 := own_over hX.swap hl3 (by decide) hk14
  replace hs3 := Sv.over18 hs3 hk14 (.inl (.inr ⟨by omega, by omega⟩))
  replace hb3 := Sv.over18 hb3 hk14 (.inl (.inr ⟨by omega, by omega⟩))
  replace ht := Sv.over18 ht hk14 (.inr ⟨by omega, by omega⟩)
  exact bodyPost_ret (results_ct (by rfl) rfl ((hY.all _ _ _ (.tail _ (.head _))).loadVar (Ma.clen ma0_ok) aggM sizM)) rfl ⟨_, rfl, ⟨_, _, _, _, _, _, rfl, Sv.of_own hm4 (fun b q => by have := hXl b q; omega), Sv.nil X _, Sv.of_own hl4 (fun b q => by have := hXl b q; omega), Sv.less18 hs3 fun b q => .inl (.inl q), Sv.less18 hb3 fun b q => .inl (.inl q), Sv.less18 ht fun b q => .inl q⟩, hY.below⟩
end Go.Proofs.YthpnddgfgpacpaaGreat
/-
  Requests of the program. Condition: a valid machine.
-/
namespace Go.Proofs.YthpnddgfgpacpaaGreat
open Go.RowKit Go.Shelf
set_option linter.unusedSimpArgs false
set_option linter.unusedVariables false
set_option maxHeartbeats 4000000
set_option maxRecDepth 100000
attribute [local irreducible] wpQuiet
attribute [local go_sem] Oper.semAt_some

/-- What the loop over the requests carries. -/
def RqI (w0 : World) (B N Bi : Nat) (cs : List Value) (l : List Rq) (W : World) : Prop := (∃ v, Bag [(B + 1, 61, [v]), (B, 44, cs)] w0 W ∧ W.ownsRow (B + 2) 105 2 v l.length (flat l)) ∧ N ≤ W.heap.size ∧ ∃ cur, W.heap[Bi]? = some (.cells cur 3 (0, 0))
theorem own_grownNC {w w' : World} {base s n : Nat} {t : TypeId} {v : Value} {xs : List Value} {row : Option Nat} (h : w.ownsRow base t s v n xs) (hg : w.grownBy w' row) (hr : ∀ r, row = some r → NoCells w r) : w'.ownsRow base t s v n xs := by
  refine ⟨h.1, ?_⟩
  rcases h.2 with h0 | ⟨g, cap, cur, hv, hb, hh, r⟩
  · exact .inl h0
  · refine .inr ⟨g, cap, cur, hv, hb, (hg.block g (Array.getElem?_eq_some_iff.1 hh).1 (fun e => ?_)).trans hh, r⟩
    obtain ⟨o, ho, hc⟩ := hr g e.symm
    rw [hh] at ho; cases ho; cases hc
theorem RqI.own {β : Type} {N Bi : Nat} {w0 : World} {B : Nat} {cs : List Value} (f : β → List Rq) (hN : w0.heap.size ≤ N) : OwnFrom N (fun (s : β) W => RqI w0 B N Bi cs (f s) W) :=
  fun s W W' row hs hg hr => by
    obtain ⟨⟨v, hX, ho⟩, hz, cur, hc⟩ := hs
    exact ⟨⟨v, hX.grown hg (fun r e => ⟨Nat.le_trans hN (hr r e).1, (hr r e).2⟩), own_grownNC ho hg fun r e => (hr r e).2⟩, Nat.le_trans hz hg.size, cur, (hg.block _ (Array.getElem?_eq_some_iff.1 hc).1 (fun e => by obtain ⟨o, ho2, hc2⟩ := (hr _ e.symm).2; rw [hc] at ho2; cases ho2; cases hc2)).trans hc⟩
theorem Bag.append {a b : Nat × TypeId × List Value} {w0 w w' : World} {N : Nat} {e : TypeId} (h : Bag [a, b] w0 w) (hb : Below N w w') (hk : ∀ k, k < w.heap.size → (∀ cur, w.heap[k]? = some (.cells cur e (0, 0)) → False) → w'.heap[k]? = w.heap[k]?) (ha : a.2.1 ≠ e) (hbt : b.2.1 ≠ e) (hN : w0.heap.size ≤ N := by omega) : Bag [a, b] w0 w' := by
  refine ⟨fun B t cs hm => ?_, h.below.trans (hb.mono hN), h.lo, h.dis⟩
  have hB := h.all B t cs hm
  refine (hk B hB.lt fun cur q => ?_).trans hB
  rw [show w.heap[B]? = _ from hB] at q
  cases q
  simp only [List.mem_cons, List.not_mem_nil, or_false] at hm
  rcases hm with rfl | rfl
  · exact ha rfl
  · exact hbt rfl
end Go.Proofs.YthpnddgfgpacpaaGreat
