import Derived.Test.YthpnddgfgpacpaaGreatRW20
import Derived.Test.YthpnddgfgpacpaaGreatRW10
/-
  writeReg of the reference. Conditions: a valid machine; an offset of a register.
-/
namespace Go.Proofs.YthpnddgfgpacpaaGreat
open Go.RowKit
set_option linter.unusedSimpArgs false
set_option linter.unusedVariables false
set_option maxHeartbeats 4000000
set_option maxRecDepth 100000
attribute [local irreducible] wpQuiet

/-- What the words of a machine read as. -/
structure MaV (X : Nat → Prop) (w : World) (A : Ma) (vm vb vl vs vd vt : Value) : Prop where
  m : ItsX X w vm A.M
  b : ItsX X w vb A.B
  l : LnsX X w vl A.L
  s : StsX X w vs A.K.D.S
  d : ItsX X w vd A.K.D.B
  t : StsX X w vt A.T.R
theorem LnsX.now {X : Nat → Prop} {w : World} {v : Value} {l : List Ln} (h : LnsX X w v l) : Lns w v l := Sv.now h
theorem rz_one {w : World} {v : Value} {n : Nat} {cs : List Value} (h : Rz w v n cs) : v.oneCell' = true := by
  obtain ⟨⟨A, c, rfl, _⟩, _⟩ := h
  rfl
section
variable {X : Nat → Prop} {w : World} {A : Ma} {vm vb vl vs vd vt : Value} (h : MaV X w A vm vb vl vs vd vt)
include h
theorem MaV.now : MaNow w A vm vb vl vs vd vt := ⟨h.m.now, h.b.now, h.l.now, h.s.now, h.d.now, h.t.now⟩
theorem MaV.below {w' : World} (hb : Below w.heap.size w w') : MaV X w' A vm vb vl vs vd vt := ⟨Sv.below h.m hb, Sv.below h.b hb, Sv.below h.l hb, Sv.below h.s hb, Sv.below h.d hb, Sv.below h.t hb⟩
theorem MaV.weak {Y : Nat → Prop} {w' : World} (hb : Below w.heap.size w w') (hY : ∀ b, b < w.heap.size → Y b → X b) : MaV Y w' A vm vb vl vs vd vt := ⟨Sv.weak h.m hb hY, Sv.weak h.b hb hY, Sv.weak h.l hb hY, Sv.weak h.s hb hY, Sv.weak h.d hb hY, Sv.weak h.t hb hY⟩
theorem MaV.x : MaX X w (.agg (A.cells vm vb vl vs vd vt).toArray) A := ⟨_, _, _, _, _, _, rfl, h.m, h.b, h.l, h.s, h.d, h.t⟩
theorem MaV.o1 : vm.oneCell' = true := rz_one h.m.now
theorem MaV.o2 : vb.oneCell' = true := rz_one h.b.now
theorem MaV.o3 : vl.oneCell' = true := rz_one h.l.now
theorem MaV.o4 : vs.oneCell' = true := rz_one h.s.now
theorem MaV.o5 : vd.oneCell' = true := rz_one h.d.now
theorem MaV.o6 : vt.oneCell' = true := rz_one h.t.now
end
theorem ck_one (c : Ck) : ∀ v ∈ c.L, v.oneCell' = true := by
  intro v hv
  unfold Ck.L at hv
  simp only [List.mem_cons, List.not_mem_nil, or_false] at hv
  rcases hv with rfl | rfl | rfl | rfl <;> rfl
theorem dk_one {K : Dk} {vs vb : Value} (h1 : vs.oneCell' = true) (h2 : vb.oneCell' = true) : ∀ v ∈ dkL vs vb K, v.oneCell' = true := by
  intro v hv
  unfold dkL at hv
  simp only [List.mem_cons, List.not_mem_nil, or_false] at hv
  rcases hv with rfl | rfl | rfl | rfl | rfl | rfl | rfl | rfl | rfl | rfl <;> first | rfl | assumption
theorem tpL_one {K : Tp} {vs : Value} (h1 : vs.oneCell' = true) : ∀ v ∈ tpL vs K, v.oneCell' = true := by
  intro v hv
  unfold tpL at hv
  simp only [List.mem_cons, List.not_mem_nil, or_false] at hv
  rcases hv with rfl | rfl | rfl | rfl | rfl | rfl | rfl | rfl | rfl | rfl | rfl <;> first | rfl | assumption
theorem un_one (u : Un) : ∀ v ∈ u.L, v.oneCell' = true := by
  intro v hv
  unfold Un.L at hv
  simp only [List.mem_cons, List.mem_append, List.mem_flatMap, List.not_mem_nil, or_false] at hv
  rcases hv with rfl | ⟨p, _, hp⟩ | rfl | rfl
  · rfl
  · unfold Pg.L at hp
    simp only [List.mem_cons, List.not_mem_nil, or_false] at hp
    rcases hp with rfl | rfl | rfl | rfl <;> rfl
  · rfl
  · rfl
theorem Bag.rot3 {l : List (Nat × TypeId × List Value)} {w0 w : World} {a b c : Nat × TypeId × List Value} (h : Bag (a :: b :: c :: l) w0 w) : Bag (b :: c :: a :: l) w0 w := h.perm ((List.Perm.swap _ _ _).trans (.cons _ (.swap _ _ _)))
theorem Sv.over18 {X : Nat → Prop} {B : Nat} {w w' : World} {v : Value} {n : Nat} {cs : List Value} (h : Sv X w v n cs) (hk : ∀ k, k ≠ B → w'.heap[k]? = w.heap[k]?) (hB : X B) : Sv X w' v n cs := h.off (fun b _ hx => hk b (fun e => hx (e ▸ hB))) (fun _ _ h => h)
theorem Sv.less18 {X Y : Nat → Prop} {w : World} {v : Value} {n : Nat} {cs : List Value} (h : Sv X w v n cs) (hY : ∀ b, Y b → X b) : Sv Y w v n cs := h.off (fun _ _ _ => rfl) (fun b _ h => hY b h)
theorem wreg_line (A : Ma) (hA : A.ok) (hR : A.right = true) (vm vb vl vs vd vt : Value) (X : Nat → Prop) (w : World) (hXl : ∀ b, X b → b < w.heap.size) (hV : MaV X w A vm vb vl vs vd vt) (off v : Int) (hq : A.isL off = true) (hoff : 0 ≤ off ∧ off < 8192) : Calls Tryz.prog 47 #[.agg (A.cells vm vb vl vs vd vt).toArray, .int .i64 off, .int .i64 v] w fun e' w' => ∃ x, e' = .returned (.tuple #[x, .bool (A.wrR off v).2]) ∧ MaX X w' x (A.wrR off v).1 ∧ Below w.heap.size w w' := by
  have hL := Ma.len hA vs vd vt
  obtain ⟨hl4, hln, _⟩ := Ma.parts hR
  have hX := two_ma w (A.cells vm vb vl vs vd vt)
  have hr : A.wrR off v = (A.put off ((lnAt A off).wr ((off - 512) % 8) v), true) := by unfold Ma.wrR; rw [if_pos hq]
  rw [hr]
  clear hr
  have hq2 := hq
  unfold Ma.isL at hq2
  simp only [Bool.and_eq_true, decide_eq_true_eq] at hq2
  obtain ⟨n, hn⟩ : ∃ n : Nat, (off - 512) / 8 = (n : Int) := ⟨((off - 512) / 8).toNat, by omega⟩
  have hnl : n < A.L.length := by omega
  obtain ⟨g, hg⟩ : ∃ g, (off - 512) % 8 = g := ⟨_, rfl⟩
  obtain ⟨x, hx⟩ : ∃ x, A.L[n]? = some x := ⟨_, List.getElem?_eq_getElem hnl⟩
  have hat : lnAt A off = x := by unfold lnAt; rw [hn, Int.toNat_natCast, List.getD_eq_getElem?_getD, hx]; rfl
  have hput : ∀ y, A.put off y = { A with L := A.L.set n y } := fun y => by unfold Ma.put; rw [hn, Int.toNat_natCast]
  have hil := fun (wz : World) (hb : Below w.heap.size w wz) => rline18 A hA hl4 off vm vb vl vs vd vt wz (Rz.below hV.l.now hb)
  rw [hq] at hil
  have hrd : ∀ wz, Calls Tryz.prog 105 #[.agg (lnL x).toArray, .int .i64 g, .int .i64 v] wz fun e' w' => e' = .returned (.agg (lnL (x.wr g v)).toArray) ∧ Below wz.heap.size wz w' := fun wz => rwr_any x g v wz
  rw [hat, hput, hg]
  have hwl : ∀ wz : World, Below w.heap.size w wz → w.heap.size + 2 ≤ wz.heap.size → _ := fun wz hb h2 => rwith_any A hA n hnl hl4 (x.wr g v) vm vb vl vs vd vt hV.o1 hV.o2 hV.o4 hV.o5 hV.o6 (OwnA X w.heap.size) wz (ownA18 hXl h2) (Rz.below hV.l.now hb)
  dsimp only
  obtain ⟨aL, cL, rfl, hcl, hld⟩ := lns_form hV.l.now
  obtain ⟨ad, rfl, hld2⟩ := hld n x hx
  have w1 : IntKind.i64.wrap (off - 512) = off - 512 := by rw [wrap_i64]; unfold wrap64; omega
  have t1 : (off - 512).tdiv 8 = (n : Int) := by rw [Int.tdiv_eq_ediv_of_nonneg (by omega)]; exact hn
  have t2 : (off - 512).tmod 8 = g := by rw [Int.tmod_eq_emod_of_nonneg (by omega)]; exact hg
  have w2 : IntKind.i64.wrap (n : Int) = (n : Int) := by rw [wrap_i64]; unfold wrap64; omega
  have w3 : IntKind.i64.wrap g = g := by rw [wrap_i64]; unfold wrap64; omega
  have i0 : (0 : Int) ≤ (n : Int) := by omega
  have i1 : (n : Int) < (A.L.length : Int) := by omega
  clear hn hg hat hput hld hq hq2 hoff hln hx hR
  go_enter Tryz.func47, Tryz.ntmps47
  go_upto_region 1 with (first | ((with_reducible refine at_alloc18 ?_); refine wpList_allocM rfl rfl ?_))
  generalize ((w.alloc (Obj.cells (A.cells vm vb (.slice (some ad) A.L.length cL) vs vd vt).toArray 44)).alloc (Obj.cells mzL.toArray 44)) = wQ at hX ⊢
  go_wp2_with (first | ((with_reducible refine at_load ?_); refine ldw (hn := Ma.clen hA) hX aggM sizM ?_) | (go_at_call 91; (with_reducible refine (hil _ hX.below).mono ?_); rintro e' wc ⟨rfl, hbb⟩; replace hX := hX.step hbb; clear hbb))
  refine region_hoistS (fun w' => Bag [(w.heap.size, 44, A.cells vm vb (.slice (some ad) A.L.length cL) vs vd vt)] w w') 14 [(0, false), (1, false), (2, false), (3, false), (4, false), (5, false), (6, false), (7, false), (8, false), (9, false), (10, false), (11, true), (12, true), (13, true)] (by kernel_rfl) (by kernel_rfl) (fun _ _ dd _ _ h => by cases dd <;> exact h) hX.restS.drew ?_
  refine wpHp_q' rfl rfl (fun KK hKK => ?_)
  apply Exists.intro
  refine ⟨fun wq hq => ?_, hKK _ ?_⟩
  · try dsimp only at hq
    first
      | exact run_load_op 44 _ _ rfl rfl ((hq.all _ _ _ (.head _)).loadAt (Ma.clen hA) aggM sizM)
      | exact run_load_op 35 _ _ rfl rfl ((hq.all _ _ _ (.head _)).loadCell (get_l hL) slL_cell)
      | exact run_load_op 68 _ _ rfl rfl (hld2 _ hq.below)
      | (unfold execOp; go_simp; done)
      | (unfold execOp; go_simp; with_reducible rfl)
  clear hKK KK
  simp only [Act.put, List.setIfInBounds_toArray, List.set_cons_zero, List.set_cons_succ]
  refine wpHp_q' rfl rfl (fun KK hKK => ?_)
  apply Exists.intro
  refine ⟨fun wq hq => ?_, hKK _ ?_⟩
  · try dsimp only at hq
    first
      | exact run_load_op 44 _ _ rfl rfl ((hq.all _ _ _ (.head _)).loadAt (Ma.clen hA) aggM sizM)
      | exact run_load_op 35 _ _ rfl rfl ((hq.all _ _ _ (.head _)).loadCell (get_l hL) slL_cell)
      | exact run_load_op 68 _ _ rfl rfl (hld2 _ hq.below)
      | (unfold execOp; go_simp; done)
      | (unfold execOp; go_simp; with_reducible rfl)
  clear hKK KK
  simp only [Act.put, List.setIfInBounds_toArray, List.set_cons_zero, List.set_cons_succ]
  refine wpHp_q' rfl rfl (fun KK hKK => ?_)
  apply Exists.intro
  refine ⟨fun wq hq => ?_, hKK _ ?_⟩
  · try dsimp only at hq
    first
      | exact run_load_op 44 _ _ rfl rfl ((hq.all _ _ _ (.head _)).loadAt (Ma.clen hA) aggM sizM)
      | exact run_load_op 35 _ _ rfl rfl ((hq.all _ _ _ (.head _)).loadCell (get_l hL) slL_cell)
      | exact run_load_op 68 _ _ rfl rfl (hld2 _ hq.below)
      | (unfold execOp; go_simp; done)
      | (unfold execOp; go_simp; with_reducible rfl)
  clear hKK KK
  simp only [Act.put, List.setIfInBounds_toArray, List.set_cons_zero, List.set_cons_succ]
  refine wpHp_q' rfl rfl (fun KK hKK => ?_)
  apply Exists.intro
  refine ⟨fun wq hq => ?_, hKK _ ?_⟩
  · try dsimp only at hq
    first
      | exact run_load_op 44 _ _ rfl rfl ((hq.all _ _ _ (.head _)).loadAt (Ma.clen hA) aggM sizM)
      | exact run_load_op 35 _ _ rfl rfl ((hq.all _ _ _ (.head _)).loadCell (get_l hL) slL_cell)
      | exact run_load_op 68 _ _ rfl rfl (hld2 _ hq.below)
      | (unfold execOp; go_simp; done)
      | (unfold execOp; go_simp; with_reducible rfl)
  clear hKK KK
  simp only [Act.put, List.setIfInBounds_toArray, List.set_cons_zero, List.set_cons_succ]
  refine wpHp_q' rfl rfl (fun KK hKK => ?_)
  apply Exists.intro
  refine ⟨fun wq hq => ?_, hKK _ ?_⟩
  · try dsimp only at hq
    first
      | exact run_load_op 44 _ _ rfl rfl ((hq.all _ _ _ (.head _)).loadAt (Ma.clen hA) aggM sizM)
      | exact run_load_op 35 _ _ rfl rfl ((hq.all _ _ _ (.head _)).loadCell (get_l hL) slL_cell)
      | exact run_load_op 68 _ _ rfl rfl (hld2 _ hq.below)
      | (unfold execOp; go_simp; done)
      | (unfold execOp; go_simp; with_reducible rfl)
  clear hKK KK
  simp only [Act.put, List.setIfInBounds_toArray, List.set_cons_zero, List.set_cons_succ]
  refine wpHp_q' rfl rfl (fun KK hKK => ?_)
  apply Exists.intro
  refine ⟨fun wq hq => ?_, hKK _ ?_⟩
  · try dsimp only at hq
    first
      | exact run_load_op 44 _ _ rfl rfl ((hq.all _ _ _ (.head _)).loadAt (Ma.clen hA) aggM sizM)
      | exact run_load_op 35 _ _ rfl rfl ((hq.all _ _ _ (.head _)).loadCell (get_l hL) slL_cell)
      | exact run_load_op 68 _ _ rfl rfl (hld2 _ hq.below)
      | (unfold execOp; go_simp; done)
      | (unfold execOp; go_simp; with_reducible rfl)
  clear hKK KK
  simp only [Act.put, List.setIfInBounds_toArray, List.set_cons_zero, List.set_cons_succ]
  refine wpHp_q' rfl rfl (fun KK hKK => ?_)
  apply Exists.intro
  refine ⟨fun wq hq => ?_, hKK _ ?_⟩
  · try dsimp only at hq
    first
      | exact run_load_op 44 _ _ rfl rfl ((hq.all _ _ _ (.head _)).loadAt (Ma.clen hA) aggM sizM)
      | exact run_load_op 35 _ _ rfl rfl ((hq.all _ _ _ (.head _)).loadCell (get_l hL) slL_cell)
      | exact run_load_op 68 _ _ rfl rfl (hld2 _ hq.below)
      | (unfold execOp; go_simp; done)
      | (unfold execOp; go_simp; with_reducible rfl)
  clear hKK KK
  simp only [Act.put, List.setIfInBounds_toArray, List.set_cons_zero, List.set_cons_succ]
  refine wpHp_q' rfl rfl (fun KK hKK => ?_)
  apply Exists.intro
  refine ⟨fun wq hq => ?_, hKK _ ?_⟩
  · try dsimp only at hq
    first
      | exact run_load_op 44 _ _ rfl rfl ((hq.all _ _ _ (.head _)).loadAt (Ma.clen hA) aggM sizM)
      | exact run_load_op 35 _ _ rfl rfl ((hq.all _ _ _ (.head _)).loadCell (get_l hL) slL_cell)
      | exact run_load_op 68 _ _ rfl rfl (hld2 _ hq.below)
      | (unfold execOp; go_simp; done)
      | (unfold execOp; go_simp; with_reducible rfl)
  clear hKK KK
  simp only [Act.put, List.setIfInBounds_toArray, List.set_cons_zero, List.set_cons_succ]
  refine wpHp_q' rfl rfl (fun KK hKK => ?_)
  apply Exists.intro
  refine ⟨fun wq hq => ?_, hKK _ ?_⟩
  · try dsimp only at hq
    first
      | exact run_load_op 44 _ _ rfl rfl ((hq.all _ _ _ (.head _)).loadAt (Ma.clen hA) aggM sizM)
      | exact run_load_op 35 _ _ rfl rfl ((hq.all _ _ _ (.head _)).loadCell (get_l hL) slL_cell)
      | exact run_load_op 68 _ _ rfl rfl (hld2 _ hq.below)
      | (unfold execOp; go_simp; done)
      | (unfold execOp; go_simp; with_reducible rfl)
  clear hKK KK
  simp only [Act.put, List.setIfInBounds_toArray, List.set_cons_zero, List.set_cons_succ]
  refine wpHp_q' rfl rfl (fun KK hKK => ?_)
  apply Exists.intro
  refine ⟨fun wq hq => ?_, hKK _ ?_⟩
  · try dsimp only at hq
    first
      | exact run_load_op 44 _ _ rfl rfl ((hq.all _ _ _ (.head _)).loadAt (Ma.clen hA) aggM sizM)
      | exact run_load_op 35 _ _ rfl rfl ((hq.all _ _ _ (.head _)).loadCell (get_l hL) slL_cell)
      | exact run_load_op 68 _ _ rfl rfl (hld2 _ hq.below)
      | (unfold execOp; go_simp; done)
      | (unfold execOp; go_simp; with_reducible rfl)
  clear hKK KK
  simp only [Act.put, List.setIfInBounds_toArray, List.set_cons_zero, List.set_cons_succ]
  refine wpHp_q' rfl rfl (fun KK hKK => ?_)
  apply Exists.intro
  refine ⟨fun wq hq => ?_, hKK _ ?_⟩
  · try dsimp only at hq
    first
      | exact run_load_op 44 _ _ rfl rfl ((hq.all _ _ _ (.head _)).loadAt (Ma.clen hA) aggM sizM)
      | exact run_load_op 35 _ _ rfl rfl ((hq.all _ _ _ (.head _)).loadCell (get_l hL) slL_cell)
      | exact run_load_op 68 _ _ rfl rfl (hld2 _ hq.below)
      | (unfold execOp; go_simp; done)
      | (unfold execOp; go_simp; with_reducible rfl)
  clear hKK KK
  simp only [Act.put, List.setIfInBounds_toArray, List.set_cons_zero, List.set_cons_succ]
  refine wpHp_call rfl rfl (fun KK hKK => ?_)
  unfold Oper.semiAt
  go_simp
  simp only [semiUpon]
  refine ⟨trivial, ?_⟩
  refine (hrd _).mono ?_
  rintro e' wc ⟨rfl, hbb⟩
  refine ⟨_, rfl, hKK _ _ (hX.restS.drew.step hbb) ?_⟩
  clear hKK KK
  have hX2 := hX.drew.step hbb
  clear hX
  have hX := hX2
  clear hX2 hbb
  have hLT : w.heap.size + 2 ≤ _ := (hX.all _ _ _ (.head _)).lt
  simp only [Act.put, List.setIfInBounds_toArray, List.set_cons_zero, List.set_cons_succ]
  refine wpHp_call rfl rfl (fun KK hKK => ?_)
  unfold Oper.semiAt
  go_simp
  simp only [semiUpon]
  refine ⟨trivial, ?_⟩
  refine (hwl _ hX.below hLT).mono ?_
  rintro e' wc ⟨vl', rfl, ov, hls, hbb⟩
  refine ⟨_, rfl, hKK _ _ (hX.restS.step hbb) ?_⟩
  clear hKK KK
  have hX2 := hX.step hbb
  clear hX
  have hX := hX2
  clear hX2 hbb hLT
  simp only [Act.put, List.setIfInBounds_toArray, List.set_cons_zero, List.set_cons_succ]
  refine wpHp_over (cs' := (({ A with L := A.L.set n (x.wr g v) } : Ma)).cells vm vb vl' vs vd vt) rfl rfl hX aggM sizM _ _ rfl rfl rfl rfl (Ma.clen (A := ({ A with L := A.L.set n (x.wr g v) } : Ma)) hA) mzL_len (Ma.cone (A := ({ A with L := A.L.set n (x.wr g v) } : Ma)) hA hV.o1 hV.o2 ov hV.o4 hV.o5 hV.o6) (fun w7 hX7 hk7 => ⟨hX7.restS, ?_⟩)
  replace hls := Sv.over18 hls hk7 (.inr (.inr rfl))
  replace hX := hX7
  clear hX7 hk7
  simp only [Act.put, List.setIfInBounds_toArray, List.set_cons_zero, List.set_cons_succ]
  refine wpHp_nil ?_
  simp only [List.drop_succ_cons, List.drop_zero]
  go_wp2
  exact bodyPost_ret (results_ct Tryz.results47 rfl ((hX.all _ _ _ (.head _)).loadVar (Ma.clen (A := ({ A with L := A.L.set n (x.wr g v) } : Ma)) hA) aggM sizM)) rfl ⟨_, rfl, ⟨_, _, _, _, _, _, rfl, Sv.below hV.m hX.below, Sv.below hV.b hX.below, Sv.less18 hls (fun _ h => .inl h), Sv.below hV.s hX.below, Sv.below hV.d hX.below, Sv.below hV.t hX.below⟩, hX.below⟩
theorem wreg_clock (A : Ma) (hA : A.ok) (hR : A.right = true) (vm vb vl vs vd vt : Value) (X : Nat → Prop) (w : World) (hXl : ∀ b, X b → b < w.heap.size) (hV : MaV X w A vm vb vl vs vd vt) (v : Int) : Calls Tryz.prog 47 #[.agg (A.cells vm vb vl vs vd vt).toArray, .int .i64 256, .int .i64 v] w fun e' w' => ∃ x, e' = .returned (.tuple #[x, .bool (A.wrR 256 v).2]) ∧ MaX X w' x (A.wrR 256 v).1 ∧ Below w.heap.size w w' := by
  have hL := Ma.len hA vs vd vt
  obtain ⟨hl4, hln, _⟩ := Ma.parts hR
  have hX := two_ma w (A.cells vm vb vl vs vd vt)
  obtain ⟨off, hoff⟩ : ∃ off : Int, off = 256 := ⟨_, rfl⟩
  have hq : A.isL off = false := by unfold Ma.isL; rw [decide_eq_false (by omega)]; rfl
  have hil := fun (wz : World) (hb : Below w.heap.size w wz) => rline18 A hA hl4 off vm vb vl vs vd vt wz (Rz.below hV.l.now hb)
  rw [hq] at hil
  subst hoff
  have hr : A.wrR 256 v = (({ A with k := A.k.write v } : Ma), true) := by unfold Ma.wrR; rw [hq, if_neg (by decide), if_pos rfl]
  rw [hr]
  have hk : ∀ wz, Calls Tryz.prog 106 #[.agg A.k.L.toArray, .int .i64 v] wz fun e' w' => e' = .returned (.agg (A.k.write v).L.toArray) ∧ Below wz.heap.size wz w' := fun wz => rwrite_any_13 A.k v wz
  clear hr hq hln
  go_enter Tryz.func47, Tryz.ntmps47
  go_upto_region 1 with (first | ((with_reducible refine at_alloc18 ?_); refine wpList_allocM rfl rfl ?_))
  generalize ((w.alloc (Obj.cells (A.cells vm vb vl vs vd vt).toArray 44)).alloc (Obj.cells mzL.toArray 44)) = wQ at hX ⊢
  go_wp2_with (first | ((with_reducible refine at_load ?_); refine ldw (hn := Ma.clen hA) hX aggM sizM ?_) | (go_at_call 91; (with_reducible refine (hil _ hX.below).mono ?_); rintro e' wc ⟨rfl, hbb⟩; replace hX := hX.step hbb; clear hbb) | ((with_reducible refine at_load ?_); refine ldp hX aggK_13 sizK_13 (get_k hL) rfl ?_) | (go_at_call 106; (with_reducible refine (hk _).mono ?_); rintro e' wc ⟨rfl, hbb⟩; replace hX := hX.step hbb; clear hbb) | ((with_reducible refine at_store ?_); refine stp2 hX aggK_13 sizK_13 (Ma.put_k hA) rfl (by rw [Ma.clen hA]; decide) (ck_one _) ?_; intro wS hY hkS; replace hX := hY; clear hY hkS) | ((with_reducible refine at_load ?_); refine ldw (hn := Ma.clen (A := ({ A with k := A.k.write v } : Ma)) hA) hX aggM sizM ?_) | ((with_reducible refine at_store ?_); refine stw hX aggM sizM (Ma.cone (A := ({ A with k := A.k.write v } : Ma)) hA hV.o1 hV.o2 hV.o3 hV.o4 hV.o5 hV.o6) (hn := Ma.clen (A := ({ A with k := A.k.write v } : Ma)) hA) (hc := mzL_len) ?_; intro wS hY hkS; replace hX := hY; clear hY hkS))
  exact bodyPost_ret (results_ct Tryz.results47 rfl ((hX.all _ _ _ (.head _)).loadVar (Ma.clen (A := ({ A with k := A.k.write v } : Ma)) hA) aggM sizM)) rfl ⟨_, rfl, ⟨_, _, _, _, _, _, rfl, Sv.below hV.m hX.below, Sv.below hV.b hX.below, Sv.below hV.l hX.below, Sv.below hV.s hX.below, Sv.below hV.d hX.below, Sv.below hV.t hX.below⟩, hX.below⟩
theorem wreg_disk (A : Ma) (hA : A.ok) (hR : A.right = true) (vm vb vl vs vd vt : Value) (X : Nat → Prop) (w : World) (hXl : ∀ b, X b → b < w.heap.size) (hV : MaV X w A vm vb vl vs vd vt) (off v : Int) (h1 : 768 ≤ off) (h2 : off ≤ 774) : Calls Tryz.prog 47 #[.agg (A.cells vm vb vl vs vd vt).toArray, .int .i64 off, .int .i64 v] w fun e' w' => ∃ x, e' = .returned (.tuple #[x, .bool (A.wrR off v).2]) ∧ MaX X w' x (A.wrR off v).1 ∧ Below w.heap.size w w' := by
  have hL := Ma.len hA vs vd vt
  obtain ⟨hl4, hln, _, hUr, _, hKr, hTr⟩ := Ma.parts hR
  have hX := two_ma w (A.cells vm vb vl vs vd vt)
  have hq : A.isL off = false := by unfold Ma.isL; have : 8 * (A.L.length : Int) ≤ 32 := (by have := (Ma.parts hR).1; omega); rw [decide_eq_false (p := off < 512 + 8 * (A.L.length : Int)) (by omega)]; simp
  have hil := fun (wz : World) (hb : Below w.heap.size w wz) => rline18 A hA hl4 off vm vb vl vs vd vt wz (Rz.below hV.l.now hb)
  rw [hq] at hil
  have hr : A.wrR off v = ({ A with K := (A.K.wr (off - 768) v).1 }, (A.K.wr (off - 768) v).2) := by unfold Ma.wrR; rw [hq, if_neg (by decide), if_neg (by omega), if_pos ⟨h1, h2⟩]
  rw [hr]
  have hd : ∀ wz : World, Below w.heap.size w wz → Calls Tryz.prog 107 #[.agg (dkL vs vd A.K).toArray, .int .i64 (off - 768), .int .i64 v] wz fun e' w' => ∃ x, e' = .returned (.tuple #[x, .bool (A.K.wr (off - 768) v).2]) ∧ DkX (OwnA X w.heap.size) w' x (A.K.wr (off - 768) v).1 ∧ Below wz.heap.size wz w' := fun wz hb => rwriteK_any A.K (off - 768) v vs vd wz (OwnA X w.heap.size) (Sv.weak hV.s hb ownW18) (Sv.weak hV.d hb ownW18)
  have w1 : IntKind.i64.wrap (off - 768) = off - 768 := by rw [wrap_i64]; unfold wrap64; omega
  have d1 : (off == 256) = false := by simp; omega
  have d2 : (768 : Int) ≤ off := by omega
  clear hr hq hln hR
  obtain ⟨N2, hN2⟩ : ∃ N2 : Ma, ({ A with K := (A.K.wr (off - 768) v).1 } : Ma) = N2 := ⟨_, rfl⟩
  have hA2 : N2.ok := hN2 ▸ hA
  rw [show ({ A with K := (A.K.wr (off - 768) v).1 } : Ma) = N2 from hN2]
  go_enter Tryz.func47, Tryz.ntmps47
  go_upto_region 1 with (first | ((with_reducible refine at_alloc18 ?_); refine wpList_allocM rfl rfl ?_))
  generalize ((w.alloc (Obj.cells (A.cells vm vb vl vs vd vt).toArray 44)).alloc (Obj.cells mzL.toArray 44)) = wQ at hX ⊢
  go_wp2_with (first | ((with_reducible refine at_load ?_); refine ldw (hn := Ma.clen hA) hX aggM sizM ?_) | (go_at_call 91; (with_reducible refine (hil _ hX.below).mono ?_); rintro e' wc ⟨rfl, hbb⟩; replace hX := hX.step hbb; clear hbb) | ((with_reducible refine at_load ?_); refine ldp hX aggK sizK (get_d hL) rfl ?_) | (go_at_call 107; (with_reducible refine (hd _ hX.below).mono ?_); rintro e' wc ⟨x, rfl, ⟨vs', vd', rfl, hs, hd'⟩, hbb⟩; have o4 := rz_one hs.now; have o5 := rz_one hd'.now; replace hX := hX.step hbb; clear hbb) | ((with_reducible refine at_store ?_); refine stn hX aggK sizK (dk_one o4 o5) ?_; intro wS hY hbS; replace hs := Sv.below hs hbS; replace hd' := Sv.below hd' hbS; replace hX := hY.rot3; clear hY hbS) | ((with_reducible refine at_load ?_); refine ldw hX aggK sizK ?_) | ((with_reducible refine at_store ?_); refine stp2 (cs' := N2.cells vm vb vl vs' vd' vt) hX aggK sizK (hN2 ▸ Ma.put_d hA) rfl (by rw [Ma.clen hA]; decide) (dk_one o4 o5) ?_; intro wS hY hkS; replace hs := Sv.over18 hs hkS (.inr (.inl rfl)); replace hd' := Sv.over18 hd' hkS (.inr (.inl rfl)); replace hX := hY; clear hY hkS) | ((with_reducible refine at_load ?_); refine ldw (hn := Ma.clen (A := N2) hA2) hX aggM sizM ?_) | ((with_reducible refine at_store ?_); refine stw hX aggM sizM (Ma.cone (A := N2) hA2 hV.o1 hV.o2 hV.o3 o4 o5 hV.o6) (hn := Ma.clen (A := N2) hA2) (hc := mzL_len) ?_; intro wS hY hkS; replace hs := Sv.over18 hs hkS (.inr (.inr rfl)); replace hd' := Sv.over18 hd' hkS (.inr (.inr rfl)); replace hX := hY; clear hY hkS))
  exact bodyPost_ret (results_ct Tryz.results47 rfl ((hX.all _ _ _ (.head _)).loadVar (Ma.clen (A := N2) hA2) aggM sizM)) rfl ⟨_, rfl, hN2 ▸ ⟨_, _, _, _, _, _, hN2 ▸ rfl, Sv.below hV.m hX.below, Sv.below hV.b hX.below, Sv.below hV.l hX.below, Sv.less18 hs (fun _ h => .inl h), Sv.less18 hd' (fun _ h => .inl h), Sv.below hV.t hX.below⟩, hX.below⟩
theorem wreg_tape (A : Ma) (hA : A.ok) (hR : A.right = true) (vm vb vl vs vd vt : Value) (X : Nat → Prop) (w : World) (hXl : ∀ b, X b → b < w.heap.size) (hV : MaV X w A vm vb vl vs vd vt) (off v : Int) (h1 : 800 ≤ off) (h2 : off ≤ 804) : Calls Tryz.prog 47 #[.agg (A.cells vm vb vl vs vd vt).toArray, .int .i64 off, .int .i64 v] w fun e' w' => ∃ x, e' = .returned (.tuple #[x, .bool (A.wrR off v).2]) ∧ MaX X w' x (A.wrR off v).1 ∧ Below w.heap.size w w' := by
  have hL := Ma.len hA vs vd vt
  obtain ⟨hl4, hln, _, hUr, _, hKr, hTr⟩ := Ma.parts hR
  have hX := two_ma w (A.cells vm vb vl vs vd vt)
  have hq : A.isL off = false := by unfold Ma.isL; have : 8 * (A.L.length : Int) ≤ 32 := (by have := (Ma.parts hR).1; omega); rw [decide_eq_false (p := off < 512 + 8 * (A.L.length : Int)) (by omega)]; simp
  have hil := fun (wz : World) (hb : Below w.heap.size w wz) => rline18 A hA hl4 off vm vb vl vs vd vt wz (Rz.below hV.l.now hb)
  rw [hq] at hil
  have hr : A.wrR off v = ({ A with T := (A.T.wr (off - 800) v).1 }, (A.T.wr (off - 800) v).2) := by unfold Ma.wrR; rw [hq, if_neg (by decide), if_neg (by omega), if_neg (by omega), if_pos ⟨h1, h2⟩]
  rw [hr]
  have hd : ∀ wz : World, Below w.heap.size w wz → Calls Tryz.prog 108 #[.agg (tpL vt A.T).toArray, .int .i64 (off - 800), .int .i64 v] wz fun e' w' => ∃ x, e' = .returned (.tuple #[x, .bool (A.T.wr (off - 800) v).2]) ∧ TpX (OwnA X w.heap.size) w' x (A.T.wr (off - 800) v).1 ∧ Below wz.heap.size wz w' := fun wz hb => rwriteT_any A.T (off - 800) v vt wz (OwnA X w.heap.size) (Sv.weak hV.t hb ownW18)
  have w1 : IntKind.i64.wrap (off - 800) = off - 800 := by rw [wrap_i64]; unfold wrap64; omega
  have d1 : (off == 256) = false := by simp; omega
  have d2 : (768 : Int) ≤ off := by omega
  have d3 : ¬ off ≤ 774 := by omega
  clear hr hq hln hR
  obtain ⟨N2, hN2⟩ : ∃ N2 : Ma, ({ A with T := (A.T.wr (off - 800) v).1 } : Ma) = N2 := ⟨_, rfl⟩
  have hA2 : N2.ok := hN2 ▸ hA
  rw [show ({ A with T := (A.T.wr (off - 800) v).1 } : Ma) = N2 from hN2]
  go_enter Tryz.func47, Tryz.ntmps47
  go_upto_region 1 with (first | ((with_reducible refine at_alloc18 ?_); refine wpList_allocM rfl rfl ?_))
  generalize ((w.alloc (Obj.cells (A.cells vm vb vl vs vd vt).toArray 44)).alloc (Obj.cells mzL.toArray 44)) = wQ at hX ⊢
  go_wp2_with (first | ((with_reducible refine at_load ?_); refine ldw (hn := Ma.clen hA) hX aggM sizM ?_) | (go_at_call 91; (with_reducible refine (hil _ hX.below).mono ?_); rintro e' wc ⟨rfl, hbb⟩; replace hX := hX.step hbb; clear hbb) | ((with_reducible refine at_load ?_); refine ldp hX aggT sizT (get_t hL) rfl ?_) | (go_at_call 108; (with_reducible refine (hd _ hX.below).mono ?_); rintro e' wc ⟨x, rfl, ⟨vt', rfl, ht⟩, hbb⟩; have o6 := rz_one ht.now; replace hX := hX.step hbb; clear hbb) | ((with_reducible refine at_store ?_); refine stn hX aggT sizT (tpL_one o6) ?_; intro wS hY hbS; replace ht := Sv.below ht hbS; replace hX := hY.rot3; clear hY hbS) | ((with_reducible refine at_load ?_); refine ldw hX aggT sizT ?_) | ((with_reducible refine at_store ?_); refine stp2 (cs' := N2.cells vm vb vl vs vd vt') hX aggT sizT (hN2 ▸ Ma.put_t hA) rfl (by rw [Ma.clen hA]; decide) (tpL_one o6) ?_; intro wS hY hkS; replace ht := Sv.over18 ht hkS (.inr (.inl rfl)); replace hX := hY; clear hY hkS) | ((with_reducible refine at_load ?_); refine ldw (hn := Ma.clen (A := N2) hA2) hX aggM sizM ?_) | ((with_reducible refine at_store ?_); refine stw hX aggM sizM (Ma.cone (A := N2) hA2 hV.o1 hV.o2 hV.o3 hV.o4 hV.o5 o6) (hn := Ma.clen (A := N2) hA2) (hc := mzL_len) ?_; intro wS hY hkS; replace ht := Sv.over18 ht hkS (.inr (.inr rfl)); replace hX := hY; clear hY hkS))
  exact bodyPost_ret (results_ct Tryz.results47 rfl ((hX.all _ _ _ (.head _)).loadVar (Ma.clen (A := N2) hA2) aggM sizM)) rfl ⟨_, rfl, hN2 ▸ ⟨_, _, _, _, _, _, hN2 ▸ rfl, Sv.below hV.m hX.below, Sv.below hV.b hX.below, Sv.below hV.l hX.below, Sv.below hV.s hX.below, Sv.below hV.d hX.below, Sv.less18 ht (fun _ h => .inl h)⟩, hX.below⟩
theorem un_wr_ok {u : Un} (h : u.ok) (n v : Int) : (u.write n v).1.ok := by
  unfold Un.write
  repeat' split
  all_goals first
    | exact h
    | (unfold Un.ok Un.withP at *; simpa using h)
theorem wreg_unit (A : Ma) (hA : A.ok) (hR : A.right = true) (vm vb vl vs vd vt : Value) (X : Nat → Prop) (w : World) (hXl : ∀ b, X b → b < w.heap.size) (hV : MaV X w A vm vb vl vs vd vt) (off v : Int) (hq : A.isL off = false) (h1 : off ≠ 256) (h2 : ¬ (768 ≤ off ∧ off ≤ 774)) (h3 : ¬ (800 ≤ off ∧ off ≤ 804)) : Calls Tryz.prog 47 #[.agg (A.cells vm vb vl vs vd vt).toArray, .int .i64 off, .int .i64 v] w fun e' w' => ∃ x, e' = .returned (.tuple #[x, .bool (A.wrR off v).2]) ∧ MaX X w' x (A.wrR off v).1 ∧ Below w.heap.size w w' := by
  have hL := Ma.len hA vs vd vt
  obtain ⟨hl4, hln, _, hUr, _, hKr, hTr⟩ := Ma.parts hR
  have hX := two_ma w (A.cells vm vb vl vs vd vt)
  have hil := fun (wz : World) (hb : Below w.heap.size w wz) => rline18 A hA hl4 off vm vb vl vs vd vt wz (Rz.below hV.l.now hb)
  rw [hq] at hil
  have hr : A.wrR off v = ({ A with U := (A.U.write off v).1 }, (A.U.write off v).2) := by unfold Ma.wrR; rw [hq, if_neg (by decide), if_neg h1, if_neg h2, if_neg h3]
  rw [hr]
  have hd : ∀ wz, Calls Tryz.prog 109 #[.agg A.U.L.toArray, .int .i64 off, .int .i64 v] wz fun e' w' => e' = .returned (.tuple #[.agg (A.U.write off v).1.L.toArray, .bool (A.U.write off v).2]) ∧ Below wz.heap.size wz w' := fun wz => rwrite_any_9 A.U hA.2.2 off v wz
  have hU2 : (A.U.write off v).1.ok := un_wr_ok hA.2.2 off v
  have hzu := zero_unit
  have d1 : (off == 256) = false := by simpa using h1
  have hc : (¬ 768 ≤ off ∧ ¬ 800 ≤ off) ∨ (768 ≤ off ∧ ¬ off ≤ 774 ∧ ¬ 800 ≤ off) ∨ (768 ≤ off ∧ ¬ off ≤ 774 ∧ 800 ≤ off ∧ ¬ off ≤ 804) := by omega
  clear hr hq hln hR
  obtain ⟨N2, hN2⟩ : ∃ N2 : Ma, ({ A with U := (A.U.write off v).1 } : Ma) = N2 := ⟨_, rfl⟩
  have hA2 : N2.ok := hN2 ▸ ⟨hA.1, hA.2.1, hU2⟩
  rw [show ({ A with U := (A.U.write off v).1 } : Ma) = N2 from hN2]
  rcases hc with ⟨h1, h2⟩ | ⟨h1, h2, h3⟩ | ⟨h1, h2, h3, h4⟩
  all_goals
    go_enter Tryz.func47, Tryz.ntmps47
    go_upto_region 1 with (first | ((with_reducible refine at_alloc18 ?_); refine wpList_allocM rfl rfl ?_))
    generalize ((w.alloc (Obj.cells (A.cells vm vb vl vs vd vt).toArray 44)).alloc (Obj.cells mzL.toArray 44)) = wQ at hX ⊢
    go_wp2_with (first | ((with_reducible refine at_load ?_); refine ldw (hn := Ma.clen hA) hX aggM sizM ?_) | (go_at_call 91; (with_reducible refine (hil _ hX.below).mono ?_); rintro e' wc ⟨rfl, hbb⟩; replace hX := hX.step hbb; clear hbb) | ((with_reducible refine at_load ?_); refine ldp hX agg_unit size_unit (get_u hL) (Un.len hA.2.2) ?_) | (go_at_call 109; (with_reducible refine (hd _).mono ?_); rintro e' wc ⟨rfl, hbb⟩; replace hX := hX.step hbb; clear hbb) | ((with_reducible refine at_store ?_); refine stn hX agg_unit size_unit (un_one _) (hm := Un.len (u := Un.z) rfl) (hn := Un.len hU2) ?_; intro wS hY hbS; replace hX := hY.rot3; clear hY hbS) | ((with_reducible refine at_load ?_); refine ldw (hn := Un.len hU2) hX agg_unit size_unit ?_) | ((with_reducible refine at_store ?_); refine stp2 (cs' := N2.cells vm vb vl vs vd vt) hX agg_unit size_unit (hN2 ▸ Ma.put_u hA) (Un.len hU2) (by rw [Ma.clen hA]; decide) (un_one _) ?_; intro wS hY hkS; replace hX := hY; clear hY hkS) | ((with_reducible refine at_load ?_); refine ldw (hn := Ma.clen (A := N2) hA2) hX aggM sizM ?_) | ((with_reducible refine at_store ?_); refine stw hX aggM sizM (Ma.cone (A := N2) hA2 hV.o1 hV.o2 hV.o3 hV.o4 hV.o5 hV.o6) (hn := Ma.clen (A := N2) hA2) (hc := mzL_len) ?_; intro wS hY hkS; replace hX := hY; clear hY hkS))
    exact bodyPost_ret (results_ct Tryz.results47 rfl ((hX.all _ _ _ (.head _)).loadVar (Ma.clen (A := N2) hA2) aggM sizM)) rfl ⟨_, rfl, hN2 ▸ ⟨_, _, _, _, _, _, hN2 ▸ rfl, Sv.below hV.m hX.below, Sv.below hV.b hX.below, Sv.below hV.l hX.below, Sv.below hV.s hX.below, Sv.below hV.d hX.below, Sv.below hV.t hX.below⟩, hX.below⟩
theorem wrReg_any (A : Ma) (hA : A.ok) (hR : A.right = true) (vm vb vl vs vd vt : Value) (X : Nat → Prop) (w : World) (hXl : ∀ b, X b → b < w.heap.size) (hV : MaV X w A vm vb vl vs vd vt) (off v : Int) (hoff : 0 ≤ off ∧ off < 8192) : Calls Tryz.prog 47 #[.agg (A.cells vm vb vl vs vd vt).toArray, .int .i64 off, .int .i64 v] w fun e' w' => ∃ x, e' = .returned (.tuple #[x, .bool (A.wrR off v).2]) ∧ MaX X w' x (A.wrR off v).1 ∧ Below w.heap.size w w' := by
  cases hq : A.isL off
  · by_cases h1 : off = 256
    · subst h1
      exact wreg_clock A hA hR vm vb vl vs vd vt X w hXl hV v
    by_cases h2 : 768 ≤ off ∧ off ≤ 774
    · exact wreg_disk A hA hR vm vb vl vs vd vt X w hXl hV off v h2.1 h2.2
    by_cases h3 : 800 ≤ off ∧ off ≤ 804
    · exact wreg_tape A hA hR vm vb vl vs vd vt X w hXl hV off v h3.1 h3.2
    exact wreg_unit A hA hR vm vb vl vs vd vt X w hXl hV off v hq h1 h2 h3
  · exact wreg_line A hA hR vm vb vl vs vd vt X w hXl hV off v hq hoff
end Go.Proofs.YthpnddgfgpacpaaGreat
