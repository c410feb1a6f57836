import Derived.Test.YthpnddgfgpacpaaGreatRT24
import Derived.Test.YthpnddgfgpacpaaGreatRT25
import Derived.Test.YthpnddgfgpacpaaGreatRT14
import Derived.Test.YthpnddgfgpacpaaGreatRT09
namespace Go.Proofs.YthpnddgfgpacpaaGreat
open Go.RowKit
set_option linter.unusedSimpArgs false
set_option linter.unusedVariables false
set_option maxHeartbeats 4000000
set_option maxRecDepth 100000
attribute [local irreducible] wpQuiet
theorem qoj (l:List Ln) (v:Value) (w:World) (hl:l.length≤1099511627776) (h:Lns w v l):Calls Tryz.prog 48 #[v] w fun e w'=>∃ v',e=.returned v'∧w'.ownsRow w.heap.size 68 9 v' l.length (l.flatMap lnL)∧Below w.heap.size w w':=by
 rcases Rz.form h with ⟨rfl,h0,h1⟩|⟨a,c,rfl,hc⟩
 ·have hq:∀ w:World,(binOp .eql 35 (.slice none 0 0) (.slice none 0 0)).run Tryz.prog w=.ok (.bool true) w:=fun w=>Lib.run_eql_slice_nil w _ _ none 0 0 0 0 Tryz.underlying35
  go_enter Tryz.func48,Tryz.ntmps48
  go_wp2
  go_ret
  exact ⟨_,rfl,by rw [h1,h0];exact World.ownsRow_nil _ _ _ _,Below.refl _ _⟩
 ·have hq:∀ w:World,(binOp .eql 35 (.slice (some a) l.length c) (.slice none 0 0)).run Tryz.prog w=.ok (.bool false) w:=fun w=>Lib.run_eql_slice_nil w _ _ (some a) l.length c 0 0 Tryz.underlying35
  go_enter Tryz.func48,Tryz.ntmps48
  go_wp2_with (first|(at_builtin;refine qmw rfl (.tmp 5) (.tmp 6) rfl rfl rfl (.slice (some a) l.length c) l rfl h hl ?_;intro v2 w2 ho2 hb2))
  go_ret
  exact ⟨_,rfl,ho2,hb2⟩
section
variable {A:Ma} {vm vb vl vs vd vt:Value} (h:A.ok)
include h
theorem Ma.set_s (x:Value):(A.cells vm vb vl vs vd vt).set 84 x=A.cells vm vb vl x vd vt:=by
 have hL:=Ma.len h vs vd vt
 unfold Ma.cells
 rw [qnp,qnp,List.set_append_right _ _ (by simp [hL.c,hL.u,hL.k]),show (A.C++[vm,vb]++A.U.L++A.k.L++[vl]).length=84 by simp [hL.c,hL.u,hL.k]]
 rfl
theorem Ma.set_d (x:Value):(A.cells vm vb vl vs vd vt).set 85 x=A.cells vm vb vl vs x vt:=by
 have hL:=Ma.len h vs vd vt
 unfold Ma.cells
 rw [qnp,qnp,List.set_append_right _ _ (by simp [hL.c,hL.u,hL.k]),show (A.C++[vm,vb]++A.U.L++A.k.L++[vl]).length=84 by simp [hL.c,hL.u,hL.k]]
 rfl
theorem Ma.set_t (x:Value):(A.cells vm vb vl vs vd vt).set 94 x=A.cells vm vb vl vs vd x:=by
 have hL:=Ma.len h vs vd vt
 unfold Ma.cells
 rw [qt2,qt2,List.set_append_right _ _ (by simp [hL.c,hL.u,hL.k,hL.d]),show (A.C++[vm,vb]++A.U.L++A.k.L++[vl]++dkL vs vd A.K).length=94 by simp [hL.c,hL.u,hL.k,hL.d]]
 rfl
end
theorem getM_s {A:Ma} (h:A.ok) {vm vb vl vs vd vt:Value}:(A.cells vm vb vl vs vd vt)[84]? = some vs:=qci (Ma.len h vs vd vt) 0 vs rfl
theorem getM_d {A:Ma} (h:A.ok) {vm vb vl vs vd vt:Value}:(A.cells vm vb vl vs vd vt)[85]? = some vd:=qci (Ma.len h vs vd vt) 1 vd rfl
theorem getM_t {A:Ma} (h:A.ok) {vm vb vl vs vd vt:Value}:(A.cells vm vb vl vs vd vt)[94]? = some vt:=qc6 (Ma.len h vs vd vt) 0 vt rfl
theorem qn1 (w:World):(sizeOf 36).run Tryz.prog w=.ok 1 w:=by kernel_rfl
structure FrD (N:Nat) (w:World) (A:Ma) (vl vs vd vt:Value):Prop where
 l:w.ownsRow N 68 9 vl A.L.length (A.L.flatMap lnL)
 s:w.ownsRow N 9 1 vs A.K.D.S.length (A.K.D.S.map Value.string)
 d:w.ownsRow N 3 1 vd A.K.D.B.length (A.K.D.B.map (Value.int .i64))
 t:w.ownsRow N 9 1 vt A.T.R.length (A.T.R.map Value.string)
def Ma.fewD (A:Ma):Prop:=A.L.length≤1099511627776∧A.K.D.S.length≤1099511627776∧A.K.D.B.length≤1099511627776∧A.T.R.length≤1099511627776
theorem Ma.own18 {w:World} {N s n:Nat} {t:TypeId} {v:Value} {xs:List Value} (h:w.ownsRow N t s v n xs):v.oneCell'=true∧v.cells=#[v]:=by
 rcases h.2 with ⟨rfl,_⟩|⟨g,c,cur,rfl,_⟩<;>exact ⟨rfl,rfl⟩
theorem qn3 (A:Ma) (hA:A.ok) (hF:A.fewD) (vm vb vl vs vd vt:Value) (o1:vm.oneCell'=true) (o2:vb.oneCell'=true) (w:World) (hl:Lns w vl A.L) (hs:Sts w vs A.K.D.S) (hd:Its w vd A.K.D.B) (ht:Sts w vt A.T.R):Calls Tryz.prog 81 #[.agg (A.cells vm vb vl vs vd vt).toArray] w fun e' w'=>∃ ul us ud ut,e'=.returned (.agg (A.cells vm vb ul us ud ut).toArray)∧FrD (w.heap.size+2) w' A ul us ud ut∧Below w.heap.size w w':=by
 have hL:=Ma.len hA vs vd vt
 have hX:=qhw w (A.cells vm vb vl vs vd vt)
 replace hX:=hX.swap
 obtain ⟨f1,f2,f3,f4⟩:=hF
 have hcl:=fun (wz:World) (hb:Below w.heap.size w wz)=>qoj A.L vl wz f1 (Rz.below hl hb)
 have hcs:=fun (wz:World) (hb:Below w.heap.size w wz)=>qg1 A.K.D.S vs wz f2 (Rz.below hs hb)
 have hcd:=fun (wz:World) (hb:Below w.heap.size w wz)=>qco A.K.D.B vd wz f3 (Rz.below hd hb)
 have hct:=fun (wz:World) (hb:Below w.heap.size w wz)=>qg1 A.T.R vt wz f4 (Rz.below ht hb)
 go_enter Tryz.func81,Tryz.ntmps81
 go_upto_region 1 with (first|((with_reducible refine qbs ?_);refine qba rfl rfl ?_))
 generalize ((w.alloc (Obj.cells (A.cells vm vb vl vs vd vt).toArray 44)).alloc (Obj.cells mzL.toArray 44))=wQ at hX ⊢
 have hQ:w.heap.size+2≤wQ.heap.size:=by have h1:=qat hX;have h2:=qat hX.swap;omega
 go_wp2_with (first|((with_reducible refine qay 35 ?_);refine ldc (hk:=qcg (Ma.len hA _ _ _)) hX qax ?_)|(go_at_call 48;(with_reducible refine (hcl _ hX.below).mono ?_);rintro e' wc ⟨nl,rfl,ql,hbb⟩;replace ql:=qaz ql (show w.heap.size+2≤_ from by have h1:=qat hX;have h2:=qat hX.swap;omega);replace hX:=hX.step hbb;obtain ⟨Al,cl,rfl,_,_⟩:=Rw.of_own ql;clear hbb)|((with_reducible refine qa9 35 ?_);refine stk1 hX qgx (Ma.set_l (A:=A) hA A.L _) (by rw [Ma.clen (A:=A) hA];decide) rfl ?_;intro wS hY hkS;replace ql:=qac hX ql (by decide) hkS;replace hX:=hY;clear hY hkS)|((with_reducible refine qay 36 ?_);refine ldc (hk:=getM_s hA) hX qau ?_)|(go_at_call 124;(with_reducible refine (hcs _ hX.below).mono ?_);rintro e' wc ⟨ns,rfl,qs,hbb⟩;replace qs:=qaz qs (show w.heap.size+2≤_ from by have h1:=qat hX;have h2:=qat hX.swap;omega);replace ql:=qag ql hbb;replace hX:=hX.step hbb;obtain ⟨As,cs,rfl,_,_⟩:=Rw.of_own qs;clear hbb)|((with_reducible refine qa9 36 ?_);refine stk1 hX qn1 (Ma.set_s (A:=A) hA _) (by rw [Ma.clen (A:=A) hA];decide) rfl ?_;intro wS hY hkS;replace ql:=qac hX ql (by decide) hkS;replace qs:=qac hX qs (by decide) hkS;replace hX:=hY;clear hY hkS)|((with_reducible refine qay 26 ?_);refine ldc (hk:=getM_d hA) hX qap ?_)|(go_at_call 80;(with_reducible refine (hcd _ hX.below).mono ?_);rintro e' wc ⟨nd,rfl,qd,hbb⟩;replace qd:=qaz qd (show w.heap.size+2≤_ from by have h1:=qat hX;have h2:=qat hX.swap;omega);replace ql:=qag ql hbb;replace qs:=qag qs hbb;replace hX:=hX.step hbb;obtain ⟨Ad,cd,rfl,_,_⟩:=Rw.of_own qd;clear hbb)|((with_reducible refine qa9 26 ?_);refine stk1 hX qc0 (Ma.set_d (A:=A) hA _) (by rw [Ma.clen (A:=A) hA];decide) rfl ?_;intro wS hY hkS;replace ql:=qac hX ql (by decide) hkS;replace qs:=qac hX qs (by decide) hkS;replace qd:=qac hX qd (by decide) hkS;replace hX:=hY;clear hY hkS)|((with_reducible refine qay 36 ?_);refine ldc (hk:=getM_t hA) hX qau ?_)|(go_at_call 124;(with_reducible refine (hct _ hX.below).mono ?_);rintro e' wc ⟨nt,rfl,qt,hbb⟩;replace qt:=qaz qt (show w.heap.size+2≤_ from by have h1:=qat hX;have h2:=qat hX.swap;omega);replace ql:=qag ql hbb;replace qs:=qag qs hbb;replace qd:=qag qd hbb;replace hX:=hX.step hbb;obtain ⟨At,ct,rfl,_,_⟩:=Rw.of_own qt;clear hbb)|((with_reducible refine qa9 36 ?_);refine stk1 hX qn1 (Ma.set_t (A:=A) hA _) (by rw [Ma.clen (A:=A) hA];decide) rfl ?_;intro wS hY hkS;replace ql:=qac hX ql (by decide) hkS;replace qs:=qac hX qs (by decide) hkS;replace qd:=qac hX qd (by decide) hkS;replace qt:=qac hX qt (by decide) hkS;replace hX:=hY;clear hY hkS)|((with_reducible refine qay 44 ?_);refine ldw (hn:=Ma.clen hA) hX aggM sizM ?_)|((with_reducible refine qa9 44 ?_);refine stw2 hX aggM sizM (Ma.cone hA o1 o2 rfl rfl rfl rfl) (hn:=Ma.clen hA) (hc:=qcr) ?_;intro wS hY hkS;replace ql:=qac hX.swap ql (by decide) hkS;replace qs:=qac hX.swap qs (by decide) hkS;replace qd:=qac hX.swap qd (by decide) hkS;replace qt:=qac hX.swap qt (by decide) hkS;replace hX:=hY;clear hY hkS))
 exact bodyPost_ret (qaj (by rfl) rfl ((hX.all _ _ _ (.tail _ (.head _))).loadVar (Ma.clen hA) aggM sizM)) rfl ⟨_,_,_,_,rfl,⟨ql,qs,qd,qt⟩,hX.below⟩
theorem FrD.base {N N':Nat} {w:World} {A:Ma} {vl vs vd vt:Value} (h:FrD N w A vl vs vd vt) (hN:N'≤N):FrD N' w A vl vs vd vt:=⟨qaz h.l hN,qaz h.s hN,qaz h.d hN,qaz h.t hN⟩
theorem FrD.over {l:List (Nat×TypeId×List Value)} {w0 w w':World} {B N:Nat} {cs:List Value} {A:Ma} {vl vs vd vt:Value} (h:FrD N w A vl vs vd vt) (hX:Bag ((B,44,cs) :: l) w0 w) (hk:∀ k,k≠B→w'.heap[k]? = w.heap[k]?):FrD N w' A vl vs vd vt:=⟨qac hX h.l (by decide) hk,qac hX h.s (by decide) hk,qac hX h.d (by decide) hk,qac hX h.t (by decide) hk⟩
def Ma.fewM (A:Ma):Prop:=A.fewD∧A.M.length≤1099511627776∧A.B.length≤1099511627776
theorem qhd (A:Ma) (hA:A.ok) (hF:A.fewM) (vm vb vl vs vd vt:Value) (w:World) (hN:MaNow w A vm vb vl vs vd vt):Calls Tryz.prog 36 #[.agg (A.cells vm vb vl vs vd vt).toArray] w fun e' w'=>∃ um ub ul us ud ut,e'=.returned (.agg (A.cells um ub ul us ud ut).toArray)∧w'.ownsRow (w.heap.size+2) 3 1 um A.M.length (A.M.map (Value.int .i64))∧w'.ownsRow (w.heap.size+2) 3 1 ub A.B.length (A.B.map (Value.int .i64))∧FrD (w.heap.size+2) w' A ul us ud ut∧Below w.heap.size w w':=by
 have hL:=Ma.len hA vs vd vt
 have hX:=qhw w (A.cells vm vb vl vs vd vt)
 replace hX:=hX.swap
 obtain ⟨f1,f2,f3⟩:=hF
 have hcm:=fun (wz:World) (hb:Below w.heap.size w wz)=>qco A.M vm wz f2 (Rz.below hN.m hb)
 have hcb:=fun (wz:World) (hb:Below w.heap.size w wz)=>qco A.B vb wz f3 (Rz.below hN.b hb)
 have hco:=fun (wz:World) (xm xb:Value) (o1:xm.oneCell'=true) (o2:xb.oneCell'=true) (hb:Below w.heap.size w wz)=>qn3 A hA f1 xm xb vl vs vd vt o1 o2 wz (Rz.below hN.l hb) (Rz.below hN.s hb) (Rz.below hN.d hb) (Rz.below hN.t hb)
 clear hN
 go_enter Tryz.func36,Tryz.ntmps36
 go_upto_region 1 with (first|((with_reducible refine qbs ?_);refine qba rfl rfl ?_))
 generalize ((w.alloc (Obj.cells (A.cells vm vb vl vs vd vt).toArray 44)).alloc (Obj.cells mzL.toArray 44))=wQ at hX ⊢
 go_wp2_with (first|((with_reducible refine qay 26 ?_);refine ldc (hk:=qcx (Ma.len hA _ _ _)) hX qap ?_)|(go_at_call 80;(with_reducible refine (hcm _ hX.below).mono ?_);rintro e' wc ⟨nm,rfl,qm,hbb⟩;replace qm:=qaz qm (show w.heap.size+2≤_ from by have h1:=qat hX;have h2:=qat hX.swap;omega);replace hX:=hX.step hbb;obtain ⟨Am,cm,rfl,_,_⟩:=Rw.of_own qm;clear hbb)|((with_reducible refine qa9 26 ?_);refine stk1 hX qc0 (Ma.set_m (A:=A) hA A.M _) (by rw [Ma.clen (A:=A) hA];decide) rfl ?_;intro wS hY hkS;replace qm:=qac hX qm (by decide) hkS;replace hX:=hY;clear hY hkS)|((with_reducible refine qay 26 ?_);refine ldc (hk:=qcy (Ma.len hA _ _ _)) hX qap ?_)|(go_at_call 80;(with_reducible refine (hcb _ hX.below).mono ?_);rintro e' wc ⟨nb,rfl,qb,hbb⟩;replace qb:=qaz qb (show w.heap.size+2≤_ from by have h1:=qat hX;have h2:=qat hX.swap;omega);replace qm:=qag qm hbb;replace hX:=hX.step hbb;obtain ⟨Ab,cb,rfl,_,_⟩:=Rw.of_own qb;clear hbb)|((with_reducible refine qa9 26 ?_);refine stk1 hX qc0 (Ma.set_b (A:=A) hA A.B _) (by rw [Ma.clen (A:=A) hA];decide) rfl ?_;intro wS hY hkS;replace qm:=qac hX qm (by decide) hkS;replace qb:=qac hX qb (by decide) hkS;replace hX:=hY;clear hY hkS)|(go_at_call 81;(with_reducible refine (hco _ _ _ rfl rfl hX.below).mono ?_);rintro e' wc ⟨ul,us,ud,ut,rfl,hF,hbb⟩;replace hF:=hF.base (show w.heap.size+2≤_ from by have h1:=qat hX;have h2:=qat hX.swap;omega);replace qm:=qag qm hbb;replace qb:=qag qb hbb;replace hX:=hX.step hbb;have p3:=(Ma.own18 hF.l).1;have p4:=(Ma.own18 hF.s).1;have p5:=(Ma.own18 hF.d).1;have p6:=(Ma.own18 hF.t).1;clear hbb)|((with_reducible refine qay 44 ?_);refine ldw (hn:=Ma.clen hA) hX aggM sizM ?_)|((with_reducible refine qa9 44 ?_);refine stw2 hX aggM sizM (Ma.cone hA rfl rfl p3 p4 p5 p6) (hn:=Ma.clen hA) (hc:=qcr) ?_;intro wS hY hkS;replace qm:=qac hX.swap qm (by decide) hkS;replace qb:=qac hX.swap qb (by decide) hkS;replace hF:=hF.over hX.swap hkS;replace hX:=hY;clear hY hkS))
 exact bodyPost_ret (qaj (by rfl) rfl ((hX.all _ _ _ (.tail _ (.head _))).loadVar (Ma.clen hA) aggM sizM)) rfl ⟨_,_,_,_,_,_,rfl,qm,qb,hF,hX.below⟩
theorem qef (n:Int) (w:World):Calls Tryz.prog 29 #[.int .i64 n] w fun e' w'=>e'=.returned (.func (.func 75) #[] #[.pointer (some ⟨w.heap.size,0,none⟩)])∧w'=w.alloc (.cells #[.int .i64 n] 3):=by
 go_enter Tryz.func29,Tryz.ntmps29
 go_wp2
 go_ret
 exact ⟨rfl,rfl⟩
theorem pright_0 (e r:Bool) (p l:Int)  (c0:¬ 1≤p) (w:World):Calls Tryz.prog 190 #[.agg #[.bool e,.bool r,.int .i64 p,.int .i64 l]] w fun e' w'=>e'=.returned (.bool false)∧Below w.heap.size w w':=by
 have d0:decide (1≤p)=false:=decide_eq_false c0
 go_enter Tryz.func190,Tryz.ntmps190
 go_wp2
 go_ret
 exact ⟨rfl,((Bag.nil w).new 34 _).below⟩
theorem pright_1 (e r:Bool) (p l:Int) (c0:1≤p) (c1:¬ p≤65535) (w:World):Calls Tryz.prog 190 #[.agg #[.bool e,.bool r,.int .i64 p,.int .i64 l]] w fun e' w'=>e'=.returned (.bool false)∧Below w.heap.size w w':=by
 have d0:decide (1≤p)=true:=decide_eq_true c0
 have d1:decide (p≤65535)=false:=decide_eq_false c1
 go_enter Tryz.func190,Tryz.ntmps190
 go_wp2
 go_ret
 exact ⟨rfl,((Bag.nil w).new 34 _).below⟩
theorem pright_2 (e r:Bool) (p l:Int) (c0:1≤p) (c1:p≤65535) (c2:¬ 1≤l) (w:World):Calls Tryz.prog 190 #[.agg #[.bool e,.bool r,.int .i64 p,.int .i64 l]] w fun e' w'=>e'=.returned (.bool false)∧Below w.heap.size w w':=by
 have d0:decide (1≤p)=true:=decide_eq_true c0
 have d1:decide (p≤65535)=true:=decide_eq_true c1
 have d2:decide (1≤l)=false:=decide_eq_false c2
 go_enter Tryz.func190,Tryz.ntmps190
 go_wp2
 go_ret
 exact ⟨rfl,((Bag.nil w).new 34 _).below⟩
theorem pright_3 (e r:Bool) (p l:Int) (c0:1≤p) (c1:p≤65535) (c2:1≤l) (c3:¬ l≤p) (w:World):Calls Tryz.prog 190 #[.agg #[.bool e,.bool r,.int .i64 p,.int .i64 l]] w fun e' w'=>e'=.returned (.bool false)∧Below w.heap.size w w':=by
 have d0:decide (1≤p)=true:=decide_eq_true c0
 have d1:decide (p≤65535)=true:=decide_eq_true c1
 have d2:decide (1≤l)=true:=decide_eq_true c2
 have d3:decide (l≤p)=false:=decide_eq_false c3
 go_enter Tryz.func190,Tryz.ntmps190
 go_wp2
 go_ret
 exact ⟨rfl,((Bag.nil w).new 34 _).below⟩
theorem pright_4 (e r:Bool) (p l:Int) (c0:1≤p) (c1:p≤65535) (c2:1≤l) (c3:l≤p) (w:World):Calls Tryz.prog 190 #[.agg #[.bool e,.bool r,.int .i64 p,.int .i64 l]] w fun e' w'=>e'=.returned (.bool true)∧Below w.heap.size w w':=by
 have d0:decide (1≤p)=true:=decide_eq_true c0
 have d1:decide (p≤65535)=true:=decide_eq_true c1
 have d2:decide (1≤l)=true:=decide_eq_true c2
 have d3:decide (l≤p)=true:=decide_eq_true c3
 go_enter Tryz.func190,Tryz.ntmps190
 go_wp2
 go_ret
 exact ⟨rfl,((Bag.nil w).new 34 _).below⟩
theorem qjy (c:Ck) (w:World):Calls Tryz.prog 190 #[.agg #[.bool c.e,.bool c.r,.int .i64 c.p,.int .i64 c.l]] w fun e' w'=>e'=.returned (.bool c.right)∧Below w.heap.size w w':=by
 obtain ⟨e,r,p,l⟩:=c
 unfold Ck.right
 by_cases c0:¬ 1≤p
 ·have:=pright_0 e r p l c0 w
  simpa [c0] using this
 replace c0:1≤p:=by omega
 by_cases c1:¬ p≤65535
 ·have:=pright_1 e r p l c0 c1 w
  simpa [c0,c1] using this
 replace c1:p≤65535:=by omega
 by_cases c2:¬ 1≤l
 ·have:=pright_2 e r p l c0 c1 c2 w
  simpa [c0,c1,c2] using this
 replace c2:1≤l:=by omega
 by_cases c3:¬ l≤p
 ·have:=pright_3 e r p l c0 c1 c2 c3 w
  simpa [c0,c1,c2,c3] using this
 replace c3:l≤p:=by omega
 have:=pright_4 e r p l c0 c1 c2 c3 w
 simpa [c0,c1,c2,c3] using this
theorem ptick_1 (e r:Bool) (p:Int) (w:World):Calls Tryz.prog 191 #[.agg #[.bool e,.bool r,.int .i64 p,.int .i64 1]] w fun e' w'=>e'=.returned (.agg #[.bool e,.bool true,.int .i64 p,.int .i64 p])∧Below w.heap.size w w':=by
 go_enter Tryz.func191,Tryz.ntmps191
 go_wp2
 exact bodyPost_ret (qaj Tryz.results191 rfl (((qde w _ _).all _ _ _ List.mem_cons_self).loadVar rfl qbv qbx)) rfl ⟨rfl,(qde w _ _).below⟩
theorem ptick_n (e r:Bool) (p l:Int) (h:1≤l∧l≤65535) (hne:¬ l=1) (w:World):Calls Tryz.prog 191 #[.agg #[.bool e,.bool r,.int .i64 p,.int .i64 l]] w fun e' w'=>e'=.returned (.agg #[.bool e,.bool r,.int .i64 p,.int .i64 (l - 1)])∧Below w.heap.size w w':=by
 have hw:wrap64 (l - 1)=l - 1:=by unfold wrap64;omega
 have hz:(l - 1 == 0)=false:=by simp;omega
 go_enter Tryz.func191,Tryz.ntmps191
 go_wp2
 exact bodyPost_ret (qaj Tryz.results191 rfl (((qde w _ _).all _ _ _ List.mem_cons_self).loadVar rfl qbv qbx)) rfl ⟨rfl,(qde w _ _).below⟩
theorem qr7 (c:Ck) (h:c.right=true) (w:World):Calls Tryz.prog 191 #[.agg #[.bool c.e,.bool c.r,.int .i64 c.p,.int .i64 c.l]] w fun e' w'=>e'=.returned (.agg #[.bool (c.tick).e,.bool (c.tick).r,.int .i64 (c.tick).p,.int .i64 (c.tick).l])∧Below w.heap.size w w':=by
 have h':=(Ck.right_iff c).1 h
 obtain ⟨e,r,p,l⟩:=c
 unfold Ck.tick
 simp only at h' ⊢
 by_cases hl:l=1
 ·subst hl
  exact ptick_1 e r p w
 ·rw [if_neg hl]
  exact ptick_n e r p l (by omega) hl w
theorem ql1 (c:Ck) (w:World):Calls Tryz.prog 187 #[.agg #[.bool c.e,.bool c.r,.int .i64 c.p,.int .i64 c.l]] w fun e' w'=>e'=.returned (.int .i64 c.read)∧Below w.heap.size w w':=by
 obtain ⟨e,r,p,l⟩:=c
 have o1:bits .or .i64 0 64=64:=by decide
 have o2:bits .or .i64 0 128=128:=by decide
 have o3:bits .or .i64 64 128=192:=by decide
 cases e<;>cases r
 ·have hX:=(Bag.nil w).new 34 [.bool false,.bool false,.int .i64 p,.int .i64 l]
  go_enter Tryz.func187,Tryz.ntmps187
  go_wp2
  go_ret
  exact ⟨rfl,hX.below⟩
 ·have hX:=(Bag.nil w).new 34 [.bool false,.bool true,.int .i64 p,.int .i64 l]
  go_enter Tryz.func187,Tryz.ntmps187
  go_wp2
  go_ret
  exact ⟨rfl,hX.below⟩
 ·have hX:=(Bag.nil w).new 34 [.bool true,.bool false,.int .i64 p,.int .i64 l]
  go_enter Tryz.func187,Tryz.ntmps187
  go_wp2
  go_ret
  exact ⟨rfl,hX.below⟩
 ·have hX:=(Bag.nil w).new 34 [.bool true,.bool true,.int .i64 p,.int .i64 l]
  go_enter Tryz.func187,Tryz.ntmps187
  go_wp2
  go_ret
  exact ⟨rfl,hX.below⟩
theorem qj3 (c:Ck) (v:Int) (w:World):Calls Tryz.prog 192 #[.agg #[.bool c.e,.bool c.r,.int .i64 c.p,.int .i64 c.l],.int .i64 v] w fun e' w'=>e'=.returned (.agg #[.bool (c.write v).e,.bool (c.write v).r,.int .i64 (c.write v).p,.int .i64 (c.write v).l])∧Below w.heap.size w w':=by
 obtain ⟨e,r,p,l⟩:=c
 obtain ⟨h1,h2⟩:=and_bits v
 simp only [Ck.write]
 generalize decide (v / 64%2=1)=b1 at *
 generalize decide (v / 128%2=1)=b2 at *
 cases r
 ·go_enter Tryz.func192,Tryz.ntmps192
  go_wp2
  exact bodyPost_ret (qaj Tryz.results192 rfl (((qde w _ _).all _ _ _ List.mem_cons_self).loadVar rfl qbv qbx)) rfl ⟨rfl,(qde w _ _).below⟩
 ·go_enter Tryz.func192,Tryz.ntmps192
  go_wp2
  exact bodyPost_ret (qaj Tryz.results192 rfl (((qde w _ _).all _ _ _ List.mem_cons_self).loadVar rfl qbv qbx)) rfl ⟨rfl,(qde w _ _).below⟩
end Go.Proofs.YthpnddgfgpacpaaGreat
