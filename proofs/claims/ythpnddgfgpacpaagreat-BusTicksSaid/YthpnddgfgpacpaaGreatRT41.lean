import Derived.Test.YthpnddgfgpacpaaGreatRT40
import Derived.Test.YthpnddgfgpacpaaGreatRT31
import Derived.Test.YthpnddgfgpacpaaGreatRT32
namespace Go.Proofs.YthpnddgfgpacpaaGreat
open Go.RowKit Go.Shelf
set_option linter.unusedSimpArgs false
set_option linter.unusedVariables false
set_option maxHeartbeats 4000000
set_option maxRecDepth 100000
attribute [local irreducible] wpQuiet
attribute [local go_sem] Oper.semAt_some
theorem qmi (A:Ma) (hA:A.ok) (hF:A.few) (vm vb vl vs vd vt:Value) (w:World) (hN:MaNow w A vm vb vl vs vd vt):Calls Tryz.prog 11 #[.agg (A.cells vm vb vl vs vd vt).toArray] w fun e' w'=>e'=.returned (.bool A.right)∧Below w.heap.size w w':=by
 have hX:=qff w 44 4 (A.cells vm vb vl vs vd vt) [.bool false]
 obtain ⟨aL,cL,rfl,hcl,_⟩:=qe4 hN.l
 have hmr:=fun (wz:World) (hb:Below w.heap.size w wz)=>quh vm vb A.M A.B hF.1 hF.2.1 wz (Its.nums18 (Rz.below hN.m hb)) (Its.nums18 (Rz.below hN.b hb))
 by_cases h4:4<A.L.length
 ·have hr:A.right=false:=by unfold Ma.right;rw [decide_eq_false (by omega:¬ A.L.length≤4)];rfl
  have d4:decide (4<(A.L.length:Int))=true:=decide_eq_true (by omega)
  have d5:(4:Int)<(A.L.length:Int):=by omega
  rw [hr]
  clear hr hmr
  refine (callsIn_wide (n:=5)).1 ?_
  refine callsIn_of_wp_marks Tryz.func11 rfl trivial ?_ rfl
  refine wpIn_wide.2 ?_
  simp only [Tryz.ntmps11,List.size_toArray,List.length_cons,List.length_nil,Nat.reduceAdd,Nat.reduceSub,Array.replicate_succ,Array.replicate_zero,List.push_toArray,List.append_toArray,List.nil_append,List.cons_append]
  go_upto_region 1 with fail
  generalize ((w.alloc (Obj.cells (A.cells vm vb (.slice aL A.L.length cL) vs vd vt).toArray 44)).alloc (Obj.cells #[.bool false] 4))=wS at hX ⊢
  have hX2:=hX.swap
  go_wp2_with (first|((with_reducible refine qay 35 ?_);refine ldc (hk:=qcg (Ma.len hA _ _ _)) hX2 qax ?_)|((with_reducible refine qay 26 ?_);refine ldc (hk:=qcx (Ma.len hA _ _ _)) hX2 qap ?_)|((with_reducible refine qay 26 ?_);refine ldc (hk:=qcy (Ma.len hA _ _ _)) hX2 qap ?_)|(go_at_call 28;(with_reducible refine (hmr _ hX2.below).mono ?_);rintro e' wm ⟨rfl,rfl⟩)|((with_reducible refine qa9 4 ?_);refine stk1 (k:=0) (cs':=[.bool false]) hX2.swap qbo rfl (by simp) rfl ?_;intro wT hY hkT))
  exact ⟨_,qaj (by rfl) rfl ((hY.all _ _ _ (.head _)).loadVarC (k:=0) rfl qbl),rfl,hY.below⟩
 have d4:decide (4<(A.L.length:Int))=false:=decide_eq_false (by omega)
 have d5:¬ (4:Int)<(A.L.length:Int):=by omega
 cases hm:rightP A.M A.B
 ·have hr:A.right=false:=by unfold Ma.right;rw [hm];simp
  rw [hm] at hmr
  rw [hr]
  clear hr hm
  refine (callsIn_wide (n:=5)).1 ?_
  refine callsIn_of_wp_marks Tryz.func11 rfl trivial ?_ rfl
  refine wpIn_wide.2 ?_
  simp only [Tryz.ntmps11,List.size_toArray,List.length_cons,List.length_nil,Nat.reduceAdd,Nat.reduceSub,Array.replicate_succ,Array.replicate_zero,List.push_toArray,List.append_toArray,List.nil_append,List.cons_append]
  go_upto_region 1 with fail
  generalize ((w.alloc (Obj.cells (A.cells vm vb (.slice aL A.L.length cL) vs vd vt).toArray 44)).alloc (Obj.cells #[.bool false] 4))=wS at hX ⊢
  have hX2:=hX.swap
  go_wp2_with (first|((with_reducible refine qay 35 ?_);refine ldc (hk:=qcg (Ma.len hA _ _ _)) hX2 qax ?_)|((with_reducible refine qay 26 ?_);refine ldc (hk:=qcx (Ma.len hA _ _ _)) hX2 qap ?_)|((with_reducible refine qay 26 ?_);refine ldc (hk:=qcy (Ma.len hA _ _ _)) hX2 qap ?_)|(go_at_call 28;(with_reducible refine (hmr _ hX2.below).mono ?_);rintro e' wm ⟨rfl,rfl⟩)|((with_reducible refine qa9 4 ?_);refine stk1 (k:=0) (cs':=[.bool false]) hX2.swap qbo rfl (by simp) rfl ?_;intro wT hY hkT))
  exact ⟨_,qaj (by rfl) rfl ((hY.all _ _ _ (.head _)).loadVarC (k:=0) rfl qbl),rfl,hY.below⟩
 rw [hm] at hmr
 refine (callsIn_wide (n:=5)).1 ?_
 refine callsIn_of_wp_marks Tryz.func11 rfl trivial ?_ rfl
 refine wpIn_wide.2 ?_
 simp only [Tryz.ntmps11,List.size_toArray,List.length_cons,List.length_nil,Nat.reduceAdd,Nat.reduceSub,Array.replicate_succ,Array.replicate_zero,List.push_toArray,List.append_toArray,List.nil_append,List.cons_append]
 go_upto_region 1 with fail
 generalize ((w.alloc (Obj.cells (A.cells vm vb (.slice aL A.L.length cL) vs vd vt).toArray 44)).alloc (Obj.cells #[.bool false] 4))=wS at hX ⊢
 have hX2:=hX.swap
 go_wp2_with (first|((with_reducible refine qay 35 ?_);refine ldc (hk:=qcg (Ma.len hA _ _ _)) hX2 qax ?_)|((with_reducible refine qay 26 ?_);refine ldc (hk:=qcx (Ma.len hA _ _ _)) hX2 qap ?_)|((with_reducible refine qay 26 ?_);refine ldc (hk:=qcy (Ma.len hA _ _ _)) hX2 qap ?_)|(go_at_call 28;(with_reducible refine (hmr _ hX2.below).mono ?_);rintro e' wm ⟨rfl,rfl⟩)|(go_at_call 29;(with_reducible refine (qef _ _).mono ?_);rintro e' wd ⟨rfl,rfl⟩))
 clear hX2 hmr d4 d5
 have hNs:w.heap.size+2≤wS.heap.size:=by have h1:=qat hX;have h2:=qat hX.swap;omega
 have hall:=qtf A (by omega) hm
 obtain ⟨n,hn⟩:∃ n,A.L.length=n:=⟨_,rfl⟩
 rw [hn] at h4 hN hX hall ⊢
 have hAl:=(Below.refl wS.heap.size wS).alloc (Nat.le_refl _) (.cells #[.int .i64 n] 3)
 have hc0:(wS.alloc (.cells #[.int .i64 n] 3)).cell? ⟨wS.heap.size,0,none⟩=some (.int .i64 n):=(Blk.new 3 wS [.int .i64 n]).cell (k:=0) rfl
 have hlt0:wS.heap.size<(wS.alloc (.cells #[.int .i64 n] 3)).heap.size:=by simp
 refine (wpIn_wide (n:=5)).1 ?_
 refine wpIn_rangeFunc_ownG (F:=Fence.wide) (n:=5) rfl (by omega) (gf:=75) (lb:=#[.pointer (some ⟨wS.heap.size,0,none⟩)]) rfl trivial (enters_of Tryz.func75 (by kernel_rfl) rfl) (qea 4 (by omega) wS.heap.size n (by omega) _ hc0 hlt0) (fun h k=>KpB.trans h k) (qgi hlt0) (Below.refl _ _) (fun _=>rfl)
  (fun (pre:List (Fin (n+4))) W=>(∀ x∈pre,A.dRight (Fin.val x)=true)∧Bag [(w.heap.size+1,4,[.bool false]),(w.heap.size,44,A.cells vm vb (.slice aL n cL) vs vd vt)] w W∧(wS.alloc (.cells #[.int .i64 n] 3)).heap.size≤W.heap.size) (fun (c:Code) (pre:List (Fin (n+4))) W=>c=.ret∧(∃ x∈pre,A.dRight (Fin.val x)=false)∧Bag [(w.heap.size+1,4,[.bool false]),(w.heap.size,44,A.cells vm vb (.slice aL n cL) vs vd vt)] w W) (fun s W W' row hs hg hr=>⟨hs.1,hs.2.1.grown hg (fun r e=>⟨by have:=(hr r e).1;simp at this;omega,(hr r e).2⟩),Nat.le_trans hs.2.2 hg.size⟩) (fun c s W W' row hs hg hr=>⟨hs.1,hs.2.1,hs.2.2.grown hg (fun r e=>⟨by have:=(hr r e).1;simp at this;omega,(hr r e).2⟩)⟩) ⟨fun x hx=>(by cases hx),hX.step hAl,Nat.le_refl _⟩
  (fun x=>{tmps:=#[Value.agg (A.cells vm vb (.slice aL n cL) vs vd vt).toArray,Value.pointer (some {block:=w.heap.size,off:=0}),Value.pointer (some {block:=w.heap.size+1,off:=0}),undef,devV x.val,Value.pointer (some {block:=w.heap.size,off:=83}),Value.slice aL n cL,Value.int IntKind.i64 ↑n,.bool false,.bool false,Value.pointer (some {block:=w.heap.size,off:=10}),vm,Value.pointer (some {block:=w.heap.size,off:=11}),vb,.bool true,.bool false,.bool false,Value.pointer (some {block:=w.heap.size,off:=83}),Value.slice aL n cL,Value.int IntKind.i64 ↑n,Value.func (Fn.func 75) #[] #[Value.pointer (some {block:=wS.heap.size,off:=0})],.int .i64 (devB x.val),devV x.val,undef,undef,undef],defers:=[]}) ?assign ?body ?done ?stop
 case assign =>
  intro l x W K hK
  dsimp only [encD]
  gi_wp2
  exact hK
 case body =>
  rintro l pre x W ⟨hpr,hX,hW⟩ _
  have hgo:∀ (a':Act) (W':World),Below W.heap.size W W'→A.dRight x.val=true→ownPostG (wS.alloc (.cells #[.int .i64 n] 3)).heap.size (KpB wS.heap.size) (fun (pre:List (Fin (n+4))) W=>(∀ x∈pre,A.dRight (Fin.val x)=true)∧Bag [(w.heap.size+1,4,[.bool false]),(w.heap.size,44,A.cells vm vb (.slice aL n cL) vs vd vt)] w W∧(wS.alloc (.cells #[.int .i64 n] 3)).heap.size≤W.heap.size) (fun (c:Code) (pre:List (Fin (n+4))) W=>c=.ret∧(∃ x∈pre,A.dRight (Fin.val x)=false)∧Bag [(w.heap.size+1,4,[.bool false]),(w.heap.size,44,A.cells vm vb (.slice aL n cL) vs vd vt)] w W) (pre++[x]) W .normal a' W':=fun a' W' hb hx=>by
   refine ⟨(KeepsFrom.of_grownBy (row:=none) ?_ (fun j e=>by cases e)),hb.block _ (Nat.lt_of_lt_of_le hlt0 hW),fun y hy=>?_,hX.step hb,Nat.le_trans hW hb.size⟩
   ·exact ⟨hb.os,hb.tape,hb.output,hb.size,fun k hk _=>hb.block k hk⟩
   ·rcases List.mem_append.1 hy with hy|hy
    ·exact hpr y hy
    ·rw [List.mem_singleton.1 hy];exact hx
  have hret:∀ (a':Act) (W':World),Below W.heap.size W W'→A.dRight x.val=false→ownPostG (wS.alloc (.cells #[.int .i64 n] 3)).heap.size (KpB wS.heap.size) (fun (pre:List (Fin (n+4))) W=>(∀ x∈pre,A.dRight (Fin.val x)=true)∧Bag [(w.heap.size+1,4,[.bool false]),(w.heap.size,44,A.cells vm vb (.slice aL n cL) vs vd vt)] w W∧(wS.alloc (.cells #[.int .i64 n] 3)).heap.size≤W.heap.size) (fun (c:Code) (pre:List (Fin (n+4))) W=>c=.ret∧(∃ x∈pre,A.dRight (Fin.val x)=false)∧Bag [(w.heap.size+1,4,[.bool false]),(w.heap.size,44,A.cells vm vb (.slice aL n cL) vs vd vt)] w W) (pre++[x]) W .ret a' (W'.setCell ⟨w.heap.size+1,0,none⟩ (.bool false)):=fun a' W' hb hx=>by
   refine ⟨⟨by rw [show (W'.setCell ⟨w.heap.size+1,0,none⟩ (.bool false)).heap.size=W'.heap.size from by simp [World.setCell]];exact hb.size,fun k o hB hk hc=>?_⟩,rfl,⟨x,by simp,hx⟩,(hX.step hb).set 0 (.bool false)⟩
   rw [Below.heap_setCell _ _ _ _ (by simp at hB;show k≠w.heap.size+1;omega)]
   exact (hb.block k (Array.getElem?_eq_some_iff.1 hk).1).trans hk
  generalize (ownPostG _ _ _ _ (pre++[x]) W)=PQ at hgo hret ⊢
  obtain ⟨q,hq⟩:=x
  have hq5:q=0∨q=1∨q=2∨q=3∨∃ k,q=k+4:=by
   rcases Nat.lt_or_ge q 4 with h|h
   ·omega
   ·exact .inr (.inr (.inr (.inr ⟨q - 4,by omega⟩)))
  dsimp only at hgo hret
  rcases hq5 with rfl|rfl|rfl|rfl|⟨k,rfl⟩
  ·have hc:Calls Tryz.prog 163 #[(.agg #[]),.pointer (some ⟨w.heap.size,0,none⟩)] W fun e' w'=>e'=.returned (.bool (A.dRight 0))∧Below W.heap.size W w':=qpe A hA hF vm vb (.slice aL n cL) vs vd vt w W w.heap.size hX.drop1 (hN.step hX.below)
   have hm:∀ (m:Nat) (w:World),(method (m+1) 133 (.agg #[]) "emulator/bus.right").run Tryz.prog w=.ok (163,(.agg #[])) w:=fun _ _=>by kernel_rfl
   dsimp only [devV,devB]
   cases hb:A.dRight 0
   ·rw [hb] at hc
    gi_wp2_with (refine ⟨trivial,?_⟩;gi_at_call 163;refine (CallsIn.inRound l (callsIn_wide.2 hc)).mono ?_;rintro e wr ⟨rfl,hbb⟩;have hXr:=hX.step hbb;have hcr:=(hXr.all _ _ _ (.head _)).cell (k:=0) rfl;have hfr:=Blk.frozen (hXr.all _ _ _ (.head _)) 0)
    exact hret _ _ hbb hb
   ·rw [hb] at hc
    gi_wp2_with (refine ⟨trivial,?_⟩;gi_at_call 163;refine (CallsIn.inRound l (callsIn_wide.2 hc)).mono ?_;rintro e wr ⟨rfl,hbb⟩)
    exact hgo _ _ hbb hb
  ·have hc:Calls Tryz.prog 183 #[(.agg #[]),.pointer (some ⟨w.heap.size,0,none⟩)] W fun e' w'=>e'=.returned (.bool (A.dRight 1))∧Below W.heap.size W w':=qqj A hA hF vm vb (.slice aL n cL) vs vd vt w W w.heap.size hX.drop1 (hN.step hX.below)
   have hm:∀ (m:Nat) (w:World),(method (m+1) 134 (.agg #[]) "emulator/bus.right").run Tryz.prog w=.ok (183,(.agg #[])) w:=fun _ _=>by kernel_rfl
   dsimp only [devV,devB]
   cases hb:A.dRight 1
   ·rw [hb] at hc
    gi_wp2_with (refine ⟨trivial,?_⟩;gi_at_call 183;refine (CallsIn.inRound l (callsIn_wide.2 hc)).mono ?_;rintro e wr ⟨rfl,hbb⟩;have hXr:=hX.step hbb;have hcr:=(hXr.all _ _ _ (.head _)).cell (k:=0) rfl;have hfr:=Blk.frozen (hXr.all _ _ _ (.head _)) 0)
    exact hret _ _ hbb hb
   ·rw [hb] at hc
    gi_wp2_with (refine ⟨trivial,?_⟩;gi_at_call 183;refine (CallsIn.inRound l (callsIn_wide.2 hc)).mono ?_;rintro e wr ⟨rfl,hbb⟩)
    exact hgo _ _ hbb hb
  ·have hc:Calls Tryz.prog 198 #[(.agg #[]),.pointer (some ⟨w.heap.size,0,none⟩)] W fun e' w'=>e'=.returned (.bool (A.dRight 2))∧Below W.heap.size W w':=qpf A hA hF vm vb (.slice aL n cL) vs vd vt w W w.heap.size hX.drop1 (hN.step hX.below)
   have hm:∀ (m:Nat) (w:World),(method (m+1) 135 (.agg #[]) "emulator/bus.right").run Tryz.prog w=.ok (198,(.agg #[])) w:=fun _ _=>by kernel_rfl
   dsimp only [devV,devB]
   cases hb:A.dRight 2
   ·rw [hb] at hc
    gi_wp2_with (refine ⟨trivial,?_⟩;gi_at_call 198;refine (CallsIn.inRound l (callsIn_wide.2 hc)).mono ?_;rintro e wr ⟨rfl,hbb⟩;have hXr:=hX.step hbb;have hcr:=(hXr.all _ _ _ (.head _)).cell (k:=0) rfl;have hfr:=Blk.frozen (hXr.all _ _ _ (.head _)) 0)
    exact hret _ _ hbb hb
   ·rw [hb] at hc
    gi_wp2_with (refine ⟨trivial,?_⟩;gi_at_call 198;refine (CallsIn.inRound l (callsIn_wide.2 hc)).mono ?_;rintro e wr ⟨rfl,hbb⟩)
    exact hgo _ _ hbb hb
  ·have hc:Calls Tryz.prog 236 #[(.agg #[]),.pointer (some ⟨w.heap.size,0,none⟩)] W fun e' w'=>e'=.returned (.bool (A.dRight 3))∧Below W.heap.size W w':=qph A hA hF vm vb (.slice aL n cL) vs vd vt w W w.heap.size hX.drop1 (hN.step hX.below)
   have hm:∀ (m:Nat) (w:World),(method (m+1) 136 (.agg #[]) "emulator/bus.right").run Tryz.prog w=.ok (236,(.agg #[])) w:=fun _ _=>by kernel_rfl
   dsimp only [devV,devB]
   cases hb:A.dRight 3
   ·rw [hb] at hc
    gi_wp2_with (refine ⟨trivial,?_⟩;gi_at_call 236;refine (CallsIn.inRound l (callsIn_wide.2 hc)).mono ?_;rintro e wr ⟨rfl,hbb⟩;have hXr:=hX.step hbb;have hcr:=(hXr.all _ _ _ (.head _)).cell (k:=0) rfl;have hfr:=Blk.frozen (hXr.all _ _ _ (.head _)) 0)
    exact hret _ _ hbb hb
   ·rw [hb] at hc
    gi_wp2_with (refine ⟨trivial,?_⟩;gi_at_call 236;refine (CallsIn.inRound l (callsIn_wide.2 hc)).mono ?_;rintro e wr ⟨rfl,hbb⟩)
    exact hgo _ _ hbb hb
  ·have hc:Calls Tryz.prog 269 #[(.int .i64 k),.pointer (some ⟨w.heap.size,0,none⟩)] W fun e' w'=>e'=.returned (.bool (A.dRight (k+4)))∧Below W.heap.size W w':=qqd A hA k (by omega) (by omega) vm vb (.slice aL n cL) vs vd vt w W w.heap.size hX.drop1 (hN.step hX.below).l
   have hm:∀ (m:Nat) (w:World),(method (m+1) 137 (.int .i64 k) "emulator/bus.right").run Tryz.prog w=.ok (269,(.int .i64 k)) w:=fun _ _=>by kernel_rfl
   dsimp only [devV,devB]
   cases hb:A.dRight (k+4)
   ·rw [hb] at hc
    gi_wp2_with (refine ⟨trivial,?_⟩;gi_at_call 269;refine (CallsIn.inRound l (callsIn_wide.2 hc)).mono ?_;rintro e wr ⟨rfl,hbb⟩;have hXr:=hX.step hbb;have hcr:=(hXr.all _ _ _ (.head _)).cell (k:=0) rfl;have hfr:=Blk.frozen (hXr.all _ _ _ (.head _)) 0)
    exact hret _ _ hbb hb
   ·rw [hb] at hc
    gi_wp2_with (refine ⟨trivial,?_⟩;gi_at_call 269;refine (CallsIn.inRound l (callsIn_wide.2 hc)).mono ?_;rintro e wr ⟨rfl,hbb⟩)
    exact hgo _ _ hbb hb
 case done =>
  rintro D xs W hD hSD ⟨hpr,hX,hW⟩ hKd
  have hr:A.right=true:=hall.2 fun k hk=>by
   have h1:k∈xs.map Fin.val:=by rw [show xs.map Fin.val=List.range (n+4) from hSD];exact List.mem_range.2 hk
   obtain ⟨x,hx,rfl⟩:=List.mem_map.1 h1
   exact hpr x hx
  have hD':wS.heap.size+1≤D:=by simpa using hD
  have hX2:=hX.swap
  go_wp2_with (first|((with_reducible refine qa9 4 ?_);refine stk1 (k:=0) (cs':=[.bool true]) hX2.swap qbo rfl (by simp) rfl ?_;intro wT hY hkT))
  replace hKd:=(hkT D (by omega)).trans hKd
  refine ⟨by simp,.inl ⟨_,_,rfl,run_takeDeferred hKd,?_⟩⟩
  have hgr:=grownBy_putObj' wT D (.deferred none)
  have hnc:∀ r,some D=some r→w.heap.size≤r∧NoCells wT r:=fun r e=>by cases e;exact ⟨by omega,_,hKd,rfl⟩
  have hX3:=hY.grown hgr hnc
  exact ⟨_,qaj (by rfl) rfl ((hX3.all _ _ _ (.head _)).loadVarC (k:=0) rfl qbl),by rw [hr],hX3.below⟩
 case stop =>
  rintro D c pre W hD _ ⟨rfl,⟨x,hx,hf⟩,hX⟩ hKd
  have hr:A.right=false:=by
   cases h:A.right
   ·rfl
   ·have:=hall.1 h x.val x.isLt
    rw [this] at hf;cases hf
  have hD':wS.heap.size+1≤D:=by simpa using hD
  gi_wp2
  refine ⟨by simp,.inl ⟨_,_,rfl,run_takeDeferred hKd,?_⟩⟩
  have hgr:=grownBy_putObj' W D (.deferred none)
  have hnc:∀ r,some D=some r→w.heap.size≤r∧NoCells W r:=fun r e=>by cases e;exact ⟨by omega,_,hKd,rfl⟩
  have hX3:=hX.grown hgr hnc
  exact ⟨_,qaj (by rfl) rfl ((hX3.all _ _ _ (.head _)).loadVarC (k:=0) rfl qbl),by rw [hr],hX3.below⟩
attribute [local go_sem] Oper.semAt_some
theorem qen (q:Int) (hq:0≤q) (w:World):Calls Tryz.prog 86 #[.int .i64 q] w fun e' w'=>e'=.returned (.bool (decide (q%2=1)))∧w=w':=by
 have t1:q.tmod 2=q%2:=Int.tmod_eq_emod_of_nonneg hq
 have w1:IntKind.i64.wrap (q%2)=q%2:=by rw [qaf];unfold wrap64;omega
 by_cases h:q%2=1
 ·have e:(q%2 != 0)=true:=by simp;omega
  rw [decide_eq_true h]
  clear h
  go_enter Tryz.func86,Tryz.ntmps86
  go_wp2
  go_ret
  exact ⟨rfl,rfl⟩
 ·have e:(q%2 != 0)=false:=by simp;omega
  rw [decide_eq_false h]
  clear h
  go_enter Tryz.func86,Tryz.ntmps86
  go_wp2
  go_ret
  exact ⟨rfl,rfl⟩
theorem shr8 (v:Int):v >>> (8:Nat)=v / 256:=by rw [Int.shiftRight_eq_div_pow];rfl
theorem qg8 (v q:Int) (hq:0≤q) (w:World):Calls Tryz.prog 87 #[.int .i64 v,.int .i64 q] w fun e' w'=>e'=.returned (.int .i64 (if q%2=1 then v / 256 else v%256))∧w=w':=by
 have ho:=qen q hq
 have a1:bits .and .i64 v 255=v%256:=qd1 (c:=255) (by decide) (qe7 _ 0 8) (by intro h;omega)
 have s1:=shr8 v
 by_cases h:q%2=1
 ·rw [decide_eq_true h] at ho
  rw [if_pos h]
  clear h
  go_enter Tryz.func87,Tryz.ntmps87
  go_wp2_with (first|(go_at_call 86;(with_reducible refine (ho _).mono ?_);rintro e' wc ⟨rfl,rfl⟩))
  go_ret
  exact ⟨rfl,rfl⟩
 ·rw [decide_eq_false h] at ho
  rw [if_neg h]
  clear h
  go_enter Tryz.func87,Tryz.ntmps87
  go_wp2_with (first|(go_at_call 86;(with_reducible refine (ho _).mono ?_);rintro e' wc ⟨rfl,rfl⟩))
  go_ret
  exact ⟨rfl,rfl⟩
section
variable {ops:Array Oper} {rest:List Oper} {o:Oper} {a:Act} {w w0 w1:World} {Q:Exit→Act→World→Prop} {l:List (Nat×TypeId×List Value)} {t T:TypeId} {x y:Operand} {z z0:Value}
theorem stn1 (hX:Bag l w0 w) (hsz:∀ w,(sizeOf T).run Tryz.prog w=.ok 1 w) (h:∀ w2,Bag ((w.heap.size,t,[z]) :: l) w0 w2→Below w.heap.size w w2→wpList Tryz.prog ops Q rest a w2) (hop:o.op=Op.store T x y:=by rfl) (hal:w1=w.alloc (.cells #[z0] t):=by rfl) (hx:a.eval x=.pointer (some ⟨w.heap.size,0,none⟩):=by rfl) (hy:a.eval y=z:=by rfl) (hdst:o.dst=none:=by rfl) (hw:Region.wanted o (yielded ops a.tmps)=true:=by rfl) (hz:z.cells=#[z]:=by rfl) (h1:z.oneCell'=true:=by rfl):wpList Tryz.prog ops Q (o :: rest) a w1:=by
 subst hal
 have hr:=qcp (P:=Tryz.prog) (t:=t) w [z0] [z] rfl (fun v hv=>by rw [List.mem_singleton.1 hv];exact h1)
 have hw2:=h _ (hX.new t [z]) ((Below.refl _ _).alloc (Nat.le_refl _) _)
 exact BigFrame.wpList_want hw fun _ hK=>by
  unfold Oper.wp execOp
  have e:(#[z0]:Array Value)=[z0].toArray:=rfl
  have e2:#[z].toList=[z]:=rfl
  simp only [hop,hx,hy,Instr.storeAt,Instr.sureAddr,storeVar,hz,e2,e,hr,hsz,List.size_toArray,List.length_cons,List.length_nil,ne_eq,not_true_eq_false,if_false,Sem.run_bind,Sem.run_pure,Result.andThen_ok]
  exact hK _ _ (by rw [hdst];exact hw2)
end
theorem qdd {P:Program} {fn:Func} {tmps:Array Value} {w:World} {j k:Tmp} {T U:TypeId} {a b:Addr} {v u:Value} (hr:fn.results=#[.cell j T,.cell k U]) (ha:tmps.getD j undef=.pointer (some a)) (hb:tmps.getD k undef=.pointer (some b)) (hl:(Go.loadVar T a).run P w=.ok v w) (hl2:(Go.loadVar U b).run P w=.ok u w) :
 (results fn tmps).run P w=.ok (.tuple #[v,u]) w:=by
 unfold results
 rw [hr]
 have ha':=ha
 have hb':=hb
 rw [Array.getD_eq_getD_getElem?] at ha' hb'
 simp [ha',hb',asAddr,hl,hl2]
theorem qey (w:World):(isAgg 76).run Tryz.prog w=.ok false w:=by kernel_rfl
theorem qb5 (w:World):(isAgg 47).run Tryz.prog w=.ok false w:=by kernel_rfl
theorem qdp (w:World):(sizeOf 47).run Tryz.prog w=.ok 1 w:=by kernel_rfl
theorem Bag.wide {l:List (Nat×TypeId×List Value)} {w0 w w':World} (h:Bag l w w') (hb:Below w0.heap.size w0 w):Bag l w0 w':=⟨h.all,hb.trans (h.below.mono hb.size),fun x hx=>Nat.le_trans hb.size (h.lo x hx),h.dis⟩
section
variable {X Y:Nat→Prop} {w0 w w':World} {B g:Nat} {A:Ma} {vm vb vl vs vd vt:Value}
theorem DSt.more (h:DSt X w0 B g w A vm vb vl vs vd vt) (hb:Below w.heap.size w w') (hY:∀ b,b<w.heap.size→Y b→X b) (hl:∀ b,Y b→b<w'.heap.size):DSt Y w0 B g w' A vm vb vl vs vd vt:=by
 have hXY:∀ b,b<w.heap.size→XY Y B g b→XY X B g b:=fun b hb q=>q.imp (hY b hb) id
 have h1:=h.step hb
 refine ⟨h1.bag,Sv.weak h.m hb hXY,Sv.weak h.b hb hXY,Sv.weak h.s hb hXY,Sv.weak h.d hb hXY,Sv.weak h.t hb hXY,h1.row,fun b q=>?_⟩
 rcases q with q|q
 ·exact hl b q
 ·exact h1.xl b (.inr q)
theorem DSt.less (h:DSt X w0 B g w A vm vb vl vs vd vt) (hY:∀ b,Y b→X b):DSt Y w0 B g w A vm vb vl vs vd vt:=by
 have hXY:∀ b,XY Y B g b→XY X B g b:=fun b q=>q.imp (hY b) id
 exact ⟨h.bag,Sv.less18 h.m hXY,Sv.less18 h.b hXY,Sv.less18 h.s hXY,Sv.less18 h.d hXY,Sv.less18 h.t hXY,h.row,fun b q=>h.xl b (hXY b q)⟩
theorem DSt.out {r:Nat} (h:DSt X w0 B g w A vm vb vl vs vd vt) (hk:∀ k,k≠r→w'.heap[k]? = w.heap[k]?) (hz:w.heap.size≤w'.heap.size) (hr:X r) (hB:r≠B) (hg:r≠g) (hb:Below w0.heap.size w0 w'):DSt X w0 B g w' A vm vb vl vs vd vt:=by
 have hh:∀ b,b<w.heap.size→¬ XY X B g b→w'.heap[b]? = w.heap[b]?:=fun b _ q=>hk b (fun e=>q (.inl (e▸hr)))
 refine ⟨⟨fun b t cs hm=>(hk b ?_).trans (h.bag.all b t cs hm),hb,h.bag.lo,h.bag.dis⟩,Sv.off h.m hh fun _ _ q=>q,Sv.off h.b hh fun _ _ q=>q,Sv.off h.s hh fun _ _ q=>q,Sv.off h.d hh fun _ _ q=>q,Sv.off h.t hh fun _ _ q=>q,h.row.kb hz fun cs q=>(hk g (fun e=>hg e.symm)).trans q,fun b q=>Nat.lt_of_lt_of_le (h.xl b q) hz⟩
 simp only [List.mem_cons,List.not_mem_nil,or_false,Prod.mk.injEq] at hm
 exact fun e=>hB (e.symm.trans hm.1)
end
def RgI (R:List (Nat×TypeId×List Value)) (X:Nat→Prop) (w0:World) (B g:Nat) (w:World) (N:Nat) (A:Ma) (W:World):Prop:=LpI R X w0 B g N A W∧Kpt B g w W
theorem RgI.grown {N:Nat} {R:List (Nat×TypeId×List Value)} {X:Nat→Prop} {w0 w W W':World} {B g:Nat} {A:Ma} {row:Option Nat} (hN:w0.heap.size≤N) (hw:w.heap.size≤N) (h:RgI R X w0 B g w N A W) (hg:W.grownBy W' row) (hr:∀ r,row=some r→N≤r∧NoCells W r):RgI R X w0 B g w N A W' :=
 ⟨LpI.own (β:=Unit) (fun _=>A) hN () W W' row h.1 hg hr,Nat.le_trans h.2.size hg.size,fun k hk h1 h2=>(hg.block k (Nat.lt_of_lt_of_le hk h.2.size) (fun e=>by have:=(hr k e.symm).1;omega)).trans (h.2.same k hk h1 h2)⟩
theorem qcf (k:Nat):devB k=dBase k:=by unfold devB dBase;split<;>rfl
theorem qip {A A2:Ma} {q v:Int} {k:Nat} (h:A.dRead q k=(A2,v,false)):A2=A:=by
 unfold Ma.dRead at h
 split at h
 ·exact (congrArg Prod.fst h).symm
 ·split at h
  ·cases h
  ·cases h;rfl
 ·exact (congrArg Prod.fst h).symm
 ·exact (congrArg Prod.fst h).symm
 ·split at h
  ·cases h
  ·cases h;rfl
theorem qg9 {A A2:Ma} {q v:Int} {k:Nat} (h:A.dWrite q v k=(A2,false)):A2=A:=by
 unfold Ma.dWrite at h
 repeat' split at h
 all_goals first|(cases h;done)|(cases h;rfl)
abbrev PRd (X:Nat→Prop) (w0:World) (B g:Nat) (w:World) (A:Ma) (f:Nat) (r:Value) (q:Int) (k:Nat):Prop:=Calls Tryz.prog f #[r,.pointer (some ⟨B,0,none⟩),.int .i64 q] w (DevS X w0 B g w (A.dRead q k).1 (.tuple #[.int .i64 (A.dRead q k).2.1,.bool (A.dRead q k).2.2]))
section
variable {X:Nat→Prop} {w0 w:World} {B g:Nat} {A:Ma} {vm vb vl vs vd vt:Value}
theorem qe3 {A':Ma} {V:Value} (hS:DSt X w0 B g w A vm vb vl vs vd vt) (hA':A'=A):∀ e' w',(e'=.returned V∧Below w.heap.size w w')→DevS X w0 B g w A' V e' w':=fun e' w' h=>by
 subst hA'
 exact ⟨h.1,⟨_,_,_,_,_,_,hS.step h.2⟩,(Kpt.refl B g w).step h.2⟩
theorem prd_0 (hA:A.ok) (hR:A.right=true) (hS:DSt X w0 B g w A vm vb vl vs vd vt) (hg:g≠B→¬ X g) (q:Int):PRd X w0 B g w A 160 (.agg #[]) q 0:=(qrs A hA hR q vm vb vl vs vd vt w0 w B hS.bag (hS.mav hg).now).mono (qe3 hS rfl)
theorem prd_1 (hA:A.ok) (hS:DSt X w0 B g w A vm vb vl vs vd vt) (q:Int):PRd X w0 B g w A 180 (.agg #[]) q 1:=by
 have h:=qr9 A hA q vm vb vl vs vd vt w0 w B hS.bag
 have e:A.dRead q 1=(A,(if q=0 then A.k.read else 0),decide (q=0)):=by
  show (if q=0 then (A,A.k.read,true) else (A,0,false))=_
  by_cases q0:q=0
  ·rw [if_pos q0,if_pos q0,decide_eq_true q0]
  ·rw [if_neg q0,if_neg q0,decide_eq_false q0]
 show Calls _ _ _ _ (DevS X w0 B g w (A.dRead q 1).1 (.tuple #[.int .i64 (A.dRead q 1).2.1,.bool (A.dRead q 1).2.2]))
 rw [e]
 exact h.mono (qe3 hS rfl)
theorem prd_2 (hA:A.ok) (hR:A.right=true) (hS:DSt X w0 B g w A vm vb vl vs vd vt) (hg:g≠B→¬ X g) (q:Int):PRd X w0 B g w A 195 (.agg #[]) q 2:=(qrb A hA hR q vm vb vl vs vd vt w0 w B hS.bag (hS.mav hg).now).mono (qe3 hS rfl)
theorem prd_3 (hA:A.ok) (hR:A.right=true) (hS:DSt X w0 B g w A vm vb vl vs vd vt) (hg:g≠B→¬ X g) (q:Int):PRd X w0 B g w A 233 (.agg #[]) q 3:=(qsq A hA hR q vm vb vl vs vd vt w0 w B hS.bag (hS.mav hg).now).mono (qe3 hS rfl)
theorem prd_4 (hA:A.ok) (hR:A.right=true) (hS:DSt X w0 B g w A vm vb vl vs vd vt) (q:Int) (k:Nat) (hk:k<A.L.length):PRd X w0 B g w A 266 (.int .i64 k) q (k+4):=by
 have e:A.dRead q (k+4)=(if 0≤q∧q<8 then (A.setL k ((A.line k).rd q).1,((A.line k).rd q).2,true) else (A,0,false)):=rfl
 show Calls _ _ _ _ (DevS X w0 B g w (A.dRead q (k+4)).1 (.tuple #[.int .i64 (A.dRead q (k+4)).2.1,.bool (A.dRead q (k+4)).2.2]))
 rw [e]
 by_cases hq:0≤q∧q<8
 ·rw [if_pos hq]
  exact qsf A hA hR q k hk hq vm vb vl vs vd vt X w0 w B g hS
 ·rw [if_neg hq]
  exact (qpc A q k hq w B).mono fun e' w' h=>by
   obtain ⟨rfl,rfl⟩:=h
   exact ⟨rfl,⟨_,_,_,_,_,_,hS⟩,Kpt.refl B g w⟩
end
end Go.Proofs.YthpnddgfgpacpaaGreat
