import Derived.Test.YthpnddgfgpacpaaGreatRT42
import Derived.Test.YthpnddgfgpacpaaGreatRT39
namespace Go.Proofs.YthpnddgfgpacpaaGreat
open Go.RowKit Go.Shelf
set_option linter.unusedSimpArgs false
set_option linter.unusedVariables false
set_option maxHeartbeats 4000000
set_option maxRecDepth 100000
attribute [local irreducible] wpQuiet
attribute [local go_sem] Oper.semAt_some
theorem qnt (w:World) (c0 c1 c2 c3:Value):Bag [(w.heap.size+3,47,[c3]),(w.heap.size+2,3,[c2]),(w.heap.size+1,3,[c1]),(w.heap.size,76,[c0])] w ((((w.alloc (.cells #[c0] 76)).alloc (.cells #[c1] 3)).alloc (.cells #[c2] 3)).alloc (.cells #[c3] 47)):=by
 have h:=((((Bag.nil w).new 76 [c0]).new 3 [c1]).new 3 [c2]).new 47 [c3]
 simp only [World.size_alloc] at h
 exact h
def Ma.regW (A:Ma) (off:Int) (b:Bool) (v:Int):Ma×Int :=
 if off%2=1 then (A,1)
 else if (A.wrR off (if b=true then v%256 else v)).2=false then (A,1)
 else ((A.wrR off (if b=true then v%256 else v)).1,0)
abbrev PWr (X:Nat→Prop) (w0:World) (B g:Nat) (w:World) (A:Ma) (f:Nat) (r:Value) (q v:Int) (k:Nat):Prop:=Calls Tryz.prog f #[r,.pointer (some ⟨B,0,none⟩),.int .i64 q,.int .i64 v] w (DevS X w0 B g w (A.dWrite q v k).1 (.bool (A.dWrite q v k).2))
theorem pwr_4 {X:Nat→Prop} {w0 w:World} {B g:Nat} {A:Ma} {vm vb vl vs vd vt:Value} (hA:A.ok) (hR:A.right=true) (hS:DSt X w0 B g w A vm vb vl vs vd vt) (q v:Int) (k:Nat) (hk:k<A.L.length):PWr X w0 B g w A 271 (.int .i64 k) q v (k+4):=by
 have e:A.dWrite q v (k+4)=(if 0≤q∧q<8 then (A.setL k ((A.line k).wr q v),true) else (A,false)):=rfl
 show Calls _ _ _ _ (DevS X w0 B g w (A.dWrite q v (k+4)).1 (.bool (A.dWrite q v (k+4)).2))
 rw [e]
 by_cases hq:0≤q∧q<8
 ·rw [if_pos hq]
  exact qpz A hA hR q v k hk hq vm vb vl vs vd vt X w0 w B g hS
 ·rw [if_neg hq]
  exact (qnw A q v k hq w B).mono fun e' w' h=>by
   obtain ⟨rfl,rfl⟩:=h
   exact ⟨rfl,⟨_,_,_,_,_,_,hS⟩,Kpt.refl B g w⟩
theorem qjo (A:Ma) (hA:A.ok) (hR:A.right=true) (vm vb vl vs vd vt:Value) (X:Nat→Prop) (w0 w:World) (B g:Nat) (hS:DSt X w0 B g w A vm vb vl vs vd vt) (off v:Int) (ho0:0≤off) (ho1:off<8192) (ho:off%2=1) (b:Bool):Calls Tryz.prog 44 #[.pointer (some ⟨B,0,none⟩),.int .i64 off,.bool b,.int .i64 v] w (DevS X w0 B g w (A.regW off b v).1 (.int .i64 (A.regW off b v).2)):=by
 have hX:=qnt w (.pointer (some ⟨B,0,none⟩)) (.int .i64 off) (.int .i64 v) (.int .i64 0)
 have hl4:=(Ma.parts hR).1
 obtain ⟨Al,cl,rfl⟩:∃ Al cl,vl=.slice Al A.L.length cl:=by
  rcases hS.row with ⟨h1,h2⟩|⟨_,_,_,c,_,h4,_⟩
  ·exact ⟨none,0,by rw [h2,h1];rfl⟩
  ·exact ⟨_,c,h4⟩
 have hod:=qen off ho0
 rw [decide_eq_true ho] at hod
 have hr:A.regW off b v=(A,1):=by unfold Ma.regW;rw [if_pos ho]
 rw [hr]
 clear hr
 refine (callsIn_wide (n:=5)).1 ?_
 refine callsIn_of_wp_marks Tryz.func44 rfl trivial ?_ rfl
 refine wpIn_wide.2 ?_
 simp only [Tryz.ntmps44,List.size_toArray,List.length_cons,List.length_nil,Nat.reduceAdd,Nat.reduceSub,Array.replicate_succ,Array.replicate_zero,List.push_toArray,List.append_toArray,List.nil_append,List.cons_append]
 go_upto_region 1 with fail
 generalize ((((w.alloc (Obj.cells #[.pointer (some ⟨B,0,none⟩)] 76)).alloc (Obj.cells #[.int .i64 off] 3)).alloc (Obj.cells #[.int .i64 v] 3)).alloc (Obj.cells #[.int .i64 0] 47))=wQ at hX ⊢
 go_wp2_with (first|((with_reducible refine qay 3 ?_);refine ldc (k:=0) (hm:=.tail _ (.tail _ (.head _))) hX qao ?_)|(go_at_call 86;(with_reducible refine (hod _).mono ?_);rintro e' wc ⟨rfl,rfl⟩)|((with_reducible refine qa9 47 ?_);refine stk1 (k:=0) (cs':=[Value.int .i64 1]) hX qdp rfl (by simp) rfl ?_;intro wT hY hkT))
 exact ⟨_,qaj (by rfl) rfl ((hY.all _ _ _ (.head _)).loadVarC (k:=0) rfl qb5),rfl,⟨_,_,_,_,_,_,hS.step hY.below⟩,(Kpt.refl B g w).step hY.below⟩
theorem qh8 (A:Ma) (hA:A.ok) (hR:A.right=true) (vm vb vl vs vd vt:Value) (X:Nat→Prop) (w0 w:World) (B g:Nat) (hS:DSt X w0 B g w A vm vb vl vs vd vt) (off v:Int) (ho0:0≤off) (ho1:off<8192) (ho:¬ off%2=1):Calls Tryz.prog 44 #[.pointer (some ⟨B,0,none⟩),.int .i64 off,.bool false,.int .i64 v] w (DevS X w0 B g w (A.regW off false v).1 (.int .i64 (A.regW off false v).2)):=by
 have hX:=qnt w (.pointer (some ⟨B,0,none⟩)) (.int .i64 off) (.int .i64 v) (.int .i64 0)
 have hl4:=(Ma.parts hR).1
 obtain ⟨Al,cl,rfl⟩:∃ Al cl,vl=.slice Al A.L.length cl:=by
  rcases hS.row with ⟨h1,h2⟩|⟨_,_,_,c,_,h4,_⟩
  ·exact ⟨none,0,by rw [h2,h1];rfl⟩
  ·exact ⟨_,c,h4⟩
 have hod:=qen off ho0
 rw [decide_eq_false ho] at hod
 refine (callsIn_wide (n:=5)).1 ?_
 refine callsIn_of_wp_marks Tryz.func44 rfl trivial ?_ rfl
 refine wpIn_wide.2 ?_
 simp only [Tryz.ntmps44,List.size_toArray,List.length_cons,List.length_nil,Nat.reduceAdd,Nat.reduceSub,Array.replicate_succ,Array.replicate_zero,List.push_toArray,List.append_toArray,List.nil_append,List.cons_append]
 go_upto_region 1 with fail
 generalize ((((w.alloc (Obj.cells #[.pointer (some ⟨B,0,none⟩)] 76)).alloc (Obj.cells #[.int .i64 off] 3)).alloc (Obj.cells #[.int .i64 v] 3)).alloc (Obj.cells #[.int .i64 0] 47))=wS at hX ⊢
 have hS':DSt (XR X (w.heap.size+3)) w0 B g wS A vm vb (.slice Al A.L.length cl) vs vd vt:=hS.more hX.below (fun b hb q=>by rcases q with q|rfl;exact q;omega) (fun b q=>by rcases q with q|rfl;(have h1:=hS.xl b (.inl q);have h2:=qat hX;omega);(have h2:=qat hX;omega))
 go_wp2_with (first|((with_reducible refine qay 76 ?_);refine ldc (k:=0) (hm:=.tail _ (.tail _ (.tail _ (.head _)))) hX qey ?_)|((with_reducible refine qay 3 ?_);refine ldc (k:=0) (hm:=.tail _ (.tail _ (.head _))) hX qao ?_)|(go_at_call 86;(with_reducible refine (hod _).mono ?_);rintro e' wc ⟨rfl,rfl⟩)|((with_reducible refine qay 35 ?_);refine ldc (hk:=qcg (Ma.len hA _ _ _)) hS'.bag qax ?_)|(go_at_call 29;(with_reducible refine (qef _ _).mono ?_);rintro e' wd ⟨rfl,rfl⟩))
 have hgl0:g<w.heap.size:=hS.xl g (.inr (.inr rfl))
 have hBl0:B<w.heap.size:=hS.xl B (.inr (.inl rfl))
 have hws:w.heap.size+4≤wS.heap.size:=by have h1:=qat hX;omega
 have hw0:=hS.bag.below.size
 have hR0:Bag ([(w.heap.size+3,47,[Value.int .i64 0]),(w.heap.size+2,3,[Value.int .i64 v]),(w.heap.size+1,3,[Value.int .i64 off]),(w.heap.size,76,[Value.pointer (some ⟨B,0,none⟩)])]) w0 wS:=hX.wide hS.bag.below
 have hK0:Kpt B g w wS:=(Kpt.refl B g w).step hX.below
 have hR2:∀ bx∈([(w.heap.size+3,47,[Value.int .i64 0]),(w.heap.size+2,3,[Value.int .i64 v]),(w.heap.size+1,3,[Value.int .i64 off]),(w.heap.size,76,[Value.pointer (some ⟨B,0,none⟩)])]),bx.1≠B∧bx.1≠g:=fun bx hb=>by
  simp only [List.mem_cons,List.not_mem_nil,or_false] at hb
  rcases hb with rfl|rfl|rfl|rfl<;>exact ⟨by simp only;omega,by simp only;omega⟩
 clear hX hod
 obtain ⟨n,hn⟩:∃ n,A.L.length=n:=⟨_,rfl⟩
 have hl0:=hl4
 rw [hn] at hl4 hS' ⊢
 have hAl:=(Below.refl wS.heap.size wS).alloc (Nat.le_refl _) (.cells #[.int .i64 n] 3)
 have hc0:(wS.alloc (.cells #[.int .i64 n] 3)).cell? ⟨wS.heap.size,0,none⟩=some (.int .i64 n):=(Blk.new 3 wS [.int .i64 n]).cell (k:=0) rfl
 have hlt0:wS.heap.size<(wS.alloc (.cells #[.int .i64 n] 3)).heap.size:=by simp
 refine (wpIn_wide (n:=5)).1 ?_
 refine wpIn_rangeFunc_ownG (F:=Fence.wide) (n:=5) rfl (by omega) (gf:=75) (lb:=#[.pointer (some ⟨wS.heap.size,0,none⟩)]) rfl trivial (enters_of Tryz.func75 (by kernel_rfl) rfl) (qea 4 (by omega) wS.heap.size n (by omega) _ hc0 hlt0) (fun h k=>KpB.trans h k) (qgi hlt0) (Below.refl _ _) (fun _=>rfl)
  (fun (pre:List (Fin (n+4))) W=>(∀ x∈pre,(A.dWrite (off - devB (Fin.val x)) v (Fin.val x)).2=false)∧RgI ([(w.heap.size+3,47,[Value.int .i64 0]),(w.heap.size+2,3,[Value.int .i64 v]),(w.heap.size+1,3,[Value.int .i64 off]),(w.heap.size,76,[Value.pointer (some ⟨B,0,none⟩)])]) (XR X (w.heap.size+3)) w0 B g w ((wS.alloc (.cells #[.int .i64 n] 3)).heap.size) A W) (fun (c:Code) (pre:List (Fin (n+4))) W=>c=.ret∧∃ x∈pre,(A.dWrite (off - devB (Fin.val x)) v (Fin.val x)).2=true∧RgI ([(w.heap.size+3,47,[Value.int .i64 0]),(w.heap.size+2,3,[Value.int .i64 v]),(w.heap.size+1,3,[Value.int .i64 off]),(w.heap.size,76,[Value.pointer (some ⟨B,0,none⟩)])]) (XR X (w.heap.size+3)) w0 B g w ((wS.alloc (.cells #[.int .i64 n] 3)).heap.size) (A.dWrite (off - devB (Fin.val x)) v (Fin.val x)).1 W) (fun s W W' row hs hg hr=>⟨hs.1,hs.2.grown (by simp;omega) (by simp;omega) hg hr⟩) (fun c s W W' row hs hg hr=>⟨hs.1,by obtain ⟨x,hx,h1,h2⟩:=hs.2;exact ⟨x,hx,h1,h2.grown (by simp;omega) (by simp;omega) hg hr⟩⟩) ⟨fun x hx=>(by cases hx),⟨⟨_,_,_,_,_,_,hS'.step hAl⟩,hR0.step hAl,Nat.le_refl _⟩,hK0.step hAl⟩
  (fun x=>{tmps:=#[Value.pointer (some {block:=B,off:=0}),Value.int IntKind.i64 off,Value.bool false,Value.int IntKind.i64 v,Value.pointer (some {block:=w.heap.size,off:=0}),Value.pointer (some {block:=w.heap.size+1,off:=0}),undef,Value.pointer (some {block:=w.heap.size+2,off:=0}),Value.pointer (some {block:=w.heap.size+3,off:=0}),.int .i64 (devB x.val),devV x.val,Value.int IntKind.i64 off,Value.bool false,Value.bool false,undef,undef,Value.pointer (some {block:=B,off:=0}),Value.pointer (some {block:=B,off:=0}),Value.pointer (some {block:=B,off:=83}),Value.slice Al n cl,Value.int IntKind.i64 ↑n,Value.func (Fn.func 75) #[] #[Value.pointer (some {block:=wS.heap.size,off:=0})],.int .i64 (devB x.val),devV x.val,undef,undef,undef,undef,undef,undef,undef],defers:=[]}) ?assign ?body ?done ?stop
 case assign =>
  intro l x W K hK
  dsimp only [encD]
  gi_wp2
  exact hK
 case body =>
  rintro l pre x W ⟨hpr,⟨⟨um,ub,ul,us,ud,ut,hS⟩,hRB,hW⟩,hKw⟩ _
  have hgo:∀ (a':Act) (W':World) (A2:Ma),(∃ vm vb vl vs vd vt,DSt (XR X (w.heap.size+3)) w0 B g W' A2 vm vb vl vs vd vt)→Kpt B g W W'→A.dWrite (off - devB (Fin.val x)) v (Fin.val x)=(A2,false)→ownPostG ((wS.alloc (.cells #[.int .i64 n] 3)).heap.size) (KpB wS.heap.size) (fun (pre:List (Fin (n+4))) W=>(∀ x∈pre,(A.dWrite (off - devB (Fin.val x)) v (Fin.val x)).2=false)∧RgI ([(w.heap.size+3,47,[Value.int .i64 0]),(w.heap.size+2,3,[Value.int .i64 v]),(w.heap.size+1,3,[Value.int .i64 off]),(w.heap.size,76,[Value.pointer (some ⟨B,0,none⟩)])]) (XR X (w.heap.size+3)) w0 B g w ((wS.alloc (.cells #[.int .i64 n] 3)).heap.size) A W) (fun (c:Code) (pre:List (Fin (n+4))) W=>c=.ret∧∃ x∈pre,(A.dWrite (off - devB (Fin.val x)) v (Fin.val x)).2=true∧RgI ([(w.heap.size+3,47,[Value.int .i64 0]),(w.heap.size+2,3,[Value.int .i64 v]),(w.heap.size+1,3,[Value.int .i64 off]),(w.heap.size,76,[Value.pointer (some ⟨B,0,none⟩)])]) (XR X (w.heap.size+3)) w0 B g w ((wS.alloc (.cells #[.int .i64 n] 3)).heap.size) (A.dWrite (off - devB (Fin.val x)) v (Fin.val x)).1 W) (pre++[x]) W .normal a' W':=fun a' W' A2 hD hK hx=>by
   obtain rfl:A2=A:=qg9 hx
   refine ⟨hK.from (by omega) (by omega),hK.same _ (Nat.lt_of_lt_of_le hlt0 hW) (by omega) (by omega),fun y hy=>?_,⟨hD,hRB.kpt hK hR2 (by obtain ⟨_,_,_,_,_,_,hD⟩:=hD;exact hD.bag.below),Nat.le_trans hW hK.size⟩,hKw.trans hK⟩
   rcases List.mem_append.1 hy with hy|hy
   ·exact hpr y hy
   ·rw [List.mem_singleton.1 hy,hx]
  have hret:∀ (a':Act) (W':World) (A2:Ma),(∃ vm vb vl vs vd vt,DSt (XR X (w.heap.size+3)) w0 B g W' A2 vm vb vl vs vd vt)→Kpt B g W W'→A.dWrite (off - devB (Fin.val x)) v (Fin.val x)=(A2,true)→ownPostG ((wS.alloc (.cells #[.int .i64 n] 3)).heap.size) (KpB wS.heap.size) (fun (pre:List (Fin (n+4))) W=>(∀ x∈pre,(A.dWrite (off - devB (Fin.val x)) v (Fin.val x)).2=false)∧RgI ([(w.heap.size+3,47,[Value.int .i64 0]),(w.heap.size+2,3,[Value.int .i64 v]),(w.heap.size+1,3,[Value.int .i64 off]),(w.heap.size,76,[Value.pointer (some ⟨B,0,none⟩)])]) (XR X (w.heap.size+3)) w0 B g w ((wS.alloc (.cells #[.int .i64 n] 3)).heap.size) A W) (fun (c:Code) (pre:List (Fin (n+4))) W=>c=.ret∧∃ x∈pre,(A.dWrite (off - devB (Fin.val x)) v (Fin.val x)).2=true∧RgI ([(w.heap.size+3,47,[Value.int .i64 0]),(w.heap.size+2,3,[Value.int .i64 v]),(w.heap.size+1,3,[Value.int .i64 off]),(w.heap.size,76,[Value.pointer (some ⟨B,0,none⟩)])]) (XR X (w.heap.size+3)) w0 B g w ((wS.alloc (.cells #[.int .i64 n] 3)).heap.size) (A.dWrite (off - devB (Fin.val x)) v (Fin.val x)).1 W) (pre++[x]) W .ret a' (W'.setCell ⟨w.heap.size+3,0,none⟩ (.int .i64 0)):=fun a' W' A2 hD hK hx=>by
   obtain ⟨tm,tb,tl,ts,td,tt,hD⟩:=hD
   have hRr:=hRB.kpt hK hR2 hD.bag.below
   have hR3:=hRr.set 0 (.int .i64 0)
   have hk3:∀ k,k≠w.heap.size+3→(W'.setCell ⟨w.heap.size+3,0,none⟩ (.int .i64 0)).heap[k]? = W'.heap[k]?:=fun k h=>Below.heap_setCell _ _ _ _ h
   have hD3:=hD.out hk3 (by simp [World.setCell]) (.inr rfl) (by omega) (by omega) hR3.below
   have hsz:W'.heap.size=(W'.setCell ⟨w.heap.size+3,0,none⟩ (.int .i64 0)).heap.size:=by simp [World.setCell]
   generalize (W'.setCell ⟨w.heap.size+3,0,none⟩ (.int .i64 0))=W5 at hR3 hD3 hsz hk3 ⊢
   refine ⟨⟨by rw [← hsz];exact hK.size,fun k o hB hk hc=>?_⟩,rfl,x,by simp,by rw [hx],⟨⟨_,_,_,_,_,_,by rw [hx];exact hD3⟩,hR3,by rw [← hsz];exact Nat.le_trans hW hK.size⟩,⟨by rw [← hsz];exact (hKw.trans hK).size,fun k hk h1 h2=>(hk3 k (by omega)).trans ((hKw.trans hK).same k hk h1 h2)⟩⟩
   have hB':wS.heap.size+1≤k:=by simpa using hB
   exact (hk3 k (by omega)).trans ((hK.same k (Array.getElem?_eq_some_iff.1 hk).1 (by omega) (by omega)).trans hk)
  generalize (ownPostG _ _ _ _ (pre++[x]) W)=PQ at hgo hret ⊢
  have hcm:=(hRB.all _ _ _ (.tail _ (.tail _ (.tail _ (.head _))))).cell (k:=0) rfl
  have hcr:=(hRB.all _ _ _ (.tail _ (.tail _ (.head _)))).cell (k:=0) rfl
  have hcy:=(hRB.all _ _ _ (.tail _ (.head _))).cell (k:=0) rfl
  obtain ⟨q,hq⟩:=x
  have hq5:q=0∨q=1∨q=2∨q=3∨∃ k,q=k+4:=by
   rcases Nat.lt_or_ge q 4 with h|h
   ·omega
   ·exact .inr (.inr (.inr (.inr ⟨q - 4,by omega⟩)))
  dsimp only at hgo hret
  have hwo:IntKind.i64.wrap off=off:=by rw [qaf];unfold wrap64;omega
  rcases hq5 with rfl|rfl|rfl|rfl|⟨k,rfl⟩
  ·obtain ⟨⟨A2,ok⟩,hd⟩:∃ p,A.dWrite off v 0=p:=⟨_,rfl⟩
   have hc:Calls Tryz.prog 165 #[(.agg #[]),.pointer (some ⟨B,0,none⟩),.int .i64 off,.int .i64 v] W (DevS (XR X (w.heap.size+3)) w0 B g W A2 (.bool ok)):=by
    have h:PWr (XR X (w.heap.size+3)) w0 B g W A 165 (.agg #[]) off v 0:=qif A hA hR off v um ub ul us ud ut (XR X (w.heap.size+3)) w0 W B g hS
    unfold PWr at h
    rw [hd] at h
    exact h
   have hwq:IntKind.i64.wrap off=off:=by rw [qaf];unfold wrap64;omega
   have hm:∀ (m:Nat) (w:World),(method (m+1) 133 (.agg #[]) "emulator/bus.write").run Tryz.prog w=.ok (165,(.agg #[])) w:=fun _ _=>by kernel_rfl
   dsimp only [devV,devB]
   cases ok
   ·gi_wp2_with (refine ⟨trivial,?_⟩;gi_at_call 165;refine (CallsIn.inRound l (callsIn_wide.2 hc)).mono ?_;rintro e wr ⟨rfl,hD,hK⟩)
    exact hgo _ _ _ hD hK (by rw [show off - devB 0=off from Int.sub_zero off];exact hd)
   ·gi_wp2_with (first|(refine ⟨trivial,?_⟩;gi_at_call 165;refine (CallsIn.inRound l (callsIn_wide.2 hc)).mono ?_;rintro e wr ⟨rfl,⟨tm,tb,tl,ts,td,tt,hD⟩,hK⟩;have hRr:=hRB.kpt hK hR2 hD.bag.below;have hc3:=(hRr.all _ _ _ (.head _)).cell (k:=0) rfl;have hf3:=Blk.frozen (hRr.all _ _ _ (.head _)) 0))
    exact hret _ _ _ ⟨_,_,_,_,_,_,hD⟩ hK (by rw [show off - devB 0=off from Int.sub_zero off];exact hd)
  ·obtain ⟨⟨A2,ok⟩,hd⟩:∃ p,A.dWrite (off - 256) v 1=p:=⟨_,rfl⟩
   have hc:Calls Tryz.prog 185 #[(.agg #[]),.pointer (some ⟨B,0,none⟩),.int .i64 (off - 256),.int .i64 v] W (DevS (XR X (w.heap.size+3)) w0 B g W A2 (.bool ok)):=by
    have h:PWr (XR X (w.heap.size+3)) w0 B g W A 185 (.agg #[]) (off - 256) v 1:=qic A hA (off - 256) v um ub ul us ud ut (XR X (w.heap.size+3)) w0 W B g hS
    unfold PWr at h
    rw [hd] at h
    exact h
   have hwq:IntKind.i64.wrap (off - 256)=(off - 256):=by rw [qaf];unfold wrap64;omega
   have hm:∀ (m:Nat) (w:World),(method (m+1) 134 (.agg #[]) "emulator/bus.write").run Tryz.prog w=.ok (185,(.agg #[])) w:=fun _ _=>by kernel_rfl
   dsimp only [devV,devB]
   cases ok
   ·gi_wp2_with (refine ⟨trivial,?_⟩;gi_at_call 185;refine (CallsIn.inRound l (callsIn_wide.2 hc)).mono ?_;rintro e wr ⟨rfl,hD,hK⟩)
    exact hgo _ _ _ hD hK hd
   ·gi_wp2_with (first|(refine ⟨trivial,?_⟩;gi_at_call 185;refine (CallsIn.inRound l (callsIn_wide.2 hc)).mono ?_;rintro e wr ⟨rfl,⟨tm,tb,tl,ts,td,tt,hD⟩,hK⟩;have hRr:=hRB.kpt hK hR2 hD.bag.below;have hc3:=(hRr.all _ _ _ (.head _)).cell (k:=0) rfl;have hf3:=Blk.frozen (hRr.all _ _ _ (.head _)) 0))
    exact hret _ _ _ ⟨_,_,_,_,_,_,hD⟩ hK hd
  ·obtain ⟨⟨A2,ok⟩,hd⟩:∃ p,A.dWrite (off - 768) v 2=p:=⟨_,rfl⟩
   have hc:Calls Tryz.prog 200 #[(.agg #[]),.pointer (some ⟨B,0,none⟩),.int .i64 (off - 768),.int .i64 v] W (DevS (XR X (w.heap.size+3)) w0 B g W A2 (.bool ok)):=by
    have h:PWr (XR X (w.heap.size+3)) w0 B g W A 200 (.agg #[]) (off - 768) v 2:=qik A hA hR (off - 768) v um ub ul us ud ut (XR X (w.heap.size+3)) w0 W B g hS
    unfold PWr at h
    rw [hd] at h
    exact h
   have hwq:IntKind.i64.wrap (off - 768)=(off - 768):=by rw [qaf];unfold wrap64;omega
   have hm:∀ (m:Nat) (w:World),(method (m+1) 135 (.agg #[]) "emulator/bus.write").run Tryz.prog w=.ok (200,(.agg #[])) w:=fun _ _=>by kernel_rfl
   dsimp only [devV,devB]
   cases ok
   ·gi_wp2_with (refine ⟨trivial,?_⟩;gi_at_call 200;refine (CallsIn.inRound l (callsIn_wide.2 hc)).mono ?_;rintro e wr ⟨rfl,hD,hK⟩)
    exact hgo _ _ _ hD hK hd
   ·gi_wp2_with (first|(refine ⟨trivial,?_⟩;gi_at_call 200;refine (CallsIn.inRound l (callsIn_wide.2 hc)).mono ?_;rintro e wr ⟨rfl,⟨tm,tb,tl,ts,td,tt,hD⟩,hK⟩;have hRr:=hRB.kpt hK hR2 hD.bag.below;have hc3:=(hRr.all _ _ _ (.head _)).cell (k:=0) rfl;have hf3:=Blk.frozen (hRr.all _ _ _ (.head _)) 0))
    exact hret _ _ _ ⟨_,_,_,_,_,_,hD⟩ hK hd
  ·obtain ⟨⟨A2,ok⟩,hd⟩:∃ p,A.dWrite (off - 800) v 3=p:=⟨_,rfl⟩
   have hc:Calls Tryz.prog 238 #[(.agg #[]),.pointer (some ⟨B,0,none⟩),.int .i64 (off - 800),.int .i64 v] W (DevS (XR X (w.heap.size+3)) w0 B g W A2 (.bool ok)):=by
    have h:PWr (XR X (w.heap.size+3)) w0 B g W A 238 (.agg #[]) (off - 800) v 3:=qir A hA hR (off - 800) v um ub ul us ud ut (XR X (w.heap.size+3)) w0 W B g hS
    unfold PWr at h
    rw [hd] at h
    exact h
   have hwq:IntKind.i64.wrap (off - 800)=(off - 800):=by rw [qaf];unfold wrap64;omega
   have hm:∀ (m:Nat) (w:World),(method (m+1) 136 (.agg #[]) "emulator/bus.write").run Tryz.prog w=.ok (238,(.agg #[])) w:=fun _ _=>by kernel_rfl
   dsimp only [devV,devB]
   cases ok
   ·gi_wp2_with (refine ⟨trivial,?_⟩;gi_at_call 238;refine (CallsIn.inRound l (callsIn_wide.2 hc)).mono ?_;rintro e wr ⟨rfl,hD,hK⟩)
    exact hgo _ _ _ hD hK hd
   ·gi_wp2_with (first|(refine ⟨trivial,?_⟩;gi_at_call 238;refine (CallsIn.inRound l (callsIn_wide.2 hc)).mono ?_;rintro e wr ⟨rfl,⟨tm,tb,tl,ts,td,tt,hD⟩,hK⟩;have hRr:=hRB.kpt hK hR2 hD.bag.below;have hc3:=(hRr.all _ _ _ (.head _)).cell (k:=0) rfl;have hf3:=Blk.frozen (hRr.all _ _ _ (.head _)) 0))
    exact hret _ _ _ ⟨_,_,_,_,_,_,hD⟩ hK hd
  ·obtain ⟨⟨A2,ok⟩,hd⟩:∃ p,A.dWrite (off - (512+8*(k:Int))) v (k+4)=p:=⟨_,rfl⟩
   have hc:Calls Tryz.prog 271 #[(.int .i64 k),.pointer (some ⟨B,0,none⟩),.int .i64 (off - (512+8*(k:Int))),.int .i64 v] W (DevS (XR X (w.heap.size+3)) w0 B g W A2 (.bool ok)):=by
    have h:PWr (XR X (w.heap.size+3)) w0 B g W A 271 (.int .i64 k) (off - (512+8*(k:Int))) v (k+4):=pwr_4 hA hR hS (off - (512+8*(k:Int))) v k (by omega)
    unfold PWr at h
    rw [hd] at h
    exact h
   have hwq:IntKind.i64.wrap (off - (512+8*(k:Int)))=(off - (512+8*(k:Int))):=by rw [qaf];unfold wrap64;omega
   have hm:∀ (m:Nat) (w:World),(method (m+1) 137 (.int .i64 k) "emulator/bus.write").run Tryz.prog w=.ok (271,(.int .i64 k)) w:=fun _ _=>by kernel_rfl
   dsimp only [devV,devB]
   cases ok
   ·gi_wp2_with (refine ⟨trivial,?_⟩;gi_at_call 271;refine (CallsIn.inRound l (callsIn_wide.2 hc)).mono ?_;rintro e wr ⟨rfl,hD,hK⟩)
    exact hgo _ _ _ hD hK hd
   ·gi_wp2_with (first|(refine ⟨trivial,?_⟩;gi_at_call 271;refine (CallsIn.inRound l (callsIn_wide.2 hc)).mono ?_;rintro e wr ⟨rfl,⟨tm,tb,tl,ts,td,tt,hD⟩,hK⟩;have hRr:=hRB.kpt hK hR2 hD.bag.below;have hc3:=(hRr.all _ _ _ (.head _)).cell (k:=0) rfl;have hf3:=Blk.frozen (hRr.all _ _ _ (.head _)) 0))
    exact hret _ _ _ ⟨_,_,_,_,_,_,hD⟩ hK hd
 case done =>
  rintro D xs W hD hSD ⟨hpr,⟨⟨um,ub,ul,us,ud,ut,hS⟩,hRB,hW⟩,hKw⟩ hKd
  have hr:A.regW off false v=(A,1):=by
   have h:=qsn A hl0 (off:=off) (v:=v) fun k hk=>by
    have h1:k∈xs.map Fin.val:=by rw [show xs.map Fin.val=List.range (n+4) from hSD];exact List.mem_range.2 (by omega)
    obtain ⟨x,hx,rfl⟩:=List.mem_map.1 h1
    rw [← qcf]
    exact hpr x hx
   unfold Ma.regW
   rw [if_neg ho]
   rw [if_neg (show ¬ (false=true) by simp)]
   rw [if_pos h]
  have hD':wS.heap.size+1≤D:=by simpa using hD
  go_wp2_with (first|((with_reducible refine qa9 47 ?_);refine stk1 (k:=0) (cs':=[Value.int .i64 1]) hRB qdp rfl (by simp) rfl ?_;intro wU hZ hkU;replace hKd:=(hkU D (by omega)).trans hKd;replace hS:=hS.out hkU (qa7 hkU (hZ.all _ _ _ (.head _))) (.inr rfl) (by omega) (by omega) hZ.below;replace hKw:=hKw.out hkU (qa7 hkU (hZ.all _ _ _ (.head _))) (by omega)))
  refine ⟨by simp,.inl ⟨_,_,rfl,run_takeDeferred hKd,?_⟩⟩
  have hgr:=grownBy_putObj' wU D (.deferred none)
  have hnc:∀ r,some D=some r→w0.heap.size≤r∧NoCells wU r:=fun r e=>by cases e;exact ⟨by omega,_,hKd,rfl⟩
  have hX3:=hZ.grown hgr hnc
  rw [hr]
  exact ⟨_,qaj (by rfl) rfl ((hX3.all _ _ _ (.head _)).loadVarC (k:=0) rfl qb5),rfl,⟨_,_,_,_,_,_,(hS.grown hgr hnc).less fun b q=>.inl q⟩,hKw.grown hgr (by omega)⟩
 case stop =>
  rintro D c pre W hD _ ⟨rfl,x,hx,hf,⟨⟨um,ub,ul,us,ud,ut,hS⟩,hRB,hW⟩,hKw⟩ hKd
  have hr:A.regW off false v=((A.dWrite (off - devB (Fin.val x)) v (Fin.val x)).1,0):=by
   have h:=wr_hit A hl0 (off:=off) (v:=v) (k:=x.val) (by have:=x.isLt;omega) (by rw [← qcf];exact hf)
   rw [← qcf] at h
   unfold Ma.regW
   rw [if_neg ho]
   rw [if_neg (show ¬ (false=true) by simp)]
   rw [h,if_neg (by rw [hf];simp)]
  rw [hr]
  have hD':wS.heap.size+1≤D:=by simpa using hD
  gi_wp2
  refine ⟨by simp,.inl ⟨_,_,rfl,run_takeDeferred hKd,?_⟩⟩
  have hgr:=grownBy_putObj' W D (.deferred none)
  have hnc:∀ r,some D=some r→w0.heap.size≤r∧NoCells W r:=fun r e=>by cases e;exact ⟨by omega,_,hKd,rfl⟩
  have hX3:=hRB.grown hgr hnc
  exact ⟨_,qaj (by rfl) rfl ((hX3.all _ _ _ (.head _)).loadVarC (k:=0) rfl qb5),rfl,⟨_,_,_,_,_,_,(hS.grown hgr hnc).less fun b q=>.inl q⟩,hKw.grown hgr (by omega)⟩
theorem qh7 (A:Ma) (hA:A.ok) (hR:A.right=true) (vm vb vl vs vd vt:Value) (X:Nat→Prop) (w0 w:World) (B g:Nat) (hS:DSt X w0 B g w A vm vb vl vs vd vt) (off v:Int) (ho0:0≤off) (ho1:off<8192) (ho:¬ off%2=1):Calls Tryz.prog 44 #[.pointer (some ⟨B,0,none⟩),.int .i64 off,.bool true,.int .i64 v] w (DevS X w0 B g w (A.regW off true v).1 (.int .i64 (A.regW off true v).2)):=by
 have hX:=qnt w (.pointer (some ⟨B,0,none⟩)) (.int .i64 off) (.int .i64 v) (.int .i64 0)
 have hl4:=(Ma.parts hR).1
 obtain ⟨Al,cl,rfl⟩:∃ Al cl,vl=.slice Al A.L.length cl:=by
  rcases hS.row with ⟨h1,h2⟩|⟨_,_,_,c,_,h4,_⟩
  ·exact ⟨none,0,by rw [h2,h1];rfl⟩
  ·exact ⟨_,c,h4⟩
 have hod:=qen off ho0
 rw [decide_eq_false ho] at hod
 obtain ⟨y,hy⟩:∃ y,v%256=y:=⟨_,rfl⟩
 have a1:bits .and .i64 v 255=y:=by rw [← hy];exact qd1 (c:=255) (by decide) (qe7 _ 0 8) (by intro h;omega)
 refine (callsIn_wide (n:=5)).1 ?_
 refine callsIn_of_wp_marks Tryz.func44 rfl trivial ?_ rfl
 refine wpIn_wide.2 ?_
 simp only [Tryz.ntmps44,List.size_toArray,List.length_cons,List.length_nil,Nat.reduceAdd,Nat.reduceSub,Array.replicate_succ,Array.replicate_zero,List.push_toArray,List.append_toArray,List.nil_append,List.cons_append]
 go_upto_region 1 with fail
 generalize ((((w.alloc (Obj.cells #[.pointer (some ⟨B,0,none⟩)] 76)).alloc (Obj.cells #[.int .i64 off] 3)).alloc (Obj.cells #[.int .i64 v] 3)).alloc (Obj.cells #[.int .i64 0] 47))=wQ at hX ⊢
 go_wp2_with (first|((with_reducible refine qay 76 ?_);refine ldc (k:=0) (hm:=.tail _ (.tail _ (.tail _ (.head _)))) hY qey ?_)|((with_reducible refine qay 3 ?_);refine ldc (k:=0) (hm:=.tail _ (.tail _ (.head _))) hX qao ?_)|((with_reducible refine qay 3 ?_);refine ldc (k:=0) (hm:=.tail _ (.head _)) hX qao ?_)|(go_at_call 86;(with_reducible refine (hod _).mono ?_);rintro e' wc ⟨rfl,rfl⟩)|((with_reducible refine qa9 3 ?_);refine stk1 (k:=0) (cs':=[Value.int .i64 y]) hX.swap qbu rfl (by simp) rfl ?_;intro wS hY hkS;replace hY:=hY.swap;have hS':DSt (XR X (w.heap.size+3)) w0 B g wS A vm vb (.slice Al A.L.length cl) vs vd vt:=hS.more hY.below (fun b hb q=>by rcases q with q|rfl;exact q;omega) (fun b q=>by rcases q with q|rfl;(have h1:=hS.xl b (.inl q);have h2:=qat hY;omega);(have h2:=qat hY;omega)))|((with_reducible refine qay 35 ?_);refine ldc (hk:=qcg (Ma.len hA _ _ _)) hS'.bag qax ?_)|(go_at_call 29;(with_reducible refine (qef _ _).mono ?_);rintro e' wd ⟨rfl,rfl⟩))
 clear hX
 have hX:=hY
 clear hY a1
 have hgl0:g<w.heap.size:=hS.xl g (.inr (.inr rfl))
 have hBl0:B<w.heap.size:=hS.xl B (.inr (.inl rfl))
 have hws:w.heap.size+4≤wS.heap.size:=by have h1:=qat hX;omega
 have hw0:=hS.bag.below.size
 have hR0:Bag ([(w.heap.size+3,47,[Value.int .i64 0]),(w.heap.size+2,3,[Value.int .i64 y]),(w.heap.size+1,3,[Value.int .i64 off]),(w.heap.size,76,[Value.pointer (some ⟨B,0,none⟩)])]) w0 wS:=hX.wide hS.bag.below
 have hK0:Kpt B g w wS:=(Kpt.refl B g w).step hX.below
 have hR2:∀ bx∈([(w.heap.size+3,47,[Value.int .i64 0]),(w.heap.size+2,3,[Value.int .i64 y]),(w.heap.size+1,3,[Value.int .i64 off]),(w.heap.size,76,[Value.pointer (some ⟨B,0,none⟩)])]),bx.1≠B∧bx.1≠g:=fun bx hb=>by
  simp only [List.mem_cons,List.not_mem_nil,or_false] at hb
  rcases hb with rfl|rfl|rfl|rfl<;>exact ⟨by simp only;omega,by simp only;omega⟩
 clear hX hod
 obtain ⟨n,hn⟩:∃ n,A.L.length=n:=⟨_,rfl⟩
 have hl0:=hl4
 rw [hn] at hl4 hS' ⊢
 have hAl:=(Below.refl wS.heap.size wS).alloc (Nat.le_refl _) (.cells #[.int .i64 n] 3)
 have hc0:(wS.alloc (.cells #[.int .i64 n] 3)).cell? ⟨wS.heap.size,0,none⟩=some (.int .i64 n):=(Blk.new 3 wS [.int .i64 n]).cell (k:=0) rfl
 have hlt0:wS.heap.size<(wS.alloc (.cells #[.int .i64 n] 3)).heap.size:=by simp
 refine (wpIn_wide (n:=5)).1 ?_
 refine wpIn_rangeFunc_ownG (F:=Fence.wide) (n:=5) rfl (by omega) (gf:=75) (lb:=#[.pointer (some ⟨wS.heap.size,0,none⟩)]) rfl trivial (enters_of Tryz.func75 (by kernel_rfl) rfl) (qea 4 (by omega) wS.heap.size n (by omega) _ hc0 hlt0) (fun h k=>KpB.trans h k) (qgi hlt0) (Below.refl _ _) (fun _=>rfl)
  (fun (pre:List (Fin (n+4))) W=>(∀ x∈pre,(A.dWrite (off - devB (Fin.val x)) y (Fin.val x)).2=false)∧RgI ([(w.heap.size+3,47,[Value.int .i64 0]),(w.heap.size+2,3,[Value.int .i64 y]),(w.heap.size+1,3,[Value.int .i64 off]),(w.heap.size,76,[Value.pointer (some ⟨B,0,none⟩)])]) (XR X (w.heap.size+3)) w0 B g w ((wS.alloc (.cells #[.int .i64 n] 3)).heap.size) A W) (fun (c:Code) (pre:List (Fin (n+4))) W=>c=.ret∧∃ x∈pre,(A.dWrite (off - devB (Fin.val x)) y (Fin.val x)).2=true∧RgI ([(w.heap.size+3,47,[Value.int .i64 0]),(w.heap.size+2,3,[Value.int .i64 y]),(w.heap.size+1,3,[Value.int .i64 off]),(w.heap.size,76,[Value.pointer (some ⟨B,0,none⟩)])]) (XR X (w.heap.size+3)) w0 B g w ((wS.alloc (.cells #[.int .i64 n] 3)).heap.size) (A.dWrite (off - devB (Fin.val x)) y (Fin.val x)).1 W) (fun s W W' row hs hg hr=>⟨hs.1,hs.2.grown (by simp;omega) (by simp;omega) hg hr⟩) (fun c s W W' row hs hg hr=>⟨hs.1,by obtain ⟨x,hx,h1,h2⟩:=hs.2;exact ⟨x,hx,h1,h2.grown (by simp;omega) (by simp;omega) hg hr⟩⟩) ⟨fun x hx=>(by cases hx),⟨⟨_,_,_,_,_,_,hS'.step hAl⟩,hR0.step hAl,Nat.le_refl _⟩,hK0.step hAl⟩
  (fun x=>{tmps:=#[Value.pointer (some {block:=B,off:=0}),Value.int IntKind.i64 off,Value.bool true,Value.int IntKind.i64 v,Value.pointer (some {block:=w.heap.size,off:=0}),Value.pointer (some {block:=w.heap.size+1,off:=0}),undef,Value.pointer (some {block:=w.heap.size+2,off:=0}),Value.pointer (some {block:=w.heap.size+3,off:=0}),.int .i64 (devB x.val),devV x.val,Value.int IntKind.i64 off,Value.bool false,Value.bool true,Value.int IntKind.i64 v,Value.int IntKind.i64 y,Value.pointer (some {block:=B,off:=0}),Value.pointer (some {block:=B,off:=0}),Value.pointer (some {block:=B,off:=83}),Value.slice Al n cl,Value.int IntKind.i64 ↑n,Value.func (Fn.func 75) #[] #[Value.pointer (some {block:=wS.heap.size,off:=0})],.int .i64 (devB x.val),devV x.val,undef,undef,undef,undef,undef,undef,undef],defers:=[]}) ?assign ?body ?done ?stop
 case assign =>
  intro l x W K hK
  dsimp only [encD]
  gi_wp2
  exact hK
 case body =>
  rintro l pre x W ⟨hpr,⟨⟨um,ub,ul,us,ud,ut,hS⟩,hRB,hW⟩,hKw⟩ _
  have hgo:∀ (a':Act) (W':World) (A2:Ma),(∃ vm vb vl vs vd vt,DSt (XR X (w.heap.size+3)) w0 B g W' A2 vm vb vl vs vd vt)→Kpt B g W W'→A.dWrite (off - devB (Fin.val x)) y (Fin.val x)=(A2,false)→ownPostG ((wS.alloc (.cells #[.int .i64 n] 3)).heap.size) (KpB wS.heap.size) (fun (pre:List (Fin (n+4))) W=>(∀ x∈pre,(A.dWrite (off - devB (Fin.val x)) y (Fin.val x)).2=false)∧RgI ([(w.heap.size+3,47,[Value.int .i64 0]),(w.heap.size+2,3,[Value.int .i64 y]),(w.heap.size+1,3,[Value.int .i64 off]),(w.heap.size,76,[Value.pointer (some ⟨B,0,none⟩)])]) (XR X (w.heap.size+3)) w0 B g w ((wS.alloc (.cells #[.int .i64 n] 3)).heap.size) A W) (fun (c:Code) (pre:List (Fin (n+4))) W=>c=.ret∧∃ x∈pre,(A.dWrite (off - devB (Fin.val x)) y (Fin.val x)).2=true∧RgI ([(w.heap.size+3,47,[Value.int .i64 0]),(w.heap.size+2,3,[Value.int .i64 y]),(w.heap.size+1,3,[Value.int .i64 off]),(w.heap.size,76,[Value.pointer (some ⟨B,0,none⟩)])]) (XR X (w.heap.size+3)) w0 B g w ((wS.alloc (.cells #[.int .i64 n] 3)).heap.size) (A.dWrite (off - devB (Fin.val x)) y (Fin.val x)).1 W) (pre++[x]) W .normal a' W':=fun a' W' A2 hD hK hx=>by
   obtain rfl:A2=A:=qg9 hx
   refine ⟨hK.from (by omega) (by omega),hK.same _ (Nat.lt_of_lt_of_le hlt0 hW) (by omega) (by omega),fun y hy=>?_,⟨hD,hRB.kpt hK hR2 (by obtain ⟨_,_,_,_,_,_,hD⟩:=hD;exact hD.bag.below),Nat.le_trans hW hK.size⟩,hKw.trans hK⟩
   rcases List.mem_append.1 hy with hy|hy
   ·exact hpr y hy
   ·rw [List.mem_singleton.1 hy,hx]
  have hret:∀ (a':Act) (W':World) (A2:Ma),(∃ vm vb vl vs vd vt,DSt (XR X (w.heap.size+3)) w0 B g W' A2 vm vb vl vs vd vt)→Kpt B g W W'→A.dWrite (off - devB (Fin.val x)) y (Fin.val x)=(A2,true)→ownPostG ((wS.alloc (.cells #[.int .i64 n] 3)).heap.size) (KpB wS.heap.size) (fun (pre:List (Fin (n+4))) W=>(∀ x∈pre,(A.dWrite (off - devB (Fin.val x)) y (Fin.val x)).2=false)∧RgI ([(w.heap.size+3,47,[Value.int .i64 0]),(w.heap.size+2,3,[Value.int .i64 y]),(w.heap.size+1,3,[Value.int .i64 off]),(w.heap.size,76,[Value.pointer (some ⟨B,0,none⟩)])]) (XR X (w.heap.size+3)) w0 B g w ((wS.alloc (.cells #[.int .i64 n] 3)).heap.size) A W) (fun (c:Code) (pre:List (Fin (n+4))) W=>c=.ret∧∃ x∈pre,(A.dWrite (off - devB (Fin.val x)) y (Fin.val x)).2=true∧RgI ([(w.heap.size+3,47,[Value.int .i64 0]),(w.heap.size+2,3,[Value.int .i64 y]),(w.heap.size+1,3,[Value.int .i64 off]),(w.heap.size,76,[Value.pointer (some ⟨B,0,none⟩)])]) (XR X (w.heap.size+3)) w0 B g w ((wS.alloc (.cells #[.int .i64 n] 3)).heap.size) (A.dWrite (off - devB (Fin.val x)) y (Fin.val x)).1 W) (pre++[x]) W .ret a' (W'.setCell ⟨w.heap.size+3,0,none⟩ (.int .i64 0)):=fun a' W' A2 hD hK hx=>by
   obtain ⟨tm,tb,tl,ts,td,tt,hD⟩:=hD
   have hRr:=hRB.kpt hK hR2 hD.bag.below
   have hR3:=hRr.set 0 (.int .i64 0)
   have hk3:∀ k,k≠w.heap.size+3→(W'.setCell ⟨w.heap.size+3,0,none⟩ (.int .i64 0)).heap[k]? = W'.heap[k]?:=fun k h=>Below.heap_setCell _ _ _ _ h
   have hD3:=hD.out hk3 (by simp [World.setCell]) (.inr rfl) (by omega) (by omega) hR3.below
   have hsz:W'.heap.size=(W'.setCell ⟨w.heap.size+3,0,none⟩ (.int .i64 0)).heap.size:=by simp [World.setCell]
   generalize (W'.setCell ⟨w.heap.size+3,0,none⟩ (.int .i64 0))=W5 at hR3 hD3 hsz hk3 ⊢
   refine ⟨⟨by rw [← hsz];exact hK.size,fun k o hB hk hc=>?_⟩,rfl,x,by simp,by rw [hx],⟨⟨_,_,_,_,_,_,by rw [hx];exact hD3⟩,hR3,by rw [← hsz];exact Nat.le_trans hW hK.size⟩,⟨by rw [← hsz];exact (hKw.trans hK).size,fun k hk h1 h2=>(hk3 k (by omega)).trans ((hKw.trans hK).same k hk h1 h2)⟩⟩
   have hB':wS.heap.size+1≤k:=by simpa using hB
   exact (hk3 k (by omega)).trans ((hK.same k (Array.getElem?_eq_some_iff.1 hk).1 (by omega) (by omega)).trans hk)
  generalize (ownPostG _ _ _ _ (pre++[x]) W)=PQ at hgo hret ⊢
  have hcm:=(hRB.all _ _ _ (.tail _ (.tail _ (.tail _ (.head _))))).cell (k:=0) rfl
  have hcr:=(hRB.all _ _ _ (.tail _ (.tail _ (.head _)))).cell (k:=0) rfl
  have hcy:=(hRB.all _ _ _ (.tail _ (.head _))).cell (k:=0) rfl
  obtain ⟨q,hq⟩:=x
  have hq5:q=0∨q=1∨q=2∨q=3∨∃ k,q=k+4:=by
   rcases Nat.lt_or_ge q 4 with h|h
   ·omega
   ·exact .inr (.inr (.inr (.inr ⟨q - 4,by omega⟩)))
  dsimp only at hgo hret
  have hwo:IntKind.i64.wrap off=off:=by rw [qaf];unfold wrap64;omega
  rcases hq5 with rfl|rfl|rfl|rfl|⟨k,rfl⟩
  ·obtain ⟨⟨A2,ok⟩,hd⟩:∃ p,A.dWrite off y 0=p:=⟨_,rfl⟩
   have hc:Calls Tryz.prog 165 #[(.agg #[]),.pointer (some ⟨B,0,none⟩),.int .i64 off,.int .i64 y] W (DevS (XR X (w.heap.size+3)) w0 B g W A2 (.bool ok)):=by
    have h:PWr (XR X (w.heap.size+3)) w0 B g W A 165 (.agg #[]) off y 0:=qif A hA hR off y um ub ul us ud ut (XR X (w.heap.size+3)) w0 W B g hS
    unfold PWr at h
    rw [hd] at h
    exact h
   have hwq:IntKind.i64.wrap off=off:=by rw [qaf];unfold wrap64;omega
   have hm:∀ (m:Nat) (w:World),(method (m+1) 133 (.agg #[]) "emulator/bus.write").run Tryz.prog w=.ok (165,(.agg #[])) w:=fun _ _=>by kernel_rfl
   dsimp only [devV,devB]
   cases ok
   ·gi_wp2_with (refine ⟨trivial,?_⟩;gi_at_call 165;refine (CallsIn.inRound l (callsIn_wide.2 hc)).mono ?_;rintro e wr ⟨rfl,hD,hK⟩)
    exact hgo _ _ _ hD hK (by rw [show off - devB 0=off from Int.sub_zero off];exact hd)
   ·gi_wp2_with (first|(refine ⟨trivial,?_⟩;gi_at_call 165;refine (CallsIn.inRound l (callsIn_wide.2 hc)).mono ?_;rintro e wr ⟨rfl,⟨tm,tb,tl,ts,td,tt,hD⟩,hK⟩;have hRr:=hRB.kpt hK hR2 hD.bag.below;have hc3:=(hRr.all _ _ _ (.head _)).cell (k:=0) rfl;have hf3:=Blk.frozen (hRr.all _ _ _ (.head _)) 0))
    exact hret _ _ _ ⟨_,_,_,_,_,_,hD⟩ hK (by rw [show off - devB 0=off from Int.sub_zero off];exact hd)
  ·obtain ⟨⟨A2,ok⟩,hd⟩:∃ p,A.dWrite (off - 256) y 1=p:=⟨_,rfl⟩
   have hc:Calls Tryz.prog 185 #[(.agg #[]),.pointer (some ⟨B,0,none⟩),.int .i64 (off - 256),.int .i64 y] W (DevS (XR X (w.heap.size+3)) w0 B g W A2 (.bool ok)):=by
    have h:PWr (XR X (w.heap.size+3)) w0 B g W A 185 (.agg #[]) (off - 256) y 1:=qic A hA (off - 256) y um ub ul us ud ut (XR X (w.heap.size+3)) w0 W B g hS
    unfold PWr at h
    rw [hd] at h
    exact h
   have hwq:IntKind.i64.wrap (off - 256)=(off - 256):=by rw [qaf];unfold wrap64;omega
   have hm:∀ (m:Nat) (w:World),(method (m+1) 134 (.agg #[]) "emulator/bus.write").run Tryz.prog w=.ok (185,(.agg #[])) w:=fun _ _=>by kernel_rfl
   dsimp only [devV,devB]
   cases ok
   ·gi_wp2_with (refine ⟨trivial,?_⟩;gi_at_call 185;refine (CallsIn.inRound l (callsIn_wide.2 hc)).mono ?_;rintro e wr ⟨rfl,hD,hK⟩)
    exact hgo _ _ _ hD hK hd
   ·gi_wp2_with (first|(refine ⟨trivial,?_⟩;gi_at_call 185;refine (CallsIn.inRound l (callsIn_wide.2 hc)).mono ?_;rintro e wr ⟨rfl,⟨tm,tb,tl,ts,td,tt,hD⟩,hK⟩;have hRr:=hRB.kpt hK hR2 hD.bag.below;have hc3:=(hRr.all _ _ _ (.head _)).cell (k:=0) rfl;have hf3:=Blk.frozen (hRr.all _ _ _ (.head _)) 0))
    exact hret _ _ _ ⟨_,_,_,_,_,_,hD⟩ hK hd
  ·obtain ⟨⟨A2,ok⟩,hd⟩:∃ p,A.dWrite (off - 768) y 2=p:=⟨_,rfl⟩
   have hc:Calls Tryz.prog 200 #[(.agg #[]),.pointer (some ⟨B,0,none⟩),.int .i64 (off - 768),.int .i64 y] W (DevS (XR X (w.heap.size+3)) w0 B g W A2 (.bool ok)):=by
    have h:PWr (XR X (w.heap.size+3)) w0 B g W A 200 (.agg #[]) (off - 768) y 2:=qik A hA hR (off - 768) y um ub ul us ud ut (XR X (w.heap.size+3)) w0 W B g hS
    unfold PWr at h
    rw [hd] at h
    exact h
   have hwq:IntKind.i64.wrap (off - 768)=(off - 768):=by rw [qaf];unfold wrap64;omega
   have hm:∀ (m:Nat) (w:World),(method (m+1) 135 (.agg #[]) "emulator/bus.write").run Tryz.prog w=.ok (200,(.agg #[])) w:=fun _ _=>by kernel_rfl
   dsimp only [devV,devB]
   cases ok
   ·gi_wp2_with (refine ⟨trivial,?_⟩;gi_at_call 200;refine (CallsIn.inRound l (callsIn_wide.2 hc)).mono ?_;rintro e wr ⟨rfl,hD,hK⟩)
    exact hgo _ _ _ hD hK hd
   ·gi_wp2_with (first|(refine ⟨trivial,?_⟩;gi_at_call 200;refine (CallsIn.inRound l (callsIn_wide.2 hc)).mono ?_;rintro e wr ⟨rfl,⟨tm,tb,tl,ts,td,tt,hD⟩,hK⟩;have hRr:=hRB.kpt hK hR2 hD.bag.below;have hc3:=(hRr.all _ _ _ (.head _)).cell (k:=0) rfl;have hf3:=Blk.frozen (hRr.all _ _ _ (.head _)) 0))
    exact hret _ _ _ ⟨_,_,_,_,_,_,hD⟩ hK hd
  ·obtain ⟨⟨A2,ok⟩,hd⟩:∃ p,A.dWrite (off - 800) y 3=p:=⟨_,rfl⟩
   have hc:Calls Tryz.prog 238 #[(.agg #[]),.pointer (some ⟨B,0,none⟩),.int .i64 (off - 800),.int .i64 y] W (DevS (XR X (w.heap.size+3)) w0 B g W A2 (.bool ok)):=by
    have h:PWr (XR X (w.heap.size+3)) w0 B g W A 238 (.agg #[]) (off - 800) y 3:=qir A hA hR (off - 800) y um ub ul us ud ut (XR X (w.heap.size+3)) w0 W B g hS
    unfold PWr at h
    rw [hd] at h
    exact h
   have hwq:IntKind.i64.wrap (off - 800)=(off - 800):=by rw [qaf];unfold wrap64;omega
   have hm:∀ (m:Nat) (w:World),(method (m+1) 136 (.agg #[]) "emulator/bus.write").run Tryz.prog w=.ok (238,(.agg #[])) w:=fun _ _=>by kernel_rfl
   dsimp only [devV,devB]
   cases ok
   ·gi_wp2_with (refine ⟨trivial,?_⟩;gi_at_call 238;refine (CallsIn.inRound l (callsIn_wide.2 hc)).mono ?_;rintro e wr ⟨rfl,hD,hK⟩)
    exact hgo _ _ _ hD hK hd
   ·gi_wp2_with (first|(refine ⟨trivial,?_⟩;gi_at_call 238;refine (CallsIn.inRound l (callsIn_wide.2 hc)).mono ?_;rintro e wr ⟨rfl,⟨tm,tb,tl,ts,td,tt,hD⟩,hK⟩;have hRr:=hRB.kpt hK hR2 hD.bag.below;have hc3:=(hRr.all _ _ _ (.head _)).cell (k:=0) rfl;have hf3:=Blk.frozen (hRr.all _ _ _ (.head _)) 0))
    exact hret _ _ _ ⟨_,_,_,_,_,_,hD⟩ hK hd
  ·obtain ⟨⟨A2,ok⟩,hd⟩:∃ p,A.dWrite (off - (512+8*(k:Int))) y (k+4)=p:=⟨_,rfl⟩
   have hc:Calls Tryz.prog 271 #[(.int .i64 k),.pointer (some ⟨B,0,none⟩),.int .i64 (off - (512+8*(k:Int))),.int .i64 y] W (DevS (XR X (w.heap.size+3)) w0 B g W A2 (.bool ok)):=by
    have h:PWr (XR X (w.heap.size+3)) w0 B g W A 271 (.int .i64 k) (off - (512+8*(k:Int))) y (k+4):=pwr_4 hA hR hS (off - (512+8*(k:Int))) y k (by omega)
    unfold PWr at h
    rw [hd] at h
    exact h
   have hwq:IntKind.i64.wrap (off - (512+8*(k:Int)))=(off - (512+8*(k:Int))):=by rw [qaf];unfold wrap64;omega
   have hm:∀ (m:Nat) (w:World),(method (m+1) 137 (.int .i64 k) "emulator/bus.write").run Tryz.prog w=.ok (271,(.int .i64 k)) w:=fun _ _=>by kernel_rfl
   dsimp only [devV,devB]
   cases ok
   ·gi_wp2_with (refine ⟨trivial,?_⟩;gi_at_call 271;refine (CallsIn.inRound l (callsIn_wide.2 hc)).mono ?_;rintro e wr ⟨rfl,hD,hK⟩)
    exact hgo _ _ _ hD hK hd
   ·gi_wp2_with (first|(refine ⟨trivial,?_⟩;gi_at_call 271;refine (CallsIn.inRound l (callsIn_wide.2 hc)).mono ?_;rintro e wr ⟨rfl,⟨tm,tb,tl,ts,td,tt,hD⟩,hK⟩;have hRr:=hRB.kpt hK hR2 hD.bag.below;have hc3:=(hRr.all _ _ _ (.head _)).cell (k:=0) rfl;have hf3:=Blk.frozen (hRr.all _ _ _ (.head _)) 0))
    exact hret _ _ _ ⟨_,_,_,_,_,_,hD⟩ hK hd
 case done =>
  rintro D xs W hD hSD ⟨hpr,⟨⟨um,ub,ul,us,ud,ut,hS⟩,hRB,hW⟩,hKw⟩ hKd
  have hr:A.regW off true v=(A,1):=by
   have h:=qsn A hl0 (off:=off) (v:=y) fun k hk=>by
    have h1:k∈xs.map Fin.val:=by rw [show xs.map Fin.val=List.range (n+4) from hSD];exact List.mem_range.2 (by omega)
    obtain ⟨x,hx,rfl⟩:=List.mem_map.1 h1
    rw [← qcf]
    exact hpr x hx
   unfold Ma.regW
   rw [if_neg ho]
   rw [if_pos rfl,hy]
   rw [if_pos h]
  have hD':wS.heap.size+1≤D:=by simpa using hD
  go_wp2_with (first|((with_reducible refine qa9 47 ?_);refine stk1 (k:=0) (cs':=[Value.int .i64 1]) hRB qdp rfl (by simp) rfl ?_;intro wU hZ hkU;replace hKd:=(hkU D (by omega)).trans hKd;replace hS:=hS.out hkU (qa7 hkU (hZ.all _ _ _ (.head _))) (.inr rfl) (by omega) (by omega) hZ.below;replace hKw:=hKw.out hkU (qa7 hkU (hZ.all _ _ _ (.head _))) (by omega)))
  refine ⟨by simp,.inl ⟨_,_,rfl,run_takeDeferred hKd,?_⟩⟩
  have hgr:=grownBy_putObj' wU D (.deferred none)
  have hnc:∀ r,some D=some r→w0.heap.size≤r∧NoCells wU r:=fun r e=>by cases e;exact ⟨by omega,_,hKd,rfl⟩
  have hX3:=hZ.grown hgr hnc
  rw [hr]
  exact ⟨_,qaj (by rfl) rfl ((hX3.all _ _ _ (.head _)).loadVarC (k:=0) rfl qb5),rfl,⟨_,_,_,_,_,_,(hS.grown hgr hnc).less fun b q=>.inl q⟩,hKw.grown hgr (by omega)⟩
 case stop =>
  rintro D c pre W hD _ ⟨rfl,x,hx,hf,⟨⟨um,ub,ul,us,ud,ut,hS⟩,hRB,hW⟩,hKw⟩ hKd
  have hr:A.regW off true v=((A.dWrite (off - devB (Fin.val x)) y (Fin.val x)).1,0):=by
   have h:=wr_hit A hl0 (off:=off) (v:=y) (k:=x.val) (by have:=x.isLt;omega) (by rw [← qcf];exact hf)
   rw [← qcf] at h
   unfold Ma.regW
   rw [if_neg ho]
   rw [if_pos rfl,hy]
   rw [h,if_neg (by rw [hf];simp)]
  rw [hr]
  have hD':wS.heap.size+1≤D:=by simpa using hD
  gi_wp2
  refine ⟨by simp,.inl ⟨_,_,rfl,run_takeDeferred hKd,?_⟩⟩
  have hgr:=grownBy_putObj' W D (.deferred none)
  have hnc:∀ r,some D=some r→w0.heap.size≤r∧NoCells W r:=fun r e=>by cases e;exact ⟨by omega,_,hKd,rfl⟩
  have hX3:=hRB.grown hgr hnc
  exact ⟨_,qaj (by rfl) rfl ((hX3.all _ _ _ (.head _)).loadVarC (k:=0) rfl qb5),rfl,⟨_,_,_,_,_,_,(hS.grown hgr hnc).less fun b q=>.inl q⟩,hKw.grown hgr (by omega)⟩
end Go.Proofs.YthpnddgfgpacpaaGreat
