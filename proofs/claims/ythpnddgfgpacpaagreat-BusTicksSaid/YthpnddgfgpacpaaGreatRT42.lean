import Derived.Test.YthpnddgfgpacpaaGreatRT41
namespace Go.Proofs.YthpnddgfgpacpaaGreat
open Go.RowKit Go.Shelf
set_option linter.unusedSimpArgs false
set_option linter.unusedVariables false
set_option maxHeartbeats 4000000
set_option maxRecDepth 100000
attribute [local irreducible] wpQuiet
attribute [local go_sem] Oper.semAt_some
theorem qnv (w:World) (c0 c1 c2 c3 c4:Value):Bag [(w.heap.size,76,[c0]),(w.heap.size+1,3,[c1]),(w.heap.size+2,4,[c2]),(w.heap.size+3,3,[c3]),(w.heap.size+4,47,[c4])] w (((((w.alloc (.cells #[c0] 76)).alloc (.cells #[c1] 3)).alloc (.cells #[c2] 4)).alloc (.cells #[c3] 3)).alloc (.cells #[c4] 47)):=by
 have h:=(((((Bag.nil w).new 76 [c0]).new 3 [c1]).new 4 [c2]).new 3 [c3]).new 47 [c4]
 simp only [World.size_alloc] at h
 exact h.perm (List.reverse_perm _).symm
theorem Kpt.out {B g r:Nat} {w W W':World} (h:Kpt B g w W) (hk:∀ k,k≠r→W'.heap[k]? = W.heap[k]?) (hz:W.heap.size≤W'.heap.size) (hr:w.heap.size≤r):Kpt B g w W':=⟨Nat.le_trans h.size hz,fun k hl h1 h2=>(hk k (by omega)).trans (h.same k hl h1 h2)⟩
theorem Kpt.grown {B g D:Nat} {w W W':World} (h:Kpt B g w W) (hg:W.grownBy W' (some D)) (hD:w.heap.size≤D):Kpt B g w W':=⟨Nat.le_trans h.size hg.size,fun k hl h1 h2=>(hg.block k (Nat.lt_of_lt_of_le hl h.size) (fun e=>by cases e;omega)).trans (h.same k hl h1 h2)⟩
def bytR (b:Bool) (off v:Int):Int:=if b=false then v else if off%2=1 then v / 256 else v%256
def Ma.regR (A:Ma) (off:Int) (b:Bool):Ma×Int×Int :=
 if b=false∧off%2=1 then (A,0,1)
 else if (A.rdR (off / 2*2)).2.2=false then (A,0,1)
 else ((A.rdR (off / 2*2)).1,bytR b off (A.rdR (off / 2*2)).2.1,0)
theorem qln (A:Ma) (hA:A.ok) (hR:A.right=true) (vm vb vl vs vd vt:Value) (X:Nat→Prop) (w0 w:World) (B g:Nat) (hS:DSt X w0 B g w A vm vb vl vs vd vt) (hgX:g≠B→¬ X g) (off:Int) (ho0:0≤off) (ho1:off<8192) (ho:off%2=1):Calls Tryz.prog 38 #[.pointer (some ⟨B,0,none⟩),.int .i64 off,.bool true] w (DevS X w0 B g w (A.regR off true).1 (.tuple #[.int .i64 (A.regR off true).2.1,.int .i64 (A.regR off true).2.2])):=by
 have hX:=qnv w (.pointer (some ⟨B,0,none⟩)) (.int .i64 off) (.bool true) (.int .i64 0) (.int .i64 0)
 have hl4:=(Ma.parts hR).1
 obtain ⟨Al,cl,rfl⟩:∃ Al cl,vl=.slice Al A.L.length cl:=by
  rcases hS.row with ⟨h1,h2⟩|⟨_,_,_,c,_,h4,_⟩
  ·exact ⟨none,0,by rw [h2,h1];rfl⟩
  ·exact ⟨_,c,h4⟩
 have hod:=qen off ho0
 rw [decide_eq_true ho] at hod
 have t1:off.tmod 2=off%2:=Int.tmod_eq_emod_of_nonneg ho0
 have w1:IntKind.i64.wrap (off%2)=off%2:=by rw [qaf];unfold wrap64;omega
 obtain ⟨reg,hreg⟩:∃ reg,off - off%2=reg:=⟨_,rfl⟩
 have w2:IntKind.i64.wrap reg=reg:=by rw [qaf];unfold wrap64;omega
 refine (callsIn_wide (n:=5)).1 ?_
 refine callsIn_of_wp_marks Tryz.func38 rfl trivial ?_ rfl
 refine wpIn_wide.2 ?_
 simp only [Tryz.ntmps38,List.size_toArray,List.length_cons,List.length_nil,Nat.reduceAdd,Nat.reduceSub,Array.replicate_succ,Array.replicate_zero,List.push_toArray,List.append_toArray,List.nil_append,List.cons_append]
 go_upto_region 1 with fail
 have hS':DSt (XY X (w.heap.size+3) (w.heap.size+4)) w0 B g (((((w.alloc (Obj.cells #[.pointer (some ⟨B,0,none⟩)] 76)).alloc (Obj.cells #[.int .i64 off] 3)).alloc (Obj.cells #[.bool true] 4)).alloc (Obj.cells #[.int .i64 0] 3)).alloc (Obj.cells #[.int .i64 0] 47)) A vm vb (.slice Al A.L.length cl) vs vd vt:=hS.more hX.below (fun b hb q=>by rcases q with q|rfl|rfl;exact q;all_goals omega) (fun b q=>by rcases q with q|rfl|rfl;(have h1:=hS.xl b (.inl q);simp only [World.size_alloc];omega);all_goals (simp only [World.size_alloc];omega))
 generalize (((((w.alloc (Obj.cells #[.pointer (some ⟨B,0,none⟩)] 76)).alloc (Obj.cells #[.int .i64 off] 3)).alloc (Obj.cells #[.bool true] 4)).alloc (Obj.cells #[.int .i64 0] 3)).alloc (Obj.cells #[.int .i64 0] 47))=wQ at hX hS' ⊢
 go_wp2_with (first|((with_reducible refine qay 3 ?_);refine ldc (k:=0) (hm:=.tail _ (.head _)) hX qao ?_)|((with_reducible refine qay 4 ?_);refine ldc (k:=0) (hm:=.tail _ (.tail _ (.head _))) hX qbl ?_)|(go_at_call 86;(with_reducible refine (hod _).mono ?_);rintro e' wc ⟨rfl,rfl⟩)|((with_reducible refine qa9 3 ?_);refine stn1 hX qbu ?_;intro wS hY hbS;replace hS':=hS'.step hbS)|((with_reducible refine qay 76 ?_);refine ldc (k:=0) (hm:=.tail _ (.head _)) hY qey ?_)|((with_reducible refine qay 35 ?_);refine ldc (hk:=qcg (Ma.len hA _ _ _)) hS'.bag qax ?_)|(go_at_call 29;(with_reducible refine (qef _ _).mono ?_);rintro e' wd ⟨rfl,rfl⟩))
 have hre:off - 1=reg:=by omega
 replace hY:Bag ([(wQ.heap.size,3,[.int .i64 (off - 1)]),(w.heap.size,76,[.pointer (some ⟨B,0,none⟩)]),(w.heap.size+1,3,[.int .i64 off]),(w.heap.size+2,4,[.bool true])]++[(w.heap.size+3,3,[.int .i64 0]),(w.heap.size+4,47,[.int .i64 0])]) w wS:=hY
 replace hY:=hY.perm List.perm_append_comm
 rw [hre] at hY ⊢
 have hgl0:g<w.heap.size:=hS.xl g (.inr (.inr rfl))
 have hBl0:B<w.heap.size:=hS.xl B (.inr (.inl rfl))
 have hws:w.heap.size+5≤wQ.heap.size∧wQ.heap.size<wS.heap.size:=⟨by have h1:=(hX.all _ _ _ (.tail _ (.tail _ (.tail _ (.tail _ (.head _)))))).lt;omega,(hY.all _ _ _ (.tail _ (.tail _ (.head _)))).lt⟩
 have hw0:=hS.bag.below.size
 have hR0:Bag ([(w.heap.size+3,3,[Value.int .i64 0]),(w.heap.size+4,47,[Value.int .i64 0]),(wQ.heap.size,3,[Value.int .i64 reg]),(w.heap.size,76,[Value.pointer (some ⟨B,0,none⟩)]),(w.heap.size+1,3,[Value.int .i64 off]),(w.heap.size+2,4,[Value.bool true])]) w0 wS:=hY.wide hS.bag.below
 have hK0:Kpt B g w wS:=(Kpt.refl B g w).step hY.below
 have hR2:∀ (v3 v4:Int),∀ bx∈([(w.heap.size+3,3,[Value.int .i64 v3]),(w.heap.size+4,47,[Value.int .i64 v4]),(wQ.heap.size,3,[Value.int .i64 reg]),(w.heap.size,76,[Value.pointer (some ⟨B,0,none⟩)]),(w.heap.size+1,3,[Value.int .i64 off]),(w.heap.size+2,4,[Value.bool true])]),bx.1≠B∧bx.1≠g:=fun v3 v4 bx hb=>by
  simp only [List.mem_cons,List.not_mem_nil,or_false] at hb
  rcases hb with rfl|rfl|rfl|rfl|rfl|rfl<;>exact ⟨by simp only;omega,by simp only;omega⟩
 replace hR2:=hR2 0 0
 have hgP:g≠B→¬ (XY X (w.heap.size+3) (w.heap.size+4)) g:=fun h q=>by rcases q with q|rfl|rfl;exact hgX h q;all_goals omega
 clear hX hY hod hbS
 obtain ⟨n,hn⟩:∃ n,A.L.length=n:=⟨_,rfl⟩
 have hl0:=hl4
 rw [hn] at hl4 hS' ⊢
 have hAl:=(Below.refl wS.heap.size wS).alloc (Nat.le_refl _) (.cells #[.int .i64 n] 3)
 have hc0:(wS.alloc (.cells #[.int .i64 n] 3)).cell? ⟨wS.heap.size,0,none⟩=some (.int .i64 n):=(Blk.new 3 wS [.int .i64 n]).cell (k:=0) rfl
 have hlt0:wS.heap.size<(wS.alloc (.cells #[.int .i64 n] 3)).heap.size:=by simp
 refine (wpIn_wide (n:=5)).1 ?_
 refine wpIn_rangeFunc_ownG (F:=Fence.wide) (n:=5) rfl (by omega) (gf:=75) (lb:=#[.pointer (some ⟨wS.heap.size,0,none⟩)]) rfl trivial (enters_of Tryz.func75 (by kernel_rfl) rfl) (qea 4 (by omega) wS.heap.size n (by omega) _ hc0 hlt0) (fun h k=>KpB.trans h k) (qgi hlt0) (Below.refl _ _) (fun _=>rfl)
  (fun (pre:List (Fin (n+4))) W=>(∀ x∈pre,(A.dRead (reg - devB (Fin.val x)) (Fin.val x)).2.2=false)∧RgI ([(w.heap.size+3,3,[Value.int .i64 0]),(w.heap.size+4,47,[Value.int .i64 0]),(wQ.heap.size,3,[Value.int .i64 reg]),(w.heap.size,76,[Value.pointer (some ⟨B,0,none⟩)]),(w.heap.size+1,3,[Value.int .i64 off]),(w.heap.size+2,4,[Value.bool true])]) (XY X (w.heap.size+3) (w.heap.size+4)) w0 B g w ((wS.alloc (.cells #[.int .i64 n] 3)).heap.size) A W) (fun (c:Code) (pre:List (Fin (n+4))) W=>c=.ret∧∃ x∈pre,(A.dRead (reg - devB (Fin.val x)) (Fin.val x)).2.2=true∧RgI ([(w.heap.size+3,3,[Value.int .i64 (bytR true off (A.dRead (reg - devB (Fin.val x)) (Fin.val x)).2.1)]),(w.heap.size+4,47,[Value.int .i64 0]),(wQ.heap.size,3,[Value.int .i64 reg]),(w.heap.size,76,[Value.pointer (some ⟨B,0,none⟩)]),(w.heap.size+1,3,[Value.int .i64 off]),(w.heap.size+2,4,[Value.bool true])]) (XY X (w.heap.size+3) (w.heap.size+4)) w0 B g w ((wS.alloc (.cells #[.int .i64 n] 3)).heap.size) (A.dRead (reg - devB (Fin.val x)) (Fin.val x)).1 W) (fun s W W' row hs hg hr=>⟨hs.1,hs.2.grown (by simp;omega) (by simp;omega) hg hr⟩) (fun c s W W' row hs hg hr=>⟨hs.1,by obtain ⟨x,hx,h1,h2⟩:=hs.2;exact ⟨x,hx,h1,h2.grown (by simp;omega) (by simp;omega) hg hr⟩⟩) ⟨fun x hx=>(by cases hx),⟨⟨_,_,_,_,_,_,hS'.step hAl⟩,hR0.step hAl,Nat.le_refl _⟩,hK0.step hAl⟩
  (fun x=>{tmps:=#[Value.pointer (some {block:=B,off:=0}),Value.int IntKind.i64 off,Value.bool true,Value.pointer (some {block:=w.heap.size,off:=0}),Value.pointer (some {block:=w.heap.size+1,off:=0}),Value.pointer (some {block:=w.heap.size+2,off:=0}),Value.pointer (some {block:=w.heap.size+3,off:=0}),Value.pointer (some {block:=w.heap.size+4,off:=0}),Value.pointer (some {block:=wQ.heap.size,off:=0}),.int .i64 (devB x.val),devV x.val,undef,undef,Value.int IntKind.i64 off,Value.bool true,Value.bool true,Value.bool true,Value.bool false,Value.bool false,Value.int IntKind.i64 off,Value.int IntKind.i64 off,Value.int IntKind.i64 1,Value.int IntKind.i64 reg,Value.pointer (some {block:=B,off:=0}),Value.pointer (some {block:=B,off:=0}),Value.pointer (some {block:=B,off:=83}),Value.slice Al n cl,Value.int IntKind.i64 ↑n,Value.func (Fn.func 75) #[] #[Value.pointer (some {block:=wS.heap.size,off:=0})],.int .i64 (devB x.val),devV x.val,undef,undef,undef,undef,undef,undef,undef,undef,undef,undef,undef,undef,undef,undef,undef,undef],defers:=[]}) ?assign ?body ?done ?stop
 case assign =>
  intro l x W K hK
  dsimp only [encD]
  gi_wp2
  exact hK
 case body =>
  rintro l pre x W ⟨hpr,⟨⟨um,ub,ul,us,ud,ut,hS⟩,hRB,hW⟩,hKw⟩ _
  have hgo:∀ (a':Act) (W':World) (A2:Ma) (v:Int),(∃ vm vb vl vs vd vt,DSt (XY X (w.heap.size+3) (w.heap.size+4)) w0 B g W' A2 vm vb vl vs vd vt)→Kpt B g W W'→A.dRead (reg - devB (Fin.val x)) (Fin.val x)=(A2,v,false)→ownPostG ((wS.alloc (.cells #[.int .i64 n] 3)).heap.size) (KpB wS.heap.size) (fun (pre:List (Fin (n+4))) W=>(∀ x∈pre,(A.dRead (reg - devB (Fin.val x)) (Fin.val x)).2.2=false)∧RgI ([(w.heap.size+3,3,[Value.int .i64 0]),(w.heap.size+4,47,[Value.int .i64 0]),(wQ.heap.size,3,[Value.int .i64 reg]),(w.heap.size,76,[Value.pointer (some ⟨B,0,none⟩)]),(w.heap.size+1,3,[Value.int .i64 off]),(w.heap.size+2,4,[Value.bool true])]) (XY X (w.heap.size+3) (w.heap.size+4)) w0 B g w ((wS.alloc (.cells #[.int .i64 n] 3)).heap.size) A W) (fun (c:Code) (pre:List (Fin (n+4))) W=>c=.ret∧∃ x∈pre,(A.dRead (reg - devB (Fin.val x)) (Fin.val x)).2.2=true∧RgI ([(w.heap.size+3,3,[Value.int .i64 (bytR true off (A.dRead (reg - devB (Fin.val x)) (Fin.val x)).2.1)]),(w.heap.size+4,47,[Value.int .i64 0]),(wQ.heap.size,3,[Value.int .i64 reg]),(w.heap.size,76,[Value.pointer (some ⟨B,0,none⟩)]),(w.heap.size+1,3,[Value.int .i64 off]),(w.heap.size+2,4,[Value.bool true])]) (XY X (w.heap.size+3) (w.heap.size+4)) w0 B g w ((wS.alloc (.cells #[.int .i64 n] 3)).heap.size) (A.dRead (reg - devB (Fin.val x)) (Fin.val x)).1 W) (pre++[x]) W .normal a' W':=fun a' W' A2 v hD hK hx=>by
   obtain rfl:A2=A:=qip hx
   refine ⟨hK.from (by omega) (by omega),hK.same _ (Nat.lt_of_lt_of_le hlt0 hW) (by omega) (by omega),fun y hy=>?_,⟨hD,hRB.kpt hK hR2 (by obtain ⟨_,_,_,_,_,_,hD⟩:=hD;exact hD.bag.below),Nat.le_trans hW hK.size⟩,hKw.trans hK⟩
   rcases List.mem_append.1 hy with hy|hy
   ·exact hpr y hy
   ·rw [List.mem_singleton.1 hy,hx]
  have hret:∀ (a':Act) (W':World) (A2:Ma) (v z:Int),(∃ vm vb vl vs vd vt,DSt (XY X (w.heap.size+3) (w.heap.size+4)) w0 B g W' A2 vm vb vl vs vd vt)→Kpt B g W W'→A.dRead (reg - devB (Fin.val x)) (Fin.val x)=(A2,v,true)→z=bytR true off v→ownPostG ((wS.alloc (.cells #[.int .i64 n] 3)).heap.size) (KpB wS.heap.size) (fun (pre:List (Fin (n+4))) W=>(∀ x∈pre,(A.dRead (reg - devB (Fin.val x)) (Fin.val x)).2.2=false)∧RgI ([(w.heap.size+3,3,[Value.int .i64 0]),(w.heap.size+4,47,[Value.int .i64 0]),(wQ.heap.size,3,[Value.int .i64 reg]),(w.heap.size,76,[Value.pointer (some ⟨B,0,none⟩)]),(w.heap.size+1,3,[Value.int .i64 off]),(w.heap.size+2,4,[Value.bool true])]) (XY X (w.heap.size+3) (w.heap.size+4)) w0 B g w ((wS.alloc (.cells #[.int .i64 n] 3)).heap.size) A W) (fun (c:Code) (pre:List (Fin (n+4))) W=>c=.ret∧∃ x∈pre,(A.dRead (reg - devB (Fin.val x)) (Fin.val x)).2.2=true∧RgI ([(w.heap.size+3,3,[Value.int .i64 (bytR true off (A.dRead (reg - devB (Fin.val x)) (Fin.val x)).2.1)]),(w.heap.size+4,47,[Value.int .i64 0]),(wQ.heap.size,3,[Value.int .i64 reg]),(w.heap.size,76,[Value.pointer (some ⟨B,0,none⟩)]),(w.heap.size+1,3,[Value.int .i64 off]),(w.heap.size+2,4,[Value.bool true])]) (XY X (w.heap.size+3) (w.heap.size+4)) w0 B g w ((wS.alloc (.cells #[.int .i64 n] 3)).heap.size) (A.dRead (reg - devB (Fin.val x)) (Fin.val x)).1 W) (pre++[x]) W .ret a' ((W'.setCell ⟨w.heap.size+3,0,none⟩ (.int .i64 z)).setCell ⟨w.heap.size+4,0,none⟩ (.int .i64 0)):=fun a' W' A2 v z hD hK hx hz=>by
   obtain ⟨tm,tb,tl,ts,td,tt,hD⟩:=hD
   have hRr:=hRB.kpt hK hR2 hD.bag.below
   have hR3:=hRr.set 0 (.int .i64 z)
   have hR4:=(hR3.swap.set 0 (.int .i64 0)).swap
   have hk3:∀ k,k≠w.heap.size+3→(W'.setCell ⟨w.heap.size+3,0,none⟩ (.int .i64 z)).heap[k]? = W'.heap[k]?:=fun k h=>Below.heap_setCell _ _ _ _ h
   have hk4:∀ k,k≠w.heap.size+4→((W'.setCell ⟨w.heap.size+3,0,none⟩ (.int .i64 z)).setCell ⟨w.heap.size+4,0,none⟩ (.int .i64 0)).heap[k]? = (W'.setCell ⟨w.heap.size+3,0,none⟩ (.int .i64 z)).heap[k]?:=fun k h=>Below.heap_setCell _ _ _ _ h
   have hD3:=hD.out hk3 (by simp [World.setCell]) (.inr (.inl rfl)) (by omega) (by omega) hR3.below
   have hD4:=hD3.out hk4 (by simp [World.setCell]) (.inr (.inr rfl)) (by omega) (by omega) hR4.below
   have hsz:W'.heap.size=((W'.setCell ⟨w.heap.size+3,0,none⟩ (.int .i64 z)).setCell ⟨w.heap.size+4,0,none⟩ (.int .i64 0)).heap.size:=by simp [World.setCell]
   have hk5:∀ k,k≠w.heap.size+3→k≠w.heap.size+4→((W'.setCell ⟨w.heap.size+3,0,none⟩ (.int .i64 z)).setCell ⟨w.heap.size+4,0,none⟩ (.int .i64 0)).heap[k]? = W'.heap[k]?:=fun k h1 h2=>(hk4 k h2).trans (hk3 k h1)
   generalize ((W'.setCell ⟨w.heap.size+3,0,none⟩ (.int .i64 z)).setCell ⟨w.heap.size+4,0,none⟩ (.int .i64 0))=W5 at hR4 hD4 hsz hk5 ⊢
   refine ⟨⟨by rw [← hsz];exact hK.size,fun k o hB hk hc=>?_⟩,rfl,x,by simp,by rw [hx],⟨⟨_,_,_,_,_,_,by rw [hx];exact hD4⟩,by rw [hx];rw [hz] at hR4;exact hR4,by rw [← hsz];exact Nat.le_trans hW hK.size⟩,⟨by rw [← hsz];exact (hKw.trans hK).size,fun k hk h1 h2=>(hk5 k (by omega) (by omega)).trans ((hKw.trans hK).same k hk h1 h2)⟩⟩
   have hB':wS.heap.size+1≤k:=by simpa using hB
   exact (hk5 k (by omega) (by omega)).trans ((hK.same k (Array.getElem?_eq_some_iff.1 hk).1 (by omega) (by omega)).trans hk)
  generalize (ownPostG _ _ _ _ (pre++[x]) W)=PQ at hgo hret ⊢
  have hcm:=(hRB.all _ _ _ (.tail _ (.tail _ (.tail _ (.head _))))).cell (k:=0) rfl
  have hcr:=(hRB.all _ _ _ (.tail _ (.tail _ (.head _)))).cell (k:=0) rfl
  obtain ⟨q,hq⟩:=x
  have hq5:q=0∨q=1∨q=2∨q=3∨∃ k,q=k+4:=by
   rcases Nat.lt_or_ge q 4 with h|h
   ·omega
   ·exact .inr (.inr (.inr (.inr ⟨q - 4,by omega⟩)))
  dsimp only at hgo hret
  have hby:∀ (v:Int) (w:World),Calls Tryz.prog 87 #[.int .i64 v,.int .i64 off] w fun e' w'=>e'=.returned (.int .i64 (v / 256))∧w=w':=fun v w=>by
   have h:=qg8 v off ho0 w
   rw [if_pos ho] at h
   exact h
  rcases hq5 with rfl|rfl|rfl|rfl|⟨k,rfl⟩
  ·obtain ⟨⟨A2,v,ok⟩,hd⟩:∃ p,A.dRead reg 0=p:=⟨_,rfl⟩
   have hc:Calls Tryz.prog 160 #[(.agg #[]),.pointer (some ⟨B,0,none⟩),.int .i64 reg] W (DevS (XY X (w.heap.size+3) (w.heap.size+4)) w0 B g W A2 (.tuple #[.int .i64 v,.bool ok])):=by
    have h:PRd (XY X (w.heap.size+3) (w.heap.size+4)) w0 B g W A 160 (.agg #[]) reg 0:=prd_0 hA hR hS hgP reg
    unfold PRd at h
    rw [hd] at h
    exact h
   have hwq:IntKind.i64.wrap reg=reg:=by rw [qaf];unfold wrap64;omega
   have hm:∀ (m:Nat) (w:World),(method (m+1) 133 (.agg #[]) "emulator/bus.read").run Tryz.prog w=.ok (160,(.agg #[])) w:=fun _ _=>by kernel_rfl
   dsimp only [devV,devB]
   cases ok
   ·gi_wp2_with (refine ⟨trivial,?_⟩;gi_at_call 160;refine (CallsIn.inRound l (callsIn_wide.2 hc)).mono ?_;rintro e wr ⟨rfl,hD,hK⟩)
    exact hgo _ _ _ _ hD hK (by rw [show reg - devB 0=reg from Int.sub_zero reg];exact hd)
   ·gi_wp2_with (first|(refine ⟨trivial,?_⟩;gi_at_call 160;refine (CallsIn.inRound l (callsIn_wide.2 hc)).mono ?_;rintro e wr ⟨rfl,⟨tm,tb,tl,ts,td,tt,hD⟩,hK⟩;have hRr:=hRB.kpt hK hR2 hD.bag.below;have hc1:=(hRr.all _ _ _ (.tail _ (.tail _ (.tail _ (.tail _ (.head _)))))).cell (k:=0) rfl;have hc2:=(hRr.all _ _ _ (.tail _ (.tail _ (.tail _ (.tail _ (.tail _ (.head _))))))).cell (k:=0) rfl;have hc3:=(hRr.all _ _ _ (.head _)).cell (k:=0) rfl;have hf3:=Blk.frozen (hRr.all _ _ _ (.head _)) 0;have hR4:=(hRr.set 0 (.int .i64 (v / 256))).swap;have hc4:=(hR4.all _ _ _ (.head _)).cell (k:=0) rfl;have hf4:=Blk.frozen (hR4.all _ _ _ (.head _)) 0)|(refine ⟨trivial,?_⟩;gi_at_call 87;refine (CallsIn.inRound l (callsIn_wide.2 (hby v _))).mono ?_;rintro e wb ⟨rfl,rfl⟩))
    exact hret _ _ _ _ _ ⟨_,_,_,_,_,_,hD⟩ hK (by rw [show reg - devB 0=reg from Int.sub_zero reg];exact hd) (by unfold bytR;rw [if_neg (by simp),if_pos ho])
  ·obtain ⟨⟨A2,v,ok⟩,hd⟩:∃ p,A.dRead (reg - 256) 1=p:=⟨_,rfl⟩
   have hc:Calls Tryz.prog 180 #[(.agg #[]),.pointer (some ⟨B,0,none⟩),.int .i64 (reg - 256)] W (DevS (XY X (w.heap.size+3) (w.heap.size+4)) w0 B g W A2 (.tuple #[.int .i64 v,.bool ok])):=by
    have h:PRd (XY X (w.heap.size+3) (w.heap.size+4)) w0 B g W A 180 (.agg #[]) (reg - 256) 1:=prd_1 hA hS (reg - 256)
    unfold PRd at h
    rw [hd] at h
    exact h
   have hwq:IntKind.i64.wrap (reg - 256)=(reg - 256):=by rw [qaf];unfold wrap64;omega
   have hm:∀ (m:Nat) (w:World),(method (m+1) 134 (.agg #[]) "emulator/bus.read").run Tryz.prog w=.ok (180,(.agg #[])) w:=fun _ _=>by kernel_rfl
   dsimp only [devV,devB]
   cases ok
   ·gi_wp2_with (refine ⟨trivial,?_⟩;gi_at_call 180;refine (CallsIn.inRound l (callsIn_wide.2 hc)).mono ?_;rintro e wr ⟨rfl,hD,hK⟩)
    exact hgo _ _ _ _ hD hK hd
   ·gi_wp2_with (first|(refine ⟨trivial,?_⟩;gi_at_call 180;refine (CallsIn.inRound l (callsIn_wide.2 hc)).mono ?_;rintro e wr ⟨rfl,⟨tm,tb,tl,ts,td,tt,hD⟩,hK⟩;have hRr:=hRB.kpt hK hR2 hD.bag.below;have hc1:=(hRr.all _ _ _ (.tail _ (.tail _ (.tail _ (.tail _ (.head _)))))).cell (k:=0) rfl;have hc2:=(hRr.all _ _ _ (.tail _ (.tail _ (.tail _ (.tail _ (.tail _ (.head _))))))).cell (k:=0) rfl;have hc3:=(hRr.all _ _ _ (.head _)).cell (k:=0) rfl;have hf3:=Blk.frozen (hRr.all _ _ _ (.head _)) 0;have hR4:=(hRr.set 0 (.int .i64 (v / 256))).swap;have hc4:=(hR4.all _ _ _ (.head _)).cell (k:=0) rfl;have hf4:=Blk.frozen (hR4.all _ _ _ (.head _)) 0)|(refine ⟨trivial,?_⟩;gi_at_call 87;refine (CallsIn.inRound l (callsIn_wide.2 (hby v _))).mono ?_;rintro e wb ⟨rfl,rfl⟩))
    exact hret _ _ _ _ _ ⟨_,_,_,_,_,_,hD⟩ hK hd (by unfold bytR;rw [if_neg (by simp),if_pos ho])
  ·obtain ⟨⟨A2,v,ok⟩,hd⟩:∃ p,A.dRead (reg - 768) 2=p:=⟨_,rfl⟩
   have hc:Calls Tryz.prog 195 #[(.agg #[]),.pointer (some ⟨B,0,none⟩),.int .i64 (reg - 768)] W (DevS (XY X (w.heap.size+3) (w.heap.size+4)) w0 B g W A2 (.tuple #[.int .i64 v,.bool ok])):=by
    have h:PRd (XY X (w.heap.size+3) (w.heap.size+4)) w0 B g W A 195 (.agg #[]) (reg - 768) 2:=prd_2 hA hR hS hgP (reg - 768)
    unfold PRd at h
    rw [hd] at h
    exact h
   have hwq:IntKind.i64.wrap (reg - 768)=(reg - 768):=by rw [qaf];unfold wrap64;omega
   have hm:∀ (m:Nat) (w:World),(method (m+1) 135 (.agg #[]) "emulator/bus.read").run Tryz.prog w=.ok (195,(.agg #[])) w:=fun _ _=>by kernel_rfl
   dsimp only [devV,devB]
   cases ok
   ·gi_wp2_with (refine ⟨trivial,?_⟩;gi_at_call 195;refine (CallsIn.inRound l (callsIn_wide.2 hc)).mono ?_;rintro e wr ⟨rfl,hD,hK⟩)
    exact hgo _ _ _ _ hD hK hd
   ·gi_wp2_with (first|(refine ⟨trivial,?_⟩;gi_at_call 195;refine (CallsIn.inRound l (callsIn_wide.2 hc)).mono ?_;rintro e wr ⟨rfl,⟨tm,tb,tl,ts,td,tt,hD⟩,hK⟩;have hRr:=hRB.kpt hK hR2 hD.bag.below;have hc1:=(hRr.all _ _ _ (.tail _ (.tail _ (.tail _ (.tail _ (.head _)))))).cell (k:=0) rfl;have hc2:=(hRr.all _ _ _ (.tail _ (.tail _ (.tail _ (.tail _ (.tail _ (.head _))))))).cell (k:=0) rfl;have hc3:=(hRr.all _ _ _ (.head _)).cell (k:=0) rfl;have hf3:=Blk.frozen (hRr.all _ _ _ (.head _)) 0;have hR4:=(hRr.set 0 (.int .i64 (v / 256))).swap;have hc4:=(hR4.all _ _ _ (.head _)).cell (k:=0) rfl;have hf4:=Blk.frozen (hR4.all _ _ _ (.head _)) 0)|(refine ⟨trivial,?_⟩;gi_at_call 87;refine (CallsIn.inRound l (callsIn_wide.2 (hby v _))).mono ?_;rintro e wb ⟨rfl,rfl⟩))
    exact hret _ _ _ _ _ ⟨_,_,_,_,_,_,hD⟩ hK hd (by unfold bytR;rw [if_neg (by simp),if_pos ho])
  ·obtain ⟨⟨A2,v,ok⟩,hd⟩:∃ p,A.dRead (reg - 800) 3=p:=⟨_,rfl⟩
   have hc:Calls Tryz.prog 233 #[(.agg #[]),.pointer (some ⟨B,0,none⟩),.int .i64 (reg - 800)] W (DevS (XY X (w.heap.size+3) (w.heap.size+4)) w0 B g W A2 (.tuple #[.int .i64 v,.bool ok])):=by
    have h:PRd (XY X (w.heap.size+3) (w.heap.size+4)) w0 B g W A 233 (.agg #[]) (reg - 800) 3:=prd_3 hA hR hS hgP (reg - 800)
    unfold PRd at h
    rw [hd] at h
    exact h
   have hwq:IntKind.i64.wrap (reg - 800)=(reg - 800):=by rw [qaf];unfold wrap64;omega
   have hm:∀ (m:Nat) (w:World),(method (m+1) 136 (.agg #[]) "emulator/bus.read").run Tryz.prog w=.ok (233,(.agg #[])) w:=fun _ _=>by kernel_rfl
   dsimp only [devV,devB]
   cases ok
   ·gi_wp2_with (refine ⟨trivial,?_⟩;gi_at_call 233;refine (CallsIn.inRound l (callsIn_wide.2 hc)).mono ?_;rintro e wr ⟨rfl,hD,hK⟩)
    exact hgo _ _ _ _ hD hK hd
   ·gi_wp2_with (first|(refine ⟨trivial,?_⟩;gi_at_call 233;refine (CallsIn.inRound l (callsIn_wide.2 hc)).mono ?_;rintro e wr ⟨rfl,⟨tm,tb,tl,ts,td,tt,hD⟩,hK⟩;have hRr:=hRB.kpt hK hR2 hD.bag.below;have hc1:=(hRr.all _ _ _ (.tail _ (.tail _ (.tail _ (.tail _ (.head _)))))).cell (k:=0) rfl;have hc2:=(hRr.all _ _ _ (.tail _ (.tail _ (.tail _ (.tail _ (.tail _ (.head _))))))).cell (k:=0) rfl;have hc3:=(hRr.all _ _ _ (.head _)).cell (k:=0) rfl;have hf3:=Blk.frozen (hRr.all _ _ _ (.head _)) 0;have hR4:=(hRr.set 0 (.int .i64 (v / 256))).swap;have hc4:=(hR4.all _ _ _ (.head _)).cell (k:=0) rfl;have hf4:=Blk.frozen (hR4.all _ _ _ (.head _)) 0)|(refine ⟨trivial,?_⟩;gi_at_call 87;refine (CallsIn.inRound l (callsIn_wide.2 (hby v _))).mono ?_;rintro e wb ⟨rfl,rfl⟩))
    exact hret _ _ _ _ _ ⟨_,_,_,_,_,_,hD⟩ hK hd (by unfold bytR;rw [if_neg (by simp),if_pos ho])
  ·obtain ⟨⟨A2,v,ok⟩,hd⟩:∃ p,A.dRead (reg - (512+8*(k:Int))) (k+4)=p:=⟨_,rfl⟩
   have hc:Calls Tryz.prog 266 #[(.int .i64 k),.pointer (some ⟨B,0,none⟩),.int .i64 (reg - (512+8*(k:Int)))] W (DevS (XY X (w.heap.size+3) (w.heap.size+4)) w0 B g W A2 (.tuple #[.int .i64 v,.bool ok])):=by
    have h:PRd (XY X (w.heap.size+3) (w.heap.size+4)) w0 B g W A 266 (.int .i64 k) (reg - (512+8*(k:Int))) (k+4):=prd_4 hA hR hS (reg - (512+8*(k:Int))) k (by omega)
    unfold PRd at h
    rw [hd] at h
    exact h
   have hwq:IntKind.i64.wrap (reg - (512+8*(k:Int)))=(reg - (512+8*(k:Int))):=by rw [qaf];unfold wrap64;omega
   have hm:∀ (m:Nat) (w:World),(method (m+1) 137 (.int .i64 k) "emulator/bus.read").run Tryz.prog w=.ok (266,(.int .i64 k)) w:=fun _ _=>by kernel_rfl
   dsimp only [devV,devB]
   cases ok
   ·gi_wp2_with (refine ⟨trivial,?_⟩;gi_at_call 266;refine (CallsIn.inRound l (callsIn_wide.2 hc)).mono ?_;rintro e wr ⟨rfl,hD,hK⟩)
    exact hgo _ _ _ _ hD hK hd
   ·gi_wp2_with (first|(refine ⟨trivial,?_⟩;gi_at_call 266;refine (CallsIn.inRound l (callsIn_wide.2 hc)).mono ?_;rintro e wr ⟨rfl,⟨tm,tb,tl,ts,td,tt,hD⟩,hK⟩;have hRr:=hRB.kpt hK hR2 hD.bag.below;have hc1:=(hRr.all _ _ _ (.tail _ (.tail _ (.tail _ (.tail _ (.head _)))))).cell (k:=0) rfl;have hc2:=(hRr.all _ _ _ (.tail _ (.tail _ (.tail _ (.tail _ (.tail _ (.head _))))))).cell (k:=0) rfl;have hc3:=(hRr.all _ _ _ (.head _)).cell (k:=0) rfl;have hf3:=Blk.frozen (hRr.all _ _ _ (.head _)) 0;have hR4:=(hRr.set 0 (.int .i64 (v / 256))).swap;have hc4:=(hR4.all _ _ _ (.head _)).cell (k:=0) rfl;have hf4:=Blk.frozen (hR4.all _ _ _ (.head _)) 0)|(refine ⟨trivial,?_⟩;gi_at_call 87;refine (CallsIn.inRound l (callsIn_wide.2 (hby v _))).mono ?_;rintro e wb ⟨rfl,rfl⟩))
    exact hret _ _ _ _ _ ⟨_,_,_,_,_,_,hD⟩ hK hd (by unfold bytR;rw [if_neg (by simp),if_pos ho])
 case done =>
  rintro D xs W hD hSD ⟨hpr,⟨⟨um,ub,ul,us,ud,ut,hS⟩,hRB,hW⟩,hKw⟩ hKd
  have hrg:reg=off / 2*2:=by omega
  have hr:A.regR off true=(A,0,1):=by
   have h:=qum A hl0 (off:=reg) fun k hk=>by
    have h1:k∈xs.map Fin.val:=by rw [show xs.map Fin.val=List.range (n+4) from hSD];exact List.mem_range.2 (by omega)
    obtain ⟨x,hx,rfl⟩:=List.mem_map.1 h1
    rw [← qcf]
    exact hpr x hx
   rw [hrg] at h
   unfold Ma.regR
   by_cases c:true=false∧off%2=1
   ·rw [if_pos c]
   ·rw [if_neg c,if_pos h]
  clear hrg
  have hD':wS.heap.size+1≤D:=by simpa using hD
  go_wp2_with (first|((with_reducible refine qa9 3 ?_);refine stk1 (k:=0) (cs':=[Value.int .i64 0]) hRB qbu rfl (by simp) rfl ?_;intro wT hY hkT;replace hKd:=(hkT D (by omega)).trans hKd;replace hS:=hS.out hkT (qa7 hkT (hY.all _ _ _ (.head _))) (.inr (.inl rfl)) (by omega) (by omega) hY.below;replace hKw:=hKw.out hkT (qa7 hkT (hY.all _ _ _ (.head _))) (by omega))|((with_reducible refine qa9 47 ?_);refine stk1 (k:=0) (cs':=[Value.int .i64 1]) hY.swap qdp rfl (by simp) rfl ?_;intro wU hZ hkU;replace hKd:=(hkU D (by omega)).trans hKd;replace hS:=hS.out hkU (qa7 hkU (hZ.all _ _ _ (.head _))) (.inr (.inr rfl)) (by omega) (by omega) hZ.below;replace hKw:=hKw.out hkU (qa7 hkU (hZ.all _ _ _ (.head _))) (by omega)))
  refine ⟨by simp,.inl ⟨_,_,rfl,run_takeDeferred hKd,?_⟩⟩
  have hgr:=grownBy_putObj' wU D (.deferred none)
  have hnc:∀ r,some D=some r→w0.heap.size≤r∧NoCells wU r:=fun r e=>by cases e;exact ⟨by omega,_,hKd,rfl⟩
  have hX3:=hZ.grown hgr hnc
  rw [hr]
  exact ⟨_,qdd (by rfl) rfl rfl ((hX3.all _ _ _ (.tail _ (.head _))).loadVarC (k:=0) rfl qao) ((hX3.all _ _ _ (.head _)).loadVarC (k:=0) rfl qb5),rfl,⟨_,_,_,_,_,_,(hS.grown hgr hnc).less fun b q=>.inl q⟩,hKw.grown hgr (by omega)⟩
 case stop =>
  rintro D c pre W hD _ ⟨rfl,x,hx,hf,⟨⟨um,ub,ul,us,ud,ut,hS⟩,hRB,hW⟩,hKw⟩ hKd
  have hrg:reg=off / 2*2:=by omega
  have hr:A.regR off true=((A.dRead (reg - devB (Fin.val x)) (Fin.val x)).1,bytR true off (A.dRead (reg - devB (Fin.val x)) (Fin.val x)).2.1,0):=by
   have h:=rd_hit A hl0 (off:=reg) (k:=x.val) (by have:=x.isLt;omega) (by rw [← qcf];exact hf)
   rw [← qcf,hrg] at h
   unfold Ma.regR
   rw [h,if_neg (by simp;skip),if_neg (by rw [hrg] at hf;rw [hf];simp)]
   rw [hrg]
  clear hrg
  rw [hr]
  have hD':wS.heap.size+1≤D:=by simpa using hD
  gi_wp2
  refine ⟨by simp,.inl ⟨_,_,rfl,run_takeDeferred hKd,?_⟩⟩
  have hgr:=grownBy_putObj' W D (.deferred none)
  have hnc:∀ r,some D=some r→w0.heap.size≤r∧NoCells W r:=fun r e=>by cases e;exact ⟨by omega,_,hKd,rfl⟩
  have hX3:=hRB.grown hgr hnc
  exact ⟨_,qdd (by rfl) rfl rfl ((hX3.all _ _ _ (.head _)).loadVarC (k:=0) rfl qao) ((hX3.all _ _ _ (.tail _ (.head _))).loadVarC (k:=0) rfl qb5),rfl,⟨_,_,_,_,_,_,(hS.grown hgr hnc).less fun b q=>.inl q⟩,hKw.grown hgr (by omega)⟩
theorem qjt (A:Ma) (hA:A.ok) (hR:A.right=true) (vm vb vl vs vd vt:Value) (X:Nat→Prop) (w0 w:World) (B g:Nat) (hS:DSt X w0 B g w A vm vb vl vs vd vt) (hgX:g≠B→¬ X g) (off:Int) (ho0:0≤off) (ho1:off<8192) (ho:¬ off%2=1) (b:Bool):Calls Tryz.prog 38 #[.pointer (some ⟨B,0,none⟩),.int .i64 off,.bool b] w (DevS X w0 B g w (A.regR off b).1 (.tuple #[.int .i64 (A.regR off b).2.1,.int .i64 (A.regR off b).2.2])):=by
 have hX:=qnv w (.pointer (some ⟨B,0,none⟩)) (.int .i64 off) (.bool b) (.int .i64 0) (.int .i64 0)
 have hl4:=(Ma.parts hR).1
 obtain ⟨Al,cl,rfl⟩:∃ Al cl,vl=.slice Al A.L.length cl:=by
  rcases hS.row with ⟨h1,h2⟩|⟨_,_,_,c,_,h4,_⟩
  ·exact ⟨none,0,by rw [h2,h1];rfl⟩
  ·exact ⟨_,c,h4⟩
 have hod:=qen off ho0
 rw [decide_eq_false ho] at hod
 have t1:off.tmod 2=off%2:=Int.tmod_eq_emod_of_nonneg ho0
 have w1:IntKind.i64.wrap (off%2)=off%2:=by rw [qaf];unfold wrap64;omega
 obtain ⟨reg,hreg⟩:∃ reg,off - off%2=reg:=⟨_,rfl⟩
 have w2:IntKind.i64.wrap reg=reg:=by rw [qaf];unfold wrap64;omega
 refine (callsIn_wide (n:=5)).1 ?_
 refine callsIn_of_wp_marks Tryz.func38 rfl trivial ?_ rfl
 refine wpIn_wide.2 ?_
 simp only [Tryz.ntmps38,List.size_toArray,List.length_cons,List.length_nil,Nat.reduceAdd,Nat.reduceSub,Array.replicate_succ,Array.replicate_zero,List.push_toArray,List.append_toArray,List.nil_append,List.cons_append]
 go_upto_region 1 with fail
 have hS':DSt (XY X (w.heap.size+3) (w.heap.size+4)) w0 B g (((((w.alloc (Obj.cells #[.pointer (some ⟨B,0,none⟩)] 76)).alloc (Obj.cells #[.int .i64 off] 3)).alloc (Obj.cells #[.bool b] 4)).alloc (Obj.cells #[.int .i64 0] 3)).alloc (Obj.cells #[.int .i64 0] 47)) A vm vb (.slice Al A.L.length cl) vs vd vt:=hS.more hX.below (fun b hb q=>by rcases q with q|rfl|rfl;exact q;all_goals omega) (fun b q=>by rcases q with q|rfl|rfl;(have h1:=hS.xl b (.inl q);simp only [World.size_alloc];omega);all_goals (simp only [World.size_alloc];omega))
 generalize (((((w.alloc (Obj.cells #[.pointer (some ⟨B,0,none⟩)] 76)).alloc (Obj.cells #[.int .i64 off] 3)).alloc (Obj.cells #[.bool b] 4)).alloc (Obj.cells #[.int .i64 0] 3)).alloc (Obj.cells #[.int .i64 0] 47))=wQ at hX hS' ⊢
 go_wp2_with (first|((with_reducible refine qay 3 ?_);refine ldc (k:=0) (hm:=.tail _ (.head _)) hX qao ?_)|((with_reducible refine qay 4 ?_);refine ldc (k:=0) (hm:=.tail _ (.tail _ (.head _))) hX qbl ?_)|(go_at_call 86;(with_reducible refine (hod _).mono ?_);rintro e' wc ⟨rfl,rfl⟩)|((with_reducible refine qa9 3 ?_);refine stn1 hX qbu ?_;intro wS hY hbS;replace hS':=hS'.step hbS)|((with_reducible refine qay 76 ?_);refine ldc (k:=0) (hm:=.tail _ (.head _)) hY qey ?_)|((with_reducible refine qay 35 ?_);refine ldc (hk:=qcg (Ma.len hA _ _ _)) hS'.bag qax ?_)|(go_at_call 29;(with_reducible refine (qef _ _).mono ?_);rintro e' wd ⟨rfl,rfl⟩))
 replace hY:Bag ([(wQ.heap.size,3,[.int .i64 reg]),(w.heap.size,76,[.pointer (some ⟨B,0,none⟩)]),(w.heap.size+1,3,[.int .i64 off]),(w.heap.size+2,4,[.bool b])]++[(w.heap.size+3,3,[.int .i64 0]),(w.heap.size+4,47,[.int .i64 0])]) w wS:=hY
 replace hY:=hY.perm List.perm_append_comm
 have hgl0:g<w.heap.size:=hS.xl g (.inr (.inr rfl))
 have hBl0:B<w.heap.size:=hS.xl B (.inr (.inl rfl))
 have hws:w.heap.size+5≤wQ.heap.size∧wQ.heap.size<wS.heap.size:=⟨by have h1:=(hX.all _ _ _ (.tail _ (.tail _ (.tail _ (.tail _ (.head _)))))).lt;omega,(hY.all _ _ _ (.tail _ (.tail _ (.head _)))).lt⟩
 have hw0:=hS.bag.below.size
 have hR0:Bag ([(w.heap.size+3,3,[Value.int .i64 0]),(w.heap.size+4,47,[Value.int .i64 0]),(wQ.heap.size,3,[Value.int .i64 reg]),(w.heap.size,76,[Value.pointer (some ⟨B,0,none⟩)]),(w.heap.size+1,3,[Value.int .i64 off]),(w.heap.size+2,4,[Value.bool b])]) w0 wS:=hY.wide hS.bag.below
 have hK0:Kpt B g w wS:=(Kpt.refl B g w).step hY.below
 have hR2:∀ (v3 v4:Int),∀ bx∈([(w.heap.size+3,3,[Value.int .i64 v3]),(w.heap.size+4,47,[Value.int .i64 v4]),(wQ.heap.size,3,[Value.int .i64 reg]),(w.heap.size,76,[Value.pointer (some ⟨B,0,none⟩)]),(w.heap.size+1,3,[Value.int .i64 off]),(w.heap.size+2,4,[Value.bool b])]),bx.1≠B∧bx.1≠g:=fun v3 v4 bx hb=>by
  simp only [List.mem_cons,List.not_mem_nil,or_false] at hb
  rcases hb with rfl|rfl|rfl|rfl|rfl|rfl<;>exact ⟨by simp only;omega,by simp only;omega⟩
 replace hR2:=hR2 0 0
 have hgP:g≠B→¬ (XY X (w.heap.size+3) (w.heap.size+4)) g:=fun h q=>by rcases q with q|rfl|rfl;exact hgX h q;all_goals omega
 clear hX hY hod hbS
 obtain ⟨n,hn⟩:∃ n,A.L.length=n:=⟨_,rfl⟩
 have hl0:=hl4
 rw [hn] at hl4 hS' ⊢
 have hAl:=(Below.refl wS.heap.size wS).alloc (Nat.le_refl _) (.cells #[.int .i64 n] 3)
 have hc0:(wS.alloc (.cells #[.int .i64 n] 3)).cell? ⟨wS.heap.size,0,none⟩=some (.int .i64 n):=(Blk.new 3 wS [.int .i64 n]).cell (k:=0) rfl
 have hlt0:wS.heap.size<(wS.alloc (.cells #[.int .i64 n] 3)).heap.size:=by simp
 refine (wpIn_wide (n:=5)).1 ?_
 refine wpIn_rangeFunc_ownG (F:=Fence.wide) (n:=5) rfl (by omega) (gf:=75) (lb:=#[.pointer (some ⟨wS.heap.size,0,none⟩)]) rfl trivial (enters_of Tryz.func75 (by kernel_rfl) rfl) (qea 4 (by omega) wS.heap.size n (by omega) _ hc0 hlt0) (fun h k=>KpB.trans h k) (qgi hlt0) (Below.refl _ _) (fun _=>rfl)
  (fun (pre:List (Fin (n+4))) W=>(∀ x∈pre,(A.dRead (reg - devB (Fin.val x)) (Fin.val x)).2.2=false)∧RgI ([(w.heap.size+3,3,[Value.int .i64 0]),(w.heap.size+4,47,[Value.int .i64 0]),(wQ.heap.size,3,[Value.int .i64 reg]),(w.heap.size,76,[Value.pointer (some ⟨B,0,none⟩)]),(w.heap.size+1,3,[Value.int .i64 off]),(w.heap.size+2,4,[Value.bool b])]) (XY X (w.heap.size+3) (w.heap.size+4)) w0 B g w ((wS.alloc (.cells #[.int .i64 n] 3)).heap.size) A W) (fun (c:Code) (pre:List (Fin (n+4))) W=>c=.ret∧∃ x∈pre,(A.dRead (reg - devB (Fin.val x)) (Fin.val x)).2.2=true∧RgI ([(w.heap.size+3,3,[Value.int .i64 (bytR b off (A.dRead (reg - devB (Fin.val x)) (Fin.val x)).2.1)]),(w.heap.size+4,47,[Value.int .i64 0]),(wQ.heap.size,3,[Value.int .i64 reg]),(w.heap.size,76,[Value.pointer (some ⟨B,0,none⟩)]),(w.heap.size+1,3,[Value.int .i64 off]),(w.heap.size+2,4,[Value.bool b])]) (XY X (w.heap.size+3) (w.heap.size+4)) w0 B g w ((wS.alloc (.cells #[.int .i64 n] 3)).heap.size) (A.dRead (reg - devB (Fin.val x)) (Fin.val x)).1 W) (fun s W W' row hs hg hr=>⟨hs.1,hs.2.grown (by simp;omega) (by simp;omega) hg hr⟩) (fun c s W W' row hs hg hr=>⟨hs.1,by obtain ⟨x,hx,h1,h2⟩:=hs.2;exact ⟨x,hx,h1,h2.grown (by simp;omega) (by simp;omega) hg hr⟩⟩) ⟨fun x hx=>(by cases hx),⟨⟨_,_,_,_,_,_,hS'.step hAl⟩,hR0.step hAl,Nat.le_refl _⟩,hK0.step hAl⟩
  (fun x=>{tmps:=#[Value.pointer (some {block:=B,off:=0}),Value.int IntKind.i64 off,Value.bool b,Value.pointer (some {block:=w.heap.size,off:=0}),Value.pointer (some {block:=w.heap.size+1,off:=0}),Value.pointer (some {block:=w.heap.size+2,off:=0}),Value.pointer (some {block:=w.heap.size+3,off:=0}),Value.pointer (some {block:=w.heap.size+4,off:=0}),Value.pointer (some {block:=wQ.heap.size,off:=0}),.int .i64 (devB x.val),devV x.val,undef,undef,Value.int IntKind.i64 off,Value.bool false,Value.bool false,undef,undef,Value.bool false,Value.int IntKind.i64 off,Value.int IntKind.i64 off,Value.int IntKind.i64 (off%2),Value.int IntKind.i64 reg,Value.pointer (some {block:=B,off:=0}),Value.pointer (some {block:=B,off:=0}),Value.pointer (some {block:=B,off:=83}),Value.slice Al n cl,Value.int IntKind.i64 ↑n,Value.func (Fn.func 75) #[] #[Value.pointer (some {block:=wS.heap.size,off:=0})],.int .i64 (devB x.val),devV x.val,undef,undef,undef,undef,undef,undef,undef,undef,undef,undef,undef,undef,undef,undef,undef,undef],defers:=[]}) ?assign ?body ?done ?stop
 case assign =>
  intro l x W K hK
  dsimp only [encD]
  gi_wp2
  exact hK
 case body =>
  rintro l pre x W ⟨hpr,⟨⟨um,ub,ul,us,ud,ut,hS⟩,hRB,hW⟩,hKw⟩ _
  have hgo:∀ (a':Act) (W':World) (A2:Ma) (v:Int),(∃ vm vb vl vs vd vt,DSt (XY X (w.heap.size+3) (w.heap.size+4)) w0 B g W' A2 vm vb vl vs vd vt)→Kpt B g W W'→A.dRead (reg - devB (Fin.val x)) (Fin.val x)=(A2,v,false)→ownPostG ((wS.alloc (.cells #[.int .i64 n] 3)).heap.size) (KpB wS.heap.size) (fun (pre:List (Fin (n+4))) W=>(∀ x∈pre,(A.dRead (reg - devB (Fin.val x)) (Fin.val x)).2.2=false)∧RgI ([(w.heap.size+3,3,[Value.int .i64 0]),(w.heap.size+4,47,[Value.int .i64 0]),(wQ.heap.size,3,[Value.int .i64 reg]),(w.heap.size,76,[Value.pointer (some ⟨B,0,none⟩)]),(w.heap.size+1,3,[Value.int .i64 off]),(w.heap.size+2,4,[Value.bool b])]) (XY X (w.heap.size+3) (w.heap.size+4)) w0 B g w ((wS.alloc (.cells #[.int .i64 n] 3)).heap.size) A W) (fun (c:Code) (pre:List (Fin (n+4))) W=>c=.ret∧∃ x∈pre,(A.dRead (reg - devB (Fin.val x)) (Fin.val x)).2.2=true∧RgI ([(w.heap.size+3,3,[Value.int .i64 (bytR b off (A.dRead (reg - devB (Fin.val x)) (Fin.val x)).2.1)]),(w.heap.size+4,47,[Value.int .i64 0]),(wQ.heap.size,3,[Value.int .i64 reg]),(w.heap.size,76,[Value.pointer (some ⟨B,0,none⟩)]),(w.heap.size+1,3,[Value.int .i64 off]),(w.heap.size+2,4,[Value.bool b])]) (XY X (w.heap.size+3) (w.heap.size+4)) w0 B g w ((wS.alloc (.cells #[.int .i64 n] 3)).heap.size) (A.dRead (reg - devB (Fin.val x)) (Fin.val x)).1 W) (pre++[x]) W .normal a' W':=fun a' W' A2 v hD hK hx=>by
   obtain rfl:A2=A:=qip hx
   refine ⟨hK.from (by omega) (by omega),hK.same _ (Nat.lt_of_lt_of_le hlt0 hW) (by omega) (by omega),fun y hy=>?_,⟨hD,hRB.kpt hK hR2 (by obtain ⟨_,_,_,_,_,_,hD⟩:=hD;exact hD.bag.below),Nat.le_trans hW hK.size⟩,hKw.trans hK⟩
   rcases List.mem_append.1 hy with hy|hy
   ·exact hpr y hy
   ·rw [List.mem_singleton.1 hy,hx]
  have hret:∀ (a':Act) (W':World) (A2:Ma) (v z:Int),(∃ vm vb vl vs vd vt,DSt (XY X (w.heap.size+3) (w.heap.size+4)) w0 B g W' A2 vm vb vl vs vd vt)→Kpt B g W W'→A.dRead (reg - devB (Fin.val x)) (Fin.val x)=(A2,v,true)→z=bytR b off v→ownPostG ((wS.alloc (.cells #[.int .i64 n] 3)).heap.size) (KpB wS.heap.size) (fun (pre:List (Fin (n+4))) W=>(∀ x∈pre,(A.dRead (reg - devB (Fin.val x)) (Fin.val x)).2.2=false)∧RgI ([(w.heap.size+3,3,[Value.int .i64 0]),(w.heap.size+4,47,[Value.int .i64 0]),(wQ.heap.size,3,[Value.int .i64 reg]),(w.heap.size,76,[Value.pointer (some ⟨B,0,none⟩)]),(w.heap.size+1,3,[Value.int .i64 off]),(w.heap.size+2,4,[Value.bool b])]) (XY X (w.heap.size+3) (w.heap.size+4)) w0 B g w ((wS.alloc (.cells #[.int .i64 n] 3)).heap.size) A W) (fun (c:Code) (pre:List (Fin (n+4))) W=>c=.ret∧∃ x∈pre,(A.dRead (reg - devB (Fin.val x)) (Fin.val x)).2.2=true∧RgI ([(w.heap.size+3,3,[Value.int .i64 (bytR b off (A.dRead (reg - devB (Fin.val x)) (Fin.val x)).2.1)]),(w.heap.size+4,47,[Value.int .i64 0]),(wQ.heap.size,3,[Value.int .i64 reg]),(w.heap.size,76,[Value.pointer (some ⟨B,0,none⟩)]),(w.heap.size+1,3,[Value.int .i64 off]),(w.heap.size+2,4,[Value.bool b])]) (XY X (w.heap.size+3) (w.heap.size+4)) w0 B g w ((wS.alloc (.cells #[.int .i64 n] 3)).heap.size) (A.dRead (reg - devB (Fin.val x)) (Fin.val x)).1 W) (pre++[x]) W .ret a' ((W'.setCell ⟨w.heap.size+3,0,none⟩ (.int .i64 z)).setCell ⟨w.heap.size+4,0,none⟩ (.int .i64 0)):=fun a' W' A2 v z hD hK hx hz=>by
   obtain ⟨tm,tb,tl,ts,td,tt,hD⟩:=hD
   have hRr:=hRB.kpt hK hR2 hD.bag.below
   have hR3:=hRr.set 0 (.int .i64 z)
   have hR4:=(hR3.swap.set 0 (.int .i64 0)).swap
   have hk3:∀ k,k≠w.heap.size+3→(W'.setCell ⟨w.heap.size+3,0,none⟩ (.int .i64 z)).heap[k]? = W'.heap[k]?:=fun k h=>Below.heap_setCell _ _ _ _ h
   have hk4:∀ k,k≠w.heap.size+4→((W'.setCell ⟨w.heap.size+3,0,none⟩ (.int .i64 z)).setCell ⟨w.heap.size+4,0,none⟩ (.int .i64 0)).heap[k]? = (W'.setCell ⟨w.heap.size+3,0,none⟩ (.int .i64 z)).heap[k]?:=fun k h=>Below.heap_setCell _ _ _ _ h
   have hD3:=hD.out hk3 (by simp [World.setCell]) (.inr (.inl rfl)) (by omega) (by omega) hR3.below
   have hD4:=hD3.out hk4 (by simp [World.setCell]) (.inr (.inr rfl)) (by omega) (by omega) hR4.below
   have hsz:W'.heap.size=((W'.setCell ⟨w.heap.size+3,0,none⟩ (.int .i64 z)).setCell ⟨w.heap.size+4,0,none⟩ (.int .i64 0)).heap.size:=by simp [World.setCell]
   have hk5:∀ k,k≠w.heap.size+3→k≠w.heap.size+4→((W'.setCell ⟨w.heap.size+3,0,none⟩ (.int .i64 z)).setCell ⟨w.heap.size+4,0,none⟩ (.int .i64 0)).heap[k]? = W'.heap[k]?:=fun k h1 h2=>(hk4 k h2).trans (hk3 k h1)
   generalize ((W'.setCell ⟨w.heap.size+3,0,none⟩ (.int .i64 z)).setCell ⟨w.heap.size+4,0,none⟩ (.int .i64 0))=W5 at hR4 hD4 hsz hk5 ⊢
   refine ⟨⟨by rw [← hsz];exact hK.size,fun k o hB hk hc=>?_⟩,rfl,x,by simp,by rw [hx],⟨⟨_,_,_,_,_,_,by rw [hx];exact hD4⟩,by rw [hx];rw [hz] at hR4;exact hR4,by rw [← hsz];exact Nat.le_trans hW hK.size⟩,⟨by rw [← hsz];exact (hKw.trans hK).size,fun k hk h1 h2=>(hk5 k (by omega) (by omega)).trans ((hKw.trans hK).same k hk h1 h2)⟩⟩
   have hB':wS.heap.size+1≤k:=by simpa using hB
   exact (hk5 k (by omega) (by omega)).trans ((hK.same k (Array.getElem?_eq_some_iff.1 hk).1 (by omega) (by omega)).trans hk)
  generalize (ownPostG _ _ _ _ (pre++[x]) W)=PQ at hgo hret ⊢
  have hcm:=(hRB.all _ _ _ (.tail _ (.tail _ (.tail _ (.head _))))).cell (k:=0) rfl
  have hcr:=(hRB.all _ _ _ (.tail _ (.tail _ (.head _)))).cell (k:=0) rfl
  obtain ⟨q,hq⟩:=x
  have hq5:q=0∨q=1∨q=2∨q=3∨∃ k,q=k+4:=by
   rcases Nat.lt_or_ge q 4 with h|h
   ·omega
   ·exact .inr (.inr (.inr (.inr ⟨q - 4,by omega⟩)))
  dsimp only at hgo hret
  have hby:∀ (v:Int) (w:World),Calls Tryz.prog 87 #[.int .i64 v,.int .i64 off] w fun e' w'=>e'=.returned (.int .i64 (v%256))∧w=w':=fun v w=>by
   have h:=qg8 v off ho0 w
   rw [if_neg ho] at h
   exact h
  rcases hq5 with rfl|rfl|rfl|rfl|⟨k,rfl⟩
  ·obtain ⟨⟨A2,v,ok⟩,hd⟩:∃ p,A.dRead reg 0=p:=⟨_,rfl⟩
   have hc:Calls Tryz.prog 160 #[(.agg #[]),.pointer (some ⟨B,0,none⟩),.int .i64 reg] W (DevS (XY X (w.heap.size+3) (w.heap.size+4)) w0 B g W A2 (.tuple #[.int .i64 v,.bool ok])):=by
    have h:PRd (XY X (w.heap.size+3) (w.heap.size+4)) w0 B g W A 160 (.agg #[]) reg 0:=prd_0 hA hR hS hgP reg
    unfold PRd at h
    rw [hd] at h
    exact h
   have hwq:IntKind.i64.wrap reg=reg:=by rw [qaf];unfold wrap64;omega
   have hm:∀ (m:Nat) (w:World),(method (m+1) 133 (.agg #[]) "emulator/bus.read").run Tryz.prog w=.ok (160,(.agg #[])) w:=fun _ _=>by kernel_rfl
   dsimp only [devV,devB]
   cases ok
   ·gi_wp2_with (refine ⟨trivial,?_⟩;gi_at_call 160;refine (CallsIn.inRound l (callsIn_wide.2 hc)).mono ?_;rintro e wr ⟨rfl,hD,hK⟩)
    exact hgo _ _ _ _ hD hK (by rw [show reg - devB 0=reg from Int.sub_zero reg];exact hd)
   ·cases b
    ·gi_wp2_with (first|(refine ⟨trivial,?_⟩;gi_at_call 160;refine (CallsIn.inRound l (callsIn_wide.2 hc)).mono ?_;rintro e wr ⟨rfl,⟨tm,tb,tl,ts,td,tt,hD⟩,hK⟩;have hRr:=hRB.kpt hK hR2 hD.bag.below;have hc1:=(hRr.all _ _ _ (.tail _ (.tail _ (.tail _ (.tail _ (.head _)))))).cell (k:=0) rfl;have hc2:=(hRr.all _ _ _ (.tail _ (.tail _ (.tail _ (.tail _ (.tail _ (.head _))))))).cell (k:=0) rfl;have hc3:=(hRr.all _ _ _ (.head _)).cell (k:=0) rfl;have hf3:=Blk.frozen (hRr.all _ _ _ (.head _)) 0;have hR4:=(hRr.set 0 (.int .i64 v)).swap;have hc4:=(hR4.all _ _ _ (.head _)).cell (k:=0) rfl;have hf4:=Blk.frozen (hR4.all _ _ _ (.head _)) 0))
     exact hret _ _ _ _ _ ⟨_,_,_,_,_,_,hD⟩ hK (by rw [show reg - devB 0=reg from Int.sub_zero reg];exact hd) rfl
    ·gi_wp2_with (first|(refine ⟨trivial,?_⟩;gi_at_call 160;refine (CallsIn.inRound l (callsIn_wide.2 hc)).mono ?_;rintro e wr ⟨rfl,⟨tm,tb,tl,ts,td,tt,hD⟩,hK⟩;have hRr:=hRB.kpt hK hR2 hD.bag.below;have hc1:=(hRr.all _ _ _ (.tail _ (.tail _ (.tail _ (.tail _ (.head _)))))).cell (k:=0) rfl;have hc2:=(hRr.all _ _ _ (.tail _ (.tail _ (.tail _ (.tail _ (.tail _ (.head _))))))).cell (k:=0) rfl;have hc3:=(hRr.all _ _ _ (.head _)).cell (k:=0) rfl;have hf3:=Blk.frozen (hRr.all _ _ _ (.head _)) 0;have hR4:=(hRr.set 0 (.int .i64 (v%256))).swap;have hc4:=(hR4.all _ _ _ (.head _)).cell (k:=0) rfl;have hf4:=Blk.frozen (hR4.all _ _ _ (.head _)) 0)|(refine ⟨trivial,?_⟩;gi_at_call 87;refine (CallsIn.inRound l (callsIn_wide.2 (hby v _))).mono ?_;rintro e wb ⟨rfl,rfl⟩))
     exact hret _ _ _ _ _ ⟨_,_,_,_,_,_,hD⟩ hK (by rw [show reg - devB 0=reg from Int.sub_zero reg];exact hd) (by unfold bytR;rw [if_neg (by simp),if_neg ho])
  ·obtain ⟨⟨A2,v,ok⟩,hd⟩:∃ p,A.dRead (reg - 256) 1=p:=⟨_,rfl⟩
   have hc:Calls Tryz.prog 180 #[(.agg #[]),.pointer (some ⟨B,0,none⟩),.int .i64 (reg - 256)] W (DevS (XY X (w.heap.size+3) (w.heap.size+4)) w0 B g W A2 (.tuple #[.int .i64 v,.bool ok])):=by
    have h:PRd (XY X (w.heap.size+3) (w.heap.size+4)) w0 B g W A 180 (.agg #[]) (reg - 256) 1:=prd_1 hA hS (reg - 256)
    unfold PRd at h
    rw [hd] at h
    exact h
   have hwq:IntKind.i64.wrap (reg - 256)=(reg - 256):=by rw [qaf];unfold wrap64;omega
   have hm:∀ (m:Nat) (w:World),(method (m+1) 134 (.agg #[]) "emulator/bus.read").run Tryz.prog w=.ok (180,(.agg #[])) w:=fun _ _=>by kernel_rfl
   dsimp only [devV,devB]
   cases ok
   ·gi_wp2_with (refine ⟨trivial,?_⟩;gi_at_call 180;refine (CallsIn.inRound l (callsIn_wide.2 hc)).mono ?_;rintro e wr ⟨rfl,hD,hK⟩)
    exact hgo _ _ _ _ hD hK hd
   ·cases b
    ·gi_wp2_with (first|(refine ⟨trivial,?_⟩;gi_at_call 180;refine (CallsIn.inRound l (callsIn_wide.2 hc)).mono ?_;rintro e wr ⟨rfl,⟨tm,tb,tl,ts,td,tt,hD⟩,hK⟩;have hRr:=hRB.kpt hK hR2 hD.bag.below;have hc1:=(hRr.all _ _ _ (.tail _ (.tail _ (.tail _ (.tail _ (.head _)))))).cell (k:=0) rfl;have hc2:=(hRr.all _ _ _ (.tail _ (.tail _ (.tail _ (.tail _ (.tail _ (.head _))))))).cell (k:=0) rfl;have hc3:=(hRr.all _ _ _ (.head _)).cell (k:=0) rfl;have hf3:=Blk.frozen (hRr.all _ _ _ (.head _)) 0;have hR4:=(hRr.set 0 (.int .i64 v)).swap;have hc4:=(hR4.all _ _ _ (.head _)).cell (k:=0) rfl;have hf4:=Blk.frozen (hR4.all _ _ _ (.head _)) 0))
     exact hret _ _ _ _ _ ⟨_,_,_,_,_,_,hD⟩ hK hd rfl
    ·gi_wp2_with (first|(refine ⟨trivial,?_⟩;gi_at_call 180;refine (CallsIn.inRound l (callsIn_wide.2 hc)).mono ?_;rintro e wr ⟨rfl,⟨tm,tb,tl,ts,td,tt,hD⟩,hK⟩;have hRr:=hRB.kpt hK hR2 hD.bag.below;have hc1:=(hRr.all _ _ _ (.tail _ (.tail _ (.tail _ (.tail _ (.head _)))))).cell (k:=0) rfl;have hc2:=(hRr.all _ _ _ (.tail _ (.tail _ (.tail _ (.tail _ (.tail _ (.head _))))))).cell (k:=0) rfl;have hc3:=(hRr.all _ _ _ (.head _)).cell (k:=0) rfl;have hf3:=Blk.frozen (hRr.all _ _ _ (.head _)) 0;have hR4:=(hRr.set 0 (.int .i64 (v%256))).swap;have hc4:=(hR4.all _ _ _ (.head _)).cell (k:=0) rfl;have hf4:=Blk.frozen (hR4.all _ _ _ (.head _)) 0)|(refine ⟨trivial,?_⟩;gi_at_call 87;refine (CallsIn.inRound l (callsIn_wide.2 (hby v _))).mono ?_;rintro e wb ⟨rfl,rfl⟩))
     exact hret _ _ _ _ _ ⟨_,_,_,_,_,_,hD⟩ hK hd (by unfold bytR;rw [if_neg (by simp),if_neg ho])
  ·obtain ⟨⟨A2,v,ok⟩,hd⟩:∃ p,A.dRead (reg - 768) 2=p:=⟨_,rfl⟩
   have hc:Calls Tryz.prog 195 #[(.agg #[]),.pointer (some ⟨B,0,none⟩),.int .i64 (reg - 768)] W (DevS (XY X (w.heap.size+3) (w.heap.size+4)) w0 B g W A2 (.tuple #[.int .i64 v,.bool ok])):=by
    have h:PRd (XY X (w.heap.size+3) (w.heap.size+4)) w0 B g W A 195 (.agg #[]) (reg - 768) 2:=prd_2 hA hR hS hgP (reg - 768)
    unfold PRd at h
    rw [hd] at h
    exact h
   have hwq:IntKind.i64.wrap (reg - 768)=(reg - 768):=by rw [qaf];unfold wrap64;omega
   have hm:∀ (m:Nat) (w:World),(method (m+1) 135 (.agg #[]) "emulator/bus.read").run Tryz.prog w=.ok (195,(.agg #[])) w:=fun _ _=>by kernel_rfl
   dsimp only [devV,devB]
   cases ok
   ·gi_wp2_with (refine ⟨trivial,?_⟩;gi_at_call 195;refine (CallsIn.inRound l (callsIn_wide.2 hc)).mono ?_;rintro e wr ⟨rfl,hD,hK⟩)
    exact hgo _ _ _ _ hD hK hd
   ·cases b
    ·gi_wp2_with (first|(refine ⟨trivial,?_⟩;gi_at_call 195;refine (CallsIn.inRound l (callsIn_wide.2 hc)).mono ?_;rintro e wr ⟨rfl,⟨tm,tb,tl,ts,td,tt,hD⟩,hK⟩;have hRr:=hRB.kpt hK hR2 hD.bag.below;have hc1:=(hRr.all _ _ _ (.tail _ (.tail _ (.tail _ (.tail _ (.head _)))))).cell (k:=0) rfl;have hc2:=(hRr.all _ _ _ (.tail _ (.tail _ (.tail _ (.tail _ (.tail _ (.head _))))))).cell (k:=0) rfl;have hc3:=(hRr.all _ _ _ (.head _)).cell (k:=0) rfl;have hf3:=Blk.frozen (hRr.all _ _ _ (.head _)) 0;have hR4:=(hRr.set 0 (.int .i64 v)).swap;have hc4:=(hR4.all _ _ _ (.head _)).cell (k:=0) rfl;have hf4:=Blk.frozen (hR4.all _ _ _ (.head _)) 0))
     exact hret _ _ _ _ _ ⟨_,_,_,_,_,_,hD⟩ hK hd rfl
    ·gi_wp2_with (first|(refine ⟨trivial,?_⟩;gi_at_call 195;refine (CallsIn.inRound l (callsIn_wide.2 hc)).mono ?_;rintro e wr ⟨rfl,⟨tm,tb,tl,ts,td,tt,hD⟩,hK⟩;have hRr:=hRB.kpt hK hR2 hD.bag.below;have hc1:=(hRr.all _ _ _ (.tail _ (.tail _ (.tail _ (.tail _ (.head _)))))).cell (k:=0) rfl;have hc2:=(hRr.all _ _ _ (.tail _ (.tail _ (.tail _ (.tail _ (.tail _ (.head _))))))).cell (k:=0) rfl;have hc3:=(hRr.all _ _ _ (.head _)).cell (k:=0) rfl;have hf3:=Blk.frozen (hRr.all _ _ _ (.head _)) 0;have hR4:=(hRr.set 0 (.int .i64 (v%256))).swap;have hc4:=(hR4.all _ _ _ (.head _)).cell (k:=0) rfl;have hf4:=Blk.frozen (hR4.all _ _ _ (.head _)) 0)|(refine ⟨trivial,?_⟩;gi_at_call 87;refine (CallsIn.inRound l (callsIn_wide.2 (hby v _))).mono ?_;rintro e wb ⟨rfl,rfl⟩))
     exact hret _ _ _ _ _ ⟨_,_,_,_,_,_,hD⟩ hK hd (by unfold bytR;rw [if_neg (by simp),if_neg ho])
  ·obtain ⟨⟨A2,v,ok⟩,hd⟩:∃ p,A.dRead (reg - 800) 3=p:=⟨_,rfl⟩
   have hc:Calls Tryz.prog 233 #[(.agg #[]),.pointer (some ⟨B,0,none⟩),.int .i64 (reg - 800)] W (DevS (XY X (w.heap.size+3) (w.heap.size+4)) w0 B g W A2 (.tuple #[.int .i64 v,.bool ok])):=by
    have h:PRd (XY X (w.heap.size+3) (w.heap.size+4)) w0 B g W A 233 (.agg #[]) (reg - 800) 3:=prd_3 hA hR hS hgP (reg - 800)
    unfold PRd at h
    rw [hd] at h
    exact h
   have hwq:IntKind.i64.wrap (reg - 800)=(reg - 800):=by rw [qaf];unfold wrap64;omega
   have hm:∀ (m:Nat) (w:World),(method (m+1) 136 (.agg #[]) "emulator/bus.read").run Tryz.prog w=.ok (233,(.agg #[])) w:=fun _ _=>by kernel_rfl
   dsimp only [devV,devB]
   cases ok
   ·gi_wp2_with (refine ⟨trivial,?_⟩;gi_at_call 233;refine (CallsIn.inRound l (callsIn_wide.2 hc)).mono ?_;rintro e wr ⟨rfl,hD,hK⟩)
    exact hgo _ _ _ _ hD hK hd
   ·cases b
    ·gi_wp2_with (first|(refine ⟨trivial,?_⟩;gi_at_call 233;refine (CallsIn.inRound l (callsIn_wide.2 hc)).mono ?_;rintro e wr ⟨rfl,⟨tm,tb,tl,ts,td,tt,hD⟩,hK⟩;have hRr:=hRB.kpt hK hR2 hD.bag.below;have hc1:=(hRr.all _ _ _ (.tail _ (.tail _ (.tail _ (.tail _ (.head _)))))).cell (k:=0) rfl;have hc2:=(hRr.all _ _ _ (.tail _ (.tail _ (.tail _ (.tail _ (.tail _ (.head _))))))).cell (k:=0) rfl;have hc3:=(hRr.all _ _ _ (.head _)).cell (k:=0) rfl;have hf3:=Blk.frozen (hRr.all _ _ _ (.head _)) 0;have hR4:=(hRr.set 0 (.int .i64 v)).swap;have hc4:=(hR4.all _ _ _ (.head _)).cell (k:=0) rfl;have hf4:=Blk.frozen (hR4.all _ _ _ (.head _)) 0))
     exact hret _ _ _ _ _ ⟨_,_,_,_,_,_,hD⟩ hK hd rfl
    ·gi_wp2_with (first|(refine ⟨trivial,?_⟩;gi_at_call 233;refine (CallsIn.inRound l (callsIn_wide.2 hc)).mono ?_;rintro e wr ⟨rfl,⟨tm,tb,tl,ts,td,tt,hD⟩,hK⟩;have hRr:=hRB.kpt hK hR2 hD.bag.below;have hc1:=(hRr.all _ _ _ (.tail _ (.tail _ (.tail _ (.tail _ (.head _)))))).cell (k:=0) rfl;have hc2:=(hRr.all _ _ _ (.tail _ (.tail _ (.tail _ (.tail _ (.tail _ (.head _))))))).cell (k:=0) rfl;have hc3:=(hRr.all _ _ _ (.head _)).cell (k:=0) rfl;have hf3:=Blk.frozen (hRr.all _ _ _ (.head _)) 0;have hR4:=(hRr.set 0 (.int .i64 (v%256))).swap;have hc4:=(hR4.all _ _ _ (.head _)).cell (k:=0) rfl;have hf4:=Blk.frozen (hR4.all _ _ _ (.head _)) 0)|(refine ⟨trivial,?_⟩;gi_at_call 87;refine (CallsIn.inRound l (callsIn_wide.2 (hby v _))).mono ?_;rintro e wb ⟨rfl,rfl⟩))
     exact hret _ _ _ _ _ ⟨_,_,_,_,_,_,hD⟩ hK hd (by unfold bytR;rw [if_neg (by simp),if_neg ho])
  ·obtain ⟨⟨A2,v,ok⟩,hd⟩:∃ p,A.dRead (reg - (512+8*(k:Int))) (k+4)=p:=⟨_,rfl⟩
   have hc:Calls Tryz.prog 266 #[(.int .i64 k),.pointer (some ⟨B,0,none⟩),.int .i64 (reg - (512+8*(k:Int)))] W (DevS (XY X (w.heap.size+3) (w.heap.size+4)) w0 B g W A2 (.tuple #[.int .i64 v,.bool ok])):=by
    have h:PRd (XY X (w.heap.size+3) (w.heap.size+4)) w0 B g W A 266 (.int .i64 k) (reg - (512+8*(k:Int))) (k+4):=prd_4 hA hR hS (reg - (512+8*(k:Int))) k (by omega)
    unfold PRd at h
    rw [hd] at h
    exact h
   have hwq:IntKind.i64.wrap (reg - (512+8*(k:Int)))=(reg - (512+8*(k:Int))):=by rw [qaf];unfold wrap64;omega
   have hm:∀ (m:Nat) (w:World),(method (m+1) 137 (.int .i64 k) "emulator/bus.read").run Tryz.prog w=.ok (266,(.int .i64 k)) w:=fun _ _=>by kernel_rfl
   dsimp only [devV,devB]
   cases ok
   ·gi_wp2_with (refine ⟨trivial,?_⟩;gi_at_call 266;refine (CallsIn.inRound l (callsIn_wide.2 hc)).mono ?_;rintro e wr ⟨rfl,hD,hK⟩)
    exact hgo _ _ _ _ hD hK hd
   ·cases b
    ·gi_wp2_with (first|(refine ⟨trivial,?_⟩;gi_at_call 266;refine (CallsIn.inRound l (callsIn_wide.2 hc)).mono ?_;rintro e wr ⟨rfl,⟨tm,tb,tl,ts,td,tt,hD⟩,hK⟩;have hRr:=hRB.kpt hK hR2 hD.bag.below;have hc1:=(hRr.all _ _ _ (.tail _ (.tail _ (.tail _ (.tail _ (.head _)))))).cell (k:=0) rfl;have hc2:=(hRr.all _ _ _ (.tail _ (.tail _ (.tail _ (.tail _ (.tail _ (.head _))))))).cell (k:=0) rfl;have hc3:=(hRr.all _ _ _ (.head _)).cell (k:=0) rfl;have hf3:=Blk.frozen (hRr.all _ _ _ (.head _)) 0;have hR4:=(hRr.set 0 (.int .i64 v)).swap;have hc4:=(hR4.all _ _ _ (.head _)).cell (k:=0) rfl;have hf4:=Blk.frozen (hR4.all _ _ _ (.head _)) 0))
     exact hret _ _ _ _ _ ⟨_,_,_,_,_,_,hD⟩ hK hd rfl
    ·gi_wp2_with (first|(refine ⟨trivial,?_⟩;gi_at_call 266;refine (CallsIn.inRound l (callsIn_wide.2 hc)).mono ?_;rintro e wr ⟨rfl,⟨tm,tb,tl,ts,td,tt,hD⟩,hK⟩;have hRr:=hRB.kpt hK hR2 hD.bag.below;have hc1:=(hRr.all _ _ _ (.tail _ (.tail _ (.tail _ (.tail _ (.head _)))))).cell (k:=0) rfl;have hc2:=(hRr.all _ _ _ (.tail _ (.tail _ (.tail _ (.tail _ (.tail _ (.head _))))))).cell (k:=0) rfl;have hc3:=(hRr.all _ _ _ (.head _)).cell (k:=0) rfl;have hf3:=Blk.frozen (hRr.all _ _ _ (.head _)) 0;have hR4:=(hRr.set 0 (.int .i64 (v%256))).swap;have hc4:=(hR4.all _ _ _ (.head _)).cell (k:=0) rfl;have hf4:=Blk.frozen (hR4.all _ _ _ (.head _)) 0)|(refine ⟨trivial,?_⟩;gi_at_call 87;refine (CallsIn.inRound l (callsIn_wide.2 (hby v _))).mono ?_;rintro e wb ⟨rfl,rfl⟩))
     exact hret _ _ _ _ _ ⟨_,_,_,_,_,_,hD⟩ hK hd (by unfold bytR;rw [if_neg (by simp),if_neg ho])
 case done =>
  rintro D xs W hD hSD ⟨hpr,⟨⟨um,ub,ul,us,ud,ut,hS⟩,hRB,hW⟩,hKw⟩ hKd
  have hrg:reg=off / 2*2:=by omega
  have hr:A.regR off b=(A,0,1):=by
   have h:=qum A hl0 (off:=reg) fun k hk=>by
    have h1:k∈xs.map Fin.val:=by rw [show xs.map Fin.val=List.range (n+4) from hSD];exact List.mem_range.2 (by omega)
    obtain ⟨x,hx,rfl⟩:=List.mem_map.1 h1
    rw [← qcf]
    exact hpr x hx
   rw [hrg] at h
   unfold Ma.regR
   by_cases c:b=false∧off%2=1
   ·rw [if_pos c]
   ·rw [if_neg c,if_pos h]
  clear hrg
  have hD':wS.heap.size+1≤D:=by simpa using hD
  go_wp2_with (first|((with_reducible refine qa9 3 ?_);refine stk1 (k:=0) (cs':=[Value.int .i64 0]) hRB qbu rfl (by simp) rfl ?_;intro wT hY hkT;replace hKd:=(hkT D (by omega)).trans hKd;replace hS:=hS.out hkT (qa7 hkT (hY.all _ _ _ (.head _))) (.inr (.inl rfl)) (by omega) (by omega) hY.below;replace hKw:=hKw.out hkT (qa7 hkT (hY.all _ _ _ (.head _))) (by omega))|((with_reducible refine qa9 47 ?_);refine stk1 (k:=0) (cs':=[Value.int .i64 1]) hY.swap qdp rfl (by simp) rfl ?_;intro wU hZ hkU;replace hKd:=(hkU D (by omega)).trans hKd;replace hS:=hS.out hkU (qa7 hkU (hZ.all _ _ _ (.head _))) (.inr (.inr rfl)) (by omega) (by omega) hZ.below;replace hKw:=hKw.out hkU (qa7 hkU (hZ.all _ _ _ (.head _))) (by omega)))
  refine ⟨by simp,.inl ⟨_,_,rfl,run_takeDeferred hKd,?_⟩⟩
  have hgr:=grownBy_putObj' wU D (.deferred none)
  have hnc:∀ r,some D=some r→w0.heap.size≤r∧NoCells wU r:=fun r e=>by cases e;exact ⟨by omega,_,hKd,rfl⟩
  have hX3:=hZ.grown hgr hnc
  rw [hr]
  exact ⟨_,qdd (by rfl) rfl rfl ((hX3.all _ _ _ (.tail _ (.head _))).loadVarC (k:=0) rfl qao) ((hX3.all _ _ _ (.head _)).loadVarC (k:=0) rfl qb5),rfl,⟨_,_,_,_,_,_,(hS.grown hgr hnc).less fun b q=>.inl q⟩,hKw.grown hgr (by omega)⟩
 case stop =>
  rintro D c pre W hD _ ⟨rfl,x,hx,hf,⟨⟨um,ub,ul,us,ud,ut,hS⟩,hRB,hW⟩,hKw⟩ hKd
  have hrg:reg=off / 2*2:=by omega
  have hr:A.regR off b=((A.dRead (reg - devB (Fin.val x)) (Fin.val x)).1,bytR b off (A.dRead (reg - devB (Fin.val x)) (Fin.val x)).2.1,0):=by
   have h:=rd_hit A hl0 (off:=reg) (k:=x.val) (by have:=x.isLt;omega) (by rw [← qcf];exact hf)
   rw [← qcf,hrg] at h
   unfold Ma.regR
   rw [h,if_neg (by simp;omega),if_neg (by rw [hrg] at hf;rw [hf];simp)]
   rw [hrg]
  clear hrg
  rw [hr]
  have hD':wS.heap.size+1≤D:=by simpa using hD
  gi_wp2
  refine ⟨by simp,.inl ⟨_,_,rfl,run_takeDeferred hKd,?_⟩⟩
  have hgr:=grownBy_putObj' W D (.deferred none)
  have hnc:∀ r,some D=some r→w0.heap.size≤r∧NoCells W r:=fun r e=>by cases e;exact ⟨by omega,_,hKd,rfl⟩
  have hX3:=hRB.grown hgr hnc
  exact ⟨_,qdd (by rfl) rfl rfl ((hX3.all _ _ _ (.head _)).loadVarC (k:=0) rfl qao) ((hX3.all _ _ _ (.tail _ (.head _))).loadVarC (k:=0) rfl qb5),rfl,⟨_,_,_,_,_,_,(hS.grown hgr hnc).less fun b q=>.inl q⟩,hKw.grown hgr (by omega)⟩
end Go.Proofs.YthpnddgfgpacpaaGreat
