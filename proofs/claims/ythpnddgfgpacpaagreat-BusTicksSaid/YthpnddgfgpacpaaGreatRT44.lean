import Derived.Test.YthpnddgfgpacpaaGreatRT40
import Derived.Test.YthpnddgfgpacpaaGreatRT42
import Derived.Test.YthpnddgfgpacpaaGreatRT11
import Derived.Test.YthpnddgfgpacpaaGreatRT43
import Derived.Test.YthpnddgfgpacpaaGreatRT14
import Derived.Test.YthpnddgfgpacpaaGreatRT41
import Derived.Test.YthpnddgfgpacpaaGreatRT22
namespace Go.Proofs.YthpnddgfgpacpaaGreat
open Go.RowKit Go.Shelf
set_option linter.unusedSimpArgs false
set_option linter.unusedVariables false
set_option maxHeartbeats 4000000
set_option maxRecDepth 100000
attribute [local irreducible] wpQuiet
attribute [local go_sem] Oper.semAt_some
theorem qpu (A:Ma) (hA:A.ok) (hR:A.right=true) (vm vb vl vs vd vt:Value) (X:Nat→Prop) (w:World) (hXl:∀ b,X b→b<w.heap.size) (hV:MaV X w A vm vb vl vs vd vt):Calls Tryz.prog 18 #[.agg (A.cells vm vb vl vs vd vt).toArray] w fun e' w'=>∃ x,e'=.returned x∧MaX X w' x A.tick∧Below w.heap.size w w':=by
 have hX:=qhw w (A.cells vm vb vl vs vd vt)
 replace hX:=hX.swap
 have hl4:=(Ma.parts hR).1
 have hcl:=fun (wz:World) (hb:Below w.heap.size w wz)=>qoj A.L vl wz (by omega) (Rz.below hV.l.now hb)
 refine (callsIn_wide (n:=5)).1 ?_
 refine callsIn_of_wp_marks Tryz.func18 rfl trivial ?_ rfl
 refine wpIn_wide.2 ?_
 simp only [Tryz.ntmps18,List.size_toArray,List.length_cons,List.length_nil,Nat.reduceAdd,Nat.reduceSub,Array.replicate_succ,Array.replicate_zero,List.push_toArray,List.append_toArray,List.nil_append,List.cons_append]
 go_upto_region 1 with (first|((with_reducible refine qbs ?_);refine qba rfl rfl ?_))
 generalize ((w.alloc (Obj.cells (A.cells vm vb vl vs vd vt).toArray 44)).alloc (Obj.cells mzL.toArray 44))=wQ at hX ⊢
 go_wp2_with (first|((with_reducible refine qay 35 ?_);refine ldc (hk:=qcg (Ma.len hA _ _ _)) hX qax ?_)|(go_at_call 48;(with_reducible refine (hcl _ hX.below).mono ?_);rintro e' wc ⟨nl,rfl,ql,hbb⟩;replace ql:=qaz ql (show w.heap.size+2≤_ from by have h1:=qat hX;have h2:=qat hX.swap;omega);replace hX:=hX.step hbb;obtain ⟨Al,cl,rfl,_,_⟩:=Rw.of_own ql;clear hbb)|((with_reducible refine qa9 35 ?_);refine stk1 hX qgx (Ma.set_l (A:=A) hA A.L _) (by rw [Ma.clen (A:=A) hA];decide) rfl ?_;intro wS hY hkS;replace ql:=qac hX ql (by decide) hkS;replace hX:=hY;clear hY hkS)|(go_at_call 29;(with_reducible refine (qef _ _).mono ?_);rintro e' wd ⟨rfl,rfl⟩))
 clear hcl
 have hN:w.heap.size+2≤wS.heap.size:=by have h0:=(hX.all _ _ _ (.head _)).lt;have h1:=(hX.all _ _ _ (.tail _ (.head _))).lt;omega
 have hY:∀ g b,(g=w.heap.size∨w.heap.size+2≤g∧∃ cur,wS.heap[g]? = some (.cells cur 68 (0,0)))→b<w.heap.size→XY (XR X (w.heap.size+1)) w.heap.size g b→X b:=fun g b hg hb q=>by
  rcases q with (q|rfl)|rfl|rfl
  ·exact q
  ·omega
  ·omega
  ·omega
 obtain ⟨g,hS,hg⟩:∃ g,DSt (XR X (w.heap.size+1)) w w.heap.size g wS A vm vb (.slice Al A.L.length cl) vs vd vt∧(g=w.heap.size∨w.heap.size+2≤g∧∃ cur,wS.heap[g]? = some (.cells cur 68 (0,0))):=DSt.fresh (fun b q=>by rcases q with q|rfl;(have:=hXl b q;omega);omega) hN hX.drop2 (by omega:w.heap.size<w.heap.size+2) (by omega) (fun g hg=>⟨Sv.weak hV.m hX.below fun b hb=>hY g b hg hb,Sv.weak hV.b hX.below fun b hb=>hY g b hg hb,Sv.weak hV.s hX.below fun b hb=>hY g b hg hb,Sv.weak hV.d hX.below fun b hb=>hY g b hg hb,Sv.weak hV.t hX.below fun b hb=>hY g b hg hb⟩) ql
 clear hY ql hV
 have hRB:=hX.drop1
 have hR2:∀ b∈[(w.heap.size+1,44,mzL)],b.1≠w.heap.size∧b.1≠g:=fun b hb=>by
  simp only [List.mem_cons,List.not_mem_nil,or_false] at hb
  rcases hb with rfl
  ·exact ⟨by simp only;omega,by simp only;omega⟩
 have hgl:g<wS.heap.size:=hS.xl g (.inr (.inr rfl))
 clear hX
 obtain ⟨n,hn⟩:∃ n,A.L.length=n:=⟨_,rfl⟩
 rw [hn] at hl4 ⊢
 have hAl:=(Below.refl wS.heap.size wS).alloc (Nat.le_refl _) (.cells #[.int .i64 n] 3)
 have hc0:(wS.alloc (.cells #[.int .i64 n] 3)).cell? ⟨wS.heap.size,0,none⟩=some (.int .i64 n):=(Blk.new 3 wS [.int .i64 n]).cell (k:=0) rfl
 have hlt0:wS.heap.size<(wS.alloc (.cells #[.int .i64 n] 3)).heap.size:=by simp
 refine (wpIn_wide (n:=5)).1 ?_
 refine wpIn_rangeFunc_ownG (F:=Fence.wide) (n:=5) rfl (by omega) (gf:=75) (lb:=#[.pointer (some ⟨wS.heap.size,0,none⟩)]) rfl trivial (enters_of Tryz.func75 (by kernel_rfl) rfl) (qea 4 (by omega) wS.heap.size n (by omega) _ hc0 hlt0) (fun h k=>KpB.trans h k) (qgi hlt0) (Below.refl _ _) (fun _=>rfl)
  (fun pre W=>LpI [(w.heap.size+1,44,mzL)] (XR X (w.heap.size+1)) w w.heap.size g (wS.alloc (.cells #[.int .i64 n] 3)).heap.size (pre.foldl (fun a (x:Fin (n+4))=>a.dTick x.val) A) W) (fun _ _ _=>False) (LpI.own _ (by simp;omega)) (fun _ _ _ _ _ hs _ _=>hs) ⟨⟨_,_,_,_,_,_,hS.step hAl⟩,hRB.step hAl,Nat.le_refl _⟩
  (fun x=>{tmps:=#[Value.agg (A.cells vm vb vl vs vd vt).toArray,Value.pointer (some {block:=w.heap.size,off:=0}),Value.pointer (some {block:=w.heap.size+1,off:=0}),undef,devV x.val,Value.pointer (some {block:=w.heap.size,off:=83}),vl,Value.slice Al n cl,Value.pointer (some {block:=w.heap.size,off:=83}),Value.pointer (some {block:=w.heap.size,off:=83}),Value.slice Al n cl,Value.int IntKind.i64 ↑n,Value.func (Fn.func 75) #[] #[Value.pointer (some {block:=wS.heap.size,off:=0})],.int .i64 (devB x.val),devV x.val,undef,undef,undef],defers:=[]}) ?assign ?body ?done ?stop
 case assign =>
  intro l x W K hK
  dsimp only [encD]
  gi_wp2
  exact hK
 case body =>
  rintro l pre x W ⟨⟨um,ub,ul,us,ud,ut,hS⟩,hRB,hW⟩ _
  have hfi:(pre.foldl (fun a (x:Fin (n+4))=>a.dTick x.val) A).fine n:=qor (P:=fun A:Ma=>A.fine n) _ (fun b a h=>quf h a) pre A ⟨hA,hR,hn⟩
  have hsn:(pre++[x]).foldl (fun a (x:Fin (n+4))=>a.dTick x.val) A=(pre.foldl (fun a (x:Fin (n+4))=>a.dTick x.val) A).dTick x.val:=by rw [List.foldl_append];rfl
  have hpost:∀ (a':Act) (W':World),(∃ vm vb vl vs vd vt,DSt (XR X (w.heap.size+1)) w w.heap.size g W' ((pre.foldl (fun a (x:Fin (n+4))=>a.dTick x.val) A).dTick x.val) vm vb vl vs vd vt)→Kpt w.heap.size g W W'→ownPostG (wS.alloc (.cells #[.int .i64 n] 3)).heap.size (KpB wS.heap.size) (fun pre W=>LpI [(w.heap.size+1,44,mzL)] (XR X (w.heap.size+1)) w w.heap.size g (wS.alloc (.cells #[.int .i64 n] 3)).heap.size (pre.foldl (fun a (x:Fin (n+4))=>a.dTick x.val) A) W) (fun _ _ _=>False) (pre++[x]) W .normal a' W':=by
   rintro a' W' ⟨vm,vb,vl,vs,vd,vt,hS'⟩ hK
   refine ⟨hK.from (by omega) (by omega),hK.same _ (Nat.lt_of_lt_of_le hlt0 hW) (by omega) (by omega),?_⟩
   show LpI _ _ _ _ _ _ ((pre++[x]).foldl _ A) W'
   rw [hsn]
   exact ⟨⟨_,_,_,_,_,_,hS'⟩,hRB.kpt hK hR2 hS'.bag.below,Nat.le_trans hW hK.size⟩
  generalize (ownPostG _ _ _ _ (pre++[x]) W)=PQ at hpost ⊢
  generalize pre.foldl (fun a (x:Fin (n+4))=>a.dTick x.val) A=Ap at *
  clear hsn
  obtain ⟨q,hq⟩:=x
  have hq5:q=0∨q=1∨q=2∨q=3∨∃ k,q=k+4:=by
   rcases Nat.lt_or_ge q 4 with h|h
   ·omega
   ·exact .inr (.inr (.inr (.inr ⟨q - 4,by omega⟩)))
  rcases hq5 with rfl|rfl|rfl|rfl|⟨k,rfl⟩
  ·have hc:=qq3 Ap um ub ul us ud ut (XR X (w.heap.size+1)) w W w.heap.size g hS
   have hm:∀ (m:Nat) (w:World),(method (m+1) 133 (.agg #[]) "emulator/bus.tick").run Tryz.prog w=.ok (164,(.agg #[])) w:=fun _ _=>by kernel_rfl
   dsimp only [devV,devB]
   gi_wp2_with (refine ⟨trivial,?_⟩;gi_at_call 164;refine (CallsIn.inRound l (callsIn_wide.2 hc)).mono ?_;rintro e wr ⟨rfl,hD,hK⟩)
   exact hpost _ _ hD hK
  ·have hc:=qua Ap hfi.1 hfi.2.1 um ub ul us ud ut (XR X (w.heap.size+1)) w W w.heap.size g hS
   have hm:∀ (m:Nat) (w:World),(method (m+1) 134 (.agg #[]) "emulator/bus.tick").run Tryz.prog w=.ok (184,(.agg #[])) w:=fun _ _=>by kernel_rfl
   dsimp only [devV,devB]
   gi_wp2_with (refine ⟨trivial,?_⟩;gi_at_call 184;refine (CallsIn.inRound l (callsIn_wide.2 hc)).mono ?_;rintro e wr ⟨rfl,hD,hK⟩)
   exact hpost _ _ hD hK
  ·have hc:=qq6 Ap hfi.1 hfi.2.1 um ub ul us ud ut (XR X (w.heap.size+1)) w W w.heap.size g hS
   have hm:∀ (m:Nat) (w:World),(method (m+1) 135 (.agg #[]) "emulator/bus.tick").run Tryz.prog w=.ok (199,(.agg #[])) w:=fun _ _=>by kernel_rfl
   dsimp only [devV,devB]
   gi_wp2_with (refine ⟨trivial,?_⟩;gi_at_call 199;refine (CallsIn.inRound l (callsIn_wide.2 hc)).mono ?_;rintro e wr ⟨rfl,hD,hK⟩)
   exact hpost _ _ hD hK
  ·have hc:=qr8 Ap hfi.1 hfi.2.1 um ub ul us ud ut (XR X (w.heap.size+1)) w W w.heap.size g hS
   have hm:∀ (m:Nat) (w:World),(method (m+1) 136 (.agg #[]) "emulator/bus.tick").run Tryz.prog w=.ok (237,(.agg #[])) w:=fun _ _=>by kernel_rfl
   dsimp only [devV,devB]
   gi_wp2_with (refine ⟨trivial,?_⟩;gi_at_call 237;refine (CallsIn.inRound l (callsIn_wide.2 hc)).mono ?_;rintro e wr ⟨rfl,hD,hK⟩)
   exact hpost _ _ hD hK
  ·have hc:=qul Ap hfi.1 hfi.2.1 k (by rw [hfi.2.2];omega) um ub ul us ud ut (XR X (w.heap.size+1)) w W w.heap.size g hS
   have hm:∀ (m:Nat) (w:World),(method (m+1) 137 (.int .i64 k) "emulator/bus.tick").run Tryz.prog w=.ok (270,(.int .i64 k)) w:=fun _ _=>by kernel_rfl
   dsimp only [devV,devB]
   gi_wp2_with (refine ⟨trivial,?_⟩;gi_at_call 270;refine (CallsIn.inRound l (callsIn_wide.2 hc)).mono ?_;rintro e wr ⟨rfl,hD,hK⟩)
   exact hpost _ _ hD hK
 case done =>
  rintro D xs W hD hSD ⟨⟨um,ub,ul,us,ud,ut,hS⟩,hRB,hW⟩ hKd
  rw [qtp hSD (Ma.dTick),← hn,qud] at hS
  have hX:=hS.bag.two hRB (by simp only;omega)
  have hM:=hS.mav (fun h q=>by
   rcases hg with rfl|⟨hg,_⟩
   ·exact h rfl
   ·rcases q with q|rfl
    ·have:=hXl g q;omega
    ·omega)
  have o1:=hM.o1
  have o2:=hM.o2
  have o3:=hM.o3
  have o4:=hM.o4
  have o5:=hM.o5
  have o6:=hM.o6
  have hD':wS.heap.size+1≤D:=by simpa using hD
  clear hS hRB hg
  have hAt:(A.tick).ok:=Ma.tick_ok hA
  obtain ⟨At,hAe⟩:∃ At,Hid (At=A.tick):=⟨_,hid rfl⟩
  rw [← show At=A.tick from hAe] at hX hM hAt
  go_wp2_with (first|((with_reducible refine qay 44 ?_);refine ldw (hn:=Ma.clen hAt) hX aggM sizM ?_)|((with_reducible refine qa9 44 ?_);refine stw2 hX aggM sizM (Ma.cone hAt o1 o2 o3 o4 o5 o6) (hn:=Ma.clen hAt) (hc:=qcr) ?_;intro wS hY hkS;replace hKd:=(hkS D (by omega)).trans hKd;replace hM:=MaV.to hM (fun b _ q=>hkS b (fun e=>q (.inr e))) (fun b q=>.inl q);replace hX:=hY;clear hY hkS))
  refine ⟨by simp,.inl ⟨_,_,rfl,run_takeDeferred hKd,?_⟩⟩
  have hgr:=grownBy_putObj' wS D (.deferred none)
  have hnc:∀ r,some D=some r→w.heap.size≤r∧NoCells wS r:=fun r e=>by cases e;exact ⟨by omega,_,hKd,rfl⟩
  have hX3:=hX.grown hgr hnc
  have hM3:=hM.grown hgr fun r e=>(hnc r e).2
  refine ⟨_,qaj (by rfl) rfl ((hX3.all _ _ _ (.tail _ (.head _))).loadVar (Ma.clen hAt) aggM sizM),_,rfl,?_,hX3.below⟩
  rw [← show At=A.tick from hAe]
  exact hM3.x
 case stop =>
  rintro D c pre W _ _ h _
  exact h.elim
theorem ng18 {X:Nat→Prop} {g n:Nat} {P:Prop} (hXl:∀ b,X b→b<n) (hg:g=n∨n+2≤g∧P):g≠n→¬ XR X (n+1) g:=fun h q=>by
 rcases hg with rfl|⟨hg,_⟩
 ·exact h rfl
 ·rcases q with q|rfl
  ·have:=hXl g q;omega
  ·omega
theorem qid {M B:List Int} (h:rightP M B=true):B.Pairwise (·<·):=by
 unfold rightP at h
 simp only [Bool.and_eq_true] at h
 exact ((qfm _ _ _).1 h.2.2).2
theorem regR_ok {A:Ma} (h:A.ok) (off:Int) (b:Bool):(A.regR off b).1.ok:=by
 unfold Ma.regR
 repeat' split
 all_goals first|exact h|exact rdR_ok h _
theorem read_reg {A:Ma} {p:Int} (b:Bool) (hp:¬ physP p<253952):A.read p b=A.regR (physP p - 253952) b:=by
 unfold Ma.read Ma.regR bytR
 rw [if_neg hp]
theorem qm0 (A:Ma) (hA:A.ok) (vm vb vl vs vd vt:Value) (X:Nat→Prop) (w0 w:World) (B g:Nat) (hS:DSt X w0 B g w A vm vb vl vs vd vt) (off:Int) (ho0:0≤off) (ho1:off<8192) (ho:off%2=1):Calls Tryz.prog 38 #[.pointer (some ⟨B,0,none⟩),.int .i64 off,.bool false] w (DevS X w0 B g w A (.tuple #[.int .i64 0,.int .i64 1])):=by
 have hX:=qnv w (.pointer (some ⟨B,0,none⟩)) (.int .i64 off) (.bool false) (.int .i64 0) (.int .i64 0)
 have hod:=qen off ho0
 rw [decide_eq_true ho] at hod
 refine (callsIn_wide (n:=5)).1 ?_
 refine callsIn_of_wp_marks Tryz.func38 rfl trivial ?_ rfl
 refine wpIn_wide.2 ?_
 simp only [Tryz.ntmps38,List.size_toArray,List.length_cons,List.length_nil,Nat.reduceAdd,Nat.reduceSub,Array.replicate_succ,Array.replicate_zero,List.push_toArray,List.append_toArray,List.nil_append,List.cons_append]
 go_upto_region 1 with fail
 generalize (((((w.alloc (Obj.cells #[.pointer (some ⟨B,0,none⟩)] 76)).alloc (Obj.cells #[.int .i64 off] 3)).alloc (Obj.cells #[.bool false] 4)).alloc (Obj.cells #[.int .i64 0] 3)).alloc (Obj.cells #[.int .i64 0] 47))=wQ at hX ⊢
 replace hX:=hX.perm (List.perm_append_comm (l₁:=[_,_,_]) (l₂:=[_,_]))
 go_wp2_with (first|((with_reducible refine qay 3 ?_);refine ldc (k:=0) (hm:=.tail _ (.tail _ (.tail _ (.head _)))) hX qao ?_)|((with_reducible refine qay 4 ?_);refine ldc (k:=0) (hm:=.tail _ (.tail _ (.tail _ (.tail _ (.head _))))) hX qbl ?_)|(go_at_call 86;(with_reducible refine (hod _).mono ?_);rintro e' wc ⟨rfl,rfl⟩)|((with_reducible refine qa9 3 ?_);refine stk1 (k:=0) (cs':=[Value.int .i64 0]) hX qbu rfl (by simp) rfl ?_;intro wT hY hkT;clear hX)|((with_reducible refine qa9 47 ?_);refine stk1 (k:=0) (cs':=[Value.int .i64 1]) hY.swap qdp rfl (by simp) rfl ?_;intro wU hZ hkU))
 exact ⟨_,qdd (by rfl) rfl rfl ((hZ.all _ _ _ (.tail _ (.head _))).loadVarC (k:=0) rfl qao) ((hZ.all _ _ _ (.head _)).loadVarC (k:=0) rfl qb5),rfl,⟨_,_,_,_,_,_,hS.step hZ.below⟩,(Kpt.refl B g w).step hZ.below⟩
theorem qlh (A:Ma) (hA:A.ok) (hR:A.right=true) (vm vb vl vs vd vt:Value) (X:Nat→Prop) (w0 w:World) (B g:Nat) (hS:DSt X w0 B g w A vm vb vl vs vd vt) (hgX:g≠B→¬ X g) (off:Int) (ho0:0≤off) (ho1:off<8192) (b:Bool):Calls Tryz.prog 38 #[.pointer (some ⟨B,0,none⟩),.int .i64 off,.bool b] w (DevS X w0 B g w (A.regR off b).1 (.tuple #[.int .i64 (A.regR off b).2.1,.int .i64 (A.regR off b).2.2])):=by
 by_cases ho:off%2=1
 ·cases b
  ·have hr:A.regR off false=(A,0,1):=by unfold Ma.regR;rw [if_pos ⟨rfl,ho⟩]
   rw [hr]
   exact qm0 A hA vm vb vl vs vd vt X w0 w B g hS off ho0 ho1 ho
  ·exact qln A hA hR vm vb vl vs vd vt X w0 w B g hS hgX off ho0 ho1 ho
 ·exact qjt A hA hR vm vb vl vs vd vt X w0 w B g hS hgX off ho0 ho1 ho b
theorem qqi (A:Ma) (hA:A.ok) (hR:A.right=true) (vm vb vl vs vd vt:Value) (X:Nat→Prop) (w:World) (hXl:∀ b,X b→b<w.heap.size) (hV:MaV X w A vm vb vl vs vd vt) (p:Int) (b:Bool):Calls Tryz.prog 13 #[.agg (A.cells vm vb vl vs vd vt).toArray,.int .i64 p,.bool b] w fun e' w'=>∃ x,e'=.returned (.tuple #[x,.int .i64 (A.read p b).2.1,.int .i64 (A.read p b).2.2])∧MaX X w' x (A.read p b).1∧Below w.heap.size w w':=by
 have hX:=qhw w (A.cells vm vb vl vs vd vt)
 replace hX:=hX.swap
 have hMr:=(Ma.parts hR).2.2.1
 have hle:=qfp hMr
 have hcp:=fun (wz:World) (hb:Below w.heap.size w wz)=>qhd A hA (qgg hR) vm vb vl vs vd vt wz (hV.now.step hb)
 have a1:bits .and .i64 p 262143=physP p:=qsi p
 have h9:0≤physP p∧physP p<262144:=by unfold physP;omega
 clear hV
 by_cases hp:physP p<253952
 ·have hr:A.read p b=(A,readV A.M A.B (physP p) b,readT (2*(A.M.length:Int)) A.B (physP p) b):=by unfold Ma.read;rw [if_pos hp]
  rw [hr]
  have hsr:A.B.Pairwise (·<·):=qid hMr
  have hrm:=fun (rm rb:Value) (wz:World) (h1:Its wz rm A.M) (h2:Its wz rb A.B)=>read_any rm rb A.M A.B hle.1 hle.2 hsr (physP p) b wz (Its.nums18 h1) (Its.nums18 h2)
  generalize physP p=P at *
  clear hr
  go_enter Tryz.func13,Tryz.ntmps13
  go_upto_region 1 with (first|((with_reducible refine qbs ?_);refine qba rfl rfl ?_))
  generalize ((w.alloc (Obj.cells (A.cells vm vb vl vs vd vt).toArray 44)).alloc (Obj.cells mzL.toArray 44))=wQ at hX ⊢
  go_wp2_with (first|((with_reducible refine qay 44 ?_);refine ldw (hn:=Ma.clen hA) hX aggM sizM ?_)|(go_at_call 36;(with_reducible refine (hcp _ hX.below).mono ?_);rintro e' wc ⟨nm,nb,nl,ns,nd,nt,rfl,qm,qb,hF,hbb⟩;replace qm:=qaz qm (show w.heap.size+2≤_ from by have h1:=qat hX;have h2:=qat hX.swap;omega);replace qb:=qaz qb (show w.heap.size+2≤_ from by have h1:=qat hX;have h2:=qat hX.swap;omega);replace hF:=hF.base (show w.heap.size+2≤_ from by have h1:=qat hX;have h2:=qat hX.swap;omega);replace hX:=hX.step hbb;have p1:=(Ma.own18 qm).1;have p2:=(Ma.own18 qb).1;have p3:=(Ma.own18 hF.l).1;have p4:=(Ma.own18 hF.s).1;have p5:=(Ma.own18 hF.d).1;have p6:=(Ma.own18 hF.t).1;clear hbb)|((with_reducible refine qa9 44 ?_);refine stw hX aggM sizM (Ma.cone hA p1 p2 p3 p4 p5 p6) (hn:=Ma.clen hA) (hc:=Ma.clen hA) ?_;intro wS hY hkS;replace qm:=qac hX qm (by decide) hkS;replace qb:=qac hX qb (by decide) hkS;replace hF:=hF.over hX hkS;replace hX:=hY;clear hY hkS;obtain ⟨g,hS,hg⟩:∃ g,DSt (XR X (w.heap.size+1)) w w.heap.size g wS A nm nb nl ns nd nt∧(g=w.heap.size∨w.heap.size+2≤g∧∃ cur,wS.heap[g]? = some (.cells cur 68 (0,0))):=DSt.copied (fun b q=>by rcases q with q|rfl;(have:=hXl b q;omega);omega) (show w.heap.size+2≤_ from by have h1:=qat hX;have h2:=qat hX.swap;omega) hX.drop2 (by omega:w.heap.size<w.heap.size+2) (by omega) qm qb hF;have hM:MaV (XR X (w.heap.size+1)) wS A nm nb nl ns nd nt:=(hS.mav (ng18 hXl hg));clear hS hg qm qb hF)|((with_reducible refine qay 26 ?_);refine ldc (hk:=qcx (Ma.len hA _ _ _)) hX qap ?_)|((with_reducible refine qay 26 ?_);refine ldc (hk:=qcy (Ma.len hA _ _ _)) hX qap ?_)|(go_at_call 37;(with_reducible refine (hrm _ _ _ hM.m.now hM.b.now).mono ?_);rintro e' wm ⟨rfl,hbb⟩;replace hX:=hX.step hbb;replace hM:=hM.below hbb;clear hbb)|((with_reducible refine qa9 44 ?_);refine stw2 hX aggM sizM (Ma.cone hA p1 p2 p3 p4 p5 p6) (hn:=Ma.clen hA) (hc:=qcr) ?_;intro wT hY hkT;replace hM:=MaV.to hM (fun b _ q=>hkT b (fun e=>q (.inr e))) (fun b q=>.inl q);replace hX:=hY;clear hY hkT))
  exact bodyPost_ret (qfu (by rfl) rfl ((hX.all _ _ _ (.tail _ (.head _))).loadVar (Ma.clen hA) aggM sizM)) rfl ⟨_,rfl,hM.x,hX.below⟩
 ·rw [read_reg b hp]
  have hok:=regR_ok hA (physP p - 253952) b
  have hpr:=fun vm vb vl vs vd vt g wz (hS:DSt (XR X (w.heap.size+1)) w w.heap.size g wz A vm vb vl vs vd vt) (hgX:g≠w.heap.size→¬ XR X (w.heap.size+1) g)=>qlh A hA hR vm vb vl vs vd vt _ w wz w.heap.size g hS hgX (physP p - 253952) (by omega) (by omega) b
  have w1:IntKind.i64.wrap (physP p - 253952)=physP p - 253952:=by rw [qaf];unfold wrap64;omega
  generalize physP p=P at *
  generalize A.regR (P - 253952) b=RR at *
  obtain ⟨A2,rv,rt⟩:=RR
  dsimp only at hok hpr ⊢
  go_enter Tryz.func13,Tryz.ntmps13
  go_upto_region 1 with (first|((with_reducible refine qbs ?_);refine qba rfl rfl ?_))
  generalize ((w.alloc (Obj.cells (A.cells vm vb vl vs vd vt).toArray 44)).alloc (Obj.cells mzL.toArray 44))=wQ at hX ⊢
  go_wp2_with (first|((with_reducible refine qay 44 ?_);refine ldw (hn:=Ma.clen hA) hX aggM sizM ?_)|(go_at_call 36;(with_reducible refine (hcp _ hX.below).mono ?_);rintro e' wc ⟨nm,nb,nl,ns,nd,nt,rfl,qm,qb,hF,hbb⟩;replace qm:=qaz qm (show w.heap.size+2≤_ from by have h1:=qat hX;have h2:=qat hX.swap;omega);replace qb:=qaz qb (show w.heap.size+2≤_ from by have h1:=qat hX;have h2:=qat hX.swap;omega);replace hF:=hF.base (show w.heap.size+2≤_ from by have h1:=qat hX;have h2:=qat hX.swap;omega);replace hX:=hX.step hbb;have p1:=(Ma.own18 qm).1;have p2:=(Ma.own18 qb).1;have p3:=(Ma.own18 hF.l).1;have p4:=(Ma.own18 hF.s).1;have p5:=(Ma.own18 hF.d).1;have p6:=(Ma.own18 hF.t).1;clear hbb)|((with_reducible refine qa9 44 ?_);refine stw hX aggM sizM (Ma.cone hA p1 p2 p3 p4 p5 p6) (hn:=Ma.clen hA) (hc:=Ma.clen hA) ?_;intro wS hY hkS;replace qm:=qac hX qm (by decide) hkS;replace qb:=qac hX qb (by decide) hkS;replace hF:=hF.over hX hkS;replace hX:=hY;clear hY hkS;obtain ⟨g,hS,hg⟩:∃ g,DSt (XR X (w.heap.size+1)) w w.heap.size g wS A nm nb nl ns nd nt∧(g=w.heap.size∨w.heap.size+2≤g∧∃ cur,wS.heap[g]? = some (.cells cur 68 (0,0))):=DSt.copied (fun b q=>by rcases q with q|rfl;(have:=hXl b q;omega);omega) (show w.heap.size+2≤_ from by have h1:=qat hX;have h2:=qat hX.swap;omega) hX.drop2 (by omega:w.heap.size<w.heap.size+2) (by omega) qm qb hF;have hgX:=ng18 hXl hg;have hgn:g≠w.heap.size+1:=(by rcases hg with h|⟨h,_⟩<;>omega);clear hg qm qb hF)|(go_at_call 38;(with_reducible refine (hpr _ _ _ _ _ _ _ _ hS hgX).mono ?_);rintro e' wr ⟨rfl,⟨um,ub,ul,us,ud,ut,hD⟩,hK⟩;replace hX:=hD.bag.two (hX.drop1.kpt hK (fun b hb=>by rw [List.mem_singleton.1 hb];exact ⟨by simp only;omega,fun e=>hgn e.symm⟩) hD.bag.below) (by simp only;omega);have hM:=hD.mav hgX;have p1:=hM.o1;have p2:=hM.o2;have p3:=hM.o3;have p4:=hM.o4;have p5:=hM.o5;have p6:=hM.o6;clear hD hK hS)|((with_reducible refine qay 44 ?_);refine ldw (hn:=Ma.clen hok) hX aggM sizM ?_)|((with_reducible refine qa9 44 ?_);refine stw2 hX aggM sizM (Ma.cone hok p1 p2 p3 p4 p5 p6) (hn:=Ma.clen hok) (hc:=qcr) ?_;intro wT hY hkT;replace hM:=MaV.to hM (fun b _ q=>hkT b (fun e=>q (.inr e))) (fun b q=>.inl q);replace hX:=hY;clear hY hkT))
  exact bodyPost_ret (qfu (by rfl) rfl ((hX.all _ _ _ (.tail _ (.head _))).loadVar (Ma.clen hok) aggM sizM)) rfl ⟨_,rfl,hM.x,hX.below⟩
theorem qqz (M:List Int) (P v:Int) (b:Bool):writeM M P b (lowV18 v b)=writeM M P b v:=by
 unfold writeM wordW lowV18 setN setW
 cases b
 ·simp only [Bool.false_eq_true,if_false]
  rw [Int.emod_emod_of_dvd v (by decide:(65536:Int) ∣ 65536)]
 ·simp only [if_true]
  rw [show v%256%256=v%256 by omega]
def Ma.wm (A:Ma) (P:Int) (b:Bool) (v:Int):Ma×Int:=if writeT (2*(A.M.length:Int)) P b=0 then ({A with M:=writeM A.M P b v,B:=writeB (2*(A.M.length:Int)) A.B P b},0) else (A,1)
theorem qit (n P:Int) (b:Bool):writeT n P b=0∨writeT n P b=1:=by unfold writeT;split<;>simp
theorem qra {A:Ma} {p:Int} (b:Bool) (v:Int) (hp:physP p<253952):A.write p b v=A.wm (physP p) b v:=by
 unfold Ma.write Ma.wm
 rw [if_pos hp,qqz]
 rcases qit (2*(A.M.length:Int)) (physP p) b with h|h
 ·rw [if_pos h,if_pos h]
 ·rw [if_neg (by omega),if_neg (by omega),h]
theorem qte {A:Ma} {p:Int} (b:Bool) (v:Int) (hp:¬ physP p<253952):A.write p b v=A.regW (physP p - 253952) b v:=by
 unfold Ma.write Ma.regW lowV18
 rw [if_neg hp]
 cases b
 ·simp only [Bool.false_eq_true,if_false]
  rw [wrR_mod]
 ·simp only [if_true]
theorem regW_ok {A:Ma} (h:A.ok) (off v:Int) (b:Bool):(A.regW off b v).1.ok:=by
 unfold Ma.regW
 repeat' split
 all_goals first|exact h|exact wrR_ok h _ _
theorem wm_ok {A:Ma} (h:A.ok) (P v:Int) (b:Bool):(A.wm P b v).1.ok:=by
 unfold Ma.wm
 split<;>exact h
theorem qkn (A:Ma) (hA:A.ok) (hR:A.right=true) (vm vb vl vs vd vt:Value) (X:Nat→Prop) (w0 w:World) (B g:Nat) (hS:DSt X w0 B g w A vm vb vl vs vd vt) (off v:Int) (ho0:0≤off) (ho1:off<8192) (b:Bool):Calls Tryz.prog 44 #[.pointer (some ⟨B,0,none⟩),.int .i64 off,.bool b,.int .i64 v] w (DevS X w0 B g w (A.regW off b v).1 (.int .i64 (A.regW off b v).2)):=by
 by_cases ho:off%2=1
 ·exact qjo A hA hR vm vb vl vs vd vt X w0 w B g hS off v ho0 ho1 ho b
 ·cases b
  ·exact qh8 A hA hR vm vb vl vs vd vt X w0 w B g hS off v ho0 ho1 ho
  ·exact qh7 A hA hR vm vb vl vs vd vt X w0 w B g hS off v ho0 ho1 ho
theorem qjw (A:Ma) (hA:A.ok) (hR:A.right=true) (vm vb vl vs vd vt:Value) (X:Nat→Prop) (w:World) (hXl:∀ b,X b→b<w.heap.size) (hV:MaV X w A vm vb vl vs vd vt) (P v:Int) (b:Bool):Calls Tryz.prog 43 #[.agg (A.cells vm vb vl vs vd vt).toArray,.int .i64 P,.bool b,.int .i64 v] w fun e' w'=>∃ x,e'=.returned (.tuple #[x,.int .i64 (A.wm P b v).2])∧MaX X w' x (A.wm P b v).1∧Below w.heap.size w w':=by
 have hX:=qhw w (A.cells vm vb vl vs vd vt)
 replace hX:=hX.swap
 have hMr:=(Ma.parts hR).2.2.1
 have hle:=qfp hMr
 have hWd:wordsB A.M=true:=by unfold rightP at hMr;simp only [Bool.and_eq_true] at hMr;exact hMr.2.1
 have hsr:A.B.Pairwise (·<·):=qid hMr
 have hcp:=fun (wz:World) (hb:Below w.heap.size w wz)=>qhd A hA (qgg hR) vm vb vl vs vd vt wz (hV.now.step hb)
 have hwr:=fun (wz:World) (hb:Below w.heap.size w wz)=>qta vm vb A.M A.B hle.1 hle.2 hWd hsr P b v wz (Its.nums18 (Rz.below hV.m.now hb)) (Its.nums18 (Rz.below hV.b.now hb))
 have hpo:=fun (M2 B2:List Int) (r s:Value) (h1:r.oneCell'=true) (h2:s.oneCell'=true) (wz:World) (hb:Below w.heap.size w wz)=>qn3 ({A with M:=M2,B:=B2}:Ma) hA (qgg hR).1 r s vl vs vd vt h1 h2 wz (Rz.below hV.l.now hb) (Rz.below hV.s.now hb) (Rz.below hV.d.now hb) (Rz.below hV.t.now hb)
 unfold Ma.wm
 rcases qit (2*(A.M.length:Int)) P b with hwt|hwt
 ·rw [hwt] at hwr
  rw [if_pos hwt]
  generalize writeM A.M P b v=M2 at *
  generalize writeB (2*(A.M.length:Int)) A.B P b=B2 at *
  replace hpo:=hpo M2 B2
  clear hwt hV hcp hMr hle hWd hsr
  go_enter Tryz.func43,Tryz.ntmps43
  go_upto_region 1 with (first|((with_reducible refine qbs ?_);refine qba rfl rfl ?_))
  generalize ((w.alloc (Obj.cells (A.cells vm vb vl vs vd vt).toArray 44)).alloc (Obj.cells mzL.toArray 44))=wQ at hX ⊢
  go_wp2_with (first|((with_reducible refine qay 26 ?_);refine ldc (hk:=qcx (Ma.len hA _ _ _)) hX qap ?_)|((with_reducible refine qay 26 ?_);refine ldc (hk:=qcy (Ma.len hA _ _ _)) hX qap ?_)|(go_at_call 102;(with_reducible refine (hwr _ hX.below).mono ?_);rintro e' wm ⟨r2,s2,rfl,hm2,hb2,hbb⟩;replace hm2:=qaz hm2 (show w.heap.size+2≤_ from by have h1:=qat hX;have h2:=qat hX.swap;omega);replace hb2:=qaz hb2 (show w.heap.size+2≤_ from by have h1:=qat hX;have h2:=qat hX.swap;omega);replace hX:=hX.step hbb;have o1:=(Ma.own18 hm2).1;have o2:=(Ma.own18 hb2).1;obtain ⟨Am,cm,rfl,_,_⟩:=Rw.of_own hm2;obtain ⟨Ab,cb,rfl,_,_⟩:=Rw.of_own hb2;clear hbb)|((with_reducible refine qa9 26 ?_);refine stk1 hX qc0 (Ma.set_m (A:=A) hA M2 _) (by rw [Ma.clen hA];decide) o1 ?_;intro wS hY hkS;replace hm2:=qac hX hm2 (by decide) hkS;replace hb2:=qac hX hb2 (by decide) hkS;replace hX:=hY;clear hY hkS)|((with_reducible refine qa9 26 ?_);refine stk1 hX qc0 (Ma.set_b (A:=({A with M:=M2}:Ma)) hA B2 _) (by rw [Ma.clen (A:=({A with M:=M2}:Ma)) hA];decide) o2 ?_;intro wS hY hkS;replace hm2:=qac hX hm2 (by decide) hkS;replace hb2:=qac hX hb2 (by decide) hkS;replace hX:=hY;clear hY hkS)|((with_reducible refine qay 44 ?_);refine ldw (hn:=Ma.clen (A:=({A with M:=M2,B:=B2}:Ma)) hA) hX aggM sizM ?_)|(go_at_call 81;(with_reducible refine (hpo _ _ o1 o2 _ hX.below).mono ?_);rintro e' wc ⟨nl,ns,nd,nt,rfl,hF,hbb⟩;replace hF:=hF.base (show w.heap.size+2≤_ from by have h1:=qat hX;have h2:=qat hX.swap;omega);replace hX:=hX.step hbb;replace hm2:=qag hm2 hbb;replace hb2:=qag hb2 hbb;have p3:=(Ma.own18 hF.l).1;have p4:=(Ma.own18 hF.s).1;have p5:=(Ma.own18 hF.d).1;have p6:=(Ma.own18 hF.t).1;clear hbb)|((with_reducible refine qa9 44 ?_);refine stw2 hX aggM sizM (Ma.cone (A:=({A with M:=M2,B:=B2}:Ma)) hA o1 o2 p3 p4 p5 p6) (hn:=Ma.clen (A:=({A with M:=M2,B:=B2}:Ma)) hA) (hc:=qcr) ?_;intro wT hY hkT;replace hm2:=qac hX.swap hm2 (by decide) hkT;replace hb2:=qac hX.swap hb2 (by decide) hkT;replace hF:=hF.over hX.swap hkT;replace hX:=hY;clear hY hkT))
  exact bodyPost_ret (qam (by rfl) rfl ((hX.all _ _ _ (.tail _ (.head _))).loadVar (Ma.clen (A:=({A with M:=M2,B:=B2}:Ma)) hA) aggM sizM)) rfl ⟨_,rfl,⟨_,_,_,_,_,_,rfl,Sv.of_own hm2 (fun b q=>by have:=hXl b q;omega),Sv.of_own hb2 (fun b q=>by have:=hXl b q;omega),Sv.of_own hF.l (fun b q=>by have:=hXl b q;omega),Sv.of_own hF.s (fun b q=>by have:=hXl b q;omega),Sv.of_own hF.d (fun b q=>by have:=hXl b q;omega),Sv.of_own hF.t (fun b q=>by have:=hXl b q;omega)⟩,hX.below⟩
 ·rw [hwt] at hwr
  rw [if_neg (by omega)]
  clear hwt hV hpo hMr hle hWd hsr
  go_enter Tryz.func43,Tryz.ntmps43
  go_upto_region 1 with (first|((with_reducible refine qbs ?_);refine qba rfl rfl ?_))
  generalize ((w.alloc (Obj.cells (A.cells vm vb vl vs vd vt).toArray 44)).alloc (Obj.cells mzL.toArray 44))=wQ at hX ⊢
  go_wp2_with (first|((with_reducible refine qay 26 ?_);refine ldc (hk:=qcx (Ma.len hA _ _ _)) hX qap ?_)|((with_reducible refine qay 26 ?_);refine ldc (hk:=qcy (Ma.len hA _ _ _)) hX qap ?_)|(go_at_call 102;(with_reducible refine (hwr _ hX.below).mono ?_);rintro e' wm ⟨r2,s2,rfl,hm2,hb2,hbb⟩;replace hm2:=qaz hm2 (show w.heap.size+2≤_ from by have h1:=qat hX;have h2:=qat hX.swap;omega);replace hb2:=qaz hb2 (show w.heap.size+2≤_ from by have h1:=qat hX;have h2:=qat hX.swap;omega);replace hX:=hX.step hbb;have o1:=(Ma.own18 hm2).1;have o2:=(Ma.own18 hb2).1;obtain ⟨Am,cm,rfl,_,_⟩:=Rw.of_own hm2;obtain ⟨Ab,cb,rfl,_,_⟩:=Rw.of_own hb2;clear hbb)|((with_reducible refine qay 44 ?_);refine ldw (hn:=Ma.clen hA) hX aggM sizM ?_)|(go_at_call 36;(with_reducible refine (hcp _ hX.below).mono ?_);rintro e' wc ⟨nm,nb,nl,ns,nd,nt,rfl,qm,qb,hF,hbb⟩;replace qm:=qaz qm (show w.heap.size+2≤_ from by have h1:=qat hX;have h2:=qat hX.swap;omega);replace qb:=qaz qb (show w.heap.size+2≤_ from by have h1:=qat hX;have h2:=qat hX.swap;omega);replace hF:=hF.base (show w.heap.size+2≤_ from by have h1:=qat hX;have h2:=qat hX.swap;omega);replace hX:=hX.step hbb;have p1:=(Ma.own18 qm).1;have p2:=(Ma.own18 qb).1;have p3:=(Ma.own18 hF.l).1;have p4:=(Ma.own18 hF.s).1;have p5:=(Ma.own18 hF.d).1;have p6:=(Ma.own18 hF.t).1;clear hbb)|((with_reducible refine qa9 44 ?_);refine stw2 hX aggM sizM (Ma.cone hA p1 p2 p3 p4 p5 p6) (hn:=Ma.clen hA) (hc:=qcr) ?_;intro wT hY hkT;replace qm:=qac hX.swap qm (by decide) hkT;replace qb:=qac hX.swap qb (by decide) hkT;replace hF:=hF.over hX.swap hkT;replace hX:=hY;clear hY hkT))
  exact bodyPost_ret (qam (by rfl) rfl ((hX.all _ _ _ (.tail _ (.head _))).loadVar (Ma.clen hA) aggM sizM)) rfl ⟨_,rfl,⟨_,_,_,_,_,_,rfl,Sv.of_own qm (fun b q=>by have:=hXl b q;omega),Sv.of_own qb (fun b q=>by have:=hXl b q;omega),Sv.of_own hF.l (fun b q=>by have:=hXl b q;omega),Sv.of_own hF.s (fun b q=>by have:=hXl b q;omega),Sv.of_own hF.d (fun b q=>by have:=hXl b q;omega),Sv.of_own hF.t (fun b q=>by have:=hXl b q;omega)⟩,hX.below⟩
theorem qnk (A:Ma) (hA:A.ok) (hR:A.right=true) (vm vb vl vs vd vt:Value) (X:Nat→Prop) (w:World) (hXl:∀ b,X b→b<w.heap.size) (hV:MaV X w A vm vb vl vs vd vt) (p:Int) (b:Bool) (v:Int):Calls Tryz.prog 16 #[.agg (A.cells vm vb vl vs vd vt).toArray,.int .i64 p,.bool b,.int .i64 v] w fun e' w'=>∃ x,e'=.returned (.tuple #[x,.int .i64 (A.write p b v).2])∧MaX X w' x (A.write p b v).1∧Below w.heap.size w w':=by
 have hX:=qhw w (A.cells vm vb vl vs vd vt)
 replace hX:=hX.swap
 have a1:bits .and .i64 p 262143=physP p:=qsi p
 have h9:0≤physP p∧physP p<262144:=by unfold physP;omega
 by_cases hp:physP p<253952
 ·rw [qra b v hp]
  have hok:=wm_ok hA (physP p) v b
  have hwm:=fun (wz:World) (hb:Below w.heap.size w wz) (hz:w.heap.size+2≤wz.heap.size)=>qjw A hA hR vm vb vl vs vd vt (XR X (w.heap.size+1)) wz (fun b q=>by have:=hb.size;rcases q with q|rfl;(have:=hXl b q;omega);omega) (hV.weak hb fun b hb q=>by rcases q with q|rfl;exact q;omega) (physP p) v b
  generalize physP p=P at *
  generalize A.wm P b v=RR at *
  obtain ⟨A2,rt⟩:=RR
  dsimp only at hok hwm ⊢
  clear hV
  go_enter Tryz.func16,Tryz.ntmps16
  go_upto_region 1 with (first|((with_reducible refine qbs ?_);refine qba rfl rfl ?_))
  generalize ((w.alloc (Obj.cells (A.cells vm vb vl vs vd vt).toArray 44)).alloc (Obj.cells mzL.toArray 44))=wQ at hX ⊢
  go_wp2_with (first|((with_reducible refine qay 44 ?_);refine ldw (hn:=Ma.clen hA) hX aggM sizM ?_)|(go_at_call 43;(with_reducible refine (hwm _ hX.below (show w.heap.size+2≤_ from by have h1:=qat hX;have h2:=qat hX.swap;omega)).mono ?_);rintro e' wr ⟨x,rfl,⟨um,ub,ul,us,ud,ut,rfl,h1,h2,h3,h4,h5,h6⟩,hbb⟩;replace hX:=hX.step hbb;have hM:MaV (XR X (w.heap.size+1)) wr A2 um ub ul us ud ut:=⟨h1,h2,h3,h4,h5,h6⟩;have p1:=hM.o1;have p2:=hM.o2;have p3:=hM.o3;have p4:=hM.o4;have p5:=hM.o5;have p6:=hM.o6;clear hbb h1 h2 h3 h4 h5 h6)|((with_reducible refine qa9 44 ?_);refine stw2 hX aggM sizM (Ma.cone hok p1 p2 p3 p4 p5 p6) (hn:=Ma.clen hok) (hc:=qcr) ?_;intro wT hY hkT;replace hM:=MaV.to hM (fun b _ q=>hkT b (fun e=>q (.inr e))) (fun b q=>.inl q);replace hX:=hY;clear hY hkT))
  exact bodyPost_ret (qam (by rfl) rfl ((hX.all _ _ _ (.tail _ (.head _))).loadVar (Ma.clen hok) aggM sizM)) rfl ⟨_,rfl,hM.x,hX.below⟩
 ·rw [qte b v hp]
  have hcp:=fun (wz:World) (hb:Below w.heap.size w wz)=>qhd A hA (qgg hR) vm vb vl vs vd vt wz (hV.now.step hb)
  have hok:=regW_ok hA (physP p - 253952) v b
  have hpr:=fun vm vb vl vs vd vt g wz (hS:DSt (XR X (w.heap.size+1)) w w.heap.size g wz A vm vb vl vs vd vt)=>qkn A hA hR vm vb vl vs vd vt _ w wz w.heap.size g hS (physP p - 253952) v (by omega) (by omega) b
  have w1:IntKind.i64.wrap (physP p - 253952)=physP p - 253952:=by rw [qaf];unfold wrap64;omega
  generalize physP p=P at *
  generalize A.regW (P - 253952) b v=RR at *
  obtain ⟨A2,rt⟩:=RR
  dsimp only at hok hpr ⊢
  clear hV
  go_enter Tryz.func16,Tryz.ntmps16
  go_upto_region 1 with (first|((with_reducible refine qbs ?_);refine qba rfl rfl ?_))
  generalize ((w.alloc (Obj.cells (A.cells vm vb vl vs vd vt).toArray 44)).alloc (Obj.cells mzL.toArray 44))=wQ at hX ⊢
  go_wp2_with (first|((with_reducible refine qay 44 ?_);refine ldw (hn:=Ma.clen hA) hX aggM sizM ?_)|(go_at_call 36;(with_reducible refine (hcp _ hX.below).mono ?_);rintro e' wc ⟨nm,nb,nl,ns,nd,nt,rfl,qm,qb,hF,hbb⟩;replace qm:=qaz qm (show w.heap.size+2≤_ from by have h1:=qat hX;have h2:=qat hX.swap;omega);replace qb:=qaz qb (show w.heap.size+2≤_ from by have h1:=qat hX;have h2:=qat hX.swap;omega);replace hF:=hF.base (show w.heap.size+2≤_ from by have h1:=qat hX;have h2:=qat hX.swap;omega);replace hX:=hX.step hbb;have p1:=(Ma.own18 qm).1;have p2:=(Ma.own18 qb).1;have p3:=(Ma.own18 hF.l).1;have p4:=(Ma.own18 hF.s).1;have p5:=(Ma.own18 hF.d).1;have p6:=(Ma.own18 hF.t).1;clear hbb)|((with_reducible refine qa9 44 ?_);refine stw hX aggM sizM (Ma.cone hA p1 p2 p3 p4 p5 p6) (hn:=Ma.clen hA) (hc:=Ma.clen hA) ?_;intro wS hY hkS;replace qm:=qac hX qm (by decide) hkS;replace qb:=qac hX qb (by decide) hkS;replace hF:=hF.over hX hkS;replace hX:=hY;clear hY hkS;obtain ⟨g,hS,hg⟩:∃ g,DSt (XR X (w.heap.size+1)) w w.heap.size g wS A nm nb nl ns nd nt∧(g=w.heap.size∨w.heap.size+2≤g∧∃ cur,wS.heap[g]? = some (.cells cur 68 (0,0))):=DSt.copied (fun b q=>by rcases q with q|rfl;(have:=hXl b q;omega);omega) (show w.heap.size+2≤_ from by have h1:=qat hX;have h2:=qat hX.swap;omega) hX.drop2 (by omega:w.heap.size<w.heap.size+2) (by omega) qm qb hF;have hgX:=ng18 hXl hg;have hgn:g≠w.heap.size+1:=(by rcases hg with h|⟨h,_⟩<;>omega);clear hg qm qb hF)|(go_at_call 44;(with_reducible refine (hpr _ _ _ _ _ _ _ _ hS).mono ?_);rintro e' wr ⟨rfl,⟨um,ub,ul,us,ud,ut,hD⟩,hK⟩;replace hX:=hD.bag.two (hX.drop1.kpt hK (fun b hb=>by rw [List.mem_singleton.1 hb];exact ⟨by simp only;omega,fun e=>hgn e.symm⟩) hD.bag.below) (by simp only;omega);have hM:=hD.mav hgX;have p1:=hM.o1;have p2:=hM.o2;have p3:=hM.o3;have p4:=hM.o4;have p5:=hM.o5;have p6:=hM.o6;clear hD hK hS)|((with_reducible refine qay 44 ?_);refine ldw (hn:=Ma.clen hok) hX aggM sizM ?_)|((with_reducible refine qa9 44 ?_);refine stw2 hX aggM sizM (Ma.cone hok p1 p2 p3 p4 p5 p6) (hn:=Ma.clen hok) (hc:=qcr) ?_;intro wT hY hkT;replace hM:=MaV.to hM (fun b _ q=>hkT b (fun e=>q (.inr e))) (fun b q=>.inl q);replace hX:=hY;clear hY hkT))
  exact bodyPost_ret (qam (by rfl) rfl ((hX.all _ _ _ (.tail _ (.head _))).loadVar (Ma.clen hok) aggM sizM)) rfl ⟨_,rfl,hM.x,hX.below⟩
open Go.RowKit
theorem bpRight (W0:World):BuRight W0:=fun A vm vb vl vs vd vt w _ hA hF hN=>qmi A hA hF vm vb vl vs vd vt w hN
theorem bpRead (W0:World):BuRead W0:=fun A vm vb vl vs vd vt p b X w _ hA hR hXl hV=>qqi A hA hR vm vb vl vs vd vt X w hXl hV p b
theorem bpWrite (W0:World):BuWrite W0:=fun A vm vb vl vs vd vt p b v X w _ hA hR hXl hV=>qnk A hA hR vm vb vl vs vd vt X w hXl hV p b v
theorem bpTick (W0:World):BuTick W0:=fun A vm vb vl vs vd vt X w _ hA hR hXl hV=>qpu A hA hR vm vb vl vs vd vt X w hXl hV
end Go.Proofs.YthpnddgfgpacpaaGreat
