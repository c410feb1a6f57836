import Derived.Test.YthpnddgfgpacpaaGreatRT04
import Derived.Test.YthpnddgfgpacpaaGreatRT15
import Derived.Deep.RegionHeld3
namespace Go.Proofs.YthpnddgfgpacpaaGreat
open Go.RowKit
set_option linter.unusedSimpArgs false
set_option linter.unusedVariables false
set_option maxHeartbeats 4000000
set_option maxRecDepth 100000
attribute [local irreducible] wpQuiet
theorem xw_lt {X:Nat→Prop} {N M B:Nat} (hX:∀ b,X b→b<N) (h:N+2≤M) (h2:B<M):∀ b,(OwnA X N b∨b=B)→b<M:=fun b hb=>by
 rcases hb with hb|hb
 ·exact qa2 hX h b hb
 ·omega
theorem qfv {X:Nat→Prop} {N:Nat}:∀ b,b<N→OwnA X N b→X b:=fun b hb h=>by
 rcases h with h|h|h
 ·exact h
 ·omega
 ·omega
theorem qeu {X:Nat→Prop} {N B:Nat} (hB:N≤B):∀ b,b<N→(OwnA X N b∨b=B)→X b:=fun b hb h=>by
 rcases h with h|h
 ·exact qfv b hb h
 ·omega
theorem bA {w w':World} (h:Below w.heap.size w w') (o:Obj):Below w.heap.size w (w'.alloc o):=h.alloc h.size o
theorem leaf {K:Act→World→Prop} {Q:Exit→Act→World→Prop} {a:Act} {w':World} (C:World→Prop) (hC:C w') (h:∀ w,C w→Exit.then K Q .normal a w):Exit.then K Q .normal a w':=h w' hC
theorem Bag.join {l l2:List (Nat×TypeId×List Value)} {w0 w w2:World} (h:Bag l w0 w) (h2:Bag l2 w w2):Bag (l2++l) w0 w2:=by
 refine ⟨fun B t cs hm=>?_,bT h.below h2.below,fun b hb=>?_,?_⟩
 ·rcases List.mem_append.1 hm with e|e
  ·exact h2.all B t cs e
  ·exact (h.all B t cs e).step h2.below
 ·rcases List.mem_append.1 hb with e|e
  ·exact Nat.le_trans h.below.size (h2.lo b e)
  ·exact h.lo b e
 ·rw [List.map_append,List.nodup_append]
  refine ⟨h2.dis,h.dis,fun a ha b hb e=>?_⟩
  obtain ⟨x,hx,rfl⟩:=List.mem_map.1 ha
  obtain ⟨⟨B,t,cs⟩,hy,rfl⟩:=List.mem_map.1 hb
  have h3:=(h.all B t cs hy).lt
  have h4:=h2.lo x hx
  simp only at e
  omega
theorem qh3 (D:Drv) (en er:Bool) (s:Int) (A:Nat) (n:Nat) (hn1:1≤n) (hn:n≤64) (hA:A≤32767) (m B:List Int) (vs vb vm vz:Value) (w:World) (X:Nat→Prop) (hXl:∀ b,X b→b<w.heap.size) (hs:StsX X w vs D.S) (hb:ItsX X w vb D.B) (hm:ItsX X w vm m) (hz:ItsX X w vz B) (hml:m.length≤1099511627776) (hzl:B.length≤1099511627776) (hl:D.B.length≤1099511627776) (hl2:D.S.length≤1099511627776) (hs0:0≤s∧s≤65535) (hw:∀ x∈m,0≤x∧x≤65535) (hr:¬ 2*(m.length:Int)<2*(A:Int)+2*((n:Nat):Int)) (hp:spV B (2*(A:Int)) n=false) (DW:Drv) (ew:Int) (hDW:D.wr s (secV m A n)=(DW,ew)):Calls Tryz.prog 51 #[.agg #[vs,vb,.bool en,.bool false,.bool er,.int .i64 2,.int .i64 (n:Int),.int .i64 (2*(A:Int)),.int .i64 s,.int .i64 1],vm,vz] w (TickSays (Dk.mk D en false er 2 (n:Int) (2*(A:Int)) s 1) m B X w):=by
 obtain ⟨A1,c1,rfl,_⟩:=hs.now.form
 obtain ⟨A2,c2,rfl,_⟩:=hb.now.form
 obtain ⟨A3,c3,rfl,_⟩:=hm.now.form
 obtain ⟨A4,c4,rfl,_⟩:=hz.now.form
 have h64:(Dk.mk D en false er 2 (n:Int) (2*(A:Int)) s 1).n64=n:=by unfold Dk.n64;dsimp only;omega
 have d64:¬ (64:Int)<(n:Int):=by omega
 have w0:IntKind.i64.wrap (2*(n:Int))=2*(n:Int):=by rw [qaf];unfold wrap64;omega
 have w1':IntKind.i64.wrap (2*(A:Int)+2*(n:Int))=2*(A:Int)+2*(n:Int):=by rw [qaf];unfold wrap64;omega
 have w2:IntKind.i64.wrap (2*(m.length:Int))=2*(m.length:Int):=by rw [qaf];unfold wrap64;omega
 have w3:IntKind.i64.wrap (2*(A:Int)+128)=2*(A:Int)+128:=by rw [qaf];unfold wrap64;omega
 have hfl:=fun w=>qbj (Dk.mk D en false er 2 (n:Int) (2*(A:Int)) s 0) A1 D.S.length c1 A2 D.B.length c2 w
 unfold Dk.fail at hfl
 dsimp only at hfl
 have hrd:=fun w' (h:Below w.heap.size w w')=>qbt D s hl hl2 (.slice A1 D.S.length c1) (.slice A2 D.B.length c2) w' (hs.now.below h) (hb.now.below h)
 have hsp:∀ w',Below w.heap.size w w'→Calls Tryz.prog 112 #[.slice A4 B.length c4,.int .i64 (2*(A:Int)),.int .i64 (n:Int)] w' fun e' w2=>e'=.returned (.bool (spV B (2*(A:Int)) n))∧Below w'.heap.size w' w2:=fun w' h=>qbg B (2*(A:Int)) n _ w' hzl (by omega) (by omega) (hz.now.below h)
 have hse:∀ w',Below w.heap.size w w'→Calls Tryz.prog 115 #[.slice A3 m.length c3,.int .i64 (2*(A:Int)),.int .i64 (n:Int)] w' fun e' w2=>e'=.returned (.string (secV m A n))∧Below w'.heap.size w' w2:=fun w' h=>qhl m A n _ w' (by omega) hml (by omega) hw (hm.now.below h)
 have hwr:=fun Y w' (h:Below w.heap.size w w') (hYl:∀ b,Y b→b<w'.heap.size) (hsY:StsX Y w' (.slice A1 D.S.length c1) D.S) (hbY:ItsX Y w' (.slice A2 D.B.length c2) D.B)=>qi6 D s (secV m A n) hl hl2 (.slice A1 D.S.length c1) (.slice A2 D.B.length c2) w' Y hYl hsY hbY
 unfold TickSays
 rw [qcs _ _ _ rfl,h64]
 dsimp only
 rw [qb8,if_neg hr,if_neg (by simp),if_neg (by rw [hp];simp),if_neg (by simp),if_pos rfl]
 (try dsimp only [Dk.l0,Dk.fail])
 have d1:¬ (2*(m.length:Int)<2*(A:Int)+2*(n:Int)):=by omega
 have d1b:¬ (2*(m.length:Int)<2*(A:Int)+2*(n:Int)):=by omega
 clear hr
 rw [hp] at hsp
 rw [hDW] at hwr ⊢
 dsimp only at hwr ⊢
 have hadv:∀ D2:Drv,(Dk.mk D en false er 2 (n:Int) (2*(A:Int)) s 1).adv D2=Dk.mk D2 en true er 2 0 ((2*(A:Int)+2*(n:Int))%65536) ((s+1)%65536) 0:=fun D2=>by
  unfold Dk.adv;rw [h64];dsimp only;simp
 have u1:(2*(A:Int)+2*(n:Int)).tmod 65536=(2*(A:Int)+2*(n:Int))%65536:=Int.tmod_eq_emod_of_nonneg (by omega)
 have u2:IntKind.i64.wrap ((2*(A:Int)+2*(n:Int))%65536)=(2*(A:Int)+2*(n:Int))%65536:=by rw [qaf];unfold wrap64;omega
 have u3:IntKind.i64.wrap (s+1)=s+1:=by rw [qaf];unfold wrap64;omega
 have u4:(s+1).tmod 65536=(s+1)%65536:=Int.tmod_eq_emod_of_nonneg (by omega)
 have u5:IntKind.i64.wrap ((s+1)%65536)=(s+1)%65536:=by rw [qaf];unfold wrap64;omega
 have u8:IntKind.i64.wrap (128:Int)=128:=by rw [qaf];unfold wrap64;omega
 have u9:IntKind.i64.wrap (2*(A:Int)+2*(n:Int))=2*(A:Int)+2*(n:Int):=by rw [qaf];unfold wrap64;omega
 have u6:IntKind.i64.wrap ((n:Int) - (n:Int))=0:=by rw [qaf];unfold wrap64;omega
 have u7:IntKind.i64.wrap (0:Int)=0:=by rw [qaf];unfold wrap64;omega
 generalize D.rd s=RD at *
 obtain ⟨sv,ee⟩:=RD
 dsimp only at hrd
 clear hp hDW
 have hX:=qbi w [(.slice A1 D.S.length c1),(.slice A2 D.B.length c2),.bool en,.bool false,.bool er,.int .i64 2,.int .i64 (n:Int),.int .i64 (2*(A:Int)),.int .i64 s,.int .i64 0] [.slice none 0 0,.slice none 0 0,.bool false,.bool false,.bool false,.int .i64 0,.int .i64 0,.int .i64 0,.int .i64 0,.int .i64 0]
 clear h64
 obtain ⟨RES,hRES⟩:∃ RES,(if ew=0 then ((Dk.mk D en false er 2 (n:Int) (2*(A:Int)) s 1).adv DW,m,B) else ((Dk.mk D en false er 2 (n:Int) (2*(A:Int)) s 1).l0.fail,m,B))=RES:=⟨_,rfl⟩
 dsimp only [Dk.l0,Dk.fail] at hRES
 rw [hRES]
 replace hRES:=hid hRES
 go_enter Tryz.func51,Tryz.ntmps51
 go_wp2_with (first|((with_reducible refine qab ?_);first|refine lc hX ?_|refine lw hX aggK sizK ?_|refine lp (ds:=[_,_]) hX aggD sizD ?_)|((first|(go_at_call 111;with_reducible refine cst hX (hrd _ hX.below) ?_)|(go_at_call 112;with_reducible refine cst hX (hsp _ hX.below) ?_));clear hX;intro wc hX))
 have hc2:w.heap.size+2≤wc.heap.size:=(hX.all _ _ _ (.head _)).lt
 have kp:∀ W,Below wc.heap.size wc W→(fun w2'=>Below wc.heap.size wc w2'∧w2'.cell? ⟨w.heap.size,0,none⟩=some (.slice A1 D.S.length c1)∧w2'.cell? ⟨w.heap.size,1,none⟩=some (.slice A2 D.B.length c2)∧w2'.cell? ⟨w.heap.size,7,none⟩=some (.int .i64 (2*(A:Int)))∧w2'.cell? ⟨w.heap.size,8,none⟩=some (.int .i64 s)) W:=fun W hW=>by
  have hb:=(Bag.step hX hW).all _ _ _ (.tail _ (.head _))
  exact ⟨hW,hb.cell (k:=0) rfl,hb.cell (k:=1) rfl,hb.cell (k:=7) rfl,hb.cell (k:=8) rfl⟩
 go_region_held (fun w2'=>Below wc.heap.size wc w2'∧w2'.cell? ⟨w.heap.size,0,none⟩=some (.slice A1 D.S.length c1)∧w2'.cell? ⟨w.heap.size,1,none⟩=some (.slice A2 D.B.length c2)∧w2'.cell? ⟨w.heap.size,7,none⟩=some (.int .i64 (2*(A:Int)))∧w2'.cell? ⟨w.heap.size,8,none⟩=some (.int .i64 s)) (first|exact kp _ (Below.drew (Below.refl _ _))|exact kp _ (Below.drew (bA (Below.refl _ _) _))|exact kp _ hB6|exact kp _ (bA hB6 _)|exact kp _ hB7|exact kp _ (bA hB7 _)|exact kp _ ((hB7.setCell (by first|exact Nat.le_refl _|exact hB6.size) _).setCell (by first|exact Nat.le_refl _|exact hB6.size) _)|exact kp _ (hB7.setCell (by first|exact Nat.le_refl _|exact hB6.size) _)) (first|(go_at_call 115;first|((with_reducible refine (hse (wc.drew) (bT hX.below (Below.drew (Below.refl _ _)))).mono ?_);rintro e' w6 ⟨rfl,hb6⟩;have hB6:=bT (Below.drew (Below.refl _ _)) hb6)|((with_reducible refine (hse ((wc.alloc (.cells ([.slice none 0 0,.slice none 0 0]:List Value).toArray 38)).drew) (bT hX.below (Below.drew (bA (Below.refl _ _) _)))).mono ?_);rintro e' w6 ⟨rfl,hb6⟩;have hB6:=bT (Below.drew (bA (Below.refl _ _) _)) hb6;have hkA:=((Bag.nil wc).new 38 [.slice none 0 0,.slice none 0 0]).drew.step hb6;have hkl:=(hkA.all _ _ _ (.head _)).lt))|(go_at_call 114;first|(have hkA2:=hkA;(with_reducible refine (hwr (fun b=>OwnA X w.heap.size b∨b=wc.heap.size) w6 (bT hX.below hB6) (xw_lt hXl (Nat.le_trans hc2 hB6.size) hkl) (hs.weak (bT hX.below hB6) (qeu (by omega))) (hb.weak (bT hX.below hB6) (qeu (by omega)))).mono ?_);rintro e' w7 ⟨x,rfl,⟨y1,y2,rfl,hs5,hb5⟩,hb7⟩;have hB7:=bT hB6 hb7;clear hkA2;replace hkA:=hkA.step hb7;obtain ⟨A5,c5,rfl,_,_⟩:=hs5.now.form;obtain ⟨A6,c6,rfl,_,_⟩:=hb5.now.form;have hkk:=hkA.all _ _ _ (.head _);have hc0:=hkk.cell (k:=0) rfl;have hc1:=hkk.cell (k:=1) rfl;have hf0:=hkk.frozen 0;have hf1:=hkk.frozen 1;clear hkk)|((with_reducible refine (hwr (OwnA X w.heap.size) w6 (bT hX.below hB6) (qa2 hXl (Nat.le_trans hc2 hB6.size)) (hs.weak (bT hX.below hB6) qfv) (hb.weak (bT hX.below hB6) qfv)).mono ?_);rintro e' w7 ⟨x,rfl,⟨y1,y2,rfl,hs5,hb5⟩,hb7⟩;have hB7:=bT hB6 hb7;obtain ⟨A5,c5,rfl,_,_⟩:=hs5.now.form;obtain ⟨A6,c6,rfl,_,_⟩:=hb5.now.form)|(have hbC:=bA hB6 (.cells ([.slice none 0 0,.slice none 0 0]:List Value).toArray 38);have hkC:=(Bag.nil w6).new 38 [.slice none 0 0,.slice none 0 0];have hkl:=(hkC.all _ _ _ (.head _)).lt;have hge:w.heap.size≤w6.heap.size:=Nat.le_trans (Nat.le_trans (Nat.le_add_right _ 2) hc2) hB6.size;(with_reducible refine (hwr (fun b=>OwnA X w.heap.size b∨b=w6.heap.size) (w6.alloc (.cells ([.slice none 0 0,.slice none 0 0]:List Value).toArray 38)) (bT hX.below hbC) (xw_lt hXl (Nat.le_trans hc2 hbC.size) hkl) (hs.weak (bT hX.below hbC) (qeu hge)) (hb.weak (bT hX.below hbC) (qeu hge))).mono ?_);rintro e' w7 ⟨x,rfl,⟨y1,y2,rfl,hs5,hb5⟩,hb7⟩;have hB7:=bT hbC hb7;replace hkC:=hkC.step hb7;clear hbC hkl hge;obtain ⟨A5,c5,rfl,_,_⟩:=hs5.now.form;obtain ⟨A6,c6,rfl,_,_⟩:=hb5.now.form;have hkk:=hkC.all _ _ _ (.head _);have hc0:=hkk.cell (k:=0) rfl;have hc1:=hkk.cell (k:=1) rfl;have hf0:=hkk.frozen 0;have hf1:=hkk.frozen 1;clear hkk)))
 all_goals
  clear hrd hsp hse hwr kp
  first
  | (have hk2:=hkA
     have hJ:Bag [(wc.heap.size,38,[(.slice A5 DW.S.length c5),(.slice A6 DW.B.length c6)])] wc ((w7.setCell ⟨wc.heap.size,0,none⟩ (.slice A5 DW.S.length c5)).setCell ⟨wc.heap.size,1,none⟩ (.slice A6 DW.B.length c6)):=(hkA.set 0 (.slice A5 DW.S.length c5)).set 1 (.slice A6 DW.B.length c6)
     have hJ2:Bag ((wc.heap.size,38,[(.slice A5 DW.S.length c5),(.slice A6 DW.B.length c6)]) :: [(w.heap.size+1,40,[.slice none 0 0,.slice none 0 0,.bool false,.bool false,.bool false,.int .i64 0,.int .i64 0,.int .i64 0,.int .i64 0,.int .i64 0]),(w.heap.size,40,[(.slice A1 D.S.length c1),(.slice A2 D.B.length c2),.bool en,.bool false,.bool er,.int .i64 2,.int .i64 (n:Int),.int .i64 (2*(A:Int)),.int .i64 s,.int .i64 0])]) w ((w7.setCell ⟨wc.heap.size,0,none⟩ (.slice A5 DW.S.length c5)).setCell ⟨wc.heap.size,1,none⟩ (.slice A6 DW.B.length c6)):=hX.join hJ
     have hkz:∀ k,k≠wc.heap.size→((w7.setCell ⟨wc.heap.size,0,none⟩ (.slice A5 DW.S.length c5)).setCell ⟨wc.heap.size,1,none⟩ (.slice A6 DW.B.length c6)).heap[k]? = w7.heap[k]?:=fun k hk=>(heap_setCell_other _ _ k _ hk).trans (heap_setCell_other _ _ k _ hk)
     have hJ3:StsX (OwnA X w.heap.size) ((w7.setCell ⟨wc.heap.size,0,none⟩ (.slice A5 DW.S.length c5)).setCell ⟨wc.heap.size,1,none⟩ (.slice A6 DW.B.length c6)) (.slice A5 DW.S.length c5) DW.S:=(hs5.over hkz (.inr rfl)).less (fun _ h=>.inl h)
     have hJ4:ItsX (OwnA X w.heap.size) ((w7.setCell ⟨wc.heap.size,0,none⟩ (.slice A5 DW.S.length c5)).setCell ⟨wc.heap.size,1,none⟩ (.slice A6 DW.B.length c6)) (.slice A6 DW.B.length c6) DW.B:=(hb5.over hkz (.inr rfl)).less (fun _ h=>.inl h)
     clear hX hs5 hb5 hkA hk2 hc0 hc1 hf0 hf1 hkz hJ
     refine leaf (fun wx=>Bag ((wc.heap.size,38,[(.slice A5 DW.S.length c5),(.slice A6 DW.B.length c6)]) :: [(w.heap.size+1,40,[.slice none 0 0,.slice none 0 0,.bool false,.bool false,.bool false,.int .i64 0,.int .i64 0,.int .i64 0,.int .i64 0,.int .i64 0]),(w.heap.size,40,[(.slice A1 D.S.length c1),(.slice A2 D.B.length c2),.bool en,.bool false,.bool er,.int .i64 2,.int .i64 (n:Int),.int .i64 (2*(A:Int)),.int .i64 s,.int .i64 0])]) w wx∧StsX (OwnA X w.heap.size) wx (.slice A5 DW.S.length c5) DW.S∧ItsX (OwnA X w.heap.size) wx (.slice A6 DW.B.length c6) DW.B) ⟨hJ2,hJ3,hJ4⟩ ?_
     clear hJ2 hJ3 hJ4
     intro w4 ⟨hXz,hs4,hb4⟩
     generalize wc.heap.size=Bk at hXz ⊢)
  | (have hk2:=hkC
     have hJ:Bag [(w6.heap.size,38,[(.slice A5 DW.S.length c5),(.slice A6 DW.B.length c6)])] w6 ((w7.setCell ⟨w6.heap.size,0,none⟩ (.slice A5 DW.S.length c5)).setCell ⟨w6.heap.size,1,none⟩ (.slice A6 DW.B.length c6)):=(hkC.set 0 (.slice A5 DW.S.length c5)).set 1 (.slice A6 DW.B.length c6)
     have hJ2:Bag ((w6.heap.size,38,[(.slice A5 DW.S.length c5),(.slice A6 DW.B.length c6)]) :: [(w.heap.size+1,40,[.slice none 0 0,.slice none 0 0,.bool false,.bool false,.bool false,.int .i64 0,.int .i64 0,.int .i64 0,.int .i64 0,.int .i64 0]),(w.heap.size,40,[(.slice A1 D.S.length c1),(.slice A2 D.B.length c2),.bool en,.bool false,.bool er,.int .i64 2,.int .i64 (n:Int),.int .i64 (2*(A:Int)),.int .i64 s,.int .i64 0])]) w ((w7.setCell ⟨w6.heap.size,0,none⟩ (.slice A5 DW.S.length c5)).setCell ⟨w6.heap.size,1,none⟩ (.slice A6 DW.B.length c6)):=(hX.step hB6).join hJ
     have hkz:∀ k,k≠w6.heap.size→((w7.setCell ⟨w6.heap.size,0,none⟩ (.slice A5 DW.S.length c5)).setCell ⟨w6.heap.size,1,none⟩ (.slice A6 DW.B.length c6)).heap[k]? = w7.heap[k]?:=fun k hk=>(heap_setCell_other _ _ k _ hk).trans (heap_setCell_other _ _ k _ hk)
     have hJ3:StsX (OwnA X w.heap.size) ((w7.setCell ⟨w6.heap.size,0,none⟩ (.slice A5 DW.S.length c5)).setCell ⟨w6.heap.size,1,none⟩ (.slice A6 DW.B.length c6)) (.slice A5 DW.S.length c5) DW.S:=(hs5.over hkz (.inr rfl)).less (fun _ h=>.inl h)
     have hJ4:ItsX (OwnA X w.heap.size) ((w7.setCell ⟨w6.heap.size,0,none⟩ (.slice A5 DW.S.length c5)).setCell ⟨w6.heap.size,1,none⟩ (.slice A6 DW.B.length c6)) (.slice A6 DW.B.length c6) DW.B:=(hb5.over hkz (.inr rfl)).less (fun _ h=>.inl h)
     clear hX hs5 hb5 hkC hk2 hc0 hc1 hf0 hf1 hkz hJ
     refine leaf (fun wx=>Bag ((w6.heap.size,38,[(.slice A5 DW.S.length c5),(.slice A6 DW.B.length c6)]) :: [(w.heap.size+1,40,[.slice none 0 0,.slice none 0 0,.bool false,.bool false,.bool false,.int .i64 0,.int .i64 0,.int .i64 0,.int .i64 0,.int .i64 0]),(w.heap.size,40,[(.slice A1 D.S.length c1),(.slice A2 D.B.length c2),.bool en,.bool false,.bool er,.int .i64 2,.int .i64 (n:Int),.int .i64 (2*(A:Int)),.int .i64 s,.int .i64 0])]) w wx∧StsX (OwnA X w.heap.size) wx (.slice A5 DW.S.length c5) DW.S∧ItsX (OwnA X w.heap.size) wx (.slice A6 DW.B.length c6) DW.B) ⟨hJ2,hJ3,hJ4⟩ ?_
     clear hJ2 hJ3 hJ4
     intro w4 ⟨hXz,hs4,hb4⟩
     generalize w6.heap.size=Bk at hXz ⊢)
  | (have hJ2:Bag ((w7.heap.size,38,[(.slice A5 DW.S.length c5),(.slice A6 DW.B.length c6)]) :: [(w.heap.size+1,40,[.slice none 0 0,.slice none 0 0,.bool false,.bool false,.bool false,.int .i64 0,.int .i64 0,.int .i64 0,.int .i64 0,.int .i64 0]),(w.heap.size,40,[(.slice A1 D.S.length c1),(.slice A2 D.B.length c2),.bool en,.bool false,.bool er,.int .i64 2,.int .i64 (n:Int),.int .i64 (2*(A:Int)),.int .i64 s,.int .i64 0])]) w (w7.alloc (.cells ([(.slice A5 DW.S.length c5),(.slice A6 DW.B.length c6)]:List Value).toArray 38)):=(hX.step hB7).join ((Bag.nil w7).new 38 [(.slice A5 DW.S.length c5),(.slice A6 DW.B.length c6)])
     have hJ3:StsX (OwnA X w.heap.size) (w7.alloc (.cells ([(.slice A5 DW.S.length c5),(.slice A6 DW.B.length c6)]:List Value).toArray 38)) (.slice A5 DW.S.length c5) DW.S:=hs5.below (bA (Below.refl _ _) _)
     have hJ4:ItsX (OwnA X w.heap.size) (w7.alloc (.cells ([(.slice A5 DW.S.length c5),(.slice A6 DW.B.length c6)]:List Value).toArray 38)) (.slice A6 DW.B.length c6) DW.B:=hb5.below (bA (Below.refl _ _) _)
     clear hX hs5 hb5
     refine leaf (fun wx=>Bag ((w7.heap.size,38,[(.slice A5 DW.S.length c5),(.slice A6 DW.B.length c6)]) :: [(w.heap.size+1,40,[.slice none 0 0,.slice none 0 0,.bool false,.bool false,.bool false,.int .i64 0,.int .i64 0,.int .i64 0,.int .i64 0,.int .i64 0]),(w.heap.size,40,[(.slice A1 D.S.length c1),(.slice A2 D.B.length c2),.bool en,.bool false,.bool er,.int .i64 2,.int .i64 (n:Int),.int .i64 (2*(A:Int)),.int .i64 s,.int .i64 0])]) w wx∧StsX (OwnA X w.heap.size) wx (.slice A5 DW.S.length c5) DW.S∧ItsX (OwnA X w.heap.size) wx (.slice A6 DW.B.length c6) DW.B) ⟨hJ2,hJ3,hJ4⟩ ?_
     clear hJ2 hJ3 hJ4
     intro w4 ⟨hXz,hs4,hb4⟩
     generalize w7.heap.size=Bk at hXz ⊢)
  clear hB6 hB7
  have hX:=hXz
  have hS:=hs4
  have hI:=hb4
  clear hXz hs4 hb4
  by_cases he:ew=0
  ·subst he
   replace hRES:(if (0:Int)=0 then ((Dk.mk D en false er 2 (n:Int) (2*(A:Int)) s 1).adv DW,m,B) else _)=RES:=hRES
   rw [if_pos rfl,hadv] at hRES
   subst hRES
   clear hadv
   go_wp2_with (first|((with_reducible refine qab ?_);first|refine lc hX ?_|refine lw hX aggK sizK ?_|refine lp (ds:=[_,_]) hX aggD sizD ?_)|((with_reducible refine qah ?_);first|(refine qdu (ds:=[(.slice A5 DW.S.length c5),(.slice A6 DW.B.length c6)]) (hX.perm (List.perm_append_comm (l₁:=[_,_]) (l₂:=[_]))) aggD sizD _ _ rfl rfl rfl rfl rfl rfl rfl (by simp) (qf6 rfl rfl) ?_;clear hX;intro wp hX hkz;replace hS:=hS.over hkz (.inr (.inl rfl));replace hI:=hI.over hkz (.inr (.inl rfl));clear hkz;dsimp only [List.take,List.drop,List.cons_append,List.nil_append] at hX)|(first|(refine qae (z:=.int .i64 _) hX.swap qbu _ _ rfl rfl rfl rfl rfl rfl (by simp) rfl rfl ?_;intro wp hX3 hk3 hz3;clear hz3;clear hX;have hX:=hX3;replace hS:=hS.over hk3 (.inr (.inl rfl));replace hI:=hI.over hk3 (.inr (.inl rfl));clear hk3 hX3;simp only [sx] at hX)|(refine qae (z:=.int .i64 _) hX qbu _ _ rfl rfl rfl rfl rfl rfl (by simp) rfl rfl ?_;intro wp hX3 hk3 hz3;clear hz3;clear hX;have hX:=hX3;replace hS:=hS.over hk3 (.inr (.inl rfl));replace hI:=hI.over hk3 (.inr (.inl rfl));clear hk3 hX3;simp only [sx] at hX))|(first|(refine qae (z:=.bool _) hX.swap qbo _ _ rfl rfl rfl rfl rfl rfl (by simp) rfl rfl ?_;intro wp hX3 hk3 hz3;clear hz3;clear hX;have hX:=hX3;replace hS:=hS.over hk3 (.inr (.inl rfl));replace hI:=hI.over hk3 (.inr (.inl rfl));clear hk3 hX3;simp only [sx] at hX)|(refine qae (z:=.bool _) hX qbo _ _ rfl rfl rfl rfl rfl rfl (by simp) rfl rfl ?_;intro wp hX3 hk3 hz3;clear hz3;clear hX;have hX:=hX3;replace hS:=hS.over hk3 (.inr (.inl rfl));replace hI:=hI.over hk3 (.inr (.inl rfl));clear hk3 hX3;simp only [sx] at hX))|(refine qaa (cs':=[(.slice A5 DW.S.length c5),(.slice A6 DW.B.length c6),.bool en,.bool true,.bool er,.int .i64 2,.int .i64 0,.int .i64 ((2*(A:Int)+2*(n:Int))%65536),.int .i64 ((s+1)%65536),.int .i64 0]) hX.swap aggK sizK _ _ rfl rfl rfl rfl rfl rfl rfl rfl (qav rfl rfl _ _ _ _ _ _ _ _) ?_;clear hX;intro wz hX hkz;replace hS:=hS.over hkz (.inr (.inr rfl));replace hI:=hI.over hkz (.inr (.inr rfl));clear hkz)|(refine qaa (cs':=[(.slice A5 DW.S.length c5),(.slice A6 DW.B.length c6),.bool en,.bool true,.bool er,.int .i64 2,.int .i64 0,.int .i64 ((2*(A:Int)+2*(n:Int))%65536),.int .i64 ((s+1)%65536),.int .i64 0]) (hX.perm (List.perm_append_comm (l₁:=[_,_]) (l₂:=[_]))) aggK sizK _ _ rfl rfl rfl rfl rfl rfl rfl rfl (qav rfl rfl _ _ _ _ _ _ _ _) ?_;clear hX;intro wz hX hkz;replace hS:=hS.over hkz (.inr (.inr rfl));replace hI:=hI.over hkz (.inr (.inr rfl));clear hkz)|(refine qaa (cs':=[(.slice A5 DW.S.length c5),(.slice A6 DW.B.length c6),.bool en,.bool true,.bool er,.int .i64 2,.int .i64 0,.int .i64 ((2*(A:Int)+2*(n:Int))%65536),.int .i64 ((s+1)%65536),.int .i64 0]) hX aggK sizK _ _ rfl rfl rfl rfl rfl rfl rfl rfl (qav rfl rfl _ _ _ _ _ _ _ _) ?_;clear hX;intro wz hX hkz;replace hS:=hS.over hkz (.inr (.inr rfl));replace hI:=hI.over hkz (.inr (.inr rfl));clear hkz)))
   first|exact bodyPost_ret (qal Tryz.results51 rfl ((hX.all _ _ _ (.head _)).loadVar rfl aggK sizK)) rfl ⟨_,_,_,rfl,⟨_,_,rfl,hS.less (fun _ h=>.inl h),hI.less (fun _ h=>.inl h)⟩,hm.below hX.below,hz.below hX.below,hX.below⟩|exact bodyPost_ret (qal Tryz.results51 rfl ((hX.all _ _ _ (.tail _ (.head _))).loadVar rfl aggK sizK)) rfl ⟨_,_,_,rfl,⟨_,_,rfl,hS.less (fun _ h=>.inl h),hI.less (fun _ h=>.inl h)⟩,hm.below hX.below,hz.below hX.below,hX.below⟩|exact bodyPost_ret (qal Tryz.results51 rfl ((hX.all _ _ _ (.tail _ (.tail _ (.head _)))).loadVar rfl aggK sizK)) rfl ⟨_,_,_,rfl,⟨_,_,rfl,hS.less (fun _ h=>.inl h),hI.less (fun _ h=>.inl h)⟩,hm.below hX.below,hz.below hX.below,hX.below⟩
  ·have he1:(ew != 0)=true:=by simpa using he
   replace hRES:(if ew=0 then ((Dk.mk D en false er 2 (n:Int) (2*(A:Int)) s 1).adv DW,m,B) else _)=RES:=hRES
   rw [if_neg he] at hRES
   subst hRES
   clear hadv he
   go_wp2_with (first|((with_reducible refine qab ?_);first|refine lc hX ?_|refine lw hX aggK sizK ?_)|(go_at_call 110;with_reducible refine cst hX (hfl _) ?_;clear hX;intro wf hX)|((with_reducible refine qah ?_);refine qaa (cs':=[(.slice A1 D.S.length c1),(.slice A2 D.B.length c2),.bool en,.bool true,.bool true,.int .i64 2,.int .i64 (n:Int),.int .i64 (2*(A:Int)),.int .i64 s,.int .i64 0]) hX.swap aggK sizK _ _ rfl rfl rfl rfl rfl rfl rfl rfl (qav rfl rfl _ _ _ _ _ _ _ _) ?_;clear hX;intro wz hX hkz;clear hkz))
   first|exact bodyPost_ret (qal Tryz.results51 rfl ((hX.all _ _ _ (.head _)).loadVar rfl aggK sizK)) rfl ⟨_,_,_,rfl,⟨_,_,rfl,hs.below hX.below,hb.below hX.below⟩,hm.below hX.below,hz.below hX.below,hX.below⟩|exact bodyPost_ret (qal Tryz.results51 rfl ((hX.all _ _ _ (.tail _ (.head _))).loadVar rfl aggK sizK)) rfl ⟨_,_,_,rfl,⟨_,_,rfl,hs.below hX.below,hb.below hX.below⟩,hm.below hX.below,hz.below hX.below,hX.below⟩|exact bodyPost_ret (qal Tryz.results51 rfl ((hX.all _ _ _ (.tail _ (.tail _ (.head _)))).loadVar rfl aggK sizK)) rfl ⟨_,_,_,rfl,⟨_,_,rfl,hs.below hX.below,hb.below hX.below⟩,hm.below hX.below,hz.below hX.below,hX.below⟩
theorem qk5 (D:Drv) (en er:Bool) (s:Int) (A:Nat) (w1:Int) (hw1:64<w1) (hw2:w1≤65535) (hA:A≤32767) (m B:List Int) (vs vb vm vz:Value) (w:World) (X:Nat→Prop) (hXl:∀ b,X b→b<w.heap.size) (hs:StsX X w vs D.S) (hb:ItsX X w vb D.B) (hm:ItsX X w vm m) (hz:ItsX X w vz B) (hml:m.length≤1099511627776) (hzl:B.length≤1099511627776) (hl:D.B.length≤1099511627776) (hl2:D.S.length≤1099511627776) (hs0:0≤s∧s≤65535) (hw:∀ x∈m,0≤x∧x≤65535) (hr:¬ 2*(m.length:Int)<2*(A:Int)+2*((64:Nat):Int)) (hp:spV B (2*(A:Int)) 64=false) (DW:Drv) (ew:Int) (hDW:D.wr s (secV m A 64)=(DW,ew)):Calls Tryz.prog 51 #[.agg #[vs,vb,.bool en,.bool false,.bool er,.int .i64 2,.int .i64 w1,.int .i64 (2*(A:Int)),.int .i64 s,.int .i64 1],vm,vz] w (TickSays (Dk.mk D en false er 2 w1 (2*(A:Int)) s 1) m B X w):=by
 obtain ⟨A1,c1,rfl,_⟩:=hs.now.form
 obtain ⟨A2,c2,rfl,_⟩:=hb.now.form
 obtain ⟨A3,c3,rfl,_⟩:=hm.now.form
 obtain ⟨A4,c4,rfl,_⟩:=hz.now.form
 have h64:(Dk.mk D en false er 2 w1 (2*(A:Int)) s 1).n64=64:=by unfold Dk.n64;dsimp only;omega
 have d64:(64:Int)<w1:=by omega
 have w0:IntKind.i64.wrap (2*64)=2*64:=by rw [qaf];unfold wrap64;omega
 have w1':IntKind.i64.wrap (2*(A:Int)+2*64)=2*(A:Int)+2*64:=by rw [qaf];unfold wrap64;omega
 have w2:IntKind.i64.wrap (2*(m.length:Int))=2*(m.length:Int):=by rw [qaf];unfold wrap64;omega
 have w3:IntKind.i64.wrap (2*(A:Int)+128)=2*(A:Int)+128:=by rw [qaf];unfold wrap64;omega
 have hfl:=fun w=>qbj (Dk.mk D en false er 2 w1 (2*(A:Int)) s 0) A1 D.S.length c1 A2 D.B.length c2 w
 unfold Dk.fail at hfl
 dsimp only at hfl
 have hrd:=fun w' (h:Below w.heap.size w w')=>qbt D s hl hl2 (.slice A1 D.S.length c1) (.slice A2 D.B.length c2) w' (hs.now.below h) (hb.now.below h)
 have hsp:∀ w',Below w.heap.size w w'→Calls Tryz.prog 112 #[.slice A4 B.length c4,.int .i64 (2*(A:Int)),.int .i64 64] w' fun e' w2=>e'=.returned (.bool (spV B (2*(A:Int)) 64))∧Below w'.heap.size w' w2:=fun w' h=>qbg B (2*(A:Int)) 64 _ w' hzl (by omega) (by omega) (hz.now.below h)
 have hse:∀ w',Below w.heap.size w w'→Calls Tryz.prog 115 #[.slice A3 m.length c3,.int .i64 (2*(A:Int)),.int .i64 64] w' fun e' w2=>e'=.returned (.string (secV m A 64))∧Below w'.heap.size w' w2:=fun w' h=>qhl m A 64 _ w' (by omega) hml (by omega) hw (hm.now.below h)
 have hwr:=fun Y w' (h:Below w.heap.size w w') (hYl:∀ b,Y b→b<w'.heap.size) (hsY:StsX Y w' (.slice A1 D.S.length c1) D.S) (hbY:ItsX Y w' (.slice A2 D.B.length c2) D.B)=>qi6 D s (secV m A 64) hl hl2 (.slice A1 D.S.length c1) (.slice A2 D.B.length c2) w' Y hYl hsY hbY
 unfold TickSays
 rw [qcs _ _ _ rfl,h64]
 dsimp only
 rw [qb8,if_neg hr,if_neg (by simp),if_neg (by rw [hp];simp),if_neg (by simp),if_pos rfl]
 (try dsimp only [Dk.l0,Dk.fail])
 have d1:¬ (2*(m.length:Int)<2*(A:Int)+128):=by omega
 have d1b:¬ (2*(m.length:Int)<2*(A:Int)+2*64):=by omega
 clear hr
 rw [hp] at hsp
 rw [hDW] at hwr ⊢
 dsimp only at hwr ⊢
 have hadv:∀ D2:Drv,(Dk.mk D en false er 2 w1 (2*(A:Int)) s 1).adv D2=Dk.mk D2 en false er 2 (w1 - 64) ((2*(A:Int)+128)%65536) ((s+1)%65536) 8:=fun D2=>by
  unfold Dk.adv;rw [h64];dsimp only;rw [decide_eq_false (by omega),if_neg (by omega)];rfl
 have u1:(2*(A:Int)+128).tmod 65536=(2*(A:Int)+128)%65536:=Int.tmod_eq_emod_of_nonneg (by omega)
 have u2:IntKind.i64.wrap ((2*(A:Int)+128)%65536)=(2*(A:Int)+128)%65536:=by rw [qaf];unfold wrap64;omega
 have u3:IntKind.i64.wrap (s+1)=s+1:=by rw [qaf];unfold wrap64;omega
 have u4:(s+1).tmod 65536=(s+1)%65536:=Int.tmod_eq_emod_of_nonneg (by omega)
 have u5:IntKind.i64.wrap ((s+1)%65536)=(s+1)%65536:=by rw [qaf];unfold wrap64;omega
 have u8:IntKind.i64.wrap (128:Int)=128:=by rw [qaf];unfold wrap64;omega
 have u9:IntKind.i64.wrap (2*(A:Int)+128)=2*(A:Int)+128:=by rw [qaf];unfold wrap64;omega
 have u6:IntKind.i64.wrap (w1 - 64)=w1 - 64:=by rw [qaf];unfold wrap64;omega
 have u7:(w1 - 64 == 0)=false:=by simp;omega
 generalize D.rd s=RD at *
 obtain ⟨sv,ee⟩:=RD
 dsimp only at hrd
 clear hp hDW
 have hX:=qbi w [(.slice A1 D.S.length c1),(.slice A2 D.B.length c2),.bool en,.bool false,.bool er,.int .i64 2,.int .i64 w1,.int .i64 (2*(A:Int)),.int .i64 s,.int .i64 0] [.slice none 0 0,.slice none 0 0,.bool false,.bool false,.bool false,.int .i64 0,.int .i64 0,.int .i64 0,.int .i64 0,.int .i64 0]
 clear h64
 obtain ⟨RES,hRES⟩:∃ RES,(if ew=0 then ((Dk.mk D en false er 2 w1 (2*(A:Int)) s 1).adv DW,m,B) else ((Dk.mk D en false er 2 w1 (2*(A:Int)) s 1).l0.fail,m,B))=RES:=⟨_,rfl⟩
 dsimp only [Dk.l0,Dk.fail] at hRES
 rw [hRES]
 replace hRES:=hid hRES
 go_enter Tryz.func51,Tryz.ntmps51
 go_wp2_with (first|((with_reducible refine qab ?_);first|refine lc hX ?_|refine lw hX aggK sizK ?_|refine lp (ds:=[_,_]) hX aggD sizD ?_)|((first|(go_at_call 111;with_reducible refine cst hX (hrd _ hX.below) ?_)|(go_at_call 112;with_reducible refine cst hX (hsp _ hX.below) ?_));clear hX;intro wc hX))
 have hc2:w.heap.size+2≤wc.heap.size:=(hX.all _ _ _ (.head _)).lt
 have kp:∀ W,Below wc.heap.size wc W→(fun w2'=>Below wc.heap.size wc w2'∧w2'.cell? ⟨w.heap.size,0,none⟩=some (.slice A1 D.S.length c1)∧w2'.cell? ⟨w.heap.size,1,none⟩=some (.slice A2 D.B.length c2)∧w2'.cell? ⟨w.heap.size,7,none⟩=some (.int .i64 (2*(A:Int)))∧w2'.cell? ⟨w.heap.size,8,none⟩=some (.int .i64 s)) W:=fun W hW=>by
  have hb:=(Bag.step hX hW).all _ _ _ (.tail _ (.head _))
  exact ⟨hW,hb.cell (k:=0) rfl,hb.cell (k:=1) rfl,hb.cell (k:=7) rfl,hb.cell (k:=8) rfl⟩
 go_region_held (fun w2'=>Below wc.heap.size wc w2'∧w2'.cell? ⟨w.heap.size,0,none⟩=some (.slice A1 D.S.length c1)∧w2'.cell? ⟨w.heap.size,1,none⟩=some (.slice A2 D.B.length c2)∧w2'.cell? ⟨w.heap.size,7,none⟩=some (.int .i64 (2*(A:Int)))∧w2'.cell? ⟨w.heap.size,8,none⟩=some (.int .i64 s)) (first|exact kp _ (Below.drew (Below.refl _ _))|exact kp _ (Below.drew (bA (Below.refl _ _) _))|exact kp _ hB6|exact kp _ (bA hB6 _)|exact kp _ hB7|exact kp _ (bA hB7 _)|exact kp _ ((hB7.setCell (by first|exact Nat.le_refl _|exact hB6.size) _).setCell (by first|exact Nat.le_refl _|exact hB6.size) _)|exact kp _ (hB7.setCell (by first|exact Nat.le_refl _|exact hB6.size) _)) (first|(go_at_call 115;first|((with_reducible refine (hse (wc.drew) (bT hX.below (Below.drew (Below.refl _ _)))).mono ?_);rintro e' w6 ⟨rfl,hb6⟩;have hB6:=bT (Below.drew (Below.refl _ _)) hb6)|((with_reducible refine (hse ((wc.alloc (.cells ([.slice none 0 0,.slice none 0 0]:List Value).toArray 38)).drew) (bT hX.below (Below.drew (bA (Below.refl _ _) _)))).mono ?_);rintro e' w6 ⟨rfl,hb6⟩;have hB6:=bT (Below.drew (bA (Below.refl _ _) _)) hb6;have hkA:=((Bag.nil wc).new 38 [.slice none 0 0,.slice none 0 0]).drew.step hb6;have hkl:=(hkA.all _ _ _ (.head _)).lt))|(go_at_call 114;first|(have hkA2:=hkA;(with_reducible refine (hwr (fun b=>OwnA X w.heap.size b∨b=wc.heap.size) w6 (bT hX.below hB6) (xw_lt hXl (Nat.le_trans hc2 hB6.size) hkl) (hs.weak (bT hX.below hB6) (qeu (by omega))) (hb.weak (bT hX.below hB6) (qeu (by omega)))).mono ?_);rintro e' w7 ⟨x,rfl,⟨y1,y2,rfl,hs5,hb5⟩,hb7⟩;have hB7:=bT hB6 hb7;clear hkA2;replace hkA:=hkA.step hb7;obtain ⟨A5,c5,rfl,_,_⟩:=hs5.now.form;obtain ⟨A6,c6,rfl,_,_⟩:=hb5.now.form;have hkk:=hkA.all _ _ _ (.head _);have hc0:=hkk.cell (k:=0) rfl;have hc1:=hkk.cell (k:=1) rfl;have hf0:=hkk.frozen 0;have hf1:=hkk.frozen 1;clear hkk)|((with_reducible refine (hwr (OwnA X w.heap.size) w6 (bT hX.below hB6) (qa2 hXl (Nat.le_trans hc2 hB6.size)) (hs.weak (bT hX.below hB6) qfv) (hb.weak (bT hX.below hB6) qfv)).mono ?_);rintro e' w7 ⟨x,rfl,⟨y1,y2,rfl,hs5,hb5⟩,hb7⟩;have hB7:=bT hB6 hb7;obtain ⟨A5,c5,rfl,_,_⟩:=hs5.now.form;obtain ⟨A6,c6,rfl,_,_⟩:=hb5.now.form)|(have hbC:=bA hB6 (.cells ([.slice none 0 0,.slice none 0 0]:List Value).toArray 38);have hkC:=(Bag.nil w6).new 38 [.slice none 0 0,.slice none 0 0];have hkl:=(hkC.all _ _ _ (.head _)).lt;have hge:w.heap.size≤w6.heap.size:=Nat.le_trans (Nat.le_trans (Nat.le_add_right _ 2) hc2) hB6.size;(with_reducible refine (hwr (fun b=>OwnA X w.heap.size b∨b=w6.heap.size) (w6.alloc (.cells ([.slice none 0 0,.slice none 0 0]:List Value).toArray 38)) (bT hX.below hbC) (xw_lt hXl (Nat.le_trans hc2 hbC.size) hkl) (hs.weak (bT hX.below hbC) (qeu hge)) (hb.weak (bT hX.below hbC) (qeu hge))).mono ?_);rintro e' w7 ⟨x,rfl,⟨y1,y2,rfl,hs5,hb5⟩,hb7⟩;have hB7:=bT hbC hb7;replace hkC:=hkC.step hb7;clear hbC hkl hge;obtain ⟨A5,c5,rfl,_,_⟩:=hs5.now.form;obtain ⟨A6,c6,rfl,_,_⟩:=hb5.now.form;have hkk:=hkC.all _ _ _ (.head _);have hc0:=hkk.cell (k:=0) rfl;have hc1:=hkk.cell (k:=1) rfl;have hf0:=hkk.frozen 0;have hf1:=hkk.frozen 1;clear hkk)))
 all_goals
  clear hrd hsp hse hwr kp
  first
  | (have hk2:=hkA
     have hJ:Bag [(wc.heap.size,38,[(.slice A5 DW.S.length c5),(.slice A6 DW.B.length c6)])] wc ((w7.setCell ⟨wc.heap.size,0,none⟩ (.slice A5 DW.S.length c5)).setCell ⟨wc.heap.size,1,none⟩ (.slice A6 DW.B.length c6)):=(hkA.set 0 (.slice A5 DW.S.length c5)).set 1 (.slice A6 DW.B.length c6)
     have hJ2:Bag ((wc.heap.size,38,[(.slice A5 DW.S.length c5),(.slice A6 DW.B.length c6)]) :: [(w.heap.size+1,40,[.slice none 0 0,.slice none 0 0,.bool false,.bool false,.bool false,.int .i64 0,.int .i64 0,.int .i64 0,.int .i64 0,.int .i64 0]),(w.heap.size,40,[(.slice A1 D.S.length c1),(.slice A2 D.B.length c2),.bool en,.bool false,.bool er,.int .i64 2,.int .i64 w1,.int .i64 (2*(A:Int)),.int .i64 s,.int .i64 0])]) w ((w7.setCell ⟨wc.heap.size,0,none⟩ (.slice A5 DW.S.length c5)).setCell ⟨wc.heap.size,1,none⟩ (.slice A6 DW.B.length c6)):=hX.join hJ
     have hkz:∀ k,k≠wc.heap.size→((w7.setCell ⟨wc.heap.size,0,none⟩ (.slice A5 DW.S.length c5)).setCell ⟨wc.heap.size,1,none⟩ (.slice A6 DW.B.length c6)).heap[k]? = w7.heap[k]?:=fun k hk=>(heap_setCell_other _ _ k _ hk).trans (heap_setCell_other _ _ k _ hk)
     have hJ3:StsX (OwnA X w.heap.size) ((w7.setCell ⟨wc.heap.size,0,none⟩ (.slice A5 DW.S.length c5)).setCell ⟨wc.heap.size,1,none⟩ (.slice A6 DW.B.length c6)) (.slice A5 DW.S.length c5) DW.S:=(hs5.over hkz (.inr rfl)).less (fun _ h=>.inl h)
     have hJ4:ItsX (OwnA X w.heap.size) ((w7.setCell ⟨wc.heap.size,0,none⟩ (.slice A5 DW.S.length c5)).setCell ⟨wc.heap.size,1,none⟩ (.slice A6 DW.B.length c6)) (.slice A6 DW.B.length c6) DW.B:=(hb5.over hkz (.inr rfl)).less (fun _ h=>.inl h)
     clear hX hs5 hb5 hkA hk2 hc0 hc1 hf0 hf1 hkz hJ
     refine leaf (fun wx=>Bag ((wc.heap.size,38,[(.slice A5 DW.S.length c5),(.slice A6 DW.B.length c6)]) :: [(w.heap.size+1,40,[.slice none 0 0,.slice none 0 0,.bool false,.bool false,.bool false,.int .i64 0,.int .i64 0,.int .i64 0,.int .i64 0,.int .i64 0]),(w.heap.size,40,[(.slice A1 D.S.length c1),(.slice A2 D.B.length c2),.bool en,.bool false,.bool er,.int .i64 2,.int .i64 w1,.int .i64 (2*(A:Int)),.int .i64 s,.int .i64 0])]) w wx∧StsX (OwnA X w.heap.size) wx (.slice A5 DW.S.length c5) DW.S∧ItsX (OwnA X w.heap.size) wx (.slice A6 DW.B.length c6) DW.B) ⟨hJ2,hJ3,hJ4⟩ ?_
     clear hJ2 hJ3 hJ4
     intro w4 ⟨hXz,hs4,hb4⟩
     generalize wc.heap.size=Bk at hXz ⊢)
  | (have hk2:=hkC
     have hJ:Bag [(w6.heap.size,38,[(.slice A5 DW.S.length c5),(.slice A6 DW.B.length c6)])] w6 ((w7.setCell ⟨w6.heap.size,0,none⟩ (.slice A5 DW.S.length c5)).setCell ⟨w6.heap.size,1,none⟩ (.slice A6 DW.B.length c6)):=(hkC.set 0 (.slice A5 DW.S.length c5)).set 1 (.slice A6 DW.B.length c6)
     have hJ2:Bag ((w6.heap.size,38,[(.slice A5 DW.S.length c5),(.slice A6 DW.B.length c6)]) :: [(w.heap.size+1,40,[.slice none 0 0,.slice none 0 0,.bool false,.bool false,.bool false,.int .i64 0,.int .i64 0,.int .i64 0,.int .i64 0,.int .i64 0]),(w.heap.size,40,[(.slice A1 D.S.length c1),(.slice A2 D.B.length c2),.bool en,.bool false,.bool er,.int .i64 2,.int .i64 w1,.int .i64 (2*(A:Int)),.int .i64 s,.int .i64 0])]) w ((w7.setCell ⟨w6.heap.size,0,none⟩ (.slice A5 DW.S.length c5)).setCell ⟨w6.heap.size,1,none⟩ (.slice A6 DW.B.length c6)):=(hX.step hB6).join hJ
     have hkz:∀ k,k≠w6.heap.size→((w7.setCell ⟨w6.heap.size,0,none⟩ (.slice A5 DW.S.length c5)).setCell ⟨w6.heap.size,1,none⟩ (.slice A6 DW.B.length c6)).heap[k]? = w7.heap[k]?:=fun k hk=>(heap_setCell_other _ _ k _ hk).trans (heap_setCell_other _ _ k _ hk)
     have hJ3:StsX (OwnA X w.heap.size) ((w7.setCell ⟨w6.heap.size,0,none⟩ (.slice A5 DW.S.length c5)).setCell ⟨w6.heap.size,1,none⟩ (.slice A6 DW.B.length c6)) (.slice A5 DW.S.length c5) DW.S:=(hs5.over hkz (.inr rfl)).less (fun _ h=>.inl h)
     have hJ4:ItsX (OwnA X w.heap.size) ((w7.setCell ⟨w6.heap.size,0,none⟩ (.slice A5 DW.S.length c5)).setCell ⟨w6.heap.size,1,none⟩ (.slice A6 DW.B.length c6)) (.slice A6 DW.B.length c6) DW.B:=(hb5.over hkz (.inr rfl)).less (fun _ h=>.inl h)
     clear hX hs5 hb5 hkC hk2 hc0 hc1 hf0 hf1 hkz hJ
     refine leaf (fun wx=>Bag ((w6.heap.size,38,[(.slice A5 DW.S.length c5),(.slice A6 DW.B.length c6)]) :: [(w.heap.size+1,40,[.slice none 0 0,.slice none 0 0,.bool false,.bool false,.bool false,.int .i64 0,.int .i64 0,.int .i64 0,.int .i64 0,.int .i64 0]),(w.heap.size,40,[(.slice A1 D.S.length c1),(.slice A2 D.B.length c2),.bool en,.bool false,.bool er,.int .i64 2,.int .i64 w1,.int .i64 (2*(A:Int)),.int .i64 s,.int .i64 0])]) w wx∧StsX (OwnA X w.heap.size) wx (.slice A5 DW.S.length c5) DW.S∧ItsX (OwnA X w.heap.size) wx (.slice A6 DW.B.length c6) DW.B) ⟨hJ2,hJ3,hJ4⟩ ?_
     clear hJ2 hJ3 hJ4
     intro w4 ⟨hXz,hs4,hb4⟩
     generalize w6.heap.size=Bk at hXz ⊢)
  | (have hJ2:Bag ((w7.heap.size,38,[(.slice A5 DW.S.length c5),(.slice A6 DW.B.length c6)]) :: [(w.heap.size+1,40,[.slice none 0 0,.slice none 0 0,.bool false,.bool false,.bool false,.int .i64 0,.int .i64 0,.int .i64 0,.int .i64 0,.int .i64 0]),(w.heap.size,40,[(.slice A1 D.S.length c1),(.slice A2 D.B.length c2),.bool en,.bool false,.bool er,.int .i64 2,.int .i64 w1,.int .i64 (2*(A:Int)),.int .i64 s,.int .i64 0])]) w (w7.alloc (.cells ([(.slice A5 DW.S.length c5),(.slice A6 DW.B.length c6)]:List Value).toArray 38)):=(hX.step hB7).join ((Bag.nil w7).new 38 [(.slice A5 DW.S.length c5),(.slice A6 DW.B.length c6)])
     have hJ3:StsX (OwnA X w.heap.size) (w7.alloc (.cells ([(.slice A5 DW.S.length c5),(.slice A6 DW.B.length c6)]:List Value).toArray 38)) (.slice A5 DW.S.length c5) DW.S:=hs5.below (bA (Below.refl _ _) _)
     have hJ4:ItsX (OwnA X w.heap.size) (w7.alloc (.cells ([(.slice A5 DW.S.length c5),(.slice A6 DW.B.length c6)]:List Value).toArray 38)) (.slice A6 DW.B.length c6) DW.B:=hb5.below (bA (Below.refl _ _) _)
     clear hX hs5 hb5
     refine leaf (fun wx=>Bag ((w7.heap.size,38,[(.slice A5 DW.S.length c5),(.slice A6 DW.B.length c6)]) :: [(w.heap.size+1,40,[.slice none 0 0,.slice none 0 0,.bool false,.bool false,.bool false,.int .i64 0,.int .i64 0,.int .i64 0,.int .i64 0,.int .i64 0]),(w.heap.size,40,[(.slice A1 D.S.length c1),(.slice A2 D.B.length c2),.bool en,.bool false,.bool er,.int .i64 2,.int .i64 w1,.int .i64 (2*(A:Int)),.int .i64 s,.int .i64 0])]) w wx∧StsX (OwnA X w.heap.size) wx (.slice A5 DW.S.length c5) DW.S∧ItsX (OwnA X w.heap.size) wx (.slice A6 DW.B.length c6) DW.B) ⟨hJ2,hJ3,hJ4⟩ ?_
     clear hJ2 hJ3 hJ4
     intro w4 ⟨hXz,hs4,hb4⟩
     generalize w7.heap.size=Bk at hXz ⊢)
  clear hB6 hB7
  have hX:=hXz
  have hS:=hs4
  have hI:=hb4
  clear hXz hs4 hb4
  by_cases he:ew=0
  ·subst he
   replace hRES:(if (0:Int)=0 then ((Dk.mk D en false er 2 w1 (2*(A:Int)) s 1).adv DW,m,B) else _)=RES:=hRES
   rw [if_pos rfl,hadv] at hRES
   subst hRES
   clear hadv
   go_wp2_with (first|((with_reducible refine qab ?_);first|refine lc hX ?_|refine lw hX aggK sizK ?_|refine lp (ds:=[_,_]) hX aggD sizD ?_)|((with_reducible refine qah ?_);first|(refine qdu (ds:=[(.slice A5 DW.S.length c5),(.slice A6 DW.B.length c6)]) (hX.perm (List.perm_append_comm (l₁:=[_,_]) (l₂:=[_]))) aggD sizD _ _ rfl rfl rfl rfl rfl rfl rfl (by simp) (qf6 rfl rfl) ?_;clear hX;intro wp hX hkz;replace hS:=hS.over hkz (.inr (.inl rfl));replace hI:=hI.over hkz (.inr (.inl rfl));clear hkz;dsimp only [List.take,List.drop,List.cons_append,List.nil_append] at hX)|(first|(refine qae (z:=.int .i64 _) hX.swap qbu _ _ rfl rfl rfl rfl rfl rfl (by simp) rfl rfl ?_;intro wp hX3 hk3 hz3;clear hz3;clear hX;have hX:=hX3;replace hS:=hS.over hk3 (.inr (.inl rfl));replace hI:=hI.over hk3 (.inr (.inl rfl));clear hk3 hX3;simp only [sx] at hX)|(refine qae (z:=.int .i64 _) hX qbu _ _ rfl rfl rfl rfl rfl rfl (by simp) rfl rfl ?_;intro wp hX3 hk3 hz3;clear hz3;clear hX;have hX:=hX3;replace hS:=hS.over hk3 (.inr (.inl rfl));replace hI:=hI.over hk3 (.inr (.inl rfl));clear hk3 hX3;simp only [sx] at hX))|(first|(refine qae (z:=.bool _) hX.swap qbo _ _ rfl rfl rfl rfl rfl rfl (by simp) rfl rfl ?_;intro wp hX3 hk3 hz3;clear hz3;clear hX;have hX:=hX3;replace hS:=hS.over hk3 (.inr (.inl rfl));replace hI:=hI.over hk3 (.inr (.inl rfl));clear hk3 hX3;simp only [sx] at hX)|(refine qae (z:=.bool _) hX qbo _ _ rfl rfl rfl rfl rfl rfl (by simp) rfl rfl ?_;intro wp hX3 hk3 hz3;clear hz3;clear hX;have hX:=hX3;replace hS:=hS.over hk3 (.inr (.inl rfl));replace hI:=hI.over hk3 (.inr (.inl rfl));clear hk3 hX3;simp only [sx] at hX))|(refine qaa (cs':=[(.slice A5 DW.S.length c5),(.slice A6 DW.B.length c6),.bool en,.bool false,.bool er,.int .i64 2,.int .i64 (w1 - 64),.int .i64 ((2*(A:Int)+128)%65536),.int .i64 ((s+1)%65536),.int .i64 8]) hX.swap aggK sizK _ _ rfl rfl rfl rfl rfl rfl rfl rfl (qav rfl rfl _ _ _ _ _ _ _ _) ?_;clear hX;intro wz hX hkz;replace hS:=hS.over hkz (.inr (.inr rfl));replace hI:=hI.over hkz (.inr (.inr rfl));clear hkz)|(refine qaa (cs':=[(.slice A5 DW.S.length c5),(.slice A6 DW.B.length c6),.bool en,.bool false,.bool er,.int .i64 2,.int .i64 (w1 - 64),.int .i64 ((2*(A:Int)+128)%65536),.int .i64 ((s+1)%65536),.int .i64 8]) (hX.perm (List.perm_append_comm (l₁:=[_,_]) (l₂:=[_]))) aggK sizK _ _ rfl rfl rfl rfl rfl rfl rfl rfl (qav rfl rfl _ _ _ _ _ _ _ _) ?_;clear hX;intro wz hX hkz;replace hS:=hS.over hkz (.inr (.inr rfl));replace hI:=hI.over hkz (.inr (.inr rfl));clear hkz)|(refine qaa (cs':=[(.slice A5 DW.S.length c5),(.slice A6 DW.B.length c6),.bool en,.bool false,.bool er,.int .i64 2,.int .i64 (w1 - 64),.int .i64 ((2*(A:Int)+128)%65536),.int .i64 ((s+1)%65536),.int .i64 8]) hX aggK sizK _ _ rfl rfl rfl rfl rfl rfl rfl rfl (qav rfl rfl _ _ _ _ _ _ _ _) ?_;clear hX;intro wz hX hkz;replace hS:=hS.over hkz (.inr (.inr rfl));replace hI:=hI.over hkz (.inr (.inr rfl));clear hkz)))
   first|exact bodyPost_ret (qal Tryz.results51 rfl ((hX.all _ _ _ (.head _)).loadVar rfl aggK sizK)) rfl ⟨_,_,_,rfl,⟨_,_,rfl,hS.less (fun _ h=>.inl h),hI.less (fun _ h=>.inl h)⟩,hm.below hX.below,hz.below hX.below,hX.below⟩|exact bodyPost_ret (qal Tryz.results51 rfl ((hX.all _ _ _ (.tail _ (.head _))).loadVar rfl aggK sizK)) rfl ⟨_,_,_,rfl,⟨_,_,rfl,hS.less (fun _ h=>.inl h),hI.less (fun _ h=>.inl h)⟩,hm.below hX.below,hz.below hX.below,hX.below⟩|exact bodyPost_ret (qal Tryz.results51 rfl ((hX.all _ _ _ (.tail _ (.tail _ (.head _)))).loadVar rfl aggK sizK)) rfl ⟨_,_,_,rfl,⟨_,_,rfl,hS.less (fun _ h=>.inl h),hI.less (fun _ h=>.inl h)⟩,hm.below hX.below,hz.below hX.below,hX.below⟩
  ·have he1:(ew != 0)=true:=by simpa using he
   replace hRES:(if ew=0 then ((Dk.mk D en false er 2 w1 (2*(A:Int)) s 1).adv DW,m,B) else _)=RES:=hRES
   rw [if_neg he] at hRES
   subst hRES
   clear hadv he
   go_wp2_with (first|((with_reducible refine qab ?_);first|refine lc hX ?_|refine lw hX aggK sizK ?_)|(go_at_call 110;with_reducible refine cst hX (hfl _) ?_;clear hX;intro wf hX)|((with_reducible refine qah ?_);refine qaa (cs':=[(.slice A1 D.S.length c1),(.slice A2 D.B.length c2),.bool en,.bool true,.bool true,.int .i64 2,.int .i64 w1,.int .i64 (2*(A:Int)),.int .i64 s,.int .i64 0]) hX.swap aggK sizK _ _ rfl rfl rfl rfl rfl rfl rfl rfl (qav rfl rfl _ _ _ _ _ _ _ _) ?_;clear hX;intro wz hX hkz;clear hkz))
   first|exact bodyPost_ret (qal Tryz.results51 rfl ((hX.all _ _ _ (.head _)).loadVar rfl aggK sizK)) rfl ⟨_,_,_,rfl,⟨_,_,rfl,hs.below hX.below,hb.below hX.below⟩,hm.below hX.below,hz.below hX.below,hX.below⟩|exact bodyPost_ret (qal Tryz.results51 rfl ((hX.all _ _ _ (.tail _ (.head _))).loadVar rfl aggK sizK)) rfl ⟨_,_,_,rfl,⟨_,_,rfl,hs.below hX.below,hb.below hX.below⟩,hm.below hX.below,hz.below hX.below,hX.below⟩|exact bodyPost_ret (qal Tryz.results51 rfl ((hX.all _ _ _ (.tail _ (.tail _ (.head _)))).loadVar rfl aggK sizK)) rfl ⟨_,_,_,rfl,⟨_,_,rfl,hs.below hX.below,hb.below hX.below⟩,hm.below hX.below,hz.below hX.below,hX.below⟩
end Go.Proofs.YthpnddgfgpacpaaGreat
