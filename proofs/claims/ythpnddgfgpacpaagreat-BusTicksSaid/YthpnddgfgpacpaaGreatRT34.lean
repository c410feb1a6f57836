import Derived.Test.YthpnddgfgpacpaaGreatRT04
import Derived.Test.YthpnddgfgpacpaaGreatRT33
import Derived.Test.YthpnddgfgpacpaaGreatRT13
namespace Go.Proofs.YthpnddgfgpacpaaGreat
open Go.RowKit
set_option linter.unusedSimpArgs false
set_option linter.unusedVariables false
set_option maxHeartbeats 4000000
set_option maxRecDepth 100000
attribute [local irreducible] wpQuiet
theorem qgp (s:ByteArray) (k:Nat):(s.extract 0 k).data.toList=s.data.toList.take k:=by
 rw [ByteArray.data_extract];simp
theorem ws_ext (m:List Int) (A q:Nat) (F:ByteArray):wsV m A q=F↔bytesN m (2*A) (2*q)=F.data.toList:=by
 constructor
 ·intro h;rw [← h];rfl
 ·intro h
  apply ByteArray.ext
  apply Array.ext'
  exact h
theorem ptr_ck (D:Drv) (n r e:Bool) (s:Int) (A:Nat) (w1 l:Int) (q:Nat) (hq:q≤64) (hA:A≤32767) (m B:List Int) (vs vb vm vz:Value) (X:Nat→Prop) (wN w:World) (hN:Below wN.heap.size wN w) (hXN:∀ b,X b→b<wN.heap.size) (hs:StsX X wN vs D.S) (hb:ItsX X wN vb D.B) (hm:ItsX X wN vm m) (hz:w.ownsRow wN.heap.size 3 1 vz B.length (B.map (Value.int .i64))) (hml:m.length≤1099511627776) (hzl:B.length≤1099511627776) (hD:D.right=true) (hw:∀ x∈m,0≤x∧x≤65535) (hf:¬ 2*(m.length:Int)<2*(A:Int)+2*(q:Int)) (hp:spV B (2*(A:Int)) q=false) (he:(D.rd s).2=0):Calls Tryz.prog 213 #[.agg #[vs,vb,.bool n,.bool r,.bool e,.int .i64 3,.int .i64 w1,.int .i64 (2*(A:Int)),.int .i64 s,.int .i64 l],vm,vz,.int .i64 (q:Int)] w (TrSays (Dk.mk D n r e 3 w1 (2*(A:Int)) s l) (!dfW m A q (D.rd s).1) m B X wN w):=by
 have hsw:=hs.below hN
 have hbw:=hb.below hN
 have hmw:=hm.below hN
 have o1:=qdj hsw.now
 have o2:=qdi hbw.now
 have x1:IntKind.i64.wrap ((q:Int)*2)=2*(q:Int):=by rw [qaf];unfold wrap64;omega
 have hby:=fun wz (h:Below w.heap.size w wz)=>qc9 vm m hml (2*(A:Int)) (2*(q:Int)) (by omega) wz (Its.nums18 (hmw.below h).now)
 have hzz:ItsX X w vz B:=Sv.of_own hz hXN
 rw [qc5 hf,qc3 hf] at hby
 have hws:=qd6 m A q
 have hX:=qbi w [vs,vb,.bool n,.bool r,.bool e,.int .i64 3,.int .i64 w1,.int .i64 (2*(A:Int)),.int .i64 s,.int .i64 l] [.slice none 0 0,.slice none 0 0,.bool false,.bool false,.bool false,.int .i64 0,.int .i64 0,.int .i64 0,.int .i64 0,.int .i64 0]
 have hrd:=fun wz (h:Below w.heap.size w wz)=>qf3 D s hD vs vb wz (hsw.below h).now (hbw.below h).now
 have hsz:=qka hD he
 rw [he] at hrd
 have hct:=fun (wb:Nat) wz (h:Below w.heap.size w wz) (hX:Bag [(wb,9,[.string (wsV m A q)]),(w.heap.size+1,40,[.slice none 0 0,.slice none 0 0,.bool false,.bool false,.bool false,.int .i64 0,.int .i64 0,.int .i64 0,.int .i64 0,.int .i64 0]),(w.heap.size,40,[vs,vb,.bool n,.bool r,.bool e,.int .i64 3,.int .i64 w1,.int .i64 (2*(A:Int)),.int .i64 s,.int .i64 l])] w wz)=>qg0 (2*(A:Int)) q B (wsV m A q) w.heap.size wb wN.heap.size vz wz (qag hz h) hzl (hX.all _ _ _ (.tail _ (.tail _ (.head _)))).lt (hX.all _ _ _ (.head _)).lt ((hX.all _ _ _ (.tail _ (.tail _ (.head _)))).cell (k:=7) rfl) ((hX.all _ _ _ (.head _)).cell (k:=0) rfl) (by omega) hq hws
 rw [hp] at hct
 have hdf:=qsk hw A (D.rd s).1 q (by omega)
 generalize dfW m A q (D.rd s).1=df at *
 generalize (D.rd s).1=sv at *
 have k1:((wsV m A q).size:Int)=2*(q:Int):=by rw [hws];omega
 have k2:(sv.size:Int)=128:=by rw [hsz];rfl
 have k3:min (2*(q:Int)) 128=2*(q:Int):=by omega
 obtain ⟨FV,hFV⟩:∃ FV,sv.extract 0 (2*(q:Int)).toNat=FV:=⟨_,rfl⟩
 have hdq:((wsV m A q).toList == FV.toList)=!df:=by
  have e1:(wsV m A q=FV)↔df=false:=by
   rw [hdf,← hFV,ws_ext,qgp,show (2*(q:Int)).toNat=2*q by omega]
  by_cases h:wsV m A q=FV
  ·rw [str_eq h,e1.1 h];rfl
  ·rw [str_ne h]
   cases df
   ·exact absurd (e1.2 rfl) h
   ·rfl
 clear hdf
 go_enter Tryz.func213,Tryz.ntmps213
 go_wp2_with (first|(go_at_call 219;(with_reducible refine (hby _ hX.below).mono ?_);rintro e' wY ⟨rfl,hbb⟩;replace hX:=hX.step hbb;have hwY:=hX.below.size;clear hbb)|((with_reducible refine qah ?_);refine qbz (z:=.string _) hX qkh _ _ rfl rfl rfl rfl rfl rfl rfl rfl ?_;clear hX;intro wb hX hb8;clear hb8)|((first|(go_at_call 221;with_reducible refine cst hX (hct _ _ hX.below hX) ?_)|(go_at_call 223;with_reducible refine cst hX (hrd _ hX.below) ?_));clear hX;intro wc hX)|((with_reducible refine qab ?_);first|refine lc hX ?_|refine lw hX aggK sizK ?_|refine lp (ds:=[_,_]) hX aggD sizD ?_))
 replace hX:=hX.drew
 refine qbw (fun w'=>Bag [(wY.heap.size,9,[.string (wsV m A q)]),(w.heap.size,40,[vs,vb,.bool n,.bool r,.bool e,.int .i64 3,.int .i64 w1,.int .i64 (2*(A:Int)),.int .i64 s,.int .i64 l])] w w') 9 [(0,false),(1,false),(2,false),(3,false),(4,false),(5,false),(6,true),(7,false),(8,false)] (by kernel_rfl) (by kernel_rfl) (fun _ _ dd _ _ h=>by cases dd<;>exact h) hX.swap.restS ?_
 iterate 6
  refine qcm rfl rfl (fun KK hKK=>?_)
  apply Exists.intro
  refine ⟨fun wq hq=>?_,hKK _ ?_⟩
  ·try dsimp only at hq
   first
    | exact qad 40 _ _ rfl rfl ((hq.all _ _ _ (.tail _ (.head _))).loadAt rfl aggK sizK)
    | exact qad 9 _ _ rfl rfl ((hq.all _ _ _ (.head _)).loadCell rfl qd7)
    | (unfold execOp;go_simp;done)
    | (unfold execOp;go_simp;with_reducible rfl)
  clear hKK KK
  simp only [Act.put,sx]
 refine qda (cs':=[vs,vb,.bool n,.bool r,.bool e,.int .i64 3,.int .i64 w1,.int .i64 (2*(A:Int)),.int .i64 s,.int .i64 l]) rfl rfl hX.swap aggK sizK _ _ rfl rfl rfl rfl rfl rfl (qav o1 o2 _ _ _ _ _ _ _ _) (fun w7 hX7 hk7=>⟨hX7.restS,?_⟩)
 clear hk7 hX
 have hX:=hX7
 clear hX7
 iterate 2
  simp only [Act.put,sx]
  refine qcm rfl rfl (fun KK hKK=>?_)
  apply Exists.intro
  refine ⟨fun wq hq=>?_,hKK _ ?_⟩
  ·try dsimp only at hq
   first
    | exact qad 40 _ _ rfl rfl ((hq.all _ _ _ (.tail _ (.head _))).loadAt rfl aggK sizK)
    | exact qad 9 _ _ rfl rfl ((hq.all _ _ _ (.head _)).loadCell rfl qd7)
    | (unfold execOp;go_simp;done)
    | (unfold execOp;go_simp;with_reducible rfl)
  clear hKK KK
 simp only [Act.put,sx]
 refine qdm ?_
 simp only [List.drop_succ_cons,List.drop_zero]
 go_wp2
 first|exact bodyPost_ret (qa6 Tryz.results213 rfl ((hX.all _ _ _ (.head _)).loadVar rfl aggK sizK)) rfl ⟨_,_,_,rfl,⟨_,_,rfl,hsw.below hX.below,hbw.below hX.below⟩,fun _=>⟨hmw.below hX.below,hzz.below hX.below⟩,hN.trans (hX.below.mono hN.size),fun _=>hX.below⟩|exact bodyPost_ret (qa6 Tryz.results213 rfl ((hX.all _ _ _ (.tail _ (.head _))).loadVar rfl aggK sizK)) rfl ⟨_,_,_,rfl,⟨_,_,rfl,hsw.below hX.below,hbw.below hX.below⟩,fun _=>⟨hmw.below hX.below,hzz.below hX.below⟩,hN.trans (hX.below.mono hN.size),fun _=>hX.below⟩|exact bodyPost_ret (qa6 Tryz.results213 rfl ((hX.all _ _ _ (.tail _ (.tail _ (.head _)))).loadVar rfl aggK sizK)) rfl ⟨_,_,_,rfl,⟨_,_,rfl,hsw.below hX.below,hbw.below hX.below⟩,fun _=>⟨hmw.below hX.below,hzz.below hX.below⟩,hN.trans (hX.below.mono hN.size),fun _=>hX.below⟩
theorem qrh {w w':World} {base n k:Nat} {t:TypeId} {v u:Value} {xs:List Value} (h:w.ownsRow base t k v n xs) (hg:w.grownBy w' u.ownBlock) (hu:∀ g,u.ownBlock=some g→g<base):w'.ownsRow base t k v n xs:=by
 refine h.kept hg ?_
 rcases hv:v.ownBlock with _|g
 ·exact .inl rfl
 ·refine .inr (fun e=>?_)
  have h1:=(World.ownsRow.lt h g hv).1
  have h2:=hu g e.symm
  omega
theorem ptr_get (D:Drv) (n r e:Bool) (s:Int) (A:Nat) (w1 l:Int) (q:Nat) (hq:q≤64) (hA:A≤32767) (m B:List Int) (vs vb vm vz:Value) (X:Nat→Prop) (wN w:World) (hN:Below wN.heap.size wN w) (hXN:∀ b,X b→b<wN.heap.size) (hs:StsX X wN vs D.S) (hb:ItsX X wN vb D.B) (hm:ItsX X wN vm m) (hz:w.ownsRow wN.heap.size 3 1 vz B.length (B.map (Value.int .i64))) (hml:m.length≤1099511627776) (hzl:B.length≤1099511627776) (hD:D.right=true) (hw:∀ x∈m,0≤x∧x≤65535) (hf:¬ 2*(m.length:Int)<2*(A:Int)+2*(q:Int)) (he:(D.rd s).2=0) (hpos:0<m.length):Calls Tryz.prog 213 #[.agg #[vs,vb,.bool n,.bool r,.bool e,.int .i64 1,.int .i64 w1,.int .i64 (2*(A:Int)),.int .i64 s,.int .i64 l],vm,vz,.int .i64 (q:Int)] w (TrSays (Dk.mk D n r e 1 w1 (2*(A:Int)) s l) true (putM m A (D.rd s).1 q) (outB B (2*(A:Int)) q) X wN w):=by
 have hsw:=hs.below hN
 have hbw:=hb.below hN
 have hmw:=hm.below hN
 have o1:=qdj hsw.now
 have o2:=qdi hbw.now
 have x1:IntKind.i64.wrap ((q:Int)*2)=2*(q:Int):=by rw [qaf];unfold wrap64;omega
 have hby:=fun wz (h:Below w.heap.size w wz)=>qc9 vm m hml (2*(A:Int)) (2*(q:Int)) (by omega) wz (Its.nums18 (hmw.below h).now)
 have hzz:ItsX X w vz B:=Sv.of_own hz hXN
 rw [qc5 hf,qc3 hf] at hby
 have hws:=qd6 m A q
 have hX:=qbi w [vs,vb,.bool n,.bool r,.bool e,.int .i64 1,.int .i64 w1,.int .i64 (2*(A:Int)),.int .i64 s,.int .i64 l] [.slice none 0 0,.slice none 0 0,.bool false,.bool false,.bool false,.int .i64 0,.int .i64 0,.int .i64 0,.int .i64 0,.int .i64 0]
 have hrd:=fun wz (h:Below w.heap.size w wz)=>qf3 D s hD vs vb wz (hsw.below h).now (hbw.below h).now
 have hsz:=qka hD he
 rw [he] at hrd
 have hpm:=qja (m:=m) A (D.rd s).1 q (by omega) (by omega)
 generalize putM m A (D.rd s).1 q=m2 at *
 generalize (D.rd s).1=sv at *
 have k1:((wsV m A q).size:Int)=2*(q:Int):=by rw [hws];omega
 have k2:(sv.size:Int)=128:=by rw [hsz];rfl
 have k3:min (2*(q:Int)) 128=2*(q:Int):=by omega
 have hFl:=qgp sv (2*(q:Int)).toNat
 rw [show (2*(q:Int)).toNat=2*q by omega] at hFl
 rw [← hFl] at hpm
 obtain ⟨FV,hFV⟩:∃ FV,sv.extract 0 (2*(q:Int)).toNat=FV:=⟨_,rfl⟩
 rw [show (2*(q:Int)).toNat=2*q by omega] at hFV
 rw [hFV] at hFl hpm
 have hFs:FV.size=2*q:=by
  show FV.data.toList.length=2*q
  rw [hFl,List.length_take]
  show min (2*q) sv.size=2*q
  omega
 have hW:wordsB m=true:=(qds m).2 hw
 have hst:=fun wz (h:Below w.heap.size w wz)=>qlm vm m hml hW hpos (2*(A:Int)) (by omega) FV (by omega) wz (Its.nums18 (hmw.below h).now)
 have hbe:bytesE (2*(m.length:Int)) (2*(A:Int)) (FV.size:Int)=0:=by rw [hFs,show ((2*q:Nat):Int)=2*(q:Int) by omega];exact qc5 hf
 have hsl:storeL m (2*(A:Int)) FV.data.toList=m2:=by
  unfold storeL
  rw [show ((FV.data.toList.length:Nat):Int)=2*(q:Int) by rw [show FV.data.toList.length=FV.size from rfl,hFs];omega,qjx hf,if_pos rfl,show (2*(A:Int)).toNat=2*A by omega,← hpm]
 rw [hbe,hsl] at hst
 have hFV2:sv.extract 0 (2*(q:Int)).toNat=FV:=by rw [show (2*(q:Int)).toNat=2*q by omega];exact hFV
 clear hpm hFl hFV hW hbe hsl
 have hrow:∀ g,vz.ownBlock=some g→wN.heap.size≤g∧g<w.heap.size:=World.ownsRow.lt hz
 have hrow2:∀ g m c,vz=.slice (some g) m c→g.block<w.heap.size:=fun g m c h=>(qhn hz g m c h).2
 go_enter Tryz.func213,Tryz.ntmps213
 go_wp2_with (first|(go_at_call 219;(with_reducible refine (hby _ hX.below).mono ?_);rintro e' wY ⟨rfl,hbb⟩;replace hX:=hX.step hbb;have hwY:=hX.below.size;clear hbb)|((with_reducible refine qah ?_);refine qbz (z:=.string _) hX qkh _ _ rfl rfl rfl rfl rfl rfl rfl rfl ?_;clear hX;intro wb hX hb8;clear hb8)|((with_reducible refine qab ?_);first|refine lc hX ?_|refine lw hX aggK sizK ?_|refine lp (ds:=[_,_]) hX aggD sizD ?_)|(go_at_call 223;with_reducible refine cst hX (hrd _ hX.below) ?_;clear hX;intro wc hX)|(go_at_call 224;(with_reducible refine (hst _ hX.below).mono ?_);rintro e' wt ⟨y4,rfl,ho4,hbb⟩;have hbl:=hX.below.size;replace hX:=hX.step hbb;clear hbb))
 have hlN:=hN.size
 have hlt:w.heap.size≤wt.heap.size:=hX.below.size
 have hzD:wt.drew.ownsRow wN.heap.size 3 1 vz B.length (B.map (Value.int .i64)):=qag hz hX.below.drew
 replace hX:=(hX.base hN).drew
 replace ho4:=Own.drew ho4
 refine qbw (fun w'=>Bag [(wY.heap.size,9,[.string (wsV m A q)]),(w.heap.size,40,[vs,vb,.bool n,.bool r,.bool e,.int .i64 1,.int .i64 w1,.int .i64 (2*(A:Int)),.int .i64 s,.int .i64 l])] wN w') 10 [(0,false),(1,false),(2,false),(3,false),(5,false),(6,false),(4,true),(7,true),(8,false),(9,false)] (by kernel_rfl) (by kernel_rfl) (fun _ _ dd _ _ h=>by cases dd<;>exact h) hX.swap.restS ?_
 iterate 6
  refine qcm rfl rfl (fun KK hKK=>?_)
  apply Exists.intro
  refine ⟨fun wq hq=>?_,hKK _ ?_⟩
  ·try dsimp only at hq
   first
    | exact qad 40 _ _ rfl rfl ((hq.all _ _ _ (.tail _ (.head _))).loadAt rfl aggK sizK)
    | exact qad 9 _ _ rfl rfl ((hq.all _ _ _ (.head _)).loadCell rfl qd7)
    | (unfold execOp;go_simp;done)
    | (unfold execOp;go_simp;with_reducible rfl)
  clear hKK KK
  simp only [Act.put,sx]
 refine qcu rfl rfl (fun KK hKK=>?_)
 unfold Oper.semiAt
 go_simp
 simp only [semiUpon]
 refine ⟨trivial,?_⟩
 refine (pdel_own (2*(A:Int)) q B (wsV m A q) w.heap.size wY.heap.size wN.heap.size vz _ hzD hzl (hX.all _ _ _ (.tail _ (.tail _ (.head _)))).lt (hX.all _ _ _ (.head _)).lt (fun g m c h=>by have:=hrow2 g m c h;omega) (fun g m c h=>by have:=hrow2 g m c h;omega) ((hX.all _ _ _ (.tail _ (.tail _ (.head _)))).cell (k:=7) rfl) ((hX.all _ _ _ (.head _)).cell (k:=0) rfl) (by omega) hq hws).mono ?_
 rintro e' wd ⟨v5,rfl,ho5,hg5⟩
 refine ⟨_,rfl,hKK _ _ (qce hX hzD (by intro q hq;simp only [List.mem_cons,List.not_mem_nil,or_false] at hq;rcases hq with rfl|rfl|rfl<;>simp) hg5 (Nat.le_trans hlN hlt) (Nat.le_refl _)).swap.restS ?_⟩
 clear hKK KK
 replace hX:=qce hX hzD (by intro q hq;simp only [List.mem_cons,List.not_mem_nil,or_false] at hq;rcases hq with rfl|rfl|rfl<;>simp) hg5 (Nat.le_trans hlN hlt) (Nat.le_refl _)
 replace ho4:=qrh ho4 hg5 (fun g h=>Nat.lt_of_lt_of_le (hrow g h).2 hbl)
 clear hg5
 simp only [Act.put,sx]
 refine qda (cs':=[vs,vb,.bool n,.bool r,.bool e,.int .i64 1,.int .i64 w1,.int .i64 (2*(A:Int)),.int .i64 s,.int .i64 l]) rfl rfl hX.swap aggK sizK _ _ rfl rfl rfl rfl rfl rfl (qav o1 o2 _ _ _ _ _ _ _ _) (fun w7 hX7 hk7=>⟨hX7.restS,?_⟩)
 replace ho5:=qac hX.swap ho5 (by decide) hk7
 replace ho4:=qac hX.swap ho4 (by decide) hk7
 clear hk7 hX
 have hX:=hX7
 clear hX7
 iterate 2
  simp only [Act.put,sx]
  refine qcm rfl rfl (fun KK hKK=>?_)
  apply Exists.intro
  refine ⟨fun wq hq=>?_,hKK _ ?_⟩
  ·try dsimp only at hq
   first
    | exact qad 40 _ _ rfl rfl ((hq.all _ _ _ (.tail _ (.head _))).loadAt rfl aggK sizK)
    | exact qad 9 _ _ rfl rfl ((hq.all _ _ _ (.head _)).loadCell rfl qd7)
    | (unfold execOp;go_simp;done)
    | (unfold execOp;go_simp;with_reducible rfl)
  clear hKK KK
 simp only [Act.put,sx]
 refine qdm ?_
 simp only [List.drop_succ_cons,List.drop_zero]
 go_wp2
 exact bodyPost_ret (qa6 Tryz.results213 rfl ((hX.all _ _ _ (.head _)).loadVar rfl aggK sizK)) rfl ⟨_,_,_,rfl,⟨_,_,rfl,hs.below hX.below,hb.below hX.below⟩,fun _=>⟨Sv.of_own ho4 (fun b h=>by have:=hXN b h;omega),Sv.of_own ho5 hXN⟩,hX.below,fun h=>by cases h⟩
end Go.Proofs.YthpnddgfgpacpaaGreat
