import Derived.Test.YthpnddgfgpacpaaGreatRT04
import Derived.Test.YthpnddgfgpacpaaGreatRT19
import Derived.Test.YthpnddgfgpacpaaGreatRT13
namespace Go.Proofs.YthpnddgfgpacpaaGreat
open Go.RowKit
set_option linter.unusedSimpArgs false
set_option linter.unusedVariables false
set_option maxHeartbeats 4000000
set_option maxRecDepth 100000
attribute [local irreducible] wpQuiet
def TickS (X:Nat→Prop) (w:World) (T:Tp×List Int×List Int) (e':Ending) (w':World):Prop:=∃ x vm vz,e'=.returned (.tuple #[x,vm,vz])∧TpX X w' x T.1∧ItsX X w' vm T.2.1∧ItsX X w' vz T.2.2∧Below w.heap.size w w'
theorem qgy (x:ByteArray) (q:Nat) (h:q≤x.size):(x.extract 0 q).size=q:=by simp [ByteArray.size_extract];omega
theorem qny (x:ByteArray) (q:Nat):(x.extract 0 q).data.toList=x.data.toList.take q:=by simp [ByteArray.data_extract]
theorem qt4 (K:Tp) (M B:List Int) (hl:K.R.length≤1099511627776) (hp:0≤K.p) (h:(K.R.length:Int)≤K.p) (vs vm vz:Value) (w:World) (X:Nat→Prop) (hs:StsX X w vs K.R) (hm:ItsX X w vm M) (hz:ItsX X w vz B):Calls Tryz.prog 117 #[.agg #[vs,.int .i64 (K).p,.bool (K).n,.bool (K).r,.bool (K).e,.bool (K).m,.bool (K).d,.int .i64 (K).c,.int .i64 (K).k,.int .i64 (K).a,.int .i64 (K).l],vm,vz] w (TickS X w (K.read M B)):=by
 have hs0:Sts w vs K.R:=hs.now
 obtain ⟨A,c',hv,_,_⟩:=hs.now.form
 subst hv
 have hpa:∀ w',Below w.heap.size w w'→_:=fun w' h=>qgb K hl hp A c' w' (Rz.below hs0 h)
 have hrd:K.read M B=(K.pass.1,M,B):=by unfold Tp.read;rw [if_pos h]
 rw [hrd]
 have hK:K.pass=({K with e:=true,d:=true},false):=by unfold Tp.pass;rw [if_pos h]
 rw [hK] at hpa ⊢
 obtain ⟨R,p,n,r,e,m,d,c,k,a,l⟩:=K
 dsimp only at *
 have hX:=qa0 w [(.slice A R.length c'),.int .i64 p,.bool n,.bool r,.bool e,.bool m,.bool d,.int .i64 c,.int .i64 k,.int .i64 a,.int .i64 l] [.slice none 0 0,.int .i64 0,.bool false,.bool false,.bool false,.bool false,.bool false,.int .i64 0,.int .i64 0,.int .i64 0,.int .i64 0]
 clear hs0 hp h hrd hK
 go_enter Tryz.func117,Tryz.ntmps117
 go_wp2_with (first|((with_reducible refine qab ?_);first|refine lc hX ?_|refine lw hX aggT sizT ?_)|(go_at_call 119;with_reducible refine cst hX (hpa _ hX.below) ?_;clear hX;intro wp hX)|((with_reducible refine qah ?_);first|(refine qaa (cs':=[(.slice A R.length c'),.int .i64 p,.bool n,.bool r,.bool true,.bool m,.bool true,.int .i64 c,.int .i64 k,.int .i64 a,.int .i64 l]) hX.swap aggT sizT _ _ rfl rfl rfl rfl rfl rfl rfl rfl (qan rfl _ _ _ _ _ _ _ _ _ _) ?_;clear hX;intro wz hX hkz;clear hkz)|(refine qaa (cs':=[(.slice A R.length c'),.int .i64 p,.bool n,.bool r,.bool true,.bool m,.bool true,.int .i64 c,.int .i64 k,.int .i64 a,.int .i64 l]) hX aggT sizT _ _ rfl rfl rfl rfl rfl rfl rfl rfl (qan rfl _ _ _ _ _ _ _ _ _ _) ?_;clear hX;intro wz hX hkz;clear hkz)))
 first|exact bodyPost_ret (qak Tryz.results117 rfl ((hX.all _ _ _ (.head _)).loadVar rfl aggT sizT)) rfl ⟨_,_,_,rfl,⟨_,rfl,hs.below hX.below⟩,hm.below hX.below,hz.below hX.below,hX.below⟩|exact bodyPost_ret (qak Tryz.results117 rfl ((hX.all _ _ _ (.tail _ (.head _))).loadVar rfl aggT sizT)) rfl ⟨_,_,_,rfl,⟨_,rfl,hs.below hX.below⟩,hm.below hX.below,hz.below hX.below,hX.below⟩
theorem qo8 (K:Tp) (M B:List Int) (hlM:M.length≤1099511627776) (hlB:B.length≤1099511627776) (hW:wordsB M=true) (hpos:0<M.length) (hl:K.R.length≤1099511627776) (hp:0≤K.p) (h:¬ (K.R.length:Int)≤K.p) (hrs:∀ s∈K.R,s.size≤512) (hk:0≤K.k∧K.k≤65535) (ha:0≤K.a∧K.a≤65535) (vs vm vz:Value) (w:World) (X:Nat→Prop) (hXl:∀ b,X b→b<w.heap.size) (hs:StsX X w vs K.R) (hm:ItsX X w vm M) (hz:ItsX X w vz B):Calls Tryz.prog 117 #[.agg #[vs,.int .i64 (K).p,.bool (K).n,.bool (K).r,.bool (K).e,.bool (K).m,.bool (K).d,.int .i64 (K).c,.int .i64 (K).k,.int .i64 (K).a,.int .i64 (K).l],vm,vz] w (TickS X w (K.read M B)):=by
 have hs0:Sts w vs K.R:=hs.now
 obtain ⟨A,c',hv,_,hc⟩:=hs.now.form
 subst hv
 have hpa:∀ w',Below w.heap.size w w'→_:=fun w' h=>qgb K hl hp A c' w' (Rz.below hs0 h)
 obtain ⟨R,p,n,r,e,m,d,c,k,a,l⟩:=K
 dsimp only at *
 obtain ⟨j,rfl⟩:∃ j:Nat,p=(j:Int):=⟨p.toNat,by omega⟩
 have hjl:j<R.length:=by omega
 have hji:(j:Int)<(R.length:Int):=by omega
 have hx:=List.getElem?_eq_getElem hjl
 have hxs:=hrs _ (List.getElem_mem hjl)
 have hrec:recV (Tp.mk R (j:Int) n r e m d c k a l) (j:Int)=R[j]:=by show R.getD ((j:Int).toNat) ⟨#[]⟩=_;rw [Int.toNat_natCast,List.getD_eq_getElem?_getD,hx];rfl
 obtain ⟨mq,hmq⟩:∃ mq,(m || decide ((R[j]).size=0))=mq:=⟨_,rfl⟩
 have hK:(Tp.mk R (j:Int) n r e m d c k a l).pass=(Tp.mk R ((j:Int)+1) n r e mq d c k a l,true):=by unfold Tp.pass;rw [if_neg h];dsimp only;rw [hrec,hmq]
 obtain ⟨q,hq⟩:∃ q,min k.toNat (R[j]).size=q:=⟨_,rfl⟩
 have hrd:(Tp.mk R (j:Int) n r e m d c k a l).read M B=if inR (2*(M.length:Int)) a (q:Int)=true then (Tp.mk R ((j:Int)+1) n r (e || decide (k<((R[j]).size:Int))) mq d c (k - (q:Int)) a l,storeN M a.toNat ((R[j]).data.toList.take q),clrV B a q) else (Tp.mk R ((j:Int)+1) n r true mq d c k a l,M,B):=by
  unfold Tp.read
  rw [if_neg h,hK]
  unfold cntR lenR
  dsimp only
  rw [hrec,hq]
 rw [hrd]
 rw [hK] at hpa
 clear hK hrec hmq hrd
 generalize R[j]=x at *
 obtain ⟨a2,rfl,hL⟩:=hc j x hx
 have hmin:min k (x.size:Int)=(q:Int):=by omega
 have hqx:q≤x.size:=by omega
 have hqi:(q:Int)≤(x.size:Int):=by omega
 have hq0:(0:Int)≤(q:Int):=by omega
 have hm0:Its w vm M:=hm.now
 have hst:∀ w',Below w.heap.size w w'→_:=fun w' h=>qqc vm M hlM hW hpos a (by omega) (x.extract 0 q) (by rw [qgy x q hqx];omega) w' (Its.nums (Rz.below hm0 h))
 rw [qgy x q hqx,qny] at hst
 have hcl:∀ w',Below w.heap.size w w'→w.heap.size+2≤w'.heap.size→_:=fun w' h h2=>qts B hlB a ha q (by omega) vz w' (OwnA X w.heap.size) (qg6 hXl h2) (hz.weak h qdy)
 obtain ⟨A3,c3,rfl,_,_⟩:=hm.now.form
 obtain ⟨A4,c4,rfl,_,_⟩:=hz.now.form
 have hw0:(j:Int)+1 - 1=(j:Int):=by omega
 have hw:IntKind.i64.wrap (j:Int)=(j:Int):=by rw [qaf];unfold wrap64;omega
 have hwk:IntKind.i64.wrap (k - (q:Int))=k - (q:Int):=by rw [qaf];unfold wrap64;omega
 unfold bytesE storeL at hst
 have hlen:((x.data.toList.take q).length:Int)=(q:Int):=by rw [List.length_take,← Lib.size_eq];omega
 rw [hlen] at hst
 clear hlen
 obtain ⟨e2,he2⟩:∃ e2,(e || decide (k<(x.size:Int)))=e2:=⟨_,rfl⟩
 rw [he2]
 obtain ⟨g,hg⟩:∃ g,decide (k<(x.size:Int))=g:=⟨_,rfl⟩
 rw [hg] at he2
 generalize storeN M a.toNat (x.data.toList.take q)=M2 at *
 have hX:=qa0 w [(.slice (some a2) R.length c'),.int .i64 (j:Int),.bool n,.bool r,.bool e,.bool m,.bool d,.int .i64 c,.int .i64 k,.int .i64 a,.int .i64 l] [.slice none 0 0,.int .i64 0,.bool false,.bool false,.bool false,.bool false,.bool false,.int .i64 0,.int .i64 0,.int .i64 0,.int .i64 0]
 clear hs0 hp h hrs hc hx hq ha hk hm0 hW hpos
 cases hir:inR (2*(M.length:Int)) a (q:Int)
 ·rw [hir] at hst
  rw [if_neg (by decide)]
  simp only [Bool.false_eq_true,if_false] at hst
  clear hir hcl
  by_cases hkx:k≤(x.size:Int)
  ·obtain rfl:k=(q:Int):=by omega
   have hgN:decide (q<x.size)=g:=by rw [← hg];exact decide_eq_decide.2 (by omega)
   cases e
   ·obtain rfl:g=e2:=by simpa using he2
    clear he2
    go_enter Tryz.func117,Tryz.ntmps117
    go_wp2_with (first|((with_reducible refine qab ?_);first|refine lc hX ?_|refine qaq rfl 9 _ _ _ rfl rfl (hL _ hX.below) ?_|refine lw hX aggT sizT ?_)|(go_at_call 119;with_reducible refine cst hX (hpa _ hX.below) ?_;clear hX;intro wp hX)|((with_reducible refine qah ?_);first|((first|refine sc (z:=.bool _) hX.swap ?_|refine sc (z:=.bool _) hX ?_);clear hX;intro wp hX hk3 hz3;clear hk3 hz3;simp only [sx] at hX)|(refine qaa (cs':=[(.slice (some a2) R.length c'),.int .i64 ((j:Int)+1),.bool n,.bool r,.bool false,.bool mq,.bool d,.int .i64 c,.int .i64 (q:Int),.int .i64 a,.int .i64 l]) hX.swap aggT sizT _ _ rfl rfl rfl rfl rfl rfl rfl rfl (qan rfl _ _ _ _ _ _ _ _ _ _) ?_;clear hX;intro wz hX hkz;clear hkz)|(refine qaa (cs':=[(.slice (some a2) R.length c'),.int .i64 ((j:Int)+1),.bool n,.bool r,.bool false,.bool mq,.bool d,.int .i64 c,.int .i64 (q:Int),.int .i64 a,.int .i64 l]) hX aggT sizT _ _ rfl rfl rfl rfl rfl rfl rfl rfl (qan rfl _ _ _ _ _ _ _ _ _ _) ?_;clear hX;intro wz hX hkz;clear hkz)))
    refine qa8 (fun w'=>Bag [(w.heap.size,42,[(.slice (some a2) R.length c'),.int .i64 ((j:Int)+1),.bool n,.bool r,.bool g,.bool mq,.bool d,.int .i64 c,.int .i64 (q:Int),.int .i64 a,.int .i64 l]),(w.heap.size+1,42,[.slice none 0 0,.int .i64 0,.bool false,.bool false,.bool false,.bool false,.bool false,.int .i64 0,.int .i64 0,.int .i64 0,.int .i64 0])] w w') 11 [(0,false),(1,false),(2,false),(3,false),(4,false),(5,false),(6,true),(7,false),(8,false),(9,false),(10,false)] (by kernel_rfl) (by kernel_rfl) (fun _ _ dd _ _ h=>by cases dd<;>exact h) hX.drew ?_
    iterate 6
     refine qbk rfl rfl (fun KK hKK=>?_)
     apply Exists.intro
     refine ⟨fun wq hq=>?_,hKK _ ?_⟩
     ·try dsimp only at hq
      first
       | exact qad 3 _ _ rfl rfl ((hq.all _ _ _ (.head _)).loadCell rfl qao)
       | exact qad 3 _ _ rfl rfl ((hq.all _ _ _ (.tail _ (.head _))).loadCell rfl qao)
       | (unfold execOp;go_simp;done)
       | (unfold execOp;go_simp;with_reducible rfl)
     clear hKK KK
     simp only [Act.put,sx]
    refine qbm rfl rfl (fun KK hKK=>?_)
    unfold Oper.semiAt
    go_simp
    simp only [semiUpon]
    refine ⟨trivial,?_⟩
    refine (hst _ hX.below.drew).mono ?_
    rintro e' w5 ⟨v5,rfl,ho5,hbb⟩
    refine ⟨_,rfl,hKK _ _ (hX.drew.step hbb) ?_⟩
    clear hKK KK
    obtain ⟨N5,hN5,ho5⟩:∃ N5,w.heap.size≤N5∧Own N5 w5 v5 _:=⟨_,hX.below.drew.size,ho5⟩
    have hX5:=hX.drew.step hbb
    clear hX
    have hX:=hX5
    clear hX5 hbb
    iterate 4
     simp only [Act.put,sx]
     refine qbk rfl rfl (fun KK hKK=>?_)
     apply Exists.intro
     refine ⟨fun wq hq=>?_,hKK _ ?_⟩
     ·try dsimp only at hq
      first
       | exact qad 3 _ _ rfl rfl ((hq.all _ _ _ (.head _)).loadCell rfl qao)
       | exact qad 3 _ _ rfl rfl ((hq.all _ _ _ (.tail _ (.head _))).loadCell rfl qao)
       | (unfold execOp;go_simp;done)
       | (unfold execOp;go_simp;with_reducible rfl)
     clear hKK KK
    simp only [Act.put,sx]
    refine qb7 ?_
    simp only [List.drop_succ_cons,List.drop_zero]
    go_wp2_with (first|((with_reducible refine qab ?_);first|refine lc hX ?_|refine lw hX aggT sizT ?_)|((with_reducible refine qah ?_);first|((first|refine sc (z:=.bool _) hX.swap ?_|refine sc (z:=.bool _) hX ?_);clear hX;intro wp hX hk3 hz3;clear hk3 hz3;simp only [sx] at hX)|(refine qaa (cs':=[(.slice (some a2) R.length c'),.int .i64 ((j:Int)+1),.bool n,.bool r,.bool true,.bool mq,.bool d,.int .i64 c,.int .i64 (q:Int),.int .i64 a,.int .i64 l]) hX.swap aggT sizT _ _ rfl rfl rfl rfl rfl rfl rfl rfl (qan rfl _ _ _ _ _ _ _ _ _ _) ?_;clear hX;intro wz hX hkz;clear hkz)|(refine qaa (cs':=[(.slice (some a2) R.length c'),.int .i64 ((j:Int)+1),.bool n,.bool r,.bool true,.bool mq,.bool d,.int .i64 c,.int .i64 (q:Int),.int .i64 a,.int .i64 l]) hX aggT sizT _ _ rfl rfl rfl rfl rfl rfl rfl rfl (qan rfl _ _ _ _ _ _ _ _ _ _) ?_;clear hX;intro wz hX hkz;clear hkz)))
    first|exact bodyPost_ret (qak Tryz.results117 rfl ((hX.all _ _ _ (.head _)).loadVar rfl aggT sizT)) rfl ⟨_,_,_,rfl,⟨_,rfl,hs.below hX.below⟩,hm.below hX.below,hz.below hX.below,hX.below⟩|exact bodyPost_ret (qak Tryz.results117 rfl ((hX.all _ _ _ (.tail _ (.head _))).loadVar rfl aggT sizT)) rfl ⟨_,_,_,rfl,⟨_,rfl,hs.below hX.below⟩,hm.below hX.below,hz.below hX.below,hX.below⟩
   ·obtain rfl:true=e2:=by simpa using he2
    clear he2
    go_enter Tryz.func117,Tryz.ntmps117
    go_wp2_with (first|((with_reducible refine qab ?_);first|refine lc hX ?_|refine qaq rfl 9 _ _ _ rfl rfl (hL _ hX.below) ?_|refine lw hX aggT sizT ?_)|(go_at_call 119;with_reducible refine cst hX (hpa _ hX.below) ?_;clear hX;intro wp hX)|((with_reducible refine qah ?_);first|((first|refine sc (z:=.bool _) hX.swap ?_|refine sc (z:=.bool _) hX ?_);clear hX;intro wp hX hk3 hz3;clear hk3 hz3;simp only [sx] at hX)|(refine qaa (cs':=[(.slice (some a2) R.length c'),.int .i64 ((j:Int)+1),.bool n,.bool r,.bool true,.bool mq,.bool d,.int .i64 c,.int .i64 (q:Int),.int .i64 a,.int .i64 l]) hX.swap aggT sizT _ _ rfl rfl rfl rfl rfl rfl rfl rfl (qan rfl _ _ _ _ _ _ _ _ _ _) ?_;clear hX;intro wz hX hkz;clear hkz)|(refine qaa (cs':=[(.slice (some a2) R.length c'),.int .i64 ((j:Int)+1),.bool n,.bool r,.bool true,.bool mq,.bool d,.int .i64 c,.int .i64 (q:Int),.int .i64 a,.int .i64 l]) hX aggT sizT _ _ rfl rfl rfl rfl rfl rfl rfl rfl (qan rfl _ _ _ _ _ _ _ _ _ _) ?_;clear hX;intro wz hX hkz;clear hkz)))
    refine qa8 (fun w'=>Bag [(w.heap.size,42,[(.slice (some a2) R.length c'),.int .i64 ((j:Int)+1),.bool n,.bool r,.bool true,.bool mq,.bool d,.int .i64 c,.int .i64 (q:Int),.int .i64 a,.int .i64 l]),(w.heap.size+1,42,[.slice none 0 0,.int .i64 0,.bool false,.bool false,.bool false,.bool false,.bool false,.int .i64 0,.int .i64 0,.int .i64 0,.int .i64 0])] w w') 11 [(0,false),(1,false),(2,false),(3,false),(4,false),(5,false),(6,true),(7,false),(8,false),(9,false),(10,false)] (by kernel_rfl) (by kernel_rfl) (fun _ _ dd _ _ h=>by cases dd<;>exact h) hX.drew ?_
    iterate 6
     refine qbk rfl rfl (fun KK hKK=>?_)
     apply Exists.intro
     refine ⟨fun wq hq=>?_,hKK _ ?_⟩
     ·try dsimp only at hq
      first
       | exact qad 3 _ _ rfl rfl ((hq.all _ _ _ (.head _)).loadCell rfl qao)
       | exact qad 3 _ _ rfl rfl ((hq.all _ _ _ (.tail _ (.head _))).loadCell rfl qao)
       | (unfold execOp;go_simp;done)
       | (unfold execOp;go_simp;with_reducible rfl)
     clear hKK KK
     simp only [Act.put,sx]
    refine qbm rfl rfl (fun KK hKK=>?_)
    unfold Oper.semiAt
    go_simp
    simp only [semiUpon]
    refine ⟨trivial,?_⟩
    refine (hst _ hX.below.drew).mono ?_
    rintro e' w5 ⟨v5,rfl,ho5,hbb⟩
    refine ⟨_,rfl,hKK _ _ (hX.drew.step hbb) ?_⟩
    clear hKK KK
    obtain ⟨N5,hN5,ho5⟩:∃ N5,w.heap.size≤N5∧Own N5 w5 v5 _:=⟨_,hX.below.drew.size,ho5⟩
    have hX5:=hX.drew.step hbb
    clear hX
    have hX:=hX5
    clear hX5 hbb
    iterate 4
     simp only [Act.put,sx]
     refine qbk rfl rfl (fun KK hKK=>?_)
     apply Exists.intro
     refine ⟨fun wq hq=>?_,hKK _ ?_⟩
     ·try dsimp only at hq
      first
       | exact qad 3 _ _ rfl rfl ((hq.all _ _ _ (.head _)).loadCell rfl qao)
       | exact qad 3 _ _ rfl rfl ((hq.all _ _ _ (.tail _ (.head _))).loadCell rfl qao)
       | (unfold execOp;go_simp;done)
       | (unfold execOp;go_simp;with_reducible rfl)
     clear hKK KK
    simp only [Act.put,sx]
    refine qb7 ?_
    simp only [List.drop_succ_cons,List.drop_zero]
    go_wp2_with (first|((with_reducible refine qab ?_);first|refine lc hX ?_|refine lw hX aggT sizT ?_)|((with_reducible refine qah ?_);first|((first|refine sc (z:=.bool _) hX.swap ?_|refine sc (z:=.bool _) hX ?_);clear hX;intro wp hX hk3 hz3;clear hk3 hz3;simp only [sx] at hX)|(refine qaa (cs':=[(.slice (some a2) R.length c'),.int .i64 ((j:Int)+1),.bool n,.bool r,.bool true,.bool mq,.bool d,.int .i64 c,.int .i64 (q:Int),.int .i64 a,.int .i64 l]) hX.swap aggT sizT _ _ rfl rfl rfl rfl rfl rfl rfl rfl (qan rfl _ _ _ _ _ _ _ _ _ _) ?_;clear hX;intro wz hX hkz;clear hkz)|(refine qaa (cs':=[(.slice (some a2) R.length c'),.int .i64 ((j:Int)+1),.bool n,.bool r,.bool true,.bool mq,.bool d,.int .i64 c,.int .i64 (q:Int),.int .i64 a,.int .i64 l]) hX aggT sizT _ _ rfl rfl rfl rfl rfl rfl rfl rfl (qan rfl _ _ _ _ _ _ _ _ _ _) ?_;clear hX;intro wz hX hkz;clear hkz)))
    first|exact bodyPost_ret (qak Tryz.results117 rfl ((hX.all _ _ _ (.head _)).loadVar rfl aggT sizT)) rfl ⟨_,_,_,rfl,⟨_,rfl,hs.below hX.below⟩,hm.below hX.below,hz.below hX.below,hX.below⟩|exact bodyPost_ret (qak Tryz.results117 rfl ((hX.all _ _ _ (.tail _ (.head _))).loadVar rfl aggT sizT)) rfl ⟨_,_,_,rfl,⟨_,rfl,hs.below hX.below⟩,hm.below hX.below,hz.below hX.below,hX.below⟩
  ·obtain rfl:x.size=q:=by omega
   obtain rfl:false=g:=by rw [← hg];simp;omega
   rw [show x.extract 0 x.size=x from ByteArray.extract_zero_size] at hst
   cases e
   ·obtain rfl:false=e2:=by simpa using he2
    clear he2
    go_enter Tryz.func117,Tryz.ntmps117
    go_wp2_with (first|((with_reducible refine qab ?_);first|refine lc hX ?_|refine qaq rfl 9 _ _ _ rfl rfl (hL _ hX.below) ?_|refine lw hX aggT sizT ?_)|(go_at_call 119;with_reducible refine cst hX (hpa _ hX.below) ?_;clear hX;intro wp hX)|((with_reducible refine qah ?_);first|((first|refine sc (z:=.bool _) hX.swap ?_|refine sc (z:=.bool _) hX ?_);clear hX;intro wp hX hk3 hz3;clear hk3 hz3;simp only [sx] at hX)|(refine qaa (cs':=[(.slice (some a2) R.length c'),.int .i64 ((j:Int)+1),.bool n,.bool r,.bool false,.bool mq,.bool d,.int .i64 c,.int .i64 k,.int .i64 a,.int .i64 l]) hX.swap aggT sizT _ _ rfl rfl rfl rfl rfl rfl rfl rfl (qan rfl _ _ _ _ _ _ _ _ _ _) ?_;clear hX;intro wz hX hkz;clear hkz)|(refine qaa (cs':=[(.slice (some a2) R.length c'),.int .i64 ((j:Int)+1),.bool n,.bool r,.bool false,.bool mq,.bool d,.int .i64 c,.int .i64 k,.int .i64 a,.int .i64 l]) hX aggT sizT _ _ rfl rfl rfl rfl rfl rfl rfl rfl (qan rfl _ _ _ _ _ _ _ _ _ _) ?_;clear hX;intro wz hX hkz;clear hkz)))
    refine qa8 (fun w'=>Bag [(w.heap.size,42,[(.slice (some a2) R.length c'),.int .i64 ((j:Int)+1),.bool n,.bool r,.bool false,.bool mq,.bool d,.int .i64 c,.int .i64 k,.int .i64 a,.int .i64 l]),(w.heap.size+1,42,[.slice none 0 0,.int .i64 0,.bool false,.bool false,.bool false,.bool false,.bool false,.int .i64 0,.int .i64 0,.int .i64 0,.int .i64 0])] w w') 11 [(0,false),(1,false),(2,false),(3,false),(4,false),(5,false),(6,true),(7,false),(8,false),(9,false),(10,false)] (by kernel_rfl) (by kernel_rfl) (fun _ _ dd _ _ h=>by cases dd<;>exact h) hX.drew ?_
    iterate 6
     refine qbk rfl rfl (fun KK hKK=>?_)
     apply Exists.intro
     refine ⟨fun wq hq=>?_,hKK _ ?_⟩
     ·try dsimp only at hq
      first
       | exact qad 3 _ _ rfl rfl ((hq.all _ _ _ (.head _)).loadCell rfl qao)
       | exact qad 3 _ _ rfl rfl ((hq.all _ _ _ (.tail _ (.head _))).loadCell rfl qao)
       | (unfold execOp;go_simp;done)
       | (unfold execOp;go_simp;with_reducible rfl)
     clear hKK KK
     simp only [Act.put,sx]
    refine qbm rfl rfl (fun KK hKK=>?_)
    unfold Oper.semiAt
    go_simp
    simp only [semiUpon]
    refine ⟨trivial,?_⟩
    refine (hst _ hX.below.drew).mono ?_
    rintro e' w5 ⟨v5,rfl,ho5,hbb⟩
    refine ⟨_,rfl,hKK _ _ (hX.drew.step hbb) ?_⟩
    clear hKK KK
    obtain ⟨N5,hN5,ho5⟩:∃ N5,w.heap.size≤N5∧Own N5 w5 v5 _:=⟨_,hX.below.drew.size,ho5⟩
    have hX5:=hX.drew.step hbb
    clear hX
    have hX:=hX5
    clear hX5 hbb
    iterate 4
     simp only [Act.put,sx]
     refine qbk rfl rfl (fun KK hKK=>?_)
     apply Exists.intro
     refine ⟨fun wq hq=>?_,hKK _ ?_⟩
     ·try dsimp only at hq
      first
       | exact qad 3 _ _ rfl rfl ((hq.all _ _ _ (.head _)).loadCell rfl qao)
       | exact qad 3 _ _ rfl rfl ((hq.all _ _ _ (.tail _ (.head _))).loadCell rfl qao)
       | (unfold execOp;go_simp;done)
       | (unfold execOp;go_simp;with_reducible rfl)
     clear hKK KK
    simp only [Act.put,sx]
    refine qb7 ?_
    simp only [List.drop_succ_cons,List.drop_zero]
    go_wp2_with (first|((with_reducible refine qab ?_);first|refine lc hX ?_|refine lw hX aggT sizT ?_)|((with_reducible refine qah ?_);first|((first|refine sc (z:=.bool _) hX.swap ?_|refine sc (z:=.bool _) hX ?_);clear hX;intro wp hX hk3 hz3;clear hk3 hz3;simp only [sx] at hX)|(refine qaa (cs':=[(.slice (some a2) R.length c'),.int .i64 ((j:Int)+1),.bool n,.bool r,.bool true,.bool mq,.bool d,.int .i64 c,.int .i64 k,.int .i64 a,.int .i64 l]) hX.swap aggT sizT _ _ rfl rfl rfl rfl rfl rfl rfl rfl (qan rfl _ _ _ _ _ _ _ _ _ _) ?_;clear hX;intro wz hX hkz;clear hkz)|(refine qaa (cs':=[(.slice (some a2) R.length c'),.int .i64 ((j:Int)+1),.bool n,.bool r,.bool true,.bool mq,.bool d,.int .i64 c,.int .i64 k,.int .i64 a,.int .i64 l]) hX aggT sizT _ _ rfl rfl rfl rfl rfl rfl rfl rfl (qan rfl _ _ _ _ _ _ _ _ _ _) ?_;clear hX;intro wz hX hkz;clear hkz)))
    first|exact bodyPost_ret (qak Tryz.results117 rfl ((hX.all _ _ _ (.head _)).loadVar rfl aggT sizT)) rfl ⟨_,_,_,rfl,⟨_,rfl,hs.below hX.below⟩,hm.below hX.below,hz.below hX.below,hX.below⟩|exact bodyPost_ret (qak Tryz.results117 rfl ((hX.all _ _ _ (.tail _ (.head _))).loadVar rfl aggT sizT)) rfl ⟨_,_,_,rfl,⟨_,rfl,hs.below hX.below⟩,hm.below hX.below,hz.below hX.below,hX.below⟩
   ·obtain rfl:true=e2:=by simpa using he2
    clear he2
    go_enter Tryz.func117,Tryz.ntmps117
    go_wp2_with (first|((with_reducible refine qab ?_);first|refine lc hX ?_|refine qaq rfl 9 _ _ _ rfl rfl (hL _ hX.below) ?_|refine lw hX aggT sizT ?_)|(go_at_call 119;with_reducible refine cst hX (hpa _ hX.below) ?_;clear hX;intro wp hX)|((with_reducible refine qah ?_);first|((first|refine sc (z:=.bool _) hX.swap ?_|refine sc (z:=.bool _) hX ?_);clear hX;intro wp hX hk3 hz3;clear hk3 hz3;simp only [sx] at hX)|(refine qaa (cs':=[(.slice (some a2) R.length c'),.int .i64 ((j:Int)+1),.bool n,.bool r,.bool true,.bool mq,.bool d,.int .i64 c,.int .i64 k,.int .i64 a,.int .i64 l]) hX.swap aggT sizT _ _ rfl rfl rfl rfl rfl rfl rfl rfl (qan rfl _ _ _ _ _ _ _ _ _ _) ?_;clear hX;intro wz hX hkz;clear hkz)|(refine qaa (cs':=[(.slice (some a2) R.length c'),.int .i64 ((j:Int)+1),.bool n,.bool r,.bool true,.bool mq,.bool d,.int .i64 c,.int .i64 k,.int .i64 a,.int .i64 l]) hX aggT sizT _ _ rfl rfl rfl rfl rfl rfl rfl rfl (qan rfl _ _ _ _ _ _ _ _ _ _) ?_;clear hX;intro wz hX hkz;clear hkz)))
    refine qa8 (fun w'=>Bag [(w.heap.size,42,[(.slice (some a2) R.length c'),.int .i64 ((j:Int)+1),.bool n,.bool r,.bool true,.bool mq,.bool d,.int .i64 c,.int .i64 k,.int .i64 a,.int .i64 l]),(w.heap.size+1,42,[.slice none 0 0,.int .i64 0,.bool false,.bool false,.bool false,.bool false,.bool false,.int .i64 0,.int .i64 0,.int .i64 0,.int .i64 0])] w w') 11 [(0,false),(1,false),(2,false),(3,false),(4,false),(5,false),(6,true),(7,false),(8,false),(9,false),(10,false)] (by kernel_rfl) (by kernel_rfl) (fun _ _ dd _ _ h=>by cases dd<;>exact h) hX.drew ?_
    iterate 6
     refine qbk rfl rfl (fun KK hKK=>?_)
     apply Exists.intro
     refine ⟨fun wq hq=>?_,hKK _ ?_⟩
     ·try dsimp only at hq
      first
       | exact qad 3 _ _ rfl rfl ((hq.all _ _ _ (.head _)).loadCell rfl qao)
       | exact qad 3 _ _ rfl rfl ((hq.all _ _ _ (.tail _ (.head _))).loadCell rfl qao)
       | (unfold execOp;go_simp;done)
       | (unfold execOp;go_simp;with_reducible rfl)
     clear hKK KK
     simp only [Act.put,sx]
    refine qbm rfl rfl (fun KK hKK=>?_)
    unfold Oper.semiAt
    go_simp
    simp only [semiUpon]
    refine ⟨trivial,?_⟩
    refine (hst _ hX.below.drew).mono ?_
    rintro e' w5 ⟨v5,rfl,ho5,hbb⟩
    refine ⟨_,rfl,hKK _ _ (hX.drew.step hbb) ?_⟩
    clear hKK KK
    obtain ⟨N5,hN5,ho5⟩:∃ N5,w.heap.size≤N5∧Own N5 w5 v5 _:=⟨_,hX.below.drew.size,ho5⟩
    have hX5:=hX.drew.step hbb
    clear hX
    have hX:=hX5
    clear hX5 hbb
    iterate 4
     simp only [Act.put,sx]
     refine qbk rfl rfl (fun KK hKK=>?_)
     apply Exists.intro
     refine ⟨fun wq hq=>?_,hKK _ ?_⟩
     ·try dsimp only at hq
      first
       | exact qad 3 _ _ rfl rfl ((hq.all _ _ _ (.head _)).loadCell rfl qao)
       | exact qad 3 _ _ rfl rfl ((hq.all _ _ _ (.tail _ (.head _))).loadCell rfl qao)
       | (unfold execOp;go_simp;done)
       | (unfold execOp;go_simp;with_reducible rfl)
     clear hKK KK
    simp only [Act.put,sx]
    refine qb7 ?_
    simp only [List.drop_succ_cons,List.drop_zero]
    go_wp2_with (first|((with_reducible refine qab ?_);first|refine lc hX ?_|refine lw hX aggT sizT ?_)|((with_reducible refine qah ?_);first|((first|refine sc (z:=.bool _) hX.swap ?_|refine sc (z:=.bool _) hX ?_);clear hX;intro wp hX hk3 hz3;clear hk3 hz3;simp only [sx] at hX)|(refine qaa (cs':=[(.slice (some a2) R.length c'),.int .i64 ((j:Int)+1),.bool n,.bool r,.bool true,.bool mq,.bool d,.int .i64 c,.int .i64 k,.int .i64 a,.int .i64 l]) hX.swap aggT sizT _ _ rfl rfl rfl rfl rfl rfl rfl rfl (qan rfl _ _ _ _ _ _ _ _ _ _) ?_;clear hX;intro wz hX hkz;clear hkz)|(refine qaa (cs':=[(.slice (some a2) R.length c'),.int .i64 ((j:Int)+1),.bool n,.bool r,.bool true,.bool mq,.bool d,.int .i64 c,.int .i64 k,.int .i64 a,.int .i64 l]) hX aggT sizT _ _ rfl rfl rfl rfl rfl rfl rfl rfl (qan rfl _ _ _ _ _ _ _ _ _ _) ?_;clear hX;intro wz hX hkz;clear hkz)))
    first|exact bodyPost_ret (qak Tryz.results117 rfl ((hX.all _ _ _ (.head _)).loadVar rfl aggT sizT)) rfl ⟨_,_,_,rfl,⟨_,rfl,hs.below hX.below⟩,hm.below hX.below,hz.below hX.below,hX.below⟩|exact bodyPost_ret (qak Tryz.results117 rfl ((hX.all _ _ _ (.tail _ (.head _))).loadVar rfl aggT sizT)) rfl ⟨_,_,_,rfl,⟨_,rfl,hs.below hX.below⟩,hm.below hX.below,hz.below hX.below,hX.below⟩
 ·rw [hir] at hst
  rw [if_pos rfl]
  simp only [if_true] at hst
  clear hir
  by_cases hkx:k≤(x.size:Int)
  ·obtain rfl:k=(q:Int):=by omega
   have hgN:decide (q<x.size)=g:=by rw [← hg];exact decide_eq_decide.2 (by omega)
   rw [Int.sub_self] at hwk ⊢
   cases e
   ·obtain rfl:g=e2:=by simpa using he2
    clear he2
    go_enter Tryz.func117,Tryz.ntmps117
    go_wp2_with (first|((with_reducible refine qab ?_);first|refine lc hX ?_|refine qaq rfl 9 _ _ _ rfl rfl (hL _ hX.below) ?_|refine lw hX aggT sizT ?_)|(go_at_call 119;with_reducible refine cst hX (hpa _ hX.below) ?_;clear hX;intro wp hX)|((with_reducible refine qah ?_);first|((first|refine sc (z:=.bool _) hX.swap ?_|refine sc (z:=.bool _) hX ?_);clear hX;intro wp hX hk3 hz3;clear hk3 hz3;simp only [sx] at hX)|(refine qaa (cs':=[(.slice (some a2) R.length c'),.int .i64 ((j:Int)+1),.bool n,.bool r,.bool false,.bool mq,.bool d,.int .i64 c,.int .i64 (q:Int),.int .i64 a,.int .i64 l]) hX.swap aggT sizT _ _ rfl rfl rfl rfl rfl rfl rfl rfl (qan rfl _ _ _ _ _ _ _ _ _ _) ?_;clear hX;intro wz hX hkz;clear hkz)|(refine qaa (cs':=[(.slice (some a2) R.length c'),.int .i64 ((j:Int)+1),.bool n,.bool r,.bool false,.bool mq,.bool d,.int .i64 c,.int .i64 (q:Int),.int .i64 a,.int .i64 l]) hX aggT sizT _ _ rfl rfl rfl rfl rfl rfl rfl rfl (qan rfl _ _ _ _ _ _ _ _ _ _) ?_;clear hX;intro wz hX hkz;clear hkz)))
    refine qa8 (fun w'=>Bag [(w.heap.size,42,[(.slice (some a2) R.length c'),.int .i64 ((j:Int)+1),.bool n,.bool r,.bool g,.bool mq,.bool d,.int .i64 c,.int .i64 (q:Int),.int .i64 a,.int .i64 l]),(w.heap.size+1,42,[.slice none 0 0,.int .i64 0,.bool false,.bool false,.bool false,.bool false,.bool false,.int .i64 0,.int .i64 0,.int .i64 0,.int .i64 0])] w w') 11 [(0,false),(1,false),(2,false),(3,false),(4,false),(5,false),(6,true),(7,false),(8,false),(9,false),(10,false)] (by kernel_rfl) (by kernel_rfl) (fun _ _ dd _ _ h=>by cases dd<;>exact h) hX.drew ?_
    iterate 6
     refine qbk rfl rfl (fun KK hKK=>?_)
     apply Exists.intro
     refine ⟨fun wq hq=>?_,hKK _ ?_⟩
     ·try dsimp only at hq
      first
       | exact qad 3 _ _ rfl rfl ((hq.all _ _ _ (.head _)).loadCell rfl qao)
       | exact qad 3 _ _ rfl rfl ((hq.all _ _ _ (.tail _ (.head _))).loadCell rfl qao)
       | (unfold execOp;go_simp;done)
       | (unfold execOp;go_simp;with_reducible rfl)
     clear hKK KK
     simp only [Act.put,sx]
    refine qbm rfl rfl (fun KK hKK=>?_)
    unfold Oper.semiAt
    go_simp
    simp only [semiUpon]
    refine ⟨trivial,?_⟩
    refine (hst _ hX.below.drew).mono ?_
    rintro e' w5 ⟨v5,rfl,ho5,hbb⟩
    refine ⟨_,rfl,hKK _ _ (hX.drew.step hbb) ?_⟩
    clear hKK KK
    obtain ⟨N5,hN5,ho5⟩:∃ N5,w.heap.size≤N5∧Own N5 w5 v5 _:=⟨_,hX.below.drew.size,ho5⟩
    have hX5:=hX.drew.step hbb
    clear hX
    have hX:=hX5
    clear hX5 hbb
    iterate 4
     simp only [Act.put,sx]
     refine qbk rfl rfl (fun KK hKK=>?_)
     apply Exists.intro
     refine ⟨fun wq hq=>?_,hKK _ ?_⟩
     ·try dsimp only at hq
      first
       | exact qad 3 _ _ rfl rfl ((hq.all _ _ _ (.head _)).loadCell rfl qao)
       | exact qad 3 _ _ rfl rfl ((hq.all _ _ _ (.tail _ (.head _))).loadCell rfl qao)
       | (unfold execOp;go_simp;done)
       | (unfold execOp;go_simp;with_reducible rfl)
     clear hKK KK
    simp only [Act.put,sx]
    refine qb7 ?_
    simp only [List.drop_succ_cons,List.drop_zero]
    go_wp2_with (first|((with_reducible refine qab ?_);first|refine lc hX ?_|refine lw hX aggT sizT ?_)|((with_reducible refine qah ?_);first|(refine qae (z:=.int .i64 _) hX.swap qaw _ _ rfl rfl rfl rfl rfl rfl (by simp) rfl rfl ?_;intro wp hX3 hk3 hz3;(first|(replace ho5:=qac hX.swap ho5 (by decide) hk3)|(replace ho5:=qac hX ho5 (by decide) hk3));clear hz3;clear hX;have hX:=hX3;clear hk3 hX3;simp only [sx] at hX)|(refine qae (z:=.int .i64 _) hX qaw _ _ rfl rfl rfl rfl rfl rfl (by simp) rfl rfl ?_;intro wp hX3 hk3 hz3;(first|(replace ho5:=qac hX.swap ho5 (by decide) hk3)|(replace ho5:=qac hX ho5 (by decide) hk3));clear hz3;clear hX;have hX:=hX3;clear hk3 hX3;simp only [sx] at hX)))
    refine qbw (fun w'=>Bag [(w.heap.size,42,[(.slice (some a2) R.length c'),.int .i64 ((j:Int)+1),.bool n,.bool r,.bool g,.bool mq,.bool d,.int .i64 c,.int .i64 0,.int .i64 a,.int .i64 l])] w w') 9 [(0,false),(1,false),(2,false),(3,false),(4,false),(5,false),(6,true),(7,true),(8,false)] (by kernel_rfl) (by kernel_rfl) (fun _ _ dd _ _ h=>by cases dd<;>exact h) hX.swap.restS.drew ?_
    iterate 6
     refine qcm rfl rfl (fun KK hKK=>?_)
     apply Exists.intro
     refine ⟨fun wq hq=>?_,hKK _ ?_⟩
     ·try dsimp only at hq
      first
       | exact qad 42 _ _ rfl rfl ((hq.all _ _ _ (.head _)).loadAt rfl aggT sizT)
       | exact qad 3 _ _ rfl rfl ((hq.all _ _ _ (.head _)).loadCell rfl qao)
       | (unfold execOp;go_simp;done)
       | (unfold execOp;go_simp;with_reducible rfl)
     clear hKK KK
     simp only [Act.put,sx]
    refine qcu rfl rfl (fun KK hKK=>?_)
    unfold Oper.semiAt
    go_simp
    simp only [semiUpon]
    refine ⟨trivial,?_⟩
    refine (hcl _ hX.below.drew (qat hX.drew.swap)).mono ?_
    rintro e' w6 ⟨v6,rfl,hz6,hbb⟩
    refine ⟨_,rfl,hKK _ _ (hX.swap.restS.drew.step hbb) ?_⟩
    clear hKK KK
    have hX6:=hX.drew.step hbb
    replace ho5:=qag (World.ownsRow.drew ho5) hbb
    clear hX
    have hX:=hX6
    clear hX6 hbb
    simp only [Act.put,sx]
    refine qda (cs':=[(.slice (some a2) R.length c'),.int .i64 ((j:Int)+1),.bool n,.bool r,.bool g,.bool mq,.bool d,.int .i64 c,.int .i64 0,.int .i64 a,.int .i64 l]) rfl rfl hX.swap aggT sizT _ _ rfl rfl rfl rfl rfl rfl (qan rfl _ _ _ _ _ _ _ _ _ _) (fun w7 hX7 hk7=>⟨hX7.restS,?_⟩)
    replace ho5:=qac hX.swap ho5 (by decide) hk7
    replace hz6:=hz6.over hk7 (by first|exact .inr (.inr rfl)|exact .inr (.inl rfl))
    clear hk7 hX
    have hX:=hX7
    clear hX7
    simp only [Act.put,sx]
    refine qcm rfl rfl (fun KK hKK=>?_)
    apply Exists.intro
    refine ⟨fun wq hq=>?_,hKK _ ?_⟩
    ·try dsimp only at hq
     first
      | exact qad 42 _ _ rfl rfl ((hq.all _ _ _ (.head _)).loadAt rfl aggT sizT)
      | exact qad 3 _ _ rfl rfl ((hq.all _ _ _ (.head _)).loadCell rfl qao)
      | (unfold execOp;go_simp;done)
      | (unfold execOp;go_simp;with_reducible rfl)
    clear hKK KK
    simp only [Act.put,sx]
    refine qdm ?_
    simp only [List.drop_succ_cons,List.drop_zero]
    go_wp2
    first|exact bodyPost_ret (qak Tryz.results117 rfl ((hX.all _ _ _ (.head _)).loadVar rfl aggT sizT)) rfl ⟨_,_,_,rfl,⟨_,rfl,hs.below hX.below⟩,qek (fun b hb=>Nat.lt_of_lt_of_le (hXl b hb) hN5) ho5,hz6.less (fun _ h=>.inl h),hX.below⟩|exact bodyPost_ret (qak Tryz.results117 rfl ((hX.all _ _ _ (.tail _ (.head _))).loadVar rfl aggT sizT)) rfl ⟨_,_,_,rfl,⟨_,rfl,hs.below hX.below⟩,qek (fun b hb=>Nat.lt_of_lt_of_le (hXl b hb) hN5) ho5,hz6.less (fun _ h=>.inl h),hX.below⟩
   ·obtain rfl:true=e2:=by simpa using he2
    clear he2
    go_enter Tryz.func117,Tryz.ntmps117
    go_wp2_with (first|((with_reducible refine qab ?_);first|refine lc hX ?_|refine qaq rfl 9 _ _ _ rfl rfl (hL _ hX.below) ?_|refine lw hX aggT sizT ?_)|(go_at_call 119;with_reducible refine cst hX (hpa _ hX.below) ?_;clear hX;intro wp hX)|((with_reducible refine qah ?_);first|((first|refine sc (z:=.bool _) hX.swap ?_|refine sc (z:=.bool _) hX ?_);clear hX;intro wp hX hk3 hz3;clear hk3 hz3;simp only [sx] at hX)|(refine qaa (cs':=[(.slice (some a2) R.length c'),.int .i64 ((j:Int)+1),.bool n,.bool r,.bool true,.bool mq,.bool d,.int .i64 c,.int .i64 (q:Int),.int .i64 a,.int .i64 l]) hX.swap aggT sizT _ _ rfl rfl rfl rfl rfl rfl rfl rfl (qan rfl _ _ _ _ _ _ _ _ _ _) ?_;clear hX;intro wz hX hkz;clear hkz)|(refine qaa (cs':=[(.slice (some a2) R.length c'),.int .i64 ((j:Int)+1),.bool n,.bool r,.bool true,.bool mq,.bool d,.int .i64 c,.int .i64 (q:Int),.int .i64 a,.int .i64 l]) hX aggT sizT _ _ rfl rfl rfl rfl rfl rfl rfl rfl (qan rfl _ _ _ _ _ _ _ _ _ _) ?_;clear hX;intro wz hX hkz;clear hkz)))
    refine qa8 (fun w'=>Bag [(w.heap.size,42,[(.slice (some a2) R.length c'),.int .i64 ((j:Int)+1),.bool n,.bool r,.bool true,.bool mq,.bool d,.int .i64 c,.int .i64 (q:Int),.int .i64 a,.int .i64 l]),(w.heap.size+1,42,[.slice none 0 0,.int .i64 0,.bool false,.bool false,.bool false,.bool false,.bool false,.int .i64 0,.int .i64 0,.int .i64 0,.int .i64 0])] w w') 11 [(0,false),(1,false),(2,false),(3,false),(4,false),(5,false),(6,true),(7,false),(8,false),(9,false),(10,false)] (by kernel_rfl) (by kernel_rfl) (fun _ _ dd _ _ h=>by cases dd<;>exact h) hX.drew ?_
    iterate 6
     refine qbk rfl rfl (fun KK hKK=>?_)
     apply Exists.intro
     refine ⟨fun wq hq=>?_,hKK _ ?_⟩
     ·try dsimp only at hq
      first
       | exact qad 3 _ _ rfl rfl ((hq.all _ _ _ (.head _)).loadCell rfl qao)
       | exact qad 3 _ _ rfl rfl ((hq.all _ _ _ (.tail _ (.head _))).loadCell rfl qao)
       | (unfold execOp;go_simp;done)
       | (unfold execOp;go_simp;with_reducible rfl)
     clear hKK KK
     simp only [Act.put,sx]
    refine qbm rfl rfl (fun KK hKK=>?_)
    unfold Oper.semiAt
    go_simp
    simp only [semiUpon]
    refine ⟨trivial,?_⟩
    refine (hst _ hX.below.drew).mono ?_
    rintro e' w5 ⟨v5,rfl,ho5,hbb⟩
    refine ⟨_,rfl,hKK _ _ (hX.drew.step hbb) ?_⟩
    clear hKK KK
    obtain ⟨N5,hN5,ho5⟩:∃ N5,w.heap.size≤N5∧Own N5 w5 v5 _:=⟨_,hX.below.drew.size,ho5⟩
    have hX5:=hX.drew.step hbb
    clear hX
    have hX:=hX5
    clear hX5 hbb
    iterate 4
     simp only [Act.put,sx]
     refine qbk rfl rfl (fun KK hKK=>?_)
     apply Exists.intro
     refine ⟨fun wq hq=>?_,hKK _ ?_⟩
     ·try dsimp only at hq
      first
       | exact qad 3 _ _ rfl rfl ((hq.all _ _ _ (.head _)).loadCell rfl qao)
       | exact qad 3 _ _ rfl rfl ((hq.all _ _ _ (.tail _ (.head _))).loadCell rfl qao)
       | (unfold execOp;go_simp;done)
       | (unfold execOp;go_simp;with_reducible rfl)
     clear hKK KK
    simp only [Act.put,sx]
    refine qb7 ?_
    simp only [List.drop_succ_cons,List.drop_zero]
    go_wp2_with (first|((with_reducible refine qab ?_);first|refine lc hX ?_|refine lw hX aggT sizT ?_)|((with_reducible refine qah ?_);first|(refine qae (z:=.int .i64 _) hX.swap qaw _ _ rfl rfl rfl rfl rfl rfl (by simp) rfl rfl ?_;intro wp hX3 hk3 hz3;(first|(replace ho5:=qac hX.swap ho5 (by decide) hk3)|(replace ho5:=qac hX ho5 (by decide) hk3));clear hz3;clear hX;have hX:=hX3;clear hk3 hX3;simp only [sx] at hX)|(refine qae (z:=.int .i64 _) hX qaw _ _ rfl rfl rfl rfl rfl rfl (by simp) rfl rfl ?_;intro wp hX3 hk3 hz3;(first|(replace ho5:=qac hX.swap ho5 (by decide) hk3)|(replace ho5:=qac hX ho5 (by decide) hk3));clear hz3;clear hX;have hX:=hX3;clear hk3 hX3;simp only [sx] at hX)))
    refine qbw (fun w'=>Bag [(w.heap.size,42,[(.slice (some a2) R.length c'),.int .i64 ((j:Int)+1),.bool n,.bool r,.bool true,.bool mq,.bool d,.int .i64 c,.int .i64 0,.int .i64 a,.int .i64 l])] w w') 9 [(0,false),(1,false),(2,false),(3,false),(4,false),(5,false),(6,true),(7,true),(8,false)] (by kernel_rfl) (by kernel_rfl) (fun _ _ dd _ _ h=>by cases dd<;>exact h) hX.swap.restS.drew ?_
    iterate 6
     refine qcm rfl rfl (fun KK hKK=>?_)
     apply Exists.intro
     refine ⟨fun wq hq=>?_,hKK _ ?_⟩
     ·try dsimp only at hq
      first
       | exact qad 42 _ _ rfl rfl ((hq.all _ _ _ (.head _)).loadAt rfl aggT sizT)
       | exact qad 3 _ _ rfl rfl ((hq.all _ _ _ (.head _)).loadCell rfl qao)
       | (unfold execOp;go_simp;done)
       | (unfold execOp;go_simp;with_reducible rfl)
     clear hKK KK
     simp only [Act.put,sx]
    refine qcu rfl rfl (fun KK hKK=>?_)
    unfold Oper.semiAt
    go_simp
    simp only [semiUpon]
    refine ⟨trivial,?_⟩
    refine (hcl _ hX.below.drew (qat hX.drew.swap)).mono ?_
    rintro e' w6 ⟨v6,rfl,hz6,hbb⟩
    refine ⟨_,rfl,hKK _ _ (hX.swap.restS.drew.step hbb) ?_⟩
    clear hKK KK
    have hX6:=hX.drew.step hbb
    replace ho5:=qag (World.ownsRow.drew ho5) hbb
    clear hX
    have hX:=hX6
    clear hX6 hbb
    simp only [Act.put,sx]
    refine qda (cs':=[(.slice (some a2) R.length c'),.int .i64 ((j:Int)+1),.bool n,.bool r,.bool true,.bool mq,.bool d,.int .i64 c,.int .i64 0,.int .i64 a,.int .i64 l]) rfl rfl hX.swap aggT sizT _ _ rfl rfl rfl rfl rfl rfl (qan rfl _ _ _ _ _ _ _ _ _ _) (fun w7 hX7 hk7=>⟨hX7.restS,?_⟩)
    replace ho5:=qac hX.swap ho5 (by decide) hk7
    replace hz6:=hz6.over hk7 (by first|exact .inr (.inr rfl)|exact .inr (.inl rfl))
    clear hk7 hX
    have hX:=hX7
    clear hX7
    simp only [Act.put,sx]
    refine qcm rfl rfl (fun KK hKK=>?_)
    apply Exists.intro
    refine ⟨fun wq hq=>?_,hKK _ ?_⟩
    ·try dsimp only at hq
     first
      | exact qad 42 _ _ rfl rfl ((hq.all _ _ _ (.head _)).loadAt rfl aggT sizT)
      | exact qad 3 _ _ rfl rfl ((hq.all _ _ _ (.head _)).loadCell rfl qao)
      | (unfold execOp;go_simp;done)
      | (unfold execOp;go_simp;with_reducible rfl)
    clear hKK KK
    simp only [Act.put,sx]
    refine qdm ?_
    simp only [List.drop_succ_cons,List.drop_zero]
    go_wp2
    first|exact bodyPost_ret (qak Tryz.results117 rfl ((hX.all _ _ _ (.head _)).loadVar rfl aggT sizT)) rfl ⟨_,_,_,rfl,⟨_,rfl,hs.below hX.below⟩,qek (fun b hb=>Nat.lt_of_lt_of_le (hXl b hb) hN5) ho5,hz6.less (fun _ h=>.inl h),hX.below⟩|exact bodyPost_ret (qak Tryz.results117 rfl ((hX.all _ _ _ (.tail _ (.head _))).loadVar rfl aggT sizT)) rfl ⟨_,_,_,rfl,⟨_,rfl,hs.below hX.below⟩,qek (fun b hb=>Nat.lt_of_lt_of_le (hXl b hb) hN5) ho5,hz6.less (fun _ h=>.inl h),hX.below⟩
  ·obtain rfl:x.size=q:=by omega
   obtain rfl:false=g:=by rw [← hg];simp;omega
   rw [show x.extract 0 x.size=x from ByteArray.extract_zero_size] at hst
   cases e
   ·obtain rfl:false=e2:=by simpa using he2
    clear he2
    go_enter Tryz.func117,Tryz.ntmps117
    go_wp2_with (first|((with_reducible refine qab ?_);first|refine lc hX ?_|refine qaq rfl 9 _ _ _ rfl rfl (hL _ hX.below) ?_|refine lw hX aggT sizT ?_)|(go_at_call 119;with_reducible refine cst hX (hpa _ hX.below) ?_;clear hX;intro wp hX)|((with_reducible refine qah ?_);first|((first|refine sc (z:=.bool _) hX.swap ?_|refine sc (z:=.bool _) hX ?_);clear hX;intro wp hX hk3 hz3;clear hk3 hz3;simp only [sx] at hX)|(refine qaa (cs':=[(.slice (some a2) R.length c'),.int .i64 ((j:Int)+1),.bool n,.bool r,.bool false,.bool mq,.bool d,.int .i64 c,.int .i64 k,.int .i64 a,.int .i64 l]) hX.swap aggT sizT _ _ rfl rfl rfl rfl rfl rfl rfl rfl (qan rfl _ _ _ _ _ _ _ _ _ _) ?_;clear hX;intro wz hX hkz;clear hkz)|(refine qaa (cs':=[(.slice (some a2) R.length c'),.int .i64 ((j:Int)+1),.bool n,.bool r,.bool false,.bool mq,.bool d,.int .i64 c,.int .i64 k,.int .i64 a,.int .i64 l]) hX aggT sizT _ _ rfl rfl rfl rfl rfl rfl rfl rfl (qan rfl _ _ _ _ _ _ _ _ _ _) ?_;clear hX;intro wz hX hkz;clear hkz)))
    refine qa8 (fun w'=>Bag [(w.heap.size,42,[(.slice (some a2) R.length c'),.int .i64 ((j:Int)+1),.bool n,.bool r,.bool false,.bool mq,.bool d,.int .i64 c,.int .i64 k,.int .i64 a,.int .i64 l]),(w.heap.size+1,42,[.slice none 0 0,.int .i64 0,.bool false,.bool false,.bool false,.bool false,.bool false,.int .i64 0,.int .i64 0,.int .i64 0,.int .i64 0])] w w') 11 [(0,false),(1,false),(2,false),(3,false),(4,false),(5,false),(6,true),(7,false),(8,false),(9,false),(10,false)] (by kernel_rfl) (by kernel_rfl) (fun _ _ dd _ _ h=>by cases dd<;>exact h) hX.drew ?_
    iterate 6
     refine qbk rfl rfl (fun KK hKK=>?_)
     apply Exists.intro
     refine ⟨fun wq hq=>?_,hKK _ ?_⟩
     ·try dsimp only at hq
      first
       | exact qad 3 _ _ rfl rfl ((hq.all _ _ _ (.head _)).loadCell rfl qao)
       | exact qad 3 _ _ rfl rfl ((hq.all _ _ _ (.tail _ (.head _))).loadCell rfl qao)
       | (unfold execOp;go_simp;done)
       | (unfold execOp;go_simp;with_reducible rfl)
     clear hKK KK
     simp only [Act.put,sx]
    refine qbm rfl rfl (fun KK hKK=>?_)
    unfold Oper.semiAt
    go_simp
    simp only [semiUpon]
    refine ⟨trivial,?_⟩
    refine (hst _ hX.below.drew).mono ?_
    rintro e' w5 ⟨v5,rfl,ho5,hbb⟩
    refine ⟨_,rfl,hKK _ _ (hX.drew.step hbb) ?_⟩
    clear hKK KK
    obtain ⟨N5,hN5,ho5⟩:∃ N5,w.heap.size≤N5∧Own N5 w5 v5 _:=⟨_,hX.below.drew.size,ho5⟩
    have hX5:=hX.drew.step hbb
    clear hX
    have hX:=hX5
    clear hX5 hbb
    iterate 4
     simp only [Act.put,sx]
     refine qbk rfl rfl (fun KK hKK=>?_)
     apply Exists.intro
     refine ⟨fun wq hq=>?_,hKK _ ?_⟩
     ·try dsimp only at hq
      first
       | exact qad 3 _ _ rfl rfl ((hq.all _ _ _ (.head _)).loadCell rfl qao)
       | exact qad 3 _ _ rfl rfl ((hq.all _ _ _ (.tail _ (.head _))).loadCell rfl qao)
       | (unfold execOp;go_simp;done)
       | (unfold execOp;go_simp;with_reducible rfl)
     clear hKK KK
    simp only [Act.put,sx]
    refine qb7 ?_
    simp only [List.drop_succ_cons,List.drop_zero]
    go_wp2_with (first|((with_reducible refine qab ?_);first|refine lc hX ?_|refine lw hX aggT sizT ?_)|((with_reducible refine qah ?_);first|(refine qae (z:=.int .i64 _) hX.swap qaw _ _ rfl rfl rfl rfl rfl rfl (by simp) rfl rfl ?_;intro wp hX3 hk3 hz3;(first|(replace ho5:=qac hX.swap ho5 (by decide) hk3)|(replace ho5:=qac hX ho5 (by decide) hk3));clear hz3;clear hX;have hX:=hX3;clear hk3 hX3;simp only [sx] at hX)|(refine qae (z:=.int .i64 _) hX qaw _ _ rfl rfl rfl rfl rfl rfl (by simp) rfl rfl ?_;intro wp hX3 hk3 hz3;(first|(replace ho5:=qac hX.swap ho5 (by decide) hk3)|(replace ho5:=qac hX ho5 (by decide) hk3));clear hz3;clear hX;have hX:=hX3;clear hk3 hX3;simp only [sx] at hX)))
    refine qbw (fun w'=>Bag [(w.heap.size,42,[(.slice (some a2) R.length c'),.int .i64 ((j:Int)+1),.bool n,.bool r,.bool false,.bool mq,.bool d,.int .i64 c,.int .i64 (k - (x.size:Int)),.int .i64 a,.int .i64 l])] w w') 9 [(0,false),(1,false),(2,false),(3,false),(4,false),(5,false),(6,true),(7,true),(8,false)] (by kernel_rfl) (by kernel_rfl) (fun _ _ dd _ _ h=>by cases dd<;>exact h) hX.swap.restS.drew ?_
    iterate 6
     refine qcm rfl rfl (fun KK hKK=>?_)
     apply Exists.intro
     refine ⟨fun wq hq=>?_,hKK _ ?_⟩
     ·try dsimp only at hq
      first
       | exact qad 42 _ _ rfl rfl ((hq.all _ _ _ (.head _)).loadAt rfl aggT sizT)
       | exact qad 3 _ _ rfl rfl ((hq.all _ _ _ (.head _)).loadCell rfl qao)
       | (unfold execOp;go_simp;done)
       | (unfold execOp;go_simp;with_reducible rfl)
     clear hKK KK
     simp only [Act.put,sx]
    refine qcu rfl rfl (fun KK hKK=>?_)
    unfold Oper.semiAt
    go_simp
    simp only [semiUpon]
    refine ⟨trivial,?_⟩
    refine (hcl _ hX.below.drew (qat hX.drew.swap)).mono ?_
    rintro e' w6 ⟨v6,rfl,hz6,hbb⟩
    refine ⟨_,rfl,hKK _ _ (hX.swap.restS.drew.step hbb) ?_⟩
    clear hKK KK
    have hX6:=hX.drew.step hbb
    replace ho5:=qag (World.ownsRow.drew ho5) hbb
    clear hX
    have hX:=hX6
    clear hX6 hbb
    simp only [Act.put,sx]
    refine qda (cs':=[(.slice (some a2) R.length c'),.int .i64 ((j:Int)+1),.bool n,.bool r,.bool false,.bool mq,.bool d,.int .i64 c,.int .i64 (k - (x.size:Int)),.int .i64 a,.int .i64 l]) rfl rfl hX.swap aggT sizT _ _ rfl rfl rfl rfl rfl rfl (qan rfl _ _ _ _ _ _ _ _ _ _) (fun w7 hX7 hk7=>⟨hX7.restS,?_⟩)
    replace ho5:=qac hX.swap ho5 (by decide) hk7
    replace hz6:=hz6.over hk7 (by first|exact .inr (.inr rfl)|exact .inr (.inl rfl))
    clear hk7 hX
    have hX:=hX7
    clear hX7
    simp only [Act.put,sx]
    refine qcm rfl rfl (fun KK hKK=>?_)
    apply Exists.intro
    refine ⟨fun wq hq=>?_,hKK _ ?_⟩
    ·try dsimp only at hq
     first
      | exact qad 42 _ _ rfl rfl ((hq.all _ _ _ (.head _)).loadAt rfl aggT sizT)
      | exact qad 3 _ _ rfl rfl ((hq.all _ _ _ (.head _)).loadCell rfl qao)
      | (unfold execOp;go_simp;done)
      | (unfold execOp;go_simp;with_reducible rfl)
    clear hKK KK
    simp only [Act.put,sx]
    refine qdm ?_
    simp only [List.drop_succ_cons,List.drop_zero]
    go_wp2
    first|exact bodyPost_ret (qak Tryz.results117 rfl ((hX.all _ _ _ (.head _)).loadVar rfl aggT sizT)) rfl ⟨_,_,_,rfl,⟨_,rfl,hs.below hX.below⟩,qek (fun b hb=>Nat.lt_of_lt_of_le (hXl b hb) hN5) ho5,hz6.less (fun _ h=>.inl h),hX.below⟩|exact bodyPost_ret (qak Tryz.results117 rfl ((hX.all _ _ _ (.tail _ (.head _))).loadVar rfl aggT sizT)) rfl ⟨_,_,_,rfl,⟨_,rfl,hs.below hX.below⟩,qek (fun b hb=>Nat.lt_of_lt_of_le (hXl b hb) hN5) ho5,hz6.less (fun _ h=>.inl h),hX.below⟩
   ·obtain rfl:true=e2:=by simpa using he2
    clear he2
    go_enter Tryz.func117,Tryz.ntmps117
    go_wp2_with (first|((with_reducible refine qab ?_);first|refine lc hX ?_|refine qaq rfl 9 _ _ _ rfl rfl (hL _ hX.below) ?_|refine lw hX aggT sizT ?_)|(go_at_call 119;with_reducible refine cst hX (hpa _ hX.below) ?_;clear hX;intro wp hX)|((with_reducible refine qah ?_);first|((first|refine sc (z:=.bool _) hX.swap ?_|refine sc (z:=.bool _) hX ?_);clear hX;intro wp hX hk3 hz3;clear hk3 hz3;simp only [sx] at hX)|(refine qaa (cs':=[(.slice (some a2) R.length c'),.int .i64 ((j:Int)+1),.bool n,.bool r,.bool true,.bool mq,.bool d,.int .i64 c,.int .i64 k,.int .i64 a,.int .i64 l]) hX.swap aggT sizT _ _ rfl rfl rfl rfl rfl rfl rfl rfl (qan rfl _ _ _ _ _ _ _ _ _ _) ?_;clear hX;intro wz hX hkz;clear hkz)|(refine qaa (cs':=[(.slice (some a2) R.length c'),.int .i64 ((j:Int)+1),.bool n,.bool r,.bool true,.bool mq,.bool d,.int .i64 c,.int .i64 k,.int .i64 a,.int .i64 l]) hX aggT sizT _ _ rfl rfl rfl rfl rfl rfl rfl rfl (qan rfl _ _ _ _ _ _ _ _ _ _) ?_;clear hX;intro wz hX hkz;clear hkz)))
    refine qa8 (fun w'=>Bag [(w.heap.size,42,[(.slice (some a2) R.length c'),.int .i64 ((j:Int)+1),.bool n,.bool r,.bool true,.bool mq,.bool d,.int .i64 c,.int .i64 k,.int .i64 a,.int .i64 l]),(w.heap.size+1,42,[.slice none 0 0,.int .i64 0,.bool false,.bool false,.bool false,.bool false,.bool false,.int .i64 0,.int .i64 0,.int .i64 0,.int .i64 0])] w w') 11 [(0,false),(1,false),(2,false),(3,false),(4,false),(5,false),(6,true),(7,false),(8,false),(9,false),(10,false)] (by kernel_rfl) (by kernel_rfl) (fun _ _ dd _ _ h=>by cases dd<;>exact h) hX.drew ?_
    iterate 6
     refine qbk rfl rfl (fun KK hKK=>?_)
     apply Exists.intro
     refine ⟨fun wq hq=>?_,hKK _ ?_⟩
     ·try dsimp only at hq
      first
       | exact qad 3 _ _ rfl rfl ((hq.all _ _ _ (.head _)).loadCell rfl qao)
       | exact qad 3 _ _ rfl rfl ((hq.all _ _ _ (.tail _ (.head _))).loadCell rfl qao)
       | (unfold execOp;go_simp;done)
       | (unfold execOp;go_simp;with_reducible rfl)
     clear hKK KK
     simp only [Act.put,sx]
    refine qbm rfl rfl (fun KK hKK=>?_)
    unfold Oper.semiAt
    go_simp
    simp only [semiUpon]
    refine ⟨trivial,?_⟩
    refine (hst _ hX.below.drew).mono ?_
    rintro e' w5 ⟨v5,rfl,ho5,hbb⟩
    refine ⟨_,rfl,hKK _ _ (hX.drew.step hbb) ?_⟩
    clear hKK KK
    obtain ⟨N5,hN5,ho5⟩:∃ N5,w.heap.size≤N5∧Own N5 w5 v5 _:=⟨_,hX.below.drew.size,ho5⟩
    have hX5:=hX.drew.step hbb
    clear hX
    have hX:=hX5
    clear hX5 hbb
    iterate 4
     simp only [Act.put,sx]
     refine qbk rfl rfl (fun KK hKK=>?_)
     apply Exists.intro
     refine ⟨fun wq hq=>?_,hKK _ ?_⟩
     ·try dsimp only at hq
      first
       | exact qad 3 _ _ rfl rfl ((hq.all _ _ _ (.head _)).loadCell rfl qao)
       | exact qad 3 _ _ rfl rfl ((hq.all _ _ _ (.tail _ (.head _))).loadCell rfl qao)
       | (unfold execOp;go_simp;done)
       | (unfold execOp;go_simp;with_reducible rfl)
     clear hKK KK
    simp only [Act.put,sx]
    refine qb7 ?_
    simp only [List.drop_succ_cons,List.drop_zero]
    go_wp2_with (first|((with_reducible refine qab ?_);first|refine lc hX ?_|refine lw hX aggT sizT ?_)|((with_reducible refine qah ?_);first|(refine qae (z:=.int .i64 _) hX.swap qaw _ _ rfl rfl rfl rfl rfl rfl (by simp) rfl rfl ?_;intro wp hX3 hk3 hz3;(first|(replace ho5:=qac hX.swap ho5 (by decide) hk3)|(replace ho5:=qac hX ho5 (by decide) hk3));clear hz3;clear hX;have hX:=hX3;clear hk3 hX3;simp only [sx] at hX)|(refine qae (z:=.int .i64 _) hX qaw _ _ rfl rfl rfl rfl rfl rfl (by simp) rfl rfl ?_;intro wp hX3 hk3 hz3;(first|(replace ho5:=qac hX.swap ho5 (by decide) hk3)|(replace ho5:=qac hX ho5 (by decide) hk3));clear hz3;clear hX;have hX:=hX3;clear hk3 hX3;simp only [sx] at hX)))
    refine qbw (fun w'=>Bag [(w.heap.size,42,[(.slice (some a2) R.length c'),.int .i64 ((j:Int)+1),.bool n,.bool r,.bool true,.bool mq,.bool d,.int .i64 c,.int .i64 (k - (x.size:Int)),.int .i64 a,.int .i64 l])] w w') 9 [(0,false),(1,false),(2,false),(3,false),(4,false),(5,false),(6,true),(7,true),(8,false)] (by kernel_rfl) (by kernel_rfl) (fun _ _ dd _ _ h=>by cases dd<;>exact h) hX.swap.restS.drew ?_
    iterate 6
     refine qcm rfl rfl (fun KK hKK=>?_)
     apply Exists.intro
     refine ⟨fun wq hq=>?_,hKK _ ?_⟩
     ·try dsimp only at hq
      first
       | exact qad 42 _ _ rfl rfl ((hq.all _ _ _ (.head _)).loadAt rfl aggT sizT)
       | exact qad 3 _ _ rfl rfl ((hq.all _ _ _ (.head _)).loadCell rfl qao)
       | (unfold execOp;go_simp;done)
       | (unfold execOp;go_simp;with_reducible rfl)
     clear hKK KK
     simp only [Act.put,sx]
    refine qcu rfl rfl (fun KK hKK=>?_)
    unfold Oper.semiAt
    go_simp
    simp only [semiUpon]
    refine ⟨trivial,?_⟩
    refine (hcl _ hX.below.drew (qat hX.drew.swap)).mono ?_
    rintro e' w6 ⟨v6,rfl,hz6,hbb⟩
    refine ⟨_,rfl,hKK _ _ (hX.swap.restS.drew.step hbb) ?_⟩
    clear hKK KK
    have hX6:=hX.drew.step hbb
    replace ho5:=qag (World.ownsRow.drew ho5) hbb
    clear hX
    have hX:=hX6
    clear hX6 hbb
    simp only [Act.put,sx]
    refine qda (cs':=[(.slice (some a2) R.length c'),.int .i64 ((j:Int)+1),.bool n,.bool r,.bool true,.bool mq,.bool d,.int .i64 c,.int .i64 (k - (x.size:Int)),.int .i64 a,.int .i64 l]) rfl rfl hX.swap aggT sizT _ _ rfl rfl rfl rfl rfl rfl (qan rfl _ _ _ _ _ _ _ _ _ _) (fun w7 hX7 hk7=>⟨hX7.restS,?_⟩)
    replace ho5:=qac hX.swap ho5 (by decide) hk7
    replace hz6:=hz6.over hk7 (by first|exact .inr (.inr rfl)|exact .inr (.inl rfl))
    clear hk7 hX
    have hX:=hX7
    clear hX7
    simp only [Act.put,sx]
    refine qcm rfl rfl (fun KK hKK=>?_)
    apply Exists.intro
    refine ⟨fun wq hq=>?_,hKK _ ?_⟩
    ·try dsimp only at hq
     first
      | exact qad 42 _ _ rfl rfl ((hq.all _ _ _ (.head _)).loadAt rfl aggT sizT)
      | exact qad 3 _ _ rfl rfl ((hq.all _ _ _ (.head _)).loadCell rfl qao)
      | (unfold execOp;go_simp;done)
      | (unfold execOp;go_simp;with_reducible rfl)
    clear hKK KK
    simp only [Act.put,sx]
    refine qdm ?_
    simp only [List.drop_succ_cons,List.drop_zero]
    go_wp2
    first|exact bodyPost_ret (qak Tryz.results117 rfl ((hX.all _ _ _ (.head _)).loadVar rfl aggT sizT)) rfl ⟨_,_,_,rfl,⟨_,rfl,hs.below hX.below⟩,qek (fun b hb=>Nat.lt_of_lt_of_le (hXl b hb) hN5) ho5,hz6.less (fun _ h=>.inl h),hX.below⟩|exact bodyPost_ret (qak Tryz.results117 rfl ((hX.all _ _ _ (.tail _ (.head _))).loadVar rfl aggT sizT)) rfl ⟨_,_,_,rfl,⟨_,rfl,hs.below hX.below⟩,qek (fun b hb=>Nat.lt_of_lt_of_le (hXl b hb) hN5) ho5,hz6.less (fun _ h=>.inl h),hX.below⟩
end Go.Proofs.YthpnddgfgpacpaaGreat
