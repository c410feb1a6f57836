import Derived.Test.YthpnddgfgpacpaaGreatRT04
import Derived.Test.YthpnddgfgpacpaaGreatRT20
import Derived.Test.YthpnddgfgpacpaaGreatRT09
import Derived.Maps.AppendAt
import Derived.Laws.IdiomStrings
namespace Go.Proofs.YthpnddgfgpacpaaGreat
open Go.RowKit
set_option linter.unusedSimpArgs false
set_option linter.unusedVariables false
set_option maxHeartbeats 4000000
set_option maxRecDepth 100000
attribute [local irreducible] wpQuiet
theorem qpt (K:Tp) (M B:List Int) (hlM:M.length≤1099511627776) (hlB:B.length≤1099511627776) (hW:wordsB M=true) (hpos:0<M.length) (hl:K.R.length≤1099511627776) (hp:0≤K.p) (hrs:∀ s∈K.R,s.size≤512) (hk:0≤K.k∧K.k≤65535) (ha:0≤K.a∧K.a≤65535) (vs vm vz:Value) (w:World) (X:Nat→Prop) (hXl:∀ b,X b→b<w.heap.size) (hs:StsX X w vs K.R) (hm:ItsX X w vm M) (hz:ItsX X w vz B):Calls Tryz.prog 117 #[.agg #[vs,.int .i64 (K).p,.bool (K).n,.bool (K).r,.bool (K).e,.bool (K).m,.bool (K).d,.int .i64 (K).c,.int .i64 (K).k,.int .i64 (K).a,.int .i64 (K).l],vm,vz] w (TickS X w (K.read M B)):=by
 by_cases h:(K.R.length:Int)≤K.p
 ·exact qt4 K M B hl hp h vs vm vz w X hs hm hz
 ·exact qo8 K M B hlM hlB hW hpos hl hp h hrs hk ha vs vm vz w X hXl hs hm hz
theorem qpl (K:Tp) (hK:K.right=true) (M B:List Int) (hlM:M.length≤1099511627776) (hlB:B.length≤1099511627776) (hW:wordsB M=true) (hpos:0<M.length) (vs vm vz:Value) (w:World) (X:Nat→Prop) (hXl:∀ b,X b→b<w.heap.size) (hs:StsX X w vs K.R) (hm:ItsX X w vm M) (hz:ItsX X w vz B):Calls Tryz.prog 52 #[.agg #[vs,.int .i64 (K).p,.bool (K).n,.bool (K).r,.bool (K).e,.bool (K).m,.bool (K).d,.int .i64 (K).c,.int .i64 (K).k,.int .i64 (K).a,.int .i64 (K).l],vm,vz] w (TickS X w (K.tick M B)):=by
 unfold Tp.right at hK
 rw [Bool.and_eq_true,Tp.ok_iff,qee,qcw,qcw] at hK
 obtain ⟨⟨h64,hp,hc,hk,ha,hl,hr⟩,hrs⟩:=hK
 clear hr
 have hs0:Sts w vs K.R:=hs.now
 obtain ⟨A,c',hv,_,_⟩:=hs.now.form
 obtain ⟨R,p,n,r,e,m,d,c,k,a,l⟩:=K
 dsimp only at *
 have hlR:R.length≤1099511627776:=by omega
 have hrd:∀ w',Below w.heap.size w w'→w.heap.size+2≤w'.heap.size→_:=fun w' h h2=>qpt (Tp.mk R p n true e m d c k a 0) M B hlM hlB hW hpos hlR hp.1 hrs hk ha vs vm vz w' (OwnA X w.heap.size) (qg6 hXl h2) (hs.weak h qdy) (hm.weak h qdy) (hz.weak h qdy)
 have hwr:∀ w',Below w.heap.size w w'→w.heap.size+2≤w'.heap.size→_:=fun w' h h2=>qmn (Tp.mk R p n true e m d c k a 0) M B hlM hlB hlR hp hk ha vs vm vz w' (OwnA X w.heap.size) (qg6 hXl h2) (hs.weak h qdy) (Rz.below hm.now h) (Rz.below hz.now h)
 have hap:∀ w',Below w.heap.size w w'→w.heap.size+2≤w'.heap.size→_:=fun w' h h2=>qlb (Tp.mk R p n true e m d c k a 0) ⟨#[]⟩ hlR hp vs w' (OwnA X w.heap.size) (qg6 hXl h2) (hs.weak h qdy)
 subst hv
 have hpa:∀ w',Below w.heap.size w w'→_:=fun w' h=>qgb (Tp.mk R p n true e m d c k a 0) hlR hp.1 A c' w' (Rz.below hs0 h)
 have hba:∀ w',Below w.heap.size w w'→_:=fun w' h=>qpp (Tp.mk R p n true e m d c k a 0) hlR hp A c' w' (Rz.below hs0 h)
 clear hs0
 unfold Tp.tick
 by_cases h0:l≤0
 ·rw [if_pos h0]
  clear hrd hwr hap hpa hba hp hc hk ha hl hrs h64 hlR hW hpos hlM hlB
  have d1:decide (l≤0)=true:=decide_eq_true h0
  go_enter Tryz.func52,Tryz.ntmps52
  go_wp2
  exact bodyPost_ret (qak Tryz.results52 rfl (((qa0 w _ _).all _ _ _ (.head _)).loadVar rfl aggT sizT)) rfl ⟨_,_,_,rfl,⟨_,rfl,hs.below (qa0 w _ _).below⟩,hm.below (qa0 w _ _).below,hz.below (qa0 w _ _).below,(qa0 w _ _).below⟩
 rw [if_neg h0]
 have d1:decide (l≤0)=false:=decide_eq_false h0
 by_cases h1:1<l
 ·rw [if_pos h1]
  have w1:IntKind.i64.wrap (l - 1)=l - 1:=by rw [qaf];unfold wrap64;omega
  have h2:0<l - 1:=by omega
  have d2:decide (0<l - 1)=true:=decide_eq_true h2
  clear hrd hwr hap hpa hba hp hc hk ha hl hrs h64 hlR hW hpos hlM hlB h0
  go_enter Tryz.func52,Tryz.ntmps52
  go_wp2
  exact bodyPost_ret (qak Tryz.results52 rfl (((qa0 w _ _).all _ _ _ (.head _)).loadVar rfl aggT sizT)) rfl ⟨_,_,_,rfl,⟨_,rfl,hs.below (qa0 w _ _).below⟩,hm.below (qa0 w _ _).below,hz.below (qa0 w _ _).below,(qa0 w _ _).below⟩
 rw [if_neg h1]
 obtain rfl:l=1:=by omega
 clear d1 h0 h1 hl
 show Calls _ _ _ _ (TickS X w ((Tp.mk R p n true e m d c k a 0).done M B))
 unfold Tp.done
 dsimp only
 obtain hc0|hc1|hc2|hc3|hc4|hc5|hc6:c=0∨c=1∨c=2∨c=3∨c=4∨c=5∨c=6:=by omega
 ·subst hc0
  clear hlM hlB hlR hp hk ha h64 hrs hW hpos
  rw [if_neg (by decide)];rw [if_neg (by decide)];rw [if_neg (by decide)];rw [if_neg (by decide)];rw [if_neg (by decide)];rw [if_neg (by decide)]
  clear hrd hwr hap hpa hba
  go_enter Tryz.func52,Tryz.ntmps52
  go_wp2
  exact bodyPost_ret (qak Tryz.results52 rfl (((qa0 w _ _).all _ _ _ (.head _)).loadVar rfl aggT sizT)) rfl ⟨_,_,_,rfl,⟨_,rfl,hs.below (qa0 w _ _).below⟩,hm.below (qa0 w _ _).below,hz.below (qa0 w _ _).below,(qa0 w _ _).below⟩
 ·subst hc1
  clear hlM hlB hlR hp hk ha h64 hrs hW hpos
  rw [if_pos rfl]
  clear hwr hap hpa hba
  generalize (Tp.mk R p n true e m d 1 k a 0).read M B=Q3 at *
  obtain ⟨K2,M2,B2⟩:=Q3
  have hX:=qa0 w [(.slice A R.length c'),.int .i64 p,.bool n,.bool true,.bool e,.bool m,.bool d,.int .i64 1,.int .i64 k,.int .i64 a,.int .i64 0] [.slice none 0 0,.int .i64 0,.bool false,.bool false,.bool false,.bool false,.bool false,.int .i64 0,.int .i64 0,.int .i64 0,.int .i64 0]
  go_enter Tryz.func52,Tryz.ntmps52
  go_wp2_with (first|((with_reducible refine qab ?_);first|refine lc hX ?_|refine lw hX aggT sizT ?_)|(go_at_call 117;(with_reducible refine (hrd _ hX.below (by have h1:=qat hX;have h2:=qat hX.swap;omega)).mono ?_);rintro e' wa ⟨x,vm3,vz3,rfl,⟨v3,rfl,hs3⟩,hm3,hz3,hbb⟩;replace hX:=hX.step hbb;obtain ⟨A3,c3,rfl,_⟩:=hs3.now.form;clear hbb)|((with_reducible refine qah ?_);first|(refine qaa (cs':=[(.slice A3 K2.R.length c3),.int .i64 (K2).p,.bool (K2).n,.bool (K2).r,.bool (K2).e,.bool (K2).m,.bool (K2).d,.int .i64 (K2).c,.int .i64 (K2).k,.int .i64 (K2).a,.int .i64 (K2).l]) hX.swap aggT sizT _ _ rfl rfl rfl rfl rfl rfl rfl rfl (qan rfl _ _ _ _ _ _ _ _ _ _) ?_;clear hX;intro wz hX hkz;replace hs3:=hs3.over hkz (by first|exact .inr (.inr rfl)|exact .inr (.inl rfl));replace hm3:=hm3.over hkz (by first|exact .inr (.inr rfl)|exact .inr (.inl rfl));replace hz3:=hz3.over hkz (by first|exact .inr (.inr rfl)|exact .inr (.inl rfl));clear hkz)|(refine qaa (cs':=[(.slice A3 K2.R.length c3),.int .i64 (K2).p,.bool (K2).n,.bool (K2).r,.bool (K2).e,.bool (K2).m,.bool (K2).d,.int .i64 (K2).c,.int .i64 (K2).k,.int .i64 (K2).a,.int .i64 (K2).l]) hX aggT sizT _ _ rfl rfl rfl rfl rfl rfl rfl rfl (qan rfl _ _ _ _ _ _ _ _ _ _) ?_;clear hX;intro wz hX hkz;replace hs3:=hs3.over hkz (by first|exact .inr (.inr rfl)|exact .inr (.inl rfl));replace hm3:=hm3.over hkz (by first|exact .inr (.inr rfl)|exact .inr (.inl rfl));replace hz3:=hz3.over hkz (by first|exact .inr (.inr rfl)|exact .inr (.inl rfl));clear hkz)))
  first|exact bodyPost_ret (qak Tryz.results52 rfl ((hX.all _ _ _ (.head _)).loadVar rfl aggT sizT)) rfl ⟨_,_,_,rfl,⟨_,rfl,hs3.less (fun _ h=>.inl h)⟩,hm3.less (fun _ h=>.inl h),hz3.less (fun _ h=>.inl h),hX.below⟩|exact bodyPost_ret (qak Tryz.results52 rfl ((hX.all _ _ _ (.tail _ (.head _))).loadVar rfl aggT sizT)) rfl ⟨_,_,_,rfl,⟨_,rfl,hs3.less (fun _ h=>.inl h)⟩,hm3.less (fun _ h=>.inl h),hz3.less (fun _ h=>.inl h),hX.below⟩
 ·subst hc2
  clear hlM hlB hlR hp hk ha h64 hrs hW hpos
  rw [if_neg (by decide)];rw [if_pos rfl]
  clear hrd hap hpa hba
  generalize (Tp.mk R p n true e m d 2 k a 0).write M B=K2 at *
  have hX:=qa0 w [(.slice A R.length c'),.int .i64 p,.bool n,.bool true,.bool e,.bool m,.bool d,.int .i64 2,.int .i64 k,.int .i64 a,.int .i64 0] [.slice none 0 0,.int .i64 0,.bool false,.bool false,.bool false,.bool false,.bool false,.int .i64 0,.int .i64 0,.int .i64 0,.int .i64 0]
  go_enter Tryz.func52,Tryz.ntmps52
  go_wp2_with (first|((with_reducible refine qab ?_);first|refine lc hX ?_|refine lw hX aggT sizT ?_)|(go_at_call 118;(with_reducible refine (hwr _ hX.below (by have h1:=qat hX;have h2:=qat hX.swap;omega)).mono ?_);rintro e' wa ⟨x,rfl,⟨v3,rfl,hs3⟩,hbb⟩;replace hX:=hX.step hbb;obtain ⟨A3,c3,rfl,_⟩:=hs3.now.form;clear hbb)|((with_reducible refine qah ?_);first|(refine qaa (cs':=[(.slice A3 K2.R.length c3),.int .i64 (K2).p,.bool (K2).n,.bool (K2).r,.bool (K2).e,.bool (K2).m,.bool (K2).d,.int .i64 (K2).c,.int .i64 (K2).k,.int .i64 (K2).a,.int .i64 (K2).l]) hX.swap aggT sizT _ _ rfl rfl rfl rfl rfl rfl rfl rfl (qan rfl _ _ _ _ _ _ _ _ _ _) ?_;clear hX;intro wz hX hkz;replace hs3:=hs3.over hkz (by first|exact .inr (.inr rfl)|exact .inr (.inl rfl));clear hkz)|(refine qaa (cs':=[(.slice A3 K2.R.length c3),.int .i64 (K2).p,.bool (K2).n,.bool (K2).r,.bool (K2).e,.bool (K2).m,.bool (K2).d,.int .i64 (K2).c,.int .i64 (K2).k,.int .i64 (K2).a,.int .i64 (K2).l]) hX aggT sizT _ _ rfl rfl rfl rfl rfl rfl rfl rfl (qan rfl _ _ _ _ _ _ _ _ _ _) ?_;clear hX;intro wz hX hkz;replace hs3:=hs3.over hkz (by first|exact .inr (.inr rfl)|exact .inr (.inl rfl));clear hkz)))
  first|exact bodyPost_ret (qak Tryz.results52 rfl ((hX.all _ _ _ (.head _)).loadVar rfl aggT sizT)) rfl ⟨_,_,_,rfl,⟨_,rfl,hs3.less (fun _ h=>.inl h)⟩,hm.below hX.below,hz.below hX.below,hX.below⟩|exact bodyPost_ret (qak Tryz.results52 rfl ((hX.all _ _ _ (.tail _ (.head _))).loadVar rfl aggT sizT)) rfl ⟨_,_,_,rfl,⟨_,rfl,hs3.less (fun _ h=>.inl h)⟩,hm.below hX.below,hz.below hX.below,hX.below⟩
 ·subst hc3
  clear hlM hlB hlR hp hk ha h64 hrs hW hpos
  rw [if_neg (by decide)];rw [if_neg (by decide)];rw [if_pos rfl]
  clear hrd hwr hap hba
  have hR:((Tp.mk R p n true e m d 3 k a 0).pass).1.R=R:=by unfold Tp.pass;split<;>rfl
  generalize (Tp.mk R p n true e m d 3 k a 0).pass=Q3 at *
  obtain ⟨⟨R2,p2,n2,r2,e2,m2,d2,c2,k2,a2,l2⟩,ok2⟩:=Q3
  obtain rfl:R=R2:=hR.symm
  have hX:=qa0 w [(.slice A R.length c'),.int .i64 p,.bool n,.bool true,.bool e,.bool m,.bool d,.int .i64 3,.int .i64 k,.int .i64 a,.int .i64 0] [.slice none 0 0,.int .i64 0,.bool false,.bool false,.bool false,.bool false,.bool false,.int .i64 0,.int .i64 0,.int .i64 0,.int .i64 0]
  go_enter Tryz.func52,Tryz.ntmps52
  go_wp2_with (first|((with_reducible refine qab ?_);first|refine lc hX ?_|refine lw hX aggT sizT ?_)|(go_at_call 119;with_reducible refine cst hX (hpa _ hX.below) ?_;clear hX;intro wp hX)|((with_reducible refine qah ?_);first|(refine qaa (cs':=[(.slice A R.length c'),.int .i64 p2,.bool n2,.bool r2,.bool e2,.bool m2,.bool d2,.int .i64 c2,.int .i64 k2,.int .i64 a2,.int .i64 l2]) hX.swap aggT sizT _ _ rfl rfl rfl rfl rfl rfl rfl rfl (qan rfl _ _ _ _ _ _ _ _ _ _) ?_;clear hX;intro wz hX hkz;clear hkz)|(refine qaa (cs':=[(.slice A R.length c'),.int .i64 p2,.bool n2,.bool r2,.bool e2,.bool m2,.bool d2,.int .i64 c2,.int .i64 k2,.int .i64 a2,.int .i64 l2]) hX aggT sizT _ _ rfl rfl rfl rfl rfl rfl rfl rfl (qan rfl _ _ _ _ _ _ _ _ _ _) ?_;clear hX;intro wz hX hkz;clear hkz)))
  first|exact bodyPost_ret (qak Tryz.results52 rfl ((hX.all _ _ _ (.head _)).loadVar rfl aggT sizT)) rfl ⟨_,_,_,rfl,⟨_,rfl,hs.below hX.below⟩,hm.below hX.below,hz.below hX.below,hX.below⟩|exact bodyPost_ret (qak Tryz.results52 rfl ((hX.all _ _ _ (.tail _ (.head _))).loadVar rfl aggT sizT)) rfl ⟨_,_,_,rfl,⟨_,rfl,hs.below hX.below⟩,hm.below hX.below,hz.below hX.below,hX.below⟩
 ·subst hc4
  clear hlM hlB hlR hp hk ha h64 hrs hW hpos
  rw [if_neg (by decide)];rw [if_neg (by decide)];rw [if_neg (by decide)];rw [if_pos rfl]
  clear hrd hwr hap hpa
  have hR:((Tp.mk R p n true e m d 4 k a 0).back).R=R:=by unfold Tp.back;split<;>rfl
  generalize (Tp.mk R p n true e m d 4 k a 0).back=Q3 at *
  obtain ⟨R2,p2,n2,r2,e2,m2,d2,c2,k2,a2,l2⟩:=Q3
  obtain rfl:R=R2:=hR.symm
  have hX:=qa0 w [(.slice A R.length c'),.int .i64 p,.bool n,.bool true,.bool e,.bool m,.bool d,.int .i64 4,.int .i64 k,.int .i64 a,.int .i64 0] [.slice none 0 0,.int .i64 0,.bool false,.bool false,.bool false,.bool false,.bool false,.int .i64 0,.int .i64 0,.int .i64 0,.int .i64 0]
  go_enter Tryz.func52,Tryz.ntmps52
  go_wp2_with (first|((with_reducible refine qab ?_);first|refine lc hX ?_|refine lw hX aggT sizT ?_)|(go_at_call 120;with_reducible refine cst hX (hba _ hX.below) ?_;clear hX;intro wp hX)|((with_reducible refine qah ?_);first|(refine qaa (cs':=[(.slice A R.length c'),.int .i64 p2,.bool n2,.bool r2,.bool e2,.bool m2,.bool d2,.int .i64 c2,.int .i64 k2,.int .i64 a2,.int .i64 l2]) hX.swap aggT sizT _ _ rfl rfl rfl rfl rfl rfl rfl rfl (qan rfl _ _ _ _ _ _ _ _ _ _) ?_;clear hX;intro wz hX hkz;clear hkz)|(refine qaa (cs':=[(.slice A R.length c'),.int .i64 p2,.bool n2,.bool r2,.bool e2,.bool m2,.bool d2,.int .i64 c2,.int .i64 k2,.int .i64 a2,.int .i64 l2]) hX aggT sizT _ _ rfl rfl rfl rfl rfl rfl rfl rfl (qan rfl _ _ _ _ _ _ _ _ _ _) ?_;clear hX;intro wz hX hkz;clear hkz)))
  first|exact bodyPost_ret (qak Tryz.results52 rfl ((hX.all _ _ _ (.head _)).loadVar rfl aggT sizT)) rfl ⟨_,_,_,rfl,⟨_,rfl,hs.below hX.below⟩,hm.below hX.below,hz.below hX.below,hX.below⟩|exact bodyPost_ret (qak Tryz.results52 rfl ((hX.all _ _ _ (.tail _ (.head _))).loadVar rfl aggT sizT)) rfl ⟨_,_,_,rfl,⟨_,rfl,hs.below hX.below⟩,hm.below hX.below,hz.below hX.below,hX.below⟩
 ·subst hc5
  clear hlM hlB hlR hp hk ha h64 hrs hW hpos
  rw [if_neg (by decide)];rw [if_neg (by decide)];rw [if_neg (by decide)];rw [if_neg (by decide)];rw [if_pos rfl]
  clear hrd hwr hap hpa hba
  go_enter Tryz.func52,Tryz.ntmps52
  go_wp2
  exact bodyPost_ret (qak Tryz.results52 rfl (((qa0 w _ _).all _ _ _ (.head _)).loadVar rfl aggT sizT)) rfl ⟨_,_,_,rfl,⟨_,rfl,hs.below (qa0 w _ _).below⟩,hm.below (qa0 w _ _).below,hz.below (qa0 w _ _).below,(qa0 w _ _).below⟩
 ·subst hc6
  clear hlM hlB hlR hp hk ha h64 hrs hW hpos
  rw [if_neg (by decide)];rw [if_neg (by decide)];rw [if_neg (by decide)];rw [if_neg (by decide)];rw [if_neg (by decide)];rw [if_pos rfl]
  clear hrd hwr hpa hba
  generalize (Tp.mk R p n true e m d 6 k a 0).app ⟨#[]⟩=K2 at *
  have hX:=qa0 w [(.slice A R.length c'),.int .i64 p,.bool n,.bool true,.bool e,.bool m,.bool d,.int .i64 6,.int .i64 k,.int .i64 a,.int .i64 0] [.slice none 0 0,.int .i64 0,.bool false,.bool false,.bool false,.bool false,.bool false,.int .i64 0,.int .i64 0,.int .i64 0,.int .i64 0]
  go_enter Tryz.func52,Tryz.ntmps52
  go_wp2_with (first|((with_reducible refine qab ?_);first|refine lc hX ?_|refine lw hX aggT sizT ?_)|(go_at_call 121;(with_reducible refine (hap _ hX.below (by have h1:=qat hX;have h2:=qat hX.swap;omega)).mono ?_);rintro e' wa ⟨x,rfl,⟨v3,rfl,hs3⟩,hbb⟩;replace hX:=hX.step hbb;obtain ⟨A3,c3,rfl,_⟩:=hs3.now.form;clear hbb)|((with_reducible refine qah ?_);first|(refine qaa (cs':=[(.slice A3 K2.R.length c3),.int .i64 (K2).p,.bool (K2).n,.bool (K2).r,.bool (K2).e,.bool (K2).m,.bool (K2).d,.int .i64 (K2).c,.int .i64 (K2).k,.int .i64 (K2).a,.int .i64 (K2).l]) hX.swap aggT sizT _ _ rfl rfl rfl rfl rfl rfl rfl rfl (qan rfl _ _ _ _ _ _ _ _ _ _) ?_;clear hX;intro wz hX hkz;replace hs3:=hs3.over hkz (by first|exact .inr (.inr rfl)|exact .inr (.inl rfl));clear hkz)|(refine qaa (cs':=[(.slice A3 K2.R.length c3),.int .i64 (K2).p,.bool (K2).n,.bool (K2).r,.bool (K2).e,.bool (K2).m,.bool (K2).d,.int .i64 (K2).c,.int .i64 (K2).k,.int .i64 (K2).a,.int .i64 (K2).l]) hX aggT sizT _ _ rfl rfl rfl rfl rfl rfl rfl rfl (qan rfl _ _ _ _ _ _ _ _ _ _) ?_;clear hX;intro wz hX hkz;replace hs3:=hs3.over hkz (by first|exact .inr (.inr rfl)|exact .inr (.inl rfl));clear hkz)))
  first|exact bodyPost_ret (qak Tryz.results52 rfl ((hX.all _ _ _ (.head _)).loadVar rfl aggT sizT)) rfl ⟨_,_,_,rfl,⟨_,rfl,hs3.less (fun _ h=>.inl h)⟩,hm.below hX.below,hz.below hX.below,hX.below⟩|exact bodyPost_ret (qak Tryz.results52 rfl ((hX.all _ _ _ (.tail _ (.head _))).loadVar rfl aggT sizT)) rfl ⟨_,_,_,rfl,⟨_,rfl,hs3.less (fun _ h=>.inl h)⟩,hm.below hX.below,hz.below hX.below,hX.below⟩
theorem Tp.right_iff (K:Tp):K.right=true↔(K.R.length≤64∧(0≤K.p∧K.p≤(K.R.length:Int))∧(0≤K.c∧K.c≤6)∧(0≤K.k∧K.k≤65535)∧(0≤K.a∧K.a≤65535)∧(0≤K.l∧K.l≤16)∧K.r=decide (K.l=0))∧∀ s∈K.R,s.size≤512:=by
 unfold Tp.right;rw [Bool.and_eq_true,Tp.ok_iff,qee,qcw,qcw]
theorem qes {R:List ByteArray} {p c k a l:Int} {n r e m d:Bool} (h1:R.length≤64) (h2:0≤p∧p≤(R.length:Int)) (h3:0≤c∧c≤6) (h4:0≤k∧k≤65535) (h5:0≤a∧a≤65535) (h6:0≤l∧l≤16) (h7:r=decide (l=0)) (h8:∀ s∈R,s.size≤512):(Tp.mk R p n r e m d c k a l).right=true:=(Tp.right_iff _).2 ⟨⟨h1,h2,h3,h4,h5,h6,h7⟩,h8⟩
theorem qq4 {K:Tp} (h:K.right=true) (g v:Int):(K.wr g v).1.right=true:=by
 obtain ⟨⟨h1,h2,h3,h4,h5,h6,h7⟩,h8⟩:=(Tp.right_iff K).1 h
 unfold Tp.wr Tp.go
 repeat' split
 all_goals first
  | exact h
  | exact qes h1 h2 h3 h4 h5 h6 h7 h8
  | exact qes h1 h2 (by decide) h4 h5 h6 h7 h8
  | exact qes h1 h2 (by omega) h4 h5 (by decide) rfl h8
  | exact qes h1 h2 h3 (by omega) h5 h6 h7 h8
  | exact qes h1 h2 h3 h4 (by omega) h6 h7 h8
theorem qfl {K:Tp} (h:K.right=true):K.pass.1.right=true:=by
 obtain ⟨⟨h1,h2,h3,h4,h5,h6,h7⟩,h8⟩:=(Tp.right_iff K).1 h
 unfold Tp.pass;split
 ·exact qes h1 h2 h3 h4 h5 h6 h7 h8
 ·exact qes h1 (by omega) h3 h4 h5 h6 h7 h8
theorem qm1 {K:Tp} (h:K.right=true):K.back.right=true:=by
 obtain ⟨⟨h1,h2,h3,h4,h5,h6,h7⟩,h8⟩:=(Tp.right_iff K).1 h
 unfold Tp.back;split
 ·exact qes h1 h2 h3 h4 h5 h6 h7 h8
 ·exact qes h1 (by omega) h3 h4 h5 h6 h7 h8
theorem qi8 {K:Tp} (h:K.right=true) {s:ByteArray} (hs:s.size≤512):(K.app s).right=true:=by
 obtain ⟨⟨h1,h2,h3,h4,h5,h6,h7⟩,h8⟩:=(Tp.right_iff K).1 h
 unfold Tp.app;split
 ·exact qes h1 h2 h3 h4 h5 h6 h7 h8
 ·have hl:(K.R.take K.p.toNat++[s]).length=K.p.toNat+1:=by simp;omega
  refine qes (by omega) (by omega) h3 h4 h5 h6 h7 (fun u hu=>?_)
  rcases List.mem_append.1 hu with h|h
  ·exact h8 u (List.mem_of_mem_take h)
  ·rw [List.mem_singleton.1 h];exact hs
theorem qui (l:List UInt8):(strV l).size=l.length:=rfl
theorem qlx {K:Tp} (h:K.right=true) (M B:List Int):(K.write M B).right=true:=by
 obtain ⟨⟨h1,h2,h3,h4,h5,h6,h7⟩,h8⟩:=(Tp.right_iff K).1 h
 unfold Tp.write;split
 ·rename_i hk
  exact qi8 h (by rw [qui,qb2];omega)
 ·exact qes h1 h2 h3 h4 h5 h6 h7 h8
structure KeptT (K:Tp) (m B:List Int) (T:Tp×List Int×List Int):Prop where
 right:T.1.right=true
 mem:rightP T.2.1 T.2.2=true
 ml:T.2.1.length=m.length
 bl:T.2.2.length≤B.length
theorem qkl (B:List Int) (a:Int):∀ n,(clrV B a n).Sublist B
 | 0=>List.Sublist.refl _
 | n+1=>List.Sublist.trans List.filter_sublist (qkl B a n)
theorem qpj {m B m2 B2:List Int} (h:rightP m B=true) (hl:m2.length=m.length) (hw:wordsB m=true→wordsB m2=true) (hs:B2.Sublist B):rightP m2 B2=true:=by
 unfold rightP at *
 simp only [Bool.and_eq_true] at *
 rw [hl]
 refine ⟨h.1,hw h.2.1,?_⟩
 have h2:=(qfm _ _ _).1 h.2.2
 exact (qfm _ _ _).2 ⟨fun x hx=>h2.1 x (hs.subset hx),h2.2.sublist hs⟩
theorem KeptT.refl {K K2:Tp} {m B:List Int} (h:K2.right=true) (hm:rightP m B=true):KeptT K m B (K2,m,B):=⟨h,hm,rfl,Nat.le_refl _⟩
theorem qq1 {K:Tp} {m B:List Int} (h:K.right=true) (hm:rightP m B=true):KeptT K m B (K.read m B):=by
 have hp:=(Tp.right_iff _).1 (qfl h)
 obtain ⟨⟨h1,h2,h3,h4,h5,h6,h7⟩,h8⟩:=hp
 unfold Tp.read
 split
 ·exact .refl (qfl h) hm
 ·split
  ·have hk:K.pass.1.k=K.k:=by unfold Tp.pass;split<;>rfl
   rw [hk] at h4
   have hc:(cntR K:Int)≤K.k:=by unfold cntR;omega
   exact ⟨qes h1 h2 h3 (by omega) h5 h6 h7 h8,qpj hm (qdl ..) (fun h=>qgs _ _ h) (qkl ..),qdl ..,(qkl ..).length_le⟩
  ·exact .refl (qes h1 h2 h3 h4 h5 h6 h7 h8) hm
theorem qiu {K:Tp} {m B:List Int} (h:K.right=true) (hm:rightP m B=true):KeptT K m B (K.tick m B):=by
 obtain ⟨⟨h1,h2,h3,h4,h5,h6,h7⟩,h8⟩:=(Tp.right_iff K).1 h
 unfold Tp.tick
 split
 ·exact .refl h hm
 split
 ·exact .refl (qes h1 h2 h3 h4 h5 (by omega) (by rw [h7];rw [decide_eq_false (by omega),decide_eq_false (by omega)]) h8) hm
 have hz:({K with l:=0,r:=true}:Tp).right=true:=qes h1 h2 h3 h4 h5 (by decide) rfl h8
 generalize ({K with l:=0,r:=true}:Tp)=K0 at *
 unfold Tp.done
 repeat' split
 ·obtain ⟨a1,a2,a3,a4⟩:=qq1 hz hm;exact ⟨a1,a2,a3,a4⟩
 ·exact .refl (qlx hz m B) hm
 ·exact .refl (qfl hz) hm
 ·exact .refl (qm1 hz) hm
 ·obtain ⟨⟨h1,h2,h3,h4,h5,h6,h7⟩,h8⟩:=(Tp.right_iff K0).1 hz
  exact .refl (qes h1 (by omega) h3 h4 h5 h6 h7 h8) hm
 ·exact .refl (qi8 hz (by decide)) hm
 ·exact .refl hz hm
theorem qjb {m B:List Int} (h:rightP m B=true):128≤m.length∧m.length≤16384∧wordsB m=true:=by
 unfold rightP at h
 simp only [Bool.and_eq_true] at h
 have:=(qrk).1 h.1
 exact ⟨by omega,by omega,h.2.1⟩
theorem qk6 (K:Tp) (hK:K.right=true) (M B:List Int) (hM:rightP M B=true) (hlB:B.length≤1099511627776) (vs vm vz:Value) (w:World) (X:Nat→Prop) (hXl:∀ b,X b→b<w.heap.size) (hs:StsX X w vs K.R) (hm:ItsX X w vm M) (hz:ItsX X w vz B):Calls Tryz.prog 52 #[.agg #[vs,.int .i64 (K).p,.bool (K).n,.bool (K).r,.bool (K).e,.bool (K).m,.bool (K).d,.int .i64 (K).c,.int .i64 (K).k,.int .i64 (K).a,.int .i64 (K).l],vm,vz] w (TickS X w (K.tick M B)):=by
 have:=qjb hM
 exact qpl K hK M B (by omega) hlB this.2.2 (by omega) vs vm vz w X hXl hs hm hz
def Hid_14 (p:Prop):Prop:=p
theorem hid_14 {p:Prop} (h:p):Hid_14 p:=h
theorem rtickL_0 (a b o:Bool) (d:Int) (e f:Bool) (t l:Int) (s:ByteArray) (h:l≤0) (w:World):Calls Tryz.prog 50 #[.agg #[.bool a,.bool b,.bool o,.int .i64 d,.bool e,.bool f,.int .i64 t,.int .i64 l,.string s]] w fun e' w'=>e'=.returned (.agg #[.bool a,.bool b,.bool o,.int .i64 d,.bool e,.bool f,.int .i64 t,.int .i64 l,.string s])∧Below w.heap.size w w':=by
 have d0:decide (l≤0)=true:=decide_eq_true h
 go_enter Tryz.func50,Tryz.ntmps50
 go_wp2
 exact bodyPost_ret (qaj Tryz.results50 rfl (((qbd w _ _).all _ _ _ List.mem_cons_self).loadVar rfl aggL sizL)) rfl ⟨rfl,(qbd w _ _).below⟩
theorem rtickL_n (a b o:Bool) (d:Int) (e f:Bool) (t l:Int) (s:ByteArray) (h:1<l∧l≤4) (w:World):Calls Tryz.prog 50 #[.agg #[.bool a,.bool b,.bool o,.int .i64 d,.bool e,.bool f,.int .i64 t,.int .i64 l,.string s]] w fun e' w'=>e'=.returned (.agg #[.bool a,.bool b,.bool o,.int .i64 d,.bool e,.bool f,.int .i64 t,.int .i64 (l - 1),.string s])∧Below w.heap.size w w':=by
 have d0:decide (l≤0)=false:=decide_eq_false (by omega)
 have hw:wrap64 (l - 1)=l - 1:=by unfold wrap64;omega
 have d1:decide (0<l - 1)=true:=decide_eq_true (by omega)
 go_enter Tryz.func50,Tryz.ntmps50
 go_wp2
 exact bodyPost_ret (qaj Tryz.results50 rfl (((qbd w _ _).all _ _ _ List.mem_cons_self).loadVar rfl aggL sizL)) rfl ⟨rfl,(qbd w _ _).below⟩
theorem qfy (s:ByteArray) (y:UInt8):(s++(⟨#[y]⟩:ByteArray)).size=s.size+1:=by rw [ByteArray.size_append];rfl
theorem rtickL_1 (a b o:Bool) (d:Int) (e f:Bool) (y:UInt8) (s:ByteArray) (hs:s.size<4096) (w:World):Calls Tryz.prog 50 #[.agg #[.bool a,.bool b,.bool o,.int .i64 d,.bool e,.bool f,.int .i64 (y.toNat:Int),.int .i64 1,.string s]] w fun e' w'=>e'=.returned (.agg #[.bool a,.bool b,.bool o,.int .i64 d,.bool e,.bool true,.int .i64 (y.toNat:Int),.int .i64 0,.string (s++(⟨#[y]⟩:ByteArray))])∧Below w.heap.size w w':=by
 have hy:(y.toNat:Int)≤255:=by have:=y.toNat_lt;omega
 have hy0:0≤(y.toNat:Int):=by omega
 have hcell:∀ w0:World,∀ j (hj:j<[y].length),(w0.alloc (.cells #[.int .u8 (y.toNat:Int)] 5)).cell? ((⟨w0.heap.size,0,none⟩:Addr).add j)=some (.int .u8 (([y][j]).toNat:Int)):=fun w0 j hj=>by
  have:=cell_one_new w0 (.int .u8 (y.toNat:Int)) 5 j (.int .u8 (y.toNat:Int)) (by
   have:j=0:=by simpa using hj
   subst this;rfl)
  rw [this]
  have:j=0:=by simpa using hj
  subst this;rfl
 have hcv0:∀ w0:World,(convert 167 9 (.slice (some ⟨w0.heap.size,0,none⟩) 1 1)).run Tryz.prog (w0.alloc (.cells #[.int .u8 (y.toNat:Int)] 5))=.ok (.string ⟨#[y]⟩) (w0.alloc (.cells #[.int .u8 (y.toNat:Int)] 5)):=fun w0 =>
  run_convert_bytes_back (P:=Tryz.prog) _ 167 9 5 ⟨w0.heap.size,0,none⟩ 1 [y] Tryz.underlying167 Tryz.underlying5 Tryz.underlying9 (hcell w0)
 have hcv:=hcv0 ((w.alloc (.cells #[.bool a,.bool b,.bool o,.int .i64 d,.bool e,.bool true,.int .i64 (y.toNat:Int),.int .i64 0,.string s] 68)).alloc (.cells #[.bool false,.bool false,.bool false,.int .i64 0,.bool false,.bool false,.int .i64 0,.int .i64 0,.string ⟨#[]⟩] 68))
 rw [show ((w.alloc (.cells #[.bool a,.bool b,.bool o,.int .i64 d,.bool e,.bool true,.int .i64 (y.toNat:Int),.int .i64 0,.string s] 68)).alloc (.cells #[.bool false,.bool false,.bool false,.int .i64 0,.bool false,.bool false,.int .i64 0,.int .i64 0,.string ⟨#[]⟩] 68)).heap.size=w.heap.size+1+1 from by simp] at hcv
 have hsz:=qfy s y
 have hlt:decide (4096<(s.size:Int)+1)=false:=decide_eq_false (by omega)
 clear hcv0 hcell
 go_enter Tryz.func50,Tryz.ntmps50
 go_wp2
 exact bodyPost_ret (qaj Tryz.results50 rfl ((((qbd w _ _).new 5 _).all _ _ _ (List.mem_cons_of_mem _ List.mem_cons_self)).loadVar rfl aggL sizL)) rfl ⟨rfl,((qbd w _ _).new 5 _).below⟩
theorem rtickL_2 (a b o:Bool) (d:Int) (e f:Bool) (y:UInt8) (s:ByteArray) (hs:s.size=4096) (w:World):Calls Tryz.prog 50 #[.agg #[.bool a,.bool b,.bool o,.int .i64 d,.bool e,.bool f,.int .i64 (y.toNat:Int),.int .i64 1,.string s]] w fun e' w'=>e'=.returned (.agg #[.bool a,.bool b,.bool o,.int .i64 d,.bool e,.bool true,.int .i64 (y.toNat:Int),.int .i64 0,.string ((s++(⟨#[y]⟩:ByteArray)).extract 1 (s.size+1))])∧Below w.heap.size w w':=by
 have hy:(y.toNat:Int)≤255:=by have:=y.toNat_lt;omega
 have hy0:0≤(y.toNat:Int):=by omega
 have hcell:∀ w0:World,∀ j (hj:j<[y].length),(w0.alloc (.cells #[.int .u8 (y.toNat:Int)] 5)).cell? ((⟨w0.heap.size,0,none⟩:Addr).add j)=some (.int .u8 (([y][j]).toNat:Int)):=fun w0 j hj=>by
  have:=cell_one_new w0 (.int .u8 (y.toNat:Int)) 5 j (.int .u8 (y.toNat:Int)) (by
   have:j=0:=by simpa using hj
   subst this;rfl)
  rw [this]
  have:j=0:=by simpa using hj
  subst this;rfl
 have hcv0:∀ w0:World,(convert 167 9 (.slice (some ⟨w0.heap.size,0,none⟩) 1 1)).run Tryz.prog (w0.alloc (.cells #[.int .u8 (y.toNat:Int)] 5))=.ok (.string ⟨#[y]⟩) (w0.alloc (.cells #[.int .u8 (y.toNat:Int)] 5)):=fun w0 =>
  run_convert_bytes_back (P:=Tryz.prog) _ 167 9 5 ⟨w0.heap.size,0,none⟩ 1 [y] Tryz.underlying167 Tryz.underlying5 Tryz.underlying9 (hcell w0)
 have hcv:=hcv0 ((w.alloc (.cells #[.bool a,.bool b,.bool o,.int .i64 d,.bool e,.bool true,.int .i64 (y.toNat:Int),.int .i64 0,.string s] 68)).alloc (.cells #[.bool false,.bool false,.bool false,.int .i64 0,.bool false,.bool false,.int .i64 0,.int .i64 0,.string ⟨#[]⟩] 68))
 rw [show ((w.alloc (.cells #[.bool a,.bool b,.bool o,.int .i64 d,.bool e,.bool true,.int .i64 (y.toNat:Int),.int .i64 0,.string s] 68)).alloc (.cells #[.bool false,.bool false,.bool false,.int .i64 0,.bool false,.bool false,.int .i64 0,.int .i64 0,.string ⟨#[]⟩] 68)).heap.size=w.heap.size+1+1 from by simp] at hcv
 have hsz:=qfy s y
 have hlt:decide (4096<(s.size:Int)+1)=true:=decide_eq_true (by omega)
 have hs':(s.size:Int)=4096:=by omega
 replace hs:=hid_14 hs
 clear hcv0 hcell hlt
 go_enter Tryz.func50,Tryz.ntmps50
 go_wp2
 exact bodyPost_ret (qaj Tryz.results50 rfl ((((qbd w _ _).new 5 _).all _ _ _ (List.mem_cons_of_mem _ List.mem_cons_self)).loadVar rfl aggL sizL)) rfl ⟨rfl,((qbd w _ _).new 5 _).below⟩
theorem qs7 {s:ByteArray} {y:UInt8} (h:s.size<4096):(⟨(lastO (s.data.toList++[y])).toArray⟩:ByteArray)=s++(⟨#[y]⟩:ByteArray):=by
 apply ByteArray.ext
 have hl:s.data.toList.length=s.size:=rfl
 unfold lastO
 rw [show (s.data.toList++[y]).length - 4096=0 from by rw [List.length_append,hl];simp;omega,List.drop_zero,ByteArray.data_append]
 apply Array.toList_inj.1
 simp
theorem qtx {s:ByteArray} {y:UInt8} (h:s.size=4096):(⟨(lastO (s.data.toList++[y])).toArray⟩:ByteArray)=(s++(⟨#[y]⟩:ByteArray)).extract 1 (s.size+1):=by
 apply ByteArray.ext
 have hl:s.data.toList.length=s.size:=rfl
 unfold lastO
 rw [show (s.data.toList++[y]).length - 4096=1 from by rw [List.length_append,hl,h];rfl]
 have hz:(s++(⟨#[y]⟩:ByteArray)).data.size=s.size+1:=qfy s y
 apply Array.toList_inj.1
 rw [ByteArray.data_extract,Array.toList_extract,List.extract_eq_take_drop,ByteArray.data_append,Array.toList_append]
 simp only [List.take_length_add_append]
 rw [List.take_of_length_le (by rw [List.length_drop,List.length_append,hl];simp)]
theorem qqs (x:Ln) (h:x.right=true) (w:World):Calls Tryz.prog 50 #[.agg #[.bool (x).a,.bool (x).b,.bool (x).o,.int .i64 (x).d,.bool (x).e,.bool (x).f,.int .i64 (x).t,.int .i64 (x).l,.string (x).s]] w fun e' w'=>e'=.returned (.agg #[.bool (x.tick).a,.bool (x.tick).b,.bool (x.tick).o,.int .i64 (x.tick).d,.bool (x.tick).e,.bool (x.tick).f,.int .i64 (x.tick).t,.int .i64 (x.tick).l,.string (x.tick).s])∧Below w.heap.size w w':=by
 have hx:0≤x.t∧x.t≤255∧x.s.size≤4096∧0≤x.l∧x.l≤4:=by
  unfold Ln.right at h
  simp only [Bool.and_eq_true,decide_eq_true_eq] at h
  omega
 obtain ⟨a,b,o,d,e,f,t,l,s⟩:=x
 simp only at hx
 unfold Ln.tick
 by_cases h0:l≤0
 ·rw [if_pos (show (Ln.mk a b o d e f t l s).l≤0 from h0)];exact rtickL_0 a b o d e f t l s h0 w
 rw [if_neg (show ¬ (Ln.mk a b o d e f t l s).l≤0 from h0)]
 by_cases h1:1<l
 ·rw [if_pos (show 1<(Ln.mk a b o d e f t l s).l from h1)];exact rtickL_n a b o d e f t l s (by omega) w
 rw [if_neg (show ¬ 1<(Ln.mk a b o d e f t l s).l from h1)]
 obtain rfl:l=1:=by omega
 obtain ⟨y,rfl⟩:∃ y:UInt8,t=(y.toNat:Int):=⟨UInt8.ofNat t.toNat,by have:=UInt8.toNat_ofNat' (n:=t.toNat);omega⟩
 simp only [Int.toNat_natCast,UInt8.ofNat_toNat]
 by_cases hs:s.size<4096
 ·rw [qs7 hs];exact rtickL_1 a b o d e f y s hs w
 ·have hs2:s.size=4096:=by omega
  rw [qtx hs2];exact rtickL_2 a b o d e f y s hs2 w
end Go.Proofs.YthpnddgfgpacpaaGreat
