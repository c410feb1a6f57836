import Derived.Test.YthpnddgfgpacpaaGreatRT04
import Derived.Test.YthpnddgfgpacpaaGreatRT36
import Derived.Test.YthpnddgfgpacpaaGreatRT20
import Derived.Test.YthpnddgfgpacpaaGreatRT19
import Derived.Test.YthpnddgfgpacpaaGreatRT13
namespace Go.Proofs.YthpnddgfgpacpaaGreat
open Go.RowKit
set_option linter.unusedSimpArgs false
set_option linter.unusedVariables false
set_option maxHeartbeats 4000000
set_option maxRecDepth 100000
attribute [local irreducible] wpQuiet
theorem qsh (x:ByteArray) (w:World):Calls Tryz.prog 249 #[.string x] w fun e' w'=>e'=.returned (.bool (decide (512<x.size)))∧Below w.heap.size w w':=by
 refine (qkx x w).mono ?_
 rintro e w' ⟨rfl,q,rfl⟩
 exact ⟨rfl,below_drewN' (Below.refl _ _) q⟩
theorem qfd (a n:Int) (w:World):Calls Tryz.prog 262 #[.int .i64 a,.int .i64 n] w fun e' w'=>∃ Bn Ba,e'=.returned (.func (.func 264) #[] #[.pointer (some ⟨Bn,0,none⟩),.pointer (some ⟨Ba,0,none⟩)])∧w'.cell? ⟨Bn,0,none⟩=some (.int .i64 n)∧w'.cell? ⟨Ba,0,none⟩=some (.int .i64 a)∧w.heap.size≤Bn∧w.heap.size≤Ba∧Bn<w'.heap.size∧Ba<w'.heap.size∧Below w.heap.size w w':=by
 refine (qqv a n w).mono ?_
 rintro e w' ⟨Bn,Ba,rfl,hX⟩
 exact ⟨_,_,rfl,(hX.all _ _ _ (.head _)).cell (k:=0) rfl,(hX.all _ _ _ (.tail _ (.head _))).cell (k:=0) rfl,hX.lo _ (.head _),hX.lo _ (.tail _ (.head _)),(hX.all _ _ _ (.head _)).lt,(hX.all _ _ _ (.tail _ (.head _))).lt,hX.below⟩
theorem str_size (l:List UInt8):(⟨l.toArray⟩:ByteArray).size=l.length:=by
 show l.toArray.size=l.length
 simp
theorem qmt (K:Tp) (M B:List Int) (hlM:M.length≤1099511627776) (hlB:B.length≤1099511627776) (hBe:∀ x∈B,0≤x∧x%2=0∧x<4611686018427387904) (h64:K.R.length≤64) (hp:0≤K.p∧K.p≤(K.R.length:Int)) (hk:0≤K.k∧K.k≤65535) (ha:0≤K.a∧K.a≤65535) (N:Nat) (A1:Option Addr) (c1:Nat) (vm vz:Value) (w:World) (hN:N≤w.heap.size) (ho:w.ownsRow N 9 1 (.slice A1 K.R.length c1) K.R.length (K.R.map Value.string)) (hm:w.ownsRow N 3 1 vm M.length (M.map (Value.int .i64))) (hz:w.ownsRow N 3 1 vz B.length (B.map (Value.int .i64))):Calls Tryz.prog 257 #[.agg #[(.slice A1 K.R.length c1),.int .i64 (K).p,.bool (K).n,.bool (K).r,.bool (K).e,.bool (K).m,.bool (K).d,.int .i64 (K).c,.int .i64 (K).k,.int .i64 (K).a,.int .i64 (K).l],vm,vz] w fun e' w'=>∃ x,e'=.returned x∧TpO N w' x (K.write M B)∧w.grownBy w' ((.slice A1 K.R.length c1):Value).ownBlock:=by
 have hby:∀ w',Below w.heap.size w w'→_:=fun w' h=>qc9 vm M hlM K.a K.k (by omega) w' (Its.nums (Rz.below (Rz.of_own hm) h))
 have hct:∀ Bn Ba w',Below w.heap.size w w'→Bn<w'.heap.size→Ba<w'.heap.size→w'.cell? ⟨Bn,0,none⟩=some (.int .i64 K.k)→w'.cell? ⟨Ba,0,none⟩=some (.int .i64 K.a)→_:=fun Bn Ba w' h h1 h2 h3 h4=>qr0 K.a K.k B Bn Ba N vz w' (qag hz h) hlB h1 h2 h3 h4 ha hk
 have hsp:=splV_hld (a:=K.a) (n:=K.k.toNat) hBe
 rw [Int.toNat_of_nonneg hk.1] at hsp
 rw [← hsp] at hct
 have hap:∀ w':World,N≤w'.heap.size→w'.ownsRow N 9 1 (.slice A1 K.R.length c1) K.R.length (K.R.map Value.string)→_:=fun w' h h2=>qlr K (strV (bytesN M K.a.toNat K.k.toNat)) N h64 hp A1 c1 w' h h2
 obtain ⟨KW,hKW⟩:∃ KW,K.write M B=KW:=⟨_,rfl⟩
 rw [hKW]
 unfold Tp.write at hKW
 unfold bytesE at hby
 unfold bytesS at hby
 generalize hAP:K.app (strV (bytesN M K.a.toNat K.k.toNat))=K2 at *
 obtain ⟨R,p,n,r,e,m,d,c,k,a,l⟩:=K
 dsimp only at *
 have hX:=qa0 w [(.slice A1 R.length c1),.int .i64 p,.bool n,.bool r,.bool e,.bool m,.bool d,.int .i64 c,.int .i64 k,.int .i64 a,.int .i64 l] [.slice none 0 0,.int .i64 0,.bool false,.bool false,.bool false,.bool false,.bool false,.int .i64 0,.int .i64 0,.int .i64 0,.int .i64 0]
 clear hAP hsp hBe hm hz
 cases hir:inR (2*(M.length:Int)) a k
 ·rw [hir] at hby hKW
  rw [if_neg (fun h=>by cases h.2.1)] at hKW
  subst hKW
  simp only [Bool.false_eq_true,if_false] at hby
  have hx0:((⟨([]:List UInt8).toArray⟩:ByteArray).toList == [])=true:=by rw [qcl];rfl
  have hx1:((⟨([]:List UInt8).toArray⟩:ByteArray).toList == (⟨#[]⟩:ByteArray).toList)=true:=by simp
  generalize (⟨([]:List UInt8).toArray⟩:ByteArray)=x at *
  have htl:=fun w'=>qsh x w'
  clear hap hk ha hir
  generalize splV _ _ _=sp at *
  go_enter Tryz.func257,Tryz.ntmps257
  go_wp2_with (first|((with_reducible refine qab ?_);first|refine lc hX ?_|refine lw hX aggT sizT ?_)|((first|(go_at_call 219;with_reducible refine cst hX (hby _ hX.below) ?_)|(go_at_call 249;with_reducible refine cst hX (htl _) ?_));clear hX;intro wb hX)|(go_at_call 262;(with_reducible refine (qfd a k _).mono ?_);rintro e' wh ⟨Bn,Ba,rfl,ck,cw,hlb,hla,hBn,hBa,hbb⟩;replace hX:=hX.step hbb;clear hbb hlb hla)|(go_at_call 221;(with_reducible refine (hct _ _ _ hX.below hBn hBa ck cw).mono ?_);rintro e' wb ⟨rfl,hbb⟩;replace hX:=hX.step hbb;clear hbb ck cw hBn hBa)|((with_reducible refine qah ?_);first|((first|refine sc (z:=.bool _) hX.swap ?_|refine sc (z:=.bool _) hX ?_);clear hX;intro wp hX hk3 hz3;clear hk3 hz3;simp only [sx] at hX)|(refine qaa (cs':=[(.slice A1 R.length c1),.int .i64 p,.bool n,.bool r,.bool true,.bool m,.bool d,.int .i64 c,.int .i64 k,.int .i64 a,.int .i64 l]) hX.swap aggT sizT _ _ rfl rfl rfl rfl rfl rfl rfl rfl (qan rfl _ _ _ _ _ _ _ _ _ _) ?_;clear hX;intro wz hX hkz;clear hkz)|(refine qaa (cs':=[(.slice A1 R.length c1),.int .i64 p,.bool n,.bool r,.bool true,.bool m,.bool d,.int .i64 c,.int .i64 k,.int .i64 a,.int .i64 l]) hX aggT sizT _ _ rfl rfl rfl rfl rfl rfl rfl rfl (qan rfl _ _ _ _ _ _ _ _ _ _) ?_;clear hX;intro wz hX hkz;clear hkz)))
  first|exact bodyPost_ret (qaj Tryz.results257 rfl ((hX.all _ _ _ (.head _)).loadVar rfl aggT sizT)) rfl ⟨_,rfl,⟨_,_,rfl,qag ho hX.below⟩,qa3 hX.below⟩|exact bodyPost_ret (qaj Tryz.results257 rfl ((hX.all _ _ _ (.tail _ (.head _))).loadVar rfl aggT sizT)) rfl ⟨_,rfl,⟨_,_,rfl,qag ho hX.below⟩,qa3 hX.below⟩
 rw [hir] at hby hKW
 simp only [if_true] at hby
 have hxs:=str_size (bytesN M a.toNat k.toNat)
 rw [qb2] at hxs
 unfold strV at hap
 generalize (⟨(bytesN M a.toNat k.toNat).toArray⟩:ByteArray)=x at *
 have htl:=fun w'=>qsh x w'
 have hemp:(x.toList == [])=decide (x.size=0):=qcl x
 have hemp2:(x.toList == (⟨#[]⟩:ByteArray).toList)=decide (x.size=0):=by rw [show (⟨#[]⟩:ByteArray).toList=[] from Lib.toList_data _];exact qcl x
 by_cases k1:k<1
 ·rw [if_neg (by omega)] at hKW
  subst hKW
  rw [show decide (x.size=0)=true from decide_eq_true (by omega)] at hemp hemp2
  clear hap hk ha hir k1 hxs
  generalize splV _ _ _=sp at *
  go_enter Tryz.func257,Tryz.ntmps257
  go_wp2_with (first|((with_reducible refine qab ?_);first|refine lc hX ?_|refine lw hX aggT sizT ?_)|((first|(go_at_call 219;with_reducible refine cst hX (hby _ hX.below) ?_)|(go_at_call 249;with_reducible refine cst hX (htl _) ?_));clear hX;intro wb hX)|(go_at_call 262;(with_reducible refine (qfd a k _).mono ?_);rintro e' wh ⟨Bn,Ba,rfl,ck,cw,hlb,hla,hBn,hBa,hbb⟩;replace hX:=hX.step hbb;clear hbb hlb hla)|(go_at_call 221;(with_reducible refine (hct _ _ _ hX.below hBn hBa ck cw).mono ?_);rintro e' wb ⟨rfl,hbb⟩;replace hX:=hX.step hbb;clear hbb ck cw hBn hBa)|((with_reducible refine qah ?_);first|((first|refine sc (z:=.bool _) hX.swap ?_|refine sc (z:=.bool _) hX ?_);clear hX;intro wp hX hk3 hz3;clear hk3 hz3;simp only [sx] at hX)|(refine qaa (cs':=[(.slice A1 R.length c1),.int .i64 p,.bool n,.bool r,.bool true,.bool m,.bool d,.int .i64 c,.int .i64 k,.int .i64 a,.int .i64 l]) hX.swap aggT sizT _ _ rfl rfl rfl rfl rfl rfl rfl rfl (qan rfl _ _ _ _ _ _ _ _ _ _) ?_;clear hX;intro wz hX hkz;clear hkz)|(refine qaa (cs':=[(.slice A1 R.length c1),.int .i64 p,.bool n,.bool r,.bool true,.bool m,.bool d,.int .i64 c,.int .i64 k,.int .i64 a,.int .i64 l]) hX aggT sizT _ _ rfl rfl rfl rfl rfl rfl rfl rfl (qan rfl _ _ _ _ _ _ _ _ _ _) ?_;clear hX;intro wz hX hkz;clear hkz)))
  first|exact bodyPost_ret (qaj Tryz.results257 rfl ((hX.all _ _ _ (.head _)).loadVar rfl aggT sizT)) rfl ⟨_,rfl,⟨_,_,rfl,qag ho hX.below⟩,qa3 hX.below⟩|exact bodyPost_ret (qaj Tryz.results257 rfl ((hX.all _ _ _ (.tail _ (.head _))).loadVar rfl aggT sizT)) rfl ⟨_,rfl,⟨_,_,rfl,qag ho hX.below⟩,qa3 hX.below⟩
 rw [show decide (x.size=0)=false from decide_eq_false (by omega)] at hemp hemp2
 by_cases k2:512<k
 ·rw [if_neg (by omega)] at hKW
  subst hKW
  rw [show decide (512<x.size)=true from decide_eq_true (by omega)] at htl
  clear hap hk ha hir k1 k2 hxs
  generalize splV _ _ _=sp at *
  go_enter Tryz.func257,Tryz.ntmps257
  go_wp2_with (first|((with_reducible refine qab ?_);first|refine lc hX ?_|refine lw hX aggT sizT ?_)|((first|(go_at_call 219;with_reducible refine cst hX (hby _ hX.below) ?_)|(go_at_call 249;with_reducible refine cst hX (htl _) ?_));clear hX;intro wb hX)|(go_at_call 262;(with_reducible refine (qfd a k _).mono ?_);rintro e' wh ⟨Bn,Ba,rfl,ck,cw,hlb,hla,hBn,hBa,hbb⟩;replace hX:=hX.step hbb;clear hbb hlb hla)|(go_at_call 221;(with_reducible refine (hct _ _ _ hX.below hBn hBa ck cw).mono ?_);rintro e' wb ⟨rfl,hbb⟩;replace hX:=hX.step hbb;clear hbb ck cw hBn hBa)|((with_reducible refine qah ?_);first|((first|refine sc (z:=.bool _) hX.swap ?_|refine sc (z:=.bool _) hX ?_);clear hX;intro wp hX hk3 hz3;clear hk3 hz3;simp only [sx] at hX)|(refine qaa (cs':=[(.slice A1 R.length c1),.int .i64 p,.bool n,.bool r,.bool true,.bool m,.bool d,.int .i64 c,.int .i64 k,.int .i64 a,.int .i64 l]) hX.swap aggT sizT _ _ rfl rfl rfl rfl rfl rfl rfl rfl (qan rfl _ _ _ _ _ _ _ _ _ _) ?_;clear hX;intro wz hX hkz;clear hkz)|(refine qaa (cs':=[(.slice A1 R.length c1),.int .i64 p,.bool n,.bool r,.bool true,.bool m,.bool d,.int .i64 c,.int .i64 k,.int .i64 a,.int .i64 l]) hX aggT sizT _ _ rfl rfl rfl rfl rfl rfl rfl rfl (qan rfl _ _ _ _ _ _ _ _ _ _) ?_;clear hX;intro wz hX hkz;clear hkz)))
  first|exact bodyPost_ret (qaj Tryz.results257 rfl ((hX.all _ _ _ (.head _)).loadVar rfl aggT sizT)) rfl ⟨_,rfl,⟨_,_,rfl,qag ho hX.below⟩,qa3 hX.below⟩|exact bodyPost_ret (qaj Tryz.results257 rfl ((hX.all _ _ _ (.tail _ (.head _))).loadVar rfl aggT sizT)) rfl ⟨_,rfl,⟨_,_,rfl,qag ho hX.below⟩,qa3 hX.below⟩
 rw [show decide (512<x.size)=false from decide_eq_false (by omega)] at htl
 have hk12:1≤k∧k≤512:=by omega
 cases hspv:splV B a k.toNat
 ·rw [hspv] at hct hKW
  rw [if_pos ⟨hk12,rfl,rfl⟩] at hKW
  subst hKW
  clear hk ha k1 k2 hir hk12 hspv hxs
  go_enter Tryz.func257,Tryz.ntmps257
  go_wp2_with (first|((with_reducible refine qab ?_);first|refine lc hX ?_|refine lw hX aggT sizT ?_)|((first|(go_at_call 219;with_reducible refine cst hX (hby _ hX.below) ?_)|(go_at_call 249;with_reducible refine cst hX (htl _) ?_));clear hX;intro wb hX)|(go_at_call 262;(with_reducible refine (qfd a k _).mono ?_);rintro e' wh ⟨Bn,Ba,rfl,ck,cw,hlb,hla,hBn,hBa,hbb⟩;replace hX:=hX.step hbb;clear hbb hlb hla)|(go_at_call 221;(with_reducible refine (hct _ _ _ hX.below hBn hBa ck cw).mono ?_);rintro e' wb ⟨rfl,hbb⟩;replace hX:=hX.step hbb;clear hbb ck cw hBn hBa)|(go_at_call 260;(with_reducible refine (hap _ (Nat.le_trans hN hX.below.size) (qag ho hX.below)).mono ?_);rintro e' wa ⟨x4,rfl,⟨A3,c3,rfl,ho3⟩,hg⟩;have hG:=(qa3 (r:=((.slice A1 R.length c1):Value).ownBlock) hX.below).trans hg;replace hX:=qce (hX.baseT (qcv hN)) (qag ho hX.below) (by intro q hq;simp only [List.mem_cons,List.not_mem_nil,or_false] at hq;rcases hq with rfl|rfl<;>simp) hg (Nat.le_trans hN hX.below.size) (Nat.le_of_eq (qcb hN));clear hg)|((with_reducible refine qah ?_);first|(refine qaa (cs':=[(.slice A3 K2.R.length c3),.int .i64 (K2).p,.bool (K2).n,.bool (K2).r,.bool (K2).e,.bool (K2).m,.bool (K2).d,.int .i64 (K2).c,.int .i64 (K2).k,.int .i64 (K2).a,.int .i64 (K2).l]) hX.swap aggT sizT _ _ rfl rfl rfl rfl rfl rfl rfl rfl (qan rfl _ _ _ _ _ _ _ _ _ _) ?_;intro wz hXn hkz;replace ho3:=qac hX.swap ho3 (by decide) hkz;replace hG:=qbf hG hX.swap hXn hkz (by first|exact Nat.le_refl _|exact Nat.le_succ _);clear hX;have hX:=hXn;clear hXn hkz)|(refine qaa (cs':=[(.slice A3 K2.R.length c3),.int .i64 (K2).p,.bool (K2).n,.bool (K2).r,.bool (K2).e,.bool (K2).m,.bool (K2).d,.int .i64 (K2).c,.int .i64 (K2).k,.int .i64 (K2).a,.int .i64 (K2).l]) hX aggT sizT _ _ rfl rfl rfl rfl rfl rfl rfl rfl (qan rfl _ _ _ _ _ _ _ _ _ _) ?_;intro wz hXn hkz;replace ho3:=qac hX ho3 (by decide) hkz;replace hG:=qbf hG hX hXn hkz (by first|exact Nat.le_refl _|exact Nat.le_succ _);clear hX;have hX:=hXn;clear hXn hkz)))
  first|exact bodyPost_ret (qaj Tryz.results257 rfl ((hX.all _ _ _ (.head _)).loadVar rfl aggT sizT)) rfl ⟨_,rfl,⟨_,_,rfl,ho3⟩,hG⟩|exact bodyPost_ret (qaj Tryz.results257 rfl ((hX.all _ _ _ (.tail _ (.head _))).loadVar rfl aggT sizT)) rfl ⟨_,rfl,⟨_,_,rfl,ho3⟩,hG⟩
 ·rw [hspv] at hct hKW
  rw [if_neg (fun h=>by cases h.2.2)] at hKW
  subst hKW
  clear hap hk ha k1 k2 hir hk12 hspv hxs
  go_enter Tryz.func257,Tryz.ntmps257
  go_wp2_with (first|((with_reducible refine qab ?_);first|refine lc hX ?_|refine lw hX aggT sizT ?_)|((first|(go_at_call 219;with_reducible refine cst hX (hby _ hX.below) ?_)|(go_at_call 249;with_reducible refine cst hX (htl _) ?_));clear hX;intro wb hX)|(go_at_call 262;(with_reducible refine (qfd a k _).mono ?_);rintro e' wh ⟨Bn,Ba,rfl,ck,cw,hlb,hla,hBn,hBa,hbb⟩;replace hX:=hX.step hbb;clear hbb hlb hla)|(go_at_call 221;(with_reducible refine (hct _ _ _ hX.below hBn hBa ck cw).mono ?_);rintro e' wb ⟨rfl,hbb⟩;replace hX:=hX.step hbb;clear hbb ck cw hBn hBa)|((with_reducible refine qah ?_);first|((first|refine sc (z:=.bool _) hX.swap ?_|refine sc (z:=.bool _) hX ?_);clear hX;intro wp hX hk3 hz3;clear hk3 hz3;simp only [sx] at hX)|(refine qaa (cs':=[(.slice A1 R.length c1),.int .i64 p,.bool n,.bool r,.bool true,.bool m,.bool d,.int .i64 c,.int .i64 k,.int .i64 a,.int .i64 l]) hX.swap aggT sizT _ _ rfl rfl rfl rfl rfl rfl rfl rfl (qan rfl _ _ _ _ _ _ _ _ _ _) ?_;clear hX;intro wz hX hkz;clear hkz)|(refine qaa (cs':=[(.slice A1 R.length c1),.int .i64 p,.bool n,.bool r,.bool true,.bool m,.bool d,.int .i64 c,.int .i64 k,.int .i64 a,.int .i64 l]) hX aggT sizT _ _ rfl rfl rfl rfl rfl rfl rfl rfl (qan rfl _ _ _ _ _ _ _ _ _ _) ?_;clear hX;intro wz hX hkz;clear hkz)))
  first|exact bodyPost_ret (qaj Tryz.results257 rfl ((hX.all _ _ _ (.head _)).loadVar rfl aggT sizT)) rfl ⟨_,rfl,⟨_,_,rfl,qag ho hX.below⟩,qa3 hX.below⟩|exact bodyPost_ret (qaj Tryz.results257 rfl ((hX.all _ _ _ (.tail _ (.head _))).loadVar rfl aggT sizT)) rfl ⟨_,rfl,⟨_,_,rfl,qag ho hX.below⟩,qa3 hX.below⟩
def RdO (N:Nat) (vz:Value) (w:World) (T:Tp×List Int×List Int) (e':Ending) (w':World):Prop:=∃ x y z,e'=.returned (.tuple #[x,y,z])∧TpO N w' x T.1∧w'.ownsRow N 3 1 y T.2.1.length (T.2.1.map (Value.int .i64))∧w'.ownsRow N 3 1 z T.2.2.length (T.2.2.map (Value.int .i64))∧w.grownBy w' vz.ownBlock
theorem qjj {w w':World} {base n k:Nat} {t:TypeId} {v u:Value} {xs:List Value} (h:w.ownsRow base t k v n xs) (hg:w.grownBy w' u.ownBlock) (hu:∀ g,u.ownBlock=some g→g<base):w'.ownsRow base t k v n xs:=by
 refine h.kept hg ?_
 rcases hv:v.ownBlock with _|g
 ·exact .inl rfl
 ·refine .inr (fun e=>?_)
  have h1:=(World.ownsRow.lt h g hv).1
  have h2:=hu g e.symm
  omega
theorem qsx (K:Tp) (M B:List Int) (hlM:M.length≤1099511627776) (hlB:B.length≤1099511627776) (hBe:∀ x∈B,0≤x∧x%2=0∧x<4611686018427387904) (hW:wordsB M=true) (hpos:0<M.length) (hl:K.R.length≤1099511627776) (hp:0≤K.p∧K.p≤(K.R.length:Int)) (hrs:∀ s∈K.R,s.size≤512) (hk:0≤K.k∧K.k≤65535) (ha:0≤K.a∧K.a≤65535) (N:Nat) (A1:Option Addr) (c1:Nat) (vm vz:Value) (w:World) (hN:N≤w.heap.size) (ho:w.ownsRow N 9 1 (.slice A1 K.R.length c1) K.R.length (K.R.map Value.string)) (hm:w.ownsRow N 3 1 vm M.length (M.map (Value.int .i64))) (hz:w.ownsRow N 3 1 vz B.length (B.map (Value.int .i64))) (h:(K.R.length:Int)≤K.p):Calls Tryz.prog 256 #[.agg #[(.slice A1 K.R.length c1),.int .i64 (K).p,.bool (K).n,.bool (K).r,.bool (K).e,.bool (K).m,.bool (K).d,.int .i64 (K).c,.int .i64 (K).k,.int .i64 (K).a,.int .i64 (K).l],vm,vz] w (RdO N vz w (K.read M B)):=by
 have hs0:Sts w (.slice A1 K.R.length c1) K.R:=Rz.of_own ho
 have hpa:∀ w',Below w.heap.size w w'→_:=fun w' h=>qhi K hl hp A1 c1 w' (Rz.below hs0 h)
 have hrd:K.read M B=(K.pass.1,M,B):=by unfold Tp.read;rw [if_pos h]
 rw [hrd]
 have hK:K.pass=({K with e:=true,d:=true},false):=by unfold Tp.pass;rw [if_pos h]
 rw [hK] at hpa ⊢
 obtain ⟨R,p,n,r,e,m,d,c,k,a,l⟩:=K
 dsimp only at *
 have hX:=qa0 w [(.slice A1 R.length c1),.int .i64 p,.bool n,.bool r,.bool e,.bool m,.bool d,.int .i64 c,.int .i64 k,.int .i64 a,.int .i64 l] [.slice none 0 0,.int .i64 0,.bool false,.bool false,.bool false,.bool false,.bool false,.int .i64 0,.int .i64 0,.int .i64 0,.int .i64 0]
 clear hs0 hp h hrd hK
 go_enter Tryz.func256,Tryz.ntmps256
 go_wp2_with (first|((with_reducible refine qab ?_);first|refine lc hX ?_|refine lw hX aggT sizT ?_)|(go_at_call 258;with_reducible refine cst hX (hpa _ hX.below) ?_;clear hX;intro wp hX)|((with_reducible refine qah ?_);first|(refine qaa (cs':=[(.slice A1 R.length c1),.int .i64 p,.bool n,.bool r,.bool true,.bool m,.bool true,.int .i64 c,.int .i64 k,.int .i64 a,.int .i64 l]) hX.swap aggT sizT _ _ rfl rfl rfl rfl rfl rfl rfl rfl (qan rfl _ _ _ _ _ _ _ _ _ _) ?_;clear hX;intro wz hX hkz;clear hkz)|(refine qaa (cs':=[(.slice A1 R.length c1),.int .i64 p,.bool n,.bool r,.bool true,.bool m,.bool true,.int .i64 c,.int .i64 k,.int .i64 a,.int .i64 l]) hX aggT sizT _ _ rfl rfl rfl rfl rfl rfl rfl rfl (qan rfl _ _ _ _ _ _ _ _ _ _) ?_;clear hX;intro wz hX hkz;clear hkz)))
 first|exact bodyPost_ret (qak Tryz.results256 rfl ((hX.all _ _ _ (.head _)).loadVar rfl aggT sizT)) rfl ⟨_,_,_,rfl,⟨_,_,rfl,qag ho hX.below⟩,qag hm hX.below,qag hz hX.below,qa3 hX.below⟩|exact bodyPost_ret (qak Tryz.results256 rfl ((hX.all _ _ _ (.tail _ (.head _))).loadVar rfl aggT sizT)) rfl ⟨_,_,_,rfl,⟨_,_,rfl,qag ho hX.below⟩,qag hm hX.below,qag hz hX.below,qa3 hX.below⟩
theorem qqa (K:Tp) (M B:List Int) (hlM:M.length≤1099511627776) (hlB:B.length≤1099511627776) (hBe:∀ x∈B,0≤x∧x%2=0∧x<4611686018427387904) (hW:wordsB M=true) (hpos:0<M.length) (hl:K.R.length≤1099511627776) (hp:0≤K.p∧K.p≤(K.R.length:Int)) (hrs:∀ s∈K.R,s.size≤512) (hk:0≤K.k∧K.k≤65535) (ha:0≤K.a∧K.a≤65535) (N:Nat) (A1:Option Addr) (c1:Nat) (vm vz:Value) (w:World) (hN:N≤w.heap.size) (ho:w.ownsRow N 9 1 (.slice A1 K.R.length c1) K.R.length (K.R.map Value.string)) (hm:w.ownsRow N 3 1 vm M.length (M.map (Value.int .i64))) (hz:w.ownsRow N 3 1 vz B.length (B.map (Value.int .i64))) (h:¬ (K.R.length:Int)≤K.p):Calls Tryz.prog 256 #[.agg #[(.slice A1 K.R.length c1),.int .i64 (K).p,.bool (K).n,.bool (K).r,.bool (K).e,.bool (K).m,.bool (K).d,.int .i64 (K).c,.int .i64 (K).k,.int .i64 (K).a,.int .i64 (K).l],vm,vz] w (RdO N vz w (K.read M B)):=by
 have hs0:Sts w (.slice A1 K.R.length c1) K.R:=Rz.of_own ho
 obtain ⟨A,c',hv,_,hc⟩:=hs0.form
 cases hv
 have hpa:∀ w',Below w.heap.size w w'→_:=fun w' h=>qhi K hl hp A1 c1 w' (Rz.below hs0 h)
 obtain ⟨R,p,n,r,e,m,d,c,k,a,l⟩:=K
 dsimp only at *
 obtain ⟨j,rfl⟩:∃ j:Nat,p=(j:Int):=⟨p.toNat,by omega⟩
 have hjl:j<R.length:=by omega
 have hji:(j:Int)<(R.length:Int):=by omega
 have hx:=List.getElem?_eq_getElem hjl
 have hxs:=hrs _ (List.getElem_mem hjl)
 have hrec:recV (Tp.mk R (j:Int) n r e m d c k a l) (j:Int)=R[j]:=by show R.getD ((j:Int).toNat) ⟨#[]⟩=_;rw [Int.toNat_natCast,List.getD_eq_getElem?_getD,hx];rfl
 obtain ⟨mq,hmq⟩:∃ mq,(m || decide ((R[j]).size=0))=mq:=⟨_,rfl⟩
 have hK:(Tp.mk R (j:Int) n r e m d c k a l).pass=(Tp.mk R ((j:Int)+1) n r e mq d c k a l,true):=by unfold Tp.pass;rw [if_neg h];dsimp only;rw [hrec,hmq]
 obtain ⟨q,hq⟩:∃ q,min k.toNat (R[j]).size=q:=⟨_,rfl⟩
 have hrd:(Tp.mk R (j:Int) n r e m d c k a l).read M B=if inR (2*(M.length:Int)) a (q:Int)=true then (Tp.mk R ((j:Int)+1) n r (e || decide (k<((R[j]).size:Int))) mq d c (k - (q:Int)) a l,storeN M a.toNat ((R[j]).data.toList.take q),clrV B a q) else (Tp.mk R ((j:Int)+1) n r true mq d c k a l,M,B):=by
  unfold Tp.read
  rw [if_neg h,hK]
  unfold cntR lenR
  dsimp only
  rw [hrec,hq]
 rw [hrd]
 rw [hK] at hpa
 clear hK hrec hmq hrd
 generalize R[j]=x at *
 obtain ⟨a2,rfl,hL⟩:=hc j x hx
 have hmin:min k (x.size:Int)=(q:Int):=by omega
 have hqx:q≤x.size:=by omega
 have hqi:(q:Int)≤(x.size:Int):=by omega
 have hq0:(0:Int)≤(q:Int):=by omega
 have hst:∀ w',Below w.heap.size w w'→_:=fun w' h=>qlm vm M hlM hW hpos a (by omega) (x.extract 0 q) (by rw [qgy x q hqx];omega) w' (Its.nums (Rz.below (Rz.of_own hm) h))
 rw [qgy x q hqx,qny] at hst
 have hcl:=clrV_hld (a:=a) (n:=q) hBe
 have hqa:0≤(q:Int)∧(q:Int)≤65535:=by omega
 have hw0:(j:Int)+1 - 1=(j:Int):=by omega
 have hw:IntKind.i64.wrap (j:Int)=(j:Int):=by rw [qaf];unfold wrap64;omega
 have hwk:IntKind.i64.wrap (k - (q:Int))=k - (q:Int):=by rw [qaf];unfold wrap64;omega
 unfold bytesE storeL at hst
 have hlen:((x.data.toList.take q).length:Int)=(q:Int):=by rw [List.length_take,← Lib.size_eq];omega
 rw [hlen] at hst
 clear hlen
 generalize storeN M a.toNat (x.data.toList.take q)=M2 at *
 generalize clrV B a q=B2 at *
 have hrow:∀ g,vz.ownBlock=some g→N≤g∧g<w.heap.size:=World.ownsRow.lt hz
 have hrow2:∀ g m c,vz=.slice (some g) m c→g.block<w.heap.size:=fun g m c h=>(qhn hz g m c h).2
 have hX:=qa0 w [(.slice (some a2) R.length c1),.int .i64 (j:Int),.bool n,.bool r,.bool e,.bool m,.bool d,.int .i64 c,.int .i64 k,.int .i64 a,.int .i64 l] [.slice none 0 0,.int .i64 0,.bool false,.bool false,.bool false,.bool false,.bool false,.int .i64 0,.int .i64 0,.int .i64 0,.int .i64 0]
 clear hs0 hp h hrs hc hx hq hk hW hpos hBe
 cases hir:inR (2*(M.length:Int)) a (q:Int)
 ·rw [hir] at hst
  rw [if_neg (by decide)]
  simp only [Bool.false_eq_true,if_false] at hst
  clear hir hcl hqa
  by_cases hkx:k<(x.size:Int)
  ·obtain rfl:k=(q:Int):=by omega
   have hqs:(q:Int)<(x.size:Int):=hkx
   clear hkx
   go_enter Tryz.func256,Tryz.ntmps256
   go_wp2_with (first|((with_reducible refine qab ?_);first|refine lc hX ?_|refine qaq rfl 9 _ _ _ rfl rfl (hL _ hX.below) ?_|refine lw hX aggT sizT ?_)|(go_at_call 258;with_reducible refine cst hX (hpa _ hX.below) ?_;clear hX;intro wp hX)|((with_reducible refine qah ?_);first|(refine qaa (cs':=[(.slice (some a2) R.length c1),.int .i64 ((j:Int)+1),.bool n,.bool r,.bool e,.bool mq,.bool d,.int .i64 c,.int .i64 (q:Int),.int .i64 a,.int .i64 l]) hX.swap aggT sizT _ _ rfl rfl rfl rfl rfl rfl rfl rfl (qan rfl _ _ _ _ _ _ _ _ _ _) ?_;clear hX;intro wz hX hkz;clear hkz)|(refine qaa (cs':=[(.slice (some a2) R.length c1),.int .i64 ((j:Int)+1),.bool n,.bool r,.bool e,.bool mq,.bool d,.int .i64 c,.int .i64 (q:Int),.int .i64 a,.int .i64 l]) hX aggT sizT _ _ rfl rfl rfl rfl rfl rfl rfl rfl (qan rfl _ _ _ _ _ _ _ _ _ _) ?_;clear hX;intro wz hX hkz;clear hkz)))
   refine qa8 (fun w'=>Bag [(w.heap.size,42,[(.slice (some a2) R.length c1),.int .i64 ((j:Int)+1),.bool n,.bool r,.bool e,.bool mq,.bool d,.int .i64 c,.int .i64 (q:Int),.int .i64 a,.int .i64 l]),(w.heap.size+1,42,[.slice none 0 0,.int .i64 0,.bool false,.bool false,.bool false,.bool false,.bool false,.int .i64 0,.int .i64 0,.int .i64 0,.int .i64 0])] w w') 11 [(0,false),(1,false),(2,false),(3,false),(4,false),(5,false),(6,true),(7,false),(8,false),(9,false),(10,false)] (by kernel_rfl) (by kernel_rfl) (fun _ _ dd _ _ h=>by cases dd<;>exact h) hX.drew ?_
   iterate 6
    refine qbk rfl rfl (fun KK hKK=>?_)
    apply Exists.intro
    refine ⟨fun wq hq=>?_,hKK _ ?_⟩
    ·try dsimp only at hq
     first
      | exact qad 3 _ _ rfl rfl ((hq.all _ _ _ (.head _)).loadCell rfl qao)
      | exact qad 3 _ _ rfl rfl ((hq.all _ _ _ (.tail _ (.head _))).loadCell rfl qao)
      | (unfold execOp;go_simp;done)
      | (unfold execOp;go_simp;with_reducible rfl)
    clear hKK KK
    simp only [Act.put,sx]
   refine qbm rfl rfl (fun KK hKK=>?_)
   unfold Oper.semiAt
   go_simp
   simp only [semiUpon]
   refine ⟨trivial,?_⟩
   refine (hst _ hX.below.drew).mono ?_
   rintro e' w5 ⟨v5,rfl,ho5,hbb⟩
   refine ⟨_,rfl,hKK _ _ (hX.drew.step hbb) ?_⟩
   clear hKK KK
   obtain ⟨N5,hN5,ho5⟩:∃ N5,w.heap.size≤N5∧Own N5 w5 v5 _:=⟨_,hX.below.drew.size,ho5⟩
   have hX5:=hX.drew.step hbb
   clear hX
   have hX:=hX5
   clear hX5 hbb
   iterate 4
    simp only [Act.put,sx]
    refine qbk rfl rfl (fun KK hKK=>?_)
    apply Exists.intro
    refine ⟨fun wq hq=>?_,hKK _ ?_⟩
    ·try dsimp only at hq
     first
      | exact qad 3 _ _ rfl rfl ((hq.all _ _ _ (.head _)).loadCell rfl qao)
      | exact qad 3 _ _ rfl rfl ((hq.all _ _ _ (.tail _ (.head _))).loadCell rfl qao)
      | (unfold execOp;go_simp;done)
      | (unfold execOp;go_simp;with_reducible rfl)
    clear hKK KK
   simp only [Act.put,sx]
   refine qb7 ?_
   simp only [List.drop_succ_cons,List.drop_zero]
   go_wp2_with (first|((with_reducible refine qab ?_);first|refine lc hX ?_|refine lw hX aggT sizT ?_)|((with_reducible refine qah ?_);first|((first|refine sc (z:=.bool _) hX.swap ?_|refine sc (z:=.bool _) hX ?_);clear hX;intro wp hX hk3 hz3;clear hk3 hz3;simp only [sx] at hX)|(refine qaa (cs':=[(.slice (some a2) R.length c1),.int .i64 ((j:Int)+1),.bool n,.bool r,.bool true,.bool mq,.bool d,.int .i64 c,.int .i64 (q:Int),.int .i64 a,.int .i64 l]) hX.swap aggT sizT _ _ rfl rfl rfl rfl rfl rfl rfl rfl (qan rfl _ _ _ _ _ _ _ _ _ _) ?_;clear hX;intro wz hX hkz;clear hkz)|(refine qaa (cs':=[(.slice (some a2) R.length c1),.int .i64 ((j:Int)+1),.bool n,.bool r,.bool true,.bool mq,.bool d,.int .i64 c,.int .i64 (q:Int),.int .i64 a,.int .i64 l]) hX aggT sizT _ _ rfl rfl rfl rfl rfl rfl rfl rfl (qan rfl _ _ _ _ _ _ _ _ _ _) ?_;clear hX;intro wz hX hkz;clear hkz)))
   first|exact bodyPost_ret (qak Tryz.results256 rfl ((hX.all _ _ _ (.head _)).loadVar rfl aggT sizT)) rfl ⟨_,_,_,rfl,⟨_,_,rfl,qag ho hX.below⟩,qag hm hX.below,qag hz hX.below,qa3 hX.below⟩|exact bodyPost_ret (qak Tryz.results256 rfl ((hX.all _ _ _ (.tail _ (.head _))).loadVar rfl aggT sizT)) rfl ⟨_,_,_,rfl,⟨_,_,rfl,qag ho hX.below⟩,qag hm hX.below,qag hz hX.below,qa3 hX.below⟩
  ·obtain rfl:x.size=q:=by omega
   rw [show x.extract 0 x.size=x from ByteArray.extract_zero_size] at hst
   clear hkx
   go_enter Tryz.func256,Tryz.ntmps256
   go_wp2_with (first|((with_reducible refine qab ?_);first|refine lc hX ?_|refine qaq rfl 9 _ _ _ rfl rfl (hL _ hX.below) ?_|refine lw hX aggT sizT ?_)|(go_at_call 258;with_reducible refine cst hX (hpa _ hX.below) ?_;clear hX;intro wp hX)|((with_reducible refine qah ?_);first|(refine qaa (cs':=[(.slice (some a2) R.length c1),.int .i64 ((j:Int)+1),.bool n,.bool r,.bool e,.bool mq,.bool d,.int .i64 c,.int .i64 k,.int .i64 a,.int .i64 l]) hX.swap aggT sizT _ _ rfl rfl rfl rfl rfl rfl rfl rfl (qan rfl _ _ _ _ _ _ _ _ _ _) ?_;clear hX;intro wz hX hkz;clear hkz)|(refine qaa (cs':=[(.slice (some a2) R.length c1),.int .i64 ((j:Int)+1),.bool n,.bool r,.bool e,.bool mq,.bool d,.int .i64 c,.int .i64 k,.int .i64 a,.int .i64 l]) hX aggT sizT _ _ rfl rfl rfl rfl rfl rfl rfl rfl (qan rfl _ _ _ _ _ _ _ _ _ _) ?_;clear hX;intro wz hX hkz;clear hkz)))
   refine qa8 (fun w'=>Bag [(w.heap.size,42,[(.slice (some a2) R.length c1),.int .i64 ((j:Int)+1),.bool n,.bool r,.bool e,.bool mq,.bool d,.int .i64 c,.int .i64 k,.int .i64 a,.int .i64 l]),(w.heap.size+1,42,[.slice none 0 0,.int .i64 0,.bool false,.bool false,.bool false,.bool false,.bool false,.int .i64 0,.int .i64 0,.int .i64 0,.int .i64 0])] w w') 11 [(0,false),(1,false),(2,false),(3,false),(4,false),(5,false),(6,true),(7,false),(8,false),(9,false),(10,false)] (by kernel_rfl) (by kernel_rfl) (fun _ _ dd _ _ h=>by cases dd<;>exact h) hX.drew ?_
   iterate 6
    refine qbk rfl rfl (fun KK hKK=>?_)
    apply Exists.intro
    refine ⟨fun wq hq=>?_,hKK _ ?_⟩
    ·try dsimp only at hq
     first
      | exact qad 3 _ _ rfl rfl ((hq.all _ _ _ (.head _)).loadCell rfl qao)
      | exact qad 3 _ _ rfl rfl ((hq.all _ _ _ (.tail _ (.head _))).loadCell rfl qao)
      | (unfold execOp;go_simp;done)
      | (unfold execOp;go_simp;with_reducible rfl)
    clear hKK KK
    simp only [Act.put,sx]
   refine qbm rfl rfl (fun KK hKK=>?_)
   unfold Oper.semiAt
   go_simp
   simp only [semiUpon]
   refine ⟨trivial,?_⟩
   refine (hst _ hX.below.drew).mono ?_
   rintro e' w5 ⟨v5,rfl,ho5,hbb⟩
   refine ⟨_,rfl,hKK _ _ (hX.drew.step hbb) ?_⟩
   clear hKK KK
   obtain ⟨N5,hN5,ho5⟩:∃ N5,w.heap.size≤N5∧Own N5 w5 v5 _:=⟨_,hX.below.drew.size,ho5⟩
   have hX5:=hX.drew.step hbb
   clear hX
   have hX:=hX5
   clear hX5 hbb
   iterate 4
    simp only [Act.put,sx]
    refine qbk rfl rfl (fun KK hKK=>?_)
    apply Exists.intro
    refine ⟨fun wq hq=>?_,hKK _ ?_⟩
    ·try dsimp only at hq
     first
      | exact qad 3 _ _ rfl rfl ((hq.all _ _ _ (.head _)).loadCell rfl qao)
      | exact qad 3 _ _ rfl rfl ((hq.all _ _ _ (.tail _ (.head _))).loadCell rfl qao)
      | (unfold execOp;go_simp;done)
      | (unfold execOp;go_simp;with_reducible rfl)
    clear hKK KK
   simp only [Act.put,sx]
   refine qb7 ?_
   simp only [List.drop_succ_cons,List.drop_zero]
   go_wp2_with (first|((with_reducible refine qab ?_);first|refine lc hX ?_|refine lw hX aggT sizT ?_)|((with_reducible refine qah ?_);first|((first|refine sc (z:=.bool _) hX.swap ?_|refine sc (z:=.bool _) hX ?_);clear hX;intro wp hX hk3 hz3;clear hk3 hz3;simp only [sx] at hX)|(refine qaa (cs':=[(.slice (some a2) R.length c1),.int .i64 ((j:Int)+1),.bool n,.bool r,.bool true,.bool mq,.bool d,.int .i64 c,.int .i64 k,.int .i64 a,.int .i64 l]) hX.swap aggT sizT _ _ rfl rfl rfl rfl rfl rfl rfl rfl (qan rfl _ _ _ _ _ _ _ _ _ _) ?_;clear hX;intro wz hX hkz;clear hkz)|(refine qaa (cs':=[(.slice (some a2) R.length c1),.int .i64 ((j:Int)+1),.bool n,.bool r,.bool true,.bool mq,.bool d,.int .i64 c,.int .i64 k,.int .i64 a,.int .i64 l]) hX aggT sizT _ _ rfl rfl rfl rfl rfl rfl rfl rfl (qan rfl _ _ _ _ _ _ _ _ _ _) ?_;clear hX;intro wz hX hkz;clear hkz)))
   first|exact bodyPost_ret (qak Tryz.results256 rfl ((hX.all _ _ _ (.head _)).loadVar rfl aggT sizT)) rfl ⟨_,_,_,rfl,⟨_,_,rfl,qag ho hX.below⟩,qag hm hX.below,qag hz hX.below,qa3 hX.below⟩|exact bodyPost_ret (qak Tryz.results256 rfl ((hX.all _ _ _ (.tail _ (.head _))).loadVar rfl aggT sizT)) rfl ⟨_,_,_,rfl,⟨_,_,rfl,qag ho hX.below⟩,qag hm hX.below,qag hz hX.below,qa3 hX.below⟩
 ·rw [hir] at hst
  rw [if_pos rfl]
  simp only [if_true] at hst
  clear hir
  by_cases hkx:k<(x.size:Int)
  ·obtain rfl:k=(q:Int):=by omega
   have hqs:(q:Int)<(x.size:Int):=hkx
   rw [decide_eq_true hkx,Bool.or_true]
   rw [Int.sub_self] at hwk ⊢
   clear hkx
   go_enter Tryz.func256,Tryz.ntmps256
   go_wp2_with (first|((with_reducible refine qab ?_);first|refine lc hX ?_|refine qaq rfl 9 _ _ _ rfl rfl (hL _ hX.below) ?_|refine lw hX aggT sizT ?_)|(go_at_call 258;with_reducible refine cst hX (hpa _ hX.below) ?_;clear hX;intro wp hX)|((with_reducible refine qah ?_);first|(refine qaa (cs':=[(.slice (some a2) R.length c1),.int .i64 ((j:Int)+1),.bool n,.bool r,.bool e,.bool mq,.bool d,.int .i64 c,.int .i64 (q:Int),.int .i64 a,.int .i64 l]) hX.swap aggT sizT _ _ rfl rfl rfl rfl rfl rfl rfl rfl (qan rfl _ _ _ _ _ _ _ _ _ _) ?_;clear hX;intro wz hX hkz;clear hkz)|(refine qaa (cs':=[(.slice (some a2) R.length c1),.int .i64 ((j:Int)+1),.bool n,.bool r,.bool e,.bool mq,.bool d,.int .i64 c,.int .i64 (q:Int),.int .i64 a,.int .i64 l]) hX aggT sizT _ _ rfl rfl rfl rfl rfl rfl rfl rfl (qan rfl _ _ _ _ _ _ _ _ _ _) ?_;clear hX;intro wz hX hkz;clear hkz)))
   refine qa8 (fun w'=>Bag [(w.heap.size,42,[(.slice (some a2) R.length c1),.int .i64 ((j:Int)+1),.bool n,.bool r,.bool e,.bool mq,.bool d,.int .i64 c,.int .i64 (q:Int),.int .i64 a,.int .i64 l]),(w.heap.size+1,42,[.slice none 0 0,.int .i64 0,.bool false,.bool false,.bool false,.bool false,.bool false,.int .i64 0,.int .i64 0,.int .i64 0,.int .i64 0])] w w') 11 [(0,false),(1,false),(2,false),(3,false),(4,false),(5,false),(6,true),(7,false),(8,false),(9,false),(10,false)] (by kernel_rfl) (by kernel_rfl) (fun _ _ dd _ _ h=>by cases dd<;>exact h) hX.drew ?_
   iterate 6
    refine qbk rfl rfl (fun KK hKK=>?_)
    apply Exists.intro
    refine ⟨fun wq hq=>?_,hKK _ ?_⟩
    ·try dsimp only at hq
     first
      | exact qad 3 _ _ rfl rfl ((hq.all _ _ _ (.head _)).loadCell rfl qao)
      | exact qad 3 _ _ rfl rfl ((hq.all _ _ _ (.tail _ (.head _))).loadCell rfl qao)
      | (unfold execOp;go_simp;done)
      | (unfold execOp;go_simp;with_reducible rfl)
    clear hKK KK
    simp only [Act.put,sx]
   refine qbm rfl rfl (fun KK hKK=>?_)
   unfold Oper.semiAt
   go_simp
   simp only [semiUpon]
   refine ⟨trivial,?_⟩
   refine (hst _ hX.below.drew).mono ?_
   rintro e' w5 ⟨v5,rfl,ho5,hbb⟩
   refine ⟨_,rfl,hKK _ _ (hX.drew.step hbb) ?_⟩
   clear hKK KK
   obtain ⟨N5,hN5,ho5⟩:∃ N5,w.heap.size≤N5∧Own N5 w5 v5 _:=⟨_,hX.below.drew.size,ho5⟩
   have hX5:=hX.drew.step hbb
   clear hX
   have hX:=hX5
   clear hX5 hbb
   iterate 4
    simp only [Act.put,sx]
    refine qbk rfl rfl (fun KK hKK=>?_)
    apply Exists.intro
    refine ⟨fun wq hq=>?_,hKK _ ?_⟩
    ·try dsimp only at hq
     first
      | exact qad 3 _ _ rfl rfl ((hq.all _ _ _ (.head _)).loadCell rfl qao)
      | exact qad 3 _ _ rfl rfl ((hq.all _ _ _ (.tail _ (.head _))).loadCell rfl qao)
      | (unfold execOp;go_simp;done)
      | (unfold execOp;go_simp;with_reducible rfl)
    clear hKK KK
   simp only [Act.put,sx]
   refine qb7 ?_
   simp only [List.drop_succ_cons,List.drop_zero]
   go_wp2_with (first|((with_reducible refine qab ?_);first|refine lc hX ?_|refine lw hX aggT sizT ?_)|((with_reducible refine qah ?_);first|(first|(refine qae (z:=.bool _) hX.swap qc4 _ _ rfl rfl rfl rfl rfl rfl (by simp) rfl rfl ?_;intro wp hX3 hk3 hz3;(first|(replace ho5:=qac hX.swap ho5 (by decide) hk3)|(replace ho5:=qac hX ho5 (by decide) hk3));clear hz3;clear hX;have hX:=hX3;clear hk3 hX3;simp only [sx] at hX)|(refine qae (z:=.bool _) hX qc4 _ _ rfl rfl rfl rfl rfl rfl (by simp) rfl rfl ?_;intro wp hX3 hk3 hz3;(first|(replace ho5:=qac hX.swap ho5 (by decide) hk3)|(replace ho5:=qac hX ho5 (by decide) hk3));clear hz3;clear hX;have hX:=hX3;clear hk3 hX3;simp only [sx] at hX))|(first|(refine qae (z:=.int .i64 _) hX.swap qaw _ _ rfl rfl rfl rfl rfl rfl (by simp) rfl rfl ?_;intro wp hX3 hk3 hz3;(first|(replace ho5:=qac hX.swap ho5 (by decide) hk3)|(replace ho5:=qac hX ho5 (by decide) hk3));clear hz3;clear hX;have hX:=hX3;clear hk3 hX3;simp only [sx] at hX)|(refine qae (z:=.int .i64 _) hX qaw _ _ rfl rfl rfl rfl rfl rfl (by simp) rfl rfl ?_;intro wp hX3 hk3 hz3;(first|(replace ho5:=qac hX.swap ho5 (by decide) hk3)|(replace ho5:=qac hX ho5 (by decide) hk3));clear hz3;clear hX;have hX:=hX3;clear hk3 hX3;simp only [sx] at hX))))
   have hG:w.grownBy _ vz.ownBlock:=qa3 hX.below.drew
   have hzD:=qag hz hX.below.drew
   have hsD:=qag ho hX.below.drew
   have hNw:=Nat.le_trans hN hX.below.drew.size
   have hwS:=hX.below.drew.size
   replace hX:=hX.baseT (qcv hN)
   refine qbw (fun w'=>Bag [(w.heap.size,42,[(.slice (some a2) R.length c1),.int .i64 ((j:Int)+1),.bool n,.bool r,.bool true,.bool mq,.bool d,.int .i64 c,.int .i64 0,.int .i64 a,.int .i64 l])] (cutT w N) w') 10 [(0,false),(1,false),(2,false),(3,false),(4,false),(5,false),(6,true),(7,true),(8,true),(9,false)] (by kernel_rfl) (by kernel_rfl) (fun _ _ dd _ _ h=>by cases dd<;>exact h) hX.swap.restS.drew ?_
   iterate 6
    refine qcm rfl rfl (fun KK hKK=>?_)
    apply Exists.intro
    refine ⟨fun wq hq=>?_,hKK _ ?_⟩
    ·try dsimp only at hq
     first
      | exact qad 42 _ _ rfl rfl ((hq.all _ _ _ (.head _)).loadAt rfl aggT sizT)
      | exact qad 3 _ _ rfl rfl ((hq.all _ _ _ (.head _)).loadCell rfl qao)
      | (unfold execOp;go_simp;done)
      | (unfold execOp;go_simp;with_reducible rfl)
    clear hKK KK
    simp only [Act.put,sx]
   refine qcu rfl rfl (fun KK hKK=>?_)
   unfold Oper.semiAt
   go_simp
   simp only [semiUpon]
   refine ⟨trivial,?_⟩
   refine (qfd a (q:Int) _).mono ?_
   rintro e' w6 ⟨Bn,Ba,rfl,ck,cw,hlb,hla,hBn,hBa,hbb⟩
   refine ⟨_,rfl,hKK _ _ (hX.swap.restS.drew.step hbb) ?_⟩
   clear hKK KK
   have hX6:=hX.drew.step hbb
   replace ho5:=qag (World.ownsRow.drew ho5) hbb
   replace hzD:=qag hzD hbb
   replace hsD:=qag hsD hbb
   replace hG:=hG.trans (qa3 hbb)
   replace hNw:=Nat.le_trans hNw hbb.size
   clear hX
   have hX:=hX6
   clear hX6 hbb
   simp only [Act.put,sx]
   refine qcu rfl rfl (fun KK hKK=>?_)
   unfold Oper.semiAt
   go_simp
   simp only [semiUpon]
   refine ⟨trivial,?_⟩
   refine (qma a (q:Int) B B2 hcl Bn Ba N vz _ hzD hlB hBn hBa (fun g m c h=>by have:=hrow2 g m c h;omega) (fun g m c h=>by have:=hrow2 g m c h;omega) ck cw ha hqa).mono ?_
   rintro e' w7 ⟨v6,rfl,hz6,hg6⟩
   refine ⟨_,rfl,hKK _ _ (qce hX hzD (by intro q hq;simp only [List.mem_cons,List.not_mem_nil,or_false] at hq;rcases hq with rfl|rfl<;>simp) hg6 hNw (Nat.le_of_eq (qcb hN))).swap.restS ?_⟩
   clear hKK KK
   replace hX:=qce hX hzD (by intro q hq;simp only [List.mem_cons,List.not_mem_nil,or_false] at hq;rcases hq with rfl|rfl<;>simp) hg6 hNw (Nat.le_of_eq (qcb hN))
   replace ho5:=qjj ho5 hg6 (fun g h=>Nat.lt_of_lt_of_le (hrow g h).2 hN5)
   replace hsD:=qeb hsD hzD (by decide) hg6
   replace hG:=hG.trans hg6
   clear hg6
   simp only [Act.put,sx]
   refine qda (cs':=[(.slice (some a2) R.length c1),.int .i64 ((j:Int)+1),.bool n,.bool r,.bool true,.bool mq,.bool d,.int .i64 c,.int .i64 0,.int .i64 a,.int .i64 l]) rfl rfl hX.swap aggT sizT _ _ rfl rfl rfl rfl rfl rfl (qan rfl _ _ _ _ _ _ _ _ _ _) (fun w7 hX7 hk7=>⟨hX7.restS,?_⟩)
   replace ho5:=qac hX.swap ho5 (by decide) hk7
   replace hz6:=qac hX.swap hz6 (by decide) hk7
   replace hsD:=qac hX.swap hsD (by decide) hk7
   replace hG:=qbf hG hX.swap hX7 hk7 (by first|exact Nat.le_refl _|exact Nat.le_succ _)
   clear hk7 hX
   have hX:=hX7
   clear hX7
   simp only [Act.put,sx]
   refine qcm rfl rfl (fun KK hKK=>?_)
   apply Exists.intro
   refine ⟨fun wq hq=>?_,hKK _ ?_⟩
   ·try dsimp only at hq
    first
     | exact qad 42 _ _ rfl rfl ((hq.all _ _ _ (.head _)).loadAt rfl aggT sizT)
     | exact qad 3 _ _ rfl rfl ((hq.all _ _ _ (.head _)).loadCell rfl qao)
     | (unfold execOp;go_simp;done)
     | (unfold execOp;go_simp;with_reducible rfl)
   clear hKK KK
   simp only [Act.put,sx]
   refine qdm ?_
   simp only [List.drop_succ_cons,List.drop_zero]
   go_wp2
   first|exact bodyPost_ret (qak Tryz.results256 rfl ((hX.all _ _ _ (.head _)).loadVar rfl aggT sizT)) rfl ⟨_,_,_,rfl,⟨_,_,rfl,hsD⟩,qaz ho5 (Nat.le_trans hN hN5),hz6,hG⟩|exact bodyPost_ret (qak Tryz.results256 rfl ((hX.all _ _ _ (.tail _ (.head _))).loadVar rfl aggT sizT)) rfl ⟨_,_,_,rfl,⟨_,_,rfl,hsD⟩,qaz ho5 (Nat.le_trans hN hN5),hz6,hG⟩
  ·obtain rfl:x.size=q:=by omega
   rw [show x.extract 0 x.size=x from ByteArray.extract_zero_size] at hst
   rw [decide_eq_false hkx,Bool.or_false]
   clear hkx
   go_enter Tryz.func256,Tryz.ntmps256
   go_wp2_with (first|((with_reducible refine qab ?_);first|refine lc hX ?_|refine qaq rfl 9 _ _ _ rfl rfl (hL _ hX.below) ?_|refine lw hX aggT sizT ?_)|(go_at_call 258;with_reducible refine cst hX (hpa _ hX.below) ?_;clear hX;intro wp hX)|((with_reducible refine qah ?_);first|(refine qaa (cs':=[(.slice (some a2) R.length c1),.int .i64 ((j:Int)+1),.bool n,.bool r,.bool e,.bool mq,.bool d,.int .i64 c,.int .i64 k,.int .i64 a,.int .i64 l]) hX.swap aggT sizT _ _ rfl rfl rfl rfl rfl rfl rfl rfl (qan rfl _ _ _ _ _ _ _ _ _ _) ?_;clear hX;intro wz hX hkz;clear hkz)|(refine qaa (cs':=[(.slice (some a2) R.length c1),.int .i64 ((j:Int)+1),.bool n,.bool r,.bool e,.bool mq,.bool d,.int .i64 c,.int .i64 k,.int .i64 a,.int .i64 l]) hX aggT sizT _ _ rfl rfl rfl rfl rfl rfl rfl rfl (qan rfl _ _ _ _ _ _ _ _ _ _) ?_;clear hX;intro wz hX hkz;clear hkz)))
   refine qa8 (fun w'=>Bag [(w.heap.size,42,[(.slice (some a2) R.length c1),.int .i64 ((j:Int)+1),.bool n,.bool r,.bool e,.bool mq,.bool d,.int .i64 c,.int .i64 k,.int .i64 a,.int .i64 l]),(w.heap.size+1,42,[.slice none 0 0,.int .i64 0,.bool false,.bool false,.bool false,.bool false,.bool false,.int .i64 0,.int .i64 0,.int .i64 0,.int .i64 0])] w w') 11 [(0,false),(1,false),(2,false),(3,false),(4,false),(5,false),(6,true),(7,false),(8,false),(9,false),(10,false)] (by kernel_rfl) (by kernel_rfl) (fun _ _ dd _ _ h=>by cases dd<;>exact h) hX.drew ?_
   iterate 6
    refine qbk rfl rfl (fun KK hKK=>?_)
    apply Exists.intro
    refine ⟨fun wq hq=>?_,hKK _ ?_⟩
    ·try dsimp only at hq
     first
      | exact qad 3 _ _ rfl rfl ((hq.all _ _ _ (.head _)).loadCell rfl qao)
      | exact qad 3 _ _ rfl rfl ((hq.all _ _ _ (.tail _ (.head _))).loadCell rfl qao)
      | (unfold execOp;go_simp;done)
      | (unfold execOp;go_simp;with_reducible rfl)
    clear hKK KK
    simp only [Act.put,sx]
   refine qbm rfl rfl (fun KK hKK=>?_)
   unfold Oper.semiAt
   go_simp
   simp only [semiUpon]
   refine ⟨trivial,?_⟩
   refine (hst _ hX.below.drew).mono ?_
   rintro e' w5 ⟨v5,rfl,ho5,hbb⟩
   refine ⟨_,rfl,hKK _ _ (hX.drew.step hbb) ?_⟩
   clear hKK KK
   obtain ⟨N5,hN5,ho5⟩:∃ N5,w.heap.size≤N5∧Own N5 w5 v5 _:=⟨_,hX.below.drew.size,ho5⟩
   have hX5:=hX.drew.step hbb
   clear hX
   have hX:=hX5
   clear hX5 hbb
   iterate 4
    simp only [Act.put,sx]
    refine qbk rfl rfl (fun KK hKK=>?_)
    apply Exists.intro
    refine ⟨fun wq hq=>?_,hKK _ ?_⟩
    ·try dsimp only at hq
     first
      | exact qad 3 _ _ rfl rfl ((hq.all _ _ _ (.head _)).loadCell rfl qao)
      | exact qad 3 _ _ rfl rfl ((hq.all _ _ _ (.tail _ (.head _))).loadCell rfl qao)
      | (unfold execOp;go_simp;done)
      | (unfold execOp;go_simp;with_reducible rfl)
    clear hKK KK
   simp only [Act.put,sx]
   refine qb7 ?_
   simp only [List.drop_succ_cons,List.drop_zero]
   go_wp2_with (first|((with_reducible refine qab ?_);first|refine lc hX ?_|refine lw hX aggT sizT ?_)|((with_reducible refine qah ?_);first|(first|(refine qae (z:=.bool _) hX.swap qc4 _ _ rfl rfl rfl rfl rfl rfl (by simp) rfl rfl ?_;intro wp hX3 hk3 hz3;(first|(replace ho5:=qac hX.swap ho5 (by decide) hk3)|(replace ho5:=qac hX ho5 (by decide) hk3));clear hz3;clear hX;have hX:=hX3;clear hk3 hX3;simp only [sx] at hX)|(refine qae (z:=.bool _) hX qc4 _ _ rfl rfl rfl rfl rfl rfl (by simp) rfl rfl ?_;intro wp hX3 hk3 hz3;(first|(replace ho5:=qac hX.swap ho5 (by decide) hk3)|(replace ho5:=qac hX ho5 (by decide) hk3));clear hz3;clear hX;have hX:=hX3;clear hk3 hX3;simp only [sx] at hX))|(first|(refine qae (z:=.int .i64 _) hX.swap qaw _ _ rfl rfl rfl rfl rfl rfl (by simp) rfl rfl ?_;intro wp hX3 hk3 hz3;(first|(replace ho5:=qac hX.swap ho5 (by decide) hk3)|(replace ho5:=qac hX ho5 (by decide) hk3));clear hz3;clear hX;have hX:=hX3;clear hk3 hX3;simp only [sx] at hX)|(refine qae (z:=.int .i64 _) hX qaw _ _ rfl rfl rfl rfl rfl rfl (by simp) rfl rfl ?_;intro wp hX3 hk3 hz3;(first|(replace ho5:=qac hX.swap ho5 (by decide) hk3)|(replace ho5:=qac hX ho5 (by decide) hk3));clear hz3;clear hX;have hX:=hX3;clear hk3 hX3;simp only [sx] at hX))))
   have hG:w.grownBy _ vz.ownBlock:=qa3 hX.below.drew
   have hzD:=qag hz hX.below.drew
   have hsD:=qag ho hX.below.drew
   have hNw:=Nat.le_trans hN hX.below.drew.size
   have hwS:=hX.below.drew.size
   replace hX:=hX.baseT (qcv hN)
   refine qbw (fun w'=>Bag [(w.heap.size,42,[(.slice (some a2) R.length c1),.int .i64 ((j:Int)+1),.bool n,.bool r,.bool e,.bool mq,.bool d,.int .i64 c,.int .i64 (k - (x.size:Int)),.int .i64 a,.int .i64 l])] (cutT w N) w') 10 [(0,false),(1,false),(2,false),(3,false),(4,false),(5,false),(6,true),(7,true),(8,true),(9,false)] (by kernel_rfl) (by kernel_rfl) (fun _ _ dd _ _ h=>by cases dd<;>exact h) hX.swap.restS.drew ?_
   iterate 6
    refine qcm rfl rfl (fun KK hKK=>?_)
    apply Exists.intro
    refine ⟨fun wq hq=>?_,hKK _ ?_⟩
    ·try dsimp only at hq
     first
      | exact qad 42 _ _ rfl rfl ((hq.all _ _ _ (.head _)).loadAt rfl aggT sizT)
      | exact qad 3 _ _ rfl rfl ((hq.all _ _ _ (.head _)).loadCell rfl qao)
      | (unfold execOp;go_simp;done)
      | (unfold execOp;go_simp;with_reducible rfl)
    clear hKK KK
    simp only [Act.put,sx]
   refine qcu rfl rfl (fun KK hKK=>?_)
   unfold Oper.semiAt
   go_simp
   simp only [semiUpon]
   refine ⟨trivial,?_⟩
   refine (qfd a (x.size:Int) _).mono ?_
   rintro e' w6 ⟨Bn,Ba,rfl,ck,cw,hlb,hla,hBn,hBa,hbb⟩
   refine ⟨_,rfl,hKK _ _ (hX.swap.restS.drew.step hbb) ?_⟩
   clear hKK KK
   have hX6:=hX.drew.step hbb
   replace ho5:=qag (World.ownsRow.drew ho5) hbb
   replace hzD:=qag hzD hbb
   replace hsD:=qag hsD hbb
   replace hG:=hG.trans (qa3 hbb)
   replace hNw:=Nat.le_trans hNw hbb.size
   clear hX
   have hX:=hX6
   clear hX6 hbb
   simp only [Act.put,sx]
   refine qcu rfl rfl (fun KK hKK=>?_)
   unfold Oper.semiAt
   go_simp
   simp only [semiUpon]
   refine ⟨trivial,?_⟩
   refine (qma a (x.size:Int) B B2 hcl Bn Ba N vz _ hzD hlB hBn hBa (fun g m c h=>by have:=hrow2 g m c h;omega) (fun g m c h=>by have:=hrow2 g m c h;omega) ck cw ha hqa).mono ?_
   rintro e' w7 ⟨v6,rfl,hz6,hg6⟩
   refine ⟨_,rfl,hKK _ _ (qce hX hzD (by intro q hq;simp only [List.mem_cons,List.not_mem_nil,or_false] at hq;rcases hq with rfl|rfl<;>simp) hg6 hNw (Nat.le_of_eq (qcb hN))).swap.restS ?_⟩
   clear hKK KK
   replace hX:=qce hX hzD (by intro q hq;simp only [List.mem_cons,List.not_mem_nil,or_false] at hq;rcases hq with rfl|rfl<;>simp) hg6 hNw (Nat.le_of_eq (qcb hN))
   replace ho5:=qjj ho5 hg6 (fun g h=>Nat.lt_of_lt_of_le (hrow g h).2 hN5)
   replace hsD:=qeb hsD hzD (by decide) hg6
   replace hG:=hG.trans hg6
   clear hg6
   simp only [Act.put,sx]
   refine qda (cs':=[(.slice (some a2) R.length c1),.int .i64 ((j:Int)+1),.bool n,.bool r,.bool e,.bool mq,.bool d,.int .i64 c,.int .i64 (k - (x.size:Int)),.int .i64 a,.int .i64 l]) rfl rfl hX.swap aggT sizT _ _ rfl rfl rfl rfl rfl rfl (qan rfl _ _ _ _ _ _ _ _ _ _) (fun w7 hX7 hk7=>⟨hX7.restS,?_⟩)
   replace ho5:=qac hX.swap ho5 (by decide) hk7
   replace hz6:=qac hX.swap hz6 (by decide) hk7
   replace hsD:=qac hX.swap hsD (by decide) hk7
   replace hG:=qbf hG hX.swap hX7 hk7 (by first|exact Nat.le_refl _|exact Nat.le_succ _)
   clear hk7 hX
   have hX:=hX7
   clear hX7
   simp only [Act.put,sx]
   refine qcm rfl rfl (fun KK hKK=>?_)
   apply Exists.intro
   refine ⟨fun wq hq=>?_,hKK _ ?_⟩
   ·try dsimp only at hq
    first
     | exact qad 42 _ _ rfl rfl ((hq.all _ _ _ (.head _)).loadAt rfl aggT sizT)
     | exact qad 3 _ _ rfl rfl ((hq.all _ _ _ (.head _)).loadCell rfl qao)
     | (unfold execOp;go_simp;done)
     | (unfold execOp;go_simp;with_reducible rfl)
   clear hKK KK
   simp only [Act.put,sx]
   refine qdm ?_
   simp only [List.drop_succ_cons,List.drop_zero]
   go_wp2
   first|exact bodyPost_ret (qak Tryz.results256 rfl ((hX.all _ _ _ (.head _)).loadVar rfl aggT sizT)) rfl ⟨_,_,_,rfl,⟨_,_,rfl,hsD⟩,qaz ho5 (Nat.le_trans hN hN5),hz6,hG⟩|exact bodyPost_ret (qak Tryz.results256 rfl ((hX.all _ _ _ (.tail _ (.head _))).loadVar rfl aggT sizT)) rfl ⟨_,_,_,rfl,⟨_,_,rfl,hsD⟩,qaz ho5 (Nat.le_trans hN hN5),hz6,hG⟩
theorem qpm (K:Tp) (M B:List Int) (hlM:M.length≤1099511627776) (hlB:B.length≤1099511627776) (hBe:∀ x∈B,0≤x∧x%2=0∧x<4611686018427387904) (hW:wordsB M=true) (hpos:0<M.length) (hl:K.R.length≤1099511627776) (hp:0≤K.p∧K.p≤(K.R.length:Int)) (hrs:∀ s∈K.R,s.size≤512) (hk:0≤K.k∧K.k≤65535) (ha:0≤K.a∧K.a≤65535) (N:Nat) (A1:Option Addr) (c1:Nat) (vm vz:Value) (w:World) (hN:N≤w.heap.size) (ho:w.ownsRow N 9 1 (.slice A1 K.R.length c1) K.R.length (K.R.map Value.string)) (hm:w.ownsRow N 3 1 vm M.length (M.map (Value.int .i64))) (hz:w.ownsRow N 3 1 vz B.length (B.map (Value.int .i64))):Calls Tryz.prog 256 #[.agg #[(.slice A1 K.R.length c1),.int .i64 (K).p,.bool (K).n,.bool (K).r,.bool (K).e,.bool (K).m,.bool (K).d,.int .i64 (K).c,.int .i64 (K).k,.int .i64 (K).a,.int .i64 (K).l],vm,vz] w (RdO N vz w (K.read M B)):=by
 by_cases h:(K.R.length:Int)≤K.p
 ·exact qsx K M B hlM hlB hBe hW hpos hl hp hrs hk ha N A1 c1 vm vz w hN ho hm hz h
 ·exact qqa K M B hlM hlB hBe hW hpos hl hp hrs hk ha N A1 c1 vm vz w hN ho hm hz h
end Go.Proofs.YthpnddgfgpacpaaGreat
