import Derived.Test.YthpnddgfgpacpaaGreatRT16
import Derived.Test.YthpnddgfgpacpaaGreatRT17
import Derived.Test.YthpnddgfgpacpaaGreatRT09
import Derived.Test.YthpnddgfgpacpaaGreatRT04
import Derived.Test.YthpnddgfgpacpaaGreatRT10
import Derived.Test.YthpnddgfgpacpaaGreatRT12
namespace Go.Proofs.YthpnddgfgpacpaaGreat
open Go.RowKit
set_option linter.unusedSimpArgs false
set_option linter.unusedVariables false
set_option maxHeartbeats 4000000
set_option maxRecDepth 100000
attribute [local irreducible] wpQuiet
theorem qka {D:Drv} {s:Int} (hD:D.right=true) (he:(D.rd s).2=0):(D.rd s).1.size=128:=by
 unfold Drv.rd at *
 split at he
 ·rename_i h
  rw [if_pos h]
  split at he
  ·cases he
  ·rename_i h1
   rw [if_neg h1]
   have hk:s.toNat<D.S.length:=by omega
   rw [List.getD_eq_getElem?_getD,List.getElem?_eq_getElem hk]
   exact ((qb1 D).1 hD).2.2.1 _ (List.getElem_mem hk)
 ·cases he
theorem qpa (K:Dk) (m B:List Int) (vs vb vm vz:Value) (w:World) (X:Nat→Prop) (hXl:∀ b,X b→b<w.heap.size) (hs:StsX X w vs K.D.S) (hb:ItsX X w vb K.D.B) (hm:ItsX X w vm m) (hz:ItsX X w vz B) (hR:K.right=true) (hw:∀ x∈m,0≤x∧x≤65535) (hml:m.length≤1099511627776) (hzl:B.length≤1099511627776) (hl:K.D.B.length≤1099511627776):Calls Tryz.prog 51 #[.agg #[vs,vb,.bool (K).n,.bool (K).r,.bool (K).e,.int .i64 (K).c,.int .i64 (K).w,.int .i64 (K).a,.int .i64 (K).s,.int .i64 (K).l],vm,vz] w (TickSays K m B X w):=by
 unfold Dk.right at hR
 rw [Bool.and_eq_true] at hR
 obtain ⟨hok,hD⟩:=hR
 obtain ⟨⟨hc0,hc3⟩,hw1,ha1,hs1,ha2,⟨hl0,hl8⟩,hrl,hcw⟩:=(Dk.ok_iff K).1 hok
 rw [qck] at hw1 ha1 hs1
 have hl2:K.D.S.length≤1099511627776:=by have:=((qb1 K.D).1 hD).2.1;omega
 by_cases h0:K.l=0
 ·exact qqq K m B vs vb vm vz w X hXl hs hb hm hz h0
 by_cases h1:1<K.l
 ·exact qpb K m B vs vb vm vz w X hXl hs hb hm hz h1 hl8
 obtain ⟨D,en,rd,er,c,w1,a,s,l⟩:=K
 dsimp only at *
 obtain rfl:l=1:=by omega
 obtain rfl:rd=false:=by rw [hrl];rfl
 obtain ⟨A,rfl⟩:∃ A:Nat,a=2*(A:Int):=⟨(a / 2).toNat,by omega⟩
 have hcw':c≠0∧w1≠0:=hcw.resolve_left (by decide)
 have hs0:=hs1
 by_cases hb64:w1≤64
 ·obtain ⟨n,rfl⟩:∃ n:Nat,w1=(n:Int):=⟨w1.toNat,by omega⟩
  by_cases hr:2*(m.length:Int)<2*(A:Int)+2*((n:Nat):Int)
  ·exact qg7 D en er c s A n (by omega) (by omega) (by omega) m B vs vb vm vz w X hXl hs hb hm hz hml hzl hl hl2 hr
  by_cases h2:c=2
  ·subst h2
   cases hp:spV B (2*(A:Int)) n
   ·exact qh3 D en er s A n (by omega) (by omega) (by omega) m B vs vb vm vz w X hXl hs hb hm hz hml hzl hl hl2 hs0 hw hr hp _ _ rfl
   ·exact qhs D en er s A n (by omega) (by omega) (by omega) m B vs vb vm vz w X hXl hs hb hm hz hml hzl hl hl2 hr hp
  by_cases he:(D.rd s).2=0
  ·have hsz:=qka hD he
   by_cases h1:c=1
   ·subst h1
    exact qhu D en er s A n (by omega) (by omega) (by omega) m B vs vb vm vz w X hXl hs hb hm hz hml hzl hl hl2 hs0 hr he hsz
   obtain rfl:c=3:=by omega
   cases hp:spV B (2*(A:Int)) n
   ·cases hd:dfW m A n (D.rd s).1
    ·exact qh1 D en er s A n (by omega) (by omega) (by omega) m B vs vb vm vz w X hXl hs hb hm hz hml hzl hl hl2 hs0 hr he hsz hp hd
    ·exact qh6 D en er s A n (by omega) (by omega) (by omega) m B vs vb vm vz w X hXl hs hb hm hz hml hzl hl hl2 hr he hsz hp hd
   ·exact qhr D en er s A n (by omega) (by omega) (by omega) m B vs vb vm vz w X hXl hs hb hm hz hml hzl hl hl2 hr he hp
  ·exact qh4 D en er c s A n (by omega) (by omega) (by omega) m B vs vb vm vz w X hXl hs hb hm hz hml hzl hl hl2 hr h2 he
 ·skip
  by_cases hr:2*(m.length:Int)<2*(A:Int)+2*((64:Nat):Int)
  ·exact qj6 D en er c s A w1 (by omega) (by omega) (by omega) m B vs vb vm vz w X hXl hs hb hm hz hml hzl hl hl2 hr
  by_cases h2:c=2
  ·subst h2
   cases hp:spV B (2*(A:Int)) 64
   ·exact qk5 D en er s A w1 (by omega) (by omega) (by omega) m B vs vb vm vz w X hXl hs hb hm hz hml hzl hl hl2 hs0 hw hr hp _ _ rfl
   ·exact qjq D en er s A w1 (by omega) (by omega) (by omega) m B vs vb vm vz w X hXl hs hb hm hz hml hzl hl hl2 hr hp
  by_cases he:(D.rd s).2=0
  ·have hsz:=qka hD he
   by_cases h1:c=1
   ·subst h1
    exact qke D en er s A w1 (by omega) (by omega) (by omega) m B vs vb vm vz w X hXl hs hb hm hz hml hzl hl hl2 hs0 hr he hsz
   obtain rfl:c=3:=by omega
   cases hp:spV B (2*(A:Int)) 64
   ·cases hd:dfW m A 64 (D.rd s).1
    ·exact qk8 D en er s A w1 (by omega) (by omega) (by omega) m B vs vb vm vz w X hXl hs hb hm hz hml hzl hl hl2 hs0 hr he hsz hp hd
    ·exact ql7 D en er s A w1 (by omega) (by omega) (by omega) m B vs vb vm vz w X hXl hs hb hm hz hml hzl hl hl2 hr he hsz hp hd
   ·exact qj7 D en er s A w1 (by omega) (by omega) (by omega) m B vs vb vm vz w X hXl hs hb hm hz hml hzl hl hl2 hr he hp
  ·exact qlg D en er c s A w1 (by omega) (by omega) (by omega) m B vs vb vm vz w X hXl hs hb hm hz hml hzl hl hl2 hr h2 he
theorem wr_okK {D:Drv} {k:Int} {s:ByteArray} (h:(D.wr k s).2=0):∃ j:Nat,k=(j:Int)∧j<D.S.length∧s.size≤128∧D.B.contains k=false∧(D.wr k s).1=⟨D.S.set j (s++zB (128 - s.size)),D.B⟩:=by
 unfold Drv.wr at *
 split at h
 ·rename_i h0
  rw [if_pos h0]
  split at h
  ·cases h
  ·rename_i h1
   rw [if_neg h1]
   split at h
   ·cases h
   ·rename_i h2
    rw [if_neg h2]
    refine ⟨k.toNat,by omega,by omega,by omega,by simpa using h2,rfl⟩
 ·cases h
theorem zB_sizeK (n:Nat):(zB n).size=n:=by unfold zB;show (List.replicate n (0:UInt8)).toArray.size=n;simp
theorem qrx {D:Drv} {k:Int} {s:ByteArray} (hD:D.right=true) (h:(D.wr k s).2=0):(D.wr k s).1.right=true:=by
 obtain ⟨j,_,hj,hs,_,e⟩:=wr_okK h
 rw [e]
 obtain ⟨h1,h2,h3,h4⟩:=(qb1 D).1 hD
 refine (qb1 _).2 ⟨by simpa using h1,by simpa using h2,fun u hu=>?_,by simpa using h4⟩
 rcases List.mem_or_eq_of_mem_set hu with h5|h5
 ·exact h3 u h5
 ·rw [h5,ByteArray.size_append,zB_sizeK];omega
theorem ql3:∀ l:List Int,wordsB l=true↔∀ x∈l,0≤x∧x≤65535
 | []=>by simp [wordsB]
 | x :: r=>by
   simp only [wordsB,Bool.and_eq_true,decide_eq_true_eq,List.mem_cons,forall_eq_or_imp,ql3 r]
theorem badB_low (n:Int):∀ (l:List Int) (a b:Int),a≤b→badB n b l=true→badB n a l=true
 | [],_,_,_,_=>rfl
 | x :: r,a,b,h,h1=>by
   simp only [badB,Bool.and_eq_true,decide_eq_true_eq] at h1 ⊢
   exact ⟨⟨by omega,h1.1.2⟩,h1.2⟩
theorem qfj (n:Int) (p:Int→Bool):∀ (l:List Int) (a:Int),badB n a l=true→badB n a (l.filter p)=true
 | [],_,_=>rfl
 | x :: r,a,h1=>by
   simp only [badB,Bool.and_eq_true,decide_eq_true_eq] at h1
   have ih:=qfj n p r (x+2) h1.2
   rw [List.filter_cons]
   split
   ·simp only [badB,Bool.and_eq_true,decide_eq_true_eq]
    exact ⟨h1.1,ih⟩
   ·exact badB_low n _ a (x+2) (by omega) ih
theorem atV_word (s:ByteArray) (i:Nat):0≤atV s i∧atV s i≤65535:=by
 unfold atV
 have h1:=qgu s (2*i)
 have h2:=qgu s (2*i+1)
 omega
theorem qjf (m:List Int) (A:Nat) (s:ByteArray) (hm:∀ x∈m,0≤x∧x≤65535):∀ k,∀ x∈putM m A s k,0≤x∧x≤65535
 | 0=>hm
 | k+1=>fun x hx=>by
   rw [qew] at hx
   rcases List.mem_or_eq_of_mem_set hx with h|h
   ·exact qjf m A s hm k x h
   ·rw [h];exact atV_word s k
structure Kept (K:Dk) (m B:List Int) (K2:Dk) (m2 B2:List Int):Prop where
 right:K2.right=true
 mem:rightP m2 B2=true
 ml:m2.length=m.length
 bl:B2.length≤B.length
 sl:K2.D.S.length=K.D.S.length
 db:K2.D.B=K.D.B
theorem Kept.refl {K:Dk} {m B:List Int} (h:K.right=true) (hm:rightP m B=true):Kept K m B K m B:=⟨h,hm,rfl,Nat.le_refl _,rfl,rfl⟩
theorem qdo (m B:List Int):rightP m B=true↔okS (2*(m.length:Int))=true∧(∀ x∈m,0≤x∧x≤65535)∧badB (2*(m.length:Int)) 0 B=true:=by
 unfold rightP;simp only [Bool.and_eq_true,ql3]
theorem qhh {K:Dk} {m B:List Int} (h:K.right=true) (hm:rightP m B=true):Kept K m B (K.tick m B).1 (K.tick m B).2.1 (K.tick m B).2.2:=by
 have h0:=h
 unfold Dk.right at h
 rw [Bool.and_eq_true] at h
 obtain ⟨hok,hD⟩:=h
 obtain ⟨⟨hc0,hc3⟩,hw1,ha1,hs1,ha2,⟨hl0,hl8⟩,hrl,hcw⟩:=(Dk.ok_iff K).1 hok
 obtain ⟨hm1,hm2,hm3⟩:=(qdo m B).1 hm
 obtain ⟨D,n,r,e,c,w,a,s,l⟩:=K
 dsimp only at *
 have mk:∀ (D':Drv) (n r e:Bool) (c w a s l:Int),D'.right=true→(0≤c∧c≤3)→(0≤w∧w≤65535)→(0≤a∧a≤65535)→(0≤s∧s≤65535)→a%2=0→(0≤l∧l≤8)→r=decide (l=0)→(l=0∨(c≠0∧w≠0))→(Dk.mk D' n r e c w a s l).right=true:=fun D' n r e c w a s l h0 h1 h2 h3 h4 h5 h6 h7 h8=>by
  unfold Dk.right
  rw [Bool.and_eq_true]
  exact ⟨(Dk.ok_iff _).2 ⟨h1,(qck _).2 h2,(qck _).2 h3,(qck _).2 h4,h5,h6,h7,h8⟩,h0⟩
 rw [qck] at hw1 ha1 hs1
 unfold Dk.tick
 by_cases l0:l=0
 ·rw [if_pos l0];exact .refl h0 hm
 rw [if_neg l0]
 by_cases l1:1<l
 ·rw [if_pos l1]
  refine ⟨mk _ _ _ _ _ _ _ _ _ hD ⟨hc0,hc3⟩ hw1 ha1 hs1 ha2 (show 0≤l - 1∧l - 1≤8 by omega) ?_ (.inr (hcw.resolve_left l0)),hm,rfl,Nat.le_refl _,rfl,rfl⟩
  rw [hrl,decide_eq_false l0]
  exact (decide_eq_false (show ¬ l - 1=0 by omega)).symm
 rw [if_neg l1]
 have hcw':=hcw.resolve_left l0
 have fl:Kept ⟨D,n,r,e,c,w,a,s,l⟩ m B ((Dk.mk D n r e c w a s l).l0.fail) m B :=
  ⟨mk _ _ _ _ _ _ _ _ _ hD ⟨hc0,hc3⟩ hw1 ha1 hs1 ha2 (show (0:Int)≤0∧(0:Int)≤8 by decide) rfl (.inl rfl),hm,rfl,Nat.le_refl _,rfl,rfl⟩
 have hn:((Dk.mk D n r e c w a s l).n64:Int)≤w∧1≤((Dk.mk D n r e c w a s l).n64:Int):=by
  unfold Dk.n64;dsimp only;omega
 have ad:∀ (D':Drv) (m2 B2:List Int),D'.right=true→D'.S.length=D.S.length→D'.B=D.B→rightP m2 B2=true→m2.length=m.length→B2.length≤B.length→Kept ⟨D,n,r,e,c,w,a,s,l⟩ m B ((Dk.mk D n r e c w a s l).adv D') m2 B2:=fun D' m2 B2 g1 g2 g3 g4 g5 g6=>by
  refine ⟨mk _ _ _ _ _ _ _ _ _ g1 ⟨hc0,hc3⟩ (by dsimp only;omega) (by dsimp only;omega) (by dsimp only;omega) (by dsimp only;omega) (by dsimp only;split<;>omega) ?_ ?_,g4,g5,g6,g2,g3⟩
  ·dsimp only
   by_cases hz:w - ((Dk.mk D n r e c w a s l).n64:Int)=0
   ·rw [if_pos hz,decide_eq_true hz];rfl
   ·rw [if_neg hz,decide_eq_false hz];rfl
  ·dsimp only
   by_cases hz:w - ((Dk.mk D n r e c w a s l).n64:Int)=0
   ·exact .inl (if_pos hz)
   ·exact .inr ⟨hcw'.1,hz⟩
 dsimp only
 split
 ·exact fl
 split
 ·exact fl
 split
 ·exact fl
 split
 ·exact fl
 split
 ·split
  ·rename_i hf
   obtain ⟨j,_,hj,_,_,ee⟩:=wr_okK hf
   exact ad _ _ _ (qrx hD hf) (by rw [ee];simp) (by rw [ee]) hm rfl (Nat.le_refl _)
  ·exact fl
 split
 ·refine ad _ _ _ hD rfl rfl ?_ (qfw ..) (List.length_filter_le ..)
  rw [qdo,qfw]
  exact ⟨hm1,qjf _ _ _ hm2 _,qfj _ _ _ _ hm3⟩
 ·exact ad _ _ _ hD rfl rfl hm rfl (Nat.le_refl _)
theorem okB_ge18 {n:Nat} {B:List Int} (h:okB n B=true):∀ k,k<B.length→(k:Int)≤B.getD k 0:=by
 intro k
 induction k with
 | zero=>intro hk;have:=((qdk _ _ _).1 ((qdw _ _).1 h 0 hk)).1;omega
 | succ k ih =>
   intro hk
   have h1:=ih (by omega)
   have h2:=((qdk _ _ _).1 ((qdw _ _).1 h (k+1) hk)).2.2
   rw [Nat.add_sub_cancel] at h2
   omega
theorem qt3 {D:Drv} (h:D.right=true):D.B.length≤256:=by
 obtain ⟨_,h2,_,h4⟩:=(qb1 D).1 h
 rcases Nat.eq_zero_or_pos D.B.length with h0|h0
 ·omega
 ·have h5:=okB_ge18 h4 (D.B.length - 1) (by omega)
  have h6:=((qdk _ _ _).1 ((qdw _ _).1 h4 (D.B.length - 1) (by omega))).2.1
  omega
theorem qii (L:List ByteArray) (hl:L.length≤1099511627776) (v v2:Value) (w:World) (h1:Sts w v L) (h2:Sts w v2 L):Calls Tryz.prog 131 #[v,v2] w fun e' w'=>e'=.returned (.bool true)∧Below w.heap.size w w':=by
 obtain ⟨A,c,rfl,_,hc⟩:=h1.form
 obtain ⟨A2,c2,rfl,_,hc2⟩:=h2.form
 have hB:=Below.refl w.heap.size w
 clear h1 h2
 go_enter Tryz.func131,Tryz.ntmps131
 go_wp2
 go_loopw [5] (fun iv wr=>∃ i:Nat,i≤L.length∧iv=.int .i64 i∧Below w.heap.size w wr) (fun i _=>match i with|.int _ q=>L.length - q.toNat|_=>0)
 case atStart=>exact ⟨0,Nat.zero_le _,rfl,hB⟩
 case round =>
  clear hB
  obtain ⟨i,hi,rfl,hB⟩:=hrel
  by_cases hin:i<L.length
  ·have hii:(i:Int)<(L.length:Int):=by omega
   have hx:=List.getElem?_eq_getElem hin
   generalize L[i]=x at *
   obtain ⟨a,rfl,hL⟩:=hc i x hx
   obtain ⟨a2,rfl,hL2⟩:=hc2 i x hx
   clear hx hc hc2
   go_wp2
   refine qa5 (fun w'=>Below w.heap.size w w') (by kernel_rfl) (by kernel_rfl) hB.drew ?_
   repeat
    first
     | (refine BigFrame.wpQuiet_skip (by rfl) ?_
        simp only [Act.put,sx])
     | (refine BigFrame.wpQuiet_want (by rfl) (fun K hK=>?_)
        apply Exists.intro
        refine ⟨fun wq hq=>?_,hK _ ?_⟩
        ·first
          | (refine qar 9 _ _ _ rfl rfl (hL _ hq))
          | (refine qar 9 _ _ _ rfl rfl (hL2 _ hq))
          | (unfold Oper.quietAt
             go_simp
             first
              | with_reducible rfl
            )
        clear hK K
        simp only [Act.put,sx])
   refine wpQuiet_nil ?_
   intro w4 hB
   go_wp2
   exact ⟨⟨i+1,by omega,by go_num,hB⟩,by simp only;omega⟩
  ·have hii:¬ (i:Int)<(L.length:Int):=by omega
   clear hc hc2
   go_wp2
   go_ret
   exact ⟨rfl,hB⟩
theorem qpw (K:Tp) (hl:K.R.length≤1099511627776) (v v2:Value) (w:World) (h1:Sts w v K.R) (h2:Sts w v2 K.R):Calls Tryz.prog 101 #[.agg #[v,.int .i64 (K).p,.bool (K).n,.bool (K).r,.bool (K).e,.bool (K).m,.bool (K).d,.int .i64 (K).c,.int .i64 (K).k,.int .i64 (K).a,.int .i64 (K).l],.agg #[v2,.int .i64 (K).p,.bool (K).n,.bool (K).r,.bool (K).e,.bool (K).m,.bool (K).d,.int .i64 (K).c,.int .i64 (K).k,.int .i64 (K).a,.int .i64 (K).l]] w fun e' w'=>e'=.returned (.bool true)∧Below w.heap.size w w':=by
 have hst:=fun w' (h:Below w.heap.size w w')=>qii K.R hl v v2 w' (Rz.below h1 h) (Rz.below h2 h)
 obtain ⟨A,c1,rfl,_⟩:=h1.form
 obtain ⟨A2,c2,rfl,_⟩:=h2.form
 obtain ⟨R,p,n,r,e,m,d,c,k,a,l⟩:=K
 dsimp only at *
 have hX:=qa0 w [(.slice A R.length c1),.int .i64 p,.bool n,.bool r,.bool e,.bool m,.bool d,.int .i64 c,.int .i64 k,.int .i64 a,.int .i64 l] [(.slice A2 R.length c2),.int .i64 p,.bool n,.bool r,.bool e,.bool m,.bool d,.int .i64 c,.int .i64 k,.int .i64 a,.int .i64 l]
 clear h1 h2
 go_enter Tryz.func101,Tryz.ntmps101
 go_wp2_with (first|((with_reducible refine qab ?_);refine lc hX ?_)|(go_at_call 131;with_reducible refine cst hX (hst _ hX.below) ?_;clear hX;intro w' hX))
 go_ret
 exact ⟨by simp,hX.below⟩
theorem qcl (x:ByteArray):(x.toList == [])=decide (x.size=0):=by
 rw [Lib.toList_data,Bool.eq_iff_iff]
 have:x.size=x.data.toList.length:=Lib.size_eq x
 cases h:x.data.toList<;>simp [h,this]
theorem qgb (K:Tp) (hl:K.R.length≤1099511627776) (hp:0≤K.p) (A1:Option Addr) (c1:Nat) (w:World) (hs:Sts w (.slice A1 K.R.length c1) K.R):Calls Tryz.prog 119 #[.agg #[(.slice A1 K.R.length c1),.int .i64 (K).p,.bool (K).n,.bool (K).r,.bool (K).e,.bool (K).m,.bool (K).d,.int .i64 (K).c,.int .i64 (K).k,.int .i64 (K).a,.int .i64 (K).l]] w fun e' w'=>e'=.returned (.tuple #[.agg #[(.slice A1 K.R.length c1),.int .i64 (K.pass.1).p,.bool (K.pass.1).n,.bool (K.pass.1).r,.bool (K.pass.1).e,.bool (K.pass.1).m,.bool (K.pass.1).d,.int .i64 (K.pass.1).c,.int .i64 (K.pass.1).k,.int .i64 (K.pass.1).a,.int .i64 (K.pass.1).l],.bool K.pass.2])∧Below w.heap.size w w':=by
 obtain ⟨A,c',hv,_,hc⟩:=hs.form
 cases hv
 obtain ⟨R,p,n,r,e,m,d,c,k,a,l⟩:=K
 dsimp only at hl hp hc ⊢
 clear hs
 have hX:=qa0 w [(.slice A1 R.length c1),.int .i64 p,.bool n,.bool r,.bool e,.bool m,.bool d,.int .i64 c,.int .i64 k,.int .i64 a,.int .i64 l] [.slice none 0 0,.int .i64 0,.bool false,.bool false,.bool false,.bool false,.bool false,.int .i64 0,.int .i64 0,.int .i64 0,.int .i64 0]
 by_cases h:(R.length:Int)≤p
 ·have hK:∀ n r e m d c k a l,(Tp.mk R p n r e m d c k a l).pass=({(Tp.mk R p n r e m d c k a l) with e:=true,d:=true},false):=fun n r e m d c k a l=>by unfold Tp.pass;rw [if_pos h]
  rw [hK]
  clear hK hc
  go_enter Tryz.func119,Tryz.ntmps119
  go_wp2_with (first|((with_reducible refine qab ?_);first|refine lc hX ?_|refine lw hX aggT sizT ?_)|((with_reducible refine qah ?_);first|((first|refine sc (z:=.bool _) hX.swap ?_|refine sc (z:=.bool _) hX ?_);clear hX;intro wp hX hk3 hz3;clear hk3 hz3;simp only [sx] at hX)|((first|refine sc (z:=.int .i64 _) hX.swap ?_|refine sc (z:=.int .i64 _) hX ?_);clear hX;intro wp hX hk3 hz3;clear hk3 hz3;simp only [sx] at hX)|(refine qaa (cs':=[(.slice A1 R.length c1),.int .i64 p,.bool n,.bool r,.bool true,.bool m,.bool true,.int .i64 c,.int .i64 k,.int .i64 a,.int .i64 l]) hX.swap aggT sizT _ _ rfl rfl rfl rfl rfl rfl rfl rfl (qan rfl _ _ _ _ _ _ _ _ _ _) ?_;clear hX;intro wz hX hkz;clear hkz)|(refine qaa (cs':=[(.slice A1 R.length c1),.int .i64 p,.bool n,.bool r,.bool true,.bool m,.bool true,.int .i64 c,.int .i64 k,.int .i64 a,.int .i64 l]) hX aggT sizT _ _ rfl rfl rfl rfl rfl rfl rfl rfl (qan rfl _ _ _ _ _ _ _ _ _ _) ?_;clear hX;intro wz hX hkz;clear hkz)))
  first|exact bodyPost_ret (qam Tryz.results119 rfl ((hX.all _ _ _ (.head _)).loadVar rfl aggT sizT)) rfl ⟨rfl,hX.below⟩|exact bodyPost_ret (qam Tryz.results119 rfl ((hX.all _ _ _ (.tail _ (.head _))).loadVar rfl aggT sizT)) rfl ⟨rfl,hX.below⟩
 obtain ⟨j,rfl⟩:∃ j:Nat,p=(j:Int):=⟨p.toNat,by omega⟩
 have hjl:j<R.length:=by omega
 have hji:(j:Int)<(R.length:Int):=by omega
 have hx:=List.getElem?_eq_getElem hjl
 have hrec:∀ n r e m d c k a l,recV (Tp.mk R (j:Int) n r e m d c k a l) (j:Int)=R[j]:=fun n r e m d c k a l=>by show R.getD ((j:Int).toNat) ⟨#[]⟩=_;rw [Int.toNat_natCast,List.getD_eq_getElem?_getD,hx];rfl
 have hK:∀ n r e m d c k a l,(Tp.mk R (j:Int) n r e m d c k a l).pass=({(Tp.mk R (j:Int) n r e m d c k a l) with m:=m || decide ((R[j]).size=0),p:=(j:Int)+1},true):=fun n r e m d c k a l=>by unfold Tp.pass;rw [if_neg h];dsimp only;rw [hrec]
 rw [hK]
 clear hK hrec h
 generalize R[j]=x at *
 obtain ⟨a',rfl,hL⟩:=hc j x hx
 have hemp:(x.toList == [])=decide (x.size=0):=qcl x
 have hemp2:(x.toList == (⟨#[]⟩:ByteArray).toList)=decide (x.size=0):=by rw [show (⟨#[]⟩:ByteArray).toList=[] from Lib.toList_data _];exact qcl x
 generalize decide (x.size=0)=q at *
 have hw:IntKind.i64.wrap ((j:Int)+1)=(j:Int)+1:=by rw [qaf];unfold wrap64;omega
 clear hc hx hp
 cases m
 all_goals
  go_enter Tryz.func119,Tryz.ntmps119
  go_wp2_with (first|((with_reducible refine qab ?_);first|refine lc hX ?_|refine qaq rfl 9 _ _ _ rfl rfl (hL _ hX.below) ?_|refine lw hX aggT sizT ?_)|((with_reducible refine qah ?_);first|((first|refine sc (z:=.bool _) hX.swap ?_|refine sc (z:=.bool _) hX ?_);clear hX;intro wp hX hk3 hz3;clear hk3 hz3;simp only [sx] at hX)|((first|refine sc (z:=.int .i64 _) hX.swap ?_|refine sc (z:=.int .i64 _) hX ?_);clear hX;intro wp hX hk3 hz3;clear hk3 hz3;simp only [sx] at hX)|(refine qaa (cs':=[(.slice (some a') R.length c1),.int .i64 ((j:Int)+1),.bool n,.bool r,.bool e,.bool _,.bool d,.int .i64 c,.int .i64 k,.int .i64 a,.int .i64 l]) hX.swap aggT sizT _ _ rfl rfl rfl rfl rfl rfl rfl rfl (qan rfl _ _ _ _ _ _ _ _ _ _) ?_;clear hX;intro wz hX hkz;clear hkz)|(refine qaa (cs':=[(.slice (some a') R.length c1),.int .i64 ((j:Int)+1),.bool n,.bool r,.bool e,.bool _,.bool d,.int .i64 c,.int .i64 k,.int .i64 a,.int .i64 l]) hX aggT sizT _ _ rfl rfl rfl rfl rfl rfl rfl rfl (qan rfl _ _ _ _ _ _ _ _ _ _) ?_;clear hX;intro wz hX hkz;clear hkz)))
  first|exact bodyPost_ret (qam Tryz.results119 rfl ((hX.all _ _ _ (.head _)).loadVar rfl aggT sizT)) rfl ⟨rfl,hX.below⟩|exact bodyPost_ret (qam Tryz.results119 rfl ((hX.all _ _ _ (.tail _ (.head _))).loadVar rfl aggT sizT)) rfl ⟨rfl,hX.below⟩
theorem qpp (K:Tp) (hl:K.R.length≤1099511627776) (hp:0≤K.p∧K.p≤(K.R.length:Int)) (A1:Option Addr) (c1:Nat) (w:World) (hs:Sts w (.slice A1 K.R.length c1) K.R):Calls Tryz.prog 120 #[.agg #[(.slice A1 K.R.length c1),.int .i64 (K).p,.bool (K).n,.bool (K).r,.bool (K).e,.bool (K).m,.bool (K).d,.int .i64 (K).c,.int .i64 (K).k,.int .i64 (K).a,.int .i64 (K).l]] w fun e' w'=>e'=.returned (.agg #[(.slice A1 K.R.length c1),.int .i64 (K.back).p,.bool (K.back).n,.bool (K.back).r,.bool (K.back).e,.bool (K.back).m,.bool (K.back).d,.int .i64 (K.back).c,.int .i64 (K.back).k,.int .i64 (K.back).a,.int .i64 (K.back).l])∧Below w.heap.size w w':=by
 obtain ⟨A,c',hv,_,hc⟩:=hs.form
 cases hv
 obtain ⟨R,p,n,r,e,m,d,c,k,a,l⟩:=K
 dsimp only at hl hp hc ⊢
 clear hs
 have hX:=qa0 w [(.slice A1 R.length c1),.int .i64 p,.bool n,.bool r,.bool e,.bool m,.bool d,.int .i64 c,.int .i64 k,.int .i64 a,.int .i64 l] [.slice none 0 0,.int .i64 0,.bool false,.bool false,.bool false,.bool false,.bool false,.int .i64 0,.int .i64 0,.int .i64 0,.int .i64 0]
 by_cases h:p=0
 ·subst h
  have hK:∀ n r e m d c k a l,(Tp.mk R 0 n r e m d c k a l).back={(Tp.mk R 0 n r e m d c k a l) with d:=true}:=fun n r e m d c k a l=>by unfold Tp.back;rw [if_pos rfl]
  rw [hK]
  clear hK hc
  go_enter Tryz.func120,Tryz.ntmps120
  go_wp2_with (first|((with_reducible refine qab ?_);first|refine lc hX ?_|refine lw hX aggT sizT ?_)|((with_reducible refine qah ?_);first|((first|refine sc (z:=.bool _) hX.swap ?_|refine sc (z:=.bool _) hX ?_);clear hX;intro wp hX hk3 hz3;clear hk3 hz3;simp only [sx] at hX)|((first|refine sc (z:=.int .i64 _) hX.swap ?_|refine sc (z:=.int .i64 _) hX ?_);clear hX;intro wp hX hk3 hz3;clear hk3 hz3;simp only [sx] at hX)|(refine qaa (cs':=[(.slice A1 R.length c1),.int .i64 0,.bool n,.bool r,.bool e,.bool m,.bool true,.int .i64 c,.int .i64 k,.int .i64 a,.int .i64 l]) hX.swap aggT sizT _ _ rfl rfl rfl rfl rfl rfl rfl rfl (qan rfl _ _ _ _ _ _ _ _ _ _) ?_;clear hX;intro wz hX hkz;clear hkz)|(refine qaa (cs':=[(.slice A1 R.length c1),.int .i64 0,.bool n,.bool r,.bool e,.bool m,.bool true,.int .i64 c,.int .i64 k,.int .i64 a,.int .i64 l]) hX aggT sizT _ _ rfl rfl rfl rfl rfl rfl rfl rfl (qan rfl _ _ _ _ _ _ _ _ _ _) ?_;clear hX;intro wz hX hkz;clear hkz)))
  first|exact bodyPost_ret (qaj Tryz.results120 rfl ((hX.all _ _ _ (.head _)).loadVar rfl aggT sizT)) rfl ⟨rfl,hX.below⟩|exact bodyPost_ret (qaj Tryz.results120 rfl ((hX.all _ _ _ (.tail _ (.head _))).loadVar rfl aggT sizT)) rfl ⟨rfl,hX.below⟩
 obtain ⟨j,rfl⟩:∃ j:Nat,p=(j:Int)+1:=⟨p.toNat - 1,by omega⟩
 have hjl:j<R.length:=by omega
 have hji:(j:Int)<(R.length:Int):=by omega
 have hx:=List.getElem?_eq_getElem hjl
 have hrec:∀ n r e m d c k a l,recV (Tp.mk R ((j:Int)+1) n r e m d c k a l) ((j:Int)+1 - 1)=R[j]:=fun n r e m d c k a l=>by show R.getD (((j:Int)+1 - 1).toNat) ⟨#[]⟩=_;rw [Int.add_sub_cancel,Int.toNat_natCast,List.getD_eq_getElem?_getD,hx];rfl
 have hK:∀ n r e m d c k a l,(Tp.mk R ((j:Int)+1) n r e m d c k a l).back={(Tp.mk R ((j:Int)+1) n r e m d c k a l) with m:=m || decide ((R[j]).size=0),p:=(j:Int)}:=fun n r e m d c k a l=>by unfold Tp.back;rw [if_neg h];dsimp only;rw [hrec,Int.add_sub_cancel]
 rw [hK]
 clear hK hrec
 generalize R[j]=x at *
 obtain ⟨a',rfl,hL⟩:=hc j x hx
 have hemp:(x.toList == [])=decide (x.size=0):=qcl x
 have hemp2:(x.toList == (⟨#[]⟩:ByteArray).toList)=decide (x.size=0):=by rw [show (⟨#[]⟩:ByteArray).toList=[] from Lib.toList_data _];exact qcl x
 generalize decide (x.size=0)=q at *
 have he:((j:Int)+1 == 0)=false:=by simp;omega
 have hw0:(j:Int)+1 - 1=(j:Int):=by omega
 have hw:IntKind.i64.wrap (j:Int)=(j:Int):=by rw [qaf];unfold wrap64;omega
 clear hc hx hp h
 cases m
 all_goals
  go_enter Tryz.func120,Tryz.ntmps120
  go_wp2_with (first|((with_reducible refine qab ?_);first|refine lc hX ?_|refine qaq rfl 9 _ _ _ rfl rfl (hL _ hX.below) ?_|refine lw hX aggT sizT ?_)|((with_reducible refine qah ?_);first|((first|refine sc (z:=.bool _) hX.swap ?_|refine sc (z:=.bool _) hX ?_);clear hX;intro wp hX hk3 hz3;clear hk3 hz3;simp only [sx] at hX)|((first|refine sc (z:=.int .i64 _) hX.swap ?_|refine sc (z:=.int .i64 _) hX ?_);clear hX;intro wp hX hk3 hz3;clear hk3 hz3;simp only [sx] at hX)|(refine qaa (cs':=[(.slice (some a') R.length c1),.int .i64 (j:Int),.bool n,.bool r,.bool e,.bool _,.bool d,.int .i64 c,.int .i64 k,.int .i64 a,.int .i64 l]) hX.swap aggT sizT _ _ rfl rfl rfl rfl rfl rfl rfl rfl (qan rfl _ _ _ _ _ _ _ _ _ _) ?_;clear hX;intro wz hX hkz;clear hkz)|(refine qaa (cs':=[(.slice (some a') R.length c1),.int .i64 (j:Int),.bool n,.bool r,.bool e,.bool _,.bool d,.int .i64 c,.int .i64 k,.int .i64 a,.int .i64 l]) hX aggT sizT _ _ rfl rfl rfl rfl rfl rfl rfl rfl (qan rfl _ _ _ _ _ _ _ _ _ _) ?_;clear hX;intro wz hX hkz;clear hkz)))
  first|exact bodyPost_ret (qaj Tryz.results120 rfl ((hX.all _ _ _ (.head _)).loadVar rfl aggT sizT)) rfl ⟨rfl,hX.below⟩|exact bodyPost_ret (qaj Tryz.results120 rfl ((hX.all _ _ _ (.tail _ (.head _))).loadVar rfl aggT sizT)) rfl ⟨rfl,hX.below⟩
section
variable {ops:Array Oper} {rest:List Oper} {o:Oper} {a:Act} {W w0 w1:World} {Q:Exit→Act→World→Prop} {l:List (Nat×TypeId×List Value)}
theorem qlz {P:Program} {l:List Oper} {T ty:TypeId} {n:Nat} {xs:Array (Nat×Operand)} {dst:Option Tmp} {pos:String} {after:Array Edge} {g:Option (Nat×Bool)} (h:wpList P ops Q ({dst:=dst,op:=.buildSlice T n xs,type:=ty,pos:=pos,after:=after,guard:=g} :: l) a W):wpList P ops Q ({dst:=dst,op:=.buildSlice T n xs,type:=ty,pos:=pos,after:=after,guard:=g} :: l) a W:=h
theorem qf2 (hX:Bag l w0 W) (hg:o.guard=none) (hop:o.op=Op.buildSlice 36 0 #[]) (hal:w1=W)
 (h:∀ B W2,W2.ownsRow B 9 1 (.slice (some ⟨B,0,none⟩) 0 0) 0 []→Bag l w0 W2→W.heap.size≤B→B<W2.heap.size→wpList Tryz.prog ops Q rest (a.put o.dst (.slice (some ⟨B,0,none⟩) 0 0)) W2):wpList Tryz.prog ops Q (o :: rest) a w1:=by
 subst hal
 refine wpList_plain hg fun _ hK=>?_
 have h1:=h w1.heap.size (w1.alloc (.cells #[] 9)) (qbe w1 _) (hX.step ((Below.refl _ _).alloc (Nat.le_refl _) _)) (Nat.le_refl _) (by simp)
 unfold Oper.wp execOp
 simp only [hop]
 go_simp
 exact hK _ _ h1
end
theorem qlb (K:Tp) (s:ByteArray) (hl:K.R.length≤1099511627776) (hp:0≤K.p∧K.p≤(K.R.length:Int)) (vs:Value) (w:World) (X:Nat→Prop) (hXl:∀ b,X b→b<w.heap.size) (hs:StsX X w vs K.R):Calls Tryz.prog 121 #[.agg #[vs,.int .i64 (K).p,.bool (K).n,.bool (K).r,.bool (K).e,.bool (K).m,.bool (K).d,.int .i64 (K).c,.int .i64 (K).k,.int .i64 (K).a,.int .i64 (K).l],.string s] w fun e' w'=>∃ x,e'=.returned x∧TpX X w' x (K.app s)∧Below w.heap.size w w':=by
 have hrz:=Rz.form hs.now
 have hs0:Sts w vs K.R:=hs.now
 obtain ⟨A,c',hv,hcl,_⟩:=hs.now.form
 subst hv
 obtain ⟨R,p,n,r,e,m,d,c,k,a,l⟩:=K
 dsimp only at hl hp hrz hs0 hs hcl ⊢
 have hX:=qa0 w [(.slice A R.length c'),.int .i64 p,.bool n,.bool r,.bool e,.bool m,.bool d,.int .i64 c,.int .i64 k,.int .i64 a,.int .i64 l] [.slice none 0 0,.int .i64 0,.bool false,.bool false,.bool false,.bool false,.bool false,.int .i64 0,.int .i64 0,.int .i64 0,.int .i64 0]
 unfold Tp.app
 dsimp only
 by_cases h64:64≤p
 ·rw [if_pos h64]
  go_enter Tryz.func121,Tryz.ntmps121
  go_wp2_with (first|((with_reducible refine qab ?_);first|refine lc hX ?_|refine lw hX aggT sizT ?_)|((with_reducible refine qah ?_);first|((first|refine sc (z:=.bool _) hX.swap ?_|refine sc (z:=.bool _) hX ?_);clear hX;intro wp hX hk3 hz3;clear hk3 hz3;simp only [sx] at hX)|((first|refine sc (z:=.int .i64 _) hX.swap ?_|refine sc (z:=.int .i64 _) hX ?_);clear hX;intro wp hX hk3 hz3;clear hk3 hz3;simp only [sx] at hX)|(refine qaa (cs':=[(.slice A R.length c'),.int .i64 p,.bool n,.bool r,.bool true,.bool m,.bool true,.int .i64 c,.int .i64 k,.int .i64 a,.int .i64 l]) hX.swap aggT sizT _ _ rfl rfl rfl rfl rfl rfl rfl rfl (qan rfl _ _ _ _ _ _ _ _ _ _) ?_;clear hX;intro wz hX hkz;clear hkz)|(refine qaa (cs':=[(.slice A R.length c'),.int .i64 p,.bool n,.bool r,.bool true,.bool m,.bool true,.int .i64 c,.int .i64 k,.int .i64 a,.int .i64 l]) hX aggT sizT _ _ rfl rfl rfl rfl rfl rfl rfl rfl (qan rfl _ _ _ _ _ _ _ _ _ _) ?_;clear hX;intro wz hX hkz;clear hkz)))
  first|exact bodyPost_ret (qaj Tryz.results121 rfl ((hX.all _ _ _ (.head _)).loadVar rfl aggT sizT)) rfl ⟨_,rfl,⟨_,rfl,hs.below hX.below⟩,hX.below⟩|exact bodyPost_ret (qaj Tryz.results121 rfl ((hX.all _ _ _ (.tail _ (.head _))).loadVar rfl aggT sizT)) rfl ⟨_,rfl,⟨_,rfl,hs.below hX.below⟩,hX.below⟩
 rw [if_neg h64]
 obtain ⟨j,rfl⟩:∃ j:Nat,p=(j:Int):=⟨p.toNat,by omega⟩
 simp only [Int.toNat_natCast]
 have hj64:(j:Int)<64:=by omega
 have hw:IntKind.i64.wrap ((j:Int)+1)=(j:Int)+1:=by rw [qaf];unfold wrap64;omega
 have hjl:j≤R.length:=by omega
 rcases hrz with ⟨h2,h3,h4⟩|⟨ad,cd,h2,hc2⟩
 ·obtain rfl:R=[]:=by cases R;rfl;simp at h4
  cases h2
  obtain rfl:j=0:=by simp at hjl;exact hjl
  have hfin:Hid (([]:List Value)++[.string s]=(List.take 0 ([]:List ByteArray)++[s]).map Value.string):=rfl
  have hln:Hid ((List.take 0 ([]:List ByteArray)++[s]).length=0+1):=rfl
  clear hs0 hs hjl h64 hp
  go_enter Tryz.func121,Tryz.ntmps121
  go_wp2_with (first|((with_reducible refine qab ?_);first|refine lc hX ?_|refine lw hX aggT sizT ?_)|((with_reducible refine qlz ?_);refine qf2 hX rfl rfl rfl ?_;have hlt0:=(hX.all _ _ _ (.head _)).lt;clear hX;intro B2 w2 ho2 hX hB2 hB3;have hsz2:w.heap.size+2≤B2:=Nat.le_trans hlt0 hB2;clear hlt0)|(at_builtin;refine qd5 rfl (.tmp 11) (.tmp 16) rfl B2 _ 0 [] rfl ho2 rfl ?_)|(at_builtin;refine qcd rfl (.tmp 17) (.tmp 19) rfl B2 _ _ _ rfl (World.ownsRow.alloc ho2 _) ⟨w2.heap.size,0,none⟩ 1 1 [.string s] rfl rfl qc2 (fun x hx=>by simp at hx;subst hx;rfl) (by omega) (by simp;omega) ?_;intro v3 w3 ho3 hb3 _;replace hX:=(hX.step ((Below.refl _ _).alloc (Nat.le_refl _) (.cells #[.string s] 9))).stepN hb3 (fun q hq=>by simp at hq;rcases hq with rfl|rfl<;>simp<;>omega) (by omega);clear hb3;obtain ⟨A3,c3,rfl,_,_⟩:=Rw.of_own ho3)|((with_reducible refine qah ?_);first|(first|(refine qae (z:=.slice A3 (0+1) c3) hX.swap qfg _ _ rfl rfl rfl rfl rfl rfl (by simp) rfl rfl ?_;intro wp hX3 hk3 hz3;replace ho3:=qac hX.swap ho3 (by decide) hk3;clear hz3;clear hX;have hX:=hX3;clear hk3 hX3;simp only [sx] at hX)|(refine qae (z:=.slice A3 (0+1) c3) hX qfg _ _ rfl rfl rfl rfl rfl rfl (by simp) rfl rfl ?_;intro wp hX3 hk3 hz3;replace ho3:=qac hX ho3 (by decide) hk3;clear hz3;clear hX;have hX:=hX3;clear hk3 hX3;simp only [sx] at hX))|(first|(refine qae (z:=.int .i64 _) hX.swap qaw _ _ rfl rfl rfl rfl rfl rfl (by simp) rfl rfl ?_;intro wp hX3 hk3 hz3;(first|(replace ho3:=qac hX.swap ho3 (by decide) hk3)|(replace ho3:=qac hX ho3 (by decide) hk3)|skip);clear hz3;clear hX;have hX:=hX3;clear hk3 hX3;simp only [sx] at hX)|(refine qae (z:=.int .i64 _) hX qaw _ _ rfl rfl rfl rfl rfl rfl (by simp) rfl rfl ?_;intro wp hX3 hk3 hz3;(first|(replace ho3:=qac hX.swap ho3 (by decide) hk3)|(replace ho3:=qac hX ho3 (by decide) hk3)|skip);clear hz3;clear hX;have hX:=hX3;clear hk3 hX3;simp only [sx] at hX))|((first|refine sc (z:=.bool _) hX.swap ?_|refine sc (z:=.bool _) hX ?_);clear hX;intro wp hX hk3 hz3;clear hk3 hz3;simp only [sx] at hX)|(refine qaa (cs':=[(.slice A3 ((0+1)) c3),.int .i64 1,.bool n,.bool r,.bool e,.bool m,.bool d,.int .i64 c,.int .i64 k,.int .i64 a,.int .i64 l]) hX.swap aggT sizT _ _ rfl rfl rfl rfl rfl rfl rfl rfl (qan rfl _ _ _ _ _ _ _ _ _ _) ?_;intro wz hXz hkz;replace ho3:=qac hX.swap ho3 (by decide) hkz;replace hX:=hXz;clear hkz hXz)|(refine qaa (cs':=[(.slice A3 ((0+1)) c3),.int .i64 1,.bool n,.bool r,.bool e,.bool m,.bool d,.int .i64 c,.int .i64 k,.int .i64 a,.int .i64 l]) hX aggT sizT _ _ rfl rfl rfl rfl rfl rfl rfl rfl (qan rfl _ _ _ _ _ _ _ _ _ _) ?_;intro wz hXz hkz;replace ho3:=qac hX ho3 (by decide) hkz;replace hX:=hXz;clear hkz hXz)))
  exact bodyPost_ret (qaj Tryz.results121 rfl ((hX.all _ _ _ (.head _)).loadVar rfl aggT sizT)) rfl ⟨_,rfl,⟨_,rfl,qdv (fun b hb=>by have:=hXl b hb;omega) hfin hln ho3⟩,hX.below⟩
 ·cases h2
  have hcell:∀ jz u,((R.take j).map Value.string)[jz]? = some u→∀ w',Below w.heap.size w w'→w'.cell? (ad.add jz)=some u:=fun jz u h w' hb=>Rz.cell (Rz.below hs0 hb) jz u (by rw [List.map_take,List.getElem?_take] at h;split at h;exact h;cases h)
  have hfin:Hid ((R.take j).map Value.string++[.string s]=(R.take j++[s]).map Value.string):=by show _=_;rw [List.map_append];rfl
  have hln:Hid ((R.take j++[s]).length=j+1):=by show _=_;rw [List.length_append,List.length_take];simp;omega
  have htl:((R.take j).map Value.string).length=j:=by simp;omega
  have hjl1:(j:Int)≤(R.length:Int):=by omega
  have hjc:(j:Int)≤(c':Int):=by omega
  have hj0:(0:Int)≤(j:Int):=by omega
  have hjc2:j≤c':=by omega
  have hone:=qfe (R.take j)
  generalize (R.take j).map Value.string=X1 at *
  have hX1:∀ u∈X1,u.oneCell'=true:=fun u hu=>hone u hu
  clear hs0 hs h64 hp
  go_enter Tryz.func121,Tryz.ntmps121
  go_wp2_with (first|((with_reducible refine qab ?_);first|refine lc hX ?_|refine lw hX aggT sizT ?_)|((with_reducible refine qlz ?_);refine qf2 hX rfl rfl rfl ?_;have hlt0:=(hX.all _ _ _ (.head _)).lt;clear hX;intro B2 w2 ho2 hX hB2 hB3;have hsz2:w.heap.size+2≤B2:=Nat.le_trans hlt0 hB2;clear hlt0)|(at_builtin;refine qcd rfl (.tmp 11) (.tmp 16) rfl B2 _ 0 [] rfl ho2 ad j c' X1 rfl htl (fun jz u h=>hcell jz u h _ hX.below) hX1 (by omega) (Nat.le_of_lt hB3) ?_;intro v2 w4 ho4 hb2 _;rw [Nat.zero_add,List.nil_append] at ho4;replace hX:=hX.stepN hb2 (fun q hq=>by simp at hq;rcases hq with rfl|rfl<;>simp<;>omega) (by omega);replace hB3:=Nat.lt_of_lt_of_le hB3 hb2.size;clear hb2 ho2;have ho2:=ho4;clear ho4;obtain ⟨w2,rfl⟩:∃ w2,w4=w2:=⟨_,rfl⟩;obtain ⟨A2,c2,rfl,_,_⟩:=Rw.of_own ho2)|(at_builtin;refine qcd rfl (.tmp 17) (.tmp 19) rfl B2 _ _ _ rfl (World.ownsRow.alloc ho2 _) ⟨w4.heap.size,0,none⟩ 1 1 [.string s] rfl rfl qc2 (fun x hx=>by simp at hx;subst hx;rfl) (by omega) (by simp;omega) ?_;intro v3 w3 ho3 hb3 _;replace hX:=(hX.step ((Below.refl _ _).alloc (Nat.le_refl _) (.cells #[.string s] 9))).stepN hb3 (fun q hq=>by simp at hq;rcases hq with rfl|rfl<;>simp<;>omega) (by omega);clear hb3;obtain ⟨A3,c3,rfl,_,_⟩:=Rw.of_own ho3)|((with_reducible refine qah ?_);first|(first|(refine qae (z:=.slice A3 (j+1) c3) hX.swap qfg _ _ rfl rfl rfl rfl rfl rfl (by simp) rfl rfl ?_;intro wp hX3 hk3 hz3;replace ho3:=qac hX.swap ho3 (by decide) hk3;clear hz3;clear hX;have hX:=hX3;clear hk3 hX3;simp only [sx] at hX)|(refine qae (z:=.slice A3 (j+1) c3) hX qfg _ _ rfl rfl rfl rfl rfl rfl (by simp) rfl rfl ?_;intro wp hX3 hk3 hz3;replace ho3:=qac hX ho3 (by decide) hk3;clear hz3;clear hX;have hX:=hX3;clear hk3 hX3;simp only [sx] at hX))|(first|(refine qae (z:=.int .i64 _) hX.swap qaw _ _ rfl rfl rfl rfl rfl rfl (by simp) rfl rfl ?_;intro wp hX3 hk3 hz3;(first|(replace ho3:=qac hX.swap ho3 (by decide) hk3)|(replace ho3:=qac hX ho3 (by decide) hk3)|skip);clear hz3;clear hX;have hX:=hX3;clear hk3 hX3;simp only [sx] at hX)|(refine qae (z:=.int .i64 _) hX qaw _ _ rfl rfl rfl rfl rfl rfl (by simp) rfl rfl ?_;intro wp hX3 hk3 hz3;(first|(replace ho3:=qac hX.swap ho3 (by decide) hk3)|(replace ho3:=qac hX ho3 (by decide) hk3)|skip);clear hz3;clear hX;have hX:=hX3;clear hk3 hX3;simp only [sx] at hX))|((first|refine sc (z:=.bool _) hX.swap ?_|refine sc (z:=.bool _) hX ?_);clear hX;intro wp hX hk3 hz3;clear hk3 hz3;simp only [sx] at hX)|(refine qaa (cs':=[(.slice A3 ((j+1)) c3),.int .i64 ((j:Int)+1),.bool n,.bool r,.bool e,.bool m,.bool d,.int .i64 c,.int .i64 k,.int .i64 a,.int .i64 l]) hX.swap aggT sizT _ _ rfl rfl rfl rfl rfl rfl rfl rfl (qan rfl _ _ _ _ _ _ _ _ _ _) ?_;intro wz hXz hkz;replace ho3:=qac hX.swap ho3 (by decide) hkz;replace hX:=hXz;clear hkz hXz)|(refine qaa (cs':=[(.slice A3 ((j+1)) c3),.int .i64 ((j:Int)+1),.bool n,.bool r,.bool e,.bool m,.bool d,.int .i64 c,.int .i64 k,.int .i64 a,.int .i64 l]) hX aggT sizT _ _ rfl rfl rfl rfl rfl rfl rfl rfl (qan rfl _ _ _ _ _ _ _ _ _ _) ?_;intro wz hXz hkz;replace ho3:=qac hX ho3 (by decide) hkz;replace hX:=hXz;clear hkz hXz)))
  exact bodyPost_ret (qaj Tryz.results121 rfl ((hX.all _ _ _ (.head _)).loadVar rfl aggT sizT)) rfl ⟨_,rfl,⟨_,rfl,qdv (fun b hb=>by have:=hXl b hb;omega) hfin hln ho3⟩,hX.below⟩
end Go.Proofs.YthpnddgfgpacpaaGreat
