import Derived.Test.YthpnddgfgpacpaaGreatRT04
import Derived.Test.YthpnddgfgpacpaaGreatRT09
import Derived.Deep.RegionHeld3
import Derived.Test.YthpnddgfgpacpaaGreatProg
import Derived.Test.YthpnddgfgpacpaaGreatRT00
import Derived.Test.YthpnddgfgpacpaaGreatRT03
import Derived.WalkKit
import Derived.WalkSpells
import Derived.WalkLawsBesides
import Derived.Deep.DeepCutAuto
import Derived.Deep.QuietTactic
import Derived.BigQuiet
import Derived.KernelRfl
namespace Go.Proofs.YthpnddgfgpacpaaGreat
open Go.RowKit
set_option linter.unusedSimpArgs false
set_option linter.unusedVariables false
set_option maxHeartbeats 4000000
set_option maxRecDepth 100000
attribute [local irreducible] wpQuiet
theorem qsu (L:List ByteArray) (hl:L.length≤1099511627776) (v:Value) (w:World) (X:Nat→Prop) (hXl:∀ b,X b→b<w.heap.size) (hv:Sts w v L):Calls Tryz.prog 70 #[v] w fun e' w'=>∃ x,e'=.returned (.tuple #[x,.int .i64 (newT L).2])∧TpX X w' x (newT L).1∧Below w.heap.size w w':=by
 have hv0:=hv
 obtain ⟨A,c,rfl,_,hc⟩:=hv.form
 have hX:=(Bag.nil w).new 42 [.slice none 0 0,.int .i64 0,.bool false,.bool false,.bool false,.bool false,.bool false,.int .i64 0,.int .i64 0,.int .i64 0,.int .i64 0]
 have hall:=qee L
 unfold newT
 by_cases h1:64<L.length
 ·have d1:(64:Int)<(L.length:Int):=by omega
  rw [if_pos h1]
  clear hc hall hv hv0
  go_enter Tryz.func70,Tryz.ntmps70
  go_wp2_with (first|((with_reducible refine qah ?_);refine qaa (cs':=[.slice none 0 0,.int .i64 0,.bool false,.bool false,.bool false,.bool false,.bool false,.int .i64 0,.int .i64 0,.int .i64 0,.int .i64 0]) hX aggT sizT _ _ rfl rfl rfl rfl rfl rfl rfl rfl (by intro u hu;simp at hu;rcases hu with rfl|rfl|rfl|rfl|rfl|rfl|rfl|rfl|rfl|rfl|rfl<;>rfl) ?_;clear hX;intro wz hX hkz))
  exact bodyPost_ret (qam Tryz.results70 rfl ((hX.all _ _ _ (.head _)).loadVar rfl aggT sizT)) rfl ⟨_,rfl,TpX.z X _,hX.below⟩
 have d1:¬ (64:Int)<(L.length:Int):=by omega
 rw [if_neg h1]
 obtain ⟨RR,hRR⟩:∃ RR,(if shortV L=true then (Tp.new L,(0:Int)) else (Tp.z,7))=RR:=⟨_,rfl⟩
 rw [hRR]
 generalize shortV L=sh at *
 replace hRR:=hid hRR
 clear hv
 go_enter Tryz.func70,Tryz.ntmps70
 go_wp2
 clear d1
 go_loopw [4] (fun iv wr=>∃ i:Nat,i≤L.length∧iv=.int .i64 i∧Hid (∀ (j:Nat) s,j<i→L[j]? = some s→s.size≤512)∧Bag [(w.heap.size,42,[.slice none 0 0,.int .i64 0,.bool false,.bool false,.bool false,.bool false,.bool false,.int .i64 0,.int .i64 0,.int .i64 0,.int .i64 0])] w wr) (fun i _=>match i with|.int _ q=>L.length - q.toNat|_=>0)
 case atStart=>exact ⟨0,Nat.zero_le _,rfl,fun j s hj=>absurd hj (Nat.not_lt_zero j),hX⟩
 case round =>
  clear hX
  obtain ⟨i,hi,rfl,hN,hX⟩:=hrel
  by_cases hin:i<L.length
  ·have hii:(i:Int)<(L.length:Int):=by omega
   have hx:=List.getElem?_eq_getElem hin
   have hm:=List.getElem_mem hin
   generalize L[i]=x at *
   obtain ⟨a,rfl,hL⟩:=hc i x hx
   by_cases hsz:x.size≤512
   ·have hszi:¬ (512:Int)<(x.size:Int):=by omega
    have hN2:Hid (∀ (j:Nat) s,j<i+1→L[j]? = some s→s.size≤512):=fun j s hj hs=>by
     rcases (by omega:j<i∨j=i) with h|rfl
     ·exact (show ∀ (j:Nat) s,j<i→L[j]? = some s→s.size≤512 from hN) j s h hs
     ·rw [hx] at hs;cases hs;exact hsz
    clear hN hx hsz hc hall hm hv0
    go_wp2_with (first|((with_reducible refine qab ?_);refine qaq rfl 9 _ _ _ rfl rfl (hL _ hX.below) ?_))
    exact ⟨⟨i+1,by omega,by go_num,hN2,hX⟩,by simp only;omega⟩
   ·have hszi:(512:Int)<(x.size:Int):=by omega
    have hr:sh=false:=by cases sh;rfl;exact absurd (hall.1 rfl x hm) hsz
    subst hr
    obtain rfl:(Tp.z,(7:Int))=RR:=hRR
    clear hN hx hsz hc hall hm hv0
    go_wp2_with (first|((with_reducible refine qab ?_);refine qaq rfl 9 _ _ _ rfl rfl (hL _ hX.below) ?_)|((with_reducible refine qah ?_);refine qaa (cs':=[.slice none 0 0,.int .i64 0,.bool false,.bool false,.bool false,.bool false,.bool false,.int .i64 0,.int .i64 0,.int .i64 0,.int .i64 0]) hX aggT sizT _ _ rfl rfl rfl rfl rfl rfl rfl rfl (by intro u hu;simp at hu;rcases hu with rfl|rfl|rfl|rfl|rfl|rfl|rfl|rfl|rfl|rfl|rfl<;>rfl) ?_;clear hX;intro wz hX hkz))
    exact bodyPost_ret (qam Tryz.results70 rfl ((hX.all _ _ _ (.head _)).loadVar rfl aggT sizT)) rfl ⟨_,rfl,TpX.z X _,hX.below⟩
  ·have hii:¬ (i:Int)<(L.length:Int):=by omega
   have hr:sh=true:=hall.2 fun s hs=>by
    obtain ⟨j,hj⟩:=List.mem_iff_getElem?.1 hs
    have hjl:j<L.length:=(List.getElem?_eq_some_iff.1 hj).1
    exact (show ∀ (j:Nat) s,j<i→L[j]? = some s→s.size≤512 from hN) j s (by omega) hj
   subst hr
   obtain rfl:(Tp.new L,(0:Int))=RR:=hRR
   have hlt:=(hX.all _ _ _ (.head _)).lt
   clear hall hN hc
   rcases Rz.form hv0 with ⟨h2,h3,h4⟩|⟨a,c',h2,_⟩
   ·obtain rfl:L=[]:=by cases L;rfl;simp at h4
    cases h2
    have hown:=qbe wr 9
    go_wp2_with (first|(at_builtin;refine qd5 rfl (.tmp 22) (.tmp 23) rfl wr.heap.size _ 0 [] rfl hown rfl ?_;replace hX:=hX.step ((Below.refl _ _).alloc (Nat.le_refl _) (.cells #[] 9)))|((with_reducible refine qah ?_);refine qaa (cs':=[(.slice (some ⟨wr.heap.size,0,none⟩) 0 0),.int .i64 0,.bool false,.bool true,.bool false,.bool false,.bool false,.int .i64 0,.int .i64 0,.int .i64 0,.int .i64 0]) hX aggT sizT _ _ rfl rfl rfl rfl rfl rfl rfl rfl (by intro u hu;simp at hu;rcases hu with rfl|rfl|rfl|rfl|rfl|rfl|rfl|rfl|rfl|rfl|rfl<;>rfl) ?_;clear hX;intro wz hX hkz))
    replace hown:=qca hown (fun k hk=>hkz k (by omega))
    exact bodyPost_ret (qam Tryz.results70 rfl ((hX.all _ _ _ (.head _)).loadVar rfl aggT sizT)) rfl ⟨_,rfl,⟨_,rfl,qdv (fun b hb=>by have:=hXl b hb;omega) (hid rfl) (hid rfl) hown⟩,hX.below⟩
   ·cases h2
    have hcl:=Rz.cell (Rz.below (Rz.below hv0 hX.below) ((Below.refl _ _).alloc (Nat.le_refl _) (.cells #[] 9)))
    go_wp2_with (first|(at_builtin;refine qcd rfl (.tmp 22) (.tmp 23) rfl wr.heap.size _ 0 [] rfl (qbe wr _) a L.length c (L.map Value.string) rfl (by simp) hcl (qfe L) (by omega) (by simp) ?_;intro v2 w2 ho2 hb2 _;rw [Nat.zero_add,List.nil_append] at ho2;replace hX:=hX.step (((Below.refl _ _).alloc (Nat.le_refl _) (.cells #[] 9)).trans hb2);clear hb2;obtain ⟨A2,c2,rfl,_,_⟩:=Rw.of_own ho2)|((with_reducible refine qah ?_);refine qaa (cs':=[(.slice A2 L.length c2),.int .i64 0,.bool false,.bool true,.bool false,.bool false,.bool false,.int .i64 0,.int .i64 0,.int .i64 0,.int .i64 0]) hX aggT sizT _ _ rfl rfl rfl rfl rfl rfl rfl rfl (by intro u hu;simp at hu;rcases hu with rfl|rfl|rfl|rfl|rfl|rfl|rfl|rfl|rfl|rfl|rfl<;>rfl) ?_;clear hX;intro wz hX hkz))
    replace ho2:=qca ho2 (fun k hk=>hkz k (by omega))
    exact bodyPost_ret (qam Tryz.results70 rfl ((hX.all _ _ _ (.head _)).loadVar rfl aggT sizT)) rfl ⟨_,rfl,⟨_,rfl,qdv (fun b hb=>by have:=hXl b hb;omega) (hid rfl) (hid rfl) ho2⟩,hX.below⟩
theorem qnb (K:Tp) (hl:K.R.length≤1099511627776) (vs:Value) (w:World) (hs:Sts w vs K.R):Calls Tryz.prog 35 #[.agg #[vs,.int .i64 (K).p,.bool (K).n,.bool (K).r,.bool (K).e,.bool (K).m,.bool (K).d,.int .i64 (K).c,.int .i64 (K).k,.int .i64 (K).a,.int .i64 (K).l]] w fun e' w'=>e'=.returned (.bool K.right)∧Below w.heap.size w w':=by
 obtain ⟨A,c1,rfl,_,hc⟩:=hs.form
 have hri:K.right=true↔(K.R.length≤64∧0≤K.p∧K.p≤(K.R.length:Int)∧0≤K.c∧K.c≤6∧wordV_17 K.k=true∧wordV_17 K.a=true)∧(∀ s∈K.R,s.size≤512)∧(0≤K.l∧K.l≤16)∧K.r=decide (K.l=0):=by
  unfold Tp.right
  rw [Bool.and_eq_true,Tp.ok_iff,qee]
  constructor
  ·rintro ⟨⟨h1,⟨h2,h3⟩,⟨h4,h5⟩,h6,h7,h8,h9⟩,h10⟩;exact ⟨⟨h1,h2,h3,h4,h5,h6,h7⟩,h10,h8,h9⟩
  ·rintro ⟨⟨h1,h2,h3,h4,h5,h6,h7⟩,h10,h8,h9⟩;exact ⟨⟨h1,⟨h2,h3⟩,⟨h4,h5⟩,h6,h7,h8,h9⟩,h10⟩
 obtain ⟨R,p,n,r,e,m,d,c,k,a,l⟩:=K
 dsimp only at hri hc hl ⊢
 have hX:=(Bag.nil w).new 42 [(.slice A R.length c1),.int .i64 p,.bool n,.bool r,.bool e,.bool m,.bool d,.int .i64 c,.int .i64 k,.int .i64 a,.int .i64 l]
 generalize Tp.right _=RR at *
 have hwk:=fun w=>qin k w
 have hwa:=fun w=>qin a w
 clear hs
 by_cases q:64<R.length
 ·have hr:RR=false:=by cases RR;rfl;have:=(hri.1 rfl).1;omega
  subst hr
  have q1:decide ((64:Int)<(R.length:Int))=true:=decide_eq_true (by omega)
  have q1i:(64:Int)<(R.length:Int):=by omega
  clear hri hc
  go_enter Tryz.func35,Tryz.ntmps35
  go_wp2_with (first|((with_reducible refine qab ?_);refine lc hX ?_)|(go_at_call 79;first|(with_reducible refine cst hX (hwk _) ?_;clear hX;intro w' hX)|(with_reducible refine cst hX (hwa _) ?_;clear hX;intro w' hX)))
  go_ret
  exact ⟨rfl,hX.below⟩
 have q1:decide ((64:Int)<(R.length:Int))=false:=decide_eq_false (by omega)
 replace q:=hid q
 have q1h:=q
 clear q
 by_cases q:p<0
 ·have hr:RR=false:=by cases RR;rfl;have:=(hri.1 rfl).1;omega
  subst hr
  have q2:decide (p<0)=true:=decide_eq_true (by omega)
  have q2i:p<0:=by omega
  clear hri hc
  go_enter Tryz.func35,Tryz.ntmps35
  go_wp2_with (first|((with_reducible refine qab ?_);refine lc hX ?_)|(go_at_call 79;first|(with_reducible refine cst hX (hwk _) ?_;clear hX;intro w' hX)|(with_reducible refine cst hX (hwa _) ?_;clear hX;intro w' hX)))
  go_ret
  exact ⟨rfl,hX.below⟩
 have q2:decide (p<0)=false:=decide_eq_false (by omega)
 replace q:=hid q
 have q2h:=q
 clear q
 by_cases q:(R.length:Int)<p
 ·have hr:RR=false:=by cases RR;rfl;have:=(hri.1 rfl).1;omega
  subst hr
  have q3:decide ((R.length:Int)<p)=true:=decide_eq_true (by omega)
  have q3i:(R.length:Int)<p:=by omega
  clear hri hc
  go_enter Tryz.func35,Tryz.ntmps35
  go_wp2_with (first|((with_reducible refine qab ?_);refine lc hX ?_)|(go_at_call 79;first|(with_reducible refine cst hX (hwk _) ?_;clear hX;intro w' hX)|(with_reducible refine cst hX (hwa _) ?_;clear hX;intro w' hX)))
  go_ret
  exact ⟨rfl,hX.below⟩
 have q3:decide ((R.length:Int)<p)=false:=decide_eq_false (by omega)
 replace q:=hid q
 have q3h:=q
 clear q
 by_cases q:c<0
 ·have hr:RR=false:=by cases RR;rfl;have:=(hri.1 rfl).1;omega
  subst hr
  have q4:decide (c<0)=true:=decide_eq_true (by omega)
  have q4i:c<0:=by omega
  clear hri hc
  go_enter Tryz.func35,Tryz.ntmps35
  go_wp2_with (first|((with_reducible refine qab ?_);refine lc hX ?_)|(go_at_call 79;first|(with_reducible refine cst hX (hwk _) ?_;clear hX;intro w' hX)|(with_reducible refine cst hX (hwa _) ?_;clear hX;intro w' hX)))
  go_ret
  exact ⟨rfl,hX.below⟩
 have q4:decide (c<0)=false:=decide_eq_false (by omega)
 replace q:=hid q
 have q4h:=q
 clear q
 by_cases q:6<c
 ·have hr:RR=false:=by cases RR;rfl;have:=(hri.1 rfl).1;omega
  subst hr
  have q5:decide (6<c)=true:=decide_eq_true (by omega)
  have q5i:6<c:=by omega
  clear hri hc
  go_enter Tryz.func35,Tryz.ntmps35
  go_wp2_with (first|((with_reducible refine qab ?_);refine lc hX ?_)|(go_at_call 79;first|(with_reducible refine cst hX (hwk _) ?_;clear hX;intro w' hX)|(with_reducible refine cst hX (hwa _) ?_;clear hX;intro w' hX)))
  go_ret
  exact ⟨rfl,hX.below⟩
 have q5:decide (6<c)=false:=decide_eq_false (by omega)
 replace q:=hid q
 have q5h:=q
 clear q
 cases q:wordV_17 k
 ·have hr:RR=false:=by cases RR;rfl;have h:=(hri.1 rfl).1;simp [q] at h
  subst hr
  rw [q] at hwk
  clear hri hc
  go_enter Tryz.func35,Tryz.ntmps35
  go_wp2_with (first|((with_reducible refine qab ?_);refine lc hX ?_)|(go_at_call 79;first|(with_reducible refine cst hX (hwk _) ?_;clear hX;intro w' hX)|(with_reducible refine cst hX (hwa _) ?_;clear hX;intro w' hX)))
  go_ret
  exact ⟨rfl,hX.below⟩
 rw [q] at hwk
 cases q:wordV_17 a
 ·have hr:RR=false:=by cases RR;rfl;have h:=(hri.1 rfl).1;simp [q] at h
  subst hr
  rw [q] at hwa
  clear hri hc
  go_enter Tryz.func35,Tryz.ntmps35
  go_wp2_with (first|((with_reducible refine qab ?_);refine lc hX ?_)|(go_at_call 79;first|(with_reducible refine cst hX (hwk _) ?_;clear hX;intro w' hX)|(with_reducible refine cst hX (hwa _) ?_;clear hX;intro w' hX)))
  go_ret
  exact ⟨rfl,hX.below⟩
 rw [q] at hwa
 have hri2:RR=true↔(∀ s∈R,s.size≤512)∧(0≤l∧l≤16)∧r=decide (l=0):=⟨fun h=>(hri.1 h).2,fun h=>hri.2 ⟨⟨by have:=(show ¬ 64<R.length from q1h);omega,by have:=(show ¬ p<0 from q2h);omega,by have:=(show ¬ (R.length:Int)<p from q3h);omega,by have:=(show ¬ c<0 from q4h);omega,by have:=(show ¬ 6<c from q5h);omega,by assumption,by assumption⟩,h⟩⟩
 clear hri q1h q2h q3h q4h q5h
 go_enter Tryz.func35,Tryz.ntmps35
 go_wp2_with (first|((with_reducible refine qab ?_);refine lc hX ?_)|(go_at_call 79;first|(with_reducible refine cst hX (hwk _) ?_;clear hX;intro w' hX)|(with_reducible refine cst hX (hwa _) ?_;clear hX;intro w' hX)))
 clear q1 q2 q3 q4 q5 hwk hwa
 go_loopw [3] (fun iv wr=>∃ i:Nat,i≤R.length∧iv=.int .i64 i∧Hid (∀ (j:Nat) s,j<i→R[j]? = some s→s.size≤512)∧Bag [(w.heap.size,42,[(.slice A R.length c1),.int .i64 p,.bool n,.bool r,.bool e,.bool m,.bool d,.int .i64 c,.int .i64 k,.int .i64 a,.int .i64 l])] w wr) (fun i _=>match i with|.int _ q=>R.length - q.toNat|_=>0)
 case atStart=>exact ⟨0,Nat.zero_le _,rfl,fun j s hj=>absurd hj (Nat.not_lt_zero j),hX⟩
 case round =>
  clear hX
  obtain ⟨i,hi,rfl,hN,hX⟩:=hrel
  by_cases hin:i<R.length
  ·have hii:(i:Int)<(R.length:Int):=by omega
   have hx:=List.getElem?_eq_getElem hin
   have hm:=List.getElem_mem hin
   generalize R[i]=x at *
   obtain ⟨a',rfl,hL⟩:=hc i x hx
   by_cases hsz:x.size≤512
   ·have hszi:¬ (512:Int)<(x.size:Int):=by omega
    have hN2:Hid (∀ (j:Nat) s,j<i+1→R[j]? = some s→s.size≤512):=fun j s hj hs=>by
     rcases (by omega:j<i∨j=i) with h|rfl
     ·exact (show ∀ (j:Nat) s,j<i→R[j]? = some s→s.size≤512 from hN) j s h hs
     ·rw [hx] at hs;cases hs;exact hsz
    clear hN hx hsz hc hri2 hm
    go_wp2_with (first|((with_reducible refine qab ?_);first|refine lc hX ?_|refine qaq rfl 9 _ _ _ rfl rfl (hL _ hX.below) ?_))
    exact ⟨⟨i+1,by omega,by go_num,hN2,hX⟩,by simp only;omega⟩
   ·have hszi:(512:Int)<(x.size:Int):=by omega
    have hr:RR=false:=by cases RR;rfl;exact absurd ((hri2.1 rfl).1 x hm) hsz
    subst hr
    clear hN hx hsz hc hri2 hm
    go_wp2_with (first|((with_reducible refine qab ?_);first|refine lc hX ?_|refine qaq rfl 9 _ _ _ rfl rfl (hL _ hX.below) ?_))
    go_ret
    exact ⟨rfl,hX.below⟩
  ·have hii:¬ (i:Int)<(R.length:Int):=by omega
   have hall:∀ s∈R,s.size≤512:=fun s hs=>by
    obtain ⟨j,hj⟩:=List.mem_iff_getElem?.1 hs
    have hjl:j<R.length:=(List.getElem?_eq_some_iff.1 hj).1
    exact (show ∀ (j:Nat) s,j<i→R[j]? = some s→s.size≤512 from hN) j s (by omega) hj
   have hri3:RR=true↔(0≤l∧l≤16)∧r=decide (l=0):=⟨fun h=>(hri2.1 h).2,fun h=>hri2.2 ⟨hall,h⟩⟩
   clear hri2 hall hN hc
   by_cases l0:0≤l
   ·have d0:decide (0≤l)=true:=decide_eq_true l0
    by_cases l1:l≤16
    ·have d1:decide (l≤16)=true:=decide_eq_true l1
     have hd:(r == (l == 0))=RR:=by
      rw [Bool.eq_iff_iff,hri3]
      have hb:(l == 0)=decide (l=0):=by rw [Bool.eq_iff_iff];simp
      simp [l0,l1,hb]
     clear hri3 l0 l1
     go_wp2_with (first|((with_reducible refine qab ?_);refine lc hX ?_))
     go_ret
     exact ⟨by simp [hd],hX.below⟩
    ·have d1:decide (l≤16)=false:=decide_eq_false l1
     have hr:RR=false:=by cases RR;rfl;have:=(hri3.1 rfl).1;omega
     subst hr
     clear hri3 l0 l1
     go_wp2_with (first|((with_reducible refine qab ?_);refine lc hX ?_))
     go_ret
     exact ⟨rfl,hX.below⟩
   ·have d0:decide (0≤l)=false:=decide_eq_false l0
    have hr:RR=false:=by cases RR;rfl;have:=(hri3.1 rfl).1;omega
    subst hr
    clear hri3 l0
    go_wp2_with (first|((with_reducible refine qab ?_);refine lc hX ?_))
    go_ret
    exact ⟨rfl,hX.below⟩
set_option maxHeartbeats 1000000
theorem qbh {a b:Bool} (h:a=b):Ending.returned (.bool a)=.returned (.bool b):=by rw [h]
theorem qb4 {B:Nat} {a w:World} (h:Below B a w) (q:Nat):Below B a (w.drewN q):=⟨h.os,h.tape,h.output,h.size,h.block⟩
theorem okS_in {n:Int} (h1:256≤n) (h2:n≤32768) (h3:n%64=0):okS n=true:=by simp [okS,h1,h2,h3]
theorem qgf {n:Int} (h:¬(256≤n∧n≤32768∧n%64=0)):okS n=false:=by
 cases e:okS n
 ·rfl
 ·exact absurd (by simpa [okS] using e) h
theorem qrk {n:Int}:okS n=true↔256≤n∧n≤32768∧n%64=0:=by simp [okS]
theorem qml (n:Int) (w:World):Calls Tryz.prog 72 #[.int .i64 n] w fun e w'=>e=.returned (.bool (okS n))∧w=w':=by
 by_cases h1:256≤n
 ·by_cases h2:n≤32768
  ·have h0:0≤n:=by omega
   by_cases h3:n%64=0
   ·rw [okS_in h1 h2 h3]
    go_enter Tryz.func72,Tryz.ntmps72
    go_wp2
    go_ret
    exact ⟨rfl,rfl⟩
   ·rw [qgf (fun k=>h3 k.2.2)]
    go_enter Tryz.func72,Tryz.ntmps72
    go_wp2
    go_ret
    exact ⟨qbh (by simp [h3]),rfl⟩
  ·rw [qgf (fun k=>h2 k.2.1)]
   go_enter Tryz.func72,Tryz.ntmps72
   go_wp2
   go_ret
   exact ⟨rfl,rfl⟩
 ·rw [qgf (fun k=>h1 k.1)]
  go_enter Tryz.func72,Tryz.ntmps72
  go_wp2
  go_ret
  exact ⟨rfl,rfl⟩
theorem qoy (n:Int) (w:World):Calls Tryz.prog 76 #[.int .i64 n] w fun e w'=>e=.returned (.bool (okS n))∧w=w':=by
 by_cases h1:256≤n
 ·by_cases h2:n≤32768
  ·have h0:0≤n:=by omega
   by_cases h3:n%64=0
   ·rw [okS_in h1 h2 h3]
    go_enter Tryz.func76,Tryz.ntmps76
    go_wp2
    go_ret
    exact ⟨rfl,rfl⟩
   ·rw [qgf (fun k=>h3 k.2.2)]
    go_enter Tryz.func76,Tryz.ntmps76
    go_wp2
    go_ret
    exact ⟨qbh (by simp [h3]),rfl⟩
  ·rw [qgf (fun k=>h2 k.2.1)]
   go_enter Tryz.func76,Tryz.ntmps76
   go_wp2
   go_ret
   exact ⟨rfl,rfl⟩
 ·rw [qgf (fun k=>h1 k.1)]
  go_enter Tryz.func76,Tryz.ntmps76
  go_wp2
  go_ret
  exact ⟨rfl,rfl⟩
theorem qe2 (A:Option Addr) (k c:Nat) (hk:k≤1099511627776) (w:World):Calls Tryz.prog 73 #[.slice A k c] w fun e w'=>e=.returned (.int .i64 (2*(k:Int)))∧w=w':=by
 go_enter Tryz.func73,Tryz.ntmps73
 go_wp2
 go_ret
 exact ⟨rfl,rfl⟩
theorem tmod2 (n:Int):(n.tmod 2=0)=(n%2=0):=by
 apply propext
 have:=Int.tmod_eq_emod (a:=n) (b:=2)
 constructor<;>intro h<;>split at this<;>omega
theorem odd_any (n:Int) (w:World):Calls Tryz.prog 123 #[.int .i64 n] w fun e w'=>e=.returned (.bool (!decide (n%2=0)))∧w=w':=by
 have h:=tmod2 n
 by_cases h2:n%2=0
 ·have h3:n.tmod 2=0:=by rw [h];exact h2
  rw [decide_eq_true h2]
  go_enter Tryz.func123,Tryz.ntmps123
  go_wp2
  go_ret
  exact ⟨qbh (by simp [h3]),rfl⟩
 ·have h3:¬ n.tmod 2=0:=by rw [h];exact h2
  rw [decide_eq_false h2]
  go_enter Tryz.func123,Tryz.ntmps123
  go_wp2
  go_ret
  exact ⟨qbh (by simp [h3]),rfl⟩
theorem ql6 (n:Int) (h0:0≤n) (h1:n≤9223372036854775807) (w:World):Calls Tryz.prog 84 #[.int .i64 n] w fun e w'=>e=.returned (.int .i64 (evenP n))∧w=w':=by
 go_enter Tryz.func84,Tryz.ntmps84
 go_wp2
 go_ret
 exact ⟨rfl,rfl⟩
theorem qk4 (a:Nat) (h1:a≤4611686018427387904) (w:World):Calls Tryz.prog 127 #[.int .i64 (a:Int)] w fun e w'=>e=.returned (.int .i64 ((a:Int)%2*8))∧w=w':=by
 go_enter Tryz.func127,Tryz.ntmps127
 go_wp2
 go_ret
 exact ⟨rfl,rfl⟩
def wwP (n a:Int):Bool:=accP n a false
theorem wwP_eq (n a:Int):wwP n a=(decide (a%2=0) && (decide (0≤a) && decide (a<n))):=by simp [wwP,accP]
theorem qji (A:Option Addr) (k c:Nat) (hk:k≤1099511627776) (a:Int) (w:World):Calls Tryz.prog 74 #[.slice A k c,.int .i64 a] w fun e w'=>e=.returned (.bool (wwP (2*(k:Int)) a))∧w=w':=by
 have hs:=fun w=>qe2 A k c hk w
 have ho:=fun w=>odd_any a w
 rw [wwP_eq]
 by_cases h1:a%2=0
 ·rw [decide_eq_true h1] at ho ⊢
  by_cases h2:0≤a
  ·rw [decide_eq_true h2]
   by_cases h3:a<2*(k:Int)
   ·rw [decide_eq_true h3]
    clear h1
    go_enter Tryz.func74,Tryz.ntmps74
    go_wp2_with (first|((first|(go_at_call 123;with_reducible refine (ho _).mono ?_)|(go_at_call 73;with_reducible refine (hs _).mono ?_));rintro e w' ⟨rfl,rfl⟩))
    go_ret
    exact ⟨rfl,rfl⟩
   ·rw [decide_eq_false h3]
    clear h1
    go_enter Tryz.func74,Tryz.ntmps74
    go_wp2_with (first|((first|(go_at_call 123;with_reducible refine (ho _).mono ?_)|(go_at_call 73;with_reducible refine (hs _).mono ?_));rintro e w' ⟨rfl,rfl⟩))
    go_ret
    exact ⟨qbh (by simp [h3]),rfl⟩
  ·rw [decide_eq_false h2]
   clear h1
   go_enter Tryz.func74,Tryz.ntmps74
   go_wp2_with (first|((first|(go_at_call 123;with_reducible refine (ho _).mono ?_)|(go_at_call 73;with_reducible refine (hs _).mono ?_));rintro e w' ⟨rfl,rfl⟩))
   go_ret
   exact ⟨rfl,rfl⟩
 ·rw [decide_eq_false h1] at ho ⊢
  clear h1
  go_enter Tryz.func74,Tryz.ntmps74
  go_wp2_with (first|((first|(go_at_call 123;with_reducible refine (ho _).mono ?_)|(go_at_call 73;with_reducible refine (hs _).mono ?_));rintro e w' ⟨rfl,rfl⟩))
  go_ret
  exact ⟨rfl,rfl⟩
theorem qe9 (A:Option Addr) (k c:Nat) (hk:k≤1099511627776) (a:Int) (b:Bool) (w:World):Calls Tryz.prog 82 #[.slice A k c,.int .i64 a,.bool b] w fun e w'=>e=.returned (.bool (accP (2*(k:Int)) a b))∧w=w':=by
 have hs:=fun w=>qe2 A k c hk w
 have hw:=fun w=>qji A k c hk a w
 cases b
 ·have e:accP (2*(k:Int)) a false=wwP (2*(k:Int)) a:=rfl
  rw [e]
  generalize wwP (2*(k:Int)) a=q at *
  go_enter Tryz.func82,Tryz.ntmps82
  go_wp2_with (first|(go_at_call 74;with_reducible refine (hw _).mono ?_;rintro e w' ⟨rfl,rfl⟩))
  go_ret
  exact ⟨rfl,rfl⟩
 ·have e:accP (2*(k:Int)) a true=(decide (0≤a) && decide (a<2*(k:Int))):=by simp [accP]
  rw [e]
  clear hw
  by_cases h2:0≤a
  ·rw [decide_eq_true h2]
   by_cases h3:a<2*(k:Int)
   ·rw [decide_eq_true h3]
    go_enter Tryz.func82,Tryz.ntmps82
    go_wp2_with (first|(go_at_call 73;with_reducible refine (hs _).mono ?_;rintro e w' ⟨rfl,rfl⟩))
    go_ret
    exact ⟨rfl,rfl⟩
   ·rw [decide_eq_false h3]
    go_enter Tryz.func82,Tryz.ntmps82
    go_wp2_with (first|(go_at_call 73;with_reducible refine (hs _).mono ?_;rintro e w' ⟨rfl,rfl⟩))
    go_ret
    exact ⟨qbh (by simp [h3]),rfl⟩
  ·rw [decide_eq_false h2]
   go_enter Tryz.func82,Tryz.ntmps82
   go_wp2_with (first|(go_at_call 73;with_reducible refine (hs _).mono ?_;rintro e w' ⟨rfl,rfl⟩))
   go_ret
   exact ⟨rfl,rfl⟩
theorem qkt (A:Option Addr) (k c:Nat) (hk:k≤1099511627776) (a n:Int) (ha:a≤9223372036854775807) (w:World):Calls Tryz.prog 226 #[.slice A k c,.int .i64 a,.int .i64 n] w fun e w'=>e=.returned (.bool (inR (2*(k:Int)) a n))∧w=w':=by
 have hs:=fun w=>qe2 A k c hk w
 unfold inR
 by_cases h1:0≤a
 ·rw [decide_eq_true h1]
  by_cases h2:0≤n
  ·rw [decide_eq_true h2]
   by_cases h3:n≤2*(k:Int) - a
   ·rw [decide_eq_true h3]
    go_enter Tryz.func226,Tryz.ntmps226
    go_wp2_with (first|(go_at_call 73;with_reducible refine (hs _).mono ?_;rintro e w' ⟨rfl,rfl⟩))
    go_ret
    exact ⟨rfl,rfl⟩
   ·rw [decide_eq_false h3]
    go_enter Tryz.func226,Tryz.ntmps226
    go_wp2_with (first|(go_at_call 73;with_reducible refine (hs _).mono ?_;rintro e w' ⟨rfl,rfl⟩))
    go_ret
    exact ⟨qbh (by simp [h3]),rfl⟩
  ·rw [decide_eq_false h2]
   go_enter Tryz.func226,Tryz.ntmps226
   go_wp2_with (first|(go_at_call 73;with_reducible refine (hs _).mono ?_;rintro e w' ⟨rfl,rfl⟩))
   go_ret
   exact ⟨rfl,rfl⟩
 ·rw [decide_eq_false h1]
  go_enter Tryz.func226,Tryz.ntmps226
  go_wp2_with (first|(go_at_call 73;with_reducible refine (hs _).mono ?_;rintro e w' ⟨rfl,rfl⟩))
  go_ret
  exact ⟨rfl,rfl⟩
theorem qhz (A:Option Addr) (k c:Nat) (hk:k≤1099511627776) (a n:Int) (ha:a≤9223372036854775807) (w:World):Calls Tryz.prog 143 #[.slice A k c,.int .i64 a,.int .i64 n] w fun e w'=>e=.returned (.bool (inR (2*(k:Int)) a n))∧w=w':=by
 unfold inR
 by_cases h1:0≤a
 ·rw [decide_eq_true h1]
  by_cases h2:0≤n
  ·rw [decide_eq_true h2]
   by_cases h3:n≤2*(k:Int) - a
   ·rw [decide_eq_true h3]
    have h4:a≤2*(k:Int):=by omega
    go_enter Tryz.func143,Tryz.ntmps143
    go_wp2
    go_ret
    exact ⟨rfl,rfl⟩
   ·rw [decide_eq_false h3]
    by_cases h4:a≤2*(k:Int)
    ·go_enter Tryz.func143,Tryz.ntmps143
     go_wp2
     go_ret
     exact ⟨qbh (by simp [h3]),rfl⟩
    ·go_enter Tryz.func143,Tryz.ntmps143
     go_wp2
     go_ret
     exact ⟨rfl,rfl⟩
  ·rw [decide_eq_false h2]
   go_enter Tryz.func143,Tryz.ntmps143
   go_wp2
   go_ret
   exact ⟨rfl,rfl⟩
 ·rw [decide_eq_false h1]
  go_enter Tryz.func143,Tryz.ntmps143
  go_wp2
  go_ret
  exact ⟨rfl,rfl⟩
theorem qqw {n a:Int} {b:Bool} (h:accP n a b=true):writeT n a b=0:=if_pos h
theorem qsl {n a:Int} {b:Bool} (h:accP n a b=false):writeT n a b=1:=if_neg (by rw [h];decide)
def lowN (l:List Int) (x:Int):Nat:=l.countP (fun y=>decide (y<x))
theorem qkv {a x:Int} {r:List Int} (h:a<x):lowN (a :: r) x=lowN r x+1:=by
 unfold lowN;rw [List.countP_cons,if_pos (by simpa using h)]
theorem qkr {a x:Int} {r:List Int} (hs:(a :: r).Pairwise (·<·)) (h:¬ a<x):lowN (a :: r) x=0:=by
 unfold lowN
 rw [List.countP_eq_zero]
 intro y hy
 rw [List.pairwise_cons] at hs
 rcases List.mem_cons.1 hy with rfl|hy
 ·simpa using h
 ·have:=hs.1 y hy
  simp;omega
theorem low_le (x:Int) (l:List Int):lowN l x≤l.length:=List.countP_le_length
theorem qto {x:Int}:∀ (l:List Int),l.Pairwise (·<·)→∀ (m:Nat) (y:Int),l[m]? = some y→(y<x↔m<lowN l x)
 | [],_,m,y,h=>by simp at h
 | a :: r,hs,0,y,h=>by
   obtain rfl:a=y:=by simpa using h
   by_cases hax:a<x
   ·rw [qkv hax];simp [hax]
   ·rw [qkr hs hax];simp [hax]
 | a :: r,hs,m+1,y,h=>by
   have hs':=List.pairwise_cons.1 hs
   have h':r[m]? = some y:=by simpa using h
   by_cases hax:a<x
   ·rw [qkv hax,qto r hs'.2 m y h'];omega
   ·have:=hs'.1 y (List.mem_of_getElem? h')
    rw [qkr hs hax];omega
theorem qn8 {x y:Int}:∀ (l:List Int),l.Pairwise (·<·)→l[lowN l x]? = some y→l.contains x=decide (y=x)
 | [],_,h=>by simp at h
 | a :: r,hs,h=>by
   have hs':=List.pairwise_cons.1 hs
   rw [List.contains_cons]
   by_cases hax:a<x
   ·rw [qkv hax] at h
    have hne:(x == a)=false:=by simp;omega
    rw [hne,Bool.false_or]
    exact qn8 r hs'.2 (by simpa using h)
   ·rw [qkr hs hax] at h
    obtain rfl:a=y:=by simpa using h
    by_cases e:a=x
    ·simp [e]
    ·have hr:r.contains x=false:=by
      cases q:r.contains x
      ·rfl
      ·have:=hs'.1 x (List.contains_iff_mem.1 q);omega
     rw [hr,decide_eq_false e]
     simp
     omega
theorem qoq {x:Int}:∀ (l:List Int),l.Pairwise (·<·)→l.length≤lowN l x→l.contains x=false
 | [],_,_=>rfl
 | a :: r,hs,h=>by
   have hs':=List.pairwise_cons.1 hs
   by_cases hax:a<x
   ·rw [qkv hax] at h
    have hne:(x == a)=false:=by simp;omega
    rw [List.contains_cons,hne,Bool.false_or]
    exact qoq r hs'.2 (by simpa using h)
   ·rw [qkr hs hax] at h
    simp at h
end Go.Proofs.YthpnddgfgpacpaaGreat
