import Derived.Test.YthpnddgfgpacpaaGreatRT04
import Derived.Test.YthpnddgfgpacpaaGreatRT15
namespace Go.Proofs.YthpnddgfgpacpaaGreat
open Go.RowKit
set_option linter.unusedSimpArgs false
set_option linter.unusedVariables false
set_option maxHeartbeats 4000000
set_option maxRecDepth 100000
attribute [local irreducible] wpQuiet
def outK (B:List Int) (a:Int) (n j:Nat):List Int:=(B.take j).filter fun b=>decide (b<a) || decide (a+2*(n:Int)≤b)
theorem qt5 (B:List Int) (a:Int) (n j:Nat):(outK B a n j).length≤j:=Nat.le_trans (List.length_filter_le _ _) (by rw [List.length_take];omega)
theorem qoa (B:List Int) (a:Int) (n:Nat):outK B a n B.length=outB B a n:=by unfold outK outB;rw [List.take_length]
theorem qkc {B:List Int} {a:Int} {n j:Nat} {x:Int} (hx:B[j]? = some x) (h:x<a∨a+2*(n:Int)≤x):outK B a n (j+1)=outK B a n j++[x]:=by
 unfold outK;rw [List.take_add_one,hx,List.filter_append];rcases h with h|h<;>simp [h]
theorem qo2 {B:List Int} {a:Int} {n j:Nat} {x:Int} (hx:B[j]? = some x) (h:¬ (x<a∨a+2*(n:Int)≤x)):outK B a n (j+1)=outK B a n j:=by
 unfold outK;rw [List.take_add_one,hx,List.filter_append];simp;omega
theorem qhu (D:Drv) (en er:Bool) (s:Int) (A:Nat) (n:Nat) (hn1:1≤n) (hn:n≤64) (hA:A≤32767) (m B:List Int) (vs vb vm vz:Value) (w:World) (X:Nat→Prop) (hXl:∀ b,X b→b<w.heap.size) (hs:StsX X w vs D.S) (hb:ItsX X w vb D.B) (hm:ItsX X w vm m) (hz:ItsX X w vz B) (hml:m.length≤1099511627776) (hzl:B.length≤1099511627776) (hl:D.B.length≤1099511627776) (hl2:D.S.length≤1099511627776) (hs0:0≤s∧s≤65535) (hr:¬ 2*(m.length:Int)<2*(A:Int)+2*((n:Nat):Int)) (he:(D.rd s).2=0) (hsz:(D.rd s).1.size=128):Calls Tryz.prog 51 #[.agg #[vs,vb,.bool en,.bool false,.bool er,.int .i64 1,.int .i64 (n:Int),.int .i64 (2*(A:Int)),.int .i64 s,.int .i64 1],vm,vz] w (TickSays (Dk.mk D en false er 1 (n:Int) (2*(A:Int)) s 1) m B X w):=by
 obtain ⟨A1,c1,rfl,_⟩:=hs.now.form
 obtain ⟨A2,c2,rfl,_⟩:=hb.now.form
 obtain ⟨A3,c3,rfl,_⟩:=hm.now.form
 obtain ⟨A4,c4,rfl,_⟩:=hz.now.form
 have h64:(Dk.mk D en false er 1 (n:Int) (2*(A:Int)) s 1).n64=n:=by unfold Dk.n64;dsimp only;omega
 have d64:¬ (64:Int)<(n:Int):=by omega
 have w0:IntKind.i64.wrap (2*(n:Int))=2*(n:Int):=by rw [qaf];unfold wrap64;omega
 have w1':IntKind.i64.wrap (2*(A:Int)+2*(n:Int))=2*(A:Int)+2*(n:Int):=by rw [qaf];unfold wrap64;omega
 have w2:IntKind.i64.wrap (2*(m.length:Int))=2*(m.length:Int):=by rw [qaf];unfold wrap64;omega
 have w3:IntKind.i64.wrap (2*(A:Int)+128)=2*(A:Int)+128:=by rw [qaf];unfold wrap64;omega
 have hfl:=fun w=>qbj (Dk.mk D en false er 1 (n:Int) (2*(A:Int)) s 0) A1 D.S.length c1 A2 D.B.length c2 w
 unfold Dk.fail at hfl
 dsimp only at hfl
 have hrd:=fun w' (h:Below w.heap.size w w')=>qbt D s hl hl2 (.slice A1 D.S.length c1) (.slice A2 D.B.length c2) w' (hs.now.below h) (hb.now.below h)
 have hsp:∀ w',Below w.heap.size w w'→Calls Tryz.prog 112 #[.slice A4 B.length c4,.int .i64 (2*(A:Int)),.int .i64 (n:Int)] w' fun e' w2=>e'=.returned (.bool (spV B (2*(A:Int)) n))∧Below w'.heap.size w' w2:=fun w' h=>qbg B (2*(A:Int)) n _ w' hzl (by omega) (by omega) (hz.now.below h)
 unfold TickSays
 rw [qcs _ _ _ rfl,h64]
 dsimp only
 rw [qb8,if_neg hr,if_neg (fun h=>h.2 he),if_neg (fun h=>h.1 rfl),if_neg (fun h=>absurd h.1 (by decide)),if_neg (by decide),if_pos rfl]
 (try dsimp only [Dk.l0,Dk.fail])
 have d1:¬ (2*(m.length:Int)<2*(A:Int)+2*(n:Int)):=by omega
 have d1b:¬ (2*(m.length:Int)<2*(A:Int)+2*(n:Int)):=by omega
 rw [he] at hrd
 have hadv:∀ D2:Drv,(Dk.mk D en false er 1 (n:Int) (2*(A:Int)) s 1).adv D2=Dk.mk D2 en true er 1 0 ((2*(A:Int)+2*(n:Int))%65536) ((s+1)%65536) 0:=fun D2=>by
  unfold Dk.adv;rw [h64];dsimp only;simp
 rw [hadv]
 (try dsimp only)
 have u1:(2*(A:Int)+2*(n:Int)).tmod 65536=(2*(A:Int)+2*(n:Int))%65536:=Int.tmod_eq_emod_of_nonneg (by omega)
 have u2:IntKind.i64.wrap ((2*(A:Int)+2*(n:Int))%65536)=(2*(A:Int)+2*(n:Int))%65536:=by rw [qaf];unfold wrap64;omega
 have u3:IntKind.i64.wrap (s+1)=s+1:=by rw [qaf];unfold wrap64;omega
 have u4:(s+1).tmod 65536=(s+1)%65536:=Int.tmod_eq_emod_of_nonneg (by omega)
 have u5:IntKind.i64.wrap ((s+1)%65536)=(s+1)%65536:=by rw [qaf];unfold wrap64;omega
 have u8:IntKind.i64.wrap (128:Int)=128:=by rw [qaf];unfold wrap64;omega
 have u9:IntKind.i64.wrap (2*(A:Int)+2*(n:Int))=2*(A:Int)+2*(n:Int):=by rw [qaf];unfold wrap64;omega
 have u6:IntKind.i64.wrap ((n:Int) - (n:Int))=0:=by rw [qaf];unfold wrap64;omega
 have u7:IntKind.i64.wrap (0:Int)=0:=by rw [qaf];unfold wrap64;omega
 generalize (D.rd s).1=sv at *
 clear he hadv hsp
 have hX:=qbi w [(.slice A1 D.S.length c1),(.slice A2 D.B.length c2),.bool en,.bool false,.bool er,.int .i64 1,.int .i64 (n:Int),.int .i64 (2*(A:Int)),.int .i64 s,.int .i64 0] [.slice none 0 0,.slice none 0 0,.bool false,.bool false,.bool false,.int .i64 0,.int .i64 0,.int .i64 0,.int .i64 0,.int .i64 0]
 clear h64
 obtain ⟨a3,rfl⟩:∃ a,A3=some a:=by
  rcases Rz.form hm.now with ⟨_,h,_⟩|⟨a,_,e,_⟩
  ·exfalso;omega
  ·cases e;exact ⟨a,rfl⟩
 obtain ⟨_,_,_,_,hcz⟩:=hz.now.form
 go_enter Tryz.func51,Tryz.ntmps51
 go_wp2_with (first|((with_reducible refine qab ?_);first|refine lc hX ?_|refine lw hX aggK sizK ?_|refine lp (ds:=[_,_]) hX aggD sizD ?_|refine qai (Bag.step hX ((Below.refl _ _).alloc (Nat.le_refl _) (.cells #[] 3))) qao _ rfl rfl rfl rfl (by first|exact .head _|exact .tail _ (.head _)) rfl ?_|refine qai (Bag.step hX ((Below.refl _ _).alloc (Nat.le_refl _) (.cells #[] 3))) qbl _ rfl rfl rfl rfl (by first|exact .head _|exact .tail _ (.head _)) rfl ?_)|(go_at_call 111;with_reducible refine cst hX (hrd _ hX.below) ?_;clear hX;intro wc hX)|(at_builtin;refine qb6 rfl (.tmp 125) (.tmp 126) rfl wc.heap.size _ 0 [] rfl (qbe wc 3) a3 m.length c3 (m.map (Value.int .i64)) rfl (by simp) (fun jz u h=>Rz.cell (Rz.below hm.now (hX.below.alloc hX.below.size _)) jz u h) (qgj m) (by omega) (by simp) ?_;intro v1 wQ ho1 hb1 hq1;clear hq1;rw [Nat.zero_add,List.nil_append] at ho1;have hNN:w.heap.size+2≤wc.heap.size:=(hX.all _ _ _ (.head _)).lt;replace hX:=(Bag.step hX ((Below.refl _ _).alloc (Nat.le_refl _) (.cells #[] 3))).stepN hb1 (fun b hb=>by simp at hb;rcases hb with rfl|rfl<;>simp<;>omega) (by omega);clear hb1))
 obtain ⟨g,cap,rfl,hcap,hcm,hbg,hgl,_⟩:=qox ho1 (by omega)
 have hmn:A+n≤m.length:=by omega
 go_wp2
 go_loopw [14] (fun iv wr=>∃ k:Nat,k≤n∧iv=.int .i64 k∧wr.ownsRow wc.heap.size 3 1 (.slice (some ⟨g,0,none⟩) m.length cap) m.length ((putM m A sv k).map (Value.int .i64))∧Bag [(w.heap.size+1,40,[.slice none 0 0,.slice none 0 0,.bool false,.bool false,.bool false,.int .i64 0,.int .i64 0,.int .i64 0,.int .i64 0,.int .i64 0]),(w.heap.size,40,[(.slice A1 D.S.length c1),(.slice A2 D.B.length c2),.bool en,.bool false,.bool er,.int .i64 1,.int .i64 (n:Int),.int .i64 (2*(A:Int)),.int .i64 s,.int .i64 0])] w wr) (fun iv _=>match iv with|.int _ q=>n - q.toNat|_=>0)
 case atStart=>exact ⟨0,Nat.zero_le _,rfl,ho1,hX⟩
 case round =>
  clear hX ho1
  obtain ⟨k,hk,rfl,hown,hX⟩:=hrel
  by_cases hkn:k<n
  ·have hki:(k:Int)<(n:Int):=by omega
   have hat:=fun w'=>qnd sv k (by omega) (by omega) w'
   have hst:=hid (show (putM m A sv (k+1)).map (Value.int .i64)=((putM m A sv k).map (Value.int .i64)).set (A+k) (.int .i64 (atV sv k)) by rw [qew,List.map_set])
   have x1:=half A
   have x2:IntKind.i64.wrap ((A:Int))=(A:Int):=by rw [qaf];unfold wrap64;omega
   have x3:IntKind.i64.wrap ((A:Int)+(k:Int))=(A:Int)+(k:Int):=by rw [qaf];unfold wrap64;omega
   have x4:(A:Int)+(k:Int)<(m.length:Int):=by omega
   have x5:(0:Int)≤(A:Int)+(k:Int):=by omega
   have x6:((A:Int)+(k:Int)).toNat=A+k:=by omega
   have hAk:A+k<m.length:=by omega
   generalize atV sv k=y at *
   go_wp2
   refine qbn (fun w'=>Bag [(w.heap.size+1,40,[.slice none 0 0,.slice none 0 0,.bool false,.bool false,.bool false,.int .i64 0,.int .i64 0,.int .i64 0,.int .i64 0,.int .i64 0]),(w.heap.size,40,[(.slice A1 D.S.length c1),(.slice A2 D.B.length c2),.bool en,.bool false,.bool er,.int .i64 1,.int .i64 (n:Int),.int .i64 (2*(A:Int)),.int .i64 s,.int .i64 0])] w w'∧w'.ownsRow wc.heap.size 3 1 (.slice (some ⟨g,0,none⟩) m.length cap) m.length ((putM m A sv k).map (Value.int .i64))) 10 (by kernel_rfl) (by kernel_rfl) ⟨hX.drew,World.ownsRow.drew hown⟩ ?_
   repeat
    first
     | (refine BigFrame.wpQuiet_skip (by rfl) ?_
        simp only [Act.put,sx])
     | (refine BigFrame.wpQuiet_want (by rfl) (fun K hK=>?_)
        apply Exists.intro
        refine ⟨fun wq hq=>?_,hK _ ?_⟩
        ·first
          | (refine qar 3 _ _ _ rfl rfl ((hq.1.all _ _ _ (.tail _ (.head _))).loadCell rfl qao))
          | (unfold Oper.quietAt
             go_simp
             first
              | with_reducible rfl
              | ((go_at_call 116);with_reducible refine (hat _).mono ?_;exact fun e w' ⟨he,hw⟩=>⟨he,hq.1.step hw,qag hq.2 hw⟩)
            )
        clear hK K
        simp only [Act.put,sx])
   refine wpQuiet_nil ?_
   intro w5 ⟨hX,hown⟩
   simp only [List.drop_succ_cons,List.drop_zero]
   (with_reducible refine qah ?_)
   refine qdh (u:=.int .i64 y) hown qbu _ _ rfl rfl rfl rfl rfl rfl hAk rfl rfl ?_
   intro w6 ho2 hb2
   replace hX:=hX.stepN hb2 (fun b hb=>by simp at hb;rcases hb with rfl|rfl<;>simp<;>omega) (by omega)
   clear hown hb2
   go_wp2
   exact ⟨⟨k+1,by omega,by go_num,by rw [show (putM m A sv (k+1)).map (Value.int .i64)=_ from hst];exact ho2,hX⟩,by simp only;omega⟩
  ·obtain rfl:n=k:=by omega
   have hki:¬ (n:Int)<(n:Int):=by omega
   have hY:ItsX (OwnA X w.heap.size) wr _ (putM m A sv n):=qd8 (qa2 hXl hNN) (hid rfl) (hid (qfw m A sv n)) hown
   have hsz0:w.heap.size+2≤wr.heap.size:=(hX.all _ _ _ (.head _)).lt
   obtain ⟨wR,rfl⟩:∃ x,x=wr:=⟨_,rfl⟩
   have hBw:=Below.refl wR.heap.size wR
   clear hown
   go_wp2
   go_loopw [15,16] (fun v iv wq=>∃ (j:Nat) (v':Value),j≤B.length∧v'=v∧iv=.int .i64 j∧wq.ownsRow wR.heap.size 3 1 v' (outK B (2*(A:Int)) n j).length ((outK B (2*(A:Int)) n j).map (Value.int .i64))∧Bag [(w.heap.size+1,40,[.slice none 0 0,.slice none 0 0,.bool false,.bool false,.bool false,.int .i64 0,.int .i64 0,.int .i64 0,.int .i64 0,.int .i64 0]),(w.heap.size,40,[(.slice A1 D.S.length c1),(.slice A2 D.B.length c2),.bool en,.bool false,.bool er,.int .i64 1,.int .i64 (n:Int),.int .i64 (2*(A:Int)),.int .i64 s,.int .i64 0])] w wq∧Below wR.heap.size wR wq) (fun _ iv _=>match iv with|.int _ q=>B.length - q.toNat|_=>0)
   case atStart=>exact ⟨0,_,Nat.zero_le _,rfl,rfl,World.ownsRow_nil _ _ _ _,hX,hBw⟩
   case round =>
    clear hX hBw
    obtain ⟨j,v,hj,rfl,rfl,hown,hX,hBw⟩:=hrel
    have hle:=qt5 B (2*(A:Int)) n j
    by_cases hjl:j<B.length
    ·have hji:(j:Int)<(B.length:Int):=by omega
     have hx:=List.getElem?_eq_getElem hjl
     generalize B[j]=x at *
     obtain ⟨a4,rfl,hL⟩:=hcz j x hx
     by_cases h1:x<2*(A:Int)
     ·have e1:decide (x<2*(A:Int))=true:=decide_eq_true h1
      have hst:=hid (qkc (a:=2*(A:Int)) (n:=n) hx (.inl h1))
      clear hx h1 hcz
      go_wp2
      refine qa5 (fun w'=>Bag [(w.heap.size+1,40,[.slice none 0 0,.slice none 0 0,.bool false,.bool false,.bool false,.int .i64 0,.int .i64 0,.int .i64 0,.int .i64 0,.int .i64 0]),(w.heap.size,40,[(.slice A1 D.S.length c1),(.slice A2 D.B.length c2),.bool en,.bool false,.bool er,.int .i64 1,.int .i64 (n:Int),.int .i64 (2*(A:Int)),.int .i64 s,.int .i64 0])] w w'∧w'.ownsRow wR.heap.size 3 1 v (outK B (2*(A:Int)) n j).length ((outK B (2*(A:Int)) n j).map (Value.int .i64))∧Below wR.heap.size wR w') (by kernel_rfl) (by kernel_rfl) ⟨hX.drew,World.ownsRow.drew hown,hBw.drew⟩ ?_
      repeat
       first
        | (refine BigFrame.wpQuiet_skip (by rfl) ?_
           simp only [Act.put,sx])
        | (refine BigFrame.wpQuiet_want (by rfl) (fun K hK=>?_)
           apply Exists.intro
           refine ⟨fun wq hq=>?_,hK _ ?_⟩
           ·first
             | (refine qar 3 _ _ _ rfl rfl (hL _ hq.1.below))
             | (refine qar 3 _ _ _ rfl rfl ((hq.1.all _ _ _ (.tail _ (.head _))).loadCell rfl qao))
             | (unfold Oper.quietAt
                go_simp
                first
                 | with_reducible rfl
               )
           clear hK K
           simp only [Act.put,sx])
      refine wpQuiet_nil ?_
      intro wS ⟨hX,hown,hBw⟩
      go_wp2_with (first|((with_reducible refine qab ?_);refine qaq rfl 3 _ _ _ rfl rfl (hL _ hX.below) ?_)|(at_builtin;refine qb6 rfl (.tmp 168) (.tmp 173) rfl wR.heap.size _ _ _ rfl (World.ownsRow.alloc hown _) ⟨wS.heap.size,0,none⟩ 1 1 [.int .i64 x] rfl rfl qc2 (fun u hu=>by simp at hu;subst hu;rfl) (by omega) (by have:=hBw.size;simp<;>omega) ?_;intro v3 w8 ho3 hb3 _;replace hX:=(Bag.step hX ((Below.refl _ _).alloc (Nat.le_refl _) (.cells #[.int .i64 x] 3))).stepN hb3 (fun b hb=>by simp at hb;rcases hb with rfl|rfl<;>simp<;>omega) (by omega);replace hBw:=(hBw.alloc hBw.size (.cells #[.int .i64 x] 3)).trans (hb3.mono (Nat.le_refl _));clear hb3))
      exact ⟨⟨j+1,v3,by omega,rfl,by go_num,by rw [show outK B (2*(A:Int)) n (j+1)=_ from hst,List.length_append,List.map_append];exact ho3,hX,hBw⟩,by simp only;omega⟩
     ·have e1:decide (x<2*(A:Int))=false:=decide_eq_false h1
      by_cases h2:2*(A:Int)+2*(n:Int)≤x
      ·have e2:decide (2*(A:Int)+2*(n:Int)≤x)=true:=decide_eq_true h2
       have hst:=hid (qkc (a:=2*(A:Int)) (n:=n) hx (.inr (by omega)))
       clear hx h1 h2 hcz
       go_wp2
       refine qa5 (fun w'=>Bag [(w.heap.size+1,40,[.slice none 0 0,.slice none 0 0,.bool false,.bool false,.bool false,.int .i64 0,.int .i64 0,.int .i64 0,.int .i64 0,.int .i64 0]),(w.heap.size,40,[(.slice A1 D.S.length c1),(.slice A2 D.B.length c2),.bool en,.bool false,.bool er,.int .i64 1,.int .i64 (n:Int),.int .i64 (2*(A:Int)),.int .i64 s,.int .i64 0])] w w'∧w'.ownsRow wR.heap.size 3 1 v (outK B (2*(A:Int)) n j).length ((outK B (2*(A:Int)) n j).map (Value.int .i64))∧Below wR.heap.size wR w') (by kernel_rfl) (by kernel_rfl) ⟨hX.drew,World.ownsRow.drew hown,hBw.drew⟩ ?_
       repeat
        first
         | (refine BigFrame.wpQuiet_skip (by rfl) ?_
            simp only [Act.put,sx])
         | (refine BigFrame.wpQuiet_want (by rfl) (fun K hK=>?_)
            apply Exists.intro
            refine ⟨fun wq hq=>?_,hK _ ?_⟩
            ·first
              | (refine qar 3 _ _ _ rfl rfl (hL _ hq.1.below))
              | (refine qar 3 _ _ _ rfl rfl ((hq.1.all _ _ _ (.tail _ (.head _))).loadCell rfl qao))
              | (unfold Oper.quietAt
                 go_simp
                 first
                  | with_reducible rfl
                )
            clear hK K
            simp only [Act.put,sx])
       refine wpQuiet_nil ?_
       intro wS ⟨hX,hown,hBw⟩
       go_wp2_with (first|((with_reducible refine qab ?_);refine qaq rfl 3 _ _ _ rfl rfl (hL _ hX.below) ?_)|(at_builtin;refine qb6 rfl (.tmp 168) (.tmp 173) rfl wR.heap.size _ _ _ rfl (World.ownsRow.alloc hown _) ⟨wS.heap.size,0,none⟩ 1 1 [.int .i64 x] rfl rfl qc2 (fun u hu=>by simp at hu;subst hu;rfl) (by omega) (by have:=hBw.size;simp<;>omega) ?_;intro v3 w8 ho3 hb3 _;replace hX:=(Bag.step hX ((Below.refl _ _).alloc (Nat.le_refl _) (.cells #[.int .i64 x] 3))).stepN hb3 (fun b hb=>by simp at hb;rcases hb with rfl|rfl<;>simp<;>omega) (by omega);replace hBw:=(hBw.alloc hBw.size (.cells #[.int .i64 x] 3)).trans (hb3.mono (Nat.le_refl _));clear hb3))
       exact ⟨⟨j+1,v3,by omega,rfl,by go_num,by rw [show outK B (2*(A:Int)) n (j+1)=_ from hst,List.length_append,List.map_append];exact ho3,hX,hBw⟩,by simp only;omega⟩
      ·have e2:decide (2*(A:Int)+2*(n:Int)≤x)=false:=decide_eq_false h2
       have hst:=hid (qo2 (a:=2*(A:Int)) (n:=n) hx (by omega))
       clear hx h1 h2 hcz
       go_wp2
       refine qa5 (fun w'=>Bag [(w.heap.size+1,40,[.slice none 0 0,.slice none 0 0,.bool false,.bool false,.bool false,.int .i64 0,.int .i64 0,.int .i64 0,.int .i64 0,.int .i64 0]),(w.heap.size,40,[(.slice A1 D.S.length c1),(.slice A2 D.B.length c2),.bool en,.bool false,.bool er,.int .i64 1,.int .i64 (n:Int),.int .i64 (2*(A:Int)),.int .i64 s,.int .i64 0])] w w'∧w'.ownsRow wR.heap.size 3 1 v (outK B (2*(A:Int)) n j).length ((outK B (2*(A:Int)) n j).map (Value.int .i64))∧Below wR.heap.size wR w') (by kernel_rfl) (by kernel_rfl) ⟨hX.drew,World.ownsRow.drew hown,hBw.drew⟩ ?_
       repeat
        first
         | (refine BigFrame.wpQuiet_skip (by rfl) ?_
            simp only [Act.put,sx])
         | (refine BigFrame.wpQuiet_want (by rfl) (fun K hK=>?_)
            apply Exists.intro
            refine ⟨fun wq hq=>?_,hK _ ?_⟩
            ·first
              | (refine qar 3 _ _ _ rfl rfl (hL _ hq.1.below))
              | (refine qar 3 _ _ _ rfl rfl ((hq.1.all _ _ _ (.tail _ (.head _))).loadCell rfl qao))
              | (unfold Oper.quietAt
                 go_simp
                 first
                  | with_reducible rfl
                )
            clear hK K
            simp only [Act.put,sx])
       refine wpQuiet_nil ?_
       intro wS ⟨hX,hown,hBw⟩
       go_wp2
       exact ⟨⟨j+1,v,by omega,rfl,by go_num,by rw [show outK B (2*(A:Int)) n (j+1)=_ from hst];exact hown,hX,hBw⟩,by simp only;omega⟩
    ·obtain rfl:j=B.length:=by omega
     have hji:¬ (B.length:Int)<(B.length:Int):=by omega
     rw [qoa] at hown
     have hO:ItsX (OwnA X w.heap.size) wr v (outB B (2*(A:Int)) n):=qd8 (qa2 hXl hsz0) (hid rfl) (hid rfl) hown
     replace hY:=hY.below hBw
     clear hcz hown
     go_wp2_with (first|((with_reducible refine qab ?_);first|refine lc hX ?_|refine lw hX aggK sizK ?_|refine lp (ds:=[_,_]) hX aggD sizD ?_)|((with_reducible refine qah ?_);first|(first|(refine qae (z:=.int .i64 _) hX.swap qbu _ _ rfl rfl rfl rfl rfl rfl (by simp) rfl rfl ?_;intro wp hX3 hk3 hz3;clear hz3;clear hX;have hX:=hX3;replace hY:=hY.over hk3 (.inr (.inl rfl));replace hO:=hO.over hk3 (.inr (.inl rfl));clear hk3 hX3;simp only [sx] at hX)|(refine qae (z:=.int .i64 _) hX qbu _ _ rfl rfl rfl rfl rfl rfl (by simp) rfl rfl ?_;intro wp hX3 hk3 hz3;clear hz3;clear hX;have hX:=hX3;replace hY:=hY.over hk3 (.inr (.inl rfl));replace hO:=hO.over hk3 (.inr (.inl rfl));clear hk3 hX3;simp only [sx] at hX))|(first|(refine qae (z:=.bool _) hX.swap qbo _ _ rfl rfl rfl rfl rfl rfl (by simp) rfl rfl ?_;intro wp hX3 hk3 hz3;clear hz3;clear hX;have hX:=hX3;replace hY:=hY.over hk3 (.inr (.inl rfl));replace hO:=hO.over hk3 (.inr (.inl rfl));clear hk3 hX3;simp only [sx] at hX)|(refine qae (z:=.bool _) hX qbo _ _ rfl rfl rfl rfl rfl rfl (by simp) rfl rfl ?_;intro wp hX3 hk3 hz3;clear hz3;clear hX;have hX:=hX3;replace hY:=hY.over hk3 (.inr (.inl rfl));replace hO:=hO.over hk3 (.inr (.inl rfl));clear hk3 hX3;simp only [sx] at hX))|(refine qaa (cs':=[(.slice A1 D.S.length c1),(.slice A2 D.B.length c2),.bool en,.bool true,.bool er,.int .i64 1,.int .i64 0,.int .i64 ((2*(A:Int)+2*(n:Int))%65536),.int .i64 ((s+1)%65536),.int .i64 0]) hX.swap aggK sizK _ _ rfl rfl rfl rfl rfl rfl rfl rfl (qav rfl rfl _ _ _ _ _ _ _ _) ?_;clear hX;intro wz hX hkz;replace hY:=hY.over hkz (.inr (.inr rfl));replace hO:=hO.over hkz (.inr (.inr rfl));clear hkz)|(refine qaa (cs':=[(.slice A1 D.S.length c1),(.slice A2 D.B.length c2),.bool en,.bool true,.bool er,.int .i64 1,.int .i64 0,.int .i64 ((2*(A:Int)+2*(n:Int))%65536),.int .i64 ((s+1)%65536),.int .i64 0]) hX aggK sizK _ _ rfl rfl rfl rfl rfl rfl rfl rfl (qav rfl rfl _ _ _ _ _ _ _ _) ?_;clear hX;intro wz hX hkz;replace hY:=hY.over hkz (.inr (.inr rfl));replace hO:=hO.over hkz (.inr (.inr rfl));clear hkz)))
     first|exact bodyPost_ret (qal Tryz.results51 rfl ((hX.all _ _ _ (.head _)).loadVar rfl aggK sizK)) rfl ⟨_,_,_,rfl,⟨_,_,rfl,hs.below hX.below,hb.below hX.below⟩,hY.less (fun _ h=>.inl h),hO.less (fun _ h=>.inl h),hX.below⟩|exact bodyPost_ret (qal Tryz.results51 rfl ((hX.all _ _ _ (.tail _ (.head _))).loadVar rfl aggK sizK)) rfl ⟨_,_,_,rfl,⟨_,_,rfl,hs.below hX.below,hb.below hX.below⟩,hY.less (fun _ h=>.inl h),hO.less (fun _ h=>.inl h),hX.below⟩
theorem qke (D:Drv) (en er:Bool) (s:Int) (A:Nat) (w1:Int) (hw1:64<w1) (hw2:w1≤65535) (hA:A≤32767) (m B:List Int) (vs vb vm vz:Value) (w:World) (X:Nat→Prop) (hXl:∀ b,X b→b<w.heap.size) (hs:StsX X w vs D.S) (hb:ItsX X w vb D.B) (hm:ItsX X w vm m) (hz:ItsX X w vz B) (hml:m.length≤1099511627776) (hzl:B.length≤1099511627776) (hl:D.B.length≤1099511627776) (hl2:D.S.length≤1099511627776) (hs0:0≤s∧s≤65535) (hr:¬ 2*(m.length:Int)<2*(A:Int)+2*((64:Nat):Int)) (he:(D.rd s).2=0) (hsz:(D.rd s).1.size=128):Calls Tryz.prog 51 #[.agg #[vs,vb,.bool en,.bool false,.bool er,.int .i64 1,.int .i64 w1,.int .i64 (2*(A:Int)),.int .i64 s,.int .i64 1],vm,vz] w (TickSays (Dk.mk D en false er 1 w1 (2*(A:Int)) s 1) m B X w):=by
 obtain ⟨A1,c1,rfl,_⟩:=hs.now.form
 obtain ⟨A2,c2,rfl,_⟩:=hb.now.form
 obtain ⟨A3,c3,rfl,_⟩:=hm.now.form
 obtain ⟨A4,c4,rfl,_⟩:=hz.now.form
 have h64:(Dk.mk D en false er 1 w1 (2*(A:Int)) s 1).n64=64:=by unfold Dk.n64;dsimp only;omega
 have d64:(64:Int)<w1:=by omega
 have w0:IntKind.i64.wrap (2*64)=2*64:=by rw [qaf];unfold wrap64;omega
 have w1':IntKind.i64.wrap (2*(A:Int)+2*64)=2*(A:Int)+2*64:=by rw [qaf];unfold wrap64;omega
 have w2:IntKind.i64.wrap (2*(m.length:Int))=2*(m.length:Int):=by rw [qaf];unfold wrap64;omega
 have w3:IntKind.i64.wrap (2*(A:Int)+128)=2*(A:Int)+128:=by rw [qaf];unfold wrap64;omega
 have hfl:=fun w=>qbj (Dk.mk D en false er 1 w1 (2*(A:Int)) s 0) A1 D.S.length c1 A2 D.B.length c2 w
 unfold Dk.fail at hfl
 dsimp only at hfl
 have hrd:=fun w' (h:Below w.heap.size w w')=>qbt D s hl hl2 (.slice A1 D.S.length c1) (.slice A2 D.B.length c2) w' (hs.now.below h) (hb.now.below h)
 have hsp:∀ w',Below w.heap.size w w'→Calls Tryz.prog 112 #[.slice A4 B.length c4,.int .i64 (2*(A:Int)),.int .i64 64] w' fun e' w2=>e'=.returned (.bool (spV B (2*(A:Int)) 64))∧Below w'.heap.size w' w2:=fun w' h=>qbg B (2*(A:Int)) 64 _ w' hzl (by omega) (by omega) (hz.now.below h)
 unfold TickSays
 rw [qcs _ _ _ rfl,h64]
 dsimp only
 rw [qb8,if_neg hr,if_neg (fun h=>h.2 he),if_neg (fun h=>h.1 rfl),if_neg (fun h=>absurd h.1 (by decide)),if_neg (by decide),if_pos rfl]
 (try dsimp only [Dk.l0,Dk.fail])
 have d1:¬ (2*(m.length:Int)<2*(A:Int)+128):=by omega
 have d1b:¬ (2*(m.length:Int)<2*(A:Int)+2*64):=by omega
 rw [he] at hrd
 have hadv:∀ D2:Drv,(Dk.mk D en false er 1 w1 (2*(A:Int)) s 1).adv D2=Dk.mk D2 en false er 1 (w1 - 64) ((2*(A:Int)+128)%65536) ((s+1)%65536) 8:=fun D2=>by
  unfold Dk.adv;rw [h64];dsimp only;rw [decide_eq_false (by omega),if_neg (by omega)];rfl
 rw [hadv]
 (try dsimp only)
 have u1:(2*(A:Int)+128).tmod 65536=(2*(A:Int)+128)%65536:=Int.tmod_eq_emod_of_nonneg (by omega)
 have u2:IntKind.i64.wrap ((2*(A:Int)+128)%65536)=(2*(A:Int)+128)%65536:=by rw [qaf];unfold wrap64;omega
 have u3:IntKind.i64.wrap (s+1)=s+1:=by rw [qaf];unfold wrap64;omega
 have u4:(s+1).tmod 65536=(s+1)%65536:=Int.tmod_eq_emod_of_nonneg (by omega)
 have u5:IntKind.i64.wrap ((s+1)%65536)=(s+1)%65536:=by rw [qaf];unfold wrap64;omega
 have u8:IntKind.i64.wrap (128:Int)=128:=by rw [qaf];unfold wrap64;omega
 have u9:IntKind.i64.wrap (2*(A:Int)+128)=2*(A:Int)+128:=by rw [qaf];unfold wrap64;omega
 have u6:IntKind.i64.wrap (w1 - 64)=w1 - 64:=by rw [qaf];unfold wrap64;omega
 have u7:(w1 - 64 == 0)=false:=by simp;omega
 generalize (D.rd s).1=sv at *
 clear he hadv hsp
 have hX:=qbi w [(.slice A1 D.S.length c1),(.slice A2 D.B.length c2),.bool en,.bool false,.bool er,.int .i64 1,.int .i64 w1,.int .i64 (2*(A:Int)),.int .i64 s,.int .i64 0] [.slice none 0 0,.slice none 0 0,.bool false,.bool false,.bool false,.int .i64 0,.int .i64 0,.int .i64 0,.int .i64 0,.int .i64 0]
 clear h64
 obtain ⟨a3,rfl⟩:∃ a,A3=some a:=by
  rcases Rz.form hm.now with ⟨_,h,_⟩|⟨a,_,e,_⟩
  ·exfalso;omega
  ·cases e;exact ⟨a,rfl⟩
 obtain ⟨_,_,_,_,hcz⟩:=hz.now.form
 go_enter Tryz.func51,Tryz.ntmps51
 go_wp2_with (first|((with_reducible refine qab ?_);first|refine lc hX ?_|refine lw hX aggK sizK ?_|refine lp (ds:=[_,_]) hX aggD sizD ?_|refine qai (Bag.step hX ((Below.refl _ _).alloc (Nat.le_refl _) (.cells #[] 3))) qao _ rfl rfl rfl rfl (by first|exact .head _|exact .tail _ (.head _)) rfl ?_|refine qai (Bag.step hX ((Below.refl _ _).alloc (Nat.le_refl _) (.cells #[] 3))) qbl _ rfl rfl rfl rfl (by first|exact .head _|exact .tail _ (.head _)) rfl ?_)|(go_at_call 111;with_reducible refine cst hX (hrd _ hX.below) ?_;clear hX;intro wc hX)|(at_builtin;refine qb6 rfl (.tmp 125) (.tmp 126) rfl wc.heap.size _ 0 [] rfl (qbe wc 3) a3 m.length c3 (m.map (Value.int .i64)) rfl (by simp) (fun jz u h=>Rz.cell (Rz.below hm.now (hX.below.alloc hX.below.size _)) jz u h) (qgj m) (by omega) (by simp) ?_;intro v1 wQ ho1 hb1 hq1;clear hq1;rw [Nat.zero_add,List.nil_append] at ho1;have hNN:w.heap.size+2≤wc.heap.size:=(hX.all _ _ _ (.head _)).lt;replace hX:=(Bag.step hX ((Below.refl _ _).alloc (Nat.le_refl _) (.cells #[] 3))).stepN hb1 (fun b hb=>by simp at hb;rcases hb with rfl|rfl<;>simp<;>omega) (by omega);clear hb1))
 obtain ⟨g,cap,rfl,hcap,hcm,hbg,hgl,_⟩:=qox ho1 (by omega)
 have hmn:A+64≤m.length:=by omega
 go_wp2
 go_loopw [14] (fun iv wr=>∃ k:Nat,k≤64∧iv=.int .i64 k∧wr.ownsRow wc.heap.size 3 1 (.slice (some ⟨g,0,none⟩) m.length cap) m.length ((putM m A sv k).map (Value.int .i64))∧Bag [(w.heap.size+1,40,[.slice none 0 0,.slice none 0 0,.bool false,.bool false,.bool false,.int .i64 0,.int .i64 0,.int .i64 0,.int .i64 0,.int .i64 0]),(w.heap.size,40,[(.slice A1 D.S.length c1),(.slice A2 D.B.length c2),.bool en,.bool false,.bool er,.int .i64 1,.int .i64 w1,.int .i64 (2*(A:Int)),.int .i64 s,.int .i64 0])] w wr) (fun iv _=>match iv with|.int _ q=>64 - q.toNat|_=>0)
 case atStart=>exact ⟨0,Nat.zero_le _,rfl,ho1,hX⟩
 case round =>
  clear hX ho1
  obtain ⟨k,hk,rfl,hown,hX⟩:=hrel
  by_cases hkn:k<64
  ·have hki:(k:Int)<64:=by omega
   have hat:=fun w'=>qnd sv k (by omega) (by omega) w'
   have hst:=hid (show (putM m A sv (k+1)).map (Value.int .i64)=((putM m A sv k).map (Value.int .i64)).set (A+k) (.int .i64 (atV sv k)) by rw [qew,List.map_set])
   have x1:=half A
   have x2:IntKind.i64.wrap ((A:Int))=(A:Int):=by rw [qaf];unfold wrap64;omega
   have x3:IntKind.i64.wrap ((A:Int)+(k:Int))=(A:Int)+(k:Int):=by rw [qaf];unfold wrap64;omega
   have x4:(A:Int)+(k:Int)<(m.length:Int):=by omega
   have x5:(0:Int)≤(A:Int)+(k:Int):=by omega
   have x6:((A:Int)+(k:Int)).toNat=A+k:=by omega
   have hAk:A+k<m.length:=by omega
   generalize atV sv k=y at *
   go_wp2
   refine qbn (fun w'=>Bag [(w.heap.size+1,40,[.slice none 0 0,.slice none 0 0,.bool false,.bool false,.bool false,.int .i64 0,.int .i64 0,.int .i64 0,.int .i64 0,.int .i64 0]),(w.heap.size,40,[(.slice A1 D.S.length c1),(.slice A2 D.B.length c2),.bool en,.bool false,.bool er,.int .i64 1,.int .i64 w1,.int .i64 (2*(A:Int)),.int .i64 s,.int .i64 0])] w w'∧w'.ownsRow wc.heap.size 3 1 (.slice (some ⟨g,0,none⟩) m.length cap) m.length ((putM m A sv k).map (Value.int .i64))) 10 (by kernel_rfl) (by kernel_rfl) ⟨hX.drew,World.ownsRow.drew hown⟩ ?_
   repeat
    first
     | (refine BigFrame.wpQuiet_skip (by rfl) ?_
        simp only [Act.put,sx])
     | (refine BigFrame.wpQuiet_want (by rfl) (fun K hK=>?_)
        apply Exists.intro
        refine ⟨fun wq hq=>?_,hK _ ?_⟩
        ·first
          | (refine qar 3 _ _ _ rfl rfl ((hq.1.all _ _ _ (.tail _ (.head _))).loadCell rfl qao))
          | (unfold Oper.quietAt
             go_simp
             first
              | with_reducible rfl
              | ((go_at_call 116);with_reducible refine (hat _).mono ?_;exact fun e w' ⟨he,hw⟩=>⟨he,hq.1.step hw,qag hq.2 hw⟩)
            )
        clear hK K
        simp only [Act.put,sx])
   refine wpQuiet_nil ?_
   intro w5 ⟨hX,hown⟩
   simp only [List.drop_succ_cons,List.drop_zero]
   (with_reducible refine qah ?_)
   refine qdh (u:=.int .i64 y) hown qbu _ _ rfl rfl rfl rfl rfl rfl hAk rfl rfl ?_
   intro w6 ho2 hb2
   replace hX:=hX.stepN hb2 (fun b hb=>by simp at hb;rcases hb with rfl|rfl<;>simp<;>omega) (by omega)
   clear hown hb2
   go_wp2
   exact ⟨⟨k+1,by omega,by go_num,by rw [show (putM m A sv (k+1)).map (Value.int .i64)=_ from hst];exact ho2,hX⟩,by simp only;omega⟩
  ·obtain rfl:k=64:=by omega
   rw [show ((64:Nat):Int)=64 from rfl]
   have hki:¬ 64<64:=by omega
   have hY:ItsX (OwnA X w.heap.size) wr _ (putM m A sv 64):=qd8 (qa2 hXl hNN) (hid rfl) (hid (qfw m A sv 64)) hown
   have hsz0:w.heap.size+2≤wr.heap.size:=(hX.all _ _ _ (.head _)).lt
   obtain ⟨wR,rfl⟩:∃ x,x=wr:=⟨_,rfl⟩
   have hBw:=Below.refl wR.heap.size wR
   clear hown
   go_wp2
   go_loopw [15,16] (fun v iv wq=>∃ (j:Nat) (v':Value),j≤B.length∧v'=v∧iv=.int .i64 j∧wq.ownsRow wR.heap.size 3 1 v' (outK B (2*(A:Int)) 64 j).length ((outK B (2*(A:Int)) 64 j).map (Value.int .i64))∧Bag [(w.heap.size+1,40,[.slice none 0 0,.slice none 0 0,.bool false,.bool false,.bool false,.int .i64 0,.int .i64 0,.int .i64 0,.int .i64 0,.int .i64 0]),(w.heap.size,40,[(.slice A1 D.S.length c1),(.slice A2 D.B.length c2),.bool en,.bool false,.bool er,.int .i64 1,.int .i64 w1,.int .i64 (2*(A:Int)),.int .i64 s,.int .i64 0])] w wq∧Below wR.heap.size wR wq) (fun _ iv _=>match iv with|.int _ q=>B.length - q.toNat|_=>0)
   case atStart=>exact ⟨0,_,Nat.zero_le _,rfl,rfl,World.ownsRow_nil _ _ _ _,hX,hBw⟩
   case round =>
    clear hX hBw
    obtain ⟨j,v,hj,rfl,rfl,hown,hX,hBw⟩:=hrel
    have hle:=qt5 B (2*(A:Int)) 64 j
    by_cases hjl:j<B.length
    ·have hji:(j:Int)<(B.length:Int):=by omega
     have hx:=List.getElem?_eq_getElem hjl
     generalize B[j]=x at *
     obtain ⟨a4,rfl,hL⟩:=hcz j x hx
     by_cases h1:x<2*(A:Int)
     ·have e1:decide (x<2*(A:Int))=true:=decide_eq_true h1
      have hst:=hid (qkc (a:=2*(A:Int)) (n:=64) hx (.inl h1))
      clear hx h1 hcz
      go_wp2
      refine qa5 (fun w'=>Bag [(w.heap.size+1,40,[.slice none 0 0,.slice none 0 0,.bool false,.bool false,.bool false,.int .i64 0,.int .i64 0,.int .i64 0,.int .i64 0,.int .i64 0]),(w.heap.size,40,[(.slice A1 D.S.length c1),(.slice A2 D.B.length c2),.bool en,.bool false,.bool er,.int .i64 1,.int .i64 w1,.int .i64 (2*(A:Int)),.int .i64 s,.int .i64 0])] w w'∧w'.ownsRow wR.heap.size 3 1 v (outK B (2*(A:Int)) 64 j).length ((outK B (2*(A:Int)) 64 j).map (Value.int .i64))∧Below wR.heap.size wR w') (by kernel_rfl) (by kernel_rfl) ⟨hX.drew,World.ownsRow.drew hown,hBw.drew⟩ ?_
      repeat
       first
        | (refine BigFrame.wpQuiet_skip (by rfl) ?_
           simp only [Act.put,sx])
        | (refine BigFrame.wpQuiet_want (by rfl) (fun K hK=>?_)
           apply Exists.intro
           refine ⟨fun wq hq=>?_,hK _ ?_⟩
           ·first
             | (refine qar 3 _ _ _ rfl rfl (hL _ hq.1.below))
             | (refine qar 3 _ _ _ rfl rfl ((hq.1.all _ _ _ (.tail _ (.head _))).loadCell rfl qao))
             | (unfold Oper.quietAt
                go_simp
                first
                 | with_reducible rfl
               )
           clear hK K
           simp only [Act.put,sx])
      refine wpQuiet_nil ?_
      intro wS ⟨hX,hown,hBw⟩
      go_wp2_with (first|((with_reducible refine qab ?_);refine qaq rfl 3 _ _ _ rfl rfl (hL _ hX.below) ?_)|(at_builtin;refine qb6 rfl (.tmp 168) (.tmp 173) rfl wR.heap.size _ _ _ rfl (World.ownsRow.alloc hown _) ⟨wS.heap.size,0,none⟩ 1 1 [.int .i64 x] rfl rfl qc2 (fun u hu=>by simp at hu;subst hu;rfl) (by omega) (by have:=hBw.size;simp<;>omega) ?_;intro v3 w8 ho3 hb3 _;replace hX:=(Bag.step hX ((Below.refl _ _).alloc (Nat.le_refl _) (.cells #[.int .i64 x] 3))).stepN hb3 (fun b hb=>by simp at hb;rcases hb with rfl|rfl<;>simp<;>omega) (by omega);replace hBw:=(hBw.alloc hBw.size (.cells #[.int .i64 x] 3)).trans (hb3.mono (Nat.le_refl _));clear hb3))
      exact ⟨⟨j+1,v3,by omega,rfl,by go_num,by rw [show outK B (2*(A:Int)) 64 (j+1)=_ from hst,List.length_append,List.map_append];exact ho3,hX,hBw⟩,by simp only;omega⟩
     ·have e1:decide (x<2*(A:Int))=false:=decide_eq_false h1
      by_cases h2:2*(A:Int)+2*64≤x
      ·have e2:decide (2*(A:Int)+2*64≤x)=true:=decide_eq_true h2
       have e3:decide (2*(A:Int)+128≤x)=true:=decide_eq_true (by omega)
       have hst:=hid (qkc (a:=2*(A:Int)) (n:=64) hx (.inr (by omega)))
       clear hx h1 h2 hcz
       go_wp2
       refine qa5 (fun w'=>Bag [(w.heap.size+1,40,[.slice none 0 0,.slice none 0 0,.bool false,.bool false,.bool false,.int .i64 0,.int .i64 0,.int .i64 0,.int .i64 0,.int .i64 0]),(w.heap.size,40,[(.slice A1 D.S.length c1),(.slice A2 D.B.length c2),.bool en,.bool false,.bool er,.int .i64 1,.int .i64 w1,.int .i64 (2*(A:Int)),.int .i64 s,.int .i64 0])] w w'∧w'.ownsRow wR.heap.size 3 1 v (outK B (2*(A:Int)) 64 j).length ((outK B (2*(A:Int)) 64 j).map (Value.int .i64))∧Below wR.heap.size wR w') (by kernel_rfl) (by kernel_rfl) ⟨hX.drew,World.ownsRow.drew hown,hBw.drew⟩ ?_
       repeat
        first
         | (refine BigFrame.wpQuiet_skip (by rfl) ?_
            simp only [Act.put,sx])
         | (refine BigFrame.wpQuiet_want (by rfl) (fun K hK=>?_)
            apply Exists.intro
            refine ⟨fun wq hq=>?_,hK _ ?_⟩
            ·first
              | (refine qar 3 _ _ _ rfl rfl (hL _ hq.1.below))
              | (refine qar 3 _ _ _ rfl rfl ((hq.1.all _ _ _ (.tail _ (.head _))).loadCell rfl qao))
              | (unfold Oper.quietAt
                 go_simp
                 first
                  | with_reducible rfl
                )
            clear hK K
            simp only [Act.put,sx])
       refine wpQuiet_nil ?_
       intro wS ⟨hX,hown,hBw⟩
       go_wp2_with (first|((with_reducible refine qab ?_);refine qaq rfl 3 _ _ _ rfl rfl (hL _ hX.below) ?_)|(at_builtin;refine qb6 rfl (.tmp 168) (.tmp 173) rfl wR.heap.size _ _ _ rfl (World.ownsRow.alloc hown _) ⟨wS.heap.size,0,none⟩ 1 1 [.int .i64 x] rfl rfl qc2 (fun u hu=>by simp at hu;subst hu;rfl) (by omega) (by have:=hBw.size;simp<;>omega) ?_;intro v3 w8 ho3 hb3 _;replace hX:=(Bag.step hX ((Below.refl _ _).alloc (Nat.le_refl _) (.cells #[.int .i64 x] 3))).stepN hb3 (fun b hb=>by simp at hb;rcases hb with rfl|rfl<;>simp<;>omega) (by omega);replace hBw:=(hBw.alloc hBw.size (.cells #[.int .i64 x] 3)).trans (hb3.mono (Nat.le_refl _));clear hb3))
       exact ⟨⟨j+1,v3,by omega,rfl,by go_num,by rw [show outK B (2*(A:Int)) 64 (j+1)=_ from hst,List.length_append,List.map_append];exact ho3,hX,hBw⟩,by simp only;omega⟩
      ·have e2:decide (2*(A:Int)+2*64≤x)=false:=decide_eq_false h2
       have e3:decide (2*(A:Int)+128≤x)=false:=decide_eq_false (by omega)
       have hst:=hid (qo2 (a:=2*(A:Int)) (n:=64) hx (by omega))
       clear hx h1 h2 hcz
       go_wp2
       refine qa5 (fun w'=>Bag [(w.heap.size+1,40,[.slice none 0 0,.slice none 0 0,.bool false,.bool false,.bool false,.int .i64 0,.int .i64 0,.int .i64 0,.int .i64 0,.int .i64 0]),(w.heap.size,40,[(.slice A1 D.S.length c1),(.slice A2 D.B.length c2),.bool en,.bool false,.bool er,.int .i64 1,.int .i64 w1,.int .i64 (2*(A:Int)),.int .i64 s,.int .i64 0])] w w'∧w'.ownsRow wR.heap.size 3 1 v (outK B (2*(A:Int)) 64 j).length ((outK B (2*(A:Int)) 64 j).map (Value.int .i64))∧Below wR.heap.size wR w') (by kernel_rfl) (by kernel_rfl) ⟨hX.drew,World.ownsRow.drew hown,hBw.drew⟩ ?_
       repeat
        first
         | (refine BigFrame.wpQuiet_skip (by rfl) ?_
            simp only [Act.put,sx])
         | (refine BigFrame.wpQuiet_want (by rfl) (fun K hK=>?_)
            apply Exists.intro
            refine ⟨fun wq hq=>?_,hK _ ?_⟩
            ·first
              | (refine qar 3 _ _ _ rfl rfl (hL _ hq.1.below))
              | (refine qar 3 _ _ _ rfl rfl ((hq.1.all _ _ _ (.tail _ (.head _))).loadCell rfl qao))
              | (unfold Oper.quietAt
                 go_simp
                 first
                  | with_reducible rfl
                )
            clear hK K
            simp only [Act.put,sx])
       refine wpQuiet_nil ?_
       intro wS ⟨hX,hown,hBw⟩
       go_wp2
       exact ⟨⟨j+1,v,by omega,rfl,by go_num,by rw [show outK B (2*(A:Int)) 64 (j+1)=_ from hst];exact hown,hX,hBw⟩,by simp only;omega⟩
    ·obtain rfl:j=B.length:=by omega
     have hji:¬ (B.length:Int)<(B.length:Int):=by omega
     rw [qoa] at hown
     have hO:ItsX (OwnA X w.heap.size) wr v (outB B (2*(A:Int)) 64):=qd8 (qa2 hXl hsz0) (hid rfl) (hid rfl) hown
     replace hY:=hY.below hBw
     clear hcz hown
     go_wp2_with (first|((with_reducible refine qab ?_);first|refine lc hX ?_|refine lw hX aggK sizK ?_|refine lp (ds:=[_,_]) hX aggD sizD ?_)|((with_reducible refine qah ?_);first|(first|(refine qae (z:=.int .i64 _) hX.swap qbu _ _ rfl rfl rfl rfl rfl rfl (by simp) rfl rfl ?_;intro wp hX3 hk3 hz3;clear hz3;clear hX;have hX:=hX3;replace hY:=hY.over hk3 (.inr (.inl rfl));replace hO:=hO.over hk3 (.inr (.inl rfl));clear hk3 hX3;simp only [sx] at hX)|(refine qae (z:=.int .i64 _) hX qbu _ _ rfl rfl rfl rfl rfl rfl (by simp) rfl rfl ?_;intro wp hX3 hk3 hz3;clear hz3;clear hX;have hX:=hX3;replace hY:=hY.over hk3 (.inr (.inl rfl));replace hO:=hO.over hk3 (.inr (.inl rfl));clear hk3 hX3;simp only [sx] at hX))|(first|(refine qae (z:=.bool _) hX.swap qbo _ _ rfl rfl rfl rfl rfl rfl (by simp) rfl rfl ?_;intro wp hX3 hk3 hz3;clear hz3;clear hX;have hX:=hX3;replace hY:=hY.over hk3 (.inr (.inl rfl));replace hO:=hO.over hk3 (.inr (.inl rfl));clear hk3 hX3;simp only [sx] at hX)|(refine qae (z:=.bool _) hX qbo _ _ rfl rfl rfl rfl rfl rfl (by simp) rfl rfl ?_;intro wp hX3 hk3 hz3;clear hz3;clear hX;have hX:=hX3;replace hY:=hY.over hk3 (.inr (.inl rfl));replace hO:=hO.over hk3 (.inr (.inl rfl));clear hk3 hX3;simp only [sx] at hX))|(refine qaa (cs':=[(.slice A1 D.S.length c1),(.slice A2 D.B.length c2),.bool en,.bool false,.bool er,.int .i64 1,.int .i64 (w1 - 64),.int .i64 ((2*(A:Int)+128)%65536),.int .i64 ((s+1)%65536),.int .i64 8]) hX.swap aggK sizK _ _ rfl rfl rfl rfl rfl rfl rfl rfl (qav rfl rfl _ _ _ _ _ _ _ _) ?_;clear hX;intro wz hX hkz;replace hY:=hY.over hkz (.inr (.inr rfl));replace hO:=hO.over hkz (.inr (.inr rfl));clear hkz)|(refine qaa (cs':=[(.slice A1 D.S.length c1),(.slice A2 D.B.length c2),.bool en,.bool false,.bool er,.int .i64 1,.int .i64 (w1 - 64),.int .i64 ((2*(A:Int)+128)%65536),.int .i64 ((s+1)%65536),.int .i64 8]) hX aggK sizK _ _ rfl rfl rfl rfl rfl rfl rfl rfl (qav rfl rfl _ _ _ _ _ _ _ _) ?_;clear hX;intro wz hX hkz;replace hY:=hY.over hkz (.inr (.inr rfl));replace hO:=hO.over hkz (.inr (.inr rfl));clear hkz)))
     first|exact bodyPost_ret (qal Tryz.results51 rfl ((hX.all _ _ _ (.head _)).loadVar rfl aggK sizK)) rfl ⟨_,_,_,rfl,⟨_,_,rfl,hs.below hX.below,hb.below hX.below⟩,hY.less (fun _ h=>.inl h),hO.less (fun _ h=>.inl h),hX.below⟩|exact bodyPost_ret (qal Tryz.results51 rfl ((hX.all _ _ _ (.tail _ (.head _))).loadVar rfl aggK sizK)) rfl ⟨_,_,_,rfl,⟨_,_,rfl,hs.below hX.below,hb.below hX.below⟩,hY.less (fun _ h=>.inl h),hO.less (fun _ h=>.inl h),hX.below⟩
end Go.Proofs.YthpnddgfgpacpaaGreat
