import Derived.Test.YthpnddgfgpacpaaGreatRT04
import Derived.Test.YthpnddgfgpacpaaGreatRT09
import Derived.Ground.SlgfProg
import Derived.Shelf.SlicesE.IndexFunc
import Derived.Shelf.SlicesE.DeleteFunc
import Derived.KernelRfl
import Derived.Test.YthpnddgfgpacpaaGreatProg
namespace Go.Proofs.YthpnddgfgpacpaaGreat
open Go.RowKit
set_option linter.unusedSimpArgs false
set_option linter.unusedVariables false
set_option maxHeartbeats 4000000
set_option maxRecDepth 100000
attribute [local irreducible] wpQuiet
def inT (n g:Int):Bool:=decide (0≤n) && decide (n≤g)
theorem qdc (n g:Int) (w:World):Calls Tryz.prog 250 #[.int .i64 n,.int .i64 g] w fun e' w'=>e'=.returned (.bool (inT n g))∧Below w.heap.size w w':=by
 have hB:=Below.refl w.heap.size w
 unfold inT
 by_cases c0:0≤n
 ·have d0:decide (0≤n)=true:=decide_eq_true c0
  go_enter Tryz.func250,Tryz.ntmps250
  go_wp2
  go_ret
  exact ⟨by simp [d0],hB⟩
 ·have d0:decide (0≤n)=false:=decide_eq_false c0
  go_enter Tryz.func250,Tryz.ntmps250
  go_wp2
  go_ret
  exact ⟨by simp [d0],hB⟩
theorem qkx (x:ByteArray) (w:World):Calls Tryz.prog 249 #[.string x] w fun e' w'=>e'=.returned (.bool (decide (512<x.size)))∧∃ q,w'=w.drewN q:=by
 by_cases h:512<x.size
 ·have d0:decide ((512:Int)<(x.size:Int))=true:=decide_eq_true (by omega)
  rw [decide_eq_true h]
  clear h
  go_enter Tryz.func249,Tryz.ntmps249
  go_wp2
  go_ret
  exact ⟨by simp [d0],0,rfl⟩
 ·have d0:decide ((512:Int)<(x.size:Int))=false:=decide_eq_false (by omega)
  rw [decide_eq_false h]
  clear h
  go_enter Tryz.func249,Tryz.ntmps249
  go_wp2
  go_ret
  exact ⟨by simp [d0],0,rfl⟩
theorem qev (b:Bool) (n:Int) (w:World):Calls Tryz.prog 254 #[.bool b,.int .i64 n] w fun e' w'=>e'=.returned (.int .i64 (if b=true then n else 0))∧w=w':=by
 cases b
 all_goals
  go_enter Tryz.func254,Tryz.ntmps254
  go_wp2
  go_ret
  exact ⟨rfl,rfl⟩
theorem qp9 (K:Tp) (hc0:0≤K.c) (hc1:K.c≤6) (A1:Option Addr) (n1 c1:Nat) (w:World):Calls Tryz.prog 247 #[.agg #[(.slice A1 n1 c1),.int .i64 (K).p,.bool (K).n,.bool (K).r,.bool (K).e,.bool (K).m,.bool (K).d,.int .i64 (K).c,.int .i64 (K).k,.int .i64 (K).a,.int .i64 (K).l]] w fun e' w'=>e'=.returned (.int .i64 (stT K))∧Below w.heap.size w w':=by
 obtain ⟨R,p,n,r,e,m,d,c,k,a,l⟩:=K
 dsimp only at hc0 hc1
 unfold stT
 have hX:=(Bag.nil w).new 42 [(.slice A1 n1 c1),.int .i64 p,.bool n,.bool r,.bool e,.bool m,.bool d,.int .i64 c,.int .i64 k,.int .i64 a,.int .i64 l]
 dsimp only
 obtain ⟨b1,hb1,g1⟩:∃ b1:Int,(if n=true then (64:Int) else 0)=b1∧0≤b1∧b1≤64:=by cases n<;>exact ⟨_,rfl,by decide,by decide⟩
 obtain ⟨b2,hb2,g2⟩:∃ b1:Int,(if r=true then (128:Int) else 0)=b1∧0≤b1∧b1≤128:=by cases r<;>exact ⟨_,rfl,by decide,by decide⟩
 obtain ⟨b3,hb3,g3⟩:∃ b1:Int,(if m=true then (256:Int) else 0)=b1∧0≤b1∧b1≤256:=by cases m<;>exact ⟨_,rfl,by decide,by decide⟩
 obtain ⟨b4,hb4,g4⟩:∃ b1:Int,(if d=true then (512:Int) else 0)=b1∧0≤b1∧b1≤512:=by cases d<;>exact ⟨_,rfl,by decide,by decide⟩
 obtain ⟨b5,hb5,g5⟩:∃ b1:Int,(if e=true then (32768:Int) else 0)=b1∧0≤b1∧b1≤32768:=by cases e<;>exact ⟨_,rfl,by decide,by decide⟩
 have k1:=fun w=>qev n 64 w
 have k2:=fun w=>qev r 128 w
 have k3:=fun w=>qev m 256 w
 have k4:=fun w=>qev d 512 w
 have k5:=fun w=>qev e 32768 w
 rw [hb1] at k1 ⊢
 rw [hb2] at k2 ⊢
 rw [hb3] at k3 ⊢
 rw [hb4] at k4 ⊢
 rw [hb5] at k5 ⊢
 clear hb1 hb2 hb3 hb4 hb5
 have w0:IntKind.i64.wrap (2*c)=2*c:=by rw [qaf];unfold wrap64;omega
 have w0':IntKind.i64.wrap (c*2)=2*c:=by rw [qaf];unfold wrap64;omega
 have w1:IntKind.i64.wrap (2*c+b1)=2*c+b1:=by rw [qaf];unfold wrap64;omega
 have w2:IntKind.i64.wrap (2*c+b1+b2)=2*c+b1+b2:=by rw [qaf];unfold wrap64;omega
 have w3:IntKind.i64.wrap (2*c+b1+b2+b3)=2*c+b1+b2+b3:=by rw [qaf];unfold wrap64;omega
 have w4:IntKind.i64.wrap (2*c+b1+b2+b3+b4)=2*c+b1+b2+b3+b4:=by rw [qaf];unfold wrap64;omega
 have w5:IntKind.i64.wrap (2*c+b1+b2+b3+b4+b5)=2*c+b1+b2+b3+b4+b5:=by rw [qaf];unfold wrap64;omega
 clear g1 g2 g3 g4 g5 hc0 hc1
 go_enter Tryz.func247,Tryz.ntmps247
 go_wp2
 refine qa5 (fun w'=>Bag [(w.heap.size,42,[(.slice A1 n1 c1),.int .i64 p,.bool n,.bool r,.bool e,.bool m,.bool d,.int .i64 c,.int .i64 k,.int .i64 a,.int .i64 l])] w w') (by kernel_rfl) (by kernel_rfl) hX.drew ?_
 repeat
  first
   | (refine BigFrame.wpQuiet_skip (by rfl) ?_
      simp only [Act.put,sx])
   | (refine BigFrame.wpQuiet_want (by rfl) (fun K hK=>?_)
      apply Exists.intro
      refine ⟨fun wq hq=>?_,hK _ ?_⟩
      ·first
        | (refine qar 3 _ _ _ rfl rfl ((hq.all _ _ _ (.head _)).loadCell rfl qao))
        | (refine qar 4 _ _ _ rfl rfl ((hq.all _ _ _ (.head _)).loadCell rfl qbl))
        | (unfold Oper.quietAt
           go_simp
           first
            | with_reducible rfl
            | ((go_at_call 254);with_reducible refine (k1 _).mono ?_;exact fun e w' ⟨he,hw⟩=>⟨he,(by subst hw;exact hq)⟩)
            | ((go_at_call 254);with_reducible refine (k2 _).mono ?_;exact fun e w' ⟨he,hw⟩=>⟨he,(by subst hw;exact hq)⟩)
            | ((go_at_call 254);with_reducible refine (k3 _).mono ?_;exact fun e w' ⟨he,hw⟩=>⟨he,(by subst hw;exact hq)⟩)
            | ((go_at_call 254);with_reducible refine (k4 _).mono ?_;exact fun e w' ⟨he,hw⟩=>⟨he,(by subst hw;exact hq)⟩)
            | ((go_at_call 254);with_reducible refine (k5 _).mono ?_;exact fun e w' ⟨he,hw⟩=>⟨he,(by subst hw;exact hq)⟩)
          )
      clear hK K
      simp only [Act.put,sx])
 refine wpQuiet_nil ?_
 intro w4 hX
 go_wp2
 go_ret
 exact ⟨rfl,hX.below⟩
theorem qp8 (K:Tp) (g:Int) (hc0:0≤K.c) (hc1:K.c≤6) (A1:Option Addr) (n1 c1:Nat) (w:World):Calls Tryz.prog 240 #[.agg #[(.slice A1 n1 c1),.int .i64 (K).p,.bool (K).n,.bool (K).r,.bool (K).e,.bool (K).m,.bool (K).d,.int .i64 (K).c,.int .i64 (K).k,.int .i64 (K).a,.int .i64 (K).l],.int .i64 g] w fun e' w'=>e'=.returned (.tuple #[.int .i64 (K.rd g).1,.bool (K.rd g).2])∧Below w.heap.size w w':=by
 have hst:=fun w=>qp9 K hc0 hc1 A1 n1 c1 w
 obtain ⟨R,p,n,r,e,m,d,c,k,a,l⟩:=K
 dsimp only at hc0 hc1 hst
 unfold Tp.rd
 generalize stT (Tp.mk R p n r e m d c k a l)=ST at *
 have hX:=(Bag.nil w).new 42 [(.slice A1 n1 c1),.int .i64 p,.bool n,.bool r,.bool e,.bool m,.bool d,.int .i64 c,.int .i64 k,.int .i64 a,.int .i64 l]
 by_cases h0:g=0
 ·subst h0
  rw [if_pos rfl]
  go_enter Tryz.func240,Tryz.ntmps240
  go_wp2_with (first|((with_reducible refine qab ?_);refine lw hX aggT sizT ?_)|(go_at_call 247;with_reducible refine cst hX (hst _) ?_;clear hX;intro wc hX))
  go_ret2
  exact ⟨rfl,hX.below⟩
 have e0:(g == 0)=false:=by simpa using h0
 rw [if_neg h0]
 by_cases h2:g=2
 ·subst h2
  rw [if_pos rfl]
  go_enter Tryz.func240,Tryz.ntmps240
  go_wp2
  go_ret2
  exact ⟨rfl,hX.below⟩
 have e2:(g == 2)=false:=by simpa using h2
 rw [if_neg h2]
 by_cases h4:g=4
 ·subst h4
  rw [if_pos rfl]
  go_enter Tryz.func240,Tryz.ntmps240
  go_wp2
  go_ret2
  exact ⟨rfl,hX.below⟩
 have e4:(g == 4)=false:=by simpa using h4
 rw [if_neg h4]
 go_enter Tryz.func240,Tryz.ntmps240
 go_wp2
 go_ret2
 exact ⟨rfl,hX.below⟩
theorem qi9 (K:Tp) (x v:Int) (A1:Option Addr) (n1 c1:Nat) (w:World):Calls Tryz.prog 253 #[.agg #[(.slice A1 n1 c1),.int .i64 (K).p,.bool (K).n,.bool (K).r,.bool (K).e,.bool (K).m,.bool (K).d,.int .i64 (K).c,.int .i64 (K).k,.int .i64 (K).a,.int .i64 (K).l],.int .i64 x,.int .i64 v] w fun e' w'=>e'=.returned (.int .i64 (if K.r=true then v%65536 else x))∧Below w.heap.size w w':=by
 obtain ⟨R,p,n,r,e,m,d,c,k,a,l⟩:=K
 dsimp only
 have hv:=andT16 v
 have hX:=(Bag.nil w).new 42 [(.slice A1 n1 c1),.int .i64 p,.bool n,.bool r,.bool e,.bool m,.bool d,.int .i64 c,.int .i64 k,.int .i64 a,.int .i64 l]
 cases r
 ·rw [if_neg (by decide)]
  go_enter Tryz.func253,Tryz.ntmps253
  go_wp2
  go_ret
  exact ⟨rfl,hX.below⟩
 ·rw [if_pos rfl]
  go_enter Tryz.func253,Tryz.ntmps253
  go_wp2
  go_ret
  exact ⟨rfl,hX.below⟩
def cmdV (v:Int):Int:=if 6<v / 2%8 then 0 else v / 2%8
theorem qs1 (v:Int) (w:World):Calls Tryz.prog 261 #[.int .i64 v] w fun e' w'=>e'=.returned (.int .i64 (cmdV v))∧Below w.heap.size w w':=by
 have hB:=Below.refl w.heap.size w
 have h7:=andT7 (v / 2)
 unfold cmdV
 by_cases h:6<v / 2%8
 ·have d:decide (6<v / 2%8)=true:=decide_eq_true h
  rw [if_pos h]
  go_enter Tryz.func261,Tryz.ntmps261
  go_wp2
  go_ret
  exact ⟨rfl,hB⟩
 ·have d:decide (6<v / 2%8)=false:=decide_eq_false h
  rw [if_neg h]
  go_enter Tryz.func261,Tryz.ntmps261
  go_wp2
  go_ret
  exact ⟨rfl,hB⟩
theorem go_cmd (K:Tp) (v:Int):K.go (v / 2%8)=if cmdV v=0 then {K with c:=0,e:=false,m:=false,d:=false} else {K with c:=cmdV v,e:=false,m:=false,d:=false,r:=false,l:=16}:=by
 unfold Tp.go cmdV
 by_cases h:6<v / 2%8
 ·rw [if_pos h,if_pos (by omega),if_pos rfl]
 ·rw [if_neg h]
  by_cases h0:v / 2%8=0
  ·rw [if_pos (.inl h0),if_pos h0]
  ·rw [if_neg (by omega),if_neg h0]
theorem qiq (K:Tp) (A1:Option Addr) (n1 c1:Nat) (w:World):Calls Tryz.prog 263 #[.agg #[(.slice A1 n1 c1),.int .i64 (K).p,.bool (K).n,.bool (K).r,.bool (K).e,.bool (K).m,.bool (K).d,.int .i64 (K).c,.int .i64 (K).k,.int .i64 (K).a,.int .i64 (K).l]] w fun e' w'=>e'=.returned (.agg #[(.slice A1 n1 c1),.int .i64 (({K with e:=true,d:=true}:Tp)).p,.bool (({K with e:=true,d:=true}:Tp)).n,.bool (({K with e:=true,d:=true}:Tp)).r,.bool (({K with e:=true,d:=true}:Tp)).e,.bool (({K with e:=true,d:=true}:Tp)).m,.bool (({K with e:=true,d:=true}:Tp)).d,.int .i64 (({K with e:=true,d:=true}:Tp)).c,.int .i64 (({K with e:=true,d:=true}:Tp)).k,.int .i64 (({K with e:=true,d:=true}:Tp)).a,.int .i64 (({K with e:=true,d:=true}:Tp)).l])∧Below w.heap.size w w':=by
 obtain ⟨R,p,n,r,e,m,d,c,k,a,l⟩:=K
 dsimp only
 go_enter Tryz.func263,Tryz.ntmps263
 go_wp2
 exact bodyPost_ret (qaj Tryz.results263 rfl (((qa0 w _ _).all _ _ _ List.mem_cons_self).loadVar rfl aggT sizT)) rfl ⟨rfl,(qa0 w _ _).below⟩
theorem qrw (K:Tp) (v:Int) (A1:Option Addr) (n1 c1:Nat) (w:World):Calls Tryz.prog 252 #[.agg #[(.slice A1 n1 c1),.int .i64 (K).p,.bool (K).n,.bool (K).r,.bool (K).e,.bool (K).m,.bool (K).d,.int .i64 (K).c,.int .i64 (K).k,.int .i64 (K).a,.int .i64 (K).l],.int .i64 v] w fun e' w'=>e'=.returned (.agg #[(.slice A1 n1 c1),.int .i64 ((K.wr 0 v).1).p,.bool ((K.wr 0 v).1).n,.bool ((K.wr 0 v).1).r,.bool ((K.wr 0 v).1).e,.bool ((K.wr 0 v).1).m,.bool ((K.wr 0 v).1).d,.int .i64 ((K.wr 0 v).1).c,.int .i64 ((K.wr 0 v).1).k,.int .i64 ((K.wr 0 v).1).a,.int .i64 ((K.wr 0 v).1).l])∧Below w.heap.size w w':=by
 have h64:=andT64 v
 have hcm:=fun w=>qs1 v w
 have h1:(bits .and .i64 v 1 == 0)=!decide (v%2=1):=by
  have h:bits .and .i64 v 1=v%2:=qd1 (c:=1) (by decide) (qe7 _ 0 1) (by intro h;omega)
  rw [h,Bool.eq_iff_iff];simp;omega
 have hw:(K.wr 0 v).1=if K.r=true∧v%2=1 then {K with n:=decide (v / 64%2=1)}.go (v / 2%8) else {K with n:=decide (v / 64%2=1)}:=by unfold Tp.wr;rw [if_pos rfl];split<;>rfl
 rw [hw,go_cmd]
 clear hw
 obtain ⟨R,p,n,r,e,m,d,c,k,a,l⟩:=K
 dsimp only
 generalize decide (v / 64%2=1)=b1 at *
 generalize cmdV v=q at *
 have hX:=qa0 w [(.slice A1 n1 c1),.int .i64 p,.bool n,.bool r,.bool e,.bool m,.bool d,.int .i64 c,.int .i64 k,.int .i64 a,.int .i64 l] [.slice none 0 0,.int .i64 0,.bool false,.bool false,.bool false,.bool false,.bool false,.int .i64 0,.int .i64 0,.int .i64 0,.int .i64 0]
 cases r
 ·rw [if_neg (by simp)]
  go_enter Tryz.func252,Tryz.ntmps252
  go_wp2_with (first|((with_reducible refine qab ?_);first|refine lc hX ?_|refine lw hX aggT sizT ?_)|((with_reducible refine qah ?_);first|((first|refine sc (z:=.bool _) hX.swap ?_|refine sc (z:=.bool _) hX ?_);clear hX;intro wp hX hk3 hz3;clear hk3 hz3;simp only [sx] at hX)|(refine qaa (cs':=[(.slice A1 n1 c1),.int .i64 p,.bool b1,.bool false,.bool e,.bool m,.bool d,.int .i64 c,.int .i64 k,.int .i64 a,.int .i64 l]) hX.swap aggT sizT _ _ rfl rfl rfl rfl rfl rfl rfl rfl (qan rfl _ _ _ _ _ _ _ _ _ _) ?_;clear hX;intro wz hX hkz;clear hkz)|(refine qaa (cs':=[(.slice A1 n1 c1),.int .i64 p,.bool b1,.bool false,.bool e,.bool m,.bool d,.int .i64 c,.int .i64 k,.int .i64 a,.int .i64 l]) hX aggT sizT _ _ rfl rfl rfl rfl rfl rfl rfl rfl (qan rfl _ _ _ _ _ _ _ _ _ _) ?_;clear hX;intro wz hX hkz;clear hkz)))
  first|exact bodyPost_ret (qaj Tryz.results252 rfl ((hX.all _ _ _ (.head _)).loadVar rfl aggT sizT)) rfl ⟨rfl,hX.below⟩|exact bodyPost_ret (qaj Tryz.results252 rfl ((hX.all _ _ _ (.tail _ (.head _))).loadVar rfl aggT sizT)) rfl ⟨rfl,hX.below⟩
 ·by_cases hv:v%2=1
  ·rw [decide_eq_true hv] at h1
   rw [if_pos ⟨rfl,hv⟩]
   clear hv
   by_cases hq:q=0
   ·subst hq
    rw [if_pos rfl]
    go_enter Tryz.func252,Tryz.ntmps252
    go_wp2_with (first|((with_reducible refine qab ?_);first|refine lc hX ?_|refine lw hX aggT sizT ?_)|((with_reducible refine qah ?_);first|((first|refine sc (z:=.bool _) hX.swap ?_|refine sc (z:=.bool _) hX ?_);clear hX;intro wp hX hk3 hz3;clear hk3 hz3;simp only [sx] at hX)|((first|refine sc (z:=.int .i64 _) hX.swap ?_|refine sc (z:=.int .i64 _) hX ?_);clear hX;intro wp hX hk3 hz3;clear hk3 hz3;simp only [sx] at hX)|(refine qaa (cs':=[(.slice A1 n1 c1),.int .i64 p,.bool b1,.bool true,.bool false,.bool false,.bool false,.int .i64 0,.int .i64 k,.int .i64 a,.int .i64 l]) hX.swap aggT sizT _ _ rfl rfl rfl rfl rfl rfl rfl rfl (qan rfl _ _ _ _ _ _ _ _ _ _) ?_;clear hX;intro wz hX hkz;clear hkz)|(refine qaa (cs':=[(.slice A1 n1 c1),.int .i64 p,.bool b1,.bool true,.bool false,.bool false,.bool false,.int .i64 0,.int .i64 k,.int .i64 a,.int .i64 l]) hX aggT sizT _ _ rfl rfl rfl rfl rfl rfl rfl rfl (qan rfl _ _ _ _ _ _ _ _ _ _) ?_;clear hX;intro wz hX hkz;clear hkz))|(go_at_call 261;with_reducible refine cst hX (hcm _) ?_;clear hX;intro wc hX))
    first|exact bodyPost_ret (qaj Tryz.results252 rfl ((hX.all _ _ _ (.head _)).loadVar rfl aggT sizT)) rfl ⟨rfl,hX.below⟩|exact bodyPost_ret (qaj Tryz.results252 rfl ((hX.all _ _ _ (.tail _ (.head _))).loadVar rfl aggT sizT)) rfl ⟨rfl,hX.below⟩
   ·have hq2:(q != 0)=true:=by simpa using hq
    rw [if_neg hq]
    go_enter Tryz.func252,Tryz.ntmps252
    go_wp2_with (first|((with_reducible refine qab ?_);first|refine lc hX ?_|refine lw hX aggT sizT ?_)|((with_reducible refine qah ?_);first|((first|refine sc (z:=.bool _) hX.swap ?_|refine sc (z:=.bool _) hX ?_);clear hX;intro wp hX hk3 hz3;clear hk3 hz3;simp only [sx] at hX)|((first|refine sc (z:=.int .i64 _) hX.swap ?_|refine sc (z:=.int .i64 _) hX ?_);clear hX;intro wp hX hk3 hz3;clear hk3 hz3;simp only [sx] at hX)|(refine qaa (cs':=[(.slice A1 n1 c1),.int .i64 p,.bool b1,.bool false,.bool false,.bool false,.bool false,.int .i64 q,.int .i64 k,.int .i64 a,.int .i64 16]) hX.swap aggT sizT _ _ rfl rfl rfl rfl rfl rfl rfl rfl (qan rfl _ _ _ _ _ _ _ _ _ _) ?_;clear hX;intro wz hX hkz;clear hkz)|(refine qaa (cs':=[(.slice A1 n1 c1),.int .i64 p,.bool b1,.bool false,.bool false,.bool false,.bool false,.int .i64 q,.int .i64 k,.int .i64 a,.int .i64 16]) hX aggT sizT _ _ rfl rfl rfl rfl rfl rfl rfl rfl (qan rfl _ _ _ _ _ _ _ _ _ _) ?_;clear hX;intro wz hX hkz;clear hkz))|(go_at_call 261;with_reducible refine cst hX (hcm _) ?_;clear hX;intro wc hX))
    first|exact bodyPost_ret (qaj Tryz.results252 rfl ((hX.all _ _ _ (.head _)).loadVar rfl aggT sizT)) rfl ⟨rfl,hX.below⟩|exact bodyPost_ret (qaj Tryz.results252 rfl ((hX.all _ _ _ (.tail _ (.head _))).loadVar rfl aggT sizT)) rfl ⟨rfl,hX.below⟩
  ·rw [decide_eq_false hv] at h1
   rw [if_neg (by intro h;exact hv h.2)]
   go_enter Tryz.func252,Tryz.ntmps252
   go_wp2_with (first|((with_reducible refine qab ?_);first|refine lc hX ?_|refine lw hX aggT sizT ?_)|((with_reducible refine qah ?_);first|((first|refine sc (z:=.bool _) hX.swap ?_|refine sc (z:=.bool _) hX ?_);clear hX;intro wp hX hk3 hz3;clear hk3 hz3;simp only [sx] at hX)|(refine qaa (cs':=[(.slice A1 n1 c1),.int .i64 p,.bool b1,.bool true,.bool e,.bool m,.bool d,.int .i64 c,.int .i64 k,.int .i64 a,.int .i64 l]) hX.swap aggT sizT _ _ rfl rfl rfl rfl rfl rfl rfl rfl (qan rfl _ _ _ _ _ _ _ _ _ _) ?_;clear hX;intro wz hX hkz;clear hkz)|(refine qaa (cs':=[(.slice A1 n1 c1),.int .i64 p,.bool b1,.bool true,.bool e,.bool m,.bool d,.int .i64 c,.int .i64 k,.int .i64 a,.int .i64 l]) hX aggT sizT _ _ rfl rfl rfl rfl rfl rfl rfl rfl (qan rfl _ _ _ _ _ _ _ _ _ _) ?_;clear hX;intro wz hX hkz;clear hkz)))
   first|exact bodyPost_ret (qaj Tryz.results252 rfl ((hX.all _ _ _ (.head _)).loadVar rfl aggT sizT)) rfl ⟨rfl,hX.below⟩|exact bodyPost_ret (qaj Tryz.results252 rfl ((hX.all _ _ _ (.tail _ (.head _))).loadVar rfl aggT sizT)) rfl ⟨rfl,hX.below⟩
end Go.Proofs.YthpnddgfgpacpaaGreat
namespace Go.Proofs
open Go.Shelf
def Tryz.laysSlH6_f89_ren:Go.Shelf.Ren:=⟨fun|6=>227|n=>n,fun|22=>26|23=>3|25=>128|3=>3|0=>0|4=>4|n=>n,fun|n=>n⟩
theorem Tryz.laysSlH6_ix:Go.Proofs.SlLaysH.n6 Tryz.prog Tryz.laysSlH6_f89_ren:={
 mixed:=by kernel_rfl
 f6:=⟨Tryz.f227.name,by decide,Tryz.func227.trans (congrArg some (by kernel_rfl))⟩
 t0:=Tryz.underlying0
 a0:=Tryz.isAgg0
 z0:=Tryz.sizeOf0
 v0:=Tryz.zeroValue0
 t3:=Tryz.underlying3
 a3:=Tryz.isAgg3
 z3:=Tryz.sizeOf3
 v3:=Tryz.zeroValue3
 t4:=Tryz.underlying4
 a4:=Tryz.isAgg4
 z4:=Tryz.sizeOf4
 v4:=Tryz.zeroValue4
 t22:=Tryz.underlying26
 a22:=Tryz.isAgg26
 z22:=Tryz.sizeOf26
 v22:=Tryz.zeroValue26
 a23:=Tryz.isAgg3
 z23:=Tryz.sizeOf3
 t25:=Tryz.underlying128
 a25:=Tryz.isAgg128
 z25:=Tryz.sizeOf128
 v25:=Tryz.zeroValue128}
open Go.RowKit Go.Lib in
theorem Tryz.slices_IndexFunc_empty_ix {α:Type} [Inhabited α] (a:Option Addr) (c:Nat) (fv:Value) (w:World) :
 Calls Tryz.prog 227 #[.slice a 0 c,fv] w fun e w'=>e=.returned (.int .i64 (-1))∧w'=w:=AnyE.slices_IndexFunc_empty Tryz.laysSlH6_ix a c fv w
def Tryz.laysSlH8_f37_ren:Go.Shelf.Ren:=⟨fun|8=>248|6=>255|n=>n,fun|22=>36|23=>9|25=>233|4=>4|3=>3|0=>0|n=>n,fun|n=>n⟩
theorem Tryz.laysSlH8_str:Go.Proofs.SlLaysH.n8 Tryz.prog Tryz.laysSlH8_f37_ren:={
 mixed:=by kernel_rfl
 f6:=⟨Tryz.f255.name,by decide,Tryz.func255.trans (congrArg some (by kernel_rfl))⟩
 f8:=⟨Tryz.f248.name,by decide,Tryz.func248.trans (congrArg some (by kernel_rfl))⟩
 t0:=Tryz.underlying0
 a0:=Tryz.isAgg0
 z0:=Tryz.sizeOf0
 v0:=Tryz.zeroValue0
 t3:=Tryz.underlying3
 a3:=Tryz.isAgg3
 z3:=Tryz.sizeOf3
 v3:=Tryz.zeroValue3
 t4:=Tryz.underlying4
 a4:=Tryz.isAgg4
 z4:=Tryz.sizeOf4
 v4:=Tryz.zeroValue4
 t22:=Tryz.underlying36
 a22:=Tryz.isAgg36
 z22:=Tryz.sizeOf36
 v22:=Tryz.zeroValue36
 a23:=Tryz.isAgg9
 z23:=Tryz.sizeOf9
 t25:=Tryz.underlying233
 a25:=Tryz.isAgg233
 z25:=Tryz.sizeOf233
 v25:=Tryz.zeroValue233}
open Go.RowKit Go.Lib in
theorem Tryz.slices_ContainsFunc_str {α:Type} [Inhabited α] (enc:α→Value) (p:α→Bool) (g:Nat) (lb:Array Value) (eg:∀ args w,(callFunc g args).run Tryz.prog w=.ok (.enter g args) w) (b off n c:Nat) (zs:List α) (w:World) (hp:PredAt Tryz.prog g lb enc p w) (hz:n≤zs.length) (hbig:n≤9223372036854775807) (hc:∀ j,j<zs.length→w.cell? ⟨b,off+j,none⟩=some (enc zs[j]!)) :
 Calls Tryz.prog 248 #[.slice (some ⟨b,off,none⟩) n c,.func (.func g) #[] lb] w fun e w'=>e=.returned (.bool ((zs.take n).any p))∧∃ q,w'=w.drewN q:=AnyE.slices_ContainsFunc Tryz.laysSlH8_str enc p g lb eg b off n c zs w hp hz hbig hc
def Tryz.laysSlH8_f80_ren:Go.Shelf.Ren:=⟨fun|8=>221|6=>227|n=>n,fun|22=>26|23=>3|25=>128|4=>4|3=>3|0=>0|n=>n,fun|n=>n⟩
theorem Tryz.laysSlH8_int:Go.Proofs.SlLaysH.n8 Tryz.prog Tryz.laysSlH8_f80_ren:={
 mixed:=by kernel_rfl
 f6:=⟨Tryz.f227.name,by decide,Tryz.func227.trans (congrArg some (by kernel_rfl))⟩
 f8:=⟨Tryz.f221.name,by decide,Tryz.func221.trans (congrArg some (by kernel_rfl))⟩
 t0:=Tryz.underlying0
 a0:=Tryz.isAgg0
 z0:=Tryz.sizeOf0
 v0:=Tryz.zeroValue0
 t3:=Tryz.underlying3
 a3:=Tryz.isAgg3
 z3:=Tryz.sizeOf3
 v3:=Tryz.zeroValue3
 t4:=Tryz.underlying4
 a4:=Tryz.isAgg4
 z4:=Tryz.sizeOf4
 v4:=Tryz.zeroValue4
 t22:=Tryz.underlying26
 a22:=Tryz.isAgg26
 z22:=Tryz.sizeOf26
 v22:=Tryz.zeroValue26
 a23:=Tryz.isAgg3
 z23:=Tryz.sizeOf3
 t25:=Tryz.underlying128
 a25:=Tryz.isAgg128
 z25:=Tryz.sizeOf128
 v25:=Tryz.zeroValue128}
open Go.RowKit Go.Lib in
theorem Tryz.slices_ContainsFunc_int {α:Type} [Inhabited α] (enc:α→Value) (p:α→Bool) (g:Nat) (lb:Array Value) (eg:∀ args w,(callFunc g args).run Tryz.prog w=.ok (.enter g args) w) (b off n c:Nat) (zs:List α) (w:World) (hp:PredAt Tryz.prog g lb enc p w) (hz:n≤zs.length) (hbig:n≤9223372036854775807) (hc:∀ j,j<zs.length→w.cell? ⟨b,off+j,none⟩=some (enc zs[j]!)) :
 Calls Tryz.prog 221 #[.slice (some ⟨b,off,none⟩) n c,.func (.func g) #[] lb] w fun e w'=>e=.returned (.bool ((zs.take n).any p))∧∃ q,w'=w.drewN q:=AnyE.slices_ContainsFunc Tryz.laysSlH8_int enc p g lb eg b off n c zs w hp hz hbig hc
open Go.RowKit Go.Lib in
theorem Tryz.slices_ContainsFunc_empty_str {α:Type} [Inhabited α] (a:Option Addr) (c:Nat) (fv:Value) (w:World) :
 Calls Tryz.prog 248 #[.slice a 0 c,fv] w fun e w'=>e=.returned (.bool false)∧w'=w:=AnyE.slices_ContainsFunc_empty Tryz.laysSlH8_str a c fv w
open Go.RowKit Go.Lib in
theorem Tryz.slices_ContainsFunc_empty_int {α:Type} [Inhabited α] (a:Option Addr) (c:Nat) (fv:Value) (w:World) :
 Calls Tryz.prog 221 #[.slice a 0 c,fv] w fun e w'=>e=.returned (.bool false)∧w'=w:=AnyE.slices_ContainsFunc_empty Tryz.laysSlH8_int a c fv w
def Tryz.laysSlH10_f78_ren:Go.Shelf.Ren:=⟨fun|10=>225|6=>227|n=>n,fun|22=>26|23=>3|25=>128|3=>3|4=>4|0=>0|n=>n,fun|n=>n⟩
theorem Tryz.laysSlH10_f78:Go.Proofs.SlLaysH.n10 Tryz.prog Tryz.laysSlH10_f78_ren:={
 mixed:=by kernel_rfl
 f6:=⟨Tryz.f227.name,by decide,Tryz.func227.trans (congrArg some (by kernel_rfl))⟩
 f10:=⟨Tryz.f225.name,by decide,Tryz.func225.trans (congrArg some (by kernel_rfl))⟩
 t0:=Tryz.underlying0
 a0:=Tryz.isAgg0
 z0:=Tryz.sizeOf0
 v0:=Tryz.zeroValue0
 t3:=Tryz.underlying3
 a3:=Tryz.isAgg3
 z3:=Tryz.sizeOf3
 v3:=Tryz.zeroValue3
 t4:=Tryz.underlying4
 a4:=Tryz.isAgg4
 z4:=Tryz.sizeOf4
 v4:=Tryz.zeroValue4
 t22:=Tryz.underlying26
 a22:=Tryz.isAgg26
 z22:=Tryz.sizeOf26
 v22:=Tryz.zeroValue26
 a23:=Tryz.isAgg3
 z23:=Tryz.sizeOf3
 t25:=Tryz.underlying128
 a25:=Tryz.isAgg128
 z25:=Tryz.sizeOf128
 v25:=Tryz.zeroValue128}
open Go.RowKit Go.Lib Go.Sort in
theorem Tryz.slices_DeleteFunc_T {α:Type} [Inhabited α] (enc:α→Value) (hO:OneCell enc) (p:α→Bool) (g:Nat) (lb:Array Value) (eg:∀ args w,(callFunc g args).run Tryz.prog w=.ok (.enter g args) w) (zr:α) (v23:∀ w,(zeroValue 3).run Tryz.prog w=.ok (enc zr) w) (blk off cap:Nat) (d:Array α) (w:World) (hp:PredAt Tryz.prog g lb enc p w) (hpo:PredOver Tryz.prog g lb enc p blk off d.size w) (hH:Holds enc w blk off d) (hsz:d.size≤9223372036854775807) (hcap:d.size≤cap) :
 Calls Tryz.prog 225 #[.slice (some ⟨blk,off,none⟩) d.size cap,.func (.func g) #[] lb] w fun e w'=>e=.returned (.slice (some ⟨blk,off,none⟩) (d.toList.filter fun x=>!p x).length cap)∧∃ q,w'=putRow enc (Sort.ahead w q) blk off ((d.toList.filter fun x=>!p x)++List.replicate (d.size - (d.toList.filter fun x=>!p x).length) zr).toArray:=AnyE.slices_DeleteFunc Tryz.laysSlH10_f78 enc hO p g lb eg zr v23 blk off cap d w hp hpo hH hsz hcap
end Go.Proofs
