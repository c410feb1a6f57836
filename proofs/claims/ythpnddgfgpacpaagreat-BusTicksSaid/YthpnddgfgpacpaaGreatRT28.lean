import Derived.Test.YthpnddgfgpacpaaGreatRT04
import Derived.Test.YthpnddgfgpacpaaGreatRT08
import Derived.Test.YthpnddgfgpacpaaGreatRT25
namespace Go.Proofs.YthpnddgfgpacpaaGreat
open Go.RowKit
set_option linter.unusedSimpArgs false
set_option linter.unusedVariables false
set_option maxHeartbeats 4000000
set_option maxRecDepth 100000
attribute [local irreducible] wpQuiet
def inW (n g:Int):Bool:=decide (0≤n) && decide (n≤g)
theorem qtb (n g:Int):inW n g=true↔0≤n∧n≤g:=by unfold inW;simp
theorem qdz (n g:Int) (w:World):Calls Tryz.prog 210 #[.int .i64 n,.int .i64 g] w fun e' w'=>e'=.returned (.bool (inW n g))∧Below w.heap.size w w':=by
 have hB:=Below.refl w.heap.size w
 unfold inW
 by_cases c0:0≤n
 ·have d0:decide (0≤n)=true:=decide_eq_true c0
  go_enter Tryz.func210,Tryz.ntmps210
  go_wp2
  go_ret
  exact ⟨by simp [d0],hB⟩
 ·have d0:decide (0≤n)=false:=decide_eq_false c0
  go_enter Tryz.func210,Tryz.ntmps210
  go_wp2
  go_ret
  exact ⟨by simp [d0],hB⟩
def trB (c w:Int):Bool:=decide (c≠0) && decide (w≠0)
theorem qij (n r e:Bool) (c w1 a s l:Int) (vs vb:Value) (w:World):Calls Tryz.prog 211 #[.agg #[vs,vb,.bool n,.bool r,.bool e,.int .i64 c,.int .i64 w1,.int .i64 a,.int .i64 s,.int .i64 l]] w fun e' w'=>e'=.returned (.bool (trB c w1))∧Below w.heap.size w w':=by
 have hX:=(Bag.nil w).new 40 [vs,vb,.bool n,.bool r,.bool e,.int .i64 c,.int .i64 w1,.int .i64 a,.int .i64 s,.int .i64 l]
 unfold trB
 by_cases h1:c=0
 ·subst h1
  go_enter Tryz.func211,Tryz.ntmps211
  go_wp2_with (first|((with_reducible refine qab ?_);refine lc hX ?_))
  go_ret
  exact ⟨by simp,hX.below⟩
 ·have d1:(c != 0)=true:=by simpa using h1
  go_enter Tryz.func211,Tryz.ntmps211
  go_wp2_with (first|((with_reducible refine qab ?_);refine lc hX ?_))
  go_ret
  refine ⟨?_,hX.below⟩
  have e:(w1 != 0)=decide (w1≠0):=by rw [Bool.eq_iff_iff];simp
  simp [h1,e]
theorem qmk (n r e:Bool) (c w1 a s l:Int) (D:Drv) (hc0:0≤c) (hc1:c≤3) (vs vb:Value) (w:World):Calls Tryz.prog 209 #[.agg #[vs,vb,.bool n,.bool r,.bool e,.int .i64 c,.int .i64 w1,.int .i64 a,.int .i64 s,.int .i64 l]] w fun e' w'=>e'=.returned (.int .i64 (stK (Dk.mk D n r e c w1 a s l)))∧Below w.heap.size w w':=by
 unfold stK
 have hX:=(Bag.nil w).new 40 [vs,vb,.bool n,.bool r,.bool e,.int .i64 c,.int .i64 w1,.int .i64 a,.int .i64 s,.int .i64 l]
 have w0:IntKind.i64.wrap (2*c)=2*c:=by rw [qaf];unfold wrap64;omega
 have w1':IntKind.i64.wrap (2*c+64)=2*c+64:=by rw [qaf];unfold wrap64;omega
 have w2:IntKind.i64.wrap (2*c+128)=2*c+128:=by rw [qaf];unfold wrap64;omega
 have w3:IntKind.i64.wrap (2*c+64+128)=2*c+64+128:=by rw [qaf];unfold wrap64;omega
 have w4:IntKind.i64.wrap (2*c+32768)=2*c+32768:=by rw [qaf];unfold wrap64;omega
 have w5:IntKind.i64.wrap (2*c+64+32768)=2*c+64+32768:=by rw [qaf];unfold wrap64;omega
 have w6:IntKind.i64.wrap (2*c+128+32768)=2*c+128+32768:=by rw [qaf];unfold wrap64;omega
 have w7:IntKind.i64.wrap (2*c+64+128+32768)=2*c+64+128+32768:=by rw [qaf];unfold wrap64;omega
 cases n<;>cases r<;>cases e
 all_goals
  go_enter Tryz.func209,Tryz.ntmps209
  go_wp2
  go_ret
  exact ⟨by simp,hX.below⟩
theorem qpy (K:Dk) (g:Int) (hc0:0≤K.c) (hc1:K.c≤3) (vs vb:Value) (h1:vs.oneCell'=true) (h2:vb.oneCell'=true) (w:World):Calls Tryz.prog 202 #[.agg #[vs,vb,.bool (K).n,.bool (K).r,.bool (K).e,.int .i64 (K).c,.int .i64 (K).w,.int .i64 (K).a,.int .i64 (K).s,.int .i64 (K).l],.int .i64 g] w fun e' w'=>e'=.returned (.tuple #[.int .i64 (K.rd g).1,.bool (K.rd g).2])∧Below w.heap.size w w':=by
 obtain ⟨D,n,r,e,c,w1,a,s,l⟩:=K
 dsimp only at hc0 hc1
 have hst:=fun w=>qmk n r e c w1 a s l D hc0 hc1 vs vb w
 unfold Dk.rd
 generalize stK (Dk.mk D n r e c w1 a s l)=ST at *
 have hX:=(Bag.nil w).new 40 [vs,vb,.bool n,.bool r,.bool e,.int .i64 c,.int .i64 w1,.int .i64 a,.int .i64 s,.int .i64 l]
 by_cases h0:g=0
 ·subst h0
  rw [if_neg (by decide),if_neg (by decide),if_neg (by decide),if_pos rfl]
  go_enter Tryz.func202,Tryz.ntmps202
  go_wp2_with (first|((with_reducible refine qab ?_);refine lw hX aggK sizK ?_)|(go_at_call 209;with_reducible refine cst hX (hst _) ?_;clear hX;intro wc hX))
  go_ret2
  exact ⟨rfl,hX.below⟩
 have e0:(g == 0)=false:=by simpa using h0
 by_cases h2:g=2
 ·subst h2
  rw [if_pos rfl]
  go_enter Tryz.func202,Tryz.ntmps202
  go_wp2
  go_ret2
  exact ⟨rfl,hX.below⟩
 have e2:(g == 2)=false:=by simpa using h2
 rw [if_neg h2]
 by_cases h4:g=4
 ·subst h4
  rw [if_pos rfl]
  go_enter Tryz.func202,Tryz.ntmps202
  go_wp2
  go_ret2
  exact ⟨rfl,hX.below⟩
 have e4:(g == 4)=false:=by simpa using h4
 rw [if_neg h4]
 by_cases h6:g=6
 ·subst h6
  rw [if_pos rfl]
  go_enter Tryz.func202,Tryz.ntmps202
  go_wp2
  go_ret2
  exact ⟨rfl,hX.below⟩
 have e6:(g == 6)=false:=by simpa using h6
 rw [if_neg h6]
 rw [if_neg h0]
 go_enter Tryz.func202,Tryz.ntmps202
 go_wp2
 go_ret2
 exact ⟨rfl,hX.below⟩
theorem qei {l:List (Nat×TypeId×List Value)} {w0:World} {B k:Nat} {t:TypeId} {cs:List Value} (r:Bool) (v:Int) (w:World) (hX:Bag ((B,t,cs) :: l) w0 w) (hk:k<cs.length):Calls Tryz.prog 216 #[.pointer (some ⟨B,k,none⟩),.bool r,.int .i64 v] w fun e' w'=>e'=.returned (.tuple #[])∧Bag ((B,t,if r=true then cs.set k (.int .i64 v) else cs) :: l) w0 w'∧∀ j,j≠B→w'.heap[j]? = w.heap[j]?:=by
 cases r
 ·simp only [Bool.false_eq_true,if_false]
  go_enter Tryz.func216,Tryz.ntmps216
  go_wp2
  refine bodyPost_end (v:=.tuple #[]) (by simp [results,Tryz.results216,go_sem]) rfl ⟨rfl,hX,fun _ _=>rfl⟩
 ·simp only [if_true]
  go_enter Tryz.func216,Tryz.ntmps216
  go_wp2_with (first|((with_reducible refine qah ?_);refine qae (z:=.int .i64 v) hX qbu _ _ rfl rfl rfl rfl rfl rfl hk rfl rfl ?_;intro wp hX3 hk3 hz3;clear hz3))
  refine bodyPost_end (v:=.tuple #[]) (by simp [results,Tryz.results216,go_sem]) rfl ⟨rfl,hX3,hk3⟩
theorem pctl_any (D:Drv) (n r e:Bool) (c w1 a s l v:Int) (hv0:0≤v) (hv9:v≤65535) (vs vb:Value) (h1:vs.oneCell'=true) (h2:vb.oneCell'=true) (w:World):Calls Tryz.prog 215 #[.agg #[vs,vb,.bool n,.bool r,.bool e,.int .i64 c,.int .i64 w1,.int .i64 a,.int .i64 s,.int .i64 l],.int .i64 v] w fun e' w'=>e'=.returned (.agg #[vs,vb,.bool ((Dk.mk D (decide (v / 64%2=1)) r e c w1 a s l).cmd v).n,.bool ((Dk.mk D (decide (v / 64%2=1)) r e c w1 a s l).cmd v).r,.bool ((Dk.mk D (decide (v / 64%2=1)) r e c w1 a s l).cmd v).e,.int .i64 ((Dk.mk D (decide (v / 64%2=1)) r e c w1 a s l).cmd v).c,.int .i64 ((Dk.mk D (decide (v / 64%2=1)) r e c w1 a s l).cmd v).w,.int .i64 ((Dk.mk D (decide (v / 64%2=1)) r e c w1 a s l).cmd v).a,.int .i64 ((Dk.mk D (decide (v / 64%2=1)) r e c w1 a s l).cmd v).s,.int .i64 ((Dk.mk D (decide (v / 64%2=1)) r e c w1 a s l).cmd v).l])∧Below w.heap.size w w':=by
 have h64:=and64 v
 have hv1:bits .and .i64 v 1=v%2:=qd1 (c:=1) (by decide) (qe7 _ 0 1) (by intro h;omega)
 unfold Dk.cmd
 dsimp only
 generalize decide (v / 64%2=1)=b1 at *
 cases r
 ·rw [if_neg (by simp)]
  have hX:=qbi w [vs,vb,.bool n,.bool false,.bool e,.int .i64 c,.int .i64 w1,.int .i64 a,.int .i64 s,.int .i64 l] [.slice none 0 0,.slice none 0 0,.bool false,.bool false,.bool false,.int .i64 0,.int .i64 0,.int .i64 0,.int .i64 0,.int .i64 0]
  go_enter Tryz.func215,Tryz.ntmps215
  go_wp2_with (first|((with_reducible refine qab ?_);first|refine lc hX ?_|refine lw hX aggK sizK ?_)|((with_reducible refine qah ?_);first|(refine qae (z:=.bool _) hX.swap qbo _ _ rfl rfl rfl rfl rfl rfl (by simp) rfl rfl ?_;intro wp hX3 hk3 hz3;clear hz3;clear hX;have hX:=hX3.swap;clear hk3 hX3;simp only [sx] at hX)|(refine qaa (cs':=[vs,vb,.bool b1,.bool false,.bool e,.int .i64 c,.int .i64 w1,.int .i64 a,.int .i64 s,.int .i64 l]) hX aggK sizK _ _ rfl rfl rfl rfl rfl rfl rfl rfl (qav h1 h2 _ _ _ _ _ _ _ _) ?_;clear hX;intro wz hX hkz;clear hkz)))
  exact bodyPost_ret (qaj Tryz.results215 rfl ((hX.all _ _ _ (.head _)).loadVar rfl aggK sizK)) rfl ⟨rfl,hX.below⟩
 ·by_cases hv:v%2=1
  ·rw [hv] at hv1
   have t1:v.tdiv 2=v / 2:=Int.tdiv_eq_ediv_of_nonneg hv0
   have t2:(v / 2).tmod 4=v / 2%4:=Int.tmod_eq_emod_of_nonneg (by omega)
   have t3:IntKind.i64.wrap (v / 2)=v / 2:=by rw [qaf];unfold wrap64;omega
   have t4:IntKind.i64.wrap (v / 2%4)=v / 2%4:=by rw [qaf];unfold wrap64;omega
   rw [if_pos ⟨rfl,hv⟩]
   have ht:=fun (x:Int) (wz:World)=>qij b1 true false x w1 a s l vs vb wz
   have hX:=qbi w [vs,vb,.bool n,.bool true,.bool e,.int .i64 c,.int .i64 w1,.int .i64 a,.int .i64 s,.int .i64 l] [.slice none 0 0,.slice none 0 0,.bool false,.bool false,.bool false,.int .i64 0,.int .i64 0,.int .i64 0,.int .i64 0,.int .i64 0]
   by_cases hq:v / 2%4≠0∧w1≠0
   ·rw [if_pos hq]
    have htr:trB (v / 2%4) w1=true:=by unfold trB;simp;exact hq
    have ht2:=fun wz=>ht (v / 2%4) wz
    rw [htr] at ht2
    go_enter Tryz.func215,Tryz.ntmps215
    go_wp2_with (first|((with_reducible refine qab ?_);first|refine lc hX ?_|refine lw hX aggK sizK ?_)|((with_reducible refine qah ?_);first|(refine qae (z:=.bool _) hX.swap qbo _ _ rfl rfl rfl rfl rfl rfl (by simp) rfl rfl ?_;intro wp hX3 hk3 hz3;clear hz3;clear hX;have hX:=hX3.swap;clear hk3 hX3;simp only [sx] at hX)|(refine qae (z:=.int .i64 _) hX.swap qbu _ _ rfl rfl rfl rfl rfl rfl (by simp) rfl rfl ?_;intro wp hX3 hk3 hz3;clear hz3;clear hX;have hX:=hX3.swap;clear hk3 hX3;simp only [sx] at hX)|(refine qaa (cs':=[vs,vb,.bool b1,.bool false,.bool false,.int .i64 (v / 2%4),.int .i64 w1,.int .i64 a,.int .i64 s,.int .i64 8]) hX aggK sizK _ _ rfl rfl rfl rfl rfl rfl rfl rfl (qav h1 h2 _ _ _ _ _ _ _ _) ?_;clear hX;intro wz hX hkz;clear hkz))|(go_at_call 211;with_reducible refine cst hX (ht2 _) ?_;clear hX;intro wc hX))
    exact bodyPost_ret (qaj Tryz.results215 rfl ((hX.all _ _ _ (.head _)).loadVar rfl aggK sizK)) rfl ⟨rfl,hX.below⟩
   ·rw [if_neg hq]
    have htr:trB (v / 2%4) w1=false:=by unfold trB;simp;omega
    have ht2:=fun wz=>ht (v / 2%4) wz
    rw [htr] at ht2
    go_enter Tryz.func215,Tryz.ntmps215
    go_wp2_with (first|((with_reducible refine qab ?_);first|refine lc hX ?_|refine lw hX aggK sizK ?_)|((with_reducible refine qah ?_);first|(refine qae (z:=.bool _) hX.swap qbo _ _ rfl rfl rfl rfl rfl rfl (by simp) rfl rfl ?_;intro wp hX3 hk3 hz3;clear hz3;clear hX;have hX:=hX3.swap;clear hk3 hX3;simp only [sx] at hX)|(refine qae (z:=.int .i64 _) hX.swap qbu _ _ rfl rfl rfl rfl rfl rfl (by simp) rfl rfl ?_;intro wp hX3 hk3 hz3;clear hz3;clear hX;have hX:=hX3.swap;clear hk3 hX3;simp only [sx] at hX)|(refine qaa (cs':=[vs,vb,.bool b1,.bool true,.bool false,.int .i64 (v / 2%4),.int .i64 w1,.int .i64 a,.int .i64 s,.int .i64 l]) hX aggK sizK _ _ rfl rfl rfl rfl rfl rfl rfl rfl (qav h1 h2 _ _ _ _ _ _ _ _) ?_;clear hX;intro wz hX hkz;clear hkz))|(go_at_call 211;with_reducible refine cst hX (ht2 _) ?_;clear hX;intro wc hX))
    exact bodyPost_ret (qaj Tryz.results215 rfl ((hX.all _ _ _ (.head _)).loadVar rfl aggK sizK)) rfl ⟨rfl,hX.below⟩
  ·have hv2:v%2=0:=by omega
   rw [hv2] at hv1
   rw [if_neg (by intro h;exact hv h.2)]
   have hX:=qbi w [vs,vb,.bool n,.bool true,.bool e,.int .i64 c,.int .i64 w1,.int .i64 a,.int .i64 s,.int .i64 l] [.slice none 0 0,.slice none 0 0,.bool false,.bool false,.bool false,.int .i64 0,.int .i64 0,.int .i64 0,.int .i64 0,.int .i64 0]
   go_enter Tryz.func215,Tryz.ntmps215
   go_wp2_with (first|((with_reducible refine qab ?_);first|refine lc hX ?_|refine lw hX aggK sizK ?_)|((with_reducible refine qah ?_);first|(refine qae (z:=.bool _) hX.swap qbo _ _ rfl rfl rfl rfl rfl rfl (by simp) rfl rfl ?_;intro wp hX3 hk3 hz3;clear hz3;clear hX;have hX:=hX3.swap;clear hk3 hX3;simp only [sx] at hX)|(refine qaa (cs':=[vs,vb,.bool b1,.bool true,.bool e,.int .i64 c,.int .i64 w1,.int .i64 a,.int .i64 s,.int .i64 l]) hX aggK sizK _ _ rfl rfl rfl rfl rfl rfl rfl rfl (qav h1 h2 _ _ _ _ _ _ _ _) ?_;clear hX;intro wz hX hkz;clear hkz)))
   exact bodyPost_ret (qaj Tryz.results215 rfl ((hX.all _ _ _ (.head _)).loadVar rfl aggK sizK)) rfl ⟨rfl,hX.below⟩
theorem siz_slS (w:World):(sizeOf 36).run Tryz.prog w=.ok 1 w:=by kernel_rfl
theorem siz_slI (w:World):(sizeOf 26).run Tryz.prog w=.ok 1 w:=by kernel_rfl
theorem Sts.below {w w':World} {v:Value} {S:List ByteArray} (h:Sts w v S) (hb:Below w.heap.size w w'):Sts w' v S:=Rz.below h hb
theorem Its.below {w w':World} {v:Value} {S:List Int} (h:Its w v S) (hb:Below w.heap.size w w'):Its w' v S:=Rz.below h hb
theorem qch (K:Dk) (hl:K.D.B.length≤1099511627776) (hl2:K.D.S.length≤1099511627776) (vs vb:Value) (X:Nat→Prop) (w:World) (hXl:∀ b,X b→b<w.heap.size) (hs:Sts w vs K.D.S) (hb:Its w vb K.D.B):Calls Tryz.prog 208 #[.agg #[vs,vb,.bool (K).n,.bool (K).r,.bool (K).e,.int .i64 (K).c,.int .i64 (K).w,.int .i64 (K).a,.int .i64 (K).s,.int .i64 (K).l]] w fun e' w'=>∃ x,e'=.returned x∧DkX X w' x K∧Below w.heap.size w w':=by
 obtain ⟨A1,c1,rfl,_⟩:=hs.form
 obtain ⟨A2,c2,rfl,_⟩:=hb.form
 obtain ⟨D,n,r,e,c,w1,a,s,l⟩:=K
 dsimp only at *
 have hX:=qbi w [(.slice A1 D.S.length c1),(.slice A2 D.B.length c2),.bool n,.bool r,.bool e,.int .i64 c,.int .i64 w1,.int .i64 a,.int .i64 s,.int .i64 l] [.slice none 0 0,.slice none 0 0,.bool false,.bool false,.bool false,.int .i64 0,.int .i64 0,.int .i64 0,.int .i64 0,.int .i64 0]
 go_enter Tryz.func208,Tryz.ntmps208
 go_wp2_with (first|((with_reducible refine qab ?_);first|refine lc hX ?_|refine lw hX aggK sizK ?_)|(go_at_call 124;(with_reducible refine (qg1 D.S _ _ hl2 (hs.below hX.below)).mono ?_);rintro e' wc ⟨v5,rfl,ho,hbb⟩;have hlo:=(hX.all _ _ _ (.head _)).lt;have hs5:StsX (OwnA X w.heap.size) wc v5 D.S:=Sv.of_own ho (qa2 hXl hlo);clear hlo ho;obtain ⟨A5,c5,rfl,_⟩:=hs5.now.form;replace hX:=hX.step hbb;clear hbb)|((with_reducible refine qah ?_);first|(refine qae (z:=(.slice A5 D.S.length c5)) hX.swap siz_slS _ _ rfl rfl rfl rfl rfl rfl (by simp) rfl rfl ?_;intro wp hX3 hk3 hz3;clear hz3;clear hX;replace hs5:=hs5.over hk3 (.inr (.inl rfl));have hX:=hX3.swap;clear hk3 hX3;simp only [sx] at hX)|(refine qae (z:=(.slice A6 D.B.length c6)) hX.swap siz_slI _ _ rfl rfl rfl rfl rfl rfl (by simp) rfl rfl ?_;intro wp hX3 hk3 hz3;clear hz3;clear hX;replace hs5:=hs5.over hk3 (.inr (.inl rfl));replace hb5:=hb5.over hk3 (.inr (.inl rfl));have hX:=hX3.swap;clear hk3 hX3;simp only [sx] at hX)|(refine qaa (cs':=[(.slice A5 D.S.length c5),(.slice A6 D.B.length c6),.bool n,.bool r,.bool e,.int .i64 c,.int .i64 w1,.int .i64 a,.int .i64 s,.int .i64 l]) hX aggK sizK _ _ rfl rfl rfl rfl rfl rfl rfl rfl (qav rfl rfl _ _ _ _ _ _ _ _) ?_;clear hX;intro wz hX hkz;replace hs5:=hs5.over hkz (.inr (.inr rfl));replace hb5:=hb5.over hkz (.inr (.inr rfl));clear hkz))|(go_at_call 80;(with_reducible refine (qco D.B _ _ hl (hb.below hX.below)).mono ?_);rintro e' wc ⟨v6,rfl,ho,hbb⟩;have hlo:=(hX.all _ _ _ (.head _)).lt;have hb5:ItsX (OwnA X w.heap.size) wc v6 D.B:=Sv.of_own ho (qa2 hXl hlo);clear hlo ho;obtain ⟨A6,c6,rfl,_⟩:=hb5.now.form;replace hs5:=hs5.below hbb;replace hX:=hX.step hbb;clear hbb))
 first|exact bodyPost_ret (qaj Tryz.results208 rfl ((hX.all _ _ _ (.head _)).loadVar rfl aggK sizK)) rfl ⟨_,rfl,⟨_,_,rfl,hs5.less (fun _ h=>.inl h),hb5.less (fun _ h=>.inl h)⟩,hX.below⟩|exact bodyPost_ret (qaj Tryz.results208 rfl ((hX.all _ _ _ (.tail _ (.head _))).loadVar rfl aggK sizK)) rfl ⟨_,rfl,⟨_,_,rfl,hs5.less (fun _ h=>.inl h),hb5.less (fun _ h=>.inl h)⟩,hX.below⟩
end Go.Proofs.YthpnddgfgpacpaaGreat
