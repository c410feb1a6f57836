import Derived.Test.YthpnddgfgpacpaaGreatRT04
import Derived.Test.YthpnddgfgpacpaaGreatRT30
import Derived.Test.YthpnddgfgpacpaaGreatRT19
import Derived.Lib.SliceRun
import Derived.Test.YthpnddgfgpacpaaGreatRT24
import Derived.Test.YthpnddgfgpacpaaGreatRT02
import Derived.Test.YthpnddgfgpacpaaGreatRT26
import Derived.Test.YthpnddgfgpacpaaGreatRT27
import Derived.Test.YthpnddgfgpacpaaGreatRT29
import Derived.Test.YthpnddgfgpacpaaGreatRT11
namespace Go.Proofs.YthpnddgfgpacpaaGreat
open Go.RowKit Go.Lib
set_option linter.unusedSimpArgs false
set_option linter.unusedVariables false
set_option maxHeartbeats 4000000
set_option maxRecDepth 100000
attribute [local irreducible] wpQuiet
theorem qsb (S:List ByteArray) (v:Value) (w:World) (hl:S.length≤1099511627776) (h:Sts w v S):Calls Tryz.prog 124 #[v] w fun e w'=>∃ v',e=.returned v'∧w'.ownsRow w.heap.size 9 1 v' S.length (S.map Value.string)∧Below w.heap.size w w':=by
 rcases Rz.form h with ⟨rfl,h0,h1⟩|⟨a,c,rfl,hc⟩
 ·have hq:∀ w:World,(binOp .eql 36 (.slice none 0 0) (.slice none 0 0)).run Tryz.prog w=.ok (.bool true) w:=fun w=>Lib.run_eql_slice_nil w _ _ none 0 0 0 0 Tryz.underlying36
  go_enter Tryz.func124,Tryz.ntmps124
  go_wp2
  go_ret
  exact ⟨_,rfl,by rw [h1,h0];exact World.ownsRow_nil _ _ _ _,Below.refl _ _⟩
 ·have hcl:=Rz.cell (Rz.below h ((Below.refl _ _).alloc (Nat.le_refl _) (.cells #[] 9)))
  have hq:∀ w:World,(binOp .eql 36 (.slice (some a) S.length c) (.slice none 0 0)).run Tryz.prog w=.ok (.bool false) w:=fun w=>Lib.run_eql_slice_nil w _ _ (some a) S.length c 0 0 Tryz.underlying36
  clear h
  go_enter Tryz.func124,Tryz.ntmps124
  go_wp2_with (first|(at_builtin;refine qcd rfl (.tmp 5) (.tmp 6) rfl w.heap.size _ 0 [] rfl (qbe w _) a S.length c (S.map Value.string) rfl (by simp) hcl (qfe S) (by omega) (by simp) ?_;intro v2 w2 ho2 hb2 _))
  go_ret
  exact ⟨_,rfl,by simpa using ho2,((Below.refl _ _).alloc (Nat.le_refl _) _).trans hb2⟩
theorem qed (S:List Int) (v:Value) (w:World) (hl:S.length≤1099511627776) (h:Its w v S):Calls Tryz.prog 80 #[v] w fun e w'=>∃ v',e=.returned v'∧w'.ownsRow w.heap.size 3 1 v' S.length (S.map (Value.int .i64))∧Below w.heap.size w w':=by
 rcases Rz.form h with ⟨rfl,h0,h1⟩|⟨a,c,rfl,hc⟩
 ·have hq:∀ w:World,(binOp .eql 26 (.slice none 0 0) (.slice none 0 0)).run Tryz.prog w=.ok (.bool true) w:=fun w=>Lib.run_eql_slice_nil w _ _ none 0 0 0 0 Tryz.underlying26
  go_enter Tryz.func80,Tryz.ntmps80
  go_wp2
  go_ret
  exact ⟨_,rfl,by rw [h1,h0];exact World.ownsRow_nil _ _ _ _,Below.refl _ _⟩
 ·have hcl:=Rz.cell (Rz.below h ((Below.refl _ _).alloc (Nat.le_refl _) (.cells #[] 3)))
  have hq:∀ w:World,(binOp .eql 26 (.slice (some a) S.length c) (.slice none 0 0)).run Tryz.prog w=.ok (.bool false) w:=fun w=>Lib.run_eql_slice_nil w _ _ (some a) S.length c 0 0 Tryz.underlying26
  clear h
  go_enter Tryz.func80,Tryz.ntmps80
  go_wp2_with (first|(at_builtin;refine qb6 rfl (.tmp 5) (.tmp 6) rfl w.heap.size _ 0 [] rfl (qbe w _) a S.length c (S.map (Value.int .i64)) rfl (by simp) hcl (qgj S) (by omega) (by simp) ?_;intro v2 w2 ho2 hb2 _))
  go_ret
  exact ⟨_,rfl,by simpa using ho2,((Below.refl _ _).alloc (Nat.le_refl _) _).trans hb2⟩
theorem Sts.belowT {w w':World} {v:Value} {S:List ByteArray} (h:Sts w v S) (hb:Below w.heap.size w w'):Sts w' v S:=Rz.below h hb
theorem ptl_at (w:World):PredAt Tryz.prog 249 #[] Value.string (fun s=>decide (512<s.size)) w:=fun W x _=>qkx x W
theorem qqp:∀ args w,(callFunc 249 args).run Tryz.prog w=.ok (.enter 249 args) w:=enters_of Tryz.func249 (by kernel_rfl) rfl
theorem qrl (S:List ByteArray):(S.any fun s=>decide (512<s.size))=!shortV S:=by
 unfold shortV
 induction S with
 | nil=>rfl
 | cons x r ih =>
   rw [List.any_cons,List.all_cons,ih,Bool.not_and]
   congr 1
   rw [Bool.eq_iff_iff]
   simp
theorem pctS_any (S:List ByteArray) (hl:S.length≤1099511627776) (v:Value) (w:World) (h:Sts w v S):Calls Tryz.prog 248 #[v,.func (.func 249) #[] #[]] w fun e' w'=>e'=.returned (.bool (!shortV S))∧Below w.heap.size w w':=by
 rw [← qrl]
 by_cases h0:S=[]
 ·subst h0
  obtain ⟨A,c,rfl,_⟩:=h.form
  refine (Tryz.slices_ContainsFunc_empty_str (α:=ByteArray) A c _ w).mono ?_
  rintro e w' ⟨rfl,rfl⟩
  exact ⟨rfl,Below.refl _ _⟩
 ·rcases Rz.form h with ⟨rfl,h1,h2⟩|⟨a,c,rfl,hc⟩
  ·exact absurd (List.eq_nil_of_length_eq_zero h1) h0
  ·have hcl:=Rz.cell h
   have hpos:0<S.length:=List.length_pos_iff.2 h0
   have hsp:a.spot=none:=by
    have h1:=hcl 0 (.string S[0]) (by rw [List.getElem?_map,List.getElem?_eq_getElem hpos];rfl)
    unfold World.cell? at h1
    split at h1
    ·rename_i hq
     cases hz:a.spot with
     | none=>rfl
     | some q=>rw [show (a.add 0).spot=a.spot from rfl,hz] at h1;cases h1
    ·cases h1
   obtain ⟨b,off,sp⟩:=a
   obtain rfl:sp=none:=hsp
   refine (Tryz.slices_ContainsFunc_str Value.string (fun s=>decide (512<s.size)) 249 #[] qqp b off S.length c S w (ptl_at w) (Nat.le_refl _) (by omega) (fun j hj=>?_)).mono ?_
   ·have hq:=hcl j (.string S[j]!) (by rw [List.getElem?_map,List.getElem?_eq_getElem hj];simp [hj])
    have ha:(⟨b,off,none⟩:Addr).add j=⟨b,off+j,none⟩:=by unfold Addr.add;split<;>simp_all
    rw [ha] at hq
    exact hq
   ·rintro e w' ⟨rfl,q,rfl⟩
    refine ⟨?_,below_drewN' (Below.refl _ _) q⟩
    rw [List.take_length]
theorem qd0 (K:Tp) (hl:K.R.length≤1099511627776) (vs:Value) (N:Nat) (w:World) (hN:N≤w.heap.size) (hs:Sts w vs K.R):Calls Tryz.prog 246 #[.agg #[vs,.int .i64 (K).p,.bool (K).n,.bool (K).r,.bool (K).e,.bool (K).m,.bool (K).d,.int .i64 (K).c,.int .i64 (K).k,.int .i64 (K).a,.int .i64 (K).l]] w fun e' w'=>∃ A5 c5,e'=.returned (.agg #[(.slice A5 K.R.length c5),.int .i64 (K).p,.bool (K).n,.bool (K).r,.bool (K).e,.bool (K).m,.bool (K).d,.int .i64 (K).c,.int .i64 (K).k,.int .i64 (K).a,.int .i64 (K).l])∧w'.ownsRow N 9 1 (.slice A5 K.R.length c5) K.R.length (K.R.map Value.string)∧Below w.heap.size w w':=by
 obtain ⟨A,c0,rfl,_⟩:=hs.form
 obtain ⟨R,p,n,r,e,m,d,c,k,a,l⟩:=K
 dsimp only at *
 have hX:=qa0 w [(.slice A R.length c0),.int .i64 p,.bool n,.bool r,.bool e,.bool m,.bool d,.int .i64 c,.int .i64 k,.int .i64 a,.int .i64 l] [.slice none 0 0,.int .i64 0,.bool false,.bool false,.bool false,.bool false,.bool false,.int .i64 0,.int .i64 0,.int .i64 0,.int .i64 0]
 go_enter Tryz.func246,Tryz.ntmps246
 go_wp2_with (first|((with_reducible refine qab ?_);first|refine lc hX ?_|refine lw hX aggT sizT ?_)|(go_at_call 124;(with_reducible refine (qsb R _ _ hl (hs.belowT hX.below)).mono ?_);rintro e' wc ⟨v5,rfl,ho5,hbb⟩;replace ho5:=qaz ho5 (Nat.le_trans hN hX.below.size);replace hX:=hX.step hbb;clear hbb;obtain ⟨A5,c5,rfl,_,_⟩:=Rw.of_own ho5)|((with_reducible refine qah ?_);first|(first|(refine qae (z:=(.slice A5 R.length c5)) hX.swap qfg _ _ rfl rfl rfl rfl rfl rfl (by simp) rfl rfl ?_;intro wp hX3 hk3 hz3;clear hz3;replace ho5:=qac hX.swap ho5 (by decide) hk3;clear hX;have hX:=hX3;clear hk3 hX3;simp only [sx] at hX)|(refine qae (z:=(.slice A5 R.length c5)) hX qfg _ _ rfl rfl rfl rfl rfl rfl (by simp) rfl rfl ?_;intro wp hX3 hk3 hz3;clear hz3;replace ho5:=qac hX ho5 (by decide) hk3;clear hX;have hX:=hX3;clear hk3 hX3;simp only [sx] at hX))|(refine qaa (cs':=[(.slice A5 R.length c5),.int .i64 p,.bool n,.bool r,.bool e,.bool m,.bool d,.int .i64 c,.int .i64 k,.int .i64 a,.int .i64 l]) hX.swap aggT sizT _ _ rfl rfl rfl rfl rfl rfl rfl rfl (qan rfl _ _ _ _ _ _ _ _ _ _) ?_;intro wz hXn hkz;replace ho5:=qac hX.swap ho5 (by decide) hkz;clear hX;have hX:=hXn;clear hXn hkz)|(refine qaa (cs':=[(.slice A5 R.length c5),.int .i64 p,.bool n,.bool r,.bool e,.bool m,.bool d,.int .i64 c,.int .i64 k,.int .i64 a,.int .i64 l]) hX aggT sizT _ _ rfl rfl rfl rfl rfl rfl rfl rfl (qan rfl _ _ _ _ _ _ _ _ _ _) ?_;intro wz hXn hkz;replace ho5:=qac hX ho5 (by decide) hkz;clear hX;have hX:=hXn;clear hXn hkz)))
 first|exact bodyPost_ret (qaj Tryz.results246 rfl ((hX.all _ _ _ (.head _)).loadVar rfl aggT sizT)) rfl ⟨_,_,rfl,ho5,hX.below⟩|exact bodyPost_ret (qaj Tryz.results246 rfl ((hX.all _ _ _ (.tail _ (.head _))).loadVar rfl aggT sizT)) rfl ⟨_,_,rfl,ho5,hX.below⟩
theorem pwrT_2 (K:Tp) (hl:K.R.length≤1099511627776) (v:Int) (vs:Value) (X:Nat→Prop) (w:World) (hXl:∀ b,X b→b<w.heap.size) (hs:Sts w vs K.R):Calls Tryz.prog 245 #[.agg #[vs,.int .i64 (K).p,.bool (K).n,.bool (K).r,.bool (K).e,.bool (K).m,.bool (K).d,.int .i64 (K).c,.int .i64 (K).k,.int .i64 (K).a,.int .i64 (K).l],.int .i64 2,.int .i64 v] w fun e' w'=>∃ x,e'=.returned (.tuple #[x,.bool true])∧TpX X w' x (K.wr 2 v).1∧Below w.heap.size w w':=by
 have hK:(K.wr 2 v).1={K with k:=if K.r=true then v%65536 else K.k}:=by
  unfold Tp.wr
  split
  ·omega
  obtain ⟨R,p,n,r,e,m,d,c,k,a,l⟩:=K
  cases r<;>simp
 rw [hK]
 clear hK
 have hld:=fun (A5:Option Addr) (n5 c5:Nat) wz=>qi9 K K.k v A5 n5 c5 wz
 generalize (if K.r=true then v%65536 else K.k)=q at *
 obtain ⟨A,c0,rfl,_⟩:=hs.form
 obtain ⟨R,p,n,r,e,m,d,c,k,a,l⟩:=K
 dsimp only at *
 have hX:=qa0 w [(.slice A R.length c0),.int .i64 p,.bool n,.bool r,.bool e,.bool m,.bool d,.int .i64 c,.int .i64 k,.int .i64 a,.int .i64 l] [.slice none 0 0,.int .i64 0,.bool false,.bool false,.bool false,.bool false,.bool false,.int .i64 0,.int .i64 0,.int .i64 0,.int .i64 0]
 go_enter Tryz.func245,Tryz.ntmps245
 go_wp2_with (first|((with_reducible refine qab ?_);first|refine lc hX ?_|refine lw hX aggT sizT ?_)|(go_at_call 246;(with_reducible refine (qd0 (Tp.mk R p n r e m d c k a l) hl _ _ _ hX.below.size (Sts.belowT hs hX.below)).mono ?_);rintro e' wc ⟨A5,c5,rfl,ho5,hbb⟩;dsimp only at ho5;replace hX:=hX.step hbb;clear hbb)|(go_at_call 253;(with_reducible refine (hld _ _ _ _).mono ?_);rintro e' wc ⟨rfl,hbb⟩;replace ho5:=qag ho5 hbb;replace hX:=hX.step hbb;clear hbb)|((with_reducible refine qah ?_);first|(first|(refine qae (z:=.int .i64 _) hX.swap qaw _ _ rfl rfl rfl rfl rfl rfl (by simp) rfl rfl ?_;intro wp hX3 hk3 hz3;clear hz3;replace ho5:=qac hX.swap ho5 (by decide) hk3;clear hX;have hX:=hX3;clear hk3 hX3;simp only [sx] at hX)|(refine qae (z:=.int .i64 _) hX qaw _ _ rfl rfl rfl rfl rfl rfl (by simp) rfl rfl ?_;intro wp hX3 hk3 hz3;clear hz3;replace ho5:=qac hX ho5 (by decide) hk3;clear hX;have hX:=hX3;clear hk3 hX3;simp only [sx] at hX))|(refine qaa (cs':=[(.slice A5 R.length c5),.int .i64 p,.bool n,.bool r,.bool e,.bool m,.bool d,.int .i64 c,.int .i64 k,.int .i64 a,.int .i64 l]) hX.swap aggT sizT _ _ rfl rfl rfl rfl rfl rfl rfl rfl (qan rfl _ _ _ _ _ _ _ _ _ _) ?_;intro wz hXn hkz;replace ho5:=qac hX.swap ho5 (by decide) hkz;clear hX;have hX:=hXn;clear hXn hkz)|(refine qaa (cs':=[(.slice A5 R.length c5),.int .i64 p,.bool n,.bool r,.bool e,.bool m,.bool d,.int .i64 c,.int .i64 k,.int .i64 a,.int .i64 l]) hX aggT sizT _ _ rfl rfl rfl rfl rfl rfl rfl rfl (qan rfl _ _ _ _ _ _ _ _ _ _) ?_;intro wz hXn hkz;replace ho5:=qac hX ho5 (by decide) hkz;clear hX;have hX:=hXn;clear hXn hkz)|(refine qaa (cs':=[(.slice A5 R.length c5),.int .i64 p,.bool n,.bool r,.bool e,.bool m,.bool d,.int .i64 c,.int .i64 q,.int .i64 a,.int .i64 l]) hX.swap aggT sizT _ _ rfl rfl rfl rfl rfl rfl rfl rfl (qan rfl _ _ _ _ _ _ _ _ _ _) ?_;intro wz hXn hkz;replace ho5:=qac hX.swap ho5 (by decide) hkz;clear hX;have hX:=hXn;clear hXn hkz)|(refine qaa (cs':=[(.slice A5 R.length c5),.int .i64 p,.bool n,.bool r,.bool e,.bool m,.bool d,.int .i64 c,.int .i64 q,.int .i64 a,.int .i64 l]) hX aggT sizT _ _ rfl rfl rfl rfl rfl rfl rfl rfl (qan rfl _ _ _ _ _ _ _ _ _ _) ?_;intro wz hXn hkz;replace ho5:=qac hX ho5 (by decide) hkz;clear hX;have hX:=hXn;clear hXn hkz)))
 first|exact bodyPost_ret (qam Tryz.results245 rfl ((hX.all _ _ _ (.head _)).loadVar rfl aggT sizT)) rfl ⟨_,rfl,⟨_,rfl,Sv.of_own ho5 hXl⟩,hX.below⟩|exact bodyPost_ret (qam Tryz.results245 rfl ((hX.all _ _ _ (.tail _ (.head _))).loadVar rfl aggT sizT)) rfl ⟨_,rfl,⟨_,rfl,Sv.of_own ho5 hXl⟩,hX.below⟩
theorem pwrT_4 (K:Tp) (hl:K.R.length≤1099511627776) (v:Int) (vs:Value) (X:Nat→Prop) (w:World) (hXl:∀ b,X b→b<w.heap.size) (hs:Sts w vs K.R):Calls Tryz.prog 245 #[.agg #[vs,.int .i64 (K).p,.bool (K).n,.bool (K).r,.bool (K).e,.bool (K).m,.bool (K).d,.int .i64 (K).c,.int .i64 (K).k,.int .i64 (K).a,.int .i64 (K).l],.int .i64 4,.int .i64 v] w fun e' w'=>∃ x,e'=.returned (.tuple #[x,.bool true])∧TpX X w' x (K.wr 4 v).1∧Below w.heap.size w w':=by
 have hK:(K.wr 4 v).1={K with a:=if K.r=true then v%65536 else K.a}:=by
  unfold Tp.wr
  split
  ·omega
  obtain ⟨R,p,n,r,e,m,d,c,k,a,l⟩:=K
  cases r<;>simp
 rw [hK]
 clear hK
 have hld:=fun (A5:Option Addr) (n5 c5:Nat) wz=>qi9 K K.a v A5 n5 c5 wz
 generalize (if K.r=true then v%65536 else K.a)=q at *
 obtain ⟨A,c0,rfl,_⟩:=hs.form
 obtain ⟨R,p,n,r,e,m,d,c,k,a,l⟩:=K
 dsimp only at *
 have hX:=qa0 w [(.slice A R.length c0),.int .i64 p,.bool n,.bool r,.bool e,.bool m,.bool d,.int .i64 c,.int .i64 k,.int .i64 a,.int .i64 l] [.slice none 0 0,.int .i64 0,.bool false,.bool false,.bool false,.bool false,.bool false,.int .i64 0,.int .i64 0,.int .i64 0,.int .i64 0]
 go_enter Tryz.func245,Tryz.ntmps245
 go_wp2_with (first|((with_reducible refine qab ?_);first|refine lc hX ?_|refine lw hX aggT sizT ?_)|(go_at_call 246;(with_reducible refine (qd0 (Tp.mk R p n r e m d c k a l) hl _ _ _ hX.below.size (Sts.belowT hs hX.below)).mono ?_);rintro e' wc ⟨A5,c5,rfl,ho5,hbb⟩;dsimp only at ho5;replace hX:=hX.step hbb;clear hbb)|(go_at_call 253;(with_reducible refine (hld _ _ _ _).mono ?_);rintro e' wc ⟨rfl,hbb⟩;replace ho5:=qag ho5 hbb;replace hX:=hX.step hbb;clear hbb)|((with_reducible refine qah ?_);first|(first|(refine qae (z:=.int .i64 _) hX.swap qaw _ _ rfl rfl rfl rfl rfl rfl (by simp) rfl rfl ?_;intro wp hX3 hk3 hz3;clear hz3;replace ho5:=qac hX.swap ho5 (by decide) hk3;clear hX;have hX:=hX3;clear hk3 hX3;simp only [sx] at hX)|(refine qae (z:=.int .i64 _) hX qaw _ _ rfl rfl rfl rfl rfl rfl (by simp) rfl rfl ?_;intro wp hX3 hk3 hz3;clear hz3;replace ho5:=qac hX ho5 (by decide) hk3;clear hX;have hX:=hX3;clear hk3 hX3;simp only [sx] at hX))|(refine qaa (cs':=[(.slice A5 R.length c5),.int .i64 p,.bool n,.bool r,.bool e,.bool m,.bool d,.int .i64 c,.int .i64 k,.int .i64 a,.int .i64 l]) hX.swap aggT sizT _ _ rfl rfl rfl rfl rfl rfl rfl rfl (qan rfl _ _ _ _ _ _ _ _ _ _) ?_;intro wz hXn hkz;replace ho5:=qac hX.swap ho5 (by decide) hkz;clear hX;have hX:=hXn;clear hXn hkz)|(refine qaa (cs':=[(.slice A5 R.length c5),.int .i64 p,.bool n,.bool r,.bool e,.bool m,.bool d,.int .i64 c,.int .i64 k,.int .i64 a,.int .i64 l]) hX aggT sizT _ _ rfl rfl rfl rfl rfl rfl rfl rfl (qan rfl _ _ _ _ _ _ _ _ _ _) ?_;intro wz hXn hkz;replace ho5:=qac hX ho5 (by decide) hkz;clear hX;have hX:=hXn;clear hXn hkz)|(refine qaa (cs':=[(.slice A5 R.length c5),.int .i64 p,.bool n,.bool r,.bool e,.bool m,.bool d,.int .i64 c,.int .i64 k,.int .i64 q,.int .i64 l]) hX.swap aggT sizT _ _ rfl rfl rfl rfl rfl rfl rfl rfl (qan rfl _ _ _ _ _ _ _ _ _ _) ?_;intro wz hXn hkz;replace ho5:=qac hX.swap ho5 (by decide) hkz;clear hX;have hX:=hXn;clear hXn hkz)|(refine qaa (cs':=[(.slice A5 R.length c5),.int .i64 p,.bool n,.bool r,.bool e,.bool m,.bool d,.int .i64 c,.int .i64 k,.int .i64 q,.int .i64 l]) hX aggT sizT _ _ rfl rfl rfl rfl rfl rfl rfl rfl (qan rfl _ _ _ _ _ _ _ _ _ _) ?_;intro wz hXn hkz;replace ho5:=qac hX ho5 (by decide) hkz;clear hX;have hX:=hXn;clear hXn hkz)))
 first|exact bodyPost_ret (qam Tryz.results245 rfl ((hX.all _ _ _ (.head _)).loadVar rfl aggT sizT)) rfl ⟨_,rfl,⟨_,rfl,Sv.of_own ho5 hXl⟩,hX.below⟩|exact bodyPost_ret (qam Tryz.results245 rfl ((hX.all _ _ _ (.tail _ (.head _))).loadVar rfl aggT sizT)) rfl ⟨_,rfl,⟨_,rfl,Sv.of_own ho5 hXl⟩,hX.below⟩
theorem pwrT_0 (K:Tp) (hl:K.R.length≤1099511627776) (v:Int) (vs:Value) (X:Nat→Prop) (w:World) (hXl:∀ b,X b→b<w.heap.size) (hs:Sts w vs K.R):Calls Tryz.prog 245 #[.agg #[vs,.int .i64 (K).p,.bool (K).n,.bool (K).r,.bool (K).e,.bool (K).m,.bool (K).d,.int .i64 (K).c,.int .i64 (K).k,.int .i64 (K).a,.int .i64 (K).l],.int .i64 0,.int .i64 v] w fun e' w'=>∃ x,e'=.returned (.tuple #[x,.bool true])∧TpX X w' x (K.wr 0 v).1∧Below w.heap.size w w':=by
 have hct:=fun (A5:Option Addr) (n5 c5:Nat) wz=>qrw K v A5 n5 c5 wz
 have hR:(K.wr 0 v).1.R=K.R:=by
  unfold Tp.wr Tp.go
  repeat' split
  all_goals rfl
 generalize (K.wr 0 v).1=K2 at *
 obtain ⟨A,c0,rfl,_⟩:=hs.form
 obtain ⟨R,p,n,r,e,m,d,c,k,a,l⟩:=K
 dsimp only at *
 have hX:=qa0 w [(.slice A R.length c0),.int .i64 p,.bool n,.bool r,.bool e,.bool m,.bool d,.int .i64 c,.int .i64 k,.int .i64 a,.int .i64 l] [.slice none 0 0,.int .i64 0,.bool false,.bool false,.bool false,.bool false,.bool false,.int .i64 0,.int .i64 0,.int .i64 0,.int .i64 0]
 obtain ⟨R2,p2,n2,r2,e2,m2,d2,c2,k2,a2,l2⟩:=K2
 dsimp only at hct hR ⊢
 subst hR
 go_enter Tryz.func245,Tryz.ntmps245
 go_wp2_with (first|((with_reducible refine qab ?_);first|refine lc hX ?_|refine lw hX aggT sizT ?_)|(go_at_call 246;(with_reducible refine (qd0 (Tp.mk R2 p n r e m d c k a l) hl _ _ _ hX.below.size (Sts.belowT hs hX.below)).mono ?_);rintro e' wc ⟨A5,c5,rfl,ho5,hbb⟩;dsimp only at ho5;replace hX:=hX.step hbb;clear hbb)|(go_at_call 252;(with_reducible refine (hct _ _ _ _).mono ?_);rintro e' wc ⟨rfl,hbb⟩;replace ho5:=qag ho5 hbb;replace hX:=hX.step hbb;clear hbb)|((with_reducible refine qah ?_);first|(refine qaa (cs':=[(.slice A5 R2.length c5),.int .i64 p,.bool n,.bool r,.bool e,.bool m,.bool d,.int .i64 c,.int .i64 k,.int .i64 a,.int .i64 l]) hX.swap aggT sizT _ _ rfl rfl rfl rfl rfl rfl rfl rfl (qan rfl _ _ _ _ _ _ _ _ _ _) ?_;intro wz hXn hkz;replace ho5:=qac hX.swap ho5 (by decide) hkz;clear hX;have hX:=hXn;clear hXn hkz)|(refine qaa (cs':=[(.slice A5 R2.length c5),.int .i64 p,.bool n,.bool r,.bool e,.bool m,.bool d,.int .i64 c,.int .i64 k,.int .i64 a,.int .i64 l]) hX aggT sizT _ _ rfl rfl rfl rfl rfl rfl rfl rfl (qan rfl _ _ _ _ _ _ _ _ _ _) ?_;intro wz hXn hkz;replace ho5:=qac hX ho5 (by decide) hkz;clear hX;have hX:=hXn;clear hXn hkz)|(refine qaa (cs':=[(.slice A5 R2.length c5),.int .i64 p2,.bool n2,.bool r2,.bool e2,.bool m2,.bool d2,.int .i64 c2,.int .i64 k2,.int .i64 a2,.int .i64 l2]) hX.swap aggT sizT _ _ rfl rfl rfl rfl rfl rfl rfl rfl (qan rfl _ _ _ _ _ _ _ _ _ _) ?_;intro wz hXn hkz;replace ho5:=qac hX.swap ho5 (by decide) hkz;clear hX;have hX:=hXn;clear hXn hkz)|(refine qaa (cs':=[(.slice A5 R2.length c5),.int .i64 p2,.bool n2,.bool r2,.bool e2,.bool m2,.bool d2,.int .i64 c2,.int .i64 k2,.int .i64 a2,.int .i64 l2]) hX aggT sizT _ _ rfl rfl rfl rfl rfl rfl rfl rfl (qan rfl _ _ _ _ _ _ _ _ _ _) ?_;intro wz hXn hkz;replace ho5:=qac hX ho5 (by decide) hkz;clear hX;have hX:=hXn;clear hXn hkz)))
 first|exact bodyPost_ret (qam Tryz.results245 rfl ((hX.all _ _ _ (.head _)).loadVar rfl aggT sizT)) rfl ⟨_,rfl,⟨_,rfl,Sv.of_own ho5 hXl⟩,hX.below⟩|exact bodyPost_ret (qam Tryz.results245 rfl ((hX.all _ _ _ (.tail _ (.head _))).loadVar rfl aggT sizT)) rfl ⟨_,rfl,⟨_,rfl,Sv.of_own ho5 hXl⟩,hX.below⟩
theorem pwrT_no (K:Tp) (hl:K.R.length≤1099511627776) (g v:Int) (h0:g≠0) (h2:g≠2) (h4:g≠4) (vs:Value) (X:Nat→Prop) (w:World) (hXl:∀ b,X b→b<w.heap.size) (hs:Sts w vs K.R):Calls Tryz.prog 245 #[.agg #[vs,.int .i64 (K).p,.bool (K).n,.bool (K).r,.bool (K).e,.bool (K).m,.bool (K).d,.int .i64 (K).c,.int .i64 (K).k,.int .i64 (K).a,.int .i64 (K).l],.int .i64 g,.int .i64 v] w fun e' w'=>∃ x,e'=.returned (.tuple #[x,.bool false])∧TpX X w' x K∧Below w.heap.size w w':=by
 have d0:(g == 0)=false:=by simpa using h0
 have d2:(g == 2)=false:=by simpa using h2
 have d4:(g == 4)=false:=by simpa using h4
 clear h0 h2 h4
 obtain ⟨A,c0,rfl,_⟩:=hs.form
 obtain ⟨R,p,n,r,e,m,d,c,k,a,l⟩:=K
 dsimp only at *
 have hX:=qa0 w [(.slice A R.length c0),.int .i64 p,.bool n,.bool r,.bool e,.bool m,.bool d,.int .i64 c,.int .i64 k,.int .i64 a,.int .i64 l] [.slice none 0 0,.int .i64 0,.bool false,.bool false,.bool false,.bool false,.bool false,.int .i64 0,.int .i64 0,.int .i64 0,.int .i64 0]
 go_enter Tryz.func245,Tryz.ntmps245
 go_wp2_with (first|((with_reducible refine qab ?_);first|refine lc hX ?_|refine lw hX aggT sizT ?_)|(go_at_call 246;(with_reducible refine (qd0 (Tp.mk R p n r e m d c k a l) hl _ _ _ hX.below.size (Sts.belowT hs hX.below)).mono ?_);rintro e' wc ⟨A5,c5,rfl,ho5,hbb⟩;dsimp only at ho5;replace hX:=hX.step hbb;clear hbb)|((with_reducible refine qah ?_);first|(refine qaa (cs':=[(.slice A5 R.length c5),.int .i64 p,.bool n,.bool r,.bool e,.bool m,.bool d,.int .i64 c,.int .i64 k,.int .i64 a,.int .i64 l]) hX.swap aggT sizT _ _ rfl rfl rfl rfl rfl rfl rfl rfl (qan rfl _ _ _ _ _ _ _ _ _ _) ?_;intro wz hXn hkz;replace ho5:=qac hX.swap ho5 (by decide) hkz;clear hX;have hX:=hXn;clear hXn hkz)|(refine qaa (cs':=[(.slice A5 R.length c5),.int .i64 p,.bool n,.bool r,.bool e,.bool m,.bool d,.int .i64 c,.int .i64 k,.int .i64 a,.int .i64 l]) hX aggT sizT _ _ rfl rfl rfl rfl rfl rfl rfl rfl (qan rfl _ _ _ _ _ _ _ _ _ _) ?_;intro wz hXn hkz;replace ho5:=qac hX ho5 (by decide) hkz;clear hX;have hX:=hXn;clear hXn hkz)))
 first|exact bodyPost_ret (qam Tryz.results245 rfl ((hX.all _ _ _ (.head _)).loadVar rfl aggT sizT)) rfl ⟨_,rfl,⟨_,rfl,Sv.of_own ho5 hXl⟩,hX.below⟩|exact bodyPost_ret (qam Tryz.results245 rfl ((hX.all _ _ _ (.tail _ (.head _))).loadVar rfl aggT sizT)) rfl ⟨_,rfl,⟨_,rfl,Sv.of_own ho5 hXl⟩,hX.below⟩
theorem qm8 (K:Tp) (hl:K.R.length≤1099511627776) (g v:Int) (vs:Value) (X:Nat→Prop) (w:World) (hXl:∀ b,X b→b<w.heap.size) (hs:Sts w vs K.R):Calls Tryz.prog 245 #[.agg #[vs,.int .i64 (K).p,.bool (K).n,.bool (K).r,.bool (K).e,.bool (K).m,.bool (K).d,.int .i64 (K).c,.int .i64 (K).k,.int .i64 (K).a,.int .i64 (K).l],.int .i64 g,.int .i64 v] w fun e' w'=>∃ x,e'=.returned (.tuple #[x,.bool (K.wr g v).2])∧TpX X w' x (K.wr g v).1∧Below w.heap.size w w':=by
 by_cases h0:g=0
 ·subst h0
  have h2:(K.wr 0 v).2=true:=by unfold Tp.wr;rw [if_pos rfl];split<;>rfl
  rw [h2]
  exact pwrT_0 K hl v vs X w hXl hs
 by_cases h2:g=2
 ·subst h2;exact pwrT_2 K hl v vs X w hXl hs
 by_cases h4:g=4
 ·subst h4;exact pwrT_4 K hl v vs X w hXl hs
 have hz:K.wr g v=(K,false):=by unfold Tp.wr;rw [if_neg h0,if_neg h2,if_neg h4]
 rw [hz]
 exact pwrT_no K hl g v h0 h2 h4 vs X w hXl hs
theorem qha (K:Tp) (hl:K.R.length≤1099511627776) (vs:Value) (w:World) (hs:Sts w vs K.R):Calls Tryz.prog 243 #[.agg #[vs,.int .i64 (K).p,.bool (K).n,.bool (K).r,.bool (K).e,.bool (K).m,.bool (K).d,.int .i64 (K).c,.int .i64 (K).k,.int .i64 (K).a,.int .i64 (K).l]] w fun e' w'=>e'=.returned (.bool K.right)∧Below w.heap.size w w':=by
 obtain ⟨A,c0,rfl,_⟩:=hs.form
 have hct:=fun w' (h:Below w.heap.size w w')=>pctS_any K.R hl _ w' (hs.belowT h)
 have hR:K.right=(decide (K.R.length≤64) && shortV K.R && inT K.p (K.R.length:Int) && inT K.c 6 && inT K.k 65535 && inT K.a 65535 && inT K.l 16 && (K.r == decide (K.l=0))):=by
  rw [Bool.eq_iff_iff]
  unfold Tp.right Tp.ok wordV_17 inT
  simp only [Bool.and_eq_true,decide_eq_true_eq,beq_iff_eq]
  constructor
  ·rintro ⟨⟨⟨⟨⟨⟨⟨⟨⟨⟨h1,h2⟩,h3⟩,h4⟩,h5⟩,h6⟩,h7⟩,h8⟩,h9⟩,h10⟩,h11⟩;exact ⟨⟨⟨⟨⟨⟨⟨h1,h11⟩,⟨h2,h3⟩⟩,⟨h4,h5⟩⟩,h6⟩,h7⟩,⟨h8,h9⟩⟩,h10⟩
  ·rintro ⟨⟨⟨⟨⟨⟨⟨h1,h11⟩,⟨h2,h3⟩⟩,⟨h4,h5⟩⟩,h6⟩,h7⟩,⟨h8,h9⟩⟩,h10⟩;exact ⟨⟨⟨⟨⟨⟨⟨⟨⟨⟨h1,h2⟩,h3⟩,h4⟩,h5⟩,h6⟩,h7⟩,h8⟩,h9⟩,h10⟩,h11⟩
 rw [hR]
 clear hR
 obtain ⟨R,p,n,r,e,m,d,c,k,a,l⟩:=K
 dsimp only at *
 have hX:=(Bag.nil w).new 42 [(.slice A R.length c0),.int .i64 p,.bool n,.bool r,.bool e,.bool m,.bool d,.int .i64 c,.int .i64 k,.int .i64 a,.int .i64 l]
 have q1:=fun wz=>qdc p (R.length:Int) wz
 have q2:=fun wz=>qdc c 6 wz
 have q3:=fun wz=>qdc k 65535 wz
 have q4:=fun wz=>qdc a 65535 wz
 have q5:=fun wz=>qdc l 16 wz
 clear hs
 by_cases h64:64<R.length
 ·have d1:decide ((64:Int)<(R.length:Int))=true:=decide_eq_true (by omega)
  rw [show decide (R.length≤64)=false from decide_eq_false (by omega)]
  simp only [Bool.false_and]
  go_enter Tryz.func243,Tryz.ntmps243
  go_wp2_with (first|((with_reducible refine qab ?_);first|refine lc hX ?_|refine lw hX aggT sizT ?_)|((first|(go_at_call 250;with_reducible refine cst hX (q1 _) ?_)|(go_at_call 250;with_reducible refine cst hX (q2 _) ?_)|(go_at_call 250;with_reducible refine cst hX (q3 _) ?_)|(go_at_call 250;with_reducible refine cst hX (q4 _) ?_)|(go_at_call 250;with_reducible refine cst hX (q5 _) ?_)|(go_at_call 248;with_reducible refine cst hX (hct _ hX.below) ?_));clear hX;intro wc hX))
  go_ret
  exact ⟨by simp,hX.below⟩
 have d1:decide ((64:Int)<(R.length:Int))=false:=decide_eq_false (by omega)
 rw [show decide (R.length≤64)=true from decide_eq_true (by omega)]
 simp only [Bool.true_and]
 cases hsv:shortV R with
 | false =>
   rw [hsv] at hct
   simp only [Bool.false_and,Bool.not_false] at hct ⊢
   go_enter Tryz.func243,Tryz.ntmps243
   go_wp2_with (first|((with_reducible refine qab ?_);first|refine lc hX ?_|refine lw hX aggT sizT ?_)|((first|(go_at_call 250;with_reducible refine cst hX (q1 _) ?_)|(go_at_call 250;with_reducible refine cst hX (q2 _) ?_)|(go_at_call 250;with_reducible refine cst hX (q3 _) ?_)|(go_at_call 250;with_reducible refine cst hX (q4 _) ?_)|(go_at_call 250;with_reducible refine cst hX (q5 _) ?_)|(go_at_call 248;with_reducible refine cst hX (hct _ hX.below) ?_));clear hX;intro wc hX))
   go_ret
   exact ⟨by simp,hX.below⟩
 | true =>
 rw [hsv] at hct
 simp only [Bool.true_and,Bool.not_true] at hct ⊢
 cases h0:inT p (R.length:Int) with
 | false =>
   rw [h0] at q1
   simp only [Bool.false_and,Bool.and_false]
   go_enter Tryz.func243,Tryz.ntmps243
   go_wp2_with (first|((with_reducible refine qab ?_);first|refine lc hX ?_|refine lw hX aggT sizT ?_)|((first|(go_at_call 250;with_reducible refine cst hX (q1 _) ?_)|(go_at_call 250;with_reducible refine cst hX (q2 _) ?_)|(go_at_call 250;with_reducible refine cst hX (q3 _) ?_)|(go_at_call 250;with_reducible refine cst hX (q4 _) ?_)|(go_at_call 250;with_reducible refine cst hX (q5 _) ?_)|(go_at_call 248;with_reducible refine cst hX (hct _ hX.below) ?_));clear hX;intro wc hX))
   go_ret
   exact ⟨by simp,hX.below⟩
 | true =>
 rw [h0] at q1
 simp only [Bool.true_and]
 cases h1:inT c 6 with
 | false =>
   rw [h1] at q2
   simp only [Bool.false_and,Bool.and_false]
   go_enter Tryz.func243,Tryz.ntmps243
   go_wp2_with (first|((with_reducible refine qab ?_);first|refine lc hX ?_|refine lw hX aggT sizT ?_)|((first|(go_at_call 250;with_reducible refine cst hX (q1 _) ?_)|(go_at_call 250;with_reducible refine cst hX (q2 _) ?_)|(go_at_call 250;with_reducible refine cst hX (q3 _) ?_)|(go_at_call 250;with_reducible refine cst hX (q4 _) ?_)|(go_at_call 250;with_reducible refine cst hX (q5 _) ?_)|(go_at_call 248;with_reducible refine cst hX (hct _ hX.below) ?_));clear hX;intro wc hX))
   go_ret
   exact ⟨by simp,hX.below⟩
 | true =>
 rw [h1] at q2
 simp only [Bool.true_and]
 cases h2:inT k 65535 with
 | false =>
   rw [h2] at q3
   simp only [Bool.false_and,Bool.and_false]
   go_enter Tryz.func243,Tryz.ntmps243
   go_wp2_with (first|((with_reducible refine qab ?_);first|refine lc hX ?_|refine lw hX aggT sizT ?_)|((first|(go_at_call 250;with_reducible refine cst hX (q1 _) ?_)|(go_at_call 250;with_reducible refine cst hX (q2 _) ?_)|(go_at_call 250;with_reducible refine cst hX (q3 _) ?_)|(go_at_call 250;with_reducible refine cst hX (q4 _) ?_)|(go_at_call 250;with_reducible refine cst hX (q5 _) ?_)|(go_at_call 248;with_reducible refine cst hX (hct _ hX.below) ?_));clear hX;intro wc hX))
   go_ret
   exact ⟨by simp,hX.below⟩
 | true =>
 rw [h2] at q3
 simp only [Bool.true_and]
 cases h3:inT a 65535 with
 | false =>
   rw [h3] at q4
   simp only [Bool.false_and,Bool.and_false]
   go_enter Tryz.func243,Tryz.ntmps243
   go_wp2_with (first|((with_reducible refine qab ?_);first|refine lc hX ?_|refine lw hX aggT sizT ?_)|((first|(go_at_call 250;with_reducible refine cst hX (q1 _) ?_)|(go_at_call 250;with_reducible refine cst hX (q2 _) ?_)|(go_at_call 250;with_reducible refine cst hX (q3 _) ?_)|(go_at_call 250;with_reducible refine cst hX (q4 _) ?_)|(go_at_call 250;with_reducible refine cst hX (q5 _) ?_)|(go_at_call 248;with_reducible refine cst hX (hct _ hX.below) ?_));clear hX;intro wc hX))
   go_ret
   exact ⟨by simp,hX.below⟩
 | true =>
 rw [h3] at q4
 simp only [Bool.true_and]
 cases h4:inT l 16 with
 | false =>
   rw [h4] at q5
   simp only [Bool.false_and,Bool.and_false]
   go_enter Tryz.func243,Tryz.ntmps243
   go_wp2_with (first|((with_reducible refine qab ?_);first|refine lc hX ?_|refine lw hX aggT sizT ?_)|((first|(go_at_call 250;with_reducible refine cst hX (q1 _) ?_)|(go_at_call 250;with_reducible refine cst hX (q2 _) ?_)|(go_at_call 250;with_reducible refine cst hX (q3 _) ?_)|(go_at_call 250;with_reducible refine cst hX (q4 _) ?_)|(go_at_call 250;with_reducible refine cst hX (q5 _) ?_)|(go_at_call 248;with_reducible refine cst hX (hct _ hX.below) ?_));clear hX;intro wc hX))
   go_ret
   exact ⟨by simp,hX.below⟩
 | true =>
 rw [h4] at q5
 simp only [Bool.true_and]
 by_cases hl0:l=0
 ·subst hl0
  cases r
  ·go_enter Tryz.func243,Tryz.ntmps243
   go_wp2_with (first|((with_reducible refine qab ?_);first|refine lc hX ?_|refine lw hX aggT sizT ?_)|((first|(go_at_call 250;with_reducible refine cst hX (q1 _) ?_)|(go_at_call 250;with_reducible refine cst hX (q2 _) ?_)|(go_at_call 250;with_reducible refine cst hX (q3 _) ?_)|(go_at_call 250;with_reducible refine cst hX (q4 _) ?_)|(go_at_call 250;with_reducible refine cst hX (q5 _) ?_)|(go_at_call 248;with_reducible refine cst hX (hct _ hX.below) ?_));clear hX;intro wc hX))
   go_ret
   exact ⟨by simp,hX.below⟩
  ·go_enter Tryz.func243,Tryz.ntmps243
   go_wp2_with (first|((with_reducible refine qab ?_);first|refine lc hX ?_|refine lw hX aggT sizT ?_)|((first|(go_at_call 250;with_reducible refine cst hX (q1 _) ?_)|(go_at_call 250;with_reducible refine cst hX (q2 _) ?_)|(go_at_call 250;with_reducible refine cst hX (q3 _) ?_)|(go_at_call 250;with_reducible refine cst hX (q4 _) ?_)|(go_at_call 250;with_reducible refine cst hX (q5 _) ?_)|(go_at_call 248;with_reducible refine cst hX (hct _ hX.below) ?_));clear hX;intro wc hX))
   go_ret
   exact ⟨by simp,hX.below⟩
 ·have d7:(l == 0)=false:=by simpa using hl0
  rw [show decide (l=0)=false from decide_eq_false hl0]
  cases r
  ·go_enter Tryz.func243,Tryz.ntmps243
   go_wp2_with (first|((with_reducible refine qab ?_);first|refine lc hX ?_|refine lw hX aggT sizT ?_)|((first|(go_at_call 250;with_reducible refine cst hX (q1 _) ?_)|(go_at_call 250;with_reducible refine cst hX (q2 _) ?_)|(go_at_call 250;with_reducible refine cst hX (q3 _) ?_)|(go_at_call 250;with_reducible refine cst hX (q4 _) ?_)|(go_at_call 250;with_reducible refine cst hX (q5 _) ?_)|(go_at_call 248;with_reducible refine cst hX (hct _ hX.below) ?_));clear hX;intro wc hX))
   go_ret
   exact ⟨by simp,hX.below⟩
  ·go_enter Tryz.func243,Tryz.ntmps243
   go_wp2_with (first|((with_reducible refine qab ?_);first|refine lc hX ?_|refine lw hX aggT sizT ?_)|((first|(go_at_call 250;with_reducible refine cst hX (q1 _) ?_)|(go_at_call 250;with_reducible refine cst hX (q2 _) ?_)|(go_at_call 250;with_reducible refine cst hX (q3 _) ?_)|(go_at_call 250;with_reducible refine cst hX (q4 _) ?_)|(go_at_call 250;with_reducible refine cst hX (q5 _) ?_)|(go_at_call 248;with_reducible refine cst hX (hct _ hX.below) ?_));clear hX;intro wc hX))
   go_ret
   exact ⟨by simp,hX.below⟩
open Go.RowKit
abbrev MdRight (A:Ma) (B:Nat) (w:World) (f:Nat) (r:Value) (b:Bool):Prop:=Calls Tryz.prog f #[r,.pointer (some ⟨B,0,none⟩)] w fun e' w'=>e'=.returned (.bool b)∧Below w.heap.size w w'
theorem qpe (A:Ma) (hA:A.ok) (hF:A.few) (vm vb vl vs vd vt:Value) (w0 w:World) (B:Nat) (hX:Bag [(B,44,A.cells vm vb vl vs vd vt)] w0 w) (hN:MaNow w A vm vb vl vs vd vt):MdRight A B w 163 (.agg #[]) A.U.right:=by
 have hL:=Ma.len hA vs vd vt
 obtain ⟨f1,f2,f3,f4,f5⟩:=hF
 have hB:=(Below.refl w.heap.size w).alloc (Nat.le_refl _) (.cells #[] 133)
 replace hX:=hX.step hB
 have hc:∀ wz,Below w.heap.size w wz→Calls Tryz.prog 168 #[.agg A.U.L.toArray] wz fun e' w'=>e'=.returned (.bool A.U.right)∧Below wz.heap.size wz w':=fun wz h=>qmg A.U hA.2.2 wz
 clear hN
 go_enter Tryz.func163,Tryz.ntmps163
 go_wp2_with (first|((with_reducible refine qay 32 ?_);refine ldp hX qb3 qbp (qh5 hL) (Un.len hA.2.2) ?_)|(go_at_call 168;(with_reducible refine (hc _ hB).mono ?_);rintro e' wc ⟨rfl,hbb⟩;replace hX:=hX.step hbb;replace hB:=hB.trans (hbb.mono hB.size);clear hbb))
 go_ret
 exact ⟨rfl,hB⟩
theorem qqj (A:Ma) (hA:A.ok) (hF:A.few) (vm vb vl vs vd vt:Value) (w0 w:World) (B:Nat) (hX:Bag [(B,44,A.cells vm vb vl vs vd vt)] w0 w) (hN:MaNow w A vm vb vl vs vd vt):MdRight A B w 183 (.agg #[]) A.k.right:=by
 have hL:=Ma.len hA vs vd vt
 obtain ⟨f1,f2,f3,f4,f5⟩:=hF
 have hB:=(Below.refl w.heap.size w).alloc (Nat.le_refl _) (.cells #[] 134)
 replace hX:=hX.step hB
 have hc:∀ wz,Below w.heap.size w wz→Calls Tryz.prog 190 #[.agg A.k.L.toArray] wz fun e' w'=>e'=.returned (.bool A.k.right)∧Below wz.heap.size wz w':=fun wz h=>qjy A.k wz
 clear hN
 go_enter Tryz.func183,Tryz.ntmps183
 go_wp2_with (first|((with_reducible refine qay 34 ?_);refine ldp hX qbv qbx (qgw hL) rfl ?_)|(go_at_call 190;(with_reducible refine (hc _ hB).mono ?_);rintro e' wc ⟨rfl,hbb⟩;replace hX:=hX.step hbb;replace hB:=hB.trans (hbb.mono hB.size);clear hbb))
 go_ret
 exact ⟨rfl,hB⟩
theorem qpf (A:Ma) (hA:A.ok) (hF:A.few) (vm vb vl vs vd vt:Value) (w0 w:World) (B:Nat) (hX:Bag [(B,44,A.cells vm vb vl vs vd vt)] w0 w) (hN:MaNow w A vm vb vl vs vd vt):MdRight A B w 198 (.agg #[]) A.K.right:=by
 have hL:=Ma.len hA vs vd vt
 obtain ⟨f1,f2,f3,f4,f5⟩:=hF
 have hB:=(Below.refl w.heap.size w).alloc (Nat.le_refl _) (.cells #[] 135)
 replace hX:=hX.step hB
 have hc:∀ wz,Below w.heap.size w wz→Calls Tryz.prog 205 #[.agg (dkL vs vd A.K).toArray] wz fun e' w'=>e'=.returned (.bool A.K.right)∧Below wz.heap.size wz w':=fun wz h=>qme A.K f4 f3 vs vd wz (Rz.below hN.s h) (Rz.below hN.d h)
 clear hN
 go_enter Tryz.func198,Tryz.ntmps198
 go_wp2_with (first|((with_reducible refine qay 40 ?_);refine ldp hX aggK sizK (qci hL) rfl ?_)|(go_at_call 205;(with_reducible refine (hc _ hB).mono ?_);rintro e' wc ⟨rfl,hbb⟩;replace hX:=hX.step hbb;replace hB:=hB.trans (hbb.mono hB.size);clear hbb))
 go_ret
 exact ⟨rfl,hB⟩
theorem qph (A:Ma) (hA:A.ok) (hF:A.few) (vm vb vl vs vd vt:Value) (w0 w:World) (B:Nat) (hX:Bag [(B,44,A.cells vm vb vl vs vd vt)] w0 w) (hN:MaNow w A vm vb vl vs vd vt):MdRight A B w 236 (.agg #[]) A.T.right:=by
 have hL:=Ma.len hA vs vd vt
 obtain ⟨f1,f2,f3,f4,f5⟩:=hF
 have hB:=(Below.refl w.heap.size w).alloc (Nat.le_refl _) (.cells #[] 136)
 replace hX:=hX.step hB
 have hc:∀ wz,Below w.heap.size w wz→Calls Tryz.prog 243 #[.agg (tpL vt A.T).toArray] wz fun e' w'=>e'=.returned (.bool A.T.right)∧Below wz.heap.size wz w':=fun wz h=>qha A.T f5 vt wz (Rz.below hN.t h)
 clear hN
 go_enter Tryz.func236,Tryz.ntmps236
 go_wp2_with (first|((with_reducible refine qay 42 ?_);refine ldp hX aggT sizT (qc6 hL) rfl ?_)|(go_at_call 243;(with_reducible refine (hc _ hB).mono ?_);rintro e' wc ⟨rfl,hbb⟩;replace hX:=hX.step hbb;replace hB:=hB.trans (hbb.mono hB.size);clear hbb))
 go_ret
 exact ⟨rfl,hB⟩
theorem qqd (A:Ma) (hA:A.ok) (k:Nat) (hk:k<A.L.length) (hl:A.L.length≤1099511627776) (vm vb vl vs vd vt:Value) (w0 w:World) (B:Nat) (hX:Bag [(B,44,A.cells vm vb vl vs vd vt)] w0 w) (hN:Lns w vl A.L):MdRight A B w 269 (.int .i64 k) (A.line k).right:=by
 have hL:=Ma.len hA vs vd vt
 have hB:=Below.refl w.heap.size w
 obtain ⟨aL,cL,rfl,hcl,hld⟩:=qe4 hN
 obtain ⟨x,hx⟩:∃ x,A.L[k]? = some x:=⟨_,List.getElem?_eq_getElem hk⟩
 obtain ⟨ad,rfl,hld2⟩:=hld k x hx
 have i0:(0:Int)≤(k:Int):=by omega
 have i1:(k:Int)<(A.L.length:Int):=by omega
 have e:A.line k=x:=by unfold Ma.line;rw [List.getD_eq_getElem?_getD,hx];rfl
 rw [e]
 have hc:∀ wz,Calls Tryz.prog 277 #[.agg (lnL x).toArray] wz fun e' w'=>e'=.returned (.bool x.right)∧Below wz.heap.size wz w':=fun wz=>qmr x wz
 clear hld e hx hN
 go_enter Tryz.func269,Tryz.ntmps269
 go_wp2_with (first|((with_reducible refine qay 35 ?_);refine ldc (hk:=qcg hL) hX qax ?_)|((with_reducible refine qay 68 ?_);refine qaq rfl 68 _ _ _ rfl rfl (hld2 _ hB) ?_)|(go_at_call 277;(with_reducible refine (hc _).mono ?_);rintro e' wc ⟨rfl,hbb⟩;replace hX:=hX.step hbb;replace hB:=hB.trans (hbb.mono hB.size);clear hbb))
 go_ret
 exact ⟨rfl,hB⟩
end Go.Proofs.YthpnddgfgpacpaaGreat
