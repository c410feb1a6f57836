import Derived.Test.YthpnddgfgpacpaaGreatRT04
import Derived.Test.YthpnddgfgpacpaaGreatRT28
namespace Go.Proofs.YthpnddgfgpacpaaGreat
open Go.RowKit
set_option linter.unusedSimpArgs false
set_option linter.unusedVariables false
set_option maxHeartbeats 4000000
set_option maxRecDepth 100000
attribute [local irreducible] wpQuiet
theorem qlf (v:Int):bits .and .i64 v 65535=v%65536:=qd1 (c:=65535) (by decide) (qe7 _ 0 16) (by intro h;omega)
theorem cmd_mod (K:Dk) (v:Int):K.cmd (v%65536)=K.cmd v:=by
 have h1:v%65536%2=v%2:=by omega
 have h2:v%65536 / 2%4=v / 2%4:=by omega
 unfold Dk.cmd;rw [h1,h2]
theorem cmd_D (K:Dk) (v:Int):(K.cmd v).D=K.D:=by
 unfold Dk.cmd
 split
 ·split<;>rfl
 ·rfl
theorem pwrK_2 (K:Dk) (hl:K.D.B.length≤1099511627776) (hl2:K.D.S.length≤1099511627776) (v:Int) (vs vb:Value) (X:Nat→Prop) (w:World) (hXl:∀ b,X b→b<w.heap.size) (hs:Sts w vs K.D.S) (hb:Its w vb K.D.B):Calls Tryz.prog 207 #[.agg #[vs,vb,.bool (K).n,.bool (K).r,.bool (K).e,.int .i64 (K).c,.int .i64 (K).w,.int .i64 (K).a,.int .i64 (K).s,.int .i64 (K).l],.int .i64 2,.int .i64 v] w fun e' w'=>∃ x,e'=.returned (.tuple #[x,.bool true])∧DkX X w' x (K.wr 2 v).1∧Below w.heap.size w w':=by
 obtain ⟨A1,c1,rfl,_⟩:=hs.form
 obtain ⟨A2,c2,rfl,_⟩:=hb.form
 obtain ⟨D,n,r,e,c,w1,a,s,l⟩:=K
 dsimp only at *
 have hX:=qbi w [(.slice A1 D.S.length c1),(.slice A2 D.B.length c2),.bool n,.bool r,.bool e,.int .i64 c,.int .i64 w1,.int .i64 a,.int .i64 s,.int .i64 l] [.slice none 0 0,.slice none 0 0,.bool false,.bool false,.bool false,.int .i64 0,.int .i64 0,.int .i64 0,.int .i64 0,.int .i64 0]
 have hv:=qlf v
 cases r
 ·show Calls _ _ _ _ fun e' w'=>∃ x,e'=.returned (.tuple #[x,.bool true])∧DkX X w' x (Dk.mk D n false e c w1 a s l)∧_
  go_enter Tryz.func207,Tryz.ntmps207
  go_wp2_with (first|((with_reducible refine qab ?_);first|refine lc hX ?_|refine lw hX aggK sizK ?_)|(go_at_call 208;have hlo:w.heap.size+2≤_:=(hX.all _ _ _ (.head _)).lt;(with_reducible refine (qch (Dk.mk D n false e c w1 a s l) hl hl2 _ _ (OwnA X w.heap.size) _ (qa2 hXl hlo) (hs.below hX.below) (hb.below hX.below)).mono ?_);rintro e' wc ⟨x5,rfl,⟨y5,y6,rfl,hs5,hb5⟩,hbb⟩;obtain ⟨A5,c5,rfl,_⟩:=hs5.now.form;obtain ⟨A6,c6,rfl,_⟩:=hb5.now.form;dsimp only at hs5 hb5;clear hlo;replace hX:=hX.step hbb;clear hbb)|((with_reducible refine qah ?_);first|(refine qaa (cs':=[(.slice A5 D.S.length c5),(.slice A6 D.B.length c6),.bool n,.bool false,.bool e,.int .i64 c,.int .i64 w1,.int .i64 a,.int .i64 s,.int .i64 l]) hX.swap aggK sizK _ _ rfl rfl rfl rfl rfl rfl rfl rfl (qav rfl rfl _ _ _ _ _ _ _ _) ?_;clear hX;intro wz hX hkz;replace hs5:=hs5.over hkz (.inr (.inl rfl));replace hb5:=hb5.over hkz (.inr (.inl rfl));replace hX:=hX.swap;clear hkz)|(refine qaa (cs':=[(.slice A5 D.S.length c5),(.slice A6 D.B.length c6),.bool n,.bool false,.bool e,.int .i64 c,.int .i64 w1,.int .i64 a,.int .i64 s,.int .i64 l]) hX aggK sizK _ _ rfl rfl rfl rfl rfl rfl rfl rfl (qav rfl rfl _ _ _ _ _ _ _ _) ?_;clear hX;intro wz hX hkz;replace hs5:=hs5.over hkz (.inr (.inr rfl));replace hb5:=hb5.over hkz (.inr (.inr rfl));clear hkz))|(go_at_call 216;(with_reducible refine (qei false _ _ hX.swap (by simp)).mono ?_);rintro e' wp ⟨rfl,hX3,hk3⟩;clear hX;replace hs5:=hs5.over hk3 (.inr (.inl rfl));replace hb5:=hb5.over hk3 (.inr (.inl rfl));have hX:=hX3.swap;clear hk3 hX3;simp only [Bool.false_eq_true,if_false,if_true,List.set_cons_zero,List.set_cons_succ] at hX))
  first|exact bodyPost_ret (qam Tryz.results207 rfl ((hX.all _ _ _ (.head _)).loadVar rfl aggK sizK)) rfl ⟨_,rfl,⟨_,_,rfl,hs5.less (fun _ h=>.inl h),hb5.less (fun _ h=>.inl h)⟩,hX.below⟩|exact bodyPost_ret (qam Tryz.results207 rfl ((hX.all _ _ _ (.tail _ (.head _))).loadVar rfl aggK sizK)) rfl ⟨_,rfl,⟨_,_,rfl,hs5.less (fun _ h=>.inl h),hb5.less (fun _ h=>.inl h)⟩,hX.below⟩
 ·show Calls _ _ _ _ fun e' w'=>∃ x,e'=.returned (.tuple #[x,.bool true])∧DkX X w' x (Dk.mk D n true e c (v%65536) a s l)∧_
  go_enter Tryz.func207,Tryz.ntmps207
  go_wp2_with (first|((with_reducible refine qab ?_);first|refine lc hX ?_|refine lw hX aggK sizK ?_)|(go_at_call 208;have hlo:w.heap.size+2≤_:=(hX.all _ _ _ (.head _)).lt;(with_reducible refine (qch (Dk.mk D n true e c w1 a s l) hl hl2 _ _ (OwnA X w.heap.size) _ (qa2 hXl hlo) (hs.below hX.below) (hb.below hX.below)).mono ?_);rintro e' wc ⟨x5,rfl,⟨y5,y6,rfl,hs5,hb5⟩,hbb⟩;obtain ⟨A5,c5,rfl,_⟩:=hs5.now.form;obtain ⟨A6,c6,rfl,_⟩:=hb5.now.form;dsimp only at hs5 hb5;clear hlo;replace hX:=hX.step hbb;clear hbb)|((with_reducible refine qah ?_);first|(refine qaa (cs':=[(.slice A5 D.S.length c5),(.slice A6 D.B.length c6),.bool n,.bool true,.bool e,.int .i64 c,.int .i64 w1,.int .i64 a,.int .i64 s,.int .i64 l]) hX.swap aggK sizK _ _ rfl rfl rfl rfl rfl rfl rfl rfl (qav rfl rfl _ _ _ _ _ _ _ _) ?_;clear hX;intro wz hX hkz;replace hs5:=hs5.over hkz (.inr (.inl rfl));replace hb5:=hb5.over hkz (.inr (.inl rfl));replace hX:=hX.swap;clear hkz)|(refine qaa (cs':=[(.slice A5 D.S.length c5),(.slice A6 D.B.length c6),.bool n,.bool true,.bool e,.int .i64 c,.int .i64 (v%65536),.int .i64 a,.int .i64 s,.int .i64 l]) hX aggK sizK _ _ rfl rfl rfl rfl rfl rfl rfl rfl (qav rfl rfl _ _ _ _ _ _ _ _) ?_;clear hX;intro wz hX hkz;replace hs5:=hs5.over hkz (.inr (.inr rfl));replace hb5:=hb5.over hkz (.inr (.inr rfl));clear hkz))|(go_at_call 216;(with_reducible refine (qei true _ _ hX.swap (by simp)).mono ?_);rintro e' wp ⟨rfl,hX3,hk3⟩;clear hX;replace hs5:=hs5.over hk3 (.inr (.inl rfl));replace hb5:=hb5.over hk3 (.inr (.inl rfl));have hX:=hX3.swap;clear hk3 hX3;simp only [Bool.false_eq_true,if_false,if_true,List.set_cons_zero,List.set_cons_succ] at hX))
  first|exact bodyPost_ret (qam Tryz.results207 rfl ((hX.all _ _ _ (.head _)).loadVar rfl aggK sizK)) rfl ⟨_,rfl,⟨_,_,rfl,hs5.less (fun _ h=>.inl h),hb5.less (fun _ h=>.inl h)⟩,hX.below⟩|exact bodyPost_ret (qam Tryz.results207 rfl ((hX.all _ _ _ (.tail _ (.head _))).loadVar rfl aggK sizK)) rfl ⟨_,rfl,⟨_,_,rfl,hs5.less (fun _ h=>.inl h),hb5.less (fun _ h=>.inl h)⟩,hX.below⟩
theorem pwrK_4 (K:Dk) (hl:K.D.B.length≤1099511627776) (hl2:K.D.S.length≤1099511627776) (v:Int) (vs vb:Value) (X:Nat→Prop) (w:World) (hXl:∀ b,X b→b<w.heap.size) (hs:Sts w vs K.D.S) (hb:Its w vb K.D.B):Calls Tryz.prog 207 #[.agg #[vs,vb,.bool (K).n,.bool (K).r,.bool (K).e,.int .i64 (K).c,.int .i64 (K).w,.int .i64 (K).a,.int .i64 (K).s,.int .i64 (K).l],.int .i64 4,.int .i64 v] w fun e' w'=>∃ x,e'=.returned (.tuple #[x,.bool true])∧DkX X w' x (K.wr 4 v).1∧Below w.heap.size w w':=by
 obtain ⟨A1,c1,rfl,_⟩:=hs.form
 obtain ⟨A2,c2,rfl,_⟩:=hb.form
 obtain ⟨D,n,r,e,c,w1,a,s,l⟩:=K
 dsimp only at *
 have hX:=qbi w [(.slice A1 D.S.length c1),(.slice A2 D.B.length c2),.bool n,.bool r,.bool e,.int .i64 c,.int .i64 w1,.int .i64 a,.int .i64 s,.int .i64 l] [.slice none 0 0,.slice none 0 0,.bool false,.bool false,.bool false,.int .i64 0,.int .i64 0,.int .i64 0,.int .i64 0,.int .i64 0]
 have hv:=qlf v
 have t1:(v%65536).tmod 2=v%65536%2:=Int.tmod_eq_emod_of_nonneg (by omega)
 have t2:IntKind.i64.wrap (v%2)=v%2:=by rw [qaf];unfold wrap64;omega
 have t3:IntKind.i64.wrap (v%65536 - v%2)=v / 2%32768*2:=by rw [qaf];unfold wrap64;omega
 cases r
 ·show Calls _ _ _ _ fun e' w'=>∃ x,e'=.returned (.tuple #[x,.bool true])∧DkX X w' x (Dk.mk D n false e c w1 a s l)∧_
  go_enter Tryz.func207,Tryz.ntmps207
  go_wp2_with (first|((with_reducible refine qab ?_);first|refine lc hX ?_|refine lw hX aggK sizK ?_)|(go_at_call 208;have hlo:w.heap.size+2≤_:=(hX.all _ _ _ (.head _)).lt;(with_reducible refine (qch (Dk.mk D n false e c w1 a s l) hl hl2 _ _ (OwnA X w.heap.size) _ (qa2 hXl hlo) (hs.below hX.below) (hb.below hX.below)).mono ?_);rintro e' wc ⟨x5,rfl,⟨y5,y6,rfl,hs5,hb5⟩,hbb⟩;obtain ⟨A5,c5,rfl,_⟩:=hs5.now.form;obtain ⟨A6,c6,rfl,_⟩:=hb5.now.form;dsimp only at hs5 hb5;clear hlo;replace hX:=hX.step hbb;clear hbb)|((with_reducible refine qah ?_);first|(refine qaa (cs':=[(.slice A5 D.S.length c5),(.slice A6 D.B.length c6),.bool n,.bool false,.bool e,.int .i64 c,.int .i64 w1,.int .i64 a,.int .i64 s,.int .i64 l]) hX.swap aggK sizK _ _ rfl rfl rfl rfl rfl rfl rfl rfl (qav rfl rfl _ _ _ _ _ _ _ _) ?_;clear hX;intro wz hX hkz;replace hs5:=hs5.over hkz (.inr (.inl rfl));replace hb5:=hb5.over hkz (.inr (.inl rfl));replace hX:=hX.swap;clear hkz)|(refine qaa (cs':=[(.slice A5 D.S.length c5),(.slice A6 D.B.length c6),.bool n,.bool false,.bool e,.int .i64 c,.int .i64 w1,.int .i64 a,.int .i64 s,.int .i64 l]) hX aggK sizK _ _ rfl rfl rfl rfl rfl rfl rfl rfl (qav rfl rfl _ _ _ _ _ _ _ _) ?_;clear hX;intro wz hX hkz;replace hs5:=hs5.over hkz (.inr (.inr rfl));replace hb5:=hb5.over hkz (.inr (.inr rfl));clear hkz))|(go_at_call 216;(with_reducible refine (qei false _ _ hX.swap (by simp)).mono ?_);rintro e' wp ⟨rfl,hX3,hk3⟩;clear hX;replace hs5:=hs5.over hk3 (.inr (.inl rfl));replace hb5:=hb5.over hk3 (.inr (.inl rfl));have hX:=hX3.swap;clear hk3 hX3;simp only [Bool.false_eq_true,if_false,if_true,List.set_cons_zero,List.set_cons_succ] at hX))
  first|exact bodyPost_ret (qam Tryz.results207 rfl ((hX.all _ _ _ (.head _)).loadVar rfl aggK sizK)) rfl ⟨_,rfl,⟨_,_,rfl,hs5.less (fun _ h=>.inl h),hb5.less (fun _ h=>.inl h)⟩,hX.below⟩|exact bodyPost_ret (qam Tryz.results207 rfl ((hX.all _ _ _ (.tail _ (.head _))).loadVar rfl aggK sizK)) rfl ⟨_,rfl,⟨_,_,rfl,hs5.less (fun _ h=>.inl h),hb5.less (fun _ h=>.inl h)⟩,hX.below⟩
 ·show Calls _ _ _ _ fun e' w'=>∃ x,e'=.returned (.tuple #[x,.bool true])∧DkX X w' x (Dk.mk D n true e c w1 (v / 2%32768*2) s l)∧_
  go_enter Tryz.func207,Tryz.ntmps207
  go_wp2_with (first|((with_reducible refine qab ?_);first|refine lc hX ?_|refine lw hX aggK sizK ?_)|(go_at_call 208;have hlo:w.heap.size+2≤_:=(hX.all _ _ _ (.head _)).lt;(with_reducible refine (qch (Dk.mk D n true e c w1 a s l) hl hl2 _ _ (OwnA X w.heap.size) _ (qa2 hXl hlo) (hs.below hX.below) (hb.below hX.below)).mono ?_);rintro e' wc ⟨x5,rfl,⟨y5,y6,rfl,hs5,hb5⟩,hbb⟩;obtain ⟨A5,c5,rfl,_⟩:=hs5.now.form;obtain ⟨A6,c6,rfl,_⟩:=hb5.now.form;dsimp only at hs5 hb5;clear hlo;replace hX:=hX.step hbb;clear hbb)|((with_reducible refine qah ?_);first|(refine qaa (cs':=[(.slice A5 D.S.length c5),(.slice A6 D.B.length c6),.bool n,.bool true,.bool e,.int .i64 c,.int .i64 w1,.int .i64 a,.int .i64 s,.int .i64 l]) hX.swap aggK sizK _ _ rfl rfl rfl rfl rfl rfl rfl rfl (qav rfl rfl _ _ _ _ _ _ _ _) ?_;clear hX;intro wz hX hkz;replace hs5:=hs5.over hkz (.inr (.inl rfl));replace hb5:=hb5.over hkz (.inr (.inl rfl));replace hX:=hX.swap;clear hkz)|(refine qaa (cs':=[(.slice A5 D.S.length c5),(.slice A6 D.B.length c6),.bool n,.bool true,.bool e,.int .i64 c,.int .i64 w1,.int .i64 (v / 2%32768*2),.int .i64 s,.int .i64 l]) hX aggK sizK _ _ rfl rfl rfl rfl rfl rfl rfl rfl (qav rfl rfl _ _ _ _ _ _ _ _) ?_;clear hX;intro wz hX hkz;replace hs5:=hs5.over hkz (.inr (.inr rfl));replace hb5:=hb5.over hkz (.inr (.inr rfl));clear hkz))|(go_at_call 216;(with_reducible refine (qei true _ _ hX.swap (by simp)).mono ?_);rintro e' wp ⟨rfl,hX3,hk3⟩;clear hX;replace hs5:=hs5.over hk3 (.inr (.inl rfl));replace hb5:=hb5.over hk3 (.inr (.inl rfl));have hX:=hX3.swap;clear hk3 hX3;simp only [Bool.false_eq_true,if_false,if_true,List.set_cons_zero,List.set_cons_succ] at hX))
  first|exact bodyPost_ret (qam Tryz.results207 rfl ((hX.all _ _ _ (.head _)).loadVar rfl aggK sizK)) rfl ⟨_,rfl,⟨_,_,rfl,hs5.less (fun _ h=>.inl h),hb5.less (fun _ h=>.inl h)⟩,hX.below⟩|exact bodyPost_ret (qam Tryz.results207 rfl ((hX.all _ _ _ (.tail _ (.head _))).loadVar rfl aggK sizK)) rfl ⟨_,rfl,⟨_,_,rfl,hs5.less (fun _ h=>.inl h),hb5.less (fun _ h=>.inl h)⟩,hX.below⟩
theorem pwrK_6 (K:Dk) (hl:K.D.B.length≤1099511627776) (hl2:K.D.S.length≤1099511627776) (v:Int) (vs vb:Value) (X:Nat→Prop) (w:World) (hXl:∀ b,X b→b<w.heap.size) (hs:Sts w vs K.D.S) (hb:Its w vb K.D.B):Calls Tryz.prog 207 #[.agg #[vs,vb,.bool (K).n,.bool (K).r,.bool (K).e,.int .i64 (K).c,.int .i64 (K).w,.int .i64 (K).a,.int .i64 (K).s,.int .i64 (K).l],.int .i64 6,.int .i64 v] w fun e' w'=>∃ x,e'=.returned (.tuple #[x,.bool true])∧DkX X w' x (K.wr 6 v).1∧Below w.heap.size w w':=by
 obtain ⟨A1,c1,rfl,_⟩:=hs.form
 obtain ⟨A2,c2,rfl,_⟩:=hb.form
 obtain ⟨D,n,r,e,c,w1,a,s,l⟩:=K
 dsimp only at *
 have hX:=qbi w [(.slice A1 D.S.length c1),(.slice A2 D.B.length c2),.bool n,.bool r,.bool e,.int .i64 c,.int .i64 w1,.int .i64 a,.int .i64 s,.int .i64 l] [.slice none 0 0,.slice none 0 0,.bool false,.bool false,.bool false,.int .i64 0,.int .i64 0,.int .i64 0,.int .i64 0,.int .i64 0]
 have hv:=qlf v
 cases r
 ·show Calls _ _ _ _ fun e' w'=>∃ x,e'=.returned (.tuple #[x,.bool true])∧DkX X w' x (Dk.mk D n false e c w1 a s l)∧_
  go_enter Tryz.func207,Tryz.ntmps207
  go_wp2_with (first|((with_reducible refine qab ?_);first|refine lc hX ?_|refine lw hX aggK sizK ?_)|(go_at_call 208;have hlo:w.heap.size+2≤_:=(hX.all _ _ _ (.head _)).lt;(with_reducible refine (qch (Dk.mk D n false e c w1 a s l) hl hl2 _ _ (OwnA X w.heap.size) _ (qa2 hXl hlo) (hs.below hX.below) (hb.below hX.below)).mono ?_);rintro e' wc ⟨x5,rfl,⟨y5,y6,rfl,hs5,hb5⟩,hbb⟩;obtain ⟨A5,c5,rfl,_⟩:=hs5.now.form;obtain ⟨A6,c6,rfl,_⟩:=hb5.now.form;dsimp only at hs5 hb5;clear hlo;replace hX:=hX.step hbb;clear hbb)|((with_reducible refine qah ?_);first|(refine qaa (cs':=[(.slice A5 D.S.length c5),(.slice A6 D.B.length c6),.bool n,.bool false,.bool e,.int .i64 c,.int .i64 w1,.int .i64 a,.int .i64 s,.int .i64 l]) hX.swap aggK sizK _ _ rfl rfl rfl rfl rfl rfl rfl rfl (qav rfl rfl _ _ _ _ _ _ _ _) ?_;clear hX;intro wz hX hkz;replace hs5:=hs5.over hkz (.inr (.inl rfl));replace hb5:=hb5.over hkz (.inr (.inl rfl));replace hX:=hX.swap;clear hkz)|(refine qaa (cs':=[(.slice A5 D.S.length c5),(.slice A6 D.B.length c6),.bool n,.bool false,.bool e,.int .i64 c,.int .i64 w1,.int .i64 a,.int .i64 s,.int .i64 l]) hX aggK sizK _ _ rfl rfl rfl rfl rfl rfl rfl rfl (qav rfl rfl _ _ _ _ _ _ _ _) ?_;clear hX;intro wz hX hkz;replace hs5:=hs5.over hkz (.inr (.inr rfl));replace hb5:=hb5.over hkz (.inr (.inr rfl));clear hkz))|(go_at_call 216;(with_reducible refine (qei false _ _ hX.swap (by simp)).mono ?_);rintro e' wp ⟨rfl,hX3,hk3⟩;clear hX;replace hs5:=hs5.over hk3 (.inr (.inl rfl));replace hb5:=hb5.over hk3 (.inr (.inl rfl));have hX:=hX3.swap;clear hk3 hX3;simp only [Bool.false_eq_true,if_false,if_true,List.set_cons_zero,List.set_cons_succ] at hX))
  first|exact bodyPost_ret (qam Tryz.results207 rfl ((hX.all _ _ _ (.head _)).loadVar rfl aggK sizK)) rfl ⟨_,rfl,⟨_,_,rfl,hs5.less (fun _ h=>.inl h),hb5.less (fun _ h=>.inl h)⟩,hX.below⟩|exact bodyPost_ret (qam Tryz.results207 rfl ((hX.all _ _ _ (.tail _ (.head _))).loadVar rfl aggK sizK)) rfl ⟨_,rfl,⟨_,_,rfl,hs5.less (fun _ h=>.inl h),hb5.less (fun _ h=>.inl h)⟩,hX.below⟩
 ·show Calls _ _ _ _ fun e' w'=>∃ x,e'=.returned (.tuple #[x,.bool true])∧DkX X w' x (Dk.mk D n true e c w1 a (v%65536) l)∧_
  go_enter Tryz.func207,Tryz.ntmps207
  go_wp2_with (first|((with_reducible refine qab ?_);first|refine lc hX ?_|refine lw hX aggK sizK ?_)|(go_at_call 208;have hlo:w.heap.size+2≤_:=(hX.all _ _ _ (.head _)).lt;(with_reducible refine (qch (Dk.mk D n true e c w1 a s l) hl hl2 _ _ (OwnA X w.heap.size) _ (qa2 hXl hlo) (hs.below hX.below) (hb.below hX.below)).mono ?_);rintro e' wc ⟨x5,rfl,⟨y5,y6,rfl,hs5,hb5⟩,hbb⟩;obtain ⟨A5,c5,rfl,_⟩:=hs5.now.form;obtain ⟨A6,c6,rfl,_⟩:=hb5.now.form;dsimp only at hs5 hb5;clear hlo;replace hX:=hX.step hbb;clear hbb)|((with_reducible refine qah ?_);first|(refine qaa (cs':=[(.slice A5 D.S.length c5),(.slice A6 D.B.length c6),.bool n,.bool true,.bool e,.int .i64 c,.int .i64 w1,.int .i64 a,.int .i64 s,.int .i64 l]) hX.swap aggK sizK _ _ rfl rfl rfl rfl rfl rfl rfl rfl (qav rfl rfl _ _ _ _ _ _ _ _) ?_;clear hX;intro wz hX hkz;replace hs5:=hs5.over hkz (.inr (.inl rfl));replace hb5:=hb5.over hkz (.inr (.inl rfl));replace hX:=hX.swap;clear hkz)|(refine qaa (cs':=[(.slice A5 D.S.length c5),(.slice A6 D.B.length c6),.bool n,.bool true,.bool e,.int .i64 c,.int .i64 w1,.int .i64 a,.int .i64 (v%65536),.int .i64 l]) hX aggK sizK _ _ rfl rfl rfl rfl rfl rfl rfl rfl (qav rfl rfl _ _ _ _ _ _ _ _) ?_;clear hX;intro wz hX hkz;replace hs5:=hs5.over hkz (.inr (.inr rfl));replace hb5:=hb5.over hkz (.inr (.inr rfl));clear hkz))|(go_at_call 216;(with_reducible refine (qei true _ _ hX.swap (by simp)).mono ?_);rintro e' wp ⟨rfl,hX3,hk3⟩;clear hX;replace hs5:=hs5.over hk3 (.inr (.inl rfl));replace hb5:=hb5.over hk3 (.inr (.inl rfl));have hX:=hX3.swap;clear hk3 hX3;simp only [Bool.false_eq_true,if_false,if_true,List.set_cons_zero,List.set_cons_succ] at hX))
  first|exact bodyPost_ret (qam Tryz.results207 rfl ((hX.all _ _ _ (.head _)).loadVar rfl aggK sizK)) rfl ⟨_,rfl,⟨_,_,rfl,hs5.less (fun _ h=>.inl h),hb5.less (fun _ h=>.inl h)⟩,hX.below⟩|exact bodyPost_ret (qam Tryz.results207 rfl ((hX.all _ _ _ (.tail _ (.head _))).loadVar rfl aggK sizK)) rfl ⟨_,rfl,⟨_,_,rfl,hs5.less (fun _ h=>.inl h),hb5.less (fun _ h=>.inl h)⟩,hX.below⟩
theorem pwrK_0 (K:Dk) (hl:K.D.B.length≤1099511627776) (hl2:K.D.S.length≤1099511627776) (v:Int) (vs vb:Value) (X:Nat→Prop) (w:World) (hXl:∀ b,X b→b<w.heap.size) (hs:Sts w vs K.D.S) (hb:Its w vb K.D.B):Calls Tryz.prog 207 #[.agg #[vs,vb,.bool (K).n,.bool (K).r,.bool (K).e,.int .i64 (K).c,.int .i64 (K).w,.int .i64 (K).a,.int .i64 (K).s,.int .i64 (K).l],.int .i64 0,.int .i64 v] w fun e' w'=>∃ x,e'=.returned (.tuple #[x,.bool true])∧DkX X w' x (K.wr 0 v).1∧Below w.heap.size w w':=by
 obtain ⟨A1,c1,rfl,_⟩:=hs.form
 obtain ⟨A2,c2,rfl,_⟩:=hb.form
 obtain ⟨D,n,r,e,c,w1,a,s,l⟩:=K
 dsimp only at *
 have hX:=qbi w [(.slice A1 D.S.length c1),(.slice A2 D.B.length c2),.bool n,.bool r,.bool e,.int .i64 c,.int .i64 w1,.int .i64 a,.int .i64 s,.int .i64 l] [.slice none 0 0,.slice none 0 0,.bool false,.bool false,.bool false,.int .i64 0,.int .i64 0,.int .i64 0,.int .i64 0,.int .i64 0]
 have hv:=qlf v
 have hct:=fun (A5:Option Addr) (c5:Nat) (A6:Option Addr) (c6:Nat) wz=>pctl_any D n r e c w1 a s l (v%65536) (by omega) (by omega) (.slice A5 D.S.length c5) (.slice A6 D.B.length c6) rfl rfl wz
 have h6:decide (v%65536 / 64%2=1)=decide (v / 64%2=1):=by rw [Bool.eq_iff_iff];simp;omega
 rw [h6,cmd_mod] at hct
 show Calls _ _ _ _ fun e' w'=>∃ x,e'=.returned (.tuple #[x,.bool true])∧DkX X w' x ((Dk.mk D (decide (v / 64%2=1)) r e c w1 a s l).cmd v)∧_
 have hD:=cmd_D (Dk.mk D (decide (v / 64%2=1)) r e c w1 a s l) v
 dsimp only at hD
 generalize (Dk.mk D (decide (v / 64%2=1)) r e c w1 a s l).cmd v=K2 at *
 clear h6
 obtain ⟨D2,n2,r2,e2,c2,w2,a2,s2,l2⟩:=K2
 dsimp only at hct hD
 subst hD
 go_enter Tryz.func207,Tryz.ntmps207
 go_wp2_with (first|((with_reducible refine qab ?_);refine lw hX aggK sizK ?_)|(go_at_call 208;have hlo:w.heap.size+2≤_:=(hX.all _ _ _ (.head _)).lt;(with_reducible refine (qch (Dk.mk D2 n r e c w1 a s l) hl hl2 _ _ (OwnA X w.heap.size) _ (qa2 hXl hlo) (hs.below hX.below) (hb.below hX.below)).mono ?_);rintro e' wc ⟨x5,rfl,⟨y5,y6,rfl,hs5,hb5⟩,hbb⟩;obtain ⟨A5,c5,rfl,_⟩:=hs5.now.form;obtain ⟨A6,c6,rfl,_⟩:=hb5.now.form;dsimp only at hs5 hb5;clear hlo;replace hX:=hX.step hbb;clear hbb)|((with_reducible refine qah ?_);first|(refine qaa (cs':=[(.slice A5 D2.S.length c5),(.slice A6 D2.B.length c6),.bool n,.bool r,.bool e,.int .i64 c,.int .i64 w1,.int .i64 a,.int .i64 s,.int .i64 l]) hX.swap aggK sizK _ _ rfl rfl rfl rfl rfl rfl rfl rfl (qav rfl rfl _ _ _ _ _ _ _ _) ?_;clear hX;intro wz hX hkz;replace hs5:=hs5.over hkz (.inr (.inl rfl));replace hb5:=hb5.over hkz (.inr (.inl rfl));replace hX:=hX.swap;clear hkz)|(refine qaa (cs':=[(.slice A5 D2.S.length c5),(.slice A6 D2.B.length c6),.bool n2,.bool r2,.bool e2,.int .i64 c2,.int .i64 w2,.int .i64 a2,.int .i64 s2,.int .i64 l2]) hX aggK sizK _ _ rfl rfl rfl rfl rfl rfl rfl rfl (qav rfl rfl _ _ _ _ _ _ _ _) ?_;clear hX;intro wz hX hkz;replace hs5:=hs5.over hkz (.inr (.inr rfl));replace hb5:=hb5.over hkz (.inr (.inr rfl));clear hkz))|(go_at_call 215;(with_reducible refine (hct _ _ _ _ _).mono ?_);rintro e' wc ⟨rfl,hbb⟩;replace hX:=hX.step hbb;replace hs5:=hs5.below hbb;replace hb5:=hb5.below hbb;clear hbb))
 first|exact bodyPost_ret (qam Tryz.results207 rfl ((hX.all _ _ _ (.head _)).loadVar rfl aggK sizK)) rfl ⟨_,rfl,⟨_,_,rfl,hs5.less (fun _ h=>.inl h),hb5.less (fun _ h=>.inl h)⟩,hX.below⟩|exact bodyPost_ret (qam Tryz.results207 rfl ((hX.all _ _ _ (.tail _ (.head _))).loadVar rfl aggK sizK)) rfl ⟨_,rfl,⟨_,_,rfl,hs5.less (fun _ h=>.inl h),hb5.less (fun _ h=>.inl h)⟩,hX.below⟩
theorem pwrK_bad (K:Dk) (hl:K.D.B.length≤1099511627776) (hl2:K.D.S.length≤1099511627776) (g v:Int) (h0:g≠0) (h2:g≠2) (h4:g≠4) (h6:g≠6) (vs vb:Value) (X:Nat→Prop) (w:World) (hXl:∀ b,X b→b<w.heap.size) (hs:Sts w vs K.D.S) (hb:Its w vb K.D.B):Calls Tryz.prog 207 #[.agg #[vs,vb,.bool (K).n,.bool (K).r,.bool (K).e,.int .i64 (K).c,.int .i64 (K).w,.int .i64 (K).a,.int .i64 (K).s,.int .i64 (K).l],.int .i64 g,.int .i64 v] w fun e' w'=>∃ x,e'=.returned (.tuple #[x,.bool false])∧DkX X w' x Dk.z∧Below w.heap.size w w':=by
 obtain ⟨A1,c1,rfl,_⟩:=hs.form
 obtain ⟨A2,c2,rfl,_⟩:=hb.form
 obtain ⟨D,n,r,e,c,w1,a,s,l⟩:=K
 dsimp only at *
 have hX:=qbi w [(.slice A1 D.S.length c1),(.slice A2 D.B.length c2),.bool n,.bool r,.bool e,.int .i64 c,.int .i64 w1,.int .i64 a,.int .i64 s,.int .i64 l] [.slice none 0 0,.slice none 0 0,.bool false,.bool false,.bool false,.int .i64 0,.int .i64 0,.int .i64 0,.int .i64 0,.int .i64 0]
 have hv:=qlf v
 have e0:(g == 0)=false:=by simpa using h0
 have e2:(g == 2)=false:=by simpa using h2
 have e4:(g == 4)=false:=by simpa using h4
 have e6:(g == 6)=false:=by simpa using h6
 go_enter Tryz.func207,Tryz.ntmps207
 go_wp2_with (first|((with_reducible refine qab ?_);refine lw hX aggK sizK ?_)|(go_at_call 208;have hlo:w.heap.size+2≤_:=(hX.all _ _ _ (.head _)).lt;(with_reducible refine (qch (Dk.mk D n r e c w1 a s l) hl hl2 _ _ (OwnA X w.heap.size) _ (qa2 hXl hlo) (hs.below hX.below) (hb.below hX.below)).mono ?_);rintro e' wc ⟨x5,rfl,⟨y5,y6,rfl,hs5,hb5⟩,hbb⟩;obtain ⟨A5,c5,rfl,_⟩:=hs5.now.form;obtain ⟨A6,c6,rfl,_⟩:=hb5.now.form;dsimp only at hs5 hb5;clear hlo;replace hX:=hX.step hbb;clear hbb)|((with_reducible refine qah ?_);first|(refine qaa (cs':=[(.slice A5 D.S.length c5),(.slice A6 D.B.length c6),.bool n,.bool r,.bool e,.int .i64 c,.int .i64 w1,.int .i64 a,.int .i64 s,.int .i64 l]) hX.swap aggK sizK _ _ rfl rfl rfl rfl rfl rfl rfl rfl (qav rfl rfl _ _ _ _ _ _ _ _) ?_;clear hX;intro wz hX hkz;replace hs5:=hs5.over hkz (.inr (.inl rfl));replace hb5:=hb5.over hkz (.inr (.inl rfl));replace hX:=hX.swap;clear hkz)|(refine qaa (cs':=[.slice none 0 0,.slice none 0 0,.bool false,.bool false,.bool false,.int .i64 0,.int .i64 0,.int .i64 0,.int .i64 0,.int .i64 0]) hX aggK sizK _ _ rfl rfl rfl rfl rfl rfl rfl rfl (qav rfl rfl _ _ _ _ _ _ _ _) ?_;clear hX;intro wz hX hkz;replace hs5:=hs5.over hkz (.inr (.inr rfl));replace hb5:=hb5.over hkz (.inr (.inr rfl));clear hkz)))
 first|exact bodyPost_ret (qam Tryz.results207 rfl ((hX.all _ _ _ (.head _)).loadVar rfl aggK sizK)) rfl ⟨_,rfl,⟨_,_,rfl,Sv.nil X _,Sv.nil X _⟩,hX.below⟩|exact bodyPost_ret (qam Tryz.results207 rfl ((hX.all _ _ _ (.tail _ (.head _))).loadVar rfl aggK sizK)) rfl ⟨_,rfl,⟨_,_,rfl,Sv.nil X _,Sv.nil X _⟩,hX.below⟩
theorem qmu (K:Dk) (hl:K.D.B.length≤1099511627776) (hl2:K.D.S.length≤1099511627776) (g v:Int) (vs vb:Value) (X:Nat→Prop) (w:World) (hXl:∀ b,X b→b<w.heap.size) (hs:Sts w vs K.D.S) (hb:Its w vb K.D.B):Calls Tryz.prog 207 #[.agg #[vs,vb,.bool (K).n,.bool (K).r,.bool (K).e,.int .i64 (K).c,.int .i64 (K).w,.int .i64 (K).a,.int .i64 (K).s,.int .i64 (K).l],.int .i64 g,.int .i64 v] w fun e' w'=>∃ x,e'=.returned (.tuple #[x,.bool (K.wr g v).2])∧DkX X w' x (K.wr g v).1∧Below w.heap.size w w':=by
 by_cases h0:g=0
 ·subst h0;exact pwrK_0 K hl hl2 v vs vb X w hXl hs hb
 by_cases h2:g=2
 ·subst h2;exact pwrK_2 K hl hl2 v vs vb X w hXl hs hb
 by_cases h4:g=4
 ·subst h4;exact pwrK_4 K hl hl2 v vs vb X w hXl hs hb
 by_cases h6:g=6
 ·subst h6;exact pwrK_6 K hl hl2 v vs vb X w hXl hs hb
 have hz:K.wr g v=(Dk.z,false):=by unfold Dk.wr;rw [if_neg h0,if_neg h2,if_neg h4,if_neg h6]
 rw [hz]
 exact pwrK_bad K hl hl2 g v h0 h2 h4 h6 vs vb X w hXl hs hb
theorem qme (K:Dk) (hl:K.D.B.length≤1099511627776) (hl2:K.D.S.length≤1099511627776) (vs vb:Value) (w:World) (hs:Sts w vs K.D.S) (hb:Its w vb K.D.B):Calls Tryz.prog 205 #[.agg #[vs,vb,.bool (K).n,.bool (K).r,.bool (K).e,.int .i64 (K).c,.int .i64 (K).w,.int .i64 (K).a,.int .i64 (K).s,.int .i64 (K).l]] w fun e' w'=>e'=.returned (.bool K.right)∧Below w.heap.size w w':=by
 obtain ⟨A1,c1,rfl,_⟩:=hs.form
 obtain ⟨A2,c2,rfl,_⟩:=hb.form
 obtain ⟨D,n,r,e,c,w1,a,s,l⟩:=K
 dsimp only at *
 have hX:=(Bag.nil w).new 40 [(.slice A1 D.S.length c1),(.slice A2 D.B.length c2),.bool n,.bool r,.bool e,.int .i64 c,.int .i64 w1,.int .i64 a,.int .i64 s,.int .i64 l]
 have hdr:=fun wz (h:Below w.heap.size w wz)=>qp2 D hl hl2 (.slice A1 D.S.length c1) (.slice A2 D.B.length c2) wz (hs.below h) (hb.below h)
 have htr:=fun wz=>qij n r e c w1 a s l (.slice A1 D.S.length c1) (.slice A2 D.B.length c2) wz
 have q1:=fun wz=>qdz c 3 wz
 have q2:=fun wz=>qdz l 8 wz
 have q3:=fun wz=>qdz w1 65535 wz
 have q4:=fun wz=>qdz a 65535 wz
 have q5:=fun wz=>qdz s 65535 wz
 have hR:Dk.right (Dk.mk D n r e c w1 a s l)=(inW c 3 && inW l 8 && inW w1 65535 && inW a 65535 && inW s 65535 && decide (a%2=0) && (r == decide (l=0)) && (decide (l=0) || trB c w1) && D.right):=by
  rw [Bool.eq_iff_iff]
  unfold Dk.right Dk.ok wordV inW trB
  simp only [Bool.and_eq_true,Bool.or_eq_true,decide_eq_true_eq,beq_iff_eq]
  constructor
  ·rintro ⟨⟨⟨⟨⟨⟨⟨⟨⟨⟨h1,h2⟩,h3⟩,h4⟩,h5⟩,h6⟩,h7⟩,h8⟩,h9⟩,h10⟩,h11⟩;exact ⟨⟨⟨⟨⟨⟨⟨⟨⟨h1,h2⟩,⟨h7,h8⟩⟩,h3⟩,h4⟩,h5⟩,h6⟩,h9⟩,h10⟩,h11⟩
  ·rintro ⟨⟨⟨⟨⟨⟨⟨⟨⟨h1,h2⟩,⟨h7,h8⟩⟩,h3⟩,h4⟩,h5⟩,h6⟩,h9⟩,h10⟩,h11⟩;exact ⟨⟨⟨⟨⟨⟨⟨⟨⟨⟨h1,h2⟩,h3⟩,h4⟩,h5⟩,h6⟩,h7⟩,h8⟩,h9⟩,h10⟩,h11⟩
 rw [hR]
 clear hR
 have a1:inW c 3=true→0≤c:=fun h=>((qtb _ _).1 h).1
 have a4:inW a 65535=true→0≤a:=fun h=>((qtb _ _).1 h).1
 cases h0:inW c 3 with
 | false =>
   rw [h0] at q1
   simp only [Bool.false_and,Bool.and_false]
   go_enter Tryz.func205,Tryz.ntmps205
   go_wp2_with (first|((with_reducible refine qab ?_);first|refine lc hX ?_|refine lw hX aggK sizK ?_|refine lp (ds:=[_,_]) hX aggD sizD ?_)|((first|(go_at_call 210;with_reducible refine cst hX (q1 _) ?_)|(go_at_call 210;with_reducible refine cst hX (q2 _) ?_)|(go_at_call 210;with_reducible refine cst hX (q3 _) ?_)|(go_at_call 210;with_reducible refine cst hX (q4 _) ?_)|(go_at_call 210;with_reducible refine cst hX (q5 _) ?_)|(go_at_call 211;with_reducible refine cst hX (htr _) ?_)|(go_at_call 212;with_reducible refine cst hX (hdr _ hX.below) ?_));clear hX;intro wc hX))
   go_ret
   exact ⟨by simp,hX.below⟩
 | true =>
 rw [h0] at q1
 cases h1:inW l 8 with
 | false =>
   rw [h1] at q2
   simp only [Bool.false_and,Bool.and_false]
   go_enter Tryz.func205,Tryz.ntmps205
   go_wp2_with (first|((with_reducible refine qab ?_);first|refine lc hX ?_|refine lw hX aggK sizK ?_|refine lp (ds:=[_,_]) hX aggD sizD ?_)|((first|(go_at_call 210;with_reducible refine cst hX (q1 _) ?_)|(go_at_call 210;with_reducible refine cst hX (q2 _) ?_)|(go_at_call 210;with_reducible refine cst hX (q3 _) ?_)|(go_at_call 210;with_reducible refine cst hX (q4 _) ?_)|(go_at_call 210;with_reducible refine cst hX (q5 _) ?_)|(go_at_call 211;with_reducible refine cst hX (htr _) ?_)|(go_at_call 212;with_reducible refine cst hX (hdr _ hX.below) ?_));clear hX;intro wc hX))
   go_ret
   exact ⟨by simp,hX.below⟩
 | true =>
 rw [h1] at q2
 cases h2:inW w1 65535 with
 | false =>
   rw [h2] at q3
   simp only [Bool.false_and,Bool.and_false]
   go_enter Tryz.func205,Tryz.ntmps205
   go_wp2_with (first|((with_reducible refine qab ?_);first|refine lc hX ?_|refine lw hX aggK sizK ?_|refine lp (ds:=[_,_]) hX aggD sizD ?_)|((first|(go_at_call 210;with_reducible refine cst hX (q1 _) ?_)|(go_at_call 210;with_reducible refine cst hX (q2 _) ?_)|(go_at_call 210;with_reducible refine cst hX (q3 _) ?_)|(go_at_call 210;with_reducible refine cst hX (q4 _) ?_)|(go_at_call 210;with_reducible refine cst hX (q5 _) ?_)|(go_at_call 211;with_reducible refine cst hX (htr _) ?_)|(go_at_call 212;with_reducible refine cst hX (hdr _ hX.below) ?_));clear hX;intro wc hX))
   go_ret
   exact ⟨by simp,hX.below⟩
 | true =>
 rw [h2] at q3
 cases h3:inW a 65535 with
 | false =>
   rw [h3] at q4
   simp only [Bool.false_and,Bool.and_false]
   go_enter Tryz.func205,Tryz.ntmps205
   go_wp2_with (first|((with_reducible refine qab ?_);first|refine lc hX ?_|refine lw hX aggK sizK ?_|refine lp (ds:=[_,_]) hX aggD sizD ?_)|((first|(go_at_call 210;with_reducible refine cst hX (q1 _) ?_)|(go_at_call 210;with_reducible refine cst hX (q2 _) ?_)|(go_at_call 210;with_reducible refine cst hX (q3 _) ?_)|(go_at_call 210;with_reducible refine cst hX (q4 _) ?_)|(go_at_call 210;with_reducible refine cst hX (q5 _) ?_)|(go_at_call 211;with_reducible refine cst hX (htr _) ?_)|(go_at_call 212;with_reducible refine cst hX (hdr _ hX.below) ?_));clear hX;intro wc hX))
   go_ret
   exact ⟨by simp,hX.below⟩
 | true =>
 rw [h3] at q4
 cases h4:inW s 65535 with
 | false =>
   rw [h4] at q5
   simp only [Bool.false_and,Bool.and_false]
   go_enter Tryz.func205,Tryz.ntmps205
   go_wp2_with (first|((with_reducible refine qab ?_);first|refine lc hX ?_|refine lw hX aggK sizK ?_|refine lp (ds:=[_,_]) hX aggD sizD ?_)|((first|(go_at_call 210;with_reducible refine cst hX (q1 _) ?_)|(go_at_call 210;with_reducible refine cst hX (q2 _) ?_)|(go_at_call 210;with_reducible refine cst hX (q3 _) ?_)|(go_at_call 210;with_reducible refine cst hX (q4 _) ?_)|(go_at_call 210;with_reducible refine cst hX (q5 _) ?_)|(go_at_call 211;with_reducible refine cst hX (htr _) ?_)|(go_at_call 212;with_reducible refine cst hX (hdr _ hX.below) ?_));clear hX;intro wc hX))
   go_ret
   exact ⟨by simp,hX.below⟩
 | true =>
 rw [h4] at q5
 simp only [Bool.true_and]
 have ha:=a4 h3
 have t1:a.tmod 2=a%2:=Int.tmod_eq_emod_of_nonneg ha
 have t2:IntKind.i64.wrap (a%2)=a%2:=by rw [qaf];unfold wrap64;omega
 by_cases h5:¬ a%2=0
 ·have d5:(a%2 != 0)=true:=by simpa using h5
  have d6:decide (a%2=0)=false:=by simpa using h5
  rw [d6]
  simp only [Bool.false_and,Bool.and_false]
  go_enter Tryz.func205,Tryz.ntmps205
  go_wp2_with (first|((with_reducible refine qab ?_);first|refine lc hX ?_|refine lw hX aggK sizK ?_|refine lp (ds:=[_,_]) hX aggD sizD ?_)|((first|(go_at_call 210;with_reducible refine cst hX (q1 _) ?_)|(go_at_call 210;with_reducible refine cst hX (q2 _) ?_)|(go_at_call 210;with_reducible refine cst hX (q3 _) ?_)|(go_at_call 210;with_reducible refine cst hX (q4 _) ?_)|(go_at_call 210;with_reducible refine cst hX (q5 _) ?_)|(go_at_call 211;with_reducible refine cst hX (htr _) ?_)|(go_at_call 212;with_reducible refine cst hX (hdr _ hX.below) ?_));clear hX;intro wc hX))
  go_ret
  exact ⟨by simp,hX.below⟩
 replace h5:a%2=0:=by omega
 have d5:(a%2 != 0)=false:=by simpa using h5
 have d6:decide (a%2=0)=true:=by simpa using h5
 rw [d6]
 simp only [Bool.true_and]
 clear d6
 by_cases h6:l=0
 ·subst h6
  cases r
  ·go_enter Tryz.func205,Tryz.ntmps205
   go_wp2_with (first|((with_reducible refine qab ?_);first|refine lc hX ?_|refine lw hX aggK sizK ?_|refine lp (ds:=[_,_]) hX aggD sizD ?_)|((first|(go_at_call 210;with_reducible refine cst hX (q1 _) ?_)|(go_at_call 210;with_reducible refine cst hX (q2 _) ?_)|(go_at_call 210;with_reducible refine cst hX (q3 _) ?_)|(go_at_call 210;with_reducible refine cst hX (q4 _) ?_)|(go_at_call 210;with_reducible refine cst hX (q5 _) ?_)|(go_at_call 211;with_reducible refine cst hX (htr _) ?_)|(go_at_call 212;with_reducible refine cst hX (hdr _ hX.below) ?_));clear hX;intro wc hX))
   go_ret
   exact ⟨by simp,hX.below⟩
  ·go_enter Tryz.func205,Tryz.ntmps205
   go_wp2_with (first|((with_reducible refine qab ?_);first|refine lc hX ?_|refine lw hX aggK sizK ?_|refine lp (ds:=[_,_]) hX aggD sizD ?_)|((first|(go_at_call 210;with_reducible refine cst hX (q1 _) ?_)|(go_at_call 210;with_reducible refine cst hX (q2 _) ?_)|(go_at_call 210;with_reducible refine cst hX (q3 _) ?_)|(go_at_call 210;with_reducible refine cst hX (q4 _) ?_)|(go_at_call 210;with_reducible refine cst hX (q5 _) ?_)|(go_at_call 211;with_reducible refine cst hX (htr _) ?_)|(go_at_call 212;with_reducible refine cst hX (hdr _ hX.below) ?_));clear hX;intro wc hX))
   go_ret
   exact ⟨by simp,hX.below⟩
 ·have d7:(l != 0)=true:=by simpa using h6
  have d8:decide (l=0)=false:=by simpa using h6
  rw [d8]
  simp only [Bool.false_or]
  cases r
  ·cases h7:trB c w1 with
   | false =>
     rw [h7] at htr
     go_enter Tryz.func205,Tryz.ntmps205
     go_wp2_with (first|((with_reducible refine qab ?_);first|refine lc hX ?_|refine lw hX aggK sizK ?_|refine lp (ds:=[_,_]) hX aggD sizD ?_)|((first|(go_at_call 210;with_reducible refine cst hX (q1 _) ?_)|(go_at_call 210;with_reducible refine cst hX (q2 _) ?_)|(go_at_call 210;with_reducible refine cst hX (q3 _) ?_)|(go_at_call 210;with_reducible refine cst hX (q4 _) ?_)|(go_at_call 210;with_reducible refine cst hX (q5 _) ?_)|(go_at_call 211;with_reducible refine cst hX (htr _) ?_)|(go_at_call 212;with_reducible refine cst hX (hdr _ hX.below) ?_));clear hX;intro wc hX))
     go_ret
     exact ⟨by simp,hX.below⟩
   | true =>
     rw [h7] at htr
     go_enter Tryz.func205,Tryz.ntmps205
     go_wp2_with (first|((with_reducible refine qab ?_);first|refine lc hX ?_|refine lw hX aggK sizK ?_|refine lp (ds:=[_,_]) hX aggD sizD ?_)|((first|(go_at_call 210;with_reducible refine cst hX (q1 _) ?_)|(go_at_call 210;with_reducible refine cst hX (q2 _) ?_)|(go_at_call 210;with_reducible refine cst hX (q3 _) ?_)|(go_at_call 210;with_reducible refine cst hX (q4 _) ?_)|(go_at_call 210;with_reducible refine cst hX (q5 _) ?_)|(go_at_call 211;with_reducible refine cst hX (htr _) ?_)|(go_at_call 212;with_reducible refine cst hX (hdr _ hX.below) ?_));clear hX;intro wc hX))
     go_ret
     exact ⟨by simp,hX.below⟩
  ·go_enter Tryz.func205,Tryz.ntmps205
   go_wp2_with (first|((with_reducible refine qab ?_);first|refine lc hX ?_|refine lw hX aggK sizK ?_|refine lp (ds:=[_,_]) hX aggD sizD ?_)|((first|(go_at_call 210;with_reducible refine cst hX (q1 _) ?_)|(go_at_call 210;with_reducible refine cst hX (q2 _) ?_)|(go_at_call 210;with_reducible refine cst hX (q3 _) ?_)|(go_at_call 210;with_reducible refine cst hX (q4 _) ?_)|(go_at_call 210;with_reducible refine cst hX (q5 _) ?_)|(go_at_call 211;with_reducible refine cst hX (htr _) ?_)|(go_at_call 212;with_reducible refine cst hX (hdr _ hX.below) ?_));clear hX;intro wc hX))
   go_ret
   exact ⟨by simp,hX.below⟩
end Go.Proofs.YthpnddgfgpacpaaGreat
