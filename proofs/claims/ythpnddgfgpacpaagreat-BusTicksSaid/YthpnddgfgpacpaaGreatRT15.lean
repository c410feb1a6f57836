import Derived.Test.YthpnddgfgpacpaaGreatRT04
import Derived.Test.YthpnddgfgpacpaaGreatRT08
import Derived.Deep.RegionHeld3
namespace Go.Proofs.YthpnddgfgpacpaaGreat
open Go.RowKit
set_option linter.unusedSimpArgs false
set_option linter.unusedVariables false
set_option maxHeartbeats 4000000
set_option maxRecDepth 100000
attribute [local irreducible] wpQuiet
section
variable {ops:Array Oper} {rest:List Oper} {o:Oper} {a:Act} {w w0 w1:World} {Q:Exit→Act→World→Prop} {l:List (Nat×TypeId×List Value)}
theorem qdu {B n k:Nat} {t T:TypeId} {cs ds:List Value} (hX:Bag ((B,t,cs) :: l) w0 w) (hagg:∀ w,(isAgg T).run Tryz.prog w=.ok true w) (hsz:∀ w,(sizeOf T).run Tryz.prog w=.ok n w) (x y:Operand) (hop:o.op=Op.store T x y) (hal:w1=w) (hx:a.eval x=.pointer (some ⟨B,k,none⟩)) (hy:a.eval y=.agg ds.toArray) (hdst:o.dst=none) (hw:Region.wanted o (yielded ops a.tmps)=true) (hn:ds.length=n) (hk:k+n≤cs.length) (h1:∀ v∈ds,v.oneCell'=true)
 (h:∀ w2,Bag ((B,t,cs.take k++ds++cs.drop (k+n)) :: l) w0 w2→(∀ j,j≠B→w2.heap[j]? = w.heap[j]?)→wpList Tryz.prog ops Q rest a w2):wpList Tryz.prog ops Q (o :: rest) a w1:=by
 subst hal
 have hb:=hX.all _ _ _ List.mem_cons_self
 have e:=run_storeCells_at Tryz.prog B k t ds 0 cs.toArray w1 hb (by simp;omega) h1
 have e2:(cs.toArray.toList.take (k+0)++ds++cs.toArray.toList.drop (k+0+ds.length)).toArray=(cs.take k++ds++cs.drop (k+n)).toArray:=by rw [Nat.add_zero,hn]
 rw [e2] at e
 exact qbc hw hdst T x y _ _ hop hx hy hagg (by rw [hn];exact hsz) e (h _ (hX.over _) (fun j hj=>setRow_other w1 B j _ hj))
end
theorem qh1 (D:Drv) (en er:Bool) (s:Int) (A:Nat) (n:Nat) (hn1:1≤n) (hn:n≤64) (hA:A≤32767) (m B:List Int) (vs vb vm vz:Value) (w:World) (X:Nat→Prop) (hXl:∀ b,X b→b<w.heap.size) (hs:StsX X w vs D.S) (hb:ItsX X w vb D.B) (hm:ItsX X w vm m) (hz:ItsX X w vz B) (hml:m.length≤1099511627776) (hzl:B.length≤1099511627776) (hl:D.B.length≤1099511627776) (hl2:D.S.length≤1099511627776) (hs0:0≤s∧s≤65535) (hr:¬ 2*(m.length:Int)<2*(A:Int)+2*((n:Nat):Int)) (he:(D.rd s).2=0) (hsz:(D.rd s).1.size=128) (hp:spV B (2*(A:Int)) n=false) (hd:dfW m A n (D.rd s).1=false):Calls Tryz.prog 51 #[.agg #[vs,vb,.bool en,.bool false,.bool er,.int .i64 3,.int .i64 (n:Int),.int .i64 (2*(A:Int)),.int .i64 s,.int .i64 1],vm,vz] w (TickSays (Dk.mk D en false er 3 (n:Int) (2*(A:Int)) s 1) m B X w):=by
 obtain ⟨A1,c1,rfl,_⟩:=hs.now.form
 obtain ⟨A2,c2,rfl,_⟩:=hb.now.form
 obtain ⟨A3,c3,rfl,_⟩:=hm.now.form
 obtain ⟨A4,c4,rfl,_⟩:=hz.now.form
 have h64:(Dk.mk D en false er 3 (n:Int) (2*(A:Int)) s 1).n64=n:=by unfold Dk.n64;dsimp only;omega
 have d64:¬ (64:Int)<(n:Int):=by omega
 have w0:IntKind.i64.wrap (2*(n:Int))=2*(n:Int):=by rw [qaf];unfold wrap64;omega
 have w1':IntKind.i64.wrap (2*(A:Int)+2*(n:Int))=2*(A:Int)+2*(n:Int):=by rw [qaf];unfold wrap64;omega
 have w2:IntKind.i64.wrap (2*(m.length:Int))=2*(m.length:Int):=by rw [qaf];unfold wrap64;omega
 have w3:IntKind.i64.wrap (2*(A:Int)+128)=2*(A:Int)+128:=by rw [qaf];unfold wrap64;omega
 have hfl:=fun w=>qbj (Dk.mk D en false er 3 (n:Int) (2*(A:Int)) s 0) A1 D.S.length c1 A2 D.B.length c2 w
 unfold Dk.fail at hfl
 dsimp only at hfl
 have hrd:=fun w' (h:Below w.heap.size w w')=>qbt D s hl hl2 (.slice A1 D.S.length c1) (.slice A2 D.B.length c2) w' (hs.now.below h) (hb.now.below h)
 have hsp:∀ w',Below w.heap.size w w'→Calls Tryz.prog 112 #[.slice A4 B.length c4,.int .i64 (2*(A:Int)),.int .i64 (n:Int)] w' fun e' w2=>e'=.returned (.bool (spV B (2*(A:Int)) n))∧Below w'.heap.size w' w2:=fun w' h=>qbg B (2*(A:Int)) n _ w' hzl (by omega) (by omega) (hz.now.below h)
 have hdf:∀ w',Below w.heap.size w w'→Calls Tryz.prog 113 #[.slice A3 m.length c3,.int .i64 (2*(A:Int)),.int .i64 (n:Int),.string (D.rd s).1] w' fun e' w2=>e'=.returned (.bool (dfW m A n (D.rd s).1))∧Below w'.heap.size w' w2:=fun w' h=>qd4 m A n (D.rd s).1 _ w' (by omega) hml (by omega) (hm.now.below h)
 unfold TickSays
 rw [qcs _ _ _ rfl,h64]
 dsimp only
 rw [qb8,if_neg hr,if_neg (fun h=>h.2 he),if_neg (by rw [hp];simp),if_neg (by rw [hd];simp),if_neg (by decide),if_neg (by decide)]
 (try dsimp only [Dk.l0,Dk.fail])
 have d1:¬ (2*(m.length:Int)<2*(A:Int)+2*(n:Int)):=by omega
 have d1b:¬ (2*(m.length:Int)<2*(A:Int)+2*(n:Int)):=by omega
 clear hr
 rw [hp] at hsp
 rw [he] at hrd
 rw [hd] at hdf
 have hadv:∀ D2:Drv,(Dk.mk D en false er 3 (n:Int) (2*(A:Int)) s 1).adv D2=Dk.mk D2 en true er 3 0 ((2*(A:Int)+2*(n:Int))%65536) ((s+1)%65536) 0:=fun D2=>by
  unfold Dk.adv;rw [h64];dsimp only;simp
 rw [hadv]
 (try dsimp only)
 have u1:(2*(A:Int)+2*(n:Int)).tmod 65536=(2*(A:Int)+2*(n:Int))%65536:=Int.tmod_eq_emod_of_nonneg (by omega)
 have u2:IntKind.i64.wrap ((2*(A:Int)+2*(n:Int))%65536)=(2*(A:Int)+2*(n:Int))%65536:=by rw [qaf];unfold wrap64;omega
 have u3:IntKind.i64.wrap (s+1)=s+1:=by rw [qaf];unfold wrap64;omega
 have u4:(s+1).tmod 65536=(s+1)%65536:=Int.tmod_eq_emod_of_nonneg (by omega)
 have u5:IntKind.i64.wrap ((s+1)%65536)=(s+1)%65536:=by rw [qaf];unfold wrap64;omega
 have u8:IntKind.i64.wrap (128:Int)=128:=by rw [qaf];unfold wrap64;omega
 have u9:IntKind.i64.wrap (2*(A:Int)+2*(n:Int))=2*(A:Int)+2*(n:Int):=by rw [qaf];unfold wrap64;omega
 have u6:IntKind.i64.wrap ((n:Int) - (n:Int))=0:=by rw [qaf];unfold wrap64;omega
 have u7:IntKind.i64.wrap (0:Int)=0:=by rw [qaf];unfold wrap64;omega
 generalize (D.rd s).1=sv at *
 clear hp he hd hsz hadv
 have hX:=qbi w [(.slice A1 D.S.length c1),(.slice A2 D.B.length c2),.bool en,.bool false,.bool er,.int .i64 3,.int .i64 (n:Int),.int .i64 (2*(A:Int)),.int .i64 s,.int .i64 0] [.slice none 0 0,.slice none 0 0,.bool false,.bool false,.bool false,.int .i64 0,.int .i64 0,.int .i64 0,.int .i64 0,.int .i64 0]
 clear h64
 go_enter Tryz.func51,Tryz.ntmps51
 go_wp2_with (first|((with_reducible refine qab ?_);first|refine lc hX ?_|refine lw hX aggK sizK ?_|refine lp (ds:=[_,_]) hX aggD sizD ?_)|((first|(go_at_call 111;with_reducible refine cst hX (hrd _ hX.below) ?_)|(go_at_call 112;with_reducible refine cst hX (hsp _ hX.below) ?_)|(go_at_call 113;with_reducible refine cst hX (hdf _ hX.below) ?_));clear hX;intro wc hX)|((with_reducible refine qah ?_);first|((first|refine sc (z:=.int .i64 _) hX.swap ?_|refine sc (z:=.int .i64 _) hX ?_);clear hX;intro wp hX hk3 hz3;clear hk3 hz3;simp only [sx] at hX)|((first|refine sc (z:=.bool _) hX.swap ?_|refine sc (z:=.bool _) hX ?_);clear hX;intro wp hX hk3 hz3;clear hk3 hz3;simp only [sx] at hX)|(refine qaa (cs':=[(.slice A1 D.S.length c1),(.slice A2 D.B.length c2),.bool en,.bool true,.bool er,.int .i64 3,.int .i64 0,.int .i64 ((2*(A:Int)+2*(n:Int))%65536),.int .i64 ((s+1)%65536),.int .i64 0]) hX.swap aggK sizK _ _ rfl rfl rfl rfl rfl rfl rfl rfl (qav rfl rfl _ _ _ _ _ _ _ _) ?_;clear hX;intro wz hX hkz;clear hkz)|(refine qaa (cs':=[(.slice A1 D.S.length c1),(.slice A2 D.B.length c2),.bool en,.bool true,.bool er,.int .i64 3,.int .i64 0,.int .i64 ((2*(A:Int)+2*(n:Int))%65536),.int .i64 ((s+1)%65536),.int .i64 0]) hX aggK sizK _ _ rfl rfl rfl rfl rfl rfl rfl rfl (qav rfl rfl _ _ _ _ _ _ _ _) ?_;clear hX;intro wz hX hkz;clear hkz)))
 first|exact bodyPost_ret (qal Tryz.results51 rfl ((hX.all _ _ _ (.head _)).loadVar rfl aggK sizK)) rfl ⟨_,_,_,rfl,⟨_,_,rfl,hs.below hX.below,hb.below hX.below⟩,hm.below hX.below,hz.below hX.below,hX.below⟩|exact bodyPost_ret (qal Tryz.results51 rfl ((hX.all _ _ _ (.tail _ (.head _))).loadVar rfl aggK sizK)) rfl ⟨_,_,_,rfl,⟨_,_,rfl,hs.below hX.below,hb.below hX.below⟩,hm.below hX.below,hz.below hX.below,hX.below⟩
theorem qk8 (D:Drv) (en er:Bool) (s:Int) (A:Nat) (w1:Int) (hw1:64<w1) (hw2:w1≤65535) (hA:A≤32767) (m B:List Int) (vs vb vm vz:Value) (w:World) (X:Nat→Prop) (hXl:∀ b,X b→b<w.heap.size) (hs:StsX X w vs D.S) (hb:ItsX X w vb D.B) (hm:ItsX X w vm m) (hz:ItsX X w vz B) (hml:m.length≤1099511627776) (hzl:B.length≤1099511627776) (hl:D.B.length≤1099511627776) (hl2:D.S.length≤1099511627776) (hs0:0≤s∧s≤65535) (hr:¬ 2*(m.length:Int)<2*(A:Int)+2*((64:Nat):Int)) (he:(D.rd s).2=0) (hsz:(D.rd s).1.size=128) (hp:spV B (2*(A:Int)) 64=false) (hd:dfW m A 64 (D.rd s).1=false):Calls Tryz.prog 51 #[.agg #[vs,vb,.bool en,.bool false,.bool er,.int .i64 3,.int .i64 w1,.int .i64 (2*(A:Int)),.int .i64 s,.int .i64 1],vm,vz] w (TickSays (Dk.mk D en false er 3 w1 (2*(A:Int)) s 1) m B X w):=by
 obtain ⟨A1,c1,rfl,_⟩:=hs.now.form
 obtain ⟨A2,c2,rfl,_⟩:=hb.now.form
 obtain ⟨A3,c3,rfl,_⟩:=hm.now.form
 obtain ⟨A4,c4,rfl,_⟩:=hz.now.form
 have h64:(Dk.mk D en false er 3 w1 (2*(A:Int)) s 1).n64=64:=by unfold Dk.n64;dsimp only;omega
 have d64:(64:Int)<w1:=by omega
 have w0:IntKind.i64.wrap (2*64)=2*64:=by rw [qaf];unfold wrap64;omega
 have w1':IntKind.i64.wrap (2*(A:Int)+2*64)=2*(A:Int)+2*64:=by rw [qaf];unfold wrap64;omega
 have w2:IntKind.i64.wrap (2*(m.length:Int))=2*(m.length:Int):=by rw [qaf];unfold wrap64;omega
 have w3:IntKind.i64.wrap (2*(A:Int)+128)=2*(A:Int)+128:=by rw [qaf];unfold wrap64;omega
 have hfl:=fun w=>qbj (Dk.mk D en false er 3 w1 (2*(A:Int)) s 0) A1 D.S.length c1 A2 D.B.length c2 w
 unfold Dk.fail at hfl
 dsimp only at hfl
 have hrd:=fun w' (h:Below w.heap.size w w')=>qbt D s hl hl2 (.slice A1 D.S.length c1) (.slice A2 D.B.length c2) w' (hs.now.below h) (hb.now.below h)
 have hsp:∀ w',Below w.heap.size w w'→Calls Tryz.prog 112 #[.slice A4 B.length c4,.int .i64 (2*(A:Int)),.int .i64 64] w' fun e' w2=>e'=.returned (.bool (spV B (2*(A:Int)) 64))∧Below w'.heap.size w' w2:=fun w' h=>qbg B (2*(A:Int)) 64 _ w' hzl (by omega) (by omega) (hz.now.below h)
 have hdf:∀ w',Below w.heap.size w w'→Calls Tryz.prog 113 #[.slice A3 m.length c3,.int .i64 (2*(A:Int)),.int .i64 64,.string (D.rd s).1] w' fun e' w2=>e'=.returned (.bool (dfW m A 64 (D.rd s).1))∧Below w'.heap.size w' w2:=fun w' h=>qd4 m A 64 (D.rd s).1 _ w' (by omega) hml (by omega) (hm.now.below h)
 unfold TickSays
 rw [qcs _ _ _ rfl,h64]
 dsimp only
 rw [qb8,if_neg hr,if_neg (fun h=>h.2 he),if_neg (by rw [hp];simp),if_neg (by rw [hd];simp),if_neg (by decide),if_neg (by decide)]
 (try dsimp only [Dk.l0,Dk.fail])
 have d1:¬ (2*(m.length:Int)<2*(A:Int)+128):=by omega
 have d1b:¬ (2*(m.length:Int)<2*(A:Int)+2*64):=by omega
 clear hr
 rw [hp] at hsp
 rw [he] at hrd
 rw [hd] at hdf
 have hadv:∀ D2:Drv,(Dk.mk D en false er 3 w1 (2*(A:Int)) s 1).adv D2=Dk.mk D2 en false er 3 (w1 - 64) ((2*(A:Int)+128)%65536) ((s+1)%65536) 8:=fun D2=>by
  unfold Dk.adv;rw [h64];dsimp only;rw [decide_eq_false (by omega),if_neg (by omega)];rfl
 rw [hadv]
 (try dsimp only)
 have u1:(2*(A:Int)+128).tmod 65536=(2*(A:Int)+128)%65536:=Int.tmod_eq_emod_of_nonneg (by omega)
 have u2:IntKind.i64.wrap ((2*(A:Int)+128)%65536)=(2*(A:Int)+128)%65536:=by rw [qaf];unfold wrap64;omega
 have u3:IntKind.i64.wrap (s+1)=s+1:=by rw [qaf];unfold wrap64;omega
 have u4:(s+1).tmod 65536=(s+1)%65536:=Int.tmod_eq_emod_of_nonneg (by omega)
 have u5:IntKind.i64.wrap ((s+1)%65536)=(s+1)%65536:=by rw [qaf];unfold wrap64;omega
 have u8:IntKind.i64.wrap (128:Int)=128:=by rw [qaf];unfold wrap64;omega
 have u9:IntKind.i64.wrap (2*(A:Int)+128)=2*(A:Int)+128:=by rw [qaf];unfold wrap64;omega
 have u6:IntKind.i64.wrap (w1 - 64)=w1 - 64:=by rw [qaf];unfold wrap64;omega
 have u7:(w1 - 64 == 0)=false:=by simp;omega
 generalize (D.rd s).1=sv at *
 clear hp he hd hsz hadv
 have hX:=qbi w [(.slice A1 D.S.length c1),(.slice A2 D.B.length c2),.bool en,.bool false,.bool er,.int .i64 3,.int .i64 w1,.int .i64 (2*(A:Int)),.int .i64 s,.int .i64 0] [.slice none 0 0,.slice none 0 0,.bool false,.bool false,.bool false,.int .i64 0,.int .i64 0,.int .i64 0,.int .i64 0,.int .i64 0]
 clear h64
 go_enter Tryz.func51,Tryz.ntmps51
 go_wp2_with (first|((with_reducible refine qab ?_);first|refine lc hX ?_|refine lw hX aggK sizK ?_|refine lp (ds:=[_,_]) hX aggD sizD ?_)|((first|(go_at_call 111;with_reducible refine cst hX (hrd _ hX.below) ?_)|(go_at_call 112;with_reducible refine cst hX (hsp _ hX.below) ?_)|(go_at_call 113;with_reducible refine cst hX (hdf _ hX.below) ?_));clear hX;intro wc hX)|((with_reducible refine qah ?_);first|((first|refine sc (z:=.int .i64 _) hX.swap ?_|refine sc (z:=.int .i64 _) hX ?_);clear hX;intro wp hX hk3 hz3;clear hk3 hz3;simp only [sx] at hX)|((first|refine sc (z:=.bool _) hX.swap ?_|refine sc (z:=.bool _) hX ?_);clear hX;intro wp hX hk3 hz3;clear hk3 hz3;simp only [sx] at hX)|(refine qaa (cs':=[(.slice A1 D.S.length c1),(.slice A2 D.B.length c2),.bool en,.bool false,.bool er,.int .i64 3,.int .i64 (w1 - 64),.int .i64 ((2*(A:Int)+128)%65536),.int .i64 ((s+1)%65536),.int .i64 8]) hX.swap aggK sizK _ _ rfl rfl rfl rfl rfl rfl rfl rfl (qav rfl rfl _ _ _ _ _ _ _ _) ?_;clear hX;intro wz hX hkz;clear hkz)|(refine qaa (cs':=[(.slice A1 D.S.length c1),(.slice A2 D.B.length c2),.bool en,.bool false,.bool er,.int .i64 3,.int .i64 (w1 - 64),.int .i64 ((2*(A:Int)+128)%65536),.int .i64 ((s+1)%65536),.int .i64 8]) hX aggK sizK _ _ rfl rfl rfl rfl rfl rfl rfl rfl (qav rfl rfl _ _ _ _ _ _ _ _) ?_;clear hX;intro wz hX hkz;clear hkz)))
 first|exact bodyPost_ret (qal Tryz.results51 rfl ((hX.all _ _ _ (.head _)).loadVar rfl aggK sizK)) rfl ⟨_,_,_,rfl,⟨_,_,rfl,hs.below hX.below,hb.below hX.below⟩,hm.below hX.below,hz.below hX.below,hX.below⟩|exact bodyPost_ret (qal Tryz.results51 rfl ((hX.all _ _ _ (.tail _ (.head _))).loadVar rfl aggK sizK)) rfl ⟨_,_,_,rfl,⟨_,_,rfl,hs.below hX.below,hb.below hX.below⟩,hm.below hX.below,hz.below hX.below,hX.below⟩
end Go.Proofs.YthpnddgfgpacpaaGreat
