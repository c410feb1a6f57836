import Derived.Test.YthpnddgfgpacpaaGreatRT04
import Derived.Test.YthpnddgfgpacpaaGreatRT07
namespace Go.Proofs.YthpnddgfgpacpaaGreat
open Go.RowKit
set_option linter.unusedSimpArgs false
set_option linter.unusedVariables false
set_option maxHeartbeats 4000000
set_option maxRecDepth 100000
attribute [local irreducible] wpQuiet
def Dk.n64 (K:Dk):Nat:=min K.w.toNat 64
def Dk.adv (K:Dk) (D:Drv):Dk:={D:=D,n:=K.n,r:=decide (K.w - (K.n64:Int)=0),e:=K.e,c:=K.c,w:=K.w - (K.n64:Int),a:=(K.a+2*(K.n64:Int))%65536,s:=(K.s+1)%65536,l:=if K.w - (K.n64:Int)=0 then 0 else 8}
def Dk.l0 (K:Dk):Dk:={K with l:=0}
def putM (m:List Int) (A:Nat) (s:ByteArray) (k:Nat):List Int:=(List.range k).foldl (fun m i=>m.set (A+i) (atV s i)) m
theorem qew (m:List Int) (A:Nat) (s:ByteArray) (k:Nat):putM m A s (k+1)=(putM m A s k).set (A+k) (atV s k):=by
 unfold putM;rw [List.range_succ,List.foldl_append];rfl
theorem qfw (m:List Int) (A:Nat) (s:ByteArray):∀ k,(putM m A s k).length=m.length
 | 0=>rfl
 | k+1=>by rw [qew,List.length_set,qfw m A s k]
def outB (B:List Int) (a:Int) (n:Nat):List Int:=B.filter fun b=>decide (b<a) || decide (a+2*(n:Int)≤b)
def Dk.tick (K:Dk) (m B:List Int):Dk×List Int×List Int :=
 if K.l=0 then (K,m,B)
 else if 1<K.l then ({K with l:=K.l - 1},m,B)
 else if 2*(m.length:Int)<K.a+2*(K.n64:Int) then (K.l0.fail,m,B)
 else if K.c≠2∧(K.D.rd K.s).2≠0 then (K.l0.fail,m,B)
 else if K.c≠1∧spV B K.a K.n64=true then (K.l0.fail,m,B)
 else if K.c=3∧dfW m (K.a / 2).toNat K.n64 (K.D.rd K.s).1=true then (K.l0.fail,m,B)
 else if K.c=2 then (if (K.D.wr K.s (secV m (K.a / 2).toNat K.n64)).2=0 then (K.adv (K.D.wr K.s (secV m (K.a / 2).toNat K.n64)).1,m,B) else (K.l0.fail,m,B))
 else if K.c=1 then (K.adv K.D,putM m (K.a / 2).toNat (K.D.rd K.s).1 K.n64,outB B K.a K.n64)
 else (K.adv K.D,m,B)
theorem qal {P:Program} {fn:Func} {tmps:Array Value} {w:World} {j k m:Tmp} {T:TypeId} {a:Addr} {v:Value} (hr:fn.results=#[.cell j T,.tmp k,.tmp m]) (ha:tmps.getD j undef=.pointer (some a)) (hl:(Go.loadVar T a).run P w=.ok v w) :
 (results fn tmps).run P w=.ok (.tuple #[v,tmps.getD k undef,tmps.getD m undef]) w:=by
 unfold results
 rw [hr]
 have ha':=ha
 rw [Array.getD_eq_getD_getElem?] at ha'
 simp [ha',asAddr,hl]
def TickSays (K:Dk) (m B:List Int) (X:Nat→Prop) (w:World) (e':Ending) (w':World):Prop:=∃ x y z,e'=.returned (.tuple #[x,y,z])∧DkX X w' x (K.tick m B).1∧ItsX X w' y (K.tick m B).2.1∧ItsX X w' z (K.tick m B).2.2∧Below w.heap.size w w'
theorem qbu (w:World):(sizeOf 3).run Tryz.prog w=.ok 1 w:=by kernel_rfl
theorem qbo (w:World):(sizeOf 4).run Tryz.prog w=.ok 1 w:=by kernel_rfl
theorem qqq (K:Dk) (m B:List Int) (vs vb vm vz:Value) (w:World) (X:Nat→Prop) (hXl:∀ b,X b→b<w.heap.size) (hs:StsX X w vs K.D.S) (hb:ItsX X w vb K.D.B) (hm:ItsX X w vm m) (hz:ItsX X w vz B) (h0:K.l=0):Calls Tryz.prog 51 #[.agg #[vs,vb,.bool (K).n,.bool (K).r,.bool (K).e,.int .i64 (K).c,.int .i64 (K).w,.int .i64 (K).a,.int .i64 (K).s,.int .i64 (K).l],vm,vz] w (TickSays K m B X w):=by
 obtain ⟨A1,c1,rfl,_⟩:=hs.now.form
 obtain ⟨A2,c2,rfl,_⟩:=hb.now.form
 obtain ⟨A3,c3,rfl,_⟩:=hm.now.form
 obtain ⟨A4,c4,rfl,_⟩:=hz.now.form
 unfold TickSays Dk.tick
 rw [if_pos h0]
 obtain ⟨D,en,rd,er,c,w1,a,s,l⟩:=K
 dsimp only at *
 subst h0
 have hX:=qbi w [(.slice A1 D.S.length c1),(.slice A2 D.B.length c2),.bool en,.bool rd,.bool er,.int .i64 c,.int .i64 w1,.int .i64 a,.int .i64 s,.int .i64 0] [.slice none 0 0,.slice none 0 0,.bool false,.bool false,.bool false,.int .i64 0,.int .i64 0,.int .i64 0,.int .i64 0,.int .i64 0]
 go_enter Tryz.func51,Tryz.ntmps51
 go_wp2_with (first|((with_reducible refine qab ?_);first|refine lc hX ?_|refine lw hX aggK sizK ?_)|((with_reducible refine qah ?_);refine qaa (cs':=[(.slice A1 D.S.length c1),(.slice A2 D.B.length c2),.bool en,.bool rd,.bool er,.int .i64 c,.int .i64 w1,.int .i64 a,.int .i64 s,.int .i64 0]) hX aggK sizK _ _ rfl rfl rfl rfl rfl rfl rfl rfl (qav rfl rfl _ _ _ _ _ _ _ _) ?_;clear hX;intro wz hX hkz;clear hkz))
 first|exact bodyPost_ret (qal Tryz.results51 rfl ((hX.all _ _ _ (.head _)).loadVar rfl aggK sizK)) rfl ⟨_,_,_,rfl,⟨_,_,rfl,hs.below hX.below,hb.below hX.below⟩,hm.below hX.below,hz.below hX.below,hX.below⟩|exact bodyPost_ret (qal Tryz.results51 rfl ((hX.all _ _ _ (.tail _ (.head _))).loadVar rfl aggK sizK)) rfl ⟨_,_,_,rfl,⟨_,_,rfl,hs.below hX.below,hb.below hX.below⟩,hm.below hX.below,hz.below hX.below,hX.below⟩
theorem qpb (K:Dk) (m B:List Int) (vs vb vm vz:Value) (w:World) (X:Nat→Prop) (hXl:∀ b,X b→b<w.heap.size) (hs:StsX X w vs K.D.S) (hb:ItsX X w vb K.D.B) (hm:ItsX X w vm m) (hz:ItsX X w vz B) (h0:1<K.l) (h8:K.l≤8):Calls Tryz.prog 51 #[.agg #[vs,vb,.bool (K).n,.bool (K).r,.bool (K).e,.int .i64 (K).c,.int .i64 (K).w,.int .i64 (K).a,.int .i64 (K).s,.int .i64 (K).l],vm,vz] w (TickSays K m B X w):=by
 obtain ⟨A1,c1,rfl,_⟩:=hs.now.form
 obtain ⟨A2,c2,rfl,_⟩:=hb.now.form
 obtain ⟨A3,c3,rfl,_⟩:=hm.now.form
 obtain ⟨A4,c4,rfl,_⟩:=hz.now.form
 unfold TickSays Dk.tick
 rw [if_neg (by omega),if_pos h0]
 obtain ⟨D,en,rd,er,c,w1,a,s,l⟩:=K
 dsimp only at *
 have d1:(l == 0)=false:=by simp;omega
 have d2:IntKind.i64.wrap (l - 1)=l - 1:=by rw [qaf];unfold wrap64;omega
 have d3:(0:Int)<l - 1:=by omega
 have d4:decide ((0:Int)<l - 1)=true:=decide_eq_true d3
 have hX:=qbi w [(.slice A1 D.S.length c1),(.slice A2 D.B.length c2),.bool en,.bool rd,.bool er,.int .i64 c,.int .i64 w1,.int .i64 a,.int .i64 s,.int .i64 (l - 1)] [.slice none 0 0,.slice none 0 0,.bool false,.bool false,.bool false,.int .i64 0,.int .i64 0,.int .i64 0,.int .i64 0,.int .i64 0]
 clear h0 h8
 go_enter Tryz.func51,Tryz.ntmps51
 go_wp2_with (first|((with_reducible refine qab ?_);refine lw hX aggK sizK ?_)|((with_reducible refine qah ?_);refine qaa (cs':=[(.slice A1 D.S.length c1),(.slice A2 D.B.length c2),.bool en,.bool rd,.bool er,.int .i64 c,.int .i64 w1,.int .i64 a,.int .i64 s,.int .i64 (l - 1)]) hX aggK sizK _ _ rfl rfl rfl rfl rfl rfl rfl rfl (qav rfl rfl _ _ _ _ _ _ _ _) ?_;clear hX;intro wz hX hkz;clear hkz))
 first|exact bodyPost_ret (qal Tryz.results51 rfl ((hX.all _ _ _ (.head _)).loadVar rfl aggK sizK)) rfl ⟨_,_,_,rfl,⟨_,_,rfl,hs.below hX.below,hb.below hX.below⟩,hm.below hX.below,hz.below hX.below,hX.below⟩|exact bodyPost_ret (qal Tryz.results51 rfl ((hX.all _ _ _ (.tail _ (.head _))).loadVar rfl aggK sizK)) rfl ⟨_,_,_,rfl,⟨_,_,rfl,hs.below hX.below,hb.below hX.below⟩,hm.below hX.below,hz.below hX.below,hX.below⟩
theorem qcs (K:Dk) (m B:List Int) (h:K.l=1):K.tick m B=if 2*(m.length:Int)<K.a+2*(K.n64:Int) then (K.l0.fail,m,B)
 else if K.c≠2∧(K.D.rd K.s).2≠0 then (K.l0.fail,m,B)
 else if K.c≠1∧spV B K.a K.n64=true then (K.l0.fail,m,B)
 else if K.c=3∧dfW m (K.a / 2).toNat K.n64 (K.D.rd K.s).1=true then (K.l0.fail,m,B)
 else if K.c=2 then (if (K.D.wr K.s (secV m (K.a / 2).toNat K.n64)).2=0 then (K.adv (K.D.wr K.s (secV m (K.a / 2).toNat K.n64)).1,m,B) else (K.l0.fail,m,B))
 else if K.c=1 then (K.adv K.D,putM m (K.a / 2).toNat (K.D.rd K.s).1 K.n64,outB B K.a K.n64)
 else (K.adv K.D,m,B):=by
 unfold Dk.tick
 rw [if_neg (by omega),if_neg (by omega)]
theorem qb8 (A:Nat):(2*(A:Int) / 2).toNat=A:=by omega
theorem qg7 (D:Drv) (en er:Bool) (c s:Int) (A:Nat) (n:Nat) (hn1:1≤n) (hn:n≤64) (hA:A≤32767) (m B:List Int) (vs vb vm vz:Value) (w:World) (X:Nat→Prop) (hXl:∀ b,X b→b<w.heap.size) (hs:StsX X w vs D.S) (hb:ItsX X w vb D.B) (hm:ItsX X w vm m) (hz:ItsX X w vz B) (hml:m.length≤1099511627776) (hzl:B.length≤1099511627776) (hl:D.B.length≤1099511627776) (hl2:D.S.length≤1099511627776) (hr:2*(m.length:Int)<2*(A:Int)+2*((n:Nat):Int)):Calls Tryz.prog 51 #[.agg #[vs,vb,.bool en,.bool false,.bool er,.int .i64 c,.int .i64 (n:Int),.int .i64 (2*(A:Int)),.int .i64 s,.int .i64 1],vm,vz] w (TickSays (Dk.mk D en false er c (n:Int) (2*(A:Int)) s 1) m B X w):=by
 obtain ⟨A1,c1,rfl,_⟩:=hs.now.form
 obtain ⟨A2,c2,rfl,_⟩:=hb.now.form
 obtain ⟨A3,c3,rfl,_⟩:=hm.now.form
 obtain ⟨A4,c4,rfl,_⟩:=hz.now.form
 have h64:(Dk.mk D en false er c (n:Int) (2*(A:Int)) s 1).n64=n:=by unfold Dk.n64;dsimp only;omega
 have d64:¬ (64:Int)<(n:Int):=by omega
 have w0:IntKind.i64.wrap (2*(n:Int))=2*(n:Int):=by rw [qaf];unfold wrap64;omega
 have w1':IntKind.i64.wrap (2*(A:Int)+2*(n:Int))=2*(A:Int)+2*(n:Int):=by rw [qaf];unfold wrap64;omega
 have w2:IntKind.i64.wrap (2*(m.length:Int))=2*(m.length:Int):=by rw [qaf];unfold wrap64;omega
 have w3:IntKind.i64.wrap (2*(A:Int)+128)=2*(A:Int)+128:=by rw [qaf];unfold wrap64;omega
 have hfl:=fun w=>qbj (Dk.mk D en false er c (n:Int) (2*(A:Int)) s 0) A1 D.S.length c1 A2 D.B.length c2 w
 unfold Dk.fail at hfl
 dsimp only at hfl
 have hrd:=fun w' (h:Below w.heap.size w w')=>qbt D s hl hl2 (.slice A1 D.S.length c1) (.slice A2 D.B.length c2) w' (hs.now.below h) (hb.now.below h)
 have hsp:∀ w',Below w.heap.size w w'→Calls Tryz.prog 112 #[.slice A4 B.length c4,.int .i64 (2*(A:Int)),.int .i64 (n:Int)] w' fun e' w2=>e'=.returned (.bool (spV B (2*(A:Int)) n))∧Below w'.heap.size w' w2:=fun w' h=>qbg B (2*(A:Int)) n _ w' hzl (by omega) (by omega) (hz.now.below h)
 unfold TickSays
 rw [qcs _ _ _ rfl,h64]
 dsimp only
 rw [qb8,if_pos hr]
 dsimp only [Dk.l0,Dk.fail]
 have d1:2*(m.length:Int)<2*(A:Int)+2*(n:Int):=by omega
 have d1b:2*(m.length:Int)<2*(A:Int)+2*(n:Int):=by omega
 clear hr
 clear hrd hsp
 have hX:=qbi w [(.slice A1 D.S.length c1),(.slice A2 D.B.length c2),.bool en,.bool false,.bool er,.int .i64 c,.int .i64 (n:Int),.int .i64 (2*(A:Int)),.int .i64 s,.int .i64 0] [.slice none 0 0,.slice none 0 0,.bool false,.bool false,.bool false,.int .i64 0,.int .i64 0,.int .i64 0,.int .i64 0,.int .i64 0]
 clear h64
 go_enter Tryz.func51,Tryz.ntmps51
 go_wp2_with (first|((with_reducible refine qab ?_);first|refine lc hX ?_|refine lw hX aggK sizK ?_|refine lp (ds:=[_,_]) hX aggD sizD ?_)|((first|(go_at_call 111;with_reducible refine cst hX (hrd _ hX.below) ?_)|(go_at_call 112;with_reducible refine cst hX (hsp _ hX.below) ?_));clear hX;intro wc hX)|(go_at_call 110;with_reducible refine cst hX (hfl _) ?_;clear hX;intro wf hX)|((with_reducible refine qah ?_);refine qaa (cs':=[(.slice A1 D.S.length c1),(.slice A2 D.B.length c2),.bool en,.bool true,.bool true,.int .i64 c,.int .i64 (n:Int),.int .i64 (2*(A:Int)),.int .i64 s,.int .i64 0]) hX aggK sizK _ _ rfl rfl rfl rfl rfl rfl rfl rfl (qav rfl rfl _ _ _ _ _ _ _ _) ?_;clear hX;intro wz hX hkz;clear hkz))
 first|exact bodyPost_ret (qal Tryz.results51 rfl ((hX.all _ _ _ (.head _)).loadVar rfl aggK sizK)) rfl ⟨_,_,_,rfl,⟨_,_,rfl,hs.below hX.below,hb.below hX.below⟩,hm.below hX.below,hz.below hX.below,hX.below⟩|exact bodyPost_ret (qal Tryz.results51 rfl ((hX.all _ _ _ (.tail _ (.head _))).loadVar rfl aggK sizK)) rfl ⟨_,_,_,rfl,⟨_,_,rfl,hs.below hX.below,hb.below hX.below⟩,hm.below hX.below,hz.below hX.below,hX.below⟩
theorem qh4 (D:Drv) (en er:Bool) (c s:Int) (A:Nat) (n:Nat) (hn1:1≤n) (hn:n≤64) (hA:A≤32767) (m B:List Int) (vs vb vm vz:Value) (w:World) (X:Nat→Prop) (hXl:∀ b,X b→b<w.heap.size) (hs:StsX X w vs D.S) (hb:ItsX X w vb D.B) (hm:ItsX X w vm m) (hz:ItsX X w vz B) (hml:m.length≤1099511627776) (hzl:B.length≤1099511627776) (hl:D.B.length≤1099511627776) (hl2:D.S.length≤1099511627776) (hr:¬ 2*(m.length:Int)<2*(A:Int)+2*((n:Nat):Int)) (hc:c≠2) (he:(D.rd s).2≠0):Calls Tryz.prog 51 #[.agg #[vs,vb,.bool en,.bool false,.bool er,.int .i64 c,.int .i64 (n:Int),.int .i64 (2*(A:Int)),.int .i64 s,.int .i64 1],vm,vz] w (TickSays (Dk.mk D en false er c (n:Int) (2*(A:Int)) s 1) m B X w):=by
 obtain ⟨A1,c1,rfl,_⟩:=hs.now.form
 obtain ⟨A2,c2,rfl,_⟩:=hb.now.form
 obtain ⟨A3,c3,rfl,_⟩:=hm.now.form
 obtain ⟨A4,c4,rfl,_⟩:=hz.now.form
 have h64:(Dk.mk D en false er c (n:Int) (2*(A:Int)) s 1).n64=n:=by unfold Dk.n64;dsimp only;omega
 have d64:¬ (64:Int)<(n:Int):=by omega
 have w0:IntKind.i64.wrap (2*(n:Int))=2*(n:Int):=by rw [qaf];unfold wrap64;omega
 have w1':IntKind.i64.wrap (2*(A:Int)+2*(n:Int))=2*(A:Int)+2*(n:Int):=by rw [qaf];unfold wrap64;omega
 have w2:IntKind.i64.wrap (2*(m.length:Int))=2*(m.length:Int):=by rw [qaf];unfold wrap64;omega
 have w3:IntKind.i64.wrap (2*(A:Int)+128)=2*(A:Int)+128:=by rw [qaf];unfold wrap64;omega
 have hfl:=fun w=>qbj (Dk.mk D en false er c (n:Int) (2*(A:Int)) s 0) A1 D.S.length c1 A2 D.B.length c2 w
 unfold Dk.fail at hfl
 dsimp only at hfl
 have hrd:=fun w' (h:Below w.heap.size w w')=>qbt D s hl hl2 (.slice A1 D.S.length c1) (.slice A2 D.B.length c2) w' (hs.now.below h) (hb.now.below h)
 have hsp:∀ w',Below w.heap.size w w'→Calls Tryz.prog 112 #[.slice A4 B.length c4,.int .i64 (2*(A:Int)),.int .i64 (n:Int)] w' fun e' w2=>e'=.returned (.bool (spV B (2*(A:Int)) n))∧Below w'.heap.size w' w2:=fun w' h=>qbg B (2*(A:Int)) n _ w' hzl (by omega) (by omega) (hz.now.below h)
 unfold TickSays
 rw [qcs _ _ _ rfl,h64]
 dsimp only
 rw [qb8,if_neg hr,if_pos ⟨hc,he⟩]
 dsimp only [Dk.l0,Dk.fail]
 have d1:¬ (2*(m.length:Int)<2*(A:Int)+2*(n:Int)):=by omega
 have d1b:¬ (2*(m.length:Int)<2*(A:Int)+2*(n:Int)):=by omega
 clear hr
 have q1:(c != 2)=true:=by simpa using hc
 have q2:((D.rd s).2 != 0)=true:=by simpa using he
 generalize D.rd s=RD at *
 obtain ⟨sv,ee⟩:=RD
 dsimp only at hrd q2
 clear hc he hsp
 have hX:=qbi w [(.slice A1 D.S.length c1),(.slice A2 D.B.length c2),.bool en,.bool false,.bool er,.int .i64 c,.int .i64 (n:Int),.int .i64 (2*(A:Int)),.int .i64 s,.int .i64 0] [.slice none 0 0,.slice none 0 0,.bool false,.bool false,.bool false,.int .i64 0,.int .i64 0,.int .i64 0,.int .i64 0,.int .i64 0]
 clear h64
 go_enter Tryz.func51,Tryz.ntmps51
 go_wp2_with (first|((with_reducible refine qab ?_);first|refine lc hX ?_|refine lw hX aggK sizK ?_|refine lp (ds:=[_,_]) hX aggD sizD ?_)|((first|(go_at_call 111;with_reducible refine cst hX (hrd _ hX.below) ?_)|(go_at_call 112;with_reducible refine cst hX (hsp _ hX.below) ?_));clear hX;intro wc hX)|(go_at_call 110;with_reducible refine cst hX (hfl _) ?_;clear hX;intro wf hX)|((with_reducible refine qah ?_);refine qaa (cs':=[(.slice A1 D.S.length c1),(.slice A2 D.B.length c2),.bool en,.bool true,.bool true,.int .i64 c,.int .i64 (n:Int),.int .i64 (2*(A:Int)),.int .i64 s,.int .i64 0]) hX aggK sizK _ _ rfl rfl rfl rfl rfl rfl rfl rfl (qav rfl rfl _ _ _ _ _ _ _ _) ?_;clear hX;intro wz hX hkz;clear hkz))
 first|exact bodyPost_ret (qal Tryz.results51 rfl ((hX.all _ _ _ (.head _)).loadVar rfl aggK sizK)) rfl ⟨_,_,_,rfl,⟨_,_,rfl,hs.below hX.below,hb.below hX.below⟩,hm.below hX.below,hz.below hX.below,hX.below⟩|exact bodyPost_ret (qal Tryz.results51 rfl ((hX.all _ _ _ (.tail _ (.head _))).loadVar rfl aggK sizK)) rfl ⟨_,_,_,rfl,⟨_,_,rfl,hs.below hX.below,hb.below hX.below⟩,hm.below hX.below,hz.below hX.below,hX.below⟩
theorem qhs (D:Drv) (en er:Bool) (s:Int) (A:Nat) (n:Nat) (hn1:1≤n) (hn:n≤64) (hA:A≤32767) (m B:List Int) (vs vb vm vz:Value) (w:World) (X:Nat→Prop) (hXl:∀ b,X b→b<w.heap.size) (hs:StsX X w vs D.S) (hb:ItsX X w vb D.B) (hm:ItsX X w vm m) (hz:ItsX X w vz B) (hml:m.length≤1099511627776) (hzl:B.length≤1099511627776) (hl:D.B.length≤1099511627776) (hl2:D.S.length≤1099511627776) (hr:¬ 2*(m.length:Int)<2*(A:Int)+2*((n:Nat):Int)) (hp:spV B (2*(A:Int)) n=true):Calls Tryz.prog 51 #[.agg #[vs,vb,.bool en,.bool false,.bool er,.int .i64 2,.int .i64 (n:Int),.int .i64 (2*(A:Int)),.int .i64 s,.int .i64 1],vm,vz] w (TickSays (Dk.mk D en false er 2 (n:Int) (2*(A:Int)) s 1) m B X w):=by
 obtain ⟨A1,c1,rfl,_⟩:=hs.now.form
 obtain ⟨A2,c2,rfl,_⟩:=hb.now.form
 obtain ⟨A3,c3,rfl,_⟩:=hm.now.form
 obtain ⟨A4,c4,rfl,_⟩:=hz.now.form
 have h64:(Dk.mk D en false er 2 (n:Int) (2*(A:Int)) s 1).n64=n:=by unfold Dk.n64;dsimp only;omega
 have d64:¬ (64:Int)<(n:Int):=by omega
 have w0:IntKind.i64.wrap (2*(n:Int))=2*(n:Int):=by rw [qaf];unfold wrap64;omega
 have w1':IntKind.i64.wrap (2*(A:Int)+2*(n:Int))=2*(A:Int)+2*(n:Int):=by rw [qaf];unfold wrap64;omega
 have w2:IntKind.i64.wrap (2*(m.length:Int))=2*(m.length:Int):=by rw [qaf];unfold wrap64;omega
 have w3:IntKind.i64.wrap (2*(A:Int)+128)=2*(A:Int)+128:=by rw [qaf];unfold wrap64;omega
 have hfl:=fun w=>qbj (Dk.mk D en false er 2 (n:Int) (2*(A:Int)) s 0) A1 D.S.length c1 A2 D.B.length c2 w
 unfold Dk.fail at hfl
 dsimp only at hfl
 have hrd:=fun w' (h:Below w.heap.size w w')=>qbt D s hl hl2 (.slice A1 D.S.length c1) (.slice A2 D.B.length c2) w' (hs.now.below h) (hb.now.below h)
 have hsp:∀ w',Below w.heap.size w w'→Calls Tryz.prog 112 #[.slice A4 B.length c4,.int .i64 (2*(A:Int)),.int .i64 (n:Int)] w' fun e' w2=>e'=.returned (.bool (spV B (2*(A:Int)) n))∧Below w'.heap.size w' w2:=fun w' h=>qbg B (2*(A:Int)) n _ w' hzl (by omega) (by omega) (hz.now.below h)
 unfold TickSays
 rw [qcs _ _ _ rfl,h64]
 dsimp only
 rw [qb8,if_neg hr,if_neg (by simp),if_pos ⟨by decide,hp⟩]
 dsimp only [Dk.l0,Dk.fail]
 have d1:¬ (2*(m.length:Int)<2*(A:Int)+2*(n:Int)):=by omega
 have d1b:¬ (2*(m.length:Int)<2*(A:Int)+2*(n:Int)):=by omega
 clear hr
 rw [hp] at hsp
 generalize D.rd s=RD at *
 obtain ⟨sv,ee⟩:=RD
 dsimp only at hrd
 clear hp
 have hX:=qbi w [(.slice A1 D.S.length c1),(.slice A2 D.B.length c2),.bool en,.bool false,.bool er,.int .i64 2,.int .i64 (n:Int),.int .i64 (2*(A:Int)),.int .i64 s,.int .i64 0] [.slice none 0 0,.slice none 0 0,.bool false,.bool false,.bool false,.int .i64 0,.int .i64 0,.int .i64 0,.int .i64 0,.int .i64 0]
 clear h64
 go_enter Tryz.func51,Tryz.ntmps51
 go_wp2_with (first|((with_reducible refine qab ?_);first|refine lc hX ?_|refine lw hX aggK sizK ?_|refine lp (ds:=[_,_]) hX aggD sizD ?_)|((first|(go_at_call 111;with_reducible refine cst hX (hrd _ hX.below) ?_)|(go_at_call 112;with_reducible refine cst hX (hsp _ hX.below) ?_));clear hX;intro wc hX)|(go_at_call 110;with_reducible refine cst hX (hfl _) ?_;clear hX;intro wf hX)|((with_reducible refine qah ?_);refine qaa (cs':=[(.slice A1 D.S.length c1),(.slice A2 D.B.length c2),.bool en,.bool true,.bool true,.int .i64 2,.int .i64 (n:Int),.int .i64 (2*(A:Int)),.int .i64 s,.int .i64 0]) hX aggK sizK _ _ rfl rfl rfl rfl rfl rfl rfl rfl (qav rfl rfl _ _ _ _ _ _ _ _) ?_;clear hX;intro wz hX hkz;clear hkz))
 first|exact bodyPost_ret (qal Tryz.results51 rfl ((hX.all _ _ _ (.head _)).loadVar rfl aggK sizK)) rfl ⟨_,_,_,rfl,⟨_,_,rfl,hs.below hX.below,hb.below hX.below⟩,hm.below hX.below,hz.below hX.below,hX.below⟩|exact bodyPost_ret (qal Tryz.results51 rfl ((hX.all _ _ _ (.tail _ (.head _))).loadVar rfl aggK sizK)) rfl ⟨_,_,_,rfl,⟨_,_,rfl,hs.below hX.below,hb.below hX.below⟩,hm.below hX.below,hz.below hX.below,hX.below⟩
theorem qhr (D:Drv) (en er:Bool) (s:Int) (A:Nat) (n:Nat) (hn1:1≤n) (hn:n≤64) (hA:A≤32767) (m B:List Int) (vs vb vm vz:Value) (w:World) (X:Nat→Prop) (hXl:∀ b,X b→b<w.heap.size) (hs:StsX X w vs D.S) (hb:ItsX X w vb D.B) (hm:ItsX X w vm m) (hz:ItsX X w vz B) (hml:m.length≤1099511627776) (hzl:B.length≤1099511627776) (hl:D.B.length≤1099511627776) (hl2:D.S.length≤1099511627776) (hr:¬ 2*(m.length:Int)<2*(A:Int)+2*((n:Nat):Int)) (he:(D.rd s).2=0) (hp:spV B (2*(A:Int)) n=true):Calls Tryz.prog 51 #[.agg #[vs,vb,.bool en,.bool false,.bool er,.int .i64 3,.int .i64 (n:Int),.int .i64 (2*(A:Int)),.int .i64 s,.int .i64 1],vm,vz] w (TickSays (Dk.mk D en false er 3 (n:Int) (2*(A:Int)) s 1) m B X w):=by
 obtain ⟨A1,c1,rfl,_⟩:=hs.now.form
 obtain ⟨A2,c2,rfl,_⟩:=hb.now.form
 obtain ⟨A3,c3,rfl,_⟩:=hm.now.form
 obtain ⟨A4,c4,rfl,_⟩:=hz.now.form
 have h64:(Dk.mk D en false er 3 (n:Int) (2*(A:Int)) s 1).n64=n:=by unfold Dk.n64;dsimp only;omega
 have d64:¬ (64:Int)<(n:Int):=by omega
 have w0:IntKind.i64.wrap (2*(n:Int))=2*(n:Int):=by rw [qaf];unfold wrap64;omega
 have w1':IntKind.i64.wrap (2*(A:Int)+2*(n:Int))=2*(A:Int)+2*(n:Int):=by rw [qaf];unfold wrap64;omega
 have w2:IntKind.i64.wrap (2*(m.length:Int))=2*(m.length:Int):=by rw [qaf];unfold wrap64;omega
 have w3:IntKind.i64.wrap (2*(A:Int)+128)=2*(A:Int)+128:=by rw [qaf];unfold wrap64;omega
 have hfl:=fun w=>qbj (Dk.mk D en false er 3 (n:Int) (2*(A:Int)) s 0) A1 D.S.length c1 A2 D.B.length c2 w
 unfold Dk.fail at hfl
 dsimp only at hfl
 have hrd:=fun w' (h:Below w.heap.size w w')=>qbt D s hl hl2 (.slice A1 D.S.length c1) (.slice A2 D.B.length c2) w' (hs.now.below h) (hb.now.below h)
 have hsp:∀ w',Below w.heap.size w w'→Calls Tryz.prog 112 #[.slice A4 B.length c4,.int .i64 (2*(A:Int)),.int .i64 (n:Int)] w' fun e' w2=>e'=.returned (.bool (spV B (2*(A:Int)) n))∧Below w'.heap.size w' w2:=fun w' h=>qbg B (2*(A:Int)) n _ w' hzl (by omega) (by omega) (hz.now.below h)
 unfold TickSays
 rw [qcs _ _ _ rfl,h64]
 dsimp only
 rw [qb8,if_neg hr,if_neg (fun h=>h.2 he),if_pos ⟨by decide,hp⟩]
 dsimp only [Dk.l0,Dk.fail]
 have d1:¬ (2*(m.length:Int)<2*(A:Int)+2*(n:Int)):=by omega
 have d1b:¬ (2*(m.length:Int)<2*(A:Int)+2*(n:Int)):=by omega
 clear hr
 rw [hp] at hsp
 rw [he] at hrd
 generalize (D.rd s).1=sv at *
 clear hp he
 have hX:=qbi w [(.slice A1 D.S.length c1),(.slice A2 D.B.length c2),.bool en,.bool false,.bool er,.int .i64 3,.int .i64 (n:Int),.int .i64 (2*(A:Int)),.int .i64 s,.int .i64 0] [.slice none 0 0,.slice none 0 0,.bool false,.bool false,.bool false,.int .i64 0,.int .i64 0,.int .i64 0,.int .i64 0,.int .i64 0]
 clear h64
 go_enter Tryz.func51,Tryz.ntmps51
 go_wp2_with (first|((with_reducible refine qab ?_);first|refine lc hX ?_|refine lw hX aggK sizK ?_|refine lp (ds:=[_,_]) hX aggD sizD ?_)|((first|(go_at_call 111;with_reducible refine cst hX (hrd _ hX.below) ?_)|(go_at_call 112;with_reducible refine cst hX (hsp _ hX.below) ?_));clear hX;intro wc hX)|(go_at_call 110;with_reducible refine cst hX (hfl _) ?_;clear hX;intro wf hX)|((with_reducible refine qah ?_);refine qaa (cs':=[(.slice A1 D.S.length c1),(.slice A2 D.B.length c2),.bool en,.bool true,.bool true,.int .i64 3,.int .i64 (n:Int),.int .i64 (2*(A:Int)),.int .i64 s,.int .i64 0]) hX aggK sizK _ _ rfl rfl rfl rfl rfl rfl rfl rfl (qav rfl rfl _ _ _ _ _ _ _ _) ?_;clear hX;intro wz hX hkz;clear hkz))
 first|exact bodyPost_ret (qal Tryz.results51 rfl ((hX.all _ _ _ (.head _)).loadVar rfl aggK sizK)) rfl ⟨_,_,_,rfl,⟨_,_,rfl,hs.below hX.below,hb.below hX.below⟩,hm.below hX.below,hz.below hX.below,hX.below⟩|exact bodyPost_ret (qal Tryz.results51 rfl ((hX.all _ _ _ (.tail _ (.head _))).loadVar rfl aggK sizK)) rfl ⟨_,_,_,rfl,⟨_,_,rfl,hs.below hX.below,hb.below hX.below⟩,hm.below hX.below,hz.below hX.below,hX.below⟩
theorem qh6 (D:Drv) (en er:Bool) (s:Int) (A:Nat) (n:Nat) (hn1:1≤n) (hn:n≤64) (hA:A≤32767) (m B:List Int) (vs vb vm vz:Value) (w:World) (X:Nat→Prop) (hXl:∀ b,X b→b<w.heap.size) (hs:StsX X w vs D.S) (hb:ItsX X w vb D.B) (hm:ItsX X w vm m) (hz:ItsX X w vz B) (hml:m.length≤1099511627776) (hzl:B.length≤1099511627776) (hl:D.B.length≤1099511627776) (hl2:D.S.length≤1099511627776) (hr:¬ 2*(m.length:Int)<2*(A:Int)+2*((n:Nat):Int)) (he:(D.rd s).2=0) (hsz:(D.rd s).1.size=128) (hp:spV B (2*(A:Int)) n=false) (hd:dfW m A n (D.rd s).1=true):Calls Tryz.prog 51 #[.agg #[vs,vb,.bool en,.bool false,.bool er,.int .i64 3,.int .i64 (n:Int),.int .i64 (2*(A:Int)),.int .i64 s,.int .i64 1],vm,vz] w (TickSays (Dk.mk D en false er 3 (n:Int) (2*(A:Int)) s 1) m B X w):=by
 obtain ⟨A1,c1,rfl,_⟩:=hs.now.form
 obtain ⟨A2,c2,rfl,_⟩:=hb.now.form
 obtain ⟨A3,c3,rfl,_⟩:=hm.now.form
 obtain ⟨A4,c4,rfl,_⟩:=hz.now.form
 have h64:(Dk.mk D en false er 3 (n:Int) (2*(A:Int)) s 1).n64=n:=by unfold Dk.n64;dsimp only;omega
 have d64:¬ (64:Int)<(n:Int):=by omega
 have w0:IntKind.i64.wrap (2*(n:Int))=2*(n:Int):=by rw [qaf];unfold wrap64;omega
 have w1':IntKind.i64.wrap (2*(A:Int)+2*(n:Int))=2*(A:Int)+2*(n:Int):=by rw [qaf];unfold wrap64;omega
 have w2:IntKind.i64.wrap (2*(m.length:Int))=2*(m.length:Int):=by rw [qaf];unfold wrap64;omega
 have w3:IntKind.i64.wrap (2*(A:Int)+128)=2*(A:Int)+128:=by rw [qaf];unfold wrap64;omega
 have hfl:=fun w=>qbj (Dk.mk D en false er 3 (n:Int) (2*(A:Int)) s 0) A1 D.S.length c1 A2 D.B.length c2 w
 unfold Dk.fail at hfl
 dsimp only at hfl
 have hrd:=fun w' (h:Below w.heap.size w w')=>qbt D s hl hl2 (.slice A1 D.S.length c1) (.slice A2 D.B.length c2) w' (hs.now.below h) (hb.now.below h)
 have hsp:∀ w',Below w.heap.size w w'→Calls Tryz.prog 112 #[.slice A4 B.length c4,.int .i64 (2*(A:Int)),.int .i64 (n:Int)] w' fun e' w2=>e'=.returned (.bool (spV B (2*(A:Int)) n))∧Below w'.heap.size w' w2:=fun w' h=>qbg B (2*(A:Int)) n _ w' hzl (by omega) (by omega) (hz.now.below h)
 have hdf:∀ w',Below w.heap.size w w'→Calls Tryz.prog 113 #[.slice A3 m.length c3,.int .i64 (2*(A:Int)),.int .i64 (n:Int),.string (D.rd s).1] w' fun e' w2=>e'=.returned (.bool (dfW m A n (D.rd s).1))∧Below w'.heap.size w' w2:=fun w' h=>qd4 m A n (D.rd s).1 _ w' (by omega) hml (by omega) (hm.now.below h)
 unfold TickSays
 rw [qcs _ _ _ rfl,h64]
 dsimp only
 rw [qb8,if_neg hr,if_neg (fun h=>h.2 he),if_neg (by rw [hp];simp),if_pos ⟨rfl,hd⟩]
 dsimp only [Dk.l0,Dk.fail]
 have d1:¬ (2*(m.length:Int)<2*(A:Int)+2*(n:Int)):=by omega
 have d1b:¬ (2*(m.length:Int)<2*(A:Int)+2*(n:Int)):=by omega
 clear hr
 rw [hp] at hsp
 rw [he] at hrd
 rw [hd] at hdf
 generalize (D.rd s).1=sv at *
 clear hp he hd hsz
 have hX:=qbi w [(.slice A1 D.S.length c1),(.slice A2 D.B.length c2),.bool en,.bool false,.bool er,.int .i64 3,.int .i64 (n:Int),.int .i64 (2*(A:Int)),.int .i64 s,.int .i64 0] [.slice none 0 0,.slice none 0 0,.bool false,.bool false,.bool false,.int .i64 0,.int .i64 0,.int .i64 0,.int .i64 0,.int .i64 0]
 clear h64
 go_enter Tryz.func51,Tryz.ntmps51
 go_wp2_with (first|((with_reducible refine qab ?_);first|refine lc hX ?_|refine lw hX aggK sizK ?_|refine lp (ds:=[_,_]) hX aggD sizD ?_)|((first|(go_at_call 111;with_reducible refine cst hX (hrd _ hX.below) ?_)|(go_at_call 112;with_reducible refine cst hX (hsp _ hX.below) ?_)|(go_at_call 113;with_reducible refine cst hX (hdf _ hX.below) ?_));clear hX;intro wc hX)|(go_at_call 110;with_reducible refine cst hX (hfl _) ?_;clear hX;intro wf hX)|((with_reducible refine qah ?_);refine qaa (cs':=[(.slice A1 D.S.length c1),(.slice A2 D.B.length c2),.bool en,.bool true,.bool true,.int .i64 3,.int .i64 (n:Int),.int .i64 (2*(A:Int)),.int .i64 s,.int .i64 0]) hX aggK sizK _ _ rfl rfl rfl rfl rfl rfl rfl rfl (qav rfl rfl _ _ _ _ _ _ _ _) ?_;clear hX;intro wz hX hkz;clear hkz))
 first|exact bodyPost_ret (qal Tryz.results51 rfl ((hX.all _ _ _ (.head _)).loadVar rfl aggK sizK)) rfl ⟨_,_,_,rfl,⟨_,_,rfl,hs.below hX.below,hb.below hX.below⟩,hm.below hX.below,hz.below hX.below,hX.below⟩|exact bodyPost_ret (qal Tryz.results51 rfl ((hX.all _ _ _ (.tail _ (.head _))).loadVar rfl aggK sizK)) rfl ⟨_,_,_,rfl,⟨_,_,rfl,hs.below hX.below,hb.below hX.below⟩,hm.below hX.below,hz.below hX.below,hX.below⟩
theorem qj6 (D:Drv) (en er:Bool) (c s:Int) (A:Nat) (w1:Int) (hw1:64<w1) (hw2:w1≤65535) (hA:A≤32767) (m B:List Int) (vs vb vm vz:Value) (w:World) (X:Nat→Prop) (hXl:∀ b,X b→b<w.heap.size) (hs:StsX X w vs D.S) (hb:ItsX X w vb D.B) (hm:ItsX X w vm m) (hz:ItsX X w vz B) (hml:m.length≤1099511627776) (hzl:B.length≤1099511627776) (hl:D.B.length≤1099511627776) (hl2:D.S.length≤1099511627776) (hr:2*(m.length:Int)<2*(A:Int)+2*((64:Nat):Int)):Calls Tryz.prog 51 #[.agg #[vs,vb,.bool en,.bool false,.bool er,.int .i64 c,.int .i64 w1,.int .i64 (2*(A:Int)),.int .i64 s,.int .i64 1],vm,vz] w (TickSays (Dk.mk D en false er c w1 (2*(A:Int)) s 1) m B X w):=by
 obtain ⟨A1,c1,rfl,_⟩:=hs.now.form
 obtain ⟨A2,c2,rfl,_⟩:=hb.now.form
 obtain ⟨A3,c3,rfl,_⟩:=hm.now.form
 obtain ⟨A4,c4,rfl,_⟩:=hz.now.form
 have h64:(Dk.mk D en false er c w1 (2*(A:Int)) s 1).n64=64:=by unfold Dk.n64;dsimp only;omega
 have d64:(64:Int)<w1:=by omega
 have w0:IntKind.i64.wrap (2*64)=2*64:=by rw [qaf];unfold wrap64;omega
 have w1':IntKind.i64.wrap (2*(A:Int)+2*64)=2*(A:Int)+2*64:=by rw [qaf];unfold wrap64;omega
 have w2:IntKind.i64.wrap (2*(m.length:Int))=2*(m.length:Int):=by rw [qaf];unfold wrap64;omega
 have w3:IntKind.i64.wrap (2*(A:Int)+128)=2*(A:Int)+128:=by rw [qaf];unfold wrap64;omega
 have hfl:=fun w=>qbj (Dk.mk D en false er c w1 (2*(A:Int)) s 0) A1 D.S.length c1 A2 D.B.length c2 w
 unfold Dk.fail at hfl
 dsimp only at hfl
 have hrd:=fun w' (h:Below w.heap.size w w')=>qbt D s hl hl2 (.slice A1 D.S.length c1) (.slice A2 D.B.length c2) w' (hs.now.below h) (hb.now.below h)
 have hsp:∀ w',Below w.heap.size w w'→Calls Tryz.prog 112 #[.slice A4 B.length c4,.int .i64 (2*(A:Int)),.int .i64 64] w' fun e' w2=>e'=.returned (.bool (spV B (2*(A:Int)) 64))∧Below w'.heap.size w' w2:=fun w' h=>qbg B (2*(A:Int)) 64 _ w' hzl (by omega) (by omega) (hz.now.below h)
 unfold TickSays
 rw [qcs _ _ _ rfl,h64]
 dsimp only
 rw [qb8,if_pos hr]
 dsimp only [Dk.l0,Dk.fail]
 have d1:2*(m.length:Int)<2*(A:Int)+128:=by omega
 have d1b:2*(m.length:Int)<2*(A:Int)+2*64:=by omega
 clear hr
 clear hrd hsp
 have hX:=qbi w [(.slice A1 D.S.length c1),(.slice A2 D.B.length c2),.bool en,.bool false,.bool er,.int .i64 c,.int .i64 w1,.int .i64 (2*(A:Int)),.int .i64 s,.int .i64 0] [.slice none 0 0,.slice none 0 0,.bool false,.bool false,.bool false,.int .i64 0,.int .i64 0,.int .i64 0,.int .i64 0,.int .i64 0]
 clear h64
 go_enter Tryz.func51,Tryz.ntmps51
 go_wp2_with (first|((with_reducible refine qab ?_);first|refine lc hX ?_|refine lw hX aggK sizK ?_|refine lp (ds:=[_,_]) hX aggD sizD ?_)|((first|(go_at_call 111;with_reducible refine cst hX (hrd _ hX.below) ?_)|(go_at_call 112;with_reducible refine cst hX (hsp _ hX.below) ?_));clear hX;intro wc hX)|(go_at_call 110;with_reducible refine cst hX (hfl _) ?_;clear hX;intro wf hX)|((with_reducible refine qah ?_);refine qaa (cs':=[(.slice A1 D.S.length c1),(.slice A2 D.B.length c2),.bool en,.bool true,.bool true,.int .i64 c,.int .i64 w1,.int .i64 (2*(A:Int)),.int .i64 s,.int .i64 0]) hX aggK sizK _ _ rfl rfl rfl rfl rfl rfl rfl rfl (qav rfl rfl _ _ _ _ _ _ _ _) ?_;clear hX;intro wz hX hkz;clear hkz))
 first|exact bodyPost_ret (qal Tryz.results51 rfl ((hX.all _ _ _ (.head _)).loadVar rfl aggK sizK)) rfl ⟨_,_,_,rfl,⟨_,_,rfl,hs.below hX.below,hb.below hX.below⟩,hm.below hX.below,hz.below hX.below,hX.below⟩|exact bodyPost_ret (qal Tryz.results51 rfl ((hX.all _ _ _ (.tail _ (.head _))).loadVar rfl aggK sizK)) rfl ⟨_,_,_,rfl,⟨_,_,rfl,hs.below hX.below,hb.below hX.below⟩,hm.below hX.below,hz.below hX.below,hX.below⟩
theorem qlg (D:Drv) (en er:Bool) (c s:Int) (A:Nat) (w1:Int) (hw1:64<w1) (hw2:w1≤65535) (hA:A≤32767) (m B:List Int) (vs vb vm vz:Value) (w:World) (X:Nat→Prop) (hXl:∀ b,X b→b<w.heap.size) (hs:StsX X w vs D.S) (hb:ItsX X w vb D.B) (hm:ItsX X w vm m) (hz:ItsX X w vz B) (hml:m.length≤1099511627776) (hzl:B.length≤1099511627776) (hl:D.B.length≤1099511627776) (hl2:D.S.length≤1099511627776) (hr:¬ 2*(m.length:Int)<2*(A:Int)+2*((64:Nat):Int)) (hc:c≠2) (he:(D.rd s).2≠0):Calls Tryz.prog 51 #[.agg #[vs,vb,.bool en,.bool false,.bool er,.int .i64 c,.int .i64 w1,.int .i64 (2*(A:Int)),.int .i64 s,.int .i64 1],vm,vz] w (TickSays (Dk.mk D en false er c w1 (2*(A:Int)) s 1) m B X w):=by
 obtain ⟨A1,c1,rfl,_⟩:=hs.now.form
 obtain ⟨A2,c2,rfl,_⟩:=hb.now.form
 obtain ⟨A3,c3,rfl,_⟩:=hm.now.form
 obtain ⟨A4,c4,rfl,_⟩:=hz.now.form
 have h64:(Dk.mk D en false er c w1 (2*(A:Int)) s 1).n64=64:=by unfold Dk.n64;dsimp only;omega
 have d64:(64:Int)<w1:=by omega
 have w0:IntKind.i64.wrap (2*64)=2*64:=by rw [qaf];unfold wrap64;omega
 have w1':IntKind.i64.wrap (2*(A:Int)+2*64)=2*(A:Int)+2*64:=by rw [qaf];unfold wrap64;omega
 have w2:IntKind.i64.wrap (2*(m.length:Int))=2*(m.length:Int):=by rw [qaf];unfold wrap64;omega
 have w3:IntKind.i64.wrap (2*(A:Int)+128)=2*(A:Int)+128:=by rw [qaf];unfold wrap64;omega
 have hfl:=fun w=>qbj (Dk.mk D en false er c w1 (2*(A:Int)) s 0) A1 D.S.length c1 A2 D.B.length c2 w
 unfold Dk.fail at hfl
 dsimp only at hfl
 have hrd:=fun w' (h:Below w.heap.size w w')=>qbt D s hl hl2 (.slice A1 D.S.length c1) (.slice A2 D.B.length c2) w' (hs.now.below h) (hb.now.below h)
 have hsp:∀ w',Below w.heap.size w w'→Calls Tryz.prog 112 #[.slice A4 B.length c4,.int .i64 (2*(A:Int)),.int .i64 64] w' fun e' w2=>e'=.returned (.bool (spV B (2*(A:Int)) 64))∧Below w'.heap.size w' w2:=fun w' h=>qbg B (2*(A:Int)) 64 _ w' hzl (by omega) (by omega) (hz.now.below h)
 unfold TickSays
 rw [qcs _ _ _ rfl,h64]
 dsimp only
 rw [qb8,if_neg hr,if_pos ⟨hc,he⟩]
 dsimp only [Dk.l0,Dk.fail]
 have d1:¬ (2*(m.length:Int)<2*(A:Int)+128):=by omega
 have d1b:¬ (2*(m.length:Int)<2*(A:Int)+2*64):=by omega
 clear hr
 have q1:(c != 2)=true:=by simpa using hc
 have q2:((D.rd s).2 != 0)=true:=by simpa using he
 generalize D.rd s=RD at *
 obtain ⟨sv,ee⟩:=RD
 dsimp only at hrd q2
 clear hc he hsp
 have hX:=qbi w [(.slice A1 D.S.length c1),(.slice A2 D.B.length c2),.bool en,.bool false,.bool er,.int .i64 c,.int .i64 w1,.int .i64 (2*(A:Int)),.int .i64 s,.int .i64 0] [.slice none 0 0,.slice none 0 0,.bool false,.bool false,.bool false,.int .i64 0,.int .i64 0,.int .i64 0,.int .i64 0,.int .i64 0]
 clear h64
 go_enter Tryz.func51,Tryz.ntmps51
 go_wp2_with (first|((with_reducible refine qab ?_);first|refine lc hX ?_|refine lw hX aggK sizK ?_|refine lp (ds:=[_,_]) hX aggD sizD ?_)|((first|(go_at_call 111;with_reducible refine cst hX (hrd _ hX.below) ?_)|(go_at_call 112;with_reducible refine cst hX (hsp _ hX.below) ?_));clear hX;intro wc hX)|(go_at_call 110;with_reducible refine cst hX (hfl _) ?_;clear hX;intro wf hX)|((with_reducible refine qah ?_);refine qaa (cs':=[(.slice A1 D.S.length c1),(.slice A2 D.B.length c2),.bool en,.bool true,.bool true,.int .i64 c,.int .i64 w1,.int .i64 (2*(A:Int)),.int .i64 s,.int .i64 0]) hX aggK sizK _ _ rfl rfl rfl rfl rfl rfl rfl rfl (qav rfl rfl _ _ _ _ _ _ _ _) ?_;clear hX;intro wz hX hkz;clear hkz))
 first|exact bodyPost_ret (qal Tryz.results51 rfl ((hX.all _ _ _ (.head _)).loadVar rfl aggK sizK)) rfl ⟨_,_,_,rfl,⟨_,_,rfl,hs.below hX.below,hb.below hX.below⟩,hm.below hX.below,hz.below hX.below,hX.below⟩|exact bodyPost_ret (qal Tryz.results51 rfl ((hX.all _ _ _ (.tail _ (.head _))).loadVar rfl aggK sizK)) rfl ⟨_,_,_,rfl,⟨_,_,rfl,hs.below hX.below,hb.below hX.below⟩,hm.below hX.below,hz.below hX.below,hX.below⟩
theorem qjq (D:Drv) (en er:Bool) (s:Int) (A:Nat) (w1:Int) (hw1:64<w1) (hw2:w1≤65535) (hA:A≤32767) (m B:List Int) (vs vb vm vz:Value) (w:World) (X:Nat→Prop) (hXl:∀ b,X b→b<w.heap.size) (hs:StsX X w vs D.S) (hb:ItsX X w vb D.B) (hm:ItsX X w vm m) (hz:ItsX X w vz B) (hml:m.length≤1099511627776) (hzl:B.length≤1099511627776) (hl:D.B.length≤1099511627776) (hl2:D.S.length≤1099511627776) (hr:¬ 2*(m.length:Int)<2*(A:Int)+2*((64:Nat):Int)) (hp:spV B (2*(A:Int)) 64=true):Calls Tryz.prog 51 #[.agg #[vs,vb,.bool en,.bool false,.bool er,.int .i64 2,.int .i64 w1,.int .i64 (2*(A:Int)),.int .i64 s,.int .i64 1],vm,vz] w (TickSays (Dk.mk D en false er 2 w1 (2*(A:Int)) s 1) m B X w):=by
 obtain ⟨A1,c1,rfl,_⟩:=hs.now.form
 obtain ⟨A2,c2,rfl,_⟩:=hb.now.form
 obtain ⟨A3,c3,rfl,_⟩:=hm.now.form
 obtain ⟨A4,c4,rfl,_⟩:=hz.now.form
 have h64:(Dk.mk D en false er 2 w1 (2*(A:Int)) s 1).n64=64:=by unfold Dk.n64;dsimp only;omega
 have d64:(64:Int)<w1:=by omega
 have w0:IntKind.i64.wrap (2*64)=2*64:=by rw [qaf];unfold wrap64;omega
 have w1':IntKind.i64.wrap (2*(A:Int)+2*64)=2*(A:Int)+2*64:=by rw [qaf];unfold wrap64;omega
 have w2:IntKind.i64.wrap (2*(m.length:Int))=2*(m.length:Int):=by rw [qaf];unfold wrap64;omega
 have w3:IntKind.i64.wrap (2*(A:Int)+128)=2*(A:Int)+128:=by rw [qaf];unfold wrap64;omega
 have hfl:=fun w=>qbj (Dk.mk D en false er 2 w1 (2*(A:Int)) s 0) A1 D.S.length c1 A2 D.B.length c2 w
 unfold Dk.fail at hfl
 dsimp only at hfl
 have hrd:=fun w' (h:Below w.heap.size w w')=>qbt D s hl hl2 (.slice A1 D.S.length c1) (.slice A2 D.B.length c2) w' (hs.now.below h) (hb.now.below h)
 have hsp:∀ w',Below w.heap.size w w'→Calls Tryz.prog 112 #[.slice A4 B.length c4,.int .i64 (2*(A:Int)),.int .i64 64] w' fun e' w2=>e'=.returned (.bool (spV B (2*(A:Int)) 64))∧Below w'.heap.size w' w2:=fun w' h=>qbg B (2*(A:Int)) 64 _ w' hzl (by omega) (by omega) (hz.now.below h)
 unfold TickSays
 rw [qcs _ _ _ rfl,h64]
 dsimp only
 rw [qb8,if_neg hr,if_neg (by simp),if_pos ⟨by decide,hp⟩]
 dsimp only [Dk.l0,Dk.fail]
 have d1:¬ (2*(m.length:Int)<2*(A:Int)+128):=by omega
 have d1b:¬ (2*(m.length:Int)<2*(A:Int)+2*64):=by omega
 clear hr
 rw [hp] at hsp
 generalize D.rd s=RD at *
 obtain ⟨sv,ee⟩:=RD
 dsimp only at hrd
 clear hp
 have hX:=qbi w [(.slice A1 D.S.length c1),(.slice A2 D.B.length c2),.bool en,.bool false,.bool er,.int .i64 2,.int .i64 w1,.int .i64 (2*(A:Int)),.int .i64 s,.int .i64 0] [.slice none 0 0,.slice none 0 0,.bool false,.bool false,.bool false,.int .i64 0,.int .i64 0,.int .i64 0,.int .i64 0,.int .i64 0]
 clear h64
 go_enter Tryz.func51,Tryz.ntmps51
 go_wp2_with (first|((with_reducible refine qab ?_);first|refine lc hX ?_|refine lw hX aggK sizK ?_|refine lp (ds:=[_,_]) hX aggD sizD ?_)|((first|(go_at_call 111;with_reducible refine cst hX (hrd _ hX.below) ?_)|(go_at_call 112;with_reducible refine cst hX (hsp _ hX.below) ?_));clear hX;intro wc hX)|(go_at_call 110;with_reducible refine cst hX (hfl _) ?_;clear hX;intro wf hX)|((with_reducible refine qah ?_);refine qaa (cs':=[(.slice A1 D.S.length c1),(.slice A2 D.B.length c2),.bool en,.bool true,.bool true,.int .i64 2,.int .i64 w1,.int .i64 (2*(A:Int)),.int .i64 s,.int .i64 0]) hX aggK sizK _ _ rfl rfl rfl rfl rfl rfl rfl rfl (qav rfl rfl _ _ _ _ _ _ _ _) ?_;clear hX;intro wz hX hkz;clear hkz))
 first|exact bodyPost_ret (qal Tryz.results51 rfl ((hX.all _ _ _ (.head _)).loadVar rfl aggK sizK)) rfl ⟨_,_,_,rfl,⟨_,_,rfl,hs.below hX.below,hb.below hX.below⟩,hm.below hX.below,hz.below hX.below,hX.below⟩|exact bodyPost_ret (qal Tryz.results51 rfl ((hX.all _ _ _ (.tail _ (.head _))).loadVar rfl aggK sizK)) rfl ⟨_,_,_,rfl,⟨_,_,rfl,hs.below hX.below,hb.below hX.below⟩,hm.below hX.below,hz.below hX.below,hX.below⟩
theorem qj7 (D:Drv) (en er:Bool) (s:Int) (A:Nat) (w1:Int) (hw1:64<w1) (hw2:w1≤65535) (hA:A≤32767) (m B:List Int) (vs vb vm vz:Value) (w:World) (X:Nat→Prop) (hXl:∀ b,X b→b<w.heap.size) (hs:StsX X w vs D.S) (hb:ItsX X w vb D.B) (hm:ItsX X w vm m) (hz:ItsX X w vz B) (hml:m.length≤1099511627776) (hzl:B.length≤1099511627776) (hl:D.B.length≤1099511627776) (hl2:D.S.length≤1099511627776) (hr:¬ 2*(m.length:Int)<2*(A:Int)+2*((64:Nat):Int)) (he:(D.rd s).2=0) (hp:spV B (2*(A:Int)) 64=true):Calls Tryz.prog 51 #[.agg #[vs,vb,.bool en,.bool false,.bool er,.int .i64 3,.int .i64 w1,.int .i64 (2*(A:Int)),.int .i64 s,.int .i64 1],vm,vz] w (TickSays (Dk.mk D en false er 3 w1 (2*(A:Int)) s 1) m B X w):=by
 obtain ⟨A1,c1,rfl,_⟩:=hs.now.form
 obtain ⟨A2,c2,rfl,_⟩:=hb.now.form
 obtain ⟨A3,c3,rfl,_⟩:=hm.now.form
 obtain ⟨A4,c4,rfl,_⟩:=hz.now.form
 have h64:(Dk.mk D en false er 3 w1 (2*(A:Int)) s 1).n64=64:=by unfold Dk.n64;dsimp only;omega
 have d64:(64:Int)<w1:=by omega
 have w0:IntKind.i64.wrap (2*64)=2*64:=by rw [qaf];unfold wrap64;omega
 have w1':IntKind.i64.wrap (2*(A:Int)+2*64)=2*(A:Int)+2*64:=by rw [qaf];unfold wrap64;omega
 have w2:IntKind.i64.wrap (2*(m.length:Int))=2*(m.length:Int):=by rw [qaf];unfold wrap64;omega
 have w3:IntKind.i64.wrap (2*(A:Int)+128)=2*(A:Int)+128:=by rw [qaf];unfold wrap64;omega
 have hfl:=fun w=>qbj (Dk.mk D en false er 3 w1 (2*(A:Int)) s 0) A1 D.S.length c1 A2 D.B.length c2 w
 unfold Dk.fail at hfl
 dsimp only at hfl
 have hrd:=fun w' (h:Below w.heap.size w w')=>qbt D s hl hl2 (.slice A1 D.S.length c1) (.slice A2 D.B.length c2) w' (hs.now.below h) (hb.now.below h)
 have hsp:∀ w',Below w.heap.size w w'→Calls Tryz.prog 112 #[.slice A4 B.length c4,.int .i64 (2*(A:Int)),.int .i64 64] w' fun e' w2=>e'=.returned (.bool (spV B (2*(A:Int)) 64))∧Below w'.heap.size w' w2:=fun w' h=>qbg B (2*(A:Int)) 64 _ w' hzl (by omega) (by omega) (hz.now.below h)
 unfold TickSays
 rw [qcs _ _ _ rfl,h64]
 dsimp only
 rw [qb8,if_neg hr,if_neg (fun h=>h.2 he),if_pos ⟨by decide,hp⟩]
 dsimp only [Dk.l0,Dk.fail]
 have d1:¬ (2*(m.length:Int)<2*(A:Int)+128):=by omega
 have d1b:¬ (2*(m.length:Int)<2*(A:Int)+2*64):=by omega
 clear hr
 rw [hp] at hsp
 rw [he] at hrd
 generalize (D.rd s).1=sv at *
 clear hp he
 have hX:=qbi w [(.slice A1 D.S.length c1),(.slice A2 D.B.length c2),.bool en,.bool false,.bool er,.int .i64 3,.int .i64 w1,.int .i64 (2*(A:Int)),.int .i64 s,.int .i64 0] [.slice none 0 0,.slice none 0 0,.bool false,.bool false,.bool false,.int .i64 0,.int .i64 0,.int .i64 0,.int .i64 0,.int .i64 0]
 clear h64
 go_enter Tryz.func51,Tryz.ntmps51
 go_wp2_with (first|((with_reducible refine qab ?_);first|refine lc hX ?_|refine lw hX aggK sizK ?_|refine lp (ds:=[_,_]) hX aggD sizD ?_)|((first|(go_at_call 111;with_reducible refine cst hX (hrd _ hX.below) ?_)|(go_at_call 112;with_reducible refine cst hX (hsp _ hX.below) ?_));clear hX;intro wc hX)|(go_at_call 110;with_reducible refine cst hX (hfl _) ?_;clear hX;intro wf hX)|((with_reducible refine qah ?_);refine qaa (cs':=[(.slice A1 D.S.length c1),(.slice A2 D.B.length c2),.bool en,.bool true,.bool true,.int .i64 3,.int .i64 w1,.int .i64 (2*(A:Int)),.int .i64 s,.int .i64 0]) hX aggK sizK _ _ rfl rfl rfl rfl rfl rfl rfl rfl (qav rfl rfl _ _ _ _ _ _ _ _) ?_;clear hX;intro wz hX hkz;clear hkz))
 first|exact bodyPost_ret (qal Tryz.results51 rfl ((hX.all _ _ _ (.head _)).loadVar rfl aggK sizK)) rfl ⟨_,_,_,rfl,⟨_,_,rfl,hs.below hX.below,hb.below hX.below⟩,hm.below hX.below,hz.below hX.below,hX.below⟩|exact bodyPost_ret (qal Tryz.results51 rfl ((hX.all _ _ _ (.tail _ (.head _))).loadVar rfl aggK sizK)) rfl ⟨_,_,_,rfl,⟨_,_,rfl,hs.below hX.below,hb.below hX.below⟩,hm.below hX.below,hz.below hX.below,hX.below⟩
theorem ql7 (D:Drv) (en er:Bool) (s:Int) (A:Nat) (w1:Int) (hw1:64<w1) (hw2:w1≤65535) (hA:A≤32767) (m B:List Int) (vs vb vm vz:Value) (w:World) (X:Nat→Prop) (hXl:∀ b,X b→b<w.heap.size) (hs:StsX X w vs D.S) (hb:ItsX X w vb D.B) (hm:ItsX X w vm m) (hz:ItsX X w vz B) (hml:m.length≤1099511627776) (hzl:B.length≤1099511627776) (hl:D.B.length≤1099511627776) (hl2:D.S.length≤1099511627776) (hr:¬ 2*(m.length:Int)<2*(A:Int)+2*((64:Nat):Int)) (he:(D.rd s).2=0) (hsz:(D.rd s).1.size=128) (hp:spV B (2*(A:Int)) 64=false) (hd:dfW m A 64 (D.rd s).1=true):Calls Tryz.prog 51 #[.agg #[vs,vb,.bool en,.bool false,.bool er,.int .i64 3,.int .i64 w1,.int .i64 (2*(A:Int)),.int .i64 s,.int .i64 1],vm,vz] w (TickSays (Dk.mk D en false er 3 w1 (2*(A:Int)) s 1) m B X w):=by
 obtain ⟨A1,c1,rfl,_⟩:=hs.now.form
 obtain ⟨A2,c2,rfl,_⟩:=hb.now.form
 obtain ⟨A3,c3,rfl,_⟩:=hm.now.form
 obtain ⟨A4,c4,rfl,_⟩:=hz.now.form
 have h64:(Dk.mk D en false er 3 w1 (2*(A:Int)) s 1).n64=64:=by unfold Dk.n64;dsimp only;omega
 have d64:(64:Int)<w1:=by omega
 have w0:IntKind.i64.wrap (2*64)=2*64:=by rw [qaf];unfold wrap64;omega
 have w1':IntKind.i64.wrap (2*(A:Int)+2*64)=2*(A:Int)+2*64:=by rw [qaf];unfold wrap64;omega
 have w2:IntKind.i64.wrap (2*(m.length:Int))=2*(m.length:Int):=by rw [qaf];unfold wrap64;omega
 have w3:IntKind.i64.wrap (2*(A:Int)+128)=2*(A:Int)+128:=by rw [qaf];unfold wrap64;omega
 have hfl:=fun w=>qbj (Dk.mk D en false er 3 w1 (2*(A:Int)) s 0) A1 D.S.length c1 A2 D.B.length c2 w
 unfold Dk.fail at hfl
 dsimp only at hfl
 have hrd:=fun w' (h:Below w.heap.size w w')=>qbt D s hl hl2 (.slice A1 D.S.length c1) (.slice A2 D.B.length c2) w' (hs.now.below h) (hb.now.below h)
 have hsp:∀ w',Below w.heap.size w w'→Calls Tryz.prog 112 #[.slice A4 B.length c4,.int .i64 (2*(A:Int)),.int .i64 64] w' fun e' w2=>e'=.returned (.bool (spV B (2*(A:Int)) 64))∧Below w'.heap.size w' w2:=fun w' h=>qbg B (2*(A:Int)) 64 _ w' hzl (by omega) (by omega) (hz.now.below h)
 have hdf:∀ w',Below w.heap.size w w'→Calls Tryz.prog 113 #[.slice A3 m.length c3,.int .i64 (2*(A:Int)),.int .i64 64,.string (D.rd s).1] w' fun e' w2=>e'=.returned (.bool (dfW m A 64 (D.rd s).1))∧Below w'.heap.size w' w2:=fun w' h=>qd4 m A 64 (D.rd s).1 _ w' (by omega) hml (by omega) (hm.now.below h)
 unfold TickSays
 rw [qcs _ _ _ rfl,h64]
 dsimp only
 rw [qb8,if_neg hr,if_neg (fun h=>h.2 he),if_neg (by rw [hp];simp),if_pos ⟨rfl,hd⟩]
 dsimp only [Dk.l0,Dk.fail]
 have d1:¬ (2*(m.length:Int)<2*(A:Int)+128):=by omega
 have d1b:¬ (2*(m.length:Int)<2*(A:Int)+2*64):=by omega
 clear hr
 rw [hp] at hsp
 rw [he] at hrd
 rw [hd] at hdf
 generalize (D.rd s).1=sv at *
 clear hp he hd hsz
 have hX:=qbi w [(.slice A1 D.S.length c1),(.slice A2 D.B.length c2),.bool en,.bool false,.bool er,.int .i64 3,.int .i64 w1,.int .i64 (2*(A:Int)),.int .i64 s,.int .i64 0] [.slice none 0 0,.slice none 0 0,.bool false,.bool false,.bool false,.int .i64 0,.int .i64 0,.int .i64 0,.int .i64 0,.int .i64 0]
 clear h64
 go_enter Tryz.func51,Tryz.ntmps51
 go_wp2_with (first|((with_reducible refine qab ?_);first|refine lc hX ?_|refine lw hX aggK sizK ?_|refine lp (ds:=[_,_]) hX aggD sizD ?_)|((first|(go_at_call 111;with_reducible refine cst hX (hrd _ hX.below) ?_)|(go_at_call 112;with_reducible refine cst hX (hsp _ hX.below) ?_)|(go_at_call 113;with_reducible refine cst hX (hdf _ hX.below) ?_));clear hX;intro wc hX)|(go_at_call 110;with_reducible refine cst hX (hfl _) ?_;clear hX;intro wf hX)|((with_reducible refine qah ?_);refine qaa (cs':=[(.slice A1 D.S.length c1),(.slice A2 D.B.length c2),.bool en,.bool true,.bool true,.int .i64 3,.int .i64 w1,.int .i64 (2*(A:Int)),.int .i64 s,.int .i64 0]) hX aggK sizK _ _ rfl rfl rfl rfl rfl rfl rfl rfl (qav rfl rfl _ _ _ _ _ _ _ _) ?_;clear hX;intro wz hX hkz;clear hkz))
 first|exact bodyPost_ret (qal Tryz.results51 rfl ((hX.all _ _ _ (.head _)).loadVar rfl aggK sizK)) rfl ⟨_,_,_,rfl,⟨_,_,rfl,hs.below hX.below,hb.below hX.below⟩,hm.below hX.below,hz.below hX.below,hX.below⟩|exact bodyPost_ret (qal Tryz.results51 rfl ((hX.all _ _ _ (.tail _ (.head _))).loadVar rfl aggK sizK)) rfl ⟨_,_,_,rfl,⟨_,_,rfl,hs.below hX.below,hb.below hX.below⟩,hm.below hX.below,hz.below hX.below,hX.below⟩
end Go.Proofs.YthpnddgfgpacpaaGreat
