import Derived.Test.YthpnddgfgpacpaaGreatRT04
import Derived.Test.YthpnddgfgpacpaaGreatRT32
import Derived.Test.YthpnddgfgpacpaaGreatRT12
namespace Go.Proofs.YthpnddgfgpacpaaGreat
open Go.RowKit
set_option linter.unusedSimpArgs false
set_option linter.unusedVariables false
set_option maxHeartbeats 4000000
set_option maxRecDepth 100000
attribute [local irreducible] wpQuiet
theorem qa6 {P:Program} {fn:Func} {tmps:Array Value} {w:World} {j k m o:Tmp} {T:TypeId} {a:Addr} {v:Value} (hr:fn.results=#[.cell j T,.tmp k,.tmp m,.tmp o]) (ha:tmps.getD j undef=.pointer (some a)) (hl:(Go.loadVar T a).run P w=.ok v w) :
 (results fn tmps).run P w=.ok (.tuple #[v,tmps.getD k undef,tmps.getD m undef,tmps.getD o undef]) w:=by
 unfold results
 rw [hr]
 have ha':=ha
 rw [Array.getD_eq_getD_getElem?] at ha'
 simp [ha',asAddr,hl]
def TrSays (K':Dk) (ok:Bool) (m' B':List Int) (X:Nat→Prop) (wN w:World) (e':Ending) (w':World):Prop:=∃ x y z,e'=.returned (.tuple #[x,y,z,.bool ok])∧DkX X w' x K'∧(ok=true→ItsX X w' y m'∧ItsX X w' z B')∧Below wN.heap.size wN w'∧(ok=false→Below w.heap.size w w')
theorem padv_any (D:Drv) (n e:Bool) (c a s:Int) (w1:Int) (q:Nat) (hq:q=min w1.toNat 64) (hw0:1≤w1) (hw1:w1≤65535) (ha:0≤a∧a≤65535) (hs:0≤s∧s≤65535) (l:Int) (vs vb:Value) (h1:vs.oneCell'=true) (h2:vb.oneCell'=true) (w:World):Calls Tryz.prog 214 #[.agg #[vs,vb,.bool n,.bool false,.bool e,.int .i64 c,.int .i64 w1,.int .i64 a,.int .i64 s,.int .i64 0],.int .i64 (q:Int)] w fun e' w'=>e'=.returned (.agg #[vs,vb,.bool ((Dk.mk D n false e c w1 a s l).adv D).n,.bool ((Dk.mk D n false e c w1 a s l).adv D).r,.bool ((Dk.mk D n false e c w1 a s l).adv D).e,.int .i64 ((Dk.mk D n false e c w1 a s l).adv D).c,.int .i64 ((Dk.mk D n false e c w1 a s l).adv D).w,.int .i64 ((Dk.mk D n false e c w1 a s l).adv D).a,.int .i64 ((Dk.mk D n false e c w1 a s l).adv D).s,.int .i64 ((Dk.mk D n false e c w1 a s l).adv D).l])∧Below w.heap.size w w':=by
 have h64:(Dk.mk D n false e c w1 a s l).n64=q:=by rw [hq];rfl
 have hq1:(q:Int)≤64:=by omega
 have hq2:(q:Int)≤w1:=by omega
 clear hq
 unfold Dk.adv
 rw [h64]
 clear h64
 dsimp only
 have hX:=qbi w [vs,vb,.bool n,.bool false,.bool e,.int .i64 c,.int .i64 w1,.int .i64 a,.int .i64 s,.int .i64 0] [.slice none 0 0,.slice none 0 0,.bool false,.bool false,.bool false,.int .i64 0,.int .i64 0,.int .i64 0,.int .i64 0,.int .i64 0]
 have x1:IntKind.i64.wrap (w1 - (q:Int))=w1 - (q:Int):=by rw [qaf];unfold wrap64;omega
 have x2:IntKind.i64.wrap ((q:Int)*2)=2*(q:Int):=by rw [qaf];unfold wrap64;omega
 have x3:IntKind.i64.wrap (a+2*(q:Int))=a+2*(q:Int):=by rw [qaf];unfold wrap64;omega
 have x4:bits .and .i64 (a+2*(q:Int)) 65535=(a+2*(q:Int))%65536:=qd1 (c:=65535) (by decide) (qe7 _ 0 16) (by intro h;omega)
 have x5:IntKind.i64.wrap (s+1)=s+1:=by rw [qaf];unfold wrap64;omega
 have x6:bits .and .i64 (s+1) 65535=(s+1)%65536:=qd1 (c:=65535) (by decide) (qe7 _ 0 16) (by intro h;omega)
 by_cases h:w1 - (q:Int)=0
 ·have d:(w1 - (q:Int) == 0)=true:=by simpa using h
  rw [decide_eq_true h,if_pos h,h]
  go_enter Tryz.func214,Tryz.ntmps214
  go_wp2_with (first|((with_reducible refine qab ?_);first|refine lc hX ?_|refine lw hX aggK sizK ?_)|((with_reducible refine qah ?_);first|(refine qae (z:=.bool _) hX.swap qbo _ _ rfl rfl rfl rfl rfl rfl (by simp) rfl rfl ?_;intro wp hX3 hk3 hz3;clear hz3;clear hX;have hX:=hX3.swap;clear hk3 hX3;simp only [sx] at hX)|(refine qae (z:=.int .i64 _) hX.swap qbu _ _ rfl rfl rfl rfl rfl rfl (by simp) rfl rfl ?_;intro wp hX3 hk3 hz3;clear hz3;clear hX;have hX:=hX3.swap;clear hk3 hX3;simp only [sx] at hX)|(refine qaa (cs':=[vs,vb,.bool n,.bool true,.bool e,.int .i64 c,.int .i64 0,.int .i64 ((a+2*(q:Int))%65536),.int .i64 ((s+1)%65536),.int .i64 0]) hX aggK sizK _ _ rfl rfl rfl rfl rfl rfl rfl rfl (qav h1 h2 _ _ _ _ _ _ _ _) ?_;clear hX;intro wz hX hkz;clear hkz)))
  exact bodyPost_ret (qaj Tryz.results214 rfl ((hX.all _ _ _ (.head _)).loadVar rfl aggK sizK)) rfl ⟨rfl,hX.below⟩
 ·have d:(w1 - (q:Int) == 0)=false:=by simpa using h
  rw [decide_eq_false h,if_neg h]
  go_enter Tryz.func214,Tryz.ntmps214
  go_wp2_with (first|((with_reducible refine qab ?_);first|refine lc hX ?_|refine lw hX aggK sizK ?_)|((with_reducible refine qah ?_);first|(refine qae (z:=.bool _) hX.swap qbo _ _ rfl rfl rfl rfl rfl rfl (by simp) rfl rfl ?_;intro wp hX3 hk3 hz3;clear hz3;clear hX;have hX:=hX3.swap;clear hk3 hX3;simp only [sx] at hX)|(refine qae (z:=.int .i64 _) hX.swap qbu _ _ rfl rfl rfl rfl rfl rfl (by simp) rfl rfl ?_;intro wp hX3 hk3 hz3;clear hz3;clear hX;have hX:=hX3.swap;clear hk3 hX3;simp only [sx] at hX)|(refine qaa (cs':=[vs,vb,.bool n,.bool false,.bool e,.int .i64 c,.int .i64 (w1 - (q:Int)),.int .i64 ((a+2*(q:Int))%65536),.int .i64 ((s+1)%65536),.int .i64 8]) hX aggK sizK _ _ rfl rfl rfl rfl rfl rfl rfl rfl (qav h1 h2 _ _ _ _ _ _ _ _) ?_;clear hX;intro wz hX hkz;clear hkz)))
  exact bodyPost_ret (qaj Tryz.results214 rfl ((hX.all _ _ _ (.head _)).loadVar rfl aggK sizK)) rfl ⟨rfl,hX.below⟩
section
variable {ops:Array Oper} {rest:List Oper} {o:Oper} {a:Act} {w w0 w1:World} {Q:Exit→Act→World→Prop} {l:List (Nat×TypeId×List Value)}
theorem qbz {t T:TypeId} {z0 z:Value} (hX:Bag l w0 w) (hsz:∀ w,(sizeOf T).run Tryz.prog w=.ok 1 w) (x y:Operand) (hop:o.op=Op.store T x y) (hal:w1=w.alloc (.cells #[z0] t)) (hx:a.eval x=.pointer (some ⟨w.heap.size,0,none⟩)) (hy:a.eval y=z) (hdst:o.dst=none) (hw:Region.wanted o (yielded ops a.tmps)=true) (hz:z.cells=#[z]) (h1:z.oneCell'=true)
 (h:∀ w2,Bag ((w.heap.size,t,[z]) :: l) w0 w2→Below w.heap.size w w2→wpList Tryz.prog ops Q rest a w2):wpList Tryz.prog ops Q (o :: rest) a w1:=by
 subst hal
 have hX2:=hX.new t [z0]
 have hr:=(hX2.all _ _ _ List.mem_cons_self).put_run (P:=Tryz.prog) (v:=z) (k:=0) (by simp) h1
 exact BigFrame.wpList_want hw fun _ hK=>by
  unfold Oper.wp execOp
  simp only [hop,hx,hy,hz,Instr.storeAt,Instr.sureAddr,storeVar,hr,hsz,List.size_toArray,List.length_cons,List.length_nil,ne_eq,not_true_eq_false,if_false,Sem.run_bind,Sem.run_pure,Result.andThen_ok]
  exact hK _ _ (by rw [hdst];exact h _ (hX2.over _) (below_setRow ((Below.refl _ _).alloc (Nat.le_refl _) _) (Nat.le_refl _) _))
end
theorem qr5 {L:Nat} {A q:Nat} (h:2*(L:Int)<2*(A:Int)+2*(q:Int)):bytesE (2*(L:Int)) (2*(A:Int)) (2*(q:Int))=2:=by
 unfold bytesE inR;rw [if_neg];simp;omega
theorem qjx {L:Nat} {A q:Nat} (h:¬ 2*(L:Int)<2*(A:Int)+2*(q:Int)):inR (2*(L:Int)) (2*(A:Int)) (2*(q:Int))=true:=by
 unfold inR;simp;omega
theorem qc5 {L:Nat} {A q:Nat} (h:¬ 2*(L:Int)<2*(A:Int)+2*(q:Int)):bytesE (2*(L:Int)) (2*(A:Int)) (2*(q:Int))=0:=by
 unfold bytesE;rw [qjx h];rfl
theorem qc3 {m:List Int} {A q:Nat} (h:¬ 2*(m.length:Int)<2*(A:Int)+2*(q:Int)):(⟨(bytesS m (2*(A:Int)) (2*(q:Int))).toArray⟩:ByteArray)=wsV m A q:=by
 unfold bytesS wsV
 rw [qjx h,if_pos rfl,show (2*(A:Int)).toNat=2*A by omega,show (2*(q:Int)).toNat=2*q by omega]
theorem Bag.base {l:List (Nat×TypeId×List Value)} {w00 w0 w:World} (h:Bag l w0 w) (hb:Below w00.heap.size w00 w0):Bag l w00 w:=⟨h.all,hb.trans (h.below.mono hb.size),fun b hm=>Nat.le_trans hb.size (h.lo b hm),h.dis⟩
theorem ptr_far (D:Drv) (n r e:Bool) (c s:Int) (A:Nat) (w1 l:Int) (q:Nat) (hq:q≤64) (hA:A≤32767) (m B:List Int) (vs vb vm vz:Value) (X:Nat→Prop) (wN w:World) (hN:Below wN.heap.size wN w) (hXN:∀ b,X b→b<wN.heap.size) (hs:StsX X wN vs D.S) (hb:ItsX X wN vb D.B) (hm:ItsX X wN vm m) (hz:w.ownsRow wN.heap.size 3 1 vz B.length (B.map (Value.int .i64))) (hml:m.length≤1099511627776) (hzl:B.length≤1099511627776) (hD:D.right=true) (hw:∀ x∈m,0≤x∧x≤65535) (hf:2*(m.length:Int)<2*(A:Int)+2*(q:Int)):Calls Tryz.prog 213 #[.agg #[vs,vb,.bool n,.bool r,.bool e,.int .i64 c,.int .i64 w1,.int .i64 (2*(A:Int)),.int .i64 s,.int .i64 l],vm,vz,.int .i64 (q:Int)] w (TrSays (Dk.mk D n r e c w1 (2*(A:Int)) s l) false m B X wN w):=by
 have hsw:=hs.below hN
 have hbw:=hb.below hN
 have hmw:=hm.below hN
 have o1:=qdj hsw.now
 have o2:=qdi hbw.now
 have x1:IntKind.i64.wrap ((q:Int)*2)=2*(q:Int):=by rw [qaf];unfold wrap64;omega
 have hby:=fun wz (h:Below w.heap.size w wz)=>qc9 vm m hml (2*(A:Int)) (2*(q:Int)) (by omega) wz (Its.nums18 (hmw.below h).now)
 have hzz:ItsX X w vz B:=Sv.of_own hz hXN
 rw [qr5 hf] at hby
 generalize (⟨(bytesS m (2*(A:Int)) (2*(q:Int))).toArray⟩:ByteArray)=WW at hby
 have hX:=qbi w [vs,vb,.bool n,.bool r,.bool e,.int .i64 c,.int .i64 w1,.int .i64 (2*(A:Int)),.int .i64 s,.int .i64 l] [.slice none 0 0,.slice none 0 0,.bool false,.bool false,.bool false,.int .i64 0,.int .i64 0,.int .i64 0,.int .i64 0,.int .i64 0]
 go_enter Tryz.func213,Tryz.ntmps213
 go_wp2_with (first|(go_at_call 219;with_reducible refine cst hX (hby _ hX.below) ?_;clear hX;intro wc hX)|((with_reducible refine qah ?_);first|(refine qbz (z:=.string _) hX qkh _ _ rfl rfl rfl rfl rfl rfl rfl rfl ?_;clear hX;intro wb hX hb8;clear hb8)|(refine qaa (cs':=[vs,vb,.bool n,.bool r,.bool e,.int .i64 c,.int .i64 w1,.int .i64 (2*(A:Int)),.int .i64 s,.int .i64 l]) hX.swap aggK sizK _ _ rfl rfl rfl rfl rfl rfl rfl rfl (qav o1 o2 _ _ _ _ _ _ _ _) ?_;clear hX;intro wz hX hkz;clear hkz))|((with_reducible refine qab ?_);first|refine lc hX ?_|refine lw hX aggK sizK ?_|refine lp (ds:=[_,_]) hX aggD sizD ?_))
 first|exact bodyPost_ret (qa6 Tryz.results213 rfl ((hX.all _ _ _ (.head _)).loadVar rfl aggK sizK)) rfl ⟨_,_,_,rfl,⟨_,_,rfl,hsw.below hX.below,hbw.below hX.below⟩,fun _=>⟨hmw.below hX.below,hzz.below hX.below⟩,hN.trans (hX.below.mono hN.size),fun _=>hX.below⟩|exact bodyPost_ret (qa6 Tryz.results213 rfl ((hX.all _ _ _ (.tail _ (.head _))).loadVar rfl aggK sizK)) rfl ⟨_,_,_,rfl,⟨_,_,rfl,hsw.below hX.below,hbw.below hX.below⟩,fun _=>⟨hmw.below hX.below,hzz.below hX.below⟩,hN.trans (hX.below.mono hN.size),fun _=>hX.below⟩|exact bodyPost_ret (qa6 Tryz.results213 rfl ((hX.all _ _ _ (.tail _ (.tail _ (.head _)))).loadVar rfl aggK sizK)) rfl ⟨_,_,_,rfl,⟨_,_,rfl,hsw.below hX.below,hbw.below hX.below⟩,fun _=>⟨hmw.below hX.below,hzz.below hX.below⟩,hN.trans (hX.below.mono hN.size),fun _=>hX.below⟩
theorem ptr_sp (D:Drv) (n r e:Bool) (c s:Int) (A:Nat) (w1 l:Int) (q:Nat) (hq:q≤64) (hA:A≤32767) (m B:List Int) (vs vb vm vz:Value) (X:Nat→Prop) (wN w:World) (hN:Below wN.heap.size wN w) (hXN:∀ b,X b→b<wN.heap.size) (hs:StsX X wN vs D.S) (hb:ItsX X wN vb D.B) (hm:ItsX X wN vm m) (hz:w.ownsRow wN.heap.size 3 1 vz B.length (B.map (Value.int .i64))) (hml:m.length≤1099511627776) (hzl:B.length≤1099511627776) (hD:D.right=true) (hw:∀ x∈m,0≤x∧x≤65535) (hf:¬ 2*(m.length:Int)<2*(A:Int)+2*(q:Int)) (hc:c≠1) (hp:spV B (2*(A:Int)) q=true):Calls Tryz.prog 213 #[.agg #[vs,vb,.bool n,.bool r,.bool e,.int .i64 c,.int .i64 w1,.int .i64 (2*(A:Int)),.int .i64 s,.int .i64 l],vm,vz,.int .i64 (q:Int)] w (TrSays (Dk.mk D n r e c w1 (2*(A:Int)) s l) false m B X wN w):=by
 have hsw:=hs.below hN
 have hbw:=hb.below hN
 have hmw:=hm.below hN
 have o1:=qdj hsw.now
 have o2:=qdi hbw.now
 have x1:IntKind.i64.wrap ((q:Int)*2)=2*(q:Int):=by rw [qaf];unfold wrap64;omega
 have hby:=fun wz (h:Below w.heap.size w wz)=>qc9 vm m hml (2*(A:Int)) (2*(q:Int)) (by omega) wz (Its.nums18 (hmw.below h).now)
 have hzz:ItsX X w vz B:=Sv.of_own hz hXN
 rw [qc5 hf,qc3 hf] at hby
 have hws:=qd6 m A q
 have hX:=qbi w [vs,vb,.bool n,.bool r,.bool e,.int .i64 c,.int .i64 w1,.int .i64 (2*(A:Int)),.int .i64 s,.int .i64 l] [.slice none 0 0,.slice none 0 0,.bool false,.bool false,.bool false,.int .i64 0,.int .i64 0,.int .i64 0,.int .i64 0,.int .i64 0]
 have hct:=fun (wb:Nat) wz (h:Below w.heap.size w wz) (hX:Bag [(wb,9,[.string (wsV m A q)]),(w.heap.size+1,40,[.slice none 0 0,.slice none 0 0,.bool false,.bool false,.bool false,.int .i64 0,.int .i64 0,.int .i64 0,.int .i64 0,.int .i64 0]),(w.heap.size,40,[vs,vb,.bool n,.bool r,.bool e,.int .i64 c,.int .i64 w1,.int .i64 (2*(A:Int)),.int .i64 s,.int .i64 l])] w wz)=>qg0 (2*(A:Int)) q B (wsV m A q) w.heap.size wb wN.heap.size vz wz (qag hz h) hzl (hX.all _ _ _ (.tail _ (.tail _ (.head _)))).lt (hX.all _ _ _ (.head _)).lt ((hX.all _ _ _ (.tail _ (.tail _ (.head _)))).cell (k:=7) rfl) ((hX.all _ _ _ (.head _)).cell (k:=0) rfl) (by omega) hq hws
 rw [hp] at hct
 have dc:(c != 1)=true:=by simpa using hc
 go_enter Tryz.func213,Tryz.ntmps213
 go_wp2_with (first|((first|(go_at_call 219;with_reducible refine cst hX (hby _ hX.below) ?_)|(go_at_call 221;with_reducible refine cst hX (hct _ _ hX.below hX) ?_));clear hX;intro wc hX)|((with_reducible refine qah ?_);first|(refine qbz (z:=.string _) hX qkh _ _ rfl rfl rfl rfl rfl rfl rfl rfl ?_;clear hX;intro wb hX hb8;clear hb8)|(refine qaa (cs':=[vs,vb,.bool n,.bool r,.bool e,.int .i64 c,.int .i64 w1,.int .i64 (2*(A:Int)),.int .i64 s,.int .i64 l]) hX.swap aggK sizK _ _ rfl rfl rfl rfl rfl rfl rfl rfl (qav o1 o2 _ _ _ _ _ _ _ _) ?_;clear hX;intro wz hX hkz;clear hkz))|((with_reducible refine qab ?_);first|refine lc hX ?_|refine lw hX aggK sizK ?_|refine lp (ds:=[_,_]) hX aggD sizD ?_))
 first|exact bodyPost_ret (qa6 Tryz.results213 rfl ((hX.all _ _ _ (.head _)).loadVar rfl aggK sizK)) rfl ⟨_,_,_,rfl,⟨_,_,rfl,hsw.below hX.below,hbw.below hX.below⟩,fun _=>⟨hmw.below hX.below,hzz.below hX.below⟩,hN.trans (hX.below.mono hN.size),fun _=>hX.below⟩|exact bodyPost_ret (qa6 Tryz.results213 rfl ((hX.all _ _ _ (.tail _ (.head _))).loadVar rfl aggK sizK)) rfl ⟨_,_,_,rfl,⟨_,_,rfl,hsw.below hX.below,hbw.below hX.below⟩,fun _=>⟨hmw.below hX.below,hzz.below hX.below⟩,hN.trans (hX.below.mono hN.size),fun _=>hX.below⟩|exact bodyPost_ret (qa6 Tryz.results213 rfl ((hX.all _ _ _ (.tail _ (.tail _ (.head _)))).loadVar rfl aggK sizK)) rfl ⟨_,_,_,rfl,⟨_,_,rfl,hsw.below hX.below,hbw.below hX.below⟩,fun _=>⟨hmw.below hX.below,hzz.below hX.below⟩,hN.trans (hX.below.mono hN.size),fun _=>hX.below⟩
theorem ptr_rd1 (D:Drv) (n r e:Bool) (s:Int) (A:Nat) (w1 l:Int) (q:Nat) (hq:q≤64) (hA:A≤32767) (m B:List Int) (vs vb vm vz:Value) (X:Nat→Prop) (wN w:World) (hN:Below wN.heap.size wN w) (hXN:∀ b,X b→b<wN.heap.size) (hs:StsX X wN vs D.S) (hb:ItsX X wN vb D.B) (hm:ItsX X wN vm m) (hz:w.ownsRow wN.heap.size 3 1 vz B.length (B.map (Value.int .i64))) (hml:m.length≤1099511627776) (hzl:B.length≤1099511627776) (hD:D.right=true) (hw:∀ x∈m,0≤x∧x≤65535) (hf:¬ 2*(m.length:Int)<2*(A:Int)+2*(q:Int)) (he:(D.rd s).2≠0):Calls Tryz.prog 213 #[.agg #[vs,vb,.bool n,.bool r,.bool e,.int .i64 1,.int .i64 w1,.int .i64 (2*(A:Int)),.int .i64 s,.int .i64 l],vm,vz,.int .i64 (q:Int)] w (TrSays (Dk.mk D n r e 1 w1 (2*(A:Int)) s l) false m B X wN w):=by
 have hsw:=hs.below hN
 have hbw:=hb.below hN
 have hmw:=hm.below hN
 have o1:=qdj hsw.now
 have o2:=qdi hbw.now
 have x1:IntKind.i64.wrap ((q:Int)*2)=2*(q:Int):=by rw [qaf];unfold wrap64;omega
 have hby:=fun wz (h:Below w.heap.size w wz)=>qc9 vm m hml (2*(A:Int)) (2*(q:Int)) (by omega) wz (Its.nums18 (hmw.below h).now)
 have hzz:ItsX X w vz B:=Sv.of_own hz hXN
 rw [qc5 hf,qc3 hf] at hby
 have hws:=qd6 m A q
 have hX:=qbi w [vs,vb,.bool n,.bool r,.bool e,.int .i64 1,.int .i64 w1,.int .i64 (2*(A:Int)),.int .i64 s,.int .i64 l] [.slice none 0 0,.slice none 0 0,.bool false,.bool false,.bool false,.int .i64 0,.int .i64 0,.int .i64 0,.int .i64 0,.int .i64 0]
 have hrd:=fun wz (h:Below w.heap.size w wz)=>qf3 D s hD vs vb wz (hsw.below h).now (hbw.below h).now
 generalize D.rd s=RD at hrd he
 obtain ⟨sv,ee⟩:=RD
 dsimp only at hrd he
 have de:(ee != 0)=true:=by simpa using he
 go_enter Tryz.func213,Tryz.ntmps213
 go_wp2_with (first|((first|(go_at_call 219;with_reducible refine cst hX (hby _ hX.below) ?_)|(go_at_call 221;with_reducible refine cst hX (hct _ _ hX.below hX) ?_)|(go_at_call 223;with_reducible refine cst hX (hrd _ hX.below) ?_));clear hX;intro wc hX)|((with_reducible refine qah ?_);first|(refine qbz (z:=.string _) hX qkh _ _ rfl rfl rfl rfl rfl rfl rfl rfl ?_;clear hX;intro wb hX hb8;clear hb8)|(refine qaa (cs':=[vs,vb,.bool n,.bool r,.bool e,.int .i64 1,.int .i64 w1,.int .i64 (2*(A:Int)),.int .i64 s,.int .i64 l]) hX.swap aggK sizK _ _ rfl rfl rfl rfl rfl rfl rfl rfl (qav o1 o2 _ _ _ _ _ _ _ _) ?_;clear hX;intro wz hX hkz;clear hkz))|((with_reducible refine qab ?_);first|refine lc hX ?_|refine lw hX aggK sizK ?_|refine lp (ds:=[_,_]) hX aggD sizD ?_))
 first|exact bodyPost_ret (qa6 Tryz.results213 rfl ((hX.all _ _ _ (.head _)).loadVar rfl aggK sizK)) rfl ⟨_,_,_,rfl,⟨_,_,rfl,hsw.below hX.below,hbw.below hX.below⟩,fun _=>⟨hmw.below hX.below,hzz.below hX.below⟩,hN.trans (hX.below.mono hN.size),fun _=>hX.below⟩|exact bodyPost_ret (qa6 Tryz.results213 rfl ((hX.all _ _ _ (.tail _ (.head _))).loadVar rfl aggK sizK)) rfl ⟨_,_,_,rfl,⟨_,_,rfl,hsw.below hX.below,hbw.below hX.below⟩,fun _=>⟨hmw.below hX.below,hzz.below hX.below⟩,hN.trans (hX.below.mono hN.size),fun _=>hX.below⟩|exact bodyPost_ret (qa6 Tryz.results213 rfl ((hX.all _ _ _ (.tail _ (.tail _ (.head _)))).loadVar rfl aggK sizK)) rfl ⟨_,_,_,rfl,⟨_,_,rfl,hsw.below hX.below,hbw.below hX.below⟩,fun _=>⟨hmw.below hX.below,hzz.below hX.below⟩,hN.trans (hX.below.mono hN.size),fun _=>hX.below⟩
theorem ptr_rd3 (D:Drv) (n r e:Bool) (s:Int) (A:Nat) (w1 l:Int) (q:Nat) (hq:q≤64) (hA:A≤32767) (m B:List Int) (vs vb vm vz:Value) (X:Nat→Prop) (wN w:World) (hN:Below wN.heap.size wN w) (hXN:∀ b,X b→b<wN.heap.size) (hs:StsX X wN vs D.S) (hb:ItsX X wN vb D.B) (hm:ItsX X wN vm m) (hz:w.ownsRow wN.heap.size 3 1 vz B.length (B.map (Value.int .i64))) (hml:m.length≤1099511627776) (hzl:B.length≤1099511627776) (hD:D.right=true) (hw:∀ x∈m,0≤x∧x≤65535) (hf:¬ 2*(m.length:Int)<2*(A:Int)+2*(q:Int)) (hp:spV B (2*(A:Int)) q=false) (he:(D.rd s).2≠0):Calls Tryz.prog 213 #[.agg #[vs,vb,.bool n,.bool r,.bool e,.int .i64 3,.int .i64 w1,.int .i64 (2*(A:Int)),.int .i64 s,.int .i64 l],vm,vz,.int .i64 (q:Int)] w (TrSays (Dk.mk D n r e 3 w1 (2*(A:Int)) s l) false m B X wN w):=by
 have hsw:=hs.below hN
 have hbw:=hb.below hN
 have hmw:=hm.below hN
 have o1:=qdj hsw.now
 have o2:=qdi hbw.now
 have x1:IntKind.i64.wrap ((q:Int)*2)=2*(q:Int):=by rw [qaf];unfold wrap64;omega
 have hby:=fun wz (h:Below w.heap.size w wz)=>qc9 vm m hml (2*(A:Int)) (2*(q:Int)) (by omega) wz (Its.nums18 (hmw.below h).now)
 have hzz:ItsX X w vz B:=Sv.of_own hz hXN
 rw [qc5 hf,qc3 hf] at hby
 have hws:=qd6 m A q
 have hX:=qbi w [vs,vb,.bool n,.bool r,.bool e,.int .i64 3,.int .i64 w1,.int .i64 (2*(A:Int)),.int .i64 s,.int .i64 l] [.slice none 0 0,.slice none 0 0,.bool false,.bool false,.bool false,.int .i64 0,.int .i64 0,.int .i64 0,.int .i64 0,.int .i64 0]
 have hct:=fun (wb:Nat) wz (h:Below w.heap.size w wz) (hX:Bag [(wb,9,[.string (wsV m A q)]),(w.heap.size+1,40,[.slice none 0 0,.slice none 0 0,.bool false,.bool false,.bool false,.int .i64 0,.int .i64 0,.int .i64 0,.int .i64 0,.int .i64 0]),(w.heap.size,40,[vs,vb,.bool n,.bool r,.bool e,.int .i64 3,.int .i64 w1,.int .i64 (2*(A:Int)),.int .i64 s,.int .i64 l])] w wz)=>qg0 (2*(A:Int)) q B (wsV m A q) w.heap.size wb wN.heap.size vz wz (qag hz h) hzl (hX.all _ _ _ (.tail _ (.tail _ (.head _)))).lt (hX.all _ _ _ (.head _)).lt ((hX.all _ _ _ (.tail _ (.tail _ (.head _)))).cell (k:=7) rfl) ((hX.all _ _ _ (.head _)).cell (k:=0) rfl) (by omega) hq hws
 rw [hp] at hct
 have hrd:=fun wz (h:Below w.heap.size w wz)=>qf3 D s hD vs vb wz (hsw.below h).now (hbw.below h).now
 generalize D.rd s=RD at hrd he
 obtain ⟨sv,ee⟩:=RD
 dsimp only at hrd he
 have de:(ee != 0)=true:=by simpa using he
 go_enter Tryz.func213,Tryz.ntmps213
 go_wp2_with (first|((first|(go_at_call 219;with_reducible refine cst hX (hby _ hX.below) ?_)|(go_at_call 221;with_reducible refine cst hX (hct _ _ hX.below hX) ?_)|(go_at_call 223;with_reducible refine cst hX (hrd _ hX.below) ?_));clear hX;intro wc hX)|((with_reducible refine qah ?_);first|(refine qbz (z:=.string _) hX qkh _ _ rfl rfl rfl rfl rfl rfl rfl rfl ?_;clear hX;intro wb hX hb8;clear hb8)|(refine qaa (cs':=[vs,vb,.bool n,.bool r,.bool e,.int .i64 3,.int .i64 w1,.int .i64 (2*(A:Int)),.int .i64 s,.int .i64 l]) hX.swap aggK sizK _ _ rfl rfl rfl rfl rfl rfl rfl rfl (qav o1 o2 _ _ _ _ _ _ _ _) ?_;clear hX;intro wz hX hkz;clear hkz))|((with_reducible refine qab ?_);first|refine lc hX ?_|refine lw hX aggK sizK ?_|refine lp (ds:=[_,_]) hX aggD sizD ?_))
 first|exact bodyPost_ret (qa6 Tryz.results213 rfl ((hX.all _ _ _ (.head _)).loadVar rfl aggK sizK)) rfl ⟨_,_,_,rfl,⟨_,_,rfl,hsw.below hX.below,hbw.below hX.below⟩,fun _=>⟨hmw.below hX.below,hzz.below hX.below⟩,hN.trans (hX.below.mono hN.size),fun _=>hX.below⟩|exact bodyPost_ret (qa6 Tryz.results213 rfl ((hX.all _ _ _ (.tail _ (.head _))).loadVar rfl aggK sizK)) rfl ⟨_,_,_,rfl,⟨_,_,rfl,hsw.below hX.below,hbw.below hX.below⟩,fun _=>⟨hmw.below hX.below,hzz.below hX.below⟩,hN.trans (hX.below.mono hN.size),fun _=>hX.below⟩|exact bodyPost_ret (qa6 Tryz.results213 rfl ((hX.all _ _ _ (.tail _ (.tail _ (.head _)))).loadVar rfl aggK sizK)) rfl ⟨_,_,_,rfl,⟨_,_,rfl,hsw.below hX.below,hbw.below hX.below⟩,fun _=>⟨hmw.below hX.below,hzz.below hX.below⟩,hN.trans (hX.below.mono hN.size),fun _=>hX.below⟩
theorem ptr_wr (D:Drv) (n r e:Bool) (s:Int) (A:Nat) (w1 l:Int) (q:Nat) (hq:q≤64) (hA:A≤32767) (m B:List Int) (vs vb vm vz:Value) (X:Nat→Prop) (wN w:World) (hN:Below wN.heap.size wN w) (hXN:∀ b,X b→b<wN.heap.size) (hs:StsX X wN vs D.S) (hb:ItsX X wN vb D.B) (hm:ItsX X wN vm m) (hz:w.ownsRow wN.heap.size 3 1 vz B.length (B.map (Value.int .i64))) (hml:m.length≤1099511627776) (hzl:B.length≤1099511627776) (hD:D.right=true) (hw:∀ x∈m,0≤x∧x≤65535) (hf:¬ 2*(m.length:Int)<2*(A:Int)+2*(q:Int)) (hp:spV B (2*(A:Int)) q=false):Calls Tryz.prog 213 #[.agg #[vs,vb,.bool n,.bool r,.bool e,.int .i64 2,.int .i64 w1,.int .i64 (2*(A:Int)),.int .i64 s,.int .i64 l],vm,vz,.int .i64 (q:Int)] w (TrSays (Dk.mk (D.wr s (secV m A q)).1 n r e 2 w1 (2*(A:Int)) s l) (decide ((D.wr s (secV m A q)).2=0)) m B X wN w):=by
 have hsw:=hs.below hN
 have hbw:=hb.below hN
 have hmw:=hm.below hN
 have o1:=qdj hsw.now
 have o2:=qdi hbw.now
 have x1:IntKind.i64.wrap ((q:Int)*2)=2*(q:Int):=by rw [qaf];unfold wrap64;omega
 have hby:=fun wz (h:Below w.heap.size w wz)=>qc9 vm m hml (2*(A:Int)) (2*(q:Int)) (by omega) wz (Its.nums18 (hmw.below h).now)
 have hzz:ItsX X w vz B:=Sv.of_own hz hXN
 rw [qc5 hf,qc3 hf] at hby
 have hws:=qd6 m A q
 have hX:=qbi w [vs,vb,.bool n,.bool r,.bool e,.int .i64 2,.int .i64 w1,.int .i64 (2*(A:Int)),.int .i64 s,.int .i64 l] [.slice none 0 0,.slice none 0 0,.bool false,.bool false,.bool false,.int .i64 0,.int .i64 0,.int .i64 0,.int .i64 0,.int .i64 0]
 have hct:=fun (wb:Nat) wz (h:Below w.heap.size w wz) (hX:Bag [(wb,9,[.string (wsV m A q)]),(w.heap.size+1,40,[.slice none 0 0,.slice none 0 0,.bool false,.bool false,.bool false,.int .i64 0,.int .i64 0,.int .i64 0,.int .i64 0,.int .i64 0]),(w.heap.size,40,[vs,vb,.bool n,.bool r,.bool e,.int .i64 2,.int .i64 w1,.int .i64 (2*(A:Int)),.int .i64 s,.int .i64 l])] w wz)=>qg0 (2*(A:Int)) q B (wsV m A q) w.heap.size wb wN.heap.size vz wz (qag hz h) hzl (hX.all _ _ _ (.tail _ (.tail _ (.head _)))).lt (hX.all _ _ _ (.head _)).lt ((hX.all _ _ _ (.tail _ (.tail _ (.head _)))).cell (k:=7) rfl) ((hX.all _ _ _ (.head _)).cell (k:=0) rfl) (by omega) hq hws
 rw [hp] at hct
 have hXl:∀ b,X b→b<w.heap.size:=fun b h=>Nat.lt_of_lt_of_le (hXN b h) hN.size
 have hwr:=fun wz (h:Below w.heap.size w wz) (h2:w.heap.size+2≤wz.heap.size)=>qp4 D s (wsV m A q) hD vs vb (OwnA X w.heap.size) wz (qa2 hXl h2) (hsw.below h).now (hbw.below h).now
 rw [wr_words hw A q hq] at hwr
 generalize D.wr s (secV m A q)=RR at *
 obtain ⟨DW,ee⟩:=RR
 dsimp only at hwr ⊢
 go_enter Tryz.func213,Tryz.ntmps213
 go_wp2_with (first|((first|(go_at_call 219;with_reducible refine cst hX (hby _ hX.below) ?_)|(go_at_call 221;with_reducible refine cst hX (hct _ _ hX.below hX) ?_));clear hX;intro wc hX)|((with_reducible refine qah ?_);first|(refine qbz (z:=.string _) hX qkh _ _ rfl rfl rfl rfl rfl rfl rfl rfl ?_;clear hX;intro wb hX hb8;clear hb8)|(refine qdu (ds:=[(.slice A5 DW.S.length c5),(.slice A6 DW.B.length c6)]) (hX.perm (List.perm_append_comm (l₁:=[_,_]) (l₂:=[_]))) aggD sizD _ _ rfl rfl rfl rfl rfl rfl rfl (by simp) (qf6 rfl rfl) ?_;clear hX;intro wp hX hkz;replace hs5:=hs5.over hkz (.inr (.inl rfl));replace hb5:=hb5.over hkz (.inr (.inl rfl));clear hkz;dsimp only [List.take,List.drop,List.cons_append,List.nil_append] at hX)|(refine qaa (cs':=[(.slice A5 DW.S.length c5),(.slice A6 DW.B.length c6),.bool n,.bool r,.bool e,.int .i64 2,.int .i64 w1,.int .i64 (2*(A:Int)),.int .i64 s,.int .i64 l]) (hX.perm (List.perm_append_comm (l₁:=[_,_]) (l₂:=[_]))) aggK sizK _ _ rfl rfl rfl rfl rfl rfl rfl rfl (qav rfl rfl _ _ _ _ _ _ _ _) ?_;clear hX;intro wz hX hkz;replace hs5:=hs5.over hkz (.inr (.inr rfl));replace hb5:=hb5.over hkz (.inr (.inr rfl));clear hkz))|((with_reducible refine qab ?_);first|refine lc hX ?_|refine lw hX aggK sizK ?_|refine lp (ds:=[_,_]) hX aggD sizD ?_)|(go_at_call 222;(have hlo:w.heap.size+2≤_:=(hX.all _ _ _ (.tail _ (.head _))).lt);(with_reducible refine (hwr _ hX.below hlo).mono ?_);rintro e' wc ⟨x,rfl,⟨y1,y2,rfl,hs5,hb5⟩,hbb⟩;clear hlo;obtain ⟨A5,c5,rfl,_⟩:=hs5.now.form;obtain ⟨A6,c6,rfl,_⟩:=hb5.now.form;replace hX:=hX.step hbb;clear hbb))
 first|exact bodyPost_ret (qa6 Tryz.results213 rfl ((hX.all _ _ _ (.head _)).loadVar rfl aggK sizK)) rfl ⟨_,_,_,rfl,⟨_,_,rfl,hs5.less (fun _ h=>.inl h),hb5.less (fun _ h=>.inl h)⟩,fun _=>⟨hmw.below hX.below,hzz.below hX.below⟩,hN.trans (hX.below.mono hN.size),fun _=>hX.below⟩|exact bodyPost_ret (qa6 Tryz.results213 rfl ((hX.all _ _ _ (.tail _ (.head _))).loadVar rfl aggK sizK)) rfl ⟨_,_,_,rfl,⟨_,_,rfl,hs5.less (fun _ h=>.inl h),hb5.less (fun _ h=>.inl h)⟩,fun _=>⟨hmw.below hX.below,hzz.below hX.below⟩,hN.trans (hX.below.mono hN.size),fun _=>hX.below⟩|exact bodyPost_ret (qa6 Tryz.results213 rfl ((hX.all _ _ _ (.tail _ (.tail _ (.head _)))).loadVar rfl aggK sizK)) rfl ⟨_,_,_,rfl,⟨_,_,rfl,hs5.less (fun _ h=>.inl h),hb5.less (fun _ h=>.inl h)⟩,fun _=>⟨hmw.below hX.below,hzz.below hX.below⟩,hN.trans (hX.below.mono hN.size),fun _=>hX.below⟩
end Go.Proofs.YthpnddgfgpacpaaGreat
