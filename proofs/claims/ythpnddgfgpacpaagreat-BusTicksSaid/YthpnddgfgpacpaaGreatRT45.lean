import Derived.Test.YthpnddgfgpacpaaGreatRT40
import Derived.Test.YthpnddgfgpacpaaGreatRT44
import Derived.Test.YthpnddgfgpacpaaGreatRT04
import Derived.Test.YthpnddgfgpacpaaGreatRT23
import Derived.Deep.CutBlock
import Derived.Test.YthpnddgfgpacpaaGreatRT22
import Derived.Test.YthpnddgfgpacpaaGreatRT12
namespace Go.Proofs.YthpnddgfgpacpaaGreat
open Go.RowKit
set_option linter.unusedSimpArgs false
set_option linter.unusedVariables false
set_option maxHeartbeats 4000000
set_option maxRecDepth 100000
attribute [local irreducible] wpQuiet
def noB (b:Nat):Prop:=False
theorem rdc (A A2:Ma) (hA:A.ok) (hR:A.right=true) (p v r:Int) (b:Bool) (h:A.read p b=(A2,v,r)):∀ (vm vb vl vs vd vt:Value) (wz:World),MaV noB wz A vm vb vl vs vd vt→Calls Tryz.prog 13 #[.agg (A.cells vm vb vl vs vd vt).toArray,.int .i64 p,.bool b] wz fun e' w'=>∃ x,e'=.returned (.tuple #[x,.int .i64 v,.int .i64 r])∧MaX noB w' x A2∧Below wz.heap.size wz w':=fun vm vb vl vs vd vt wz hV=>by
 have h1:=bpRead wz A vm vb vl vs vd vt p b noB wz (Below.refl _ _) hA hR (fun _ q=>q.elim) hV
 rw [h] at h1
 exact h1
theorem wrc (A A2:Ma) (hA:A.ok) (hR:A.right=true) (p v r:Int) (b:Bool) (h:A.write p b v=(A2,r)):∀ (vm vb vl vs vd vt:Value) (wz:World),MaV noB wz A vm vb vl vs vd vt→Calls Tryz.prog 16 #[.agg (A.cells vm vb vl vs vd vt).toArray,.int .i64 p,.bool b,.int .i64 v] wz fun e' w'=>∃ x,e'=.returned (.tuple #[x,.int .i64 r])∧MaX noB w' x A2∧Below wz.heap.size wz w':=fun vm vb vl vs vd vt wz hV=>by
 have h1:=bpWrite wz A vm vb vl vs vd vt p b v noB wz (Below.refl _ _) hA hR (fun _ q=>q.elim) hV
 rw [h] at h1
 exact h1
def ma0e:Ma:={ma0 with k:={ma0.k with e:=true}}
def mac:Ma:={ma0 with k:={ma0.k with e:=true,r:=true}}
theorem qlu:mac.ok:=qcj
theorem mac1 (vm vb vl vs vd vt:Value):(ma0.cells vm vb vl vs vd vt).set 79 (.bool true)=ma0e.cells vm vb vl vs vd vt:=by kernel_rfl
theorem mac2 (vm vb vl vs vd vt:Value):(ma0e.cells vm vb vl vs vd vt).set 80 (.bool true)=mac.cells vm vb vl vs vd vt:=by kernel_rfl
theorem qk3:mac.right=true:=by decide+kernel
theorem ex1:(ma0.write 10 false 4660)=((ma0.write 10 false 4660).1,0):=Prod.ext rfl (by decide+kernel)
theorem ex2:((ma0.write 10 false 4660).1.read 11 true)=(((ma0.write 10 false 4660).1.read 11 true).1,18,0):=Prod.ext rfl (Prod.ext (by decide+kernel) (by decide+kernel))
theorem ex3:(ma0.read 256 false)=((ma0.read 256 false).1,0,1):=Prod.ext rfl (Prod.ext (by decide+kernel) (by decide+kernel))
theorem ex4:(ma0.read 11 false)=((ma0.read 11 false).1,0,1):=Prod.ext rfl (Prod.ext (by decide+kernel) (by decide+kernel))
theorem ex5:(mac.read 254208 false)=((mac.read 254208 false).1,192,0):=Prod.ext rfl (Prod.ext (by decide+kernel) (by decide+kernel))
theorem ex6:(mac.read 254209 true)=((mac.read 254209 true).1,0,0):=Prod.ext rfl (Prod.ext (by decide+kernel) (by decide+kernel))
theorem ex7:(ma0.write 254208 true 64)=((ma0.write 254208 true 64).1,0):=Prod.ext rfl (by decide+kernel)
theorem ex8:(ma0.write 254209 true 64)=((ma0.write 254209 true 64).1,1):=Prod.ext rfl (by decide+kernel)
theorem ex9:(ma0.write 254208 true 64).1.k.e=true:=by decide+kernel
theorem get79 {A:Ma} (hA:A.ok) (e:A.k.e=true) (vm vb vl vs vd vt:Value):(A.cells vm vb vl vs vd vt)[79]? = some (.bool true):=by rw [← e];exact qgw (Ma.len hA vs vd vt) 0 _ rfl
theorem Bag.top {a:Nat×TypeId×List Value} {l:List (Nat×TypeId×List Value)} {w0 w:World} (h:Bag (a :: l) w0 w):Bag [a] w0 w:=h.sub (.cons_cons _ (List.nil_sublist _))
theorem qfs (w:World):Calls Tryz.prog 9 #[] w fun e' w'=>e'=.returned (.bool true)∧Below w.heap.size w w':=by
 have hnew:=fun wz=>qq5 wz noB (fun _ q=>q.elim)
 obtain ⟨A1,hA1⟩:∃ A1,(ma0.write 10 false 4660).1=A1:=⟨_,rfl⟩
 have e1:=ex1
 have e2:=ex2
 rw [hA1] at e1 e2
 have okx:A1.ok:=hA1▸Ma.write_ok qcj _ _ _
 have rx:A1.right=true:=hA1▸Ma.write_right qcj qeg _ _ _
 have h1:=wrc ma0 _ qcj qeg _ _ _ _ e1
 have h2:=rdc A1 _ okx rx _ _ _ _ e2
 have ok2:=Ma.read_ok okx 11 true
 generalize (A1.read 11 true).1=A2 at h2 ok2
 have h3:=rdc ma0 _ qcj qeg _ _ _ _ ex3
 have ok3:=Ma.read_ok qcj 256 false
 generalize (ma0.read 256 false).1=A3 at h3 ok3
 have h4:=rdc ma0 _ qcj qeg _ _ _ _ ex4
 have ok4:=Ma.read_ok qcj 11 false
 generalize (ma0.read 11 false).1=A4 at h4 ok4
 have h5:=rdc mac _ qlu qk3 _ _ _ _ ex5
 have ok5:=Ma.read_ok qlu 254208 false
 generalize (mac.read 254208 false).1=A5 at h5 ok5
 have h6:=rdc mac _ qlu qk3 _ _ _ _ ex6
 have ok6:=Ma.read_ok qlu 254209 true
 generalize (mac.read 254209 true).1=A6 at h6 ok6
 have h7:=wrc ma0 _ qcj qeg _ _ _ _ ex7
 have ok7:=Ma.write_ok qcj 254208 64 true
 have e7:=ex9
 generalize (ma0.write 254208 true 64).1=A7 at h7 ok7 e7
 have h8:=wrc ma0 _ qcj qeg _ _ _ _ ex8
 have ok8:=Ma.write_ok qcj 254209 64 true
 generalize (ma0.write 254209 true 64).1=A8 at h8 ok8
 clear e1 e2 rx hA1
 go_enter Tryz.func9,Tryz.ntmps9
 go_wp2_with (first|(go_at_call 27;(with_reducible refine (hnew _).mono ?_);rintro e' w1 ⟨x,rfl,⟨um,ub,ul,us,ud,ut,rfl,r1,r2,r3,r4,r5,r6⟩,hbb⟩;have hV0:MaV noB w1 ma0 um ub ul us ud ut:=⟨r1,r2,r3,r4,r5,r6⟩;have hX0:=(Bag.nil w).step hbb;clear hbb r1 r2 r3 r4 r5 r6)|((with_reducible refine qbs ?_);refine qba rfl rfl ?_)|((with_reducible refine qa9 44 ?_);refine stn hX0 aggM sizM (hV0.cone qcj) ?_ (hn:=Ma.clen qcj) (hm:=qcr);intro w2 hY hbb;have hXm:=hY;replace hV0:=hV0.below hbb;clear hX0 hY hbb)|((with_reducible refine qa9 44 ?_);refine stn hXm aggM sizM (hVr.cone hokr) ?_ (hn:=Ma.clen hokr) (hm:=qcr);intro w3 hY hbb;have hXr:=Bag.top hY;replace hXm:=hXm.step hbb;(try replace hXx:=hXx.step hbb);(try replace hXc:=hXc.step hbb);(try replace hXy:=hXy.step hbb);replace hV0:=hV0.below hbb;(try replace hV1:=hV1.below hbb);(try replace hVc:=hVc.below hbb);clear hY hbb hVr hokr)|((with_reducible refine qay 44 ?_);first|refine ldw (hn:=Ma.clen qcj) hXm aggM sizM ?_|refine ldw (hn:=Ma.clen okx) hXr aggM sizM ?_|refine ldw (hn:=Ma.clen qlu) hXc aggM sizM ?_)|((with_reducible refine qa9 44 ?_);refine stn hXm aggM sizM (hV0.cone qcj) ?_ (hn:=Ma.clen qcj) (hm:=qcr);intro w4 hY hbb;have hXcm:=hY;have hVd:=hV0.weak hbb (Y:=fun b=>b=w3.heap.size) (fun b h e=>by omega);clear hV0;have hV0:=hVd;clear hY hbb hVd hXm)|((with_reducible refine qa9 4 ?_);refine stk1 hXcm qbo (mac1 _ _ _ _ _ _) (by rw [Ma.clen qcj];decide) rfl ?_;intro w5 hY hkS;replace hXcm:=hY;replace hV0:=hV0.over hkS rfl;clear hY hkS)|((with_reducible refine qa9 4 ?_);refine stk1 hXcm qbo (mac2 _ _ _ _ _ _) (by rw [Ma.clen (A:=ma0e) qcj];decide) rfl ?_;intro w6 hY hkS;have hXc:=Bag.top hY;have hXm:=hY.drop1;have hVd:=(hV0.over hkS rfl).less (Y:=noB) (fun _ q=>q.elim);clear hV0;have hV0:=hVd;have hVc:MaV noB w6 mac um ub ul us ud ut:=⟨hV0.m,hV0.b,hV0.l,hV0.s,hV0.d,hV0.t⟩;clear hY hkS hVd hXcm)|((with_reducible refine qay 4 ?_);refine ldc (hk:=e79) hXy qbl ?_)|(go_at_call 16;have hcc:=h1 _ _ _ _ _ _ _ hV0;(with_reducible refine hcc.mono ?_);clear hcc;rintro e' wr ⟨x,rfl,⟨rm,rb,rl,rs,rd,rt,rfl,r1,r2,r3,r4,r5,r6⟩,hbb⟩;replace hXm:=hXm.step hbb;(try replace hXx:=hXx.step hbb);(try replace hXc:=hXc.step hbb);(try replace hXy:=hXy.step hbb);replace hV0:=hV0.below hbb;(try replace hV1:=hV1.below hbb);(try replace hVc:=hVc.below hbb);have hV1:MaV noB wr _ rm rb rl rs rd rt:=⟨r1,r2,r3,r4,r5,r6⟩;have hVr:=hV1;have hokr:=okx;clear hbb r1 r2 r3 r4 r5 r6)|(go_at_call 13;have hcc:=h2 _ _ _ _ _ _ _ hV1;(with_reducible refine hcc.mono ?_);clear hcc;rintro e' wr ⟨x,rfl,⟨rm,rb,rl,rs,rd,rt,rfl,r1,r2,r3,r4,r5,r6⟩,hbb⟩;replace hXm:=hXm.step hbb;(try replace hXx:=hXx.step hbb);(try replace hXc:=hXc.step hbb);(try replace hXy:=hXy.step hbb);replace hV0:=hV0.below hbb;(try replace hV1:=hV1.below hbb);(try replace hVc:=hVc.below hbb);have hVs:MaV noB wr _ rm rb rl rs rd rt:=⟨r1,r2,r3,r4,r5,r6⟩;have hVr:=hVs;have hokr:=ok2;clear hbb r1 r2 r3 r4 r5 r6)|(go_at_call 13;have hcc:=h3 _ _ _ _ _ _ _ hV0;(with_reducible refine hcc.mono ?_);clear hcc;rintro e' wr ⟨x,rfl,⟨rm,rb,rl,rs,rd,rt,rfl,r1,r2,r3,r4,r5,r6⟩,hbb⟩;replace hXm:=hXm.step hbb;(try replace hXx:=hXx.step hbb);(try replace hXc:=hXc.step hbb);(try replace hXy:=hXy.step hbb);replace hV0:=hV0.below hbb;(try replace hV1:=hV1.below hbb);(try replace hVc:=hVc.below hbb);have hVs:MaV noB wr _ rm rb rl rs rd rt:=⟨r1,r2,r3,r4,r5,r6⟩;have hVr:=hVs;have hokr:=ok3;clear hbb r1 r2 r3 r4 r5 r6)|(go_at_call 13;have hcc:=h4 _ _ _ _ _ _ _ hV0;(with_reducible refine hcc.mono ?_);clear hcc;rintro e' wr ⟨x,rfl,⟨rm,rb,rl,rs,rd,rt,rfl,r1,r2,r3,r4,r5,r6⟩,hbb⟩;replace hXm:=hXm.step hbb;(try replace hXx:=hXx.step hbb);(try replace hXc:=hXc.step hbb);(try replace hXy:=hXy.step hbb);replace hV0:=hV0.below hbb;(try replace hV1:=hV1.below hbb);(try replace hVc:=hVc.below hbb);have hVs:MaV noB wr _ rm rb rl rs rd rt:=⟨r1,r2,r3,r4,r5,r6⟩;have hVr:=hVs;have hokr:=ok4;clear hbb r1 r2 r3 r4 r5 r6)|(go_at_call 13;have hcc:=h5 _ _ _ _ _ _ _ hVc;(with_reducible refine hcc.mono ?_);clear hcc;rintro e' wr ⟨x,rfl,⟨rm,rb,rl,rs,rd,rt,rfl,r1,r2,r3,r4,r5,r6⟩,hbb⟩;replace hXm:=hXm.step hbb;(try replace hXx:=hXx.step hbb);(try replace hXc:=hXc.step hbb);(try replace hXy:=hXy.step hbb);replace hV0:=hV0.below hbb;(try replace hV1:=hV1.below hbb);(try replace hVc:=hVc.below hbb);have hVs:MaV noB wr _ rm rb rl rs rd rt:=⟨r1,r2,r3,r4,r5,r6⟩;have hVr:=hVs;have hokr:=ok5;clear hbb r1 r2 r3 r4 r5 r6)|(go_at_call 13;have hcc:=h6 _ _ _ _ _ _ _ hVc;(with_reducible refine hcc.mono ?_);clear hcc;rintro e' wr ⟨x,rfl,⟨rm,rb,rl,rs,rd,rt,rfl,r1,r2,r3,r4,r5,r6⟩,hbb⟩;replace hXm:=hXm.step hbb;(try replace hXx:=hXx.step hbb);(try replace hXc:=hXc.step hbb);(try replace hXy:=hXy.step hbb);replace hV0:=hV0.below hbb;(try replace hV1:=hV1.below hbb);(try replace hVc:=hVc.below hbb);have hVs:MaV noB wr _ rm rb rl rs rd rt:=⟨r1,r2,r3,r4,r5,r6⟩;have hVr:=hVs;have hokr:=ok6;clear hbb r1 r2 r3 r4 r5 r6)|(go_at_call 16;have hcc:=h7 _ _ _ _ _ _ _ hV0;(with_reducible refine hcc.mono ?_);clear hcc;rintro e' wr ⟨x,rfl,⟨rm,rb,rl,rs,rd,rt,rfl,r1,r2,r3,r4,r5,r6⟩,hbb⟩;replace hXm:=hXm.step hbb;(try replace hXx:=hXx.step hbb);(try replace hXc:=hXc.step hbb);(try replace hXy:=hXy.step hbb);replace hV0:=hV0.below hbb;(try replace hV1:=hV1.below hbb);(try replace hVc:=hVc.below hbb);have hVs:MaV noB wr _ rm rb rl rs rd rt:=⟨r1,r2,r3,r4,r5,r6⟩;have hVr:=hVs;have hokr:=ok7;clear hbb r1 r2 r3 r4 r5 r6)|(go_at_call 16;have hcc:=h8 _ _ _ _ _ _ _ hV0;(with_reducible refine hcc.mono ?_);clear hcc;have hXy:=hXr;have e79:=get79 ok7 e7 rm rb rl rs rd rt;rintro e' wr ⟨x,rfl,⟨rm,rb,rl,rs,rd,rt,rfl,r1,r2,r3,r4,r5,r6⟩,hbb⟩;replace hXm:=hXm.step hbb;(try replace hXx:=hXx.step hbb);(try replace hXc:=hXc.step hbb);(try replace hXy:=hXy.step hbb);replace hV0:=hV0.below hbb;(try replace hV1:=hV1.below hbb);(try replace hVc:=hVc.below hbb);have hVs:MaV noB wr _ rm rb rl rs rd rt:=⟨r1,r2,r3,r4,r5,r6⟩;have hVr:=hVs;have hokr:=ok8;clear hbb r1 r2 r3 r4 r5 r6))
 exact bodyPost_ret (results_tmp (by rfl) _ _ _) rfl ⟨rfl,hXm.below⟩
def Ma.little (A:Ma):Prop:=A.M.length≤2048∧A.B.length≤64∧A.L.length≤8∧A.K.D.S.length≤256∧A.K.D.B.length≤256∧A.T.R.length≤70
def SmallS (A:Ma) (w:World) (e':Ending) (w':World):Prop:=∃ b,e'=.returned (.bool b)∧(b=true→A.little)∧Below w.heap.size w w'
theorem lns_out {w:World} {v:Value} {l:List Ln} (h:Lns w v l):∃ A c,v=.slice A l.length c∧l.length≤c∧∀ (k:Nat) x,l[k]? = some x→∃ a:Addr,A=some a∧∀ w',Below w.heap.size w w'→(Instr.loadAt 9 (.pointer (some ((a.add (k*9)).add 8)))).run Tryz.prog w'=.ok (.string x.s) w':=by
 have h0:=h
 obtain ⟨⟨A,c,rfl,hk,_⟩,_⟩:=h
 refine ⟨A,c,rfl,hk,fun k x hx=>?_⟩
 have h1:=qfo (g:=lnL) (s:=9) (fun _=>rfl) l k x hx 8 (.string x.s) rfl
 obtain ⟨a,rfl⟩:=Rz.addr h0 h1
 exact ⟨a,rfl,fun w' hb=>by rw [qju];exact Rz.load (Rz.below h0 hb) qd7 h1⟩
theorem qrp (A:Ma) (hA:A.ok) (vm vb vl vs vd vt:Value) (w:World) (hN:MaNow w A vm vb vl vs vd vt):Calls Tryz.prog 10 #[.agg (A.cells vm vb vl vs vd vt).toArray] w (SmallS A w):=by
 obtain ⟨Am,cm,rfl,_,_⟩:=hN.m.form
 obtain ⟨Ab,cb,rfl,_,_⟩:=hN.b.form
 obtain ⟨Al,cl,rfl,_,hcl⟩:=lns_out hN.l
 obtain ⟨As,cs,rfl,_,hcs⟩:=hN.s.form
 obtain ⟨Ad,cd,rfl,_,_⟩:=hN.d.form
 obtain ⟨At,ct,rfl,_,hct⟩:=hN.t.form
 have hL:=Ma.len hA (.slice As A.K.D.S.length cs) (.slice Ad A.K.D.B.length cd) (.slice At A.T.R.length ct)
 have hX:=(Bag.nil w).new 44 (A.cells (.slice Am A.M.length cm) (.slice Ab A.B.length cb) (.slice Al A.L.length cl) (.slice As A.K.D.S.length cs) (.slice Ad A.K.D.B.length cd) (.slice At A.T.R.length ct))
 clear hN
 go_enter Tryz.func10,Tryz.ntmps10
 go_upto_block 0 with fail
 go_cut [3,4] from 7 to 30 (fun s i wx=>∃ n k:Int,s=.int .i64 n∧i=.int .i64 k∧Bag [(w.heap.size,44,A.cells (.slice Am A.M.length cm) (.slice Ab A.B.length cb) (.slice Al A.L.length cl) (.slice As A.K.D.S.length cs) (.slice Ad A.K.D.B.length cd) (.slice At A.T.R.length ct))] w wx)
 case first =>
  go_wp2_with fail
  go_loopw [3,4] (fun s iv wr=>∃ (n:Int) (i:Nat),s=.int .i64 n∧i≤300∧iv=.int .i64 i∧Bag [(w.heap.size,44,A.cells (.slice Am A.M.length cm) (.slice Ab A.B.length cb) (.slice Al A.L.length cl) (.slice As A.K.D.S.length cs) (.slice Ad A.K.D.B.length cd) (.slice At A.T.R.length ct))] w wr) (fun _ iv _=>match iv with|.int _ q=>300 - q.toNat|_=>0)
  case atStart=>exact ⟨0,0,rfl,by omega,rfl,hX⟩
  case round =>
   clear hX
   obtain ⟨n,i,rfl,hi,rfl,hX⟩:=hrel
   by_cases h1:i<A.K.D.S.length
   ·have hii:(i:Int)<(A.K.D.S.length:Int):=by omega
    by_cases h2:i<300
    ·have h2i:(i:Int)<300:=by omega
     have hx:=List.getElem?_eq_getElem h1
     generalize A.K.D.S[i]=x at *
     obtain ⟨a,rfl,hLd⟩:=hcs i x hx
     clear hx
     go_wp2_with (first|((with_reducible refine qab ?_);refine ldc (v:=.slice _ A.K.D.S.length cs) hX qau ?_ (hk:=qci hL 0 _ rfl))|((with_reducible refine qay 9 ?_);refine qa4 rfl 9 _ _ _ rfl rfl (hLd _ hX.below) ?_))
     exact ⟨⟨_,i+1,rfl,by omega,by go_num,hX⟩,by simp only;omega⟩
    ·have h2i:¬ (i:Int)<300:=by omega
     go_wp2_with (first|((with_reducible refine qab ?_);refine ldc (v:=.slice _ A.K.D.S.length cs) hX qau ?_ (hk:=qci hL 0 _ rfl)))
     go_meet
     exact ⟨_,_,rfl,rfl,hX⟩
   ·have hii:¬ (i:Int)<(A.K.D.S.length:Int):=by omega
    go_wp2_with (first|((with_reducible refine qab ?_);refine ldc (v:=.slice _ A.K.D.S.length cs) hX qau ?_ (hk:=qci hL 0 _ rfl)))
    go_meet
    exact ⟨_,_,rfl,rfl,hX⟩
 case rest =>
 clear hX
 obtain ⟨n0,k0,rfl,rfl,hX⟩:=hcut
 go_upto_block 2 with fail
 go_cut [3,5] from 31 to 52 (fun s i wx=>∃ n k:Int,s=.int .i64 n∧i=.int .i64 k∧Bag [(w.heap.size,44,A.cells (.slice Am A.M.length cm) (.slice Ab A.B.length cb) (.slice Al A.L.length cl) (.slice As A.K.D.S.length cs) (.slice Ad A.K.D.B.length cd) (.slice At A.T.R.length ct))] w wx)
 case first =>
  go_wp2_with fail
  go_loopw [3,5] (fun s iv wr=>∃ (n:Int) (i:Nat),s=.int .i64 n∧i≤300∧iv=.int .i64 i∧Bag [(w.heap.size,44,A.cells (.slice Am A.M.length cm) (.slice Ab A.B.length cb) (.slice Al A.L.length cl) (.slice As A.K.D.S.length cs) (.slice Ad A.K.D.B.length cd) (.slice At A.T.R.length ct))] w wr) (fun _ iv _=>match iv with|.int _ q=>300 - q.toNat|_=>0)
  case atStart=>exact ⟨n0,0,rfl,by omega,rfl,hX⟩
  case round =>
   clear hX
   obtain ⟨n,i,rfl,hi,rfl,hX⟩:=hrel
   by_cases h1:i<A.T.R.length
   ·have hii:(i:Int)<(A.T.R.length:Int):=by omega
    by_cases h2:i<300
    ·have h2i:(i:Int)<300:=by omega
     have hx:=List.getElem?_eq_getElem h1
     generalize A.T.R[i]=x at *
     obtain ⟨a,rfl,hLd⟩:=hct i x hx
     clear hx
     go_wp2_with (first|((with_reducible refine qab ?_);refine ldc (v:=.slice _ A.T.R.length ct) hX qau ?_ (hk:=qc6 hL 0 _ rfl))|((with_reducible refine qay 9 ?_);refine qa4 rfl 9 _ _ _ rfl rfl (hLd _ hX.below) ?_))
     exact ⟨⟨_,i+1,rfl,by omega,by go_num,hX⟩,by simp only;omega⟩
    ·have h2i:¬ (i:Int)<300:=by omega
     go_wp2_with (first|((with_reducible refine qab ?_);refine ldc (v:=.slice _ A.T.R.length ct) hX qau ?_ (hk:=qc6 hL 0 _ rfl)))
     go_meet
     exact ⟨_,_,rfl,rfl,hX⟩
   ·have hii:¬ (i:Int)<(A.T.R.length:Int):=by omega
    go_wp2_with (first|((with_reducible refine qab ?_);refine ldc (v:=.slice _ A.T.R.length ct) hX qau ?_ (hk:=qc6 hL 0 _ rfl)))
    go_meet
    exact ⟨_,_,rfl,rfl,hX⟩
 case rest =>
 clear hX
 obtain ⟨n2,k2,rfl,rfl,hX⟩:=hcut
 go_upto_block 4 with fail
 go_cut [3,6] from 53 to 73 (fun s i wx=>∃ n k:Int,s=.int .i64 n∧i=.int .i64 k∧Bag [(w.heap.size,44,A.cells (.slice Am A.M.length cm) (.slice Ab A.B.length cb) (.slice Al A.L.length cl) (.slice As A.K.D.S.length cs) (.slice Ad A.K.D.B.length cd) (.slice At A.T.R.length ct))] w wx)
 case first =>
  go_wp2_with fail
  go_loopw [3,6] (fun s iv wr=>∃ (n:Int) (i:Nat),s=.int .i64 n∧i≤9∧iv=.int .i64 i∧Bag [(w.heap.size,44,A.cells (.slice Am A.M.length cm) (.slice Ab A.B.length cb) (.slice Al A.L.length cl) (.slice As A.K.D.S.length cs) (.slice Ad A.K.D.B.length cd) (.slice At A.T.R.length ct))] w wr) (fun _ iv _=>match iv with|.int _ q=>9 - q.toNat|_=>0)
  case atStart=>exact ⟨n2,0,rfl,by omega,rfl,hX⟩
  case round =>
   clear hX
   obtain ⟨n,i,rfl,hi,rfl,hX⟩:=hrel
   by_cases h1:i<A.L.length
   ·have hii:(i:Int)<(A.L.length:Int):=by omega
    by_cases h2:i<9
    ·have h2i:(i:Int)<9:=by omega
     have hx:=List.getElem?_eq_getElem h1
     generalize A.L[i]=x at *
     obtain ⟨a,rfl,hLd⟩:=hcl i x hx
     clear hx
     go_wp2_with (first|((with_reducible refine qab ?_);refine ldc (v:=.slice _ A.L.length cl) hX qax ?_ (hk:=qcg hL))|((with_reducible refine qay 9 ?_);refine qa4 rfl 9 _ _ _ rfl rfl (hLd _ hX.below) ?_))
     exact ⟨⟨_,i+1,rfl,by omega,by go_num,hX⟩,by simp only;omega⟩
    ·have h2i:¬ (i:Int)<9:=by omega
     go_wp2_with (first|((with_reducible refine qab ?_);refine ldc (v:=.slice _ A.L.length cl) hX qax ?_ (hk:=qcg hL)))
     go_meet
     exact ⟨_,_,rfl,rfl,hX⟩
   ·have hii:¬ (i:Int)<(A.L.length:Int):=by omega
    go_wp2_with (first|((with_reducible refine qab ?_);refine ldc (v:=.slice _ A.L.length cl) hX qax ?_ (hk:=qcg hL)))
    go_meet
    exact ⟨_,_,rfl,rfl,hX⟩
 case rest =>
 clear hX
 obtain ⟨n4,k4,rfl,rfl,hX⟩:=hcut
 clear hcl hcs hct
 by_cases c1:¬ n4≤60000
 ·have ic1:¬ n4≤60000:=by omega
  go_wp2_with (first|((with_reducible refine qab ?_);first|refine ldc (v:=.slice _ A.M.length cm) hX qap ?_ (hk:=qcx hL)|refine ldc (v:=.slice _ A.B.length cb) hX qap ?_ (hk:=qcy hL)|refine ldc (v:=.slice _ A.L.length cl) hX qax ?_ (hk:=qcg hL)|refine ldc (v:=.slice _ A.K.D.S.length cs) hX qau ?_ (hk:=qci hL 0 _ rfl)|refine ldc (v:=.slice _ A.K.D.B.length cd) hX qap ?_ (hk:=qci hL 1 _ rfl)|refine ldc (v:=.slice _ A.T.R.length ct) hX qau ?_ (hk:=qc6 hL 0 _ rfl)))
  go_ret
  exact ⟨_,rfl,fun h=>(by simp at h),hX.below⟩
 replace c1:n4≤60000:=by omega
 have ic1:n4≤60000:=by omega
 by_cases c2:¬ A.M.length≤2048
 ·have ic2:¬ (A.M.length:Int)≤2048:=by omega
  go_wp2_with (first|((with_reducible refine qab ?_);first|refine ldc (v:=.slice _ A.M.length cm) hX qap ?_ (hk:=qcx hL)|refine ldc (v:=.slice _ A.B.length cb) hX qap ?_ (hk:=qcy hL)|refine ldc (v:=.slice _ A.L.length cl) hX qax ?_ (hk:=qcg hL)|refine ldc (v:=.slice _ A.K.D.S.length cs) hX qau ?_ (hk:=qci hL 0 _ rfl)|refine ldc (v:=.slice _ A.K.D.B.length cd) hX qap ?_ (hk:=qci hL 1 _ rfl)|refine ldc (v:=.slice _ A.T.R.length ct) hX qau ?_ (hk:=qc6 hL 0 _ rfl)))
  go_ret
  exact ⟨_,rfl,fun h=>(by simp at h),hX.below⟩
 replace c2:A.M.length≤2048:=by omega
 have ic2:(A.M.length:Int)≤2048:=by omega
 by_cases c3:¬ A.B.length≤64
 ·have ic3:¬ (A.B.length:Int)≤64:=by omega
  go_wp2_with (first|((with_reducible refine qab ?_);first|refine ldc (v:=.slice _ A.M.length cm) hX qap ?_ (hk:=qcx hL)|refine ldc (v:=.slice _ A.B.length cb) hX qap ?_ (hk:=qcy hL)|refine ldc (v:=.slice _ A.L.length cl) hX qax ?_ (hk:=qcg hL)|refine ldc (v:=.slice _ A.K.D.S.length cs) hX qau ?_ (hk:=qci hL 0 _ rfl)|refine ldc (v:=.slice _ A.K.D.B.length cd) hX qap ?_ (hk:=qci hL 1 _ rfl)|refine ldc (v:=.slice _ A.T.R.length ct) hX qau ?_ (hk:=qc6 hL 0 _ rfl)))
  go_ret
  exact ⟨_,rfl,fun h=>(by simp at h),hX.below⟩
 replace c3:A.B.length≤64:=by omega
 have ic3:(A.B.length:Int)≤64:=by omega
 by_cases c4:¬ A.L.length≤8
 ·have ic4:¬ (A.L.length:Int)≤8:=by omega
  go_wp2_with (first|((with_reducible refine qab ?_);first|refine ldc (v:=.slice _ A.M.length cm) hX qap ?_ (hk:=qcx hL)|refine ldc (v:=.slice _ A.B.length cb) hX qap ?_ (hk:=qcy hL)|refine ldc (v:=.slice _ A.L.length cl) hX qax ?_ (hk:=qcg hL)|refine ldc (v:=.slice _ A.K.D.S.length cs) hX qau ?_ (hk:=qci hL 0 _ rfl)|refine ldc (v:=.slice _ A.K.D.B.length cd) hX qap ?_ (hk:=qci hL 1 _ rfl)|refine ldc (v:=.slice _ A.T.R.length ct) hX qau ?_ (hk:=qc6 hL 0 _ rfl)))
  go_ret
  exact ⟨_,rfl,fun h=>(by simp at h),hX.below⟩
 replace c4:A.L.length≤8:=by omega
 have ic4:(A.L.length:Int)≤8:=by omega
 by_cases c5:¬ A.K.D.S.length≤256
 ·have ic5:¬ (A.K.D.S.length:Int)≤256:=by omega
  go_wp2_with (first|((with_reducible refine qab ?_);first|refine ldc (v:=.slice _ A.M.length cm) hX qap ?_ (hk:=qcx hL)|refine ldc (v:=.slice _ A.B.length cb) hX qap ?_ (hk:=qcy hL)|refine ldc (v:=.slice _ A.L.length cl) hX qax ?_ (hk:=qcg hL)|refine ldc (v:=.slice _ A.K.D.S.length cs) hX qau ?_ (hk:=qci hL 0 _ rfl)|refine ldc (v:=.slice _ A.K.D.B.length cd) hX qap ?_ (hk:=qci hL 1 _ rfl)|refine ldc (v:=.slice _ A.T.R.length ct) hX qau ?_ (hk:=qc6 hL 0 _ rfl)))
  go_ret
  exact ⟨_,rfl,fun h=>(by simp at h),hX.below⟩
 replace c5:A.K.D.S.length≤256:=by omega
 have ic5:(A.K.D.S.length:Int)≤256:=by omega
 by_cases c6:¬ A.K.D.B.length≤256
 ·have ic6:¬ (A.K.D.B.length:Int)≤256:=by omega
  go_wp2_with (first|((with_reducible refine qab ?_);first|refine ldc (v:=.slice _ A.M.length cm) hX qap ?_ (hk:=qcx hL)|refine ldc (v:=.slice _ A.B.length cb) hX qap ?_ (hk:=qcy hL)|refine ldc (v:=.slice _ A.L.length cl) hX qax ?_ (hk:=qcg hL)|refine ldc (v:=.slice _ A.K.D.S.length cs) hX qau ?_ (hk:=qci hL 0 _ rfl)|refine ldc (v:=.slice _ A.K.D.B.length cd) hX qap ?_ (hk:=qci hL 1 _ rfl)|refine ldc (v:=.slice _ A.T.R.length ct) hX qau ?_ (hk:=qc6 hL 0 _ rfl)))
  go_ret
  exact ⟨_,rfl,fun h=>(by simp at h),hX.below⟩
 replace c6:A.K.D.B.length≤256:=by omega
 have ic6:(A.K.D.B.length:Int)≤256:=by omega
 by_cases c7:¬ A.T.R.length≤70
 ·have ic7:¬ (A.T.R.length:Int)≤70:=by omega
  go_wp2_with (first|((with_reducible refine qab ?_);first|refine ldc (v:=.slice _ A.M.length cm) hX qap ?_ (hk:=qcx hL)|refine ldc (v:=.slice _ A.B.length cb) hX qap ?_ (hk:=qcy hL)|refine ldc (v:=.slice _ A.L.length cl) hX qax ?_ (hk:=qcg hL)|refine ldc (v:=.slice _ A.K.D.S.length cs) hX qau ?_ (hk:=qci hL 0 _ rfl)|refine ldc (v:=.slice _ A.K.D.B.length cd) hX qap ?_ (hk:=qci hL 1 _ rfl)|refine ldc (v:=.slice _ A.T.R.length ct) hX qau ?_ (hk:=qc6 hL 0 _ rfl)))
  go_ret
  exact ⟨_,rfl,fun h=>(by simp at h),hX.below⟩
 replace c7:A.T.R.length≤70:=by omega
 have ic7:(A.T.R.length:Int)≤70:=by omega
 go_wp2_with (first|((with_reducible refine qab ?_);first|refine ldc (v:=.slice _ A.M.length cm) hX qap ?_ (hk:=qcx hL)|refine ldc (v:=.slice _ A.B.length cb) hX qap ?_ (hk:=qcy hL)|refine ldc (v:=.slice _ A.L.length cl) hX qax ?_ (hk:=qcg hL)|refine ldc (v:=.slice _ A.K.D.S.length cs) hX qau ?_ (hk:=qci hL 0 _ rfl)|refine ldc (v:=.slice _ A.K.D.B.length cd) hX qap ?_ (hk:=qci hL 1 _ rfl)|refine ldc (v:=.slice _ A.T.R.length ct) hX qau ?_ (hk:=qc6 hL 0 _ rfl)))
 go_ret
 exact ⟨_,rfl,fun _=>⟨c2,c3,c4,c5,c6,c7⟩,hX.below⟩
theorem MaNow.sv18 {w:World} {A:Ma} {vm vb vl vs vd vt:Value} (h:MaNow w A vm vb vl vs vd vt):MaV noB w A vm vb vl vs vd vt:=⟨Rz.sv h.m,Rz.sv h.b,Rz.sv h.l,Rz.sv h.s,Rz.sv h.d,Rz.sv h.t⟩
theorem Ma.little_few {A:Ma} (h:A.little):A.few:=by
 obtain ⟨h1,h2,h3,h4,h5,h6⟩:=h
 exact ⟨by omega,by omega,by omega,by omega,by omega⟩
theorem Ma.right_small {A:Ma} (h:A.right=true):A.small:=by
 have f:=qgg h
 exact ⟨f.2.1,f.2.2,f.1.1,f.1.2.1,f.1.2.2.1,f.1.2.2.2⟩
theorem Ma.right_few {A:Ma} (h:A.right=true):A.few:=by
 have f:=qgg h
 exact ⟨f.2.1,f.2.2,f.1.2.1,f.1.2.2.1,f.1.2.2.2⟩
def tkA (A:Ma):Nat→Ma
 | 0=>A
 | k+1=>(tkA A k).tick
theorem qj5 {A:Ma} (hA:A.ok) (hR:A.right=true):∀ k,(tkA A k).ok∧(tkA A k).right=true∧(tkA A k).C=A.C
 | 0=>⟨hA,hR,rfl⟩
 | k+1=>by
   obtain ⟨h1,h2,h3⟩:=qj5 hA hR k
   exact ⟨Ma.tick_ok h1,Ma.tick_right h2,h3⟩
theorem qku (A:Ma) (hA:A.ok) (c:List Int) (hc:A.C=c.map (Value.int .i64)) (hc10:c.length=10) (vm vb vl vs vd vt:Value) (w:World) (hN:MaNow w A vm vb vl vs vd vt) (p:Int):Calls Tryz.prog 6 #[.agg (A.cells vm vb vl vs vd vt).toArray,.int .i64 p] w fun e' w'=>e'=.returned (.bool true)∧Below w.heap.size w w':=by
 have hV:=hN.sv18
 have hsm:=fun wz (hb:Below w.heap.size w wz)=>qrp A hA vm vb vl vs vd vt wz (hN.step hb)
 have hrr:=fun wz (hb:Below w.heap.size w wz) (hl:A.little)=>qna A hA (Ma.little_few hl) vm vb vl vs vd vt wz (hN.step hb)
 have hXm:=(Bag.nil w).new 44 (A.cells vm vb vl vs vd vt)
 cases hR:A.right
 ·rw [hR] at hrr
  go_enter Tryz.func6,Tryz.ntmps6
  go_upto_region 1 with fail
  replace hV:=hV.below hXm.below
  generalize (w.alloc (Obj.cells (A.cells vm vb vl vs vd vt).toArray 44))=wQ at hXm hV ⊢
  go_wp2_with (first|((with_reducible refine qay 44 ?_);refine ldw (hn:=Ma.clen hA) hXm aggM sizM ?_)|(go_at_call 10;(with_reducible refine (hsm _ hXm.below).mono ?_);rintro e' wr ⟨bb,rfl,hlt,hbb⟩;(try replace hXm:=hXm.step hbb);(try replace hXx:=hXx.step hbb);(try replace hXy:=hXy.step hbb);(try replace hV:=hV.below hbb);(try replace hVx:=hVx.below hbb);(try replace hVy:=hVy.below hbb);clear hbb;cases bb)|(go_at_call 12;have hcc:=hrr _ hXm.below (hlt (by first|exact rfl|trivial));(with_reducible refine hcc.mono ?_);clear hcc;rintro e' wr ⟨rfl,hbb⟩;(try replace hXm:=hXm.step hbb);(try replace hXx:=hXx.step hbb);(try replace hXy:=hXy.step hbb);(try replace hV:=hV.below hbb);(try replace hVx:=hVx.below hbb);(try replace hVy:=hVy.below hbb);clear hbb)|(go_at_call 9;(with_reducible refine (qfs _).mono ?_);rintro e' wr ⟨rfl,hbb⟩;(try replace hXm:=hXm.step hbb);(try replace hXx:=hXx.step hbb);(try replace hXy:=hXy.step hbb);(try replace hV:=hV.below hbb);(try replace hVx:=hVx.below hbb);(try replace hVy:=hVy.below hbb);clear hbb))
  all_goals exact bodyPost_ret (results_tmp (by rfl) _ _ _) rfl ⟨rfl,hXm.below⟩
 rw [hR] at hrr
 by_cases h60:60<p
 ·have h60':¬ p≤60:=by omega
  go_enter Tryz.func6,Tryz.ntmps6
  go_upto_region 1 with fail
  replace hV:=hV.below hXm.below
  generalize (w.alloc (Obj.cells (A.cells vm vb vl vs vd vt).toArray 44))=wQ at hXm hV ⊢
  go_wp2_with (first|((with_reducible refine qay 44 ?_);refine ldw (hn:=Ma.clen hA) hXm aggM sizM ?_)|(go_at_call 10;(with_reducible refine (hsm _ hXm.below).mono ?_);rintro e' wr ⟨bb,rfl,hlt,hbb⟩;(try replace hXm:=hXm.step hbb);(try replace hXx:=hXx.step hbb);(try replace hXy:=hXy.step hbb);(try replace hV:=hV.below hbb);(try replace hVx:=hVx.below hbb);(try replace hVy:=hVy.below hbb);clear hbb;cases bb)|(go_at_call 12;have hcc:=hrr _ hXm.below (hlt (by first|exact rfl|trivial));(with_reducible refine hcc.mono ?_);clear hcc;rintro e' wr ⟨rfl,hbb⟩;(try replace hXm:=hXm.step hbb);(try replace hXx:=hXx.step hbb);(try replace hXy:=hXy.step hbb);(try replace hV:=hV.below hbb);(try replace hVx:=hVx.below hbb);(try replace hVy:=hVy.below hbb);clear hbb)|(go_at_call 9;(with_reducible refine (qfs _).mono ?_);rintro e' wr ⟨rfl,hbb⟩;(try replace hXm:=hXm.step hbb);(try replace hXx:=hXx.step hbb);(try replace hXy:=hXy.step hbb);(try replace hV:=hV.below hbb);(try replace hVx:=hVx.below hbb);(try replace hVy:=hVy.below hbb);clear hbb))
  all_goals exact bodyPost_ret (results_tmp (by rfl) _ _ _) rfl ⟨rfl,hXm.below⟩
 have h60':p≤60:=by omega
 have d60:decide (60<p)=false:=decide_eq_false h60
 clear hN
 go_enter Tryz.func6,Tryz.ntmps6
 go_upto_region 1 with fail
 replace hV:=hV.weak hXm.below (Y:=fun b=>b=w.heap.size) (fun b hb q=>by omega)
 generalize (w.alloc (Obj.cells (A.cells vm vb vl vs vd vt).toArray 44))=wQ at hXm hV ⊢
 go_wp2_with (first|((with_reducible refine qay 44 ?_);refine ldw (hn:=Ma.clen hA) hXm aggM sizM ?_)|(go_at_call 10;(with_reducible refine (hsm _ hXm.below).mono ?_);rintro e' wr ⟨bb,rfl,hlt,hbb⟩;(try replace hXm:=hXm.step hbb);(try replace hXx:=hXx.step hbb);(try replace hXy:=hXy.step hbb);(try replace hV:=hV.below hbb);(try replace hVx:=hVx.below hbb);(try replace hVy:=hVy.below hbb);clear hbb;cases bb)|(go_at_call 12;have hcc:=hrr _ hXm.below (hlt (by first|exact rfl|trivial));(with_reducible refine hcc.mono ?_);clear hcc;rintro e' wr ⟨rfl,hbb⟩;(try replace hXm:=hXm.step hbb);(try replace hXx:=hXx.step hbb);(try replace hXy:=hXy.step hbb);(try replace hV:=hV.below hbb);(try replace hVx:=hVx.below hbb);(try replace hVy:=hVy.below hbb);clear hbb)|(go_at_call 9;(with_reducible refine (qfs _).mono ?_);rintro e' wr ⟨rfl,hbb⟩;(try replace hXm:=hXm.step hbb);(try replace hXx:=hXx.step hbb);(try replace hXy:=hXy.step hbb);(try replace hV:=hV.below hbb);(try replace hVx:=hVx.below hbb);(try replace hVy:=hVy.below hbb);clear hbb)|((with_reducible refine qbs ?_);refine qba rfl rfl ?_)|((with_reducible refine qa9 44 ?_);refine stn hXm aggM sizM (hV.cone hA) ?_ (hn:=Ma.clen hA) (hm:=qcr);intro w4 hY hbb;have hXp:=hY;have hVp:MaV (fun b=>b=w.heap.size∨b=wr.heap.size) w4 A vm vb vl vs vd vt:=hV.weak hbb (fun b hb q=>(by rcases q with q|q;exact q;omega));clear hY hbb))
 ·exact bodyPost_ret (results_tmp (by rfl) _ _ _) rfl ⟨rfl,hXm.below⟩
 generalize wr.heap.size=nx at *
 clear hXm hV hsm hrr
 go_loopw [6] (fun iv wz=>∃ i:Nat,i≤p.toNat∧iv=.int .i64 i∧(∃ um ub ul us ud ut ym yb yl ys yd yt,Bag [(nx,44,(tkA A i).cells um ub ul us ud ut),(w.heap.size,44,(tkA A i).cells ym yb yl ys yd yt)] w wz∧MaV (fun b=>b=w.heap.size∨b=nx) wz (tkA A i) um ub ul us ud ut∧MaV (fun b=>b=w.heap.size∨b=nx) wz (tkA A i) ym yb yl ys yd yt)) (fun iv _=>match iv with|.int _ q=>p.toNat - q.toNat|_=>0)
 case atStart=>exact ⟨0,by omega,rfl,_,_,_,_,_,_,_,_,_,_,_,_,hXp,hVp,hVp⟩
 case round =>
  clear hXp hVp
  obtain ⟨i,hi,rfl,um,ub,ul,us,ud,ut,ym,yb,yl,ys,yd,yt,hX,hVx,hVm⟩:=hrel
  obtain ⟨hk,hrk,hck0⟩:=qj5 hA hR i
  obtain ⟨hk1,hrk1,hck1⟩:=qj5 hA hR (i+1)
  have hck:=hck1.trans hc
  have hsk:=Ma.right_small hrk1
  have hfk:=Ma.right_few hrk1
  by_cases h1:(i:Int)<p
  ·have hip:i<p.toNat:=by omega
   have htk:(tkA A i).tick=tkA A (i+1):=rfl
   go_wp2_with (first|((with_reducible refine qay 44 ?_);first|refine ldw (hn:=Ma.clen hk1) hX aggM sizM ?_|refine ldw (hn:=Ma.clen hk) hX aggM sizM ?_)|(go_at_call 18;have hcc:=bpTick _ _ _ _ _ _ _ _ (fun b=>b=w.heap.size∨b=nx) _ (Below.refl _ _) hk hrk (fun b q=>by have h1:=(hX.all _ _ _ (.head _)).lt;have h2:=(hX.all _ _ _ (.tail _ (.head _))).lt;rcases q with q|q<;>omega) hVx;(with_reducible refine hcc.mono ?_);clear hcc;rintro e' wr ⟨x,rfl,⟨rm,rb,rl,rs,rd,rt,rfl,r1,r2,r3,r4,r5,r6⟩,hbb⟩;replace hX:=hX.step hbb;replace hVx:=hVx.below hbb;replace hVm:=hVm.below hbb;have hVn:MaV (fun b=>b=w.heap.size∨b=nx) wr (tkA A (i+1)) rm rb rl rs rd rt:=⟨r1,r2,r3,r4,r5,r6⟩;clear hbb r1 r2 r3 r4 r5 r6)|(go_at_call 19;have hcc:=qp1 _ hk hrk _ _ _ _ _ _ (fun b=>b=w.heap.size∨b=nx) _ (fun b q=>by have h1:=(hX.all _ _ _ (.head _)).lt;have h2:=(hX.all _ _ _ (.tail _ (.head _))).lt;rcases q with q|q<;>omega) hVm;(with_reducible refine hcc.mono ?_);clear hcc;rintro e' wr ⟨x,rfl,⟨rm,rb,rl,rs,rd,rt,rfl,r1,r2,r3,r4,r5,r6⟩,hbb⟩;replace hX:=hX.step hbb;replace hVx:=hVx.below hbb;replace hVm:=hVm.below hbb;have hVo:MaV (fun b=>b=w.heap.size∨b=nx) wr (tkA A (i+1)) rm rb rl rs rd rt:=⟨r1,r2,r3,r4,r5,r6⟩;clear hbb r1 r2 r3 r4 r5 r6)|((with_reducible refine qa9 44 ?_);refine stw hX aggM sizM (hVn.cone hk1) (hn:=Ma.clen hk1) (hc:=Ma.clen hk) ?_;intro w5 hY hkS;replace hX:=hY;replace hVm:=hVm.over hkS (.inr rfl);clear hVx;have hVx:=hVn.over hkS (.inr rfl);clear hVn hY hkS)|((with_reducible refine qa9 44 ?_);refine stw2 hX aggM sizM (hVo.cone hk1) (hn:=Ma.clen hk1) (hc:=Ma.clen hk) ?_;intro w6 hY hkS;replace hX:=hY;replace hVx:=hVx.over hkS (.inl rfl);clear hVm;have hVm:=hVo.over hkS (.inl rfl);clear hVo hY hkS)|(go_at_call 15;have hcc:=qnu hk1 hsk c hck hc10 _ hVx.now hVm.now;(with_reducible refine hcc.mono ?_);clear hcc;rintro e' wr ⟨rfl,hbb⟩;replace hX:=hX.step hbb;replace hVx:=hVx.below hbb;replace hVm:=hVm.below hbb;clear hbb)|(go_at_call 11;have hcc:=bpRight _ _ _ _ _ _ _ _ _ (Below.refl _ _) hk1 hfk hVx.now;rw [hrk1] at hcc;(with_reducible refine hcc.mono ?_);clear hcc;rintro e' wr ⟨rfl,hbb⟩;replace hX:=hX.step hbb;replace hVx:=hVx.below hbb;replace hVm:=hVm.below hbb;clear hbb))
   exact ⟨⟨i+1,by omega,by go_num,_,_,_,_,_,_,_,_,_,_,_,_,hX,hVx,hVm⟩,by simp only;omega⟩
  ·go_wp2_with (first|(go_at_call 9;with_reducible refine cst hX (qfs _) ?_;clear hX;intro wr hX))
   exact bodyPost_ret (results_tmp (by rfl) _ _ _) rfl ⟨rfl,hX.below⟩
end Go.Proofs.YthpnddgfgpacpaaGreat
