import Derived.Test.YthpnddgfgpacpaaGreatRT32
import Derived.Test.YthpnddgfgpacpaaGreatRT02
import Derived.Test.YthpnddgfgpacpaaGreatRT26
import Derived.Test.YthpnddgfgpacpaaGreatRT35
import Derived.Test.YthpnddgfgpacpaaGreatRT38
import Derived.Test.YthpnddgfgpacpaaGreatRT13
namespace Go.Proofs.YthpnddgfgpacpaaGreat
open Go.RowKit
set_option linter.unusedSimpArgs false
set_option linter.unusedVariables false
set_option maxHeartbeats 4000000
set_option maxRecDepth 100000
attribute [local irreducible] wpQuiet
theorem Kpt.one {B g:Nat} {w w':World} (h:Kpt B B w w'):Kpt B g w w':=⟨h.size,fun k hk h1 _=>h.same k hk h1 h1⟩
theorem Bag.drop1 {l:List (Nat×TypeId×List Value)} {w0 w:World} {a:Nat×TypeId×List Value} (h:Bag (a :: l) w0 w):Bag l w0 w :=
 ⟨fun B t cs hm=>h.all B t cs (List.mem_cons_of_mem _ hm),h.below,fun x hx=>h.lo x (List.mem_cons_of_mem _ hx),(List.nodup_cons.1 h.dis).2⟩
theorem DSt.dev {X:Nat→Prop} {w0 w w':World} {B g:Nat} {A A':Ma} {vm vb vl vs vd vt vm' vb' vs' vd' vt':Value} (h:DSt X w0 B g w A vm vb vl vs vd vt) (hK:Kpt B B w w') (hX:Bag [(B,44,A'.cells vm' vb' vl vs' vd' vt')] w0 w') (hl:A'.L=A.L) (hm:ItsX (XY X B g) w' vm' A'.M) (hb:ItsX (XY X B g) w' vb' A'.B) (hs:StsX (XY X B g) w' vs' A'.K.D.S) (hd:ItsX (XY X B g) w' vd' A'.K.D.B) (ht:StsX (XY X B g) w' vt' A'.T.R):DSt X w0 B g w' A' vm' vb' vl vs' vd' vt':=by
 refine ⟨hX,hm,hb,hs,hd,ht,?_,fun b q=>Nat.lt_of_lt_of_le (h.xl b q) hK.size⟩
 rw [hl]
 rcases h.row with h|⟨h1,h2,h3,c,J,h4,h5,h6⟩
 ·exact .inl h
 ·exact .inr ⟨h1,h2,Nat.lt_of_lt_of_le h3 hK.size,c,J,h4,h5,(hK.same g h3 h1 h1).trans h6⟩
theorem qua (A:Ma) (hA:A.ok) (hR:A.right=true) (vm vb vl vs vd vt:Value) (X:Nat→Prop) (w0 w:World) (B g:Nat) (hS:DSt X w0 B g w A vm vb vl vs vd vt):Calls Tryz.prog 184 #[.agg #[],.pointer (some ⟨B,0,none⟩)] w (DevS X w0 B g w (A.dTick 1) (.tuple #[])):=by
 have hL:=Ma.len hA vs vd vt
 have hX:=hS.bag.step ((Below.refl w.heap.size w).alloc (Nat.le_refl _) (.cells #[] 134))
 have hK:=(Kpt.refl B B w).step ((Below.refl w.heap.size w).alloc (Nat.le_refl _) (.cells #[] 134))
 have o1:=hS.o1
 have o2:=hS.o2
 have o4:=hS.o4
 have o5:=hS.o5
 have o6:=hS.o6
 have hc:∀ wz,Calls Tryz.prog 191 #[.agg A.k.L.toArray] wz fun e' w'=>e'=.returned (.agg (A.k.tick).L.toArray)∧Below wz.heap.size wz w':=fun wz=>qr7 A.k (Ma.parts hR).2.2.2.2.1 wz
 go_enter Tryz.func184,Tryz.ntmps184
 go_wp2_with (first|((with_reducible refine qay 34 ?_);refine ldp hX qbv qbx (qgw hL) rfl ?_)|(go_at_call 191;(with_reducible refine (hc _).mono ?_);rintro e' wc ⟨rfl,hbb⟩;replace hX:=hX.step hbb;replace hK:=hK.step hbb;clear hbb)|((with_reducible refine qa9 34 ?_);refine stp1 hX qbv qbx (Ma.put_k (A:=A) hA) rfl (by rw [Ma.clen (A:=A) hA];decide) (qot _) ?_;intro wS hY hkS;replace hK:=hK.put hkS (hY.all _ _ _ (.head _));replace hX:=hY;clear hY hkS))
 exact bodyPost_end (results_none rfl _ _ _) rfl ⟨rfl,⟨_,_,_,_,_,_,DSt.dev hS hK hX rfl (Sv.kb hS.m hK.one) (Sv.kb hS.b hK.one) (Sv.kb hS.s hK.one) (Sv.kb hS.d hK.one) (Sv.kb hS.t hK.one)⟩,hK.one⟩
theorem qq3 (A:Ma) (vm vb vl vs vd vt:Value) (X:Nat→Prop) (w0 w:World) (B g:Nat) (hS:DSt X w0 B g w A vm vb vl vs vd vt):Calls Tryz.prog 164 #[.agg #[],.pointer (some ⟨B,0,none⟩)] w (DevS X w0 B g w A (.tuple #[])):=by
 have hb:=(Below.refl w.heap.size w).alloc (Nat.le_refl _) (.cells #[] 133)
 go_enter Tryz.func164,Tryz.ntmps164
 go_wp2
 exact bodyPost_end (results_none rfl _ _ _) rfl ⟨rfl,⟨_,_,_,_,_,_,hS.step hb⟩,(Kpt.refl B g w).step hb⟩
theorem qif (A:Ma) (hA:A.ok) (hR:A.right=true) (q v:Int) (vm vb vl vs vd vt:Value) (X:Nat→Prop) (w0 w:World) (B g:Nat) (hS:DSt X w0 B g w A vm vb vl vs vd vt):Calls Tryz.prog 165 #[.agg #[],.pointer (some ⟨B,0,none⟩),.int .i64 q,.int .i64 v] w (DevS X w0 B g w (A.dWrite q v 0).1 (.bool (A.dWrite q v 0).2)):=by
 have hL:=Ma.len hA vs vd vt
 have hX:=hS.bag.step ((Below.refl w.heap.size w).alloc (Nat.le_refl _) (.cells #[] 133))
 have hK:=(Kpt.refl B B w).step ((Below.refl w.heap.size w).alloc (Nat.le_refl _) (.cells #[] 133))
 have o1:=hS.o1
 have o2:=hS.o2
 have o4:=hS.o4
 have o5:=hS.o5
 have o6:=hS.o6
 have hz:=qec
 have hu2:=qoc hA.2.2 q v
 have hc:∀ wz,w.heap.size≤wz.heap.size→Kpt B B w wz→Calls Tryz.prog 169 #[.agg A.U.L.toArray,.int .i64 q,.int .i64 v] wz fun e' w'=>e'=.returned (.tuple #[.agg (A.U.write q v).1.L.toArray,.bool (A.U.write q v).2])∧Below wz.heap.size wz w':=fun wz _ _=>qmx A.U hA.2.2 q v wz
 have e:A.dWrite q v 0=(if (A.U.write q v).2=true then ({A with U:=(A.U.write q v).1},true) else (A,false)):=rfl
 rw [e]
 clear e
 by_cases hw:(A.U.write q v).2=true
 ·rw [if_pos hw]
  rw [hw] at hc
  generalize (A.U.write q v).1=R2 at *
  clear hw
  go_enter Tryz.func165,Tryz.ntmps165
  go_wp2_with (first|((with_reducible refine qay 32 ?_);refine ldp hX qb3 qbp (qh5 hL) (Un.len hA.2.2) ?_)|(go_at_call 169;(with_reducible refine (hc _ hK.size hK).mono ?_);rintro e' wc ⟨rfl,hbb⟩;replace hX:=hX.step hbb;replace hK:=hK.step hbb;clear hbb)|((with_reducible refine qa9 32 ?_);refine stn hX qb3 qbp (qsv _) (hn:=(Un.len hu2)) (hm:=(Un.len (u:=Un.z) rfl)) ?_;intro wS hY hbS;replace hX:=hY;replace hK:=hK.step hbS;clear hY hbS)|((with_reducible refine qay 32 ?_);refine ldw (hn:=(Un.len hu2)) hX qb3 qbp ?_)|((with_reducible refine qa9 32 ?_);refine stp2 hX qb3 qbp (Ma.put_u (A:=A) hA) (Un.len hu2) (by rw [Ma.clen (A:=A) hA];decide) (qsv _) ?_;intro wS hY hkS;replace hK:=hK.put hkS (hY.all _ _ _ (.tail _ (.head _)));replace hX:=hY;clear hY hkS))
  exact bodyPost_ret (results_tmp (by rfl) _ _ _) rfl ⟨rfl,⟨_,_,_,_,_,_,DSt.dev hS hK hX.drop1 rfl (Sv.kb hS.m hK.one) (Sv.kb hS.b hK.one) (Sv.kb hS.s hK.one) (Sv.kb hS.d hK.one) (Sv.kb hS.t hK.one)⟩,hK.one⟩
 ·rw [if_neg hw]
  have hw:(A.U.write q v).2=false:=by simpa using hw
  rw [hw] at hc
  generalize (A.U.write q v).1=R2 at *
  clear hw
  go_enter Tryz.func165,Tryz.ntmps165
  go_wp2_with (first|((with_reducible refine qay 32 ?_);refine ldp hX qb3 qbp (qh5 hL) (Un.len hA.2.2) ?_)|(go_at_call 169;(with_reducible refine (hc _ hK.size hK).mono ?_);rintro e' wc ⟨rfl,hbb⟩;replace hX:=hX.step hbb;replace hK:=hK.step hbb;clear hbb)|((with_reducible refine qa9 32 ?_);refine stn hX qb3 qbp (qsv _) (hn:=(Un.len hu2)) (hm:=(Un.len (u:=Un.z) rfl)) ?_;intro wS hY hbS;replace hX:=hY;replace hK:=hK.step hbS;clear hY hbS))
  exact bodyPost_ret (results_tmp (by rfl) _ _ _) rfl ⟨rfl,⟨_,_,_,_,_,_,DSt.dev hS hK hX.drop1 rfl (Sv.kb hS.m hK.one) (Sv.kb hS.b hK.one) (Sv.kb hS.s hK.one) (Sv.kb hS.d hK.one) (Sv.kb hS.t hK.one)⟩,hK.one⟩
theorem qik (A:Ma) (hA:A.ok) (hR:A.right=true) (q v:Int) (vm vb vl vs vd vt:Value) (X:Nat→Prop) (w0 w:World) (B g:Nat) (hS:DSt X w0 B g w A vm vb vl vs vd vt):Calls Tryz.prog 200 #[.agg #[],.pointer (some ⟨B,0,none⟩),.int .i64 q,.int .i64 v] w (DevS X w0 B g w (A.dWrite q v 2).1 (.bool (A.dWrite q v 2).2)):=by
 have hL:=Ma.len hA vs vd vt
 have hX:=hS.bag.step ((Below.refl w.heap.size w).alloc (Nat.le_refl _) (.cells #[] 135))
 have hK:=(Kpt.refl B B w).step ((Below.refl w.heap.size w).alloc (Nat.le_refl _) (.cells #[] 135))
 have o1:=hS.o1
 have o2:=hS.o2
 have o4:=hS.o4
 have o5:=hS.o5
 have o6:=hS.o6
 have hr:=(Ma.parts hR).2.2.2.2.2.1
 have hc:∀ wz,w.heap.size≤wz.heap.size→Kpt B B w wz→Calls Tryz.prog 207 #[.agg (dkL vs vd A.K).toArray,.int .i64 q,.int .i64 v] wz fun e' w'=>∃ v1 v2,e'=.returned (.tuple #[.agg (dkL v1 v2 (A.K.wr q v).1).toArray,.bool (A.K.wr q v).2])∧StsX (XY X B g) w' v1 (A.K.wr q v).1.D.S∧ItsX (XY X B g) w' v2 (A.K.wr q v).1.D.B∧Below wz.heap.size wz w':=fun wz hq hk=>(qmu A.K (qmy hr).2 (qmy hr).1 q v vs vd (XY X B g) wz (fun b q=>Nat.lt_of_lt_of_le (hS.xl b q) hq) (Sv.kb hS.s hk.one).now (Sv.kb hS.d hk.one).now).mono (by rintro e' w' ⟨x,he,⟨v1,v2,rfl,h1,h2⟩,hb⟩;exact ⟨v1,v2,he,h1,h2,hb⟩)
 have e:A.dWrite q v 2=(if (A.K.wr q v).2=true then ({A with K:=(A.K.wr q v).1},true) else (A,false)):=rfl
 rw [e]
 clear e
 by_cases hw:(A.K.wr q v).2=true
 ·rw [if_pos hw]
  rw [hw] at hc
  generalize (A.K.wr q v).1=R2 at *
  clear hw
  go_enter Tryz.func200,Tryz.ntmps200
  go_wp2_with (first|((with_reducible refine qay 40 ?_);refine ldp hX aggK sizK (qci hL) rfl ?_)|(go_at_call 207;(with_reducible refine (hc _ hK.size hK).mono ?_);rintro e' wc ⟨v1,v2,rfl,h1,h2,hbb⟩;replace hX:=hX.step hbb;replace hK:=hK.step hbb;have p1:=qbq h1.now;have p2:=qbq h2.now;clear hbb)|((with_reducible refine qa9 40 ?_);refine stn hX aggK sizK (qiv p1 p2) (hn:=rfl) (hm:=rfl) ?_;intro wS hY hbS;replace hX:=hY;replace hK:=hK.step hbS;replace h1:=Sv.below h1 hbS;replace h2:=Sv.below h2 hbS;clear hY hbS)|((with_reducible refine qay 40 ?_);refine ldw (hn:=rfl) hX aggK sizK ?_)|((with_reducible refine qa9 40 ?_);refine stp2 hX aggK sizK (Ma.put_d (A:=A) hA) rfl (by rw [Ma.clen (A:=A) hA];decide) (qiv p1 p2) ?_;intro wS hY hkS;replace hK:=hK.put hkS (hY.all _ _ _ (.tail _ (.head _)));replace h1:=Sv.over18 h1 hkS (.inr (.inl rfl));replace h2:=Sv.over18 h2 hkS (.inr (.inl rfl));replace hX:=hY;clear hY hkS))
  exact bodyPost_ret (results_tmp (by rfl) _ _ _) rfl ⟨rfl,⟨_,_,_,_,_,_,DSt.dev hS hK hX.drop1 rfl (Sv.kb hS.m hK.one) (Sv.kb hS.b hK.one) h1 h2 (Sv.kb hS.t hK.one)⟩,hK.one⟩
 ·rw [if_neg hw]
  have hw:(A.K.wr q v).2=false:=by simpa using hw
  rw [hw] at hc
  generalize (A.K.wr q v).1=R2 at *
  clear hw
  go_enter Tryz.func200,Tryz.ntmps200
  go_wp2_with (first|((with_reducible refine qay 40 ?_);refine ldp hX aggK sizK (qci hL) rfl ?_)|(go_at_call 207;(with_reducible refine (hc _ hK.size hK).mono ?_);rintro e' wc ⟨v1,v2,rfl,h1,h2,hbb⟩;replace hX:=hX.step hbb;replace hK:=hK.step hbb;have p1:=qbq h1.now;have p2:=qbq h2.now;clear hbb)|((with_reducible refine qa9 40 ?_);refine stn hX aggK sizK (qiv p1 p2) (hn:=rfl) (hm:=rfl) ?_;intro wS hY hbS;replace hX:=hY;replace hK:=hK.step hbS;replace h1:=Sv.below h1 hbS;replace h2:=Sv.below h2 hbS;clear hY hbS))
  exact bodyPost_ret (results_tmp (by rfl) _ _ _) rfl ⟨rfl,⟨_,_,_,_,_,_,DSt.dev hS hK hX.drop1 rfl (Sv.kb hS.m hK.one) (Sv.kb hS.b hK.one) (Sv.kb hS.s hK.one) (Sv.kb hS.d hK.one) (Sv.kb hS.t hK.one)⟩,hK.one⟩
theorem qir (A:Ma) (hA:A.ok) (hR:A.right=true) (q v:Int) (vm vb vl vs vd vt:Value) (X:Nat→Prop) (w0 w:World) (B g:Nat) (hS:DSt X w0 B g w A vm vb vl vs vd vt):Calls Tryz.prog 238 #[.agg #[],.pointer (some ⟨B,0,none⟩),.int .i64 q,.int .i64 v] w (DevS X w0 B g w (A.dWrite q v 3).1 (.bool (A.dWrite q v 3).2)):=by
 have hL:=Ma.len hA vs vd vt
 have hX:=hS.bag.step ((Below.refl w.heap.size w).alloc (Nat.le_refl _) (.cells #[] 136))
 have hK:=(Kpt.refl B B w).step ((Below.refl w.heap.size w).alloc (Nat.le_refl _) (.cells #[] 136))
 have o1:=hS.o1
 have o2:=hS.o2
 have o4:=hS.o4
 have o5:=hS.o5
 have o6:=hS.o6
 have hr:=(Ma.parts hR).2.2.2.2.2.2
 have hc:∀ wz,w.heap.size≤wz.heap.size→Kpt B B w wz→Calls Tryz.prog 245 #[.agg (tpL vt A.T).toArray,.int .i64 q,.int .i64 v] wz fun e' w'=>∃ v1,e'=.returned (.tuple #[.agg (tpL v1 (A.T.wr q v).1).toArray,.bool (A.T.wr q v).2])∧StsX (XY X B g) w' v1 (A.T.wr q v).1.R∧Below wz.heap.size wz w':=fun wz hq hk=>(qm8 A.T (tp_len hr) q v vt (XY X B g) wz (fun b q=>Nat.lt_of_lt_of_le (hS.xl b q) hq) (Sv.kb hS.t hk.one).now).mono (by rintro e' w' ⟨x,he,⟨v1,rfl,h1⟩,hb⟩;exact ⟨v1,he,h1,hb⟩)
 have e:A.dWrite q v 3=(if (A.T.wr q v).2=true then ({A with T:=(A.T.wr q v).1},true) else (A,false)):=rfl
 rw [e]
 clear e
 by_cases hw:(A.T.wr q v).2=true
 ·rw [if_pos hw]
  rw [hw] at hc
  generalize (A.T.wr q v).1=R2 at *
  clear hw
  go_enter Tryz.func238,Tryz.ntmps238
  go_wp2_with (first|((with_reducible refine qay 42 ?_);refine ldp hX aggT sizT (qc6 hL) rfl ?_)|(go_at_call 245;(with_reducible refine (hc _ hK.size hK).mono ?_);rintro e' wc ⟨v1,rfl,h1,hbb⟩;replace hX:=hX.step hbb;replace hK:=hK.step hbb;have p1:=qbq h1.now;clear hbb)|((with_reducible refine qa9 42 ?_);refine stn hX aggT sizT (qfk p1) (hn:=rfl) (hm:=rfl) ?_;intro wS hY hbS;replace hX:=hY;replace hK:=hK.step hbS;replace h1:=Sv.below h1 hbS;clear hY hbS)|((with_reducible refine qay 42 ?_);refine ldw (hn:=rfl) hX aggT sizT ?_)|((with_reducible refine qa9 42 ?_);refine stp2 hX aggT sizT (Ma.put_t (A:=A) hA) rfl (by rw [Ma.clen (A:=A) hA];decide) (qfk p1) ?_;intro wS hY hkS;replace hK:=hK.put hkS (hY.all _ _ _ (.tail _ (.head _)));replace h1:=Sv.over18 h1 hkS (.inr (.inl rfl));replace hX:=hY;clear hY hkS))
  exact bodyPost_ret (results_tmp (by rfl) _ _ _) rfl ⟨rfl,⟨_,_,_,_,_,_,DSt.dev hS hK hX.drop1 rfl (Sv.kb hS.m hK.one) (Sv.kb hS.b hK.one) (Sv.kb hS.s hK.one) (Sv.kb hS.d hK.one) h1⟩,hK.one⟩
 ·rw [if_neg hw]
  have hw:(A.T.wr q v).2=false:=by simpa using hw
  rw [hw] at hc
  generalize (A.T.wr q v).1=R2 at *
  clear hw
  go_enter Tryz.func238,Tryz.ntmps238
  go_wp2_with (first|((with_reducible refine qay 42 ?_);refine ldp hX aggT sizT (qc6 hL) rfl ?_)|(go_at_call 245;(with_reducible refine (hc _ hK.size hK).mono ?_);rintro e' wc ⟨v1,rfl,h1,hbb⟩;replace hX:=hX.step hbb;replace hK:=hK.step hbb;have p1:=qbq h1.now;clear hbb)|((with_reducible refine qa9 42 ?_);refine stn hX aggT sizT (qfk p1) (hn:=rfl) (hm:=rfl) ?_;intro wS hY hbS;replace hX:=hY;replace hK:=hK.step hbS;replace h1:=Sv.below h1 hbS;clear hY hbS))
  exact bodyPost_ret (results_tmp (by rfl) _ _ _) rfl ⟨rfl,⟨_,_,_,_,_,_,DSt.dev hS hK hX.drop1 rfl (Sv.kb hS.m hK.one) (Sv.kb hS.b hK.one) (Sv.kb hS.s hK.one) (Sv.kb hS.d hK.one) (Sv.kb hS.t hK.one)⟩,hK.one⟩
theorem qic (A:Ma) (hA:A.ok) (q v:Int) (vm vb vl vs vd vt:Value) (X:Nat→Prop) (w0 w:World) (B g:Nat) (hS:DSt X w0 B g w A vm vb vl vs vd vt):Calls Tryz.prog 185 #[.agg #[],.pointer (some ⟨B,0,none⟩),.int .i64 q,.int .i64 v] w (DevS X w0 B g w (A.dWrite q v 1).1 (.bool (A.dWrite q v 1).2)):=by
 have hL:=Ma.len hA vs vd vt
 have hX:=hS.bag.step ((Below.refl w.heap.size w).alloc (Nat.le_refl _) (.cells #[] 134))
 have hK:=(Kpt.refl B B w).step ((Below.refl w.heap.size w).alloc (Nat.le_refl _) (.cells #[] 134))
 have o1:=hS.o1
 have o2:=hS.o2
 have o4:=hS.o4
 have o5:=hS.o5
 have o6:=hS.o6
 have hc:∀ wz,Calls Tryz.prog 192 #[.agg A.k.L.toArray,.int .i64 v] wz fun e' w'=>e'=.returned (.agg (A.k.write v).L.toArray)∧Below wz.heap.size wz w':=fun wz=>qj3 A.k v wz
 have e:A.dWrite q v 1=(if q=0 then ({A with k:=A.k.write v},true) else (A,false)):=rfl
 rw [e]
 clear e
 by_cases hw:q=0
 ·rw [if_pos hw]
  subst hw
  go_enter Tryz.func185,Tryz.ntmps185
  go_wp2_with (first|((with_reducible refine qay 34 ?_);refine ldp hX qbv qbx (qgw hL) rfl ?_)|(go_at_call 192;(with_reducible refine (hc _).mono ?_);rintro e' wc ⟨rfl,hbb⟩;replace hX:=hX.step hbb;replace hK:=hK.step hbb;clear hbb)|((with_reducible refine qa9 34 ?_);refine stp1 hX qbv qbx (Ma.put_k (A:=A) hA) rfl (by rw [Ma.clen (A:=A) hA];decide) (qot _) ?_;intro wS hY hkS;replace hK:=hK.put hkS (hY.all _ _ _ (.head _));replace hX:=hY;clear hY hkS))
  exact bodyPost_ret (results_tmp (by rfl) _ _ _) rfl ⟨rfl,⟨_,_,_,_,_,_,DSt.dev hS hK hX rfl (Sv.kb hS.m hK.one) (Sv.kb hS.b hK.one) (Sv.kb hS.s hK.one) (Sv.kb hS.d hK.one) (Sv.kb hS.t hK.one)⟩,hK.one⟩
 ·rw [if_neg hw]
  have e0:(q != 0)=true:=by simpa using hw
  go_enter Tryz.func185,Tryz.ntmps185
  go_wp2
  exact bodyPost_ret (results_tmp (by rfl) _ _ _) rfl ⟨rfl,⟨_,_,_,_,_,_,DSt.dev hS hK hX rfl (Sv.kb hS.m hK.one) (Sv.kb hS.b hK.one) (Sv.kb hS.s hK.one) (Sv.kb hS.d hK.one) (Sv.kb hS.t hK.one)⟩,hK.one⟩
open Go Go.RowKit
section
variable {P:Program} {ops:Array Oper} {md:Region.Mode} {Q:Exit→Act→World→Prop} {S:World→Prop}
def wpHW (P:Program) (md:Region.Mode) (ops:Array Oper) (Q:Exit→Act→World→Prop) (T:Array Bool→World→Prop) (L:Array Bool→Act→World→Prop):Nat→Array Bool→Act→World→Prop
 | 0,listed,a,w=>L listed a w
 | f+1,listed,a,w=>Region.ready md ops listed≠[]∧∀ i∈Region.ready md ops listed,wpOp P ops Q i (fun a' w'=>T (listed.setIfInBounds i true) w'∧wpHW P md ops Q T L f (listed.setIfInBounds i true) a' w') a w
theorem qhm {T:Array Bool→World→Prop} {g:Nat} {L:Array Bool→Act→World→Prop} (hL:∀ listed a w,L listed a w→wpAny P md ops Q g listed a w) :
 ∀ (f:Nat) (listed:Array Bool) (a:Act) (w:World),wpHW P md ops Q T L f listed a w→wpAny P md ops Q (f+g) listed a w
 | 0,listed,a,w,h=>by rw [Nat.zero_add];exact hL _ _ _ h
 | f+1,listed,a,w,h=>by
   rw [show f+1+g=(f+g)+1 by omega]
   exact ⟨fun h0=>absurd h0 h.1,fun i hi=>wpOp_mono (fun a' w' h'=>qhm hL f _ a' w' h'.2) (h.2 i hi)⟩
theorem qiw {T:Array Bool→World→Prop} {n i:Nat} {oi:Oper} {v:Value} {L:Array Bool→Act→World→Prop} (hi:ops[i]? = some oi) (hsel:∀ (j:Nat) (o:Oper) cs b,ops[j]? = some o→o.op≠.select cs b)
 (hQ:∀ c a w,Q (.panic c) (a.put oi.dst v) w→Q (.panic c) a w)
 (hs:Region.sinkB md ops n=true) (hc:Region.chainB md ops n=true) (hn:n<ops.size) (hin:i<n)
 (hdone:∀ listed a w,L listed a w→∀ j∈Region.ready md ops listed,n≤j)
 (hTS:∀ listed w,HeadInv md ops n listed→listed.getD i true=false→T listed w→S w) (hTi:∀ listed w,T (listed.setIfInBounds i true) w→T listed w) :
 ∀ (f:Nat) (listed:Array Bool) (a:Act) (w:World),HeadInv md ops n listed →
  (∀ j oj,ops[j]? = some oj→j≠i→listed.getD j true=false→(∀ e∈oj.after,Region.binds md e=true→e.on≠i)→oi.apart ops oj=true) →
  i∈Region.ready md ops listed→YieldsIf P ops S oi v a→T listed w→T (listed.setIfInBounds i true) w →
  wpHW P md ops Q T L f (listed.setIfInBounds i true) (a.put oi.dst v) w→wpHW P md ops Q T L (f+1) listed a w:=by
 intro f
 induction f with
 | zero =>
   intro listed a w inv _ hr hy hT hT2 H
   have hun:=(mem_ready.1 hr).1
   refine ⟨fun h=>(by rw [h] at hr;cases hr),fun j hj=>?_⟩
   by_cases hji:j=i
   ·subst hji;exact hy.wpOp hi (hTS _ _ inv hun hT) ⟨hT2,H⟩
   ·exfalso
    have hjn:j<n:=by
     rcases Nat.lt_or_ge j n with h|h
     ·exact h
     ·exact absurd hj (tail_waits hs hc hn inv _ i rfl hin hun j h)
    have:=hdone _ _ _ H j (ready_mono hj hji)
    omega
 | succ f ih =>
   intro listed a w inv hfree hr hy hT hT2 H
   have hun:=(mem_ready.1 hr).1
   refine ⟨fun h=>(by rw [h] at hr;cases hr),fun j hj=>?_⟩
   have hjn:j<n:=by
    rcases Nat.lt_or_ge j n with h|h
    ·exact h
    ·exact absurd hj (tail_waits hs hc hn inv _ i rfl hin hun j h)
   by_cases hji:j=i
   ·subst hji;exact hy.wpOp hi (hTS _ _ inv hun hT) ⟨hT2,H⟩
   ·have h1:=H.2 j (ready_mono hj hji)
    obtain ⟨hjun,oj,hoj,hall⟩:=mem_ready.1 hj
    have hnot:∀ e∈oj.after,Region.binds md e=true→e.on≠i:=fun e he hb heq=>by
     have h1:=hall e he hb
     rw [heq,getD_both hun] at h1
     cases h1
    have h2:=wpOp_putIf hoj (hfree j oj hoj hji hjun hnot) (fun cs b=>hsel i oi cs b hi) (fun cs b=>hsel j oj cs b hoj) hQ hy h1
    refine wpOp_mono (fun a' w' h3=>?_) h2
    have hT3:T ((listed.setIfInBounds j true).setIfInBounds i true) w':=by rw [Array.setIfInBounds_comm _ _ hji];exact h3.2.1
    exact ⟨hTi _ _ hT3,ih (listed.setIfInBounds j true) a' w' (inv.set hj hjn) (fun k ok hk hki hunk hno=>hfree k ok hk hki (by
     by_cases hjk:j=k
     ·subst hjk;exact hjun
     ·rw [getD_set_ne true hjk] at hunk;exact hunk) hno) (ready_mono hr (Ne.symm hji)) h3.1 (hTi _ _ hT3) hT3 (by rw [Array.setIfInBounds_comm _ _ hji];exact h3.2.2)⟩
def TillS (S:World→Prop) (s:Nat) (listed:Array Bool) (w:World):Prop:=listed.getD s true=true∨S w
def hoW (md:Region.Mode) (ops:Array Oper) (s n g:Nat):List (Nat×Nat)→Array Bool→Bool
 | [],listed=>Region.seqB md ops g n listed
 | (i,0) :: l,listed=>decide (i<n) && decide (i≠s) && (match ops[s]? with|some o=>o.after.any (fun e=>Region.binds md e && decide (e.on=i))|none=>false) && (Region.ready md ops listed).contains i && Region.free md ops listed i && hoW md ops s n g l (listed.setIfInBounds i true)
 | (i,1) :: l,listed=>decide (i<n) && decide (i≠s) && (Region.ready md ops listed).contains i && Region.free md ops listed i && hoW md ops s n g l (listed.setIfInBounds i true)
 | (i,_+2) :: l,listed=>decide (i<n) && decide (Region.ready md ops listed=[i]) && hoW md ops s n g l (listed.setIfInBounds i true)
def wpHpW (P:Program) (ops:Array Oper) (Q:Exit→Act→World→Prop) (S:World→Prop) (s:Nat) (F:Act→World→Prop):List (Nat×Nat)→Act→World→Prop
 | [],a,w=>F a w
 | (i,0) :: l,a,w=>∃ o v,ops[i]? = some o∧YieldsIf P ops S o v a∧wpHpW P ops Q S s F l (a.put o.dst v) w
 | (i,1) :: l,a,w=>∃ o v,ops[i]? = some o∧YieldsIf P ops (fun _=>True) o v a∧wpHpW P ops Q S s F l (a.put o.dst v) w
 | (i,k+2) :: l,a,w=>wpOp P ops Q i (fun a' w'=>(k=0→S w')∧wpHpW P ops Q S s F l a' w') a w
def markW (s:Nat):List (Nat×Nat)→Bool→Bool
 | [],_=>true
 | (i,k) :: l,b=>decide (k<4∧(k<2∨(k=3↔(b=true∨i=s)))) && markW s l (b || decide (i=s))
theorem qe1 {s n g:Nat} {F:Act→World→Prop} (hsel:Region.noSelect ops=true) (hs:Region.sinkB md ops n=true) (hc:Region.chainB md ops n=true) (hn:n<ops.size) (hsn:s<n)
 (hQ:∀ c a d v w,Q (.panic c) (a.put d v) w→Q (.panic c) a w) :
 ∀ (l:List (Nat×Nat)) (b:Bool) (listed:Array Bool) (a:Act) (w:World),HeadInv md ops n listed→(b=true→listed.getD s true=true)→markW s l b=true→hoW md ops s n g l listed=true→TillS S s listed w→wpHpW P ops Q S s F l a w →
 wpHW P md ops Q (TillS S s) (fun listed' a' w'=>Region.seqB md ops g n listed'=true∧F a' w') l.length listed a w
 | [],b,listed,a,w,_,_,_,hB,_,h=>⟨hB,h⟩
 | (i,0) :: l,b,listed,a,w,inv,hb,hM,hB,hT,h=>by
   obtain ⟨o,v,ho,hy,h⟩:=h
   simp only [hoW,Bool.and_eq_true,decide_eq_true_eq] at hB
   obtain ⟨⟨⟨⟨⟨hin,hne⟩,hbd⟩,hr⟩,hf⟩,hB'⟩:=hB
   simp only [markW,Bool.and_eq_true] at hM
   have hr':i∈Region.ready md ops listed:=by simpa using hr
   have hset:∀ (L:Array Bool) w,TillS S s (L.setIfInBounds i true) w↔TillS S s L w:=fun L w=>by unfold TillS;rw [getD_set_ne true hne]
   refine qiw ho (Region.noSelect_spec hsel) (fun c a w=>hQ c a _ _ w) hs hc hn hin (fun listed' a' w' hL=>seqB_ready hL.1) (fun L w' invL hun hT'=>?_) (fun L w' h=>(hset L w').1 h) l.length listed a w inv (Region.free_spec ho hf) hr' hy hT ((hset _ _).2 hT)
    (qe1 hsel hs hc hn hsn hQ l _ _ _ _ (inv.set hr' hin) (fun q=>?_) hM.2 hB' ((hset _ _).2 hT) h)
   ·rcases hT' with hl|hl
    ·exfalso
     cases hso:ops[s]? with
     | none=>rw [hso] at hbd;cases hbd
     | some os =>
       rw [hso] at hbd
       simp only [Array.any_eq_true'] at hbd
       obtain ⟨e,he,hbe⟩:=hbd
       simp only [Bool.and_eq_true,decide_eq_true_eq] at hbe
       have hlt:s<L.size:=by rw [invL.size];omega
       have h1:=invL.closed s os hso (by simp only [Array.getD_eq_getD_getElem?,Array.getElem?_eq_getElem hlt] at hl ⊢;exact hl) e he hbe.1
       rw [hbe.2,getD_both hun] at h1
       cases h1
    ·exact hl
   ·have e:((b || decide (i=s))=true):=q
    rw [decide_eq_false hne,Bool.or_false] at e
    rw [getD_set_ne true hne];exact hb e
 | (i,1) :: l,b,listed,a,w,inv,hb,hM,hB,hT,h=>by
   obtain ⟨o,v,ho,hy,h⟩:=h
   simp only [hoW,Bool.and_eq_true,decide_eq_true_eq] at hB
   obtain ⟨⟨⟨⟨hin,hne⟩,hr⟩,hf⟩,hB'⟩:=hB
   simp only [markW,Bool.and_eq_true] at hM
   have hr':i∈Region.ready md ops listed:=by simpa using hr
   have hset:∀ (L:Array Bool) w,TillS S s (L.setIfInBounds i true) w↔TillS S s L w:=fun L w=>by unfold TillS;rw [getD_set_ne true hne]
   refine qiw ho (Region.noSelect_spec hsel) (fun c a w=>hQ c a _ _ w) hs hc hn hin (fun listed' a' w' hL=>seqB_ready hL.1) (fun L w' invL hun hT'=>trivial) (fun L w' h=>(hset L w').1 h) l.length listed a w inv (Region.free_spec ho hf) hr' hy hT ((hset _ _).2 hT)
    (qe1 hsel hs hc hn hsn hQ l _ _ _ _ (inv.set hr' hin) (fun q=>?_) hM.2 hB' ((hset _ _).2 hT) h)
   have e:((b || decide (i=s))=true):=q
   rw [decide_eq_false hne,Bool.or_false] at e
   rw [getD_set_ne true hne];exact hb e
 | (i,k+2) :: l,b,listed,a,w,inv,hb,hM,hB,hT,h=>by
   simp only [hoW,Bool.and_eq_true,decide_eq_true_eq] at hB
   obtain ⟨⟨hin,hr⟩,hB'⟩:=hB
   simp only [markW,Bool.and_eq_true,decide_eq_true_eq] at hM
   have hr':i∈Region.ready md ops listed:=by rw [hr];simp
   have hlt:i<listed.size:=by rw [inv.size];omega
   have hb':(b || decide (i=s))=true→(listed.setIfInBounds i true).getD s true=true:=fun q=>by
    by_cases his:i=s
    ·subst his
     simp [Array.getD_eq_getD_getElem?,hlt]
    ·rw [getD_set_ne true his]
     rw [decide_eq_false his,Bool.or_false] at q
     exact hb q
   refine ⟨by rw [hr];simp,fun j hj=>?_⟩
   rw [hr] at hj
   obtain rfl:j=i:=by simpa using hj
   have h':wpOp P ops Q j (fun a' w'=>(k=0→S w')∧wpHpW P ops Q S s F l a' w') a w:=h
   refine wpOp_mono (fun a' w' h=>?_) h'
   have hT':TillS S s (listed.setIfInBounds j true) w':=by
    by_cases hk:k=0
    ·exact .inr (h.1 hk)
    ·refine .inl (hb' ?_)
     rcases hM.1.2 with q|q
     ·omega
     ·rcases q.1 (by have:=hM.1.1;omega) with q|q
      ·rw [q];rfl
      ·rw [decide_eq_true q,Bool.or_true]
   exact ⟨hT',qe1 hsel hs hc hn hsn hQ l _ _ _ _ (inv.set hr' hin) hb' hM.2 hB' hT' h.2⟩
theorem qf5 {id:Nat} {a:Act} {w:World} {l:List Oper} (S:World→Prop) (s n:Nat) (ord:List (Nat×Nat)) (hm:P.follows .mixedOrders=true)
 (hB:(Region.noSelect l.toArray && decide (n<l.toArray.size) && decide (s<n) && Region.sinkB .any l.toArray n && Region.chainB .any l.toArray n && decide (ord.length=n) && markW s ord false && hoW .any l.toArray s n (l.toArray.size - n) ord (Array.replicate l.toArray.size false))=true)
 (hQ:∀ c a d v w,Q (.panic c) (a.put d v) w→Q (.panic c) a w) (hS:S w.drew)
 (h:wpHpW P l.toArray Q S s (fun a' w'=>wpList P l.toArray Q (l.drop n) a' w') ord a w.drew):(Code.region id l.toArray true).wp P Q a w:=by
 simp only [Bool.and_eq_true,decide_eq_true_eq] at hB
 obtain ⟨⟨⟨⟨⟨⟨⟨hsel,hn⟩,hsn⟩,hs⟩,hc⟩,hlen⟩,hmk⟩,hho⟩:=hB
 have hdl:(l.drop n).length=l.toArray.size - n:=by simp
 have inv0:HeadInv .any l.toArray n (Array.replicate l.toArray.size false) :=
  ⟨by simp,fun j oj _ hl=>(by rw [getD_replicate_false] at hl;cases hl),fun t _ ht=>getD_in (by simpa using ht) (getD_replicate_false _ _)⟩
 have H:=qe1 (md:=.any) (Q:=Q) (g:=l.toArray.size - n) hsel hs hc hn hsn hQ ord false _ a w.drew inv0 (fun q=>by cases q) hmk hho (.inr hS) h
 refine wp_region_any hm ?_
 have:=qhm (Q:=Q) (g:=l.toArray.size - n) (fun listed a' w' hL=>by
  have:=wpAny_of_seq (md:=.any) (Q':=Q) (l.drop n) n listed a' w' (fun j=>by simp [List.getElem?_drop]) (by rw [hdl];exact hL.1) hL.2
  rwa [hdl] at this) _ _ _ _ H
 rw [hlen,show n+(l.toArray.size - n)=l.toArray.size by omega] at this
 exact this
variable {F:Act→World→Prop} {s:Nat}
theorem qld {a:Act} {w:World} (h:F a w):wpHpW P ops Q S s F [] a w:=h
theorem qd2 {i:Nat} {lo:List Oper} {l:List (Nat×Nat)} {a:Act} {w:World} {o:Oper} (ho:lo[i]? = some o) (hw:Region.wanted o (yielded lo.toArray a.tmps)=true)
 (h:∀ K:Act→Prop,(∀ a',wpHpW P lo.toArray Q S s F l a' w→K a')→∃ v,(∀ w,S w→(execOp a.eval o).run P w=.ok (.value v) w)∧K (a.put o.dst v)):wpHpW P lo.toArray Q S s F ((i,0) :: l) a w:=by
 obtain ⟨v,h1,h2⟩:=h _ (fun _ h=>h)
 exact ⟨o,v,by rw [List.getElem?_toArray];exact ho,.inl ⟨hw,h1⟩,h2⟩
theorem qd3 {i:Nat} {lo:List Oper} {l:List (Nat×Nat)} {a:Act} {w:World} {o:Oper} (ho:lo[i]? = some o) (hw:Region.wanted o (yielded lo.toArray a.tmps)=true)
 (h:∀ K:Act→Prop,(∀ a',wpHpW P lo.toArray Q S s F l a' w→K a')→∃ v,(∀ w,(execOp a.eval o).run P w=.ok (.value v) w)∧K (a.put o.dst v)):wpHpW P lo.toArray Q S s F ((i,1) :: l) a w:=by
 obtain ⟨v,h1,h2⟩:=h _ (fun _ h=>h)
 exact ⟨o,v,by rw [List.getElem?_toArray];exact ho,.inl ⟨hw,fun w _=>h1 w⟩,h2⟩
theorem qks {i:Nat} {o:Oper} {K:Act→World→Prop} {a:Act} {w:World} (hi:ops[i]? = some o) (h:wpList P ops (Exit.then K Q) [o] a w):wpOp P ops Q i K a w:=by
 unfold wpOp
 simp only [hi]
 exact h
theorem qgz {i k:Nat} {lo:List Oper} {l:List (Nat×Nat)} {a:Act} {w:World} {o:Oper} (ho:lo[i]? = some o)
 (h:∀ K:Act→World→Prop,(∀ a' w',(k=0→S w')→wpHpW P lo.toArray Q S s F l a' w'→K a' w')→wpList P lo.toArray (Exit.then K Q) [o] a w):wpHpW P lo.toArray Q S s F ((i,k+2) :: l) a w :=
 qks (by rw [List.getElem?_toArray];exact ho) (h _ fun _ _ h1 h2=>⟨h1,h2⟩)
theorem qi3 {i:Nat} {lo:List Oper} {l:List (Nat×Nat)} {a:Act} {w:World} {o:Oper} (ho:lo[i]? = some o) (hg:o.guard=none)
 (h:∀ K:Value→World→Prop,(∀ v w',S w'→wpHpW P lo.toArray Q S s F l (a.put o.dst v) w'→K v w')→Oper.semiAt P o a K w):wpHpW P lo.toArray Q S s F ((i,2) :: l) a w :=
 qnc (R:=fun v w'=>(0=0→S w')∧wpHpW P lo.toArray Q S s F l (a.put o.dst v) w') (by rw [List.getElem?_toArray];exact ho) hg (h _ (fun _ _ h1 h2=>⟨fun _=>h1,h2⟩)) (fun v w' h=>h)
theorem qdq {a:Act} {w:World} {K:Act→World→Prop} (h:K a w):wpList P ops (Exit.then K Q) [] a w:=h
end
end Go.Proofs.YthpnddgfgpacpaaGreat
