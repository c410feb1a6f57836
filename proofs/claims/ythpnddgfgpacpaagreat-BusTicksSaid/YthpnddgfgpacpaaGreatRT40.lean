import Derived.Test.YthpnddgfgpacpaaGreatRT04
import Derived.Test.YthpnddgfgpacpaaGreatRT39
import Derived.Test.YthpnddgfgpacpaaGreatRT26
import Derived.RangeFuncCalls
import Derived.TacticsIn
import Derived.Test.YthpnddgfgpacpaaGreatRT23
import Derived.Test.YthpnddgfgpacpaaGreatRT14
import Derived.Test.YthpnddgfgpacpaaGreatRT07
import Derived.Test.YthpnddgfgpacpaaGreatRT10
import Derived.Test.YthpnddgfgpacpaaGreatRT32
import Derived.Test.YthpnddgfgpacpaaGreatRT28
import Derived.Test.YthpnddgfgpacpaaGreatRT30
import Derived.Test.YthpnddgfgpacpaaGreatRT22
import Derived.Test.YthpnddgfgpacpaaGreatRT21
namespace Go.Proofs.YthpnddgfgpacpaaGreat
open Go.RowKit
set_option linter.unusedSimpArgs false
set_option linter.unusedVariables false
set_option maxHeartbeats 4000000
set_option maxRecDepth 100000
attribute [local irreducible] wpQuiet
theorem qq6 (A:Ma) (hA:A.ok) (hR:A.right=true) (vm vb vl vs vd vt:Value) (X:Nat→Prop) (w0 w:World) (B g:Nat) (hS:DSt X w0 B g w A vm vb vl vs vd vt):Calls Tryz.prog 199 #[.agg #[],.pointer (some ⟨B,0,none⟩)] w (DevS X w0 B g w (A.dTick 2) (.tuple #[])):=by
 have hL:=Ma.len hA vs vd vt
 have hX:=hS.bag.step ((Below.refl w.heap.size w).alloc (Nat.le_refl _) (.cells #[] 135))
 have hK:=(Kpt.refl B B w).step ((Below.refl w.heap.size w).alloc (Nat.le_refl _) (.cells #[] 135))
 have o1:=hS.o1
 have o2:=hS.o2
 have o4:=hS.o4
 have o5:=hS.o5
 have o6:=hS.o6
 have hc:∀ wz,w.heap.size≤wz.heap.size→Kpt B B w wz→Calls Tryz.prog 206 #[.agg (dkL vs vd A.K).toArray,vm,vb] wz fun e' w'=>∃ v1 v2 v3 v4,e'=.returned (.tuple #[.agg (dkL v1 v2 (A.K.tick A.M A.B).1).toArray,v3,v4])∧StsX (XY X B g) w' v1 (A.K.tick A.M A.B).1.D.S∧ItsX (XY X B g) w' v2 (A.K.tick A.M A.B).1.D.B∧ItsX (XY X B g) w' v3 (A.K.tick A.M A.B).2.1∧ItsX (XY X B g) w' v4 (A.K.tick A.M A.B).2.2∧Below wz.heap.size wz w':=fun wz hq hk=>(qpv A.K A.M A.B vs vd vm vb (XY X B g) wz (fun b q=>Nat.lt_of_lt_of_le (hS.xl b q) hq) (Sv.kb hS.s hk.one) (Sv.kb hS.d hk.one) (Sv.kb hS.m hk.one) (Sv.kb hS.b hk.one) (Ma.parts hR).2.2.2.2.2.1 (Ma.parts hR).2.2.1).mono (by rintro e' w' ⟨x,y,z,he,⟨v1,v2,rfl,h1,h2⟩,h3,h4,hb⟩;exact ⟨v1,v2,y,z,he,h1,h2,h3,h4,hb⟩)
 show Calls _ _ _ _ (DevS X w0 B g w A.tickK _)
 unfold Ma.tickK
 generalize A.K.tick A.M A.B=Q3 at *
 obtain ⟨N2,M2,B2⟩:=Q3
 dsimp only at hc ⊢
 go_enter Tryz.func199,Tryz.ntmps199
 go_wp2
 replace hX:=hX.drew
 replace hK:=hK.step (Below.refl _ _).drew
 refine qf5 (fun w'=>Bag [(B,44,A.cells vm vb vl vs vd vt)] w0 w'∧Kpt B B w w') 22 28 [(0,1),(1,1),(2,1),(3,1),(4,1),(5,1),(6,0),(7,1),(8,1),(9,1),(10,0),(11,1),(12,1),(13,1),(14,0),(15,2),(16,1),(17,1),(18,1),(19,1),(20,1),(21,1),(22,3),(23,1),(24,1),(25,3),(26,1),(27,1)] (by kernel_rfl) (by kernel_rfl) (fun _ _ dd _ _ h=>by cases dd<;>exact h) ⟨hX,hK⟩ ?_
 iterate 15
  first
   | (refine qd3 rfl rfl (fun KK hKK=>?_)
      apply Exists.intro
      refine ⟨fun wq=>?_,hKK _ ?_⟩
      ·(unfold execOp;go_simp;with_reducible rfl)
      clear hKK KK
      simp only [Act.put,sx])
   | (refine qd2 rfl rfl (fun KK hKK=>?_)
      apply Exists.intro
      refine ⟨fun wq hq=>?_,hKK _ ?_⟩
      ·first
        | exact qad 40 _ _ rfl rfl ((hq.1.all _ _ _ (.head _)).loadAtSub (qci hL) rfl aggK sizK)
        | exact qad 26 _ _ rfl rfl ((hq.1.all _ _ _ (.head _)).loadCell (qcx hL) qap)
        | exact qad 26 _ _ rfl rfl ((hq.1.all _ _ _ (.head _)).loadCell (qcy hL) qap)
      clear hKK KK
      simp only [Act.put,sx])
 refine qi3 rfl rfl (fun KK hKK=>?_)
 unfold Oper.semiAt
 go_simp
 simp only [semiUpon]
 refine ⟨trivial,?_⟩
 refine (hc _ hK.size hK).mono ?_
 rintro e' wc ⟨v1,v2,v3,v4,rfl,h1,h2,h3,h4,hbb⟩
 refine ⟨_,rfl,hKK _ _ ⟨hX.step hbb,hK.step hbb⟩ ?_⟩
 clear hKK KK
 replace hX:=hX.step hbb
 replace hK:=hK.step hbb
 have p1:=qbq h1.now
 have p2:=qbq h2.now
 have p3:=qbq h3.now
 have p4:=qbq h4.now
 obtain ⟨A3,c3,rfl,_⟩:=Its.form h3.now
 obtain ⟨A4,c4,rfl,_⟩:=Its.form h4.now
 clear hbb
 try simp only [Act.put,sx]
 iterate 6
  first
   | (refine qd3 rfl rfl (fun KK hKK=>?_)
      apply Exists.intro
      refine ⟨fun wq=>?_,hKK _ ?_⟩
      ·(unfold execOp;go_simp;with_reducible rfl)
      clear hKK KK
      simp only [Act.put,sx])
   | (refine qd2 rfl rfl (fun KK hKK=>?_)
      apply Exists.intro
      refine ⟨fun wq hq=>?_,hKK _ ?_⟩
      ·first
        | exact qad 40 _ _ rfl rfl ((hq.1.all _ _ _ (.head _)).loadAtSub (qci hL) rfl aggK sizK)
        | exact qad 26 _ _ rfl rfl ((hq.1.all _ _ _ (.head _)).loadCell (qcx hL) qap)
        | exact qad 26 _ _ rfl rfl ((hq.1.all _ _ _ (.head _)).loadCell (qcy hL) qap)
      clear hKK KK
      simp only [Act.put,sx])
 refine qgz rfl (fun KK hKK=>?_)
 refine stp1 hX aggK sizK (Ma.put_d (A:=A) (K':=N2) (vs':=v1) (vd':=v2) hA) rfl (by rw [Ma.clen (A:=A) hA];decide) (qiv p1 p2) ?_
 intro wS hY hkS
 replace hK:=hK.put hkS (hY.all _ _ _ (.head _))
 replace h1:=Sv.over18 h1 hkS (.inr (.inl rfl))
 replace h2:=Sv.over18 h2 hkS (.inr (.inl rfl))
 replace h3:=Sv.over18 h3 hkS (.inr (.inl rfl))
 replace h4:=Sv.over18 h4 hkS (.inr (.inl rfl))
 replace hX:=hY
 clear hY hkS
 refine qdq (hKK _ _ (fun q=>by cases q) ?_)
 clear hKK KK
 try simp only [Act.put,sx]
 iterate 2
  first
   | (refine qd3 rfl rfl (fun KK hKK=>?_)
      apply Exists.intro
      refine ⟨fun wq=>?_,hKK _ ?_⟩
      ·(unfold execOp;go_simp;with_reducible rfl)
      clear hKK KK
      simp only [Act.put,sx])
   | (refine qd2 rfl rfl (fun KK hKK=>?_)
      apply Exists.intro
      refine ⟨fun wq hq=>?_,hKK _ ?_⟩
      ·first
        | exact qad 40 _ _ rfl rfl ((hq.1.all _ _ _ (.head _)).loadAtSub (qci hL) rfl aggK sizK)
        | exact qad 26 _ _ rfl rfl ((hq.1.all _ _ _ (.head _)).loadCell (qcx hL) qap)
        | exact qad 26 _ _ rfl rfl ((hq.1.all _ _ _ (.head _)).loadCell (qcy hL) qap)
      clear hKK KK
      simp only [Act.put,sx])
 refine qgz rfl (fun KK hKK=>?_)
 refine stk1 hX qc0 (Ma.set_m (A:=({A with K:=N2}:Ma)) hA M2 _) (by rw [Ma.clen (A:=({A with K:=N2}:Ma)) hA];decide) p3 ?_
 intro wS hY hkS
 replace hK:=hK.put hkS (hY.all _ _ _ (.head _))
 replace h1:=Sv.over18 h1 hkS (.inr (.inl rfl))
 replace h2:=Sv.over18 h2 hkS (.inr (.inl rfl))
 replace h3:=Sv.over18 h3 hkS (.inr (.inl rfl))
 replace h4:=Sv.over18 h4 hkS (.inr (.inl rfl))
 replace hX:=hY
 clear hY hkS
 refine qdq (hKK _ _ (fun q=>by cases q) ?_)
 clear hKK KK
 try simp only [Act.put,sx]
 iterate 2
  first
   | (refine qd3 rfl rfl (fun KK hKK=>?_)
      apply Exists.intro
      refine ⟨fun wq=>?_,hKK _ ?_⟩
      ·(unfold execOp;go_simp;with_reducible rfl)
      clear hKK KK
      simp only [Act.put,sx])
   | (refine qd2 rfl rfl (fun KK hKK=>?_)
      apply Exists.intro
      refine ⟨fun wq hq=>?_,hKK _ ?_⟩
      ·first
        | exact qad 40 _ _ rfl rfl ((hq.1.all _ _ _ (.head _)).loadAtSub (qci hL) rfl aggK sizK)
        | exact qad 26 _ _ rfl rfl ((hq.1.all _ _ _ (.head _)).loadCell (qcx hL) qap)
        | exact qad 26 _ _ rfl rfl ((hq.1.all _ _ _ (.head _)).loadCell (qcy hL) qap)
      clear hKK KK
      simp only [Act.put,sx])
 refine qld ?_
 simp only [List.drop_succ_cons,List.drop_zero]
 go_wp2_with (first|((with_reducible refine qa9 26 ?_);refine stk1 hX qc0 (Ma.set_b (A:=({A with K:=N2,M:=M2}:Ma)) hA B2 _) (by rw [Ma.clen (A:=({A with K:=N2,M:=M2}:Ma)) hA];decide) p4 ?_;intro wS hY hkS;replace hK:=hK.put hkS (hY.all _ _ _ (.head _));replace h1:=Sv.over18 h1 hkS (.inr (.inl rfl));replace h2:=Sv.over18 h2 hkS (.inr (.inl rfl));replace h3:=Sv.over18 h3 hkS (.inr (.inl rfl));replace h4:=Sv.over18 h4 hkS (.inr (.inl rfl));replace hX:=hY;clear hY hkS))
 exact bodyPost_end (results_none rfl _ _ _) rfl ⟨rfl,⟨_,_,_,_,_,_,DSt.dev hS hK hX rfl h3 h4 h1 h2 (Sv.kb hS.t hK.one)⟩,hK.one⟩
theorem qr8 (A:Ma) (hA:A.ok) (hR:A.right=true) (vm vb vl vs vd vt:Value) (X:Nat→Prop) (w0 w:World) (B g:Nat) (hS:DSt X w0 B g w A vm vb vl vs vd vt):Calls Tryz.prog 237 #[.agg #[],.pointer (some ⟨B,0,none⟩)] w (DevS X w0 B g w (A.dTick 3) (.tuple #[])):=by
 have hL:=Ma.len hA vs vd vt
 have hX:=hS.bag.step ((Below.refl w.heap.size w).alloc (Nat.le_refl _) (.cells #[] 136))
 have hK:=(Kpt.refl B B w).step ((Below.refl w.heap.size w).alloc (Nat.le_refl _) (.cells #[] 136))
 have o1:=hS.o1
 have o2:=hS.o2
 have o4:=hS.o4
 have o5:=hS.o5
 have o6:=hS.o6
 have hc:∀ wz,w.heap.size≤wz.heap.size→Kpt B B w wz→Calls Tryz.prog 244 #[.agg (tpL vt A.T).toArray,vm,vb] wz fun e' w'=>∃ v1 v3 v4,e'=.returned (.tuple #[.agg (tpL v1 (A.T.tick A.M A.B).1).toArray,v3,v4])∧StsX (XY X B g) w' v1 (A.T.tick A.M A.B).1.R∧ItsX (XY X B g) w' v3 (A.T.tick A.M A.B).2.1∧ItsX (XY X B g) w' v4 (A.T.tick A.M A.B).2.2∧Below wz.heap.size wz w':=fun wz hq hk=>(qqe A.T (Ma.parts hR).2.2.2.2.2.2 A.M A.B (Ma.parts hR).2.2.1 vt vm vb (XY X B g) wz (fun b q=>Nat.lt_of_lt_of_le (hS.xl b q) hq) (Sv.kb hS.t hk.one).now (Sv.kb hS.m hk.one).now (Sv.kb hS.b hk.one).now).mono (by rintro e' w' ⟨x,y,z,he,⟨v1,rfl,h1⟩,h3,h4,hb⟩;exact ⟨v1,y,z,he,h1,h3,h4,hb⟩)
 show Calls _ _ _ _ (DevS X w0 B g w A.tickT _)
 unfold Ma.tickT
 generalize A.T.tick A.M A.B=Q3 at *
 obtain ⟨N2,M2,B2⟩:=Q3
 dsimp only at hc ⊢
 go_enter Tryz.func237,Tryz.ntmps237
 go_wp2
 replace hX:=hX.drew
 replace hK:=hK.step (Below.refl _ _).drew
 refine qf5 (fun w'=>Bag [(B,44,A.cells vm vb vl vs vd vt)] w0 w'∧Kpt B B w w') 22 28 [(0,1),(1,1),(2,1),(3,1),(4,1),(5,1),(6,0),(7,1),(8,1),(9,1),(10,0),(11,1),(12,1),(13,1),(14,0),(15,2),(16,1),(17,1),(18,1),(19,1),(20,1),(21,1),(22,3),(23,1),(24,1),(25,3),(26,1),(27,1)] (by kernel_rfl) (by kernel_rfl) (fun _ _ dd _ _ h=>by cases dd<;>exact h) ⟨hX,hK⟩ ?_
 iterate 15
  first
   | (refine qd3 rfl rfl (fun KK hKK=>?_)
      apply Exists.intro
      refine ⟨fun wq=>?_,hKK _ ?_⟩
      ·(unfold execOp;go_simp;with_reducible rfl)
      clear hKK KK
      simp only [Act.put,sx])
   | (refine qd2 rfl rfl (fun KK hKK=>?_)
      apply Exists.intro
      refine ⟨fun wq hq=>?_,hKK _ ?_⟩
      ·first
        | exact qad 42 _ _ rfl rfl ((hq.1.all _ _ _ (.head _)).loadAtSub (qc6 hL) rfl aggT sizT)
        | exact qad 26 _ _ rfl rfl ((hq.1.all _ _ _ (.head _)).loadCell (qcx hL) qap)
        | exact qad 26 _ _ rfl rfl ((hq.1.all _ _ _ (.head _)).loadCell (qcy hL) qap)
      clear hKK KK
      simp only [Act.put,sx])
 refine qi3 rfl rfl (fun KK hKK=>?_)
 unfold Oper.semiAt
 go_simp
 simp only [semiUpon]
 refine ⟨trivial,?_⟩
 refine (hc _ hK.size hK).mono ?_
 rintro e' wc ⟨v1,v3,v4,rfl,h1,h3,h4,hbb⟩
 refine ⟨_,rfl,hKK _ _ ⟨hX.step hbb,hK.step hbb⟩ ?_⟩
 clear hKK KK
 replace hX:=hX.step hbb
 replace hK:=hK.step hbb
 have p1:=qbq h1.now
 have p3:=qbq h3.now
 have p4:=qbq h4.now
 obtain ⟨A3,c3,rfl,_⟩:=Its.form h3.now
 obtain ⟨A4,c4,rfl,_⟩:=Its.form h4.now
 clear hbb
 try simp only [Act.put,sx]
 iterate 6
  first
   | (refine qd3 rfl rfl (fun KK hKK=>?_)
      apply Exists.intro
      refine ⟨fun wq=>?_,hKK _ ?_⟩
      ·(unfold execOp;go_simp;with_reducible rfl)
      clear hKK KK
      simp only [Act.put,sx])
   | (refine qd2 rfl rfl (fun KK hKK=>?_)
      apply Exists.intro
      refine ⟨fun wq hq=>?_,hKK _ ?_⟩
      ·first
        | exact qad 42 _ _ rfl rfl ((hq.1.all _ _ _ (.head _)).loadAtSub (qc6 hL) rfl aggT sizT)
        | exact qad 26 _ _ rfl rfl ((hq.1.all _ _ _ (.head _)).loadCell (qcx hL) qap)
        | exact qad 26 _ _ rfl rfl ((hq.1.all _ _ _ (.head _)).loadCell (qcy hL) qap)
      clear hKK KK
      simp only [Act.put,sx])
 refine qgz rfl (fun KK hKK=>?_)
 refine stp1 hX aggT sizT (Ma.put_t (A:=A) (T':=N2) (vt':=v1) hA) rfl (by rw [Ma.clen (A:=A) hA];decide) (qfk p1) ?_
 intro wS hY hkS
 replace hK:=hK.put hkS (hY.all _ _ _ (.head _))
 replace h1:=Sv.over18 h1 hkS (.inr (.inl rfl))
 replace h3:=Sv.over18 h3 hkS (.inr (.inl rfl))
 replace h4:=Sv.over18 h4 hkS (.inr (.inl rfl))
 replace hX:=hY
 clear hY hkS
 refine qdq (hKK _ _ (fun q=>by cases q) ?_)
 clear hKK KK
 try simp only [Act.put,sx]
 iterate 2
  first
   | (refine qd3 rfl rfl (fun KK hKK=>?_)
      apply Exists.intro
      refine ⟨fun wq=>?_,hKK _ ?_⟩
      ·(unfold execOp;go_simp;with_reducible rfl)
      clear hKK KK
      simp only [Act.put,sx])
   | (refine qd2 rfl rfl (fun KK hKK=>?_)
      apply Exists.intro
      refine ⟨fun wq hq=>?_,hKK _ ?_⟩
      ·first
        | exact qad 42 _ _ rfl rfl ((hq.1.all _ _ _ (.head _)).loadAtSub (qc6 hL) rfl aggT sizT)
        | exact qad 26 _ _ rfl rfl ((hq.1.all _ _ _ (.head _)).loadCell (qcx hL) qap)
        | exact qad 26 _ _ rfl rfl ((hq.1.all _ _ _ (.head _)).loadCell (qcy hL) qap)
      clear hKK KK
      simp only [Act.put,sx])
 refine qgz rfl (fun KK hKK=>?_)
 refine stk1 hX qc0 (Ma.set_m (A:=({A with T:=N2}:Ma)) hA M2 _) (by rw [Ma.clen (A:=({A with T:=N2}:Ma)) hA];decide) p3 ?_
 intro wS hY hkS
 replace hK:=hK.put hkS (hY.all _ _ _ (.head _))
 replace h1:=Sv.over18 h1 hkS (.inr (.inl rfl))
 replace h3:=Sv.over18 h3 hkS (.inr (.inl rfl))
 replace h4:=Sv.over18 h4 hkS (.inr (.inl rfl))
 replace hX:=hY
 clear hY hkS
 refine qdq (hKK _ _ (fun q=>by cases q) ?_)
 clear hKK KK
 try simp only [Act.put,sx]
 iterate 2
  first
   | (refine qd3 rfl rfl (fun KK hKK=>?_)
      apply Exists.intro
      refine ⟨fun wq=>?_,hKK _ ?_⟩
      ·(unfold execOp;go_simp;with_reducible rfl)
      clear hKK KK
      simp only [Act.put,sx])
   | (refine qd2 rfl rfl (fun KK hKK=>?_)
      apply Exists.intro
      refine ⟨fun wq hq=>?_,hKK _ ?_⟩
      ·first
        | exact qad 42 _ _ rfl rfl ((hq.1.all _ _ _ (.head _)).loadAtSub (qc6 hL) rfl aggT sizT)
        | exact qad 26 _ _ rfl rfl ((hq.1.all _ _ _ (.head _)).loadCell (qcx hL) qap)
        | exact qad 26 _ _ rfl rfl ((hq.1.all _ _ _ (.head _)).loadCell (qcy hL) qap)
      clear hKK KK
      simp only [Act.put,sx])
 refine qld ?_
 simp only [List.drop_succ_cons,List.drop_zero]
 go_wp2_with (first|((with_reducible refine qa9 26 ?_);refine stk1 hX qc0 (Ma.set_b (A:=({A with T:=N2,M:=M2}:Ma)) hA B2 _) (by rw [Ma.clen (A:=({A with T:=N2,M:=M2}:Ma)) hA];decide) p4 ?_;intro wS hY hkS;replace hK:=hK.put hkS (hY.all _ _ _ (.head _));replace h1:=Sv.over18 h1 hkS (.inr (.inl rfl));replace h3:=Sv.over18 h3 hkS (.inr (.inl rfl));replace h4:=Sv.over18 h4 hkS (.inr (.inl rfl));replace hX:=hY;clear hY hkS))
 exact bodyPost_end (results_none rfl _ _ _) rfl ⟨rfl,⟨_,_,_,_,_,_,DSt.dev hS hK hX rfl h3 h4 (Sv.kb hS.s hK.one) (Sv.kb hS.d hK.one) h1⟩,hK.one⟩
open Go.RowKit Go.Shelf
theorem Sv.of_own2 {X:Nat→Prop} {w:World} {base s n:Nat} {t:TypeId} {v:Value} {xs:List Value} (h:w.ownsRow base t s v n xs) (hX:∀ b,X b→base≤b→∀ cur,w.heap[b]? = some (.cells cur t (0,0))→False):Sv X w v n xs:=fun w' hk=>by
 refine Rz.of_own (w:=w') (base:=base) (s:=s) (t:=t) ⟨h.1,?_⟩
 rcases h.2 with h0|⟨g,cap,cur,hv,hg,hh,r⟩
 ·exact .inl h0
 ·exact .inr ⟨g,cap,cur,hv,hg,(hk g (Array.getElem?_eq_some_iff.1 hh).1 (fun hx=>hX g hx hg cur hh)).trans hh,r⟩
theorem DSt.fresh {X:Nat→Prop} {w0 w:World} {B N:Nat} {A:Ma} {vm vb vl vs vd vt:Value} (hXl:∀ b,X b→b<N) (hNl:N≤w.heap.size) (hX:Bag [(B,44,A.cells vm vb vl vs vd vt)] w0 w) (hBN:B<N) (hN:w0.heap.size≤N) (hm:∀ g,(g=B∨N≤g∧∃ cur,w.heap[g]? = some (.cells cur 68 (0,0)))→ItsX (XY X B g) w vm A.M∧ItsX (XY X B g) w vb A.B∧StsX (XY X B g) w vs A.K.D.S∧ItsX (XY X B g) w vd A.K.D.B∧StsX (XY X B g) w vt A.T.R) (ql:w.ownsRow N 68 9 vl A.L.length (A.L.flatMap lnL)):∃ g,DSt X w0 B g w A vm vb vl vs vd vt∧(g=B∨N≤g∧∃ cur,w.heap[g]? = some (.cells cur 68 (0,0))):=by
 have hBl:=(hX.all _ _ _ (.head _)).lt
 have hBh:=hX.all _ _ _ (.head _)
 rcases ql.2 with ⟨rfl,h0⟩|⟨g,cap,cur,rfl,hg,hh,hnc,hm9,hcs,hxs⟩
 ·obtain ⟨h1,h2,h3,h4,h5⟩:=hm B (.inl rfl)
  refine ⟨B,⟨hX,h1,h2,h3,h4,h5,.inl ⟨List.eq_nil_of_length_eq_zero h0,rfl⟩,fun b q=>?_⟩,.inl rfl⟩
  rcases q with q|rfl|rfl
  ·exact Nat.lt_of_lt_of_le (hXl b q) hNl
  ·exact hBl
  ·exact hBl
 ·have hgl:=(Array.getElem?_eq_some_iff.1 hh).1
  obtain ⟨h1,h2,h3,h4,h5⟩:=hm g (.inr ⟨hg,cur,hh⟩)
  refine ⟨g,⟨hX,h1,h2,h3,h4,h5,.inr ⟨by omega,by omega,hgl,cap,cur.toList.drop (A.L.length*9),rfl,hnc,?_⟩,fun b q=>?_⟩,.inr ⟨hg,cur,hh⟩⟩
  ·show w.heap[g]? = some _
   rw [hh,← hxs,List.take_append_drop]
  ·rcases q with q|rfl|rfl
   ·exact Nat.lt_of_lt_of_le (hXl b q) hNl
   ·exact hBl
   ·exact hgl
theorem Sv.fresh {X:Nat→Prop} {w:World} {N B g s n:Nat} {t:TypeId} {v:Value} {xs:List Value} (h:w.ownsRow N t s v n xs) (hX:∀ b,X b→b<N) (hB:B<N) (ht:t≠68) (hg:g=B∨N≤g∧∃ cur,w.heap[g]? = some (.cells cur 68 (0,0))):Sv (XY X B g) w v n xs :=
 Sv.of_own2 h fun b q hb cur e=>by
  rcases q with q|rfl|rfl
  ·have:=hX b q;omega
  ·omega
  ·rcases hg with rfl|⟨_,c2,h2⟩
   ·omega
   ·rw [e] at h2;cases h2;exact ht rfl
theorem DSt.copied {X:Nat→Prop} {w0 w:World} {B N:Nat} {A:Ma} {vm vb vl vs vd vt:Value} (hXl:∀ b,X b→b<N) (hNl:N≤w.heap.size) (hX:Bag [(B,44,A.cells vm vb vl vs vd vt)] w0 w) (hBN:B<N) (hN:w0.heap.size≤N) (qm:w.ownsRow N 3 1 vm A.M.length (A.M.map (Value.int .i64))) (qb:w.ownsRow N 3 1 vb A.B.length (A.B.map (Value.int .i64))) (hF:FrD N w A vl vs vd vt):∃ g,DSt X w0 B g w A vm vb vl vs vd vt∧(g=B∨N≤g∧∃ cur,w.heap[g]? = some (.cells cur 68 (0,0))) :=
 DSt.fresh hXl hNl hX hBN hN (fun g hg=>⟨Sv.fresh qm hXl hBN (by decide) hg,Sv.fresh qb hXl hBN (by decide) hg,Sv.fresh hF.s hXl hBN (by decide) hg,Sv.fresh hF.d hXl hBN (by decide) hg,Sv.fresh hF.t hXl hBN (by decide) hg⟩) hF.l
theorem Bag.kpt {R:List (Nat×TypeId×List Value)} {w0 w w':World} {B g:Nat} (h:Bag R w0 w) (hK:Kpt B g w w') (hR:∀ b∈R,b.1≠B∧b.1≠g) (hb:Below w0.heap.size w0 w'):Bag R w0 w' :=
 ⟨fun b t cs hm=>(hK.same b (h.all b t cs hm).lt (hR _ hm).1 (hR _ hm).2).trans (h.all b t cs hm),hb,h.lo,h.dis⟩
def LpI (R:List (Nat×TypeId×List Value)) (X:Nat→Prop) (w0:World) (B g N:Nat) (A:Ma) (W:World):Prop:=(∃ vm vb vl vs vd vt,DSt X w0 B g W A vm vb vl vs vd vt)∧Bag R w0 W∧N≤W.heap.size
theorem LpI.own {β:Type} {N:Nat} {R:List (Nat×TypeId×List Value)} {X:Nat→Prop} {w0:World} {B g:Nat} (f:β→Ma) (hN:w0.heap.size≤N):OwnFrom N (fun (s:β) W=>LpI R X w0 B g N (f s) W) :=
 fun s W W' row hs hg hr=>by
  obtain ⟨⟨vm,vb,vl,vs,vd,vt,hS⟩,hB,hz⟩:=hs
  have hr':∀ r,row=some r→w0.heap.size≤r∧NoCells W r:=fun r e=>⟨Nat.le_trans hN (hr r e).1,(hr r e).2⟩
  exact ⟨⟨_,_,_,_,_,_,hS.grown hg hr'⟩,hB.grown hg hr',Nat.le_trans hz hg.size⟩
theorem Kpt.from {B g N:Nat} {W W':World} (h:Kpt B g W W') (hB:B<N) (hg:g<N):KeepsFrom N W W' :=
 ⟨h.size,fun k o hk ho _=>(h.same k (Array.getElem?_eq_some_iff.1 ho).1 (by omega) (by omega)).trans ho⟩
theorem Bag.two {a b:Nat×TypeId×List Value} {w0 w:World} (ha:Bag [a] w0 w) (hb:Bag [b] w0 w) (hne:a.1≠b.1):Bag [a,b] w0 w:=by
 refine ⟨fun B t cs hm=>?_,ha.below,fun x hx=>?_,?_⟩
 ·rcases List.mem_cons.1 hm with e|e
  ·exact ha.all B t cs (by rw [← e];exact .head _)
  ·exact hb.all B t cs e
 ·rcases List.mem_cons.1 hx with e|e
  ·rw [e];exact ha.lo a (.head _)
  ·exact hb.lo x e
 ·simp only [List.map_cons,List.map_nil,List.nodup_cons,List.mem_cons,List.not_mem_nil,or_false,not_false_eq_true,List.nodup_nil,and_true]
  exact hne
def XR (X:Nat→Prop) (r b:Nat):Prop:=X b∨b=r
theorem MaV.to {X Y:Nat→Prop} {w w':World} {A:Ma} {vm vb vl vs vd vt:Value} (h:MaV X w A vm vb vl vs vd vt) (hk:∀ b,b<w.heap.size→¬ X b→w'.heap[b]? = w.heap[b]?) (hY:∀ b,Y b→X b):MaV Y w' A vm vb vl vs vd vt:=⟨Sv.off h.m hk fun b _ q=>hY b q,Sv.off h.b hk fun b _ q=>hY b q,Sv.off h.l hk fun b _ q=>hY b q,Sv.off h.s hk fun b _ q=>hY b q,Sv.off h.d hk fun b _ q=>hY b q,Sv.off h.t hk fun b _ q=>hY b q⟩
theorem MaV.grown {X:Nat→Prop} {w w':World} {A:Ma} {vm vb vl vs vd vt:Value} {row:Option Nat} (h:MaV X w A vm vb vl vs vd vt) (hg:w.grownBy w' row) (hr:∀ r,row=some r→NoCells w r):MaV X w' A vm vb vl vs vd vt:=⟨Sv.grown h.m hg hr,Sv.grown h.b hg hr,Sv.grown h.l hg hr,Sv.grown h.s hg hr,Sv.grown h.d hg hr,Sv.grown h.t hg hr⟩
theorem qgi {B:Nat} {w:World} (hB:B<w.heap.size) (W:World) (l:Nat) (o o':Obj) (hl:w.heap.size≤l) (_:W.heap[l]? = some o) (_:o.isCells=false) (_:o.isWalk=false):KpB B W (W.putObj l o'):=World.putObj_heap_other (by omega)
theorem qor {α β:Type} {P:β→Prop} (f:β→α→β) (h:∀ b a,P b→P (f b a)):∀ (l:List α) (b:β),P b→P (l.foldl f b)
 | [],_,hb=>hb
 | a :: l,b,hb=>qor f h l (f b a) (h b a hb)
def Ma.fine (n:Nat) (A:Ma):Prop:=A.ok∧A.right=true∧A.L.length=n
theorem quf {n:Nat} {A:Ma} (h:A.fine n) (x:Fin (n+4)):(A.dTick x.val).fine n:=⟨dTick_ok h.1 _,qnj h.2.1 (by rw [h.2.2];exact x.isLt),(qtm A _).trans h.2.2⟩
theorem qtp {n:Nat} {xs:List (Fin (n+4))} (h:SDev n xs) (f:Ma→Nat→Ma) (A:Ma):xs.foldl (fun B x=>f B x.val) A=(List.range (n+4)).foldl f A:=by
 rw [← show xs.map Fin.val=List.range (n+4) from h,List.foldl_map]
theorem Blk.loadVarC {P:Program} {t T:TypeId} {w:World} {B k:Nat} {cs:List Value} {v:Value} (h:Blk t w B cs) (hk:cs[k]? = some v) (hagg:∀ w,(isAgg T).run P w=.ok false w):(Go.loadVar T ⟨B,k,none⟩).run P w=.ok v w:=by
 simp only [Go.loadVar,Sem.run_bind,hagg,Result.andThen_ok,Bool.false_eq_true,if_false]
 show (Sem.load _ _ _).run P w=_
 simp only [Sem.run,h.cell hk]
theorem qgg {A:Ma} (hR:A.right=true):A.fewM:=by
 obtain ⟨h1,_,h3,_,_,h6,h7⟩:=Ma.parts hR
 have h8:=qmy h6
 have h9:=qfp h3
 have h10:=tp_len h7
 exact ⟨⟨by omega,h8.1,h8.2,h10⟩,h9.1,h9.2⟩
open Go Go.RowKit
section
variable {P:Program} {ops:Array Oper} {Q:Exit→Act→World→Prop}
theorem qry {S:World→Prop} {F:Act→World→Prop} {i:Nat} {lo:List Oper} {l:List (Nat×Bool)} {a:Act} {w:World} {o:Oper} (ho:lo[i]? = some o)
 (h:∀ K:Act→World→Prop,(∀ a' w',S w'→wpHp P lo.toArray Q S F l a' w'→K a' w')→wpList P lo.toArray (Exit.then K Q) [o] a w):wpHp P lo.toArray Q S F ((i,true) :: l) a w :=
 qks (by rw [List.getElem?_toArray];exact ho) (h _ fun _ _ h1 h2=>⟨h1,h2⟩)
end
section
variable {ops:Array Oper} {rest:List Oper} {o:Oper} {a:Act} {w w1:World} {Q:Exit→Act→World→Prop} {T:TypeId} {z:List Value}
theorem at_bd18 {l:List Oper} {T ty:TypeId} {xs:Array (Nat×Operand)} {dst:Option Tmp} {pos:String} {after:Array Edge} {g:Option (Nat×Bool)} (h:wpList Tryz.prog ops Q ({dst:=dst,op:=.build T xs,type:=ty,pos:=pos,after:=after,guard:=g} :: l) a w):wpList Tryz.prog ops Q ({dst:=dst,op:=.build T xs,type:=ty,pos:=pos,after:=after,guard:=g} :: l) a w:=h
theorem bld18 {xs:Array (Nat×Operand)} (v:Value) (hop:o.op=Op.build T xs) (hw:Region.wanted o (yielded ops a.tmps)=true) (hrun:∀ w,(Instr.build T (xs.map fun p=>(p.1,a.eval p.2))).run Tryz.prog w=.ok v w) (h:wpList Tryz.prog ops Q rest (a.put o.dst v) w):wpList Tryz.prog ops Q (o :: rest) a w :=
 BigFrame.wpList_want hw fun _ hK=>by
  unfold Oper.wp execOp
  simp only [hop,hrun,Sem.run_bind,Sem.run_pure,Result.andThen_ok]
  exact hK _ _ h
end
theorem one18 {v u:Value} (h1:v.oneCell'=true) (h2:u.oneCell'=true):∀ x∈([v,u]:List Value),x.oneCell'=true:=by
 intro x hx
 simp at hx
 rcases hx with rfl|rfl<;>assumption
def XN18 (X:Nat→Prop) (lo n b:Nat):Prop:=X b∨(lo≤b∧b<n)
theorem xn18 {X:Nat→Prop} {lo n:Nat} (hXl:∀ b,X b→b<lo) (hn:lo≤n):∀ b,XN18 X lo n b→b<n:=fun b q=>by
 rcases q with q|q
 ·have:=hXl b q;omega
 ·exact q.2
theorem xr_out {X:Nat→Prop} {n b:Nat} (hb:b<n) (q:XR X n b):X b:=by
 rcases q with q|rfl
 ·exact q
 ·omega
theorem aggD18 (w:World):(isAgg 38).run Tryz.prog w=.ok true w:=by kernel_rfl
theorem sizD18 (w:World):(sizeOf 38).run Tryz.prog w=.ok 2 w:=by kernel_rfl
def ma0:Ma:=⟨List.replicate 10 (.int .i64 0),newL 256,[],Un.z,(newK 100).1,[Ln.new],Dk.new (newV 1).1,(newT []).1,0,false,false,0,false⟩
def ma1 (K:Dk) (c:Ck) (T:Tp):Ma:=⟨List.replicate 10 (.int .i64 0),newL 256,[],Un.z,c,[],K,T,0,false,false,0,false⟩
theorem qfx (K:Dk) (c:Ck) (T:Tp):(ma1 K c T).ok:=⟨rfl,fun v hv=>by rw [List.eq_of_mem_replicate hv];rfl,rfl⟩
theorem qcj:ma0.ok:=⟨rfl,fun v hv=>by rw [List.eq_of_mem_replicate hv];rfl,rfl⟩
theorem qeg:ma0.right=true:=by decide+kernel
theorem qq5 (w:World) (X:Nat→Prop) (hXl:∀ b,X b→b<w.heap.size):Calls Tryz.prog 27 #[.int .i64 256,.int .i64 1,.int .i64 1] w fun e' w'=>∃ x,e'=.returned (.tuple #[x,.int .i64 0])∧MaX X w' x ma0∧Below w.heap.size w w':=by
 have hX:=(Bag.nil w).new 44 mzL
 have h8:=fun wz=>rnew_any 256 wz
 rw [show newE 256=0 from by decide+kernel] at h8
 have hv2:(newV 1).2=0:=by decide+kernel
 have h15:=fun wz (X1:Nat→Prop) (h:∀ b,X1 b→b<wz.heap.size)=>qq7 1 wz X1 h
 have h16:=fun (vs vb:Value) wz (X1:Nat→Prop) (h:∀ b,X1 b→b<wz.heap.size) (h1:Sts wz vs (newV 1).1.S) (h2:Its wz vb (newV 1).1.B)=>qtr (newV 1).1 (by decide+kernel) (by decide+kernel) vs vb wz X1 h h1 h2
 have h17:=fun wz (X1:Nat→Prop) (h:∀ b,X1 b→b<wz.heap.size)=>qsu [] (by decide) (.slice none 0 0) wz X1 h (Sv.nil X1 wz).now
 rw [show (newT []).2=0 from by decide+kernel] at h17
 have h13:=fun wz=>qno 100 wz
 have h14:=fun wz=>qs5 wz
 rw [hv2] at h15
 go_enter Tryz.func27,Tryz.ntmps27
 go_upto_region 1 with (first|((with_reducible refine qbs ?_);refine qba rfl rfl ?_))
 generalize (w.alloc (Obj.cells mzL.toArray 44))=wQ at hX ⊢
 have hwQ:=hX.below.size
 go_wp2_with (first|(go_at_call 66;(with_reducible refine (h8 _).mono ?_);rintro e' wc ⟨rm,rfl,qm,hbb⟩;replace hX:=hX.step hbb;obtain ⟨Am,cm,rfl,_,_⟩:=Rw.of_own qm;clear hbb)|(go_at_call 67;have hX1l:∀ b,XR X w.heap.size b→b<wc.heap.size:=(fun b q=>by rcases q with q|rfl;(have h1:=hXl b q;have h2:=hX.below.size;omega);exact qat hX);(with_reducible refine (h15 _ _ hX1l).mono ?_);clear hX1l;rintro e' w5 ⟨x,rfl,⟨vs,vb,rfl,hs,hb⟩,hbb⟩;replace hX:=hX.step hbb;replace qm:=qag qm hbb;have hX5:=hbb.size;have p1:=qbq hs.now;have p2:=qbq hb.now;clear hbb)|((with_reducible refine qa9 38 ?_);refine stn hX aggD18 sizD18 (one18 p1 p2) (hn:=rfl) (hm:=rfl) ?_;intro w6 hY hb6;replace hX:=hY;replace qm:=qag qm hb6;replace hs:=Sv.below hs hb6;replace hb:=Sv.below hb hb6;have hX6:=hb6.size;clear hY hb6)|((with_reducible refine qay 38 ?_);refine ldw (hn:=rfl) hX aggD18 sizD18 ?_)|(go_at_call 68;have hN06:=qat hX.swap;have hx6:=xn18 hXl hX.below.size;have hc6:=h16 _ _ _ _ hx6 hs.now hb.now;(with_reducible refine hc6.mono ?_);clear hc6;rintro e' w7 ⟨x,rfl,⟨us,ub,rfl,hs2,hb2⟩,hbb⟩;replace hX:=hX.step hbb;replace qm:=qag qm hbb;have hX7:=hX.below.size;have p1:=qbq hs2.now;have p2:=qbq hb2.now;clear hbb hs hb hx6)|((with_reducible refine at_bd18 ?_);refine bld18 (.agg ((ma1 (Dk.new (newV 1).1) Ck.z Tp.z).cells (.slice Am (newL 256).length cm) (.slice none 0 0) (.slice none 0 0) us ub (.slice none 0 0)).toArray) rfl rfl (fun _=>by kernel_rfl) ?_)|((with_reducible refine qbs ?_);refine qba rfl rfl ?_)|((with_reducible refine qa9 44 ?_);refine stn (zs:=mzL) hX aggM sizM (Ma.cone (A:=ma1 (Dk.new (newV 1).1) Ck.z Tp.z) (vm:=.slice Am (newL 256).length cm) (vb:=.slice none 0 0) (vl:=.slice none 0 0) (vs:=us) (vd:=ub) (vt:=.slice none 0 0) (qfx _ _ _) rfl rfl rfl p1 p2 rfl) ?_ (hn:=Ma.clen (qfx _ _ _)) (hm:=qcr);intro w8 hY hb8;replace hX:=hY;replace qm:=qag qm hb8;have hs3:=Sv.weak hs2 hb8 (fun b hb q=>xr_out hb q);have hb3:=Sv.weak hb2 hb8 (fun b hb q=>xr_out hb q);have hX8:=qat hX;clear hY hb8 hs2 hb2)|(go_at_call 69;(with_reducible refine (h13 _).mono ?_);rintro e' w9 ⟨rfl,hbb⟩;replace hX:=hX.step hbb;replace qm:=qag qm hbb;replace hs3:=Sv.below hs3 hbb;replace hb3:=Sv.below hb3 hbb;have hX9:=hbb.size;clear hbb)|((with_reducible refine qa9 34 ?_);refine stp1 hX qbv qbx (Ma.put_k (k':=(newK 100).1) (A:=ma1 (Dk.new (newV 1).1) Ck.z Tp.z) (qfx _ _ _)) rfl (by rw [Ma.clen (qfx _ _ _)];decide) (qot _) ?_;intro w10 hY hkS;replace qm:=qac hX qm (by decide) hkS;replace hs3:=Sv.over18 hs3 hkS (.inr rfl);replace hb3:=Sv.over18 hb3 hkS (.inr rfl);have hX10:=qa7 hkS (hY.all _ _ _ (.head _));clear hX;have hX:Bag ((_,_,(ma1 (Dk.new (newV 1).1) (newK 100).1 Tp.z).cells _ _ _ _ _ _) :: _) w w10:=hY;clear hY hkS)|(go_at_call 70;have hx7:=xn18 hXl hX.below.size;(with_reducible refine (h17 _ _ hx7).mono ?_);rintro e' w11 ⟨x,rfl,⟨ut,rfl,ht⟩,hbb⟩;replace hX:=hX.step hbb;replace qm:=qag qm hbb;replace hs3:=Sv.below hs3 hbb;replace hb3:=Sv.below hb3 hbb;have hX11:=hbb.size;have p3:=qbq ht.now;clear hbb hx7)|((with_reducible refine qa9 42 ?_);refine stp1 hX aggT sizT (Ma.put_t (T':=(newT []).1) (A:=ma1 (Dk.new (newV 1).1) (newK 100).1 Tp.z) (qfx _ _ _)) rfl (by rw [Ma.clen (qfx _ _ _)];decide) (qfk p3) ?_;intro w12 hY hkS;replace qm:=qac hX qm (by decide) hkS;replace hs3:=Sv.over18 hs3 hkS (.inr rfl);replace hb3:=Sv.over18 hb3 hkS (.inr rfl);replace ht:=Sv.over18 ht hkS (.inr ⟨by omega,by omega⟩);have hX12:=qa7 hkS (hY.all _ _ _ (.head _));clear hX;have hX:Bag ((_,_,(ma1 (Dk.new (newV 1).1) (newK 100).1 (newT []).1).cells _ _ _ _ _ _) :: _) w w12:=hY;clear hY hkS))
 replace hX:=hX.swap.drop1
 have hN0:w.heap.size<w12.heap.size:=qat hX.swap
 have hN2:w7.heap.size<w12.heap.size:=qat hX
 refine wp_loop_rounds 2 ?_
 rw [rounds_succ]
 go_wp2_with fail
 have hd:=hX.drew
 refine qbw (fun w'=>Bag [(w7.heap.size,44,((ma1 (Dk.new (newV 1).1) (newK 100).1 (newT []).1).cells (.slice Am (newL 256).length cm) (.slice none 0 0) (.slice none 0 0) us ub ut)),(w.heap.size,44,mzL)] w w') 5 [(0,false),(1,false),(2,true),(3,true),(4,true)] (by kernel_rfl) (by kernel_rfl) (fun _ _ dd _ _ h=>by cases dd<;>exact h) hd ?_
 iterate 2
  refine qcm rfl rfl (fun KK hKK=>?_)
  apply Exists.intro
  refine ⟨fun wq hq=>?_,hKK _ ?_⟩
  ·try dsimp only at hq
   first
    | exact qad 35 _ _ rfl rfl ((hq.all _ _ _ (.head _)).loadCell (qcg (Ma.len (qfx _ _ _) _ _ _)) qax)
    | (unfold execOp;go_simp;with_reducible rfl)
  clear hKK KK
  simp only [Act.put,sx]
 refine qcu rfl rfl (fun KK hKK=>?_)
 unfold Oper.semiAt
 go_simp
 simp only [semiUpon]
 refine ⟨trivial,?_⟩
 refine (h14 _).mono ?_
 rintro e' wc ⟨rfl,hbb⟩
 have hXc:=hd.step hbb
 refine ⟨_,rfl,hKK _ _ hXc ?_⟩
 clear hKK KK
 simp only [Act.put,sx]
 refine qry rfl (fun KK hKK=>?_)
 refine qfa (y:=Ln.new) rfl _ rfl rfl rfl ?_
 intro wl hbl hcel
 have hXa:=hXc.step hbl
 refine qdq (hKK _ _ hXa ?_)
 clear hKK KK
 simp only [Act.put,sx]
 have hball:Below w12.heap.size w12 wl:=((Below.refl w12.heap.size w12).drew.trans (hbb.mono (Nat.le_refl _))).trans (hbl.mono hbb.size)
 refine qry rfl (fun KK hKK=>?_)
 refine qet rfl (.tmp 58) (.tmp 60) rfl w12.heap.size _ 0 [] rfl (World.ownsRow_nil _ _ _ _) _ 1 1 (lnL Ln.new) rfl rfl hcel (qs6 _) (by omega) hball.size ?_
 intro v2 w2 ho3 hb2
 have hX2:=hXa.stepN hb2 (by intro q hq;simp only [List.mem_cons,List.not_mem_nil,or_false] at hq;rcases hq with rfl|rfl<;>simp<;>omega) (by omega)
 refine qdq (hKK _ _ hX2 ?_)
 clear hKK KK
 have hbt:=hball.trans hb2
 simp only [Act.put,sx]
 refine qdm ?_
 simp only [List.drop_succ_cons,List.drop_zero]
 obtain ⟨Al,cl,rfl,_,_⟩:=Rw.of_own ho3
 replace qm:=qag qm hbt
 replace hs3:=Sv.below hs3 hbt
 replace hb3:=Sv.below hb3 hbt
 replace ht:=Sv.below ht hbt
 clear hX hd hXc hXa hb2 hbt hball hbl hbb
 go_wp2_with (first|((with_reducible refine qa9 35 ?_);refine stk1 hX2 qgx (Ma.set_l (A:=ma1 (Dk.new (newV 1).1) (newK 100).1 (newT []).1) (qfx _ _ _) [Ln.new] _) (by rw [Ma.clen (qfx _ _ _)];decide) rfl ?_;intro w13 hY hkS))
 have qm3:=qac hX2 qm (by decide) hkS
 have hl3:=qac hX2 ho3 (by decide) hkS
 replace hs3:=Sv.over18 hs3 hkS (.inr rfl)
 replace hb3:=Sv.over18 hb3 hkS (.inr rfl)
 replace ht:=Sv.over18 ht hkS (.inr ⟨by omega,by omega⟩)
 have hX:Bag [(w7.heap.size,44,ma0.cells (.slice Am (newL 256).length cm) (.slice none 0 0) (.slice Al 1 cl) us ub ut),(w.heap.size,44,mzL)] w w13:=hY
 clear hX2 hY hkS qm ho3
 rw [rounds_succ]
 go_wp2_with (first|((with_reducible refine qay 44 ?_);refine ldw (hn:=Ma.clen qcj) hX aggM sizM ?_)|((with_reducible refine qa9 44 ?_);refine stw2 hX aggM sizM (Ma.cone qcj rfl rfl rfl p1 p2 p3) (hn:=Ma.clen qcj) (hc:=qcr) ?_;intro w14 hY hk14))
 have hm4:=qac hX.swap qm3 (by decide) hk14
 have hl4:=qac hX.swap hl3 (by decide) hk14
 replace hs3:=Sv.over18 hs3 hk14 (.inl (.inr ⟨by omega,by omega⟩))
 replace hb3:=Sv.over18 hb3 hk14 (.inl (.inr ⟨by omega,by omega⟩))
 replace ht:=Sv.over18 ht hk14 (.inr ⟨by omega,by omega⟩)
 exact bodyPost_ret (qam (by rfl) rfl ((hY.all _ _ _ (.tail _ (.head _))).loadVar (Ma.clen qcj) aggM sizM)) rfl ⟨_,rfl,⟨_,_,_,_,_,_,rfl,Sv.of_own hm4 (fun b q=>by have:=hXl b q;omega),Sv.nil X _,Sv.of_own hl4 (fun b q=>by have:=hXl b q;omega),Sv.less18 hs3 fun b q=>.inl (.inl q),Sv.less18 hb3 fun b q=>.inl (.inl q),Sv.less18 ht fun b q=>.inl q⟩,hY.below⟩
attribute [local go_sem] Oper.semAt_some
end Go.Proofs.YthpnddgfgpacpaaGreat
