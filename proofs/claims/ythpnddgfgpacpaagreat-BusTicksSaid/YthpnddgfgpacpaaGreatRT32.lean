import Derived.Test.YthpnddgfgpacpaaGreatRT31
import Derived.Test.YthpnddgfgpacpaaGreatRT02
import Derived.Test.YthpnddgfgpacpaaGreatRT28
import Derived.Test.YthpnddgfgpacpaaGreatRT30
import Derived.Test.YthpnddgfgpacpaaGreatRT04
import Derived.Test.YthpnddgfgpacpaaGreatRT01
import Derived.Test.YthpnddgfgpacpaaGreatRT27
import Derived.Test.YthpnddgfgpacpaaGreatRT18
import Derived.Test.YthpnddgfgpacpaaGreatRT19
import Derived.Ground.SlgfProg
import Derived.Shelf.SlicesE.IndexFunc
import Derived.Shelf.SlicesE.DeleteFunc
import Derived.KernelRfl
import Derived.Test.YthpnddgfgpacpaaGreatProg
import Derived.Lib.SlKeysI
namespace Go.Proofs.YthpnddgfgpacpaaGreat
open Go.RowKit
set_option linter.unusedSimpArgs false
set_option linter.unusedVariables false
set_option maxHeartbeats 4000000
set_option maxRecDepth 100000
attribute [local irreducible] wpQuiet
abbrev MdRead (A:Ma) (B:Nat) (w:World) (f:Nat) (r:Value) (q v:Int) (ok:Bool):Prop:=Calls Tryz.prog f #[r,.pointer (some ⟨B,0,none⟩),.int .i64 q] w fun e' w'=>e'=.returned (.tuple #[.int .i64 v,.bool ok])∧Below w.heap.size w w'
theorem qrs (A:Ma) (hA:A.ok) (hR:A.right=true) (q:Int) (vm vb vl vs vd vt:Value) (w0 w:World) (B:Nat) (hX:Bag [(B,44,A.cells vm vb vl vs vd vt)] w0 w) (hN:MaNow w A vm vb vl vs vd vt):MdRead A B w 160 (.agg #[]) q (A.U.read q).1 (A.U.read q).2:=by
 obtain ⟨_,_,_,hU,_,hKr,hTr⟩:=Ma.parts hR
 have hB:=(Below.refl w.heap.size w).alloc (Nat.le_refl _) (.cells #[] 133)
 replace hX:=hX.step hB
 have hL:=Ma.len hA vs vd vt
 have hc:∀ wz,Calls Tryz.prog 166 #[.agg A.U.L.toArray,.int .i64 q] wz fun e' w'=>e'=.returned (.tuple #[.int .i64 (A.U.read q).1,.bool (A.U.read q).2])∧Below wz.heap.size wz w':=fun wz=>qqo A.U hA.2.2 hU q wz
 clear hN hR hKr hTr hU
 go_enter Tryz.func160,Tryz.ntmps160
 go_wp2_with (first|((with_reducible refine qay 32 ?_);refine ldp hX qb3 qbp (qh5 hL) (Un.len hA.2.2) ?_)|(go_at_call 166;(with_reducible refine (hc _).mono ?_);rintro e' wc ⟨rfl,hbb⟩;replace hX:=hX.step hbb;replace hB:=hB.trans (hbb.mono hB.size);clear hbb))
 go_ret2
 exact ⟨rfl,hB⟩
theorem qrb (A:Ma) (hA:A.ok) (hR:A.right=true) (q:Int) (vm vb vl vs vd vt:Value) (w0 w:World) (B:Nat) (hX:Bag [(B,44,A.cells vm vb vl vs vd vt)] w0 w) (hN:MaNow w A vm vb vl vs vd vt):MdRead A B w 195 (.agg #[]) q (A.K.rd q).1 (A.K.rd q).2:=by
 obtain ⟨_,_,_,hU,_,hKr,hTr⟩:=Ma.parts hR
 have hB:=(Below.refl w.heap.size w).alloc (Nat.le_refl _) (.cells #[] 135)
 replace hX:=hX.step hB
 have hc:0≤A.K.c∧A.K.c≤3:=by have h:=hKr;unfold Dk.right at h;rw [Bool.and_eq_true,Dk.ok_iff] at h;exact h.1.1
 have o4:=qbq hN.s
 have o5:=qbq hN.d
 have hL:=Ma.len hA vs vd vt
 have hc:∀ wz,Calls Tryz.prog 202 #[.agg (dkL vs vd A.K).toArray,.int .i64 q] wz fun e' w'=>e'=.returned (.tuple #[.int .i64 (A.K.rd q).1,.bool (A.K.rd q).2])∧Below wz.heap.size wz w':=fun wz=>qpy A.K q hc.1 hc.2 vs vd o4 o5 wz
 clear hN hR hKr hTr hU
 go_enter Tryz.func195,Tryz.ntmps195
 go_wp2_with (first|((with_reducible refine qay 40 ?_);refine ldp hX aggK sizK (qci hL) rfl ?_)|(go_at_call 202;(with_reducible refine (hc _).mono ?_);rintro e' wc ⟨rfl,hbb⟩;replace hX:=hX.step hbb;replace hB:=hB.trans (hbb.mono hB.size);clear hbb))
 go_ret2
 exact ⟨rfl,hB⟩
theorem qsq (A:Ma) (hA:A.ok) (hR:A.right=true) (q:Int) (vm vb vl vs vd vt:Value) (w0 w:World) (B:Nat) (hX:Bag [(B,44,A.cells vm vb vl vs vd vt)] w0 w) (hN:MaNow w A vm vb vl vs vd vt):MdRead A B w 233 (.agg #[]) q (A.T.rd q).1 (A.T.rd q).2:=by
 obtain ⟨_,_,_,hU,_,hKr,hTr⟩:=Ma.parts hR
 have hB:=(Below.refl w.heap.size w).alloc (Nat.le_refl _) (.cells #[] 136)
 replace hX:=hX.step hB
 have hc:0≤A.T.c∧A.T.c≤6:=((Tp.right_iff A.T).1 hTr).1.2.2.1
 obtain ⟨A1,c1,ev,_⟩:=hN.t.form
 have hL:=Ma.len hA vs vd vt
 have hc:∀ wz,Calls Tryz.prog 240 #[.agg (tpL vt A.T).toArray,.int .i64 q] wz fun e' w'=>e'=.returned (.tuple #[.int .i64 (A.T.rd q).1,.bool (A.T.rd q).2])∧Below wz.heap.size wz w':=by rw [ev];exact fun wz=>qp8 A.T q hc.1 hc.2 A1 _ c1 wz
 clear hN hR hKr hTr hU ev
 go_enter Tryz.func233,Tryz.ntmps233
 go_wp2_with (first|((with_reducible refine qay 42 ?_);refine ldp hX aggT sizT (qc6 hL) rfl ?_)|(go_at_call 240;(with_reducible refine (hc _).mono ?_);rintro e' wc ⟨rfl,hbb⟩;replace hX:=hX.step hbb;replace hB:=hB.trans (hbb.mono hB.size);clear hbb))
 go_ret2
 exact ⟨rfl,hB⟩
theorem qr9 (A:Ma) (hA:A.ok) (q:Int) (vm vb vl vs vd vt:Value) (w0 w:World) (B:Nat) (hX:Bag [(B,44,A.cells vm vb vl vs vd vt)] w0 w):MdRead A B w 180 (.agg #[]) q (if q=0 then A.k.read else 0) (decide (q=0)):=by
 have hB:=(Below.refl w.heap.size w).alloc (Nat.le_refl _) (.cells #[] 134)
 replace hX:=hX.step hB
 have hL:=Ma.len hA vs vd vt
 have hc:∀ wz,Calls Tryz.prog 187 #[.agg A.k.L.toArray] wz fun e' w'=>e'=.returned (.int .i64 A.k.read)∧Below wz.heap.size wz w':=fun wz=>ql1 A.k wz
 by_cases q0:q=0
 ·subst q0
  go_enter Tryz.func180,Tryz.ntmps180
  go_wp2_with (first|((with_reducible refine qay 34 ?_);refine ldp hX qbv qbx (qgw hL) rfl ?_)|(go_at_call 187;(with_reducible refine (hc _).mono ?_);rintro e' wc ⟨rfl,hbb⟩;replace hX:=hX.step hbb;replace hB:=hB.trans (hbb.mono hB.size);clear hbb))
  go_ret2
  exact ⟨rfl,hB⟩
 ·have e0:(q != 0)=true:=by simpa using q0
  rw [if_neg q0,decide_eq_false q0]
  go_enter Tryz.func180,Tryz.ntmps180
  go_wp2
  go_ret2
  exact ⟨rfl,hB⟩
theorem qe6 (q:Int) (w:World):Calls Tryz.prog 273 #[.int .i64 q] w fun e' w'=>e'=.returned (.bool (decide (0≤q) && decide (q<8)))∧w=w':=by
 by_cases h:0≤q
 ·have d1:decide (0≤q)=true:=decide_eq_true h
  go_enter Tryz.func273,Tryz.ntmps273
  go_wp2
  go_ret
  exact ⟨by simp [d1],rfl⟩
 ·have d1:decide (0≤q)=false:=decide_eq_false h
  go_enter Tryz.func273,Tryz.ntmps273
  go_wp2
  go_ret
  exact ⟨by simp [d1],rfl⟩
theorem qj1 {L:List Ln} {k:Nat} {x:Ln} (hx:L[k]? = some x) (J:List Value):∀ j v,(lnL x)[j]? = some v→(L.flatMap lnL++J)[k*9+j]? = some v:=fun j v h=>by
 have h1:=qfo (g:=lnL) (s:=9) (fun _=>rfl) L k x hx j v h
 rw [List.getElem?_append_left (List.getElem?_eq_some_iff.1 h1).1]
 exact h1
theorem qkd {L:List Ln} {k:Nat} (hk:k<L.length) (y:Ln) (J:List Value):(L.flatMap lnL++J).take (k*9)++lnL y++(L.flatMap lnL++J).drop (k*9+9)=(L.set k y).flatMap lnL++J:=by
 have e:L=L.take k++(L[k] :: L.drop (k+1)):=by
  rw [← List.drop_eq_getElem_cons hk,List.take_append_drop]
 have hl:((L.take k).flatMap lnL).length=k*9:=by rw [qht,List.length_take,Nat.min_eq_left (by omega)]
 have e1:L.flatMap lnL++J=(L.take k).flatMap lnL++(lnL L[k]++((L.drop (k+1)).flatMap lnL++J)):=by
  conv=>lhs;rw [e]
  rw [List.flatMap_append,List.flatMap_cons]
  simp only [List.append_assoc]
 have e2:(L.set k y).flatMap lnL=(L.take k).flatMap lnL++(lnL y++(L.drop (k+1)).flatMap lnL):=by
  rw [List.set_eq_take_append_cons_drop,if_pos hk,List.flatMap_append,List.flatMap_cons]
 rw [e1,e2,List.take_left' hl,List.drop_append,List.drop_eq_nil_of_le (by omega),hl,show k*9+9 - k*9=9 by omega,List.drop_left' (show (lnL L[k]).length=9 from rfl)]
 simp only [List.nil_append,List.append_assoc]
theorem qj4 {L:List Ln} {k:Nat} (hk:k<L.length) (J:List Value):k*9+9≤(L.flatMap lnL++J).length:=by
 rw [List.length_append,qht]
 have:(k+1)*9≤L.length*9:=Nat.mul_le_mul_right 9 (by omega)
 omega
theorem qkb (y:Ln):∀ v∈lnL y,v.oneCell'=true:=by
 intro v hv
 unfold lnL at hv
 simp only [List.mem_cons,List.not_mem_nil,or_false] at hv
 rcases hv with rfl|rfl|rfl|rfl|rfl|rfl|rfl|rfl|rfl<;>rfl
section
variable {X:Nat→Prop} {w0 w w':World} {B g:Nat} {A:Ma} {vm vb vl vs vd vt:Value}
theorem DSt.two (h:DSt X w0 B g w A vm vb vl vs vd vt) {k:Nat} (hk:k<A.L.length):∃ c J,vl=.slice (some ⟨g,0,none⟩) A.L.length c∧A.L.length≤c∧g≠B∧Bag [(g,68,A.L.flatMap lnL++J),(B,44,A.cells vm vb vl vs vd vt)] w0 w:=by
 rcases h.row with ⟨h1,_⟩|⟨h1,h2,h3,c,J,h4,h5,h6⟩
 ·rw [h1] at hk;exact absurd hk (Nat.not_lt_zero _)
 ·refine ⟨c,J,h4,h5,h1,⟨fun b t cs hm=>?_,h.bag.below,fun b hm=>?_,?_⟩⟩
  ·rcases List.mem_cons.1 hm with e|e
   ·cases e;exact h6
   ·exact h.bag.all b t cs e
  ·rcases List.mem_cons.1 hm with e|e
   ·rw [e];exact h2
   ·exact h.bag.lo b e
  ·simp only [List.map_cons,List.map_nil,List.nodup_cons,List.mem_cons,List.not_mem_nil,or_false,not_false_eq_true,List.nodup_nil,and_true]
   exact h1
theorem Bag.drop2 {a b:Nat×TypeId×List Value} {l:List (Nat×TypeId×List Value)} (h:Bag (a :: b :: l) w0 w):Bag (a :: l) w0 w:=by
 have e:∀ x,x∈a :: l→x∈a :: b :: l:=fun x hx=>by
  simp only [List.mem_cons] at hx ⊢
  rcases hx with h|h
  ·exact .inl h
  ·exact .inr (.inr h)
 refine ⟨fun B t cs hm=>h.all B t cs (e _ hm),h.below,fun x hx=>h.lo x (e x hx),?_⟩
 have d:=h.dis
 simp only [List.map_cons,List.nodup_cons,List.mem_cons,not_or] at d ⊢
 exact ⟨d.1.2,d.2.2⟩
theorem DSt.setL {c k:Nat} {J:List Value} {y:Ln} (h:DSt X w0 B g w A vm vb (.slice (some ⟨g,0,none⟩) A.L.length c) vs vd vt) (hc:A.L.length≤c) (hne:g≠B) (hX:Bag [(g,68,(A.L.set k y).flatMap lnL++J),(B,44,A.cells vm vb (.slice (some ⟨g,0,none⟩) A.L.length c) vs vd vt)] w0 w') (hK:Kpt B g w w'):DSt X w0 B g w' (A.setL k y) vm vb (.slice (some ⟨g,0,none⟩) A.L.length c) vs vd vt:=by
 have hg:=hX.all _ _ _ (.head _)
 refine ⟨⟨fun b t cs hm=>hX.all b t cs (List.mem_cons_of_mem _ hm),hX.below,fun b hm=>hX.lo b (List.mem_cons_of_mem _ hm),by simp⟩,Sv.kb h.m hK,Sv.kb h.b hK,Sv.kb h.s hK,Sv.kb h.d hK,Sv.kb h.t hK,.inr ⟨hne,hX.lo _ (.head _),hg.lt,c,J,?_,?_,hg⟩,fun b q=>Nat.lt_of_lt_of_le (h.xl b q) hK.size⟩
 ·show _=Value.slice _ (A.L.set k y).length c
  rw [List.length_set]
 ·show (A.L.set k y).length≤c
  rw [List.length_set];exact hc
end
theorem qul (A:Ma) (hA:A.ok) (hR:A.right=true) (k:Nat) (hk:k<A.L.length) (vm vb vl vs vd vt:Value) (X:Nat→Prop) (w0 w:World) (B g:Nat) (hS:DSt X w0 B g w A vm vb vl vs vd vt):Calls Tryz.prog 270 #[.int .i64 k,.pointer (some ⟨B,0,none⟩)] w (DevS X w0 B g w (A.setL k (A.line k).tick) (.tuple #[])):=by
 have hL:=Ma.len hA vs vd vt
 obtain ⟨c,J,rfl,hc,hne,hX⟩:=hS.two hk
 obtain ⟨x,hx⟩:∃ x,A.L[k]? = some x:=⟨_,List.getElem?_eq_getElem hk⟩
 have i0:(0:Int)≤(k:Int):=by omega
 have i1:(k:Int)<(A.L.length:Int):=by omega
 have e:A.line k=x:=by unfold Ma.line;rw [List.getD_eq_getElem?_getD,hx];rfl
 have hxr:x.right=true:=e▸qd9 hR hk
 have hfin:=fun (w':World) (y:Ln)=>DSt.setL (w':=w') (k:=k) (J:=J) (y:=y) hS hc hne
 rw [e]
 clear e hS hR
 have hl:∀ wz,Calls Tryz.prog 278 #[.agg (lnL x).toArray] wz fun e' w'=>e'=.returned (.agg (lnL x.tick).toArray)∧Below wz.heap.size wz w':=fun wz=>qp5 x hxr wz
 go_enter Tryz.func270,Tryz.ntmps270
 go_wp2
 refine qbn (fun w'=>Bag [(g,68,A.L.flatMap lnL++J),(B,44,A.cells vm vb (.slice (some ⟨g,0,none⟩) A.L.length c) vs vd vt)] w0 w'∧Kpt B g w w') 14 (by kernel_rfl) (by kernel_rfl) ⟨hX.drew,(Kpt.refl B g w).step (Below.refl _ w).drew⟩ ?_
 repeat
  first
   | (refine BigFrame.wpQuiet_skip (by rfl) ?_
      simp only [Act.put,sx])
   | (refine BigFrame.wpQuiet_want (by rfl) (fun K hK=>?_)
      apply Exists.intro
      refine ⟨fun wq hq=>?_,hK _ ?_⟩
      ·first
        | (refine qar 35 _ _ _ rfl rfl ((hq.1.all _ _ _ (.tail _ (.head _))).loadCell (qcg hL) qax))
        | (refine qar 68 _ _ _ rfl rfl ((hq.1.all _ _ _ (.head _)).loadAtSub (qj1 hx J) rfl qjm qj0))
        | (unfold Oper.quietAt
           go_simp
           first
            | with_reducible rfl
            | ((go_at_call 278);with_reducible refine (hl _).mono ?_;exact fun e w' ⟨he,hw⟩=>⟨he,hq.1.step hw,hq.2.step hw⟩)
          )
      clear hK K
      simp only [Act.put,sx])
 refine wpQuiet_nil ?_
 clear hX
 intro w4 hX
 simp only [List.drop_succ_cons,List.drop_zero]
 go_wp2_with (first|((with_reducible refine qa9 68 ?_);refine stp1 hX.1 qjm qj0 (qkd hk x.tick J) rfl (qj4 hk J) (qkb _) ?_;intro wS hY hkS;replace hK:=hX.2.putg hkS (hY.all _ _ _ (.head _));replace hX:=hY;clear hY hkS))
 exact bodyPost_end (results_none rfl _ _ _) rfl ⟨rfl,⟨_,_,_,_,_,_,hfin _ _ hX hK⟩,hK⟩
theorem qpz (A:Ma) (hA:A.ok) (hR:A.right=true) (q v:Int) (k:Nat) (hk:k<A.L.length) (hq:0≤q∧q<8) (vm vb vl vs vd vt:Value) (X:Nat→Prop) (w0 w:World) (B g:Nat) (hS:DSt X w0 B g w A vm vb vl vs vd vt):Calls Tryz.prog 271 #[.int .i64 k,.pointer (some ⟨B,0,none⟩),.int .i64 q,.int .i64 v] w (DevS X w0 B g w (A.setL k ((A.line k).wr q v)) (.bool true)):=by
 have hL:=Ma.len hA vs vd vt
 obtain ⟨c,J,rfl,hc,hne,hX⟩:=hS.two hk
 obtain ⟨x,hx⟩:∃ x,A.L[k]? = some x:=⟨_,List.getElem?_eq_getElem hk⟩
 have i0:(0:Int)≤(k:Int):=by omega
 have i1:(k:Int)<(A.L.length:Int):=by omega
 have e:A.line k=x:=by unfold Ma.line;rw [List.getD_eq_getElem?_getD,hx];rfl
 have hxr:x.right=true:=e▸qd9 hR hk
 have hfin:=fun (w':World) (y:Ln)=>DSt.setL (w':=w') (k:=k) (J:=J) (y:=y) hS hc hne
 rw [e]
 clear e hS hR
 have hlr:∀ wz,Calls Tryz.prog 273 #[.int .i64 q] wz fun e' w'=>e'=.returned (.bool true)∧wz=w':=fun wz=>by have h:=qe6 q wz;rw [decide_eq_true hq.1,decide_eq_true hq.2] at h;exact h
 clear hq
 have hl:∀ wz,Calls Tryz.prog 279 #[.agg (lnL x).toArray,.int .i64 q,.int .i64 v] wz fun e' w'=>e'=.returned (.agg (lnL (x.wr q v)).toArray)∧Below wz.heap.size wz w':=fun wz=>pwr_any x q v wz
 go_enter Tryz.func271,Tryz.ntmps271
 go_wp2_with (first|(go_at_call 273;(with_reducible refine (hlr _).mono ?_);rintro e' wc ⟨rfl,rfl⟩))
 refine qbn (fun w'=>Bag [(g,68,A.L.flatMap lnL++J),(B,44,A.cells vm vb (.slice (some ⟨g,0,none⟩) A.L.length c) vs vd vt)] w0 w'∧Kpt B g w w') 16 (by kernel_rfl) (by kernel_rfl) ⟨hX.drew,(Kpt.refl B g w).step (Below.refl _ w).drew⟩ ?_
 repeat
  first
   | (refine BigFrame.wpQuiet_skip (by rfl) ?_
      simp only [Act.put,sx])
   | (refine BigFrame.wpQuiet_want (by rfl) (fun K hK=>?_)
      apply Exists.intro
      refine ⟨fun wq hq=>?_,hK _ ?_⟩
      ·first
        | (refine qar 35 _ _ _ rfl rfl ((hq.1.all _ _ _ (.tail _ (.head _))).loadCell (qcg hL) qax))
        | (refine qar 68 _ _ _ rfl rfl ((hq.1.all _ _ _ (.head _)).loadAtSub (qj1 hx J) rfl qjm qj0))
        | (unfold Oper.quietAt
           go_simp
           first
            | with_reducible rfl
            | ((go_at_call 279);with_reducible refine (hl _).mono ?_;exact fun e w' ⟨he,hw⟩=>⟨he,hq.1.step hw,hq.2.step hw⟩)
          )
      clear hK K
      simp only [Act.put,sx])
 refine wpQuiet_nil ?_
 clear hX
 intro w4 hX
 simp only [List.drop_succ_cons,List.drop_zero]
 go_wp2_with (first|((with_reducible refine qa9 68 ?_);refine stp1 hX.1 qjm qj0 (qkd hk (x.wr q v) J) rfl (qj4 hk J) (qkb _) ?_;intro wS hY hkS;replace hK:=hX.2.putg hkS (hY.all _ _ _ (.head _));replace hX:=hY;clear hY hkS))
 refine bodyPost_ret (results_tmp (by rfl) _ _ _) rfl ⟨rfl,⟨_,_,_,_,_,_,hfin _ _ hX hK⟩,hK⟩
theorem qnw (A:Ma) (q v:Int) (k:Nat) (hq:¬ (0≤q∧q<8)) (w:World) (B:Nat):Calls Tryz.prog 271 #[.int .i64 k,.pointer (some ⟨B,0,none⟩),.int .i64 q,.int .i64 v] w fun e' w'=>e'=.returned (.bool false)∧w=w':=by
 have hlr:∀ wz,Calls Tryz.prog 273 #[.int .i64 q] wz fun e' w'=>e'=.returned (.bool false)∧wz=w':=fun wz=>by
  have h:=qe6 q wz
  have hb:(decide (0≤q) && decide (q<8))=false:=by rw [Bool.and_eq_false_iff,decide_eq_false_iff_not,decide_eq_false_iff_not];omega
  rw [hb] at h;exact h
 clear hq
 go_enter Tryz.func271,Tryz.ntmps271
 go_wp2_with (first|(go_at_call 273;(with_reducible refine (hlr _).mono ?_);rintro e' wc ⟨rfl,rfl⟩))
 go_ret
 exact ⟨rfl,rfl⟩
theorem qpc (A:Ma) (q:Int) (k:Nat) (hq:¬ (0≤q∧q<8)) (w:World) (B:Nat):Calls Tryz.prog 266 #[.int .i64 k,.pointer (some ⟨B,0,none⟩),.int .i64 q] w fun e' w'=>e'=.returned (.tuple #[.int .i64 0,.bool false])∧w=w':=by
 have hlr:∀ wz,Calls Tryz.prog 273 #[.int .i64 q] wz fun e' w'=>e'=.returned (.bool false)∧wz=w':=fun wz=>by
  have h:=qe6 q wz
  have hb:(decide (0≤q) && decide (q<8))=false:=by rw [Bool.and_eq_false_iff,decide_eq_false_iff_not,decide_eq_false_iff_not];omega
  rw [hb] at h;exact h
 clear hq
 go_enter Tryz.func266,Tryz.ntmps266
 go_wp2_with (first|(go_at_call 273;(with_reducible refine (hlr _).mono ?_);rintro e' wc ⟨rfl,rfl⟩))
 go_ret2
 exact ⟨rfl,rfl⟩
theorem qsf (A:Ma) (hA:A.ok) (hR:A.right=true) (q:Int) (k:Nat) (hk:k<A.L.length) (hq:0≤q∧q<8) (vm vb vl vs vd vt:Value) (X:Nat→Prop) (w0 w:World) (B g:Nat) (hS:DSt X w0 B g w A vm vb vl vs vd vt):Calls Tryz.prog 266 #[.int .i64 k,.pointer (some ⟨B,0,none⟩),.int .i64 q] w (DevS X w0 B g w (A.setL k ((A.line k).rd q).1) (.tuple #[.int .i64 ((A.line k).rd q).2,.bool true])):=by
 have hL:=Ma.len hA vs vd vt
 obtain ⟨c,J,rfl,hc,hne,hX⟩:=hS.two hk
 obtain ⟨x,hx⟩:∃ x,A.L[k]? = some x:=⟨_,List.getElem?_eq_getElem hk⟩
 have i0:(0:Int)≤(k:Int):=by omega
 have i1:(k:Int)<(A.L.length:Int):=by omega
 have e:A.line k=x:=by unfold Ma.line;rw [List.getD_eq_getElem?_getD,hx];rfl
 have hxr:x.right=true:=e▸qd9 hR hk
 have hfin:=fun (w':World) (y:Ln)=>DSt.setL (w':=w') (k:=k) (J:=J) (y:=y) hS hc hne
 rw [e]
 clear e hS hR
 have hlr:∀ wz,Calls Tryz.prog 273 #[.int .i64 q] wz fun e' w'=>e'=.returned (.bool true)∧wz=w':=fun wz=>by have h:=qe6 q wz;rw [decide_eq_true hq.1,decide_eq_true hq.2] at h;exact h
 clear hq
 have hd:=(qel x).1 hxr
 have hl:∀ wz,Calls Tryz.prog 274 #[.agg (lnL x).toArray,.int .i64 q] wz fun e' w'=>e'=.returned (.tuple #[.agg (lnL (x.rd q).1).toArray,.int .i64 (x.rd q).2])∧Below wz.heap.size wz w':=fun wz=>prdL_any x hd.1 q wz
 clear hd
 have hK:=Kpt.refl B g w
 go_enter Tryz.func266,Tryz.ntmps266
 go_wp2_with (first|(go_at_call 273;(with_reducible refine (hlr _).mono ?_);rintro e' wc ⟨rfl,rfl⟩)|((with_reducible refine qay 35 ?_);refine ldc (hk:=qcg hL) hX qax ?_)|((with_reducible refine qay 68 ?_);refine ldp hX qjm qj0 (qj1 hx J) rfl ?_)|(go_at_call 274;(with_reducible refine (hl _).mono ?_);rintro e' wc ⟨rfl,hbb⟩;replace hX:=hX.step hbb;replace hK:=hK.step hbb;clear hbb)|((with_reducible refine qa9 68 ?_);refine stn hX qjm qj0 (qkb _) ?_;intro wS hY hbS;replace hX:=hY.swap;replace hK:=hK.step hbS;clear hY hbS))
 refine qbn (fun w'=>Bag [(g,68,A.L.flatMap lnL++J),(wc.heap.size,68,lnL (x.rd q).1),(B,44,A.cells vm vb (.slice (some ⟨g,0,none⟩) A.L.length c) vs vd vt)] w0 w'∧Kpt B g w w') 7 (by kernel_rfl) (by kernel_rfl) ⟨hX.drew,hK.step (Below.refl _ _).drew⟩ ?_
 repeat
  first
   | (refine BigFrame.wpQuiet_skip (by rfl) ?_
      simp only [Act.put,sx])
   | (refine BigFrame.wpQuiet_want (by rfl) (fun K hK=>?_)
      apply Exists.intro
      refine ⟨fun wq hq=>?_,hK _ ?_⟩
      ·first
        | (refine qar 35 _ _ _ rfl rfl ((hq.1.all _ _ _ (.tail _ (.tail _ (.head _)))).loadCell (qcg hL) qax))
        | (refine qar 68 _ _ _ rfl rfl ((hq.1.all _ _ _ (.tail _ (.head _))).loadAt rfl qjm qj0))
        | (unfold Oper.quietAt
           go_simp
           first
            | with_reducible rfl
          )
      clear hK K
      simp only [Act.put,sx])
 refine wpQuiet_nil ?_
 clear hX hK
 intro w4 hX
 simp only [List.drop_succ_cons,List.drop_zero]
 go_wp2_with (first|((with_reducible refine qa9 68 ?_);refine stp1 hX.1 qjm qj0 (qkd hk (x.rd q).1 J) rfl (qj4 hk J) (qkb _) ?_;intro wS hY hkS;replace hK:=hX.2.putg hkS (hY.all _ _ _ (.head _));replace hX:=hY;clear hY hkS))
 refine bodyPost_ret (results_tmp2 (by rfl) _ _ _) rfl ⟨rfl,⟨_,_,_,_,_,_,hfin _ _ hX.drop2 hK⟩,hK⟩
theorem qls {m:List Int} (hw:∀ x∈m,0≤x∧x≤65535) (k:Nat):0≤m.getD k 0∧m.getD k 0≤65535:=by
 rw [List.getD_eq_getElem?_getD]
 rcases h:m[k]? with _|x
 ·simp
 ·exact hw x (List.mem_of_getElem? h)
theorem qql (m:List Int) (k:Nat):byteN m (2*k)=m.getD k 0%256:=by
 unfold byteN
 rw [show 2*k / 2=k by omega,show 2*k%2=0 by omega];simp
theorem quj {m:List Int} (hw:∀ x∈m,0≤x∧x≤65535) (k:Nat):byteN m (2*k+1)=m.getD k 0 / 256:=by
 unfold byteN
 rw [show (2*k+1) / 2=k by omega,show (2*k+1)%2=1 by omega]
 have:=qls hw k
 simp only [Int.pow_one]
 omega
theorem qie {m:List Int} (hw:∀ x∈m,0≤x∧x≤65535) (A n:Nat):bytesN m (2*A) (2*(n+1))=bytesN m (2*A) (2*n)++[UInt8.ofNat (m.getD (A+n) 0%256).toNat,UInt8.ofNat (m.getD (A+n) 0 / 256).toNat]:=by
 rw [show 2*(n+1)=(2*n+1)+1 by omega,qer,qer,show 2*A+2*n=2*(A+n) by omega,show 2*A+(2*n+1)=2*(A+n)+1 by omega,qql,quj hw]
 simp
theorem qi7 {m:List Int} (hw:∀ x∈m,0≤x∧x≤65535) (A:Nat):∀ n,secL m A n=bytesN m (2*A) (2*n)
 | 0=>rfl
 | n+1=>by rw [qhv,qie hw,qi7 hw A n]
def wsV (m:List Int) (A n:Nat):ByteArray:=⟨(bytesN m (2*A) (2*n)).toArray⟩
theorem qd6 (m:List Int) (A n:Nat):(wsV m A n).size=2*n:=by
 show (bytesN m (2*A) (2*n)).toArray.size=2*n
 rw [List.size_toArray,qb2]
theorem zB_zero (s:ByteArray):s++zB 0=s:=by
 apply ByteArray.ext
 rw [ByteArray.data_append]
 show s.data++(List.replicate 0 (0:UInt8)).toArray=s.data
 simp
theorem sec_pad {m:List Int} (hw:∀ x∈m,0≤x∧x≤65535) (A n:Nat):secV m A n=wsV m A n++zB (128 - 2*n):=by
 apply ByteArray.ext
 rw [ByteArray.data_append]
 unfold secV wsV zB
 rw [qi7 hw]
 simp
theorem wr_pad {D:Drv} {k:Int} {s:ByteArray} (h:s.size≤128):D.wr k (s++zB (128 - s.size))=D.wr k s:=by
 have hz:(s++zB (128 - s.size)).size=128:=by rw [ByteArray.size_append,qms];omega
 unfold Drv.wr
 rw [hz,if_neg (by decide:¬ 128<128),if_neg (show ¬ 128<s.size by omega),Nat.sub_self,zB_zero]
theorem wr_words {D:Drv} {k:Int} {m:List Int} (hw:∀ x∈m,0≤x∧x≤65535) (A n:Nat) (hn:n≤64):D.wr k (wsV m A n)=D.wr k (secV m A n):=by
 rw [sec_pad hw,← wr_pad (by rw [qd6];omega),qd6]
theorem qo1 {s:ByteArray} {n:Nat} (h:2*n+1<s.size):s.data.toList.take (2*(n+1))=s.data.toList.take (2*n)++[s.data.getD (2*n) 0,s.data.getD (2*n+1) 0]:=by
 have e1:=qj2 (s:=s) (k:=2*n) (by omega)
 have e2:=qj2 (s:=s) (k:=2*n+1) h
 rw [show 2*(n+1)=(2*n+1)+1 by omega,List.take_add_one,List.take_add_one,Array.getElem?_toList,Array.getElem?_toList,e1,e2]
 simp
theorem u8_eq {x:Int} {c:UInt8} (h:0≤x∧x<256):UInt8.ofNat x.toNat=c↔x=(c.toNat:Int):=by
 constructor
 ·intro e;rw [← e,u8_of x h]
 ·intro e;rw [e,Int.toNat_natCast];simp
theorem qsk {m:List Int} (hw:∀ x∈m,0≤x∧x≤65535) (A:Nat) (s:ByteArray):∀ n,2*n≤s.size→(dfW m A n s=false↔bytesN m (2*A) (2*n)=s.data.toList.take (2*n))
 | 0,_=>by simp [dfW,bytesN]
 | n+1,h=>by
   have ih:=qsk hw A s n (by omega)
   have e:dfW m A (n+1) s=(dfW m A n s || decide (m.getD (A+n) 0≠atV s n)):=by
    unfold dfW;rw [List.range_succ,List.any_append];simp
   have l1:=qgu s (2*n)
   have l2:=qgu s (2*n+1)
   have hx:=qls hw (A+n)
   rw [e,Bool.or_eq_false_iff,ih,qie hw,qo1 (by omega)]
   have hlen:(bytesN m (2*A) (2*n)).length=(s.data.toList.take (2*n)).length:=by
    rw [qb2,List.length_take]
    show 2*n=min (2*n) s.size
    omega
   generalize m.getD (A+n) 0=x at *
   have q:decide (x≠atV s n)=false↔(UInt8.ofNat (x%256).toNat=s.data.getD (2*n) 0∧UInt8.ofNat (x / 256).toNat=s.data.getD (2*n+1) 0):=by
    rw [u8_eq (by omega),u8_eq (by omega)]
    unfold atV
    unfold byt at *
    simp only [ne_eq,decide_eq_false_iff_not,Classical.not_not]
    constructor
    ·intro h;omega
    ·rintro ⟨h1,h2⟩;omega
   rw [q]
   constructor
   ·rintro ⟨h1,h2,h3⟩;rw [h1,h2,h3]
   ·intro h
    have h1:=List.append_inj h hlen
    have h2:=h1.2
    simp only [List.cons.injEq,and_true] at h2
    exact ⟨h1.1,h2.1,h2.2⟩
theorem qim (l:List Int) (t:List UInt8):∀ (s:List UInt8) (l:List Int) (a:Nat),storeN l a (s++t)=storeN (storeN l a s) (a+s.length) t
 | [],_,_=>rfl
 | c :: s,l,a=>by
   show storeN (setN l a (c.toNat:Int)) (a+1) (s++t)=storeN (storeN (setN l a (c.toNat:Int)) (a+1) s) (a+(s.length+1)) t
   rw [qim l t s,show a+1+s.length=a+(s.length+1) by omega]
theorem qja {m:List Int} (A:Nat) (s:ByteArray):∀ n,A+n≤m.length→2*n≤s.size→putM m A s n=storeN m (2*A) (s.data.toList.take (2*n))
 | 0,_,_=>rfl
 | n+1,h,hs=>by
   rw [qew,qja A s n (by omega) (by omega),qo1 (by omega),qim m]
   have hlen:(s.data.toList.take (2*n)).length=2*n:=by
    rw [List.length_take]
    show min (2*n) s.size=2*n
    omega
   have hX:(storeN m (2*A) (s.data.toList.take (2*n))).length=m.length:=qdl _ _ _
   rw [hlen]
   generalize storeN m (2*A) (s.data.toList.take (2*n))=X at *
   show _=setN (setN X (2*A+2*n) ((s.data.getD (2*n) 0).toNat:Int)) (2*A+2*n+1) ((s.data.getD (2*n+1) 0).toNat:Int)
   have l1:=qgu s (2*n)
   have l2:=qgu s (2*n+1)
   unfold atV
   unfold byt at *
   unfold setN
   rw [show (2*A+2*n) / 2=A+n by omega,show (2*A+2*n)%2=0 by omega,show (2*A+2*n+1) / 2=A+n by omega,show (2*A+2*n+1)%2=1 by omega,List.set_set,get_set _ _ _ _ (by omega),if_pos rfl]
   congr 1
   unfold setW
   rw [if_pos rfl,if_neg (by decide)]
   omega
def inI (a:Int) (n:Nat) (x:Int):Bool:=decide (a≤x) && decide (x<a+2*(n:Int))
theorem qg3 (B:List Int) (a:Int) (n:Nat):(B.filter fun x=>!inI a n x)=outB B a n:=by
 unfold outB inI
 congr 1
 funext x
 rw [Bool.eq_iff_iff]
 simp
end Go.Proofs.YthpnddgfgpacpaaGreat
namespace Go.Proofs
open Go.Shelf
def Tryz.laysSlH6_f68_ren:Go.Shelf.Ren:=⟨fun|6=>227|n=>n,fun|22=>26|23=>3|25=>128|3=>3|0=>0|4=>4|n=>n,fun|n=>n⟩
theorem Tryz.laysSlH6_f68:Go.Proofs.SlLaysH.n6 Tryz.prog Tryz.laysSlH6_f68_ren:={
 mixed:=by kernel_rfl
 f6:=⟨Tryz.f227.name,by decide,Tryz.func227.trans (congrArg some (by kernel_rfl))⟩
 t0:=Tryz.underlying0
 a0:=Tryz.isAgg0
 z0:=Tryz.sizeOf0
 v0:=Tryz.zeroValue0
 t3:=Tryz.underlying3
 a3:=Tryz.isAgg3
 z3:=Tryz.sizeOf3
 v3:=Tryz.zeroValue3
 t4:=Tryz.underlying4
 a4:=Tryz.isAgg4
 z4:=Tryz.sizeOf4
 v4:=Tryz.zeroValue4
 t22:=Tryz.underlying26
 a22:=Tryz.isAgg26
 z22:=Tryz.sizeOf26
 v22:=Tryz.zeroValue26
 a23:=Tryz.isAgg3
 z23:=Tryz.sizeOf3
 t25:=Tryz.underlying128
 a25:=Tryz.isAgg128
 z25:=Tryz.sizeOf128
 v25:=Tryz.zeroValue128}
open Go.RowKit Go.Lib in
theorem Tryz.slices_IndexFunc_empty {α:Type} [Inhabited α] (a:Option Addr) (c:Nat) (fv:Value) (w:World) :
 Calls Tryz.prog 227 #[.slice a 0 c,fv] w fun e w'=>e=.returned (.int .i64 (-1))∧w'=w:=AnyE.slices_IndexFunc_empty Tryz.laysSlH6_f68 a c fv w
def Tryz.laysSlH8_f59_ren:Go.Shelf.Ren:=⟨fun|8=>221|6=>227|n=>n,fun|22=>26|23=>3|25=>128|4=>4|3=>3|0=>0|n=>n,fun|n=>n⟩
theorem Tryz.laysSlH8_f59:Go.Proofs.SlLaysH.n8 Tryz.prog Tryz.laysSlH8_f59_ren:={
 mixed:=by kernel_rfl
 f6:=⟨Tryz.f227.name,by decide,Tryz.func227.trans (congrArg some (by kernel_rfl))⟩
 f8:=⟨Tryz.f221.name,by decide,Tryz.func221.trans (congrArg some (by kernel_rfl))⟩
 t0:=Tryz.underlying0
 a0:=Tryz.isAgg0
 z0:=Tryz.sizeOf0
 v0:=Tryz.zeroValue0
 t3:=Tryz.underlying3
 a3:=Tryz.isAgg3
 z3:=Tryz.sizeOf3
 v3:=Tryz.zeroValue3
 t4:=Tryz.underlying4
 a4:=Tryz.isAgg4
 z4:=Tryz.sizeOf4
 v4:=Tryz.zeroValue4
 t22:=Tryz.underlying26
 a22:=Tryz.isAgg26
 z22:=Tryz.sizeOf26
 v22:=Tryz.zeroValue26
 a23:=Tryz.isAgg3
 z23:=Tryz.sizeOf3
 t25:=Tryz.underlying128
 a25:=Tryz.isAgg128
 z25:=Tryz.sizeOf128
 v25:=Tryz.zeroValue128}
open Go.RowKit Go.Lib in
theorem Tryz.slices_ContainsFunc {α:Type} [Inhabited α] (enc:α→Value) (p:α→Bool) (g:Nat) (lb:Array Value) (eg:∀ args w,(callFunc g args).run Tryz.prog w=.ok (.enter g args) w) (b off n c:Nat) (zs:List α) (w:World) (hp:PredAt Tryz.prog g lb enc p w) (hz:n≤zs.length) (hbig:n≤9223372036854775807) (hc:∀ j,j<zs.length→w.cell? ⟨b,off+j,none⟩=some (enc zs[j]!)) :
 Calls Tryz.prog 221 #[.slice (some ⟨b,off,none⟩) n c,.func (.func g) #[] lb] w fun e w'=>e=.returned (.bool ((zs.take n).any p))∧∃ q,w'=w.drewN q:=AnyE.slices_ContainsFunc Tryz.laysSlH8_f59 enc p g lb eg b off n c zs w hp hz hbig hc
open Go.RowKit Go.Lib in
theorem Tryz.slices_ContainsFunc_empty {α:Type} [Inhabited α] (a:Option Addr) (c:Nat) (fv:Value) (w:World) :
 Calls Tryz.prog 221 #[.slice a 0 c,fv] w fun e w'=>e=.returned (.bool false)∧w'=w:=AnyE.slices_ContainsFunc_empty Tryz.laysSlH8_f59 a c fv w
def Tryz.laysSlH10_f63_ren:Go.Shelf.Ren:=⟨fun|10=>225|6=>227|n=>n,fun|22=>26|23=>3|25=>128|3=>3|4=>4|0=>0|n=>n,fun|n=>n⟩
theorem Tryz.laysSlH10_f63:Go.Proofs.SlLaysH.n10 Tryz.prog Tryz.laysSlH10_f63_ren:={
 mixed:=by kernel_rfl
 f6:=⟨Tryz.f227.name,by decide,Tryz.func227.trans (congrArg some (by kernel_rfl))⟩
 f10:=⟨Tryz.f225.name,by decide,Tryz.func225.trans (congrArg some (by kernel_rfl))⟩
 t0:=Tryz.underlying0
 a0:=Tryz.isAgg0
 z0:=Tryz.sizeOf0
 v0:=Tryz.zeroValue0
 t3:=Tryz.underlying3
 a3:=Tryz.isAgg3
 z3:=Tryz.sizeOf3
 v3:=Tryz.zeroValue3
 t4:=Tryz.underlying4
 a4:=Tryz.isAgg4
 z4:=Tryz.sizeOf4
 v4:=Tryz.zeroValue4
 t22:=Tryz.underlying26
 a22:=Tryz.isAgg26
 z22:=Tryz.sizeOf26
 v22:=Tryz.zeroValue26
 a23:=Tryz.isAgg3
 z23:=Tryz.sizeOf3
 t25:=Tryz.underlying128
 a25:=Tryz.isAgg128
 z25:=Tryz.sizeOf128
 v25:=Tryz.zeroValue128}
open Go.RowKit Go.Lib Go.Sort in
theorem Tryz.slices_DeleteFunc {α:Type} [Inhabited α] (enc:α→Value) (hO:OneCell enc) (p:α→Bool) (g:Nat) (lb:Array Value) (eg:∀ args w,(callFunc g args).run Tryz.prog w=.ok (.enter g args) w) (zr:α) (v23:∀ w,(zeroValue 3).run Tryz.prog w=.ok (enc zr) w) (blk off cap:Nat) (d:Array α) (w:World) (hp:PredAt Tryz.prog g lb enc p w) (hpo:PredOver Tryz.prog g lb enc p blk off d.size w) (hH:Holds enc w blk off d) (hsz:d.size≤9223372036854775807) (hcap:d.size≤cap) :
 Calls Tryz.prog 225 #[.slice (some ⟨blk,off,none⟩) d.size cap,.func (.func g) #[] lb] w fun e w'=>e=.returned (.slice (some ⟨blk,off,none⟩) (d.toList.filter fun x=>!p x).length cap)∧∃ q,w'=putRow enc (Sort.ahead w q) blk off ((d.toList.filter fun x=>!p x)++List.replicate (d.size - (d.toList.filter fun x=>!p x).length) zr).toArray:=AnyE.slices_DeleteFunc Tryz.laysSlH10_f63 enc hO p g lb eg zr v23 blk off cap d w hp hpo hH hsz hcap
end Go.Proofs
namespace Go.Proofs.YthpnddgfgpacpaaGreat
open Go.RowKit Go.Lib Go.Sort
set_option linter.unusedSimpArgs false
set_option linter.unusedVariables false
set_option maxHeartbeats 4000000
set_option maxRecDepth 100000
attribute [local irreducible] wpQuiet
theorem qlp (x a:Int) (ws:ByteArray) (n Bk Bw:Nat) (W:World) (ck:W.cell? ⟨Bk,7,none⟩=some (.int .i64 a)) (cw:W.cell? ⟨Bw,0,none⟩=some (.string ws)) (ha:0≤a∧a≤65535) (hn:n≤64) (hs:ws.size=2*n):FnGives Tryz.prog 220 #[.pointer (some ⟨Bk,0,none⟩),.pointer (some ⟨Bw,0,none⟩)] #[.int .i64 x] (.bool (inI a n x)) W:=by
 show Calls Tryz.prog 220 #[.int .i64 x,.pointer (some ⟨Bk,0,none⟩),.pointer (some ⟨Bw,0,none⟩)] W _
 have w1:IntKind.i64.wrap (a+(ws.size:Int))=a+2*(n:Int):=by rw [hs,qaf];unfold wrap64;omega
 unfold inI
 by_cases h1:a≤x
 ·have d1:decide (a≤x)=true:=decide_eq_true h1
  go_enter Tryz.func220,Tryz.ntmps220
  go_wp2
  go_ret
  exact ⟨by simp [d1],0,rfl⟩
 ·have d1:decide (a≤x)=false:=decide_eq_false h1
  go_enter Tryz.func220,Tryz.ntmps220
  go_wp2
  go_ret
  exact ⟨by simp [d1],0,rfl⟩
theorem pin_at (a:Int) (ws:ByteArray) (n Bk Bw:Nat) (w:World) (hk:Bk<w.heap.size) (hw:Bw<w.heap.size) (ck:w.cell? ⟨Bk,7,none⟩=some (.int .i64 a)) (cw:w.cell? ⟨Bw,0,none⟩=some (.string ws)) (ha:0≤a∧a≤65535) (hn:n≤64) (hs:ws.size=2*n):PredAt Tryz.prog 220 #[.pointer (some ⟨Bk,0,none⟩),.pointer (some ⟨Bw,0,none⟩)] (Value.int .i64) (inI a n) w :=
 fun W x hb=>qlp x a ws n Bk Bw W ((hb.cell (p:=⟨Bk,7,none⟩) hk).trans ck) ((hb.cell (p:=⟨Bw,0,none⟩) hw).trans cw) ha hn hs
theorem pin_over (a:Int) (ws:ByteArray) (n Bk Bw blk off size:Nat) (w:World) (hk:Bk<w.heap.size) (hw:Bw<w.heap.size) (hkb:Bk≠blk) (hwb:Bw≠blk) (ck:w.cell? ⟨Bk,7,none⟩=some (.int .i64 a)) (cw:w.cell? ⟨Bw,0,none⟩=some (.string ws)) (ha:0≤a∧a≤65535) (hn:n≤64) (hs:ws.size=2*n):PredOver Tryz.prog 220 #[.pointer (some ⟨Bk,0,none⟩),.pointer (some ⟨Bw,0,none⟩)] (Value.int .i64) (inI a n) blk off size w :=
 fun m os dk x _=>qlp x a ws n Bk Bw _ (by
  unfold sortWorld
  rw [cell?_grow _ _ _ (by show Bk<(putRow _ _ _ _ _).heap.size;rw [size_putRow];exact hk),cell?_putRow_other _ _ blk off _ _ (Or.inl hkb)]
  exact ck) (by
  unfold sortWorld
  rw [cell?_grow _ _ _ (by show Bw<(putRow _ _ _ _ _).heap.size;rw [size_putRow];exact hw),cell?_putRow_other _ _ blk off _ _ (Or.inl hwb)]
  exact cw) ha hn hs
theorem qi1:∀ args w,(callFunc 220 args).run Tryz.prog w=.ok (.enter 220 args) w:=enters_of Tryz.func220 (by kernel_rfl) rfl
theorem qg0 (a:Int) (n:Nat) (B:List Int) (ws:ByteArray) (Bk Bw N:Nat) (v:Value) (w:World) (hown:w.ownsRow N 3 1 v B.length (B.map (Value.int .i64))) (hl:B.length≤1099511627776) (hk:Bk<w.heap.size) (hw:Bw<w.heap.size) (ck:w.cell? ⟨Bk,7,none⟩=some (.int .i64 a)) (cw:w.cell? ⟨Bw,0,none⟩=some (.string ws)) (ha:0≤a∧a≤65535) (hn:n≤64) (hs:ws.size=2*n):Calls Tryz.prog 221 #[v,.func (.func 220) #[] #[.pointer (some ⟨Bk,0,none⟩),.pointer (some ⟨Bw,0,none⟩)]] w fun e' w'=>e'=.returned (.bool (spV B a n))∧Below w.heap.size w w':=by
 rcases hown.2 with ⟨rfl,h0⟩|⟨g,cap,cur,rfl,hg,hh,hnc,hm',hcs,htk⟩
 ·obtain rfl:B=[]:=List.eq_nil_of_length_eq_zero h0
  refine (Tryz.slices_ContainsFunc_empty (α:=Int) none 0 _ w).mono ?_
  rintro e w' ⟨rfl,rfl⟩
  exact ⟨rfl,Below.refl _ _⟩
 ·rw [Nat.mul_one] at htk
  have hH:=holds_of_block_i (ss:=B) hh htk
  refine (Tryz.slices_ContainsFunc (Value.int .i64) (inI a n) 220 #[.pointer (some ⟨Bk,0,none⟩),.pointer (some ⟨Bw,0,none⟩)] qi1 g 0 B.length cap B w (pin_at a ws n Bk Bw w hk hw ck cw ha hn hs) (Nat.le_refl _) (by omega) (fun j hj=>?_)).mono ?_
  ·have h:=(hH j (by simpa using hj)).1
   rw [h]
   simp [hj]
  ·rintro e w' ⟨rfl,q,rfl⟩
   refine ⟨?_,below_drewN' (Below.refl _ _) q⟩
   rw [List.take_length];rfl
theorem qgv {w:World} {base g cap q:Nat} {e:TypeId} {cur:Array Value} {F Zr:List Int} (hbase:base≤g) (hb:w.heap[g]? = some (.cells cur e (0,0))) (h1:F.length+Zr.length≤cap) (h2:cap≤maxLen) (h3:cur.size=cap*1):(putRow (Value.int .i64) (Sort.ahead w q) g 0 (F++Zr).toArray).ownsRow base e 1 (.slice (some ⟨g,0,none⟩) F.length cap) F.length (F.map (Value.int .i64)):=by
 have hh:=heap_sorted_i (n:=q) (os:=#[]) (F++Zr).toArray hb
 rw [grow_empty] at hh
 refine ⟨by simp,.inr ⟨g,cap,_,rfl,hbase,hh,by omega,h2,?_,?_⟩⟩
 ·rw [← h3];simp [putCells]
 ·have:=take_putCells_i cur (F++Zr) (by rw [List.length_append,h3];omega)
  have e2:=congrArg (List.take F.length) this
  rw [List.take_take,Nat.min_eq_left (by simp),List.map_append,List.take_left' (by simp)] at e2
  rw [Nat.mul_one]
  exact e2
theorem pdel_own (a:Int) (n:Nat) (B:List Int) (ws:ByteArray) (Bk Bw N:Nat) (v:Value) (w:World) (hown:w.ownsRow N 3 1 v B.length (B.map (Value.int .i64))) (hl:B.length≤1099511627776) (hk:Bk<w.heap.size) (hw:Bw<w.heap.size) (hkb:∀ g m c,v=.slice (some g) m c→Bk≠g.block) (hwb:∀ g m c,v=.slice (some g) m c→Bw≠g.block) (ck:w.cell? ⟨Bk,7,none⟩=some (.int .i64 a)) (cw:w.cell? ⟨Bw,0,none⟩=some (.string ws)) (ha:0≤a∧a≤65535) (hn:n≤64) (hs:ws.size=2*n):Calls Tryz.prog 225 #[v,.func (.func 220) #[] #[.pointer (some ⟨Bk,0,none⟩),.pointer (some ⟨Bw,0,none⟩)]] w fun e' w'=>∃ v',e'=.returned v'∧w'.ownsRow N 3 1 v' (outB B a n).length ((outB B a n).map (Value.int .i64))∧w.grownBy w' v.ownBlock:=by
 rcases hown.2 with ⟨rfl,h0⟩|⟨g,cap,cur,rfl,hg,hh,hnc,hm',hcs,htk⟩
 ·obtain rfl:B=[]:=List.eq_nil_of_length_eq_zero h0
  go_enter Tryz.func225,Tryz.ntmps225
  go_wp2_with (first|(go_at_call 227;(with_reducible refine (Tryz.slices_IndexFunc_empty (α:=Int) none 0 _ _).mono ?_);rintro e' wc ⟨rfl,rfl⟩))
  go_ret
  exact ⟨_,rfl,World.ownsRow_nil _ _ _ _,World.grownBy.refl _ _⟩
 ·rw [Nat.mul_one] at htk
  have hH:=holds_of_block_i (ss:=B) hh htk
  refine (Tryz.slices_DeleteFunc (Value.int .i64) (fun _=>rfl) (inI a n) 220 #[.pointer (some ⟨Bk,0,none⟩),.pointer (some ⟨Bw,0,none⟩)] qi1 0 Tryz.zeroValue3 g 0 cap B.toArray w (pin_at a ws n Bk Bw w hk hw ck cw ha hn hs) (pin_over a ws n Bk Bw g 0 _ w hk hw (hkb _ _ _ rfl) (hwb _ _ _ rfl) ck cw ha hn hs) hH (by simp;omega) (by simpa using hnc)).mono ?_
  rintro e w' ⟨rfl,q,rfl⟩
  have hf:(B.toArray.toList.filter fun x=>!inI a n x)=outB B a n:=qg3 B a n
  rw [hf]
  have hle:(outB B a n).length≤B.length:=by rw [← qg3];exact List.length_filter_le _ _
  refine ⟨_,rfl,qgv hg hh (by rw [List.length_replicate,List.size_toArray];omega) hm' hcs,?_⟩
  have h:=grownBy_sorted_i (w:=w) (g:=g) (n:=q) (os:=#[]) ((outB B a n++List.replicate (B.toArray.size - (outB B a n).length) 0).toArray)
  rw [grow_empty] at h
  exact h
end Go.Proofs.YthpnddgfgpacpaaGreat
