import Derived.Test.YthpnddgfgpacpaaGreatRT04
import Derived.Test.YthpnddgfgpacpaaGreatRT03
namespace Go.Proofs.YthpnddgfgpacpaaGreat
open Go.RowKit
set_option linter.unusedSimpArgs false
set_option linter.unusedVariables false
set_option maxHeartbeats 4000000
set_option maxRecDepth 100000
attribute [local irreducible] wpQuiet
theorem wr_keep (D:Drv) (k:Int) (s:ByteArray) (h:(D.wr k s).2=0):(D.wr k s).1.S.length=D.S.length∧(D.wr k s).1.B=D.B:=by
 unfold Drv.wr at *
 split at h
 ·rw [if_pos (by assumption)]
  split at h
  ·cases h
  ·rw [if_neg (by assumption)]
   split at h
   ·cases h
   ·rw [if_neg (by assumption)]
    exact ⟨List.length_set,rfl⟩
 ·cases h
theorem qak {P:Program} {fn:Func} {tmps:Array Value} {w:World} {j k m:Tmp} {T:TypeId} {a:Addr} {v:Value} (hr:fn.results=#[.cell j T,.tmp k,.tmp m]) (ha:tmps.getD j undef=.pointer (some a)) (hl:(Go.loadVar T a).run P w=.ok v w) :
 (results fn tmps).run P w=.ok (.tuple #[v,tmps.getD k undef,tmps.getD m undef]) w:=by
 unfold results
 rw [hr]
 have ha':=ha
 rw [Array.getD_eq_getD_getElem?] at ha'
 simp [ha',asAddr,hl]
theorem Bag.perm {l l':List (Nat×TypeId×List Value)} {w0 w:World} (h:Bag l w0 w) (p:l.Perm l'):Bag l' w0 w :=
 ⟨fun B t cs hm=>h.all B t cs (p.mem_iff.2 hm),h.below,fun b hb=>h.lo b (p.mem_iff.2 hb),(p.map _).nodup_iff.1 h.dis⟩
theorem Bag.sub {l l':List (Nat×TypeId×List Value)} {w0 w:World} (h:Bag l w0 w) (p:l'.Sublist l):Bag l' w0 w :=
 ⟨fun B t cs hm=>h.all B t cs (p.mem hm),h.below,fun b hb=>h.lo b (p.mem hb),h.dis.sublist (p.map _)⟩
theorem qdj {w:World} {v:Value} {S:List ByteArray} (h:Sts w v S):v.oneCell'=true:=by obtain ⟨A,c,rfl,_⟩:=h.form;rfl
theorem qdi {w:World} {v:Value} {S:List Int} (h:Its w v S):v.oneCell'=true:=by obtain ⟨A,c,rfl,_⟩:=h.form;rfl
theorem qf6 {x y:Value} (hx:x.oneCell'=true) (hy:y.oneCell'=true):∀ v∈[x,y],v.oneCell'=true:=by
 intro u hu;simp at hu;rcases hu with rfl|rfl
 ·exact hx
 ·exact hy
theorem StsX.over {X:Nat→Prop} {B:Nat} {w w':World} {v:Value} {S:List ByteArray} (h:StsX X w v S) (hk:∀ k,k≠B→w'.heap[k]? = w.heap[k]?) (hB:X B):StsX X w' v S:=h.off (fun b _ hx=>hk b (fun e=>hx (e▸hB))) (fun _ _ h=>h)
theorem ItsX.over {X:Nat→Prop} {B:Nat} {w w':World} {v:Value} {S:List Int} (h:ItsX X w v S) (hk:∀ k,k≠B→w'.heap[k]? = w.heap[k]?) (hB:X B):ItsX X w' v S:=h.off (fun b _ hx=>hk b (fun e=>hx (e▸hB))) (fun _ _ h=>h)
theorem StsX.less {X Y:Nat→Prop} {w:World} {v:Value} {S:List ByteArray} (h:StsX X w v S) (hY:∀ b,Y b→X b):StsX Y w v S:=h.off (fun _ _ _=>rfl) (fun b _ h=>hY b h)
theorem ItsX.less {X Y:Nat→Prop} {w:World} {v:Value} {S:List Int} (h:ItsX X w v S) (hY:∀ b,Y b→X b):ItsX Y w v S:=h.off (fun _ _ _=>rfl) (fun b _ h=>hY b h)
def OwnA (X:Nat→Prop) (N b:Nat):Prop:=X b∨b=N∨b=N+1
theorem qnf (D:Drv) (hl:D.B.length≤1099511627776) (hl2:D.S.length≤1099511627776) (vs vb:Value) (w:World) (hs:Sts w vs D.S) (hb:Its w vb D.B):Calls Tryz.prog 78 #[.agg #[vs,vb]] w fun e w'=>e=.returned (.bool D.right)∧Below w.heap.size w w':=by
 obtain ⟨A,c,rfl,_,hc⟩:=hs.form
 obtain ⟨A2,c2,rfl,_,hc2⟩:=hb.form
 have hX:=(Bag.nil w).new 38 [.slice A D.S.length c,.slice A2 D.B.length c2]
 have hri:=qb1 D
 obtain ⟨S,B⟩:=D
 dsimp only at hri hc hc2 hX hl hl2 ⊢
 clear hb hs
 generalize hR:Drv.right ⟨S,B⟩=r at *
 clear hR
 by_cases h1:S.length<1
 ·have hr:r=false:=by cases r<;>simp_all
  subst hr
  have d1:decide ((S.length:Int)<1)=true:=decide_eq_true (by omega)
  have d1n:decide (S.length<1)=true:=decide_eq_true h1
  clear hri hc hc2
  go_enter Tryz.func78,Tryz.ntmps78
  go_wp2_with (first|((with_reducible refine qab ?_);refine lc hX ?_))
  go_ret
  exact ⟨rfl,hX.below⟩
 have d1:decide ((S.length:Int)<1)=false:=decide_eq_false (by omega)
 have d1n:decide (S.length<1)=false:=decide_eq_false h1
 by_cases h2:256<S.length
 ·have hr:r=false:=by cases r;rfl;have:=(hri.1 rfl).2.1;omega
  subst hr
  have d2:decide ((256:Int)<(S.length:Int))=true:=decide_eq_true (by omega)
  have d2n:decide (256<S.length)=true:=decide_eq_true h2
  clear hri hc hc2
  go_enter Tryz.func78,Tryz.ntmps78
  go_wp2_with (first|((with_reducible refine qab ?_);refine lc hX ?_))
  go_ret
  exact ⟨rfl,hX.below⟩
 have d2:decide ((256:Int)<(S.length:Int))=false:=decide_eq_false (by omega)
 have d2n:decide (256<S.length)=false:=decide_eq_false h2
 go_enter Tryz.func78,Tryz.ntmps78
 go_wp2_with (first|((with_reducible refine qab ?_);refine lc hX ?_))
 clear d1 d1n d2 d2n
 go_loopw [3] (fun iv wr=>∃ i:Nat,i≤S.length∧iv=.int .i64 i∧Hid (∀ (j:Nat) s,j<i→S[j]? = some s→s.size=128)∧Bag [(w.heap.size,38,[.slice A S.length c,.slice A2 B.length c2])] w wr) (fun i _=>match i with|.int _ q=>S.length - q.toNat|_=>0)
 case atStart=>exact ⟨0,Nat.zero_le _,rfl,fun j s hj=>absurd hj (Nat.not_lt_zero j),hX⟩
 case round =>
  clear hX
  obtain ⟨i,hi,rfl,hN,hX⟩:=hrel
  by_cases hin:i<S.length
  ·have hii:(i:Int)<(S.length:Int):=by omega
   have hx:=List.getElem?_eq_getElem hin
   have hm:=List.getElem_mem hin
   generalize S[i]=x at *
   obtain ⟨a,rfl,hL⟩:=hc i x hx
   by_cases hsz:x.size=128
   ·have hsb:((x.size:Int) != 128)=false:=by simp;omega
    have hN2:Hid (∀ (j:Nat) s,j<i+1→S[j]? = some s→s.size=128):=fun j s hj hs=>by
     rcases (by omega:j<i∨j=i) with h|rfl
     ·exact (show ∀ (j:Nat) s,j<i→S[j]? = some s→s.size=128 from hN) j s h hs
     ·rw [hx] at hs;cases hs;exact hsz
    have hszi:(x.size:Int)=128:=by omega
    clear hN hx hsz hc hri hc2 hm
    go_wp2_with (first|((with_reducible refine qab ?_);first|refine lc hX ?_|refine qaq rfl 9 _ _ _ rfl rfl (hL _ hX.below) ?_))
    exact ⟨⟨i+1,by omega,by go_num,hN2,hX⟩,by simp only;omega⟩
   ·have hsb:((x.size:Int) != 128)=true:=by simp;omega
    have hr:r=false:=by cases r;rfl;exact absurd ((hri.1 rfl).2.2.1 x hm) hsz
    subst hr
    clear hN hx hsz hc hri hc2 hm
    go_wp2_with (first|((with_reducible refine qab ?_);first|refine lc hX ?_|refine qaq rfl 9 _ _ _ rfl rfl (hL _ hX.below) ?_))
    go_ret
    exact ⟨rfl,hX.below⟩
  ·have hii:¬ (i:Int)<(S.length:Int):=by omega
   have hall:∀ s∈S,s.size=128:=fun s hs=>by
    obtain ⟨j,hj⟩:=List.mem_iff_getElem?.1 hs
    have hjl:j<S.length:=(List.getElem?_eq_some_iff.1 hj).1
    exact (show ∀ (j:Nat) s,j<i→S[j]? = some s→s.size=128 from hN) j s (by omega) hj
   have hri2:r=true↔okB S.length B=true:=⟨fun h=>(hri.1 h).2.2.2,fun h=>hri.2 ⟨by omega,by omega,hall,h⟩⟩
   clear hri hall hN hc
   obtain ⟨iv,hiv⟩:∃ iv:Int,(i:Int)=iv:=⟨_,rfl⟩
   go_wp2_with (first|((with_reducible refine qab ?_);refine lc hX ?_))
   go_loopw [4] (fun iv wr=>∃ i:Nat,i≤B.length∧iv=.int .i64 i∧Hid (∀ j:Nat,j<i→okAt S.length B j=true)∧Bag [(w.heap.size,38,[.slice A S.length c,.slice A2 B.length c2])] w wr) (fun i _=>match i with|.int _ q=>B.length - q.toNat|_=>0)
   case atStart=>exact ⟨0,Nat.zero_le _,rfl,fun j hj=>absurd hj (Nat.not_lt_zero j),hX⟩
   case round =>
    clear hX
    obtain ⟨k,hk,rfl,hN,hX⟩:=hrel
    by_cases hkn:k<B.length
    ·have hki:(k:Int)<(B.length:Int):=by omega
     have hx:=List.getElem?_eq_getElem hkn
     have hgx:B.getD k 0=B[k]:=by rw [List.getD_eq_getElem?_getD,hx];rfl
     generalize B[k]=x at *
     obtain ⟨a,rfl,hL⟩:=hc2 k x hx
     have hko:=qdk S.length B k
     rw [hgx] at hko
     have hrf:okAt S.length B k=false→r=false:=fun h=>by
      cases r
      ·rfl
      ·have:=(qdw _ _).1 (hri2.1 rfl) k hkn;rw [h] at this;cases this
     have hN2:okAt S.length B k=true→Hid (∀ j:Nat,j<k+1→okAt S.length B j=true):=fun h j hj=>by
      rcases (by omega:j<k∨j=k) with h'|rfl
      ·exact (show ∀ j:Nat,j<k→okAt S.length B j=true from hN) j h'
      ·exact h
     by_cases q0:x<0
     ·have d0:decide (x<0)=true:=decide_eq_true q0
      have hr:r=false:=hrf (by cases h:okAt S.length B k;rfl;have:=hko.1 h;omega)
      subst hr
      clear hrf hN2 hko hN hri2 hc2 hx hgx
      go_wp2_with (first|((with_reducible refine qab ?_);refine lc hX ?_))
      refine qa5 (fun w'=>Bag [(w.heap.size,38,[.slice A S.length c,.slice (some a) B.length c2])] w w') (by kernel_rfl) (by kernel_rfl) hX.drew ?_
      repeat
       first
        | (refine BigFrame.wpQuiet_skip (by rfl) ?_
           simp only [Act.put,sx])
        | (refine BigFrame.wpQuiet_want (by rfl) (fun K hK=>?_)
           apply Exists.intro
           refine ⟨fun wq hq=>?_,hK _ ?_⟩
           ·first
             | (refine qar 36 _ _ _ rfl rfl ((hq.all _ _ _ (.head _)).loadCell rfl qau))
             | (refine qar 26 _ _ _ rfl rfl ((hq.all _ _ _ (.head _)).loadCell rfl qap))
             | (refine qar 3 _ _ _ rfl rfl (hL _ hq.below))
             | (unfold Oper.quietAt
                go_simp
                first
                 | with_reducible rfl
               )
           clear hK K
           simp only [Act.put,sx])
      refine wpQuiet_nil ?_
      intro w4 hX
      go_wp2
      go_ret
      exact ⟨rfl,hX.below⟩
     have d0:decide (x<0)=false:=decide_eq_false q0
     by_cases q1:(S.length:Int)≤x
     ·have d1:decide ((S.length:Int)≤x)=true:=decide_eq_true q1
      have hr:r=false:=hrf (by cases h:okAt S.length B k;rfl;have:=hko.1 h;omega)
      subst hr
      clear hrf hN2 hko hN hri2 hc2 hx hgx
      go_wp2_with (first|((with_reducible refine qab ?_);refine lc hX ?_))
      refine qa5 (fun w'=>Bag [(w.heap.size,38,[.slice A S.length c,.slice (some a) B.length c2])] w w') (by kernel_rfl) (by kernel_rfl) hX.drew ?_
      repeat
       first
        | (refine BigFrame.wpQuiet_skip (by rfl) ?_
           simp only [Act.put,sx])
        | (refine BigFrame.wpQuiet_want (by rfl) (fun K hK=>?_)
           apply Exists.intro
           refine ⟨fun wq hq=>?_,hK _ ?_⟩
           ·first
             | (refine qar 36 _ _ _ rfl rfl ((hq.all _ _ _ (.head _)).loadCell rfl qau))
             | (refine qar 26 _ _ _ rfl rfl ((hq.all _ _ _ (.head _)).loadCell rfl qap))
             | (refine qar 3 _ _ _ rfl rfl (hL _ hq.below))
             | (unfold Oper.quietAt
                go_simp
                first
                 | with_reducible rfl
               )
           clear hK K
           simp only [Act.put,sx])
      refine wpQuiet_nil ?_
      intro w4 hX
      go_wp2
      go_ret
      exact ⟨rfl,hX.below⟩
     have d1:decide ((S.length:Int)≤x)=false:=decide_eq_false q1
     by_cases q2:k=0
     ·subst q2
      have hok:=hN2 (hko.2 ⟨by omega,by omega,.inl rfl⟩)
      clear hrf hN2 hko hN hri2 hc2 hx hgx
      go_wp2_with (first|((with_reducible refine qab ?_);refine lc hX ?_))
      refine qa5 (fun w'=>Bag [(w.heap.size,38,[.slice A S.length c,.slice (some a) B.length c2])] w w') (by kernel_rfl) (by kernel_rfl) hX.drew ?_
      repeat
       first
        | (refine BigFrame.wpQuiet_skip (by rfl) ?_
           simp only [Act.put,sx])
        | (refine BigFrame.wpQuiet_want (by rfl) (fun K hK=>?_)
           apply Exists.intro
           refine ⟨fun wq hq=>?_,hK _ ?_⟩
           ·first
             | (refine qar 36 _ _ _ rfl rfl ((hq.all _ _ _ (.head _)).loadCell rfl qau))
             | (refine qar 26 _ _ _ rfl rfl ((hq.all _ _ _ (.head _)).loadCell rfl qap))
             | (refine qar 3 _ _ _ rfl rfl (hL _ hq.below))
             | (unfold Oper.quietAt
                go_simp
                first
                 | with_reducible rfl
               )
           clear hK K
           simp only [Act.put,sx])
      refine wpQuiet_nil ?_
      intro w4 hX
      go_wp2
      exact ⟨⟨1,by omega,rfl,hok,hX⟩,by simp only;omega⟩
     obtain ⟨j,hkj⟩:∃ j,k=j+1:=⟨k - 1,by omega⟩
     have d2:decide ((0:Int)<(k:Int))=true:=decide_eq_true (by omega)
     have d2n:decide (0<k)=true:=decide_eq_true (by omega)
     have hw1:IntKind.i64.wrap ((k:Int) - 1)=(j:Int):=by rw [qaf];unfold wrap64;omega
     have hy:=List.getElem?_eq_getElem (show j<B.length by omega)
     have hkj1:k - 1=j:=by omega
     have hgy:B.getD (k - 1) 0=B[j]:=by rw [hkj1,List.getD_eq_getElem?_getD,hy];rfl
     rw [hgy] at hko
     generalize B[j]=y at *
     obtain ⟨a',ha',hL2⟩:=hc2 j y hy
     cases ha'
     have hji:(j:Int)<(B.length:Int):=by omega
     by_cases q3:x≤y
     ·have d3:decide (x≤y)=true:=decide_eq_true q3
      have hr:r=false:=hrf (by cases h:okAt S.length B k;rfl;have:=hko.1 h;omega)
      subst hr
      clear hrf hN2 hko hN hri2 hc2 hx hgx hy hgy hkj hkj1
      go_wp2_with (first|((with_reducible refine qab ?_);refine lc hX ?_))
      refine qa5 (fun w'=>Bag [(w.heap.size,38,[.slice A S.length c,.slice (some a) B.length c2])] w w') (by kernel_rfl) (by kernel_rfl) hX.drew ?_
      repeat
       first
        | (refine BigFrame.wpQuiet_skip (by rfl) ?_
           simp only [Act.put,sx])
        | (refine BigFrame.wpQuiet_want (by rfl) (fun K hK=>?_)
           apply Exists.intro
           refine ⟨fun wq hq=>?_,hK _ ?_⟩
           ·first
             | (refine qar 36 _ _ _ rfl rfl ((hq.all _ _ _ (.head _)).loadCell rfl qau))
             | (refine qar 26 _ _ _ rfl rfl ((hq.all _ _ _ (.head _)).loadCell rfl qap))
             | (refine qar 3 _ _ _ rfl rfl (hL _ hq.below))
             | (refine qar 3 _ _ _ rfl rfl (hL2 _ hq.below))
             | (unfold Oper.quietAt
                go_simp
                first
                 | with_reducible rfl
               )
           clear hK K
           simp only [Act.put,sx])
      refine wpQuiet_nil ?_
      intro w4 hX
      go_wp2
      go_ret
      exact ⟨rfl,hX.below⟩
     ·have d3:decide (x≤y)=false:=decide_eq_false q3
      have hok:=hN2 (hko.2 ⟨by omega,by omega,.inr (by omega)⟩)
      clear hrf hN2 hko hN hri2 hc2 hx hgx hy hgy hkj hkj1
      go_wp2_with (first|((with_reducible refine qab ?_);refine lc hX ?_))
      refine qa5 (fun w'=>Bag [(w.heap.size,38,[.slice A S.length c,.slice (some a) B.length c2])] w w') (by kernel_rfl) (by kernel_rfl) hX.drew ?_
      repeat
       first
        | (refine BigFrame.wpQuiet_skip (by rfl) ?_
           simp only [Act.put,sx])
        | (refine BigFrame.wpQuiet_want (by rfl) (fun K hK=>?_)
           apply Exists.intro
           refine ⟨fun wq hq=>?_,hK _ ?_⟩
           ·first
             | (refine qar 36 _ _ _ rfl rfl ((hq.all _ _ _ (.head _)).loadCell rfl qau))
             | (refine qar 26 _ _ _ rfl rfl ((hq.all _ _ _ (.head _)).loadCell rfl qap))
             | (refine qar 3 _ _ _ rfl rfl (hL _ hq.below))
             | (refine qar 3 _ _ _ rfl rfl (hL2 _ hq.below))
             | (unfold Oper.quietAt
                go_simp
                first
                 | with_reducible rfl
               )
           clear hK K
           simp only [Act.put,sx])
      refine wpQuiet_nil ?_
      intro w4 hX
      go_wp2
      exact ⟨⟨k+1,by omega,by go_num,hok,hX⟩,by simp only;omega⟩
    ·have hki:¬ (k:Int)<(B.length:Int):=by omega
     have hr:r=true:=hri2.2 ((qdw _ _).2 fun j hj=>(show ∀ j:Nat,j<k→okAt S.length B j=true from hN) j (by omega))
     subst hr
     clear hri2 hN hc2
     go_wp2_with (first|((with_reducible refine qab ?_);refine lc hX ?_))
     go_ret
     exact ⟨rfl,hX.below⟩
theorem str_eq {a b:ByteArray} (h:a=b):(a.toList == b.toList)=true:=by rw [h];simp
theorem str_ne {a b:ByteArray} (h:¬ a=b):(a.toList == b.toList)=false:=by
 rw [Lib.toList_data,Lib.toList_data]
 exact beq_eq_false_iff_ne.2 fun e=>h (by
  cases a;cases b
  simp only [ByteArray.mk.injEq]
  exact Array.toList_inj.1 e)
theorem and64 (n:Int):(bits .and .i64 n 64 != 0)=decide (n / 64%2=1):=by
 have h1:bits .and .i64 n 64=n / 64%2*64:=qd1 (c:=64) (by decide) (qe7 _ 6 1) (by intro h;omega)
 rw [h1,Bool.eq_iff_iff];simp;omega
end Go.Proofs.YthpnddgfgpacpaaGreat
