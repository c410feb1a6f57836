import Derived.Test.YthpnddgfgpacpaaGreatRT04
import Derived.OrdersHeld
import Derived.Test.YthpnddgfgpacpaaGreatRT12
import Derived.Test.YthpnddgfgpacpaaGreatRT01
import Derived.Test.YthpnddgfgpacpaaGreatRT09
import Derived.Test.YthpnddgfgpacpaaGreatRT11
import Derived.Test.YthpnddgfgpacpaaGreatRT05
import Derived.StillTail
import Derived.Deep.Quiet
import Derived.Tactics
import Derived.Laws.CopyOwn
import Derived.Laws.OwnMore
import Derived.Deep.Onto
namespace Go.Proofs.YthpnddgfgpacpaaGreat
open Go Go.RowKit
set_option linter.unusedVariables false
section
variable {P:Program} {ops:Array Oper} {md:Region.Mode} {Q:Exit→Act→World→Prop} {S:World→Prop}
def wpHT (P:Program) (md:Region.Mode) (ops:Array Oper) (Q:Exit→Act→World→Prop) (S:World→Prop) (L:Array Bool→Act→World→Prop):Nat→Array Bool→Act→World→Prop
 | 0,listed,a,w=>L listed a w
 | f+1,listed,a,w=>Region.ready md ops listed≠[]∧∀ i∈Region.ready md ops listed,wpOp P ops Q i (fun a' w'=>S w'∧wpHT P md ops Q S L f (listed.setIfInBounds i true) a' w') a w
theorem qfh {g:Nat} {L:Array Bool→Act→World→Prop} (hL:∀ listed a w,L listed a w→wpAny P md ops Q g listed a w) :
 ∀ (f:Nat) (listed:Array Bool) (a:Act) (w:World),wpHT P md ops Q S L f listed a w→wpAny P md ops Q (f+g) listed a w
 | 0,listed,a,w,h=>by rw [Nat.zero_add];exact hL _ _ _ h
 | f+1,listed,a,w,h=>by
   rw [show f+1+g=(f+g)+1 by omega]
   exact ⟨fun h0=>absurd h0 h.1,fun i hi=>wpOp_mono (fun a' w' h'=>qfh hL f _ a' w' h'.2) (h.2 i hi)⟩
theorem qi5 {n i:Nat} {oi:Oper} {v:Value} {L:Array Bool→Act→World→Prop} (hi:ops[i]? = some oi) (hsel:∀ (j:Nat) (o:Oper) cs b,ops[j]? = some o→o.op≠.select cs b)
 (hQ:∀ c a w,Q (.panic c) (a.put oi.dst v) w→Q (.panic c) a w)
 (hs:Region.sinkB md ops n=true) (hc:Region.chainB md ops n=true) (hn:n<ops.size) (hin:i<n)
 (hdone:∀ listed a w,L listed a w→∀ j∈Region.ready md ops listed,n≤j) :
 ∀ (f:Nat) (listed:Array Bool) (a:Act) (w:World),HeadInv md ops n listed →
  (∀ j oj,ops[j]? = some oj→j≠i→listed.getD j true=false→(∀ e∈oj.after,Region.binds md e=true→e.on≠i)→oi.apart ops oj=true) →
  i∈Region.ready md ops listed→YieldsIf P ops S oi v a→S w →
  wpHT P md ops Q S L f (listed.setIfInBounds i true) (a.put oi.dst v) w→wpHT P md ops Q S L (f+1) listed a w:=by
 intro f
 induction f with
 | zero =>
   intro listed a w inv _ hr hy hS H
   have hun:=(mem_ready.1 hr).1
   refine ⟨fun h=>(by rw [h] at hr;cases hr),fun j hj=>?_⟩
   by_cases hji:j=i
   ·subst hji;exact hy.wpOp hi hS ⟨hS,H⟩
   ·exfalso
    have hjn:j<n:=by
     rcases Nat.lt_or_ge j n with h|h
     ·exact h
     ·exact absurd hj (tail_waits hs hc hn inv _ i rfl hin hun j h)
    have:=hdone _ _ _ H j (ready_mono hj hji)
    omega
 | succ f ih =>
   intro listed a w inv hfree hr hy hS H
   have hun:=(mem_ready.1 hr).1
   refine ⟨fun h=>(by rw [h] at hr;cases hr),fun j hj=>?_⟩
   have hjn:j<n:=by
    rcases Nat.lt_or_ge j n with h|h
    ·exact h
    ·exact absurd hj (tail_waits hs hc hn inv _ i rfl hin hun j h)
   by_cases hji:j=i
   ·subst hji;exact hy.wpOp hi hS ⟨hS,H⟩
   ·have h1:=H.2 j (ready_mono hj hji)
    obtain ⟨hjun,oj,hoj,hall⟩:=mem_ready.1 hj
    have hnot:∀ e∈oj.after,Region.binds md e=true→e.on≠i:=fun e he hb heq=>by
     have h1:=hall e he hb
     rw [heq,getD_both hun] at h1
     cases h1
    have h2:=wpOp_putIf hoj (hfree j oj hoj hji hjun hnot) (fun cs b=>hsel i oi cs b hi) (fun cs b=>hsel j oj cs b hoj) hQ hy h1
    refine wpOp_mono (fun a' w' h3=>⟨h3.2.1,ih (listed.setIfInBounds j true) a' w' (inv.set hj hjn) (fun k ok hk hki hunk hno=>hfree k ok hk hki (by
     by_cases hjk:j=k
     ·subst hjk;exact hjun
     ·rw [getD_set_ne true hjk] at hunk;exact hunk) hno) (ready_mono hr (Ne.symm hji)) h3.1 h3.2.1 (by rw [Array.setIfInBounds_comm _ _ hji];exact h3.2.2)⟩) h2
def hoB (md:Region.Mode) (ops:Array Oper) (n g:Nat):List (Nat×Bool)→Array Bool→Bool
 | [],listed=>Region.seqB md ops g n listed
 | (i,false) :: l,listed=>decide (i<n) && (Region.ready md ops listed).contains i && Region.free md ops listed i && hoB md ops n g l (listed.setIfInBounds i true)
 | (i,true) :: l,listed=>decide (i<n) && decide (Region.ready md ops listed=[i]) && hoB md ops n g l (listed.setIfInBounds i true)
def wpHo (P:Program) (ops:Array Oper) (S:World→Prop) (F:Act→World→Prop):List (Nat×Bool)→Act→World→Prop
 | [],a,w=>F a w
 | (i,false) :: l,a,w=>∃ o v,ops[i]? = some o∧YieldsIf P ops S o v a∧wpHo P ops S F l (a.put o.dst v) w
 | (i,true) :: l,a,w=>∃ o,ops[i]? = some o∧o.guard=none∧Oper.semiAt P o a (fun v w'=>S w'∧wpHo P ops S F l (a.put o.dst v) w') w
theorem qf7 {n g:Nat} {F:Act→World→Prop} (hsel:Region.noSelect ops=true) (hs:Region.sinkB md ops n=true) (hc:Region.chainB md ops n=true) (hn:n<ops.size)
 (hQ:∀ c a d v w,Q (.panic c) (a.put d v) w→Q (.panic c) a w) :
 ∀ (l:List (Nat×Bool)) (listed:Array Bool) (a:Act) (w:World),HeadInv md ops n listed→hoB md ops n g l listed=true→S w→wpHo P ops S F l a w →
 wpHT P md ops Q S (fun listed' a' w'=>Region.seqB md ops g n listed'=true∧F a' w') l.length listed a w
 | [],listed,a,w,_,hB,_,h=>⟨hB,h⟩
 | (i,false) :: l,listed,a,w,inv,hB,hS,h=>by
   obtain ⟨o,v,ho,hy,h⟩:=h
   simp only [hoB,Bool.and_eq_true,decide_eq_true_eq] at hB
   obtain ⟨⟨⟨hin,hr⟩,hf⟩,hB'⟩:=hB
   have hr':i∈Region.ready md ops listed:=by simpa using hr
   exact qi5 ho (Region.noSelect_spec hsel) (fun c a w=>hQ c a _ _ w) hs hc hn hin (fun listed' a' w' hL=>seqB_ready hL.1) l.length listed a w inv (Region.free_spec ho hf) hr' hy hS
    (qf7 hsel hs hc hn hQ l _ _ _ (inv.set hr' hin) hB' hS h)
 | (i,true) :: l,listed,a,w,inv,hB,hS,h=>by
   obtain ⟨o,ho,hg,h⟩:=h
   simp only [hoB,Bool.and_eq_true,decide_eq_true_eq] at hB
   obtain ⟨⟨hin,hr⟩,hB'⟩:=hB
   have hr':i∈Region.ready md ops listed:=by rw [hr];simp
   refine ⟨by rw [hr];simp,fun j hj=>?_⟩
   rw [hr] at hj
   obtain rfl:j=i:=by simpa using hj
   exact qnc ho hg h (fun v w' hR=>⟨hR.1,qf7 hsel hs hc hn hQ l _ _ _ (inv.set hr' hin) hB' hR.1 hR.2⟩)
theorem qa8 {id:Nat} {a:Act} {w:World} {l:List Oper} (S:World→Prop) (n:Nat) (ord:List (Nat×Bool)) (hm:P.follows .mixedOrders=true)
 (hB:(Region.noSelect l.toArray && decide (n<l.toArray.size) && Region.sinkB .any l.toArray n && Region.chainB .any l.toArray n && decide (ord.length=n) && hoB .any l.toArray n (l.toArray.size - n) ord (Array.replicate l.toArray.size false))=true)
 (hQ:∀ c a d v w,Q (.panic c) (a.put d v) w→Q (.panic c) a w) (hS:S w.drew)
 (h:wpHo P l.toArray S (fun a' w'=>wpList P l.toArray Q (l.drop n) a' w') ord a w.drew):(Code.region id l.toArray true).wp P Q a w:=by
 simp only [Bool.and_eq_true,decide_eq_true_eq] at hB
 obtain ⟨⟨⟨⟨⟨hsel,hn⟩,hs⟩,hc⟩,hlen⟩,hho⟩:=hB
 have hdl:(l.drop n).length=l.toArray.size - n:=by simp
 have inv0:HeadInv .any l.toArray n (Array.replicate l.toArray.size false) :=
  ⟨by simp,fun j oj _ hl=>(by rw [getD_replicate_false] at hl;cases hl),fun t _ ht=>getD_in (by simpa using ht) (getD_replicate_false _ _)⟩
 have H:=qf7 (md:=.any) (Q:=Q) (g:=l.toArray.size - n) hsel hs hc hn hQ ord _ a w.drew inv0 hho hS h
 refine wp_region_any hm ?_
 have:=qfh (Q:=Q) (g:=l.toArray.size - n) (fun listed a' w' hL=>by
  have:=wpAny_of_seq (md:=.any) (Q':=Q) (l.drop n) n listed a' w' (fun j=>by simp [List.getElem?_drop]) (by rw [hdl];exact hL.1) hL.2
  rwa [hdl] at this) _ _ _ _ H
 rw [hlen,show n+(l.toArray.size - n)=l.toArray.size by omega] at this
 exact this
variable {F:Act→World→Prop}
theorem qb7 {a:Act} {w:World} (h:F a w):wpHo P ops S F [] a w:=h
theorem wpHo_q {i:Nat} {l:List (Nat×Bool)} {a:Act} {w:World} {o:Oper} {v:Value} (ho:ops[i]? = some o) (hw:Region.wanted o (yielded ops a.tmps)=true) (hy:∀ w,S w→(execOp a.eval o).run P w=.ok (.value v) w)
 (h:wpHo P ops S F l (a.put o.dst v) w):wpHo P ops S F ((i,false) :: l) a w:=⟨o,v,ho,.inl ⟨hw,hy⟩,h⟩
theorem qbk {i:Nat} {lo:List Oper} {l:List (Nat×Bool)} {a:Act} {w:World} {o:Oper} (ho:lo[i]? = some o) (hw:Region.wanted o (yielded lo.toArray a.tmps)=true)
 (h:∀ K:Act→Prop,(∀ a',wpHo P lo.toArray S F l a' w→K a')→∃ v,(∀ w,S w→(execOp a.eval o).run P w=.ok (.value v) w)∧K (a.put o.dst v)):wpHo P lo.toArray S F ((i,false) :: l) a w:=by
 obtain ⟨v,h1,h2⟩:=h _ (fun _ h=>h)
 exact wpHo_q (by rw [List.getElem?_toArray];exact ho) hw h1 h2
theorem qad {o:Oper} {a:Act} {w:World} {v:Value} (t:TypeId) (x:Operand) (pv:Value) (hop:o.op=Op.load t x) (hx:a.eval x=pv) (hrun:(Instr.loadAt t pv).run P w=.ok v w):(execOp a.eval o).run P w=.ok (.value v) w:=by
 unfold execOp
 simp only [hop,hx,hrun,Sem.run_bind,Sem.run_pure,Result.andThen_ok]
theorem qbm {i:Nat} {lo:List Oper} {l:List (Nat×Bool)} {a:Act} {w:World} {o:Oper} (ho:lo[i]? = some o) (hg:o.guard=none)
 (h:∀ K:Value→World→Prop,(∀ v w',S w'→wpHo P lo.toArray S F l (a.put o.dst v) w'→K v w')→Oper.semiAt P o a K w):wpHo P lo.toArray S F ((i,true) :: l) a w :=
 ⟨o,by rw [List.getElem?_toArray];exact ho,hg,h _ (fun _ _ h1 h2=>⟨h1,h2⟩)⟩
end
set_option linter.unusedSimpArgs false
section
variable {P:Program} {ops:Array Oper} {md:Region.Mode} {Q:Exit→Act→World→Prop} {S:World→Prop}
def wpHp (P:Program) (ops:Array Oper) (Q:Exit→Act→World→Prop) (S:World→Prop) (F:Act→World→Prop):List (Nat×Bool)→Act→World→Prop
 | [],a,w=>F a w
 | (i,false) :: l,a,w=>∃ o v,ops[i]? = some o∧YieldsIf P ops S o v a∧wpHp P ops Q S F l (a.put o.dst v) w
 | (i,true) :: l,a,w=>wpOp P ops Q i (fun a' w'=>S w'∧wpHp P ops Q S F l a' w') a w
theorem qga {n g:Nat} {F:Act→World→Prop} (hsel:Region.noSelect ops=true) (hs:Region.sinkB md ops n=true) (hc:Region.chainB md ops n=true) (hn:n<ops.size)
 (hQ:∀ c a d v w,Q (.panic c) (a.put d v) w→Q (.panic c) a w) :
 ∀ (l:List (Nat×Bool)) (listed:Array Bool) (a:Act) (w:World),HeadInv md ops n listed→hoB md ops n g l listed=true→S w→wpHp P ops Q S F l a w →
 wpHT P md ops Q S (fun listed' a' w'=>Region.seqB md ops g n listed'=true∧F a' w') l.length listed a w
 | [],listed,a,w,_,hB,_,h=>⟨hB,h⟩
 | (i,false) :: l,listed,a,w,inv,hB,hS,h=>by
   obtain ⟨o,v,ho,hy,h⟩:=h
   simp only [hoB,Bool.and_eq_true,decide_eq_true_eq] at hB
   obtain ⟨⟨⟨hin,hr⟩,hf⟩,hB'⟩:=hB
   have hr':i∈Region.ready md ops listed:=by simpa using hr
   exact qi5 ho (Region.noSelect_spec hsel) (fun c a w=>hQ c a _ _ w) hs hc hn hin (fun listed' a' w' hL=>seqB_ready hL.1) l.length listed a w inv (Region.free_spec ho hf) hr' hy hS
    (qga hsel hs hc hn hQ l _ _ _ (inv.set hr' hin) hB' hS h)
 | (i,true) :: l,listed,a,w,inv,hB,hS,h=>by
   simp only [hoB,Bool.and_eq_true,decide_eq_true_eq] at hB
   obtain ⟨⟨hin,hr⟩,hB'⟩:=hB
   have hr':i∈Region.ready md ops listed:=by rw [hr];simp
   refine ⟨by rw [hr];simp,fun j hj=>?_⟩
   rw [hr] at hj
   obtain rfl:j=i:=by simpa using hj
   exact wpOp_mono (fun a' w' h=>⟨h.1,qga hsel hs hc hn hQ l _ _ _ (inv.set hr' hin) hB' h.1 h.2⟩) h
theorem qbw {id:Nat} {a:Act} {w:World} {l:List Oper} (S:World→Prop) (n:Nat) (ord:List (Nat×Bool)) (hm:P.follows .mixedOrders=true)
 (hB:(Region.noSelect l.toArray && decide (n<l.toArray.size) && Region.sinkB .any l.toArray n && Region.chainB .any l.toArray n && decide (ord.length=n) && hoB .any l.toArray n (l.toArray.size - n) ord (Array.replicate l.toArray.size false))=true)
 (hQ:∀ c a d v w,Q (.panic c) (a.put d v) w→Q (.panic c) a w) (hS:S w.drew)
 (h:wpHp P l.toArray Q S (fun a' w'=>wpList P l.toArray Q (l.drop n) a' w') ord a w.drew):(Code.region id l.toArray true).wp P Q a w:=by
 simp only [Bool.and_eq_true,decide_eq_true_eq] at hB
 obtain ⟨⟨⟨⟨⟨hsel,hn⟩,hs⟩,hc⟩,hlen⟩,hho⟩:=hB
 have hdl:(l.drop n).length=l.toArray.size - n:=by simp
 have inv0:HeadInv .any l.toArray n (Array.replicate l.toArray.size false) :=
  ⟨by simp,fun j oj _ hl=>(by rw [getD_replicate_false] at hl;cases hl),fun t _ ht=>getD_in (by simpa using ht) (getD_replicate_false _ _)⟩
 have H:=qga (md:=.any) (Q:=Q) (g:=l.toArray.size - n) hsel hs hc hn hQ ord _ a w.drew inv0 hho hS h
 refine wp_region_any hm ?_
 have:=qfh (Q:=Q) (g:=l.toArray.size - n) (fun listed a' w' hL=>by
  have:=wpAny_of_seq (md:=.any) (Q':=Q) (l.drop n) n listed a' w' (fun j=>by simp [List.getElem?_drop]) (by rw [hdl];exact hL.1) hL.2
  rwa [hdl] at this) _ _ _ _ H
 rw [hlen,show n+(l.toArray.size - n)=l.toArray.size by omega] at this
 exact this
variable {F:Act→World→Prop}
theorem Bag.restS {b:Nat×TypeId×List Value} {l:List (Nat×TypeId×List Value)} {w0 w:World} (h:Bag (b :: l) w0 w):Bag l w0 w:=⟨fun B t cs hm=>h.all B t cs (.tail _ hm),h.below,fun q hq=>h.lo q (.tail _ hq),(List.pairwise_cons.1 h.dis).2⟩
theorem qdm {a:Act} {w:World} (h:F a w):wpHp P ops Q S F [] a w:=h
theorem qcm {i:Nat} {lo:List Oper} {l:List (Nat×Bool)} {a:Act} {w:World} {o:Oper} (ho:lo[i]? = some o) (hw:Region.wanted o (yielded lo.toArray a.tmps)=true)
 (h:∀ K:Act→Prop,(∀ a',wpHp P lo.toArray Q S F l a' w→K a')→∃ v,(∀ w,S w→(execOp a.eval o).run P w=.ok (.value v) w)∧K (a.put o.dst v)):wpHp P lo.toArray Q S F ((i,false) :: l) a w:=by
 obtain ⟨v,h1,h2⟩:=h _ (fun _ h=>h)
 exact ⟨o,v,by rw [List.getElem?_toArray];exact ho,.inl ⟨hw,h1⟩,h2⟩
theorem qcu {i:Nat} {lo:List Oper} {l:List (Nat×Bool)} {a:Act} {w:World} {o:Oper} (ho:lo[i]? = some o) (hg:o.guard=none)
 (h:∀ K:Value→World→Prop,(∀ v w',S w'→wpHp P lo.toArray Q S F l (a.put o.dst v) w'→K v w')→Oper.semiAt P o a K w):wpHp P lo.toArray Q S F ((i,true) :: l) a w :=
 qnc (R:=fun v w'=>S w'∧wpHp P lo.toArray Q S F l (a.put o.dst v) w') (by rw [List.getElem?_toArray];exact ho) hg (h _ (fun _ _ h1 h2=>⟨h1,h2⟩)) (fun v w' h=>h)
theorem qda {i:Nat} {lo:List Oper} {l:List (Nat×Bool)} {lb:List (Nat×TypeId×List Value)} {a:Act} {w w0:World} {o:Oper} {B n:Nat} {t T:TypeId} {cs cs':List Value} (ho:lo[i]? = some o) (hg:o.guard=none) (hX:Bag ((B,t,cs) :: lb) w0 w) (hagg:∀ w,(isAgg T).run P w=.ok true w) (hsz:∀ w,(sizeOf T).run P w=.ok n w) (x y:Operand) (hop:o.op=Op.store T x y) (hx:a.eval x=.pointer (some ⟨B,0,none⟩)) (hy:a.eval y=.agg cs'.toArray) (hdst:o.dst=none) (hn:cs'.length=n) (hc:cs.length=n) (h1:∀ v∈cs',v.oneCell'=true)
 (h:∀ w2,Bag ((B,t,cs') :: lb) w0 w2→(∀ k,k≠B→w2.heap[k]? = w.heap[k]?)→S w2∧wpHp P lo.toArray Q S F l (a.put none undef) w2):wpHp P lo.toArray Q S F ((i,true) :: l) a w:=by
 have hwant:Region.wanted o (yielded lo.toArray a.tmps)=true:=by unfold Region.wanted;rw [hg]
 have hi:lo.toArray[i]? = some o:=by rw [List.getElem?_toArray];exact ho
 have hrun:=(hX.all _ _ _ List.mem_cons_self).store_run (P:=P) (cs':=cs') (by rw [hn,hc]) h1
 show wpOp _ _ _ _ _ _ _
 unfold wpOp
 simp only [hi,hwant,if_true]
 refine .inl ?_
 unfold Oper.wp execOp
 simp only [hop,hx,hy,Instr.storeAt,Instr.sureAddr,storeVar,Value.cells,hrun,hagg,hn▸hsz,hsz,hn,List.size_toArray,ne_eq,not_true_eq_false,if_false,Sem.run_bind,Sem.run_pure,Result.andThen_ok,if_true]
 show _∧_
 rw [hdst]
 exact h _ (hX.over _) (fun k hk=>setRow_other w B k _ hk)
end
open Go.RowKit
set_option maxHeartbeats 4000000
set_option maxRecDepth 100000
attribute [local irreducible] wpQuiet
theorem Ma.parts {A:Ma} (h:A.right=true):A.L.length≤4∧(∀ x∈A.L,x.right=true)∧rightP A.M A.B=true∧A.U.right=true∧A.k.right=true∧A.K.right=true∧A.T.right=true:=by
 unfold Ma.right at h
 simp only [Bool.and_eq_true,decide_eq_true_eq,List.all_eq_true] at h
 obtain ⟨⟨⟨⟨⟨⟨h1,h2⟩,h3⟩,h4⟩,h5⟩,h6⟩,h7⟩:=h
 exact ⟨h1,h2,h3,h4,h5,h6,h7⟩
theorem qfu {P:Program} {fn:Func} {tmps:Array Value} {w:World} {j k m:Tmp} {T:TypeId} {a:Addr} {v:Value} (hr:fn.results=#[.cell j T,.tmp k,.tmp m]) (ha:tmps.getD j undef=.pointer (some a)) (hl:(Go.loadVar T a).run P w=.ok v w) :
 (results fn tmps).run P w=.ok (.tuple #[v,tmps.getD k undef,tmps.getD m undef]) w:=by
 unfold results
 rw [hr]
 have ha':=ha
 rw [Array.getD_eq_getD_getElem?] at ha'
 simp [ha',asAddr,hl]
theorem ownA18 {X:Nat→Prop} {N n:Nat} (h:∀ b,X b→b<N) (hn:N+2≤n):∀ b,OwnA X N b→b<n:=fun b hb=>by
 rcases hb with hb|hb|hb
 ·have:=h b hb;omega
 ·omega
 ·omega
theorem qkp {X:Nat→Prop} {N:Nat}:∀ b,b<N→OwnA X N b→X b:=fun b hb h=>by
 rcases h with h|h|h
 ·exact h
 ·omega
 ·omega
theorem rdR_ok {A:Ma} (h:A.ok) (off:Int):(A.rdR off).1.ok:=by
 unfold Ma.rdR
 repeat' split
 all_goals exact h
theorem line_lo {A:Ma} (h:A.right=true) {off:Int} (hq:A.isL off=true):(lnAt A off).right=true:=by
 unfold Ma.isL at hq
 simp only [Bool.and_eq_true,decide_eq_true_eq] at hq
 have hl:((off - 512) / 8).toNat<A.L.length:=by omega
 have hx:lnAt A off=A.L[((off - 512) / 8).toNat]:=by unfold lnAt;rw [List.getD_eq_getElem?_getD,List.getElem?_eq_getElem hl];rfl
 rw [hx]
 exact (Ma.parts h).2.1 _ (List.getElem_mem hl)
theorem qil (n:Int):∀ (l:List Int) (low:Int),badB n low l=true→(l.length:Int)≤max 0 (n - low)
 | [],low,_=>by simp;omega
 | x :: r,low,h=>by
   unfold badB at h
   simp only [Bool.and_eq_true,decide_eq_true_eq] at h
   have:=qil n r (x+2) h.2
   rw [List.length_cons]
   omega
theorem qfp {M B:List Int} (h:rightP M B=true):M.length≤1099511627776∧B.length≤1099511627776:=by
 unfold rightP at h
 simp only [Bool.and_eq_true] at h
 have h1:=qil _ _ _ h.2.2
 have h2:M.length≤16384:=by have:=h.1;unfold okS at this;simp at this;omega
 omega
structure MaV (X:Nat→Prop) (w:World) (A:Ma) (vm vb vl vs vd vt:Value):Prop where
 m:ItsX X w vm A.M
 b:ItsX X w vb A.B
 l:LnsX X w vl A.L
 s:StsX X w vs A.K.D.S
 d:ItsX X w vd A.K.D.B
 t:StsX X w vt A.T.R
theorem LnsX.now {X:Nat→Prop} {w:World} {v:Value} {l:List Ln} (h:LnsX X w v l):Lns w v l:=Sv.now h
theorem qbq {w:World} {v:Value} {n:Nat} {cs:List Value} (h:Rz w v n cs):v.oneCell'=true:=by
 obtain ⟨⟨A,c,rfl,_⟩,_⟩:=h
 rfl
section
variable {X:Nat→Prop} {w:World} {A:Ma} {vm vb vl vs vd vt:Value} (h:MaV X w A vm vb vl vs vd vt)
include h
theorem MaV.now:MaNow w A vm vb vl vs vd vt:=⟨h.m.now,h.b.now,h.l.now,h.s.now,h.d.now,h.t.now⟩
theorem MaV.below {w':World} (hb:Below w.heap.size w w'):MaV X w' A vm vb vl vs vd vt:=⟨Sv.below h.m hb,Sv.below h.b hb,Sv.below h.l hb,Sv.below h.s hb,Sv.below h.d hb,Sv.below h.t hb⟩
theorem MaV.weak {Y:Nat→Prop} {w':World} (hb:Below w.heap.size w w') (hY:∀ b,b<w.heap.size→Y b→X b):MaV Y w' A vm vb vl vs vd vt:=⟨Sv.weak h.m hb hY,Sv.weak h.b hb hY,Sv.weak h.l hb hY,Sv.weak h.s hb hY,Sv.weak h.d hb hY,Sv.weak h.t hb hY⟩
theorem MaV.x:MaX X w (.agg (A.cells vm vb vl vs vd vt).toArray) A:=⟨_,_,_,_,_,_,rfl,h.m,h.b,h.l,h.s,h.d,h.t⟩
theorem MaV.o1:vm.oneCell'=true:=qbq h.m.now
theorem MaV.o2:vb.oneCell'=true:=qbq h.b.now
theorem MaV.o3:vl.oneCell'=true:=qbq h.l.now
theorem MaV.o4:vs.oneCell'=true:=qbq h.s.now
theorem MaV.o5:vd.oneCell'=true:=qbq h.d.now
theorem MaV.o6:vt.oneCell'=true:=qbq h.t.now
end
theorem qot (c:Ck):∀ v∈c.L,v.oneCell'=true:=by
 intro v hv
 unfold Ck.L at hv
 simp only [List.mem_cons,List.not_mem_nil,or_false] at hv
 rcases hv with rfl|rfl|rfl|rfl<;>rfl
theorem qiv {K:Dk} {vs vb:Value} (h1:vs.oneCell'=true) (h2:vb.oneCell'=true):∀ v∈dkL vs vb K,v.oneCell'=true:=by
 intro v hv
 unfold dkL at hv
 simp only [List.mem_cons,List.not_mem_nil,or_false] at hv
 rcases hv with rfl|rfl|rfl|rfl|rfl|rfl|rfl|rfl|rfl|rfl<;>first|rfl|assumption
theorem qfk {K:Tp} {vs:Value} (h1:vs.oneCell'=true):∀ v∈tpL vs K,v.oneCell'=true:=by
 intro v hv
 unfold tpL at hv
 simp only [List.mem_cons,List.not_mem_nil,or_false] at hv
 rcases hv with rfl|rfl|rfl|rfl|rfl|rfl|rfl|rfl|rfl|rfl|rfl<;>first|rfl|assumption
theorem qsv (u:Un):∀ v∈u.L,v.oneCell'=true:=by
 intro v hv
 unfold Un.L at hv
 simp only [List.mem_cons,List.mem_append,List.mem_flatMap,List.not_mem_nil,or_false] at hv
 rcases hv with rfl|⟨p,_,hp⟩|rfl|rfl
 ·rfl
 ·unfold Pg.L at hp
  simp only [List.mem_cons,List.not_mem_nil,or_false] at hp
  rcases hp with rfl|rfl|rfl|rfl<;>rfl
 ·rfl
 ·rfl
theorem Bag.rot3 {l:List (Nat×TypeId×List Value)} {w0 w:World} {a b c:Nat×TypeId×List Value} (h:Bag (a :: b :: c :: l) w0 w):Bag (b :: c :: a :: l) w0 w:=h.perm ((List.Perm.swap _ _ _).trans (.cons _ (.swap _ _ _)))
theorem Sv.over18 {X:Nat→Prop} {B:Nat} {w w':World} {v:Value} {n:Nat} {cs:List Value} (h:Sv X w v n cs) (hk:∀ k,k≠B→w'.heap[k]? = w.heap[k]?) (hB:X B):Sv X w' v n cs:=h.off (fun b _ hx=>hk b (fun e=>hx (e▸hB))) (fun _ _ h=>h)
theorem Sv.less18 {X Y:Nat→Prop} {w:World} {v:Value} {n:Nat} {cs:List Value} (h:Sv X w v n cs) (hY:∀ b,Y b→X b):Sv Y w v n cs:=h.off (fun _ _ _=>rfl) (fun b _ h=>hY b h)
theorem qoc {u:Un} (h:u.ok) (n v:Int):(u.write n v).1.ok:=by
 unfold Un.write
 repeat' split
 all_goals first
  | exact h
  | (unfold Un.ok Un.withP at*;simpa using h)
open Go
def blank (o:Oper):Oper:={o with op:=.move (.const undef)}
structure LastOnly (md:Region.Mode) (ops ops':Array Oper) (n:Nat) (s:Oper):Prop where
 size:ops.size=n+1
 size':ops'.size=n+1
 head:∀ i,i<n→ops'[i]? = ops[i]?
 last:ops[n]? = some s
 last':ops'[n]? = some (blank s)
 dst:s.dst=none
 sink:Region.sinkB md ops n=true
 chain:Region.chainB md ops n=true
 topo:∀ i o,ops[i]? = some o→∀ e∈o.after,Region.binds md e=true→e.on<i
theorem LastOnly.ready {md:Region.Mode} {ops ops':Array Oper} {n:Nat} {s:Oper} (h:LastOnly md ops ops' n s) (listed:Array Bool):Region.ready md ops' listed=Region.ready md ops listed:=by
 unfold Region.ready
 rw [h.size,h.size']
 refine List.filter_congr fun i hi=>?_
 have hi':=List.mem_range.1 hi
 rcases Nat.lt_or_ge i n with k|k
 ·rw [h.head i k]
 ·obtain rfl:i=n:=by omega
  rw [h.last,h.last']
  rfl
theorem LastOnly.yields {md:Region.Mode} {ops ops':Array Oper} {n:Nat} {s:Oper} (h:LastOnly md ops ops' n s) (t:Array Value) (j:Nat):yielded ops' t j=yielded ops t j:=by
 have e:(ops'[j]?).bind (·.dst)=(ops[j]?).bind (·.dst):=by
  rcases Nat.lt_or_ge j n with k|k
  ·rw [h.head j k]
  ·rcases Nat.lt_or_ge n j with k'|k'
   ·rw [Array.getElem?_eq_none (by rw [h.size'];omega),Array.getElem?_eq_none (by rw [h.size];omega)]
   ·obtain rfl:j=n:=by omega
    rw [h.last,h.last']
    rfl
 unfold yielded
 rw [e]
theorem LastOnly.yields' {md:Region.Mode} {ops ops':Array Oper} {n:Nat} {s:Oper} (h:LastOnly md ops ops' n s) (t:Array Value):yielded ops' t=yielded ops t:=funext (h.yields t)
theorem LastOnly.quiet {md:Region.Mode} {ops ops':Array Oper} {n:Nat} {s:Oper} {P:Program} {C:World→Prop} (h:LastOnly md ops ops' n s) {i:Nat} (hi:i<n) {K:Act→Prop} {a:Act} (hq:qOp P ops' C i K a):qOp P ops C i K a:=by
 unfold qOp at *
 rw [h.head i hi,h.yields'] at hq
 exact hq
theorem qqf {listed:Array Bool}:∀ n:Nat,listed.getD n true=false→∃ i,i≤n∧listed.getD i true=false∧∀ j,j<i→listed.getD j true=true:=by
 intro n
 induction n using Nat.strongRecOn with
 | _ n ih =>
   intro h
   by_cases k:∃ j,j<n∧listed.getD j true=false
   ·obtain ⟨j,hj,hf⟩:=k
    obtain ⟨i,hi,h1,h2⟩:=ih j hj hf
    exact ⟨i,by omega,h1,h2⟩
   ·refine ⟨n,Nat.le_refl _,h,fun j hj=>?_⟩
    cases hc:listed.getD j true
    ·exact absurd ⟨j,hj,hc⟩ k
    ·rfl
theorem LastOnly.ready_ne {md:Region.Mode} {ops ops':Array Oper} {n:Nat} {s:Oper} (h:LastOnly md ops ops' n s) {listed:Array Bool} (inv:HeadInv md ops n listed):Region.ready md ops listed≠[]:=by
 obtain ⟨i,hi,h1,h2⟩:=qqf n (inv.tail n (Nat.le_refl _) (by rw [h.size];omega))
 have hlt:i<ops.size:=by rw [h.size];omega
 have hm:i∈Region.ready md ops listed:=mem_ready.2 ⟨h1,ops[i],Array.getElem?_eq_getElem hlt,fun e he hb=>by
  have k:=h.topo i _ (Array.getElem?_eq_getElem hlt) e he hb
  have k2:=h2 e.on k
  have hs:e.on<listed.size:=by rw [inv.size];omega
  simp [hs] at k2 ⊢
  exact k2⟩
 intro h0
 rw [h0] at hm
 cases hm
theorem LastOnly.any {md:Region.Mode} {ops ops':Array Oper} {n:Nat} {s:Oper} {P:Program} {C:World→Prop} {Q:Exit→Act→World→Prop} (h:LastOnly md ops ops' n s) :
 ∀ (fuel:Nat) (listed:Array Bool) (a:Act) (w:World),HeadInv md ops n listed→C w→wpAnyQ P md ops' C (fun a'=>∀ w',C w'→wpList P ops Q [s] a' w') fuel listed a→wpAny P md ops Q fuel listed a w
 | 0,listed,a,w,inv,_,hq=>absurd (by rw [← h.ready];exact hq.1) (h.ready_ne inv)
 | fuel+1,listed,a,w,inv,hw,hq=>by
   refine ⟨fun h0=>absurd h0 (h.ready_ne inv),fun i hi=>?_⟩
   have hq':=hq.2 i (by rw [h.ready];exact hi)
   obtain ⟨hun,oi,hoi,hall⟩:=mem_ready.1 hi
   have hlt:i<n+1:=by rw [← h.size];exact (Array.getElem?_eq_some_iff.1 hoi).1
   rcases Nat.lt_or_ge i n with k|k
   ·exact wpOp_of_qOp hw (fun a' w' hw' hk=>h.any fuel _ a' w' (inv.set hi k) hw' hk) (h.quiet k hq')
   ·obtain rfl:i=n:=by omega
    have hdone:∀ j,j<i→listed.getD j true=true:=fun j hj=>by
     cases hc:listed.getD j true
     ·exact absurd hi (tail_waits h.sink h.chain (by rw [h.size];omega) inv _ j rfl hj hc i (Nat.le_refl _))
     ·rfl
    have hnil:Region.ready md ops (listed.setIfInBounds i true)=[]:=by
     refine List.eq_nil_iff_forall_not_mem.2 fun j hj=>?_
     obtain ⟨hu,oj,hoj,_⟩:=mem_ready.1 hj
     have hjl:j<i+1:=by rw [← h.size];exact (Array.getElem?_eq_some_iff.1 hoj).1
     by_cases hji:i=j
     ·subst hji
      have hs:i<listed.size:=by rw [inv.size,h.size];omega
      simp [hs] at hu
     ·rw [getD_set_ne true hji,hdone j (by omega)] at hu
      cases hu
    have hput:∀ v,a.put none v=a:=fun v=>rfl
    have hQ:∀ w',C w'→wpList P ops Q [s] a w':=by
     have hk:wpAnyQ P md ops' C (fun a'=>∀ w',C w'→wpList P ops Q [s] a' w') fuel (listed.setIfInBounds i true) a:=by
      unfold qOp at hq'
      rw [h.last'] at hq'
      simp only at hq'
      have e:(blank s).dst=none:=h.dst
      split at hq'
      ·obtain ⟨v,_,hv⟩:=hq'
       rw [e,hput] at hv
       exact hv
      ·rw [e,hput] at hq'
       exact hq'
     cases fuel with
     | zero=>exact hk.2
     | succ f=>exact hk.1 (by rw [h.ready];exact hnil)
    have hw0:wpOp P ops Q i (wpList P ops Q []) a w:=by
     unfold wpOp
     simp only [h.last]
     exact hQ w hw
    refine wpOp_mono (fun a' w' hn=>?_) hw0
    have hn':Q .normal a' w':=hn
    cases fuel with
    | zero=>exact ⟨hnil,hn'⟩
    | succ f=>exact ⟨fun _=>hn',fun j hj=>by rw [hnil] at hj;cases hj⟩
def topoB (md:Region.Mode) (ops:List Oper):Bool:=(List.range ops.length).all fun i=>(((ops[i]?).map fun o=>o.after.toList.all fun e=>!Region.binds md e || decide (e.on<i)).getD true)
theorem qqn {md:Region.Mode} {l:List Oper} (h:topoB md l=true):∀ i o,l.toArray[i]? = some o→∀ e∈o.after,Region.binds md e=true→e.on<i:=by
 intro i o ho e he hb
 have ho':l[i]? = some o:=by simpa using ho
 have hlt:i<l.length:=(List.getElem?_eq_some_iff.1 ho').1
 have k:=List.all_eq_true.1 h i (List.mem_range.2 hlt)
 rw [ho'] at k
 simp only [Option.map_some,Option.getD_some] at k
 have k2:=List.all_eq_true.1 k e (by simpa using he)
 rw [hb] at k2
 simpa using k2
def blankLast (l:List Oper) (n:Nat):List Oper:=l.take n++(l.drop n).map blank
theorem qeh {P:Program} {id:Nat} {Q:Exit→Act→World→Prop} {a:Act} {w:World} {l:List Oper} (C:World→Prop) (n:Nat) (s:Oper) (hm:P.follows .mixedOrders=true)
 (hl:l.length=n+1) (hs:l[n]? = some s) (hd:s.dst=none) (hS:Region.sinkB .any l.toArray n=true) (hT:topoB .any l=true) (hB:Region.lexB .any (blankLast l n).toArray=true) (hC:C w.drew)
 (h:wpQuiet P (blankLast l n).toArray C (fun a'=>∀ w',C w'→wpList P l.toArray Q [s] a' w') (blankLast l n) a):(Code.region id l.toArray true).wp P Q a w:=by
 have hdrop:l.drop n=[s]:=by
  have hn:n<l.length:=by omega
  rw [List.drop_eq_getElem_cons hn,List.drop_eq_nil_of_le (by omega)]
  rw [List.getElem?_eq_getElem hn] at hs
  rw [Option.some.inj hs]
 have hbl:blankLast l n=l.take n++[blank s]:=by unfold blankLast;rw [hdrop];rfl
 have htl:(l.take n).length=n:=by simp;omega
 have L:LastOnly .any l.toArray (blankLast l n).toArray n s :=
  {size:=by simpa using hl
   size':=by rw [hbl];simp;omega
   head:=fun i hi=>by
    rw [hbl]
    simp only [List.getElem?_toArray]
    rw [List.getElem?_append_left (by omega),List.getElem?_take_of_lt hi]
   last:=by simpa using hs
   last':=by
    rw [hbl]
    simp only [List.getElem?_toArray]
    rw [List.getElem?_append_right (by omega),htl]
    simp
   dst:=hd
   sink:=hS
   chain:=by
    unfold Region.chainB
    refine List.all_eq_true.2 fun t ht=>?_
    have:=List.mem_range.1 ht
    have e:l.toArray.size=n+1:=by simpa using hl
    rw [e] at this
    simp;omega
   topo:=qqn hT}
 have hsz:(blankLast l n).length=l.toArray.size:=by rw [hbl];simp;omega
 simp only [Region.lexB,Bool.and_eq_true] at hB
 have H:=wpAnyQ_lex (C:=C) (md:=.any) hB.1 (blankLast l n) 0 (Array.replicate (blankLast l n).toArray.size false) a (by simp) (by simpa using hB.2) h
 refine wp_region_any hm ?_
 have inv0:HeadInv .any l.toArray n (Array.replicate l.toArray.size false) :=
  ⟨by simp,fun j oj _ hl=>(by rw [getD_replicate_false] at hl;cases hl),fun t _ ht=>getD_in (by simpa using ht) (getD_replicate_false _ _)⟩
 refine L.any _ _ a _ inv0 hC ?_
 have e:(blankLast l n).toArray.size=l.toArray.size:=by simpa using hsz
 rw [e,hsz] at H
 exact H
set_option maxHeartbeats 1000000
theorem qk9:(Tryz.prog.info? 3).map (fun i=>(i.zero,i.size,i.bytes))=some (some (.int .i64 0),1,8):=by kernel_rfl
def Own (B:Nat) (w:World) (v:Value) (l:List Int):Prop:=w.ownsRow B 3 1 v l.length (l.map (Value.int .i64))
theorem Own.step {B:Nat} {w w':World} {v:Value} {l:List Int} (h:Own B w v l) (hb:Below w.heap.size w w'):Own B w' v l:=qag h hb
theorem Own.nil (B:Nat) (w:World):Own B w (.slice none 0 0) []:=World.ownsRow_nil _ _ _ _
theorem Own.form {B:Nat} {w:World} {v:Value} {l:List Int} (h:Own B w v l) (hl:0<l.length):∃ g cap,v=.slice (some ⟨g,0,none⟩) l.length cap∧B≤g∧l.length≤cap∧g<w.heap.size:=by
 rcases h.2 with ⟨_,h0⟩|⟨g,cap,cur,hv,hb,hh,hc,_⟩
 ·omega
 ·refine ⟨g,cap,hv,hb,hc,?_⟩
  rcases Nat.lt_or_ge g w.heap.size with k|k
  ·exact k
  ·rw [Array.getElem?_eq_none k] at hh;cases hh
theorem Own.cell {B g cap:Nat} {w:World} {l:List Int} (h:Own B w (.slice (some ⟨g,0,none⟩) l.length cap) l) {j:Nat} {x:Int} (hx:l[j]? = some x):w.cell? ⟨g,j,none⟩=some (.int .i64 x):=by
 have hj:j<l.length:=(List.getElem?_eq_some_iff.1 hx).1
 rw [World.ownsRow.cellAt h j (by omega),List.getElem?_map,hx];rfl
theorem Own.frozen {B g cap:Nat} {w:World} {l:List Int} (h:Own B w (.slice (some ⟨g,0,none⟩) l.length cap) l) (j:Nat):w.frozen? ⟨g,j,none⟩=false:=World.ownsRow.frozenAt h j
theorem Own.set {B g cap:Nat} {w:World} {l:List Int} (h:Own B w (.slice (some ⟨g,0,none⟩) l.length cap) l) (j:Nat) (x:Int):Own B (w.setCell ⟨g,j,none⟩ (.int .i64 x)) (.slice (some ⟨g,0,none⟩) l.length cap) (l.set j x):=by
 unfold Own
 rw [List.length_set,List.map_set]
 exact (World.ownsRow.stored h j _).1
theorem Own.drew {B:Nat} {w:World} {v:Value} {l:List Int} (h:Own B w v l):Own B w.drew v l:=h
theorem qmm {B g:Nat} {w:World} {l:List Int} {X:List Value} (hX:X=l.map (Value.int .i64)) (h:w.heap[g]? = some (.cells X.toArray 3 (0,0))) (hb:B≤g) (hl:l.length≤1099511627776):Own B w (.slice (some ⟨g,0,none⟩) l.length l.length) l:=by
 subst hX
 exact ⟨by simp,.inr ⟨g,l.length,_,rfl,hb,h,Nat.le_refl _,by unfold maxLen;omega,by simp,by rw [List.take_of_length_le (by simp)]⟩⟩
theorem qko (w:World) (n:Nat):(w.alloc (.cells (madeCells #[.int .i64 0] n) 3)).heap[w.heap.size]? = some (.cells (List.replicate n (Value.int .i64 0)).toArray 3 (0,0)):=by
 rw [heap_alloc_new]
 rw [← toList_madeCells_one]
theorem qpg {n:Nat} {z:Value} {X:List Value} (h:X.length=n):splice (List.replicate n z) 0 X=X:=by
 simp [splice,h]
theorem qg2 (l:List Int):∀ v∈l.map (Value.int .i64),v.oneCell'=true:=by
 intro v hv
 obtain ⟨x,_,rfl⟩:=List.mem_map.1 hv
 rfl
theorem qqb {w:World} {A:Option Addr} {k c:Nat} {l:List Int} (hc:∀ j x,l[j]? = some x→∃ a:Addr,A=some a∧w.cell? (a.add j)=some (.int .i64 x)∧(a.add j).block<w.heap.size) {w':World} (hb:Below w.heap.size w w')
 {X:List Value} (hX:X=l.map (Value.int .i64)):∀ j v,X[j]? = some v→∃ a:Addr,A=some a∧w'.cell? (a.add j)=some v:=by
 subst hX
 intro j v hv
 rw [List.getElem?_map] at hv
 cases hx:l[j]? with
 | none=>rw [hx] at hv;cases hv
 | some x =>
   rw [hx] at hv
   obtain ⟨a,ha,h1,h2⟩:=hc j x hx
   have hvx:Value.int .i64 x=v:=Option.some.inj hv
   exact ⟨a,ha,by rw [← hvx];exact (hb.cell h2).trans h1⟩
theorem qgk (v:Value) (l:List Int) (hl:l.length≤1099511627776) (w:World) (hv:Nums .i64 w v l) :
 Calls Tryz.prog 132 #[v] w fun e w'=>∃ r,e=.returned r∧Own w.heap.size w' r l∧Below w.heap.size w w':=by
 obtain ⟨A,c,rfl,hlc,hc⟩:=hv
 have hmk:=run_make_row' (P:=Tryz.prog) 26 3 (.int .i64 0) 8 Tryz.underlying26 qk9 rfl .i64 .i64 l.length (by omega) (by omega)
 have hB:Below w.heap.size w (w.alloc (.cells (madeCells #[.int .i64 0] l.length) 3)):=(Below.refl _ _).alloc (Nat.le_refl _) _
 obtain ⟨X,hX⟩:∃ X,X=l.map (Value.int .i64):=⟨_,rfl⟩
 have hcells:=qqb (k:=0) (c:=c) hc hB hX
 have hXl:X.length=l.length:=by rw [hX,List.length_map]
 have hX1:∀ v∈X,v.oneCell'=true:=by rw [hX];exact qg2 l
 have hpos:0<X.length→(some (⟨w.heap.size,0,none⟩:Addr))=some ⟨w.heap.size,0,none⟩∧∃ ad,A=some ad∧∀ j v,X[j]? = some v→(w.alloc (.cells (madeCells #[.int .i64 0] l.length) 3)).cell? (ad.add j)=some v:=by
  intro h0
  obtain ⟨ad,had,_⟩:=hcells 0 X[0] (List.getElem?_eq_getElem h0)
  refine ⟨rfl,ad,had,fun j v hv=>?_⟩
  obtain ⟨a2,ha2,h⟩:=hcells j v hv
  rw [had] at ha2
  rw [Option.some.inj ha2];exact h
 have hX:=hid hX
 clear hc hcells
 go_enter Tryz.func132,Tryz.ntmps132
 go_wp2_with (with_reducible refine wpList_copy_splice rfl (.tmp 7) (.tmp 8) 26 26 rfl 3 Tryz.underlying26 (by kernel_rfl) (some ⟨w.heap.size,0,none⟩) A l.length l.length l.length c rfl rfl w.heap.size 0 (List.replicate l.length (.int .i64 0)) 3 (qko _ _) X (by rw [hXl];exact (Nat.min_self _).symm) hpos (by rw [List.length_replicate];omega) hX1 w.heap.size w hB (Nat.le_refl _) ?_;intro w2 HG HB)
 go_ret
 refine ⟨_,rfl,qmm hX ?_ (Nat.le_refl _) hl,HB⟩
 have h:=HG
 unfold Hid RowKit.Hid at h
 rw [qpg hXl] at h
 exact h
end Go.Proofs.YthpnddgfgpacpaaGreat
