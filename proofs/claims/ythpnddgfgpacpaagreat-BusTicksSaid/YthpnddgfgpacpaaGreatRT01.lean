import Derived.Test.YthpnddgfgpacpaaGreatRT00
import Derived.WalkKit
import Derived.WalkSpells
import Derived.WalkLawsBesides
import Derived.Deep.RegionHeld3
import Derived.Deep.DeepCutAuto
import Derived.Deep.QuietTactic
import Derived.BigQuiet
import Derived.KernelRfl
import Derived.StillTail
import Derived.Deep.Quiet
import Derived.Tactics
import Derived.Laws.StructEq
import Derived.ChangeKeysEq
namespace Go.Proofs.YthpnddgfgpacpaaGreat
open Go.RowKit
set_option linter.unusedSimpArgs false
set_option linter.unusedVariables false
set_option maxHeartbeats 1000000
theorem qeo {P S R:List Value} {k:Nat} (hP:P.length=k):∀ j v,S[j]? = some v→(P++(S++R))[k+j]? = some v:=fun j v h=>by
 have hj:=(List.getElem?_eq_some_iff.1 h).1
 rw [List.getElem?_append_right (by omega),show k+j - P.length=j by omega,List.getElem?_append_left hj]
 exact h
theorem qo4 {P S S' R:List Value} {k n:Nat} (hP:P.length=k) (hS:S.length=n):(P++(S++R)).take k++S'++(P++(S++R)).drop (k+n)=P++(S'++R):=by
 subst hP hS
 rw [List.take_left',List.drop_append,show P.length+S.length - P.length=S.length by omega,List.drop_left',List.drop_eq_nil_of_le (by omega)]
 ·simp
 ·rfl
 ·rfl
def maL (C:List Value) (vm vb:Value) (U K:List Value) (vl:Value) (D T E:List Value):List Value:=C++([vm,vb]++(U++(K++([vl]++(D++(T++E))))))
structure MaLen (C U K D T E:List Value):Prop where
 c:C.length=10
 u:U.length=67
 k:K.length=4
 d:D.length=10
 t:T.length=11
 e:E.length=5
section
variable {C U K D T E:List Value} {vm vb vl:Value}
theorem maL_len (h:MaLen C U K D T E):(maL C vm vb U K vl D T E).length=110:=by
 unfold maL;simp [h.c,h.u,h.k,h.d,h.t,h.e]
theorem maL_one (h1:∀ v∈C,v.oneCell'=true) (h2:vm.oneCell'=true) (h3:vb.oneCell'=true) (h4:∀ v∈U,v.oneCell'=true) (h5:∀ v∈K,v.oneCell'=true) (h6:vl.oneCell'=true) (h7:∀ v∈D,v.oneCell'=true) (h8:∀ v∈T,v.oneCell'=true) (h9:∀ v∈E,v.oneCell'=true):∀ v∈maL C vm vb U K vl D T E,v.oneCell'=true:=by
 intro v hv
 unfold maL at hv
 simp only [List.mem_append,List.mem_cons,List.not_mem_nil,or_false] at hv
 rcases hv with h|(rfl|rfl)|h|h|rfl|h|h|h
 ·exact h1 v h
 ·exact h2
 ·exact h3
 ·exact h4 v h
 ·exact h5 v h
 ·exact h6
 ·exact h7 v h
 ·exact h8 v h
 ·exact h9 v h
theorem maL_c:maL C vm vb U K vl D T E=[]++(C++([vm,vb]++(U++(K++([vl]++(D++(T++E))))))):=rfl
theorem maL_m:maL C vm vb U K vl D T E=C++([vm]++([vb]++(U++(K++([vl]++(D++(T++E))))))):=rfl
theorem maL_b:maL C vm vb U K vl D T E=(C++[vm])++([vb]++(U++(K++([vl]++(D++(T++E)))))):=by unfold maL;simp
theorem maL_u:maL C vm vb U K vl D T E=(C++[vm,vb])++(U++(K++([vl]++(D++(T++E))))):=by unfold maL;simp
theorem maL_k:maL C vm vb U K vl D T E=(C++[vm,vb]++U)++(K++([vl]++(D++(T++E)))):=by unfold maL;simp
theorem maL_l:maL C vm vb U K vl D T E=(C++[vm,vb]++U++K)++([vl]++(D++(T++E))):=by unfold maL;simp
theorem qnp:maL C vm vb U K vl D T E=(C++[vm,vb]++U++K++[vl])++(D++(T++E)):=by unfold maL;simp
theorem qt2:maL C vm vb U K vl D T E=(C++[vm,vb]++U++K++[vl]++D)++(T++E):=by unfold maL;simp
theorem maL_e:maL C vm vb U K vl D T E=(C++[vm,vb]++U++K++[vl]++D++T)++(E++[]):=by unfold maL;simp
theorem get_c:∀ j v,C[j]? = some v→(maL C vm vb U K vl D T E)[0+j]? = some v:=by rw [maL_c];exact qeo rfl
variable (h:MaLen C U K D T E)
include h
theorem qcx:(maL C vm vb U K vl D T E)[10]? = some vm:=by rw [maL_m];exact qeo (S:=[vm]) h.c 0 vm rfl
theorem qcy:(maL C vm vb U K vl D T E)[11]? = some vb:=by rw [maL_b];exact qeo (S:=[vb]) (by simp [h.c]) 0 vb rfl
theorem qh5:∀ j v,U[j]? = some v→(maL C vm vb U K vl D T E)[12+j]? = some v:=by rw [maL_u];exact qeo (by simp [h.c])
theorem qgw:∀ j v,K[j]? = some v→(maL C vm vb U K vl D T E)[79+j]? = some v:=by rw [maL_k];exact qeo (by simp [h.c,h.u])
theorem qcg:(maL C vm vb U K vl D T E)[83]? = some vl:=by rw [maL_l];exact qeo (S:=[vl]) (by simp [h.c,h.u,h.k]) 0 vl rfl
theorem qci:∀ j v,D[j]? = some v→(maL C vm vb U K vl D T E)[84+j]? = some v:=by rw [qnp];exact qeo (by simp [h.c,h.u,h.k])
theorem qc6:∀ j v,T[j]? = some v→(maL C vm vb U K vl D T E)[94+j]? = some v:=by rw [qt2];exact qeo (by simp [h.c,h.u,h.k,h.d])
theorem qrz:∀ j v,E[j]? = some v→(maL C vm vb U K vl D T E)[105+j]? = some v:=by rw [maL_e];exact qeo (by simp [h.c,h.u,h.k,h.d,h.t])
theorem put_u (X:List Value):(maL C vm vb U K vl D T E).take 12++X++(maL C vm vb U K vl D T E).drop (12+67)=maL C vm vb X K vl D T E:=by rw [maL_u,maL_u];exact qo4 (by simp [h.c]) h.u
theorem put_k (X:List Value):(maL C vm vb U K vl D T E).take 79++X++(maL C vm vb U K vl D T E).drop (79+4)=maL C vm vb U X vl D T E:=by rw [maL_k,maL_k];exact qo4 (by simp [h.c,h.u]) h.k
theorem put_d (X:List Value):(maL C vm vb U K vl D T E).take 84++X++(maL C vm vb U K vl D T E).drop (84+10)=maL C vm vb U K vl X T E:=by rw [qnp,qnp];exact qo4 (by simp [h.c,h.u,h.k]) h.d
theorem put_t (X:List Value):(maL C vm vb U K vl D T E).take 94++X++(maL C vm vb U K vl D T E).drop (94+11)=maL C vm vb U K vl D X E:=by rw [qt2,qt2];exact qo4 (by simp [h.c,h.u,h.k,h.d]) h.t
end
def Hid_9 (p:Prop):Prop:=p
theorem qs9 {p:Prop} (h:p):Hid_9 p:=h
theorem qbr {a b:Bool} (h:a=b):Ending.returned (.bool a)=.returned (.bool b):=by rw [h]
open Go
section
variable {P:Program} {ops:Array Oper} {md:Region.Mode} {C:World→Prop}
def wpAnyT (P:Program) (md:Region.Mode) (ops:Array Oper) (C:World→Prop) (n:Nat) (L:Array Bool→Act→Prop):Nat→Array Bool→Act→Prop
 | 0,listed,a=>L listed a
 | f+1,listed,a =>
   Region.ready md ops listed≠[]∧∀ i∈Region.ready md ops listed,i<n∧qOp P ops C i (wpAnyT P md ops C n L f (listed.setIfInBounds i true)) a
theorem qe8 {n g:Nat} {L:Array Bool→Act→Prop} {Q':Exit→Act→World→Prop} (hL:∀ listed a w,C w→L listed a→wpAny P md ops Q' g listed a w) :
 ∀ (f:Nat) (listed:Array Bool) (a:Act) (w:World),C w→wpAnyT P md ops C n L f listed a→wpAny P md ops Q' (f+g) listed a w
 | 0,listed,a,w,hw,h=>by rw [Nat.zero_add];exact hL _ _ _ hw h
 | f+1,listed,a,w,hw,h=>by
   rw [show f+1+g=(f+g)+1 by omega]
   exact ⟨fun h0=>absurd h0 h.1,fun i hi=>wpOp_of_qOp hw (fun a' w' hw' h'=>qe8 hL f _ a' w' hw' h') (h.2 i hi).2⟩
theorem qly {n i:Nat} {oi:Oper} {v:Value} {L:Array Bool→Act→Prop} (hi:ops[i]? = some oi) (hsel:∀ (j:Nat) (o:Oper) cs b,ops[j]? = some o→o.op≠.select cs b)
 (hs:Region.sinkB md ops n=true) (hc:Region.chainB md ops n=true) (hn:n<ops.size) (hin:i<n)
 (hdone:∀ listed a,L listed a→∀ j∈Region.ready md ops listed,n≤j) :
 ∀ (f:Nat) (listed:Array Bool) (a:Act),HeadInv md ops n listed →
  (∀ j oj,ops[j]? = some oj→j≠i→listed.getD j true=false→(∀ e∈oj.after,Region.binds md e=true→e.on≠i)→oi.apart ops oj=true) →
  i∈Region.ready md ops listed→YieldsIn P ops C oi v a →
  wpAnyT P md ops C n L f (listed.setIfInBounds i true) (a.put oi.dst v)→wpAnyT P md ops C n L (f+1) listed a:=by
 intro f
 induction f with
 | zero =>
   intro listed a inv _ hr hy H
   have hun:=(mem_ready.1 hr).1
   refine ⟨fun h=>(by rw [h] at hr;cases hr),fun j hj=>?_⟩
   have hjn:j<n:=by
    rcases Nat.lt_or_ge j n with h|h
    ·exact h
    ·exact absurd hj (tail_waits hs hc hn inv _ i rfl hin hun j h)
   refine ⟨hjn,?_⟩
   by_cases hji:j=i
   ·subst hji;exact hy.qOp hi H
   ·have:=hdone _ _ H j (ready_mono hj hji)
    omega
 | succ f ih =>
   intro listed a inv hfree hr hy H
   have hun:=(mem_ready.1 hr).1
   refine ⟨fun h=>(by rw [h] at hr;cases hr),fun j hj=>?_⟩
   have hjn:j<n:=by
    rcases Nat.lt_or_ge j n with h|h
    ·exact h
    ·exact absurd hj (tail_waits hs hc hn inv _ i rfl hin hun j h)
   refine ⟨hjn,?_⟩
   by_cases hji:j=i
   ·subst hji;exact hy.qOp hi H
   ·have h1:=(H.2 j (ready_mono hj hji)).2
    obtain ⟨hjun,oj,hoj,hall⟩:=mem_ready.1 hj
    have hnot:∀ e∈oj.after,Region.binds md e=true→e.on≠i:=fun e he hb heq=>by
     have h1:=hall e he hb
     rw [heq,getD_both hun] at h1
     cases h1
    have h2:=qOp_put hoj (hfree j oj hoj hji hjun hnot) (fun cs b=>hsel i oi cs b hi) (fun cs b=>hsel j oj cs b hoj) hy h1
    have hfree':∀ k ok,ops[k]? = some ok→k≠i→(listed.setIfInBounds j true).getD k true=false →
     (∀ e∈ok.after,Region.binds md e=true→e.on≠i)→oi.apart ops ok=true:=fun k ok hk hki hun hno=>by
     refine hfree k ok hk hki ?_ hno
     by_cases hjk:j=k
     ·subst hjk;exact hjun
     ·rw [getD_set_ne true hjk] at hun;exact hun
    refine qOp_mono (fun a' h3=>ih (listed.setIfInBounds j true) a' (inv.set hj hjn) hfree' (ready_mono hr (Ne.symm hji)) h3.1 ?_) h2
    rw [Array.setIfInBounds_comm _ _ hji]
    exact h3.2
theorem qio {n g:Nat} {Lq:Act→Prop} (hsel:Region.noSelect ops=true) (hs:Region.sinkB md ops n=true) (hc:Region.chainB md ops n=true) (hn:n<ops.size) :
 ∀ (l:List Oper) (k:Nat) (listed:Array Bool) (a:Act),(∀ j,j<l.length→l[j]? = ops[k+j]?)→k+l.length=n→HeadInv md ops n listed →
 Region.lexHead md ops g l.length k listed=true→wpQuiet P ops C Lq l a →
 wpAnyT P md ops C n (fun listed' a'=>Region.seqB md ops g n listed'=true∧Lq a') l.length listed a
 | [],k,listed,a,_,hk,_,hB,h=>by
   have:k=n:=by simpa using hk
   subst this
   exact ⟨by simpa [Region.lexHead] using hB,h⟩
 | o :: l,k,listed,a,hl,hk,inv,hB,h=>by
   have h0:ops[k]? = some o:=by simpa using (hl 0 (by simp)).symm
   simp only [List.length_cons,Region.lexHead,Bool.and_eq_true] at hB
   obtain ⟨⟨hr,hf⟩,hB'⟩:=hB
   have hkn:k<n:=by simp only [List.length_cons] at hk;omega
   have hr':k∈Region.ready md ops listed:=by simpa using hr
   have hst:qOp P ops C k (wpQuiet P ops C Lq l) a:=by unfold qOp;simp only [h0];exact h
   obtain ⟨v,hy,hK⟩:=yieldsIn_of_qOp h0 hst
   exact qly h0 (Region.noSelect_spec hsel) hs hc hn hkn (fun listed' a' hL=>seqB_ready hL.1) l.length listed a inv (Region.free_spec h0 hf) hr' hy
    (qio hsel hs hc hn l (k+1) _ _ (fun j hj=>by have:=hl (j+1) (by simp;omega);simpa [Nat.add_assoc,Nat.add_comm 1 j] using this) (by simp only [List.length_cons] at hk;omega) (inv.set hr' hkn) hB' hK)
theorem qbn {id:Nat} {Q:Exit→Act→World→Prop} {a:Act} {w:World} {l:List Oper} (C:World→Prop) (n:Nat) (hm:P.follows .mixedOrders=true) (hB:Region.lexTailB .any l.toArray n=true) (hC:C w.drew)
 (h:wpQuiet P l.toArray C (fun a'=>∀ w',C w'→wpList P l.toArray Q (l.drop n) a' w') (l.take n) a):(Code.region id l.toArray true).wp P Q a w:=by
 simp only [Region.lexTailB,Bool.and_eq_true,decide_eq_true_eq] at hB
 obtain ⟨⟨⟨⟨hsel,hn⟩,hs⟩,hc⟩,hlex⟩:=hB
 have hn':n<l.length:=by simpa using hn
 have htl:(l.take n).length=n:=by simp;omega
 have hdl:(l.drop n).length=l.toArray.size - n:=by simp
 have inv0:HeadInv .any l.toArray n (Array.replicate l.toArray.size false) :=
  ⟨by simp,fun j oj _ hl=>(by rw [getD_replicate_false] at hl;cases hl),fun t _ ht=>getD_in (by simpa using ht) (getD_replicate_false _ _)⟩
 have H:=qio (md:=.any) (C:=C) (g:=l.toArray.size - n) hsel hs hc hn (l.take n) 0 _ a (fun j hj=>by
  have hj':j<n:=by rw [htl] at hj;exact hj
  simp [hj']) (by simpa using htl) inv0 (by rw [htl];exact hlex) h
 refine wp_region_any hm ?_
 have:=qe8 (Q':=Q) (g:=l.toArray.size - n) (fun listed a' w' hw' hL=>by
  have:=wpAny_of_seq (md:=.any) (Q':=Q) (l.drop n) n listed a' w' (fun j=>by simp [List.getElem?_drop]) (by rw [hdl];exact hL.1) (hL.2 w' hw')
  rwa [hdl] at this) _ _ _ _ hC H
 rw [htl,show n+(l.toArray.size - n)=l.toArray.size by omega] at this
 exact this
end
set_option maxRecDepth 100000
attribute [local irreducible] wpQuiet
theorem qec (w:World):(zeroValue 32).run Tryz.prog w=.ok (.agg Un.z.L.toArray) w:=by kernel_rfl
theorem qb3 (w:World):(isAgg 32).run Tryz.prog w=.ok true w:=by kernel_rfl
theorem qbp (w:World):(sizeOf 32).run Tryz.prog w=.ok 67 w:=by kernel_rfl
structure Two (B C:Nat) (u v:Un) (w0 w:World):Prop where
 b:Blk 32 w B u.L
 c:Blk 32 w C v.L
 below:Below w0.heap.size w0 w
theorem Two.put (u:Un) (w:World):Two w.heap.size (w.heap.size+1) u Un.z w ((w.alloc (.cells u.L.toArray 32)).alloc (.cells Un.z.L.toArray 32)):=by
 have e:(w.alloc (.cells u.L.toArray 32)).heap.size=w.heap.size+1:=by simp
 have h:=Blk.new 32 (w.alloc (.cells u.L.toArray 32)) Un.z.L
 rw [e] at h
 exact ⟨(Blk.new _ w u.L).alloc _,h,((Below.refl _ _).alloc (Nat.le_refl _) _).alloc (by simp) _⟩
theorem Two.out {B C:Nat} {u v:Un} {w0 w:World} (h:Two B C u v w0 w) (hu:u.ok) (hv:v.ok) (hn:B≠C) (hC:w0.heap.size≤C) :
 (loadCells ⟨B,0,none⟩ 67).run Tryz.prog w=.ok u.L.toArray w∧∃ W,(storeCells ⟨C,0,none⟩ u.L).run Tryz.prog w=.ok () W∧Two B C u u w0 W∧(loadVar 32 ⟨C,0,none⟩).run Tryz.prog W=.ok (.agg u.L.toArray) W:=by
 refine ⟨h.b.load (Un.len hu),?_⟩
 obtain ⟨W,h1,h2,h3,_,h5⟩:=h.c.store (P:=Tryz.prog) (cs':=u.L) (by rw [Un.len hu,Un.len hv]) (Un.one u)
 exact ⟨W,h1,⟨h5 _ _ _ hn h.b,h2,h3 _ _ hC h.below⟩,h2.loadVar (Un.len hu) qb3 qbp⟩
theorem Un.z_ok:Un.z.ok:=rfl
theorem Un.zlen:Un.z.L.length=67:=rfl
theorem Un.cells {u:Un} {m p:Nat} {g:Pg} (hg:u.pg[8*m+p]? = some g) :
 u.L[1+m*32+p*4]? = some (.int .i64 g.b)∧u.L[1+m*32+p*4+1]? = some (.int .i64 g.l)∧u.L[1+m*32+p*4+2]? = some (.int .i64 g.a)∧u.L[1+m*32+p*4+3]? = some (.bool g.r):=by
 have e:∀ j,1+m*32+p*4+j=1+(4*(8*m+p)+j):=fun j=>by omega
 refine ⟨?_,?_,?_,?_⟩
 ·have:=Un.page hg 0 (by decide);rw [← e] at this;exact this
 ·have:=Un.page hg 1 (by decide);rw [← e] at this;exact this
 ·have:=Un.page hg 2 (by decide);rw [← e] at this;exact this
 ·have:=Un.page hg 3 (by decide);rw [← e] at this;exact this
theorem Two.page {B C m p:Nat} {u v:Un} {w0 w:World} {g:Pg} (h:Two B C u v w0 w) (hg:u.pg[8*m+p]? = some g) :
 w.cell? ⟨B,1+m*32+p*4,none⟩=some (.int .i64 g.b)∧w.cell? ⟨B,1+m*32+p*4+1,none⟩=some (.int .i64 g.l)∧w.cell? ⟨B,1+m*32+p*4+2,none⟩=some (.int .i64 g.a)∧w.cell? ⟨B,1+m*32+p*4+3,none⟩=some (.bool g.r):=by
 obtain ⟨q0,q1,q2,q3⟩:=Un.cells hg
 exact ⟨h.b.cell q0,h.b.cell q1,h.b.cell q2,h.b.cell q3⟩
def Un.withP (u:Un) (k:Nat) (g:Pg):Un:={u with pg:=u.pg.set k g}
theorem Un.withP_ok {u:Un} (h:u.ok) (k:Nat) (g:Pg):(u.withP k g).ok:=by unfold Un.ok Un.withP at*;simpa using h
theorem Un.withP_at {u:Un} {k:Nat} {g g':Pg} (hg:u.pg[k]? = some g):(u.withP k g').pg[k]? = some g':=by
 have hk:=(List.getElem?_eq_some_iff.1 hg).1
 simp [Un.withP,hk]
theorem Two.c65 {B C:Nat} {u v:Un} {w0 w:World} (h:Two B C u v w0 w) (hu:u.ok):w.cell? ⟨B,65,none⟩=some (.int .i64 u.st):=h.b.cell (Un.at65 hu)
theorem Two.fz {B C:Nat} {u v:Un} {w0 w:World} (h:Two B C u v w0 w) (k:Nat):w.frozen? ⟨B,k,none⟩=false:=h.b.frozen k
def isReg (n:Int):Bool:=decide (16≤n) && (decide (n<80) && decide (n%2=0))
structure One (B:Nat) (u:Un) (w0 w:World):Prop where
 b:Blk 32 w B u.L
 below:Below w0.heap.size w0 w
theorem One.put (u:Un) (w:World):One w.heap.size u w (w.alloc (.cells u.L.toArray 32)):=⟨Blk.new _ w u.L,(Below.refl _ _).alloc (Nat.le_refl _) _⟩
theorem One.step {B:Nat} {u:Un} {w0 w w':World} (h:One B u w0 w) (hb:Below w.heap.size w w'):One B u w0 w':=⟨h.b.step hb,h.below.trans (hb.mono h.below.size)⟩
theorem One.page {B m p:Nat} {u:Un} {w0 w:World} {g:Pg} (h:One B u w0 w) (hg:u.pg[8*m+p]? = some g) :
 w.cell? ⟨B,1+m*32+p*4,none⟩=some (.int .i64 g.b)∧w.cell? ⟨B,1+m*32+p*4+1,none⟩=some (.int .i64 g.l)∧w.cell? ⟨B,1+m*32+p*4+2,none⟩=some (.int .i64 g.a)∧w.cell? ⟨B,1+m*32+p*4+3,none⟩=some (.bool g.r):=by
 obtain ⟨q0,q1,q2,q3⟩:=Un.cells hg
 exact ⟨h.b.cell q0,h.b.cell q1,h.b.cell q2,h.b.cell q3⟩
def statV (u:Un):Int:=if u.on=true then 2*u.st+1 else 2*u.st
def descV (g:Pg):Int:=if g.r=true then g.l+256*g.a+32768 else g.l+256*g.a
set_option maxHeartbeats 8000000
theorem Two.putF {B C m p:Nat} {u v:Un} {w0 w:World} {g g':Pg} (h:Two B C u v w0 w) (hg:u.pg[8*m+p]? = some g) (hn:C≠B) (hB:w0.heap.size≤B) (j:Nat) (hj:j<4) (x:Value) (he:g.L.set j x=g'.L) (k:Nat) (hk:k=1+m*32+p*4+j):Two B C (u.withP (8*m+p) g') v w0 (w.setCell ⟨B,k,none⟩ x):=by
 have e:k=1+(4*(8*m+p)+j):=by omega
 have q:=Un.setp (u:=u) (p':=g') hg j hj x he
 refine ⟨?_,h.c.other hn _,h.below.setCell hB _⟩
 subst e
 have k2:=h.b.set (1+(4*(8*m+p)+j)) x
 rw [q] at k2
 exact k2
theorem qhq (u:Un) (k:Nat) (g g':Pg):(u.withP k g).withP k g'=u.withP k g':=by
 unfold Un.withP;simp
theorem Two.outR {B C:Nat} {u v:Un} {w0 w:World} (h:Two B C u v w0 w) (hu:u.ok) (hv:v.ok) (hn:B≠C) (hC:w0.heap.size≤C) :
 (Instr.loadAt 32 (.pointer (some ⟨B,0,none⟩))).run Tryz.prog w=.ok (.agg u.L.toArray) w∧∃ W,(storeCells ⟨C,0,none⟩ u.L).run Tryz.prog w=.ok () W∧Two B C u u w0 W∧(loadVar 32 ⟨C,0,none⟩).run Tryz.prog W=.ok (.agg u.L.toArray) W:=by
 obtain ⟨_,W,h1,h2,h3⟩:=h.out hu hv hn hC
 exact ⟨h.b.loadAt (Un.len hu) qb3 qbp,W,h1,h2,h3⟩
def Pg.good (g:Pg):Bool:=decide (0≤g.b) && (decide (g.b≤4095) && (decide (0≤g.l) && (decide (g.l≤128) && (decide (0≤g.a) && decide (g.a≤2)))))
def Un.tail (u:Un):Bool:=decide (0≤u.st) && (decide (u.st≤3) && (decide (0≤u.ad) && decide (u.ad<65536)))
def Un.right (u:Un):Bool:=u.pg.all Pg.good && u.tail
theorem qn0 {l:List Pg} {k:Nat} {g:Pg} (h:l[k]? = some g):(l.drop k).all Pg.good=(g.good && (l.drop (k+1)).all Pg.good):=by
 have hk:k<l.length:=(List.getElem?_eq_some_iff.1 h).1
 rw [List.drop_eq_getElem_cons hk,(List.getElem?_eq_some_iff.1 h).2];rfl
theorem qmc (u:Un) (hu:u.ok) (W0:World):Calls Tryz.prog 32 #[.agg u.L.toArray] W0 fun e w'=>e=.returned (.bool u.right)∧Below W0.heap.size W0 w':=by
 have hX:=One.put u W0
 obtain ⟨Q,hQ⟩:∃ Q,Hid_9 (Q=u.right):=⟨_,rfl⟩
 rw [← show Q=u.right from hQ]
 have h65:=Un.at65 hu
 have h66:=Un.at66 hu
 go_enter Tryz.func32,Tryz.ntmps32
 go_wp2
 go_loopw [3] (fun i wr=>∃ m:Nat,m≤2∧i=.int .i64 m∧One W0.heap.size u W0 wr∧Hid_9 (Q=((u.pg.drop (8*m)).all Pg.good && u.tail)))
  (fun i _=>2 - (intOf i).toNat)
 case atStart=>exact ⟨0,by decide,rfl,hX,hQ⟩
 case round =>
  clear hX hQ
  obtain ⟨m,hm,rfl,hX,hQ⟩:=hrel
  by_cases hm2:m<2
  ·go_wp2
   go_loopw [4] (fun i wq=>∃ p:Nat,p≤8∧i=.int .i64 p∧One W0.heap.size u W0 wq∧Hid_9 (Q=((u.pg.drop (8*m+p)).all Pg.good && u.tail)))
    (fun i _=>8 - (intOf i).toNat)
   case atStart=>exact ⟨0,by decide,rfl,hX,hQ⟩
   case round =>
    clear hX hQ
    obtain ⟨p,hp,rfl,hX,hQ⟩:=hrel
    by_cases hp8:p<8
    ·obtain ⟨g,hg⟩:∃ g,u.pg[8*m+p]? = some g:=⟨_,List.getElem?_eq_getElem (by have:u.pg.length=16:=hu;omega)⟩
     have m0:(0:Int)≤(m:Int):=by omega
     have m1:(m:Int)<2:=by omega
     have p0:(0:Int)≤(p:Int):=by omega
     have p1:(p:Int)<8:=by omega
     obtain ⟨k0,k1,k2,k3⟩:=hX.page hg
     have hd:=qn0 hg
     obtain ⟨gb,gl,ga,gr⟩:=g
     simp only [Pg.good] at *
     have hB:=hX.below
     have hX2:=hX.step ((Below.refl wr.heap.size wr).alloc (Nat.le_refl _) (.cells #[.int .i64 gb,.int .i64 gl,.int .i64 ga,.bool gr] 28))
     clear hX
     replace hd:=qs9 hd
     replace hg:=qs9 hg
     by_cases h0:0≤gb
     ·skip
      by_cases h1:gb≤4095
      ·skip
       by_cases h2:0≤gl
       ·skip
        by_cases h3:gl≤128
        ·skip
         by_cases h4:0≤ga
         ·skip
          by_cases h5:ga≤2
          ·have hQ:Hid_9 (Q=((u.pg.drop (8*m+(p+1))).all Pg.good && u.tail)):=by
            show _=_
            rw [show Q=_ from hQ,show _=_ from hd]
            simp only [decide_eq_true h0,decide_eq_true h1,decide_eq_true h2,decide_eq_true h3,decide_eq_true h4,decide_eq_true h5,Bool.true_and]
            rfl
           clear hd
           go_wp2
           go_round
           case rel=>(simp only [eq_true (show (m:Int)<2 by omega),decide_true];(iterate 41 apply Exists.intro);refine ⟨?_,rfl⟩;exact ⟨p+1,by omega,by go_num,hX2,hQ⟩)
           case measure=>simp [intOf];omega
          ·have hQ:Hid_9 (Q=false):=by
            show _=_
            rw [show Q=_ from hQ,show _=_ from hd]
            simp only [decide_eq_false h5,Bool.false_and,Bool.and_false]
           clear hd
           go_wp2
           go_ret
           exact ⟨qbr (by rw [show Q=false from hQ]),hX2.below⟩
         ·have hQ:Hid_9 (Q=false):=by
           show _=_
           rw [show Q=_ from hQ,show _=_ from hd]
           simp only [decide_eq_false h4,Bool.false_and,Bool.and_false]
          clear hd
          go_wp2
          go_ret
          exact ⟨qbr (by rw [show Q=false from hQ]),hX2.below⟩
        ·have hQ:Hid_9 (Q=false):=by
          show _=_
          rw [show Q=_ from hQ,show _=_ from hd]
          simp only [decide_eq_false h3,Bool.false_and,Bool.and_false]
         clear hd
         go_wp2
         go_ret
         exact ⟨qbr (by rw [show Q=false from hQ]),hX2.below⟩
       ·have hQ:Hid_9 (Q=false):=by
         show _=_
         rw [show Q=_ from hQ,show _=_ from hd]
         simp only [decide_eq_false h2,Bool.false_and,Bool.and_false]
        clear hd
        go_wp2
        go_ret
        exact ⟨qbr (by rw [show Q=false from hQ]),hX2.below⟩
      ·have hQ:Hid_9 (Q=false):=by
        show _=_
        rw [show Q=_ from hQ,show _=_ from hd]
        simp only [decide_eq_false h1,Bool.false_and,Bool.and_false]
       clear hd
       go_wp2
       go_ret
       exact ⟨qbr (by rw [show Q=false from hQ]),hX2.below⟩
     ·have hQ:Hid_9 (Q=false):=by
       show _=_
       rw [show Q=_ from hQ,show _=_ from hd]
       simp only [decide_eq_false h0,Bool.false_and,Bool.and_false]
      clear hd
      go_wp2
      go_ret
      exact ⟨qbr (by rw [show Q=false from hQ]),hX2.below⟩
    ·obtain rfl:p=8:=by omega
     go_wp2
     go_round
     case rel=>exact ⟨m+1,by omega,by go_num,hX,hQ⟩
     case measure=>simp [intOf];omega
  ·obtain rfl:m=2:=by omega
   have hQ:Hid_9 (Q=u.tail):=by
    show _=_
    rw [show Q=_ from hQ,List.drop_eq_nil_of_le (by have:u.pg.length=16:=hu;omega)]
    rfl
   have c65:=hX.b.cell h65
   have c66:=hX.b.cell h66
   have hB:=hX.below
   unfold Un.tail at hQ
   generalize u.st=s at *
   generalize u.ad=d at *
   by_cases h0:0≤s
   ·skip
    by_cases h1:s≤3
    ·skip
     by_cases h2:0≤d
     ·skip
      by_cases h3:d<65536
      ·have hQ:Hid_9 (Q=true):=by
        show _=_
        rw [show Q=_ from hQ]
        simp only [decide_eq_true h0,decide_eq_true h1,decide_eq_true h2,decide_eq_true h3,Bool.true_and]
       go_wp2
       go_ret
       exact ⟨qbr (by rw [show Q=true from hQ]),hB⟩
      ·have hQ:Hid_9 (Q=false):=by
        show _=_
        rw [show Q=_ from hQ]
        simp only [decide_eq_false h3,Bool.false_and,Bool.and_false]
       go_wp2
       go_ret
       exact ⟨qbr (by rw [show Q=false from hQ]),hB⟩
     ·have hQ:Hid_9 (Q=false):=by
       show _=_
       rw [show Q=_ from hQ]
       simp only [decide_eq_false h2,Bool.false_and,Bool.and_false]
      go_wp2
      go_ret
      exact ⟨qbr (by rw [show Q=false from hQ]),hB⟩
    ·have hQ:Hid_9 (Q=false):=by
      show _=_
      rw [show Q=_ from hQ]
      simp only [decide_eq_false h1,Bool.false_and,Bool.and_false]
     go_wp2
     go_ret
     exact ⟨qbr (by rw [show Q=false from hQ]),hB⟩
   ·have hQ:Hid_9 (Q=false):=by
     show _=_
     rw [show Q=_ from hQ]
     simp only [decide_eq_false h0,Bool.false_and,Bool.and_false]
    go_wp2
    go_ret
    exact ⟨qbr (by rw [show Q=false from hQ]),hB⟩
def Un.pgAt (u:Un) (k:Nat):Pg:=u.pg.getD k Pg.z
theorem Un.pgAt_some {u:Un} (hu:u.ok) {k:Nat} (hk:k<16):u.pg[k]? = some (u.pgAt k):=by
 have hl:k<u.pg.length:=by rw [show u.pg.length=16 from hu];exact hk
 unfold Un.pgAt
 rw [List.getD_eq_getElem?_getD,List.getElem?_eq_getElem hl];rfl
theorem Pg.good_all {g:Pg} (h:g.good=true):0≤g.b∧g.b≤4095∧0≤g.l∧g.l≤128∧0≤g.a∧g.a≤2:=by
 unfold Pg.good at h
 simpa only [Bool.and_eq_true,decide_eq_true_eq] using h
theorem Un.right_at {u:Un} (h:u.right=true) (hu:u.ok) {k:Nat} (hk:k<16):(u.pgAt k).good=true:=by
 unfold Un.right at h
 rw [Bool.and_eq_true,List.all_eq_true] at h
 exact h.1 _ (List.mem_of_getElem? (Un.pgAt_some hu hk))
theorem Un.right_tail {u:Un} (h:u.right=true):0≤u.st∧u.st≤3∧0≤u.ad∧u.ad<65536:=by
 unfold Un.right at h
 rw [Bool.and_eq_true] at h
 have h2:=h.2
 unfold Un.tail at h2
 simpa only [Bool.and_eq_true,decide_eq_true_eq] using h2
def regK (n:Int):Nat:=8*((n - 16) / 32).toNat+((n - 16)%32 / 4).toNat
theorem qct {n:Int} (h:isReg n=true):16≤n∧n<80∧n%2=0:=by
 unfold isReg at h
 simpa only [Bool.and_eq_true,decide_eq_true_eq] using h
theorem qnh {n:Int} (h:isReg n=true):regK n<16:=by have:=qct h;unfold regK;omega
def Un.read (u:Un) (n:Int):Int×Bool :=
 if n=0 then (statV u,true) else if n=2 then (u.ad,true)
 else if isReg n=true then (if (n - 16)%4=2 then (descV (u.pgAt (regK n)),true) else ((u.pgAt (regK n)).b,true))
 else (0,false)
def Un.write (u:Un) (n v:Int):Un×Bool :=
 if n=0 then ({u with on:=decide (v%65536%2=1),st:=v%65536 / 2%4},true) else if n=2 then (u,true)
 else if isReg n=true then
  (if (n - 16)%4=2 then (u.withP (regK n) ⟨(u.pgAt (regK n)).b,min (v%65536%256) 128,min (v%65536 / 256%4) 2,false⟩,true)
   else (u.withP (regK n) {u.pgAt (regK n) with b:=v%65536%4096},true))
 else (u,false)
def ReflAt (P:Program) (dd:Nat) (e:TypeId) (a:Value):Prop:=∀ w,(Op.equalIn dd e a a).run P w=.ok true w
theorem qe5 {P:Program} {dd c:Nat} {e:TypeId} {xs:Array Value}:∀ is:List Nat,(∀ i∈is,∃ a,(∀ w,(part e xs (i*c)).run P w=.ok a w)∧ReflAt P dd e a)→∀ w,(Op.eqItems dd e c xs xs is).run P w=.ok true w
 | [],_,w=>by simp [Op.eqItems]
 | i :: is,h,w=>by
   obtain ⟨a,h1,h2⟩:=h i List.mem_cons_self
   have ih:=qe5 is (fun j hj=>h j (List.mem_cons_of_mem _ hj)) w
   simp only [Op.eqItems,Sem.run_bind,h1,h2 w,Result.andThen_ok,Bool.not_true,Bool.false_eq_true,if_false]
   exact ih
theorem qc8 {P:Program} {dd:Nat} {xs:Array Value}:∀ fs:List Field,(∀ f∈fs,∃ a,(∀ w,(part f.type xs f.offset).run P w=.ok a w)∧ReflAt P dd f.type a)→∀ w,(Op.eqFields dd xs xs fs).run P w=.ok true w
 | [],_,w=>by simp [Op.eqFields]
 | f :: fs,h,w=>by
   obtain ⟨a,h1,h2⟩:=h f List.mem_cons_self
   have ih:=qc8 fs (fun j hj=>h j (List.mem_cons_of_mem _ hj)) w
   by_cases hn:f.name ≠ "_"
   ·simp only [Op.eqFields,if_pos hn,Sem.run_bind,h1,h2 w,Result.andThen_ok,Bool.not_true,Bool.false_eq_true,if_false]
    exact ih
   ·simp only [Op.eqFields,if_neg hn]
    exact ih
theorem qfn {P:Program} {e:TypeId} {n off:Nat} {xs:Array Value} (hagg:∀ w,(isAgg e).run P w=.ok true w) (hsz:∀ w,(sizeOf e).run P w=.ok n w) (w:World):(part e xs off).run P w=.ok (.agg (xs.extract off (off+n))) w:=by
 unfold part
 simp only [Sem.run_bind,hagg,hsz,Result.andThen_ok,if_true,Sem.run_pure]
theorem qbb {P:Program} {e:TypeId} {off:Nat} {xs:Array Value} {v:Value} (hagg:∀ w,(isAgg e).run P w=.ok false w) (hx:xs[off]? = some v) (w:World):(part e xs off).run P w=.ok v w:=by
 unfold part
 simp only [Sem.run_bind,hagg,Result.andThen_ok,Bool.false_eq_true,if_false,hx,Sem.run_pure]
theorem qcq (d:Nat) (x:Int):ReflAt Tryz.prog (d+1) 3 (.int .i64 x):=fun w=>by
 rw [run_equalIn_int (P:=Tryz.prog) w d 3 .i64 .i64 x x Tryz.underlying3];simp
theorem qc1 (d:Nat) (x:Bool):ReflAt Tryz.prog (d+1) 4 (.bool x):=fun w=>by
 rw [run_equalIn_bool' (P:=Tryz.prog) w d 4 x x Tryz.underlying4];simp
theorem qby (w:World):(isAgg 3).run Tryz.prog w=.ok false w:=by kernel_rfl
theorem qcc (w:World):(isAgg 4).run Tryz.prog w=.ok false w:=by kernel_rfl
theorem qng:(Tryz.prog.fieldsOf 28).toList.map (fun f=>(f.type,f.offset))=[(3,0),(3,1),(3,2),(4,3)]:=by kernel_rfl
theorem qtw (d:Nat) (p:Pg):ReflAt Tryz.prog (d+2) 28 (.agg p.L.toArray):=fun w=>by
 rw [run_equalIn_struct (P:=Tryz.prog) w (d+1) 28 _ _ (by kernel_rfl) (by kernel_rfl)]
 refine qc8 _ (fun f hf=>?_) w
 have hm:(f.type,f.offset)∈(Tryz.prog.fieldsOf 28).toList.map (fun f=>(f.type,f.offset)):=List.mem_map_of_mem hf
 rw [qng] at hm
 simp only [List.mem_cons,List.not_mem_nil,or_false,Prod.mk.injEq] at hm
 rcases hm with ⟨h1,h2⟩|⟨h1,h2⟩|⟨h1,h2⟩|⟨h1,h2⟩
 all_goals rw [h1,h2]
 ·exact ⟨_,qbb qby (show p.L.toArray[0]? = some (.int .i64 p.b) from rfl),qcq d p.b⟩
 ·exact ⟨_,qbb qby (show p.L.toArray[1]? = some (.int .i64 p.l) from rfl),qcq d p.l⟩
 ·exact ⟨_,qbb qby (show p.L.toArray[2]? = some (.int .i64 p.a) from rfl),qcq d p.a⟩
 ·exact ⟨_,qbb qcc (show p.L.toArray[3]? = some (.bool p.r) from rfl),qc1 d p.r⟩
theorem qem:∀ (a:Nat) (l:List Pg),(l.flatMap Pg.L).drop (4*a)=(l.drop a).flatMap Pg.L
 | 0,l=>by simp
 | a+1,[]=>by simp
 | a+1,p :: r=>by
   rw [List.flatMap_cons,show 4*(a+1)=p.L.length+4*a by show _=4+4*a;omega,← List.drop_drop,List.drop_left,qem a r,List.drop_succ_cons]
theorem qeq:∀ (a:Nat) (l:List Pg),(l.flatMap Pg.L).take (4*a)=(l.take a).flatMap Pg.L
 | 0,l=>by simp
 | a+1,[]=>by simp
 | a+1,p :: r=>by
   rw [List.flatMap_cons,show 4*(a+1)=p.L.length+4*a by show _=4+4*a;omega,List.take_length_add_append,qeq a r,List.take_succ_cons,List.flatMap_cons]
theorem qgo (l:List Pg) (a n:Nat):(l.flatMap Pg.L).toArray.extract (4*a) (4*a+4*n)=(((l.drop a).take n).flatMap Pg.L).toArray:=by
 rw [List.extract_toArray,List.extract_eq_take_drop,Nat.add_sub_cancel_left,qem,qeq]
theorem agg23 (w:World):(isAgg 28).run Tryz.prog w=.ok true w:=by kernel_rfl
theorem siz23 (w:World):(sizeOf 28).run Tryz.prog w=.ok 4 w:=by kernel_rfl
theorem agg24 (w:World):(isAgg 29).run Tryz.prog w=.ok true w:=by kernel_rfl
theorem siz24 (w:World):(sizeOf 29).run Tryz.prog w=.ok 32 w:=by kernel_rfl
theorem agg25 (w:World):(isAgg 30).run Tryz.prog w=.ok true w:=by kernel_rfl
theorem siz25 (w:World):(sizeOf 30).run Tryz.prog w=.ok 64 w:=by kernel_rfl
theorem qsz (d:Nat) (l:List Pg) (hl:l.length=8):ReflAt Tryz.prog (d+3) 29 (.agg (l.flatMap Pg.L).toArray):=fun w=>by
 obtain ⟨i,hi⟩:∃ i,Tryz.prog.info? 28=some i:=Option.isSome_iff_exists.1 (by kernel_rfl)
 rw [run_equalIn_array (P:=Tryz.prog) w (d+2) _ _ Tryz.underlying29 hi]
 refine qe5 _ (fun k hk=>?_) w
 have hk8:k<l.length:=by rw [hl];exact List.mem_range.1 hk
 refine ⟨_,fun w=>qfn agg23 siz23 w,?_⟩
 rw [show Tryz.prog.cellsOf 28=4 by kernel_rfl]
 have e:=qgo l k 1
 rw [Nat.mul_one,Nat.mul_comm 4 k] at e
 rw [e,List.take_one,List.head?_drop,List.getElem?_eq_getElem hk8]
 have q:=qtw d l[k]
 simpa using q
theorem qpo (d:Nat) (l:List Pg) (hl:l.length=16):ReflAt Tryz.prog (d+4) 30 (.agg (l.flatMap Pg.L).toArray):=fun w=>by
 obtain ⟨i,hi⟩:∃ i,Tryz.prog.info? 29=some i:=Option.isSome_iff_exists.1 (by kernel_rfl)
 rw [run_equalIn_array (P:=Tryz.prog) w (d+3) _ _ Tryz.underlying30 hi]
 refine qe5 _ (fun k hk=>?_) w
 have hk2:k<2:=List.mem_range.1 hk
 refine ⟨_,fun w=>qfn agg24 siz24 w,?_⟩
 rw [show Tryz.prog.cellsOf 29=32 by kernel_rfl]
 have e:=qgo l (8*k) 8
 rw [show 4*(8*k)=k*32 by omega] at e
 rw [e]
 exact qsz d _ (by rw [List.length_take,List.length_drop];omega)
theorem qnm:(Tryz.prog.fieldsOf 32).toList.map (fun f=>(f.type,f.offset))=[(4,0),(30,1),(3,65),(3,66)]:=by kernel_rfl
theorem Un.pages {u:Un} (h:u.ok):u.L.toArray.extract 1 (1+64)=(u.pg.flatMap Pg.L).toArray:=by
 have hl:=qcn u.pg
 rw [show u.pg.length=16 from h] at hl
 rw [List.extract_toArray,List.extract_eq_take_drop]
 unfold Un.L
 rw [List.drop_succ_cons,List.drop_zero,List.take_append_of_le_length (by omega),List.take_of_length_le (by omega)]
theorem qrf (d:Nat) (u:Un) (hu:u.ok):ReflAt Tryz.prog (d+5) 32 (.agg u.L.toArray):=fun w=>by
 rw [run_equalIn_struct (P:=Tryz.prog) w (d+4) 32 _ _ (by kernel_rfl) (by kernel_rfl)]
 refine qc8 _ (fun f hf=>?_) w
 have hm:(f.type,f.offset)∈(Tryz.prog.fieldsOf 32).toList.map (fun f=>(f.type,f.offset)):=List.mem_map_of_mem hf
 rw [qnm] at hm
 simp only [List.mem_cons,List.not_mem_nil,or_false,Prod.mk.injEq] at hm
 rcases hm with ⟨h1,h2⟩|⟨h1,h2⟩|⟨h1,h2⟩|⟨h1,h2⟩
 all_goals rw [h1,h2]
 ·exact ⟨_,qbb qcc (by simpa using Un.at0 u),qc1 (d+3) u.on⟩
 ·refine ⟨_,fun w=>qfn agg25 siz25 w,?_⟩
  rw [Un.pages hu]
  exact qpo d u.pg hu
 ·exact ⟨_,qbb qby (by simpa using Un.at65 hu),qcq (d+3) u.st⟩
 ·exact ⟨_,qbb qby (by simpa using Un.at66 hu),qcq (d+3) u.ad⟩
theorem unit_eq (u:Un) (hu:u.ok) (w:World):(Op.equalIn 10000 32 (.agg u.L.toArray) (.agg u.L.toArray)).run Tryz.prog w=.ok true w:=qrf 9995 u hu w
end Go.Proofs.YthpnddgfgpacpaaGreat
