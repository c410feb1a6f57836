import Derived.Test.YthpnddgfgpacpaaGreatRT04
import Derived.Test.YthpnddgfgpacpaaGreatRT09
import Derived.Test.YthpnddgfgpacpaaGreatRT01
import Derived.Test.YthpnddgfgpacpaaGreatRT06
import Derived.Test.YthpnddgfgpacpaaGreatRT10
import Derived.Test.YthpnddgfgpacpaaGreatRT11
import Derived.Test.YthpnddgfgpacpaaGreatRT05
namespace Go.Proofs.YthpnddgfgpacpaaGreat
open Go.RowKit
set_option linter.unusedSimpArgs false
set_option linter.unusedVariables false
set_option maxHeartbeats 4000000
set_option maxRecDepth 100000
attribute [local irreducible] wpQuiet
theorem qfo {α:Type} {g:α→List Value} {s:Nat} (hs:∀ x,(g x).length=s):∀ (l:List α) (k:Nat) (x:α),l[k]? = some x→∀ j v,(g x)[j]? = some v→(l.flatMap g)[k*s+j]? = some v
 | [],k,x,h,_,_,_=>by simp at h
 | y :: r,0,x,h,j,v,hv=>by
   obtain rfl:y=x:=by simpa using h
   rw [List.flatMap_cons,Nat.zero_mul,Nat.zero_add,List.getElem?_append_left (List.getElem?_eq_some_iff.1 hv).1]
   exact hv
 | y :: r,k+1,x,h,j,v,hv=>by
   rw [List.flatMap_cons,List.getElem?_append_right (by rw [hs,Nat.succ_mul];omega),hs,show (k+1)*s+j - s=k*s+j by rw [Nat.succ_mul];omega]
   exact qfo hs r k x (by simpa using h) j v hv
theorem Its.nums18 {w:World} {v:Value} {l:List Int} (h:Its w v l):Nums .i64 w v l:=by
 obtain ⟨⟨A,c,rfl,hk,hc⟩,_⟩:=h
 refine ⟨A,c,rfl,hk,fun j x hx=>?_⟩
 obtain ⟨a,ha,h1,h2⟩:=hc j (.int .i64 x) (by rw [List.getElem?_map,hx];rfl)
 exact ⟨a,ha,h1,by have:=World.block_lt_of_cell? w _ h1;exact this⟩
theorem qjm (w:World):(isAgg 68).run Tryz.prog w=.ok true w:=by kernel_rfl
theorem qj0 (w:World):(sizeOf 68).run Tryz.prog w=.ok 9 w:=by kernel_rfl
theorem qax (w:World):(isAgg 35).run Tryz.prog w=.ok false w:=by kernel_rfl
theorem qe4 {w:World} {v:Value} {l:List Ln} (h:Lns w v l):∃ A c,v=.slice A l.length c∧l.length≤c∧∀ (k:Nat) x,l[k]? = some x→∃ a,A=some a∧∀ w',Below w.heap.size w w'→(Instr.loadAt 68 (.pointer (some (a.add (k*9))))).run Tryz.prog w'=.ok (.agg (lnL x).toArray) w':=by
 have h0:=h.1
 obtain ⟨A,c,rfl,hk,hc⟩:=h.1
 refine ⟨A,c,rfl,hk,fun k x hx=>?_⟩
 have hg:=fun j v hv=>qfo (g:=lnL) (s:=9) (fun _=>rfl) l k x hx j v hv
 obtain ⟨a,rfl,_⟩:=hc (k*9+0) _ (hg 0 _ rfl)
 exact ⟨a,rfl,fun w' hb=>Rw.loadAt (k:=k) (s:=9) (Rw.below h0 hb) (fun j v hv=>hg j v hv) rfl qjm qj0⟩
structure MaNow (w:World) (A:Ma) (vm vb vl vs vd vt:Value):Prop where
 m:Its w vm A.M
 b:Its w vb A.B
 l:Lns w vl A.L
 s:Sts w vs A.K.D.S
 d:Its w vd A.K.D.B
 t:Sts w vt A.T.R
theorem MaNow.step {w w':World} {A:Ma} {vm vb vl vs vd vt:Value} (h:MaNow w A vm vb vl vs vd vt) (hb:Below w.heap.size w w'):MaNow w' A vm vb vl vs vd vt:=⟨Rz.below h.m hb,Rz.below h.b hb,Rz.below h.l hb,Rz.below h.s hb,Rz.below h.d hb,Rz.below h.t hb⟩
def Ma.few (A:Ma):Prop:=A.M.length≤1099511627776∧A.B.length≤1099511627776∧A.K.D.S.length≤1099511627776∧A.K.D.B.length≤1099511627776∧A.T.R.length≤1099511627776
theorem qna (A:Ma) (hA:A.ok) (hF:A.few) (vm vb vl vs vd vt:Value) (w:World) (hN:MaNow w A vm vb vl vs vd vt):Calls Tryz.prog 12 #[.agg (A.cells vm vb vl vs vd vt).toArray] w fun e' w'=>e'=.returned (.bool A.right)∧Below w.heap.size w w':=by
 have hL:=Ma.len hA vs vd vt
 obtain ⟨f1,f2,f3,f4,f5⟩:=hF
 have hX:=(Bag.nil w).new 44 (A.cells vm vb vl vs vd vt)
 obtain ⟨aL,cL,rfl,hcl,hld⟩:=qe4 hN.l
 have hri:A.right=(decide (A.L.length≤4) && A.L.all Ln.right && rightP A.M A.B && A.U.right && A.k.right && A.K.right && A.T.right):=rfl
 have hm:=fun wz (h:Below w.heap.size w wz)=>qqk vm vb A.M A.B f1 f2 wz (Its.nums18 (Rz.below hN.m h)) (Its.nums18 (Rz.below hN.b h))
 have hu:=fun wz=>qmc A.U hA.2.2 wz
 have hk:∀ wz,Calls Tryz.prog 33 #[.agg A.k.L.toArray] wz fun e' w'=>e'=.returned (.bool A.k.right)∧Below wz.heap.size wz w':=fun wz=>qjv A.k wz
 have hd:∀ wz,Below w.heap.size w wz→Calls Tryz.prog 34 #[.agg (dkL vs vd A.K).toArray] wz fun e' w'=>e'=.returned (.bool A.K.right)∧Below wz.heap.size wz w':=fun wz h=>qm6 A.K f4 f3 vs vd wz (Rz.below hN.s h) (Rz.below hN.d h)
 have ht:∀ wz,Below w.heap.size w wz→Calls Tryz.prog 35 #[.agg (tpL vt A.T).toArray] wz fun e' w'=>e'=.returned (.bool A.T.right)∧Below wz.heap.size wz w':=fun wz h=>qnb A.T f5 vt wz (Rz.below hN.t h)
 have hn:∀ (x:Ln) wz,Calls Tryz.prog 30 #[.agg (lnL x).toArray] wz fun e' w'=>e'=.returned (.bool x.right)∧Below wz.heap.size wz w':=fun x wz=>qmf x wz
 obtain ⟨Q,hQ⟩:∃ Q,Q=A.right:=⟨_,rfl⟩
 rw [← hQ]
 rw [hri] at hQ
 clear hri
 by_cases h4:4<A.L.length
 ·have d4:decide (4<(A.L.length:Int))=true:=decide_eq_true (by omega)
  have hr:Q=false:=by rw [hQ,decide_eq_false (by omega)];simp
  clear hQ
  subst hr
  have h4i:(4:Int)<(A.L.length:Int):=by omega
  go_enter Tryz.func12,Tryz.ntmps12
  go_wp2_with (first|((with_reducible refine qab ?_);refine qai hX qax _ rfl rfl rfl rfl (.head _) (qcg hL) ?_))
  go_ret
  exact ⟨rfl,hX.below⟩
 have d4:decide (4<(A.L.length:Int))=false:=decide_eq_false (by omega)
 rw [decide_eq_true (by omega)] at hQ
 replace hQ:=hid hQ
 go_enter Tryz.func12,Tryz.ntmps12
 go_wp2_with (first|((with_reducible refine qab ?_);refine qai hX qax _ rfl rfl rfl rfl (.head _) (qcg hL) ?_))
 go_loopw [3] (fun iv wr=>∃ i:Nat,i≤A.L.length∧iv=.int .i64 i∧Hid (∀ (j:Nat) x,j<i→A.L[j]? = some x→x.right=true)∧Bag [(w.heap.size,44,A.cells vm vb (.slice aL A.L.length cL) vs vd vt)] w wr) (fun iv _=>match iv with|.int _ q=>A.L.length - q.toNat|_=>0)
 case atStart=>exact ⟨0,Nat.zero_le _,rfl,fun j x h=>absurd h (Nat.not_lt_zero _),hX⟩
 case round =>
  clear hX
  obtain ⟨i,hi,rfl,hall,hX⟩:=hrel
  by_cases hlt:i<A.L.length
  ·obtain ⟨x,hx⟩:∃ x,A.L[i]? = some x:=⟨_,List.getElem?_eq_getElem hlt⟩
   obtain ⟨ad,rfl,hld2⟩:=hld i x hx
   have i0:(0:Int)≤(i:Int):=by omega
   have i1:(i:Int)<(A.L.length:Int):=by omega
   have hnx:=hn x
   cases hq:x.right
   ·rw [hq] at hnx
    have hr:Q=false:=by
     rw [show Q=_ from hQ]
     have:A.L.all Ln.right=false:=by
      rw [List.all_eq_false]
      exact ⟨x,List.mem_of_getElem? hx,by rw [hq];decide⟩
     rw [this];simp
    clear hQ hall hm hu hk hd ht hn
    subst hr
    replace hx:=hid hx
    go_wp2_with (first|((with_reducible refine qab ?_);first|refine qai hX qax _ rfl rfl rfl rfl (.head _) (qcg hL) ?_|refine qaq rfl 68 _ _ _ rfl rfl (hld2 _ hX.below) ?_)|(go_at_call 30;with_reducible refine cst hX (hnx _) ?_;clear hX;intro wc hX))
    go_ret
    exact ⟨rfl,hX.below⟩
   ·rw [hq] at hnx
    have hN2:Hid (∀ (j:Nat) x,j<i+1→A.L[j]? = some x→x.right=true):=fun j y hj hy=>by
     rcases (by omega:j<i∨j=i) with h|rfl
     ·exact (show ∀ (j:Nat) x,j<i→A.L[j]? = some x→x.right=true from hall) j y h hy
     ·rw [hx] at hy;cases hy;exact hq
    clear hall hx hq hm hu hk hd ht hn
    go_wp2_with (first|((with_reducible refine qab ?_);first|refine qai hX qax _ rfl rfl rfl rfl (.head _) (qcg hL) ?_|refine qaq rfl 68 _ _ _ rfl rfl (hld2 _ hX.below) ?_)|(go_at_call 30;with_reducible refine cst hX (hnx _) ?_;clear hX;intro wc hX))
    exact ⟨⟨i+1,by omega,by go_num,hN2,hX⟩,by simp only;omega⟩
  ·have hl:A.L.all Ln.right=true:=by
    rw [List.all_eq_true]
    intro x hx
    obtain ⟨j,hj⟩:=List.mem_iff_getElem?.1 hx
    exact (show ∀ (j:Nat) x,j<i→A.L[j]? = some x→x.right=true from hall) j x (by have:=(List.getElem?_eq_some_iff.1 hj).1;omega) hj
   have i1:¬ (i:Int)<(A.L.length:Int):=by omega
   have hr2:Q=(rightP A.M A.B && A.U.right && A.k.right && A.K.right && A.T.right):=by rw [show Q=_ from hQ,hl];simp
   clear hQ hl hld hall hn
   cases g1:rightP A.M A.B
   ·rw [g1] at hm hr2
    simp only [Bool.false_and] at hr2
    subst hr2
    go_wp2_with (first|((with_reducible refine qab ?_);first|refine qai hX qax _ rfl rfl rfl rfl (.head _) (qcg hL) ?_|refine qai hX qap _ rfl rfl rfl rfl (.head _) (qcx hL) ?_|refine qai hX qap _ rfl rfl rfl rfl (.head _) (qcy hL) ?_|refine qas hX qb3 qbp _ rfl rfl rfl rfl (.head _) (qh5 hL) (by first|rfl|exact Un.len hA.2.2) ?_|refine qas hX qbv qbx _ rfl rfl rfl rfl (.head _) (qgw hL) (by first|rfl|exact Un.len hA.2.2) ?_|refine qas hX aggK sizK _ rfl rfl rfl rfl (.head _) (qci hL) (by first|rfl|exact Un.len hA.2.2) ?_|refine qas hX aggT sizT _ rfl rfl rfl rfl (.head _) (qc6 hL) (by first|rfl|exact Un.len hA.2.2) ?_)|((first|(go_at_call 31;with_reducible refine cst hX (hm _ hX.below) ?_)|(go_at_call 32;with_reducible refine cst hX (hu _) ?_)|(go_at_call 33;with_reducible refine cst hX (hk _) ?_)|(go_at_call 34;with_reducible refine cst hX (hd _ hX.below) ?_)|(go_at_call 35;with_reducible refine cst hX (ht _ hX.below) ?_));clear hX;intro wc hX))
    go_ret
    exact ⟨rfl,hX.below⟩
   cases g2:A.U.right
   ·rw [g1] at hm hr2
    rw [g2] at hu hr2
    simp only [Bool.false_and,Bool.true_and,Bool.and_false] at hr2
    subst hr2
    go_wp2_with (first|((with_reducible refine qab ?_);first|refine qai hX qax _ rfl rfl rfl rfl (.head _) (qcg hL) ?_|refine qai hX qap _ rfl rfl rfl rfl (.head _) (qcx hL) ?_|refine qai hX qap _ rfl rfl rfl rfl (.head _) (qcy hL) ?_|refine qas hX qb3 qbp _ rfl rfl rfl rfl (.head _) (qh5 hL) (by first|rfl|exact Un.len hA.2.2) ?_|refine qas hX qbv qbx _ rfl rfl rfl rfl (.head _) (qgw hL) (by first|rfl|exact Un.len hA.2.2) ?_|refine qas hX aggK sizK _ rfl rfl rfl rfl (.head _) (qci hL) (by first|rfl|exact Un.len hA.2.2) ?_|refine qas hX aggT sizT _ rfl rfl rfl rfl (.head _) (qc6 hL) (by first|rfl|exact Un.len hA.2.2) ?_)|((first|(go_at_call 31;with_reducible refine cst hX (hm _ hX.below) ?_)|(go_at_call 32;with_reducible refine cst hX (hu _) ?_)|(go_at_call 33;with_reducible refine cst hX (hk _) ?_)|(go_at_call 34;with_reducible refine cst hX (hd _ hX.below) ?_)|(go_at_call 35;with_reducible refine cst hX (ht _ hX.below) ?_));clear hX;intro wc hX))
    go_ret
    exact ⟨rfl,hX.below⟩
   cases g3:A.k.right
   ·rw [g1] at hm hr2
    rw [g2] at hu hr2
    rw [g3] at hk hr2
    simp only [Bool.false_and,Bool.true_and,Bool.and_false] at hr2
    subst hr2
    go_wp2_with (first|((with_reducible refine qab ?_);first|refine qai hX qax _ rfl rfl rfl rfl (.head _) (qcg hL) ?_|refine qai hX qap _ rfl rfl rfl rfl (.head _) (qcx hL) ?_|refine qai hX qap _ rfl rfl rfl rfl (.head _) (qcy hL) ?_|refine qas hX qb3 qbp _ rfl rfl rfl rfl (.head _) (qh5 hL) (by first|rfl|exact Un.len hA.2.2) ?_|refine qas hX qbv qbx _ rfl rfl rfl rfl (.head _) (qgw hL) (by first|rfl|exact Un.len hA.2.2) ?_|refine qas hX aggK sizK _ rfl rfl rfl rfl (.head _) (qci hL) (by first|rfl|exact Un.len hA.2.2) ?_|refine qas hX aggT sizT _ rfl rfl rfl rfl (.head _) (qc6 hL) (by first|rfl|exact Un.len hA.2.2) ?_)|((first|(go_at_call 31;with_reducible refine cst hX (hm _ hX.below) ?_)|(go_at_call 32;with_reducible refine cst hX (hu _) ?_)|(go_at_call 33;with_reducible refine cst hX (hk _) ?_)|(go_at_call 34;with_reducible refine cst hX (hd _ hX.below) ?_)|(go_at_call 35;with_reducible refine cst hX (ht _ hX.below) ?_));clear hX;intro wc hX))
    go_ret
    exact ⟨rfl,hX.below⟩
   cases g4:A.K.right
   ·rw [g1] at hm hr2
    rw [g2] at hu hr2
    rw [g3] at hk hr2
    rw [g4] at hd hr2
    simp only [Bool.false_and,Bool.true_and,Bool.and_false] at hr2
    subst hr2
    go_wp2_with (first|((with_reducible refine qab ?_);first|refine qai hX qax _ rfl rfl rfl rfl (.head _) (qcg hL) ?_|refine qai hX qap _ rfl rfl rfl rfl (.head _) (qcx hL) ?_|refine qai hX qap _ rfl rfl rfl rfl (.head _) (qcy hL) ?_|refine qas hX qb3 qbp _ rfl rfl rfl rfl (.head _) (qh5 hL) (by first|rfl|exact Un.len hA.2.2) ?_|refine qas hX qbv qbx _ rfl rfl rfl rfl (.head _) (qgw hL) (by first|rfl|exact Un.len hA.2.2) ?_|refine qas hX aggK sizK _ rfl rfl rfl rfl (.head _) (qci hL) (by first|rfl|exact Un.len hA.2.2) ?_|refine qas hX aggT sizT _ rfl rfl rfl rfl (.head _) (qc6 hL) (by first|rfl|exact Un.len hA.2.2) ?_)|((first|(go_at_call 31;with_reducible refine cst hX (hm _ hX.below) ?_)|(go_at_call 32;with_reducible refine cst hX (hu _) ?_)|(go_at_call 33;with_reducible refine cst hX (hk _) ?_)|(go_at_call 34;with_reducible refine cst hX (hd _ hX.below) ?_)|(go_at_call 35;with_reducible refine cst hX (ht _ hX.below) ?_));clear hX;intro wc hX))
    go_ret
    exact ⟨rfl,hX.below⟩
   rw [g1] at hm hr2
   rw [g2] at hu hr2
   rw [g3] at hk hr2
   rw [g4] at hd hr2
   simp only [Bool.true_and] at hr2
   subst hr2
   go_wp2_with (first|((with_reducible refine qab ?_);first|refine qai hX qax _ rfl rfl rfl rfl (.head _) (qcg hL) ?_|refine qai hX qap _ rfl rfl rfl rfl (.head _) (qcx hL) ?_|refine qai hX qap _ rfl rfl rfl rfl (.head _) (qcy hL) ?_|refine qas hX qb3 qbp _ rfl rfl rfl rfl (.head _) (qh5 hL) (by first|rfl|exact Un.len hA.2.2) ?_|refine qas hX qbv qbx _ rfl rfl rfl rfl (.head _) (qgw hL) (by first|rfl|exact Un.len hA.2.2) ?_|refine qas hX aggK sizK _ rfl rfl rfl rfl (.head _) (qci hL) (by first|rfl|exact Un.len hA.2.2) ?_|refine qas hX aggT sizT _ rfl rfl rfl rfl (.head _) (qc6 hL) (by first|rfl|exact Un.len hA.2.2) ?_)|((first|(go_at_call 31;with_reducible refine cst hX (hm _ hX.below) ?_)|(go_at_call 32;with_reducible refine cst hX (hu _) ?_)|(go_at_call 33;with_reducible refine cst hX (hk _) ?_)|(go_at_call 34;with_reducible refine cst hX (hd _ hX.below) ?_)|(go_at_call 35;with_reducible refine cst hX (ht _ hX.below) ?_));clear hX;intro wc hX))
   go_ret
   exact ⟨rfl,hX.below⟩
theorem infLn:(Tryz.prog.info? 68).map (fun i=>(i.zero,i.size,i.bytes))=some (some (.agg (lnL ⟨false,false,false,0,false,false,0,0,⟨#[]⟩⟩).toArray),9,56):=by kernel_rfl
theorem qhc:∃ i:TypeInfo,Tryz.prog.info? 68=some i∧i.zero=some (.agg (lnL ⟨false,false,false,0,false,false,0,0,⟨#[]⟩⟩).toArray)∧i.size=9∧i.bytes=56:=by
 have h:=infLn
 cases hi:Tryz.prog.info? 68 with
 | none=>rw [hi] at h;cases h
 | some i =>
   rw [hi] at h
   simp only [Option.map_some,Option.some.injEq,Prod.mk.injEq] at h
   exact ⟨i,rfl,h.1,h.2.1,h.2.2⟩
theorem qgl (w:World) (t:TypeId) (s:Nat):(w.alloc (.cells #[] t)).ownsRow w.heap.size t s (.slice (some ⟨w.heap.size,0,none⟩) 0 0) 0 [] :=
 ⟨(Nat.zero_mul s).symm,.inr ⟨w.heap.size,0,#[],rfl,Nat.le_refl _,heap_alloc_new w _,Nat.le_refl _,Nat.zero_le _,(Nat.zero_mul s).symm,by rw [Nat.zero_mul];rfl⟩⟩
theorem qht (l:List Ln):(l.flatMap lnL).length=l.length*9:=by
 induction l with
 | nil=>rfl
 | cons x r ih=>rw [List.flatMap_cons,List.length_append,ih,List.length_cons];show 9+_=_;omega
theorem qr3 (l:List Ln):∀ u∈l.flatMap lnL,u.oneCell'=true:=by
 intro u hu
 obtain ⟨x,_,hx⟩:=List.mem_flatMap.1 hu
 simp only [lnL,List.mem_cons,List.not_mem_nil,or_false] at hx
 rcases hx with rfl|rfl|rfl|rfl|rfl|rfl|rfl|rfl|rfl<;>rfl
theorem qet {w:World} {ops:Array Oper} {rest:List Oper} {o:Oper} {a:Act} {Q:Exit→Act→World→Prop} (hgd:o.guard=none) (s x:Operand)
 (ho:o.op=.call {callee:=.builtin .append,args:=#[s,x],argTypes:=#[35,35]}) (N:Nat) (v:Value) (n:Nat) (xs:List Value) (hs:a.eval s=v) (hown:w.ownsRow N 68 9 v n xs)
 (ad:Addr) (m c:Nat) (news:List Value) (hx:a.eval x=.slice (some ad) m c) (hl:news.length=m*9) (hnews:∀ j u,news[j]? = some u→w.cell? (ad.add j)=some u) (h1:∀ u∈news,u.oneCell'=true)
 (hb:n+m≤1099511627776) (hN:N≤w.heap.size)
 (h:∀ v' w',w'.ownsRow N 68 9 v' (n+m) (xs++news)→Below N w w'→wpList Tryz.prog ops Q rest (a.put o.dst v') w'):wpList Tryz.prog ops Q (o :: rest) a w:=by
 obtain ⟨i,hi,hz,hsz,hby⟩:=qhc
 refine wpList_append_own _ hgd s x 35 ho N 68 i (.agg (lnL ⟨false,false,false,0,false,false,0,0,⟨#[]⟩⟩).toArray) 9 56 Tryz.underlying35 hi hz hsz hby rfl (by decide) v n xs hs hown ad m c news hx hl hnews h1 (by unfold maxLen;omega) (by omega) hN ?_
 intro v' w' ho' hg _
 exact h v' w' ho' ((Below.refl N w).grown hg hN (fun j hj=>(World.ownsRow.lt hown j hj).1))
theorem qmw {w w0:World} {ops:Array Oper} {rest:List Oper} {o:Oper} {a:Act} {Q:Exit→Act→World→Prop} (hgd:o.guard=none) (s x:Operand) (ho:o.op=.call {callee:=.builtin .append,args:=#[s,x],argTypes:=#[35,35]}) (hw:w=w0.alloc (.cells #[] 68)) (hs:a.eval s=.slice (some ⟨w0.heap.size,0,none⟩) 0 0) (v:Value) (l:List Ln) (hx:a.eval x=v) (hv:Lns w0 v l) (hl:l.length≤1099511627776)
 (h:∀ v' w',w'.ownsRow w0.heap.size 68 9 v' l.length (l.flatMap lnL)→Below w0.heap.size w0 w'→wpList Tryz.prog ops Q rest (a.put o.dst v') w'):wpList Tryz.prog ops Q (o :: rest) a w:=by
 subst hw
 have hb0:Below w0.heap.size w0 (w0.alloc (.cells #[] 68)):=(Below.refl _ _).alloc (Nat.le_refl _) _
 rcases Rz.form hv with ⟨rfl,h1,_⟩|⟨ad,c,rfl,_⟩
 ·obtain rfl:l=[]:=List.eq_nil_of_length_eq_zero h1
  obtain ⟨i,hi,hz,hsz,hby⟩:=qhc
  exact wpList_append_own_none hgd s x 35 ho w0.heap.size 68 i 9 Tryz.underlying35 hi _ 0 [] hs (qgl w0 68 9) hx (h _ _ (qgl w0 68 9) hb0)
 ·refine qet hgd s x ho w0.heap.size _ 0 [] hs (qgl w0 68 9) ad l.length c (l.flatMap lnL) hx (qht l) (fun jz u hu=>Rz.cell (Rz.below hv hb0) jz u hu) (qr3 l) (by omega) (by simp) fun v' w' ho' hb'=>?_
  rw [Nat.zero_add,List.nil_append] at ho'
  exact h v' w' ho' (hb0.trans hb')
section
variable {ops:Array Oper} {rest:List Oper} {o:Oper} {a:Act} {w w0 w1:World} {Q:Exit→Act→World→Prop} {l:List (Nat×TypeId×List Value)} {b:Nat×TypeId×List Value} {B k n:Nat} {t T:TypeId} {cs ds:List Value} {v z:Value} {x y:Operand}
theorem ldc (hX:Bag l w0 w) (hagg:∀ w,(isAgg T).run Tryz.prog w=.ok false w)
 (h:wpList Tryz.prog ops Q rest (a.put o.dst v) w) (hop:o.op=Op.load T x:=by rfl) (hal:w1=w:=by rfl) (hx:a.eval x=.pointer (some ⟨B,k,none⟩):=by rfl) (hw:Region.wanted o (yielded ops a.tmps)=true:=by rfl) (hm:(B,t,cs)∈l:=by first|exact .head _|exact .tail _ (.head _)|exact .tail _ (.tail _ (.head _))) (hk:cs[k]? = some v:=by rfl):wpList Tryz.prog ops Q (o :: rest) a w1 :=
 qai hX hagg x hop hal hx hw hm hk h
theorem ldw (hX:Bag l w0 w) (hagg:∀ w,(isAgg T).run Tryz.prog w=.ok true w) (hsz:∀ w,(sizeOf T).run Tryz.prog w=.ok n w)
 (h:wpList Tryz.prog ops Q rest (a.put o.dst (.agg cs.toArray)) w) (hop:o.op=Op.load T x:=by rfl) (hal:w1=w:=by rfl) (hx:a.eval x=.pointer (some ⟨B,0,none⟩):=by rfl) (hw:Region.wanted o (yielded ops a.tmps)=true:=by rfl) (hm:(B,t,cs)∈l:=by first|exact .head _|exact .tail _ (.head _)|exact .tail _ (.tail _ (.head _))) (hn:cs.length=n:=by rfl):wpList Tryz.prog ops Q (o :: rest) a w1 :=
 qas (k:=0) hX hagg hsz x hop hal hx hw hm (fun j v hz=>by rw [Nat.zero_add];exact hz) hn h
theorem ldp (hX:Bag l w0 w) (hagg:∀ w,(isAgg T).run Tryz.prog w=.ok true w) (hsz:∀ w,(sizeOf T).run Tryz.prog w=.ok n w) (hc:∀ j v,ds[j]? = some v→cs[k+j]? = some v) (hn:ds.length=n)
 (h:wpList Tryz.prog ops Q rest (a.put o.dst (.agg ds.toArray)) w) (hop:o.op=Op.load T x:=by rfl) (hal:w1=w:=by rfl) (hx:a.eval x=.pointer (some ⟨B,k,none⟩):=by rfl) (hw:Region.wanted o (yielded ops a.tmps)=true:=by rfl) (hm:(B,t,cs)∈l:=by first|exact .head _|exact .tail _ (.head _)|exact .tail _ (.tail _ (.head _))):wpList Tryz.prog ops Q (o :: rest) a w1 :=
 qas hX hagg hsz x hop hal hx hw hm hc hn h
theorem stc (hX:Bag ((B,t,cs) :: l) w0 w) (hsz:∀ w,(sizeOf T).run Tryz.prog w=.ok 1 w)
 (h:∀ w2,Bag ((B,t,cs.set k z) :: l) w0 w2→(∀ j,j≠B→w2.heap[j]? = w.heap[j]?)→wpList Tryz.prog ops Q rest a w2) (hop:o.op=Op.store T x y:=by rfl) (hal:w1=w:=by rfl) (hx:a.eval x=.pointer (some ⟨B,k,none⟩):=by rfl) (hy:a.eval y=z:=by rfl) (hdst:o.dst=none:=by rfl) (hw:Region.wanted o (yielded ops a.tmps)=true:=by rfl) (hk:k<cs.length:=by simp) (hz:z.cells=#[z]:=by rfl) (h1:z.oneCell'=true:=by rfl):wpList Tryz.prog ops Q (o :: rest) a w1 :=
 qae hX hsz x y hop hal hx hy hdst hw hk hz h1 fun w2 a b _=>h w2 a b
theorem stc2 (hX:Bag (b :: (B,t,cs) :: l) w0 w) (hsz:∀ w,(sizeOf T).run Tryz.prog w=.ok 1 w)
 (h:∀ w2,Bag (b :: (B,t,cs.set k z) :: l) w0 w2→(∀ j,j≠B→w2.heap[j]? = w.heap[j]?)→wpList Tryz.prog ops Q rest a w2) (hop:o.op=Op.store T x y:=by rfl) (hal:w1=w:=by rfl) (hx:a.eval x=.pointer (some ⟨B,k,none⟩):=by rfl) (hy:a.eval y=z:=by rfl) (hdst:o.dst=none:=by rfl) (hw:Region.wanted o (yielded ops a.tmps)=true:=by rfl) (hk:k<cs.length:=by simp) (hz:z.cells=#[z]:=by rfl) (h1:z.oneCell'=true:=by rfl):wpList Tryz.prog ops Q (o :: rest) a w1 :=
 qae hX.swap hsz x y hop hal hx hy hdst hw hk hz h1 fun w2 a b _=>h w2 a.swap b
theorem stw (hX:Bag ((B,t,cs) :: l) w0 w) (hagg:∀ w,(isAgg T).run Tryz.prog w=.ok true w) (hsz:∀ w,(sizeOf T).run Tryz.prog w=.ok n w) (h1:∀ v∈ds,v.oneCell'=true)
 (h:∀ w2,Bag ((B,t,ds) :: l) w0 w2→(∀ j,j≠B→w2.heap[j]? = w.heap[j]?)→wpList Tryz.prog ops Q rest a w2) (hop:o.op=Op.store T x y:=by rfl) (hal:w1=w:=by rfl) (hx:a.eval x=.pointer (some ⟨B,0,none⟩):=by rfl) (hy:a.eval y=.agg ds.toArray:=by rfl) (hdst:o.dst=none:=by rfl) (hw:Region.wanted o (yielded ops a.tmps)=true:=by rfl) (hn:ds.length=n:=by rfl) (hc:cs.length=n:=by rfl):wpList Tryz.prog ops Q (o :: rest) a w1 :=
 qaa hX hagg hsz x y hop hal hx hy hdst hw hn hc h1 h
theorem stw2 (hX:Bag (b :: (B,t,cs) :: l) w0 w) (hagg:∀ w,(isAgg T).run Tryz.prog w=.ok true w) (hsz:∀ w,(sizeOf T).run Tryz.prog w=.ok n w) (h1:∀ v∈ds,v.oneCell'=true)
 (h:∀ w2,Bag (b :: (B,t,ds) :: l) w0 w2→(∀ j,j≠B→w2.heap[j]? = w.heap[j]?)→wpList Tryz.prog ops Q rest a w2) (hop:o.op=Op.store T x y:=by rfl) (hal:w1=w:=by rfl) (hx:a.eval x=.pointer (some ⟨B,0,none⟩):=by rfl) (hy:a.eval y=.agg ds.toArray:=by rfl) (hdst:o.dst=none:=by rfl) (hw:Region.wanted o (yielded ops a.tmps)=true:=by rfl) (hn:ds.length=n:=by rfl) (hc:cs.length=n:=by rfl):wpList Tryz.prog ops Q (o :: rest) a w1 :=
 qaa hX.swap hagg hsz x y hop hal hx hy hdst hw hn hc h1 fun w2 a b=>h w2 a.swap b
theorem stk2 {cs':List Value} (hX:Bag (b :: (B,t,cs) :: l) w0 w) (hsz:∀ w,(sizeOf T).run Tryz.prog w=.ok 1 w) (he:cs.set k z=cs') (hk:k<cs.length) (h1:z.oneCell'=true)
 (h:∀ w2,Bag (b :: (B,t,cs') :: l) w0 w2→(∀ j,j≠B→w2.heap[j]? = w.heap[j]?)→wpList Tryz.prog ops Q rest a w2) (hop:o.op=Op.store T x y:=by rfl) (hal:w1=w:=by rfl) (hx:a.eval x=.pointer (some ⟨B,k,none⟩):=by rfl) (hy:a.eval y=z:=by rfl) (hdst:o.dst=none:=by rfl) (hw:Region.wanted o (yielded ops a.tmps)=true:=by rfl) (hz:z.cells=#[z]:=by rfl):wpList Tryz.prog ops Q (o :: rest) a w1 :=
 stc2 hX hsz (fun w2 a b=>h w2 (he▸a) b) hop hal hx hy hdst hw hk hz h1
theorem stp2 {cs':List Value} (hX:Bag (b :: (B,t,cs) :: l) w0 w) (hagg:∀ w,(isAgg T).run Tryz.prog w=.ok true w) (hsz:∀ w,(sizeOf T).run Tryz.prog w=.ok n w) (he:cs.take k++ds++cs.drop (k+n)=cs') (hn:ds.length=n) (hk:k+n≤cs.length) (h1:∀ v∈ds,v.oneCell'=true)
 (h:∀ w2,Bag (b :: (B,t,cs') :: l) w0 w2→(∀ j,j≠B→w2.heap[j]? = w.heap[j]?)→wpList Tryz.prog ops Q rest a w2) (hop:o.op=Op.store T x y:=by rfl) (hal:w1=w:=by rfl) (hx:a.eval x=.pointer (some ⟨B,k,none⟩):=by rfl) (hy:a.eval y=.agg ds.toArray:=by rfl) (hdst:o.dst=none:=by rfl) (hw:Region.wanted o (yielded ops a.tmps)=true:=by rfl):wpList Tryz.prog ops Q (o :: rest) a w1:=by
 subst hal he
 have hb:=hX.swap.all _ _ _ List.mem_cons_self
 have e:=run_storeCells_at Tryz.prog B k t ds 0 cs.toArray w1 hb (by simp;omega) h1
 have e2:(cs.toArray.toList.take (k+0)++ds++cs.toArray.toList.drop (k+0+ds.length)).toArray=(cs.take k++ds++cs.drop (k+n)).toArray:=by rw [Nat.add_zero,hn]
 rw [e2] at e
 exact qbc hw hdst T x y _ _ hop hx hy hagg (by rw [hn];exact hsz) e (h _ (hX.swap.over _).swap (fun j hj=>setRow_other w1 B j _ hj))
theorem stn {zs:List Value} (hX:Bag l w0 w) (hagg:∀ w,(isAgg T).run Tryz.prog w=.ok true w) (hsz:∀ w,(sizeOf T).run Tryz.prog w=.ok n w) (h1:∀ v∈ds,v.oneCell'=true)
 (h:∀ w2,Bag ((w.heap.size,t,ds) :: l) w0 w2→Below w.heap.size w w2→wpList Tryz.prog ops Q rest a w2) (hop:o.op=Op.store T x y:=by rfl) (hal:w1=w.alloc (.cells zs.toArray t):=by rfl) (hx:a.eval x=.pointer (some ⟨w.heap.size,0,none⟩):=by rfl) (hy:a.eval y=.agg ds.toArray:=by rfl) (hdst:o.dst=none:=by rfl) (hw:Region.wanted o (yielded ops a.tmps)=true:=by rfl) (hn:ds.length=n:=by rfl) (hm:zs.length=n:=by rfl):wpList Tryz.prog ops Q (o :: rest) a w1:=by
 subst hal
 exact qbc hw hdst T x y _ _ hop hx hy hagg (by rw [hn];exact hsz) (qcp w zs ds (by rw [hn,hm]) h1) (h _ (hX.new _ _) ((Below.refl _ _).alloc (Nat.le_refl _) _))
end
theorem Bag.same {l:List (Nat×TypeId×List Value)} {w0 w w':World} (h:Bag l w0 w) (hk:∀ b∈l,w'.heap[b.1]? = w.heap[b.1]?) (hb:Below w0.heap.size w0 w'):Bag l w0 w':=⟨fun B t cs hm=>(hk _ hm).trans (h.all B t cs hm),hb,h.lo,h.dis⟩
theorem own_keep {w w':World} {base n s:Nat} {t:TypeId} {v:Value} {xs:List Value} (h:w.ownsRow base t s v n xs) (hk:∀ k,base≤k→k<w.heap.size→w'.heap[k]? = w.heap[k]?):w'.ownsRow base t s v n xs:=by
 refine ⟨h.1,?_⟩
 rcases h.2 with h0|⟨g,cap,cur,hv,hg,hh,r⟩
 ·exact .inl h0
 ·exact .inr ⟨g,cap,cur,hv,hg,(hk g hg (Array.getElem?_eq_some_iff.1 hh).1).trans hh,r⟩
theorem qhn {w:World} {base n s:Nat} {t:TypeId} {v:Value} {xs:List Value} (h:w.ownsRow base t s v n xs):∀ a m c,v=.slice (some a) m c→base≤a.block∧a.block<w.heap.size:=by
 intro a m c hv
 rcases h.2 with ⟨h0,_⟩|⟨g,cap,cur,h0,hg,hh,r⟩
 ·rw [hv] at h0;cases h0
 ·rw [hv] at h0;cases h0
  exact ⟨hg,(Array.getElem?_eq_some_iff.1 hh).1⟩
theorem qff (w:World) (t1 t2:TypeId) (cs ds:List Value):Bag [(w.heap.size+1,t2,ds),(w.heap.size,t1,cs)] w ((w.alloc (.cells cs.toArray t1)).alloc (.cells ds.toArray t2)):=by
 have h:=((Bag.nil w).new t1 cs).new t2 ds
 rw [show (w.alloc (.cells cs.toArray t1)).heap.size=w.heap.size+1 from Array.size_push ..] at h
 exact h
theorem qb9 {w w':World} {B:Nat} (hk:∀ k,k≠B→w'.heap[k]? = w.heap[k]?) (hB:B<w'.heap.size):w.heap.size≤w'.heap.size:=by
 rcases Nat.lt_or_ge w'.heap.size w.heap.size with h|h
 ·have:=qgh h (hk _ (by omega));omega
 ·exact h
theorem qop {w w':World} {base n s:Nat} {t:TypeId} {v:Value} {xs:List Value} (h:w.ownsRow base t s v n xs) (hk:∀ (g:Nat) (cur:Array Value),w.heap[g]? = some (Obj.cells cur t (0,0))→w'.heap[g]? = w.heap[g]?):w'.ownsRow base t s v n xs:=by
 refine ⟨h.1,?_⟩
 rcases h.2 with h0|⟨g,cap,cur,hv,hg,hh,r⟩
 ·exact .inl h0
 ·exact .inr ⟨g,cap,cur,hv,hg,(hk g cur hh).trans hh,r⟩
theorem qok {w w':World} {base n s:Nat} {e t:TypeId} {u:Value} {ys:List Value} (ho:w.ownsRow base e s u n ys) (ht:t≠e) (hg:w.grownBy w' u.ownBlock) {g:Nat} {cur:Array Value} (h:w.heap[g]? = some (.cells cur t (0,0))):w'.heap[g]? = w.heap[g]?:=by
 refine hg.block g (Array.getElem?_eq_some_iff.1 h).1 (fun e1=>?_)
 rcases ho.2 with ⟨h0,_⟩|⟨g2,cap,cur2,hv,_,hh,r⟩
 ·rw [h0] at e1;cases e1
 ·rw [hv] at e1
  cases e1
  rw [h] at hh
  cases hh
  exact ht rfl
theorem qeb {w w':World} {base b2 n m s s2:Nat} {e t:TypeId} {v u:Value} {xs ys:List Value} (h:w.ownsRow base t s v n xs) (ho:w.ownsRow b2 e s2 u m ys) (ht:t≠e) (hg:w.grownBy w' u.ownBlock):w'.ownsRow base t s v n xs :=
 qop h (fun g cur hh=>qok ho ht hg hh)
theorem qce {l:List (Nat×TypeId×List Value)} {w0 w w':World} {base m s:Nat} {e:TypeId} {u:Value} {ys:List Value} (hX:Bag l w0 w) (ho:w.ownsRow base e s u m ys) (ht:∀ q∈l,q.2.1≠e) (hg:w.grownBy w' u.ownBlock) (hN:base≤w.heap.size) (hw:w0.heap.size≤base):Bag l w0 w' :=
 hX.same (fun q hq=>qok ho (ht q hq) hg (hX.all q.1 q.2.1 q.2.2 hq)) (hX.below.trans (((Below.refl base w).grown hg hN (fun j hj=>(World.ownsRow.lt ho j hj).1)).mono hw))
theorem qac {l:List (Nat×TypeId×List Value)} {w0 w w':World} {B base n s:Nat} {e t:TypeId} {v:Value} {xs cs:List Value} (hX:Bag ((B,t,cs) :: l) w0 w) (h:w.ownsRow base e s v n xs) (ht:t≠e) (hk:∀ k,k≠B→w'.heap[k]? = w.heap[k]?):w'.ownsRow base e s v n xs :=
 qop h (fun g cur hh=>hk g (fun e1=>by
  have h1:=hX.all _ _ _ (.head _)
  unfold Blk at h1
  rw [← e1,hh] at h1
  cases h1
  exact ht rfl))
def mzL:List Value:=maL (List.replicate 10 (.int .i64 0)) (.slice none 0 0) (.slice none 0 0) Un.z.L [.bool false,.bool false,.int .i64 0,.int .i64 0] (.slice none 0 0) (dkL (.slice none 0 0) (.slice none 0 0) Dk.z) (tpL (.slice none 0 0) Tp.z) [.int .i64 0,.bool false,.bool false,.int .i64 0,.bool false]
theorem qcr:mzL.length=110:=rfl
theorem qp6 (w:World):(Instr.alloc 44 true (.tuple #[])).run Tryz.prog w=.ok (.pointer (some ⟨w.heap.size,0,none⟩)) (w.alloc (.cells mzL.toArray 44)):=by kernel_rfl
section
variable {ops:Array Oper} {rest:List Oper} {o:Oper} {a:Act} {w:World} {Q:Exit→Act→World→Prop}
theorem qbs {P:Program} {l:List Oper} {T ty:TypeId} {dst:Option Tmp} {pos:String} {after:Array Edge} {g:Option (Nat×Bool)} (h:wpList P ops Q ({dst:=dst,op:=.alloc T,type:=ty,pos:=pos,after:=after,guard:=g} :: l) a w):wpList P ops Q ({dst:=dst,op:=.alloc T,type:=ty,pos:=pos,after:=after,guard:=g} :: l) a w:=h
theorem qba (hg:o.guard=none) (hop:o.op=Op.alloc 44) (h:wpList Tryz.prog ops Q rest (a.put o.dst (.pointer (some ⟨w.heap.size,0,none⟩))) (w.alloc (.cells mzL.toArray 44))):wpList Tryz.prog ops Q (o :: rest) a w :=
 wpList_plain hg fun _ hK=>by
  unfold Oper.wp execOp
  simp only [hop,qp6,Sem.run_bind,Sem.run_pure,Result.andThen_ok]
  exact hK _ _ h
end
theorem set_l {C U K D T E:List Value} {vm vb vl:Value} (h:MaLen C U K D T E) (x:Value):(maL C vm vb U K vl D T E).set 83 x=maL C vm vb U K x D T E:=by
 rw [maL_l,maL_l]
 have hp:(C++[vm,vb]++U++K).length=83:=by simp [h.c,h.u,h.k]
 rw [List.set_append_right _ _ (by omega),hp,Nat.sub_self]
 rfl
theorem qhw (w:World) (c1:List Value):Bag [(w.heap.size+1,44,mzL),(w.heap.size,44,c1)] w ((w.alloc (.cells c1.toArray 44)).alloc (.cells mzL.toArray 44)):=qff w 44 44 c1 mzL
theorem qs6 (x:Ln):∀ v∈lnL x,v.oneCell'=true:=fun v hv=>qr3 [x] v (by simpa using hv)
section
variable {A:Ma} {vm vb vl vs vd vt:Value} (h:A.ok)
include h
theorem Ma.clen:(A.cells vm vb vl vs vd vt).length=110:=maL_len (Ma.len h vs vd vt)
theorem Ma.cone (o1:vm.oneCell'=true) (o2:vb.oneCell'=true) (o3:vl.oneCell'=true) (o4:vs.oneCell'=true) (o5:vd.oneCell'=true) (o6:vt.oneCell'=true):∀ v∈A.cells vm vb vl vs vd vt,v.oneCell'=true:=by
 refine maL_one h.2.1 o1 o2 ?_ ?_ o3 ?_ ?_ ?_
 ·intro v hv
  unfold Un.L at hv
  simp only [List.mem_cons,List.mem_append,List.mem_flatMap,List.not_mem_nil,or_false] at hv
  rcases hv with rfl|⟨p,_,hp⟩|rfl|rfl
  ·rfl
  ·unfold Pg.L at hp
   simp only [List.mem_cons,List.not_mem_nil,or_false] at hp
   rcases hp with rfl|rfl|rfl|rfl<;>rfl
  ·rfl
  ·rfl
 ·intro v hv
  unfold Ck.L at hv
  simp only [List.mem_cons,List.not_mem_nil,or_false] at hv
  rcases hv with rfl|rfl|rfl|rfl<;>rfl
 ·intro v hv
  unfold dkL at hv
  simp only [List.mem_cons,List.not_mem_nil,or_false] at hv
  rcases hv with rfl|rfl|rfl|rfl|rfl|rfl|rfl|rfl|rfl|rfl<;>first|rfl|assumption
 ·intro v hv
  unfold tpL at hv
  simp only [List.mem_cons,List.not_mem_nil,or_false] at hv
  rcases hv with rfl|rfl|rfl|rfl|rfl|rfl|rfl|rfl|rfl|rfl|rfl<;>first|rfl|assumption
 ·intro v hv
  unfold Ma.eL at hv
  simp only [List.mem_cons,List.not_mem_nil,or_false] at hv
  rcases hv with rfl|rfl|rfl|rfl|rfl<;>rfl
theorem Ma.set_l (L':List Ln) (x:Value):(A.cells vm vb vl vs vd vt).set 83 x=({A with L:=L'}:Ma).cells vm vb x vs vd vt:=Go.Proofs.YthpnddgfgpacpaaGreat.set_l (Ma.len h vs vd vt) x
theorem Ma.set_m (M':List Int) (x:Value):(A.cells vm vb vl vs vd vt).set 10 x=({A with M:=M'}:Ma).cells x vb vl vs vd vt:=by
 have hL:=Ma.len h vs vd vt
 unfold Ma.cells
 rw [maL_m,maL_m,List.set_append_right _ _ (by rw [hL.c];exact Nat.le_refl _),hL.c]
 rfl
theorem Ma.set_b (B':List Int) (x:Value):(A.cells vm vb vl vs vd vt).set 11 x=({A with B:=B'}:Ma).cells vm x vl vs vd vt:=by
 have hL:=Ma.len h vs vd vt
 unfold Ma.cells
 rw [maL_b,maL_b,List.set_append_right _ _ (by simp [hL.c]),show (A.C++[vm]).length=11 by simp [hL.c]]
 rfl
theorem Ma.put_u {U':Un}:(A.cells vm vb vl vs vd vt).take 12++U'.L++(A.cells vm vb vl vs vd vt).drop (12+67)=({A with U:=U'}:Ma).cells vm vb vl vs vd vt:=Go.Proofs.YthpnddgfgpacpaaGreat.put_u (Ma.len h vs vd vt) U'.L
theorem Ma.put_k {k':Ck}:(A.cells vm vb vl vs vd vt).take 79++k'.L++(A.cells vm vb vl vs vd vt).drop (79+4)=({A with k:=k'}:Ma).cells vm vb vl vs vd vt:=Go.Proofs.YthpnddgfgpacpaaGreat.put_k (Ma.len h vs vd vt) k'.L
theorem Ma.put_d {K':Dk} {vs' vd':Value}:(A.cells vm vb vl vs vd vt).take 84++dkL vs' vd' K'++(A.cells vm vb vl vs vd vt).drop (84+10)=({A with K:=K'}:Ma).cells vm vb vl vs' vd' vt:=Go.Proofs.YthpnddgfgpacpaaGreat.put_d (Ma.len h vs vd vt) _
theorem Ma.put_t {T':Tp} {vt':Value}:(A.cells vm vb vl vs vd vt).take 94++tpL vt' T'++(A.cells vm vb vl vs vd vt).drop (94+11)=({A with T:=T'}:Ma).cells vm vb vl vs vd vt':=Go.Proofs.YthpnddgfgpacpaaGreat.put_t (Ma.len h vs vd vt) _
end
theorem qgx (w:World):(sizeOf 35).run Tryz.prog w=.ok 1 w:=by kernel_rfl
end Go.Proofs.YthpnddgfgpacpaaGreat
