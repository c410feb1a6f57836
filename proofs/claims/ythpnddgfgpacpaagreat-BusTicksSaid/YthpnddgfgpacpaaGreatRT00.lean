import Derived.Laws.Entries
import Derived.Test.YthpnddgfgpacpaaGreatProg
import Derived.ProofKit
import Derived.LaidMore
import Derived.OpenShut
import Derived.Carry
import Derived.ChangeSame
import Derived.ChangeSlices
import Derived.Laws.BitsAllLaws
import Derived.RowKit
import Derived.IntWalk
import Derived.WalkKit
import Derived.Deep.OwnRows
import Derived.Maps.OwnRows
import Derived.Maps.AppendAt
import Derived.Laws.IdiomStrings
import Derived.Lib.IndexBytes
import Derived.KernelRfl
import Derived.Laws.OwnMore
import Derived.Laws.CopyOwn
import Derived.Deep.Quiet
import Derived.Tactics
import Derived.Deep.WholeRow
import Derived.BigFrame
import Derived.Deep.Slices
namespace Go.Proofs.YthpnddgfgpacpaaGreat
set_option linter.unusedSimpArgs false
set_option linter.unusedVariables false
structure Pg where
 b:Int
 l:Int
 a:Int
 r:Bool
def Pg.L (p:Pg):List Value:=[.int .i64 p.b,.int .i64 p.l,.int .i64 p.a,.bool p.r]
def Pg.z:Pg:=⟨0,0,0,false⟩
structure Un where
 on:Bool
 pg:List Pg
 st:Int
 ad:Int
def Un.L (u:Un):List Value:=.bool u.on :: (u.pg.flatMap Pg.L++[.int .i64 u.st,.int .i64 u.ad])
def Un.z:Un:=⟨false,List.replicate 16 Pg.z,0,0⟩
def Un.ok (u:Un):Prop:=u.pg.length=16
theorem qcn:∀ l:List Pg,(l.flatMap Pg.L).length=4*l.length
 | []=>rfl
 | p :: r=>by rw [List.flatMap_cons,List.length_append,qcn r,List.length_cons];show 4+_=_;omega
theorem qjc:∀ (l:List Pg) (k j:Nat) (p:Pg),l[k]? = some p→j<4→(l.flatMap Pg.L)[4*k+j]? = p.L[j]?
 | [],k,j,p,h,_=>by simp at h
 | q :: r,0,j,p,h,hj=>by
   obtain rfl:q=p:=by simpa using h
   rw [List.flatMap_cons,Nat.mul_zero,Nat.zero_add,List.getElem?_append_left (show j<q.L.length from hj)]
 | q :: r,k+1,j,p,h,hj=>by
   rw [List.flatMap_cons,List.getElem?_append_right (by show 4≤_;omega),show 4*(k+1)+j - q.L.length=4*k+j by show 4*(k+1)+j - 4=_;omega]
   exact qjc r k j p (by simpa using h) hj
theorem qn2:∀ (l:List Pg) (k j:Nat) (p p':Pg) (v:Value),l[k]? = some p→j<4→p.L.set j v=p'.L→(l.flatMap Pg.L).set (4*k+j) v=(l.set k p').flatMap Pg.L
 | [],k,j,p,p',v,h,_,_=>by simp at h
 | q :: r,0,j,p,p',v,h,hj,he=>by
   obtain rfl:q=p:=by simpa using h
   rw [List.flatMap_cons,Nat.mul_zero,Nat.zero_add,List.set_append_left _ _ (show j<q.L.length from hj),he,List.set_cons_zero,List.flatMap_cons]
 | q :: r,k+1,j,p,p',v,h,hj,he=>by
   rw [List.flatMap_cons,List.set_append_right _ _ (by show 4≤_;omega),show 4*(k+1)+j - q.L.length=4*k+j by show 4*(k+1)+j - 4=_;omega]
   rw [qn2 r k j p p' v (by simpa using h) hj he,List.set_cons_succ,List.flatMap_cons]
theorem Un.len {u:Un} (h:u.ok):u.L.length=67:=by
 unfold Un.ok at h
 simp only [Un.L,List.length_cons,List.length_append,qcn,h,List.length_nil]
theorem Un.at0 (u:Un):u.L[0]? = some (.bool u.on):=rfl
theorem Un.page {u:Un} {k:Nat} {p:Pg} (hp:u.pg[k]? = some p) (j:Nat) (hj:j<4):u.L[1+(4*k+j)]? = p.L[j]?:=by
 have hk:=(List.getElem?_eq_some_iff.1 hp).1
 have e:=qjc u.pg k j p hp hj
 rw [Nat.add_comm,Un.L,List.getElem?_cons_succ,List.getElem?_append_left (by rw [qcn];omega),e]
theorem Un.at65 {u:Un} (h:u.ok):u.L[65]? = some (.int .i64 u.st):=by
 unfold Un.ok at h
 show (u.pg.flatMap Pg.L++_)[64]? = _
 rw [List.getElem?_append_right (by rw [qcn];omega),qcn,h];rfl
theorem Un.at66 {u:Un} (h:u.ok):u.L[66]? = some (.int .i64 u.ad):=by
 unfold Un.ok at h
 show (u.pg.flatMap Pg.L++_)[65]? = _
 rw [List.getElem?_append_right (by rw [qcn];omega),qcn,h];rfl
theorem Un.set0 (u:Un) (b:Bool):u.L.set 0 (.bool b)=({u with on:=b}:Un).L:=rfl
theorem Un.set65 {u:Un} (h:u.ok) (x:Int):u.L.set 65 (.int .i64 x)=({u with st:=x}:Un).L:=by
 unfold Un.ok at h
 unfold Un.L
 rw [List.set_cons_succ,List.set_append_right _ _ (by rw [qcn];omega),qcn,h];rfl
theorem Un.setp {u:Un} {k:Nat} {p p':Pg} (hp:u.pg[k]? = some p) (j:Nat) (hj:j<4) (v:Value) (he:p.L.set j v=p'.L):u.L.set (1+(4*k+j)) v=({u with pg:=u.pg.set k p'}:Un).L:=by
 have hk:=(List.getElem?_eq_some_iff.1 hp).1
 unfold Un.L
 rw [Nat.add_comm,List.set_cons_succ,List.set_append_left _ _ (by rw [qcn];omega),qn2 u.pg k j p p' v hp hj he]
theorem Un.one (u:Un):∀ v∈u.L,v.oneCell'=true:=by
 intro v hv
 unfold Un.L at hv
 rcases List.mem_cons.1 hv with rfl|h
 ·rfl
 ·rcases List.mem_append.1 h with h|h
  ·obtain ⟨p,_,h⟩:=List.mem_flatMap.1 h
   simp [Pg.L] at h
   rcases h with rfl|rfl|rfl|rfl<;>rfl
  ·simp at h
   rcases h with rfl|rfl<;>rfl
open Go.ChangeShapes Go.WideShapes Go.ChangeAt Go.RowKit
set_option maxRecDepth 100000
set_option maxHeartbeats 4000000
def Pg.wf (p:Pg):Prop:=(Lit.int .i64 p.b).wf=true∧(Lit.int .i64 p.l).wf=true∧(Lit.int .i64 p.a).wf=true
theorem qis (Q:Pg→Prop):∀ (n:Nat) (cs:List Value),cs.length=4*n→(∀ k,k<n→∃ p:Pg,(cs.drop (k*4)).take 4=p.L∧Q p)→∃ l:List Pg,l.length=n∧cs=l.flatMap Pg.L∧∀ p∈l,Q p
 | 0,cs,hl,_=>⟨[],rfl,by simpa using hl,fun p h=>by cases h⟩
 | n+1,cs,hl,h=>by
   obtain ⟨p,hp,hq⟩:=h 0 (by omega)
   obtain ⟨l,h1,h2,h3⟩:=qis Q n (cs.drop 4) (by rw [List.length_drop];omega) (fun k hk=>by
    obtain ⟨q,a,b⟩:=h (k+1) (by omega)
    refine ⟨q,?_,b⟩
    rw [List.drop_drop,show 4+k*4=(k+1)*4 by omega]
    exact a)
   refine ⟨p :: l,by simp [h1],?_,fun q hq'=>?_⟩
   ·rw [List.flatMap_cons,← h2,← hp]
    simp
   ·rcases List.mem_cons.1 hq' with rfl|e
    ·exact hq
    ·exact h3 q e
section
variable {H:Type} {enc:TypeId×Value→H} {w:World} {base:Nat} {sp:Nat→Bool} {held:Bool} {fuel:Nat} {cs:List Value} {x:DataW H×List MemPlace}
theorem qrt (h:DataW.trod enc Tryz.prog w base sp held fuel 28 cs=some x):∃ p:Pg,cs=p.L∧p.wf:=by
 have cI:Tryz.prog.cellsOf 3=1:=by kernel_rfl
 have cB:Tryz.prog.cellsOf 4=1:=by kernel_rfl
 have cP:Tryz.prog.cellsOf 28=4:=by kernel_rfl
 obtain ⟨xs,m',_,hx,hc,hl,hf⟩:=DataW.trod_struct Tryz.underlying28 h
 match cs,hc.trans cP with
 | [c0,c1,c2,c3],_ =>
   match xs,hl with
   | [x0,x1,x2,x3],_ =>
     have f0:=hf 0 _ rfl
     have f1:=hf 1 _ rfl
     have f2:=hf 2 _ rfl
     have f3:=hf 3 _ rfl
     simp [cI,cB] at f0 f1 f2 f3
     obtain ⟨b,e0,_,w0⟩:=DataW.trod_int Tryz.underlying3 f0
     obtain ⟨l,e1,_,w1⟩:=DataW.trod_int Tryz.underlying3 f1
     obtain ⟨a,e2,_,w2⟩:=DataW.trod_int Tryz.underlying3 f2
     obtain ⟨r,e3,_⟩:=DataW.trod_bool Tryz.underlying4 f3
     simp at e0 e1 e2 e3
     subst e0 e1 e2 e3
     exact ⟨⟨b,l,a,r⟩,rfl,w0,w1,w2⟩
theorem qk2 (h:DataW.trod enc Tryz.prog w base sp held fuel 29 cs=some x):∃ l:List Pg,l.length=8∧cs=l.flatMap Pg.L∧∀ p∈l,p.wf:=by
 have cP:Tryz.prog.cellsOf 28=4:=by kernel_rfl
 have cM:Tryz.prog.cellsOf 29=32:=by kernel_rfl
 obtain ⟨xs,m,_,_,hc,hl,hel⟩:=DataW.trod_array Tryz.underlying29 h
 rw [cM] at hc
 refine qis Pg.wf 8 cs hc (fun k hk=>?_)
 have e:=hel k hk
 rw [cP,List.getElem?_eq_getElem (by omega)] at e
 exact qrt e
theorem qo7 (h:DataW.trod enc Tryz.prog w base sp held fuel 30 cs=some x):∃ l:List Pg,l.length=16∧cs=l.flatMap Pg.L∧∀ p∈l,p.wf:=by
 have cM:Tryz.prog.cellsOf 29=32:=by kernel_rfl
 have cA:Tryz.prog.cellsOf 30=64:=by kernel_rfl
 obtain ⟨xs,m,_,_,hc,hl,hel⟩:=DataW.trod_array Tryz.underlying30 h
 rw [cA] at hc
 have e0:=hel 0 (by decide)
 have e1:=hel 1 (by decide)
 rw [cM,List.getElem?_eq_getElem (by omega)] at e0 e1
 obtain ⟨l0,a0,b0,c0⟩:=qk2 e0
 obtain ⟨l1,a1,b1,c1⟩:=qk2 e1
 refine ⟨l0++l1,by rw [List.length_append,a0,a1],?_,fun p hp=>?_⟩
 ·rw [List.flatMap_append,← b0,← b1]
  simp only [Nat.zero_mul,List.drop_zero,Nat.one_mul]
  rw [List.take_of_length_le (l:=cs.drop 32) (by rw [List.length_drop];omega),List.take_append_drop]
 ·rcases List.mem_append.1 hp with k|k
  ·exact c0 p k
  ·exact c1 p k
def Un.wf (u:Un):Prop:=u.ok∧(∀ p∈u.pg,p.wf)∧(Lit.int .i64 u.st).wf=true∧(Lit.int .i64 u.ad).wf=true
theorem qtg (h:DataW.trod enc Tryz.prog w base sp held fuel 32 cs=some x):∃ u:Un,cs=u.L∧u.wf:=by
 have cI:Tryz.prog.cellsOf 3=1:=by kernel_rfl
 have cB:Tryz.prog.cellsOf 4=1:=by kernel_rfl
 have cA:Tryz.prog.cellsOf 30=64:=by kernel_rfl
 have cU:Tryz.prog.cellsOf 32=67:=by kernel_rfl
 obtain ⟨xs,m',_,hx,hc,hl,hf⟩:=DataW.trod_struct Tryz.underlying32 h
 rw [cU] at hc
 match xs,hl with
 | [x0,x1,x2,x3],_ =>
   have f0:DataW.trod enc Tryz.prog w base sp held m' 4 ((cs.drop 0).take (Tryz.prog.cellsOf 4))=some x0:=hf 0 _ rfl
   have f1:DataW.trod enc Tryz.prog w base sp held m' 30 ((cs.drop 1).take (Tryz.prog.cellsOf 30))=some x1:=hf 1 _ rfl
   have f2:DataW.trod enc Tryz.prog w base sp held m' 3 ((cs.drop 65).take (Tryz.prog.cellsOf 3))=some x2:=hf 2 _ rfl
   have f3:DataW.trod enc Tryz.prog w base sp held m' 3 ((cs.drop 66).take (Tryz.prog.cellsOf 3))=some x3:=hf 3 _ rfl
   rw [cB] at f0
   rw [cA] at f1
   rw [cI] at f2 f3
   obtain ⟨on,e0,_⟩:=DataW.trod_bool Tryz.underlying4 f0
   obtain ⟨l,a1,b1,c1⟩:=qo7 f1
   obtain ⟨st,e2,_,w2⟩:=DataW.trod_int Tryz.underlying3 f2
   obtain ⟨ad,e3,_,w3⟩:=DataW.trod_int Tryz.underlying3 f3
   refine ⟨⟨on,l,st,ad⟩,?_,a1,c1,w2,w3⟩
   unfold Un.L
   simp only
   rw [← b1]
   have s3:(cs.drop 66).take 1=cs.drop 66:=List.take_of_length_le (by rw [List.length_drop];omega)
   have s2:cs.drop 65=(cs.drop 65).take 1++cs.drop 66:=by
    have:=List.take_append_drop 1 (cs.drop 65)
    rw [List.drop_drop] at this
    exact this.symm
   have s1:cs.drop 1=(cs.drop 1).take 64++cs.drop 65:=by
    have:=List.take_append_drop 64 (cs.drop 1)
    rw [List.drop_drop] at this
    exact this.symm
   have s0:cs=(cs.drop 0).take 1++cs.drop 1:=by
    rw [List.drop_zero];exact (List.take_append_drop 1 cs).symm
   rw [e0] at s0
   rw [e2,← s3,e3] at s2
   rw [s2] at s1
   generalize (cs.drop 1).take 64=mid at *
   rw [s1] at s0
   exact s0
end
open Go.RowKit
theorem qaf (n:Int):IntKind.i64.wrap n=wrap64 n:=IntWalk.i64_left n
def N64 (n:Int):Nat:=(BitVec.ofInt 64 n).toNat
theorem qg5 (n:Int):(N64 n:Int)=n%18446744073709551616:=by
 unfold N64
 rw [BitVec.toNat_ofInt]
 have:(0:Int)≤n%((2 ^ 64:Nat):Int):=Int.emod_nonneg _ (by decide)
 rw [Int.toNat_of_nonneg this]
 rfl
theorem qns (c:Nat) (hc:c<18446744073709551616):N64 (c:Int)=c:=by have:=qg5 (c:Int);omega
theorem and_def (a b:Int):bits .and .i64 a b=IntKind.i64.wrap ((N64 a &&& N64 b:Nat):Int):=by
 unfold N64;rw [← BitVec.toNat_and];rfl
theorem qtc (a b:Int):bits .or .i64 a b=IntKind.i64.wrap ((N64 a ||| N64 b:Nat):Int):=by
 unfold N64;rw [← BitVec.toNat_or];rfl
theorem qjk (a b:Int):bits .andNot .i64 a b=IntKind.i64.wrap ((N64 a &&& (18446744073709551615 - N64 b):Nat):Int):=by
 have e:18446744073709551615 - N64 b=(~~~ BitVec.ofInt 64 b).toNat:=by rw [BitVec.toNat_not];rfl
 rw [e];unfold N64;rw [← BitVec.toNat_and];rfl
theorem qqx {m:Nat} (hm:m<9223372036854775808):IntKind.i64.wrap (m:Int)=(m:Int):=by
 rw [qaf];exact IntWalk.wrap64_in _ ⟨by omega,by omega⟩
theorem and_nat (n:Int) (c:Nat) (hc:c<9223372036854775808):bits .and .i64 n (c:Int)=((N64 n &&& c:Nat):Int):=by
 rw [and_def,qns c (by omega)]
 exact qqx (Nat.lt_of_le_of_lt Nat.and_le_right hc)
theorem qe7 (x i j:Nat):x &&& ((2 ^ j - 1)*2 ^ i)=x / 2 ^ i%2 ^ j*2 ^ i:=by
 apply Nat.eq_of_testBit_eq
 intro k
 rw [Nat.testBit_and,Nat.testBit_mul_two_pow,Nat.testBit_mul_two_pow,Nat.testBit_two_pow_sub_one,Nat.testBit_mod_two_pow,Nat.testBit_div_two_pow]
 by_cases h:i≤k
 ·rw [show k - i+i=k by omega];simp [h,Bool.and_comm]
 ·simp [h]
theorem m1 (x:Nat):x &&& 1=x%2:=Nat.and_two_pow_sub_one_eq_mod x 1
theorem m3 (x:Nat):x &&& 3=x%4:=Nat.and_two_pow_sub_one_eq_mod x 2
theorem m255 (x:Nat):x &&& 255=x%256:=Nat.and_two_pow_sub_one_eq_mod x 8
theorem m65535 (x:Nat):x &&& 65535=x%65536:=Nat.and_two_pow_sub_one_eq_mod x 16
theorem qd1 {n:Int} {c:Nat} {r:Nat} {R:Int} (hc:c<9223372036854775808) (h:N64 n &&& c=r) (hR:(N64 n:Int)=n%18446744073709551616→(r:Int)=R):bits .and .i64 n (c:Int)=R:=by
 rw [and_nat n c hc,h];exact hR (qg5 n)
theorem a1 (n:Int):bits .and .i64 n 1=n%2:=qd1 (c:=1) (by decide) (m1 _) (by intro h;omega)
theorem a3 (n:Int):bits .and .i64 n 3=n%4:=qd1 (c:=3) (by decide) (m3 _) (by intro h;omega)
theorem a255 (n:Int):bits .and .i64 n 255=n%256:=qd1 (c:=255) (by decide) (m255 _) (by intro h;omega)
theorem a65535 (n:Int):bits .and .i64 n 65535=n%65536:=qd1 (c:=65535) (by decide) (m65535 _) (by intro h;omega)
def Nums (q:IntKind) (w:World) (v:Value) (l:List Int):Prop :=
 ∃ A c,v=.slice A l.length c∧l.length≤c∧∀ j x,l[j]? = some x→∃ a:Addr,A=some a∧w.cell? (a.add j)=some (.int q x)∧(a.add j).block<w.heap.size
theorem Nums.below {q:IntKind} {w w':World} {v:Value} {l:List Int} (h:Nums q w v l) (hb:Below w.heap.size w w'):Nums q w' v l:=by
 obtain ⟨A,c,hv,hk,hc⟩:=h
 refine ⟨A,c,hv,hk,fun j x hx=>?_⟩
 obtain ⟨a,ha,h1,h2⟩:=hc j x hx
 exact ⟨a,ha,(hb.cell h2).trans h1,Nat.lt_of_lt_of_le h2 hb.size⟩
theorem qag {base n s:Nat} {t:TypeId} {v:Value} {xs:List Value} {w w':World} (h:w.ownsRow base t s v n xs) (hb:Below w.heap.size w w'):w'.ownsRow base t s v n xs:=by
 refine ⟨h.1,?_⟩
 rcases h.2 with h0|⟨g,cap,cur,hv,hg,hh,r⟩
 ·exact .inl h0
 ·have hlt:g<w.heap.size:=by
   rcases Nat.lt_or_ge g w.heap.size with k|k
   ·exact k
   ·rw [Array.getElem?_eq_none k] at hh;cases hh
  exact .inr ⟨g,cap,cur,hv,hg,(hb.block g hlt).trans hh,r⟩
def Blk (t:TypeId) (w:World) (B:Nat) (cs:List Value):Prop:=w.heap[B]? = some (.cells cs.toArray t (0,0))
theorem Blk.new (t:TypeId) (w:World) (cs:List Value):Blk t (w.alloc (.cells cs.toArray t)) w.heap.size cs:=heap_alloc_new w _
theorem Blk.lt {t:TypeId} {w:World} {B:Nat} {cs:List Value} (h:Blk t w B cs):B<w.heap.size:=by
 rcases Nat.lt_or_ge B w.heap.size with k|k
 ·exact k
 ·unfold Blk at h;rw [Array.getElem?_eq_none k] at h;cases h
theorem Blk.step {t:TypeId} {w w':World} {B:Nat} {cs:List Value} (h:Blk t w B cs) (hb:Below w.heap.size w w'):Blk t w' B cs:=(hb.block B h.lt).trans h
theorem Blk.alloc {t:TypeId} {w:World} {B:Nat} {cs:List Value} (h:Blk t w B cs) (o:Obj):Blk t (w.alloc o) B cs:=h.step ((Below.refl _ _).alloc (Nat.le_refl _) o)
theorem Blk.drew {t:TypeId} {w:World} {B:Nat} {cs:List Value} (h:Blk t w B cs):Blk t w.drew B cs:=h
theorem Blk.cell {t:TypeId} {w:World} {B k:Nat} {cs:List Value} {v:Value} (h:Blk t w B cs) (hk:cs[k]? = some v):w.cell? ⟨B,k,none⟩=some v:=by
 rw [cell_of_row w B k _ t (0,0) h];simpa using hk
theorem Blk.frozen {t:TypeId} {w:World} {B:Nat} {cs:List Value} (h:Blk t w B cs) (k:Nat):w.frozen? ⟨B,k,none⟩=false:=frozen_of_row w B k _ t h
theorem Blk.set {t:TypeId} {w:World} {B:Nat} {cs:List Value} (h:Blk t w B cs) (k:Nat) (v:Value):Blk t (w.setCell ⟨B,k,none⟩ v) B (cs.set k v):=by
 unfold Blk;rw [heap_setCell_same w B k _ t v h];simp
theorem Blk.other {t:TypeId} {w:World} {B:Nat} {cs:List Value} (h:Blk t w B cs) {a:Addr} (ha:B≠a.block) (v:Value):Blk t (w.setCell a v) B cs:=by
 unfold Blk;rw [heap_setCell_other w a B v ha];exact h
theorem Blk.load {P:Program} {t:TypeId} {w:World} {B n:Nat} {cs:List Value} (h:Blk t w B cs) (hn:cs.length=n):(loadCells ⟨B,0,none⟩ n).run P w=.ok cs.toArray w:=by
 subst hn
 refine run_loadCells_list w ⟨B,0,none⟩ cs (fun j v hv=>?_)
 have e:(⟨B,0,none⟩:Addr).add j=⟨B,j,none⟩:=by unfold Addr.add;split<;>simp_all
 rw [e];exact h.cell hv
theorem Blk.store {P:Program} {t:TypeId} {w:World} {B:Nat} {cs cs':List Value} (h:Blk t w B cs) (hl:cs'.length=cs.length) (h1:∀ v∈cs',v.oneCell'=true) :
 ∃ W,(storeCells ⟨B,0,none⟩ cs').run P w=.ok () W∧Blk t W B cs'∧(∀ N w0,N≤B→Below N w0 w→Below N w0 W)∧W.heap.size=w.heap.size∧∀ t' k l,k≠B→Blk t' w k l→Blk t' W k l:=by
 refine ⟨w.setRow B cs'.toArray,?_,setRow_heap w B _ _ t _ h,fun N w0 hN hb=>below_setRow hb hN _,by simp [World.setRow],fun t' k l hk hb=>?_⟩
 ·have e:=run_storeCells_at P B 0 t cs' 0 cs.toArray w h (by simp [hl]) h1
  rw [e]
  have e2:(cs.toArray.toList.take (0+0)++cs'++cs.toArray.toList.drop (0+0+cs'.length)).toArray=cs'.toArray:=by
   rw [hl];simp
  rw [e2]
 ·unfold Blk;rw [setRow_other w B k _ hk];exact hb
theorem Blk.loadVar {P:Program} {t T:TypeId} {w:World} {B n:Nat} {cs:List Value} (h:Blk t w B cs) (hn:cs.length=n) (hagg:∀ w,(isAgg T).run P w=.ok true w) (hsz:∀ w,(sizeOf T).run P w=.ok n w):(Go.loadVar T ⟨B,0,none⟩).run P w=.ok (.agg cs.toArray) w:=by
 unfold Go.loadVar
 simp only [Sem.run_bind,Sem.run_pure,Result.andThen_ok,hagg,hsz,h.load hn,if_true]
theorem Blk.loadAt {P:Program} {t T:TypeId} {w:World} {B n:Nat} {cs:List Value} (h:Blk t w B cs) (hn:cs.length=n) (hagg:∀ w,(isAgg T).run P w=.ok true w) (hsz:∀ w,(sizeOf T).run P w=.ok n w):(Instr.loadAt T (.pointer (some ⟨B,0,none⟩))).run P w=.ok (.agg cs.toArray) w:=by
 have e:=h.loadVar (P:=P) hn hagg hsz
 unfold Go.loadVar at e
 simp only [Instr.loadAt,Instr.sureAddr,Go.loadVar,Sem.run_bind,Sem.run_pure,Result.andThen_ok,hagg,hsz,h.load hn,if_true]
theorem qa4 {P:Program} {w:World} {ops:Array Oper} {rest:List Oper} {o:Oper} {a:Act} {Q:Exit→Act→World→Prop} (hg:o.guard=none) (t:TypeId) (x:Operand) (pv v:Value) (hop:o.op=Op.load t x) (hx:a.eval x=pv)
 (hrun:(Instr.loadAt t pv).run P w=.ok v w) (h:wpList P ops Q rest (a.put o.dst v) w):wpList P ops Q (o :: rest) a w :=
 wpList_plain hg fun _ hK=>by
  unfold Oper.wp execOp
  simp only [hop,hx,hrun,Sem.run_bind,Sem.run_pure,Result.andThen_ok]
  exact hK _ _ h
theorem qar {P:Program} {w:World} {o:Oper} {a:Act} {C:World→Prop} (t:TypeId) (x:Operand) (pv v:Value) (hop:o.op=Op.load t x) (hx:a.eval x=pv) (hrun:(Instr.loadAt t pv).run P w=.ok v w):Oper.quietAt P o a C w v:=by
 unfold Oper.quietAt execOp
 simp only [hop,hx,hrun,Sem.run_bind,Sem.run_pure,Result.andThen_ok]
 exact ⟨rfl,rfl⟩
theorem qaj {P:Program} {fn:Func} {tmps:Array Value} {w:World} {i:Tmp} {T:TypeId} {a:Addr} {v:Value} (hr:fn.results=#[.cell i T]) (ha:tmps.getD i undef=.pointer (some a)) (hl:(Go.loadVar T a).run P w=.ok v w) :
 (results fn tmps).run P w=.ok v w:=by
 unfold results
 rw [hr]
 have ha':=ha
 rw [Array.getD_eq_getD_getElem?] at ha'
 simp [ha',asAddr,hl]
theorem qam {P:Program} {fn:Func} {tmps:Array Value} {w:World} {j k:Tmp} {T:TypeId} {a:Addr} {v:Value} (hr:fn.results=#[.cell j T,.tmp k]) (ha:tmps.getD j undef=.pointer (some a)) (hl:(Go.loadVar T a).run P w=.ok v w) :
 (results fn tmps).run P w=.ok (.tuple #[v,tmps.getD k undef]) w:=by
 unfold results
 rw [hr]
 have ha':=ha
 rw [Array.getD_eq_getD_getElem?] at ha'
 simp [ha',asAddr,hl]
theorem Blk.loadSub {P:Program} {t:TypeId} {w:World} {B k:Nat} {cs ds:List Value} (h:Blk t w B cs) (hd:∀ j v,ds[j]? = some v→cs[k+j]? = some v):(loadCells ⟨B,k,none⟩ ds.length).run P w=.ok ds.toArray w:=by
 refine run_loadCells_list w ⟨B,k,none⟩ ds (fun j v hv=>?_)
 have e:(⟨B,k,none⟩:Addr).add j=⟨B,k+j,none⟩:=by unfold Addr.add;split<;>simp_all
 rw [e];exact h.cell (hd j v hv)
theorem Blk.loadAtSub {P:Program} {t T:TypeId} {w:World} {B k n:Nat} {cs ds:List Value} (h:Blk t w B cs) (hd:∀ j v,ds[j]? = some v→cs[k+j]? = some v) (hn:ds.length=n) (hagg:∀ w,(isAgg T).run P w=.ok true w) (hsz:∀ w,(sizeOf T).run P w=.ok n w):(Instr.loadAt T (.pointer (some ⟨B,k,none⟩))).run P w=.ok (.agg ds.toArray) w:=by
 have e:=h.loadSub (P:=P) hd
 rw [hn] at e
 simp only [Instr.loadAt,Instr.sureAddr,Go.loadVar,Sem.run_bind,Sem.run_pure,Result.andThen_ok,hagg,hsz,e,if_true]
theorem qaq {P:Program} {w:World} {ops:Array Oper} {rest:List Oper} {o:Oper} {a:Act} {Q:Exit→Act→World→Prop} (hw:Region.wanted o (yielded ops a.tmps)=true) (t:TypeId) (x:Operand) (pv v:Value) (hop:o.op=Op.load t x) (hx:a.eval x=pv)
 (hrun:(Instr.loadAt t pv).run P w=.ok v w) (h:wpList P ops Q rest (a.put o.dst v) w):wpList P ops Q (o :: rest) a w :=
 BigFrame.wpList_want hw fun _ hK=>by
  unfold Oper.wp execOp
  simp only [hop,hx,hrun,Sem.run_bind,Sem.run_pure,Result.andThen_ok]
  exact hK _ _ h
theorem qdg {P:Program} {w:World} {ops:Array Oper} {rest:List Oper} {o:Oper} {a:Act} {Q:Exit→Act→World→Prop} (hw:Region.wanted o (yielded ops a.tmps)=true) (t:TypeId) (x ix:Operand) (xv iv v:Value) (hop:o.op=Op.index t x ix) (hx:a.eval x=xv) (hi:a.eval ix=iv)
 (hrun:(Instr.index t xv iv).run P w=.ok v w) (h:wpList P ops Q rest (a.put o.dst v) w):wpList P ops Q (o :: rest) a w :=
 BigFrame.wpList_want hw fun _ hK=>by
  unfold Oper.wp execOp
  simp only [hop,hx,hi,hrun,Sem.run_bind,Sem.run_pure,Result.andThen_ok]
  exact hK _ _ h
theorem qfr {P:Program} {t e:TypeId} {w:World} {n c:Nat} {cs ds:List Value} (i:Nat) (hu:P.underlying t=some (.array n e)) (hi:i<n) (hagg:∀ w,(isAgg e).run P w=.ok true w) (hsz:∀ w,(sizeOf e).run P w=.ok c w) (hd:(cs.drop (i*c)).take c=ds):(Instr.index t (.agg cs.toArray) (.int .i64 i)).run P w=.ok (.agg ds.toArray) w:=by
 have e0:(0:Int)≤(i:Int)∧(i:Int)<(n:Int):=⟨by omega,by omega⟩
 have ex:cs.toArray.extract (i*c) (i*c+c)=ds.toArray:=by
  apply Array.toList_inj.1
  rw [← hd]
  simp [List.extract_eq_take_drop]
 simp only [Instr.index,asIntOf,Sem.run_bind,Sem.run_pure,Result.andThen_ok,run_underlying hu,if_pos e0,part,hagg,hsz,Int.toNat_natCast,if_true,ex]
theorem qcp {P:Program} {t:TypeId} (w:World) (zs cs:List Value) (hl:cs.length=zs.length) (h1:∀ v∈cs,v.oneCell'=true):(storeCells ⟨w.heap.size,0,none⟩ cs).run P (w.alloc (.cells zs.toArray t))=.ok () (w.alloc (.cells cs.toArray t)):=by
 have e:=run_storeCells_at P w.heap.size 0 t cs 0 zs.toArray (w.alloc (.cells zs.toArray t)) (heap_alloc_new w _) (by simp [hl]) h1
 rw [e]
 have e2:(zs.toArray.toList.take (0+0)++cs++zs.toArray.toList.drop (0+0+cs.length)).toArray=cs.toArray:=by
  rw [hl];simp
 rw [e2,World.setRow_alloc_new]
theorem qbc {P:Program} {w w2:World} {ops:Array Oper} {rest:List Oper} {o:Oper} {a:Act} {Q:Exit→Act→World→Prop} (hw:Region.wanted o (yielded ops a.tmps)=true) (hdst:o.dst=none) (t:TypeId) (x y:Operand) (ad:Addr) (cs:List Value) (hop:o.op=Op.store t x y) (hx:a.eval x=.pointer (some ad)) (hy:a.eval y=.agg cs.toArray) (hagg:∀ w,(isAgg t).run P w=.ok true w) (hsz:∀ w,(sizeOf t).run P w=.ok cs.length w)
 (hrun:(storeCells ad cs).run P w=.ok () w2) (h:wpList P ops Q rest a w2):wpList P ops Q (o :: rest) a w :=
 BigFrame.wpList_want hw fun _ hK=>by
  unfold Oper.wp execOp
  simp only [hop,hx,hy,Instr.storeAt,Instr.sureAddr,storeVar,Value.cells,hrun,hagg,hsz,List.size_toArray,ne_eq,not_true_eq_false,if_false,Sem.run_bind,Sem.run_pure,Result.andThen_ok,if_true]
  exact hK _ _ (by rw [hdst];exact h)
theorem Blk.store_run {P:Program} {t:TypeId} {w:World} {B:Nat} {cs cs':List Value} (h:Blk t w B cs) (hl:cs'.length=cs.length) (h1:∀ v∈cs',v.oneCell'=true):(storeCells ⟨B,0,none⟩ cs').run P w=.ok () (w.setRow B cs'.toArray):=by
 have e:=run_storeCells_at P B 0 t cs' 0 cs.toArray w h (by simp [hl]) h1
 rw [e]
 have e2:(cs.toArray.toList.take (0+0)++cs'++cs.toArray.toList.drop (0+0+cs'.length)).toArray=cs'.toArray:=by
  rw [hl];simp
 rw [e2]
theorem qju (a:Addr) (i j:Nat):(a.add i).add j=a.add (i+j):=Go.Deep.add_add a i j
def Rw (w:World) (v:Value) (n:Nat) (cs:List Value):Prop :=
 ∃ A c,v=.slice A n c∧n≤c∧∀ j u,cs[j]? = some u→∃ a:Addr,A=some a∧w.cell? (a.add j)=some u∧(a.add j).block<w.heap.size
theorem Rw.below {w w':World} {v:Value} {n:Nat} {cs:List Value} (h:Rw w v n cs) (hb:Below w.heap.size w w'):Rw w' v n cs:=by
 obtain ⟨A,c,hv,hk,hc⟩:=h
 refine ⟨A,c,hv,hk,fun j x hx=>?_⟩
 obtain ⟨a,ha,h1,h2⟩:=hc j x hx
 exact ⟨a,ha,(hb.cell h2).trans h1,Nat.lt_of_lt_of_le h2 hb.size⟩
theorem Rw.nil (w:World):Rw w (.slice none 0 0) 0 []:=⟨none,0,rfl,Nat.le_refl _,fun j x hx=>by simp at hx⟩
theorem Rw.of_own {w:World} {base s n:Nat} {t:TypeId} {v:Value} {xs:List Value} (h:w.ownsRow base t s v n xs):Rw w v n xs:=by
 have hl:=h.1
 rcases h.2 with ⟨rfl,h0⟩|⟨g,cap,cur,rfl,hb,hh,hnc,_,hcs,_⟩
 ·have:xs=[]:=List.eq_nil_of_length_eq_zero (by rw [hl,h0,Nat.zero_mul])
  subst this
  subst h0
  exact Rw.nil w
 ·refine ⟨_,cap,rfl,hnc,fun j x hx=>⟨_,rfl,?_⟩⟩
  have hj:j<xs.length:=(List.getElem?_eq_some_iff.1 hx).1
  have e1:(⟨g,0,none⟩:Addr).add j=⟨g,j,none⟩:=by unfold Addr.add;split<;>simp_all
  have hc:=h.cellAt j (by omega)
  rw [e1,hc,hx]
  refine ⟨rfl,?_⟩
  show g<w.heap.size
  rcases Nat.lt_or_ge g w.heap.size with h'|h'
  ·exact h'
  ·rw [Array.getElem?_eq_none h'] at hh;cases hh
theorem Rw.loadAt {P:Program} {T:TypeId} {w:World} {a:Addr} {n c k s:Nat} {cs ds:List Value} (h:Rw w (.slice (some a) n c) n cs) (hd:∀ j v,ds[j]? = some v→cs[k*s+j]? = some v) (hn:ds.length=s) (hagg:∀ w,(isAgg T).run P w=.ok true w) (hsz:∀ w,(sizeOf T).run P w=.ok s w) :
 (Instr.loadAt T (.pointer (some (a.add (k*s))))).run P w=.ok (.agg ds.toArray) w:=by
 obtain ⟨A,c',hv,_,hc⟩:=h
 cases hv
 have e:(loadCells (a.add (k*s)) ds.length).run P w=.ok ds.toArray w:=by
  refine run_loadCells_list w _ ds (fun j v hv=>?_)
  obtain ⟨a',ha,h1,_⟩:=hc _ v (hd j v hv)
  cases ha
  rw [qju];exact h1
 rw [hn] at e
 simp only [Instr.loadAt,Instr.sureAddr,Go.loadVar,Sem.run_bind,Sem.run_pure,Result.andThen_ok,hagg,hsz,e,if_true]
theorem qaz {w:World} {b b' s n:Nat} {t:TypeId} {v:Value} {xs:List Value} (h:w.ownsRow b t s v n xs) (hb:b'≤b):w.ownsRow b' t s v n xs:=by
 refine ⟨h.1,?_⟩
 rcases h.2 with h0|⟨g,cap,cur,hv,hg,r⟩
 ·exact .inl h0
 ·exact .inr ⟨g,cap,cur,hv,Nat.le_trans hb hg,r⟩
theorem qox {w:World} {b s n:Nat} {t:TypeId} {v:Value} {xs:List Value} (h:w.ownsRow b t s v n xs) (hn:0<n):∃ g cap,v=.slice (some ⟨g,0,none⟩) n cap∧n≤cap∧cap≤maxLen∧b≤g∧g<w.heap.size∧∀ j u,xs[j]? = some u→w.cell? ((⟨g,0,none⟩:Addr).add j)=some u:=by
 obtain ⟨A,c,hv,hk,hc⟩:=Rw.of_own h
 rcases h.2 with ⟨_,h0⟩|⟨g,cap,cur,hv',hg,hh,hnc,hm,_⟩
 ·omega
 ·rw [hv] at hv'
  cases hv'
  refine ⟨g,c,hv,hnc,hm,hg,?_,fun j u hu=>?_⟩
  ·rcases Nat.lt_or_ge g w.heap.size with k|k
   ·exact k
   ·rw [Array.getElem?_eq_none k] at hh;cases hh
  ·obtain ⟨a,ha,h1,_⟩:=hc j u hu
   cases ha;exact h1
open Go.ChangeShapes Go.WideShapes Go.ChangeAt Go.RowKit Go.Deep
theorem qje {α:Type} (g:α→List Value) (s:Nat) (hs:∀ q,(g q).length=s):∀ (l:List α) (j:Nat) (u:Value),(l.flatMap g)[j]? = some u→∃ i q r,l[i]? = some q∧r<s∧j=i*s+r∧(g q)[r]? = some u
 | [],j,u,h=>by simp at h
 | q :: l,j,u,h=>by
   rw [List.flatMap_cons] at h
   rcases Nat.lt_or_ge j s with k|k
   ·rw [List.getElem?_append_left (by rw [hs];exact k)] at h
    exact ⟨0,q,j,rfl,k,by omega,h⟩
   ·rw [List.getElem?_append_right (by rw [hs];exact k),hs] at h
    obtain ⟨i,q',r,h1,h2,h3,h4⟩:=qje g s hs l (j - s) u h
    exact ⟨i+1,q',r,by simpa using h1,h2,by rw [Nat.add_mul,Nat.one_mul];omega,h4⟩
theorem qf8 {α:Type} {H:Type} {enc:TypeId×Value→H} {P:Program} {W:World} {t e:TypeId} {cs:List Value} {fuel:Nat} {x:DataW H×List MemPlace} (g:α→List Value) (s:Nat) (hs:∀ q,(g q).length=s)
 (ht:P.underlying t=some (.slice e)) (hce:P.cellsOf e=s) (hG:∀ n cs x,DataW.trod enc P W 0 (fun _=>true) true n e cs=some x→∃ q,cs=g q)
 (hf:DataW.trod enc P W 0 (fun _=>true) true fuel t cs=some x):∃ (l:List α) (v:Value),cs=[v]∧Rw W v l.length (l.flatMap g)∧∀ m c,v=.slice none m c→c=0:=by
 rcases open_slice ht hf with ⟨rfl,_⟩|⟨a,len0,cap0,m,n,D,Pl,rfl,_,hl,_,hm,_,hx⟩
 ·exact ⟨[],_,rfl,⟨none,0,rfl,Nat.le_refl _,fun j x hx=>by simp at hx⟩,fun m c h=>by cases h;rfl⟩
 ·have hmc:m=cap0:=by simpa using hm
  subst hmc
  rw [hce] at hx
  have hq:∀ i:Fin len0,∃ q,W.cells? 0 (a.add (i.1*s)) s=some (g q):=fun i=>by
   obtain ⟨cs',h1,h2⟩:=hx i.1 (by have:=i.2;omega)
   obtain ⟨q,rfl⟩:=hG _ _ _ h2
   exact ⟨q,h1⟩
  refine ⟨(List.finRange len0).map fun i=>(hq i).choose,_,rfl,⟨some a,m,by simp,by simpa using hl,fun j u hu=>⟨a,rfl,?_⟩⟩,fun m c h=>by cases h⟩
  obtain ⟨i,q,r',hi,hr,rfl,hju⟩:=qje g s hs _ j u hu
  rw [List.getElem?_map] at hi
  have hil:i<len0:=by
   rcases Nat.lt_or_ge i len0 with k|k
   ·exact k
   ·rw [List.getElem?_eq_none (by simpa using k)] at hi;cases hi
  rw [List.getElem?_eq_getElem (by simpa using hil)] at hi
  have hqi:q=(hq ⟨i,hil⟩).choose:=by simpa using (Option.some.inj hi).symm
  have hc:=(hq ⟨i,hil⟩).choose_spec
  rw [← hqi] at hc
  obtain ⟨_,hcl,hat⟩:=World.cells?_some hc
  have h3:=hat r' hr
  rw [qju,hju] at h3
  exact ⟨h3,World.block_lt_of_cell? W _ h3⟩
theorem qhf {α β:Type} (f:α→β) (l:List α):(l.flatMap fun q=>[f q])=l.map f:=by
 induction l with
 | nil=>rfl
 | cons a l ih=>rw [List.flatMap_cons,ih];rfl
theorem qao (w:World):(isAgg 3).run Tryz.prog w=.ok false w:=by kernel_rfl
theorem qbl (w:World):(isAgg 4).run Tryz.prog w=.ok false w:=by kernel_rfl
structure Bag (l:List (Nat×TypeId×List Value)) (w0 w:World):Prop where
 all:∀ B t cs,(B,t,cs)∈l→Blk t w B cs
 below:Below w0.heap.size w0 w
 lo:∀ b∈l,w0.heap.size≤b.1
 dis:(l.map (·.1)).Nodup
theorem Bag.nil (w:World):Bag [] w w:=⟨fun _ _ _ h=>(by cases h),Below.refl _ _,fun _ h=>(by cases h),List.nodup_nil⟩
theorem Bag.step {l:List (Nat×TypeId×List Value)} {w0 w w':World} (h:Bag l w0 w) (hb:Below w.heap.size w w'):Bag l w0 w':=⟨fun B t cs hm=>(h.all B t cs hm).step hb,h.below.trans (hb.mono h.below.size),h.lo,h.dis⟩
theorem Bag.drew {l:List (Nat×TypeId×List Value)} {w0 w:World} (h:Bag l w0 w):Bag l w0 w.drew:=⟨fun B t cs hm=>(h.all B t cs hm).drew,h.below.drew,h.lo,h.dis⟩
theorem Bag.new {l:List (Nat×TypeId×List Value)} {w0 w:World} (h:Bag l w0 w) (t:TypeId) (cs:List Value):Bag ((w.heap.size,t,cs) :: l) w0 (w.alloc (.cells cs.toArray t)):=by
 refine ⟨fun B t' cs' hm=>?_,h.below.alloc h.below.size _,fun b hb=>?_,?_⟩
 ·rcases List.mem_cons.1 hm with e|e
  ·cases e;exact Blk.new t w cs
  ·exact (h.all B t' cs' e).alloc _
 ·rcases List.mem_cons.1 hb with e|e
  ·rw [e];exact h.below.size
  ·exact h.lo b e
 ·rw [List.map_cons,List.nodup_cons]
  refine ⟨fun hm=>?_,h.dis⟩
  obtain ⟨⟨B,t',cs'⟩,hm,e⟩:=List.mem_map.1 hm
  have:=(h.all B t' cs' hm).lt
  simp only at e
  omega
theorem Bag.other {l:List (Nat×TypeId×List Value)} {w0 w:World} {B:Nat} {t:TypeId} {cs:List Value} (h:Bag ((B,t,cs) :: l) w0 w):∀ b∈l,b.1≠B:=by
 intro b hb e
 have:=h.dis
 rw [List.map_cons,List.nodup_cons] at this
 exact this.1 (List.mem_map.2 ⟨b,hb,e⟩)
theorem Bag.over {l:List (Nat×TypeId×List Value)} {w0 w:World} {B:Nat} {t:TypeId} {cs:List Value} (h:Bag ((B,t,cs) :: l) w0 w) (cs':List Value):Bag ((B,t,cs') :: l) w0 (w.setRow B cs'.toArray):=by
 have hb:=h.all B t cs List.mem_cons_self
 refine ⟨fun B2 t2 cs2 hm=>?_,below_setRow h.below (h.lo _ List.mem_cons_self) _,fun b hb=>?_,h.dis⟩
 ·rcases List.mem_cons.1 hm with e|e
  ·cases e;exact setRow_heap w B _ _ t _ hb
  ·unfold Blk
   rw [setRow_other w B B2 _ (h.other _ e)]
   exact h.all B2 t2 cs2 (List.mem_cons_of_mem _ e)
 ·rcases List.mem_cons.1 hb with e|e
  ·rw [e];exact h.lo (B,t,cs) List.mem_cons_self
  ·exact h.lo b (List.mem_cons_of_mem _ e)
theorem Bag.set {l:List (Nat×TypeId×List Value)} {w0 w:World} {B:Nat} {t:TypeId} {cs:List Value} (h:Bag ((B,t,cs) :: l) w0 w) (k:Nat) (v:Value):Bag ((B,t,cs.set k v) :: l) w0 (w.setCell ⟨B,k,none⟩ v):=by
 have hb:=h.all B t cs List.mem_cons_self
 refine ⟨fun B2 t2 cs2 hm=>?_,h.below.setCell (h.lo _ List.mem_cons_self) _,fun b hb=>?_,h.dis⟩
 ·rcases List.mem_cons.1 hm with e|e
  ·cases e;exact hb.set k v
  ·exact (h.all B2 t2 cs2 (List.mem_cons_of_mem _ e)).other (h.other _ e) v
 ·rcases List.mem_cons.1 hb with e|e
  ·rw [e];exact h.lo (B,t,cs) List.mem_cons_self
  ·exact h.lo b (List.mem_cons_of_mem _ e)
theorem Bag.swap {l:List (Nat×TypeId×List Value)} {w0 w:World} {a b:Nat×TypeId×List Value} (h:Bag (a :: b :: l) w0 w):Bag (b :: a :: l) w0 w:=by
 have e:∀ x,x∈b :: a :: l→x∈a :: b :: l:=by
  intro x hx
  simp only [List.mem_cons] at hx ⊢
  rcases hx with h|h|h
  ·exact .inr (.inl h)
  ·exact .inl h
  ·exact .inr (.inr h)
 refine ⟨fun B t cs hm=>h.all B t cs (e _ hm),h.below,fun x hx=>h.lo x (e x hx),?_⟩
 have d:=h.dis
 simp only [List.map_cons,List.nodup_cons,List.mem_cons,not_or] at d ⊢
 exact ⟨⟨fun k=>d.1.1 k.symm,d.2.1⟩,d.1.2,d.2.2⟩
section
variable {ops:Array Oper} {rest:List Oper} {o:Oper} {a:Act} {w w0 w1:World} {Q:Exit→Act→World→Prop} {l:List (Nat×TypeId×List Value)}
theorem Blk.loadCell {P:Program} {t T:TypeId} {w:World} {B k:Nat} {cs:List Value} {v:Value} (h:Blk t w B cs) (hk:cs[k]? = some v) (hagg:∀ w,(isAgg T).run P w=.ok false w):(Instr.loadAt T (.pointer (some ⟨B,k,none⟩))).run P w=.ok v w:=by
 simp only [Instr.loadAt,Instr.sureAddr,Go.loadVar,Sem.run_bind,Sem.run_pure,Result.andThen_ok,hagg,Bool.false_eq_true,if_false]
 show (Sem.load _ _ _).run P w=_
 simp only [Sem.run,h.cell hk]
theorem qai {B k:Nat} {t T:TypeId} {cs:List Value} {v:Value} (hX:Bag l w0 w) (hagg:∀ w,(isAgg T).run Tryz.prog w=.ok false w) (x:Operand) (hop:o.op=Op.load T x) (hal:w1=w) (hx:a.eval x=.pointer (some ⟨B,k,none⟩)) (hw:Region.wanted o (yielded ops a.tmps)=true) (hm:(B,t,cs)∈l) (hk:cs[k]? = some v)
 (h:wpList Tryz.prog ops Q rest (a.put o.dst v) w):wpList Tryz.prog ops Q (o :: rest) a w1:=by
 subst hal
 exact
  qaq hw T x _ _ hop hx ((hX.all _ _ _ hm).loadCell hk hagg) h
theorem qas {B k n:Nat} {t T:TypeId} {cs ds:List Value} (hX:Bag l w0 w) (hagg:∀ w,(isAgg T).run Tryz.prog w=.ok true w) (hsz:∀ w,(sizeOf T).run Tryz.prog w=.ok n w) (x:Operand) (hop:o.op=Op.load T x) (hal:w1=w) (hx:a.eval x=.pointer (some ⟨B,k,none⟩)) (hw:Region.wanted o (yielded ops a.tmps)=true) (hm:(B,t,cs)∈l) (hc:∀ j v,ds[j]? = some v→cs[k+j]? = some v) (hn:ds.length=n)
 (h:wpList Tryz.prog ops Q rest (a.put o.dst (.agg ds.toArray)) w):wpList Tryz.prog ops Q (o :: rest) a w1:=by
 subst hal
 exact
  qaq hw T x _ _ hop hx ((hX.all _ _ _ hm).loadAtSub hc hn hagg hsz) h
theorem Blk.put_run {P:Program} {t:TypeId} {w:World} {B k:Nat} {cs:List Value} {v:Value} (h:Blk t w B cs) (hk:k<cs.length) (h1:v.oneCell'=true):(storeCells ⟨B,k,none⟩ [v]).run P w=.ok () (w.setRow B (cs.set k v).toArray):=by
 have e:=run_storeCells_at P B k t [v] 0 cs.toArray w h (by simp;omega) (by simpa using h1)
 rw [e]
 have e2:(cs.toArray.toList.take (k+0)++[v]++cs.toArray.toList.drop (k+0+[v].length)).toArray=(cs.set k v).toArray:=by
  rw [List.set_eq_take_append_cons_drop,if_pos hk]
  simp
 rw [e2]
theorem qhk {B k:Nat} {t T:TypeId} {cs:List Value} {b:Bool} (hX:Bag ((B,t,cs) :: l) w0 w) (hsz:∀ w,(sizeOf T).run Tryz.prog w=.ok 1 w) (x y:Operand) (hop:o.op=Op.store T x y) (hal:w1=w) (hx:a.eval x=.pointer (some ⟨B,k,none⟩)) (hy:a.eval y=.bool b) (hdst:o.dst=none) (hw:Region.wanted o (yielded ops a.tmps)=true) (hk:k<cs.length)
 (h:∀ w2,Bag ((B,t,cs.set k (.bool b)) :: l) w0 w2→wpList Tryz.prog ops Q rest a w2):wpList Tryz.prog ops Q (o :: rest) a w1:=by
 subst hal
 have hr:=(hX.all _ _ _ List.mem_cons_self).put_run (P:=Tryz.prog) (v:=.bool b) hk rfl
 exact BigFrame.wpList_want hw fun _ hK=>by
  unfold Oper.wp execOp
  simp only [hop,hx,hy,Instr.storeAt,Instr.sureAddr,storeVar,Value.cells,hr,hsz,List.size_toArray,List.length_cons,List.length_nil,ne_eq,not_true_eq_false,if_false,Sem.run_bind,Sem.run_pure,Result.andThen_ok]
  exact hK _ _ (by rw [hdst];exact h _ (hX.over _))
theorem qb0 {B n:Nat} {t T:TypeId} {cs cs':List Value} (hX:Bag ((B,t,cs) :: l) w0 w) (hagg:∀ w,(isAgg T).run Tryz.prog w=.ok true w) (hsz:∀ w,(sizeOf T).run Tryz.prog w=.ok n w) (x y:Operand) (hop:o.op=Op.store T x y) (hal:w1=w) (hx:a.eval x=.pointer (some ⟨B,0,none⟩)) (hy:a.eval y=.agg cs'.toArray) (hdst:o.dst=none) (hw:Region.wanted o (yielded ops a.tmps)=true) (hn:cs'.length=n) (hc:cs.length=n) (h1:∀ v∈cs',v.oneCell'=true)
 (h:∀ w2,Bag ((B,t,cs') :: l) w0 w2→wpList Tryz.prog ops Q rest a w2):wpList Tryz.prog ops Q (o :: rest) a w1:=by
 subst hal
 exact
  qbc hw hdst T x y _ _ hop hx hy hagg (by rw [hn];exact hsz) ((hX.all _ _ _ List.mem_cons_self).store_run (by rw [hn,hc]) h1) (h _ (hX.over _))
end
end Go.Proofs.YthpnddgfgpacpaaGreat
