import Derived.Test.YthpnddgfgpacpaaGreatRT04
import Derived.Test.YthpnddgfgpacpaaGreatRT05
import Derived.Test.YthpnddgfgpacpaaGreatRT00
import Derived.KernelRfl
namespace Go.Proofs.YthpnddgfgpacpaaGreat
open Go.RowKit
set_option linter.unusedSimpArgs false
set_option linter.unusedVariables false
set_option maxHeartbeats 4000000
set_option maxRecDepth 100000
attribute [local irreducible] wpQuiet
theorem qm6 (K:Dk) (hl:K.D.B.length≤1099511627776) (hl2:K.D.S.length≤1099511627776) (vs vb:Value) (w:World) (hs:Sts w vs K.D.S) (hb:Its w vb K.D.B):Calls Tryz.prog 34 #[.agg #[vs,vb,.bool (K).n,.bool (K).r,.bool (K).e,.int .i64 (K).c,.int .i64 (K).w,.int .i64 (K).a,.int .i64 (K).s,.int .i64 (K).l]] w fun e' w'=>e'=.returned (.bool K.right)∧Below w.heap.size w w':=by
 have hrd:=fun w' (h:Below w.heap.size w w')=>qnf K.D hl hl2 vs vb w' (hs.below h) (hb.below h)
 have hiff:=Dk.ok_iff K
 have hR:K.right=(K.ok && K.D.right):=rfl
 obtain ⟨D,n,r,e,c,w1,a,s,l⟩:=K
 dsimp only at hrd hiff hR hs hb ⊢
 generalize Dk.right _=R at *
 generalize Dk.ok _=ok at *
 generalize D.right=dr at *
 have hw1:=qhx w1
 have hw2:=qhx a
 have hw3:=qhx s
 obtain ⟨A1,c1,rfl,_⟩:=hs.form
 obtain ⟨A2,c2,rfl,_⟩:=hb.form
 have hX:=(Bag.nil w).new 40 [(.slice A1 D.S.length c1),(.slice A2 D.B.length c2),.bool n,.bool r,.bool e,.int .i64 c,.int .i64 w1,.int .i64 a,.int .i64 s,.int .i64 l]
 clear hs hb hl hl2
 by_cases q:c<0
 ·have hok:ok=false:=by cases ok;rfl;have:=hiff.1 rfl;simp_all<;>omega
  rw [hok,Bool.false_and] at hR
  subst hR
  have d1:decide (c<0)=true:=decide_eq_true q
  clear hiff hok
  go_enter Tryz.func34,Tryz.ntmps34
  go_wp2_with (first|((with_reducible refine qab ?_);first|refine lc hX ?_|refine lp (ds:=[_,_]) hX aggD sizD ?_)|(go_at_call 77;first|(with_reducible refine cst hX (hw1 _) ?_;clear hX;intro w' hX)|(with_reducible refine cst hX (hw2 _) ?_;clear hX;intro w' hX)|(with_reducible refine cst hX (hw3 _) ?_;clear hX;intro w' hX))|(go_at_call 78;with_reducible refine cst hX (hrd _ hX.below) ?_;clear hX;intro w' hX))
  go_ret
  exact ⟨rfl,hX.below⟩
 have d1:decide (c<0)=false:=decide_eq_false q
 replace q:0≤c:=by omega
 have q1:=hid q
 clear q
 by_cases q:3<c
 ·have hok:ok=false:=by cases ok;rfl;have:=hiff.1 rfl;simp_all<;>omega
  rw [hok,Bool.false_and] at hR
  subst hR
  have d2:decide (3<c)=true:=decide_eq_true q
  clear hiff hok
  go_enter Tryz.func34,Tryz.ntmps34
  go_wp2_with (first|((with_reducible refine qab ?_);first|refine lc hX ?_|refine lp (ds:=[_,_]) hX aggD sizD ?_)|(go_at_call 77;first|(with_reducible refine cst hX (hw1 _) ?_;clear hX;intro w' hX)|(with_reducible refine cst hX (hw2 _) ?_;clear hX;intro w' hX)|(with_reducible refine cst hX (hw3 _) ?_;clear hX;intro w' hX))|(go_at_call 78;with_reducible refine cst hX (hrd _ hX.below) ?_;clear hX;intro w' hX))
  go_ret
  exact ⟨rfl,hX.below⟩
 have d2:decide (3<c)=false:=decide_eq_false q
 have q2:=hid q
 clear q
 by_cases q:wordV w1=false
 ·have hok:ok=false:=by cases ok;rfl;have:=hiff.1 rfl;simp_all<;>omega
  rw [hok,Bool.false_and] at hR
  subst hR
  rw [q] at hw1
  clear hiff hok
  go_enter Tryz.func34,Tryz.ntmps34
  go_wp2_with (first|((with_reducible refine qab ?_);first|refine lc hX ?_|refine lp (ds:=[_,_]) hX aggD sizD ?_)|(go_at_call 77;first|(with_reducible refine cst hX (hw1 _) ?_;clear hX;intro w' hX)|(with_reducible refine cst hX (hw2 _) ?_;clear hX;intro w' hX)|(with_reducible refine cst hX (hw3 _) ?_;clear hX;intro w' hX))|(go_at_call 78;with_reducible refine cst hX (hrd _ hX.below) ?_;clear hX;intro w' hX))
  go_ret
  exact ⟨rfl,hX.below⟩
 replace q:wordV w1=true:=by simpa using q
 rw [q] at hw1
 have q3:=hid q
 clear q
 by_cases q:wordV a=false
 ·have hok:ok=false:=by cases ok;rfl;have:=hiff.1 rfl;simp_all<;>omega
  rw [hok,Bool.false_and] at hR
  subst hR
  rw [q] at hw2
  clear hiff hok
  go_enter Tryz.func34,Tryz.ntmps34
  go_wp2_with (first|((with_reducible refine qab ?_);first|refine lc hX ?_|refine lp (ds:=[_,_]) hX aggD sizD ?_)|(go_at_call 77;first|(with_reducible refine cst hX (hw1 _) ?_;clear hX;intro w' hX)|(with_reducible refine cst hX (hw2 _) ?_;clear hX;intro w' hX)|(with_reducible refine cst hX (hw3 _) ?_;clear hX;intro w' hX))|(go_at_call 78;with_reducible refine cst hX (hrd _ hX.below) ?_;clear hX;intro w' hX))
  go_ret
  exact ⟨rfl,hX.below⟩
 replace q:wordV a=true:=by simpa using q
 rw [q] at hw2
 have q4:=hid q
 clear q
 by_cases q:wordV s=false
 ·have hok:ok=false:=by cases ok;rfl;have:=hiff.1 rfl;simp_all<;>omega
  rw [hok,Bool.false_and] at hR
  subst hR
  rw [q] at hw3
  clear hiff hok
  go_enter Tryz.func34,Tryz.ntmps34
  go_wp2_with (first|((with_reducible refine qab ?_);first|refine lc hX ?_|refine lp (ds:=[_,_]) hX aggD sizD ?_)|(go_at_call 77;first|(with_reducible refine cst hX (hw1 _) ?_;clear hX;intro w' hX)|(with_reducible refine cst hX (hw2 _) ?_;clear hX;intro w' hX)|(with_reducible refine cst hX (hw3 _) ?_;clear hX;intro w' hX))|(go_at_call 78;with_reducible refine cst hX (hrd _ hX.below) ?_;clear hX;intro w' hX))
  go_ret
  exact ⟨rfl,hX.below⟩
 replace q:wordV s=true:=by simpa using q
 rw [q] at hw3
 have q5:=hid q
 clear q
 have ha0:0≤a:=((qck a).1 (show wordV a=true from q4)).1
 have hm:a.tmod 2=a%2:=Int.tmod_eq_emod_of_nonneg ha0
 by_cases q:a%2≠0
 ·have hok:ok=false:=by cases ok;rfl;have:=hiff.1 rfl;simp_all<;>omega
  rw [hok,Bool.false_and] at hR
  subst hR
  have d3:(a%2 != 0)=true:=by simpa using q
  clear hiff hok
  go_enter Tryz.func34,Tryz.ntmps34
  go_wp2_with (first|((with_reducible refine qab ?_);first|refine lc hX ?_|refine lp (ds:=[_,_]) hX aggD sizD ?_)|(go_at_call 77;first|(with_reducible refine cst hX (hw1 _) ?_;clear hX;intro w' hX)|(with_reducible refine cst hX (hw2 _) ?_;clear hX;intro w' hX)|(with_reducible refine cst hX (hw3 _) ?_;clear hX;intro w' hX))|(go_at_call 78;with_reducible refine cst hX (hrd _ hX.below) ?_;clear hX;intro w' hX))
  go_ret
  exact ⟨rfl,hX.below⟩
 replace q:a%2=0:=by omega
 have d3:(a%2 != 0)=false:=by simpa using q
 have q6:=hid q
 clear q
 by_cases q:l<0
 ·have hok:ok=false:=by cases ok;rfl;have:=hiff.1 rfl;simp_all<;>omega
  rw [hok,Bool.false_and] at hR
  subst hR
  have d4:decide (l<0)=true:=decide_eq_true q
  clear hiff hok
  go_enter Tryz.func34,Tryz.ntmps34
  go_wp2_with (first|((with_reducible refine qab ?_);first|refine lc hX ?_|refine lp (ds:=[_,_]) hX aggD sizD ?_)|(go_at_call 77;first|(with_reducible refine cst hX (hw1 _) ?_;clear hX;intro w' hX)|(with_reducible refine cst hX (hw2 _) ?_;clear hX;intro w' hX)|(with_reducible refine cst hX (hw3 _) ?_;clear hX;intro w' hX))|(go_at_call 78;with_reducible refine cst hX (hrd _ hX.below) ?_;clear hX;intro w' hX))
  go_ret
  exact ⟨rfl,hX.below⟩
 have d4:decide (l<0)=false:=decide_eq_false q
 have q7:=hid q
 clear q
 by_cases q:8<l
 ·have hok:ok=false:=by cases ok;rfl;have:=hiff.1 rfl;simp_all<;>omega
  rw [hok,Bool.false_and] at hR
  subst hR
  have d5:decide (8<l)=true:=decide_eq_true q
  clear hiff hok
  go_enter Tryz.func34,Tryz.ntmps34
  go_wp2_with (first|((with_reducible refine qab ?_);first|refine lc hX ?_|refine lp (ds:=[_,_]) hX aggD sizD ?_)|(go_at_call 77;first|(with_reducible refine cst hX (hw1 _) ?_;clear hX;intro w' hX)|(with_reducible refine cst hX (hw2 _) ?_;clear hX;intro w' hX)|(with_reducible refine cst hX (hw3 _) ?_;clear hX;intro w' hX))|(go_at_call 78;with_reducible refine cst hX (hrd _ hX.below) ?_;clear hX;intro w' hX))
  go_ret
  exact ⟨rfl,hX.below⟩
 have d5:decide (8<l)=false:=decide_eq_false q
 have q8:=hid q
 clear q
 have hiff2:ok=true↔r=decide (l=0)∧(l=0∨(c≠0∧w1≠0)):=by
  rw [hiff]
  exact ⟨fun h=>h.2.2.2.2.2.2,fun h=>⟨⟨show 0≤c from q1,by have:=(show ¬ 3<c from q2);omega⟩,q3,q4,q5,q6,⟨by have:=(show ¬ l<0 from q7);omega,by have:=(show ¬ 8<l from q8);omega⟩,h⟩⟩
 clear hiff q1 q2 q3 q4 q5 q6 q7 q8 ha0
 by_cases hl0:l=0
 ·subst hl0
  cases r
  ·have hok:ok=false:=by cases ok;rfl;have:=hiff2.1 rfl;simp_all
   rw [hok,Bool.false_and] at hR
   subst hR
   clear hiff2 hok
   go_enter Tryz.func34,Tryz.ntmps34
   go_wp2_with (first|((with_reducible refine qab ?_);first|refine lc hX ?_|refine lp (ds:=[_,_]) hX aggD sizD ?_)|(go_at_call 77;first|(with_reducible refine cst hX (hw1 _) ?_;clear hX;intro w' hX)|(with_reducible refine cst hX (hw2 _) ?_;clear hX;intro w' hX)|(with_reducible refine cst hX (hw3 _) ?_;clear hX;intro w' hX))|(go_at_call 78;with_reducible refine cst hX (hrd _ hX.below) ?_;clear hX;intro w' hX))
   go_ret
   exact ⟨rfl,hX.below⟩
  ·have hok:ok=true:=hiff2.2 ⟨rfl,.inl rfl⟩
   rw [hok,Bool.true_and] at hR
   subst hR
   clear hiff2 hok
   go_enter Tryz.func34,Tryz.ntmps34
   go_wp2_with (first|((with_reducible refine qab ?_);first|refine lc hX ?_|refine lp (ds:=[_,_]) hX aggD sizD ?_)|(go_at_call 77;first|(with_reducible refine cst hX (hw1 _) ?_;clear hX;intro w' hX)|(with_reducible refine cst hX (hw2 _) ?_;clear hX;intro w' hX)|(with_reducible refine cst hX (hw3 _) ?_;clear hX;intro w' hX))|(go_at_call 78;with_reducible refine cst hX (hrd _ hX.below) ?_;clear hX;intro w' hX))
   go_ret
   exact ⟨rfl,hX.below⟩
 have l1:(l == 0)=false:=by simpa using hl0
 have l2:(l != 0)=true:=by simpa using hl0
 cases r
 ·by_cases hc0:c=0
  ·have hok:ok=false:=by
    cases ok
    ·rfl
    ·rcases (hiff2.1 rfl).2 with h|h
     ·exact absurd h hl0
     ·exact absurd hc0 h.1
   rw [hok,Bool.false_and] at hR
   subst hR hc0
   clear hiff2 hok
   go_enter Tryz.func34,Tryz.ntmps34
   go_wp2_with (first|((with_reducible refine qab ?_);first|refine lc hX ?_|refine lp (ds:=[_,_]) hX aggD sizD ?_)|(go_at_call 77;first|(with_reducible refine cst hX (hw1 _) ?_;clear hX;intro w' hX)|(with_reducible refine cst hX (hw2 _) ?_;clear hX;intro w' hX)|(with_reducible refine cst hX (hw3 _) ?_;clear hX;intro w' hX))|(go_at_call 78;with_reducible refine cst hX (hrd _ hX.below) ?_;clear hX;intro w' hX))
   go_ret
   exact ⟨rfl,hX.below⟩
  have l3:(c == 0)=false:=by simpa using hc0
  by_cases hw0:w1=0
  ·have hok:ok=false:=by
    cases ok
    ·rfl
    ·rcases (hiff2.1 rfl).2 with h|h
     ·exact absurd h hl0
     ·exact absurd hw0 h.2
   rw [hok,Bool.false_and] at hR
   subst hR hw0
   clear hiff2 hok
   go_enter Tryz.func34,Tryz.ntmps34
   go_wp2_with (first|((with_reducible refine qab ?_);first|refine lc hX ?_|refine lp (ds:=[_,_]) hX aggD sizD ?_)|(go_at_call 77;first|(with_reducible refine cst hX (hw1 _) ?_;clear hX;intro w' hX)|(with_reducible refine cst hX (hw2 _) ?_;clear hX;intro w' hX)|(with_reducible refine cst hX (hw3 _) ?_;clear hX;intro w' hX))|(go_at_call 78;with_reducible refine cst hX (hrd _ hX.below) ?_;clear hX;intro w' hX))
   go_ret
   exact ⟨rfl,hX.below⟩
  have l4:(w1 == 0)=false:=by simpa using hw0
  have hok:ok=true:=hiff2.2 ⟨by simp [hl0],.inr ⟨hc0,hw0⟩⟩
  rw [hok,Bool.true_and] at hR
  subst hR
  clear hiff2 hok hc0 hw0 hl0
  go_enter Tryz.func34,Tryz.ntmps34
  go_wp2_with (first|((with_reducible refine qab ?_);first|refine lc hX ?_|refine lp (ds:=[_,_]) hX aggD sizD ?_)|(go_at_call 77;first|(with_reducible refine cst hX (hw1 _) ?_;clear hX;intro w' hX)|(with_reducible refine cst hX (hw2 _) ?_;clear hX;intro w' hX)|(with_reducible refine cst hX (hw3 _) ?_;clear hX;intro w' hX))|(go_at_call 78;with_reducible refine cst hX (hrd _ hX.below) ?_;clear hX;intro w' hX))
  go_ret
  exact ⟨rfl,hX.below⟩
 ·have hok:ok=false:=by cases ok;rfl;have:=hiff2.1 rfl;simp_all
  rw [hok,Bool.false_and] at hR
  subst hR
  clear hiff2 hok
  go_enter Tryz.func34,Tryz.ntmps34
  go_wp2_with (first|((with_reducible refine qab ?_);first|refine lc hX ?_|refine lp (ds:=[_,_]) hX aggD sizD ?_)|(go_at_call 77;first|(with_reducible refine cst hX (hw1 _) ?_;clear hX;intro w' hX)|(with_reducible refine cst hX (hw2 _) ?_;clear hX;intro w' hX)|(with_reducible refine cst hX (hw3 _) ?_;clear hX;intro w' hX))|(go_at_call 78;with_reducible refine cst hX (hrd _ hX.below) ?_;clear hX;intro w' hX))
  go_ret
  exact ⟨rfl,hX.below⟩
theorem qrr {S:ByteArray} {k:Nat} {y:UInt8} (h:S.data[k]? = some y) (w:World):(Instr.index 9 (.string S) (.int .i64 k)).run Tryz.prog w=.ok (.int .u8 y.toNat) w:=by
 have h1:S[k]? = some y:=by
  have hk:k<S.size:=(Array.getElem?_eq_some_iff.1 h).1
  have e:S[k]? = some (S[k]'hk):=getElem?_pos S k hk
  rw [e]
  have h2:=(Array.getElem?_eq_some_iff.1 h).2
  exact congrArg some h2
 simp only [Instr.index,asIntOf,Sem.run_bind,Sem.run_pure,Result.andThen_ok,run_underlying Tryz.underlying9,Int.natCast_nonneg,if_true,Int.toNat_natCast,h1]
theorem qhe {P:Program} {w:World} {o:Oper} {a:Act} {C:World→Prop} (t:TypeId) (x ix:Operand) (xv iv v:Value) (hop:o.op=Op.index t x ix) (hx:a.eval x=xv) (hi:a.eval ix=iv) (hrun:(Instr.index t xv iv).run P w=.ok v w):Oper.quietAt P o a C w v:=by
 unfold Oper.quietAt execOp
 simp only [hop,hx,hi,hrun,Sem.run_bind,Sem.run_pure,Result.andThen_ok]
 exact ⟨rfl,rfl⟩
theorem bT {w w' w2:World} (h:Below w.heap.size w w') (h2:Below w'.heap.size w' w2):Below w.heap.size w w2:=h.trans (h2.mono h.size)
def byt (s:ByteArray) (k:Nat):Int:=((s.data.getD k 0).toNat:Int)
theorem qj2 {s:ByteArray} {k:Nat} (h:k<s.size):s.data[k]? = some (s.data.getD k 0):=by
 have h':k<s.data.size:=h
 rw [Array.getD_eq_getD_getElem?,Array.getElem?_eq_getElem h'];rfl
theorem qgu (s:ByteArray) (k:Nat):0≤byt s k∧byt s k<256:=by
 unfold byt
 have:=(s.data.getD k 0).toNat_lt
 omega
def atV (s:ByteArray) (i:Nat):Int:=byt s (2*i)+256*byt s (2*i+1)
theorem qnd (s:ByteArray) (i:Nat) (h:2*i+1<s.size) (hi:i≤1099511627776) (w:World):Calls Tryz.prog 116 #[.string s,.int .i64 (i:Int)] w fun e' w'=>e'=.returned (.int .i64 (atV s i))∧Below w.heap.size w w':=by
 have hB:=Below.refl w.heap.size w
 unfold atV
 have h1:=fun w=>qrr (qj2 (show 2*i<s.size by omega)) w
 have h2:=fun w=>qrr (qj2 (show 2*i+1<s.size by omega)) w
 have b1:=qgu s (2*i)
 have b2:=qgu s (2*i+1)
 simp only [show ∀ k,((s.data.getD k 0).toNat:Int)=byt s k from fun _=>rfl] at h1 h2
 generalize byt s (2*i)=y1 at *
 generalize byt s (2*i+1)=y2 at *
 rw [show ((2*i:Nat):Int)=2*(i:Int) by omega] at h1
 rw [show ((2*i+1:Nat):Int)=2*(i:Int)+1 by omega] at h2
 have w1:IntKind.i64.wrap (2*(i:Int))=2*(i:Int):=by rw [qaf];unfold wrap64;omega
 have w2:IntKind.i64.wrap (2*(i:Int)+1)=2*(i:Int)+1:=by rw [qaf];unfold wrap64;omega
 have w3:IntKind.i64.wrap (y1)=y1:=by rw [qaf];unfold wrap64;omega
 have w4:IntKind.i64.wrap (y2)=y2:=by rw [qaf];unfold wrap64;omega
 have w5:IntKind.i64.wrap (256*y2)=256*y2:=by rw [qaf];unfold wrap64;omega
 have w6:IntKind.i64.wrap (y1+256*y2)=y1+256*y2:=by rw [qaf];unfold wrap64;omega
 clear h b1 b2 hi
 go_enter Tryz.func116,Tryz.ntmps116
 go_wp2
 refine qa5 (fun w'=>Below w.heap.size w w') (by kernel_rfl) (by kernel_rfl) hB.drew ?_
 repeat
  first
   | (refine BigFrame.wpQuiet_skip (by rfl) ?_
      simp only [Act.put,sx])
   | (refine BigFrame.wpQuiet_want (by rfl) (fun K hK=>?_)
      apply Exists.intro
      refine ⟨fun wq hq=>?_,hK _ ?_⟩
      ·first
        | (refine qhe 9 _ _ _ _ _ rfl rfl rfl (h1 _))
        | (refine qhe 9 _ _ _ _ _ rfl rfl rfl (h2 _))
        | (unfold Oper.quietAt
           go_simp
           first
            | with_reducible rfl
          )
      clear hK K
      simp only [Act.put,sx])
 refine wpQuiet_nil ?_
 intro w7 hB
 go_wp2
 go_ret
 exact ⟨rfl,hB⟩
def spV (B:List Int) (a:Int) (n:Nat):Bool:=B.any fun b=>decide (a≤b) && decide (b<a+2*(n:Int))
theorem qbg (B:List Int) (a:Int) (n:Nat) (v:Value) (w:World) (hl:B.length≤1099511627776) (ha:0≤a∧a≤65535) (hn:n≤65535) (hv:Its w v B):Calls Tryz.prog 112 #[v,.int .i64 a,.int .i64 (n:Int)] w fun e' w'=>e'=.returned (.bool (spV B a n))∧Below w.heap.size w w':=by
 obtain ⟨A,c,rfl,_,hc⟩:=hv.form
 have hB:=Below.refl w.heap.size w
 have hri:spV B a n=true↔∃ b∈B,a≤b∧b<a+2*(n:Int):=by unfold spV;simp
 generalize spV B a n=r at *
 have w1:IntKind.i64.wrap (2*(n:Int))=2*(n:Int):=by rw [qaf];unfold wrap64;omega
 have w2:IntKind.i64.wrap (a+2*(n:Int))=a+2*(n:Int):=by rw [qaf];unfold wrap64;omega
 clear hv ha hn
 go_enter Tryz.func112,Tryz.ntmps112
 go_wp2
 go_loopw [7] (fun iv wr=>∃ k:Nat,k≤B.length∧iv=.int .i64 k∧Hid (∀ (j:Nat) b,j<k→B[j]? = some b→¬ (a≤b∧b<a+2*(n:Int)))∧Below w.heap.size w wr) (fun iv _=>match iv with|.int _ q=>B.length - q.toNat|_=>0)
 case atStart=>exact ⟨0,Nat.zero_le _,rfl,fun j s hj=>absurd hj (Nat.not_lt_zero j),hB⟩
 case round =>
  clear hB
  obtain ⟨k,hk,rfl,hN,hB⟩:=hrel
  by_cases hkn:k<B.length
  ·have hki:(k:Int)<(B.length:Int):=by omega
   have hx:=List.getElem?_eq_getElem hkn
   have hm:=List.getElem_mem hkn
   generalize B[k]=x at *
   obtain ⟨ad,rfl,hL⟩:=hc k x hx
   by_cases h1:a≤x
   ·have d1:decide (a≤x)=true:=decide_eq_true h1
    by_cases h2:x<a+2*(n:Int)
    ·have d2:decide (x<a+2*(n:Int))=true:=decide_eq_true h2
     have hr:r=true:=hri.2 ⟨x,hm,h1,h2⟩
     subst hr
     clear hN hx h1 h2 hc hri hm
     go_wp2_with (first|((with_reducible refine qab ?_);refine qaq rfl 3 _ _ _ rfl rfl (hL _ hB) ?_))
     go_ret
     exact ⟨rfl,hB⟩
    ·have d2:decide (x<a+2*(n:Int))=false:=decide_eq_false h2
     have hN2:Hid (∀ (j:Nat) b,j<k+1→B[j]? = some b→¬ (a≤b∧b<a+2*(n:Int))):=fun j q hj hs=>by
      rcases (by omega:j<k∨j=k) with h|rfl
      ·exact (show ∀ (j:Nat) b,j<k→B[j]? = some b→¬ (a≤b∧b<a+2*(n:Int)) from hN) j q h hs
      ·rw [hx] at hs;cases hs;exact fun h=>h2 h.2
     clear hN hx h1 h2 hc hri hm
     go_wp2_with (first|((with_reducible refine qab ?_);refine qaq rfl 3 _ _ _ rfl rfl (hL _ hB) ?_))
     exact ⟨⟨k+1,by omega,by go_num,hN2,hB⟩,by simp only;omega⟩
   ·have d1:decide (a≤x)=false:=decide_eq_false h1
    have hN2:Hid (∀ (j:Nat) b,j<k+1→B[j]? = some b→¬ (a≤b∧b<a+2*(n:Int))):=fun j q hj hs=>by
     rcases (by omega:j<k∨j=k) with h|rfl
     ·exact (show ∀ (j:Nat) b,j<k→B[j]? = some b→¬ (a≤b∧b<a+2*(n:Int)) from hN) j q h hs
     ·rw [hx] at hs;cases hs;exact fun h=>h1 h.1
    clear hN hx h1 hc hri hm
    go_wp2_with (first|((with_reducible refine qab ?_);refine qaq rfl 3 _ _ _ rfl rfl (hL _ hB) ?_))
    exact ⟨⟨k+1,by omega,by go_num,hN2,hB⟩,by simp only;omega⟩
  ·have hki:¬ (k:Int)<(B.length:Int):=by omega
   have hr:r=false:=by
    cases r
    ·rfl
    ·obtain ⟨b,hb,h⟩:=hri.1 rfl
     obtain ⟨j,hj⟩:=List.mem_iff_getElem?.1 hb
     have hjl:j<B.length:=(List.getElem?_eq_some_iff.1 hj).1
     exact absurd h ((show ∀ (j:Nat) b,j<k→B[j]? = some b→¬ (a≤b∧b<a+2*(n:Int)) from hN) j b (by omega) hj)
   subst hr
   clear hri hN hc
   go_wp2
   go_ret
   exact ⟨rfl,hB⟩
def dfW (m:List Int) (A n:Nat) (s:ByteArray):Bool:=(List.range n).any fun i=>decide (m.getD (A+i) 0≠atV s i)
theorem half (A:Nat):(2*(A:Int)).tdiv 2=(A:Int):=by
 rw [Int.tdiv_eq_ediv_of_nonneg (by omega)];omega
theorem qd4 (m:List Int) (A n:Nat) (s:ByteArray) (v:Value) (w:World) (hA:A+n≤m.length) (hm:m.length≤1099511627776) (hs:2*n≤s.size) (hv:Its w v m):Calls Tryz.prog 113 #[v,.int .i64 (2*(A:Int)),.int .i64 (n:Int),.string s] w fun e' w'=>e'=.returned (.bool (dfW m A n s))∧Below w.heap.size w w':=by
 obtain ⟨G,c,rfl,_,hc⟩:=hv.form
 have hB:=Below.refl w.heap.size w
 have hri:dfW m A n s=true↔∃ i,i<n∧m.getD (A+i) 0≠atV s i:=by unfold dfW;simp
 generalize dfW m A n s=r at *
 have w1:=half A
 have w2:IntKind.i64.wrap ((A:Int))=(A:Int):=by rw [qaf];unfold wrap64;omega
 clear hv
 go_enter Tryz.func113,Tryz.ntmps113
 go_wp2
 go_loopw [9] (fun iv wr=>∃ k:Nat,k≤n∧iv=.int .i64 k∧Hid (∀ j:Nat,j<k→m.getD (A+j) 0=atV s j)∧Below w.heap.size w wr) (fun iv _=>match iv with|.int _ q=>n - q.toNat|_=>0)
 case atStart=>exact ⟨0,Nat.zero_le _,rfl,fun j hj=>absurd hj (Nat.not_lt_zero j),hB⟩
 case round =>
  clear hB
  obtain ⟨k,hk,rfl,hN,hB⟩:=hrel
  by_cases hkn:k<n
  ·have hki:(k:Int)<(n:Int):=by omega
   have hAk:A+k<m.length:=by omega
   have hx:=List.getElem?_eq_getElem hAk
   have hgx:m.getD (A+k) 0=m[A+k]:=by rw [List.getD_eq_getElem?_getD,hx];rfl
   generalize m[A+k]=x at *
   obtain ⟨ad,rfl,hL⟩:=hc (A+k) x hx
   have hat:=fun w'=>qnd s k (by omega) (by omega) w'
   have w3:IntKind.i64.wrap ((A:Int)+(k:Int))=(A:Int)+(k:Int):=by rw [qaf];unfold wrap64;omega
   have k1:(A:Int)+(k:Int)<(m.length:Int):=by omega
   have k2:(0:Int)≤(A:Int)+(k:Int):=by omega
   have k3:((A:Int)+(k:Int)).toNat=A+k:=by omega
   by_cases hxe:x=atV s k
   ·have he:(x != atV s k)=false:=by simpa using hxe
    have hN2:Hid (∀ j:Nat,j<k+1→m.getD (A+j) 0=atV s j):=fun j hj=>by
     rcases (by omega:j<k∨j=k) with h|rfl
     ·exact (show ∀ j:Nat,j<k→m.getD (A+j) 0=atV s j from hN) j h
     ·rw [hgx,hxe]
    generalize atV s k=y at *
    clear hN hx hgx hxe hc hri
    go_wp2
    refine qa5 (fun w'=>Below w.heap.size w w') (by kernel_rfl) (by kernel_rfl) hB.drew ?_
    repeat
     first
      | (refine BigFrame.wpQuiet_skip (by rfl) ?_
         simp only [Act.put,sx])
      | (refine BigFrame.wpQuiet_want (by rfl) (fun K hK=>?_)
         apply Exists.intro
         refine ⟨fun wq hq=>?_,hK _ ?_⟩
         ·first
           | (refine qar 3 _ _ _ rfl rfl (hL _ hq))
           | (unfold Oper.quietAt
              go_simp
              first
               | with_reducible rfl
               | ((go_at_call 116);with_reducible refine (hat _).mono ?_;exact fun e w' ⟨he,hw⟩=>⟨he,bT hq hw⟩)
             )
         clear hK K
         simp only [Act.put,sx])
    refine wpQuiet_nil ?_
    intro w4 hB
    go_wp2
    exact ⟨⟨k+1,by omega,by go_num,hN2,hB⟩,by simp only;omega⟩
   ·have he:(x != atV s k)=true:=by simpa using hxe
    have hr:r=true:=hri.2 ⟨k,hkn,by rw [hgx];exact hxe⟩
    subst hr
    generalize atV s k=y at *
    clear hN hx hgx hxe hc hri
    go_wp2
    refine qa5 (fun w'=>Below w.heap.size w w') (by kernel_rfl) (by kernel_rfl) hB.drew ?_
    repeat
     first
      | (refine BigFrame.wpQuiet_skip (by rfl) ?_
         simp only [Act.put,sx])
      | (refine BigFrame.wpQuiet_want (by rfl) (fun K hK=>?_)
         apply Exists.intro
         refine ⟨fun wq hq=>?_,hK _ ?_⟩
         ·first
           | (refine qar 3 _ _ _ rfl rfl (hL _ hq))
           | (unfold Oper.quietAt
              go_simp
              first
               | with_reducible rfl
               | ((go_at_call 116);with_reducible refine (hat _).mono ?_;exact fun e w' ⟨he,hw⟩=>⟨he,bT hq hw⟩)
             )
         clear hK K
         simp only [Act.put,sx])
    refine wpQuiet_nil ?_
    intro w4 hB
    go_wp2
    go_ret
    exact ⟨rfl,hB⟩
  ·have hki:¬ (k:Int)<(n:Int):=by omega
   have hr:r=false:=by
    cases r
    ·rfl
    ·obtain ⟨i,hi,h⟩:=hri.1 rfl
     exact absurd ((show ∀ j:Nat,j<k→m.getD (A+j) 0=atV s j from hN) i (by omega)) h
   subst hr
   clear hri hN hc
   go_wp2
   go_ret
   exact ⟨rfl,hB⟩
end Go.Proofs.YthpnddgfgpacpaaGreat
