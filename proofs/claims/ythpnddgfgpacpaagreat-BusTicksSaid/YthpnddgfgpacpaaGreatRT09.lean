import Derived.Laws.Entries
import Derived.Test.YthpnddgfgpacpaaGreatRT05
import Derived.Test.YthpnddgfgpacpaaGreatRT01
import Derived.Test.YthpnddgfgpacpaaGreatRT03
import Derived.Test.YthpnddgfgpacpaaGreatRT08
import Derived.Test.YthpnddgfgpacpaaGreatRT04
namespace Go.Proofs.YthpnddgfgpacpaaGreat
set_option linter.unusedSimpArgs false
def okS (n:Int):Bool:=decide (256≤n) && (decide (n≤32768) && decide (n%64=0))
def newL (n:Int):List Int:=if okS n=true then List.replicate (n / 2).toNat 0 else []
def newE (n:Int):Int:=if okS n=true then 0 else 1
def wordsB:List Int→Bool
 | []=>true
 | x :: r=>(decide (0≤x) && decide (x≤65535)) && wordsB r
def badB (n:Int):Int→List Int→Bool
 | _,[]=>true
 | low,x :: r=>(decide (low≤x) && (decide (x%2=0) && decide (x<n))) && badB n (x+2) r
def rightP (mem bad:List Int):Bool:=okS (2*(mem.length:Int)) && (wordsB mem && badB (2*(mem.length:Int)) 0 bad)
def accP (n a:Int) (b:Bool):Bool:=(b || decide (a%2=0)) && (decide (0≤a) && decide (a<n))
def byteN (l:List Int) (a:Nat):Int:=l.getD (a / 2) 0 / (256:Int) ^ (a%2)%256
def setW (x:Int) (r:Nat) (v:Int):Int:=if r=0 then x / 256*256+v%256 else v%256*256+x%256
def setN (l:List Int) (a:Nat) (v:Int):List Int:=l.set (a / 2) (setW (l.getD (a / 2) 0) (a%2) v)
def evenP (a:Int):Int:=a - a%2
def readT (n:Int) (bad:List Int) (a:Int) (b:Bool):Int:=if accP n a b=true then (if bad.contains (evenP a)=true then 9 else 0) else 1
def readV (mem bad:List Int) (a:Int) (b:Bool):Int :=
 if readT (2*(mem.length:Int)) bad a b=0 then (if b=true then byteN mem a.toNat else mem.getD (a.toNat / 2) 0) else 0
def writeT (n a:Int) (b:Bool):Int:=if accP n a b=true then 0 else 1
def withoutP (bad:List Int) (x:Int):List Int:=bad.filter (fun y=>y != x)
def wordW (mem:List Int) (a:Int) (b:Bool) (v:Int):List Int:=if b=true then setN mem a.toNat v else mem.set (a.toNat / 2) (v%65536)
def writeM (mem:List Int) (a:Int) (b:Bool) (v:Int):List Int:=if accP (2*(mem.length:Int)) a b=true then wordW mem a b v else []
def writeB (n:Int) (bad:List Int) (a:Int) (b:Bool):List Int:=if accP n a b=true then withoutP bad (evenP a) else []
def inR (n a k:Int):Bool:=decide (0≤a) && (decide (0≤k) && decide (k≤n - a))
def bytesN (l:List Int) (a:Nat):Nat→List UInt8
 | 0=>[]
 | k+1=>UInt8.ofNat (byteN l a).toNat :: bytesN l (a+1) k
def bytesE (n a k:Int):Int:=if inR n a k=true then 0 else 2
def bytesS (l:List Int) (a k:Int):List UInt8:=if inR (2*(l.length:Int)) a k=true then bytesN l a.toNat k.toNat else []
def storeN (l:List Int) (a:Nat):List UInt8→List Int
 | []=>l
 | c :: r=>storeN (setN l a (c.toNat:Int)) (a+1) r
def storeL (l:List Int) (a:Int) (s:List UInt8):List Int:=if inR (2*(l.length:Int)) a (s.length:Int)=true then storeN l a.toNat s else []
theorem qfi (l:List Int) (a:Nat) (v:Int):(setN l a v).length=l.length:=by simp [setN]
theorem qdl:∀ (s:List UInt8) (l:List Int) (a:Nat),(storeN l a s).length=l.length
 | [],l,a=>rfl
 | c :: r,l,a=>by rw [storeN,qdl r,qfi]
theorem qb2 (l:List Int):∀ (k a:Nat),(bytesN l a k).length=k
 | 0,a=>rfl
 | k+1,a=>by simp [bytesN,qb2 l k]
theorem qf0 (l:List Int) (a:Nat):0≤byteN l a∧byteN l a<256:=by unfold byteN;omega
theorem qds:∀ (l:List Int),wordsB l=true↔∀ x∈l,0≤x∧x≤65535
 | []=>by simp [wordsB]
 | a :: r=>by simp [wordsB,qds r]
theorem qfm (n:Int):∀ (l:List Int) (low:Int),badB n low l=true↔(∀ x∈l,low≤x∧x%2=0∧x<n)∧l.Pairwise (·<·)
 | [],low=>by simp [badB]
 | a :: r,low=>by
   simp only [badB,Bool.and_eq_true,decide_eq_true_eq,qfm n r,List.forall_mem_cons,List.pairwise_cons]
   constructor
   ·rintro ⟨⟨h1,h2,h3⟩,h4,h5⟩
    exact ⟨⟨⟨h1,h2,h3⟩,fun x hx=>by have:=h4 x hx;exact ⟨by omega,this.2⟩⟩,fun x hx=>by have:=h4 x hx;omega,h5⟩
   ·rintro ⟨⟨⟨h1,h2,h3⟩,h4⟩,h5,h6⟩
    exact ⟨⟨h1,h2,h3⟩,fun x hx=>by have:=h4 x hx;have:=h5 x hx;omega,h6⟩
theorem setW_bd {x v:Int} {r:Nat} (h:0≤x∧x≤65535):0≤setW x r v∧setW x r v≤65535:=by unfold setW;split<;>omega
theorem getD_bd {l:List Int} (h:wordsB l=true) (k:Nat):0≤l.getD k 0∧l.getD k 0≤65535:=by
 rw [List.getD_eq_getElem?_getD]
 rcases Nat.lt_or_ge k l.length with hk|hk
 ·rw [List.getElem?_eq_getElem hk];exact (qds l).1 h _ (List.getElem_mem hk)
 ·rw [List.getElem?_eq_none hk];simp
theorem qst {l:List Int} (h:wordsB l=true) (k:Nat) {x:Int} (hx:0≤x∧x≤65535):wordsB (l.set k x)=true:=by
 rw [qds] at h ⊢
 intro y hy
 rcases List.mem_or_eq_of_mem_set hy with h1|h1
 ·exact h y h1
 ·subst h1;exact hx
theorem qf9 {l:List Int} (h:wordsB l=true) (a:Nat) (v:Int):wordsB (setN l a v)=true:=qst h _ (setW_bd (getD_bd h _))
theorem qgs:∀ (s:List UInt8) {l:List Int} (a:Nat),wordsB l=true→wordsB (storeN l a s)=true
 | [],_,_,h=>h
 | _ :: r,_,a,h=>qgs r (a+1) (qf9 h a _)
theorem qiz (l:List Int):∀ (k a j:Nat),j<k→(bytesN l a k)[j]? = some (UInt8.ofNat (byteN l (a+j)).toNat)
 | 0,a,j,h=>by omega
 | k+1,a,0,h=>by simp [bytesN]
 | k+1,a,j+1,h=>by simp only [bytesN,List.getElem?_cons_succ];rw [qiz l k (a+1) j (by omega)];congr 4;omega
theorem get_set (l:List Int) (j k:Nat) (x:Int) (hk:k<l.length):(l.set k x).getD j 0=if j=k then x else l.getD j 0:=by
 rw [List.getD_eq_getElem?_getD,List.getElem?_set,List.getD_eq_getElem?_getD]
 by_cases h:k=j
 ·subst h;simp [hk]
 ·rw [if_neg h,if_neg (fun e=>h e.symm)]
open Go.RowKit
set_option linter.unusedVariables false
set_option maxHeartbeats 4000000
set_option maxRecDepth 100000
attribute [local irreducible] wpQuiet
structure Tp where
 R:List ByteArray
 p:Int
 n:Bool
 r:Bool
 e:Bool
 m:Bool
 d:Bool
 c:Int
 k:Int
 a:Int
 l:Int
def Tp.z:Tp:=⟨[],0,false,false,false,false,false,0,0,0,0⟩
def Tp.new (R:List ByteArray):Tp:=⟨R,0,false,true,false,false,false,0,0,0,0⟩
def shortV (R:List ByteArray):Bool:=R.all (fun s=>decide (s.size≤512))
def newT (R:List ByteArray):Tp×Int:=if 64<R.length then (Tp.z,12) else if shortV R=true then (Tp.new R,0) else (Tp.z,7)
def wordV_17 (n:Int):Bool:=decide (0≤n) && decide (n≤65535)
def Tp.ok (K:Tp):Bool:=decide (K.R.length≤64) && decide (0≤K.p) && decide (K.p≤(K.R.length:Int)) && decide (0≤K.c) && decide (K.c≤6) && wordV_17 K.k && wordV_17 K.a && decide (0≤K.l) && decide (K.l≤16) && (K.r == decide (K.l=0))
def Tp.right (K:Tp):Bool:=K.ok && shortV K.R
def stT (K:Tp):Int:=2*K.c+(if K.n=true then 64 else 0)+(if K.r=true then 128 else 0)+(if K.m=true then 256 else 0)+(if K.d=true then 512 else 0)+(if K.e=true then 32768 else 0)
def Tp.rd (K:Tp) (g:Int):Int×Bool:=if g=0 then (stT K,true) else if g=2 then (K.k,true) else if g=4 then (K.a,true) else (0,false)
def Tp.go (K:Tp) (q:Int):Tp:=if q=0∨q=7 then {K with c:=0,e:=false,m:=false,d:=false} else {K with c:=q,e:=false,m:=false,d:=false,r:=false,l:=16}
def Tp.wr (K:Tp) (g v:Int):Tp×Bool :=
 if g=0 then (if K.r=true∧v%2=1 then ({K with n:=decide (v / 64%2=1)}.go (v / 2%8),true) else ({K with n:=decide (v / 64%2=1)},true))
 else if g=2 then (if K.r=true then {K with k:=v%65536} else K,true)
 else if g=4 then (if K.r=true then {K with a:=v%65536} else K,true)
 else (K,false)
def Tp.app (K:Tp) (s:ByteArray):Tp:=if 64≤K.p then {K with e:=true,d:=true} else {K with R:=K.R.take K.p.toNat++[s],p:=K.p+1}
def recV (K:Tp) (i:Int):ByteArray:=K.R.getD i.toNat ⟨#[]⟩
def Tp.pass (K:Tp):Tp×Bool:=if (K.R.length:Int)≤K.p then ({K with e:=true,d:=true},false) else ({K with m:=K.m || decide ((recV K K.p).size=0),p:=K.p+1},true)
def Tp.back (K:Tp):Tp:=if K.p=0 then {K with d:=true} else {K with p:=K.p - 1,m:=K.m || decide ((recV K (K.p - 1)).size=0)}
def clrV (B:List Int) (a:Int):Nat→List Int
 | 0=>B
 | n+1=>withoutP (clrV B a n) ((a+(n:Int)) / 2*2)
def splV (B:List Int) (a:Int) (n:Nat):Bool:=(List.range n).any (fun i=>B.contains ((a+(i:Int)) / 2*2))
def lenR (K:Tp):Nat:=(recV K K.p).size
def cntR (K:Tp):Nat:=min K.k.toNat (lenR K)
def Tp.read (K:Tp) (M B:List Int):Tp×List Int×List Int :=
 if (K.R.length:Int)≤K.p then (K.pass.1,M,B)
 else if inR (2*(M.length:Int)) K.a (cntR K)=true then ({K.pass.1 with e:=K.e || decide (K.k<(lenR K:Int)),k:=K.k - (cntR K:Int)},storeN M K.a.toNat ((recV K K.p).data.toList.take (cntR K)),clrV B K.a (cntR K))
 else ({K.pass.1 with e:=true},M,B)
def strV (l:List UInt8):ByteArray:=⟨l.toArray⟩
def Tp.write (K:Tp) (M B:List Int):Tp :=
 if (1≤K.k∧K.k≤512)∧inR (2*(M.length:Int)) K.a K.k=true∧splV B K.a K.k.toNat=false then K.app (strV (bytesN M K.a.toNat K.k.toNat)) else {K with e:=true}
def Tp.done (K:Tp) (M B:List Int):Tp×List Int×List Int :=
 if K.c=1 then K.read M B else if K.c=2 then (K.write M B,M,B) else if K.c=3 then (K.pass.1,M,B) else if K.c=4 then (K.back,M,B) else if K.c=5 then ({K with p:=0},M,B) else if K.c=6 then (K.app ⟨#[]⟩,M,B) else (K,M,B)
def Tp.tick (K:Tp) (M B:List Int):Tp×List Int×List Int:=if K.l≤0 then (K,M,B) else if 1<K.l then ({K with l:=K.l - 1},M,B) else {K with l:=0,r:=true}.done M B
def TpX (X:Nat→Prop) (w:World) (x:Value) (K:Tp):Prop:=∃ vs,x=.agg #[vs,.int .i64 K.p,.bool K.n,.bool K.r,.bool K.e,.bool K.m,.bool K.d,.int .i64 K.c,.int .i64 K.k,.int .i64 K.a,.int .i64 K.l]∧StsX X w vs K.R
theorem TpX.z (X:Nat→Prop) (w:World):TpX X w (.agg #[.slice none 0 0,.int .i64 0,.bool false,.bool false,.bool false,.bool false,.bool false,.int .i64 0,.int .i64 0,.int .i64 0,.int .i64 0]) Tp.z:=⟨_,rfl,Sv.nil X w⟩
theorem qcw (n:Int):wordV_17 n=true↔0≤n∧n≤65535:=by unfold wordV_17;simp
theorem qee (R:List ByteArray):shortV R=true↔∀ s∈R,s.size≤512:=by unfold shortV;simp
theorem Tp.ok_iff (K:Tp):K.ok=true↔K.R.length≤64∧(0≤K.p∧K.p≤(K.R.length:Int))∧(0≤K.c∧K.c≤6)∧wordV_17 K.k=true∧wordV_17 K.a=true∧(0≤K.l∧K.l≤16)∧K.r=decide (K.l=0):=by
 unfold Tp.ok;simp only [Bool.and_eq_true,decide_eq_true_eq,beq_iff_eq];constructor
 ·rintro ⟨⟨⟨⟨⟨⟨⟨⟨⟨h1,h2⟩,h3⟩,h4⟩,h5⟩,h6⟩,h7⟩,h8⟩,h9⟩,h10⟩;exact ⟨h1,⟨h2,h3⟩,⟨h4,h5⟩,h6,h7,⟨h8,h9⟩,h10⟩
 ·rintro ⟨h1,⟨h2,h3⟩,⟨h4,h5⟩,h6,h7,⟨h8,h9⟩,h10⟩;exact ⟨⟨⟨⟨⟨⟨⟨⟨⟨h1,h2⟩,h3⟩,h4⟩,h5⟩,h6⟩,h7⟩,h8⟩,h9⟩,h10⟩
theorem aggT (w:World):(isAgg 42).run Tryz.prog w=.ok true w:=by kernel_rfl
theorem sizT (w:World):(sizeOf 42).run Tryz.prog w=.ok 11 w:=by kernel_rfl
theorem qa0 (w:World) (cs ds:List Value):Bag [(w.heap.size+1,42,ds),(w.heap.size,42,cs)] w ((w.alloc (.cells cs.toArray 42)).alloc (.cells ds.toArray 42)):=by
 have h:=((Bag.nil w).new 42 cs).new 42 ds
 rw [show (w.alloc (.cells cs.toArray 42)).heap.size=w.heap.size+1 from Array.size_push ..] at h
 exact h
theorem qan {vs:Value} (h1:vs.oneCell'=true) (p:Int) (n r e m d:Bool) (c k a l:Int):∀ v∈([vs,.int .i64 p,.bool n,.bool r,.bool e,.bool m,.bool d,.int .i64 c,.int .i64 k,.int .i64 a,.int .i64 l]:List Value),v.oneCell'=true:=by
 intro u hu
 simp at hu
 rcases hu with rfl|rfl|rfl|rfl|rfl|rfl|rfl|rfl|rfl|rfl|rfl<;>first|rfl|assumption
def lnL (x:Ln):List Value:=[.bool x.a,.bool x.b,.bool x.o,.int .i64 x.d,.bool x.e,.bool x.f,.int .i64 x.t,.int .i64 x.l,.string x.s]
def dkL (vs vb:Value) (K:Dk):List Value:=[vs,vb,.bool K.n,.bool K.r,.bool K.e,.int .i64 K.c,.int .i64 K.w,.int .i64 K.a,.int .i64 K.s,.int .i64 K.l]
def tpL (vs:Value) (K:Tp):List Value:=[vs,.int .i64 K.p,.bool K.n,.bool K.r,.bool K.e,.bool K.m,.bool K.d,.int .i64 K.c,.int .i64 K.k,.int .i64 K.a,.int .i64 K.l]
structure Ma where
 C:List Value
 M:List Int
 B:List Int
 U:Un
 k:Ck
 L:List Ln
 K:Dk
 T:Tp
 now:Int
 h:Bool
 a:Bool
 pw:Int
 pt:Bool
def Ma.eL (A:Ma):List Value:=[.int .i64 A.now,.bool A.h,.bool A.a,.int .i64 A.pw,.bool A.pt]
def Ma.cells (A:Ma) (vm vb vl vs vd vt:Value):List Value:=maL A.C vm vb A.U.L A.k.L vl (dkL vs vd A.K) (tpL vt A.T) A.eL
def Ma.ok (A:Ma):Prop:=A.C.length=10∧(∀ v∈A.C,v.oneCell'=true)∧A.U.ok
theorem Ma.len {A:Ma} (h:A.ok) (vs vd vt:Value):MaLen A.C A.U.L A.k.L (dkL vs vd A.K) (tpL vt A.T) A.eL:=⟨h.1,Un.len h.2.2,rfl,rfl,rfl,rfl⟩
def Lns (w:World) (v:Value) (l:List Ln):Prop:=Rz w v l.length (l.flatMap lnL)
def LnsX (X:Nat→Prop) (w:World) (v:Value) (l:List Ln):Prop:=Sv X w v l.length (l.flatMap lnL)
def MaX (X:Nat→Prop) (w:World) (x:Value) (A:Ma):Prop:=∃ vm vb vl vs vd vt,x=.agg (A.cells vm vb vl vs vd vt).toArray∧ItsX X w vm A.M∧ItsX X w vb A.B∧LnsX X w vl A.L∧StsX X w vs A.K.D.S∧ItsX X w vd A.K.D.B∧StsX X w vt A.T.R
def Ma.right (A:Ma):Bool:=decide (A.L.length≤4) && A.L.all Ln.right && rightP A.M A.B && A.U.right && A.k.right && A.K.right && A.T.right
def physP (p:Int):Int:=p%262144
def Ma.isL (A:Ma) (off:Int):Bool:=decide (512≤off) && decide (off<512+8*(A.L.length:Int))
def lnAt (A:Ma) (off:Int):Ln:=A.L.getD ((off - 512) / 8).toNat Ln.new
def Ma.put (A:Ma) (off:Int) (x:Ln):Ma:={A with L:=A.L.set ((off - 512) / 8).toNat x}
def Ma.rdR (A:Ma) (off:Int):Ma×Int×Bool :=
 if A.isL off=true then (A.put off ((lnAt A off).rd ((off - 512)%8)).1,((lnAt A off).rd ((off - 512)%8)).2,true)
 else if off=256 then (A,A.k.read,true)
 else if 768≤off∧off≤774 then (A,(A.K.rd (off - 768)).1,(A.K.rd (off - 768)).2)
 else if 800≤off∧off≤804 then (A,(A.T.rd (off - 800)).1,(A.T.rd (off - 800)).2)
 else (A,(A.U.read off).1,(A.U.read off).2)
def Ma.wrR (A:Ma) (off v:Int):Ma×Bool :=
 if A.isL off=true then (A.put off ((lnAt A off).wr ((off - 512)%8) v),true)
 else if off=256 then ({A with k:=A.k.write v},true)
 else if 768≤off∧off≤774 then ({A with K:=(A.K.wr (off - 768) v).1},(A.K.wr (off - 768) v).2)
 else if 800≤off∧off≤804 then ({A with T:=(A.T.wr (off - 800) v).1},(A.T.wr (off - 800) v).2)
 else ({A with U:=(A.U.write off v).1},(A.U.write off v).2)
def Ma.read (A:Ma) (p:Int) (b:Bool):Ma×Int×Int :=
 if physP p<253952 then (A,readV A.M A.B (physP p) b,readT (2*(A.M.length:Int)) A.B (physP p) b)
 else if b=false∧(physP p - 253952)%2=1 then (A,0,1)
 else if (A.rdR ((physP p - 253952) / 2*2)).2.2=false then (A,0,1)
 else ((A.rdR ((physP p - 253952) / 2*2)).1,(if b=false then (A.rdR ((physP p - 253952) / 2*2)).2.1 else if (physP p - 253952)%2=1 then (A.rdR ((physP p - 253952) / 2*2)).2.1 / 256 else (A.rdR ((physP p - 253952) / 2*2)).2.1%256),0)
def lowV18 (v:Int) (b:Bool):Int:=if b=true then v%256 else v%65536
def Ma.write (A:Ma) (p:Int) (b:Bool) (v:Int):Ma×Int :=
 if physP p<253952 then (if writeT (2*(A.M.length:Int)) (physP p) b=0 then ({A with M:=writeM A.M (physP p) b (lowV18 v b),B:=writeB (2*(A.M.length:Int)) A.B (physP p) b},0) else (A,writeT (2*(A.M.length:Int)) (physP p) b))
 else if (physP p - 253952)%2=1 then (A,1)
 else if (A.wrR (physP p - 253952) (lowV18 v b)).2=false then (A,1)
 else ((A.wrR (physP p - 253952) (lowV18 v b)).1,0)
def Ma.tick (A:Ma):Ma :=
 {A with k:=A.k.tick,L:=A.L.map Ln.tick,K:=(A.K.tick A.M A.B).1,T:=(A.T.tick (A.K.tick A.M A.B).2.1 (A.K.tick A.M A.B).2.2).1,M:=(A.T.tick (A.K.tick A.M A.B).2.1 (A.K.tick A.M A.B).2.2).2.1,B:=(A.T.tick (A.K.tick A.M A.B).2.1 (A.K.tick A.M A.B).2.2).2.2}
theorem aggM (w:World):(isAgg 44).run Tryz.prog w=.ok true w:=by kernel_rfl
theorem sizM (w:World):(sizeOf 44).run Tryz.prog w=.ok 110 w:=by kernel_rfl
theorem aggL (w:World):(isAgg 68).run Tryz.prog w=.ok true w:=by kernel_rfl
theorem sizL (w:World):(sizeOf 68).run Tryz.prog w=.ok 9 w:=by kernel_rfl
theorem qbd (w:World) (cs ds:List Value):Bag [(w.heap.size+1,68,ds),(w.heap.size,68,cs)] w ((w.alloc (.cells cs.toArray 68)).alloc (.cells ds.toArray 68)):=by
 have h:=((Bag.nil w).new 68 cs).new 68 ds
 rw [show (w.alloc (.cells cs.toArray 68)).heap.size=w.heap.size+1 from Array.size_push ..] at h
 exact h
theorem ql9 (a b o:Bool) (d:Int) (e f:Bool) (t l:Int) (s:ByteArray):∀ v∈([.bool a,.bool b,.bool o,.int .i64 d,.bool e,.bool f,.int .i64 t,.int .i64 l,.string s]:List Value),v.oneCell'=true:=by
 intro u hu
 simp at hu
 rcases hu with rfl|rfl|rfl|rfl|rfl|rfl|rfl|rfl|rfl<;>rfl
theorem and_64 (n:Int):(bits .and .i64 n 64 != 0)=decide (n / 64%2=1):=by
 have h1:bits .and .i64 n 64=n / 64%2*64:=qd1 (c:=64) (by decide) (qe7 _ 6 1) (by intro h;omega)
 rw [h1,Bool.eq_iff_iff];simp;omega
theorem qs5 (w:World):Calls Tryz.prog 71 #[] w fun e' w'=>e'=.returned (.agg #[.bool (Ln.new).a,.bool (Ln.new).b,.bool (Ln.new).o,.int .i64 (Ln.new).d,.bool (Ln.new).e,.bool (Ln.new).f,.int .i64 (Ln.new).t,.int .i64 (Ln.new).l,.string (Ln.new).s])∧Below w.heap.size w w':=by
 go_enter Tryz.func71,Tryz.ntmps71
 go_wp2
 exact bodyPost_ret (qaj Tryz.results71 rfl ((((Bag.nil w).new 68 _).all _ _ _ List.mem_cons_self).loadVar rfl aggL sizL)) rfl ⟨rfl,((Bag.nil w).new 68 _).below⟩
theorem qsy (a b o:Bool) (d:Int) (e f:Bool) (t l:Int) (s:ByteArray) (c0:d<0) (w:World):Calls Tryz.prog 30 #[.agg #[.bool a,.bool b,.bool o,.int .i64 d,.bool e,.bool f,.int .i64 t,.int .i64 l,.string s]] w fun e' w'=>e'=.returned (.bool (false))∧Below w.heap.size w w':=by
 have d0:decide (d<0)=true:=decide_eq_true c0
 go_enter Tryz.func30,Tryz.ntmps30
 go_wp2
 go_ret
 exact ⟨rfl,((Bag.nil w).new 68 _).below⟩
theorem qq8 (a b o:Bool) (d:Int) (e f:Bool) (t l:Int) (s:ByteArray) (c0:¬ d<0) (c1:255<d) (w:World):Calls Tryz.prog 30 #[.agg #[.bool a,.bool b,.bool o,.int .i64 d,.bool e,.bool f,.int .i64 t,.int .i64 l,.string s]] w fun e' w'=>e'=.returned (.bool (false))∧Below w.heap.size w w':=by
 have d0:decide (d<0)=false:=decide_eq_false c0
 have d1:decide (255<d)=true:=decide_eq_true c1
 go_enter Tryz.func30,Tryz.ntmps30
 go_wp2
 go_ret
 exact ⟨rfl,((Bag.nil w).new 68 _).below⟩
theorem qtd (a b o:Bool) (d:Int) (e f:Bool) (t l:Int) (s:ByteArray) (c0:¬ d<0) (c1:¬ 255<d) (c2:t<0) (w:World):Calls Tryz.prog 30 #[.agg #[.bool a,.bool b,.bool o,.int .i64 d,.bool e,.bool f,.int .i64 t,.int .i64 l,.string s]] w fun e' w'=>e'=.returned (.bool (false))∧Below w.heap.size w w':=by
 have d0:decide (d<0)=false:=decide_eq_false c0
 have d1:decide (255<d)=false:=decide_eq_false c1
 have d2:decide (t<0)=true:=decide_eq_true c2
 go_enter Tryz.func30,Tryz.ntmps30
 go_wp2
 go_ret
 exact ⟨rfl,((Bag.nil w).new 68 _).below⟩
theorem qun (a b o:Bool) (d:Int) (e f:Bool) (t l:Int) (s:ByteArray) (c0:¬ d<0) (c1:¬ 255<d) (c2:¬ t<0) (c3:255<t) (w:World):Calls Tryz.prog 30 #[.agg #[.bool a,.bool b,.bool o,.int .i64 d,.bool e,.bool f,.int .i64 t,.int .i64 l,.string s]] w fun e' w'=>e'=.returned (.bool (false))∧Below w.heap.size w w':=by
 have d0:decide (d<0)=false:=decide_eq_false c0
 have d1:decide (255<d)=false:=decide_eq_false c1
 have d2:decide (t<0)=false:=decide_eq_false c2
 have d3:decide (255<t)=true:=decide_eq_true c3
 go_enter Tryz.func30,Tryz.ntmps30
 go_wp2
 go_ret
 exact ⟨rfl,((Bag.nil w).new 68 _).below⟩
theorem qr4 (a b o:Bool) (d:Int) (e f:Bool) (t l:Int) (s:ByteArray) (c0:¬ d<0) (c1:¬ 255<d) (c2:¬ t<0) (c3:¬ 255<t) (c4:4096<(s.size:Int)) (w:World):Calls Tryz.prog 30 #[.agg #[.bool a,.bool b,.bool o,.int .i64 d,.bool e,.bool f,.int .i64 t,.int .i64 l,.string s]] w fun e' w'=>e'=.returned (.bool (false))∧Below w.heap.size w w':=by
 have d0:decide (d<0)=false:=decide_eq_false c0
 have d1:decide (255<d)=false:=decide_eq_false c1
 have d2:decide (t<0)=false:=decide_eq_false c2
 have d3:decide (255<t)=false:=decide_eq_false c3
 have d4:decide (4096<(s.size:Int))=true:=decide_eq_true c4
 go_enter Tryz.func30,Tryz.ntmps30
 go_wp2
 go_ret
 exact ⟨rfl,((Bag.nil w).new 68 _).below⟩
theorem qru (a b o:Bool) (d:Int) (e f:Bool) (t l:Int) (s:ByteArray) (c0:¬ d<0) (c1:¬ 255<d) (c2:¬ t<0) (c3:¬ 255<t) (c4:¬ 4096<(s.size:Int)) (c5:¬ 0≤l) (w:World):Calls Tryz.prog 30 #[.agg #[.bool a,.bool b,.bool o,.int .i64 d,.bool e,.bool f,.int .i64 t,.int .i64 l,.string s]] w fun e' w'=>e'=.returned (.bool (false))∧Below w.heap.size w w':=by
 have d0:decide (d<0)=false:=decide_eq_false c0
 have d1:decide (255<d)=false:=decide_eq_false c1
 have d2:decide (t<0)=false:=decide_eq_false c2
 have d3:decide (255<t)=false:=decide_eq_false c3
 have d4:decide (4096<(s.size:Int))=false:=decide_eq_false c4
 have d5:decide (0≤l)=false:=decide_eq_false c5
 go_enter Tryz.func30,Tryz.ntmps30
 go_wp2
 go_ret
 exact ⟨rfl,((Bag.nil w).new 68 _).below⟩
theorem qro (a b o:Bool) (d:Int) (e f:Bool) (t l:Int) (s:ByteArray) (c0:¬ d<0) (c1:¬ 255<d) (c2:¬ t<0) (c3:¬ 255<t) (c4:¬ 4096<(s.size:Int)) (c5:0≤l) (c6:¬ l≤4) (w:World):Calls Tryz.prog 30 #[.agg #[.bool a,.bool b,.bool o,.int .i64 d,.bool e,.bool f,.int .i64 t,.int .i64 l,.string s]] w fun e' w'=>e'=.returned (.bool (false))∧Below w.heap.size w w':=by
 have d0:decide (d<0)=false:=decide_eq_false c0
 have d1:decide (255<d)=false:=decide_eq_false c1
 have d2:decide (t<0)=false:=decide_eq_false c2
 have d3:decide (255<t)=false:=decide_eq_false c3
 have d4:decide (4096<(s.size:Int))=false:=decide_eq_false c4
 have d5:decide (0≤l)=true:=decide_eq_true c5
 have d6:decide (l≤4)=false:=decide_eq_false c6
 go_enter Tryz.func30,Tryz.ntmps30
 go_wp2
 go_ret
 exact ⟨rfl,((Bag.nil w).new 68 _).below⟩
theorem qrn (a b o:Bool) (d:Int) (e f:Bool) (t l:Int) (s:ByteArray) (c0:¬ d<0) (c1:¬ 255<d) (c2:¬ t<0) (c3:¬ 255<t) (c4:¬ 4096<(s.size:Int)) (c5:0≤l) (c6:l≤4) (w:World):Calls Tryz.prog 30 #[.agg #[.bool a,.bool b,.bool o,.int .i64 d,.bool e,.bool f,.int .i64 t,.int .i64 l,.string s]] w fun e' w'=>e'=.returned (.bool (f == (l == 0)))∧Below w.heap.size w w':=by
 have d0:decide (d<0)=false:=decide_eq_false c0
 have d1:decide (255<d)=false:=decide_eq_false c1
 have d2:decide (t<0)=false:=decide_eq_false c2
 have d3:decide (255<t)=false:=decide_eq_false c3
 have d4:decide (4096<(s.size:Int))=false:=decide_eq_false c4
 have d5:decide (0≤l)=true:=decide_eq_true c5
 have d6:decide (l≤4)=true:=decide_eq_true c6
 go_enter Tryz.func30,Tryz.ntmps30
 go_wp2
 go_ret
 exact ⟨rfl,((Bag.nil w).new 68 _).below⟩
theorem qmf (x:Ln) (w:World):Calls Tryz.prog 30 #[.agg #[.bool (x).a,.bool (x).b,.bool (x).o,.int .i64 (x).d,.bool (x).e,.bool (x).f,.int .i64 (x).t,.int .i64 (x).l,.string (x).s]] w fun e' w'=>e'=.returned (.bool x.right)∧Below w.heap.size w w':=by
 obtain ⟨a,b,o,d,e,f,t,l,s⟩:=x
 by_cases c0:d<0
 ·rw [show Ln.right ⟨a,b,o,d,e,f,t,l,s⟩=false from by unfold Ln.right;simp;omega]
  exact qsy a b o d e f t l s c0 w
 by_cases c1:255<d
 ·rw [show Ln.right ⟨a,b,o,d,e,f,t,l,s⟩=false from by unfold Ln.right;simp;omega]
  exact qq8 a b o d e f t l s c0 c1 w
 by_cases c2:t<0
 ·rw [show Ln.right ⟨a,b,o,d,e,f,t,l,s⟩=false from by unfold Ln.right;simp;omega]
  exact qtd a b o d e f t l s c0 c1 c2 w
 by_cases c3:255<t
 ·rw [show Ln.right ⟨a,b,o,d,e,f,t,l,s⟩=false from by unfold Ln.right;simp;omega]
  exact qun a b o d e f t l s c0 c1 c2 c3 w
 by_cases c4:4096<(s.size:Int)
 ·rw [show Ln.right ⟨a,b,o,d,e,f,t,l,s⟩=false from by unfold Ln.right;simp;omega]
  exact qr4 a b o d e f t l s c0 c1 c2 c3 c4 w
 by_cases c5:¬ 0≤l
 ·rw [show Ln.right ⟨a,b,o,d,e,f,t,l,s⟩=false from by unfold Ln.right;simp;omega]
  exact qru a b o d e f t l s c0 c1 c2 c3 c4 c5 w
 replace c5:0≤l:=by omega
 by_cases c6:¬ l≤4
 ·rw [show Ln.right ⟨a,b,o,d,e,f,t,l,s⟩=false from by unfold Ln.right;simp;omega]
  exact qro a b o d e f t l s c0 c1 c2 c3 c4 c5 c6 w
 replace c6:l≤4:=by omega
 rw [show Ln.right ⟨a,b,o,d,e,f,t,l,s⟩=(f == (l == 0)) from by
  unfold Ln.right
  have h0:decide (l=0)=(l == 0):=by rw [Bool.eq_iff_iff];simp
  simp only [h0]
  rw [decide_eq_true (show 0≤d by omega),decide_eq_true (show d≤255 by omega),decide_eq_true (show 0≤t by omega),decide_eq_true (show t≤255 by omega),decide_eq_true (show s.size≤4096 by omega),decide_eq_true c5,decide_eq_true c6];rfl]
 exact qrn a b o d e f t l s c0 c1 c2 c3 c4 c5 c6 w
theorem rright_0 (e r:Bool) (p l:Int)  (c0:¬ 1≤p) (w:World):Calls Tryz.prog 33 #[.agg #[.bool e,.bool r,.int .i64 p,.int .i64 l]] w fun e' w'=>e'=.returned (.bool false)∧Below w.heap.size w w':=by
 have d0:decide (1≤p)=false:=decide_eq_false c0
 go_enter Tryz.func33,Tryz.ntmps33
 go_wp2
 go_ret
 exact ⟨rfl,((Bag.nil w).new 34 _).below⟩
theorem rright_1 (e r:Bool) (p l:Int) (c0:1≤p) (c1:¬ p≤65535) (w:World):Calls Tryz.prog 33 #[.agg #[.bool e,.bool r,.int .i64 p,.int .i64 l]] w fun e' w'=>e'=.returned (.bool false)∧Below w.heap.size w w':=by
 have d0:decide (1≤p)=true:=decide_eq_true c0
 have d1:decide (p≤65535)=false:=decide_eq_false c1
 go_enter Tryz.func33,Tryz.ntmps33
 go_wp2
 go_ret
 exact ⟨rfl,((Bag.nil w).new 34 _).below⟩
theorem rright_2 (e r:Bool) (p l:Int) (c0:1≤p) (c1:p≤65535) (c2:¬ 1≤l) (w:World):Calls Tryz.prog 33 #[.agg #[.bool e,.bool r,.int .i64 p,.int .i64 l]] w fun e' w'=>e'=.returned (.bool false)∧Below w.heap.size w w':=by
 have d0:decide (1≤p)=true:=decide_eq_true c0
 have d1:decide (p≤65535)=true:=decide_eq_true c1
 have d2:decide (1≤l)=false:=decide_eq_false c2
 go_enter Tryz.func33,Tryz.ntmps33
 go_wp2
 go_ret
 exact ⟨rfl,((Bag.nil w).new 34 _).below⟩
theorem rright_3 (e r:Bool) (p l:Int) (c0:1≤p) (c1:p≤65535) (c2:1≤l) (c3:¬ l≤p) (w:World):Calls Tryz.prog 33 #[.agg #[.bool e,.bool r,.int .i64 p,.int .i64 l]] w fun e' w'=>e'=.returned (.bool false)∧Below w.heap.size w w':=by
 have d0:decide (1≤p)=true:=decide_eq_true c0
 have d1:decide (p≤65535)=true:=decide_eq_true c1
 have d2:decide (1≤l)=true:=decide_eq_true c2
 have d3:decide (l≤p)=false:=decide_eq_false c3
 go_enter Tryz.func33,Tryz.ntmps33
 go_wp2
 go_ret
 exact ⟨rfl,((Bag.nil w).new 34 _).below⟩
theorem rright_4 (e r:Bool) (p l:Int) (c0:1≤p) (c1:p≤65535) (c2:1≤l) (c3:l≤p) (w:World):Calls Tryz.prog 33 #[.agg #[.bool e,.bool r,.int .i64 p,.int .i64 l]] w fun e' w'=>e'=.returned (.bool true)∧Below w.heap.size w w':=by
 have d0:decide (1≤p)=true:=decide_eq_true c0
 have d1:decide (p≤65535)=true:=decide_eq_true c1
 have d2:decide (1≤l)=true:=decide_eq_true c2
 have d3:decide (l≤p)=true:=decide_eq_true c3
 go_enter Tryz.func33,Tryz.ntmps33
 go_wp2
 go_ret
 exact ⟨rfl,((Bag.nil w).new 34 _).below⟩
theorem qjv (c:Ck) (w:World):Calls Tryz.prog 33 #[.agg #[.bool c.e,.bool c.r,.int .i64 c.p,.int .i64 c.l]] w fun e' w'=>e'=.returned (.bool c.right)∧Below w.heap.size w w':=by
 obtain ⟨e,r,p,l⟩:=c
 unfold Ck.right
 by_cases c0:¬ 1≤p
 ·have:=rright_0 e r p l c0 w
  simpa [c0] using this
 replace c0:1≤p:=by omega
 by_cases c1:¬ p≤65535
 ·have:=rright_1 e r p l c0 c1 w
  simpa [c0,c1] using this
 replace c1:p≤65535:=by omega
 by_cases c2:¬ 1≤l
 ·have:=rright_2 e r p l c0 c1 c2 w
  simpa [c0,c1,c2] using this
 replace c2:1≤l:=by omega
 by_cases c3:¬ l≤p
 ·have:=rright_3 e r p l c0 c1 c2 c3 w
  simpa [c0,c1,c2,c3] using this
 replace c3:l≤p:=by omega
 have:=rright_4 e r p l c0 c1 c2 c3 w
 simpa [c0,c1,c2,c3] using this
theorem rtick_1 (e r:Bool) (p:Int) (w:World):Calls Tryz.prog 49 #[.agg #[.bool e,.bool r,.int .i64 p,.int .i64 1]] w fun e' w'=>e'=.returned (.agg #[.bool e,.bool true,.int .i64 p,.int .i64 p])∧Below w.heap.size w w':=by
 go_enter Tryz.func49,Tryz.ntmps49
 go_wp2
 exact bodyPost_ret (qaj Tryz.results49 rfl (((qde w _ _).all _ _ _ List.mem_cons_self).loadVar rfl qbv qbx)) rfl ⟨rfl,(qde w _ _).below⟩
theorem rtick_n (e r:Bool) (p l:Int) (h:1≤l∧l≤65535) (hne:¬ l=1) (w:World):Calls Tryz.prog 49 #[.agg #[.bool e,.bool r,.int .i64 p,.int .i64 l]] w fun e' w'=>e'=.returned (.agg #[.bool e,.bool r,.int .i64 p,.int .i64 (l - 1)])∧Below w.heap.size w w':=by
 have hw:wrap64 (l - 1)=l - 1:=by unfold wrap64;omega
 have hz:(l - 1 == 0)=false:=by simp;omega
 go_enter Tryz.func49,Tryz.ntmps49
 go_wp2
 exact bodyPost_ret (qaj Tryz.results49 rfl (((qde w _ _).all _ _ _ List.mem_cons_self).loadVar rfl qbv qbx)) rfl ⟨rfl,(qde w _ _).below⟩
theorem qri (c:Ck) (h:c.right=true) (w:World):Calls Tryz.prog 49 #[.agg #[.bool c.e,.bool c.r,.int .i64 c.p,.int .i64 c.l]] w fun e' w'=>e'=.returned (.agg #[.bool (c.tick).e,.bool (c.tick).r,.int .i64 (c.tick).p,.int .i64 (c.tick).l])∧Below w.heap.size w w':=by
 have h':=(Ck.right_iff c).1 h
 obtain ⟨e,r,p,l⟩:=c
 unfold Ck.tick
 simp only at h' ⊢
 by_cases hl:l=1
 ·subst hl
  exact rtick_1 e r p w
 ·rw [if_neg hl]
  exact rtick_n e r p l (by omega) hl w
theorem and_bits (v:Int):(bits .and .i64 v 64 != 0)=decide (v / 64%2=1)∧(bits .and .i64 v 128 != 0)=decide (v / 128%2=1):=by
 have h1:bits .and .i64 v 64=v / 64%2*64:=qd1 (c:=64) (by decide) (qe7 _ 6 1) (by intro h;omega)
 have h2:bits .and .i64 v 128=v / 128%2*128:=qd1 (c:=128) (by decide) (qe7 _ 7 1) (by intro h;omega)
 constructor
 ·rw [h1,Bool.eq_iff_iff];simp;omega
 ·rw [h2,Bool.eq_iff_iff];simp;omega
theorem qno (n:Int) (w:World):Calls Tryz.prog 69 #[.int .i64 n] w fun e' w'=>e'=.returned (.tuple #[.agg #[.bool ((newK n).1).e,.bool ((newK n).1).r,.int .i64 ((newK n).1).p,.int .i64 ((newK n).1).l],.int .i64 (newK n).2])∧Below w.heap.size w w':=by
 unfold newK
 have hX:=(Bag.nil w).new 34 [.bool false,.bool false,.int .i64 0,.int .i64 0]
 by_cases h1:n<1
 ·have d1:decide (n<1)=true:=decide_eq_true h1
  rw [if_neg (by omega)]
  go_enter Tryz.func69,Tryz.ntmps69
  go_wp2
  exact bodyPost_ret (qam Tryz.results69 rfl ((((Bag.nil w).new 34 _).all _ _ _ List.mem_cons_self).loadVar rfl qbv qbx)) rfl ⟨rfl,((Bag.nil w).new 34 _).below⟩
 ·have d1:decide (n<1)=false:=decide_eq_false h1
  by_cases h2:65535<n
  ·have d2:decide (65535<n)=true:=decide_eq_true h2
   rw [if_neg (by omega)]
   go_enter Tryz.func69,Tryz.ntmps69
   go_wp2
   exact bodyPost_ret (qam Tryz.results69 rfl ((((Bag.nil w).new 34 _).all _ _ _ List.mem_cons_self).loadVar rfl qbv qbx)) rfl ⟨rfl,((Bag.nil w).new 34 _).below⟩
  ·have d2:decide (65535<n)=false:=decide_eq_false h2
   rw [if_pos (by omega)]
   go_enter Tryz.func69,Tryz.ntmps69
   go_wp2
   exact bodyPost_ret (qam Tryz.results69 rfl ((((Bag.nil w).new 34 _).all _ _ _ List.mem_cons_self).loadVar rfl qbv qbx)) rfl ⟨rfl,((Bag.nil w).new 34 _).below⟩
theorem qin (n:Int) (w:World):Calls Tryz.prog 79 #[.int .i64 n] w fun e' w'=>e'=.returned (.bool (wordV_17 n))∧Below w.heap.size w w':=by
 have hB:=Below.refl w.heap.size w
 unfold wordV_17
 by_cases h1:0≤n
 ·have d1:decide (0≤n)=true:=decide_eq_true h1
  go_enter Tryz.func79,Tryz.ntmps79
  go_wp2
  go_ret
  exact ⟨by simp [h1],hB⟩
 ·have d1:decide (0≤n)=false:=decide_eq_false h1
  go_enter Tryz.func79,Tryz.ntmps79
  go_wp2
  go_ret
  exact ⟨by simp,hB⟩
theorem qaw (w:World):(sizeOf 3).run Tryz.prog w=.ok 1 w:=by kernel_rfl
theorem qc4 (w:World):(sizeOf 4).run Tryz.prog w=.ok 1 w:=by kernel_rfl
theorem andT64 (n:Int):(bits .and .i64 n 64 != 0)=decide (n / 64%2=1):=by
 have h1:bits .and .i64 n 64=n / 64%2*64:=qd1 (c:=64) (by decide) (qe7 _ 6 1) (by intro h;omega)
 rw [h1,Bool.eq_iff_iff];simp;omega
theorem andT7 (n:Int):bits .and .i64 n 7=n%8:=qd1 (c:=7) (by decide) (qe7 _ 0 3) (by intro h;omega)
theorem andT16 (n:Int):bits .and .i64 n 65535=n%65536:=qd1 (c:=65535) (by decide) (qe7 _ 0 16) (by intro h;omega)
end Go.Proofs.YthpnddgfgpacpaaGreat
