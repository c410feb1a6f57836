import Derived.Test.YthpnddgfgpacpaaGreatRT00
import Derived.BigQuiet
import Derived.Lib.Strings
import Derived.Maps.AppendAt
import Derived.Laws.AppendOwnNone
import Derived.Laws.IdiomStrings
import Derived.Lib.BufferRead
namespace Go.Proofs.YthpnddgfgpacpaaGreat
open Go.RowKit
theorem qa5 {P:Program} {id:Nat} {Q:Exit→Act→World→Prop} {a:Act} {w:World} {l:List Oper} (C:World→Prop) (hm:P.follows .mixedOrders=true) (hB:Region.lexB .any l.toArray=true) (hC:C w.drew)
 (h:wpQuiet P l.toArray C (fun a'=>∀ w',C w'→Q .normal a' w') l a):(Code.region id l.toArray true).wp P Q a w :=
 wp_region_quiet hm hB hC (by simpa using h)
section
variable {P:Program} {ops:Array Oper} {Q:Exit→Act→World→Prop} {l:List Oper} {a:Act} {w:World} {T ty:TypeId} {x y:Operand} {dst:Option Tmp} {pos:String} {after:Array Edge} {g:Option (Nat×Bool)}
theorem qah (h:wpList P ops Q ({dst:=dst,op:=.store T x y,type:=ty,pos:=pos,after:=after,guard:=g} :: l) a w):wpList P ops Q ({dst:=dst,op:=.store T x y,type:=ty,pos:=pos,after:=after,guard:=g} :: l) a w:=h
theorem qab (h:wpList P ops Q ({dst:=dst,op:=.load T x,type:=ty,pos:=pos,after:=after,guard:=g} :: l) a w):wpList P ops Q ({dst:=dst,op:=.load T x,type:=ty,pos:=pos,after:=after,guard:=g} :: l) a w:=h
end
set_option linter.unusedSimpArgs false
set_option linter.unusedVariables false
set_option maxHeartbeats 4000000
set_option maxRecDepth 100000
attribute [local irreducible] wpQuiet
structure Ck where
 e:Bool
 r:Bool
 p:Int
 l:Int
def Ck.L (c:Ck):List Value:=[.bool c.e,.bool c.r,.int .i64 c.p,.int .i64 c.l]
def Ck.right (c:Ck):Bool:=decide (1≤c.p) && decide (c.p≤65535) && decide (1≤c.l) && decide (c.l≤c.p)
def Ck.tick (c:Ck):Ck:=if c.l=1 then {c with r:=true,l:=c.p} else {c with l:=c.l - 1}
def Ck.read (c:Ck):Int:=(if c.e=true then 64 else 0)+(if c.r=true then 128 else 0)
def Ck.write (c:Ck) (v:Int):Ck:={c with e:=decide (v / 64%2=1),r:=c.r && decide (v / 128%2=1)}
def Ck.z:Ck:=⟨false,false,0,0⟩
def newK (n:Int):Ck×Int:=if 1≤n∧n≤65535 then (⟨false,false,n,n⟩,0) else (Ck.z,2)
theorem Ck.right_iff (c:Ck):c.right=true↔1≤c.p∧c.p≤65535∧1≤c.l∧c.l≤c.p:=by
 unfold Ck.right
 simp only [Bool.and_eq_true,decide_eq_true_eq]
 omega
theorem qbv (w:World):(isAgg 34).run Tryz.prog w=.ok true w:=by kernel_rfl
theorem qbx (w:World):(sizeOf 34).run Tryz.prog w=.ok 4 w:=by kernel_rfl
theorem qde (w:World) (cs ds:List Value):Bag [(w.heap.size+1,34,ds),(w.heap.size,34,cs)] w ((w.alloc (.cells cs.toArray 34)).alloc (.cells ds.toArray 34)):=by
 have h:=((Bag.nil w).new 34 cs).new 34 ds
 rw [show (w.alloc (.cells cs.toArray 34)).heap.size=w.heap.size+1 from Array.size_push ..] at h
 exact h
section
variable {ops:Array Oper} {rest:List Oper} {o:Oper} {a:Act} {w w0 w1:World} {Q:Exit→Act→World→Prop} {l:List (Nat×TypeId×List Value)}
end
structure Ln where
 a:Bool
 b:Bool
 o:Bool
 d:Int
 e:Bool
 f:Bool
 t:Int
 l:Int
 s:ByteArray
def Ln.new:Ln:=⟨false,false,false,0,false,true,0,0,⟨#[]⟩⟩
def Ln.right (x:Ln):Bool:=decide (0≤x.d) && decide (x.d≤255) && decide (0≤x.t) && decide (x.t≤255) && decide (x.s.size≤4096) && decide (0≤x.l) && decide (x.l≤4) && (x.f == decide (x.l=0))
def stB (e r:Bool):Int:=(if e=true then 64 else 0)+(if r=true then 128 else 0)
def Ln.rd (x:Ln) (reg:Int):Ln×Int :=
 if reg=0 then (x,stB x.a x.b)
 else if reg=2 then ({x with b:=false,o:=false},x.d+(if x.o=true then 32768 else 0))
 else if reg=4 then (x,stB x.e x.f)
 else (x,0)
def Ln.wr (x:Ln) (reg n:Int):Ln :=
 if reg=0 then {x with a:=decide (n / 64%2=1)}
 else if reg=4 then {x with e:=decide (n / 64%2=1)}
 else if reg=6 then (if x.f=true then {x with t:=n%256,l:=4,f:=false} else x)
 else x
def lastO (l:List UInt8):List UInt8:=l.drop (l.length - 4096)
def Ln.tick (x:Ln):Ln :=
 if x.l≤0 then x
 else if 1<x.l then {x with l:=x.l - 1}
 else {x with l:=0,f:=true,s:=⟨(lastO (x.s.data.toList++[UInt8.ofNat x.t.toNat])).toArray⟩}
structure Drv where
 S:List ByteArray
 B:List Int
def Drv.z:Drv:=⟨[],[]⟩
def zB (n:Nat):ByteArray:=⟨(List.replicate n (0:UInt8)).toArray⟩
theorem qms (n:Nat):(zB n).size=n:=by show (List.replicate n (0:UInt8)).toArray.size=n;simp
def newV (n:Int):Drv×Int:=if 1≤n∧n≤256 then (⟨List.replicate n.toNat (zB 128),[]⟩,0) else (Drv.z,2)
def okAt (n:Nat) (B:List Int) (k:Nat):Bool:=decide (0≤B.getD k 0) && decide (B.getD k 0<(n:Int)) && (decide (k=0) || decide (B.getD (k - 1) 0<B.getD k 0))
def okB (n:Nat) (B:List Int):Bool:=(List.range B.length).all (okAt n B)
def Drv.right (D:Drv):Bool:=decide (1≤D.S.length) && decide (D.S.length≤256) && D.S.all (fun s=>s.size == 128) && okB D.S.length D.B
def Drv.rd (D:Drv) (k:Int):ByteArray×Int:=if 0≤k∧k<(D.S.length:Int) then (if D.B.contains k=true then (⟨#[]⟩,21) else (D.S.getD k.toNat ⟨#[]⟩,0)) else (⟨#[]⟩,2)
def Drv.wr (D:Drv) (k:Int) (s:ByteArray):Drv×Int :=
 if 0≤k∧k<(D.S.length:Int) then (if 128<s.size then (Drv.z,7) else if D.B.contains k=true then (Drv.z,21) else (⟨D.S.set k.toNat (s++zB (128 - s.size)),D.B⟩,0)) else (Drv.z,2)
theorem qdk (n:Nat) (B:List Int) (k:Nat):okAt n B k=true↔0≤B.getD k 0∧B.getD k 0<(n:Int)∧(k=0∨B.getD (k - 1) 0<B.getD k 0):=by
 unfold okAt;simp only [Bool.and_eq_true,Bool.or_eq_true,decide_eq_true_eq];constructor
 ·rintro ⟨⟨a,b⟩,c⟩;exact ⟨a,b,c⟩
 ·rintro ⟨a,b,c⟩;exact ⟨⟨a,b⟩,c⟩
theorem qdw (n:Nat) (B:List Int):okB n B=true↔∀ k,k<B.length→okAt n B k=true:=by
 unfold okB;rw [List.all_eq_true];constructor
 ·intro h k hk;exact h k (List.mem_range.2 hk)
 ·intro h k hk;exact h k (List.mem_range.1 hk)
theorem qb1 (D:Drv):D.right=true↔1≤D.S.length∧D.S.length≤256∧(∀ s∈D.S,s.size=128)∧okB D.S.length D.B=true:=by
 unfold Drv.right;simp only [Bool.and_eq_true,decide_eq_true_eq,List.all_eq_true,beq_iff_eq];constructor
 ·rintro ⟨⟨⟨a,b⟩,c⟩,d⟩;exact ⟨a,b,c,d⟩
 ·rintro ⟨a,b,c,d⟩;exact ⟨⟨⟨a,b⟩,c⟩,d⟩
theorem qkg {B:List Int} {k:Nat} {b:Int} (h:B[k]? = some b):B.getD k 0=b:=by rw [List.getD_eq_getElem?_getD,h];rfl
theorem infU:(Tryz.prog.info? 5).map (fun i=>(i.zero,i.size,i.bytes))=some (some (.int .u8 0),1,1):=by kernel_rfl
theorem qi0:∃ i:TypeInfo,Tryz.prog.info? 5=some i∧i.zero=some (.int .u8 0)∧i.size=1∧i.bytes=1:=by
 have h:=infU
 cases hi:Tryz.prog.info? 5 with
 | none=>rw [hi] at h;cases h
 | some i =>
   rw [hi] at h
   simp only [Option.map_some,Option.some.injEq,Prod.mk.injEq] at h
   exact ⟨i,rfl,h.1,h.2.1,h.2.2⟩
theorem qfb {w:World} {ops:Array Oper} {rest:List Oper} {o:Oper} {a:Act} {Q:Exit→Act→World→Prop} (hgd:o.guard=none) (s x:Operand)
 (ho:o.op=.call {callee:=.builtin .append,args:=#[s,x],argTypes:=#[167,167]}) (N:Nat) (v:Value) (n:Nat) (xs:List Value) (hs:a.eval s=v) (hown:w.ownsRow N 5 1 v n xs)
 (ad:Addr) (m c:Nat) (news:List Value) (hx:a.eval x=.slice (some ad) m c) (hl:news.length=m) (hnews:∀ j u,news[j]? = some u→w.cell? (ad.add j)=some u) (h1:∀ u∈news,u.oneCell'=true)
 (hb:n+m≤2199023255554) (hN:N≤w.heap.size)
 (h:∀ v' w',w'.ownsRow N 5 1 v' (n+m) (xs++news)→Below N w w'→(v'=.slice none 0 0↔v=.slice none 0 0∧m=0)→wpList Tryz.prog ops Q rest (a.put o.dst v') w'):wpList Tryz.prog ops Q (o :: rest) a w:=by
 obtain ⟨i,hi,hz,hsz,hby⟩:=qi0
 refine wpList_append_own _ hgd s x 167 ho N 5 i (.int .u8 0) 1 1 Tryz.underlying167 hi hz hsz hby rfl (by decide) v n xs hs hown ad m c news hx (by omega) hnews h1 (by unfold maxLen;omega) (by omega) hN ?_
 intro v' w' ho' hg hnil
 exact h v' w' ho' ((Below.refl N w).grown hg hN (fun j hj=>(World.ownsRow.lt hown j hj).1)) hnil
theorem infS:(Tryz.prog.info? 9).map (fun i=>(i.zero,i.size,i.bytes))=some (some (.string ⟨#[]⟩),1,16):=by kernel_rfl
theorem qex:∃ i:TypeInfo,Tryz.prog.info? 9=some i∧i.zero=some (.string ⟨#[]⟩)∧i.size=1∧i.bytes=16:=by
 have h:=infS
 cases hi:Tryz.prog.info? 9 with
 | none=>rw [hi] at h;cases h
 | some i =>
   rw [hi] at h
   simp only [Option.map_some,Option.some.injEq,Prod.mk.injEq] at h
   exact ⟨i,rfl,h.1,h.2.1,h.2.2⟩
theorem qcd {w:World} {ops:Array Oper} {rest:List Oper} {o:Oper} {a:Act} {Q:Exit→Act→World→Prop} (hgd:o.guard=none) (s x:Operand)
 (ho:o.op=.call {callee:=.builtin .append,args:=#[s,x],argTypes:=#[36,36]}) (N:Nat) (v:Value) (n:Nat) (xs:List Value) (hs:a.eval s=v) (hown:w.ownsRow N 9 1 v n xs)
 (ad:Addr) (m c:Nat) (news:List Value) (hx:a.eval x=.slice (some ad) m c) (hl:news.length=m) (hnews:∀ j u,news[j]? = some u→w.cell? (ad.add j)=some u) (h1:∀ u∈news,u.oneCell'=true)
 (hb:n+m≤2199023255554) (hN:N≤w.heap.size)
 (h:∀ v' w',w'.ownsRow N 9 1 v' (n+m) (xs++news)→Below N w w'→(v'=.slice none 0 0↔v=.slice none 0 0∧m=0)→wpList Tryz.prog ops Q rest (a.put o.dst v') w'):wpList Tryz.prog ops Q (o :: rest) a w:=by
 obtain ⟨i,hi,hz,hsz,hby⟩:=qex
 refine wpList_append_own _ hgd s x 36 ho N 9 i (.string ⟨#[]⟩) 1 16 Tryz.underlying36 hi hz hsz hby rfl (by decide) v n xs hs hown ad m c news hx (by omega) hnews h1 (by unfold maxLen;omega) (by omega) hN ?_
 intro v' w' ho' hg hnil
 exact h v' w' ho' ((Below.refl N w).grown hg hN (fun j hj=>(World.ownsRow.lt hown j hj).1)) hnil
theorem qd5 {w:World} {ops:Array Oper} {rest:List Oper} {o:Oper} {a:Act} {Q:Exit→Act→World→Prop} (hgd:o.guard=none) (s x:Operand)
 (ho:o.op=.call {callee:=.builtin .append,args:=#[s,x],argTypes:=#[36,36]}) (N:Nat) (v:Value) (n:Nat) (xs:List Value) (hs:a.eval s=v) (hown:w.ownsRow N 9 1 v n xs) (hx:a.eval x=.slice none 0 0)
 (h:wpList Tryz.prog ops Q rest (a.put o.dst v) w):wpList Tryz.prog ops Q (o :: rest) a w:=by
 obtain ⟨i,hi,hz,hsz,hby⟩:=qex
 exact wpList_append_own_none hgd s x 36 ho N 9 i 1 Tryz.underlying36 hi v n xs hs hown hx h
theorem qsw {w:World} {ops:Array Oper} {o:Oper} {a:Act} {KK:Act→World→Prop} {Q:Exit→Act→World→Prop} {E:Prop} (hgd:o.guard=none) (s x:Operand)
 (ho:o.op=.call {callee:=.builtin .append,args:=#[s,x],argTypes:=#[36,36]}) (N:Nat) (v:Value) (n:Nat) (xs:List Value) (hs:a.eval s=v) (hown:w.ownsRow N 9 1 v n xs)
 (ad:Addr) (m c:Nat) (news:List Value) (hx:a.eval x=.slice (some ad) m c) (hl:news.length=m) (hnews:∀ j u,news[j]? = some u→w.cell? (ad.add j)=some u) (h1:∀ u∈news,u.oneCell'=true)
 (hb:n+m≤2199023255554) (hN:N≤w.heap.size)
 (h:∀ v' w',w'.ownsRow N 9 1 v' (n+m) (xs++news)→Below N w w'→KK (a.put o.dst v') w'):if Region.wanted o (yielded ops a.tmps)=true then Oper.wp Tryz.prog o a w KK Q else E:=by
 obtain ⟨i,hi,hz,hsz,hby⟩:=qex
 rw [if_pos (by simp [Region.wanted,hgd])]
 refine wp_append_own w s x 36 ho N 9 i (.string ⟨#[]⟩) 1 16 Tryz.underlying36 hi hz hsz hby rfl (by decide) v n xs hs hown ad m c news hx (by omega) hnews h1 (by unfold maxLen;omega) (by omega) hN ?_
 intro v' w' ho' hg hnil
 exact h v' w' ho' ((Below.refl N w).grown hg hN (fun j hj=>(World.ownsRow.lt hown j hj).1))
theorem qau (w:World):(isAgg 36).run Tryz.prog w=.ok false w:=by kernel_rfl
theorem infI:(Tryz.prog.info? 3).map (fun i=>(i.zero,i.size,i.bytes))=some (some (.int .i64 0),1,8):=by kernel_rfl
theorem qjl:∃ i:TypeInfo,Tryz.prog.info? 3=some i∧i.zero=some (.int .i64 0)∧i.size=1∧i.bytes=8:=by
 have h:=infI
 cases hi:Tryz.prog.info? 3 with
 | none=>rw [hi] at h;cases h
 | some i =>
   rw [hi] at h
   simp only [Option.map_some,Option.some.injEq,Prod.mk.injEq] at h
   exact ⟨i,rfl,h.1,h.2.1,h.2.2⟩
theorem qb6 {w:World} {ops:Array Oper} {rest:List Oper} {o:Oper} {a:Act} {Q:Exit→Act→World→Prop} (hgd:o.guard=none) (s x:Operand)
 (ho:o.op=.call {callee:=.builtin .append,args:=#[s,x],argTypes:=#[26,26]}) (N:Nat) (v:Value) (n:Nat) (xs:List Value) (hs:a.eval s=v) (hown:w.ownsRow N 3 1 v n xs)
 (ad:Addr) (m c:Nat) (news:List Value) (hx:a.eval x=.slice (some ad) m c) (hl:news.length=m) (hnews:∀ j u,news[j]? = some u→w.cell? (ad.add j)=some u) (h1:∀ u∈news,u.oneCell'=true)
 (hb:n+m≤2199023255554) (hN:N≤w.heap.size)
 (h:∀ v' w',w'.ownsRow N 3 1 v' (n+m) (xs++news)→Below N w w'→(v'=.slice none 0 0↔v=.slice none 0 0∧m=0)→wpList Tryz.prog ops Q rest (a.put o.dst v') w'):wpList Tryz.prog ops Q (o :: rest) a w:=by
 obtain ⟨i,hi,hz,hsz,hby⟩:=qjl
 refine wpList_append_own _ hgd s x 26 ho N 3 i (.int .i64 0) 1 8 Tryz.underlying26 hi hz hsz hby rfl (by decide) v n xs hs hown ad m c news hx (by omega) hnews h1 (by unfold maxLen;omega) (by omega) hN ?_
 intro v' w' ho' hg hnil
 exact h v' w' ho' ((Below.refl N w).grown hg hN (fun j hj=>(World.ownsRow.lt hown j hj).1)) hnil
theorem qgt {w:World} {ops:Array Oper} {rest:List Oper} {o:Oper} {a:Act} {Q:Exit→Act→World→Prop} (hgd:o.guard=none) (s x:Operand)
 (ho:o.op=.call {callee:=.builtin .append,args:=#[s,x],argTypes:=#[26,26]}) (N:Nat) (v:Value) (n:Nat) (xs:List Value) (hs:a.eval s=v) (hown:w.ownsRow N 3 1 v n xs) (hx:a.eval x=.slice none 0 0)
 (h:wpList Tryz.prog ops Q rest (a.put o.dst v) w):wpList Tryz.prog ops Q (o :: rest) a w:=by
 obtain ⟨i,hi,hz,hsz,hby⟩:=qjl
 exact wpList_append_own_none hgd s x 26 ho N 3 i 1 Tryz.underlying26 hi v n xs hs hown hx h
theorem qap (w:World):(isAgg 26).run Tryz.prog w=.ok false w:=by kernel_rfl
theorem qd7 (w:World):(isAgg 9).run Tryz.prog w=.ok false w:=by kernel_rfl
theorem aggD (w:World):(isAgg 38).run Tryz.prog w=.ok true w:=by kernel_rfl
theorem sizD (w:World):(sizeOf 38).run Tryz.prog w=.ok 2 w:=by kernel_rfl
theorem qc2 {w:World} {u:Value} {t:TypeId}:∀ j x,[u][j]? = some x→(w.alloc (.cells #[u] t)).cell? ((⟨w.heap.size,0,none⟩:Addr).add j)=some x:=by
 intro j x h
 have e1:(⟨w.heap.size,0,none⟩:Addr).add j=⟨w.heap.size,j,none⟩:=by unfold Addr.add;split<;>simp_all
 rw [e1]
 exact (Blk.new t w [u]).cell h
def Rz (w:World) (v:Value) (n:Nat) (cs:List Value):Prop:=Rw w v n cs∧∀ m c,v=.slice none m c→c=0
theorem Rz.below {w w':World} {v:Value} {n:Nat} {cs:List Value} (h:Rz w v n cs) (hb:Below w.heap.size w w'):Rz w' v n cs:=⟨h.1.below hb,h.2⟩
theorem Rz.nil (w:World):Rz w (.slice none 0 0) 0 []:=⟨Rw.nil w,fun _ _ h=>by cases h;rfl⟩
theorem Rz.of_own {w:World} {base s n:Nat} {t:TypeId} {v:Value} {xs:List Value} (h:w.ownsRow base t s v n xs):Rz w v n xs:=by
 refine ⟨Rw.of_own h,fun m c hv=>?_⟩
 rcases h.2 with ⟨e,_⟩|⟨g,cap,cur,e,_⟩
 ·rw [e] at hv;cases hv;rfl
 ·rw [e] at hv;cases hv
theorem Rz.form {w:World} {v:Value} {n:Nat} {cs:List Value} (h:Rz w v n cs):(v=.slice none 0 0∧n=0∧cs=[])∨∃ a c,v=.slice (some a) n c∧n≤c:=by
 obtain ⟨⟨A,c,rfl,hk,hc⟩,h2⟩:=h
 cases A with
 | none =>
   obtain rfl:=h2 n c rfl
   obtain rfl:n=0:=by omega
   refine .inl ⟨rfl,rfl,?_⟩
   cases cs with
   | nil=>rfl
   | cons u r=>obtain ⟨a,ha,_⟩:=hc 0 u rfl;cases ha
 | some a=>exact .inr ⟨a,c,rfl,hk⟩
theorem Rz.cell {w:World} {a:Addr} {n m c:Nat} {cs:List Value} (h:Rz w (.slice (some a) n c) m cs):∀ j u,cs[j]? = some u→w.cell? (a.add j)=some u:=by
 obtain ⟨⟨A,c',hv,_,hc⟩,_⟩:=h
 cases hv
 intro j u hu
 obtain ⟨a',ha,h1,_⟩:=hc j u hu
 cases ha;exact h1
theorem Rz.addr {w:World} {A:Option Addr} {n m c j:Nat} {u:Value} {cs:List Value} (h:Rz w (.slice A n c) m cs) (hu:cs[j]? = some u):∃ a,A=some a:=by
 obtain ⟨⟨A,c',hv,_,hc⟩,_⟩:=h
 cases hv
 obtain ⟨a',ha,_⟩:=hc j u hu
 exact ⟨a',ha⟩
theorem Rz.load {P:Program} {T:TypeId} {w:World} {a:Addr} {n m c k:Nat} {cs:List Value} {u:Value} (h:Rz w (.slice (some a) n c) m cs) (hagg:∀ w,(isAgg T).run P w=.ok false w) (hu:cs[k]? = some u):(Instr.loadAt T (.pointer (some (a.add k)))).run P w=.ok u w:=by
 have h1:=h.cell k u hu
 simp only [Instr.loadAt,Instr.sureAddr,Go.loadVar,Sem.run_bind,Sem.run_pure,Result.andThen_ok,hagg,Bool.false_eq_true,if_false]
 simp [h1,go_sem]
def Sts (w:World) (v:Value) (S:List ByteArray):Prop:=Rz w v S.length (S.map Value.string)
def Its (w:World) (v:Value) (B:List Int):Prop:=Rz w v B.length (B.map (Value.int .i64))
theorem Sts.form {w:World} {v:Value} {S:List ByteArray} (h:Sts w v S):∃ A c,v=.slice A S.length c∧S.length≤c∧∀ (k:Nat) s,S[k]? = some s→∃ a,A=some a∧∀ w',Below w.heap.size w w'→(Instr.loadAt 9 (.pointer (some (a.add k)))).run Tryz.prog w'=.ok (.string s) w':=by
 have h0:=h
 obtain ⟨⟨A,c,rfl,hk,_⟩,_⟩:=h
 refine ⟨A,c,rfl,hk,fun k s hs=>?_⟩
 have hu:(S.map Value.string)[k]? = some (.string s):=by rw [List.getElem?_map,hs];rfl
 obtain ⟨a,rfl⟩:=Rz.addr h0 hu
 exact ⟨a,rfl,fun w' hb=>Rz.load (Rz.below h0 hb) qd7 hu⟩
theorem Its.form {w:World} {v:Value} {B:List Int} (h:Its w v B):∃ A c,v=.slice A B.length c∧B.length≤c∧∀ (k:Nat) s,B[k]? = some s→∃ a,A=some a∧∀ w',Below w.heap.size w w'→(Instr.loadAt 3 (.pointer (some (a.add k)))).run Tryz.prog w'=.ok (.int .i64 s) w':=by
 have h0:=h
 obtain ⟨⟨A,c,rfl,hk,_⟩,_⟩:=h
 refine ⟨A,c,rfl,hk,fun k s hs=>?_⟩
 have hu:(B.map (Value.int .i64))[k]? = some (.int .i64 s):=by rw [List.getElem?_map,hs];rfl
 obtain ⟨a,rfl⟩:=Rz.addr h0 hu
 exact ⟨a,rfl,fun w' hb=>Rz.load (Rz.below h0 hb) qao hu⟩
theorem qfe (S:List ByteArray):∀ u∈S.map Value.string,u.oneCell'=true:=by
 intro u hu;obtain ⟨s,_,rfl⟩:=List.mem_map.1 hu;rfl
theorem qgj (S:List Int):∀ u∈S.map (Value.int .i64),u.oneCell'=true:=by
 intro u hu;obtain ⟨s,_,rfl⟩:=List.mem_map.1 hu;rfl
def Hid (p:Prop):Prop:=p
theorem hid {p:Prop} (h:p):Hid p:=h
theorem qq2 {w:World} {base n:Nat} {v:Value} (h:w.ownsRow base 5 1 v n (List.replicate n (.int .u8 0))):(convert 167 9 v).run Tryz.prog w=.ok (.string (zB n)) w:=by
 rcases h.2 with ⟨rfl,h0⟩|⟨g,cap,cur,rfl,hb,hh,hnc,_,hcs,_⟩
 ·subst h0
  exact Lib.run_convert_nil_bytes w 167 9 5 0 Tryz.underlying167 Tryz.underlying5 Tryz.underlying9
 ·have e:=run_convert_bytes_back (P:=Tryz.prog) w 167 9 5 ⟨g,0,none⟩ cap (List.replicate n 0) Tryz.underlying167 Tryz.underlying5 Tryz.underlying9 (fun j hj=>by
   have hj':j<n:=by simpa using hj
   have h2:=(Rz.of_own h).cell j (.int .u8 0) (by rw [List.getElem?_replicate,if_pos hj'])
   rw [h2];simp)
  rw [List.length_replicate] at e
  exact e
theorem rep_snoc (k:Nat) (u:Value):List.replicate (k+1) u=List.replicate k u++[u]:=List.replicate_succ'
theorem qjg (n:Nat) (hn:n≤1099511627776) (w:World):Calls Tryz.prog 122 #[.int .i64 (n:Int)] w fun e w'=>e=.returned (.string (zB n))∧Below w.heap.size w w':=by
 go_enter Tryz.func122,Tryz.ntmps122
 go_wp2
 go_loopw [3,4] (fun v i wr=>∃ k:Nat,k≤n∧i=.int .i64 k∧wr.ownsRow w.heap.size 5 1 v k (List.replicate k (.int .u8 0))∧Below w.heap.size w wr) (fun _ i _=>match i with|.int _ q=>n - q.toNat|_=>0)
 case atStart=>exact ⟨0,Nat.zero_le _,rfl,World.ownsRow_nil _ _ _ _,Below.refl _ _⟩
 case round =>
  obtain ⟨k,hk,rfl,hown,hB⟩:=hrel
  by_cases hkn:k<n
  ·have hki:(k:Int)<(n:Int):=by omega
   have hst:=hid (rep_snoc k (.int .u8 0))
   go_wp2_with (first|(at_builtin;refine qfb rfl (.tmp 10) (.tmp 11) rfl w.heap.size _ _ _ rfl (World.ownsRow.alloc hown _) ⟨wr.heap.size,0,none⟩ 1 1 [.int .u8 0] rfl rfl qc2 (fun x hx=>by simp at hx;subst hx;rfl) (by omega) (by have:=hB.size;simp<;>omega) ?_;intro v2 w2 ho2 hb2 _))
   exact ⟨⟨k+1,by omega,by go_num,by rw [show List.replicate (k+1) (Value.int .u8 0)=_ from hst];exact ho2,(hB.alloc hB.size _).trans (hb2.mono (Nat.le_refl _))⟩,by simp only;omega⟩
  ·obtain rfl:k=n:=by omega
   have hkn:¬ (k:Int)<(k:Int):=by omega
   have hcv:=qq2 hown
   go_wp2
   go_ret
   exact ⟨rfl,hB⟩
theorem qjh (D:Drv) (k:Int) (hl:D.B.length≤1099511627776) (vs vb:Value) (w:World) (hs:Sts w vs D.S) (hb:Its w vb D.B):Calls Tryz.prog 137 #[.agg #[vs,vb],.int .i64 k] w fun e w'=>e=.returned (.bool (D.B.contains k))∧Below w.heap.size w w':=by
 obtain ⟨S,B⟩:=D
 dsimp only at hl hs hb ⊢
 obtain ⟨A,c,rfl,_,hc⟩:=hb.form
 have hX:=(Bag.nil w).new 38 [vs,.slice A B.length c]
 clear hb hs
 obtain ⟨r,hR⟩:∃ r,B.contains k=r:=⟨_,rfl⟩
 rw [hR]
 replace hR:=hid hR
 go_enter Tryz.func137,Tryz.ntmps137
 go_wp2
 go_loopw [5] (fun iv wr=>∃ i:Nat,i≤B.length∧iv=.int .i64 i∧Hid (∀ j:Nat,j<i→B[j]?≠some k)∧Bag [(w.heap.size,38,[vs,.slice A B.length c])] w wr) (fun i _=>match i with|.int _ q=>B.length - q.toNat|_=>0)
 case atStart=>exact ⟨0,Nat.zero_le _,rfl,fun j hj=>absurd hj (Nat.not_lt_zero j),hX⟩
 case round =>
  clear hX
  obtain ⟨i,hi,rfl,hN,hX⟩:=hrel
  by_cases hin:i<B.length
  ·have hii:(i:Int)<(B.length:Int):=by omega
   have hx:=List.getElem?_eq_getElem hin
   generalize B[i]=x at *
   obtain ⟨a,rfl,hL⟩:=hc i x hx
   by_cases hxk:x=k
   ·have hres:B.contains k=true:=by rw [← hxk];exact List.contains_iff_mem.2 (List.mem_of_getElem? hx)
    obtain rfl:r=true:=(show B.contains k=r from hR).symm.trans hres
    have he:(x == k)=true:=by simpa using hxk
    clear hN hx hxk hc hres
    go_wp2_with (first|((with_reducible refine qab ?_);refine qai hX qau _ rfl rfl rfl rfl (by first|exact .head _) rfl ?_)|((with_reducible refine qab ?_);refine qai hX qap _ rfl rfl rfl rfl (by first|exact .head _) rfl ?_)|((with_reducible refine qab ?_);refine qaq rfl 3 _ _ _ rfl rfl (hL _ hX.below) ?_))
    go_ret
    exact ⟨rfl,hX.below⟩
   ·have he:(x == k)=false:=by simpa using hxk
    have hN2:Hid (∀ j:Nat,j<i+1→B[j]?≠some k):=fun j hj=>by
     rcases (by omega:j<i∨j=i) with h|rfl
     ·exact (show ∀ j:Nat,j<i→B[j]?≠some k from hN) j h
     ·rw [hx];intro h;exact hxk (Option.some.inj h)
    clear hN hx hxk hc
    go_wp2_with (first|((with_reducible refine qab ?_);refine qai hX qau _ rfl rfl rfl rfl (by first|exact .head _) rfl ?_)|((with_reducible refine qab ?_);refine qai hX qap _ rfl rfl rfl rfl (by first|exact .head _) rfl ?_)|((with_reducible refine qab ?_);refine qaq rfl 3 _ _ _ rfl rfl (hL _ hX.below) ?_))
    exact ⟨⟨i+1,by omega,by go_num,hN2,hX⟩,by simp only;omega⟩
  ·have hii:¬ (i:Int)<(B.length:Int):=by omega
   have hres:B.contains k=false:=by
    rw [Bool.eq_false_iff];intro h
    obtain ⟨j,hj⟩:=List.mem_iff_getElem?.1 (List.contains_iff_mem.1 h)
    have hjl:j<B.length:=(List.getElem?_eq_some_iff.1 hj).1
    exact (show ∀ j:Nat,j<i→B[j]?≠some k from hN) j (by omega) hj
   obtain rfl:r=false:=(show B.contains k=r from hR).symm.trans hres
   clear hN hc hres
   go_wp2_with (first|((with_reducible refine qab ?_);refine qai hX qau _ rfl rfl rfl rfl (by first|exact .head _) rfl ?_)|((with_reducible refine qab ?_);refine qai hX qap _ rfl rfl rfl rfl (by first|exact .head _) rfl ?_))
   go_ret
   exact ⟨rfl,hX.below⟩
theorem rep_map (k:Nat):(List.replicate (k+1) (zB 128)).map Value.string=(List.replicate k (zB 128)).map Value.string++[.string (zB 128)]:=by rw [List.replicate_succ',List.map_append];rfl
theorem qow (w:World) (cs ds:List Value):Bag [(w.heap.size+1,38,ds),(w.heap.size,38,cs)] w ((w.alloc (.cells cs.toArray 38)).alloc (.cells ds.toArray 38)):=by
 have h:=((Bag.nil w).new 38 cs).new 38 ds
 rw [show (w.alloc (.cells cs.toArray 38)).heap.size=w.heap.size+1 from Array.size_push ..] at h
 exact h
theorem qbt (D:Drv) (k:Int) (hl:D.B.length≤1099511627776) (hl2:D.S.length≤1099511627776) (vs vb:Value) (w:World) (hs:Sts w vs D.S) (hb:Its w vb D.B):Calls Tryz.prog 111 #[.agg #[vs,vb],.int .i64 k] w fun e w'=>e=.returned (.tuple #[.string (D.rd k).1,.int .i64 (D.rd k).2])∧Below w.heap.size w w':=by
 obtain ⟨A,c,rfl,_,hc⟩:=hs.form
 have hib:=fun w' (h:Below w.heap.size w w')=>qjh D k hl (.slice A D.S.length c) vb w' (hs.below h) (hb.below h)
 have hX:=(Bag.nil w).new 38 [.slice A D.S.length c,vb]
 unfold Drv.rd
 obtain ⟨S,B⟩:=D
 dsimp only at hib hc hX hl hl2 ⊢
 clear hb hs
 by_cases h0:k<0
 ·have d0:decide (k<0)=true:=decide_eq_true h0
  rw [if_neg (by omega)]
  go_enter Tryz.func111,Tryz.ntmps111
  go_wp2_with (first|((with_reducible refine qab ?_);refine qai hX qau _ rfl rfl rfl rfl (by first|exact .head _) rfl ?_)|((with_reducible refine qab ?_);refine qai hX qap _ rfl rfl rfl rfl (by first|exact .head _) rfl ?_))
  go_ret2
  exact ⟨rfl,hX.below⟩
 have d0:decide (k<0)=false:=decide_eq_false h0
 by_cases h1:(S.length:Int)≤k
 ·have d1:decide ((S.length:Int)≤k)=true:=decide_eq_true h1
  rw [if_neg (by omega)]
  go_enter Tryz.func111,Tryz.ntmps111
  go_wp2_with (first|((with_reducible refine qab ?_);refine qai hX qau _ rfl rfl rfl rfl (by first|exact .head _) rfl ?_)|((with_reducible refine qab ?_);refine qai hX qap _ rfl rfl rfl rfl (by first|exact .head _) rfl ?_))
  go_ret2
  exact ⟨rfl,hX.below⟩
 have d1:decide ((S.length:Int)≤k)=false:=decide_eq_false h1
 rw [if_pos (by omega)]
 obtain ⟨j,rfl⟩:∃ j:Nat,k=(j:Int):=⟨k.toNat,by omega⟩
 have hj:j<S.length:=by omega
 have hj2:(j:Int)<(S.length:Int):=by omega
 have hx:=List.getElem?_eq_getElem hj
 have hgd:S.getD ((j:Int).toNat) ⟨#[]⟩=S[j]:=by rw [Int.toNat_natCast,List.getD_eq_getElem?_getD,hx];rfl
 rw [hgd]
 generalize S[j]=x at *
 obtain ⟨a,rfl,hL⟩:=hc j x hx
 cases hbd:B.contains (j:Int)
 ·rw [hbd] at hib
  simp only [Bool.false_eq_true,if_false]
  clear hbd hx hc h0 h1 hgd
  go_enter Tryz.func111,Tryz.ntmps111
  go_wp2_with (first|((with_reducible refine qab ?_);refine qai hX qau _ rfl rfl rfl rfl (by first|exact .head _) rfl ?_)|((with_reducible refine qab ?_);refine qai hX qap _ rfl rfl rfl rfl (by first|exact .head _) rfl ?_)|((with_reducible refine qab ?_);refine qas (k:=0) hX aggD sizD _ rfl rfl rfl rfl (by first|exact .head _) (fun jz vz hz=>(congrArg (fun n=>([_,_]:List Value)[n]?) (Nat.zero_add jz)).trans hz) rfl ?_)|((with_reducible refine qab ?_);refine qaq rfl 9 _ _ _ rfl rfl (hL _ hX.below) ?_)|(go_at_call 137;(with_reducible refine (hib _ hX.below).mono ?_);rintro e w' ⟨rfl,hbb⟩;replace hX:=hX.step hbb;clear hbb))
  go_ret2
  exact ⟨rfl,hX.below⟩
 ·rw [hbd] at hib
  simp only [if_true]
  clear hbd hx hc h0 h1 hgd
  go_enter Tryz.func111,Tryz.ntmps111
  go_wp2_with (first|((with_reducible refine qab ?_);refine qai hX qau _ rfl rfl rfl rfl (by first|exact .head _) rfl ?_)|((with_reducible refine qab ?_);refine qai hX qap _ rfl rfl rfl rfl (by first|exact .head _) rfl ?_)|((with_reducible refine qab ?_);refine qas (k:=0) hX aggD sizD _ rfl rfl rfl rfl (by first|exact .head _) (fun jz vz hz=>(congrArg (fun n=>([_,_]:List Value)[n]?) (Nat.zero_add jz)).trans hz) rfl ?_)|((with_reducible refine qab ?_);refine qaq rfl 9 _ _ _ rfl rfl (hL _ hX.below) ?_)|(go_at_call 137;(with_reducible refine (hib _ hX.below).mono ?_);rintro e w' ⟨rfl,hbb⟩;replace hX:=hX.step hbb;clear hbb))
  go_ret2
  exact ⟨rfl,hX.below⟩
end Go.Proofs.YthpnddgfgpacpaaGreat
