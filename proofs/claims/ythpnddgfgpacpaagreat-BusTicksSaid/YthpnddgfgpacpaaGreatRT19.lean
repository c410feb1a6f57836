import Derived.Test.YthpnddgfgpacpaaGreatRT14
import Derived.Laws.DeepStrings4
import Derived.Lib.Strings
import Derived.Lib.IndexBytes
import Derived.Lib.UnsafeStr
import Derived.Laws.IdiomStrings
import Derived.Test.YthpnddgfgpacpaaGreatRT04
import Derived.Test.YthpnddgfgpacpaaGreatRT18
namespace Go.Proofs.YthpnddgfgpacpaaGreat
open Go.RowKit
set_option maxRecDepth 100000
set_option linter.unusedSimpArgs false
set_option linter.unusedVariables false
set_option maxHeartbeats 1000000
attribute [local irreducible] wpQuiet
theorem info8:(Tryz.prog.info? 5).map (fun i=>(i.zero,i.size,i.bytes))=some (some (.int .u8 0),1,1):=by kernel_rfl
theorem qjr {n a k:Int} (h:inR n a k=true):0≤a∧0≤k∧k≤n - a:=by unfold inR at h;simpa using h
theorem qft {n a k:Int} (h:inR n a k=false):bytesE n a k=2:=if_neg (by rw [h];decide)
theorem qfq {n a k:Int} (h:inR n a k=true):bytesE n a k=0:=if_pos h
theorem qk0 {l:List Int} {a k:Int} (h:inR (2*(l.length:Int)) a k=false):bytesS l a k=[]:=if_neg (by rw [h];decide)
theorem qlq {l:List Int} {a k:Int} (h:inR (2*(l.length:Int)) a k=true):bytesS l a k=bytesN l a.toNat k.toNat:=if_pos h
def b8 (l:List Int) (a j:Nat):Value:=.int .u8 (byteN l (a+j))
theorem qtu (l:List Int) (k a j:Nat) (h:j<(bytesN l a k).length):((bytesN l a k)[j]'h).toNat=(byteN l (a+j)).toNat:=by
 have hj:j<k:=by rw [qb2] at h;exact h
 have e:=qiz l k a j hj
 rw [List.getElem?_eq_getElem h] at e
 rw [Option.some.inj e]
 have:=qf0 l (a+j)
 simp;omega
theorem b8_row {A N a:Nat} {l:List Int} {w:World} {f:Nat→Value} (h:w.rowIs A 5 N f) (hf:∀ j,j<N→f j=b8 l a j) :
 (convert 167 9 (.slice (some ⟨A,0,none⟩) N N)).run Tryz.prog w=.ok (.string ⟨(bytesN l a N).toArray⟩) w:=by
 have hl:=qb2 l N a
 have e:=run_convert_bytes_back (P:=Tryz.prog) w 167 9 5 ⟨A,0,none⟩ N (bytesN l a N) Tryz.underlying167 Tryz.underlying5 Tryz.underlying9 (fun j hj=>by
  have e1:(⟨A,0,none⟩:Addr).add j=⟨A,j,none⟩:=by unfold Addr.add;split<;>simp_all
  have:=qf0 l (a+j)
  have e2:(((byteN l (a+j)).toNat:Nat):Int)=byteN l (a+j):=by omega
  rw [e1,h.cell (by omega),hf j (by omega),b8,qtu,e2])
 rw [hl] at e
 exact e
theorem b8_step {A N a k:Nat} {l:List Int} {w:World} (h:w.rowIs A 5 N (fun j=>if j<k then b8 l a j else .int .u8 0)) (v:Value) (hv:v=b8 l a k) :
 (w.setCell ⟨A,k,none⟩ v).rowIs A 5 N (fun j=>if j<k+1 then b8 l a j else .int .u8 0):=by
 refine (h.set k v).congr fun j _=>?_
 by_cases hjk:j=k
 ·simp [hjk,hv]
 ·simp only [if_neg hjk,show (j<k+1)=(j<k) by apply propext;omega]
set_option maxHeartbeats 4000000 in
theorem qc9 (vm:Value) (mem:List Int) (hl:mem.length≤1099511627776) (a n:Int) (ha:a≤9223372036854775807) (w:World) (hm:Nums .i64 w vm mem) :
 Calls Tryz.prog 219 #[vm,.int .i64 a,.int .i64 n] w fun e w'=>e=.returned (.tuple #[.string ⟨(bytesS mem a n).toArray⟩,.int .i64 (bytesE (2*(mem.length:Int)) a n)])∧Below w.heap.size w w':=by
 have hby:=fun k hk w' (hB:Below w.heap.size w w')=>qi4 vm mem hl k hk w' (hm.below hB)
 obtain ⟨A,c,rfl,_,hc⟩:=hm
 have hra:=fun w=>qkt A mem.length c hl a n ha w
 clear hc
 cases hq:inR (2*(mem.length:Int)) a n
 ·rw [qft hq,qk0 hq]
  rw [hq] at hra
  clear hq hby
  go_enter Tryz.func219,Tryz.ntmps219
  go_wp2_with (first|(go_at_call 226;with_reducible refine (hra _).mono ?_;rintro e w' ⟨rfl,rfl⟩))
  go_ret2
  exact ⟨rfl,Below.refl _ _⟩
 ·obtain ⟨h0,h1,h2⟩:=qjr hq
  rw [qfq hq,qlq hq]
  rw [hq] at hra
  clear hq
  obtain ⟨p,rfl⟩:=Int.eq_ofNat_of_zero_le h0
  obtain ⟨N,rfl⟩:=Int.eq_ofNat_of_zero_le h1
  rw [Int.toNat_natCast,Int.toNat_natCast]
  have hmk:∀ w:World,(Instr.makeSlice 167 (.int .i64 N) (.int .i64 N)).run Tryz.prog w=.ok (.slice (some ⟨w.heap.size,0,none⟩) N N) (w.alloc (.cells (madeCells #[.int .u8 0] N) 5)) :=
   fun w=>run_make_row' (P:=Tryz.prog) 167 5 (.int .u8 0) 1 Tryz.underlying167 info8 rfl .i64 .i64 N (by omega) (by omega) w
  go_enter Tryz.func219,Tryz.ntmps219
  go_wp2_with (first|(go_at_call 226;with_reducible refine (hra _).mono ?_;rintro e w' ⟨rfl,rfl⟩))
  go_loopw [19] (fun i wr=>∃ k:Nat,k≤N∧i=.int .i64 k∧wr.rowIs w.heap.size 5 N (fun j=>if j<k then b8 mem p j else .int .u8 0)∧Below w.heap.size w wr)
   (fun i _=>match i with|.int _ q=>N - q.toNat|_=>0)
  case atStart=>exact ⟨0,Nat.zero_le _,rfl,(World.rowIs_made _ _ _ _).congr (fun j _=>by simp),(Below.refl _ _).alloc (Nat.le_refl _) _⟩
  case round =>
   obtain ⟨k,hk,rfl,hrow,hB⟩:=hrel
   by_cases hkl:k<N
   ·have hbt:b8 mem p k=.int .u8 (byteN mem (p+k)):=rfl
    have hbb:=qf0 mem (p+k)
    have hby:=fun w' hB=>hby (p+k) (by omega) w' hB
    have hpk:(p:Int)+(k:Int)=((p+k:Nat):Int):=by omega
    rw [← hpk] at hby
    generalize byteN mem (p+k)=y at *
    replace hpk:=hid hpk
    have hw8:IntKind.u8.wrap y=y:=by rw [IntKind.wrap_u8];omega
    replace hbt:=hid hbt
    go_wp2_with (first|(go_at_call 85;with_reducible refine (hby _ hB).mono ?_;rintro e w' ⟨rfl,hb⟩;have hrow:=World.rowIs.of_block hrow (Below.block hb _ (World.rowIs.lt hrow));have hB:=Below.trans hB (Below.mono hb hB.size);have hcell:=World.rowIs.cell hrow hkl;have hfr:=World.rowIs.frozen hrow k))
    refine ⟨⟨k+1,by omega,by go_num,b8_step hrow _ (by rw [show b8 mem p k=_ from hbt]),hB.setCell (Nat.le_refl _) _⟩,?_⟩
    simp only;omega
   ·have hkk:k=N:=by omega
    have hcv:=b8_row (l:=mem) (a:=p) hrow (fun j hj=>if_pos (by omega))
    clear hby
    go_wp2
    go_ret2
    exact ⟨rfl,hB⟩
theorem qer (l:List Int):∀ (k a:Nat),bytesN l a (k+1)=bytesN l a k++[UInt8.ofNat (byteN l (a+k)).toNat]
 | 0,a=>by simp [bytesN]
 | k+1,a=>by
   rw [bytesN,qer l k (a+1),bytesN,List.cons_append,show a+1+k=a+(k+1) by omega]
theorem own_conv {base:Nat} {v:Value} {out:List UInt8} {w:World} (h:w.ownsRow base 5 1 v out.length (Lib.byteCells out)):(convert 167 9 v).run Tryz.prog w=.ok (.string ⟨out.toArray⟩) w:=by
 rcases h.2 with ⟨rfl,h0⟩|⟨g,cap,cur,rfl,_⟩
 ·have:out=[]:=List.eq_nil_of_length_eq_zero h0
  subst this
  rw [run_convert_bytes_string w 167 9 5 none 0 0 Tryz.underlying167 Tryz.underlying5 Tryz.underlying9]
  rfl
 ·refine run_convert_bytes_back (P:=Tryz.prog) w 167 9 5 ⟨g,0,none⟩ cap out Tryz.underlying167 Tryz.underlying5 Tryz.underlying9 (fun j hj=>?_)
  refine h.cells (g:=g) rfl j _ ?_
  simp [Lib.byteCells,hj]
theorem bytes_step {B a k:Nat} {l:List Int} {w:World} {v:Value} (h:w.ownsRow B 5 1 v ((bytesN l a k).length+1) (Lib.byteCells (bytesN l a k)++[.int .u8 (byteN l (a+k))])):w.ownsRow B 5 1 v (bytesN l a (k+1)).length (Lib.byteCells (bytesN l a (k+1))):=by
 have e:(((UInt8.ofNat (byteN l (a+k)).toNat).toNat:Nat):Int)=byteN l (a+k):=by
  have:=qf0 l (a+k)
  simp;omega
 rw [qer,List.length_append]
 simp only [Lib.byteCells,List.map_append,List.map_cons,List.map_nil,e]
 exact h
set_option maxHeartbeats 4000000 in
theorem qqy (vm:Value) (mem:List Int) (hl:mem.length≤1099511627776) (a n:Int) (ha:a≤9223372036854775807) (w:World) (hm:Nums .i64 w vm mem) :
 Calls Tryz.prog 140 #[vm,.int .i64 a,.int .i64 n] w fun e w'=>e=.returned (.tuple #[.string ⟨(bytesS mem a n).toArray⟩,.int .i64 (bytesE (2*(mem.length:Int)) a n)])∧Below w.heap.size w w':=by
 have hby:=fun k hk w' (hB:Below w.heap.size w w')=>qs3 vm mem hl k hk w' (hm.below hB)
 obtain ⟨A,c,rfl,_,hc⟩:=hm
 have hra:=fun w=>qhz A mem.length c hl a n ha w
 clear hc
 cases hq:inR (2*(mem.length:Int)) a n
 ·rw [qft hq,qk0 hq]
  rw [hq] at hra
  clear hq hby
  go_enter Tryz.func140,Tryz.ntmps140
  go_wp2_with (first|(go_at_call 143;with_reducible refine (hra _).mono ?_;rintro e w' ⟨rfl,rfl⟩))
  go_ret2
  exact ⟨rfl,Below.refl _ _⟩
 ·obtain ⟨h0,h1,h2⟩:=qjr hq
  rw [qfq hq,qlq hq]
  rw [hq] at hra
  clear hq
  obtain ⟨p,rfl⟩:=Int.eq_ofNat_of_zero_le h0
  obtain ⟨N,rfl⟩:=Int.eq_ofNat_of_zero_le h1
  rw [Int.toNat_natCast,Int.toNat_natCast]
  obtain ⟨i0,hti,hz0,hz1,hz2⟩:=info_parts info8
  go_enter Tryz.func140,Tryz.ntmps140
  go_wp2_with (first|(go_at_call 143;with_reducible refine (hra _).mono ?_;rintro e w' ⟨rfl,rfl⟩))
  go_loopw [8,9] (fun v i wr=>∃ k:Nat,k≤N∧i=.int .i64 k∧wr.ownsRow w.heap.size 5 1 v (bytesN mem p k).length (Lib.byteCells (bytesN mem p k))∧Below w.heap.size w wr)
   (fun _ i _=>match i with|.int _ q=>N - q.toNat|_=>0)
  case atStart=>exact ⟨0,Nat.zero_le _,rfl,World.ownsRow_nil _ _ _ _,Below.refl _ _⟩
  case round =>
   obtain ⟨k,hk,rfl,hown,hB⟩:=hrel
   by_cases hkl:k<N
   ·have hbb:=qf0 mem (p+k)
    have hby:=fun w' hB=>hby (p+k) (by omega) w' hB
    have hpk:(p:Int)+(k:Int)=((p+k:Nat):Int):=by omega
    rw [← hpk] at hby
    have hst:=fun w v=>@bytes_step w.heap.size p k mem w v
    have hst2:=fun w1 v=>@bytes_step w.heap.size p k mem w1 v
    clear hst
    have hlen:=qb2 mem k p
    have hcl:(Lib.byteCells (bytesN mem p k)).length=k:=by simp [Lib.byteCells,hlen]
    generalize byteN mem (p+k)=y at *
    replace hpk:=hid hpk
    replace hst2:=hid hst2
    have hw8:IntKind.u8.wrap y=y:=by rw [IntKind.wrap_u8];omega
    go_wp2_with (first
     | (go_at_call 90;with_reducible refine (hby _ hB).mono ?_;rintro e w' ⟨rfl,hb⟩;have hown:=qag hown hb;have hB:=Below.trans hB (Below.mono hb hB.size))
     | (at_builtin;refine wpList_append_own _ rfl (.tmp 20) (.tmp 27) 167 rfl w.heap.size 5 i0 (.int .u8 0) 1 1 Tryz.underlying167 hti hz0 hz1 hz2 rfl (by decide) _ _ _ rfl (World.ownsRow.alloc hown _) ⟨w'.heap.size,0,none⟩ 1 1 [.int .u8 y] rfl rfl (cell_one_new _ _ _) (fun x hx=>by simp at hx;subst hx;rfl) (by unfold maxLen;omega) (by omega) (by have:=hB.size;simp;omega) ?_;intro v' w1 hown' hgrow _))
    refine ⟨⟨k+1,by omega,by go_num,hst2 _ _ hown',(hB.alloc hB.size _).grown hgrow (by have:=hB.size;simp;omega) (fun j hj=>(World.ownsRow.lt hown j hj).1)⟩,?_⟩
    simp only;omega
   ·obtain rfl:k=N:=by omega
    have hcv:=own_conv hown
    clear hby
    go_wp2
    go_ret2
    exact ⟨rfl,hB⟩
theorem qlk {l:List Int} {a:Int} {s:List UInt8} (h:inR (2*(l.length:Int)) a (s.length:Int)=false):storeL l a s=[]:=if_neg (by rw [h];decide)
theorem qlv {l:List Int} {a:Int} {s:List UInt8} (h:inR (2*(l.length:Int)) a (s.length:Int)=true):storeL l a s=storeN l a.toNat s:=if_pos h
theorem qix {l:List Int} {a k:Nat} {s:List UInt8} {c:UInt8} (h:s[k]? = some c):storeN l (a+k) (s.drop k)=storeN (setN l (a+k) (c.toNat:Int)) (a+(k+1)) (s.drop (k+1)):=by
 have hk:k<s.length:=(List.getElem?_eq_some_iff.1 h).1
 rw [List.drop_eq_getElem_cons hk,(List.getElem?_eq_some_iff.1 h).2,storeN];rfl
theorem qtl {s:ByteArray} {k:Nat} {c:UInt8} (h:s.data.toList[k]? = some c):∀ hk:k<s.size,s[k]'hk=c:=by
 intro hk
 have e:=(List.getElem?_eq_some_iff.1 h).2
 rw [← e];rfl
set_option maxHeartbeats 4000000 in
theorem qlm (vm:Value) (mem:List Int) (hl:mem.length≤1099511627776) (hW:wordsB mem=true) (hpos:0<mem.length) (a:Int) (ha:a≤9223372036854775807) (s:ByteArray) (hs:s.size≤4398046511104) (w:World) (hm:Nums .i64 w vm mem) :
 Calls Tryz.prog 224 #[vm,.int .i64 a,.string s] w fun e w'=>∃ r,e=.returned (.tuple #[r,.int .i64 (bytesE (2*(mem.length:Int)) a (s.size:Int))])∧Own w.heap.size w' r (storeL mem a s.data.toList)∧Below w.heap.size w w':=by
 have hsz:s.data.toList.length=s.size:=rfl
 have hcp:=qgk vm mem hl w hm
 obtain ⟨A,c,rfl,_,hc⟩:=hm
 have hra:=fun w=>qkt A mem.length c hl a (s.size:Int) ha w
 cases hq:inR (2*(mem.length:Int)) a (s.size:Int)
 ·rw [qft hq,qlk (by rw [hsz];exact hq)]
  rw [hq] at hra
  clear hq hc
  go_enter Tryz.func224,Tryz.ntmps224
  go_wp2_with (first|(go_at_call 226;with_reducible refine (hra _).mono ?_;rintro e w' ⟨rfl,rfl⟩))
  go_ret2
  exact ⟨_,rfl,Own.nil _ _,Below.refl _ _⟩
 ·obtain ⟨h0,h1,h2⟩:=qjr hq
  rw [qfq hq,qlv (by rw [hsz];exact hq)]
  rw [hq] at hra
  clear hq
  obtain ⟨p,rfl⟩:=Int.eq_ofNat_of_zero_le h0
  rw [Int.toNat_natCast]
  have hsb:=fun r cur k (c:UInt8) w1 (hcl:cur.length=mem.length) (hcw:wordsB cur=true) (hk:k<s.size) (ho:Own w.heap.size w1 r cur)=>qho w.heap.size r cur (by omega) hcw (p+k) (by omega) (c.toNat:Int) w1 ho
  replace hc:=hid hc
  go_enter Tryz.func224,Tryz.ntmps224
  go_wp2_with (first|(go_at_call 226;with_reducible refine (hra _).mono ?_;rintro e w' ⟨rfl,rfl⟩)|(go_at_call 132;with_reducible refine hcp.mono ?_;rintro e w1 ⟨r,rfl,ho,hB⟩))
  go_loopw [20] (fun i wr=>∃ (k:Nat) (cur:List Int),k≤s.size∧i=.int .i64 k∧Own w.heap.size wr r cur∧cur.length=mem.length∧wordsB cur=true∧Below w.heap.size w wr∧Hid (storeN mem p s.data.toList=storeN cur (p+k) (s.data.toList.drop k)))
   (fun i _=>match i with|.int _ q=>s.size - q.toNat|_=>0)
  case atStart=>exact ⟨0,mem,Nat.zero_le _,rfl,ho,rfl,hW,hB,by rw [List.drop_zero];rfl⟩
  case round =>
   clear ho hB
   obtain ⟨k,cur,hk,rfl,ho,hcl,hcw,hB,hQ⟩:=hrel
   by_cases hkl:k<s.size
   ·have hx:=List.getElem?_eq_getElem (show k<s.data.toList.length from hkl)
    generalize s.data.toList[k]=ch at *
    have hix:=qtl hx
    have hd:=hid (qix (l:=cur) (a:=p) hx)
    have hcb:(ch.toNat:Int)≤255:=by have:=ch.toNat_lt;omega
    have hsb:=fun w1 ho=>hsb r cur k ch w1 hcl hcw hkl ho
    have hpk:(p:Int)+(k:Int)=((p+k:Nat):Int):=by omega
    rw [← hpk] at hsb
    have hM1:=qfi cur (p+k) (ch.toNat:Int)
    have hM2:=qf9 hcw (p+k) (ch.toNat:Int)
    rw [hcl] at hM1
    replace hpk:=hid hpk
    replace hM2:=hid hM2
    generalize setN cur (p+k) (ch.toNat:Int)=M at *
    clear hx
    replace hcl:=hid hcl
    replace hcw:=hid hcw
    go_wp2_with (first|(go_at_call 133;with_reducible refine (hsb _ ho).mono ?_;rintro e w' ⟨rfl,ho2,hb⟩;have hB2:=Below.trans hB hb))
    refine ⟨⟨k+1,M,by omega,by go_num,ho2,hM1,hM2,hB2,?_⟩,by simp only;omega⟩
    show _=_
    rw [show storeN mem p s.data.toList=_ from hQ]
    exact hd
   ·obtain rfl:k=s.size:=by omega
    have hQ2:Hid (storeN mem p s.data.toList=cur):=by show _=_;rw [show storeN mem p s.data.toList=_ from hQ,← hsz,List.drop_length];rfl
    clear hQ hsb
    go_wp2
    go_ret2
    exact ⟨_,rfl,by rw [show storeN mem p s.data.toList=_ from hQ2];exact ho,hB⟩
set_option maxHeartbeats 4000000 in
theorem qqc (vm:Value) (mem:List Int) (hl:mem.length≤1099511627776) (hW:wordsB mem=true) (hpos:0<mem.length) (a:Int) (ha:a≤9223372036854775807) (s:ByteArray) (hs:s.size≤4398046511104) (w:World) (hm:Nums .i64 w vm mem) :
 Calls Tryz.prog 138 #[vm,.int .i64 a,.string s] w fun e w'=>∃ r,e=.returned (.tuple #[r,.int .i64 (bytesE (2*(mem.length:Int)) a (s.size:Int))])∧Own w.heap.size w' r (storeL mem a s.data.toList)∧Below w.heap.size w w':=by
 have hsz:s.data.toList.length=s.size:=rfl
 obtain ⟨A,c,rfl,_,hc⟩:=hm
 have hra:=fun w=>qhz A mem.length c hl a (s.size:Int) ha w
 cases hq:inR (2*(mem.length:Int)) a (s.size:Int)
 ·rw [qft hq,qlk (by rw [hsz];exact hq)]
  rw [hq] at hra
  clear hq hc
  go_enter Tryz.func138,Tryz.ntmps138
  go_wp2_with (first|(go_at_call 143;with_reducible refine (hra _).mono ?_;rintro e w' ⟨rfl,rfl⟩))
  go_ret2
  exact ⟨_,rfl,Own.nil _ _,Below.refl _ _⟩
 ·obtain ⟨h0,h1,h2⟩:=qjr hq
  rw [qfq hq,qlv (by rw [hsz];exact hq)]
  rw [hq] at hra
  clear hq
  obtain ⟨p,rfl⟩:=Int.eq_ofNat_of_zero_le h0
  rw [Int.toNat_natCast]
  have hsb:=fun r cur k (c:UInt8) w1 (hcl:cur.length=mem.length) (hcw:wordsB cur=true) (hk:k<s.size) (ho:Own w.heap.size w1 r cur)=>rset_any w.heap.size r cur (by omega) hcw (p+k) (by omega) (c.toNat:Int) (by have:=c.toNat_lt;omega) w1 ho
  obtain ⟨q,rfl,_⟩:=hc 0 _ (List.getElem?_eq_getElem hpos)
  obtain ⟨i0,hti,hz0,hz1,hz2⟩:=info_parts qk9
  have hB0:=(Below.refl w.heap.size w).alloc (Nat.le_refl _) (.cells #[] 3)
  have hnews:=qtj hc hB0
  have hone:=qg2 mem
  have hgb:=fun (w':World) (hg:(w.alloc (.cells #[] 3)).grownBy w' (Value.ownBlock (.slice (some ⟨w.heap.size,0,none⟩) 0 0)))=>hB0.grown hg (Nat.le_of_lt (by simp)) (fun j hj=>(World.ownsRow.lt (qth w) j hj).1)
  replace hc:=hid hc
  go_enter Tryz.func138,Tryz.ntmps138
  go_wp2_with (first|(go_at_call 143;with_reducible refine (hra _).mono ?_;rintro e w' ⟨rfl,rfl⟩)|(at_builtin;refine wpList_append_own _ rfl (.tmp 16) (.tmp 17) 26 rfl w.heap.size 3 i0 (.int .i64 0) 1 8 Tryz.underlying26 hti hz0 hz1 hz2 rfl (by decide) _ 0 _ rfl (qth w) q mem.length c (mem.map (Value.int .i64)) rfl (by simp) hnews hone (by unfold maxLen;omega) (by omega) (Nat.le_of_lt (by simp)) ?_;intro r w1 hown' hgrow _;have ho:=own_all hown';have hB:=hgb _ hgrow;clear hown' hgrow))
  go_loopw [9] (fun i wr=>∃ (k:Nat) (cur:List Int),k≤s.size∧i=.int .i64 k∧Own w.heap.size wr r cur∧cur.length=mem.length∧wordsB cur=true∧Below w.heap.size w wr∧Hid (storeN mem p s.data.toList=storeN cur (p+k) (s.data.toList.drop k)))
   (fun i _=>match i with|.int _ q=>s.size - q.toNat|_=>0)
  case atStart=>exact ⟨0,mem,Nat.zero_le _,rfl,ho,rfl,hW,hB,by rw [List.drop_zero];rfl⟩
  case round =>
   clear ho hB
   obtain ⟨k,cur,hk,rfl,ho,hcl,hcw,hB,hQ⟩:=hrel
   by_cases hkl:k<s.size
   ·have hx:=List.getElem?_eq_getElem (show k<s.data.toList.length from hkl)
    generalize s.data.toList[k]=ch at *
    have hix:=qtl hx
    have hd:=hid (qix (l:=cur) (a:=p) hx)
    have hcb:(ch.toNat:Int)≤255:=by have:=ch.toNat_lt;omega
    have hsb:=fun w1 ho=>hsb r cur k ch w1 hcl hcw hkl ho
    have hpk:(p:Int)+(k:Int)=((p+k:Nat):Int):=by omega
    rw [← hpk] at hsb
    have hM1:=qfi cur (p+k) (ch.toNat:Int)
    have hM2:=qf9 hcw (p+k) (ch.toNat:Int)
    rw [hcl] at hM1
    replace hpk:=hid hpk
    replace hM2:=hid hM2
    generalize setN cur (p+k) (ch.toNat:Int)=M at *
    clear hx
    replace hcl:=hid hcl
    replace hcw:=hid hcw
    go_wp2_with (first|(go_at_call 103;with_reducible refine (hsb _ ho).mono ?_;rintro e w' ⟨rfl,ho2,hb⟩;have hB2:=Below.trans hB hb))
    refine ⟨⟨k+1,M,by omega,by go_num,ho2,hM1,hM2,hB2,?_⟩,by simp only;omega⟩
    show _=_
    rw [show storeN mem p s.data.toList=_ from hQ]
    exact hd
   ·obtain rfl:k=s.size:=by omega
    have hQ2:Hid (storeN mem p s.data.toList=cur):=by show _=_;rw [show storeN mem p s.data.toList=_ from hQ,← hsz,List.drop_length];rfl
    clear hQ hsb
    go_wp2
    go_ret2
    exact ⟨_,rfl,by rw [show storeN mem p s.data.toList=_ from hQ2];exact ho,hB⟩
set_option maxHeartbeats 4000000
theorem Its.nums {w:World} {v:Value} {l:List Int} (h:Its w v l):Nums .i64 w v l:=by
 obtain ⟨⟨A,c,rfl,hk,hc⟩,_⟩:=h
 refine ⟨A,c,rfl,hk,fun j x hx=>?_⟩
 obtain ⟨a,ha,h1,h2⟩:=hc j (.int .i64 x) (by rw [List.getElem?_map,hx];rfl)
 exact ⟨a,ha,h1,by have:=World.block_lt_of_cell? w _ h1;exact this⟩
theorem qek {X:Nat→Prop} {w:World} {N:Nat} {v:Value} {l:List Int} (hX:∀ b,X b→b<N) (h:Own N w v l):ItsX X w v l:=qd8 hX (hid rfl) (hid rfl) (show w.ownsRow N 3 1 v l.length (l.map (Value.int .i64)) from h)
theorem qat {B:Nat} {t:TypeId} {cs:List Value} {l:List (Nat×TypeId×List Value)} {w0 w:World} (h:Bag ((B,t,cs) :: l) w0 w):B<w.heap.size:=(h.all _ _ _ (.head _)).lt
theorem qg6 {X:Nat→Prop} {N n:Nat} (h:∀ b,X b→b<N) (hn:N+2≤n):∀ b,OwnA X N b→b<n:=fun b hb=>by
 rcases hb with hb|hb|hb
 ·have:=h b hb;omega
 ·omega
 ·omega
theorem qdy {X:Nat→Prop} {N:Nat}:∀ b,b<N→OwnA X N b→X b:=fun b hb h=>by
 rcases h with h|h|h
 ·exact h
 ·omega
 ·omega
theorem qr2 (B:List Int) (a:Int):∀ n,(clrV B a n).length≤B.length
 | 0=>Nat.le_refl _
 | n+1=>Nat.le_trans (List.length_filter_le _ _) (qr2 B a n)
theorem qts (B:List Int) (hl:B.length≤1099511627776) (a:Int) (ha:0≤a∧a≤65535) (n:Nat) (hn:n≤1099511627776) (vz:Value) (w:World) (X:Nat→Prop) (hXl:∀ b,X b→b<w.heap.size) (hz:ItsX X w vz B):Calls Tryz.prog 139 #[vz,.int .i64 a,.int .i64 (n:Int)] w fun e' w'=>∃ v,e'=.returned v∧ItsX X w' v (clrV B a n)∧Below w.heap.size w w':=by
 go_enter Tryz.func139,Tryz.ntmps139
 go_wp2
 go_loopw [0,7] (fun v iv wr=>∃ (i:Nat) (v':Value),i≤n∧v'=v∧iv=.int .i64 i∧ItsX X wr v' (clrV B a i)∧Below w.heap.size w wr) (fun _ iv _=>match iv with|.int _ q=>n - q.toNat|_=>0)
 case atStart=>exact ⟨0,_,Nat.zero_le _,rfl,rfl,hz,Below.refl _ _⟩
 case round =>
  clear hz
  obtain ⟨i,v,hi,rfl,rfl,hz,hB⟩:=hrel
  by_cases hin:i<n
  ·have hii:(i:Int)<(n:Int):=by omega
   have hwo:=fun x w (hv:Nums .i64 w v (clrV B a i))=>ql5 v (clrV B a i) (by have:=qr2 B a i;omega) x w hv
   have hst:=hid (show clrV B a (i+1)=withoutP (clrV B a i) ((a+(i:Int)) / 2*2) from rfl)
   have t1:IntKind.i64.wrap (a+(i:Int))=a+(i:Int):=by rw [qaf];unfold wrap64;omega
   have t2:(a+(i:Int)).tdiv 2=(a+(i:Int)) / 2:=Int.tdiv_eq_ediv_of_nonneg (by omega)
   have t3:IntKind.i64.wrap ((a+(i:Int)) / 2)=(a+(i:Int)) / 2:=by rw [qaf];unfold wrap64;omega
   have t4:IntKind.i64.wrap ((a+(i:Int)) / 2*2)=(a+(i:Int)) / 2*2:=by rw [qaf];unfold wrap64;omega
   generalize clrV B a i=C at *
   go_wp2_with (first|(go_at_call 104;(with_reducible refine (hwo _ _ (Its.nums hz.now)).mono ?_);rintro e' w2 ⟨v2,rfl,ho2,hb2⟩))
   exact ⟨⟨i+1,v2,by omega,rfl,by go_num,by rw [show clrV B a (i+1)=_ from hst];exact qek (fun b hb=>by have:=hXl b hb;have:=hB.size;omega) ho2,hB.trans (hb2.mono hB.size)⟩,by simp only;omega⟩
  ·obtain rfl:i=n:=by omega
   have hii:¬ (i:Int)<(i:Int):=by omega
   go_wp2
   go_ret
   exact ⟨_,rfl,hz,hB⟩
theorem qso (B:List Int) (a:Int) (n:Nat):splV B a (n+1)=(splV B a n || B.contains ((a+(n:Int)) / 2*2)):=by
 unfold splV;rw [List.range_succ,List.any_append];simp
theorem qrq (B:List Int) (a:Int) {i n:Nat} (h:splV B a i=true) (hi:i≤n):splV B a n=true:=by
 unfold splV at *
 rw [List.any_eq_true] at *
 obtain ⟨x,hx,h⟩:=h
 exact ⟨x,List.mem_range.2 (by have:=List.mem_range.1 hx;omega),h⟩
theorem qsc (B:List Int) (hl:B.length≤1099511627776) (a:Int) (ha:0≤a∧a≤65535) (n:Nat) (hn:n≤1099511627776) (vz:Value) (w:World) (hz:Its w vz B):Calls Tryz.prog 141 #[vz,.int .i64 a,.int .i64 (n:Int)] w fun e' w'=>e'=.returned (.bool (splV B a n))∧Below w.heap.size w w':=by
 have hB0:=Below.refl w.heap.size w
 have hha:∀ (x:Int) (w':World),Below w.heap.size w w'→Calls Tryz.prog 89 #[vz,.int .i64 x] w' fun e w2=>e=.returned (.bool (B.contains x))∧w'=w2:=fun x w' h=>has_any vz B hl x w' (Its.nums (Rz.below hz h))
 obtain ⟨RR,hRR⟩:∃ RR,splV B a n=RR:=⟨_,rfl⟩
 rw [hRR]
 replace hRR:=hid hRR
 go_enter Tryz.func141,Tryz.ntmps141
 go_wp2
 go_loopw [7] (fun iv wr=>∃ i:Nat,i≤n∧iv=.int .i64 i∧Hid (splV B a i=false)∧Below w.heap.size w wr) (fun iv _=>match iv with|.int _ q=>n - q.toNat|_=>0)
 case atStart=>exact ⟨0,Nat.zero_le _,rfl,rfl,hB0⟩
 case round =>
  clear hB0
  obtain ⟨i,hi,rfl,hS,hB⟩:=hrel
  by_cases hin:i<n
  ·have hii:(i:Int)<(n:Int):=by omega
   have hst:=qso B a i
   rw [show splV B a i=false from hS,Bool.false_or] at hst
   have hmo:=fun h=>qrq B a (i:=i+1) (n:=n) h (by omega)
   have t1:IntKind.i64.wrap (a+(i:Int))=a+(i:Int):=by rw [qaf];unfold wrap64;omega
   have t2:(a+(i:Int)).tdiv 2=(a+(i:Int)) / 2:=Int.tdiv_eq_ediv_of_nonneg (by omega)
   have t3:IntKind.i64.wrap ((a+(i:Int)) / 2)=(a+(i:Int)) / 2:=by rw [qaf];unfold wrap64;omega
   have t4:IntKind.i64.wrap ((a+(i:Int)) / 2*2)=(a+(i:Int)) / 2*2:=by rw [qaf];unfold wrap64;omega
   replace hha:=hha ((a+(i:Int)) / 2*2)
   cases hc:B.contains ((a+(i:Int)) / 2*2)
   ·rw [hc] at hst hha
    replace hst:=hid hst
    clear hc hmo hS
    go_wp2_with (first|(go_at_call 89;(with_reducible refine (hha _ hB).mono ?_);rintro e' w2 ⟨rfl,rfl⟩))
    exact ⟨⟨i+1,by omega,by go_num,hst,hB⟩,by simp only;omega⟩
   ·rw [hc] at hst hha
    obtain rfl:true=RR:=(hmo hst).symm.trans hRR
    clear hc hmo hS hst
    go_wp2_with (first|(go_at_call 89;(with_reducible refine (hha _ hB).mono ?_);rintro e' w2 ⟨rfl,rfl⟩))
    go_ret
    exact ⟨rfl,hB⟩
  ·obtain rfl:i=n:=by omega
   have hii:¬ (i:Int)<(i:Int):=by omega
   obtain rfl:false=RR:=(show splV B a i=false from hS).symm.trans hRR
   clear hha hS
   go_wp2
   go_ret
   exact ⟨rfl,hB⟩
theorem qmn (K:Tp) (M B:List Int) (hlM:M.length≤1099511627776) (hlB:B.length≤1099511627776) (hl:K.R.length≤1099511627776) (hp:0≤K.p∧K.p≤(K.R.length:Int)) (hk:0≤K.k∧K.k≤65535) (ha:0≤K.a∧K.a≤65535) (vs vm vz:Value) (w:World) (X:Nat→Prop) (hXl:∀ b,X b→b<w.heap.size) (hs:StsX X w vs K.R) (hm:Its w vm M) (hz:Its w vz B):Calls Tryz.prog 118 #[.agg #[vs,.int .i64 (K).p,.bool (K).n,.bool (K).r,.bool (K).e,.bool (K).m,.bool (K).d,.int .i64 (K).c,.int .i64 (K).k,.int .i64 (K).a,.int .i64 (K).l],vm,vz] w fun e' w'=>∃ x,e'=.returned x∧TpX X w' x (K.write M B)∧Below w.heap.size w w':=by
 have hby:∀ w',Below w.heap.size w w'→_:=fun w' h=>qqy vm M hlM K.a K.k (by omega) w' (Its.nums (Rz.below hm h))
 have hsp:∀ w',Below w.heap.size w w'→_:=fun w' h=>qsc B hlB K.a ha K.k.toNat (by omega) vz w' (Rz.below hz h)
 have hap:∀ w',Below w.heap.size w w'→w.heap.size+2≤w'.heap.size→_:=fun w' h h2=>qlb K (strV (bytesN M K.a.toNat K.k.toNat)) hl hp vs w' (OwnA X w.heap.size) (qg6 hXl h2) (hs.weak h qdy)
 rw [Int.toNat_of_nonneg hk.1] at hsp
 obtain ⟨A,c',hv,_,_⟩:=hs.now.form
 subst hv
 obtain ⟨KW,hKW⟩:∃ KW,K.write M B=KW:=⟨_,rfl⟩
 rw [hKW]
 unfold Tp.write at hKW
 unfold bytesE at hby
 unfold bytesS at hby
 generalize hAP:K.app (strV (bytesN M K.a.toNat K.k.toNat))=K2 at *
 obtain ⟨R,p,n,r,e,m,d,c,k,a,l⟩:=K
 dsimp only at *
 have hX:=qa0 w [(.slice A R.length c'),.int .i64 p,.bool n,.bool r,.bool e,.bool m,.bool d,.int .i64 c,.int .i64 k,.int .i64 a,.int .i64 l] [.slice none 0 0,.int .i64 0,.bool false,.bool false,.bool false,.bool false,.bool false,.int .i64 0,.int .i64 0,.int .i64 0,.int .i64 0]
 clear hm hz hAP
 by_cases k1:k<1
 ·rw [if_neg (by omega)] at hKW
  subst hKW
  have d1:decide (k<1)=true:=decide_eq_true k1
  clear hap
  generalize bytesN M _ _=bs at *
  generalize inR _ _ _=ir at *
  generalize splV _ _ _=sp at *
  clear hk ha k1
  cases ir
  all_goals
   simp only [Bool.false_eq_true,if_false,if_true] at hby
   go_enter Tryz.func118,Tryz.ntmps118
   go_wp2_with (first|((with_reducible refine qab ?_);first|refine lc hX ?_|refine lw hX aggT sizT ?_)|((first|(go_at_call 140;with_reducible refine cst hX (hby _ hX.below) ?_)|(go_at_call 141;with_reducible refine cst hX (hsp _ hX.below) ?_));clear hX;intro wb hX)|((with_reducible refine qah ?_);first|((first|refine sc (z:=.bool _) hX.swap ?_|refine sc (z:=.bool _) hX ?_);clear hX;intro wp hX hk3 hz3;clear hk3 hz3;simp only [sx] at hX)|(refine qaa (cs':=[(.slice A R.length c'),.int .i64 p,.bool n,.bool r,.bool true,.bool m,.bool d,.int .i64 c,.int .i64 k,.int .i64 a,.int .i64 l]) hX.swap aggT sizT _ _ rfl rfl rfl rfl rfl rfl rfl rfl (qan rfl _ _ _ _ _ _ _ _ _ _) ?_;clear hX;intro wz hX hkz;clear hkz)|(refine qaa (cs':=[(.slice A R.length c'),.int .i64 p,.bool n,.bool r,.bool true,.bool m,.bool d,.int .i64 c,.int .i64 k,.int .i64 a,.int .i64 l]) hX aggT sizT _ _ rfl rfl rfl rfl rfl rfl rfl rfl (qan rfl _ _ _ _ _ _ _ _ _ _) ?_;clear hX;intro wz hX hkz;clear hkz)))
   first|exact bodyPost_ret (qaj Tryz.results118 rfl ((hX.all _ _ _ (.head _)).loadVar rfl aggT sizT)) rfl ⟨_,rfl,⟨_,rfl,hs.below hX.below⟩,hX.below⟩|exact bodyPost_ret (qaj Tryz.results118 rfl ((hX.all _ _ _ (.tail _ (.head _))).loadVar rfl aggT sizT)) rfl ⟨_,rfl,⟨_,rfl,hs.below hX.below⟩,hX.below⟩
 have d1:decide (k<1)=false:=decide_eq_false k1
 by_cases k2:512<k
 ·rw [if_neg (by omega)] at hKW
  subst hKW
  have d2:decide (512<k)=true:=decide_eq_true k2
  clear hap
  generalize bytesN M _ _=bs at *
  generalize inR _ _ _=ir at *
  generalize splV _ _ _=sp at *
  clear hk ha k1 k2
  cases ir
  all_goals
   simp only [Bool.false_eq_true,if_false,if_true] at hby
   go_enter Tryz.func118,Tryz.ntmps118
   go_wp2_with (first|((with_reducible refine qab ?_);first|refine lc hX ?_|refine lw hX aggT sizT ?_)|((first|(go_at_call 140;with_reducible refine cst hX (hby _ hX.below) ?_)|(go_at_call 141;with_reducible refine cst hX (hsp _ hX.below) ?_));clear hX;intro wb hX)|((with_reducible refine qah ?_);first|((first|refine sc (z:=.bool _) hX.swap ?_|refine sc (z:=.bool _) hX ?_);clear hX;intro wp hX hk3 hz3;clear hk3 hz3;simp only [sx] at hX)|(refine qaa (cs':=[(.slice A R.length c'),.int .i64 p,.bool n,.bool r,.bool true,.bool m,.bool d,.int .i64 c,.int .i64 k,.int .i64 a,.int .i64 l]) hX.swap aggT sizT _ _ rfl rfl rfl rfl rfl rfl rfl rfl (qan rfl _ _ _ _ _ _ _ _ _ _) ?_;clear hX;intro wz hX hkz;clear hkz)|(refine qaa (cs':=[(.slice A R.length c'),.int .i64 p,.bool n,.bool r,.bool true,.bool m,.bool d,.int .i64 c,.int .i64 k,.int .i64 a,.int .i64 l]) hX aggT sizT _ _ rfl rfl rfl rfl rfl rfl rfl rfl (qan rfl _ _ _ _ _ _ _ _ _ _) ?_;clear hX;intro wz hX hkz;clear hkz)))
   first|exact bodyPost_ret (qaj Tryz.results118 rfl ((hX.all _ _ _ (.head _)).loadVar rfl aggT sizT)) rfl ⟨_,rfl,⟨_,rfl,hs.below hX.below⟩,hX.below⟩|exact bodyPost_ret (qaj Tryz.results118 rfl ((hX.all _ _ _ (.tail _ (.head _))).loadVar rfl aggT sizT)) rfl ⟨_,rfl,⟨_,rfl,hs.below hX.below⟩,hX.below⟩
 have d2:decide (512<k)=false:=decide_eq_false k2
 have hk12:1≤k∧k≤512:=by omega
 cases hir:inR (2*(M.length:Int)) a k
 ·rw [hir] at hby hKW
  rw [if_neg (fun h=>by cases h.2.1)] at hKW
  subst hKW
  simp only [Bool.false_eq_true,if_false] at hby
  clear hap hk ha k1 k2 hir hk12
  generalize splV _ _ _=sp at *
  go_enter Tryz.func118,Tryz.ntmps118
  go_wp2_with (first|((with_reducible refine qab ?_);first|refine lc hX ?_|refine lw hX aggT sizT ?_)|((first|(go_at_call 140;with_reducible refine cst hX (hby _ hX.below) ?_)|(go_at_call 141;with_reducible refine cst hX (hsp _ hX.below) ?_));clear hX;intro wb hX)|((with_reducible refine qah ?_);first|((first|refine sc (z:=.bool _) hX.swap ?_|refine sc (z:=.bool _) hX ?_);clear hX;intro wp hX hk3 hz3;clear hk3 hz3;simp only [sx] at hX)|(refine qaa (cs':=[(.slice A R.length c'),.int .i64 p,.bool n,.bool r,.bool true,.bool m,.bool d,.int .i64 c,.int .i64 k,.int .i64 a,.int .i64 l]) hX.swap aggT sizT _ _ rfl rfl rfl rfl rfl rfl rfl rfl (qan rfl _ _ _ _ _ _ _ _ _ _) ?_;clear hX;intro wz hX hkz;clear hkz)|(refine qaa (cs':=[(.slice A R.length c'),.int .i64 p,.bool n,.bool r,.bool true,.bool m,.bool d,.int .i64 c,.int .i64 k,.int .i64 a,.int .i64 l]) hX aggT sizT _ _ rfl rfl rfl rfl rfl rfl rfl rfl (qan rfl _ _ _ _ _ _ _ _ _ _) ?_;clear hX;intro wz hX hkz;clear hkz)))
  first|exact bodyPost_ret (qaj Tryz.results118 rfl ((hX.all _ _ _ (.head _)).loadVar rfl aggT sizT)) rfl ⟨_,rfl,⟨_,rfl,hs.below hX.below⟩,hX.below⟩|exact bodyPost_ret (qaj Tryz.results118 rfl ((hX.all _ _ _ (.tail _ (.head _))).loadVar rfl aggT sizT)) rfl ⟨_,rfl,⟨_,rfl,hs.below hX.below⟩,hX.below⟩
 rw [hir] at hby hKW
 simp only [if_true] at hby
 cases hspv:splV B a k.toNat
 ·rw [hspv] at hsp hKW
  rw [if_pos ⟨hk12,rfl,rfl⟩] at hKW
  subst hKW
  unfold strV at hap
  generalize bytesN M _ _=bs at *
  clear hk ha k1 k2 hir hk12 hspv
  go_enter Tryz.func118,Tryz.ntmps118
  go_wp2_with (first|((with_reducible refine qab ?_);first|refine lc hX ?_|refine lw hX aggT sizT ?_)|((first|(go_at_call 140;with_reducible refine cst hX (hby _ hX.below) ?_)|(go_at_call 141;with_reducible refine cst hX (hsp _ hX.below) ?_));clear hX;intro wb hX)|(go_at_call 121;(with_reducible refine (hap _ hX.below (by have hlt:=qat hX;omega)).mono ?_);rintro e' wa ⟨x,rfl,⟨v3,rfl,hs3⟩,hbb⟩;replace hX:=hX.step hbb;obtain ⟨A3,c3,rfl,_⟩:=hs3.now.form;clear hbb)|((with_reducible refine qah ?_);first|(refine qaa (cs':=[(.slice A3 K2.R.length c3),.int .i64 (K2).p,.bool (K2).n,.bool (K2).r,.bool (K2).e,.bool (K2).m,.bool (K2).d,.int .i64 (K2).c,.int .i64 (K2).k,.int .i64 (K2).a,.int .i64 (K2).l]) hX.swap aggT sizT _ _ rfl rfl rfl rfl rfl rfl rfl rfl (qan rfl _ _ _ _ _ _ _ _ _ _) ?_;clear hX;intro wz hX hkz;replace hs3:=hs3.over hkz (by first|exact .inr (.inr rfl)|exact .inr (.inl rfl));clear hkz)|(refine qaa (cs':=[(.slice A3 K2.R.length c3),.int .i64 (K2).p,.bool (K2).n,.bool (K2).r,.bool (K2).e,.bool (K2).m,.bool (K2).d,.int .i64 (K2).c,.int .i64 (K2).k,.int .i64 (K2).a,.int .i64 (K2).l]) hX aggT sizT _ _ rfl rfl rfl rfl rfl rfl rfl rfl (qan rfl _ _ _ _ _ _ _ _ _ _) ?_;clear hX;intro wz hX hkz;replace hs3:=hs3.over hkz (by first|exact .inr (.inr rfl)|exact .inr (.inl rfl));clear hkz)))
  first|exact bodyPost_ret (qaj Tryz.results118 rfl ((hX.all _ _ _ (.head _)).loadVar rfl aggT sizT)) rfl ⟨_,rfl,⟨_,rfl,hs3.less (fun _ h=>.inl h)⟩,hX.below⟩|exact bodyPost_ret (qaj Tryz.results118 rfl ((hX.all _ _ _ (.tail _ (.head _))).loadVar rfl aggT sizT)) rfl ⟨_,rfl,⟨_,rfl,hs3.less (fun _ h=>.inl h)⟩,hX.below⟩
 ·rw [hspv] at hsp hKW
  rw [if_neg (fun h=>by cases h.2.2)] at hKW
  subst hKW
  clear hap hk ha k1 k2 hir hk12 hspv
  go_enter Tryz.func118,Tryz.ntmps118
  go_wp2_with (first|((with_reducible refine qab ?_);first|refine lc hX ?_|refine lw hX aggT sizT ?_)|((first|(go_at_call 140;with_reducible refine cst hX (hby _ hX.below) ?_)|(go_at_call 141;with_reducible refine cst hX (hsp _ hX.below) ?_));clear hX;intro wb hX)|((with_reducible refine qah ?_);first|((first|refine sc (z:=.bool _) hX.swap ?_|refine sc (z:=.bool _) hX ?_);clear hX;intro wp hX hk3 hz3;clear hk3 hz3;simp only [sx] at hX)|(refine qaa (cs':=[(.slice A R.length c'),.int .i64 p,.bool n,.bool r,.bool true,.bool m,.bool d,.int .i64 c,.int .i64 k,.int .i64 a,.int .i64 l]) hX.swap aggT sizT _ _ rfl rfl rfl rfl rfl rfl rfl rfl (qan rfl _ _ _ _ _ _ _ _ _ _) ?_;clear hX;intro wz hX hkz;clear hkz)|(refine qaa (cs':=[(.slice A R.length c'),.int .i64 p,.bool n,.bool r,.bool true,.bool m,.bool d,.int .i64 c,.int .i64 k,.int .i64 a,.int .i64 l]) hX aggT sizT _ _ rfl rfl rfl rfl rfl rfl rfl rfl (qan rfl _ _ _ _ _ _ _ _ _ _) ?_;clear hX;intro wz hX hkz;clear hkz)))
  first|exact bodyPost_ret (qaj Tryz.results118 rfl ((hX.all _ _ _ (.head _)).loadVar rfl aggT sizT)) rfl ⟨_,rfl,⟨_,rfl,hs.below hX.below⟩,hX.below⟩|exact bodyPost_ret (qaj Tryz.results118 rfl ((hX.all _ _ _ (.tail _ (.head _))).loadVar rfl aggT sizT)) rfl ⟨_,rfl,⟨_,rfl,hs.below hX.below⟩,hX.below⟩
end Go.Proofs.YthpnddgfgpacpaaGreat
