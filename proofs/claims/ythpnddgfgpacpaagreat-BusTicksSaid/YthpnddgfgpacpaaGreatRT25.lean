import Derived.Test.YthpnddgfgpacpaaGreatRT04
import Derived.Test.YthpnddgfgpacpaaGreatRT05
import Derived.Test.YthpnddgfgpacpaaGreatRT13
import Derived.Test.YthpnddgfgpacpaaGreatRT12
import Derived.Maps.OwnOps
import Derived.Maps.Views
import Derived.Lib.BufferWrite
import Derived.Lib.SliceRun
import Derived.Deep.OwnRows
import Derived.Laws.MakeOwn
import Derived.Laws.CopyOwn
namespace Go.Proofs.YthpnddgfgpacpaaGreat
open Go.RowKit
set_option linter.unusedSimpArgs false
set_option linter.unusedVariables false
set_option maxHeartbeats 4000000
set_option maxRecDepth 100000
attribute [local irreducible] wpQuiet
section
variable {ops:Array Oper} {rest:List Oper} {o:Oper} {a:Act} {w w0 w1:World} {Q:Exit→Act→World→Prop} {l:List (Nat×TypeId×List Value)}
theorem qc7 {t T:TypeId} {n:Nat} {cs zs:List Value} (hX:Bag l w0 w) (hagg:∀ w,(isAgg T).run Tryz.prog w=.ok true w) (hsz:∀ w,(sizeOf T).run Tryz.prog w=.ok n w) (x y:Operand) (hop:o.op=Op.store T x y) (hal:w1=w.alloc (.cells zs.toArray t)) (hx:a.eval x=.pointer (some ⟨w.heap.size,0,none⟩)) (hy:a.eval y=.agg cs.toArray) (hdst:o.dst=none) (hw:Region.wanted o (yielded ops a.tmps)=true) (hn:cs.length=n) (hm:zs.length=n) (h1:∀ v∈cs,v.oneCell'=true)
 (h:∀ w2,Bag ((w.heap.size,t,cs) :: l) w0 w2→Below w.heap.size w w2→wpList Tryz.prog ops Q rest a w2):wpList Tryz.prog ops Q (o :: rest) a w1:=by
 subst hal
 exact qbc hw hdst T x y _ _ hop hx hy hagg (by rw [hn];exact hsz) (qcp w zs cs (by rw [hn,hm]) h1) (h _ (hX.new _ _) ((Below.refl _ _).alloc (Nat.le_refl _) _))
end
theorem palw_any (n:Int) (w:World):Calls Tryz.prog 217 #[.int .i64 n] w fun e w'=>e=.returned (.bool (decide (1≤n) && decide (n≤256)))∧Below w.heap.size w w':=by
 by_cases h1:1≤n
 ·have d1:decide (1≤n)=true:=decide_eq_true h1
  rw [d1,Bool.true_and]
  obtain ⟨r,hr⟩:∃ r,decide (n≤256)=r:=⟨_,rfl⟩
  rw [hr]
  clear h1
  go_enter Tryz.func217,Tryz.ntmps217
  go_wp2
  go_ret
  exact ⟨rfl,Below.refl _ _⟩
 ·have d1:decide (1≤n)=false:=decide_eq_false h1
  rw [d1,Bool.false_and]
  clear h1
  go_enter Tryz.func217,Tryz.ntmps217
  go_wp2
  go_ret
  exact ⟨rfl,Below.refl _ _⟩
def hasV (m:Nat) (k:Int):Bool:=decide (0≤k) && decide (k<(m:Int))
theorem qcz (m:Nat) (k:Int):hasV m k=true↔0≤k∧k<(m:Int):=by unfold hasV;simp
theorem qj8 (A:Option Addr) (m c:Nat) (vb:Value) (k:Int) (w:World):Calls Tryz.prog 218 #[.agg #[.slice A m c,vb],.int .i64 k] w fun e w'=>e=.returned (.bool (hasV m k))∧Below w.heap.size w w':=by
 have hX:=(Bag.nil w).new 38 [.slice A m c,vb]
 unfold hasV
 by_cases h1:0≤k
 ·have d1:decide (0≤k)=true:=decide_eq_true h1
  rw [d1,Bool.true_and]
  obtain ⟨r,hr⟩:∃ r,decide (k<(m:Int))=r:=⟨_,rfl⟩
  rw [hr]
  clear h1
  go_enter Tryz.func218,Tryz.ntmps218
  go_wp2_with (first|((with_reducible refine qab ?_);refine lc hX ?_))
  go_ret
  exact ⟨rfl,hX.below⟩
 ·have d1:decide (0≤k)=false:=decide_eq_false h1
  rw [d1,Bool.false_and]
  clear h1
  go_enter Tryz.func218,Tryz.ntmps218
  go_wp2_with (first|((with_reducible refine qab ?_);refine lc hX ?_))
  go_ret
  exact ⟨rfl,hX.below⟩
theorem qt9 (u z:DataW Unit) (k:Lit):∀ (acc:List Lit) (m:DataW Unit),Maps.IsMap m→(∀ x∈acc,WideAt.IsKeyLit x)→(k∈acc∨m.atKey k z=u)→(acc.foldl (fun m x=>m.put x u) m).atKey k z=u
 | [],m,_,_,h=>by rcases h with h|h;cases h;exact h
 | x :: r,m,hm,ha,h=>by
   refine qt9 u z k r _ (hm.put x u) (fun y hy=>ha y (List.mem_cons_of_mem _ hy)) ?_
   by_cases e:k=x
   ·subst e;exact .inr (Maps.atKey_put_same hm (ha _ List.mem_cons_self) u z)
   ·rcases h with h|h
    ·rcases List.mem_cons.1 h with h|h
     ·exact absurd h e
     ·exact .inl h
    ·exact .inr ((Maps.atKey_put_other e u z).trans h)
theorem qo3 (u z:DataW Unit) (k:Lit):∀ (acc:List Lit) (m:DataW Unit),k∉acc→(acc.foldl (fun m x=>m.put x u) m).atKey k z=m.atKey k z
 | [],_,_=>rfl
 | x :: r,m,h=>by
   have h1:k≠x:=fun e=>h (e▸List.mem_cons_self)
   exact (qo3 u z k r _ (fun hr=>h (List.mem_cons_of_mem _ hr))).trans (Maps.atKey_put_other h1 u z)
def sOf (B:List Int):DataW Unit:=Maps.setOf (.lit (.bool true)) (B.map (Lit.int .i64))
theorem sOf_snoc (B:List Int) (x:Int):sOf (B++[x])=(sOf B).put (.int .i64 x) (.lit (.bool true)):=by
 unfold sOf;rw [List.map_append];exact Maps.setOf_snoc _ _ _
theorem key_int (B:List Int):∀ x∈B.map (Lit.int .i64),WideAt.IsKeyLit x:=by
 intro x hx;obtain ⟨y,_,rfl⟩:=List.mem_map.1 hx;trivial
theorem sOf_at (B:List Int) (k:Int):(sOf B).atKey (.int .i64 k) (.lit (.bool false))=.lit (.bool (B.contains k)):=by
 unfold sOf Maps.setOf
 cases hc:B.contains k
 ·refine (qo3 _ _ _ _ _ (fun h=>?_)).trans rfl
  obtain ⟨y,hy,e⟩:=List.mem_map.1 h
  cases e
  rw [List.contains_iff_mem.2 hy] at hc
  cases hc
 ·exact qt9 _ _ _ _ _ Maps.isMap_empty (key_int B) (.inl (List.mem_map.2 ⟨k,List.contains_iff_mem.1 hc,rfl⟩))
theorem qf1 {P:Program} {e:TypeId} (he:P.underlying e=some .bool) {v:Value} {z:DataW Unit×List MemPlace} (h:plainElem P e v=some z):∃ x,v=.bool x∧z=(.lit (.bool x),[]):=by
 unfold plainElem at h
 rw [he] at h
 cases v<;>simp at h
 exact ⟨_,rfl,h.symm⟩
theorem qtk:Maps.Keyed Tryz.prog 3:=Maps.int_keyed Tryz.underlying3
theorem qt1 (w:World):(zeroValue 4).run Tryz.prog w=.ok (.bool false) w:=by kernel_rfl
theorem wf64 {k:Int} (h:0≤k∧k<9223372036854775808):(Lit.int .i64 k).wf=true:=by
 exact WalkArith.wf_i64 (by omega)
def OwnM (w:World) (b:Nat) (B:List Int):Prop:=∃ n,w.ownsMap (H:=Unit) Tryz.prog 3 (plainElem Tryz.prog 4) b n (sOf B)
theorem ql0 {w w':World} {b n:Nat} {B:List Int} (h:w.ownsMap (H:=Unit) Tryz.prog 3 (plainElem Tryz.prog 4) b n (sOf B)) (hb:w'.heap[b]? = w.heap[b]?):w'.ownsMap (H:=Unit) Tryz.prog 3 (plainElem Tryz.prog 4) b n (sOf B):=by
 obtain ⟨es,clock,h1,h2⟩:=h
 exact ⟨es,clock,hb.trans h1,h2⟩
theorem OwnM.same {w w':World} {b:Nat} {B:List Int} (h:OwnM w b B) (hb:w'.heap[b]? = w.heap[b]?):OwnM w' b B:=h.imp fun n h=>ql0 h hb
theorem OwnM.lt {w:World} {b:Nat} {B:List Int} (h:OwnM w b B):b<w.heap.size:=h.elim fun n h=>World.ownsMap.lt h
theorem OwnM.step {w w':World} {b:Nat} {B:List Int} (h:OwnM w b B) (hb:Below w.heap.size w w'):OwnM w' b B:=h.same (hb.block b h.lt)
section
variable {ops:Array Oper} {rest:List Oper} {o:Oper} {a:Act} {w:World} {Q:Exit→Act→World→Prop} {b:Nat} {B:List Int}
theorem look_run {k:Int} (hM:OwnM w b B) (hk:0≤k∧k<9223372036854775808):(Instr.lookup 225 (.map (some b)) (.int .i64 k) false).run Tryz.prog w=.ok (.bool (B.contains k)) w:=by
 obtain ⟨n,hown⟩:=hM
 obtain ⟨v,ps,hrun,hv⟩:=hown.lookup qtk Tryz.underlying225 (qt1 w) (plainElem_bool Tryz.underlying4 false) (Maps.keyOf_int_mk Tryz.underlying3 (wf64 hk))
 obtain ⟨x,rfl,hz⟩:=qf1 Tryz.underlying4 hv
 rw [sOf_at] at hz
 have e:B.contains k=x:=by injection hz with h1;injection h1 with h1;injection h1
 rw [e];exact hrun
theorem qej {k:Int} (hM:OwnM w b B) (hk:0≤k∧k<9223372036854775808) (hg:o.guard=none) (m x:Operand) (hop:o.op=Op.lookup 225 m x false) (hm:a.eval m=.map (some b)) (hx:a.eval x=.int .i64 k)
 (h:wpList Tryz.prog ops Q rest (a.put o.dst (.bool (B.contains k))) w):wpList Tryz.prog ops Q (o :: rest) a w:=by
 refine wpList_plain hg fun K' hK'=>?_
 unfold Oper.wp
 simp [execOp,hop,hm,hx,look_run hM hk,Result.andThen]
 exact hK' _ _ (by simpa using h)
theorem qm9 {n:Nat} {x:Int} (hown:w.ownsMap (H:=Unit) Tryz.prog 3 (plainElem Tryz.prog 4) b n (sOf B)) (hn:n<1099511627776) (hk:0≤x∧x<9223372036854775808) (hg:o.guard=none) (m k v:Operand) (hop:o.op=Op.mapUpdate 225 m k v) (hm:a.eval m=.map (some b)) (hx:a.eval k=.int .i64 x) (hv:a.eval v=.bool true)
 (h:∀ w',w'.ownsMap (H:=Unit) Tryz.prog 3 (plainElem Tryz.prog 4) b (n+1) (sOf (B++[x]))→w.grownBy w' (some b)→wpList Tryz.prog ops Q rest (a.put o.dst undef) w'):wpList Tryz.prog ops Q (o :: rest) a w :=
 wpList_mapUpdate_own w hg m k v 225 hop 3 4 qtk Tryz.underlying225 _ b n _ hm hown (by unfold maxLen;omega) _ _ (.int .i64 x) hx hv (Maps.keyOf_int_mk Tryz.underlying3 (wf64 hk)) _ [] (plainElem_bool Tryz.underlying4 true) (fun w' h1 h2=>h w' (by rw [sOf_snoc];exact h1) h2)
end
theorem quk (n:Nat) (w:World):(Instr.makeMap 225 (some (.int .i64 (n:Int)))).run Tryz.prog w=.ok (.map (some w.heap.size)) (w.alloc (.map #[] 0)):=by
 simp [Instr.makeMap,run_underlying Tryz.underlying225,asInt,asIntOf,Result.andThen]
theorem qkf (D:Drv) (hl:D.B.length≤1099511627775) (hB:∀ x∈D.B,0≤x∧x<9223372036854775808) (vs vb:Value) (w:World) (hb:Its w vb D.B):Calls Tryz.prog 230 #[.agg #[vs,vb]] w fun e w'=>∃ b,e=.returned (.map (some b))∧OwnM w' b D.B∧w.heap.size≤b∧Below w.heap.size w w':=by
 obtain ⟨S,B⟩:=D
 dsimp only at hl hB hb ⊢
 obtain ⟨A,c,rfl,_,hc⟩:=hb.form
 have hX:=((Bag.nil w).new 38 [vs,.slice A B.length c]).step ((Below.refl _ _).alloc (Nat.le_refl _) (.map #[] 0))
 have hM0:((w.alloc (.cells ([vs,.slice A B.length c]:List Value).toArray 38)).alloc (.map #[] 0)).ownsMap (H:=Unit) Tryz.prog 3 (plainElem Tryz.prog 4) (w.heap.size+1) 0 (sOf (B.take 0)):=by
  have h:=World.ownsMap_made (H:=Unit) (w.alloc (.cells ([vs,.slice A B.length c]:List Value).toArray 38)) Tryz.prog 3 (plainElem Tryz.prog 4)
  rw [show (w.alloc (.cells ([vs,.slice A B.length c]:List Value).toArray 38)).heap.size=w.heap.size+1 from Array.size_push ..] at h
  exact h
 have hX1:=(Bag.nil w).new 38 [vs,.slice A B.length c]
 have hmk:=quk B.length
 clear hb
 go_enter Tryz.func230,Tryz.ntmps230
 go_wp2_with (first|((with_reducible refine qab ?_);first|refine lc hX1 ?_|refine lc hX ?_))
 go_loopw [5,13] (fun sv iv wr=>∃ k:Nat,k≤B.length∧iv=.int .i64 k∧wr.ownsMap (H:=Unit) Tryz.prog 3 (plainElem Tryz.prog 4) (w.heap.size+1) k (sOf (B.take k))∧Bag [(w.heap.size,38,[vs,.slice A B.length c])] w wr) (fun _ iv _=>match iv with|.int _ q=>B.length - q.toNat|_=>0)
 case atStart=>exact ⟨0,Nat.zero_le _,rfl,hM0,hX⟩
 case round =>
  clear hX hX1 hM0 hmk
  obtain ⟨k,hk,rfl,hM,hX⟩:=hrel
  by_cases hkn:k<B.length
  ·have hki:(k:Int)<(B.length:Int):=by omega
   have hx:=List.getElem?_eq_getElem hkn
   have hbx:=hB _ (List.getElem_mem hkn)
   generalize B[k]=x at *
   obtain ⟨a,rfl,hL⟩:=hc k x hx
   have hst:=hid (show B.take (k+1)=B.take k++[x] from by rw [List.take_add_one,hx];rfl)
   clear hB hx hc
   go_wp2_with (first|((with_reducible refine qab ?_);refine qaq rfl 3 _ _ _ rfl rfl (hL _ hX.below) ?_)|(at_mapUpdate;refine qm9 hM (by omega) hbx rfl _ _ _ rfl rfl rfl rfl ?_;intro w1 hM1 hg1))
   exact ⟨⟨k+1,by omega,by go_num,by rw [show B.take (k+1)=_ from hst];exact hM1,hX.stepN ((Below.refl (w.heap.size+1) _).grown hg1 (hX.all _ _ _ (.head _)).lt (fun j hj=>by cases hj;exact Nat.le_refl _)) (fun b hb=>by simp at hb;rcases hb with rfl;simp) (by omega)⟩,by simp only;omega⟩
  ·obtain rfl:k=B.length:=by omega
   have hki:¬ (B.length:Int)<(B.length:Int):=by omega
   rw [List.take_length] at hM
   clear hB hc
   go_wp2
   go_ret
   exact ⟨_,rfl,⟨_,hM⟩,by omega,hX.below⟩
theorem qg1 (S:List ByteArray) (v:Value) (w:World) (hl:S.length≤1099511627776) (h:Sts w v S):Calls Tryz.prog 124 #[v] w fun e w'=>∃ v',e=.returned v'∧w'.ownsRow w.heap.size 9 1 v' S.length (S.map Value.string)∧Below w.heap.size w w':=by
 rcases Rz.form h with ⟨rfl,h0,h1⟩|⟨a,c,rfl,hc⟩
 ·have hq:∀ w:World,(binOp .eql 36 (.slice none 0 0) (.slice none 0 0)).run Tryz.prog w=.ok (.bool true) w:=fun w=>Lib.run_eql_slice_nil w _ _ none 0 0 0 0 Tryz.underlying36
  go_enter Tryz.func124,Tryz.ntmps124
  go_wp2
  go_ret
  exact ⟨_,rfl,by rw [h1,h0];exact World.ownsRow_nil _ _ _ _,Below.refl _ _⟩
 ·have hcl:=Rz.cell (Rz.below h ((Below.refl _ _).alloc (Nat.le_refl _) (.cells #[] 9)))
  have hq:∀ w:World,(binOp .eql 36 (.slice (some a) S.length c) (.slice none 0 0)).run Tryz.prog w=.ok (.bool false) w:=fun w=>Lib.run_eql_slice_nil w _ _ (some a) S.length c 0 0 Tryz.underlying36
  clear h
  go_enter Tryz.func124,Tryz.ntmps124
  go_wp2_with (first|(at_builtin;refine qcd rfl (.tmp 5) (.tmp 6) rfl w.heap.size _ 0 [] rfl (qbe w _) a S.length c (S.map Value.string) rfl (by simp) hcl (qfe S) (by omega) (by simp) ?_;intro v2 w2 ho2 hb2 _))
  go_ret
  exact ⟨_,rfl,by simpa using ho2,((Below.refl _ _).alloc (Nat.le_refl _) _).trans hb2⟩
theorem qco (S:List Int) (v:Value) (w:World) (hl:S.length≤1099511627776) (h:Its w v S):Calls Tryz.prog 80 #[v] w fun e w'=>∃ v',e=.returned v'∧w'.ownsRow w.heap.size 3 1 v' S.length (S.map (Value.int .i64))∧Below w.heap.size w w':=by
 rcases Rz.form h with ⟨rfl,h0,h1⟩|⟨a,c,rfl,hc⟩
 ·have hq:∀ w:World,(binOp .eql 26 (.slice none 0 0) (.slice none 0 0)).run Tryz.prog w=.ok (.bool true) w:=fun w=>Lib.run_eql_slice_nil w _ _ none 0 0 0 0 Tryz.underlying26
  go_enter Tryz.func80,Tryz.ntmps80
  go_wp2
  go_ret
  exact ⟨_,rfl,by rw [h1,h0];exact World.ownsRow_nil _ _ _ _,Below.refl _ _⟩
 ·have hcl:=Rz.cell (Rz.below h ((Below.refl _ _).alloc (Nat.le_refl _) (.cells #[] 3)))
  have hq:∀ w:World,(binOp .eql 26 (.slice (some a) S.length c) (.slice none 0 0)).run Tryz.prog w=.ok (.bool false) w:=fun w=>Lib.run_eql_slice_nil w _ _ (some a) S.length c 0 0 Tryz.underlying26
  clear h
  go_enter Tryz.func80,Tryz.ntmps80
  go_wp2_with (first|(at_builtin;refine qb6 rfl (.tmp 5) (.tmp 6) rfl w.heap.size _ 0 [] rfl (qbe w _) a S.length c (S.map (Value.int .i64)) rfl (by simp) hcl (qgj S) (by omega) (by simp) ?_;intro v2 w2 ho2 hb2 _))
  go_ret
  exact ⟨_,rfl,by simpa using ho2,((Below.refl _ _).alloc (Nat.le_refl _) _).trans hb2⟩
def Z128:List Value:=List.replicate 128 (.int .u8 0)
theorem qsj (k:Nat):Z128.toArray.toList.drop k=List.replicate (128 - k) (.int .u8 0):=List.drop_replicate
theorem qk1 (w:World):(Instr.alloc 230 true (.tuple #[])).run Tryz.prog w=.ok (.pointer (some ⟨w.heap.size,0,none⟩)) (w.alloc (.cells Z128.toArray 230)):=by kernel_rfl
section
variable {ops:Array Oper} {rest:List Oper} {o:Oper} {a:Act} {w:World} {Q:Exit→Act→World→Prop}
theorem at_alloc {P:Program} {l:List Oper} {T ty:TypeId} {dst:Option Tmp} {pos:String} {after:Array Edge} {g:Option (Nat×Bool)} (h:wpList P ops Q ({dst:=dst,op:=.alloc T,type:=ty,pos:=pos,after:=after,guard:=g} :: l) a w):wpList P ops Q ({dst:=dst,op:=.alloc T,type:=ty,pos:=pos,after:=after,guard:=g} :: l) a w:=h
theorem at_copy {P:Program} {l:List Oper} {ts:Array TypeId} {xs:Array Operand} {ty:TypeId} {dst:Option Tmp} {pos:String} {after:Array Edge} {g:Option (Nat×Bool)} (h:wpList P ops Q ({dst:=dst,op:=.call {callee:=.builtin .copy,args:=xs,argTypes:=ts},type:=ty,pos:=pos,after:=after,guard:=g} :: l) a w):wpList P ops Q ({dst:=dst,op:=.call {callee:=.builtin .copy,args:=xs,argTypes:=ts},type:=ty,pos:=pos,after:=after,guard:=g} :: l) a w:=h
theorem qg4 (hg:o.guard=none) (hop:o.op=Op.alloc 230) (h:wpList Tryz.prog ops Q rest (a.put o.dst (.pointer (some ⟨w.heap.size,0,none⟩))) (w.alloc (.cells Z128.toArray 230))):wpList Tryz.prog ops Q (o :: rest) a w :=
 wpList_plain hg fun _ hK=>by
  unfold Oper.wp execOp
  simp only [hop,qk1,Sem.run_bind,Sem.run_pure,Result.andThen_ok]
  exact hK _ _ h
theorem qia {B:Nat} {s:ByteArray} (hX:Blk 230 w B Z128) (hs:s.size≤128) (hg:o.guard=none) (x y:Operand) (hop:o.op=Op.call {callee:=.builtin .copy,args:=#[x,y],argTypes:=#[167,9]}) (hx:a.eval x=.slice (some ⟨B,0,none⟩) 128 128) (hy:a.eval y=.string s)
 (h:∀ w',Blk 230 w' B (Lib.byteCells (s++zB (128 - s.size)).data.toList)→(∀ N w0,N≤B→Below N w0 w→Below N w0 w')→wpList Tryz.prog ops Q rest (a.put o.dst (goInt s.size)) w'):wpList Tryz.prog ops Q (o :: rest) a w :=
 wpList_plain hg fun _ hK=>by
  obtain ⟨i,hi,_,hsz,_⟩:=qi0
  have hrun:=Lib.run_copy_row_string (P:=Tryz.prog) w 167 9 o.type 5 B 0 128 128 s Z128.toArray 230 Tryz.underlying167 (by rw [hi];simp [hsz]) hX hs (by simp [Z128];omega)
  have e:(Z128.toArray.toList.take 0++Lib.byteCells s.data.toList++Z128.toArray.toList.drop (0+s.size))=Lib.byteCells (s++zB (128 - s.size)).data.toList:=by
   rw [List.take_zero,List.nil_append,Nat.zero_add,qsj,ByteArray.data_append,Array.toList_append]
   unfold Lib.byteCells
   rw [List.map_append]
   congr 1
   simp [zB]
  rw [e] at hrun
  unfold Oper.wp
  simp [execOp,hop,resolve,invoke,builtin,hx,hy,hrun,Result.andThen]
  exact hK _ _ (h _ (setRow_heap w B _ _ _ _ hX) (fun N w0 hN hb=>below_setRow hb hN _))
end
theorem conv128 {w:World} {B:Nat} {s:ByteArray} (hs:s.size≤128) (hX:Blk 230 w B (Lib.byteCells (s++zB (128 - s.size)).data.toList)):(convert 167 9 (.slice (some ⟨B,0,none⟩) 128 128)).run Tryz.prog w=.ok (.string (s++zB (128 - s.size))) w:=by
 have hl:(s++zB (128 - s.size)).data.toList.length=128:=by
  have h1:(s++zB (128 - s.size)).size=128:=by rw [ByteArray.size_append,qms];omega
  exact (Lib.size_eq _).symm.trans h1
 have e:=run_convert_bytes_back (P:=Tryz.prog) w 167 9 5 ⟨B,0,none⟩ 128 (s++zB (128 - s.size)).data.toList Tryz.underlying167 Tryz.underlying5 Tryz.underlying9 (fun j hj=>by
  have e1:(⟨B,0,none⟩:Addr).add j=⟨B,j,none⟩:=by unfold Addr.add;split<;>simp_all
  rw [e1,hX.cell (v:=.int .u8 ((s++zB (128 - s.size)).data.toList[j].toNat:Int)) (by rw [Lib.byteCells,List.getElem?_map,List.getElem?_eq_getElem hj];rfl)])
 rw [hl] at e
 exact e
theorem ppad_any (s:ByteArray) (hs:s.size≤128) (w:World):Calls Tryz.prog 231 #[.string s] w fun e w'=>e=.returned (.string (s++zB (128 - s.size)))∧Below w.heap.size w w':=by
 have hX:=Blk.new 230 w Z128
 have hB:Below w.heap.size w (w.alloc (.cells Z128.toArray 230)):=(Below.refl _ _).alloc (Nat.le_refl _) _
 go_enter Tryz.func231,Tryz.ntmps231
 go_wp2_with (first|((with_reducible refine at_alloc ?_);refine qg4 rfl rfl ?_)|((with_reducible refine at_copy ?_);refine qia hX hs rfl _ _ rfl rfl rfl ?_;clear hX;intro w2 hX hk;replace hB:=hk _ _ (Nat.le_refl _) hB;clear hk;have hcv:=conv128 hs hX))
 go_ret
 exact ⟨rfl,hB⟩
theorem pcop_any (D:Drv) (hl:D.B.length≤1099511627776) (hl2:D.S.length≤1099511627776) (vs vb:Value) (w:World) (hs:Sts w vs D.S) (hb:Its w vb D.B):Calls Tryz.prog 228 #[.agg #[vs,vb]] w fun e w'=>∃ A1 c1 A2 c2 N,e=.returned (.agg #[.slice A1 D.S.length c1,.slice A2 D.B.length c2])∧w'.ownsRow w.heap.size 9 1 (.slice A1 D.S.length c1) D.S.length (D.S.map Value.string)∧(∀ a,A1=some a→a.block<N)∧w'.ownsRow N 3 1 (.slice A2 D.B.length c2) D.B.length (D.B.map (Value.int .i64))∧w.heap.size≤N∧N≤w'.heap.size∧Below w.heap.size w w':=by
 have hX:=qow w [vs,vb] [.slice none 0 0,.slice none 0 0]
 go_enter Tryz.func228,Tryz.ntmps228
 go_wp2
 refine qa8 (fun w'=>Bag [(w.heap.size+1,38,[.slice none 0 0,.slice none 0 0]),(w.heap.size,38,[vs,vb])] w w') 6 [(0,false),(1,false),(3,false),(4,false),(2,true),(5,true)] (by kernel_rfl) (by kernel_rfl) (fun _ _ dd _ _ h=>by cases dd<;>exact h) hX.drew ?_
 iterate 4
  refine qbk rfl rfl (fun KK hKK=>?_)
  apply Exists.intro
  refine ⟨fun wq hq=>?_,hKK _ ?_⟩
  ·try dsimp only at hq
   first
    | exact qad 36 _ _ rfl rfl ((hq.all _ _ _ (.tail _ (.head _))).loadCell rfl qau)
    | exact qad 26 _ _ rfl rfl ((hq.all _ _ _ (.tail _ (.head _))).loadCell rfl qap)
    | (unfold execOp;go_simp;done)
    | (unfold execOp;go_simp;with_reducible rfl)
  clear hKK KK
  simp only [Act.put,sx]
 refine qbm rfl rfl (fun KK hKK=>?_)
 unfold Oper.semiAt
 go_simp
 simp only [semiUpon]
 refine ⟨trivial,?_⟩
 refine (qg1 D.S vs _ hl2 (hs.below hX.below.drew)).mono ?_
 rintro e' w2 ⟨v1,rfl,ho1,hb1⟩
 refine ⟨_,rfl,hKK _ _ (hX.drew.step hb1) ?_⟩
 clear hKK KK
 replace hX:=hX.drew.step hb1
 have hn1:w.heap.size+2≤w2.heap.size:=by have h:=hb1.size;simp at h;omega
 have hk1:=qhn ho1
 replace ho1:=qaz ho1 (show w.heap.size+2≤_ by simp)
 obtain ⟨A1,c1,rfl,_,_⟩:=Rw.of_own ho1
 clear hb1
 simp only [Act.put,sx]
 refine qbm rfl rfl (fun KK hKK=>?_)
 unfold Oper.semiAt
 go_simp
 simp only [semiUpon]
 refine ⟨trivial,?_⟩
 refine (qco D.B vb _ hl (hb.below hX.below)).mono ?_
 rintro e' w3 ⟨v2,rfl,ho2,hb2⟩
 refine ⟨_,rfl,hKK _ _ (hX.step hb2) ?_⟩
 clear hKK KK
 replace hX:=hX.step hb2
 replace ho1:=qag ho1 hb2
 obtain ⟨A2,c2,rfl,_,_⟩:=Rw.of_own ho2
 have hn2:=hb2.size
 clear hb2
 simp only [Act.put,sx]
 refine qb7 ?_
 simp only [List.drop_succ_cons,List.drop_zero]
 go_wp2_with (first|((with_reducible refine qah ?_);refine qaa hX aggD sizD _ _ rfl rfl rfl rfl rfl rfl rfl rfl (by intro u hu;simp at hu;rcases hu with rfl|rfl<;>rfl) ?_;clear hX;intro wz hX hkz))
 exact bodyPost_ret (qaj Tryz.results228 rfl ((hX.all _ _ _ (.head _)).loadVar rfl aggD sizD)) rfl ⟨_,_,_,_,_,rfl,qaz (qca ho1 (fun k hk=>hkz k (by omega))) (Nat.le_add_right _ 2),fun a ha=>(hk1 a _ _ (by rw [ha])).2,qca ho2 (fun k hk=>hkz k (by omega)),by omega,Nat.le_trans hn2 (qb9 hkz (hX.all _ _ _ (.head _)).lt),hX.below⟩
def putS (D:Drv) (k:Int) (s:ByteArray):List ByteArray:=if (D.wr k s).2=0 then (D.wr k s).1.S else D.S
section
variable {ops:Array Oper} {rest:List Oper} {o:Oper} {a:Act} {w w1:World} {Q:Exit→Act→World→Prop}
theorem qgc {N g j n cap:Nat} {e T:TypeId} {xs:List Value} {u:Value} (hown:w.ownsRow N e 1 (.slice (some ⟨g,0,none⟩) n cap) n xs) (hsz:∀ w,(sizeOf T).run Tryz.prog w=.ok 1 w) (x y:Operand) (hop:o.op=Op.store T x y) (hal:w1=w) (hx:a.eval x=.pointer (some ⟨g,j,none⟩)) (hy:a.eval y=u) (hdst:o.dst=none) (hw:Region.wanted o (yielded ops a.tmps)=true) (hj:j<n) (hz:u.cells=#[u]) (h1:u.oneCell'=true)
 (h:∀ w2,w2.ownsRow N e 1 (.slice (some ⟨g,0,none⟩) n cap) n (xs.set j u)→Below N w w2→(∀ k,k≠g→w2.heap[k]? = w.heap[k]?)→wpList Tryz.prog ops Q rest a w2):wpList Tryz.prog ops Q (o :: rest) a w1:=by
 subst hal
 have hg:N≤g:=(World.ownsRow.lt hown g rfl).1
 have hlt:g<w1.heap.size:=(World.ownsRow.lt hown g rfl).2
 have hl:xs.length=n:=by have:=hown.1;omega
 have hc:=World.ownsRow.cellAt hown j (by omega)
 have hf:=World.ownsRow.frozenAt hown j
 have hst:=(World.ownsRow.stored hown j u).1
 have hx0:∃ u0,w1.cell? ⟨g,j,none⟩=some u0:=⟨xs[j]'(by omega),by rw [hc,List.getElem?_eq_getElem]⟩
 obtain ⟨u0,hu0⟩:=hx0
 have hr:(storeCells ⟨g,j,none⟩ [u]).run Tryz.prog w1=.ok () (w1.setCell ⟨g,j,none⟩ u):=by
  simp [storeCells,go_sem]
  rw [run_store _ _ _ _ _ h1,hu0]
  simp [hf]
 exact BigFrame.wpList_want hw fun _ hK=>by
  unfold Oper.wp execOp
  simp only [hop,hx,hy,hz,Instr.storeAt,Instr.sureAddr,storeVar,hr,hsz,List.size_toArray,List.length_cons,List.length_nil,ne_eq,not_true_eq_false,if_false,Sem.run_bind,Sem.run_pure,Result.andThen_ok]
  exact hK _ _ (by rw [hdst];exact h _ hst ((Below.refl N w1).setCell hg u) (fun k hk=>heap_setCell_other w1 ⟨g,j,none⟩ k u hk))
end
theorem pwr_no {D:Drv} {k:Int} (s:ByteArray) (h:hasV D.S.length k=false):D.wr k s=(Drv.z,2):=by
 unfold Drv.wr;rw [if_neg];intro h';rw [(qcz _ _).2 h'] at h;cases h
theorem qn4 {D:Drv} {k:Int} {s:ByteArray} (h:hasV D.S.length k=true) (h2:128<s.size):D.wr k s=(Drv.z,7):=by
 unfold Drv.wr;rw [if_pos ((qcz _ _).1 h),if_pos h2]
theorem qtz {D:Drv} {k:Int} {s:ByteArray} (h:hasV D.S.length k=true) (h2:¬ 128<s.size) (h3:D.B.contains k=true):D.wr k s=(Drv.z,21):=by
 unfold Drv.wr;rw [if_pos ((qcz _ _).1 h),if_neg h2,if_pos h3]
theorem pwr_ok {D:Drv} {k:Int} {s:ByteArray} (h:hasV D.S.length k=true) (h2:¬ 128<s.size) (h3:D.B.contains k=false):D.wr k s=(⟨D.S.set k.toNat (s++zB (128 - s.size)),D.B⟩,0):=by
 unfold Drv.wr;rw [if_pos ((qcz _ _).1 h),if_neg h2,if_neg (by rw [h3];decide)]
theorem pput_any (D:Drv) (k:Int) (s:ByteArray) (hsl:D.S.length≤4096) (v1 v2:Value) (b N:Nat) (w:World) (hown:w.ownsRow N 9 1 v1 D.S.length (D.S.map Value.string)) (hN:N≤w.heap.size) (hM:OwnM w b D.B) :
 Calls Tryz.prog 229 #[.agg #[v1,v2],.map (some b),.agg #[.int .i64 k,.string s]] w fun e w'=>e=.returned (.int .i64 (D.wr k s).2)∧w'.ownsRow N 9 1 v1 D.S.length ((putS D k s).map Value.string)∧Below N w w'∧∀ i,i<w.heap.size→(∀ a m c,v1=.slice (some a) m c→a.block≠i)→w'.heap[i]? = w.heap[i]?:=by
 have hown0:=hown
 obtain ⟨A,c,rfl,_,_⟩:=Rw.of_own hown
 have hX:=qff w 38 228 [.slice A D.S.length c,v2] [.int .i64 k,.string s]
 have hha:=fun w=>qj8 A D.S.length c v2 k w
 unfold putS
 cases hv:hasV D.S.length k
 ·rw [pwr_no s hv,if_neg (by decide)]
  rw [hv] at hha
  clear hv hown
  go_enter Tryz.func229,Tryz.ntmps229
  go_wp2_with (first|((with_reducible refine qab ?_);first|refine lw hX aggD sizD ?_|refine lc hX ?_)|(go_at_call 218;with_reducible refine cst hX (hha _) ?_;clear hX;intro wh hX))
  go_ret
  exact ⟨rfl,qag hown0 hX.below,hX.below.mono hN,fun i hi _=>hX.below.block i hi⟩
 have hkr:0≤k∧k<9223372036854775808:=by have:=(qcz _ _).1 hv;omega
 by_cases h2:128<s.size
 ·rw [qn4 hv h2,if_neg (by decide)]
  rw [hv] at hha
  have h2i:(128:Int)<(s.size:Int):=by omega
  clear hv hown h2
  go_enter Tryz.func229,Tryz.ntmps229
  go_wp2_with (first|((with_reducible refine qab ?_);first|refine lw hX aggD sizD ?_|refine lc hX ?_)|(go_at_call 218;with_reducible refine cst hX (hha _) ?_;clear hX;intro wh hX))
  go_ret
  exact ⟨rfl,qag hown0 hX.below,hX.below.mono hN,fun i hi _=>hX.below.block i hi⟩
 have h2i:¬ (128:Int)<(s.size:Int):=by omega
 cases h3:D.B.contains k
 ·rw [pwr_ok hv h2 h3,if_pos rfl]
  have hpd:=fun w=>ppad_any s (by omega) w
  generalize s++zB (128 - s.size)=s2 at *
  obtain ⟨j,rfl⟩:∃ j:Nat,k=(j:Int):=⟨k.toNat,by omega⟩
  have hjl:j<D.S.length:=by have:=(qcz _ _).1 hv;omega
  have hji:(j:Int)<(D.S.length:Int):=by omega
  have hj0:(0:Int)≤(j:Int):=by omega
  obtain ⟨g,cap,hv1,_,_,_,_,_⟩:=qox hown (by omega)
  cases hv1
  have hlt:=(qhn hown _ _ _ rfl).2
  rw [hv] at hha
  clear hv h2
  have hln:(D.S.length:Int)≤4096:=by omega
  go_enter Tryz.func229,Tryz.ntmps229
  go_wp2_with (first|((with_reducible refine qab ?_);first|refine lw hX aggD sizD ?_|refine lc hX ?_)|(go_at_call 218;with_reducible refine cst hX (hha _) ?_;clear hX;intro wh hX)|(at_lookup;refine qej (hM.step hX.below) hkr rfl _ _ rfl rfl rfl ?_);rw [h3])
  refine qa8 (fun w'=>Bag [(w.heap.size+1,228,[.int .i64 (j:Int),.string s]),(w.heap.size,38,[.slice (some ⟨g,0,none⟩) D.S.length c,v2])] w w') 7 [(0,false),(1,false),(2,false),(3,false),(4,false),(5,false),(6,true)] (by kernel_rfl) (by kernel_rfl) (fun _ _ dd _ _ h=>by cases dd<;>exact h) hX.drew ?_
  iterate 6
   refine qbk rfl rfl (fun KK hKK=>?_)
   apply Exists.intro
   refine ⟨fun wq hq=>?_,hKK _ ?_⟩
   ·try dsimp only at hq
    first
     | exact qad 36 _ _ rfl rfl ((hq.all _ _ _ (.tail _ (.head _))).loadCell rfl qau)
     | exact qad 3 _ _ rfl rfl ((hq.all _ _ _ (.head _)).loadCell rfl qao)
     | exact qad 9 _ _ rfl rfl ((hq.all _ _ _ (.head _)).loadCell rfl qd7)
     | (unfold execOp;go_simp;done)
     | (unfold execOp;go_simp;with_reducible rfl)
   clear hKK KK
   simp only [Act.put,sx]
  refine qbm rfl rfl (fun KK hKK=>?_)
  unfold Oper.semiAt
  go_simp
  simp only [semiUpon]
  refine ⟨trivial,?_⟩
  refine (hpd _).mono ?_
  rintro e' w3 ⟨rfl,hbb⟩
  refine ⟨_,rfl,hKK _ _ (hX.drew.step hbb) ?_⟩
  clear hKK KK
  replace hX:=hX.drew.step hbb
  replace hown:=qag hown hX.below
  clear hbb
  simp only [Act.put,sx]
  refine qb7 ?_
  simp only [List.drop_succ_cons,List.drop_zero]
  go_wp2_with (first|((with_reducible refine qah ?_);refine qgc hown qkh _ _ rfl rfl rfl rfl rfl rfl hjl rfl rfl ?_;intro wz hown hbz hkz))
  go_ret
  exact ⟨rfl,by rw [Int.toNat_natCast,List.map_set];exact hown,(hX.below.mono hN).trans hbz,fun i hi hne=>(hkz i (fun e=>hne _ _ _ rfl e.symm)).trans (hX.below.block i hi)⟩
 ·rw [qtz hv h2 h3,if_neg (by decide)]
  rw [hv] at hha
  clear hv hown h2
  go_enter Tryz.func229,Tryz.ntmps229
  go_wp2_with (first|((with_reducible refine qab ?_);first|refine lw hX aggD sizD ?_|refine lc hX ?_)|(go_at_call 218;with_reducible refine cst hX (hha _) ?_;clear hX;intro wh hX)|(at_lookup;refine qej (hM.step hX.below) hkr rfl _ _ rfl rfl rfl ?_);rw [h3])
  go_ret
  exact ⟨rfl,qag hown0 hX.below,hX.below.mono hN,fun i hi _=>hX.below.block i hi⟩
theorem okB_ge {n:Nat} {B:List Int} (h:okB n B=true):∀ k,k<B.length→(k:Int)≤B.getD k 0:=by
 intro k
 induction k with
 | zero=>intro hk;have:=((qdk _ _ _).1 ((qdw _ _).1 h 0 hk)).1;omega
 | succ k ih =>
   intro hk
   have h1:=ih (by omega)
   have h2:=((qdk _ _ _).1 ((qdw _ _).1 h (k+1) hk)).2.2
   rw [Nat.add_sub_cancel] at h2
   omega
theorem qf4 {D:Drv} (h:D.right=true):D.B.length≤256:=by
 obtain ⟨_,h2,_,h4⟩:=(qb1 D).1 h
 rcases Nat.eq_zero_or_pos D.B.length with h0|h0
 ·omega
 ·have h5:=okB_ge h4 (D.B.length - 1) (by omega)
  have h6:=((qdk _ _ _).1 ((qdw _ _).1 h4 (D.B.length - 1) (by omega))).2.1
  omega
theorem qll {D:Drv} (h:D.right=true):∀ x∈D.B,0≤x∧x<9223372036854775808:=by
 obtain ⟨_,h2,_,h4⟩:=(qb1 D).1 h
 intro x hx
 obtain ⟨k,hk⟩:=List.mem_iff_getElem?.1 hx
 have hkl:k<D.B.length:=(List.getElem?_eq_some_iff.1 hk).1
 have h6:=(qdk _ _ _).1 ((qdw _ _).1 h4 k hkl)
 rw [qkg hk] at h6
 omega
theorem qf3 (D:Drv) (k:Int) (hr:D.right=true) (vs vb:Value) (w:World) (hs:Sts w vs D.S) (hb:Its w vb D.B):Calls Tryz.prog 223 #[.agg #[vs,vb],.int .i64 k] w fun e w'=>e=.returned (.tuple #[.string (D.rd k).1,.int .i64 (D.rd k).2])∧Below w.heap.size w w':=by
 have hlB:D.B.length≤1099511627775:=by have:=qf4 hr;omega
 have hBr:=qll hr
 have hlS:D.S.length≤256:=((qb1 D).1 hr).2.1
 obtain ⟨A,c,rfl,_,hc⟩:=hs.form
 have hX:=(Bag.nil w).new 38 [.slice A D.S.length c,vb]
 have hha:=fun w=>qj8 A D.S.length c vb k w
 have hbW:∀ w',Below w.heap.size w w'→Its w' vb D.B:=fun w' h=>hb.below h
 unfold Drv.rd
 clear hr hs
 cases hv:hasV D.S.length k
 ·rw [if_neg (fun h=>by rw [(qcz _ _).2 h] at hv;cases hv)]
  rw [hv] at hha
  clear hv hc
  go_enter Tryz.func223,Tryz.ntmps223
  go_wp2_with (first|((with_reducible refine qab ?_);first|refine lw hX aggD sizD ?_|refine lc hX ?_)|(go_at_call 218;with_reducible refine cst hX (hha _) ?_;clear hX;intro wh hX))
  go_ret2
  exact ⟨rfl,hX.below⟩
 rw [if_pos ((qcz _ _).1 hv)]
 have hkr:0≤k∧k<9223372036854775808:=by have:=(qcz _ _).1 hv;omega
 cases h3:D.B.contains k
 ·rw [if_neg (by decide)]
  obtain ⟨j,rfl⟩:∃ j:Nat,k=(j:Int):=⟨k.toNat,by omega⟩
  have hjl:j<D.S.length:=by have:=(qcz _ _).1 hv;omega
  have hji:(j:Int)<(D.S.length:Int):=by omega
  have hx:=List.getElem?_eq_getElem hjl
  have hgd:D.S.getD ((j:Int).toNat) ⟨#[]⟩=D.S[j]:=by rw [Int.toNat_natCast,List.getD_eq_getElem?_getD,hx];rfl
  rw [hgd]
  generalize D.S[j]=x at *
  obtain ⟨a,rfl,hL⟩:=hc j x hx
  rw [hv] at hha
  clear hv hx hc hgd
  go_enter Tryz.func223,Tryz.ntmps223
  go_wp2_with (first|((with_reducible refine qab ?_);first|refine lw hX aggD sizD ?_|refine lc hX ?_|refine qaq rfl 9 _ _ _ rfl rfl (hL _ hX.below) ?_)|(go_at_call 218;with_reducible refine cst hX (hha _) ?_;clear hX;intro wh hX)|(go_at_call 230;(with_reducible refine (qkf D hlB hBr _ _ _ (hbW _ hX.below)).mono ?_);rintro e wb ⟨b,rfl,hM,hge,hbb⟩;replace hX:=hX.step hbb;clear hbb)|(at_lookup;refine qej hM hkr rfl _ _ rfl rfl rfl ?_);rw [h3])
  go_ret2
  exact ⟨rfl,hX.below⟩
 ·rw [if_pos rfl]
  rw [hv] at hha
  clear hv hc
  go_enter Tryz.func223,Tryz.ntmps223
  go_wp2_with (first|((with_reducible refine qab ?_);first|refine lw hX aggD sizD ?_|refine lc hX ?_)|(go_at_call 218;with_reducible refine cst hX (hha _) ?_;clear hX;intro wh hX)|(go_at_call 230;(with_reducible refine (qkf D hlB hBr _ _ _ (hbW _ hX.below)).mono ?_);rintro e wb ⟨b,rfl,hM,hge,hbb⟩;replace hX:=hX.step hbb;clear hbb)|(at_lookup;refine qej hM hkr rfl _ _ rfl rfl rfl ?_);rw [h3])
  go_ret2
  exact ⟨rfl,hX.below⟩
def lastV (B:List Int) (k:Nat):Int:=if k=0 then -1 else B.getD (k - 1) 0
theorem qpi {B:List Int} {k:Nat} {x:Int} (h:B[k]? = some x):lastV B (k+1)=x:=by
 unfold lastV;rw [if_neg (by omega),Nat.add_sub_cancel];exact qkg h
theorem qtn {n:Nat} {B:List Int} {k:Nat} {x:Int} (h:B[k]? = some x):okAt n B k=true↔lastV B k<x∧hasV n x=true:=by
 rw [qdk,qkg h,qcz]
 unfold lastV
 by_cases h0:k=0
 ·rw [if_pos h0];constructor
  ·rintro ⟨a,b,_⟩;exact ⟨by omega,a,b⟩
  ·rintro ⟨_,a,b⟩;exact ⟨a,b,.inl h0⟩
 ·rw [if_neg h0];constructor
  ·rintro ⟨a,b,c⟩;exact ⟨by omega,a,b⟩
  ·rintro ⟨c,a,b⟩;exact ⟨a,b,.inr c⟩
theorem qp2 (D:Drv) (hl:D.B.length≤1099511627776) (hl2:D.S.length≤1099511627776) (vs vb:Value) (w:World) (hs:Sts w vs D.S) (hb:Its w vb D.B):Calls Tryz.prog 212 #[.agg #[vs,vb]] w fun e w'=>e=.returned (.bool D.right)∧Below w.heap.size w w':=by
 obtain ⟨A,c,rfl,_,hc⟩:=hs.form
 obtain ⟨A2,c2,rfl,_,hc2⟩:=hb.form
 have hX:=(Bag.nil w).new 38 [.slice A D.S.length c,.slice A2 D.B.length c2]
 have hri:=qb1 D
 obtain ⟨S,B⟩:=D
 dsimp only at hri hc hc2 hX hl hl2 ⊢
 clear hb hs
 generalize hR:Drv.right ⟨S,B⟩=r at *
 clear hR
 have hal:=fun w=>palw_any (S.length:Int) w
 cases h1:(decide ((1:Int)≤(S.length:Int)) && decide ((S.length:Int)≤256))
 ·have hr:r=false:=by
   cases r
   ·rfl
   ·have h:=hri.1 rfl
    rw [decide_eq_true (by omega),decide_eq_true (by omega)] at h1;cases h1
  subst hr
  rw [h1] at hal
  clear hri hc hc2 h1
  go_enter Tryz.func212,Tryz.ntmps212
  go_wp2_with (first|((with_reducible refine qab ?_);refine lc hX ?_)|(go_at_call 217;with_reducible refine cst hX (hal _) ?_;clear hX;intro wa hX))
  go_ret
  exact ⟨rfl,hX.below⟩
 rw [h1] at hal
 have h12:1≤S.length∧S.length≤256:=by simp at h1;omega
 clear h1
 go_enter Tryz.func212,Tryz.ntmps212
 go_wp2_with (first|((with_reducible refine qab ?_);refine lc hX ?_)|(go_at_call 217;with_reducible refine cst hX (hal _) ?_;clear hX;intro wa hX))
 clear hal
 go_loopw [4,16] (fun sv iv wr=>∃ i:Nat,i≤S.length∧iv=.int .i64 i∧Hid (∀ (j:Nat) s,j<i→S[j]? = some s→s.size=128)∧Bag [(w.heap.size,38,[.slice A S.length c,.slice A2 B.length c2])] w wr) (fun _ i _=>match i with|.int _ q=>S.length - q.toNat|_=>0)
 case atStart=>exact ⟨0,Nat.zero_le _,rfl,fun j s hj=>absurd hj (Nat.not_lt_zero j),hX⟩
 case round =>
  clear hX
  obtain ⟨i,hi,rfl,hN,hX⟩:=hrel
  by_cases hin:i<S.length
  ·have hii:(i:Int)<(S.length:Int):=by omega
   have hx:=List.getElem?_eq_getElem hin
   have hm:=List.getElem_mem hin
   generalize S[i]=x at *
   obtain ⟨a,rfl,hL⟩:=hc i x hx
   by_cases hsz:x.size=128
   ·have hN2:Hid (∀ (j:Nat) s,j<i+1→S[j]? = some s→s.size=128):=fun j s hj hs=>by
     rcases (by omega:j<i∨j=i) with h|rfl
     ·exact (show ∀ (j:Nat) s,j<i→S[j]? = some s→s.size=128 from hN) j s h hs
     ·rw [hx] at hs;cases hs;exact hsz
    have hszi:(x.size:Int)=128:=by omega
    clear hN hx hsz hc hri hc2 hm h12
    go_wp2_with (first|((with_reducible refine qab ?_);first|refine lc hX ?_|refine qaq rfl 9 _ _ _ rfl rfl (hL _ hX.below) ?_))
    exact ⟨⟨i+1,by omega,by go_num,hN2,hX⟩,by simp only;omega⟩
   ·have hsb:((x.size:Int) != 128)=true:=by simp;omega
    have hr:r=false:=by cases r;rfl;exact absurd ((hri.1 rfl).2.2.1 x hm) hsz
    subst hr
    clear hN hx hsz hc hri hc2 hm h12
    go_wp2_with (first|((with_reducible refine qab ?_);first|refine lc hX ?_|refine qaq rfl 9 _ _ _ rfl rfl (hL _ hX.below) ?_))
    go_ret
    exact ⟨rfl,hX.below⟩
  ·have hii:¬ (i:Int)<(S.length:Int):=by omega
   have hall:∀ s∈S,s.size=128:=fun s hs=>by
    obtain ⟨j,hj⟩:=List.mem_iff_getElem?.1 hs
    have hjl:j<S.length:=(List.getElem?_eq_some_iff.1 hj).1
    exact (show ∀ (j:Nat) s,j<i→S[j]? = some s→s.size=128 from hN) j s (by omega) hj
   have hri2:r=true↔okB S.length B=true:=⟨fun h=>(hri.1 h).2.2.2,fun h=>hri.2 ⟨by omega,by omega,hall,h⟩⟩
   clear hri hall hN hc h12
   obtain ⟨iv,hiv⟩:∃ iv:Int,(i:Int)=iv:=⟨_,rfl⟩
   go_wp2_with (first|((with_reducible refine qab ?_);refine lc hX ?_))
   go_loopw [5,7,27] (fun lv sv iv wr=>∃ k:Nat,k≤B.length∧iv=.int .i64 k∧lv=.int .i64 (lastV B k)∧Hid (∀ j:Nat,j<k→okAt S.length B j=true)∧Bag [(w.heap.size,38,[.slice A S.length c,.slice A2 B.length c2])] w wr) (fun _ _ i _=>match i with|.int _ q=>B.length - q.toNat|_=>0)
   case atStart=>exact ⟨0,Nat.zero_le _,rfl,rfl,fun j hj=>absurd hj (Nat.not_lt_zero j),hX⟩
   case round =>
    clear hX
    obtain ⟨k,hk,rfl,rfl,hN,hX⟩:=hrel
    by_cases hkn:k<B.length
    ·have hki:(k:Int)<(B.length:Int):=by omega
     have hx:=List.getElem?_eq_getElem hkn
     generalize B[k]=x at *
     obtain ⟨a,rfl,hL⟩:=hc2 k x hx
     have hko:=qtn (n:=S.length) hx
     have hrf:okAt S.length B k=false→r=false:=fun h=>by
      cases r
      ·rfl
      ·have:=(qdw _ _).1 (hri2.1 rfl) k hkn;rw [h] at this;cases this
     have hN2:okAt S.length B k=true→Hid (∀ j:Nat,j<k+1→okAt S.length B j=true):=fun h j hj=>by
      rcases (by omega:j<k∨j=k) with h'|rfl
      ·exact (show ∀ j:Nat,j<k→okAt S.length B j=true from hN) j h'
      ·exact h
     have hls:=hid (qpi hx)
     generalize lastV B k=y at *
     have hha:=fun w=>qj8 A S.length c (.slice (some a) B.length c2) x w
     by_cases q0:x≤y
     ·have d0:decide (x≤y)=true:=decide_eq_true q0
      have hr:r=false:=hrf (by cases h:okAt S.length B k;rfl;have:=(hko.1 h).1;omega)
      subst hr
      clear hrf hN2 hko hN hri2 hc2 hx hls hha q0
      go_wp2_with (first|((with_reducible refine qab ?_);first|refine lw hX aggD sizD ?_|refine lc hX ?_|refine qaq rfl 3 _ _ _ rfl rfl (hL _ hX.below) ?_))
      go_ret
      exact ⟨rfl,hX.below⟩
     have d0:decide (x≤y)=false:=decide_eq_false q0
     cases hv:hasV S.length x
     ·have hr:r=false:=hrf (by cases h:okAt S.length B k;rfl;have:=(hko.1 h).2;rw [hv] at this;cases this)
      subst hr
      rw [hv] at hha
      clear hrf hN2 hko hN hri2 hc2 hx hls q0 hv
      go_wp2_with (first|((with_reducible refine qab ?_);first|refine lw hX aggD sizD ?_|refine lc hX ?_|refine qaq rfl 3 _ _ _ rfl rfl (hL _ hX.below) ?_)|(go_at_call 218;with_reducible refine cst hX (hha _) ?_;clear hX;intro wh hX))
      go_ret
      exact ⟨rfl,hX.below⟩
     ·have hok:=hN2 (hko.2 ⟨by omega,hv⟩)
      rw [hv] at hha
      clear hrf hN2 hko hN hri2 hc2 hx q0 hv
      go_wp2_with (first|((with_reducible refine qab ?_);first|refine lw hX aggD sizD ?_|refine lc hX ?_|refine qaq rfl 3 _ _ _ rfl rfl (hL _ hX.below) ?_)|(go_at_call 218;with_reducible refine cst hX (hha _) ?_;clear hX;intro wh hX))
      exact ⟨⟨k+1,by omega,by go_num,by rw [show lastV B (k+1)=_ from hls],hok,hX⟩,by simp only;omega⟩
    ·have hki:¬ (k:Int)<(B.length:Int):=by omega
     have hr:r=true:=hri2.2 ((qdw _ _).2 fun j hj=>(show ∀ j:Nat,j<k→okAt S.length B j=true from hN) j (by omega))
     subst hr
     clear hN hri2 hc2
     go_wp2_with (first|((with_reducible refine qab ?_);refine lc hX ?_))
     go_ret
     exact ⟨rfl,hX.below⟩
theorem qs4 {l:List (Nat×TypeId×List Value)} {w wb wp:World} {base N n c:Nat} {A:Option Addr} {e:TypeId} {xs:List Value} (hX:Bag l w wb) (ho:wb.ownsRow base e 1 (.slice A n c) n xs) (hA:∀ a,A=some a→a.block<N) (hb:Below base wb wp) (hkp:∀ i,i<wb.heap.size→(∀ a m c',Value.slice A n c=.slice (some a) m c'→a.block≠i)→wp.heap[i]? = wb.heap[i]?) (hl:∀ q∈l,q.1<base∨N≤q.1) (hw:w.heap.size≤base):Bag l w wp :=
 hX.same (fun q hq=>hkp q.1 (hX.all q.1 q.2.1 q.2.2 hq).lt (fun a m c' h=>by
  have h1:=(qhn ho a m c' h).1
  have h2:=hA a (by cases h;rfl)
  have h3:=hl q hq
  omega)) (hX.below.trans (hb.mono hw))
theorem own_put {wb wp:World} {N n c m s:Nat} {A:Option Addr} {e:TypeId} {v:Value} {xs:List Value} (h:wb.ownsRow N e s v m xs) (hA:∀ a,A=some a→a.block<N) (hkp:∀ i,i<wb.heap.size→(∀ a m c',Value.slice A n c=.slice (some a) m c'→a.block≠i)→wp.heap[i]? = wb.heap[i]?):wp.ownsRow N e s v m xs :=
 own_keep h (fun k hk hlt=>hkp k hlt (fun a m c' h=>by have:=hA a (by cases h;rfl);omega))
theorem wr_form (D:Drv) (k:Int) (s:ByteArray):((D.wr k s).2=0→(D.wr k s).1=⟨putS D k s,D.B⟩)∧((D.wr k s).2≠0→(D.wr k s).1=Drv.z):=by
 unfold putS
 cases hv:hasV D.S.length k
 ·rw [pwr_no s hv];exact ⟨fun h=>(by cases h),fun _=>rfl⟩
 by_cases h2:128<s.size
 ·rw [qn4 hv h2];exact ⟨fun h=>(by cases h),fun _=>rfl⟩
 cases h3:D.B.contains k
 ·rw [pwr_ok hv h2 h3];exact ⟨fun _=>rfl,fun h=>absurd rfl h⟩
 ·rw [qtz hv h2 h3];exact ⟨fun h=>(by cases h),fun _=>rfl⟩
theorem qnl (D:Drv) (k:Int) (s:ByteArray):(putS D k s).length=D.S.length:=by
 unfold putS
 split
 ·rename_i h;exact (wr_keep D k s h).1
 ·rfl
theorem qp4 (D:Drv) (k:Int) (s:ByteArray) (hr:D.right=true) (vs vb:Value) (X:Nat→Prop) (w:World) (hXl:∀ b,X b→b<w.heap.size) (hs:Sts w vs D.S) (hb:Its w vb D.B):Calls Tryz.prog 222 #[.agg #[vs,vb],.int .i64 k,.string s] w fun e w'=>∃ x,e=.returned (.tuple #[x,.int .i64 (D.wr k s).2])∧DvX X w' x (D.wr k s).1∧Below w.heap.size w w':=by
 have hlB:D.B.length≤1099511627775:=by have:=qf4 hr;omega
 have hl:D.B.length≤1099511627776:=by omega
 have hBr:=qll hr
 have hl2:D.S.length≤1099511627776:=by have:=((qb1 D).1 hr).2.1;omega
 have hput:=fun v1 v2 b N w h1 h2 h3=>pput_any D k s (by have:=((qb1 D).1 hr).2.1;omega) v1 v2 b N w h1 h2 h3
 have hsW:∀ w',Below w.heap.size w w'→Sts w' vs D.S:=fun w' h=>hs.below h
 have hbW:∀ w',Below w.heap.size w w'→Its w' vb D.B:=fun w' h=>hb.below h
 have o1:=qdj hs
 have o2:=qdi hb
 have hX:=qow w [vs,vb] [.slice none 0 0,.slice none 0 0]
 have hwf:=wr_form D k s
 have hpl:=hid (qnl D k s)
 generalize putS D k s=S2 at *
 generalize D.wr k s=RR at *
 obtain ⟨R1,err⟩:=RR
 dsimp only at hwf hput ⊢
 clear hs hb hr
 go_enter Tryz.func222,Tryz.ntmps222
 go_wp2_with (first|((with_reducible refine qab ?_);refine lw hX aggD sizD ?_)|(go_at_call 228;(with_reducible refine (pcop_any D hl hl2 _ _ _ (hsW _ hX.below) (hbW _ hX.below)).mono ?_);rintro e wc ⟨A1,c1,A2,c2,N,rfl,ho1,hA1,ho2,hNg,hNl,hbb⟩;have hlt0:=(hX.all _ _ _ (.head _)).lt;replace ho1:=qaz ho1 (show w.heap.size+2≤_ from hlt0);replace hNg:w.heap.size+2≤N:=Nat.le_trans hlt0 hNg;clear hlt0;replace hX:=hX.step hbb;clear hbb)|((with_reducible refine qah ?_);refine qc7 (zs:=[.slice none 0 0,.slice none 0 0]) (cs:=[.slice A1 D.S.length c1,.slice A2 D.B.length c2]) hX aggD sizD _ _ rfl rfl rfl rfl rfl rfl rfl rfl (qf6 rfl rfl) ?_;clear hX;intro w8 hX hb8;replace ho1:=qag ho1 hb8;replace ho2:=qag ho2 hb8;have hN8:N≤w8.heap.size:=Nat.le_trans hNl hb8.size;have hc8:w.heap.size+2≤wc.heap.size:=Nat.le_trans hNg hNl;clear hb8))
 replace hX:=hX.drew
 replace ho1:=World.ownsRow.drew ho1
 replace ho2:=World.ownsRow.drew ho2
 refine qa8 (fun w'=>Bag [(wc.heap.size,38,[.slice A1 D.S.length c1,.slice A2 D.B.length c2]),(w.heap.size+1,38,[.slice none 0 0,.slice none 0 0]),(w.heap.size,38,[vs,vb])] w w') 7 [(0,false),(1,false),(3,false),(4,false),(5,false),(2,true),(6,true)] (by kernel_rfl) (by kernel_rfl) (fun _ _ dd _ _ h=>by cases dd<;>exact h) hX ?_
 iterate 5
  refine qbk rfl rfl (fun KK hKK=>?_)
  apply Exists.intro
  refine ⟨fun wq hq=>?_,hKK _ ?_⟩
  ·try dsimp only at hq
   first
    | exact qad 38 _ _ rfl rfl ((hq.all _ _ _ (.head _)).loadAt rfl aggD sizD)
    | exact qad 38 _ _ rfl rfl ((hq.all _ _ _ (.tail _ (.tail _ (.head _)))).loadAt rfl aggD sizD)
    | (unfold execOp;go_simp;done)
    | (unfold execOp;go_simp;with_reducible rfl)
  clear hKK KK
  simp only [Act.put,sx]
 refine qbm rfl rfl (fun KK hKK=>?_)
 unfold Oper.semiAt
 go_simp
 simp only [semiUpon]
 refine ⟨trivial,?_⟩
 refine (qkf D hlB hBr _ _ _ (hbW _ hX.below)).mono ?_
 rintro e' wb ⟨b,rfl,hM,hge,hbb⟩
 refine ⟨_,rfl,hKK _ _ (hX.step hbb) ?_⟩
 clear hKK KK
 replace hX:=hX.step hbb
 replace ho1:=qag ho1 hbb
 replace ho2:=qag ho2 hbb
 replace hN8:=Nat.le_trans hN8 hbb.size
 clear hbb
 simp only [Act.put,sx]
 refine qbm rfl rfl (fun KK hKK=>?_)
 unfold Oper.semiAt
 go_simp
 simp only [semiUpon]
 refine ⟨trivial,?_⟩
 refine (hput _ _ b (w.heap.size+2) _ ho1 (Nat.le_trans hNg hN8) hM).mono ?_
 rintro e' wp ⟨rfl,ho1p,hbp,hkp⟩
 refine ⟨_,rfl,hKK _ _ (qs4 hX ho1 hA1 hbp hkp (fun q hq=>by simp at hq;rcases hq with rfl|rfl|rfl<;>simp<;>omega) (Nat.le_add_right _ 2)) ?_⟩
 clear hKK KK
 replace hX:=qs4 hX ho1 hA1 hbp hkp (fun q hq=>by simp at hq;rcases hq with rfl|rfl|rfl<;>simp<;>omega) (Nat.le_add_right _ 2)
 replace ho2:=own_put ho2 hA1 hkp
 replace ho1:=ho1p
 clear ho1p hbp hkp hM
 simp only [Act.put,sx]
 refine qb7 ?_
 simp only [List.drop_succ_cons,List.drop_zero]
 clear hput hsW hbW
 by_cases he:err=0
 ·obtain rfl:=hwf.1 he
  subst he
  clear hwf
  go_wp2_with (first|((with_reducible refine qab ?_);refine lw hX aggD sizD ?_)|((with_reducible refine qah ?_);refine qaa (cs':=[.slice A1 D.S.length c1,.slice A2 D.B.length c2]) hX.swap aggD sizD _ _ rfl rfl rfl rfl rfl rfl rfl rfl (qf6 rfl rfl) ?_;clear hX;intro wz hX hkz;replace ho1:=qca ho1 (fun k hk=>hkz k (by omega));replace ho2:=qca ho2 (fun k hk=>hkz k (by omega));clear hkz))
  exact bodyPost_ret (qam Tryz.results222 rfl ((hX.all _ _ _ (.head _)).loadVar rfl aggD sizD)) rfl ⟨_,rfl,⟨_,_,rfl,qdv (fun b hb=>by have:=hXl b hb;omega) (hid rfl) hpl ho1,qd8 (fun b hb=>by have:=hXl b hb;omega) (hid rfl) (hid rfl) ho2⟩,hX.below⟩
 ·obtain rfl:=hwf.2 he
  have he1:(err != 0)=true:=by simpa using he
  clear hwf he
  go_wp2_with (first|((with_reducible refine qab ?_);refine lw hX aggD sizD ?_)|((with_reducible refine qah ?_);refine qaa (cs':=[.slice none 0 0,.slice none 0 0]) hX.swap aggD sizD _ _ rfl rfl rfl rfl rfl rfl rfl rfl (qf6 rfl rfl) ?_;clear hX;intro wz hX hkz;replace ho1:=qca ho1 (fun k hk=>hkz k (by omega));replace ho2:=qca ho2 (fun k hk=>hkz k (by omega));clear hkz))
  exact bodyPost_ret (qam Tryz.results222 rfl ((hX.all _ _ _ (.head _)).loadVar rfl aggD sizD)) rfl ⟨_,rfl,⟨_,_,rfl,Sv.nil _ _,Sv.nil _ _⟩,hX.below⟩
end Go.Proofs.YthpnddgfgpacpaaGreat
