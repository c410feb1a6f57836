import Derived.Test.YthpnddgfgpacpaaGreatRT03
import Derived.Deep.RegionHeld3
import Derived.Test.YthpnddgfgpacpaaGreatRT00
import Derived.Maps.AppendAt
import Derived.Laws.AppendOwnNone
import Derived.Test.YthpnddgfgpacpaaGreatRT01
import Derived.BigQuiet
namespace Go.Proofs.YthpnddgfgpacpaaGreat
open Go.RowKit
set_option linter.unusedSimpArgs false
set_option linter.unusedVariables false
set_option maxHeartbeats 4000000
set_option maxRecDepth 100000
attribute [local irreducible] wpQuiet
theorem Bag.stepN {l:List (Nat×TypeId×List Value)} {w0 w w':World} {N:Nat} (h:Bag l w0 w) (hb:Below N w w') (hl:∀ b∈l,b.1<N) (h0:w0.heap.size≤N):Bag l w0 w' :=
 ⟨fun B t cs hm=>(hb.block B (hl _ hm)).trans (h.all B t cs hm),h.below.trans (hb.mono h0),h.lo,h.dis⟩
theorem qca {w w':World} {base n s:Nat} {t:TypeId} {v:Value} {xs:List Value} (h:w.ownsRow base t s v n xs) (hk:∀ k,base≤k→w'.heap[k]? = w.heap[k]?):w'.ownsRow base t s v n xs:=by
 refine ⟨h.1,?_⟩
 rcases h.2 with h0|⟨g,cap,cur,hv,hg,hh,r⟩
 ·exact .inl h0
 ·exact .inr ⟨g,cap,cur,hv,hg,(hk g hg).trans hh,r⟩
theorem own_set {w:World} {base n s:Nat} {t:TypeId} {v u:Value} {a:Addr} {xs:List Value} (h:w.ownsRow base t s v n xs) (hk:a.block<base):(w.setCell a u).ownsRow base t s v n xs :=
 qca h fun k hb=>heap_setCell_other w a k u (by omega)
theorem qbe (w:World) (t:TypeId):(w.alloc (.cells #[] t)).ownsRow w.heap.size t 1 (.slice (some ⟨w.heap.size,0,none⟩) 0 0) 0 [] :=
 ⟨rfl,.inr ⟨w.heap.size,0,#[],rfl,Nat.le_refl _,heap_alloc_new w _,Nat.le_refl _,Nat.zero_le _,rfl,rfl⟩⟩
section
variable {ops:Array Oper} {rest:List Oper} {o:Oper} {a:Act} {w w0 w1:World} {Q:Exit→Act→World→Prop} {l:List (Nat×TypeId×List Value)}
theorem qae {B k:Nat} {t T:TypeId} {cs:List Value} {z:Value} (hX:Bag ((B,t,cs) :: l) w0 w) (hsz:∀ w,(sizeOf T).run Tryz.prog w=.ok 1 w) (x y:Operand) (hop:o.op=Op.store T x y) (hal:w1=w) (hx:a.eval x=.pointer (some ⟨B,k,none⟩)) (hy:a.eval y=z) (hdst:o.dst=none) (hw:Region.wanted o (yielded ops a.tmps)=true) (hk:k<cs.length) (hz:z.cells=#[z]) (h1:z.oneCell'=true)
 (h:∀ w2,Bag ((B,t,cs.set k z) :: l) w0 w2→(∀ k,k≠B→w2.heap[k]? = w.heap[k]?)→w2.heap.size=w.heap.size→wpList Tryz.prog ops Q rest a w2):wpList Tryz.prog ops Q (o :: rest) a w1:=by
 subst hal
 have hr:=(hX.all _ _ _ List.mem_cons_self).put_run (P:=Tryz.prog) (v:=z) hk h1
 exact BigFrame.wpList_want hw fun _ hK=>by
  unfold Oper.wp execOp
  simp only [hop,hx,hy,hz,Instr.storeAt,Instr.sureAddr,storeVar,hr,hsz,List.size_toArray,List.length_cons,List.length_nil,ne_eq,not_true_eq_false,if_false,Sem.run_bind,Sem.run_pure,Result.andThen_ok]
  exact hK _ _ (by rw [hdst];exact h _ (hX.over _) (fun k hk=>setRow_other w1 B k _ hk) (by simp [World.setRow]))
theorem qaa {B n:Nat} {t T:TypeId} {cs cs':List Value} (hX:Bag ((B,t,cs) :: l) w0 w) (hagg:∀ w,(isAgg T).run Tryz.prog w=.ok true w) (hsz:∀ w,(sizeOf T).run Tryz.prog w=.ok n w) (x y:Operand) (hop:o.op=Op.store T x y) (hal:w1=w) (hx:a.eval x=.pointer (some ⟨B,0,none⟩)) (hy:a.eval y=.agg cs'.toArray) (hdst:o.dst=none) (hw:Region.wanted o (yielded ops a.tmps)=true) (hn:cs'.length=n) (hc:cs.length=n) (h1:∀ v∈cs',v.oneCell'=true)
 (h:∀ w2,Bag ((B,t,cs') :: l) w0 w2→(∀ k,k≠B→w2.heap[k]? = w.heap[k]?)→wpList Tryz.prog ops Q rest a w2):wpList Tryz.prog ops Q (o :: rest) a w1:=by
 subst hal
 exact
  qbc hw hdst T x y _ _ hop hx hy hagg (by rw [hn];exact hsz) ((hX.all _ _ _ List.mem_cons_self).store_run (by rw [hn,hc]) h1) (h _ (hX.over _) (fun k hk=>setRow_other w1 B k _ hk))
theorem qdh {N g j n cap:Nat} {e T:TypeId} {xs:List Value} {u:Value} (hown:w.ownsRow N e 1 (.slice (some ⟨g,0,none⟩) n cap) n xs) (hsz:∀ w,(sizeOf T).run Tryz.prog w=.ok 1 w) (x y:Operand) (hop:o.op=Op.store T x y) (hal:w1=w) (hx:a.eval x=.pointer (some ⟨g,j,none⟩)) (hy:a.eval y=u) (hdst:o.dst=none) (hw:Region.wanted o (yielded ops a.tmps)=true) (hj:j<n) (hz:u.cells=#[u]) (h1:u.oneCell'=true)
 (h:∀ w2,w2.ownsRow N e 1 (.slice (some ⟨g,0,none⟩) n cap) n (xs.set j u)→Below N w w2→wpList Tryz.prog ops Q rest a w2):wpList Tryz.prog ops Q (o :: rest) a w1:=by
 subst hal
 have hg:N≤g:=(World.ownsRow.lt hown g rfl).1
 have hlt:g<w1.heap.size:=(World.ownsRow.lt hown g rfl).2
 have hl:xs.length=n:=by have:=hown.1;omega
 have hc:=World.ownsRow.cellAt hown j (by omega)
 have hf:=World.ownsRow.frozenAt hown j
 have hst:=(World.ownsRow.stored hown j u).1
 have hx0:∃ u0,w1.cell? ⟨g,j,none⟩=some u0:=⟨xs[j]'(by omega),by rw [hc,List.getElem?_eq_getElem]⟩
 obtain ⟨u0,hu0⟩:=hx0
 have hr:(storeCells ⟨g,j,none⟩ [u]).run Tryz.prog w1=.ok () (w1.setCell ⟨g,j,none⟩ u):=by
  simp [storeCells,go_sem]
  rw [run_store _ _ _ _ _ h1,hu0]
  simp [hf]
 exact BigFrame.wpList_want hw fun _ hK=>by
  unfold Oper.wp execOp
  simp only [hop,hx,hy,hz,Instr.storeAt,Instr.sureAddr,storeVar,hr,hsz,List.size_toArray,List.length_cons,List.length_nil,ne_eq,not_true_eq_false,if_false,Sem.run_bind,Sem.run_pure,Result.andThen_ok]
  exact hK _ _ (by rw [hdst];exact h _ hst ((Below.refl N w1).setCell hg u))
end
theorem qfg (w:World):(sizeOf 36).run Tryz.prog w=.ok 1 w:=by kernel_rfl
theorem siz_I (w:World):(sizeOf 26).run Tryz.prog w=.ok 1 w:=by kernel_rfl
theorem qkh (w:World):(sizeOf 9).run Tryz.prog w=.ok 1 w:=by kernel_rfl
def Sv (X:Nat→Prop) (w:World) (v:Value) (n:Nat) (cs:List Value):Prop:=∀ w':World,(∀ b,b<w.heap.size→¬ X b→w'.heap[b]? = w.heap[b]?)→Rz w' v n cs
theorem Sv.now {X:Nat→Prop} {w:World} {v:Value} {n:Nat} {cs:List Value} (h:Sv X w v n cs):Rz w v n cs:=h w (fun _ _ _=>rfl)
theorem qgh {w w':World} {b:Nat} (hb:b<w.heap.size) (h:w'.heap[b]? = w.heap[b]?):b<w'.heap.size:=by
 rw [Array.getElem?_eq_getElem hb] at h
 exact (Array.getElem?_eq_some_iff.1 h).1
theorem Sv.off {X Y:Nat→Prop} {w w':World} {v:Value} {n:Nat} {cs:List Value} (h:Sv X w v n cs) (hk:∀ b,b<w.heap.size→¬ X b→w'.heap[b]? = w.heap[b]?) (hY:∀ b,b<w.heap.size→Y b→X b):Sv Y w' v n cs:=fun w2 h2=>h w2 fun b hb hx=>(h2 b (qgh hb (hk b hb hx)) (fun hy=>hx (hY b hb hy))).trans (hk b hb hx)
theorem Sv.below {X:Nat→Prop} {w w':World} {v:Value} {n:Nat} {cs:List Value} (h:Sv X w v n cs) (hb:Below w.heap.size w w'):Sv X w' v n cs:=h.off (fun b hb' _=>hb.block b hb') (fun _ _ h=>h)
theorem Sv.weak {X Y:Nat→Prop} {w w':World} {v:Value} {n:Nat} {cs:List Value} (h:Sv X w v n cs) (hb:Below w.heap.size w w') (hY:∀ b,b<w.heap.size→Y b→X b):Sv Y w' v n cs:=h.off (fun b hb' _=>hb.block b hb') hY
theorem Rz.sv {w:World} {v:Value} {n:Nat} {cs:List Value} (h:Rz w v n cs):Sv (fun _=>False) w v n cs:=fun w' hk=>by
 obtain ⟨⟨A,c,hv,hn,hc⟩,h2⟩:=h
 refine ⟨⟨A,c,hv,hn,fun j x hx=>?_⟩,h2⟩
 obtain ⟨a,ha,h1,h3⟩:=hc j x hx
 have h4:=hk _ h3 (fun h=>h)
 exact ⟨a,ha,(World.cell?_of_block (w:=w) h4).trans h1,qgh h3 h4⟩
theorem Sv.nil (X:Nat→Prop) (w:World):Sv X w (.slice none 0 0) 0 []:=fun w' _=>Rz.nil w'
theorem Sv.of_own {X:Nat→Prop} {w:World} {base s n:Nat} {t:TypeId} {v:Value} {xs:List Value} (h:w.ownsRow base t s v n xs) (hX:∀ b,X b→b<base):Sv X w v n xs:=fun w' hk=>by
 refine Rz.of_own (w:=w') (base:=base) (s:=s) (t:=t) ⟨h.1,?_⟩
 rcases h.2 with h0|⟨g,cap,cur,hv,hg,hh,r⟩
 ·exact .inl h0
 ·exact .inr ⟨g,cap,cur,hv,hg,(hk g (Array.getElem?_eq_some_iff.1 hh).1 (fun hx=>by have:=hX g hx;omega)).trans hh,r⟩
def StsX (X:Nat→Prop) (w:World) (v:Value) (S:List ByteArray):Prop:=Sv X w v S.length (S.map Value.string)
def ItsX (X:Nat→Prop) (w:World) (v:Value) (B:List Int):Prop:=Sv X w v B.length (B.map (Value.int .i64))
def DvX (X:Nat→Prop) (w:World) (x:Value) (D:Drv):Prop:=∃ vs vb,x=.agg #[vs,vb]∧StsX X w vs D.S∧ItsX X w vb D.B
theorem StsX.now {X:Nat→Prop} {w:World} {v:Value} {S:List ByteArray} (h:StsX X w v S):Sts w v S:=Sv.now h
theorem ItsX.now {X:Nat→Prop} {w:World} {v:Value} {S:List Int} (h:ItsX X w v S):Its w v S:=Sv.now h
theorem StsX.below {X:Nat→Prop} {w w':World} {v:Value} {S:List ByteArray} (h:StsX X w v S) (hb:Below w.heap.size w w'):StsX X w' v S:=Sv.below h hb
theorem ItsX.below {X:Nat→Prop} {w w':World} {v:Value} {S:List Int} (h:ItsX X w v S) (hb:Below w.heap.size w w'):ItsX X w' v S:=Sv.below h hb
theorem StsX.off {X Y:Nat→Prop} {w w':World} {v:Value} {S:List ByteArray} (h:StsX X w v S) (hk:∀ b,b<w.heap.size→¬ X b→w'.heap[b]? = w.heap[b]?) (hY:∀ b,b<w.heap.size→Y b→X b):StsX Y w' v S:=Sv.off h hk hY
theorem ItsX.off {X Y:Nat→Prop} {w w':World} {v:Value} {S:List Int} (h:ItsX X w v S) (hk:∀ b,b<w.heap.size→¬ X b→w'.heap[b]? = w.heap[b]?) (hY:∀ b,b<w.heap.size→Y b→X b):ItsX Y w' v S:=Sv.off h hk hY
theorem StsX.weak {X Y:Nat→Prop} {w w':World} {v:Value} {S:List ByteArray} (h:StsX X w v S) (hb:Below w.heap.size w w') (hY:∀ b,b<w.heap.size→Y b→X b):StsX Y w' v S:=Sv.weak h hb hY
theorem ItsX.weak {X Y:Nat→Prop} {w w':World} {v:Value} {S:List Int} (h:ItsX X w v S) (hb:Below w.heap.size w w') (hY:∀ b,b<w.heap.size→Y b→X b):ItsX Y w' v S:=Sv.weak h hb hY
theorem DvX.z (X:Nat→Prop) (w:World):DvX X w (.agg #[.slice none 0 0,.slice none 0 0]) Drv.z:=⟨_,_,rfl,Sv.nil X w,Sv.nil X w⟩
theorem qdv {X:Nat→Prop} {w:World} {N n:Nat} {v:Value} {xs:List Value} {S':List ByteArray} (hX:∀ b,X b→b<N) (hfin:Hid (xs=S'.map Value.string)) (hln:Hid (S'.length=n)) (h:w.ownsRow N 9 1 v n xs):StsX X w v S':=by
 have h1:=Sv.of_own h hX
 rw [show xs=_ from hfin,← show _=n from hln] at h1
 exact h1
theorem qd8 {X:Nat→Prop} {w:World} {N n:Nat} {v:Value} {xs:List Value} {S':List Int} (hX:∀ b,X b→b<N) (hfin:Hid (xs=S'.map (Value.int .i64))) (hln:Hid (S'.length=n)) (h:w.ownsRow N 3 1 v n xs):ItsX X w v S':=by
 have h1:=Sv.of_own h hX
 rw [show xs=_ from hfin,← show _=n from hln] at h1
 exact h1
theorem qq7 (n:Int) (w:World) (X:Nat→Prop) (hXl:∀ b,X b→b<w.heap.size):Calls Tryz.prog 67 #[.int .i64 n] w fun e w'=>∃ x,e=.returned (.tuple #[x,.int .i64 (newV n).2])∧DvX X w' x (newV n).1∧Below w.heap.size w w':=by
 have hX:=(Bag.nil w).new 38 [.slice none 0 0,.slice none 0 0]
 unfold newV
 by_cases h1:n<1
 ·have d1:decide (n<1)=true:=decide_eq_true h1
  rw [if_neg (by omega)]
  go_enter Tryz.func67,Tryz.ntmps67
  go_wp2_with (first|((with_reducible refine qah ?_);refine qb0 hX aggD sizD _ _ rfl rfl rfl rfl rfl rfl rfl rfl (by intro u hu;simp at hu;rcases hu with rfl|rfl<;>rfl) ?_;clear hX;intro wz hX))
  exact bodyPost_ret (qam Tryz.results67 rfl ((hX.all _ _ _ List.mem_cons_self).loadVar rfl aggD sizD)) rfl ⟨_,rfl,DvX.z X _,hX.below⟩
 have d1:decide (n<1)=false:=decide_eq_false h1
 by_cases h2:256<n
 ·have d2:decide (256<n)=true:=decide_eq_true h2
  rw [if_neg (by omega)]
  go_enter Tryz.func67,Tryz.ntmps67
  go_wp2_with (first|((with_reducible refine qah ?_);refine qb0 hX aggD sizD _ _ rfl rfl rfl rfl rfl rfl rfl rfl (by intro u hu;simp at hu;rcases hu with rfl|rfl<;>rfl) ?_;clear hX;intro wz hX))
  exact bodyPost_ret (qam Tryz.results67 rfl ((hX.all _ _ _ List.mem_cons_self).loadVar rfl aggD sizD)) rfl ⟨_,rfl,DvX.z X _,hX.below⟩
 have d2:decide (256<n)=false:=decide_eq_false h2
 rw [if_pos (by omega)]
 obtain ⟨m,rfl⟩:∃ m:Nat,n=(m:Int):=⟨n.toNat,by omega⟩
 have hm:m≤256:=by omega
 simp only [Int.toNat_natCast]
 have hX2:=qow w [.slice none 0 0,.slice none 0 0] [.slice none 0 0,.slice none 0 0]
 clear hX
 have hz:∀ w,Calls Tryz.prog 122 #[.int .i64 128] w fun e w'=>e=.returned (.string (zB 128))∧Below w.heap.size w w':=fun w=>qjg 128 (by omega) w
 go_enter Tryz.func67,Tryz.ntmps67
 go_wp2
 go_loopw [5] (fun iv wr=>∃ (k:Nat) (v:Value),k≤m∧iv=.int .i64 k∧wr.ownsRow (w.heap.size+2) 9 1 v k ((List.replicate k (zB 128)).map Value.string)∧Bag [(w.heap.size+1,38,[v,.slice none 0 0]),(w.heap.size,38,[.slice none 0 0,.slice none 0 0])] w wr) (fun iv _=>match iv with|.int _ q=>m - q.toNat|_=>0)
 case atStart=>exact ⟨0,.slice none 0 0,Nat.zero_le _,rfl,World.ownsRow_nil _ _ _ _,hX2⟩
 case round =>
  clear hX2
  obtain ⟨k,v,hk,rfl,hown,hX⟩:=hrel
  by_cases hkm:k<m
  ·have hki:(k:Int)<(m:Int):=by omega
   have hst:=hid (rep_map k)
   have hbs:=(hX.all _ _ _ List.mem_cons_self).lt
   have hc0:=(hX.all _ _ _ List.mem_cons_self).cell (k:=0) rfl
   have hf0:=(hX.all _ _ _ List.mem_cons_self).frozen 0
   have hsz0:w.heap.size+2≤wr.heap.size:=hbs
   go_wp2
   go_region_law (first|(go_simp;go_at_call 122;(with_reducible refine (hz _).mono ?_);rintro e w' ⟨rfl,hbb⟩;replace hX:=hX.drew.step hbb;replace hown:=qag (World.ownsRow.drew hown) hbb;have hsz1:w.heap.size+2≤w'.heap.size:=(hX.all _ _ _ List.mem_cons_self).lt;clear hbb;have hc1:=(hX.all _ _ _ List.mem_cons_self).cell (k:=0) rfl;have hf1:=(hX.all _ _ _ List.mem_cons_self).frozen 0;have hc1a:=(((hX.step ((Below.refl _ _).alloc (Nat.le_refl _) (.cells #[.string (zB 128)] 9)))).all _ _ _ List.mem_cons_self).cell (k:=0) rfl)|(refine qsw (by rfl) (.tmp 19) (.tmp 21) (by rfl) (w.heap.size+2) _ _ _ (by rfl) (World.ownsRow.alloc hown _) ⟨w'.heap.size,0,none⟩ 1 1 [.string (zB 128)] (by rfl) rfl qc2 (fun x hx=>by simp at hx;subst hx;rfl) (by omega) (by simp;omega) ?_;intro v2 w2 ho2 hb2;have hr2:=Rw.of_own ho2;obtain ⟨A2,c2,rfl,_,_⟩:=hr2;have hXb:=(Bag.step hX ((Below.refl _ _).alloc (Nat.le_refl _) (.cells #[.string (zB 128)] 9))).stepN hb2 (fun b hb=>by simp at hb;rcases hb with rfl|rfl<;>simp) (by omega);have hc2:=(hXb.all _ _ _ List.mem_cons_self).cell (k:=0) rfl;have hf2:=(hXb.all _ _ _ List.mem_cons_self).frozen 0))
   all_goals
    go_wp2
    exact ⟨⟨k+1,_,by omega,by go_num,by rw [show (List.replicate (k+1) (zB 128)).map Value.string=_ from hst];exact own_set ho2 (by simp),hXb.set 0 _⟩,by simp only;omega⟩
  ·obtain rfl:k=m:=by omega
   have hkm:¬ (k:Int)<(k:Int):=by omega
   have hr2:=Rw.of_own hown
   obtain ⟨A2,c2,rfl,_,_⟩:=hr2
   go_wp2_with (first|((with_reducible refine qah ?_);refine qaa hX.swap aggD sizD _ _ rfl rfl rfl rfl rfl rfl rfl rfl (by intro u hu;simp at hu;rcases hu with rfl|rfl<;>rfl) ?_;clear hX;intro wz hX hkz;replace hown:=qca hown (fun k hk=>hkz k (by omega));clear hkz)|((with_reducible refine qab ?_);refine qas (k:=0) hX aggD sizD _ rfl rfl rfl rfl (by first|exact .head _|exact .tail _ (.head _)) (fun jz vz hz=>(congrArg (fun n=>([_,_]:List Value)[n]?) (Nat.zero_add jz)).trans hz) rfl ?_))
   exact bodyPost_ret (qam Tryz.results67 rfl ((hX.all _ _ _ List.mem_cons_self).loadVar rfl aggD sizD)) rfl ⟨_,rfl,⟨_,_,rfl,qdv (fun b hb=>by have:=hXl b hb;omega) (hid rfl) (hid List.length_replicate) hown,Sv.nil X _⟩,hX.below⟩
theorem z_int (w:World):(sizeOf 3).run Tryz.prog w=.ok 1 w:=by kernel_rfl
section
variable {ops:Array Oper} {rest:List Oper} {o:Oper} {a:Act} {w w0 w1:World} {Q:Exit→Act→World→Prop} {l:List (Nat×TypeId×List Value)} {B k n:Nat} {t T:TypeId} {cs:List Value} {v z:Value} {x y:Operand}
theorem lc (hX:Bag l w0 w) (h:wpList Tryz.prog ops Q rest (a.put o.dst v) w) (hop:o.op=Op.load T x:=by rfl) (hal:w1=w:=by rfl) (hx:a.eval x=.pointer (some ⟨B,k,none⟩):=by rfl) (hw:Region.wanted o (yielded ops a.tmps)=true:=by rfl) (hagg:∀ w,(isAgg T).run Tryz.prog w=.ok false w:=by first|exact qao|exact qbl|exact qau|exact qap|exact qd7) (hm:(B,t,cs)∈l:=by first|exact .head _|exact .tail _ (.head _)|exact .tail _ (.tail _ (.head _))|exact .tail _ (.tail _ (.tail _ (.head _)))|exact .tail _ (.tail _ (.tail _ (.tail _ (.head _))))) (hk:cs[k]? = some v:=by rfl):wpList Tryz.prog ops Q (o :: rest) a w1 :=
 qai hX hagg x hop hal hx hw hm hk h
theorem lw (hX:Bag l w0 w) (hagg:∀ w,(isAgg T).run Tryz.prog w=.ok true w) (hsz:∀ w,(sizeOf T).run Tryz.prog w=.ok n w)
 (h:wpList Tryz.prog ops Q rest (a.put o.dst (.agg cs.toArray)) w) (hop:o.op=Op.load T x:=by rfl) (hal:w1=w:=by rfl) (hx:a.eval x=.pointer (some ⟨B,0,none⟩):=by rfl) (hw:Region.wanted o (yielded ops a.tmps)=true:=by rfl) (hm:(B,t,cs)∈l:=by first|exact .head _|exact .tail _ (.head _)|exact .tail _ (.tail _ (.head _))|exact .tail _ (.tail _ (.tail _ (.head _)))) (hn:cs.length=n:=by rfl):wpList Tryz.prog ops Q (o :: rest) a w1 :=
 qas (k:=0) hX hagg hsz x hop hal hx hw hm (fun j v hz=>by rw [Nat.zero_add];exact hz) hn h
theorem lp {ds:List Value} (hX:Bag l w0 w) (hagg:∀ w,(isAgg T).run Tryz.prog w=.ok true w) (hsz:∀ w,(sizeOf T).run Tryz.prog w=.ok n w)
 (h:wpList Tryz.prog ops Q rest (a.put o.dst (.agg ds.toArray)) w) (hop:o.op=Op.load T x:=by rfl) (hal:w1=w:=by rfl) (hx:a.eval x=.pointer (some ⟨B,0,none⟩):=by rfl) (hw:Region.wanted o (yielded ops a.tmps)=true:=by rfl) (hm:(B,t,cs)∈l:=by first|exact .head _|exact .tail _ (.head _)|exact .tail _ (.tail _ (.head _))|exact .tail _ (.tail _ (.tail _ (.head _)))) (hc:∀ j v,ds[j]? = some v→cs[0+j]? = some v:=by intro jz vz hz;rcases jz with _|_|jz<;>first|exact hz|(simp at hz)) (hn:ds.length=n:=by rfl):wpList Tryz.prog ops Q (o :: rest) a w1 :=
 qas (k:=0) hX hagg hsz x hop hal hx hw hm hc hn h
theorem sc (hX:Bag ((B,t,cs) :: l) w0 w)
 (h:∀ w2,Bag ((B,t,cs.set k z) :: l) w0 w2→(∀ j,j≠B→w2.heap[j]? = w.heap[j]?)→w2.heap.size=w.heap.size→wpList Tryz.prog ops Q rest a w2) (hop:o.op=Op.store T x y:=by rfl) (hal:w1=w:=by rfl) (hx:a.eval x=.pointer (some ⟨B,k,none⟩):=by rfl) (hy:a.eval y=z:=by rfl) (hdst:o.dst=none:=by rfl) (hw:Region.wanted o (yielded ops a.tmps)=true:=by rfl) (hsz:∀ w,(sizeOf T).run Tryz.prog w=.ok 1 w:=by first|exact z_int|exact z_bool|exact z_slS|exact z_slI|exact z_str) (hk:k<cs.length:=by simp) (hz:z.cells=#[z]:=by rfl) (h1:z.oneCell'=true:=by rfl):wpList Tryz.prog ops Q (o :: rest) a w1 :=
 qae hX hsz x y hop hal hx hy hdst hw hk hz h1 h
theorem cst {f:FuncId} {args:Array Value} {r:Ending} {K:Ending→World→Prop} (hX:Bag l w0 w) (hc:Calls Tryz.prog f args w fun e w'=>e=r∧Below w.heap.size w w') (h:∀ w',Bag l w0 w'→K r w'):Calls Tryz.prog f args w K :=
 hc.mono fun e w' hh=>by obtain ⟨rfl,hb⟩:=hh;exact h w' (hX.step hb)
theorem sx {α:Type}:(∀ (l:List α) (i:Nat) (x:α),l.toArray.setIfInBounds i x=(l.set i x).toArray)∧(∀ (l:List α) (x y:α),(x :: l).set 0 y=y :: l)∧(∀ (l:List α) (i:Nat) (x y:α),(x :: l).set (i+1) y=x :: l.set i y) :=
 ⟨fun _ _ _=>List.setIfInBounds_toArray ..,fun _ _ _=>rfl,fun _ _ _ _=>rfl⟩
end
theorem qi6 (D:Drv) (k:Int) (s:ByteArray) (hl:D.B.length≤1099511627776) (hl2:D.S.length≤1099511627776) (vs vb:Value) (w:World) (X:Nat→Prop) (hXl:∀ b,X b→b<w.heap.size) (hsX:StsX X w vs D.S) (hbX:ItsX X w vb D.B):Calls Tryz.prog 114 #[.agg #[vs,vb],.int .i64 k,.string s] w fun e w'=>∃ x,e=.returned (.tuple #[x,.int .i64 (D.wr k s).2])∧DvX X w' x (D.wr k s).1∧Below w.heap.size w w':=by
 have hs:=hsX.now
 have hb:=hbX.now
 obtain ⟨A,c,rfl,_,hc⟩:=hs.form
 obtain ⟨A2,c2,rfl,_⟩:=hb.form
 have hib:=fun w' (h:Below w.heap.size w w')=>qjh D k hl (.slice A D.S.length c) (.slice A2 D.B.length c2) w' (hs.below h) (hb.below h)
 have hX:=qow w [.slice A D.S.length c,.slice A2 D.B.length c2] [.slice none 0 0,.slice none 0 0]
 unfold Drv.wr
 obtain ⟨S,B⟩:=D
 dsimp only at hib hc hX hl hl2 hs hb hsX hbX ⊢
 by_cases h0:k<0
 ·have d0:decide (k<0)=true:=decide_eq_true h0
  rw [if_neg (by omega)]
  clear hs hb hc
  go_enter Tryz.func114,Tryz.ntmps114
  go_wp2_with (first|((with_reducible refine qab ?_);first|refine lc hX ?_|refine lw hX aggD sizD ?_)|(go_at_call 137;with_reducible refine cst hX (hib _ hX.below) ?_;clear hX;intro wI hX)|((with_reducible refine qah ?_);refine qaa hX aggD sizD _ _ rfl rfl rfl rfl rfl rfl rfl rfl (by intro u hu;simp at hu;rcases hu with rfl|rfl<;>rfl) ?_;clear hX;intro wz hX hkz;clear hkz))
  first|exact bodyPost_ret (qam Tryz.results114 rfl ((hX.all _ _ _ (.head _)).loadVar rfl aggD sizD)) rfl ⟨_,rfl,DvX.z X _,hX.below⟩|exact bodyPost_ret (qam Tryz.results114 rfl ((hX.all _ _ _ (.tail _ (.head _))).loadVar rfl aggD sizD)) rfl ⟨_,rfl,DvX.z X _,hX.below⟩
 have d0:decide (k<0)=false:=decide_eq_false h0
 by_cases h1:(S.length:Int)≤k
 ·have d1:decide ((S.length:Int)≤k)=true:=decide_eq_true h1
  rw [if_neg (by omega)]
  clear hs hb hc
  go_enter Tryz.func114,Tryz.ntmps114
  go_wp2_with (first|((with_reducible refine qab ?_);first|refine lc hX ?_|refine lw hX aggD sizD ?_)|(go_at_call 137;with_reducible refine cst hX (hib _ hX.below) ?_;clear hX;intro wI hX)|((with_reducible refine qah ?_);refine qaa hX aggD sizD _ _ rfl rfl rfl rfl rfl rfl rfl rfl (by intro u hu;simp at hu;rcases hu with rfl|rfl<;>rfl) ?_;clear hX;intro wz hX hkz;clear hkz))
  first|exact bodyPost_ret (qam Tryz.results114 rfl ((hX.all _ _ _ (.head _)).loadVar rfl aggD sizD)) rfl ⟨_,rfl,DvX.z X _,hX.below⟩|exact bodyPost_ret (qam Tryz.results114 rfl ((hX.all _ _ _ (.tail _ (.head _))).loadVar rfl aggD sizD)) rfl ⟨_,rfl,DvX.z X _,hX.below⟩
 have d1:decide ((S.length:Int)≤k)=false:=decide_eq_false h1
 rw [if_pos (by omega)]
 by_cases h2:128<s.size
 ·have d2:(128:Int)<(s.size:Int):=by omega
  rw [if_pos h2]
  clear hs hb hc
  go_enter Tryz.func114,Tryz.ntmps114
  go_wp2_with (first|((with_reducible refine qab ?_);first|refine lc hX ?_|refine lw hX aggD sizD ?_)|(go_at_call 137;with_reducible refine cst hX (hib _ hX.below) ?_;clear hX;intro wI hX)|((with_reducible refine qah ?_);refine qaa hX aggD sizD _ _ rfl rfl rfl rfl rfl rfl rfl rfl (by intro u hu;simp at hu;rcases hu with rfl|rfl<;>rfl) ?_;clear hX;intro wz hX hkz;clear hkz))
  first|exact bodyPost_ret (qam Tryz.results114 rfl ((hX.all _ _ _ (.head _)).loadVar rfl aggD sizD)) rfl ⟨_,rfl,DvX.z X _,hX.below⟩|exact bodyPost_ret (qam Tryz.results114 rfl ((hX.all _ _ _ (.tail _ (.head _))).loadVar rfl aggD sizD)) rfl ⟨_,rfl,DvX.z X _,hX.below⟩
 have d2:¬ (128:Int)<(s.size:Int):=by omega
 rw [if_neg h2]
 cases hbd:B.contains k
 ·rw [hbd] at hib
  simp only [Bool.false_eq_true,if_false]
  obtain ⟨j,rfl⟩:∃ j:Nat,k=(j:Int):=⟨k.toNat,by omega⟩
  have hj:j<S.length:=by omega
  have hj2:(j:Int)<(S.length:Int):=by omega
  obtain ⟨a,rfl,_⟩:=hc j S[j] (List.getElem?_eq_getElem hj)
  simp only [Int.toNat_natCast]
  obtain ⟨m,hm⟩:∃ m,128 - s.size=m:=⟨_,rfl⟩
  rw [hm]
  have hz:=qjg m (by omega)
  rw [show ((m:Nat):Int)=128 - (s.size:Int) from by omega] at hz
  have hzs:=qms m
  have hmx:s.size+(zB m).size≤128:=by omega
  have hfin:(S.map Value.string).set j (.string (s++zB m))=(S.set j (s++zB m)).map Value.string:=by rw [List.map_set]
  have hln:(S.set j (s++zB m)).length=S.length:=List.length_set
  replace hfin:=hid hfin
  replace hln:=hid hln
  have hmx2:¬ maxLen<s.size+(zB m).size:=by unfold maxLen;omega
  clear hm hc hbd h0 h1 h2
  go_enter Tryz.func114,Tryz.ntmps114
  go_wp2_with (first|((with_reducible refine qab ?_);first|refine lc hX ?_|refine lw hX aggD sizD ?_|refine qai (Bag.step hX ((Below.refl _ _).alloc (Nat.le_refl _) (.cells #[] 9))) qau _ rfl rfl rfl rfl (by first|exact .head _|exact .tail _ (.head _)) rfl ?_)|(go_at_call 137;with_reducible refine cst hX (hib _ hX.below) ?_;clear hX;intro wI hX)|(at_builtin;refine qcd rfl (.tmp 27) (.tmp 29) rfl wI.heap.size _ 0 [] rfl (qbe wI 9) a S.length c (S.map Value.string) rfl (by simp) (fun jz u h=>Rz.cell (Rz.below hs (hX.below.alloc hX.below.size _)) jz u h) (qfe S) (by omega) (by simp) ?_;intro v1 w1 ho1 hb1 _;rw [Nat.zero_add,List.nil_append] at ho1;have hlt1:=(hX.all _ _ _ (.head _)).lt;have hNN:w.heap.size+2≤wI.heap.size:=hlt1;replace hX:=(Bag.step hX ((Below.refl _ _).alloc (Nat.le_refl _) (.cells #[] 9))).stepN hb1 (fun b hb=>by simp at hb;rcases hb with rfl|rfl<;>simp<;>omega) (by omega);obtain ⟨g,cap,rfl,_⟩:=qox ho1 (by omega);have hown:=ho1;clear ho1 hb1 hlt1)|(go_at_call 122;(with_reducible refine (hz _).mono ?_);rintro e wz ⟨rfl,hbb⟩;replace hX:=hX.step hbb;replace hown:=qag hown hbb;clear hbb)|((with_reducible refine qah ?_);first|(refine qdh (u:=.string (s++zB m)) hown qkh _ _ rfl rfl rfl rfl rfl rfl hj rfl rfl ?_;intro w2 ho2 hb2;replace hX:=hX.stepN hb2 (fun b hb=>by simp at hb;rcases hb with rfl|rfl<;>simp<;>omega) (by omega);replace hown:=ho2;clear hb2 ho2)|(refine qae (z:=.slice (some ⟨g,0,none⟩) S.length cap) hX.swap qfg _ _ rfl rfl rfl rfl rfl rfl (by simp) rfl rfl ?_;intro w3 hX3 hk3 _;replace hX:=hX3;replace hown:=qca hown (fun k hk=>hk3 k (by omega));clear hk3 hX3;simp only [sx] at hX)|(refine qaa hX.swap aggD sizD _ _ rfl rfl rfl rfl rfl rfl rfl rfl (by intro u hu;simp at hu;rcases hu with rfl|rfl<;>rfl) ?_;clear hX;intro wz hX hkz;replace hown:=qca hown (fun k hk=>hkz k (by omega));clear hkz)|(refine qaa hX aggD sizD _ _ rfl rfl rfl rfl rfl rfl rfl rfl (by intro u hu;simp at hu;rcases hu with rfl|rfl<;>rfl) ?_;clear hX;intro wz hX hkz;replace hown:=qca hown (fun k hk=>hkz k (by omega));clear hkz)))
  have hS:=qdv (fun b hb=>by have:=hXl b hb;omega) hfin hln hown
  first|exact bodyPost_ret (qam Tryz.results114 rfl ((hX.all _ _ _ (.head _)).loadVar rfl aggD sizD)) rfl ⟨_,rfl,⟨_,_,rfl,hS,hbX.below hX.below⟩,hX.below⟩|exact bodyPost_ret (qam Tryz.results114 rfl ((hX.all _ _ _ (.tail _ (.head _))).loadVar rfl aggD sizD)) rfl ⟨_,rfl,⟨_,_,rfl,hS,hbX.below hX.below⟩,hX.below⟩
 ·rw [hbd] at hib
  simp only [if_true]
  clear hs hb hc hbd
  go_enter Tryz.func114,Tryz.ntmps114
  go_wp2_with (first|((with_reducible refine qab ?_);first|refine lc hX ?_|refine lw hX aggD sizD ?_)|(go_at_call 137;with_reducible refine cst hX (hib _ hX.below) ?_;clear hX;intro wI hX)|((with_reducible refine qah ?_);refine qaa hX aggD sizD _ _ rfl rfl rfl rfl rfl rfl rfl rfl (by intro u hu;simp at hu;rcases hu with rfl|rfl<;>rfl) ?_;clear hX;intro wz hX hkz;clear hkz))
  first|exact bodyPost_ret (qam Tryz.results114 rfl ((hX.all _ _ _ (.head _)).loadVar rfl aggD sizD)) rfl ⟨_,rfl,DvX.z X _,hX.below⟩|exact bodyPost_ret (qam Tryz.results114 rfl ((hX.all _ _ _ (.tail _ (.head _))).loadVar rfl aggD sizD)) rfl ⟨_,rfl,DvX.z X _,hX.below⟩
structure Dk where
 D:Drv
 n:Bool
 r:Bool
 e:Bool
 c:Int
 w:Int
 a:Int
 s:Int
 l:Int
def Dk.z:Dk:=⟨Drv.z,false,false,false,0,0,0,0,0⟩
def Dk.new (D:Drv):Dk:=⟨D,false,true,false,0,0,0,0,0⟩
def wordV (n:Int):Bool:=decide (0≤n) && decide (n≤65535)
def Dk.ok (K:Dk):Bool:=decide (0≤K.c) && decide (K.c≤3) && wordV K.w && wordV K.a && wordV K.s && decide (K.a%2=0) && decide (0≤K.l) && decide (K.l≤8) && (K.r == decide (K.l=0)) && (decide (K.l=0) || (decide (K.c≠0) && decide (K.w≠0)))
def Dk.right (K:Dk):Bool:=K.ok && K.D.right
def stK (K:Dk):Int:=2*K.c+(if K.n=true then 64 else 0)+(if K.r=true then 128 else 0)+(if K.e=true then 32768 else 0)
def Dk.rd (K:Dk) (g:Int):Int×Bool:=if g=2 then (K.w,true) else if g=4 then (K.a,true) else if g=6 then (K.s,true) else if g=0 then (stK K,true) else (0,false)
def Dk.cmd (K:Dk) (v:Int):Dk:=if K.r=true∧v%2=1 then (if v / 2%4≠0∧K.w≠0 then {K with c:=v / 2%4,e:=false,r:=false,l:=8} else {K with c:=v / 2%4,e:=false}) else K
def Dk.wr (K:Dk) (g v:Int):Dk×Bool :=
 if g=0 then ({K with n:=decide (v / 64%2=1)}.cmd v,true)
 else if g=2 then (if K.r=true then {K with w:=v%65536} else K,true)
 else if g=4 then (if K.r=true then {K with a:=v / 2%32768*2} else K,true)
 else if g=6 then (if K.r=true then {K with s:=v%65536} else K,true)
 else (Dk.z,false)
def Dk.fail (K:Dk):Dk:={K with e:=true,r:=true}
def DkX (X:Nat→Prop) (w:World) (x:Value) (K:Dk):Prop:=∃ vs vb,x=.agg #[vs,vb,.bool K.n,.bool K.r,.bool K.e,.int .i64 K.c,.int .i64 K.w,.int .i64 K.a,.int .i64 K.s,.int .i64 K.l]∧StsX X w vs K.D.S∧ItsX X w vb K.D.B
theorem Dk.ok_iff (K:Dk):K.ok=true↔(0≤K.c∧K.c≤3)∧wordV K.w=true∧wordV K.a=true∧wordV K.s=true∧K.a%2=0∧(0≤K.l∧K.l≤8)∧K.r=decide (K.l=0)∧(K.l=0∨(K.c≠0∧K.w≠0)):=by
 unfold Dk.ok;simp only [Bool.and_eq_true,Bool.or_eq_true,decide_eq_true_eq,beq_iff_eq];constructor
 ·rintro ⟨⟨⟨⟨⟨⟨⟨⟨⟨h1,h2⟩,h3⟩,h4⟩,h5⟩,h6⟩,h7⟩,h8⟩,h9⟩,h10⟩;exact ⟨⟨h1,h2⟩,h3,h4,h5,h6,⟨h7,h8⟩,h9,h10⟩
 ·rintro ⟨⟨h1,h2⟩,h3,h4,h5,h6,⟨h7,h8⟩,h9,h10⟩;exact ⟨⟨⟨⟨⟨⟨⟨⟨⟨h1,h2⟩,h3⟩,h4⟩,h5⟩,h6⟩,h7⟩,h8⟩,h9⟩,h10⟩
theorem qck (n:Int):wordV n=true↔0≤n∧n≤65535:=by unfold wordV;simp
theorem aggK (w:World):(isAgg 40).run Tryz.prog w=.ok true w:=by kernel_rfl
theorem sizK (w:World):(sizeOf 40).run Tryz.prog w=.ok 10 w:=by kernel_rfl
theorem qbi (w:World) (cs ds:List Value):Bag [(w.heap.size+1,40,ds),(w.heap.size,40,cs)] w ((w.alloc (.cells cs.toArray 40)).alloc (.cells ds.toArray 40)):=by
 have h:=((Bag.nil w).new 40 cs).new 40 ds
 rw [show (w.alloc (.cells cs.toArray 40)).heap.size=w.heap.size+1 from Array.size_push ..] at h
 exact h
theorem qav {vs vb:Value} (h1:vs.oneCell'=true) (h2:vb.oneCell'=true) (n r e:Bool) (c w a s l:Int):∀ v∈([vs,vb,.bool n,.bool r,.bool e,.int .i64 c,.int .i64 w,.int .i64 a,.int .i64 s,.int .i64 l]:List Value),v.oneCell'=true:=by
 intro u hu
 simp at hu
 rcases hu with rfl|rfl|rfl|rfl|rfl|rfl|rfl|rfl|rfl|rfl<;>first|rfl|assumption
theorem qhx (n:Int) (w:World):Calls Tryz.prog 77 #[.int .i64 n] w fun e' w'=>e'=.returned (.bool (wordV n))∧Below w.heap.size w w':=by
 have hB:=Below.refl w.heap.size w
 unfold wordV
 by_cases h1:0≤n
 ·have d1:decide (0≤n)=true:=decide_eq_true h1
  go_enter Tryz.func77,Tryz.ntmps77
  go_wp2
  go_ret
  exact ⟨by simp [h1],hB⟩
 ·have d1:decide (0≤n)=false:=decide_eq_false h1
  go_enter Tryz.func77,Tryz.ntmps77
  go_wp2
  go_ret
  exact ⟨by simp,hB⟩
theorem qbj (K:Dk) (A1:Option Addr) (n1 c1:Nat) (A2:Option Addr) (n2 c2:Nat) (w:World):Calls Tryz.prog 110 #[.agg #[(.slice A1 n1 c1),(.slice A2 n2 c2),.bool (K).n,.bool (K).r,.bool (K).e,.int .i64 (K).c,.int .i64 (K).w,.int .i64 (K).a,.int .i64 (K).s,.int .i64 (K).l]] w fun e' w'=>e'=.returned (.agg #[(.slice A1 n1 c1),(.slice A2 n2 c2),.bool (K.fail).n,.bool (K.fail).r,.bool (K.fail).e,.int .i64 (K.fail).c,.int .i64 (K.fail).w,.int .i64 (K.fail).a,.int .i64 (K.fail).s,.int .i64 (K.fail).l])∧Below w.heap.size w w':=by
 obtain ⟨D,n,r,e,c,w1,a,s,l⟩:=K
 unfold Dk.fail
 go_enter Tryz.func110,Tryz.ntmps110
 go_wp2
 exact bodyPost_ret (qaj Tryz.results110 rfl (((qbi w _ _).all _ _ _ List.mem_cons_self).loadVar rfl aggK sizK)) rfl ⟨rfl,(qbi w _ _).below⟩
open Go Go.RowKit
section
variable {P:Program} {ops:Array Oper} {md:Region.Mode} {K:Option Nat→World→Prop}
end
section
variable {P:Program} {ops:Array Oper} {md:Region.Mode} {K:Option Nat→World→Prop}
def semiUpon (P:Program) (R:Value→World→Prop) (w:World):Result Next→Prop
 | .ok (.enter f args) w'=>w'=w∧Calls P f args w (fun e w''=>∃ v,e=.returned v∧R v w'')
 | _=>False
def Oper.semiAt (P:Program) (o:Oper) (a:Act) (R:Value→World→Prop) (w:World):Prop:=semiUpon P R w ((execOp a.eval o).run P w)
theorem qnc {oc:Oper} {a:Act} {w:World} {R:Value→World→Prop} {KK:Act→World→Prop} {Q':Exit→Act→World→Prop} {c:Nat} (hc:ops[c]? = some oc) (hgd:oc.guard=none) (h:Oper.semiAt P oc a R w) (hK:∀ v w',R v w'→KK (a.put oc.dst v) w'):wpOp P ops Q' c KK a w:=by
 have hwant:Region.wanted oc (yielded ops a.tmps)=true:=by unfold Region.wanted;rw [hgd]
 unfold wpOp
 simp only [hc,hwant,if_true]
 refine .inl ?_
 unfold Oper.wp
 unfold Oper.semiAt at h
 generalize (execOp a.eval oc).run P w=r at *
 cases r with
 | ok n w' =>
   cases n<;>simp only [semiUpon] at h
   case enter f args =>
    obtain ⟨rfl,h⟩:=h
    simp only [Oper.upon]
    exact h.mono fun e w'' ⟨v,he,hw''⟩=>by subst he;exact hK v w'' hw''
 | halt x w'=>simp only [semiUpon] at h
end
section
variable {P:Program} {ops:Array Oper} {md:Region.Mode}
end
end Go.Proofs.YthpnddgfgpacpaaGreat
