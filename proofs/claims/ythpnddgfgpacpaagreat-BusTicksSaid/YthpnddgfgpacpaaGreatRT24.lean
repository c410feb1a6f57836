import Derived.Test.YthpnddgfgpacpaaGreatRT23
namespace Go.Proofs.YthpnddgfgpacpaaGreat
open Go.RowKit
set_option linter.unusedSimpArgs false
set_option linter.unusedVariables false
set_option maxHeartbeats 4000000
set_option maxRecDepth 100000
def Ma.line (A:Ma) (k:Nat):Ln:=A.L.getD k Ln.new
def Ma.setL (A:Ma) (k:Nat) (x:Ln):Ma:={A with L:=A.L.set k x}
def Ma.tickK (A:Ma):Ma:={A with K:=(A.K.tick A.M A.B).1,M:=(A.K.tick A.M A.B).2.1,B:=(A.K.tick A.M A.B).2.2}
def Ma.tickT (A:Ma):Ma:={A with T:=(A.T.tick A.M A.B).1,M:=(A.T.tick A.M A.B).2.1,B:=(A.T.tick A.M A.B).2.2}
def Ma.dRight (A:Ma):Nat→Bool
 | 0=>A.U.right
 | 1=>A.k.right
 | 2=>A.K.right
 | 3=>A.T.right
 | k+4=>(A.line k).right
def Ma.dTick (A:Ma):Nat→Ma
 | 0=>A
 | 1=>{A with k:=A.k.tick}
 | 2=>A.tickK
 | 3=>A.tickT
 | k+4=>A.setL k (A.line k).tick
def dBase:Nat→Int
 | 0=>0
 | 1=>256
 | 2=>768
 | 3=>800
 | k+4=>512+8*(k:Int)
def Ma.dRead (A:Ma) (r:Int):Nat→Ma×Int×Bool
 | 0=>(A,(A.U.read r).1,(A.U.read r).2)
 | 1=>if r=0 then (A,A.k.read,true) else (A,0,false)
 | 2=>(A,(A.K.rd r).1,(A.K.rd r).2)
 | 3=>(A,(A.T.rd r).1,(A.T.rd r).2)
 | k+4=>if 0≤r∧r<8 then (A.setL k ((A.line k).rd r).1,((A.line k).rd r).2,true) else (A,0,false)
def Ma.dWrite (A:Ma) (r v:Int):Nat→Ma×Bool
 | 0=>if (A.U.write r v).2=true then ({A with U:=(A.U.write r v).1},true) else (A,false)
 | 1=>if r=0 then ({A with k:=A.k.write v},true) else (A,false)
 | 2=>if (A.K.wr r v).2=true then ({A with K:=(A.K.wr r v).1},true) else (A,false)
 | 3=>if (A.T.wr r v).2=true then ({A with T:=(A.T.wr r v).1},true) else (A,false)
 | k+4=>if 0≤r∧r<8 then (A.setL k ((A.line k).wr r v),true) else (A,false)
section
variable {A:Ma}
theorem qtm (A:Ma) (k:Nat):(A.dTick k).L.length=A.L.length:=by
 unfold Ma.dTick Ma.setL;split<;>first|rfl|simp
theorem qd9 (h:A.right=true) {k:Nat} (hk:k<A.L.length):(A.line k).right=true:=by
 unfold Ma.line
 rw [List.getD_eq_getElem?_getD,List.getElem?_eq_getElem hk]
 exact (Ma.parts h).2.1 _ (List.getElem_mem hk)
theorem qpr (h:A.right=true) (k:Nat) {x:Ln} (hx:x.right=true):(A.setL k x).right=true:=by
 obtain ⟨h1,h2,h3,h4,h5,h6,h7⟩:=Ma.parts h
 refine Ma.mk_right (by unfold Ma.setL;dsimp only;rw [List.length_set];exact h1) (fun y hy=>?_) h3 h4 h5 h6 h7
 rcases List.mem_or_eq_of_mem_set (show y∈A.L.set k x from hy) with hy|rfl
 ·exact h2 y hy
 ·exact hx
theorem qnj (h:A.right=true) {k:Nat} (hk:k<A.L.length+4):(A.dTick k).right=true:=by
 obtain ⟨h1,h2,h3,h4,h5,h6,h7⟩:=Ma.parts h
 unfold Ma.dTick
 split
 ·exact h
 ·exact Ma.mk_right h1 h2 h3 h4 (qmd h5) h6 h7
 ·have k1:=qhh h6 h3
  exact Ma.mk_right h1 h2 k1.mem h4 h5 k1.right h7
 ·have k2:=qiu h7 h3
  exact Ma.mk_right h1 h2 k2.mem h4 h5 h6 k2.right
 ·exact qpr h _ (qlj (qd9 h (by omega))).1
theorem dTick_ok (h:A.ok) (k:Nat):(A.dTick k).ok:=by unfold Ma.dTick;split<;>exact h
end
theorem qiy (f:Ln→Ln) (A:Ma):∀ j,j≤A.L.length→(List.range j).foldl (fun (B:Ma) k=>B.setL k (f (B.line k))) A={A with L:=(A.L.take j).map f++A.L.drop j}
 | 0,_=>by simp
 | j+1,h=>by
   rw [List.range_succ,List.foldl_append,qiy f A j (by omega)]
   simp only [List.foldl_cons,List.foldl_nil,Ma.setL,Ma.line]
   have hl:((A.L.take j).map f).length=j:=by rw [List.length_map,List.length_take];omega
   have hx:A.L[j]? = some A.L[j]:=List.getElem?_eq_getElem (by omega)
   congr 1
   have hd:A.L.drop j=A.L[j] :: A.L.drop (j+1):=by rw [List.drop_eq_getElem_cons (by omega)]
   rw [List.getD_eq_getElem?_getD,List.getElem?_append_right (by omega),hl,Nat.sub_self,hd]
   rw [List.set_append_right _ _ (by omega),hl,Nat.sub_self]
   rw [List.take_add_one,hx]
   simp only [List.getElem?_cons_zero,Option.getD_some,List.set_cons_zero,Option.toList_some,List.map_append,List.map_cons,List.map_nil,List.append_assoc,List.cons_append,List.nil_append]
theorem range4 (n:Nat):List.range (n+4)=[0,1,2,3]++(List.range n).map (·+4):=by
 rw [show n+4=4+n from by omega,List.range_add]
 congr 1
 exact List.map_congr_left fun x _=>Nat.add_comm 4 x
theorem qud (A:Ma):(List.range (A.L.length+4)).foldl Ma.dTick A=A.tick:=by
 rw [range4,List.foldl_append,List.foldl_map]
 have e:(fun (x:Ma) (y:Nat)=>x.dTick (y+4))=fun B k=>B.setL k (Ln.tick (B.line k)):=by funext B k;rfl
 rw [e]
 obtain ⟨B,hB⟩:∃ B,[0,1,2,3].foldl Ma.dTick A=B:=⟨_,rfl⟩
 have hBL:B.L=A.L:=by rw [← hB];rfl
 rw [hB,← hBL,qiy Ln.tick B B.L.length (Nat.le_refl _)]
 rw [List.take_length,List.drop_length,List.append_nil]
 rw [← hB];rfl
theorem qtf (A:Ma) (hl:A.L.length≤4) (hm:rightP A.M A.B=true):A.right=true↔∀ k,k<A.L.length+4→A.dRight k=true:=by
 constructor
 ·intro h k hk
  obtain ⟨h1,h2,h3,h4,h5,h6,h7⟩:=Ma.parts h
  unfold Ma.dRight
  split
  ·exact h4
  ·exact h5
  ·exact h6
  ·exact h7
  ·exact qd9 h (by omega)
 ·intro h
  refine Ma.mk_right hl (fun x hx=>?_) hm (h 0 (by omega)) (h 1 (by omega)) (h 2 (by omega)) (h 3 (by omega))
  obtain ⟨j,hj⟩:=List.mem_iff_getElem?.1 hx
  have hlt:=(List.getElem?_eq_some_iff.1 hj).1
  have h0:=h (j+4) (by omega)
  unfold Ma.dRight Ma.line at h0
  simp only [List.getD_eq_getElem?_getD,hj] at h0
  exact h0
theorem unread {u:Un} {r:Int} (h:80≤r∨r<0):(u.read r).2=false:=by
 unfold Un.read
 rw [if_neg (by omega),if_neg (by omega)]
 have:¬ isReg r=true:=fun q=>by have:=qct q;omega
 rw [if_neg this]
theorem unwrit {u:Un} {r v:Int} (h:80≤r∨r<0):(u.write r v).2=false:=by
 unfold Un.write
 rw [if_neg (by omega),if_neg (by omega)]
 have:¬ isReg r=true:=fun q=>by have:=qct q;omega
 rw [if_neg this]
theorem dk_rd_in {K:Dk} {r:Int} (h:(K.rd r).2=true):0≤r∧r≤6:=by
 unfold Dk.rd at h
 repeat' split at h
 all_goals first|omega|(cases h)
theorem tp_rd_in {K:Tp} {r:Int} (h:(K.rd r).2=true):0≤r∧r≤4:=by
 unfold Tp.rd at h
 repeat' split at h
 all_goals first|omega|(cases h)
theorem dk_wr_in {K:Dk} {r v:Int} (h:(K.wr r v).2=true):0≤r∧r≤6:=by
 unfold Dk.wr at h
 repeat' split at h
 all_goals first|omega|(cases h)
theorem tp_wr_in {K:Tp} {r v:Int} (h:(K.wr r v).2=true):0≤r∧r≤4:=by
 unfold Tp.wr at h
 repeat' split at h
 all_goals first|omega|(cases h)
theorem isL_at {A:Ma} {off:Int} {k:Nat} (hk:k<A.L.length) (h:0≤off - (512+8*(k:Int))∧off - (512+8*(k:Int))<8):A.isL off=true∧((off - 512) / 8).toNat=k∧(off - 512)%8=off - (512+8*(k:Int)):=by
 unfold Ma.isL
 refine ⟨?_,by omega,by omega⟩
 rw [decide_eq_true (show 512≤off by omega),decide_eq_true (show off<512+8*(A.L.length:Int) by omega)];rfl
theorem qgq {A:Ma} {off:Int} (h:off<512∨512+8*(A.L.length:Int)≤off):A.isL off=false:=by
 unfold Ma.isL
 rcases h with h|h
 ·rw [decide_eq_false (show ¬ 512≤off by omega)];rfl
 ·rw [decide_eq_false (show ¬ off<512+8*(A.L.length:Int) by omega),Bool.and_false]
theorem qub {A:Ma} {off:Int} (h:A.isL off=true):∃ k:Nat,k<A.L.length∧0≤off - (512+8*(k:Int))∧off - (512+8*(k:Int))<8:=by
 unfold Ma.isL at h
 simp only [Bool.and_eq_true,decide_eq_true_eq] at h
 exact ⟨((off - 512) / 8).toNat,by omega,by omega,by omega⟩
theorem qse (A:Ma) (off:Int):A.dRead (off - dBase 0) 0=(A,(A.U.read off).1,(A.U.read off).2):=by rw [show off - dBase 0=off from Int.sub_zero off];rfl
theorem qtq (A:Ma) (off:Int):A.dRead (off - dBase 1) 1=(if off - 256=0 then (A,A.k.read,true) else (A,0,false)):=rfl
theorem dRead_2 (A:Ma) (off:Int):A.dRead (off - dBase 2) 2=(A,(A.K.rd (off - 768)).1,(A.K.rd (off - 768)).2):=rfl
theorem dRead_3 (A:Ma) (off:Int):A.dRead (off - dBase 3) 3=(A,(A.T.rd (off - 800)).1,(A.T.rd (off - 800)).2):=rfl
theorem qrj (A:Ma) (off:Int) (k:Nat):A.dRead (off - dBase (k+4)) (k+4)=(if 0≤off - (512+8*(k:Int))∧off - (512+8*(k:Int))<8 then (A.setL k ((A.line k).rd (off - (512+8*(k:Int)))).1,((A.line k).rd (off - (512+8*(k:Int)))).2,true) else (A,0,false)):=rfl
theorem qo0 (A:Ma) (off v:Int):A.dWrite (off - dBase 0) v 0=(if (A.U.write off v).2=true then ({A with U:=(A.U.write off v).1},true) else (A,false)):=by rw [show off - dBase 0=off from Int.sub_zero off];rfl
theorem qn9 (A:Ma) (off v:Int):A.dWrite (off - dBase 1) v 1=(if off - 256=0 then ({A with k:=A.k.write v},true) else (A,false)):=rfl
theorem qoh (A:Ma) (off v:Int):A.dWrite (off - dBase 2) v 2=(if (A.K.wr (off - 768) v).2=true then ({A with K:=(A.K.wr (off - 768) v).1},true) else (A,false)):=rfl
theorem qog (A:Ma) (off v:Int):A.dWrite (off - dBase 3) v 3=(if (A.T.wr (off - 800) v).2=true then ({A with T:=(A.T.wr (off - 800) v).1},true) else (A,false)):=rfl
theorem qov (A:Ma) (off v:Int) (k:Nat):A.dWrite (off - dBase (k+4)) v (k+4)=(if 0≤off - (512+8*(k:Int))∧off - (512+8*(k:Int))<8 then (A.setL k ((A.line k).wr (off - (512+8*(k:Int))) v),true) else (A,false)):=rfl
theorem rd_hit (A:Ma) (hl:A.L.length≤4) {off:Int} {k:Nat} (hk:k<A.L.length+4) (h:(A.dRead (off - dBase k) k).2.2=true):A.rdR off=A.dRead (off - dBase k) k:=by
 match k,hk,h with
 | 0,_,h =>
   rw [qse] at h ⊢
   have hr:0≤off∧off<80:=by
    rcases Int.lt_or_le off 0 with q|q
    ·rw [unread (.inr q)] at h;cases h
    ·rcases Int.lt_or_le off 80 with q2|q2
     ·exact ⟨q,q2⟩
     ·rw [unread (.inl q2)] at h;cases h
   unfold Ma.rdR
   rw [if_neg (by rw [qgq (.inl (by omega))];decide),if_neg (by omega),if_neg (by omega),if_neg (by omega)]
 | 1,_,h =>
   rw [qtq] at h ⊢
   by_cases q:off - 256=0
   ·unfold Ma.rdR
    rw [if_neg (by rw [qgq (.inl (by omega))];decide),if_pos (by omega),if_pos q]
   ·rw [if_neg q] at h;cases h
 | 2,_,h =>
   rw [dRead_2] at h ⊢
   have:=dk_rd_in h
   unfold Ma.rdR
   rw [if_neg (by rw [qgq (.inr (by omega))];decide),if_neg (by omega),if_pos (by omega)]
 | 3,_,h =>
   rw [dRead_3] at h ⊢
   have:=tp_rd_in h
   unfold Ma.rdR
   rw [if_neg (by rw [qgq (.inr (by omega))];decide),if_neg (by omega),if_neg (by omega),if_pos (by omega)]
 | k+4,hk,h =>
   rw [qrj] at h ⊢
   by_cases q:0≤off - (512+8*(k:Int))∧off - (512+8*(k:Int))<8
   ·obtain ⟨e1,e2,e3⟩:=isL_at (A:=A) (off:=off) (k:=k) (by omega) q
    unfold Ma.rdR
    rw [if_pos e1,if_pos q,e3]
    unfold Ma.put lnAt
    rw [e2];rfl
   ·rw [if_neg q] at h;cases h
theorem qum (A:Ma) (hl:A.L.length≤4) {off:Int} (h:∀ k,k<A.L.length+4→(A.dRead (off - dBase k) k).2.2=false):(A.rdR off).2.2=false:=by
 unfold Ma.rdR
 split
 ·rename_i q
  obtain ⟨k,hk,hr⟩:=qub q
  have h0:=h (k+4) (by omega)
  rw [qrj] at h0
  rw [if_pos hr] at h0
  cases h0
 split
 ·rename_i q
  have h0:=h 1 (by omega)
  rw [qtq] at h0
  rw [if_pos (by omega)] at h0
  cases h0
 split
 ·exact h 2 (by omega)
 split
 ·exact h 3 (by omega)
 ·have h0:=h 0 (by omega)
  rw [qse] at h0
  exact h0
theorem wr_hit (A:Ma) (hl:A.L.length≤4) {off v:Int} {k:Nat} (hk:k<A.L.length+4) (h:(A.dWrite (off - dBase k) v k).2=true):A.wrR off v=A.dWrite (off - dBase k) v k:=by
 match k,hk,h with
 | 0,_,h =>
   rw [qo0] at h ⊢
   by_cases q:(A.U.write off v).2=true
   ·have hr:0≤off∧off<80:=by
     rcases Int.lt_or_le off 0 with q'|q'
     ·rw [unwrit (.inr q')] at q;cases q
     ·rcases Int.lt_or_le off 80 with q2|q2
      ·exact ⟨q',q2⟩
      ·rw [unwrit (.inl q2)] at q;cases q
    unfold Ma.wrR
    rw [if_neg (by rw [qgq (.inl (by omega))];decide),if_neg (by omega),if_neg (by omega),if_neg (by omega),if_pos q,q]
   ·rw [if_neg q] at h;cases h
 | 1,_,h =>
   rw [qn9] at h ⊢
   by_cases q:off - 256=0
   ·unfold Ma.wrR
    rw [if_neg (by rw [qgq (.inl (by omega))];decide),if_pos (by omega),if_pos q]
   ·rw [if_neg q] at h;cases h
 | 2,_,h =>
   rw [qoh] at h ⊢
   by_cases q:(A.K.wr (off - 768) v).2=true
   ·have:=dk_wr_in q
    unfold Ma.wrR
    rw [if_neg (by rw [qgq (.inr (by omega))];decide),if_neg (by omega),if_pos (by omega),if_pos q,q]
   ·rw [if_neg q] at h;cases h
 | 3,_,h =>
   rw [qog] at h ⊢
   by_cases q:(A.T.wr (off - 800) v).2=true
   ·have:=tp_wr_in q
    unfold Ma.wrR
    rw [if_neg (by rw [qgq (.inr (by omega))];decide),if_neg (by omega),if_neg (by omega),if_pos (by omega),if_pos q,q]
   ·rw [if_neg q] at h;cases h
 | k+4,hk,h =>
   rw [qov] at h ⊢
   by_cases q:0≤off - (512+8*(k:Int))∧off - (512+8*(k:Int))<8
   ·obtain ⟨e1,e2,e3⟩:=isL_at (A:=A) (off:=off) (k:=k) (by omega) q
    unfold Ma.wrR
    rw [if_pos e1,if_pos q,e3]
    unfold Ma.put lnAt
    rw [e2];rfl
   ·rw [if_neg q] at h;cases h
theorem qsn (A:Ma) (hl:A.L.length≤4) {off v:Int} (h:∀ k,k<A.L.length+4→(A.dWrite (off - dBase k) v k).2=false):(A.wrR off v).2=false:=by
 unfold Ma.wrR
 split
 ·rename_i q
  obtain ⟨k,hk,hr⟩:=qub q
  have h0:=h (k+4) (by omega)
  rw [qov] at h0
  rw [if_pos hr] at h0
  cases h0
 split
 ·rename_i q
  have h0:=h 1 (by omega)
  rw [qn9] at h0
  rw [if_pos (by omega)] at h0
  cases h0
 split
 ·have h0:=h 2 (by omega)
  rw [qoh] at h0
  by_cases q:(A.K.wr (off - 768) v).2=true
  ·rw [if_pos q] at h0;cases h0
  ·simpa using q
 split
 ·have h0:=h 3 (by omega)
  rw [qog] at h0
  by_cases q:(A.T.wr (off - 800) v).2=true
  ·rw [if_pos q] at h0;cases h0
  ·simpa using q
 ·have h0:=h 0 (by omega)
  rw [qo0] at h0
  by_cases q:(A.U.write off v).2=true
  ·rw [if_pos q] at h0;cases h0
  ·simpa using q
theorem qj9 (v:Int):v%65536 / 64%2=v / 64%2:=by omega
theorem mod_d128 (v:Int):v%65536 / 128%2=v / 128%2:=by omega
theorem wrR_mod (A:Ma) (off v:Int):A.wrR off (v%65536)=A.wrR off v:=by
 have e1:∀ c:Ck,c.write (v%65536)=c.write v:=fun c=>by unfold Ck.write;rw [qj9,mod_d128]
 have e2:∀ (x:Ln) r,x.wr r (v%65536)=x.wr r v:=fun x r=>by unfold Ln.wr;rw [qj9,show v%65536%256=v%256 by omega]
 have e3:∀ (u:Un) r,u.write r (v%65536)=u.write r v:=fun u r=>by unfold Un.write;rw [show v%65536%65536=v%65536 by omega]
 have e4:∀ (K:Dk) r,K.wr r (v%65536)=K.wr r v:=fun K r=>by
  unfold Dk.wr Dk.cmd
  rw [qj9,show v%65536%2=v%2 by omega,show v%65536 / 2%4=v / 2%4 by omega,show v%65536%65536=v%65536 by omega,show v%65536 / 2%32768=v / 2%32768 by omega]
 have e5:∀ (K:Tp) r,K.wr r (v%65536)=K.wr r v:=fun K r=>by
  unfold Tp.wr
  rw [qj9,show v%65536%2=v%2 by omega,show v%65536 / 2%8=v / 2%8 by omega,show v%65536%65536=v%65536 by omega]
 unfold Ma.wrR
 simp only [e1,e2,e3,e4,e5]
attribute [local irreducible] wpQuiet
def NoCells (w:World) (b:Nat):Prop:=∃ o:Obj,w.heap[b]? = some o∧o.isCells=false
theorem Sv.cells {X:Nat→Prop} {w:World} {v:Value} {n:Nat} {cs:List Value} (h:Sv X w v n cs):Sv (fun b=>X b∨NoCells w b) w v n cs:=fun w2 h2=>by
 classical
 -- the world w2 with w's own blocks that are no cells put back
 let F:Nat→Obj:=fun b=>if NoCells w b then (w.heap[b]?).getD (.cells #[] 0) else (w2.heap[b]?).getD (.cells #[] 0)
 let w3:World:={w2 with heap:=Array.ofFn (n:=max w.heap.size w2.heap.size) fun i=>F i.val}
 have hH:∀ b,b<max w.heap.size w2.heap.size→w3.heap[b]? = some (F b):=fun b hb=>by
  show (Array.ofFn (n:=max w.heap.size w2.heap.size) fun i=>F i.val)[b]? = _
  rw [Array.getElem?_ofFn,dif_pos hb]
 have hH2:∀ b,max w.heap.size w2.heap.size≤b→w3.heap[b]? = none:=fun b hb=>by
  show (Array.ofFn (n:=max w.heap.size w2.heap.size) fun i=>F i.val)[b]? = _
  rw [Array.getElem?_ofFn,dif_neg (by omega)]
 have hk:∀ b,b<w.heap.size→¬ X b→w3.heap[b]? = w.heap[b]?:=fun b hb hx=>by
  rw [hH b (by omega)]
  by_cases hn:NoCells w b
  ·simp only [F,if_pos hn]
   rw [Array.getElem?_eq_getElem hb];rfl
  ·simp only [F,if_neg hn]
   rw [h2 b hb (fun h=>h.elim hx hn),Array.getElem?_eq_getElem hb];rfl
 obtain ⟨⟨A,c,hv,hn,hc⟩,hz⟩:=h w3 hk
 refine ⟨⟨A,c,hv,hn,fun j u hu=>?_⟩,hz⟩
 obtain ⟨a,ha,h1,h3⟩:=hc j u hu
 obtain ⟨o,ho,hcell⟩:=cells_of_cell h1
 have hlt:(a.add j).block<max w.heap.size w2.heap.size:=by
  rcases Nat.lt_or_ge (a.add j).block (max w.heap.size w2.heap.size) with q|q
  ·exact q
  ·rw [hH2 _ q] at ho;cases ho
 have hF:=hH _ hlt
 have hnc:¬ NoCells w (a.add j).block:=fun hnc=>by
  obtain ⟨o',ho',hc'⟩:=hnc
  rw [hF] at ho
  have e:F (a.add j).block=o':=by simp only [F,if_pos (show NoCells w (a.add j).block from ⟨o',ho',hc'⟩)];rw [ho'];rfl
  rw [e] at ho;cases ho;rw [hc'] at hcell;cases hcell
 have e2:F (a.add j).block=(w2.heap[(a.add j).block]?).getD (.cells #[] 0):=by simp only [F,if_neg hnc]
 rcases Nat.lt_or_ge (a.add j).block w2.heap.size with q|q
 ·have e3:w3.heap[(a.add j).block]? = w2.heap[(a.add j).block]?:=by
   rw [hF,e2,Array.getElem?_eq_getElem q];rfl
  exact ⟨a,ha,(World.cell?_of_block (w:=w2) e3).symm.trans h1,q⟩
 ·rw [Array.getElem?_eq_none q] at e2
  unfold World.cell? at h1
  rw [hF,e2] at h1
  simp at h1
theorem Sv.grown {X:Nat→Prop} {w w':World} {v:Value} {n:Nat} {cs:List Value} {row:Option Nat} (h:Sv X w v n cs) (hg:w.grownBy w' row) (hr:∀ r,row=some r→NoCells w r):Sv X w' v n cs :=
 h.cells.off (fun b hb hx=>hg.block b hb (fun e=>hx (.inr (hr b e.symm)))) (fun b _ hx=>.inl hx)
theorem Bag.grown {l:List (Nat×TypeId×List Value)} {w0 w w':World} {row:Option Nat} (h:Bag l w0 w) (hg:w.grownBy w' row) (hr:∀ r,row=some r→w0.heap.size≤r∧NoCells w r):Bag l w0 w':=by
 refine ⟨fun B t cs hm=>?_,h.below.grown hg h.below.size (fun k e=>(hr k e).1),h.lo,h.dis⟩
 have hb:=h.all B t cs hm
 refine (hg.block B hb.lt (fun e=>?_)).trans hb
 obtain ⟨o,ho,hc⟩:=(hr B e.symm).2
 rw [show w.heap[B]? = _ from hb] at ho
 cases ho;cases hc
theorem qsg {w w':World} {B:Nat} {t:TypeId} {cs:List Value} {row:Option Nat} (hb:Blk t w B cs) (hg:w.grownBy w' row) (hr:∀ r,row=some r→NoCells w r):Blk t w' B cs:=by
 refine (hg.block B hb.lt (fun e=>?_)).trans hb
 obtain ⟨o,ho,hc⟩:=hr B e.symm
 rw [show w.heap[B]? = _ from hb] at ho
 cases ho;cases hc
def XY (X:Nat→Prop) (B g:Nat) (b:Nat):Prop:=X b∨b=B∨b=g
def LRow (w0 w:World) (B g:Nat) (v:Value) (L:List Ln):Prop:=(L=[]∧v=.slice none 0 0)∨(g≠B∧w0.heap.size≤g∧g<w.heap.size∧∃ c J,v=.slice (some ⟨g,0,none⟩) L.length c∧L.length≤c∧Blk 68 w g (L.flatMap lnL++J))
structure DSt (X:Nat→Prop) (w0:World) (B g:Nat) (w:World) (A:Ma) (vm vb vl vs vd vt:Value):Prop where
 bag:Bag [(B,44,A.cells vm vb vl vs vd vt)] w0 w
 m:ItsX (XY X B g) w vm A.M
 b:ItsX (XY X B g) w vb A.B
 s:StsX (XY X B g) w vs A.K.D.S
 d:ItsX (XY X B g) w vd A.K.D.B
 t:StsX (XY X B g) w vt A.T.R
 row:LRow w0 w B g vl A.L
 xl:∀ b,XY X B g b→b<w.heap.size
structure Kpt (B g:Nat) (w w':World):Prop where
 size:w.heap.size≤w'.heap.size
 same:∀ k,k<w.heap.size→k≠B→k≠g→w'.heap[k]? = w.heap[k]?
theorem Kpt.refl (B g:Nat) (w:World):Kpt B g w w:=⟨Nat.le_refl _,fun _ _ _ _=>rfl⟩
theorem Kpt.trans {B g:Nat} {a b c:World} (h:Kpt B g a b) (k:Kpt B g b c):Kpt B g a c:=⟨Nat.le_trans h.size k.size,fun i hi h1 h2=>(k.same i (Nat.lt_of_lt_of_le hi h.size) h1 h2).trans (h.same i hi h1 h2)⟩
theorem Kpt.step {B g:Nat} {a b c:World} (h:Kpt B g a b) (k:Below b.heap.size b c):Kpt B g a c:=h.trans ⟨k.size,fun i hi _ _=>k.block i hi⟩
theorem qa7 {w w':World} {B:Nat} {t:TypeId} {cs:List Value} (hk:∀ k,k≠B→w'.heap[k]? = w.heap[k]?) (hb:Blk t w' B cs):w.heap.size≤w'.heap.size:=by
 rcases Nat.lt_or_ge w'.heap.size w.heap.size with q|q
 ·exfalso
  have hB:=hb.lt
  have h1:=hk w'.heap.size (by omega)
  rw [Array.getElem?_eq_none (Nat.le_refl _),Array.getElem?_eq_getElem q] at h1
  cases h1
 ·exact q
theorem Kpt.put {B g:Nat} {a b c:World} {t:TypeId} {cs:List Value} (h:Kpt B g a b) (hk:∀ k,k≠B→c.heap[k]? = b.heap[k]?) (hb:Blk t c B cs):Kpt B g a c:=h.trans ⟨qa7 hk hb,fun i _ h1 _=>hk i h1⟩
theorem Kpt.putg {B g:Nat} {a b c:World} {t:TypeId} {cs:List Value} (h:Kpt B g a b) (hk:∀ k,k≠g→c.heap[k]? = b.heap[k]?) (hb:Blk t c g cs):Kpt B g a c:=h.trans ⟨qa7 hk hb,fun i _ _ h2=>hk i h2⟩
theorem Sv.kb {X:Nat→Prop} {B g:Nat} {w w':World} {v:Value} {n:Nat} {cs:List Value} (h:Sv (XY X B g) w v n cs) (k:Kpt B g w w'):Sv (XY X B g) w' v n cs:=h.off (fun b hb hx=>k.same b hb (fun e=>hx (.inr (.inl e))) (fun e=>hx (.inr (.inr e)))) (fun _ _ h=>h)
section
variable {X:Nat→Prop} {w0 w w':World} {B g:Nat} {A:Ma} {vm vb vl vs vd vt:Value}
theorem LRow.kb {w2:World} {v:Value} {L:List Ln} (h:LRow w0 w B g v L) (hs:w.heap.size≤w2.heap.size) (hb:∀ cs,Blk 68 w g cs→Blk 68 w2 g cs):LRow w0 w2 B g v L:=by
 rcases h with h|⟨h1,h2,h3,c,J,h4,h5,h6⟩
 ·exact .inl h
 ·exact .inr ⟨h1,h2,by omega,c,J,h4,h5,hb _ h6⟩
theorem DSt.step (h:DSt X w0 B g w A vm vb vl vs vd vt) (hb:Below w.heap.size w w'):DSt X w0 B g w' A vm vb vl vs vd vt :=
 ⟨h.bag.step hb,Sv.below h.m hb,Sv.below h.b hb,Sv.below h.s hb,Sv.below h.d hb,Sv.below h.t hb,h.row.kb hb.size fun cs q=>q.step hb,fun b q=>Nat.lt_of_lt_of_le (h.xl b q) hb.size⟩
theorem DSt.grown {row:Option Nat} (h:DSt X w0 B g w A vm vb vl vs vd vt) (hg:w.grownBy w' row) (hr:∀ r,row=some r→w0.heap.size≤r∧NoCells w r):DSt X w0 B g w' A vm vb vl vs vd vt :=
 ⟨h.bag.grown hg hr,Sv.grown h.m hg fun r e=>(hr r e).2,Sv.grown h.b hg fun r e=>(hr r e).2,Sv.grown h.s hg fun r e=>(hr r e).2,Sv.grown h.d hg fun r e=>(hr r e).2,Sv.grown h.t hg fun r e=>(hr r e).2,h.row.kb hg.size fun cs q=>qsg q hg fun r e=>(hr r e).2,fun b q=>Nat.lt_of_lt_of_le (h.xl b q) hg.size⟩
theorem lns_row {c:Nat} {L:List Ln} {J:List Value} (hb:Blk 68 w g (L.flatMap lnL++J)) (hc:L.length≤c) (hX:¬ X g):LnsX X w (.slice (some ⟨g,0,none⟩) L.length c) L:=fun w2 h2=>by
 have hb2:Blk 68 w2 g (L.flatMap lnL++J):=(h2 g hb.lt hX).trans hb
 refine ⟨⟨_,c,rfl,hc,fun j u hu=>⟨_,rfl,?_⟩⟩,fun m c' e=>by cases e⟩
 rw [qrc]
 have hj:=(List.getElem?_eq_some_iff.1 hu).1
 exact ⟨hb2.cell (by rw [List.getElem?_append_left hj];exact hu),hb2.lt⟩
theorem LRow.lns {v:Value} {L:List Ln} (h:LRow w0 w B g v L) (hX:g≠B→¬ X g):LnsX X w v L:=by
 rcases h with ⟨rfl,rfl⟩|⟨h1,h2,h3,c,J,rfl,h5,h6⟩
 ·exact Sv.nil X w
 ·exact lns_row h6 h5 (hX h1)
theorem DSt.mav (h:DSt X w0 B g w A vm vb vl vs vd vt) (hX:g≠B→¬ X g):MaV X w A vm vb vl vs vd vt :=
 ⟨Sv.less18 h.m fun _ q=>.inl q,Sv.less18 h.b fun _ q=>.inl q,h.row.lns hX,Sv.less18 h.s fun _ q=>.inl q,Sv.less18 h.d fun _ q=>.inl q,Sv.less18 h.t fun _ q=>.inl q⟩
theorem DSt.o1 (h:DSt X w0 B g w A vm vb vl vs vd vt):vm.oneCell'=true:=qbq h.m.now
theorem DSt.o2 (h:DSt X w0 B g w A vm vb vl vs vd vt):vb.oneCell'=true:=qbq h.b.now
theorem DSt.o4 (h:DSt X w0 B g w A vm vb vl vs vd vt):vs.oneCell'=true:=qbq h.s.now
theorem DSt.o5 (h:DSt X w0 B g w A vm vb vl vs vd vt):vd.oneCell'=true:=qbq h.d.now
theorem DSt.o6 (h:DSt X w0 B g w A vm vb vl vs vd vt):vt.oneCell'=true:=qbq h.t.now
end
def DevS (X:Nat→Prop) (w0:World) (B g:Nat) (w:World) (A':Ma) (V:Value):Ending→World→Prop:=fun e w'=>e=.returned V∧(∃ vm vb vl vs vd vt,DSt X w0 B g w' A' vm vb vl vs vd vt)∧Kpt B g w w'
section
variable {ops:Array Oper} {rest:List Oper} {o:Oper} {a:Act} {w w0 w1:World} {Q:Exit→Act→World→Prop} {l:List (Nat×TypeId×List Value)} {B k n:Nat} {t T:TypeId} {cs ds cs':List Value} {x y:Operand}
theorem stp1 (hX:Bag ((B,t,cs) :: l) w0 w) (hagg:∀ w,(isAgg T).run Tryz.prog w=.ok true w) (hsz:∀ w,(sizeOf T).run Tryz.prog w=.ok n w) (he:cs.take k++ds++cs.drop (k+n)=cs') (hn:ds.length=n) (hk:k+n≤cs.length) (h1:∀ v∈ds,v.oneCell'=true)
 (h:∀ w2,Bag ((B,t,cs') :: l) w0 w2→(∀ j,j≠B→w2.heap[j]? = w.heap[j]?)→wpList Tryz.prog ops Q rest a w2) (hop:o.op=Op.store T x y:=by rfl) (hal:w1=w:=by rfl) (hx:a.eval x=.pointer (some ⟨B,k,none⟩):=by rfl) (hy:a.eval y=.agg ds.toArray:=by rfl) (hdst:o.dst=none:=by rfl) (hw:Region.wanted o (yielded ops a.tmps)=true:=by rfl):wpList Tryz.prog ops Q (o :: rest) a w1:=by
 subst hal he
 have hb:=hX.all _ _ _ List.mem_cons_self
 have e:=run_storeCells_at Tryz.prog B k t ds 0 cs.toArray w1 hb (by simp;omega) h1
 have e2:(cs.toArray.toList.take (k+0)++ds++cs.toArray.toList.drop (k+0+ds.length)).toArray=(cs.take k++ds++cs.drop (k+n)).toArray:=by rw [Nat.add_zero,hn]
 rw [e2] at e
 exact qbc hw hdst T x y _ _ hop hx hy hagg (by rw [hn];exact hsz) e (h _ (hX.over _) (fun j hj=>setRow_other w1 B j _ hj))
theorem stk1 {z:Value} (hX:Bag ((B,t,cs) :: l) w0 w) (hsz:∀ w,(sizeOf T).run Tryz.prog w=.ok 1 w) (he:cs.set k z=cs') (hk:k<cs.length) (h1:z.oneCell'=true)
 (h:∀ w2,Bag ((B,t,cs') :: l) w0 w2→(∀ j,j≠B→w2.heap[j]? = w.heap[j]?)→wpList Tryz.prog ops Q rest a w2) (hop:o.op=Op.store T x y:=by rfl) (hal:w1=w:=by rfl) (hx:a.eval x=.pointer (some ⟨B,k,none⟩):=by rfl) (hy:a.eval y=z:=by rfl) (hdst:o.dst=none:=by rfl) (hw:Region.wanted o (yielded ops a.tmps)=true:=by rfl) (hz:z.cells=#[z]:=by rfl):wpList Tryz.prog ops Q (o :: rest) a w1 :=
 stc hX hsz (fun w2 a b=>h w2 (he▸a) b) hop hal hx hy hdst hw hk hz h1
end
end Go.Proofs.YthpnddgfgpacpaaGreat
