import Derived.Test.YthpnddgfgpacpaaGreatRT22
import Derived.Test.YthpnddgfgpacpaaGreatRT18
import Derived.Test.YthpnddgfgpacpaaGreatRT21
import Derived.Test.YthpnddgfgpacpaaGreatRows
import Derived.Test.YthpnddgfgpacpaaGreatRT00
import Derived.ProofKit
import Derived.LaidMore
import Derived.OpenShut
import Derived.Carry
import Derived.ChangeSame
import Derived.ChangeSlices
import Derived.Deep.Slices
import Derived.RangeFuncNested
import Derived.RangeFuncBound
import Derived.RangeFuncCalls
import Derived.RangeFuncLeaves
import Derived.Shelf.Abstract
import Derived.Shelf.RegionOpen
import Derived.WalkKit
import Derived.OwnWalkIn
import Derived.TacticsInMore
import Derived.LoopNIn
import Derived.LoopIn
namespace Go.Proofs.YthpnddgfgpacpaaGreat
open Go.RowKit
set_option linter.unusedSimpArgs false
set_option linter.unusedVariables false
set_option maxHeartbeats 4000000
set_option maxRecDepth 100000
theorem qel (x:Ln):x.right=true↔(0≤x.d∧x.d≤255)∧(0≤x.t∧x.t≤255)∧x.s.size≤4096∧0≤x.l∧x.l≤4∧(x.f=true↔x.l=0):=by
 unfold Ln.right
 simp only [Bool.and_eq_true,decide_eq_true_eq,beq_iff_eq]
 constructor
 ·rintro ⟨⟨⟨⟨⟨⟨⟨h1,h2⟩,h3⟩,h4⟩,h5⟩,h6⟩,h7⟩,h8⟩
  refine ⟨⟨h1,h2⟩,⟨h3,h4⟩,h5,h6,h7,?_⟩
  rw [h8];simp
 ·rintro ⟨⟨h1,h2⟩,⟨h3,h4⟩,h5,h6,h7,h8⟩
  refine ⟨⟨⟨⟨⟨⟨⟨h1,h2⟩,h3⟩,h4⟩,h5⟩,h6⟩,h7⟩,?_⟩
  rw [Bool.eq_iff_iff];simpa using h8
theorem ln_wr18 {x:Ln} (h:x.right=true) (g n:Int):(x.wr g n).right=true:=by
 unfold Ln.wr
 split
 ·rw [qel] at h ⊢;exact h
 split
 ·rw [qel] at h ⊢;exact h
 split
 ·split
  ·rw [qel] at h ⊢
   exact ⟨h.1,by simp only;omega,h.2.2.1,by simp only;omega,by simp only;omega,by simp⟩
  ·exact h
 ·exact h
theorem qqu (l:List UInt8):(lastO l).length≤4096:=by unfold lastO;rw [List.length_drop];omega
theorem qlj {x:Ln} (h:x.right=true):x.tick.right=true∧x.s.size≤x.tick.s.size:=by
 have h':=(qel x).1 h
 unfold Ln.tick
 split
 ·exact ⟨h,Nat.le_refl _⟩
 split
 ·refine ⟨?_,Nat.le_refl _⟩
  rw [qel] at h ⊢
  refine ⟨h.1,h.2.1,h.2.2.1,by simp only;omega,by simp only;omega,?_⟩
  have hf:¬ x.f=true:=fun hf=>by have:=h.2.2.2.2.2.1 hf;omega
  exact ⟨fun q=>absurd q hf,fun q=>by have q':x.l - 1=0:=q;omega⟩
 ·have hsz:∀ l:List UInt8,(⟨l.toArray⟩:ByteArray).size=l.length:=fun l=>by show l.toArray.size=_;simp
  have hl:x.s.data.toList.length=x.s.size:=rfl
  refine ⟨?_,?_⟩
  ·rw [qel]
   exact ⟨h'.1,h'.2.1,by show ByteArray.size ⟨(lastO (x.s.data.toList++[UInt8.ofNat x.t.toNat])).toArray⟩≤4096;rw [hsz (lastO _)];exact qqu _,by simp only;omega,by simp only;omega,by simp⟩
  ·show x.s.size≤ByteArray.size ⟨(lastO (x.s.data.toList++[UInt8.ofNat x.t.toNat])).toArray⟩
   rw [hsz (lastO _)]
   unfold lastO
   rw [List.length_drop,List.length_append,hl]
   have:=h'.2.2.1
   simp only [List.length_cons,List.length_nil]
   omega
theorem qmd {c:Ck} (h:c.right=true):c.tick.right=true:=by
 rw [Ck.right_iff] at h ⊢
 unfold Ck.tick
 split<;>simp only<;>omega
theorem dk_wr18 {K:Dk} (h:K.right=true) (g v:Int) (h2:(K.wr g v).2=true):(K.wr g v).1.right=true:=by
 unfold Dk.right at *
 rw [Bool.and_eq_true] at *
 obtain ⟨hok,hD⟩:=h
 obtain ⟨⟨hc0,hc3⟩,hw1,ha1,hs1,ha2,⟨hl0,hl8⟩,hrl,hcw⟩:=(Dk.ok_iff K).1 hok
 obtain ⟨D,n,r,e,c,w,a,s,l⟩:=K
 dsimp only at *
 unfold Dk.wr Dk.cmd at *
 dsimp only at *
 have mk:∀ (n r e:Bool) (c w a s l:Int),(0≤c∧c≤3)→(0≤w∧w≤65535)→(0≤a∧a≤65535)→(0≤s∧s≤65535)→a%2=0→(0≤l∧l≤8)→r=decide (l=0)→(l=0∨(c≠0∧w≠0))→(Dk.mk D n r e c w a s l).ok=true∧D.right=true:=fun n r e c w a s l h1 h2 h3 h4 h5 h6 h7 h8=>⟨(Dk.ok_iff _).2 ⟨h1,(qck _).2 h2,(qck _).2 h3,(qck _).2 h4,h5,h6,h7,h8⟩,hD⟩
 rw [qck] at hw1 ha1 hs1
 have hlr:r=true→l=0:=fun h=>by rw [h] at hrl;exact of_decide_eq_true hrl.symm
 split
 ·split
  ·rename_i hrv
   split
   ·rename_i hq
    exact mk _ _ _ _ _ _ _ _ (by omega) hw1 ha1 hs1 ha2 (by omega) (by decide) (.inr hq)
   ·exact mk _ _ _ _ _ _ _ _ (by omega) hw1 ha1 hs1 ha2 ⟨hl0,hl8⟩ hrl (.inl (hlr hrv.1))
  ·exact mk _ _ _ _ _ _ _ _ ⟨hc0,hc3⟩ hw1 ha1 hs1 ha2 ⟨hl0,hl8⟩ hrl hcw
 ·split
  ·split
   ·rename_i hr;exact mk _ _ _ _ _ _ _ _ ⟨hc0,hc3⟩ (by omega) ha1 hs1 ha2 ⟨hl0,hl8⟩ hrl (.inl (hlr hr))
   ·exact mk _ _ _ _ _ _ _ _ ⟨hc0,hc3⟩ hw1 ha1 hs1 ha2 ⟨hl0,hl8⟩ hrl hcw
  ·split
   ·split
    ·rename_i hr;exact mk _ _ _ _ _ _ _ _ ⟨hc0,hc3⟩ hw1 (by omega) hs1 (by omega) ⟨hl0,hl8⟩ hrl (.inl (hlr hr))
    ·exact mk _ _ _ _ _ _ _ _ ⟨hc0,hc3⟩ hw1 ha1 hs1 ha2 ⟨hl0,hl8⟩ hrl hcw
   ·split
    ·split
     ·rename_i hr;exact mk _ _ _ _ _ _ _ _ ⟨hc0,hc3⟩ hw1 ha1 (by omega) ha2 ⟨hl0,hl8⟩ hrl (.inl (hlr hr))
     ·exact mk _ _ _ _ _ _ _ _ ⟨hc0,hc3⟩ hw1 ha1 hs1 ha2 ⟨hl0,hl8⟩ hrl hcw
    ·rename_i h0 h2' h4 h6
     simp only [if_neg h0,if_neg h2',if_neg h4,if_neg h6] at h2
     cases h2
theorem qsr {l:List Pg} (h:l.all Pg.good=true) (k:Nat) {g:Pg} (hg:g.good=true):(l.set k g).all Pg.good=true:=by
 rw [List.all_eq_true] at h ⊢
 intro x hx
 rcases List.mem_or_eq_of_mem_set hx with e|e
 ·exact h x e
 ·rw [e];exact hg
theorem qfz {u:Un} (h:u.right=true) (k:Nat) {g:Pg} (hg:g.good=true):(u.withP k g).right=true:=by
 unfold Un.right at h ⊢
 rw [Bool.and_eq_true] at h ⊢
 exact ⟨qsr h.1 k hg,h.2⟩
theorem qpd {u v:Un} (hp:v.pg=u.pg) (h:u.right=true) (h0:0≤v.st) (h1:v.st≤3) (h2:0≤v.ad) (h3:v.ad<65536):v.right=true:=by
 unfold Un.right at h ⊢
 rw [Bool.and_eq_true] at h ⊢
 refine ⟨by rw [hp];exact h.1,?_⟩
 unfold Un.tail
 rw [decide_eq_true h0,decide_eq_true h1,decide_eq_true h2,decide_eq_true h3];rfl
theorem un_wr18 {u:Un} (hu:u.ok) (h:u.right=true) (n v:Int):(u.write n v).1.right=true:=by
 have ht:=Un.right_tail h
 unfold Un.write
 split
 ·exact qpd (u:=u) rfl h (by show 0≤v%65536 / 2%4;omega) (by show v%65536 / 2%4≤3;omega) ht.2.2.1 ht.2.2.2
 ·split
  ·exact h
  ·split
   ·next hn =>
    have hg:=Pg.good_all (Un.right_at h hu (qnh hn))
    split
    ·refine qfz h _ ?_
     unfold Pg.good
     simp only [Bool.and_eq_true,decide_eq_true_eq]
     omega
    ·refine qfz h _ ?_
     unfold Pg.good
     simp only [Bool.and_eq_true,decide_eq_true_eq]
     omega
   ·exact h
theorem ck_wr18 {c:Ck} (h:c.right=true) (v:Int):(c.write v).right=true:=by
 rw [Ck.right_iff] at h ⊢
 exact h
theorem quo {x:Int} (hx:0≤x∧x≤65535) (r:Nat) (v:Int):0≤setW x r v∧setW x r v≤65535:=by
 unfold setW
 split<;>omega
theorem qla {l:List Int} {i:Nat} {y x:Int} (hx:x∈l.set i y):x∈l∨x=y:=List.mem_or_eq_of_mem_set hx
theorem qm4 {M B:List Int} (h:rightP M B=true) (a v:Int) (b:Bool) (hw:writeT (2*(M.length:Int)) a b=0):rightP (writeM M a b v) (writeB (2*(M.length:Int)) B a b)=true:=by
 have hac:accP (2*(M.length:Int)) a b=true:=by
  unfold writeT at hw
  split at hw
  ·assumption
  ·omega
 obtain ⟨h1,h2,h3⟩:=(qdo M B).1 h
 have hg:∀ i:Nat,0≤M.getD i 0∧M.getD i 0≤65535:=fun i=>by
  rw [List.getD_eq_getElem?_getD]
  by_cases hi:i<M.length
  ·rw [List.getElem?_eq_getElem hi];exact h2 _ (List.getElem_mem hi)
  ·rw [List.getElem?_eq_none (by omega)];exact ⟨by decide,by decide⟩
 have hl:(writeM M a b v).length=M.length:=by
  unfold writeM wordW setN
  rw [if_pos hac]
  split<;>simp
 rw [qdo,hl]
 refine ⟨h1,fun x hx=>?_,?_⟩
 ·unfold writeM wordW setN at hx
  rw [if_pos hac] at hx
  split at hx
  ·rcases qla hx with hx|rfl
   ·exact h2 x hx
   ·exact quo (hg _) _ _
  ·rcases qla hx with hx|rfl
   ·exact h2 x hx
   ·omega
 ·unfold writeB withoutP
  rw [if_pos hac]
  exact qfj _ _ _ _ h3
theorem Ma.mk_right {A:Ma} (h1:A.L.length≤4) (h2:∀ x∈A.L,x.right=true) (h3:rightP A.M A.B=true) (h4:A.U.right=true) (h5:A.k.right=true) (h6:A.K.right=true) (h7:A.T.right=true):A.right=true:=by
 unfold Ma.right
 simp only [Bool.and_eq_true,decide_eq_true_eq,List.all_eq_true]
 exact ⟨⟨⟨⟨⟨⟨h1,h2⟩,h3⟩,h4⟩,h5⟩,h6⟩,h7⟩
theorem Ma.put_right {A:Ma} (h:A.right=true) (off:Int) {x:Ln} (hx:x.right=true):(A.put off x).right=true:=by
 obtain ⟨h1,h2,h3,h4,h5,h6,h7⟩:=Ma.parts h
 refine Ma.mk_right (by unfold Ma.put;dsimp only;rw [List.length_set];exact h1) (fun y hy=>?_) h3 h4 h5 h6 h7
 rcases List.mem_or_eq_of_mem_set (show y∈A.L.set ((off - 512) / 8).toNat x from hy) with hy|rfl
 ·exact h2 y hy
 ·exact hx
theorem Ma.wrR_right {A:Ma} (hA:A.ok) (h:A.right=true) (off v:Int) (hw:(A.wrR off v).2=true):(A.wrR off v).1.right=true:=by
 obtain ⟨h1,h2,h3,h4,h5,h6,h7⟩:=Ma.parts h
 unfold Ma.wrR at hw ⊢
 by_cases hq:A.isL off=true
 ·rw [if_pos hq];exact Ma.put_right h off (ln_wr18 (line_lo h hq) _ _)
 rw [if_neg hq] at hw ⊢
 by_cases c1:off=256
 ·rw [if_pos c1];exact Ma.mk_right h1 h2 h3 h4 (ck_wr18 h5 v) h6 h7
 rw [if_neg c1] at hw ⊢
 by_cases c2:768≤off∧off≤774
 ·rw [if_pos c2] at hw ⊢;exact Ma.mk_right h1 h2 h3 h4 h5 (dk_wr18 h6 _ _ hw) h7
 rw [if_neg c2] at hw ⊢
 by_cases c3:800≤off∧off≤804
 ·rw [if_pos c3];exact Ma.mk_right h1 h2 h3 h4 h5 h6 (qq4 h7 _ _)
 rw [if_neg c3]
 exact Ma.mk_right h1 h2 h3 (un_wr18 hA.2.2 h4 off v) h5 h6 h7
theorem Ma.write_right {A:Ma} (hA:A.ok) (h:A.right=true) (p v:Int) (b:Bool):(A.write p b v).1.right=true:=by
 obtain ⟨h1,h2,h3,h4,h5,h6,h7⟩:=Ma.parts h
 unfold Ma.write
 split
 ·split
  ·rename_i hw
   exact Ma.mk_right h1 h2 (qm4 h3 _ _ _ hw) h4 h5 h6 h7
  ·exact h
 split
 ·exact h
 split
 ·exact h
 ·rename_i hw
  exact Ma.wrR_right hA h _ _ (by simpa using hw)
theorem Ma.tick_right {A:Ma} (h:A.right=true):A.tick.right=true:=by
 obtain ⟨h1,h2,h3,h4,h5,h6,h7⟩:=Ma.parts h
 have k1:=qhh h6 h3
 have k2:=qiu h7 k1.mem
 refine Ma.mk_right (by show (A.L.map Ln.tick).length≤4;rw [List.length_map];exact h1) (fun x hx=>?_) k2.mem h4 (qmd h5) k1.right k2.right
 obtain ⟨y,hy,rfl⟩:=List.mem_map.1 (show x∈A.L.map Ln.tick from hx)
 exact (qlj (h2 y hy)).1
theorem Ma.read_ok {A:Ma} (h:A.ok) (p:Int) (b:Bool):(A.read p b).1.ok:=by
 unfold Ma.read
 repeat' split
 all_goals first
  | exact h
  | exact rdR_ok h _
theorem Ma.write_ok {A:Ma} (h:A.ok) (p v:Int) (b:Bool):(A.write p b v).1.ok:=by
 unfold Ma.write
 repeat' split
 all_goals first
  | exact h
  | exact wrR_ok h _ _
theorem Ma.tick_ok {A:Ma} (h:A.ok):A.tick.ok:=h
open Go.Deep Go.ChangeShapes Go.WideShapes Go.ChangeAt Go.RowKit
theorem laidOut:laidOutB Tryz.prog=true:=by kernel_rfl
theorem qdf (cs:List Value) (n k:Nat):cs.drop n=(cs.drop n).take k++cs.drop (n+k):=by
 rw [← List.drop_drop,List.take_append_drop]
theorem qfc:∀ (n:Nat) (cs:List Value),cs.length=n→(∀ k,k<n→∃ i:Int,(cs.drop k).take 1=[Value.int .i64 i])→∃ l:List Int,cs=l.map (Value.int .i64)∧l.length=n
 | 0,cs,h,_=>⟨[],by rw [List.length_eq_zero_iff.1 h];rfl,rfl⟩
 | n+1,[],h,_=>by cases h
 | n+1,c :: r,h,hk=>by
   obtain ⟨i,hi⟩:=hk 0 (by omega)
   obtain ⟨l,h1,h2⟩:=qfc n r (by simpa using h) (fun k q=>by
    have:=hk (k+1) (by omega)
    simpa using this)
   simp at hi
   exact ⟨i :: l,by rw [hi,h1];rfl,by simp [h2]⟩
section
variable {H:Type} {enc:TypeId×Value→H} {w:World} {fuel:Nat} {cs:List Value} {x:DataW H×List MemPlace}
theorem qih (h:DataW.trod enc Tryz.prog w 0 (fun _=>true) true fuel 36 cs=some x):∃ (l:List ByteArray) (v:Value),cs=[v]∧Sts w v l:=by
 obtain ⟨S,v,e,h1,h2⟩:=qf8 (fun s:ByteArray=>[Value.string s]) 1 (fun _=>rfl) Tryz.underlying36 (by kernel_rfl) (fun n cs x hx=>by
  obtain ⟨s,e0,_,_⟩:=DataW.trod_string Tryz.underlying9 hx
  exact ⟨s,by simpa using e0⟩) h
 rw [qhf] at h1
 exact ⟨S,v,e,h1,h2⟩
theorem qgd (h:DataW.trod enc Tryz.prog w 0 (fun _=>true) true fuel 26 cs=some x):∃ (l:List Int) (v:Value),cs=[v]∧Its w v l:=by
 obtain ⟨S,v,e,h1,h2⟩:=qf8 (fun s:Int=>[Value.int .i64 s]) 1 (fun _=>rfl) Tryz.underlying26 (by kernel_rfl) (fun n cs x hx=>by
  obtain ⟨s,e0,_,_⟩:=DataW.trod_int Tryz.underlying3 hx
  exact ⟨s,by simpa using e0⟩) h
 rw [qhf] at h1
 exact ⟨S,v,e,h1,h2⟩
theorem open_a6 (h:DataW.trod enc Tryz.prog w 0 (fun _=>true) true fuel 22 cs=some x):∃ l:List Int,cs=l.map (Value.int .i64)∧l.length=6:=by
 have cI:Tryz.prog.cellsOf 3=1:=by kernel_rfl
 have cA:Tryz.prog.cellsOf 22=6:=by kernel_rfl
 obtain ⟨xs,m,_,_,hc,hl,hel⟩:=DataW.trod_array Tryz.underlying22 h
 rw [cA] at hc
 refine qfc 6 cs hc (fun k hk=>?_)
 have e:=hel k hk
 rw [cI,List.getElem?_eq_getElem (by omega)] at e
 obtain ⟨i,e0,_,_⟩:=DataW.trod_int Tryz.underlying3 e
 exact ⟨i,by simpa using e0⟩
theorem open_a2 (h:DataW.trod enc Tryz.prog w 0 (fun _=>true) true fuel 23 cs=some x):∃ l:List Int,cs=l.map (Value.int .i64)∧l.length=2:=by
 have cI:Tryz.prog.cellsOf 3=1:=by kernel_rfl
 have cA:Tryz.prog.cellsOf 23=2:=by kernel_rfl
 obtain ⟨xs,m,_,_,hc,hl,hel⟩:=DataW.trod_array Tryz.underlying23 h
 rw [cA] at hc
 refine qfc 2 cs hc (fun k hk=>?_)
 have e:=hel k hk
 rw [cI,List.getElem?_eq_getElem (by omega)] at e
 obtain ⟨i,e0,_,_⟩:=DataW.trod_int Tryz.underlying3 e
 exact ⟨i,by simpa using e0⟩
theorem qqg (h:DataW.trod enc Tryz.prog w 0 (fun _=>true) true fuel 25 cs=some x):∃ c:List Int,cs=c.map (Value.int .i64)∧c.length=10:=by
 have cI:Tryz.prog.cellsOf 3=1:=by kernel_rfl
 have cB:Tryz.prog.cellsOf 4=1:=by kernel_rfl
 have cS:Tryz.prog.cellsOf 9=1:=by kernel_rfl
 have cSs:Tryz.prog.cellsOf 36=1:=by kernel_rfl
 have cIs:Tryz.prog.cellsOf 26=1:=by kernel_rfl
 have cDv:Tryz.prog.cellsOf 38=2:=by kernel_rfl
 have cA6:Tryz.prog.cellsOf 22=6:=by kernel_rfl
 have cA2:Tryz.prog.cellsOf 23=2:=by kernel_rfl
 have cF:Tryz.prog.cellsOf 25=10:=by kernel_rfl
 obtain ⟨xs,m',_,hx,hc,hl,hf⟩:=DataW.trod_struct Tryz.underlying25 h
 match cs,hc.trans cF with
 | [c0,c1,c2,c3,c4,c5,c6,c7,c8,c9],_ =>
   match xs,hl with
   | [x0,x1,x2,x3],_ =>
     have f0:=hf 0 _ rfl
     have f1:=hf 1 _ rfl
     have f2:=hf 2 _ rfl
     have f3:=hf 3 _ rfl
     simp [cI,cB,cS,cSs,cIs,cDv,cA6,cA2] at f0 f1 f2 f3
     obtain ⟨b0,e0,l0⟩:=open_a6 f0
     obtain ⟨b1,e1,l1⟩:=open_a2 f1
     obtain ⟨b2,e2,_,_⟩:=DataW.trod_int Tryz.underlying3 f2
     obtain ⟨b3,e3,_,_⟩:=DataW.trod_int Tryz.underlying3 f3
     simp at e2 e3
     subst e2 e3
     refine ⟨b0++(b1++[b2,b3]),?_,by simp [l0,l1]⟩
     rw [List.map_append,List.map_append,← e0,← e1]
     rfl
theorem qky (h:DataW.trod enc Tryz.prog w 0 (fun _=>true) true fuel 34 cs=some x):∃ k:Ck,cs=k.L:=by
 have cI:Tryz.prog.cellsOf 3=1:=by kernel_rfl
 have cB:Tryz.prog.cellsOf 4=1:=by kernel_rfl
 have cS:Tryz.prog.cellsOf 9=1:=by kernel_rfl
 have cSs:Tryz.prog.cellsOf 36=1:=by kernel_rfl
 have cIs:Tryz.prog.cellsOf 26=1:=by kernel_rfl
 have cDv:Tryz.prog.cellsOf 38=2:=by kernel_rfl
 have cA6:Tryz.prog.cellsOf 22=6:=by kernel_rfl
 have cA2:Tryz.prog.cellsOf 23=2:=by kernel_rfl
 have cF:Tryz.prog.cellsOf 34=4:=by kernel_rfl
 obtain ⟨xs,m',_,hx,hc,hl,hf⟩:=DataW.trod_struct Tryz.underlying34 h
 match cs,hc.trans cF with
 | [c0,c1,c2,c3],_ =>
   match xs,hl with
   | [x0,x1,x2,x3],_ =>
     have f0:=hf 0 _ rfl
     have f1:=hf 1 _ rfl
     have f2:=hf 2 _ rfl
     have f3:=hf 3 _ rfl
     simp [cI,cB,cS,cSs,cIs,cDv,cA6,cA2] at f0 f1 f2 f3
     obtain ⟨b0,e0,_⟩:=DataW.trod_bool Tryz.underlying4 f0
     obtain ⟨b1,e1,_⟩:=DataW.trod_bool Tryz.underlying4 f1
     obtain ⟨b2,e2,_,_⟩:=DataW.trod_int Tryz.underlying3 f2
     obtain ⟨b3,e3,_,_⟩:=DataW.trod_int Tryz.underlying3 f3
     simp at e0 e1 e2 e3
     subst e0 e1 e2 e3
     exact ⟨⟨b0,b1,b2,b3⟩,rfl⟩
theorem qmz (h:DataW.trod enc Tryz.prog w 0 (fun _=>true) true fuel 68 cs=some x):∃ y:Ln,cs=lnL y:=by
 have cI:Tryz.prog.cellsOf 3=1:=by kernel_rfl
 have cB:Tryz.prog.cellsOf 4=1:=by kernel_rfl
 have cS:Tryz.prog.cellsOf 9=1:=by kernel_rfl
 have cSs:Tryz.prog.cellsOf 36=1:=by kernel_rfl
 have cIs:Tryz.prog.cellsOf 26=1:=by kernel_rfl
 have cDv:Tryz.prog.cellsOf 38=2:=by kernel_rfl
 have cA6:Tryz.prog.cellsOf 22=6:=by kernel_rfl
 have cA2:Tryz.prog.cellsOf 23=2:=by kernel_rfl
 have cF:Tryz.prog.cellsOf 68=9:=by kernel_rfl
 obtain ⟨xs,m',_,hx,hc,hl,hf⟩:=DataW.trod_struct Tryz.underlying68 h
 match cs,hc.trans cF with
 | [c0,c1,c2,c3,c4,c5,c6,c7,c8],_ =>
   match xs,hl with
   | [x0,x1,x2,x3,x4,x5,x6,x7,x8],_ =>
     have f0:=hf 0 _ rfl
     have f1:=hf 1 _ rfl
     have f2:=hf 2 _ rfl
     have f3:=hf 3 _ rfl
     have f4:=hf 4 _ rfl
     have f5:=hf 5 _ rfl
     have f6:=hf 6 _ rfl
     have f7:=hf 7 _ rfl
     have f8:=hf 8 _ rfl
     simp [cI,cB,cS,cSs,cIs,cDv,cA6,cA2] at f0 f1 f2 f3 f4 f5 f6 f7 f8
     obtain ⟨b0,e0,_⟩:=DataW.trod_bool Tryz.underlying4 f0
     obtain ⟨b1,e1,_⟩:=DataW.trod_bool Tryz.underlying4 f1
     obtain ⟨b2,e2,_⟩:=DataW.trod_bool Tryz.underlying4 f2
     obtain ⟨b3,e3,_,_⟩:=DataW.trod_int Tryz.underlying3 f3
     obtain ⟨b4,e4,_⟩:=DataW.trod_bool Tryz.underlying4 f4
     obtain ⟨b5,e5,_⟩:=DataW.trod_bool Tryz.underlying4 f5
     obtain ⟨b6,e6,_,_⟩:=DataW.trod_int Tryz.underlying3 f6
     obtain ⟨b7,e7,_,_⟩:=DataW.trod_int Tryz.underlying3 f7
     obtain ⟨b8,e8,_,_⟩:=DataW.trod_string Tryz.underlying9 f8
     simp at e0 e1 e2 e3 e4 e5 e6 e7 e8
     subst e0 e1 e2 e3 e4 e5 e6 e7 e8
     exact ⟨⟨b0,b1,b2,b3,b4,b5,b6,b7,b8⟩,rfl⟩
theorem qp7 (h:DataW.trod enc Tryz.prog w 0 (fun _=>true) true fuel 38 cs=some x):∃ (D:Drv) (v u:Value),cs=[v,u]∧Sts w v D.S∧Its w u D.B:=by
 have cI:Tryz.prog.cellsOf 3=1:=by kernel_rfl
 have cB:Tryz.prog.cellsOf 4=1:=by kernel_rfl
 have cS:Tryz.prog.cellsOf 9=1:=by kernel_rfl
 have cSs:Tryz.prog.cellsOf 36=1:=by kernel_rfl
 have cIs:Tryz.prog.cellsOf 26=1:=by kernel_rfl
 have cDv:Tryz.prog.cellsOf 38=2:=by kernel_rfl
 have cA6:Tryz.prog.cellsOf 22=6:=by kernel_rfl
 have cA2:Tryz.prog.cellsOf 23=2:=by kernel_rfl
 have cF:Tryz.prog.cellsOf 38=2:=by kernel_rfl
 obtain ⟨xs,m',_,hx,hc,hl,hf⟩:=DataW.trod_struct Tryz.underlying38 h
 match cs,hc.trans cF with
 | [c0,c1],_ =>
   match xs,hl with
   | [x0,x1],_ =>
     have f0:=hf 0 _ rfl
     have f1:=hf 1 _ rfl
     simp [cI,cB,cS,cSs,cIs,cDv,cA6,cA2] at f0 f1
     obtain ⟨b0,v0,e0,k0⟩:=qih f0
     obtain ⟨b1,v1,e1,k1⟩:=qgd f1
     simp at e0 e1
     subst e0 e1
     exact ⟨⟨b0,b1⟩,_,_,rfl,k0,k1⟩
theorem qmh (h:DataW.trod enc Tryz.prog w 0 (fun _=>true) true fuel 40 cs=some x):∃ (K:Dk) (v u:Value),cs=dkL v u K∧Sts w v K.D.S∧Its w u K.D.B:=by
 have cI:Tryz.prog.cellsOf 3=1:=by kernel_rfl
 have cB:Tryz.prog.cellsOf 4=1:=by kernel_rfl
 have cS:Tryz.prog.cellsOf 9=1:=by kernel_rfl
 have cSs:Tryz.prog.cellsOf 36=1:=by kernel_rfl
 have cIs:Tryz.prog.cellsOf 26=1:=by kernel_rfl
 have cDv:Tryz.prog.cellsOf 38=2:=by kernel_rfl
 have cA6:Tryz.prog.cellsOf 22=6:=by kernel_rfl
 have cA2:Tryz.prog.cellsOf 23=2:=by kernel_rfl
 have cF:Tryz.prog.cellsOf 40=10:=by kernel_rfl
 obtain ⟨xs,m',_,hx,hc,hl,hf⟩:=DataW.trod_struct Tryz.underlying40 h
 match cs,hc.trans cF with
 | [c0,c1,c2,c3,c4,c5,c6,c7,c8,c9],_ =>
   match xs,hl with
   | [x0,x1,x2,x3,x4,x5,x6,x7,x8],_ =>
     have f0:=hf 0 _ rfl
     have f1:=hf 1 _ rfl
     have f2:=hf 2 _ rfl
     have f3:=hf 3 _ rfl
     have f4:=hf 4 _ rfl
     have f5:=hf 5 _ rfl
     have f6:=hf 6 _ rfl
     have f7:=hf 7 _ rfl
     have f8:=hf 8 _ rfl
     simp [cI,cB,cS,cSs,cIs,cDv,cA6,cA2] at f0 f1 f2 f3 f4 f5 f6 f7 f8
     obtain ⟨b0,v0,u0,e0,k0,j0⟩:=qp7 f0
     obtain ⟨b1,e1,_⟩:=DataW.trod_bool Tryz.underlying4 f1
     obtain ⟨b2,e2,_⟩:=DataW.trod_bool Tryz.underlying4 f2
     obtain ⟨b3,e3,_⟩:=DataW.trod_bool Tryz.underlying4 f3
     obtain ⟨b4,e4,_,_⟩:=DataW.trod_int Tryz.underlying3 f4
     obtain ⟨b5,e5,_,_⟩:=DataW.trod_int Tryz.underlying3 f5
     obtain ⟨b6,e6,_,_⟩:=DataW.trod_int Tryz.underlying3 f6
     obtain ⟨b7,e7,_,_⟩:=DataW.trod_int Tryz.underlying3 f7
     obtain ⟨b8,e8,_,_⟩:=DataW.trod_int Tryz.underlying3 f8
     simp at e0 e1 e2 e3 e4 e5 e6 e7 e8
     obtain ⟨rfl,rfl⟩:=e0
     subst e1 e2 e3 e4 e5 e6 e7 e8
     exact ⟨⟨b0,b1,b2,b3,b4,b5,b6,b7,b8⟩,_,_,rfl,k0,j0⟩
theorem qmv (h:DataW.trod enc Tryz.prog w 0 (fun _=>true) true fuel 42 cs=some x):∃ (K:Tp) (v:Value),cs=tpL v K∧Sts w v K.R:=by
 have cI:Tryz.prog.cellsOf 3=1:=by kernel_rfl
 have cB:Tryz.prog.cellsOf 4=1:=by kernel_rfl
 have cS:Tryz.prog.cellsOf 9=1:=by kernel_rfl
 have cSs:Tryz.prog.cellsOf 36=1:=by kernel_rfl
 have cIs:Tryz.prog.cellsOf 26=1:=by kernel_rfl
 have cDv:Tryz.prog.cellsOf 38=2:=by kernel_rfl
 have cA6:Tryz.prog.cellsOf 22=6:=by kernel_rfl
 have cA2:Tryz.prog.cellsOf 23=2:=by kernel_rfl
 have cF:Tryz.prog.cellsOf 42=11:=by kernel_rfl
 obtain ⟨xs,m',_,hx,hc,hl,hf⟩:=DataW.trod_struct Tryz.underlying42 h
 match cs,hc.trans cF with
 | [c0,c1,c2,c3,c4,c5,c6,c7,c8,c9,c10],_ =>
   match xs,hl with
   | [x0,x1,x2,x3,x4,x5,x6,x7,x8,x9,x10],_ =>
     have f0:=hf 0 _ rfl
     have f1:=hf 1 _ rfl
     have f2:=hf 2 _ rfl
     have f3:=hf 3 _ rfl
     have f4:=hf 4 _ rfl
     have f5:=hf 5 _ rfl
     have f6:=hf 6 _ rfl
     have f7:=hf 7 _ rfl
     have f8:=hf 8 _ rfl
     have f9:=hf 9 _ rfl
     have f10:=hf 10 _ rfl
     simp [cI,cB,cS,cSs,cIs,cDv,cA6,cA2] at f0 f1 f2 f3 f4 f5 f6 f7 f8 f9 f10
     obtain ⟨b0,v0,e0,k0⟩:=qih f0
     obtain ⟨b1,e1,_,_⟩:=DataW.trod_int Tryz.underlying3 f1
     obtain ⟨b2,e2,_⟩:=DataW.trod_bool Tryz.underlying4 f2
     obtain ⟨b3,e3,_⟩:=DataW.trod_bool Tryz.underlying4 f3
     obtain ⟨b4,e4,_⟩:=DataW.trod_bool Tryz.underlying4 f4
     obtain ⟨b5,e5,_⟩:=DataW.trod_bool Tryz.underlying4 f5
     obtain ⟨b6,e6,_⟩:=DataW.trod_bool Tryz.underlying4 f6
     obtain ⟨b7,e7,_,_⟩:=DataW.trod_int Tryz.underlying3 f7
     obtain ⟨b8,e8,_,_⟩:=DataW.trod_int Tryz.underlying3 f8
     obtain ⟨b9,e9,_,_⟩:=DataW.trod_int Tryz.underlying3 f9
     obtain ⟨b10,e10,_,_⟩:=DataW.trod_int Tryz.underlying3 f10
     simp at e0 e1 e2 e3 e4 e5 e6 e7 e8 e9 e10
     subst e0 e1 e2 e3 e4 e5 e6 e7 e8 e9 e10
     exact ⟨⟨b0,b1,b2,b3,b4,b5,b6,b7,b8,b9,b10⟩,_,rfl,k0⟩
theorem qle (h:DataW.trod enc Tryz.prog w 0 (fun _=>true) true fuel 35 cs=some x):∃ (l:List Ln) (v:Value),cs=[v]∧Lns w v l:=by
 obtain ⟨S,v,e,h1,h2⟩:=qf8 lnL 9 (fun _=>rfl) Tryz.underlying35 (by kernel_rfl) (fun n cs x hx=>qmz hx) h
 exact ⟨S,v,e,h1,h2⟩
theorem qmq (h:DataW.trod enc Tryz.prog w 0 (fun _=>true) true fuel 44 cs=some x):∃ (A:Ma) (c:List Int) (vm vb vl vs vd vt:Value),cs=A.cells vm vb vl vs vd vt∧A.ok∧A.C=c.map (Value.int .i64)∧c.length=10∧MaNow w A vm vb vl vs vd vt:=by
 have cF:Tryz.prog.cellsOf 44=110:=by kernel_rfl
 obtain ⟨xs,m',_,hx,hc,hl,hf⟩:=DataW.trod_struct Tryz.underlying44 h
 rw [cF] at hc
 match xs,hl with
 | [x0,x1,x2,x3,x4,x5,x6,x7,x8,x9,x10,x11,x12],_ =>
   have f0:DataW.trod enc Tryz.prog w 0 (fun _=>true) true m' 25 ((cs.drop 0).take 10)=some x0:=hf 0 _ rfl
   have f1:DataW.trod enc Tryz.prog w 0 (fun _=>true) true m' 26 ((cs.drop 10).take 1)=some x1:=hf 1 _ rfl
   have f2:DataW.trod enc Tryz.prog w 0 (fun _=>true) true m' 26 ((cs.drop 11).take 1)=some x2:=hf 2 _ rfl
   have f3:DataW.trod enc Tryz.prog w 0 (fun _=>true) true m' 32 ((cs.drop 12).take 67)=some x3:=hf 3 _ rfl
   have f4:DataW.trod enc Tryz.prog w 0 (fun _=>true) true m' 34 ((cs.drop 79).take 4)=some x4:=hf 4 _ rfl
   have f5:DataW.trod enc Tryz.prog w 0 (fun _=>true) true m' 35 ((cs.drop 83).take 1)=some x5:=hf 5 _ rfl
   have f6:DataW.trod enc Tryz.prog w 0 (fun _=>true) true m' 40 ((cs.drop 84).take 10)=some x6:=hf 6 _ rfl
   have f7:DataW.trod enc Tryz.prog w 0 (fun _=>true) true m' 42 ((cs.drop 94).take 11)=some x7:=hf 7 _ rfl
   have f8:DataW.trod enc Tryz.prog w 0 (fun _=>true) true m' 3 ((cs.drop 105).take 1)=some x8:=hf 8 _ rfl
   have f9:DataW.trod enc Tryz.prog w 0 (fun _=>true) true m' 4 ((cs.drop 106).take 1)=some x9:=hf 9 _ rfl
   have f10:DataW.trod enc Tryz.prog w 0 (fun _=>true) true m' 4 ((cs.drop 107).take 1)=some x10:=hf 10 _ rfl
   have f11:DataW.trod enc Tryz.prog w 0 (fun _=>true) true m' 3 ((cs.drop 108).take 1)=some x11:=hf 11 _ rfl
   have f12:DataW.trod enc Tryz.prog w 0 (fun _=>true) true m' 4 ((cs.drop 109).take 1)=some x12:=hf 12 _ rfl
   obtain ⟨C,e0,l0⟩:=qqg f0
   obtain ⟨M,vm,e1,k1⟩:=qgd f1
   obtain ⟨B,vb,e2,k2⟩:=qgd f2
   obtain ⟨U,e3,w3⟩:=qtg f3
   obtain ⟨k,e4⟩:=qky f4
   obtain ⟨L,vl,e5,k5⟩:=qle f5
   obtain ⟨K,vs,vd,e6,k6,j6⟩:=qmh f6
   obtain ⟨Tt,vt,e7,k7⟩:=qmv f7
   obtain ⟨b8,e8,_,_⟩:=DataW.trod_int Tryz.underlying3 f8
   obtain ⟨b9,e9,_⟩:=DataW.trod_bool Tryz.underlying4 f9
   obtain ⟨b10,e10,_⟩:=DataW.trod_bool Tryz.underlying4 f10
   obtain ⟨b11,e11,_,_⟩:=DataW.trod_int Tryz.underlying3 f11
   obtain ⟨b12,e12,_⟩:=DataW.trod_bool Tryz.underlying4 f12
   clear f0 f1 f2 f3 f4 f5 f6 f7 f8 f9 f10 f11 f12 hf
   have q12:cs.drop 109=[.bool b12]:=by rw [← e12,List.take_of_length_le (by rw [List.length_drop];omega)]
   have q11:cs.drop 108=[.int .i64 b11]++([.bool b12]):=(qdf cs 108 1).trans (by rw [e11,show 108+1=109 from rfl,q12])
   have q10:cs.drop 107=[.bool b10]++([.int .i64 b11]++([.bool b12])):=(qdf cs 107 1).trans (by rw [e10,show 107+1=108 from rfl,q11])
   have q9:cs.drop 106=[.bool b9]++([.bool b10]++([.int .i64 b11]++([.bool b12]))):=(qdf cs 106 1).trans (by rw [e9,show 106+1=107 from rfl,q10])
   have q8:cs.drop 105=[.int .i64 b8]++([.bool b9]++([.bool b10]++([.int .i64 b11]++([.bool b12])))):=(qdf cs 105 1).trans (by rw [e8,show 105+1=106 from rfl,q9])
   have q7:cs.drop 94=tpL vt Tt++([.int .i64 b8]++([.bool b9]++([.bool b10]++([.int .i64 b11]++([.bool b12]))))):=(qdf cs 94 11).trans (by rw [e7,show 94+11=105 from rfl,q8])
   have q6:cs.drop 84=dkL vs vd K++(tpL vt Tt++([.int .i64 b8]++([.bool b9]++([.bool b10]++([.int .i64 b11]++([.bool b12])))))):=(qdf cs 84 10).trans (by rw [e6,show 84+10=94 from rfl,q7])
   have q5:cs.drop 83=[vl]++(dkL vs vd K++(tpL vt Tt++([.int .i64 b8]++([.bool b9]++([.bool b10]++([.int .i64 b11]++([.bool b12]))))))):=(qdf cs 83 1).trans (by rw [e5,show 83+1=84 from rfl,q6])
   have q4:cs.drop 79=k.L++([vl]++(dkL vs vd K++(tpL vt Tt++([.int .i64 b8]++([.bool b9]++([.bool b10]++([.int .i64 b11]++([.bool b12])))))))):=(qdf cs 79 4).trans (by rw [e4,show 79+4=83 from rfl,q5])
   have q3:cs.drop 12=U.L++(k.L++([vl]++(dkL vs vd K++(tpL vt Tt++([.int .i64 b8]++([.bool b9]++([.bool b10]++([.int .i64 b11]++([.bool b12]))))))))):=(qdf cs 12 67).trans (by rw [e3,show 12+67=79 from rfl,q4])
   have q2:cs.drop 11=[vb]++(U.L++(k.L++([vl]++(dkL vs vd K++(tpL vt Tt++([.int .i64 b8]++([.bool b9]++([.bool b10]++([.int .i64 b11]++([.bool b12])))))))))):=(qdf cs 11 1).trans (by rw [e2,show 11+1=12 from rfl,q3])
   have q1:cs.drop 10=[vm]++([vb]++(U.L++(k.L++([vl]++(dkL vs vd K++(tpL vt Tt++([.int .i64 b8]++([.bool b9]++([.bool b10]++([.int .i64 b11]++([.bool b12]))))))))))):=(qdf cs 10 1).trans (by rw [e1,show 10+1=11 from rfl,q2])
   have q0:cs.drop 0=C.map (Value.int .i64)++([vm]++([vb]++(U.L++(k.L++([vl]++(dkL vs vd K++(tpL vt Tt++([.int .i64 b8]++([.bool b9]++([.bool b10]++([.int .i64 b11]++([.bool b12])))))))))))):=(qdf cs 0 10).trans (by rw [e0,show 0+10=10 from rfl,q1])
   rw [List.drop_zero] at q0
   exact ⟨⟨C.map (Value.int .i64),M,B,U,k,L,K,Tt,b8,b9,b10,b11,b12⟩,C,vm,vb,vl,vs,vd,vt,q0,⟨by rw [List.length_map];exact l0,fun v hv=>(by obtain ⟨i,_,rfl⟩:=List.mem_map.1 hv;rfl),w3.1⟩,rfl,l0,⟨k1,k2,k5,k6,j6,k7⟩⟩
end
theorem qkw {H:Type} {enc:TypeId×Value→H} {W:World} {r:Reach} {b0:Nat} {v:Value} {d:DataW H} {p:List MemPlace}
 (hv:Value.okWide Tryz.prog W r b0 44 v) (h:DataW.Trod enc Tryz.prog W 0 (fun _=>true) true 44 v d p):∃ (A:Ma) (c:List Int) (vm vb vl vs vd vt:Value),v=.agg (A.cells vm vb vl vs vd vt).toArray∧A.ok∧A.C=c.map (Value.int .i64)∧c.length=10∧MaNow W A vm vb vl vs vd vt:=by
 obtain ⟨cs,rfl,hsz⟩:=okWide_struct Tryz.underlying44 hv
 obtain ⟨fuel,hf⟩:=h
 obtain ⟨A,c,vm,vb,vl,vs,vd,vt,e,h1,h2,h3,h4⟩:=qmq hf
 have e':cs.toList=A.cells vm vb vl vs vd vt:=by simpa [Value.cells] using e
 exact ⟨A,c,vm,vb,vl,vs,vd,vt,by rw [← e'],h1,h2,h3,h4⟩
open Go.RowKit Go.Shelf
attribute [local go_sem] Oper.semAt_some
def devB:Nat→Int
 | 0=>0
 | 1=>256
 | 2=>768
 | 3=>800
 | k+4=>512+8*(k:Int)
def devV:Nat→Value
 | 0=>.iface 133 (.agg #[])
 | 1=>.iface 134 (.agg #[])
 | 2=>.iface 135 (.agg #[])
 | 3=>.iface 136 (.agg #[])
 | k+4=>.iface 137 (.int .i64 k)
def KpB (B:Nat) (W W':World):Prop:=W'.heap[B]? = W.heap[B]?
theorem KpB.trans {B:Nat} {a b c:World} (h:KpB B a b) (k:KpB B b c):KpB B a c:=Eq.trans k h
theorem KpB.cell {B:Nat} {W W':World} {v:Value} (h:KpB B W W') (hc:W.cell? ⟨B,0,none⟩=some v):W'.cell? ⟨B,0,none⟩=some v:=(World.cell?_of_block (w:=W) (show W'.heap[(⟨B,0,none⟩:Addr).block]? = W.heap[(⟨B,0,none⟩:Addr).block]? from h)).trans hc
def encD (n:Nat) (x:Fin (n+4)):Array Value:=#[.int .i64 (devB x.val),devV x.val]
def SDev (n:Nat) (xs:List (Fin (n+4))):Prop:=xs.map Fin.val=List.range (n+4)
def PDev (n k:Nat) (pre:List (Fin (n+4))):Prop:=pre.map Fin.val=List.range k
theorem PDev.nil (n:Nat):PDev n 0 []:=rfl
theorem PDev.snoc {n k:Nat} {pre:List (Fin (n+4))} (h:PDev n k pre) (hk:k<n+4):PDev n (k+1) (pre++[(⟨k,hk⟩:Fin (n+4))]):=by
 unfold PDev at *
 rw [List.map_append,h,List.range_succ];rfl
theorem PDev.len {n k:Nat} {pre:List (Fin (n+4))} (h:PDev n k pre):pre.length=k:=by
 have:=congrArg List.length (show pre.map Fin.val=List.range k from h)
 rwa [List.length_map,List.length_range] at this
theorem qea (m:Nat) (hm:1≤m) (B n:Nat) (hn:n≤1099511627776) (w:World) (hc:w.cell? ⟨B,0,none⟩=some (.int .i64 n)) (hB:B<w.heap.size) :
 SeqStopsK Fence.wide m Tryz.prog 75 #[.pointer (some ⟨B,0,none⟩)] (encD n) (KpB B) (SDev n) (fun _=>True) (n+4) w:=fun l J Jx W hW hJ hJx hY h0=>by
 replace hc:W.cell? ⟨B,0,none⟩=some (.int .i64 n):=(World.cell?_of_block (w:=w) (hW.block B hB)).trans hc
 refine callsIn_of_wp Tryz.func75 rfl trivial ?_ rfl
 simp only [Tryz.ntmps75,List.size_toArray,List.length_cons,List.length_nil,Nat.reduceAdd,Nat.reduceSub,Array.replicate_succ,Array.replicate_zero,List.push_toArray,List.append_toArray,List.nil_append,List.cons_append]
 obtain ⟨f0,t0,a0,b0,hy0,hR0⟩:=hY [] ⟨0,by omega⟩ W h0 (by simp)
 dsimp only [encD,devB,devV] at hy0
 gi_wp2
 refine hR0.mono ?_
 clear hR0 hy0
 rintro e W1 (⟨rfl,hJ1,hk1⟩|⟨rfl,hx1⟩)
 rotate_left
 ·gi_wp2
  iterate 3
   refine ⟨fun _ h=>(by cases h),?_⟩
   gi_wp2
  refine bodyPost_ret (results_none rfl _ _ _) rfl ?_
  exact ⟨⟨_,rfl⟩,.inr ⟨_,trivial,hx1⟩⟩
 replace hc:=hk1.cell hc
 obtain ⟨f1,t1,a1,b1,hy1,hR1⟩:=hY ([]++[(⟨0,by omega⟩:Fin (n+4))]) ⟨1,by omega⟩ W1 hJ1 (by simp)
 dsimp only [encD,devB,devV] at hy1
 gi_wp2
 refine hR1.mono ?_
 clear hR1 hy1
 rintro e W2 (⟨rfl,hJ2,hk2⟩|⟨rfl,hx2⟩)
 rotate_left
 ·gi_wp2
  refine ⟨fun _ h=>(by cases h),?_⟩
  gi_wp2
  refine ⟨fun _ h=>(by cases h),?_⟩
  gi_wp2
  refine bodyPost_ret (results_none rfl _ _ _) rfl ?_
  exact ⟨⟨_,rfl⟩,.inr ⟨_,trivial,hx2⟩⟩
 replace hc:=hk2.cell hc
 obtain ⟨f2,t2,a2,b2,hy2,hR2⟩:=hY (([]++[(⟨0,by omega⟩:Fin (n+4))])++[(⟨1,by omega⟩:Fin (n+4))]) ⟨2,by omega⟩ W2 hJ2 (by simp)
 dsimp only [encD,devB,devV] at hy2
 gi_wp2
 refine hR2.mono ?_
 clear hR2 hy2
 rintro e W3 (⟨rfl,hJ3,hk3⟩|⟨rfl,hx3⟩)
 rotate_left
 ·gi_wp2
  refine ⟨fun _ h=>(by cases h),?_⟩
  gi_wp2
  refine bodyPost_ret (results_none rfl _ _ _) rfl ?_
  exact ⟨⟨_,rfl⟩,.inr ⟨_,trivial,hx3⟩⟩
 replace hc:=hk3.cell hc
 obtain ⟨f3,t3,a3,b3,hy3,hR3⟩:=hY ((([]++[(⟨0,by omega⟩:Fin (n+4))])++[(⟨1,by omega⟩:Fin (n+4))])++[(⟨2,by omega⟩:Fin (n+4))]) ⟨3,by omega⟩ W3 hJ3 (by simp)
 dsimp only [encD,devB,devV] at hy3
 gi_wp2
 refine hR3.mono ?_
 clear hR3 hy3
 rintro e W4 (⟨rfl,hJ4,hk4⟩|⟨rfl,hx4⟩)
 rotate_left
 ·gi_wp2
  refine bodyPost_ret (results_none rfl _ _ _) rfl ?_
  exact ⟨⟨_,rfl⟩,.inr ⟨_,trivial,hx4⟩⟩
 replace hc:=hk4.cell hc
 obtain ⟨P4,hP4⟩:∃ P4,P4=(((([]++[(⟨0,by omega⟩:Fin (n+4))])++[(⟨1,by omega⟩:Fin (n+4))])++[(⟨2,by omega⟩:Fin (n+4))])++[(⟨3,by omega⟩:Fin (n+4))]):=⟨_,rfl⟩
 have hD4:PDev n 4 P4:=by rw [hP4];exact ((((PDev.nil n).snoc (by omega)).snoc (by omega)).snoc (by omega)).snoc (by omega)
 rw [← hP4] at hJ4
 clear hP4 hJ1 hJ2 hJ3 hk1 hk2 hk3 hk4 h0
 gi_wp2
 gi_loopw [31] (fun iv wr=>∃ (i:Nat) (pre:List (Fin (n+4))),i≤n∧iv=.int .i64 i∧PDev n (i+4) pre∧J pre wr) (fun iv _=>n - (intOf iv).toNat)
 case atStart=>exact ⟨0,P4,Nat.zero_le _,rfl,hD4,hJ4⟩
 case round =>
  obtain ⟨i,pre,hi,rfl,hD,hJi⟩:=hrel
  by_cases hlt:i<n
  ·have i1:(i:Int)<(n:Int):=by omega
   have w1:IntKind.i64.wrap (8*(i:Int))=8*(i:Int):=by rw [qaf];unfold wrap64;omega
   have w2:IntKind.i64.wrap (512+8*(i:Int))=512+8*(i:Int):=by rw [qaf];unfold wrap64;omega
   have w3:IntKind.i64.wrap ((i:Int)+1)=((i+1:Nat):Int):=by rw [qaf];unfold wrap64;omega
   obtain ⟨fn,tn,an,bn,hy,hR⟩:=hY pre ⟨i+4,by omega⟩ wr hJi (by rw [hD.len];omega)
   dsimp only [encD,devB,devV] at hy
   gi_wp2
   refine hR.mono ?_
   clear hR hy
   rintro e W6 (⟨rfl,hJ6,hk6⟩|⟨rfl,hx6⟩)
   ·gi_wp2
    exact ⟨⟨i+1,_,by omega,rfl,hD.snoc (by omega),hJ6⟩,by simp [intOf];omega⟩
   ·gi_wp2
    refine bodyPost_ret (results_none rfl _ _ _) rfl ?_
    exact ⟨⟨_,rfl⟩,.inr ⟨_,trivial,hx6⟩⟩
  ·have i1:¬ (i:Int)<(n:Int):=by omega
   obtain rfl:i=n:=by omega
   gi_wp2
   go_end0
   exact ⟨⟨_,rfl⟩,.inl ⟨pre,hD,hJi⟩⟩
end Go.Proofs.YthpnddgfgpacpaaGreat
