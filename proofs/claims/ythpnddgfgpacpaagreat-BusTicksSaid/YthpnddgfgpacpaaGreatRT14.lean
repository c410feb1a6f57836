import Derived.Test.YthpnddgfgpacpaaGreatRT04
import Derived.Test.YthpnddgfgpacpaaGreatRT13
import Derived.Test.YthpnddgfgpacpaaGreatRT11
import Derived.Laws.CopyOwn
import Derived.Deep.RegionLaw
import Derived.Maps.AppendAt
import Derived.Test.YthpnddgfgpacpaaGreatRT12
namespace Go.Proofs.YthpnddgfgpacpaaGreat
open Go.RowKit
set_option maxRecDepth 100000
set_option linter.unusedSimpArgs false
set_option linter.unusedVariables false
set_option maxHeartbeats 1000000
attribute [local irreducible] wpQuiet
theorem qhg {x:Int} (h0:0≤x) (h1:x≤65535):N64 x=x.toNat:=by have:=qg5 x;omega
theorem or_hi {h l:Int} (h0:0≤h) (h1:h≤255) (l0:0≤l) (l1:l≤255):bits .or .i64 (h*256) l=h*256+l:=by
 have e1:N64 (h*256)=2 ^ 8*h.toNat:=by have:=qg5 (h*256);omega
 have e2:N64 l=l.toNat:=by have:=qg5 l;omega
 rw [qtc,e1,e2,← Nat.two_pow_add_eq_or_of_lt (by omega),qqx (by omega)]
 omega
theorem or_lo {h l:Int} (h0:0≤h) (h1:h≤255) (l0:0≤l) (l1:l≤255):bits .or .i64 l (h*256)=h*256+l:=by
 have e1:N64 (h*256)=2 ^ 8*h.toNat:=by have:=qg5 (h*256);omega
 have e2:N64 l=l.toNat:=by have:=qg5 l;omega
 rw [qtc,e1,e2,Nat.or_comm,← Nat.two_pow_add_eq_or_of_lt (by omega),qqx (by omega)]
 omega
theorem qtv {x M:Nat} (h:x≤65535):x &&& M=x &&& (65535 &&& M):=by
 rw [← Nat.and_assoc,m65535,Nat.mod_eq_of_lt (by omega)]
theorem m65280 {x:Nat} (h:x≤65535):x &&& 65280=x / 256*256:=by
 have e:(65280:Nat)=(2 ^ 8 - 1)*2 ^ 8:=rfl
 rw [e,qe7]
 omega
theorem a65280 {x:Int} (h0:0≤x) (h1:x≤65535):bits .and .i64 x 65280=x / 256*256 :=
 qd1 (c:=65280) (r:=x.toNat / 256*256) (by decide) (by rw [qhg h0 h1];exact m65280 (by omega)) (by intro h;omega)
theorem n255 {x:Int} (h0:0≤x) (h1:x≤65535):bits .andNot .i64 x 255=x / 256*256:=by
 rw [qjk,qhg h0 h1,show N64 255=255 by decide,qtv (by omega),show 65535 &&& (18446744073709551615 - 255)=65280 by decide,m65280 (by omega),qqx (by omega)]
 omega
theorem n65280 {x:Int} (h0:0≤x) (h1:x≤65535):bits .andNot .i64 x 65280=x%256:=by
 rw [qjk,qhg h0 h1,show N64 65280=65280 by decide,qtv (by omega),show 65535 &&& (18446744073709551615 - 65280)=255 by decide,m255,qqx (by omega)]
 omega
theorem qoo {base g cap:Nat} {w w4:World} {l:List Int} (h:Own base w (.slice (some ⟨g,0,none⟩) l.length cap) l) (hg:base≤g) (k:Nat) (x:Int) (hb:Below base w w4) (ho:Own base w4 (.slice (some ⟨g,0,none⟩) l.length cap) l) :
 Own base (w4.setCell ⟨g,k,none⟩ (.int .i64 x)) (.slice (some ⟨g,0,none⟩) l.length cap) (l.set k x)∧Below base w (w4.setCell ⟨g,k,none⟩ (.int .i64 x)) :=
 ⟨ho.set k x,hb.setCell hg _⟩
theorem qkz {l:List Int} {a:Nat} {x v:Int} (h:a%2=0) (hx:l[a / 2]? = some x):setN l a v=l.set (a / 2) (x / 256*256+v%256):=by
 unfold setN;rw [qne hx,h];rfl
theorem qoi {l:List Int} {a:Nat} {x v:Int} (h:a%2=1) (hx:l[a / 2]? = some x):setN l a v=l.set (a / 2) (v%256*256+x%256):=by
 unfold setN;rw [qne hx,h];rfl
set_option maxHeartbeats 4000000 in
theorem qho (base:Nat) (r:Value) (l:List Int) (hl:l.length≤1099511627776) (hw:wordsB l=true) (a:Nat) (ha:a<2*l.length) (v:Int) (w:World) (ho:Own base w r l) :
 Calls Tryz.prog 133 #[r,.int .i64 (a:Int),.int .i64 v] w fun e w'=>e=.returned (.tuple #[])∧Own base w' r (setN l a v)∧Below base w w':=by
 obtain ⟨g,cap,rfl,hg,hcap,hgl⟩:=ho.form (by omega)
 have hk:a / 2<l.length:=by omega
 have hx:=List.getElem?_eq_getElem hk
 have hxb:=(qds l).1 hw _ (List.getElem_mem hk)
 have e0:=fun h=>qkz (a:=a) (v:=v) h hx
 have e1:=fun h=>qoi (a:=a) (v:=v) h hx
 have hst:=fun k x w4 (hb:Below base w w4) (h4:Own base w4 (.slice (some ⟨g,0,none⟩) l.length cap) l)=>qoo ho hg k x hb h4
 generalize l[a / 2]=x at *
 obtain ⟨hx0,hx1⟩:=hxb
 have hsh:=fun w=>qk4 a (by omega) w
 have A0:=a255 v
 have N0:=n255 hx0 hx1
 have N1:=n65280 hx0 hx1
 have O0:=or_hi (h:=x / 256) (l:=v%256) (by omega) (by omega) (by omega) (by omega)
 have O1:=or_lo (h:=v%256) (l:=x%256) (by omega) (by omega) (by omega) (by omega)
 have hv0:0≤v%256∧v%256≤255:=by omega
 have hi:(a:Int) / 2=((a / 2:Nat):Int):=by omega
 have hx:=hid hx
 rcases Nat.mod_two_eq_zero_or_one a with h|h
 ·have hm:(a:Int)%2*8=0:=by omega
  rw [hm] at hsh
  rw [e0 h]
  clear e0 e1 h hm O1 N1 hw
  generalize v%256=y at *
  generalize hj:a / 2=j at *
  have hj:=hid hj
  go_enter Tryz.func133,Tryz.ntmps133
  go_wp2
  refine qeh (fun w'=>Below base w w'∧Own base w' (.slice (some ⟨g,0,none⟩) l.length cap) l) 15 _ (by kernel_rfl) (by rfl) (by rfl) (by rfl) (by kernel_rfl) (by kernel_rfl) (by kernel_rfl) ⟨(Below.refl _ _).drew,ho.drew⟩ ?_
  simp only [blankLast,List.take_succ_cons,List.take_zero,List.drop_succ_cons,List.drop_zero,List.map_cons,List.map_nil,List.cons_append,List.nil_append,blank]
  repeat
   first
    | (refine BigFrame.wpQuiet_skip (by rfl) ?_
       simp only [Act.put,sx])
    | (refine BigFrame.wpQuiet_want (by rfl) (fun K hK=>?_)
       apply Exists.intro
       refine ⟨fun wq hq=>?_,hK _ ?_⟩
       ·obtain ⟨hqb,hqo⟩:=hq
        have c0:=hqo.cell hx
        unfold Oper.quietAt
        go_simp
        first
         | with_reducible rfl
         | ((go_at_call 127);with_reducible refine (hsh _).mono ?_;exact fun e w' ⟨he,hb⟩=>⟨he,by rw [← hb];exact ⟨hqb,hqo⟩⟩)
       clear hK K
       simp only [Act.put,sx])
  refine wpQuiet_nil ?_
  intro w4 hX
  obtain ⟨hqb,hqo⟩:=hX
  have c0:=hqo.cell hx
  have z0:=hqo.frozen j
  have hfin:=hst j (x / 256*256+y) w4 hqb hqo
  go_wp2
  rw [N0,O0]
  exact bodyPost_end (v:=.tuple #[]) (by simp [results,Tryz.results133,go_sem]) rfl ⟨rfl,hfin.1,hfin.2⟩
 ·have hm:(a:Int)%2*8=8:=by omega
  rw [hm] at hsh
  rw [e1 h]
  clear e0 e1 h hm O0 N0 hw
  generalize v%256=y at *
  generalize hj:a / 2=j at *
  have hj:=hid hj
  go_enter Tryz.func133,Tryz.ntmps133
  go_wp2
  refine qeh (fun w'=>Below base w w'∧Own base w' (.slice (some ⟨g,0,none⟩) l.length cap) l) 15 _ (by kernel_rfl) (by rfl) (by rfl) (by rfl) (by kernel_rfl) (by kernel_rfl) (by kernel_rfl) ⟨(Below.refl _ _).drew,ho.drew⟩ ?_
  simp only [blankLast,List.take_succ_cons,List.take_zero,List.drop_succ_cons,List.drop_zero,List.map_cons,List.map_nil,List.cons_append,List.nil_append,blank]
  repeat
   first
    | (refine BigFrame.wpQuiet_skip (by rfl) ?_
       simp only [Act.put,sx])
    | (refine BigFrame.wpQuiet_want (by rfl) (fun K hK=>?_)
       apply Exists.intro
       refine ⟨fun wq hq=>?_,hK _ ?_⟩
       ·obtain ⟨hqb,hqo⟩:=hq
        have c0:=hqo.cell hx
        unfold Oper.quietAt
        go_simp
        first
         | with_reducible rfl
         | ((go_at_call 127);with_reducible refine (hsh _).mono ?_;exact fun e w' ⟨he,hb⟩=>⟨he,by rw [← hb];exact ⟨hqb,hqo⟩⟩)
       clear hK K
       simp only [Act.put,sx])
  refine wpQuiet_nil ?_
  intro w4 hX
  obtain ⟨hqb,hqo⟩:=hX
  have c0:=hqo.cell hx
  have z0:=hqo.frozen j
  have hfin:=hst j (y*256+x%256) w4 hqb hqo
  go_wp2
  rw [N1,O1]
  exact bodyPost_end (v:=.tuple #[]) (by simp [results,Tryz.results133,go_sem]) rfl ⟨rfl,hfin.1,hfin.2⟩
theorem rset_any (base:Nat) (r:Value) (l:List Int) (hl:l.length≤1099511627776) (hw:wordsB l=true) (a:Nat) (ha:a<2*l.length) (v:Int) (hv:0≤v∧v≤255) (w:World) (ho:Own base w r l) :
 Calls Tryz.prog 103 #[r,.int .i64 (a:Int),.int .i64 v] w fun e w'=>e=.returned (.tuple #[])∧Own base w' r (setN l a v)∧Below base w w':=by
 obtain ⟨g,cap,rfl,hg,hcap,hgl⟩:=ho.form (by omega)
 obtain ⟨hv0,hv1⟩:=hv
 have hk:a / 2<l.length:=by omega
 have hx:=List.getElem?_eq_getElem hk
 have hxb:=(qds l).1 hw _ (List.getElem_mem hk)
 have e0:=fun h=>qkz (a:=a) (v:=v) h hx
 have e1:=fun h=>qoi (a:=a) (v:=v) h hx
 rw [show v%256=v by omega] at e0 e1
 have hst:=fun k x=>qoo ho hg k x (Below.refl base w) ho
 generalize l[a / 2]=x at *
 obtain ⟨hx0,hx1⟩:=hxb
 have N0:=a65280 hx0 hx1
 have N1:=a255 x
 have O0:=or_hi (h:=x / 256) (l:=v) (by omega) (by omega) (by omega) (by omega)
 have O1:=or_lo (h:=v) (l:=x%256) (by omega) (by omega) (by omega) (by omega)
 have hi:(a:Int) / 2=((a / 2:Nat):Int):=by omega
 have c0:=ho.cell hx
 have z0:=ho.frozen (a / 2)
 rcases Nat.mod_two_eq_zero_or_one a with h|h
 ·have hm:(a:Int)%2=0:=by omega
  rw [e0 h]
  have hfin:=hst (a / 2) (x / 256*256+v)
  clear e0 e1 h O1 N1 hw hx hst
  generalize hj:a / 2=j at *
  have hj:=hid hj
  generalize x / 256*256+v=V at *
  go_enter Tryz.func103,Tryz.ntmps103
  go_wp2
  exact bodyPost_end (v:=.tuple #[]) (by simp [results,Tryz.results103,go_sem]) rfl ⟨rfl,hfin.1,hfin.2⟩
 ·have hm:(a:Int)%2=1:=by omega
  rw [e1 h]
  have hfin:=hst (a / 2) (v*256+x%256)
  clear e0 e1 h O0 N0 hw hx hst
  generalize hj:a / 2=j at *
  have hj:=hid hj
  generalize v*256+x%256=V at *
  go_enter Tryz.func103,Tryz.ntmps103
  go_wp2
  exact bodyPost_end (v:=.tuple #[]) (by simp [results,Tryz.results103,go_sem]) rfl ⟨rfl,hfin.1,hfin.2⟩
theorem made_own (w:World) (k:Nat) (hk:k≤1099511627776):Own w.heap.size (w.alloc (.cells (madeCells #[.int .i64 0] k) 3)) (.slice (some ⟨w.heap.size,0,none⟩) k k) (List.replicate k 0):=by
 have h:=qmm (B:=w.heap.size) (l:=List.replicate k 0) (X:=List.replicate k (Value.int .i64 0)) (by rw [List.map_replicate]) (qko w k) (Nat.le_refl _) (by rw [List.length_replicate];exact hk)
 rw [List.length_replicate] at h
 exact h
theorem rnew_any (n:Int) (w:World):Calls Tryz.prog 66 #[.int .i64 n] w fun e w'=>∃ r,e=.returned (.tuple #[r,.int .i64 (newE n)])∧Own w.heap.size w' r (newL n)∧Below w.heap.size w w':=by
 have ha:=fun w=>qoy n w
 unfold newE newL
 cases hq:okS n
 ·rw [hq] at ha
  clear hq
  go_enter Tryz.func66,Tryz.ntmps66
  go_wp2_with (first|(go_at_call 76;with_reducible refine (ha _).mono ?_;rintro e w' ⟨rfl,rfl⟩))
  go_ret2
  exact ⟨_,rfl,Own.nil _ _,Below.refl _ _⟩
 ·rw [hq] at ha
  obtain ⟨h0,h1,h2⟩:=qrk.1 hq
  obtain ⟨k,hk⟩:=Int.eq_ofNat_of_zero_le (show 0≤n / 2 by omega)
  have hmk:=run_make_row' (P:=Tryz.prog) 26 3 (.int .i64 0) 8 Tryz.underlying26 qk9 rfl .i64 .i64 k (by omega) (by omega)
  have hown:=made_own w k (by omega)
  have hB:Below w.heap.size w (w.alloc (.cells (madeCells #[.int .i64 0] k) 3)):=(Below.refl _ _).alloc (Nat.le_refl _) _
  simp only [if_true]
  rw [hk,Int.toNat_natCast]
  clear hq h2
  go_enter Tryz.func66,Tryz.ntmps66
  go_wp2_with (first|(go_at_call 76;with_reducible refine (ha _).mono ?_;rintro e w' ⟨rfl,rfl⟩))
  go_ret2
  exact ⟨_,rfl,hown,hB⟩
theorem no_mem {x:Int} {l:List Int} (h:l.contains x=false):∀ y∈l,y≠x:=by
 intro y hy e
 subst e
 rw [List.contains_iff_mem.2 hy] at h
 cases h
theorem qp3 {x:Int} {l:List Int} (h:l.contains x=false):withoutP l x=l:=by
 unfold withoutP
 rw [List.filter_eq_self]
 intro y hy
 simpa using no_mem h y hy
theorem ge_no {x:Int} {r:List Int} (h:∀ y∈r,x<y):r.filter (fun y=>y != x)=r:=by
 rw [List.filter_eq_self]
 intro y hy
 have:=h y hy
 simp;omega
theorem qhj (x:Int):∀ (l:List Int),l.Pairwise (·<·)→l.contains x=true→withoutP l x=l.take (lowN l x)++l.drop (lowN l x+1)∧lowN l x<l.length
 | [],_,h=>by simp at h
 | a :: r,hs,h=>by
   have hs':=List.pairwise_cons.1 hs
   by_cases hax:a<x
   ·have hr:r.contains x=true:=by
     rw [List.contains_cons] at h
     have:(x == a)=false:=by simp;omega
     rw [this] at h;exact h
    obtain ⟨h1,h2⟩:=qhj x r hs'.2 hr
    rw [qkv hax]
    refine ⟨?_,by simp;omega⟩
    unfold withoutP at h1 ⊢
    rw [List.filter_cons_of_pos (by simp;omega),h1]
    rfl
   ·have hxa:x=a:=by
     rcases List.mem_cons.1 (List.contains_iff_mem.1 h) with e|e
     ·exact e
     ·have:=hs'.1 x e;omega
    subst hxa
    rw [qkr hs hax]
    refine ⟨?_,by simp⟩
    unfold withoutP
    rw [List.filter_cons_of_neg (by simp),ge_no hs'.1]
    rfl
theorem qpn {α:Type} (Z X Y:List α) (h:Z.length=X.length+Y.length):splice (splice Z 0 X) X.length Y=X++Y:=by
 have e1:splice Z 0 X=X++Z.drop X.length:=by simp [splice]
 rw [e1]
 unfold splice
 rw [List.take_left,List.drop_eq_nil_of_le (by simp;omega),List.append_nil]
theorem qge {w:World} {p:Addr} {l:List Int} (hc:∀ j x,l[j]? = some x→∃ a:Addr,some p=some a∧w.cell? (a.add j)=some (.int .i64 x)∧(a.add j).block<w.heap.size) {w':World} (hb:Below w.heap.size w w')
 (k:Nat) {m:List Int} (hm:∀ j x,m[j]? = some x→l[k+j]? = some x) {X:List Value} (hX:X=m.map (Value.int .i64)):∀ j v,X[j]? = some v→w'.cell? (p.add (k+j))=some v:=by
 subst hX
 intro j v hv
 rw [List.getElem?_map] at hv
 cases hx:m[j]? with
 | none=>rw [hx] at hv;cases hv
 | some x =>
   rw [hx] at hv
   obtain ⟨a,ha,h1,h2⟩:=hc (k+j) x (hm j x hx)
   have hvx:Value.int .i64 x=v:=Option.some.inj hv
   rw [Option.some.inj ha,← hvx]
   exact (hb.cell h2).trans h1
theorem take_at {l:List Int} (i:Nat):∀ j x,(l.take i)[j]? = some x→l[0+j]? = some x:=by
 intro j x h
 have hj:j<i:=by have:=(List.getElem?_eq_some_iff.1 h).1;simp at this;omega
 rw [List.getElem?_take_of_lt hj] at h
 rw [Nat.zero_add];exact h
theorem drop_at {l:List Int} (i:Nat):∀ j x,(l.drop i)[j]? = some x→l[i+j]? = some x:=by
 intro j x h
 rw [List.getElem?_drop] at h;exact h
theorem add_add (p:Addr) (k j:Nat):(⟨p.block,p.off+(k+1),none⟩:Addr).add j=p.add (k+1+j):=by
 unfold Addr.add
 rw [if_neg (show ¬ k+1+j=0 by omega)]
 split
 ·next h=>subst h;rfl
 ·simp only [Addr.mk.injEq,true_and,and_true];omega
theorem own_row' {B g k:Nat} {w:World} {l:List Int} {X:List Value} (hX:X=l.map (Value.int .i64)) (h:Hid (w.heap[g]? = some (.cells X.toArray 3 (0,0)))) (hb:B≤g) (hk:l.length=k) (hl:k≤1099511627776):Own B w (.slice (some ⟨g,0,none⟩) k k) l:=by
 subst hk;exact qmm hX h hb hl
set_option maxHeartbeats 4000000 in
theorem qni (v:Value) (l:List Int) (hl:l.length≤1099511627776) (hs:l.Pairwise (·<·)) (x:Int) (w:World) (hv:Nums .i64 w v l) :
 Calls Tryz.prog 134 #[v,.int .i64 x] w fun e w'=>∃ r,e=.returned r∧Own w.heap.size w' r (withoutP l x)∧Below w.heap.size w w':=by
 have hsr:=qig v l hl hs x w hv
 have hcp:=qgk v l hl w hv
 cases hq:l.contains x
 ·rw [qp3 hq]
  rw [hq] at hsr
  generalize ((lowN l x:Nat):Int)=i at *
  clear hs hq hv
  go_enter Tryz.func134,Tryz.ntmps134
  go_wp2_with (first|(go_at_call 83;with_reducible refine hsr.mono ?_;rintro e w' ⟨rfl,rfl⟩)|(go_at_call 132;with_reducible refine hcp.mono ?_;rintro e w' ⟨r,rfl,ho,hb⟩))
  go_ret
  exact ⟨_,rfl,ho,hb⟩
 ·obtain ⟨hw,hi⟩:=qhj x l hs hq
  rw [hw]
  rw [hq] at hsr
  generalize lowN l x=i at *
  clear hw hq hs hcp
  obtain ⟨A,c,rfl,hlc,hc⟩:=hv
  obtain ⟨p,rfl,_⟩:=hc 0 _ (List.getElem?_eq_getElem (show 0<l.length by omega))
  obtain ⟨m,hm⟩:∃ m,l.length=m+1:=⟨l.length - 1,by omega⟩
  have hmi:(l.length:Int) - 1=(m:Int):=by omega
  have hmk:=run_make_row' (P:=Tryz.prog) 26 3 (.int .i64 0) 8 Tryz.underlying26 qk9 rfl .i64 .i64 m (by omega) (by omega)
  have hB:Below w.heap.size w (w.alloc (.cells (madeCells #[.int .i64 0] m) 3)):=(Below.refl _ _).alloc (Nat.le_refl _) _
  obtain ⟨X,hX⟩:∃ X,X=(l.take i).map (Value.int .i64):=⟨_,rfl⟩
  obtain ⟨Y,hY⟩:∃ Y,Y=(l.drop (i+1)).map (Value.int .i64):=⟨_,rfl⟩
  have hXl:X.length=i:=by rw [hX,List.length_map,List.length_take];omega
  have hYl:Y.length=m - i:=by rw [hY,List.length_map,List.length_drop];omega
  have hXc:=qge hc hB 0 (take_at i) hX
  have hYc:=fun w' (hb:Below w.heap.size w w')=>qge hc hb (i+1) (drop_at (i+1)) hY
  have hX1:∀ v∈X,v.oneCell'=true:=by rw [hX];exact qg2 _
  have hY1:∀ v∈Y,v.oneCell'=true:=by rw [hY];exact qg2 _
  replace hX:=hid hX
  replace hY:=hid hY
  replace hm:=hid hm
  clear hc
  go_enter Tryz.func134,Tryz.ntmps134
  go_wp2_with (first
   | (go_at_call 83;with_reducible refine hsr.mono ?_;rintro e w' ⟨rfl,rfl⟩)
   | (with_reducible refine wpList_copy_splice rfl (.tmp 22) (.tmp 25) 26 26 rfl 3 Tryz.underlying26 (by kernel_rfl) (some ⟨w.heap.size,0,none⟩) (some p) m m i c rfl rfl w.heap.size 0 (List.replicate m (.int .i64 0)) 3 (qko _ _) X (by rw [hXl];unfold Hid at hm;exact (Nat.min_eq_left (by omega)).symm) (fun _=>⟨rfl,p,rfl,by simpa using hXc⟩) (by rw [List.length_replicate];unfold Hid at hm;omega) hX1 w.heap.size w hB (Nat.le_refl _) ?_;intro w2 HG HB))
  replace HG:=id HG
  have hZl:(splice (List.replicate m (Value.int .i64 0)) 0 X).length=m:=by rw [length_splice _ _ _ (by rw [List.length_replicate];unfold Hid at hm;omega),List.length_replicate]
  have hYc:=hYc w2 HB
  have V1:IntKind.i64.wrap ((i:Int)+1)=(i:Int)+1:=by rw [qaf];exact IntWalk.wrap64_in _ ⟨by omega,by omega⟩
  generalize hZ:splice (List.replicate m (Value.int .i64 0)) 0 X=Z at *
  replace hZ:=hid hZ
  have d1:0≤(i:Int)+1:=by omega
  have d2:(i:Int)+1≤(l.length:Int):=by omega
  have c3:i+1≤l.length:=by omega
  have hZm:Z.length=X.length+Y.length:=by rw [hZl,hXl,hYl];unfold Hid at hm;omega
  have hend:∀ w3:World,Hid (w3.heap[w.heap.size]? = some (.cells (splice Z i Y).toArray 3 (0,0)))→Own w.heap.size w3 (.slice (some ⟨w.heap.size,0,none⟩) m m) (l.take i++l.drop (i+1)):=by
   intro w3 h
   unfold Hid at hX hY hZ hm
   refine own_row' (X:=splice Z i Y) ?_ h (Nat.le_refl _) (by rw [List.length_append,List.length_take,List.length_drop];omega) (by omega)
   have e:=qpn (List.replicate m (Value.int .i64 0)) X Y (by rw [List.length_replicate,← hZl];exact hZm)
   rw [hZ,hXl] at e
   rw [e,List.map_append,hX,hY]
  by_cases him:i<m
  ·have c1:i≤m:=by omega
   have c2:¬ m=i:=by omega
   have c4:¬ c=i+1:=by unfold Hid at hm;omega
   go_region_law (refine step_copy_splice rfl (.tmp 29) (.tmp 33) 26 26 rfl 3 Tryz.underlying26 (by kernel_rfl) (some ⟨w.heap.size,i,none⟩) (some ⟨p.block,p.off+(i+1),none⟩) (m - i) (m - i) (l.length - (i+1)) (c - (i+1)) (by simp [Act.eval,Act.put]) (by simp [Act.eval,Act.put]) w.heap.size i Z 3 HG Y (by rw [hYl];unfold Hid at hm;exact (Nat.min_eq_right (by omega)).symm) (fun _=>⟨rfl,_,rfl,fun j v hv=>by rw [add_add];exact hYc j v hv⟩) (by rw [hZl,hYl];omega) hY1 w.heap.size w HB.drew (Nat.le_refl _) ?_;intro w3 HG3 HB3)
   all_goals
    replace HG3:=hend w3 HG3
    go_wp2
    go_ret
    exact ⟨_,rfl,HG3,HB3⟩
  ·obtain rfl:i=m:=by unfold Hid at hm;omega
   by_cases hcc:c=i+1
   ·subst hcc
    go_region_law (refine step_copy_splice rfl (.tmp 29) (.tmp 33) 26 26 rfl 3 Tryz.underlying26 (by kernel_rfl) (some ⟨w.heap.size,0,none⟩) (some p) 0 0 0 0 (by simp [Act.eval,Act.put]) (by simp [Act.eval,Act.put]) w.heap.size i Z 3 HG Y (by rw [hYl,Nat.sub_self];exact (Nat.min_zero _).symm) (fun h=>absurd h (by rw [hYl];omega)) (by rw [hZl,hYl];omega) hY1 w.heap.size w HB.drew (Nat.le_refl _) ?_;intro w3 HG3 HB3)
    all_goals
     replace HG3:=hend w3 HG3
     go_wp2
     go_ret
     exact ⟨_,rfl,HG3,HB3⟩
   ·go_region_law (refine step_copy_splice rfl (.tmp 29) (.tmp 33) 26 26 rfl 3 Tryz.underlying26 (by kernel_rfl) (some ⟨w.heap.size,0,none⟩) (some ⟨p.block,p.off+(i+1),none⟩) 0 0 (l.length - (i+1)) (c - (i+1)) (by simp [Act.eval,Act.put]) (by simp [Act.eval,Act.put]) w.heap.size i Z 3 HG Y (by rw [hYl,Nat.sub_self];exact (Nat.min_zero _).symm) (fun h=>absurd h (by rw [hYl];omega)) (by rw [hZl,hYl];omega) hY1 w.heap.size w HB.drew (Nat.le_refl _) ?_;intro w3 HG3 HB3)
    all_goals
     replace HG3:=hend w3 HG3
     go_wp2
     go_ret
     exact ⟨_,rfl,HG3,HB3⟩
theorem own_snoc {B:Nat} {w:World} {v:Value} {out:List Int} {y:Int} (h:w.ownsRow B 3 1 v (out.length+1) (out.map (Value.int .i64)++[.int .i64 y])):Own B w v (out++[y]):=by
 unfold Own
 rw [List.length_append,List.map_append]
 exact h
theorem ql4 {l:List Int} {k:Nat} {y:Int} (h:l[k]? = some y) (x:Int):withoutP (l.drop k) x=(if y=x then [] else [y])++withoutP (l.drop (k+1)) x:=by
 have hk:k<l.length:=(List.getElem?_eq_some_iff.1 h).1
 rw [List.drop_eq_getElem_cons hk,(List.getElem?_eq_some_iff.1 h).2]
 unfold withoutP
 by_cases e:y=x
 ·rw [List.filter_cons_of_neg (by simp [e]),if_pos e];rfl
 ·rw [List.filter_cons_of_pos (by simpa using e),if_neg e];rfl
theorem ql5 (v:Value) (l:List Int) (hl:l.length≤1099511627776) (x:Int) (w:World) (hv:Nums .i64 w v l) :
 Calls Tryz.prog 104 #[v,.int .i64 x] w fun e w'=>∃ r,e=.returned r∧Own w.heap.size w' r (withoutP l x)∧Below w.heap.size w w':=by
 obtain ⟨i0,hti,hz0,hz1,hz2⟩:=info_parts qk9
 obtain ⟨A,c,rfl,_,hc⟩:=hv
 go_enter Tryz.func104,Tryz.ntmps104
 go_wp2
 go_loopw [5,6] (fun v i wr=>∃ (k:Nat) (out:List Int),k≤l.length∧i=.int .i64 k∧wr.ownsRow w.heap.size 3 1 v out.length (out.map (Value.int .i64))∧out.length≤k∧Below w.heap.size w wr∧Hid (withoutP l x=out++withoutP (l.drop k) x))
  (fun _ i _=>match i with|.int _ q=>l.length - q.toNat|_=>0)
 case atStart=>exact ⟨0,[],Nat.zero_le _,rfl,World.ownsRow_nil _ _ _ _,Nat.le_refl _,Below.refl _ _,rfl⟩
 case round =>
  obtain ⟨k,out,hk,rfl,hown,hol,hB,hQ⟩:=hrel
  by_cases hkl:k<l.length
  ·have hx:=List.getElem?_eq_getElem hkl
   generalize l[k]=y at *
   obtain ⟨a,rfl,hc1,hc2⟩:=hc k y hx
   have hcy:=(hB.cell hc2).trans hc1
   have hd:=hid (ql4 hx x)
   clear hx hc hc1 hc2
   by_cases hyx:y=x
   ·have hyb:(y != x)=false:=by simpa using hyx
    replace hyx:=hid hyx
    go_wp2
    refine ⟨⟨k+1,out,by omega,by go_num,hown,by omega,hB,?_⟩,by simp only;omega⟩
    show _=_
    rw [show withoutP l x=_ from hQ,show withoutP (List.drop k l) x=_ from hd,if_pos (show y=x from hyx)];rfl
   ·have hyb:(y != x)=true:=by simpa using hyx
    replace hyx:=hid hyx
    go_wp2_with (first|(at_builtin;refine wpList_append_own _ rfl (.tmp 19) (.tmp 24) 26 rfl w.heap.size 3 i0 (.int .i64 0) 1 8 Tryz.underlying26 hti hz0 hz1 hz2 rfl (by decide) _ _ _ rfl (World.ownsRow.alloc hown _) ⟨wr.heap.size,0,none⟩ 1 1 [.int .i64 y] rfl rfl (cell_one_new _ _ _) (fun x hx=>by simp at hx;subst hx;rfl) (by unfold maxLen;omega) (by omega) (by have:=hB.size;simp;omega) ?_;intro v' w1 hown' hgrow _))
    have hO:=own_snoc hown'
    refine ⟨⟨k+1,out++[y],by omega,by go_num,hO,by rw [List.length_append,List.length_singleton];omega,(hB.alloc hB.size _).grown hgrow (by have:=hB.size;simp;omega) (fun j hj=>(World.ownsRow.lt hown j hj).1),?_⟩,by simp only;omega⟩
    show _=_
    rw [show withoutP l x=_ from hQ,show withoutP (List.drop k l) x=_ from hd,if_neg (show ¬ y=x from hyx),List.append_assoc]
  ·obtain rfl:k=l.length:=by omega
   have hQ2:withoutP l x=out:=by rw [show withoutP l x=_ from hQ,List.drop_length];simp [withoutP]
   replace hQ2:=hid hQ2
   clear hc hQ
   go_wp2
   go_ret
   exact ⟨_,rfl,by rw [show withoutP l x=_ from hQ2];exact hown,hB⟩
theorem Own.mono {B B':Nat} {w:World} {v:Value} {l:List Int} (h:Own B w v l) (hb:B'≤B):Own B' w v l:=World.ownsRow.mono h hb
theorem Own.opens {B j:Nat} {w w0:World} {v:Value} {l:List Int} {x:Int} (h:Own B w v l) (hx:Hid (l[j]? = some x)) (hb:Below B w0 w) (y:Int) :
 ∃ g cap,v=.slice (some ⟨g,0,none⟩) l.length cap∧w.cell? ⟨g,j,none⟩=some (.int .i64 x)∧w.frozen? ⟨g,j,none⟩=false∧Below B w0 (w.setCell ⟨g,j,none⟩ (.int .i64 y))∧Own B (w.setCell ⟨g,j,none⟩ (.int .i64 y)) (.slice (some ⟨g,0,none⟩) l.length cap) (l.set j y):=by
 obtain ⟨g,cap,rfl,hg,_,_⟩:=h.form (by have:=(List.getElem?_eq_some_iff.1 hx).1;omega)
 exact ⟨g,cap,rfl,h.cell hx,h.frozen j,hb.setCell hg _,h.set j y⟩
theorem qr6 {mem:List Int} {a v:Int} {b:Bool} (h:accP (2*(mem.length:Int)) a b=false):writeM mem a b v=[]:=if_neg (by rw [h];decide)
theorem qt8 {mem:List Int} {a v:Int} {b:Bool} (h:accP (2*(mem.length:Int)) a b=true):writeM mem a b v=wordW mem a b v:=if_pos h
theorem qt0 {n a:Int} {bad:List Int} {b:Bool} (h:accP n a b=false):writeB n bad a b=[]:=if_neg (by rw [h];decide)
theorem qti {n a:Int} {bad:List Int} {b:Bool} (h:accP n a b=true):writeB n bad a b=withoutP bad (evenP a):=if_pos h
set_option maxHeartbeats 4000000 in
theorem qta (vm vb:Value) (mem bad:List Int) (hl:mem.length≤1099511627776) (hl2:bad.length≤1099511627776) (hW:wordsB mem=true) (hs:bad.Pairwise (·<·)) (a:Int) (b:Bool) (v:Int) (w:World) (hm:Nums .i64 w vm mem) (hb:Nums .i64 w vb bad) :
 Calls Tryz.prog 102 #[vm,vb,.int .i64 a,.bool b,.int .i64 v] w fun e w'=>∃ r s,e=.returned (.tuple #[r,s,.int .i64 (writeT (2*(mem.length:Int)) a b)])∧Own w.heap.size w' r (writeM mem a b v)∧Own w.heap.size w' s (writeB (2*(mem.length:Int)) bad a b)∧Below w.heap.size w w':=by
 have hcp:=qgk vm mem hl w hm
 have hwo:=fun w' (hB:Below w.heap.size w w')=>qni vb bad hl2 hs (evenP a) w' (hb.below hB)
 obtain ⟨A,c,rfl,_,hc⟩:=hm
 have hac:=fun w=>qe9 A mem.length c hl a b w
 clear hb hc
 cases hq:accP (2*(mem.length:Int)) a b
 ·rw [qsl hq,qr6 hq,qt0 hq]
  rw [hq] at hac
  clear hq hcp hwo
  go_enter Tryz.func102,Tryz.ntmps102
  go_wp2_with (first|(go_at_call 82;with_reducible refine (hac _).mono ?_;rintro e w' ⟨rfl,rfl⟩))
  go_ret3
  exact ⟨_,_,rfl,Own.nil _ _,Own.nil _ _,Below.refl _ _⟩
 ·obtain ⟨h0,h1,h2⟩:=qrv hq
  rw [qqw hq,qt8 hq,qti hq]
  rw [hq] at hac
  have hwa:=fun w=>ql6 a h0 (by omega) w
  clear hq
  obtain ⟨k,rfl⟩:=Int.eq_ofNat_of_zero_le h0
  unfold wordW
  rw [Int.toNat_natCast]
  have hsb:=fun r w1 (ho:Own w.heap.size w1 r mem)=>qho w.heap.size r mem hl hW k (by omega) v w1 ho
  generalize withoutP bad (evenP (k:Int))=L at *
  generalize evenP (k:Int)=p at *
  cases b
  ·simp only [Bool.false_eq_true,if_false]
   have hk:k / 2<mem.length:=by omega
   have hx:=List.getElem?_eq_getElem hk
   generalize mem[k / 2]=x at *
   have hi:(k:Int) / 2=((k / 2:Nat):Int):=by omega
   have A0:=a65535 v
   clear hsb h2
   generalize v%65536=y at *
   generalize hj:k / 2=j at *
   replace hj:=hid hj
   replace hx:=hid hx
   have hpos:0<mem.length:=by omega
   go_enter Tryz.func102,Tryz.ntmps102
   go_wp2_with (first
    | (go_at_call 82;with_reducible refine (hac _).mono ?_;rintro e w' ⟨rfl,rfl⟩)
    | (go_at_call 132;with_reducible refine hcp.mono ?_;rintro e w1 ⟨r,rfl,ho,hB⟩;obtain ⟨g,cap,rfl,hcx,hfz,hB2,ho2⟩:=Own.opens ho hx hB y)
    | (go_at_call 84;with_reducible refine (hwa _).mono ?_;rintro e w' ⟨rfl,rfl⟩)
    | (go_at_call 134;with_reducible refine (hwo _ hB2).mono ?_;rintro e w3 ⟨s,rfl,hs3,hb3⟩))
   go_ret3
   exact ⟨_,_,rfl,ho2.step hb3,hs3.mono hB2.size,hB2.trans (hb3.mono hB2.size)⟩
  ·simp only [if_true]
   clear h2
   generalize setN mem k v=M at *
   go_enter Tryz.func102,Tryz.ntmps102
   go_wp2_with (first
    | (go_at_call 82;with_reducible refine (hac _).mono ?_;rintro e w' ⟨rfl,rfl⟩)
    | (go_at_call 132;with_reducible refine hcp.mono ?_;rintro e w1 ⟨r,rfl,ho,hB⟩)
    | (go_at_call 133;with_reducible refine (hsb _ _ ho).mono ?_;rintro e w2 ⟨rfl,ho2,hb2⟩;have hB2:=Below.trans hB hb2)
    | (go_at_call 84;with_reducible refine (hwa _).mono ?_;rintro e w' ⟨rfl,rfl⟩)
    | (go_at_call 134;with_reducible refine (hwo _ hB2).mono ?_;rintro e w3 ⟨s,rfl,hs3,hb3⟩))
   go_ret3
   exact ⟨_,_,rfl,ho2.step hb3,hs3.mono hB2.size,hB2.trans (hb3.mono hB2.size)⟩
theorem own_all {B:Nat} {w:World} {v:Value} {l:List Int} (h:w.ownsRow B 3 1 v (0+l.length) ([]++l.map (Value.int .i64))):Own B w v l:=by
 unfold Own
 rw [Nat.zero_add,List.nil_append] at h
 exact h
theorem qth (w:World):(w.alloc (.cells #[] 3)).ownsRow w.heap.size 3 1 (.slice (some ⟨w.heap.size,0,none⟩) 0 0) 0 []:=World.ownsRow_lit w #[] 0 (Nat.le_refl _) (by decide) rfl
theorem qtj {w:World} {p:Addr} {l:List Int} (hc:∀ j x,l[j]? = some x→∃ a:Addr,some p=some a∧w.cell? (a.add j)=some (.int .i64 x)∧(a.add j).block<w.heap.size) {w':World} (hb:Below w.heap.size w w'):∀ j u,(l.map (Value.int .i64))[j]? = some u→w'.cell? (p.add j)=some u:=by
 have h:=qge hc hb 0 (m:=l) (X:=l.map (Value.int .i64)) (fun j x hx=>by rw [Nat.zero_add];exact hx) rfl
 intro j u hu
 have:=h j u hu
 rwa [Nat.zero_add] at this
set_option maxHeartbeats 4000000
section
variable {X:Nat→Prop} {w:World} {A:Ma} {vm vb vl vs vd vt:Value}
theorem MaV.over {w':World} {B:Nat} (h:MaV X w A vm vb vl vs vd vt) (hk:∀ k,k≠B→w'.heap[k]? = w.heap[k]?) (hB:X B):MaV X w' A vm vb vl vs vd vt:=⟨Sv.over18 h.m hk hB,Sv.over18 h.b hk hB,Sv.over18 h.l hk hB,Sv.over18 h.s hk hB,Sv.over18 h.d hk hB,Sv.over18 h.t hk hB⟩
theorem MaV.less {Y:Nat→Prop} (h:MaV X w A vm vb vl vs vd vt) (hY:∀ b,Y b→X b):MaV Y w A vm vb vl vs vd vt:=⟨Sv.less18 h.m hY,Sv.less18 h.b hY,Sv.less18 h.l hY,Sv.less18 h.s hY,Sv.less18 h.d hY,Sv.less18 h.t hY⟩
theorem MaV.cone (h:MaV X w A vm vb vl vs vd vt) (hA:A.ok):∀ v∈A.cells vm vb vl vs vd vt,v.oneCell'=true:=Ma.cone hA h.o1 h.o2 h.o3 h.o4 h.o5 h.o6
end
theorem wrR_ok {A:Ma} (h:A.ok) (off v:Int):(A.wrR off v).1.ok:=by
 unfold Ma.wrR
 repeat' split
 all_goals first
  | exact h
  | exact ⟨h.1,h.2.1,qoc h.2.2 off v⟩
theorem qc0 (w:World):(sizeOf 26).run Tryz.prog w=.ok 1 w:=by kernel_rfl
theorem qrc (B j:Nat):(⟨B,0,none⟩:Addr).add j=⟨B,j,none⟩:=by unfold Addr.add;split<;>simp_all
section
variable {ops:Array Oper} {rest:List Oper} {o:Oper} {a:Act} {w w1:World} {Q:Exit→Act→World→Prop}
theorem qmp {P:Program} {l:List Oper} {T ty:TypeId} {n:Nat} {xs:Array (Nat×Operand)} {dst:Option Tmp} {pos:String} {after:Array Edge} {g:Option (Nat×Bool)} (h:wpList P ops Q ({dst:=dst,op:=.buildSlice T n xs,type:=ty,pos:=pos,after:=after,guard:=g} :: l) a w):wpList P ops Q ({dst:=dst,op:=.buildSlice T n xs,type:=ty,pos:=pos,after:=after,guard:=g} :: l) a w:=h
theorem qfa {y:Ln} (hg:o.guard=none) (x:Operand) (hop:o.op=Op.buildSlice 35 1 #[(0,x)]) (hx:a.eval x=.agg (lnL y).toArray) (hal:w1=w)
 (h:∀ w2,Below w.heap.size w w2→(∀ j u,(lnL y)[j]? = some u→w2.cell? ((⟨w.heap.size,0,none⟩:Addr).add j)=some u)→wpList Tryz.prog ops Q rest (a.put o.dst (.slice (some ⟨w.heap.size,0,none⟩) 1 1)) w2):wpList Tryz.prog ops Q (o :: rest) a w1:=by
 subst hal
 refine wpList_plain hg fun K hK=>?_
 have h1:=h (w1.alloc (.cells (lnL y).toArray 68)) ((Below.refl _ _).alloc (Nat.le_refl _) _) (fun j u hu=>by rw [qrc];exact (Blk.new _ _ _).cell hu)
 unfold Oper.wp execOp
 simp only [hop]
 generalize a.eval=E at hx ⊢
 have hl:lnL y=[.bool y.a,.bool y.b,.bool y.o,.int .i64 y.d,.bool y.e,.bool y.f,.int .i64 y.t,.int .i64 y.l,.string y.s]:=rfl
 rw [hl] at hx h1
 go_simp
 exact hK _ _ h1
end
theorem qa9 {P:Program} {ops:Array Oper} {Q:Exit→Act→World→Prop} {a:Act} {w:World} {l:List Oper} (T:TypeId) {ty:TypeId} {x y:Operand} {dst:Option Tmp} {pos:String} {after:Array Edge} {g:Option (Nat×Bool)} (h:wpList P ops Q ({dst:=dst,op:=.store T x y,type:=ty,pos:=pos,after:=after,guard:=g} :: l) a w):wpList P ops Q ({dst:=dst,op:=.store T x y,type:=ty,pos:=pos,after:=after,guard:=g} :: l) a w:=h
theorem qay {P:Program} {ops:Array Oper} {Q:Exit→Act→World→Prop} {a:Act} {w:World} {l:List Oper} (T:TypeId) {ty:TypeId} {x:Operand} {dst:Option Tmp} {pos:String} {after:Array Edge} {g:Option (Nat×Bool)} (h:wpList P ops Q ({dst:=dst,op:=.load T x,type:=ty,pos:=pos,after:=after,guard:=g} :: l) a w):wpList P ops Q ({dst:=dst,op:=.load T x,type:=ty,pos:=pos,after:=after,guard:=g} :: l) a w:=h
theorem qm5 {A:List Ln} {i:Nat} {x:Ln} (F:Ln→Ln) (hx:A[i]? = some x):((A.take i).map F).flatMap lnL++lnL (F x)=((A.take (i+1)).map F).flatMap lnL:=by
 rw [List.take_add_one,hx]
 simp
end Go.Proofs.YthpnddgfgpacpaaGreat
