import Derived.Test.YthpnddgfgpacpaaGreatRT10
import Derived.Test.YthpnddgfgpacpaaGreatRT00
import Derived.Deep.Draws
import Derived.Test.YthpnddgfgpacpaaGreatRT04
namespace Go.Proofs.YthpnddgfgpacpaaGreat
open Go.RowKit
set_option linter.unusedSimpArgs false
set_option linter.unusedVariables false
set_option maxHeartbeats 1000000
attribute [local irreducible] wpQuiet
theorem qon {P:Program} {f:FuncId} {args:Array Value} {w:World} {n:Nat} {v:Value}
 (h:Calls P f args (w.drewN n) fun e w'=>e=.returned v∧w.drewN n=w'):Calls P f args (w.drewN n) fun e w''=>e=.returned v∧∃ m,w''=w.drewN m :=
 h.mono fun _ _ ⟨he,hm⟩=>⟨he,n,hm.symm⟩
theorem qk7 {l:List Int} {a:Nat} {x:Int} (h:a%2=0) (hx:l[a / 2]? = some x):byteN l a=x%256:=by
 unfold byteN;rw [List.getD_eq_getElem?_getD,hx,h];simp
theorem qom {l:List Int} {a:Nat} {x:Int} (h:a%2=1) (hx:l[a / 2]? = some x):byteN l a=x / 256%256:=by
 unfold byteN;rw [List.getD_eq_getElem?_getD,hx,h];simp
theorem qi4 (v:Value) (l:List Int) (hl:l.length≤1099511627776) (a:Nat) (ha:a<2*l.length) (w:World) (hv:Nums .i64 w v l) :
 Calls Tryz.prog 85 #[v,.int .i64 (a:Int)] w fun e w'=>e=.returned (.int .i64 (byteN l a))∧Below w.heap.size w w':=by
 obtain ⟨A,c,rfl,_,hc⟩:=hv
 have hk:a / 2<l.length:=by omega
 have hx:=List.getElem?_eq_getElem hk
 have e0:=fun h=>qk7 (a:=a) h hx
 have e1:=fun h=>qom (a:=a) h hx
 generalize l[a / 2]=x at *
 obtain ⟨p,rfl,hcx,_⟩:=hc _ _ hx
 have hsh:=fun w=>qk4 a (by omega) w
 have A0:=a255 x
 have A1:=a255 (x / 256)
 have hi:(a:Int) / 2=((a / 2:Nat):Int):=by omega
 clear hc hx
 rcases Nat.mod_two_eq_zero_or_one a with h|h
 ·have hm:(a:Int)%2*8=0:=by omega
  rw [hm] at hsh
  rw [e0 h]
  clear e0 e1 h hm A1
  generalize x%256=r at *
  generalize hj:a / 2=j at *
  have hj:=hid hj
  go_enter Tryz.func85,Tryz.ntmps85
  go_wp2
  go_quiet ((first|(go_at_call 127;exact qon (hsh _))))
  go_wp2
  go_ret
  exact ⟨rfl,qb4 (Below.refl _ _) _⟩
 ·have hm:(a:Int)%2*8=8:=by omega
  rw [hm] at hsh
  rw [e1 h]
  clear e0 e1 h hm A0
  generalize x / 256%256=r at *
  generalize hj:a / 2=j at *
  have hj:=hid hj
  go_enter Tryz.func85,Tryz.ntmps85
  go_wp2
  go_quiet ((first|(go_at_call 127;exact qon (hsh _))))
  go_wp2
  go_ret
  exact ⟨rfl,qb4 (Below.refl _ _) _⟩
theorem qs3 (v:Value) (l:List Int) (hl:l.length≤1099511627776) (a:Nat) (ha:a<2*l.length) (w:World) (hv:Nums .i64 w v l) :
 Calls Tryz.prog 90 #[v,.int .i64 (a:Int)] w fun e w'=>e=.returned (.int .i64 (byteN l a))∧Below w.heap.size w w':=by
 obtain ⟨A,c,rfl,_,hc⟩:=hv
 have hk:a / 2<l.length:=by omega
 have hx:=List.getElem?_eq_getElem hk
 have e0:=fun h=>qk7 (a:=a) h hx
 have e1:=fun h=>qom (a:=a) h hx
 generalize l[a / 2]=x at *
 obtain ⟨p,rfl,hcx,_⟩:=hc _ _ hx
 have A0:=a255 x
 have A1:=a255 (x / 256)
 have hi:(a:Int) / 2=((a / 2:Nat):Int):=by omega
 clear hc hx
 rcases Nat.mod_two_eq_zero_or_one a with h|h
 ·have hm:(a:Int)%2=0:=by omega
  rw [e0 h]
  clear e0 e1 h A1
  generalize x%256=r at *
  generalize hj:a / 2=j at *
  have hj:=hid hj
  go_enter Tryz.func90,Tryz.ntmps90
  go_wp2
  go_ret
  exact ⟨rfl,Below.refl _ _⟩
 ·have hm:(a:Int)%2=1:=by omega
  rw [e1 h]
  clear e0 e1 h A0
  generalize x / 256%256=r at *
  generalize hj:a / 2=j at *
  have hj:=hid hj
  go_enter Tryz.func90,Tryz.ntmps90
  go_wp2
  go_ret
  exact ⟨rfl,Below.refl _ _⟩
theorem cnan_any (x:Int) (w:World):Calls Tryz.prog 142 #[.int .i64 x] w fun e w'=>e=.returned (.bool false)∧w=w':=by
 go_enter Tryz.func142,Tryz.ntmps142
 go_wp2
 go_ret
 exact ⟨qbh (by simp),rfl⟩
theorem snan_any (x:Int) (w:World):Calls Tryz.prog 126 #[.int .i64 x] w fun e w'=>e=.returned (.bool false)∧w=w':=by
 go_enter Tryz.func126,Tryz.ntmps126
 go_wp2
 go_ret
 exact ⟨qbh (by simp),rfl⟩
theorem less_any (x y:Int) (w:World):Calls Tryz.prog 125 #[.int .i64 x,.int .i64 y] w fun e w'=>e=.returned (.bool (decide (x<y)))∧w=w':=by
 have h:=fun w=>cnan_any x w
 go_enter Tryz.func125,Tryz.ntmps125
 go_wp2_with (first|(go_at_call 142;with_reducible refine (h _).mono ?_;rintro e w' ⟨rfl,rfl⟩))
 go_ret
 exact ⟨rfl,rfl⟩
theorem qig (v:Value) (l:List Int) (hl:l.length≤1099511627776) (hs:l.Pairwise (·<·)) (x:Int) (w:World) (hv:Nums .i64 w v l) :
 Calls Tryz.prog 83 #[v,.int .i64 x] w fun e w'=>e=.returned (.tuple #[.int .i64 ((lowN l x:Nat):Int),.bool (l.contains x)])∧w=w':=by
 obtain ⟨A,c,rfl,_,hc⟩:=hv
 have hless:=fun y w=>less_any y x w
 have hnan:=fun y w=>snan_any y w
 have hiff:=hid (qto (x:=x) l hs)
 have hsome:=fun y=>qn8 (x:=x) (y:=y) l hs
 have hnone:=qoq (x:=x) l hs
 have hle:=low_le x l
 clear hs
 generalize lowN l x=k at *
 replace hnone:=hid hnone
 replace hsome:=hid hsome
 obtain ⟨Q,hQ⟩:∃ Q,Hid (Q=l.contains x):=⟨_,rfl⟩
 rw [← show Q=l.contains x from hQ]
 go_enter Tryz.func83,Tryz.ntmps83
 go_wp2
 go_loopw [7,8] (fun p q wr=>∃ lo hi:Nat,p=.int .i64 lo∧q=.int .i64 hi∧lo≤k∧k≤hi∧hi≤l.length∧w=wr)
  (fun p q _=>match p,q with|.int _ a,.int _ b=>(b - a).toNat|_,_=>0)
 case atStart=>exact ⟨0,l.length,rfl,rfl,Nat.zero_le _,hle,Nat.le_refl _,rfl⟩
 case round =>
  obtain ⟨lo,hi,rfl,rfl,hlo,hhi,hin,rfl⟩:=hrel
  by_cases hlt:lo<hi
  ·have hx:=List.getElem?_eq_getElem (show (lo+hi) / 2<l.length by omega)
   generalize l[(lo+hi) / 2]=y at *
   have hy:=(show ∀ (m:Nat) (y:Int),l[m]? = some y→(y<x↔m<k) from hiff) _ _ hx
   obtain ⟨a,rfl,hcy,_⟩:=hc _ _ hx
   clear hx hc
   by_cases hyx:y<x
   ·have hmk:=hy.1 hyx
    clear hy
    go_wp2_with (first|(go_at_call 125;with_reducible refine (hless _ _).mono ?_;rintro e w' ⟨rfl,rfl⟩))
    refine ⟨⟨(lo+hi) / 2+1,hi,by rw [show ((lo:Int)+(hi:Int)) / 2+1=(((lo+hi) / 2+1:Nat):Int) by omega],rfl,by omega,hhi,hin,by first|rfl|trivial⟩,?_⟩
    simp only;omega
   ·have hmk:=mt hy.2 hyx
    clear hy
    go_wp2_with (first|(go_at_call 125;with_reducible refine (hless _ _).mono ?_;rintro e w' ⟨rfl,rfl⟩))
    refine ⟨⟨lo,(lo+hi) / 2,rfl,by rw [show ((lo:Int)+(hi:Int)) / 2=(((lo+hi) / 2:Nat):Int) by omega],hlo,by omega,by omega,by first|rfl|trivial⟩,?_⟩
    simp only;omega
  ·obtain rfl:k=lo:=by omega
   obtain rfl:k=hi:=by omega
   by_cases hn:k<l.length
   ·have hx:=List.getElem?_eq_getElem hn
    generalize l[k]=y at *
    have hy:=(show ∀ y,l[k]? = some y→l.contains x=decide (y=x) from hsome) _ hx
    obtain ⟨a,rfl,hcy,_⟩:=hc _ _ hx
    have hQ:Hid (Q=decide (y=x)):=by show _=_;rw [← hy];exact hQ
    clear hx hc hy hlo hhi
    by_cases hyx:y=x
    ·have hQ:Hid (Q=true):=by show _=_;rw [show Q=_ from hQ];simp [hyx]
     go_wp2_with (first|(go_at_call 126;with_reducible refine (hnan _ _).mono ?_;rintro e w' ⟨rfl,rfl⟩))
     go_ret2
     exact ⟨by rw [show Q=true from hQ];first|rfl|simp [*],rfl⟩
    ·have hQ:Hid (Q=false):=by show _=_;rw [show Q=_ from hQ];simp [hyx]
     go_wp2_with (first|(go_at_call 126;with_reducible refine (hnan _ _).mono ?_;rintro e w' ⟨rfl,rfl⟩))
     go_ret2
     exact ⟨by rw [show Q=false from hQ];first|rfl|simp [*],rfl⟩
   ·have hQ:Hid (Q=false):=by show _=_;rw [show Q=_ from hQ];exact (show l.length≤k→l.contains x=false from hnone) (by omega)
    clear hc hlo hhi
    go_wp2_with (first|(go_at_call 126;with_reducible refine (hnan _ _).mono ?_;rintro e w' ⟨rfl,rfl⟩))
    go_ret2
    exact ⟨by rw [show Q=false from hQ];first|rfl|simp [*],rfl⟩
theorem qjn {l:List Int} {k:Nat} {y:Int} (h:l[k]? = some y) (x:Int):(l.drop k).contains x=(decide (y=x) || (l.drop (k+1)).contains x):=by
 have hk:k<l.length:=(List.getElem?_eq_some_iff.1 h).1
 rw [List.drop_eq_getElem_cons hk,(List.getElem?_eq_some_iff.1 h).2,List.contains_cons]
 congr 1
 rw [Bool.eq_iff_iff];simp;exact eq_comm
theorem has_any (v:Value) (l:List Int) (hl:l.length≤1099511627776) (x:Int) (w:World) (hv:Nums .i64 w v l) :
 Calls Tryz.prog 89 #[v,.int .i64 x] w fun e w'=>e=.returned (.bool (l.contains x))∧w=w':=by
 obtain ⟨A,c,rfl,_,hc⟩:=hv
 obtain ⟨Q,hQ⟩:∃ Q,Hid (Q=l.contains x):=⟨_,rfl⟩
 rw [← show Q=l.contains x from hQ]
 go_enter Tryz.func89,Tryz.ntmps89
 go_wp2
 go_loopw [5] (fun i wr=>∃ k:Nat,k≤l.length∧i=.int .i64 k∧wr=w∧Hid (Q=(l.drop k).contains x))
  (fun i _=>match i with|.int _ q=>l.length - q.toNat|_=>0)
 case atStart=>exact ⟨0,Nat.zero_le _,rfl,rfl,by rw [List.drop_zero];exact hQ⟩
 case round =>
  clear hQ
  obtain ⟨k,hk,rfl,rfl,hQ⟩:=hrel
  by_cases hkl:k<l.length
  ·have hx:=List.getElem?_eq_getElem hkl
   generalize l[k]=y at *
   obtain ⟨a,rfl,hcy,_⟩:=hc k y hx
   have hd:=hid (qjn hx x)
   clear hx hc
   by_cases hyx:y=x
   ·subst hyx
    go_wp2
    go_ret
    exact ⟨qbh (by rw [show Q=_ from hQ,show _=_ from hd];simp),rfl⟩
   ·go_wp2
    refine ⟨⟨k+1,by omega,by go_num,by first|rfl|trivial,?_⟩,by simp only;omega⟩
    show Q=_
    rw [show Q=_ from hQ,show _=_ from hd];simp [hyx]
  ·obtain rfl:k=l.length:=by omega
   clear hc
   go_wp2
   go_ret
   exact ⟨qbh (by rw [show Q=_ from hQ,List.drop_length];rfl),rfl⟩
theorem qqm (la lb:List Int) (va vb:Value) (hl:la.length≤1099511627776) (w:World) (ha:Nums .i64 w va la) (hb:Nums .i64 w vb lb) :
 Calls Tryz.prog 98 #[va,vb] w fun e w'=>e=.returned (.bool (decide (la=lb)))∧Below w.heap.size w w':=by
 obtain ⟨A,ca,rfl,_,hca⟩:=ha
 obtain ⟨B,cb,rfl,_,hcb⟩:=hb
 by_cases hL:la.length=lb.length
 ·rw [← hL]
  go_enter Tryz.func98,Tryz.ntmps98
  go_wp2
  go_loopw [5] (fun i wr=>∃ k:Nat,k≤la.length∧i=.int .i64 k∧Below w.heap.size w wr∧Hid (∀ j,j<k→la[j]? = lb[j]?))
   (fun i _=>match i with|.int _ q=>la.length - q.toNat|_=>0)
  case atStart=>exact ⟨0,Nat.zero_le _,rfl,Below.refl _ _,fun j h=>by omega⟩
  case round =>
   obtain ⟨k,hk,rfl,hbr,hall⟩:=hrel
   by_cases hkl:k<la.length
   ·have hx:=List.getElem?_eq_getElem hkl
    have hy:=List.getElem?_eq_getElem (show k<lb.length by omega)
    generalize la[k]=x at *
    generalize lb[k]=y at *
    obtain ⟨a,rfl,ha1,ha2⟩:=hca k x hx
    obtain ⟨b,rfl,hb1,hb2⟩:=hcb k y hy
    have hcx:=(hbr.cell ha2).trans ha1
    have hcy:=(hbr.cell hb2).trans hb1
    clear hca hcb ha1 hb1 ha2 hb2
    have b0:(0:Int)≤(k:Int):=by omega
    have b1:(k:Int)<(la.length:Int):=by omega
    by_cases hxy:x=y
    ·subst hxy
     have hx:=hid hx
     have hy:=hid hy
     go_wp2
     go_quiet (fail)
     go_wp2
     refine ⟨⟨k+1,by omega,by go_num,qb4 hbr nq,fun j hj=>?_⟩,?_⟩
     ·rcases Nat.lt_or_ge j k with h|h
      ·exact hall j h
      ·obtain rfl:j=k:=by omega
       exact Eq.trans hx (Eq.symm hy)
     ·simp only;omega
    ·have hne:decide (la=lb)=false:=decide_eq_false (fun h=>by rw [h,hy] at hx;exact hxy (Option.some.inj hx).symm)
     have hxb:(x != y)=true:=by simpa using hxy
     have hne2:=hid hne
     clear hne hx hy
     go_wp2
     go_quiet (fail)
     go_wp2
     go_ret
     exact ⟨qbh (Eq.symm hne2),qb4 hbr nq⟩
   ·have he:la=lb:=by
     apply List.ext_getElem?
     intro j
     rcases Nat.lt_or_ge j la.length with h|h
     ·exact hall j (by omega)
     ·rw [List.getElem?_eq_none h,List.getElem?_eq_none (by omega)]
    clear hca hcb
    go_wp2
    go_ret
    exact ⟨qbh (by rw [decide_eq_true he]),hbr⟩
 ·have hne:decide (la=lb)=false:=decide_eq_false (fun h=>hL (by rw [h]))
  have hLi:((la.length:Int) != (lb.length:Int))=true:=by simp;omega
  rw [hne]
  clear hne hca hcb
  go_enter Tryz.func98,Tryz.ntmps98
  go_wp2
  go_ret
  exact ⟨rfl,Below.refl _ _⟩
theorem qi2 {l:List Int} {k:Nat} {x:Int} (h:l[k]? = some x):wordsB (l.drop k)=((decide (0≤x) && decide (x≤65535)) && wordsB (l.drop (k+1))):=by
 have hk:k<l.length:=(List.getElem?_eq_some_iff.1 h).1
 rw [List.drop_eq_getElem_cons hk,(List.getElem?_eq_some_iff.1 h).2];rfl
theorem qn7 {l:List Int} {k:Nat} {x:Int} (n low:Int) (h:l[k]? = some x):badB n low (l.drop k)=((decide (low≤x) && (decide (x%2=0) && decide (x<n))) && badB n (x+2) (l.drop (k+1))):=by
 have hk:k<l.length:=(List.getElem?_eq_some_iff.1 h).1
 rw [List.drop_eq_getElem_cons hk,(List.getElem?_eq_some_iff.1 h).2];rfl
theorem qoz {mem bad:List Int} (h:okS (2*(mem.length:Int))=false):rightP mem bad=false:=by unfold rightP;rw [h];rfl
theorem qo5 {mem bad:List Int} (h:okS (2*(mem.length:Int))=true):rightP mem bad=(wordsB mem && badB (2*(mem.length:Int)) 0 bad):=by unfold rightP;rw [h];rfl
theorem quh (vm vb:Value) (mem bad:List Int) (hl:mem.length≤1099511627776) (hl2:bad.length≤1099511627776) (w:World) (hm:Nums .i64 w vm mem) (hb:Nums .i64 w vb bad) :
 Calls Tryz.prog 28 #[vm,vb] w fun e w'=>e=.returned (.bool (rightP mem bad))∧w=w':=by
 obtain ⟨A,ca,rfl,_,hca⟩:=hm
 obtain ⟨B,cb,rfl,_,hcb⟩:=hb
 have hsz:=fun w=>qe2 A mem.length ca hl w
 have hal:=fun w=>qml (2*(mem.length:Int)) w
 have hwi:=fun x w=>qji A mem.length ca hl x w
 cases hq:okS (2*(mem.length:Int))
 ·rw [qoz hq]
  rw [hq] at hal
  clear hq hca hcb
  go_enter Tryz.func28,Tryz.ntmps28
  go_wp2_with (first|((first|(go_at_call 73;with_reducible refine (hsz _).mono ?_)|(go_at_call 72;with_reducible refine (hal _).mono ?_));rintro e w' ⟨rfl,rfl⟩))
  go_ret
  exact ⟨rfl,rfl⟩
 ·obtain ⟨Q,hQ⟩:∃ Q,Hid (Q=rightP mem bad):=⟨_,rfl⟩
  rw [← show Q=rightP mem bad from hQ]
  rw [qo5 hq] at hQ
  rw [hq] at hal
  clear hq
  go_enter Tryz.func28,Tryz.ntmps28
  go_wp2_with (first|((first|(go_at_call 73;with_reducible refine (hsz _).mono ?_)|(go_at_call 72;with_reducible refine (hal _).mono ?_));rintro e w' ⟨rfl,rfl⟩))
  go_loopw [16] (fun i wr=>∃ k:Nat,k≤mem.length∧i=.int .i64 k∧w=wr∧Hid (Q=(wordsB (mem.drop k) && badB (2*(mem.length:Int)) 0 bad)))
   (fun i _=>match i with|.int _ q=>mem.length - q.toNat|_=>0)
  case atStart=>exact ⟨0,Nat.zero_le _,rfl,rfl,by rw [List.drop_zero];exact hQ⟩
  case round =>
   clear hQ
   obtain ⟨k,hk,rfl,rfl,hQ⟩:=hrel
   by_cases hkl:k<mem.length
   ·have hx:=List.getElem?_eq_getElem hkl
    generalize mem[k]=x at *
    obtain ⟨a,rfl,hcx,_⟩:=hca k x hx
    have hd:=hid (qi2 hx)
    clear hx hca hcb
    by_cases h1:0≤x
    ·by_cases h2:x≤65535
     ·go_wp2
      refine ⟨⟨k+1,by omega,by go_num,by first|rfl|trivial,?_⟩,by simp only;omega⟩
      show Q=_
      rw [show Q=_ from hQ,show _=_ from hd];simp [h1,h2]
     ·go_wp2
      go_ret
      exact ⟨qbh (by rw [show Q=_ from hQ,show _=_ from hd,show decide (x≤65535)=false from decide_eq_false (by omega)];simp),rfl⟩
    ·go_wp2
     go_ret
     exact ⟨qbh (by rw [show Q=_ from hQ,show _=_ from hd,show decide (0≤x)=false from decide_eq_false (by omega)];simp),rfl⟩
   ·obtain rfl:k=mem.length:=by omega
    rw [List.drop_length] at hQ
    have hQ:Hid (Q=badB (2*(mem.length:Int)) 0 bad):=by show Q=_;rw [show Q=_ from hQ];rfl
    clear hca
    go_wp2
    go_loopw [7,29] (fun s i wr=>∃ (k:Nat) (low:Int),k≤bad.length∧i=.int .i64 k∧s=.int .i64 low∧0≤low∧w=wr∧Hid (Q=badB (2*(mem.length:Int)) low (bad.drop k)))
     (fun _ i _=>match i with|.int _ q=>bad.length - q.toNat|_=>0)
    case atStart=>exact ⟨0,0,Nat.zero_le _,rfl,rfl,Int.le_refl _,rfl,by rw [List.drop_zero];exact hQ⟩
    case round =>
     clear hQ
     obtain ⟨j,low,hj,rfl,rfl,h0,rfl,hQ⟩:=hrel
     by_cases hjl:j<bad.length
     ·have hx:=List.getElem?_eq_getElem hjl
      generalize bad[j]=x at *
      obtain ⟨a,rfl,hcx,_⟩:=hcb j x hx
      have hd:=hid (qn7 (2*(mem.length:Int)) low hx)
      have hww:=hid (wwP_eq (2*(mem.length:Int)) x)
      have hwi:=fun w=>hwi x w
      clear hx hcb
      by_cases h1:low≤x
      ·have hxl:wwP (2*(mem.length:Int)) x=true→x<2*(mem.length:Int):=by intro h;rw [show _=_ from hww] at h;simp at h;omega
       have hdd:Hid (wwP (2*(mem.length:Int)) x=(decide (x%2=0) && decide (x<2*(mem.length:Int)))):=by show _=_;rw [show _=_ from hww,decide_eq_true (show 0≤x by omega)];rfl
       clear hww
       generalize wwP (2*(mem.length:Int)) x=q at *
       cases q
       ·clear hxl
        go_wp2_with (first|(go_at_call 74;with_reducible refine (hwi _).mono ?_;rintro e w' ⟨rfl,rfl⟩))
        go_ret
        exact ⟨qbh (by rw [show Q=_ from hQ,show _=_ from hd,← show false=_ from hdd];simp),rfl⟩
       ·have hxl:=hxl rfl
        go_wp2_with (first|(go_at_call 74;with_reducible refine (hwi _).mono ?_;rintro e w' ⟨rfl,rfl⟩))
        refine ⟨⟨j+1,x+2,by omega,by go_num,rfl,by omega,by first|rfl|trivial,?_⟩,by simp only;omega⟩
        show Q=_
        rw [show Q=_ from hQ,show _=_ from hd,← show true=_ from hdd,decide_eq_true h1];rfl
      ·clear hww
       go_wp2_with fail
       go_ret
       exact ⟨qbh (by rw [show Q=_ from hQ,show _=_ from hd,decide_eq_false (show ¬ low≤x by omega)];rfl),rfl⟩
     ·obtain rfl:j=bad.length:=by omega
      rw [List.drop_length] at hQ
      clear hcb
      go_wp2
      go_ret
      exact ⟨qbh (by rw [show Q=_ from hQ];rfl),rfl⟩
def lowP (bad:List Int) (k:Nat) (low:Int):Prop:=(k=0∧low=0)∨∃ y,0<k∧bad[k - 1]? = some y∧low=y+2∧0≤y∧y%2=0
theorem qqk (vm vb:Value) (mem bad:List Int) (hl:mem.length≤1099511627776) (hl2:bad.length≤1099511627776) (w:World) (hm:Nums .i64 w vm mem) (hb:Nums .i64 w vb bad) :
 Calls Tryz.prog 31 #[vm,vb] w fun e w'=>e=.returned (.bool (rightP mem bad))∧Below w.heap.size w w':=by
 obtain ⟨A,ca,rfl,_,hca⟩:=hm
 obtain ⟨B,cb,rfl,_,hcb⟩:=hb
 have hal:=fun w=>qoy (2*(mem.length:Int)) w
 cases hq:okS (2*(mem.length:Int))
 ·rw [qoz hq]
  rw [hq] at hal
  clear hq hca hcb
  go_enter Tryz.func31,Tryz.ntmps31
  go_wp2_with (first|(go_at_call 76;with_reducible refine (hal _).mono ?_;rintro e w' ⟨rfl,rfl⟩))
  go_ret
  exact ⟨rfl,Below.refl _ _⟩
 ·obtain ⟨Q,hQ⟩:∃ Q,Hid (Q=rightP mem bad):=⟨_,rfl⟩
  rw [← show Q=rightP mem bad from hQ]
  rw [qo5 hq] at hQ
  rw [hq] at hal
  clear hq
  go_enter Tryz.func31,Tryz.ntmps31
  go_wp2_with (first|(go_at_call 76;with_reducible refine (hal _).mono ?_;rintro e w' ⟨rfl,rfl⟩))
  go_loopw [5] (fun i wr=>∃ k:Nat,k≤mem.length∧i=.int .i64 k∧w=wr∧Hid (Q=(wordsB (mem.drop k) && badB (2*(mem.length:Int)) 0 bad)))
   (fun i _=>match i with|.int _ q=>mem.length - q.toNat|_=>0)
  case atStart=>exact ⟨0,Nat.zero_le _,rfl,rfl,by rw [List.drop_zero];exact hQ⟩
  case round =>
   clear hQ
   obtain ⟨k,hk,rfl,rfl,hQ⟩:=hrel
   by_cases hkl:k<mem.length
   ·have hx:=List.getElem?_eq_getElem hkl
    generalize mem[k]=x at *
    obtain ⟨a,rfl,hcx,_⟩:=hca k x hx
    have hd:=hid (qi2 hx)
    clear hx hca hcb
    by_cases h1:0≤x
    ·by_cases h2:x≤65535
     ·go_wp2
      refine ⟨⟨k+1,by omega,by go_num,by first|rfl|trivial,?_⟩,by simp only;omega⟩
      show Q=_
      rw [show Q=_ from hQ,show _=_ from hd];simp [h1,h2]
     ·go_wp2
      go_ret
      exact ⟨qbh (by rw [show Q=_ from hQ,show _=_ from hd,show decide (x≤65535)=false from decide_eq_false (by omega)];simp),Below.refl _ _⟩
    ·go_wp2
     go_ret
     exact ⟨qbh (by rw [show Q=_ from hQ,show _=_ from hd,show decide (0≤x)=false from decide_eq_false (by omega)];simp),Below.refl _ _⟩
   ·obtain rfl:k=mem.length:=by omega
    rw [List.drop_length] at hQ
    have hQ:Hid (Q=badB (2*(mem.length:Int)) 0 bad):=by show Q=_;rw [show Q=_ from hQ];rfl
    clear hca
    go_wp2
    go_loopw [6] (fun i wr=>∃ (k:Nat) (low:Int),k≤bad.length∧i=.int .i64 k∧lowP bad k low∧Below w.heap.size w wr∧Hid (Q=badB (2*(mem.length:Int)) low (bad.drop k)))
     (fun i _=>match i with|.int _ q=>bad.length - q.toNat|_=>0)
    case atStart=>exact ⟨0,0,Nat.zero_le _,rfl,.inl ⟨rfl,rfl⟩,Below.refl _ _,by rw [List.drop_zero];exact hQ⟩
    case round =>
     clear hQ
     obtain ⟨j,low,hj,rfl,hlow,hbr,hQ⟩:=hrel
     by_cases hjl:j<bad.length
     ·have hx:=List.getElem?_eq_getElem hjl
      generalize bad[j]=x at *
      obtain ⟨a,rfl,hcx,hcl⟩:=hcb j x hx
      have hcx:=(hbr.cell hcl).trans hcx
      have hd:=hid (qn7 (2*(mem.length:Int)) low hx)
      have j0:(0:Int)≤(j:Int):=by omega
      have j1:(j:Int)<(bad.length:Int):=by omega
      by_cases h1:x<0
      ·have hb1:decide (x<0)=true:=decide_eq_true h1
       have hlo:¬ low≤x:=by rcases hlow with ⟨_,h⟩|⟨y,_,_,h,_,_⟩<;>omega
       clear hx hcb hcl hlow
       go_wp2
       go_quiet (fail)
       go_wp2
       go_ret
       exact ⟨qbh (by rw [show Q=_ from hQ,show _=_ from hd,decide_eq_false (show ¬ low≤x by omega)];rfl),qb4 hbr nq⟩
      ·have hb1:decide (x<0)=false:=decide_eq_false h1
       by_cases h2:2*(mem.length:Int)≤x
       ·have hb2:decide (2*(mem.length:Int)≤x)=true:=decide_eq_true h2
        have hlo:¬ x<2*(mem.length:Int):=by omega
        clear hx hcb hcl hlow
        go_wp2
        go_quiet (fail)
        go_wp2
        go_ret
        exact ⟨qbh (by rw [show Q=_ from hQ,show _=_ from hd,decide_eq_false (show ¬ x<2*(mem.length:Int) by omega)];simp),qb4 hbr nq⟩
       ·have hb2:decide (2*(mem.length:Int)≤x)=false:=decide_eq_false h2
        have h2b:decide (x<2*(mem.length:Int))=true:=decide_eq_true (by omega)
        have h2b:=hid h2b
        by_cases h3:x%2=0
        ·have hb3:(x%2 != 0)=false:=by simpa using h3
         have hnn:0≤x:=by omega
         rcases hlow with ⟨hj0,rfl⟩|⟨y,hpos,hy,rfl,hy0,hy2⟩
         ·have hlow':lowP bad (j+1) (x+2):=.inr ⟨x,by omega,by rw [Nat.add_sub_cancel];exact hx,rfl,hnn,h3⟩
          have i0:decide ((0:Int)<(j:Int))=false:=decide_eq_false (by omega)
          have i0n:decide (0<j)=false:=decide_eq_false (by omega)
          have V:IntKind.i64.wrap (2*(mem.length:Int))=2*(mem.length:Int):=by rw [qaf];exact IntWalk.wrap64_in _ ⟨by omega,by omega⟩
          clear hx hcb hcl hj0
          go_wp2
          go_quiet (fail)
          go_wp2
          refine ⟨⟨j+1,x+2,by omega,by go_num,hlow',qb4 hbr nq,?_⟩,by simp only;omega⟩
          show Q=_
          rw [show Q=_ from hQ,show _=_ from hd,decide_eq_true h3,decide_eq_true hnn,show _=_ from h2b];rfl
         ·obtain ⟨i,hi⟩:∃ i,j - 1=i:=⟨_,rfl⟩
          rw [hi] at hy
          obtain ⟨a2,ha2,hcy,hcl2⟩:=hcb i y hy
          cases ha2
          have hcy:=(hbr.cell hcl2).trans hcy
          have hii:(j:Int) - 1=(i:Int):=by omega
          have i0:(0:Int)<(j:Int):=by omega
          have i1:(i:Int)<(bad.length:Int):=by omega
          clear hi
          by_cases h4:x≤y
          ·have hlo:¬ y+2≤x:=by omega
           clear hx hcb hcl hcl2
           go_wp2
           go_quiet (fail)
           go_wp2
           go_ret
           exact ⟨qbh (by rw [show Q=_ from hQ,show _=_ from hd,decide_eq_false (show ¬ y+2≤x by omega)];rfl),qb4 hbr nq⟩
          ·have hlo:y+2≤x:=by omega
           have hlow':lowP bad (j+1) (x+2):=.inr ⟨x,by omega,by rw [Nat.add_sub_cancel];exact hx,rfl,hnn,h3⟩
           clear hx hcb hcl hcl2
           go_wp2
           go_quiet (fail)
           go_wp2
           refine ⟨⟨j+1,x+2,by omega,by go_num,hlow',qb4 hbr nq,?_⟩,by simp only;omega⟩
           show Q=_
           rw [show Q=_ from hQ,show _=_ from hd,decide_eq_true h3,decide_eq_true hlo,show _=_ from h2b];rfl
        ·have hb3:(x%2 != 0)=true:=by simpa using h3
         have hnn:0≤x:=by omega
         clear hx hcb hcl hlow
         go_wp2
         go_quiet (fail)
         go_wp2
         go_ret
         exact ⟨qbh (by rw [show Q=_ from hQ,show _=_ from hd,decide_eq_false h3];simp),qb4 hbr nq⟩
     ·obtain rfl:j=bad.length:=by omega
      rw [List.drop_length] at hQ
      clear hcb hlow
      go_wp2
      go_ret
      exact ⟨qbh (by rw [show Q=_ from hQ];rfl),hbr⟩
theorem qne {l:List Int} {k:Nat} {x:Int} (h:l[k]? = some x):l.getD k 0=x:=by rw [List.getD_eq_getElem?_getD,h];rfl
theorem qn6 {n a:Int} {bad:List Int} {b:Bool} (h:accP n a b=false):readT n bad a b=1:=by unfold readT;rw [h];rfl
theorem readT_bad {n a:Int} {bad:List Int} {b:Bool} (h:accP n a b=true) (h2:bad.contains (evenP a)=true):readT n bad a b=9:=by unfold readT;rw [h,h2];rfl
theorem readT_ok {n a:Int} {bad:List Int} {b:Bool} (h:accP n a b=true) (h2:bad.contains (evenP a)=false):readT n bad a b=0:=by unfold readT;rw [h,h2];rfl
theorem qod {mem bad:List Int} {a:Int} {b:Bool} (h:readT (2*(mem.length:Int)) bad a b≠0):readV mem bad a b=0:=if_neg h
theorem readV_ok {mem bad:List Int} {a:Int} {b:Bool} (h:readT (2*(mem.length:Int)) bad a b=0):readV mem bad a b=if b=true then byteN mem a.toNat else mem.getD (a.toNat / 2) 0:=if_pos h
theorem qrv {n a:Int} {b:Bool} (h:accP n a b=true):0≤a∧a<n∧(b=false→a%2=0):=by
 unfold accP at h
 simp only [Bool.and_eq_true,Bool.or_eq_true,decide_eq_true_eq] at h
 refine ⟨h.2.1,h.2.2,fun e=>?_⟩
 rw [e] at h
 simpa using h.1
theorem read_any (vm vb:Value) (mem bad:List Int) (hl:mem.length≤1099511627776) (hl2:bad.length≤1099511627776) (hs:bad.Pairwise (·<·)) (a:Int) (b:Bool) (w:World) (hm:Nums .i64 w vm mem) (hb:Nums .i64 w vb bad) :
 Calls Tryz.prog 37 #[vm,vb,.int .i64 a,.bool b] w fun e w'=>e=.returned (.tuple #[.int .i64 (readV mem bad a b),.int .i64 (readT (2*(mem.length:Int)) bad a b)])∧Below w.heap.size w w':=by
 have hbs:=fun x=>qig vb bad hl2 hs x w hb
 have hby:=fun k hk=>qi4 vm mem hl k hk w hm
 obtain ⟨A,c,rfl,_,hc⟩:=hm
 have hac:=fun w=>qe9 A mem.length c hl a b w
 clear hb
 cases hq:accP (2*(mem.length:Int)) a b
 ·rw [qod (by rw [qn6 hq];decide),qn6 hq]
  rw [hq] at hac
  clear hq hc
  go_enter Tryz.func37,Tryz.ntmps37
  go_wp2_with (first|(go_at_call 82;with_reducible refine (hac _).mono ?_;rintro e w' ⟨rfl,rfl⟩))
  go_ret2
  exact ⟨rfl,Below.refl _ _⟩
 ·obtain ⟨h0,h1,h2⟩:=qrv hq
  have hwa:=fun w=>ql6 a h0 (by omega) w
  have hbs:=hbs (evenP a)
  have e1:=@readT_bad _ _ bad _ hq
  have e2:=@readT_ok _ _ bad _ hq
  rw [hq] at hac
  cases hp:bad.contains (evenP a)
  ·have e3:=e2 hp
   rw [readV_ok e3,e3]
   rw [hp] at hbs
   clear e1 e2 e3 hp hq
   obtain ⟨k,rfl⟩:=Int.eq_ofNat_of_zero_le h0
   rw [Int.toNat_natCast]
   generalize evenP (k:Int)=p at *
   generalize ((lowN bad p:Nat):Int)=i at *
   cases b
   ·have hk:k / 2<mem.length:=by omega
    have hx:=List.getElem?_eq_getElem hk
    generalize mem[k / 2]=x at *
    obtain ⟨r,rfl,hcx,_⟩:=hc _ _ hx
    have hg:=qne hx
    rw [hg]
    simp only [Bool.false_eq_true,if_false]
    have hi:(k:Int) / 2=((k / 2:Nat):Int):=by omega
    clear hc hx hg hby h2
    generalize hj:k / 2=j at *
    have hj:=hid hj
    go_enter Tryz.func37,Tryz.ntmps37
    go_wp2_with (first|((first|(go_at_call 82;with_reducible refine (hac _).mono ?_)|(go_at_call 84;with_reducible refine (hwa _).mono ?_)|(go_at_call 83;with_reducible refine hbs.mono ?_));rintro e w' ⟨rfl,rfl⟩))
    go_ret2
    exact ⟨rfl,Below.refl _ _⟩
   ·have hby:=hby k (by omega)
    simp only [if_true]
    generalize byteN mem k=y at *
    clear hc h2
    go_enter Tryz.func37,Tryz.ntmps37
    go_wp2_with (first|((first|(go_at_call 82;with_reducible refine (hac _).mono ?_)|(go_at_call 84;with_reducible refine (hwa _).mono ?_)|(go_at_call 83;with_reducible refine hbs.mono ?_));rintro e w' ⟨rfl,rfl⟩)|(go_at_call 85;with_reducible refine hby.mono ?_;rintro e w' ⟨rfl,hb⟩))
    go_ret2
    exact ⟨rfl,hb⟩
  ·have e3:=e1 hp
   rw [qod (by rw [e3];decide),e3]
   rw [hp] at hbs
   clear e1 e2 e3 hp hq hc h2 hby
   generalize evenP a=p at *
   generalize ((lowN bad p:Nat):Int)=i at *
   go_enter Tryz.func37,Tryz.ntmps37
   go_wp2_with (first|((first|(go_at_call 82;with_reducible refine (hac _).mono ?_)|(go_at_call 84;with_reducible refine (hwa _).mono ?_)|(go_at_call 83;with_reducible refine hbs.mono ?_));rintro e w' ⟨rfl,rfl⟩))
   go_ret2
   exact ⟨rfl,Below.refl _ _⟩
end Go.Proofs.YthpnddgfgpacpaaGreat
