import Derived.Test.YthpnddgfgpacpaaGreatRT04
import Derived.Test.YthpnddgfgpacpaaGreatRT06
namespace Go.Proofs.YthpnddgfgpacpaaGreat
open Go.RowKit
set_option linter.unusedSimpArgs false
set_option linter.unusedVariables false
set_option maxHeartbeats 4000000
set_option maxRecDepth 100000
attribute [local irreducible] wpQuiet
def cv (l:List UInt8):List Value:=l.map fun b=>.int .u8 (b.toNat:Int)
theorem qmb (a b:List UInt8):cv (a++b)=cv a++cv b:=List.map_append
def secL (m:List Int) (A k:Nat):List UInt8:=(List.range k).flatMap fun i=>[UInt8.ofNat (m.getD (A+i) 0%256).toNat,UInt8.ofNat (m.getD (A+i) 0 / 256).toNat]
theorem qhv (m:List Int) (A k:Nat):secL m A (k+1)=secL m A k++[UInt8.ofNat (m.getD (A+k) 0%256).toNat,UInt8.ofNat (m.getD (A+k) 0 / 256).toNat]:=by
 unfold secL;rw [List.range_succ,List.flatMap_append];simp
theorem qol (m:List Int) (A:Nat):∀ k,(secL m A k).length=2*k
 | 0=>rfl
 | k+1=>by rw [qhv,List.length_append,qol m A k];simp;omega
theorem u8_of (x:Int) (h:0≤x∧x<256):((UInt8.ofNat x.toNat).toNat:Int)=x:=by
 rw [UInt8.toNat_ofNat'];omega
theorem secL_cv (m:List Int) (A k:Nat) (x:Int) (hx:m.getD (A+k) 0=x) (h:0≤x∧x≤65535):cv (secL m A (k+1))=cv (secL m A k)++[.int .u8 (x%256),.int .u8 (x / 256)]:=by
 rw [qhv,qmb,hx]
 show _++[Value.int .u8 ((UInt8.ofNat (x%256).toNat).toNat:Int),Value.int .u8 ((UInt8.ofNat (x / 256).toNat).toNat:Int)]=_
 rw [u8_of _ (by omega),u8_of _ (by omega)]
def secV (m:List Int) (A n:Nat):ByteArray:=⟨(secL m A n++List.replicate (128 - 2*n) 0).toArray⟩
theorem que {w:World} {t:TypeId} (cs:List Value):∀ j x,cs[j]? = some x→(w.alloc (.cells cs.toArray t)).cell? ((⟨w.heap.size,0,none⟩:Addr).add j)=some x:=by
 intro j x h
 have e1:(⟨w.heap.size,0,none⟩:Addr).add j=⟨w.heap.size,j,none⟩:=by unfold Addr.add;split<;>simp_all
 rw [e1]
 exact (Blk.new t w cs).cell h
theorem conv_own {w:World} {base n:Nat} {v:Value} {l:List UInt8} (hn:l.length=n) (h:w.ownsRow base 5 1 v n (cv l)):(convert 167 9 v).run Tryz.prog w=.ok (.string ⟨l.toArray⟩) w:=by
 rcases h.2 with ⟨rfl,h0⟩|⟨g,cap,cur,rfl,hb,hh,hnc,_,hcs,_⟩
 ·subst h0
  obtain rfl:l=[]:=List.eq_nil_of_length_eq_zero hn
  exact Lib.run_convert_nil_bytes w 167 9 5 0 Tryz.underlying167 Tryz.underlying5 Tryz.underlying9
 ·have e:=run_convert_bytes_back (P:=Tryz.prog) w 167 9 5 ⟨g,0,none⟩ cap l Tryz.underlying167 Tryz.underlying5 Tryz.underlying9 (fun j hj=>by
   have h2:=(Rz.of_own h).cell j (.int .u8 ((l[j]'hj).toNat:Int)) (by unfold cv;rw [List.getElem?_map,List.getElem?_eq_getElem hj];rfl)
   rw [h2])
  rw [hn] at e
  exact e
theorem and255 (n:Int):bits .and .i64 n 255=n%256:=qd1 (c:=255) (by decide) (qe7 _ 0 8) (by intro h;omega)
theorem qhl (m:List Int) (A n:Nat) (v:Value) (w:World) (hA:A+n≤m.length) (hm:m.length≤1099511627776) (hn:n≤64) (hw:∀ x∈m,0≤x∧x≤65535) (hv:Its w v m):Calls Tryz.prog 115 #[v,.int .i64 (2*(A:Int)),.int .i64 (n:Int)] w fun e' w'=>e'=.returned (.string (secV m A n))∧Below w.heap.size w w':=by
 obtain ⟨G,c,rfl,_,hc⟩:=hv.form
 have hB:=Below.refl w.heap.size w
 have w1:=half A
 have w2:IntKind.i64.wrap ((A:Int))=(A:Int):=by rw [qaf];unfold wrap64;omega
 clear hv
 go_enter Tryz.func115,Tryz.ntmps115
 go_wp2
 go_loopw [7,8,9] (fun v iv _ wr=>∃ k:Nat,k≤n∧iv=.int .i64 k∧wr.ownsRow w.heap.size 5 1 v (2*k) (cv (secL m A k))∧Below w.heap.size w wr) (fun _ iv _ _=>match iv with|.int _ q=>n - q.toNat|_=>0)
 case atStart=>exact ⟨0,Nat.zero_le _,rfl,World.ownsRow_nil _ _ _ _,hB⟩
 case round =>
  clear hB
  obtain ⟨k,hk,rfl,hown,hB⟩:=hrel
  by_cases hkn:k<n
  ·have hki:(k:Int)<(n:Int):=by omega
   have hAk:A+k<m.length:=by omega
   have hx:=List.getElem?_eq_getElem hAk
   have hgx:m.getD (A+k) 0=m[A+k]:=by rw [List.getD_eq_getElem?_getD,hx];rfl
   have hwx:=hw _ (List.getElem_mem hAk)
   generalize m[A+k]=x at *
   obtain ⟨ad,rfl,hL⟩:=hc (A+k) x hx
   have hst:=hid (secL_cv m A k x hgx hwx)
   have w3:IntKind.i64.wrap ((A:Int)+(k:Int))=(A:Int)+(k:Int):=by rw [qaf];unfold wrap64;omega
   have k1:(A:Int)+(k:Int)<(m.length:Int):=by omega
   have k2:(0:Int)≤(A:Int)+(k:Int):=by omega
   have k3:((A:Int)+(k:Int)).toNat=A+k:=by omega
   have x1:=and255 x
   have x2:IntKind.u8.wrap (x%256)=x%256:=by unfold IntKind.wrap;simp [IntKind.bits,IntKind.signed]<;>omega
   have x3:IntKind.u8.wrap (x / 256)=x / 256:=by unfold IntKind.wrap;simp [IntKind.bits,IntKind.signed]<;>omega
   clear hx hgx hc hw hwx
   go_wp2_with (first|((with_reducible refine qab ?_);refine qaq rfl 3 _ _ _ rfl rfl (hL _ hB) ?_)|(at_builtin;refine qfb rfl (.tmp 22) (.tmp 29) rfl w.heap.size _ _ _ rfl (World.ownsRow.alloc hown _) ⟨wr.heap.size,0,none⟩ 2 2 [.int .u8 (x%256),.int .u8 (x / 256)] rfl rfl (que _) (fun u hu=>by simp at hu;rcases hu with rfl|rfl<;>rfl) (by omega) (by have:=hB.size;simp<;>omega) ?_;intro v2 w2 ho2 hb2 _))
   exact ⟨⟨k+1,by omega,by go_num,by rw [show cv (secL m A (k+1))=_ from hst,show 2*(k+1)=2*k+2 by omega];exact ho2,(hB.alloc hB.size _).trans (hb2.mono (Nat.le_refl _))⟩,by simp only;omega⟩
  ·obtain rfl:k=n:=by omega
   have hki:¬ (k:Int)<(k:Int):=by omega
   clear hc hw
   go_wp2
   go_loopw [7] (fun v wr=>∃ j:Nat,2*k+j≤128∧wr.ownsRow w.heap.size 5 1 v (2*k+j) (cv (secL m A k++List.replicate j 0))∧Below w.heap.size w wr) (fun v _=>match v with|.slice _ q _=>128 - q|_=>0)
   case atStart=>exact ⟨0,by omega,by rw [List.replicate_zero,List.append_nil];exact hown,hB⟩
   case round =>
    clear hB hown
    obtain ⟨j,hj,hown,hB⟩:=hrel
    obtain ⟨B1,e1,hform⟩:∃ B1 e1,_=Value.slice B1 (2*k+j) e1:=by
     obtain ⟨⟨A',c',e,_⟩,_⟩:=Rz.of_own hown
     exact ⟨_,_,e⟩
    subst hform
    by_cases hjl:2*k+j<128
    ·have hki2:((2*k+j:Nat):Int)<128:=by omega
     have hst:cv (secL m A k++List.replicate (j+1) 0)=cv (secL m A k++List.replicate j 0)++[.int .u8 0]:=by
      rw [List.replicate_succ',← List.append_assoc,qmb];rfl
     replace hst:=hid hst
     go_wp2_with (first|(at_builtin;refine qfb rfl (.tmp 34) (.tmp 35) rfl w.heap.size _ _ _ rfl (World.ownsRow.alloc hown _) ⟨wr.heap.size,0,none⟩ 1 1 [.int .u8 0] rfl rfl qc2 (fun u hu=>by simp at hu;subst hu;rfl) (by omega) (by have:=hB.size;simp<;>omega) ?_;intro v2 w2 ho2 hb2 _))
     have hf2:=Rw.of_own ho2
     obtain ⟨A7,c7,rfl,_⟩:=hf2
     exact ⟨⟨j+1,by omega,by rw [show cv (secL m A k++List.replicate (j+1) 0)=_ from hst];exact ho2,(hB.alloc hB.size _).trans (hb2.mono (Nat.le_refl _))⟩,by simp only;omega⟩
    ·obtain rfl:j=128 - 2*k:=by omega
     have hki2:¬ ((2*k+(128 - 2*k):Nat):Int)<128:=by omega
     have hcv:=conv_own (l:=secL m A k++List.replicate (128 - 2*k) 0) (by rw [List.length_append,qol,List.length_replicate]) hown
     replace hcv:(convert 167 9 (.slice B1 (2*k+(128 - 2*k)) e1)).run Tryz.prog wr=.ok (.string (secV m A k)) wr:=hcv
     go_wp2
     go_ret
     exact ⟨rfl,hB⟩
theorem qa2 {X:Nat→Prop} {N M:Nat} (hX:∀ b,X b→b<N) (h:N+2≤M):∀ b,OwnA X N b→b<M:=fun b hb=>by
 rcases hb with hb|hb|hb
 ·have:=hX b hb;omega
 ·omega
 ·omega
theorem qtr (D:Drv) (hl:D.B.length≤1099511627776) (hl2:D.S.length≤1099511627776) (vs vb:Value) (w:World) (X:Nat→Prop) (hXl:∀ b,X b→b<w.heap.size) (hs:Sts w vs D.S) (hb:Its w vb D.B):Calls Tryz.prog 68 #[.agg #[vs,vb]] w fun e' w'=>∃ x,e'=.returned x∧DkX X w' x (Dk.new D)∧Below w.heap.size w w':=by
 have hX:=((Bag.nil w).new 38 [vs,vb]).new 40 [.slice none 0 0,.slice none 0 0,.bool false,.bool false,.bool false,.int .i64 0,.int .i64 0,.int .i64 0,.int .i64 0,.int .i64 0]
 rw [show (w.alloc (.cells ([vs,vb]:List Value).toArray 38)).heap.size=w.heap.size+1 from Array.size_push ..] at hX
 obtain ⟨S,B⟩:=D
 dsimp only at *
 rcases Rz.form hs with ⟨rfl,h1,_⟩|⟨aS,cS,rfl,_⟩
 ·obtain rfl:S=[]:=List.eq_nil_of_length_eq_zero h1
  clear h1
  rcases Rz.form hb with ⟨rfl,h2,_⟩|⟨aB,cB,rfl,_⟩
  ·obtain rfl:B=[]:=List.eq_nil_of_length_eq_zero h2
   clear h2
   obtain ⟨wA,hwA⟩:∃ W,(w.alloc (.cells #[.slice none 0 0,.slice none 0 0] 38)).alloc (.cells #[.slice none 0 0,.slice none 0 0,.bool false,.bool false,.bool false,.int .i64 0,.int .i64 0,.int .i64 0,.int .i64 0,.int .i64 0] 40)=W:=⟨_,rfl⟩
   replace hX:Bag [(w.heap.size+1,40,[.slice none 0 0,.slice none 0 0,.bool false,.bool false,.bool false,.int .i64 0,.int .i64 0,.int .i64 0,.int .i64 0,.int .i64 0]),(w.heap.size,38,[.slice none 0 0,.slice none 0 0])] w wA:=hwA▸hX
   have hLA:w.heap.size+1<wA.heap.size:=(hX.all _ _ _ (.head _)).lt
   go_enter Tryz.func68,Tryz.ntmps68
   go_wp2_with (first|((with_reducible refine qab ?_);first|refine lc hX ?_|refine qai (Bag.step hX ((Below.refl _ _).alloc (Nat.le_refl _) (.cells #[] 9))) qau _ rfl rfl rfl rfl (by first|exact .head _|exact .tail _ (.head _)) rfl ?_|refine qai (Bag.step hX ((Below.refl _ _).alloc (Nat.le_refl _) (.cells #[] 3))) qap _ rfl rfl rfl rfl (by first|exact .head _|exact .tail _ (.head _)) rfl ?_|refine lw hX aggD sizD ?_)|(at_builtin;refine qd5 rfl (.tmp 3) (.tmp 5) rfl wA.heap.size _ 0 [] rfl (qbe wA 9) rfl ?_;have hown:=qbe wA 9;have hNN:w.heap.size+2≤wA.heap.size:=hLA;replace hX:=Bag.step hX ((Below.refl _ _).alloc (Nat.le_refl _) (.cells #[] 9));have hS:=qdv (X:=OwnA X w.heap.size) (S':=[]) (qa2 hXl hNN) (hid rfl) (hid rfl) hown)|(at_builtin;refine qgt rfl (.tmp 8) (.tmp 10) rfl w3.heap.size _ 0 [] rfl (qbe w3 3) rfl ?_;have hown:=qbe w3 3;have hNN:w.heap.size+2≤w3.heap.size:=(show w.heap.size+1<w3.heap.size from (hX.all _ _ _ (.tail _ (.head _))).lt);replace hS:=hS.below ((Below.refl _ _).alloc (Nat.le_refl _) (.cells #[] 3));replace hX:=Bag.step hX ((Below.refl _ _).alloc (Nat.le_refl _) (.cells #[] 3));have hI:=qd8 (X:=OwnA X w.heap.size) (S':=[]) (qa2 hXl hNN) (hid rfl) (hid rfl) hown)|((with_reducible refine qah ?_);first|(refine qae (z:=.slice (some ⟨wA.heap.size,0,none⟩) 0 0) hX.swap qfg _ _ rfl rfl rfl rfl rfl rfl (by simp) rfl rfl ?_;intro w3 hX3 hk3 hz3;clear hz3;replace hX:=hX3;replace hS:=hS.over hk3 (.inr (.inl rfl));clear hk3 hX3;simp only [sx] at hX)|(refine qae (z:=.slice (some ⟨w3.heap.size,0,none⟩) 0 0) hX siz_I _ _ rfl rfl rfl rfl rfl rfl (by simp) rfl rfl ?_;intro w4 hX3 hk3 hz3;clear hz3;replace hX:=hX3;replace hS:=hS.over hk3 (.inr (.inl rfl));replace hI:=hI.over hk3 (.inr (.inl rfl));clear hk3 hX3;simp only [sx] at hX)|(refine qaa (cs':=[(.slice (some ⟨wA.heap.size,0,none⟩) 0 0),(.slice (some ⟨w3.heap.size,0,none⟩) 0 0),.bool false,.bool true,.bool false,.int .i64 0,.int .i64 0,.int .i64 0,.int .i64 0,.int .i64 0]) hX.swap aggK sizK _ _ rfl rfl rfl rfl rfl rfl rfl rfl (qav rfl rfl _ _ _ _ _ _ _ _) ?_;clear hX;intro wz hX hkz;replace hS:=hS.over hkz (.inr (.inr rfl));replace hI:=hI.over hkz (.inr (.inr rfl));clear hkz)))
   exact bodyPost_ret (qaj Tryz.results68 rfl ((hX.all _ _ _ (.head _)).loadVar rfl aggK sizK)) rfl ⟨_,rfl,⟨_,_,rfl,hS.less (fun _ h=>.inl h),hI.less (fun _ h=>.inl h)⟩,hX.below⟩
  ·skip
   obtain ⟨wA,hwA⟩:∃ W,(w.alloc (.cells #[.slice none 0 0,.slice (some aB) B.length cB] 38)).alloc (.cells #[.slice none 0 0,.slice none 0 0,.bool false,.bool false,.bool false,.int .i64 0,.int .i64 0,.int .i64 0,.int .i64 0,.int .i64 0] 40)=W:=⟨_,rfl⟩
   replace hX:Bag [(w.heap.size+1,40,[.slice none 0 0,.slice none 0 0,.bool false,.bool false,.bool false,.int .i64 0,.int .i64 0,.int .i64 0,.int .i64 0,.int .i64 0]),(w.heap.size,38,[.slice none 0 0,.slice (some aB) B.length cB])] w wA:=hwA▸hX
   have hLA:w.heap.size+1<wA.heap.size:=(hX.all _ _ _ (.head _)).lt
   go_enter Tryz.func68,Tryz.ntmps68
   go_wp2_with (first|((with_reducible refine qab ?_);first|refine lc hX ?_|refine qai (Bag.step hX ((Below.refl _ _).alloc (Nat.le_refl _) (.cells #[] 9))) qau _ rfl rfl rfl rfl (by first|exact .head _|exact .tail _ (.head _)) rfl ?_|refine qai (Bag.step hX ((Below.refl _ _).alloc (Nat.le_refl _) (.cells #[] 3))) qap _ rfl rfl rfl rfl (by first|exact .head _|exact .tail _ (.head _)) rfl ?_|refine lw hX aggD sizD ?_)|(at_builtin;refine qd5 rfl (.tmp 3) (.tmp 5) rfl wA.heap.size _ 0 [] rfl (qbe wA 9) rfl ?_;have hown:=qbe wA 9;have hNN:w.heap.size+2≤wA.heap.size:=hLA;replace hX:=Bag.step hX ((Below.refl _ _).alloc (Nat.le_refl _) (.cells #[] 9));have hS:=qdv (X:=OwnA X w.heap.size) (S':=[]) (qa2 hXl hNN) (hid rfl) (hid rfl) hown)|(at_builtin;refine qb6 rfl (.tmp 8) (.tmp 10) rfl w3.heap.size _ 0 [] rfl (qbe w3 3) aB B.length cB (B.map (Value.int .i64)) rfl (by simp) (fun jz u h=>Rz.cell (Rz.below hb (hX.below.alloc hX.below.size _)) jz u h) (qgj B) (by omega) (by simp) ?_;intro v2 w1 ho1 hb1 _;rw [Nat.zero_add,List.nil_append] at ho1;have hNN:w.heap.size+2≤w3.heap.size:=(show w.heap.size+1<w3.heap.size from (hX.all _ _ _ (.tail _ (.head _))).lt);replace hS:=hS.below (((Below.refl _ _).alloc (Nat.le_refl _) _).trans hb1);replace hX:=(Bag.step hX ((Below.refl _ _).alloc (Nat.le_refl _) (.cells #[] 3))).stepN hb1 (fun b hb=>by simp at hb;rcases hb with rfl|rfl<;>simp<;>omega) (by omega);have hI:=qd8 (X:=OwnA X w.heap.size) (S':=B) (qa2 hXl hNN) (hid rfl) (hid rfl) ho1;clear ho1 hb1;obtain ⟨A4,c4,rfl,_⟩:=hI.now.form)|((with_reducible refine qah ?_);first|(refine qae (z:=.slice (some ⟨wA.heap.size,0,none⟩) 0 0) hX.swap qfg _ _ rfl rfl rfl rfl rfl rfl (by simp) rfl rfl ?_;intro w3 hX3 hk3 hz3;clear hz3;replace hX:=hX3;replace hS:=hS.over hk3 (.inr (.inl rfl));clear hk3 hX3;simp only [sx] at hX)|(refine qae (z:=.slice A4 _ c4) hX siz_I _ _ rfl rfl rfl rfl rfl rfl (by simp) rfl rfl ?_;intro w4 hX3 hk3 hz3;clear hz3;replace hX:=hX3;replace hS:=hS.over hk3 (.inr (.inl rfl));replace hI:=hI.over hk3 (.inr (.inl rfl));clear hk3 hX3;simp only [sx] at hX)|(refine qaa (cs':=[(.slice (some ⟨wA.heap.size,0,none⟩) 0 0),(.slice A4 B.length c4),.bool false,.bool true,.bool false,.int .i64 0,.int .i64 0,.int .i64 0,.int .i64 0,.int .i64 0]) hX.swap aggK sizK _ _ rfl rfl rfl rfl rfl rfl rfl rfl (qav rfl rfl _ _ _ _ _ _ _ _) ?_;clear hX;intro wz hX hkz;replace hS:=hS.over hkz (.inr (.inr rfl));replace hI:=hI.over hkz (.inr (.inr rfl));clear hkz)))
   exact bodyPost_ret (qaj Tryz.results68 rfl ((hX.all _ _ _ (.head _)).loadVar rfl aggK sizK)) rfl ⟨_,rfl,⟨_,_,rfl,hS.less (fun _ h=>.inl h),hI.less (fun _ h=>.inl h)⟩,hX.below⟩
 ·rcases Rz.form hb with ⟨rfl,h2,_⟩|⟨aB,cB,rfl,_⟩
  ·obtain rfl:B=[]:=List.eq_nil_of_length_eq_zero h2
   clear h2
   obtain ⟨wA,hwA⟩:∃ W,(w.alloc (.cells #[.slice (some aS) S.length cS,.slice none 0 0] 38)).alloc (.cells #[.slice none 0 0,.slice none 0 0,.bool false,.bool false,.bool false,.int .i64 0,.int .i64 0,.int .i64 0,.int .i64 0,.int .i64 0] 40)=W:=⟨_,rfl⟩
   replace hX:Bag [(w.heap.size+1,40,[.slice none 0 0,.slice none 0 0,.bool false,.bool false,.bool false,.int .i64 0,.int .i64 0,.int .i64 0,.int .i64 0,.int .i64 0]),(w.heap.size,38,[.slice (some aS) S.length cS,.slice none 0 0])] w wA:=hwA▸hX
   have hLA:w.heap.size+1<wA.heap.size:=(hX.all _ _ _ (.head _)).lt
   go_enter Tryz.func68,Tryz.ntmps68
   go_wp2_with (first|((with_reducible refine qab ?_);first|refine lc hX ?_|refine qai (Bag.step hX ((Below.refl _ _).alloc (Nat.le_refl _) (.cells #[] 9))) qau _ rfl rfl rfl rfl (by first|exact .head _|exact .tail _ (.head _)) rfl ?_|refine qai (Bag.step hX ((Below.refl _ _).alloc (Nat.le_refl _) (.cells #[] 3))) qap _ rfl rfl rfl rfl (by first|exact .head _|exact .tail _ (.head _)) rfl ?_|refine lw hX aggD sizD ?_)|(at_builtin;refine qcd rfl (.tmp 3) (.tmp 5) rfl wA.heap.size _ 0 [] rfl (qbe wA 9) aS S.length cS (S.map Value.string) rfl (by simp) (fun jz u h=>Rz.cell (Rz.below hs (hX.below.alloc hX.below.size _)) jz u h) (qfe S) (by omega) (by simp) ?_;intro v1 w1 ho1 hb1 _;rw [Nat.zero_add,List.nil_append] at ho1;have hNN:w.heap.size+2≤wA.heap.size:=hLA;replace hX:=(Bag.step hX ((Below.refl _ _).alloc (Nat.le_refl _) (.cells #[] 9))).stepN hb1 (fun b hb=>by simp at hb;rcases hb with rfl|rfl<;>simp<;>omega) (by omega);have hS:=qdv (X:=OwnA X w.heap.size) (S':=S) (qa2 hXl hNN) (hid rfl) (hid rfl) ho1;clear ho1 hb1;obtain ⟨A3,c3,rfl,_⟩:=hS.now.form)|(at_builtin;refine qgt rfl (.tmp 8) (.tmp 10) rfl w3.heap.size _ 0 [] rfl (qbe w3 3) rfl ?_;have hown:=qbe w3 3;have hNN:w.heap.size+2≤w3.heap.size:=(show w.heap.size+1<w3.heap.size from (hX.all _ _ _ (.tail _ (.head _))).lt);replace hS:=hS.below ((Below.refl _ _).alloc (Nat.le_refl _) (.cells #[] 3));replace hX:=Bag.step hX ((Below.refl _ _).alloc (Nat.le_refl _) (.cells #[] 3));have hI:=qd8 (X:=OwnA X w.heap.size) (S':=[]) (qa2 hXl hNN) (hid rfl) (hid rfl) hown)|((with_reducible refine qah ?_);first|(refine qae (z:=.slice A3 _ c3) hX.swap qfg _ _ rfl rfl rfl rfl rfl rfl (by simp) rfl rfl ?_;intro w3 hX3 hk3 hz3;clear hz3;replace hX:=hX3;replace hS:=hS.over hk3 (.inr (.inl rfl));clear hk3 hX3;simp only [sx] at hX)|(refine qae (z:=.slice (some ⟨w3.heap.size,0,none⟩) 0 0) hX siz_I _ _ rfl rfl rfl rfl rfl rfl (by simp) rfl rfl ?_;intro w4 hX3 hk3 hz3;clear hz3;replace hX:=hX3;replace hS:=hS.over hk3 (.inr (.inl rfl));replace hI:=hI.over hk3 (.inr (.inl rfl));clear hk3 hX3;simp only [sx] at hX)|(refine qaa (cs':=[(.slice A3 S.length c3),(.slice (some ⟨w3.heap.size,0,none⟩) 0 0),.bool false,.bool true,.bool false,.int .i64 0,.int .i64 0,.int .i64 0,.int .i64 0,.int .i64 0]) hX.swap aggK sizK _ _ rfl rfl rfl rfl rfl rfl rfl rfl (qav rfl rfl _ _ _ _ _ _ _ _) ?_;clear hX;intro wz hX hkz;replace hS:=hS.over hkz (.inr (.inr rfl));replace hI:=hI.over hkz (.inr (.inr rfl));clear hkz)))
   exact bodyPost_ret (qaj Tryz.results68 rfl ((hX.all _ _ _ (.head _)).loadVar rfl aggK sizK)) rfl ⟨_,rfl,⟨_,_,rfl,hS.less (fun _ h=>.inl h),hI.less (fun _ h=>.inl h)⟩,hX.below⟩
  ·skip
   obtain ⟨wA,hwA⟩:∃ W,(w.alloc (.cells #[.slice (some aS) S.length cS,.slice (some aB) B.length cB] 38)).alloc (.cells #[.slice none 0 0,.slice none 0 0,.bool false,.bool false,.bool false,.int .i64 0,.int .i64 0,.int .i64 0,.int .i64 0,.int .i64 0] 40)=W:=⟨_,rfl⟩
   replace hX:Bag [(w.heap.size+1,40,[.slice none 0 0,.slice none 0 0,.bool false,.bool false,.bool false,.int .i64 0,.int .i64 0,.int .i64 0,.int .i64 0,.int .i64 0]),(w.heap.size,38,[.slice (some aS) S.length cS,.slice (some aB) B.length cB])] w wA:=hwA▸hX
   have hLA:w.heap.size+1<wA.heap.size:=(hX.all _ _ _ (.head _)).lt
   go_enter Tryz.func68,Tryz.ntmps68
   go_wp2_with (first|((with_reducible refine qab ?_);first|refine lc hX ?_|refine qai (Bag.step hX ((Below.refl _ _).alloc (Nat.le_refl _) (.cells #[] 9))) qau _ rfl rfl rfl rfl (by first|exact .head _|exact .tail _ (.head _)) rfl ?_|refine qai (Bag.step hX ((Below.refl _ _).alloc (Nat.le_refl _) (.cells #[] 3))) qap _ rfl rfl rfl rfl (by first|exact .head _|exact .tail _ (.head _)) rfl ?_|refine lw hX aggD sizD ?_)|(at_builtin;refine qcd rfl (.tmp 3) (.tmp 5) rfl wA.heap.size _ 0 [] rfl (qbe wA 9) aS S.length cS (S.map Value.string) rfl (by simp) (fun jz u h=>Rz.cell (Rz.below hs (hX.below.alloc hX.below.size _)) jz u h) (qfe S) (by omega) (by simp) ?_;intro v1 w1 ho1 hb1 _;rw [Nat.zero_add,List.nil_append] at ho1;have hNN:w.heap.size+2≤wA.heap.size:=hLA;replace hX:=(Bag.step hX ((Below.refl _ _).alloc (Nat.le_refl _) (.cells #[] 9))).stepN hb1 (fun b hb=>by simp at hb;rcases hb with rfl|rfl<;>simp<;>omega) (by omega);have hS:=qdv (X:=OwnA X w.heap.size) (S':=S) (qa2 hXl hNN) (hid rfl) (hid rfl) ho1;clear ho1 hb1;obtain ⟨A3,c3,rfl,_⟩:=hS.now.form)|(at_builtin;refine qb6 rfl (.tmp 8) (.tmp 10) rfl w3.heap.size _ 0 [] rfl (qbe w3 3) aB B.length cB (B.map (Value.int .i64)) rfl (by simp) (fun jz u h=>Rz.cell (Rz.below hb (hX.below.alloc hX.below.size _)) jz u h) (qgj B) (by omega) (by simp) ?_;intro v2 w1 ho1 hb1 _;rw [Nat.zero_add,List.nil_append] at ho1;have hNN:w.heap.size+2≤w3.heap.size:=(show w.heap.size+1<w3.heap.size from (hX.all _ _ _ (.tail _ (.head _))).lt);replace hS:=hS.below (((Below.refl _ _).alloc (Nat.le_refl _) _).trans hb1);replace hX:=(Bag.step hX ((Below.refl _ _).alloc (Nat.le_refl _) (.cells #[] 3))).stepN hb1 (fun b hb=>by simp at hb;rcases hb with rfl|rfl<;>simp<;>omega) (by omega);have hI:=qd8 (X:=OwnA X w.heap.size) (S':=B) (qa2 hXl hNN) (hid rfl) (hid rfl) ho1;clear ho1 hb1;obtain ⟨A4,c4,rfl,_⟩:=hI.now.form)|((with_reducible refine qah ?_);first|(refine qae (z:=.slice A3 _ c3) hX.swap qfg _ _ rfl rfl rfl rfl rfl rfl (by simp) rfl rfl ?_;intro w3 hX3 hk3 hz3;clear hz3;replace hX:=hX3;replace hS:=hS.over hk3 (.inr (.inl rfl));clear hk3 hX3;simp only [sx] at hX)|(refine qae (z:=.slice A4 _ c4) hX siz_I _ _ rfl rfl rfl rfl rfl rfl (by simp) rfl rfl ?_;intro w4 hX3 hk3 hz3;clear hz3;replace hX:=hX3;replace hS:=hS.over hk3 (.inr (.inl rfl));replace hI:=hI.over hk3 (.inr (.inl rfl));clear hk3 hX3;simp only [sx] at hX)|(refine qaa (cs':=[(.slice A3 S.length c3),(.slice A4 B.length c4),.bool false,.bool true,.bool false,.int .i64 0,.int .i64 0,.int .i64 0,.int .i64 0,.int .i64 0]) hX.swap aggK sizK _ _ rfl rfl rfl rfl rfl rfl rfl rfl (qav rfl rfl _ _ _ _ _ _ _ _) ?_;clear hX;intro wz hX hkz;replace hS:=hS.over hkz (.inr (.inr rfl));replace hI:=hI.over hkz (.inr (.inr rfl));clear hkz)))
   exact bodyPost_ret (qaj Tryz.results68 rfl ((hX.all _ _ _ (.head _)).loadVar rfl aggK sizK)) rfl ⟨_,rfl,⟨_,_,rfl,hS.less (fun _ h=>.inl h),hI.less (fun _ h=>.inl h)⟩,hX.below⟩
end Go.Proofs.YthpnddgfgpacpaaGreat
