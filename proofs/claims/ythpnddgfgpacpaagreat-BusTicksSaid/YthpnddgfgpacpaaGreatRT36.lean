import Derived.Test.YthpnddgfgpacpaaGreatRT31
import Derived.Lib.SlKeysI
import Derived.Test.YthpnddgfgpacpaaGreatRT04
import Derived.Test.YthpnddgfgpacpaaGreatRT18
import Derived.Test.YthpnddgfgpacpaaGreatRT21
namespace Go.Proofs.YthpnddgfgpacpaaGreat
open Go.RowKit Go.Lib Go.Sort
set_option linter.unusedSimpArgs false
set_option linter.unusedVariables false
set_option maxHeartbeats 4000000
set_option maxRecDepth 100000
attribute [local irreducible] wpQuiet
def hldV (a n x:Int):Bool:=decide (0<n) && (decide (a<wrap64 (x+2)) && decide (x<a+n))
theorem qjs {a x:Int} {n:Nat} (hx:0≤x∧x%2=0∧x<4611686018427387904):hldV a (n:Int) x=true↔∃ i,i<n∧(a+(i:Int)) / 2*2=x:=by
 unfold hldV
 rw [show wrap64 (x+2)=x+2 by unfold wrap64;omega]
 simp only [Bool.and_eq_true,decide_eq_true_eq]
 constructor
 ·rintro ⟨h1,h2,h3⟩
  by_cases h:a≤x
  ·exact ⟨(x - a).toNat,by omega,by omega⟩
  ·exact ⟨0,by omega,by omega⟩
 ·rintro ⟨i,h1,h2⟩
  exact ⟨by omega,by omega,by omega⟩
theorem qoe (B:List Int) (a:Int):∀ n,clrV B a n=B.filter fun x=>!(List.range n).any fun i=>(a+(i:Int)) / 2*2 == x
 | 0=>by
   show B=_
   rw [List.filter_eq_self.2]
   intro x _;simp
 | n+1=>by
   show withoutP (clrV B a n) ((a+(n:Int)) / 2*2)=_
   rw [qoe B a n]
   unfold withoutP
   rw [List.filter_filter]
   congr 1
   funext x
   rw [List.range_succ,List.any_append]
   simp only [List.any_cons,List.any_nil,Bool.or_false,Bool.not_or]
   have h:(x != (a+(n:Int)) / 2*2)=!((a+(n:Int)) / 2*2 == x):=by
    unfold bne;rw [BEq.comm]
   rw [h,Bool.and_comm]
theorem clrV_hld {B:List Int} {a:Int} {n:Nat} (hB:∀ x∈B,0≤x∧x%2=0∧x<4611686018427387904):clrV B a n=B.filter fun x=>!hldV a (n:Int) x:=by
 rw [qoe]
 refine List.filter_congr fun x hx=>?_
 congr 1
 rw [Bool.eq_iff_iff,qjs (hB x hx),List.any_eq_true]
 constructor
 ·rintro ⟨i,h1,h2⟩
  exact ⟨i,List.mem_range.1 h1,by simpa using h2⟩
 ·rintro ⟨i,h1,h2⟩
  exact ⟨i,List.mem_range.2 h1,by simpa using h2⟩
theorem splV_hld {B:List Int} {a:Int} {n:Nat} (hB:∀ x∈B,0≤x∧x%2=0∧x<4611686018427387904):splV B a n=B.any (hldV a (n:Int)):=by
 unfold splV
 rw [Bool.eq_iff_iff,List.any_eq_true,List.any_eq_true]
 constructor
 ·rintro ⟨i,h1,h2⟩
  have hm:(a+(i:Int)) / 2*2∈B:=by simpa using h2
  exact ⟨_,hm,(qjs (hB _ hm)).2 ⟨i,List.mem_range.1 h1,rfl⟩⟩
 ·rintro ⟨x,h1,h2⟩
  obtain ⟨i,h3,h4⟩:=(qjs (hB x h1)).1 h2
  exact ⟨i,List.mem_range.2 h3,by rw [h4];simpa using h1⟩
theorem qjd (x a n:Int) (Bn Ba:Nat) (w:World) (ck:w.cell? ⟨Bn,0,none⟩=some (.int .i64 n)) (cw:w.cell? ⟨Ba,0,none⟩=some (.int .i64 a)) (ha:0≤a∧a≤65535) (hn:0≤n∧n≤65535):Calls Tryz.prog 264 #[.int .i64 x,.pointer (some ⟨Bn,0,none⟩),.pointer (some ⟨Ba,0,none⟩)] w fun e' w'=>e'=.returned (.bool (hldV a n x))∧∃ q,w'=w.drewN q:=by
 have w1:IntKind.i64.wrap (a+n)=a+n:=by rw [qaf];unfold wrap64;omega
 obtain ⟨y,w2⟩:∃ y,IntKind.i64.wrap (x+2)=y:=⟨_,rfl⟩
 unfold hldV
 rw [← qaf,w2]
 clear ha hn
 by_cases h1:0<n
 ·have d1:decide (0<n)=true:=decide_eq_true h1
  clear h1
  by_cases h2:a<y
  ·have d2:decide (a<y)=true:=decide_eq_true h2
   clear h2
   go_enter Tryz.func264,Tryz.ntmps264
   go_wp2
   go_ret
   exact ⟨by simp [d1,d2],0,rfl⟩
  ·have d2:decide (a<y)=false:=decide_eq_false h2
   clear h2
   go_enter Tryz.func264,Tryz.ntmps264
   go_wp2
   go_ret
   exact ⟨by simp [d1,d2],0,rfl⟩
 ·have d1:decide (0<n)=false:=decide_eq_false h1
  clear h1
  go_enter Tryz.func264,Tryz.ntmps264
  go_wp2
  go_ret
  exact ⟨by simp [d1],0,rfl⟩
theorem qs2 (a n:Int) (Bn Ba:Nat) (w:World) (hk:Bn<w.heap.size) (hw:Ba<w.heap.size) (ck:w.cell? ⟨Bn,0,none⟩=some (.int .i64 n)) (cw:w.cell? ⟨Ba,0,none⟩=some (.int .i64 a)) (ha:0≤a∧a≤65535) (hn:0≤n∧n≤65535):PredAt Tryz.prog 264 #[.pointer (some ⟨Bn,0,none⟩),.pointer (some ⟨Ba,0,none⟩)] (Value.int .i64) (hldV a n) w :=
 fun W x hb=>qjd x a n Bn Ba W ((hb.cell (p:=⟨Bn,0,none⟩) hk).trans ck) ((hb.cell (p:=⟨Ba,0,none⟩) hw).trans cw) ha hn
theorem qsa (a n:Int) (Bn Ba blk off size:Nat) (w:World) (hk:Bn<w.heap.size) (hw:Ba<w.heap.size) (hkb:Bn≠blk) (hwb:Ba≠blk) (ck:w.cell? ⟨Bn,0,none⟩=some (.int .i64 n)) (cw:w.cell? ⟨Ba,0,none⟩=some (.int .i64 a)) (ha:0≤a∧a≤65535) (hn:0≤n∧n≤65535):PredOver Tryz.prog 264 #[.pointer (some ⟨Bn,0,none⟩),.pointer (some ⟨Ba,0,none⟩)] (Value.int .i64) (hldV a n) blk off size w :=
 fun m os dk x _=>qjd x a n Bn Ba _ (by
  unfold sortWorld
  rw [cell?_grow _ _ _ (by show Bn<(putRow _ _ _ _ _).heap.size;rw [size_putRow];exact hk),cell?_putRow_other _ _ blk off _ _ (Or.inl hkb)]
  exact ck) (by
  unfold sortWorld
  rw [cell?_grow _ _ _ (by show Ba<(putRow _ _ _ _ _).heap.size;rw [size_putRow];exact hw),cell?_putRow_other _ _ blk off _ _ (Or.inl hwb)]
  exact cw) ha hn
theorem qhy:∀ args w,(callFunc 264 args).run Tryz.prog w=.ok (.enter 264 args) w:=enters_of Tryz.func264 (by kernel_rfl) rfl
theorem qr0 (a n:Int) (B:List Int) (Bn Ba N:Nat) (v:Value) (w:World) (hown:w.ownsRow N 3 1 v B.length (B.map (Value.int .i64))) (hl:B.length≤1099511627776) (hk:Bn<w.heap.size) (hw:Ba<w.heap.size) (ck:w.cell? ⟨Bn,0,none⟩=some (.int .i64 n)) (cw:w.cell? ⟨Ba,0,none⟩=some (.int .i64 a)) (ha:0≤a∧a≤65535) (hn:0≤n∧n≤65535):Calls Tryz.prog 221 #[v,.func (.func 264) #[] #[.pointer (some ⟨Bn,0,none⟩),.pointer (some ⟨Ba,0,none⟩)]] w fun e' w'=>e'=.returned (.bool (B.any (hldV a n)))∧Below w.heap.size w w':=by
 rcases hown.2 with ⟨rfl,h0⟩|⟨g,cap,cur,rfl,hg,hh,hnc,hm',hcs,htk⟩
 ·obtain rfl:B=[]:=List.eq_nil_of_length_eq_zero h0
  refine (Tryz.slices_ContainsFunc_empty_int (α:=Int) none 0 _ w).mono ?_
  rintro e w' ⟨rfl,rfl⟩
  exact ⟨rfl,Below.refl _ _⟩
 ·rw [Nat.mul_one] at htk
  have hH:=holds_of_block_i (ss:=B) hh htk
  refine (Tryz.slices_ContainsFunc_int (Value.int .i64) (hldV a n) 264 #[.pointer (some ⟨Bn,0,none⟩),.pointer (some ⟨Ba,0,none⟩)] qhy g 0 B.length cap B w (qs2 a n Bn Ba w hk hw ck cw ha hn) (Nat.le_refl _) (by omega) (fun j hj=>?_)).mono ?_
  ·have h:=(hH j (by simpa using hj)).1
   rw [h]
   simp [hj]
  ·rintro e w' ⟨rfl,q,rfl⟩
   refine ⟨?_,below_drewN' (Below.refl _ _) q⟩
   rw [List.take_length]
theorem qgn {w:World} {base g cap q:Nat} {e:TypeId} {cur:Array Value} {F Zr:List Int} (hbase:base≤g) (hb:w.heap[g]? = some (.cells cur e (0,0))) (h1:F.length+Zr.length≤cap) (h2:cap≤maxLen) (h3:cur.size=cap*1):(putRow (Value.int .i64) (Sort.ahead w q) g 0 (F++Zr).toArray).ownsRow base e 1 (.slice (some ⟨g,0,none⟩) F.length cap) F.length (F.map (Value.int .i64)):=by
 have hh:=heap_sorted_i (n:=q) (os:=#[]) (F++Zr).toArray hb
 rw [grow_empty] at hh
 refine ⟨by simp,.inr ⟨g,cap,_,rfl,hbase,hh,by omega,h2,?_,?_⟩⟩
 ·rw [← h3];simp [putCells]
 ·have:=take_putCells_i cur (F++Zr) (by rw [List.length_append,h3];omega)
  have e2:=congrArg (List.take F.length) this
  rw [List.take_take,Nat.min_eq_left (by simp),List.map_append,List.take_left' (by simp)] at e2
  rw [Nat.mul_one]
  exact e2
theorem qma (a n:Int) (B F:List Int) (hF:F=B.filter fun x=>!hldV a n x) (Bn Ba N:Nat) (v:Value) (w:World) (hown:w.ownsRow N 3 1 v B.length (B.map (Value.int .i64))) (hl:B.length≤1099511627776) (hk:Bn<w.heap.size) (hw:Ba<w.heap.size) (hkb:∀ g m c,v=.slice (some g) m c→Bn≠g.block) (hwb:∀ g m c,v=.slice (some g) m c→Ba≠g.block) (ck:w.cell? ⟨Bn,0,none⟩=some (.int .i64 n)) (cw:w.cell? ⟨Ba,0,none⟩=some (.int .i64 a)) (ha:0≤a∧a≤65535) (hn:0≤n∧n≤65535):Calls Tryz.prog 225 #[v,.func (.func 264) #[] #[.pointer (some ⟨Bn,0,none⟩),.pointer (some ⟨Ba,0,none⟩)]] w fun e' w'=>∃ v',e'=.returned v'∧w'.ownsRow N 3 1 v' F.length (F.map (Value.int .i64))∧w.grownBy w' v.ownBlock:=by
 rcases hown.2 with ⟨rfl,h0⟩|⟨g,cap,cur,rfl,hg,hh,hnc,hm',hcs,htk⟩
 ·obtain rfl:B=[]:=List.eq_nil_of_length_eq_zero h0
  obtain rfl:F=[]:=hF
  go_enter Tryz.func225,Tryz.ntmps225
  go_wp2_with (first|(go_at_call 227;(with_reducible refine (Tryz.slices_IndexFunc_empty_ix (α:=Int) none 0 _ _).mono ?_);rintro e' wc ⟨rfl,rfl⟩))
  go_ret
  exact ⟨_,rfl,World.ownsRow_nil _ _ _ _,World.grownBy.refl _ _⟩
 ·rw [Nat.mul_one] at htk
  have hH:=holds_of_block_i (ss:=B) hh htk
  refine (Tryz.slices_DeleteFunc_T (Value.int .i64) (fun _=>rfl) (hldV a n) 264 #[.pointer (some ⟨Bn,0,none⟩),.pointer (some ⟨Ba,0,none⟩)] qhy 0 Tryz.zeroValue3 g 0 cap B.toArray w (qs2 a n Bn Ba w hk hw ck cw ha hn) (qsa a n Bn Ba g 0 _ w hk hw (hkb _ _ _ rfl) (hwb _ _ _ rfl) ck cw ha hn) hH (by simp;omega) (by simpa using hnc)).mono ?_
  rintro e w' ⟨rfl,q,rfl⟩
  have hf:(B.toArray.toList.filter fun x=>!hldV a n x)=F:=by rw [hF]
  rw [hf]
  have hle:F.length≤B.length:=by rw [hF];exact List.length_filter_le _ _
  refine ⟨_,rfl,qgn hg hh (by rw [List.length_replicate,List.size_toArray];omega) hm' hcs,?_⟩
  have h:=grownBy_sorted_i (w:=w) (g:=g) (n:=q) (os:=#[]) ((F++List.replicate (B.toArray.size - F.length) 0).toArray)
  rw [grow_empty] at h
  exact h
theorem qqv (a n:Int) (w:World):Calls Tryz.prog 262 #[.int .i64 a,.int .i64 n] w fun e' w'=>∃ Bn Ba,e'=.returned (.func (.func 264) #[] #[.pointer (some ⟨Bn,0,none⟩),.pointer (some ⟨Ba,0,none⟩)])∧Bag [(Bn,3,[.int .i64 n]),(Ba,3,[.int .i64 a])] w w':=by
 have hX:=qff w 3 3 [.int .i64 a] [.int .i64 n]
 go_enter Tryz.func262,Tryz.ntmps262
 go_wp2
 go_ret
 exact ⟨_,_,rfl,hX⟩
open Go.RowKit
theorem qhi (K:Tp) (hl:K.R.length≤1099511627776) (hp:0≤K.p∧K.p≤(K.R.length:Int)) (A1:Option Addr) (c1:Nat) (w:World) (hs:Sts w (.slice A1 K.R.length c1) K.R):Calls Tryz.prog 258 #[.agg #[(.slice A1 K.R.length c1),.int .i64 (K).p,.bool (K).n,.bool (K).r,.bool (K).e,.bool (K).m,.bool (K).d,.int .i64 (K).c,.int .i64 (K).k,.int .i64 (K).a,.int .i64 (K).l]] w fun e' w'=>e'=.returned (.tuple #[.agg #[(.slice A1 K.R.length c1),.int .i64 (K.pass.1).p,.bool (K.pass.1).n,.bool (K.pass.1).r,.bool (K.pass.1).e,.bool (K.pass.1).m,.bool (K.pass.1).d,.int .i64 (K.pass.1).c,.int .i64 (K.pass.1).k,.int .i64 (K.pass.1).a,.int .i64 (K.pass.1).l],.bool K.pass.2])∧Below w.heap.size w w':=by
 obtain ⟨A,c',hv,_,hc⟩:=hs.form
 cases hv
 obtain ⟨R,p,n,r,e,m,d,c,k,a,l⟩:=K
 dsimp only at hl hp hc ⊢
 clear hs
 have hX:=qa0 w [(.slice A1 R.length c1),.int .i64 p,.bool n,.bool r,.bool e,.bool m,.bool d,.int .i64 c,.int .i64 k,.int .i64 a,.int .i64 l] [.slice none 0 0,.int .i64 0,.bool false,.bool false,.bool false,.bool false,.bool false,.int .i64 0,.int .i64 0,.int .i64 0,.int .i64 0]
 by_cases h:(R.length:Int)≤p
 ·have hK:∀ n r e m d c k a l,(Tp.mk R p n r e m d c k a l).pass=({(Tp.mk R p n r e m d c k a l) with e:=true,d:=true},false):=fun n r e m d c k a l=>by unfold Tp.pass;rw [if_pos h]
  rw [hK]
  have d1:(p == (R.length:Int))=true:=by simp;omega
  clear hK hc
  go_enter Tryz.func258,Tryz.ntmps258
  go_wp2_with (first|((with_reducible refine qab ?_);first|refine lc hX ?_|refine lw hX aggT sizT ?_)|(go_at_call 263;with_reducible refine cst hX (qiq (Tp.mk R p n r e m d c k a l) A1 R.length c1 _) ?_;clear hX;intro wp hX)|((with_reducible refine qah ?_);first|(refine qaa (cs':=[(.slice A1 R.length c1),.int .i64 p,.bool n,.bool r,.bool true,.bool m,.bool true,.int .i64 c,.int .i64 k,.int .i64 a,.int .i64 l]) hX.swap aggT sizT _ _ rfl rfl rfl rfl rfl rfl rfl rfl (qan rfl _ _ _ _ _ _ _ _ _ _) ?_;clear hX;intro wz hX hkz;clear hkz)|(refine qaa (cs':=[(.slice A1 R.length c1),.int .i64 p,.bool n,.bool r,.bool true,.bool m,.bool true,.int .i64 c,.int .i64 k,.int .i64 a,.int .i64 l]) hX aggT sizT _ _ rfl rfl rfl rfl rfl rfl rfl rfl (qan rfl _ _ _ _ _ _ _ _ _ _) ?_;clear hX;intro wz hX hkz;clear hkz)))
  first|exact bodyPost_ret (qam Tryz.results258 rfl ((hX.all _ _ _ (.head _)).loadVar rfl aggT sizT)) rfl ⟨rfl,hX.below⟩|exact bodyPost_ret (qam Tryz.results258 rfl ((hX.all _ _ _ (.tail _ (.head _))).loadVar rfl aggT sizT)) rfl ⟨rfl,hX.below⟩
 obtain ⟨j,rfl⟩:∃ j:Nat,p=(j:Int):=⟨p.toNat,by omega⟩
 have hjl:j<R.length:=by omega
 have hji:(j:Int)<(R.length:Int):=by omega
 have d1:((j:Int) == (R.length:Int))=false:=by simp;omega
 have hx:=List.getElem?_eq_getElem hjl
 have hrec:∀ n r e m d c k a l,recV (Tp.mk R (j:Int) n r e m d c k a l) (j:Int)=R[j]:=fun n r e m d c k a l=>by show R.getD ((j:Int).toNat) ⟨#[]⟩=_;rw [Int.toNat_natCast,List.getD_eq_getElem?_getD,hx];rfl
 have hK:∀ n r e m d c k a l,(Tp.mk R (j:Int) n r e m d c k a l).pass=({(Tp.mk R (j:Int) n r e m d c k a l) with m:=m || decide ((R[j]).size=0),p:=(j:Int)+1},true):=fun n r e m d c k a l=>by unfold Tp.pass;rw [if_neg h];dsimp only;rw [hrec]
 rw [hK]
 clear hK hrec h
 generalize R[j]=x at *
 obtain ⟨a',rfl,hL⟩:=hc j x hx
 have hemp:(x.toList == [])=decide (x.size=0):=qcl x
 have hemp2:(x.toList == (⟨#[]⟩:ByteArray).toList)=decide (x.size=0):=by rw [show (⟨#[]⟩:ByteArray).toList=[] from Lib.toList_data _];exact qcl x
 generalize decide (x.size=0)=q at *
 have hw:IntKind.i64.wrap ((j:Int)+1)=(j:Int)+1:=by rw [qaf];unfold wrap64;omega
 clear hc hx hp
 cases m
 all_goals
  go_enter Tryz.func258,Tryz.ntmps258
  go_wp2_with (first|((with_reducible refine qab ?_);first|refine lc hX ?_|refine qaq rfl 9 _ _ _ rfl rfl (hL _ hX.below) ?_|refine lw hX aggT sizT ?_)|((with_reducible refine qah ?_);first|((first|refine sc (z:=.bool _) hX.swap ?_|refine sc (z:=.bool _) hX ?_);clear hX;intro wp hX hk3 hz3;clear hk3 hz3;simp only [sx] at hX)|((first|refine sc (z:=.int .i64 _) hX.swap ?_|refine sc (z:=.int .i64 _) hX ?_);clear hX;intro wp hX hk3 hz3;clear hk3 hz3;simp only [sx] at hX)|(refine qaa (cs':=[(.slice (some a') R.length c1),.int .i64 ((j:Int)+1),.bool n,.bool r,.bool e,.bool _,.bool d,.int .i64 c,.int .i64 k,.int .i64 a,.int .i64 l]) hX.swap aggT sizT _ _ rfl rfl rfl rfl rfl rfl rfl rfl (qan rfl _ _ _ _ _ _ _ _ _ _) ?_;clear hX;intro wz hX hkz;clear hkz)|(refine qaa (cs':=[(.slice (some a') R.length c1),.int .i64 ((j:Int)+1),.bool n,.bool r,.bool e,.bool _,.bool d,.int .i64 c,.int .i64 k,.int .i64 a,.int .i64 l]) hX aggT sizT _ _ rfl rfl rfl rfl rfl rfl rfl rfl (qan rfl _ _ _ _ _ _ _ _ _ _) ?_;clear hX;intro wz hX hkz;clear hkz)))
  first|exact bodyPost_ret (qam Tryz.results258 rfl ((hX.all _ _ _ (.head _)).loadVar rfl aggT sizT)) rfl ⟨rfl,hX.below⟩|exact bodyPost_ret (qam Tryz.results258 rfl ((hX.all _ _ _ (.tail _ (.head _))).loadVar rfl aggT sizT)) rfl ⟨rfl,hX.below⟩
theorem qpq (K:Tp) (hl:K.R.length≤1099511627776) (hp:0≤K.p∧K.p≤(K.R.length:Int)) (A1:Option Addr) (c1:Nat) (w:World) (hs:Sts w (.slice A1 K.R.length c1) K.R):Calls Tryz.prog 259 #[.agg #[(.slice A1 K.R.length c1),.int .i64 (K).p,.bool (K).n,.bool (K).r,.bool (K).e,.bool (K).m,.bool (K).d,.int .i64 (K).c,.int .i64 (K).k,.int .i64 (K).a,.int .i64 (K).l]] w fun e' w'=>e'=.returned (.agg #[(.slice A1 K.R.length c1),.int .i64 (K.back).p,.bool (K.back).n,.bool (K.back).r,.bool (K.back).e,.bool (K.back).m,.bool (K.back).d,.int .i64 (K.back).c,.int .i64 (K.back).k,.int .i64 (K.back).a,.int .i64 (K.back).l])∧Below w.heap.size w w':=by
 obtain ⟨A,c',hv,_,hc⟩:=hs.form
 cases hv
 obtain ⟨R,p,n,r,e,m,d,c,k,a,l⟩:=K
 dsimp only at hl hp hc ⊢
 clear hs
 have hX:=qa0 w [(.slice A1 R.length c1),.int .i64 p,.bool n,.bool r,.bool e,.bool m,.bool d,.int .i64 c,.int .i64 k,.int .i64 a,.int .i64 l] [.slice none 0 0,.int .i64 0,.bool false,.bool false,.bool false,.bool false,.bool false,.int .i64 0,.int .i64 0,.int .i64 0,.int .i64 0]
 by_cases h:p=0
 ·subst h
  have hK:∀ n r e m d c k a l,(Tp.mk R 0 n r e m d c k a l).back={(Tp.mk R 0 n r e m d c k a l) with d:=true}:=fun n r e m d c k a l=>by unfold Tp.back;rw [if_pos rfl]
  rw [hK]
  clear hK hc
  go_enter Tryz.func259,Tryz.ntmps259
  go_wp2_with (first|((with_reducible refine qab ?_);first|refine lc hX ?_|refine lw hX aggT sizT ?_)|((with_reducible refine qah ?_);first|((first|refine sc (z:=.bool _) hX.swap ?_|refine sc (z:=.bool _) hX ?_);clear hX;intro wp hX hk3 hz3;clear hk3 hz3;simp only [sx] at hX)|((first|refine sc (z:=.int .i64 _) hX.swap ?_|refine sc (z:=.int .i64 _) hX ?_);clear hX;intro wp hX hk3 hz3;clear hk3 hz3;simp only [sx] at hX)|(refine qaa (cs':=[(.slice A1 R.length c1),.int .i64 0,.bool n,.bool r,.bool e,.bool m,.bool true,.int .i64 c,.int .i64 k,.int .i64 a,.int .i64 l]) hX.swap aggT sizT _ _ rfl rfl rfl rfl rfl rfl rfl rfl (qan rfl _ _ _ _ _ _ _ _ _ _) ?_;clear hX;intro wz hX hkz;clear hkz)|(refine qaa (cs':=[(.slice A1 R.length c1),.int .i64 0,.bool n,.bool r,.bool e,.bool m,.bool true,.int .i64 c,.int .i64 k,.int .i64 a,.int .i64 l]) hX aggT sizT _ _ rfl rfl rfl rfl rfl rfl rfl rfl (qan rfl _ _ _ _ _ _ _ _ _ _) ?_;clear hX;intro wz hX hkz;clear hkz)))
  first|exact bodyPost_ret (qaj Tryz.results259 rfl ((hX.all _ _ _ (.head _)).loadVar rfl aggT sizT)) rfl ⟨rfl,hX.below⟩|exact bodyPost_ret (qaj Tryz.results259 rfl ((hX.all _ _ _ (.tail _ (.head _))).loadVar rfl aggT sizT)) rfl ⟨rfl,hX.below⟩
 obtain ⟨j,rfl⟩:∃ j:Nat,p=(j:Int)+1:=⟨p.toNat - 1,by omega⟩
 have hjl:j<R.length:=by omega
 have hji:(j:Int)<(R.length:Int):=by omega
 have hx:=List.getElem?_eq_getElem hjl
 have hrec:∀ n r e m d c k a l,recV (Tp.mk R ((j:Int)+1) n r e m d c k a l) ((j:Int)+1 - 1)=R[j]:=fun n r e m d c k a l=>by show R.getD (((j:Int)+1 - 1).toNat) ⟨#[]⟩=_;rw [Int.add_sub_cancel,Int.toNat_natCast,List.getD_eq_getElem?_getD,hx];rfl
 have hK:∀ n r e m d c k a l,(Tp.mk R ((j:Int)+1) n r e m d c k a l).back={(Tp.mk R ((j:Int)+1) n r e m d c k a l) with m:=m || decide ((R[j]).size=0),p:=(j:Int)}:=fun n r e m d c k a l=>by unfold Tp.back;rw [if_neg h];dsimp only;rw [hrec,Int.add_sub_cancel]
 rw [hK]
 clear hK hrec
 generalize R[j]=x at *
 obtain ⟨a',rfl,hL⟩:=hc j x hx
 have hemp:(x.toList == [])=decide (x.size=0):=qcl x
 have hemp2:(x.toList == (⟨#[]⟩:ByteArray).toList)=decide (x.size=0):=by rw [show (⟨#[]⟩:ByteArray).toList=[] from Lib.toList_data _];exact qcl x
 generalize decide (x.size=0)=q at *
 have he:((j:Int)+1 == 0)=false:=by simp;omega
 have hw0:(j:Int)+1 - 1=(j:Int):=by omega
 have hw:IntKind.i64.wrap (j:Int)=(j:Int):=by rw [qaf];unfold wrap64;omega
 clear hc hx hp h
 cases m
 all_goals
  go_enter Tryz.func259,Tryz.ntmps259
  go_wp2_with (first|((with_reducible refine qab ?_);first|refine lc hX ?_|refine qaq rfl 9 _ _ _ rfl rfl (hL _ hX.below) ?_|refine lw hX aggT sizT ?_)|((with_reducible refine qah ?_);first|((first|refine sc (z:=.bool _) hX.swap ?_|refine sc (z:=.bool _) hX ?_);clear hX;intro wp hX hk3 hz3;clear hk3 hz3;simp only [sx] at hX)|((first|refine sc (z:=.int .i64 _) hX.swap ?_|refine sc (z:=.int .i64 _) hX ?_);clear hX;intro wp hX hk3 hz3;clear hk3 hz3;simp only [sx] at hX)|(refine qaa (cs':=[(.slice (some a') R.length c1),.int .i64 (j:Int),.bool n,.bool r,.bool e,.bool _,.bool d,.int .i64 c,.int .i64 k,.int .i64 a,.int .i64 l]) hX.swap aggT sizT _ _ rfl rfl rfl rfl rfl rfl rfl rfl (qan rfl _ _ _ _ _ _ _ _ _ _) ?_;clear hX;intro wz hX hkz;clear hkz)|(refine qaa (cs':=[(.slice (some a') R.length c1),.int .i64 (j:Int),.bool n,.bool r,.bool e,.bool _,.bool d,.int .i64 c,.int .i64 k,.int .i64 a,.int .i64 l]) hX aggT sizT _ _ rfl rfl rfl rfl rfl rfl rfl rfl (qan rfl _ _ _ _ _ _ _ _ _ _) ?_;clear hX;intro wz hX hkz;clear hkz)))
  first|exact bodyPost_ret (qaj Tryz.results259 rfl ((hX.all _ _ _ (.head _)).loadVar rfl aggT sizT)) rfl ⟨rfl,hX.below⟩|exact bodyPost_ret (qaj Tryz.results259 rfl ((hX.all _ _ _ (.tail _ (.head _))).loadVar rfl aggT sizT)) rfl ⟨rfl,hX.below⟩
def TpO (N:Nat) (w:World) (x:Value) (K:Tp):Prop:=∃ A c,x=.agg #[(.slice A K.R.length c),.int .i64 (K).p,.bool (K).n,.bool (K).r,.bool (K).e,.bool (K).m,.bool (K).d,.int .i64 (K).c,.int .i64 (K).k,.int .i64 (K).a,.int .i64 (K).l]∧w.ownsRow N 9 1 (.slice A K.R.length c) K.R.length (K.R.map Value.string)
theorem qos {N:Nat} {w:World} {R:List ByteArray} {p:Int} {n r e m d:Bool} {c k a l:Int} (A:Option Addr) (c0:Nat) {j:Nat} {xs:List Value} (hl:R.length=j) (hx:xs=R.map Value.string) (ho:w.ownsRow N 9 1 (.slice A j c0) j xs):TpO N w (.agg #[(.slice A j c0),.int .i64 p,.bool n,.bool r,.bool e,.bool m,.bool d,.int .i64 c,.int .i64 k,.int .i64 a,.int .i64 l]) (Tp.mk R p n r e m d c k a l):=by
 subst hl hx
 exact ⟨_,_,rfl,ho⟩
def cutT (w:World) (N:Nat):World:={w with heap:=w.heap.extract 0 N}
theorem qcb {w:World} {N:Nat} (h:N≤w.heap.size):(cutT w N).heap.size=N:=by
 show (w.heap.extract 0 N).size=N
 simp;omega
theorem qou {w:World} {N b:Nat} (h:b<N):(cutT w N).heap[b]? = w.heap[b]?:=by
 show (w.heap.extract 0 N)[b]? = w.heap[b]?
 simp [Array.getElem?_extract,h]
 intro h2
 omega
theorem qcv {w:World} {N:Nat} (h:N≤w.heap.size):Below (cutT w N).heap.size (cutT w N) w :=
 ⟨rfl,rfl,rfl,by rw [qcb h];exact h,fun j hj=>(qou (by rw [qcb h] at hj;exact hj)).symm⟩
theorem Bag.baseT {l:List (Nat×TypeId×List Value)} {w00 w0 w:World} (h:Bag l w0 w) (hb:Below w00.heap.size w00 w0):Bag l w00 w:=⟨h.all,hb.trans (h.below.mono hb.size),fun b hm=>Nat.le_trans hb.size (h.lo b hm),h.dis⟩
theorem qbf {l l2:List (Nat×TypeId×List Value)} {w w0 w1 w2:World} {B:Nat} {t:TypeId} {cs:List Value} {r:Option Nat} (hG:w.grownBy w1 r) (h1:Bag l w0 w1) (h2:Bag ((B,t,cs) :: l2) w0 w2) (hk:∀ k,k≠B→w2.heap[k]? = w1.heap[k]?) (hB:w.heap.size≤B):w.grownBy w2 r :=
 ⟨h2.below.os.trans (h1.below.os.symm.trans hG.os),h2.below.tape.trans (h1.below.tape.symm.trans hG.tape),h2.below.output.trans (h1.below.output.symm.trans hG.output),Nat.le_trans hB (Nat.le_of_lt (h2.all _ _ _ (.head _)).lt),fun i hi hr=>(hk i (by omega)).trans (hG.block i hi hr)⟩
theorem qa3 {w w':World} {r:Option Nat} (h:Below w.heap.size w w'):w.grownBy w' r:=⟨h.os,h.tape,h.output,h.size,fun i hi _=>h.block i hi⟩
theorem qgr {w:World} {ops:Array Oper} {rest:List Oper} {o:Oper} {a:Act} {Q:Exit→Act→World→Prop} (hgd:o.guard=none) (s x:Operand)
 (ho:o.op=.call {callee:=.builtin .append,args:=#[s,x],argTypes:=#[36,36]}) (N:Nat) (v:Value) (n:Nat) (xs:List Value) (hs:a.eval s=v) (hown:w.ownsRow N 9 1 v n xs)
 (ad:Addr) (m c:Nat) (news:List Value) (hx:a.eval x=.slice (some ad) m c) (hl:news.length=m) (hnews:∀ j u,news[j]? = some u→w.cell? (ad.add j)=some u) (h1:∀ u∈news,u.oneCell'=true)
 (hb:n+m≤2199023255554) (hN:N≤w.heap.size)
 (h:∀ v' w',w'.ownsRow N 9 1 v' (n+m) (xs++news)→w.grownBy w' v.ownBlock→wpList Tryz.prog ops Q rest (a.put o.dst v') w'):wpList Tryz.prog ops Q (o :: rest) a w:=by
 obtain ⟨i,hi,hz,hsz,hby⟩:=qex
 refine wpList_append_own _ hgd s x 36 ho N 9 i (.string ⟨#[]⟩) 1 16 Tryz.underlying36 hi hz hsz hby rfl (by decide) v n xs hs hown ad m c news hx (by omega) hnews h1 (by unfold maxLen;omega) (by omega) hN ?_
 intro v' w' ho' hg hnil
 exact h v' w' ho' hg
theorem qs0 {w:World} {N g n c s j:Nat} {t:TypeId} {xs:List Value} (h:w.ownsRow N t s (.slice (some ⟨g,0,none⟩) n c) n xs) (hs:s=1) (hj:j≤n):w.ownsRow N t s (.slice (some ⟨g,0,none⟩) j c) j (xs.take j):=by
 subst hs
 obtain ⟨h1,h2⟩:=h
 rcases h2 with ⟨h3,_⟩|⟨g',cap,cur,he,hg,hh,hn,hm,hc,ht⟩
 ·cases h3
 ·cases he
  refine ⟨by rw [List.length_take];omega,.inr ⟨g,c,cur,rfl,hg,hh,by omega,hm,hc,?_⟩⟩
  rw [← ht,List.take_take]
  congr 1
  omega
theorem qlr (K:Tp) (s:ByteArray) (N:Nat) (h64:K.R.length≤64) (hp:0≤K.p∧K.p≤(K.R.length:Int)) (A1:Option Addr) (c1:Nat) (w:World) (hN:N≤w.heap.size) (ho:w.ownsRow N 9 1 (.slice A1 K.R.length c1) K.R.length (K.R.map Value.string)):Calls Tryz.prog 260 #[.agg #[(.slice A1 K.R.length c1),.int .i64 (K).p,.bool (K).n,.bool (K).r,.bool (K).e,.bool (K).m,.bool (K).d,.int .i64 (K).c,.int .i64 (K).k,.int .i64 (K).a,.int .i64 (K).l],.string s] w fun e' w'=>∃ x,e'=.returned x∧TpO N w' x (K.app s)∧w.grownBy w' ((.slice A1 K.R.length c1):Value).ownBlock:=by
 obtain ⟨R,p,n,r,e,m,d,c,k,a,l⟩:=K
 dsimp only at *
 unfold Tp.app
 dsimp only
 by_cases h:64≤p
 ·rw [if_pos h]
  have hX:=qa0 w [(.slice A1 R.length c1),.int .i64 p,.bool n,.bool r,.bool e,.bool m,.bool d,.int .i64 c,.int .i64 k,.int .i64 a,.int .i64 l] [.slice none 0 0,.int .i64 0,.bool false,.bool false,.bool false,.bool false,.bool false,.int .i64 0,.int .i64 0,.int .i64 0,.int .i64 0]
  have d1:(p == 64)=true:=by simp;omega
  clear h hp
  go_enter Tryz.func260,Tryz.ntmps260
  go_wp2_with (first|((with_reducible refine qab ?_);first|refine lc hX ?_|refine lw hX aggT sizT ?_)|(go_at_call 263;with_reducible refine cst hX (qiq (Tp.mk R p n r e m d c k a l) A1 R.length c1 _) ?_;clear hX;intro wp hX)|((with_reducible refine qah ?_);first|(refine qaa (cs':=[(.slice A1 R.length c1),.int .i64 p,.bool n,.bool r,.bool true,.bool m,.bool true,.int .i64 c,.int .i64 k,.int .i64 a,.int .i64 l]) hX.swap aggT sizT _ _ rfl rfl rfl rfl rfl rfl rfl rfl (qan rfl _ _ _ _ _ _ _ _ _ _) ?_;clear hX;intro wz hX hkz;clear hkz)|(refine qaa (cs':=[(.slice A1 R.length c1),.int .i64 p,.bool n,.bool r,.bool true,.bool m,.bool true,.int .i64 c,.int .i64 k,.int .i64 a,.int .i64 l]) hX aggT sizT _ _ rfl rfl rfl rfl rfl rfl rfl rfl (qan rfl _ _ _ _ _ _ _ _ _ _) ?_;clear hX;intro wz hX hkz;clear hkz)))
  first|exact bodyPost_ret (qaj Tryz.results260 rfl ((hX.all _ _ _ (.head _)).loadVar rfl aggT sizT)) rfl ⟨_,rfl,⟨_,_,rfl,qag ho hX.below⟩,qa3 hX.below⟩|exact bodyPost_ret (qaj Tryz.results260 rfl ((hX.all _ _ _ (.tail _ (.head _))).loadVar rfl aggT sizT)) rfl ⟨_,rfl,⟨_,_,rfl,qag ho hX.below⟩,qa3 hX.below⟩
 rw [if_neg h]
 have d1:(p == 64)=false:=by simp;omega
 obtain ⟨j,rfl⟩:∃ j:Nat,p=(j:Int):=⟨p.toNat,by omega⟩
 simp only [Int.toNat_natCast]
 have hj64:(j:Int)<64:=by omega
 have hw:IntKind.i64.wrap ((j:Int)+1)=(j:Int)+1:=by rw [qaf];unfold wrap64;omega
 have hjl:j≤R.length:=by omega
 rcases ho.2 with ⟨h2,h0⟩|⟨g,cap,cur,h2,hg,hh,hnc,hm',hcs,htk⟩
 ·obtain rfl:R=[]:=List.eq_nil_of_length_eq_zero h0
  cases h2
  obtain rfl:j=0:=by simp at hjl;exact hjl
  have hfin:(([]:List Value)++[.string s]=(List.take 0 ([]:List ByteArray)++[s]).map Value.string):=rfl
  have hln:((List.take 0 ([]:List ByteArray)++[s]).length=0+1):=rfl
  replace hfin:=hid hfin
  replace hln:=hid hln
  clear ho hjl h hp h64
  obtain ⟨WW,hWW⟩:∃ WW,(w.alloc (.cells #[(.slice none 0 0),.int .i64 0,.bool n,.bool r,.bool e,.bool m,.bool d,.int .i64 c,.int .i64 k,.int .i64 a,.int .i64 l] 42)).alloc (.cells #[.slice none 0 0,.int .i64 0,.bool false,.bool false,.bool false,.bool false,.bool false,.int .i64 0,.int .i64 0,.int .i64 0,.int .i64 0] 42)=WW:=⟨_,rfl⟩
  have hX:Bag [(w.heap.size+1,42,[.slice none 0 0,.int .i64 0,.bool false,.bool false,.bool false,.bool false,.bool false,.int .i64 0,.int .i64 0,.int .i64 0,.int .i64 0]),(w.heap.size,42,[(.slice none 0 0),.int .i64 0,.bool n,.bool r,.bool e,.bool m,.bool d,.int .i64 c,.int .i64 k,.int .i64 a,.int .i64 l])] (cutT w N) WW:=hWW▸(qa0 w [(.slice none 0 0),.int .i64 0,.bool n,.bool r,.bool e,.bool m,.bool d,.int .i64 c,.int .i64 k,.int .i64 a,.int .i64 l] [.slice none 0 0,.int .i64 0,.bool false,.bool false,.bool false,.bool false,.bool false,.int .i64 0,.int .i64 0,.int .i64 0,.int .i64 0]).baseT (qcv hN)
  have hoW:WW.ownsRow N 9 1 (.slice none 0 0) 0 []:=hWW▸World.ownsRow.alloc (World.ownsRow.alloc (World.ownsRow_nil w N 9 1) _) _
  have hGW:w.grownBy WW none:=hWW▸(World.grownBy_alloc w _ _).trans (World.grownBy_alloc _ _ _)
  have hNW:N≤WW.heap.size:=Nat.le_trans hN hGW.size
  go_enter Tryz.func260,Tryz.ntmps260
  go_wp2_with (first|((with_reducible refine qab ?_);first|refine lc hX ?_|refine lw hX aggT sizT ?_)|(at_builtin;refine qgr rfl (.tmp 14) (.tmp 16) rfl N _ _ _ rfl (World.ownsRow.alloc hoW _) ⟨WW.heap.size,0,none⟩ 1 1 [.string s] rfl rfl qc2 (fun x hx=>by simp at hx;subst hx;rfl) (by omega) (by simp;omega) ?_;intro v3 w3 ho3 hg3;have hG:w.grownBy w3 none:=hGW.trans ((World.grownBy_alloc _ _ _).trans hg3);replace hX:=qce (hX.step ((Below.refl _ _).alloc (Nat.le_refl _) (.cells #[.string s] 9))) (World.ownsRow.alloc hoW (.cells #[.string s] 9)) (by intro q hq;simp only [List.mem_cons,List.not_mem_nil,or_false] at hq;rcases hq with rfl|rfl<;>simp) hg3 (by simp;omega) (Nat.le_of_eq (qcb hN));clear hg3;obtain ⟨A3,c3,rfl,_,_⟩:=Rw.of_own ho3)|((with_reducible refine qah ?_);first|(first|(refine qae (z:=.slice A3 (0+1) c3) hX.swap qfg _ _ rfl rfl rfl rfl rfl rfl (by simp) rfl rfl ?_;intro wp hX3 hk3 hz3;clear hz3;replace ho3:=qac hX.swap ho3 (by decide) hk3;replace hG:=qbf hG hX.swap hX3 hk3 (by first|exact Nat.le_refl _|exact Nat.le_succ _);clear hX;have hX:=hX3;clear hk3 hX3;simp only [sx] at hX)|(refine qae (z:=.slice A3 (0+1) c3) hX qfg _ _ rfl rfl rfl rfl rfl rfl (by simp) rfl rfl ?_;intro wp hX3 hk3 hz3;clear hz3;replace ho3:=qac hX ho3 (by decide) hk3;replace hG:=qbf hG hX hX3 hk3 (by first|exact Nat.le_refl _|exact Nat.le_succ _);clear hX;have hX:=hX3;clear hk3 hX3;simp only [sx] at hX))|(first|(refine qae (z:=.int .i64 _) hX.swap qaw _ _ rfl rfl rfl rfl rfl rfl (by simp) rfl rfl ?_;intro wp hX3 hk3 hz3;clear hz3;replace ho3:=qac hX.swap ho3 (by decide) hk3;replace hG:=qbf hG hX.swap hX3 hk3 (by first|exact Nat.le_refl _|exact Nat.le_succ _);clear hX;have hX:=hX3;clear hk3 hX3;simp only [sx] at hX)|(refine qae (z:=.int .i64 _) hX qaw _ _ rfl rfl rfl rfl rfl rfl (by simp) rfl rfl ?_;intro wp hX3 hk3 hz3;clear hz3;replace ho3:=qac hX ho3 (by decide) hk3;replace hG:=qbf hG hX hX3 hk3 (by first|exact Nat.le_refl _|exact Nat.le_succ _);clear hX;have hX:=hX3;clear hk3 hX3;simp only [sx] at hX))|(refine qaa (cs':=[(.slice A3 (0+1) c3),.int .i64 1,.bool n,.bool r,.bool e,.bool m,.bool d,.int .i64 c,.int .i64 k,.int .i64 a,.int .i64 l]) hX.swap aggT sizT _ _ rfl rfl rfl rfl rfl rfl rfl rfl (qan rfl _ _ _ _ _ _ _ _ _ _) ?_;intro wz hXn hkz;replace ho3:=qac hX.swap ho3 (by decide) hkz;replace hG:=qbf hG hX.swap hXn hkz (by first|exact Nat.le_refl _|exact Nat.le_succ _);clear hX;have hX:=hXn;clear hXn hkz)|(refine qaa (cs':=[(.slice A3 (0+1) c3),.int .i64 1,.bool n,.bool r,.bool e,.bool m,.bool d,.int .i64 c,.int .i64 k,.int .i64 a,.int .i64 l]) hX aggT sizT _ _ rfl rfl rfl rfl rfl rfl rfl rfl (qan rfl _ _ _ _ _ _ _ _ _ _) ?_;intro wz hXn hkz;replace ho3:=qac hX ho3 (by decide) hkz;replace hG:=qbf hG hX hXn hkz (by first|exact Nat.le_refl _|exact Nat.le_succ _);clear hX;have hX:=hXn;clear hXn hkz)))
  first|exact bodyPost_ret (qaj Tryz.results260 rfl ((hX.all _ _ _ (.head _)).loadVar rfl aggT sizT)) rfl ⟨_,rfl,qos A3 c3 hln hfin ho3,hG⟩|exact bodyPost_ret (qaj Tryz.results260 rfl ((hX.all _ _ _ (.tail _ (.head _))).loadVar rfl aggT sizT)) rfl ⟨_,rfl,qos A3 c3 hln hfin ho3,hG⟩
 ·cases h2
  have hot:=qs0 ho rfl hjl
  have hfin:((R.map Value.string).take j++[.string s]=(R.take j++[s]).map Value.string):=by rw [List.map_append,List.map_take];rfl
  have hln:((R.take j++[s]).length=j+1):=by rw [List.length_append,List.length_take];simp;omega
  replace hfin:=hid hfin
  replace hln:=hid hln
  have hjl1:(j:Int)≤(R.length:Int):=by omega
  have hjc:(j:Int)≤(c1:Int):=by omega
  have hj0:(0:Int)≤(j:Int):=by omega
  have hjc2:j≤c1:=by omega
  have hjx:j≤64:=by omega
  generalize (R.map Value.string).take j=X1 at *
  clear ho h hp h64 hh hcs htk hnc
  obtain ⟨WW,hWW⟩:∃ WW,(w.alloc (.cells #[(.slice (some ⟨g,0,none⟩) R.length c1),.int .i64 (j:Int),.bool n,.bool r,.bool e,.bool m,.bool d,.int .i64 c,.int .i64 k,.int .i64 a,.int .i64 l] 42)).alloc (.cells #[.slice none 0 0,.int .i64 0,.bool false,.bool false,.bool false,.bool false,.bool false,.int .i64 0,.int .i64 0,.int .i64 0,.int .i64 0] 42)=WW:=⟨_,rfl⟩
  have hX:Bag [(w.heap.size+1,42,[.slice none 0 0,.int .i64 0,.bool false,.bool false,.bool false,.bool false,.bool false,.int .i64 0,.int .i64 0,.int .i64 0,.int .i64 0]),(w.heap.size,42,[(.slice (some ⟨g,0,none⟩) R.length c1),.int .i64 (j:Int),.bool n,.bool r,.bool e,.bool m,.bool d,.int .i64 c,.int .i64 k,.int .i64 a,.int .i64 l])] (cutT w N) WW:=hWW▸(qa0 w [(.slice (some ⟨g,0,none⟩) R.length c1),.int .i64 (j:Int),.bool n,.bool r,.bool e,.bool m,.bool d,.int .i64 c,.int .i64 k,.int .i64 a,.int .i64 l] [.slice none 0 0,.int .i64 0,.bool false,.bool false,.bool false,.bool false,.bool false,.int .i64 0,.int .i64 0,.int .i64 0,.int .i64 0]).baseT (qcv hN)
  have hoW:WW.ownsRow N 9 1 (.slice (some ⟨g,0,none⟩) j c1) j X1:=hWW▸World.ownsRow.alloc (World.ownsRow.alloc hot _) _
  have hGW:w.grownBy WW (some g):=hWW▸(World.grownBy_alloc w _ _).trans (World.grownBy_alloc _ _ _)
  have hNW:N≤WW.heap.size:=Nat.le_trans hN hGW.size
  go_enter Tryz.func260,Tryz.ntmps260
  go_wp2_with (first|((with_reducible refine qab ?_);first|refine lc hX ?_|refine lw hX aggT sizT ?_)|(at_builtin;refine qgr rfl (.tmp 14) (.tmp 16) rfl N _ _ _ rfl (World.ownsRow.alloc hoW _) ⟨WW.heap.size,0,none⟩ 1 1 [.string s] rfl rfl qc2 (fun x hx=>by simp at hx;subst hx;rfl) (by omega) (by simp;omega) ?_;intro v3 w3 ho3 hg3;have hG:w.grownBy w3 (some g):=hGW.trans ((World.grownBy_alloc _ _ _).trans hg3);replace hX:=qce (hX.step ((Below.refl _ _).alloc (Nat.le_refl _) (.cells #[.string s] 9))) (World.ownsRow.alloc hoW (.cells #[.string s] 9)) (by intro q hq;simp only [List.mem_cons,List.not_mem_nil,or_false] at hq;rcases hq with rfl|rfl<;>simp) hg3 (by simp;omega) (Nat.le_of_eq (qcb hN));clear hg3;obtain ⟨A3,c3,rfl,_,_⟩:=Rw.of_own ho3)|((with_reducible refine qah ?_);first|(first|(refine qae (z:=.slice A3 (j+1) c3) hX.swap qfg _ _ rfl rfl rfl rfl rfl rfl (by simp) rfl rfl ?_;intro wp hX3 hk3 hz3;clear hz3;replace ho3:=qac hX.swap ho3 (by decide) hk3;replace hG:=qbf hG hX.swap hX3 hk3 (by first|exact Nat.le_refl _|exact Nat.le_succ _);clear hX;have hX:=hX3;clear hk3 hX3;simp only [sx] at hX)|(refine qae (z:=.slice A3 (j+1) c3) hX qfg _ _ rfl rfl rfl rfl rfl rfl (by simp) rfl rfl ?_;intro wp hX3 hk3 hz3;clear hz3;replace ho3:=qac hX ho3 (by decide) hk3;replace hG:=qbf hG hX hX3 hk3 (by first|exact Nat.le_refl _|exact Nat.le_succ _);clear hX;have hX:=hX3;clear hk3 hX3;simp only [sx] at hX))|(first|(refine qae (z:=.int .i64 _) hX.swap qaw _ _ rfl rfl rfl rfl rfl rfl (by simp) rfl rfl ?_;intro wp hX3 hk3 hz3;clear hz3;replace ho3:=qac hX.swap ho3 (by decide) hk3;replace hG:=qbf hG hX.swap hX3 hk3 (by first|exact Nat.le_refl _|exact Nat.le_succ _);clear hX;have hX:=hX3;clear hk3 hX3;simp only [sx] at hX)|(refine qae (z:=.int .i64 _) hX qaw _ _ rfl rfl rfl rfl rfl rfl (by simp) rfl rfl ?_;intro wp hX3 hk3 hz3;clear hz3;replace ho3:=qac hX ho3 (by decide) hk3;replace hG:=qbf hG hX hX3 hk3 (by first|exact Nat.le_refl _|exact Nat.le_succ _);clear hX;have hX:=hX3;clear hk3 hX3;simp only [sx] at hX))|(refine qaa (cs':=[(.slice A3 (j+1) c3),.int .i64 ((j:Int)+1),.bool n,.bool r,.bool e,.bool m,.bool d,.int .i64 c,.int .i64 k,.int .i64 a,.int .i64 l]) hX.swap aggT sizT _ _ rfl rfl rfl rfl rfl rfl rfl rfl (qan rfl _ _ _ _ _ _ _ _ _ _) ?_;intro wz hXn hkz;replace ho3:=qac hX.swap ho3 (by decide) hkz;replace hG:=qbf hG hX.swap hXn hkz (by first|exact Nat.le_refl _|exact Nat.le_succ _);clear hX;have hX:=hXn;clear hXn hkz)|(refine qaa (cs':=[(.slice A3 (j+1) c3),.int .i64 ((j:Int)+1),.bool n,.bool r,.bool e,.bool m,.bool d,.int .i64 c,.int .i64 k,.int .i64 a,.int .i64 l]) hX aggT sizT _ _ rfl rfl rfl rfl rfl rfl rfl rfl (qan rfl _ _ _ _ _ _ _ _ _ _) ?_;intro wz hXn hkz;replace ho3:=qac hX ho3 (by decide) hkz;replace hG:=qbf hG hX hXn hkz (by first|exact Nat.le_refl _|exact Nat.le_succ _);clear hX;have hX:=hXn;clear hXn hkz)))
  first|exact bodyPost_ret (qaj Tryz.results260 rfl ((hX.all _ _ _ (.head _)).loadVar rfl aggT sizT)) rfl ⟨_,rfl,qos A3 c3 hln hfin ho3,hG⟩|exact bodyPost_ret (qaj Tryz.results260 rfl ((hX.all _ _ _ (.tail _ (.head _))).loadVar rfl aggT sizT)) rfl ⟨_,rfl,qos A3 c3 hln hfin ho3,hG⟩
end Go.Proofs.YthpnddgfgpacpaaGreat
