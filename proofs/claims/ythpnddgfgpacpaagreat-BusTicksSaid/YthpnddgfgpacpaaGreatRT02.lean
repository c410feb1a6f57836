import Derived.Test.YthpnddgfgpacpaaGreatRT01
import Derived.Test.YthpnddgfgpacpaaGreatRT00
namespace Go.Proofs.YthpnddgfgpacpaaGreat
open Go.RowKit
set_option linter.unusedSimpArgs false
set_option linter.unusedVariables false
set_option maxHeartbeats 4000000
set_option maxRecDepth 100000
attribute [local irreducible] wpQuiet
theorem a4095 (n:Int):bits .and .i64 n 4095=n%4096:=qd1 (c:=4095) (by decide) (Nat.and_two_pow_sub_one_eq_mod _ 12) (by intro h;omega)
theorem qsi (n:Int):bits .and .i64 n 262143=n%262144:=qd1 (c:=262143) (by decide) (Nat.and_two_pow_sub_one_eq_mod _ 18) (by intro h;omega)
def inB (n g:Int):Bool:=decide (0≤n) && decide (n≤g)
theorem qdb (n g:Int) (w:World):Calls Tryz.prog 176 #[.int .i64 n,.int .i64 g] w fun e w'=>e=.returned (.bool (inB n g))∧w=w':=by
 unfold inB
 by_cases h:0≤n
 ·rw [decide_eq_true h,Bool.true_and]
  have h2:decide (0≤n)=true:=decide_eq_true h
  go_enter Tryz.func176,Tryz.ntmps176
  go_wp2
  go_ret
  exact ⟨rfl,rfl⟩
 ·rw [decide_eq_false h,Bool.false_and]
  have h2:decide (0≤n)=false:=decide_eq_false h
  go_enter Tryz.func176,Tryz.ntmps176
  go_wp2
  go_ret
  exact ⟨rfl,rfl⟩
def ofP (n:Int):Bool:=decide (16≤n) && decide (n<80)
theorem qty (n:Int) (w:World):Calls Tryz.prog 178 #[.int .i64 n] w fun e w'=>e=.returned (.bool (ofP n))∧w=w':=by
 unfold ofP
 by_cases h:16≤n
 ·rw [decide_eq_true h,Bool.true_and]
  have h2:decide (16≤n)=true:=decide_eq_true h
  go_enter Tryz.func178,Tryz.ntmps178
  go_wp2
  go_ret
  exact ⟨rfl,rfl⟩
 ·rw [decide_eq_false h,Bool.false_and]
  have h2:decide (16≤n)=false:=decide_eq_false h
  go_enter Tryz.func178,Tryz.ntmps178
  go_wp2
  go_ret
  exact ⟨rfl,rfl⟩
theorem qdr (n:Int) (w:World):Calls Tryz.prog 171 #[.int .i64 n] w fun e w'=>e=.returned (.bool (ofP n && decide ((n - 16)%4=0)))∧w=w':=by
 have hc:=fun w=>qty n w
 cases h:ofP n
 ·rw [Bool.false_and]
  rw [h] at hc
  go_enter Tryz.func171,Tryz.ntmps171
  go_wp2_with (first|(go_at_call 178;with_reducible refine (hc _).mono ?_;rintro e w' ⟨rfl,rfl⟩))
  go_ret
  exact ⟨rfl,rfl⟩
 ·rw [Bool.true_and]
  rw [h] at hc
  have hb:16≤n∧n<80:=by unfold ofP at h;simpa using h
  have h0:0≤n - 16:=by omega
  have h1:n - 16<64:=by omega
  clear h
  go_enter Tryz.func171,Tryz.ntmps171
  go_wp2_with (first|(go_at_call 178;with_reducible refine (hc _).mono ?_;rintro e w' ⟨rfl,rfl⟩))
  go_ret
  exact ⟨rfl,rfl⟩
theorem qez (n:Int) (w:World):Calls Tryz.prog 173 #[.int .i64 n] w fun e w'=>e=.returned (.bool (ofP n && decide ((n - 16)%4=2)))∧w=w':=by
 have hc:=fun w=>qty n w
 cases h:ofP n
 ·rw [Bool.false_and]
  rw [h] at hc
  go_enter Tryz.func173,Tryz.ntmps173
  go_wp2_with (first|(go_at_call 178;with_reducible refine (hc _).mono ?_;rintro e w' ⟨rfl,rfl⟩))
  go_ret
  exact ⟨rfl,rfl⟩
 ·rw [Bool.true_and]
  rw [h] at hc
  have hb:16≤n∧n<80:=by unfold ofP at h;simpa using h
  have h0:0≤n - 16:=by omega
  have h1:n - 16<64:=by omega
  clear h
  go_enter Tryz.func173,Tryz.ntmps173
  go_wp2_with (first|(go_at_call 178;with_reducible refine (hc _).mono ?_;rintro e w' ⟨rfl,rfl⟩))
  go_ret
  exact ⟨rfl,rfl⟩
theorem qe0 (B:Nat) (n:Int) (hn0:16≤n) (hn1:n<80) (m p:Nat) (hm:m<2) (hp:p<8) (hnm:(n - 16) / 4 / 8=(m:Int)) (hnp:(n - 16) / 4%8=(p:Int)) (w:World):Calls Tryz.prog 172 #[.pointer (some ⟨B,0,none⟩),.int .i64 n] w fun e w'=>e=.returned (.pointer (some ⟨B,1+m*32+p*4,none⟩))∧w=w':=by
 have h0:0≤n - 16:=by omega
 have h1:n - 16<64:=by omega
 have h2:0≤(n - 16) / 4:=by omega
 have h3:(n - 16) / 4<16:=by omega
 have m0:(0:Int)≤(m:Int):=by omega
 have m1:(m:Int)<2:=by omega
 have p0:(0:Int)≤(p:Int):=by omega
 have p1:(p:Int)<8:=by omega
 go_enter Tryz.func172,Tryz.ntmps172
 go_wp2
 go_ret
 exact ⟨rfl,rfl⟩
theorem or_nat (a b:Nat) (ha:a<9223372036854775808) (hb:b<9223372036854775808):bits .or .i64 (a:Int) (b:Int)=((a ||| b:Nat):Int):=by
 rw [qtc,qns a (by omega),qns b (by omega)]
 exact qqx (Nat.or_lt_two_pow (n:=63) ha hb)
theorem qtt (k:Nat) {a b:Int} {n:Int} (hn:n=2 ^ k) (ha:0≤a) (hb:0≤b) (hbn:b<n) (h:a*n+b<9223372036854775808):bits .or .i64 (a*n) b=a*n+b∧bits .or .i64 b (a*n)=a*n+b:=by
 obtain ⟨x,rfl⟩:∃ x:Nat,a=x:=⟨a.toNat,by omega⟩
 obtain ⟨y,rfl⟩:∃ y:Nat,b=y:=⟨b.toNat,by omega⟩
 have e:n=((2 ^ k:Nat):Int):=by rw [hn];simp
 have hp:(0:Int)<n:=by omega
 have e2:(x:Int)*n=((2 ^ k*x:Nat):Int):=by rw [e,← Int.natCast_mul,Nat.mul_comm]
 have hx:2 ^ k*x+y<9223372036854775808:=by
  rw [e2] at h;omega
 have hy:y<2 ^ k:=by omega
 have e3:2 ^ k*x ||| y=2 ^ k*x+y:=(Nat.two_pow_add_eq_or_of_lt hy x).symm
 rw [e2,or_nat _ _ (by omega) (by omega),or_nat _ _ (by omega) (by omega),e3,Nat.or_comm y,e3]
 constructor<;>omega
theorem qqt (g:Pg) (w:World):Calls Tryz.prog 175 #[.agg g.L.toArray] w fun e w'=>e=.returned (.bool g.good)∧Below w.heap.size w w':=by
 obtain ⟨b,l,a,r⟩:=g
 have hB:Below w.heap.size w (w.alloc (.cells #[.int .i64 b,.int .i64 l,.int .i64 a,.bool r] 28)):=(Below.refl _ _).alloc (Nat.le_refl _) _
 have hb:=fun w=>qdb b 4095 w
 have hl:=fun w=>qdb l 128 w
 have ha:=fun w=>qdb a 2 w
 have e:Pg.good ⟨b,l,a,r⟩=(inB b 4095 && (inB l 128 && inB a 2)):=by simp only [Pg.good,inB,Bool.and_assoc]
 rw [e]
 generalize inB b 4095=q1 at *
 generalize inB l 128=q2 at *
 generalize inB a 2=q3 at *
 clear e
 show Calls Tryz.prog 175 #[.agg #[.int .i64 b,.int .i64 l,.int .i64 a,.bool r]] w _
 cases q1
 ·go_enter Tryz.func175,Tryz.ntmps175
  go_wp2_with (first|(go_at_call 176;first|(with_reducible refine (hb _).mono ?_;rintro e w' ⟨rfl,rfl⟩)|(with_reducible refine (hl _).mono ?_;rintro e w' ⟨rfl,rfl⟩)|(with_reducible refine (ha _).mono ?_;rintro e w' ⟨rfl,rfl⟩)))
  go_ret
  exact ⟨rfl,hB⟩
 ·cases q2
  ·go_enter Tryz.func175,Tryz.ntmps175
   go_wp2_with (first|(go_at_call 176;first|(with_reducible refine (hb _).mono ?_;rintro e w' ⟨rfl,rfl⟩)|(with_reducible refine (hl _).mono ?_;rintro e w' ⟨rfl,rfl⟩)|(with_reducible refine (ha _).mono ?_;rintro e w' ⟨rfl,rfl⟩)))
   go_ret
   exact ⟨rfl,hB⟩
  ·go_enter Tryz.func175,Tryz.ntmps175
   go_wp2_with (first|(go_at_call 176;first|(with_reducible refine (hb _).mono ?_;rintro e w' ⟨rfl,rfl⟩)|(with_reducible refine (hl _).mono ?_;rintro e w' ⟨rfl,rfl⟩)|(with_reducible refine (ha _).mono ?_;rintro e w' ⟨rfl,rfl⟩)))
   go_ret
   exact ⟨rfl,hB⟩
theorem qpk (u:Un) (hu:u.ok) (h0:0≤u.st) (h1:u.st≤3) (w:World):Calls Tryz.prog 170 #[.agg u.L.toArray] w fun e w'=>e=.returned (.int .i64 (statV u))∧Below w.heap.size w w':=by
 have hX:=One.put u w
 have c0:=hX.b.cell (Un.at0 u)
 have c65:=hX.b.cell (Un.at65 hu)
 have hB:=hX.below
 unfold statV
 have hO:=(qtt 1 (n:=2) (a:=u.st) (b:=1) (by decide) h0 (by decide) (by decide) (by omega)).1
 have V1:IntKind.i64.wrap (u.st*2)=u.st*2:=by rw [qaf];exact IntWalk.wrap64_in _ ⟨by omega,by omega⟩
 rw [show 2*u.st=u.st*2 by omega]
 generalize u.st=s at *
 cases hon:u.on
 all_goals
  rw [hon] at c0
  go_enter Tryz.func170,Tryz.ntmps170
  go_wp2
  go_ret
  exact ⟨rfl,hB⟩
theorem desc_any (g:Pg) (hg:g.good=true) (w:World):Calls Tryz.prog 174 #[.agg g.L.toArray] w fun e w'=>e=.returned (.int .i64 (descV g))∧Below w.heap.size w w':=by
 obtain ⟨_,_,h0,h1,h2,h3⟩:=Pg.good_all hg
 obtain ⟨b,l,a,r⟩:=g
 simp only at h0 h1 h2 h3
 have hB:Below w.heap.size w (w.alloc (.cells #[.int .i64 b,.int .i64 l,.int .i64 a,.bool r] 28)):=(Below.refl _ _).alloc (Nat.le_refl _) _
 have hO:=(qtt 8 (n:=256) (a:=a) (b:=l) (by decide) h2 h0 (by omega) (by omega)).2
 have hO2:=(qtt 15 (n:=32768) (a:=1) (b:=a*256+l) (by decide) (by decide) (by omega) (by omega) (by omega)).2
 have V1:IntKind.i64.wrap (a*256)=a*256:=by rw [qaf];exact IntWalk.wrap64_in _ ⟨by omega,by omega⟩
 unfold descV
 simp only
 rw [show l+256*a=a*256+l by omega]
 rw [Int.one_mul,show (32768:Int)+(a*256+l)=a*256+l+32768 by omega] at hO2
 show Calls Tryz.prog 174 #[.agg #[.int .i64 b,.int .i64 l,.int .i64 a,.bool r]] w _
 clear hg
 cases r
 all_goals
  go_enter Tryz.func174,Tryz.ntmps174
  go_wp2
  go_ret
  exact ⟨rfl,hB⟩
theorem qob (g:Pg):∀ v∈g.L,v.oneCell'=true:=by
 intro v h
 simp [Pg.L] at h
 rcases h with rfl|rfl|rfl|rfl<;>rfl
theorem qq0 (l:List Pg):∀ v∈l.flatMap Pg.L,v.oneCell'=true:=by
 intro v h
 obtain ⟨p,_,h⟩:=List.mem_flatMap.1 h
 exact qob p v h
def Z8:List Value:=(List.replicate 8 Pg.z).flatMap Pg.L
theorem qs8 (w:World):(zeroValue 29).run Tryz.prog w=.ok (.agg Z8.toArray) w:=by kernel_rfl
theorem zero_pg (w:World):(zeroValue 28).run Tryz.prog w=.ok (.agg Pg.z.L.toArray) w:=by kernel_rfl
theorem qki (w:World):(isAgg 29).run Tryz.prog w=.ok true w:=by kernel_rfl
theorem qkk (w:World):(sizeOf 29).run Tryz.prog w=.ok 32 w:=by kernel_rfl
theorem qsp (w:World):(isAgg 30).run Tryz.prog w=.ok true w:=by kernel_rfl
theorem quc (w:World):(sizeOf 30).run Tryz.prog w=.ok 64 w:=by kernel_rfl
theorem qkq (w:World):(isAgg 28).run Tryz.prog w=.ok true w:=by kernel_rfl
theorem ql2 (w:World):(sizeOf 28).run Tryz.prog w=.ok 4 w:=by kernel_rfl
theorem Un.tail_in (u:Un):u.tail=(inB u.st 3 && inB u.ad 65535):=by
 have e:decide (u.ad<65536)=decide (u.ad≤65535):=decide_eq_decide.2 (by omega)
 simp only [Un.tail,inB,e,Bool.and_assoc]
theorem Un.modes {u:Un} (hu:u.ok):∀ j v,(u.pg.flatMap Pg.L)[j]? = some v→u.L[1+j]? = some v:=by
 intro j v h
 have hj:=(List.getElem?_eq_some_iff.1 h).1
 rw [Nat.add_comm,Un.L,List.getElem?_cons_succ,List.getElem?_append_left hj];exact h
theorem mode_len {u:Un} (hu:u.ok) {m:Nat} (hm:m<2):((u.pg.drop (8*m)).take 8).length=8:=by
 have:u.pg.length=16:=hu
 rw [List.length_take,List.length_drop];omega
theorem qmg (u:Un) (hu:u.ok) (W0:World):Calls Tryz.prog 168 #[.agg u.L.toArray] W0 fun e w'=>e=.returned (.bool u.right)∧Below W0.heap.size W0 w':=by
 have hX:=One.put u W0
 have hl16:u.pg.length=16:=hu
 obtain ⟨Q,hQ⟩:∃ Q,Hid_9 (Q=u.right):=⟨_,rfl⟩
 rw [← show Q=u.right from hQ]
 have h65:=Un.at65 hu
 have h66:=Un.at66 hu
 have hz8:=qs8
 have hzp:=zero_pg
 have hlZ:Z8.length=32:=by decide
 have hlP:Pg.z.L.length=4:=rfl
 have hw1:=fun w=>qdb u.st 3 w
 have hw2:=fun w=>qdb u.ad 65535 w
 have hrp:=fun g w=>qqt g w
 have hldP:=(hX.b.loadAtSub (P:=Tryz.prog) (T:=30) (k:=1) (n:=64) (Un.modes hu) (by rw [qcn,hl16]) qsp quc)
 generalize Z8=Z8 at *
 generalize Pg.z.L=ZP at *
 obtain ⟨M,hM⟩:∃ M,Hid_9 (u.pg.flatMap Pg.L=M):=⟨_,rfl⟩
 rw [show u.pg.flatMap Pg.L=M from hM] at hldP
 go_enter Tryz.func168,Tryz.ntmps168
 go_wp2_with (first|(refine qa4 rfl 30 _ _ (.agg M.toArray) rfl rfl hldP ?_))
 go_loopw [9] (fun i wr=>∃ m:Nat,m≤2∧i=.int .i64 m∧One W0.heap.size u W0 wr∧Hid_9 (Q=((u.pg.drop (8*m)).all Pg.good && u.tail)))
  (fun i _=>2 - (intOf i).toNat)
 case atStart=>exact ⟨0,by decide,rfl,hX,hQ⟩
 case round =>
  clear hX hQ hldP
  obtain ⟨m,hm,rfl,hX,hQ⟩:=hrel
  by_cases hm2:m<2
  ·obtain ⟨N,hN⟩:∃ N,Hid_9 (((u.pg.drop (8*m)).take 8).flatMap Pg.L=N):=⟨_,rfl⟩
   have hNl:N.length=32:=by rw [← show _=N from hN,qcn,mode_len hu hm2]
   have hN1:∀ v∈N,v.oneCell'=true:=by rw [← show _=N from hN];exact qq0 _
   have hidx:=fun w=>qfr (P:=Tryz.prog) (t:=30) (e:=29) (w:=w) (n:=2) (c:=32) (cs:=M) (ds:=N) m Tryz.underlying30 hm2 qki qkk (by
    rw [← show _=M from hM,← show _=N from hN,show m*32=4*(8*m) by omega,qem,show 32=4*8 by rfl,qeq])
   go_wp2_with (first|(refine qdg rfl 30 _ _ (.agg M.toArray) (.int .i64 m) (.agg N.toArray) rfl rfl rfl (hidx _) ?_)|(refine qbc rfl rfl 29 _ _ _ N rfl rfl rfl qki (by rw [hNl];exact qkk) (qcp _ Z8 N (by rw [hNl,hlZ]) hN1) ?_)|(refine qa4 rfl 29 _ _ (.agg N.toArray) rfl rfl ((Blk.new 29 _ N).loadAt hNl qki qkk) ?_))
   have hY:=hX.step ((Below.refl wr.heap.size wr).alloc (Nat.le_refl _) (.cells N.toArray 29))
   clear hX
   generalize wr.alloc (.cells N.toArray 29)=wa at *
   go_loopw [13] (fun i wq=>∃ p:Nat,p≤8∧i=.int .i64 p∧One W0.heap.size u W0 wq∧Hid_9 (Q=((u.pg.drop (8*m+p)).all Pg.good && u.tail)))
    (fun i _=>8 - (intOf i).toNat)
   case atStart=>exact ⟨0,by decide,rfl,hY,hQ⟩
   case round =>
    clear hY hQ
    obtain ⟨p,hp,rfl,hX,hQ⟩:=hrel
    by_cases hp8:p<8
    ·obtain ⟨g,hg⟩:∃ g,u.pg[8*m+p]? = some g:=⟨_,List.getElem?_eq_getElem (by omega)⟩
     have hd:=qn0 hg
     have hpx:=fun w=>qfr (P:=Tryz.prog) (t:=29) (e:=28) (w:=w) (n:=8) (c:=4) (cs:=N) (ds:=g.L) p Tryz.underlying29 hp8 qkq ql2 (by
      rw [← show _=N from hN,show p*4=4*p by omega,qem,show (4:Nat)=4*1 by rfl,qeq]
      rw [List.drop_take,List.drop_drop,List.take_take,Nat.min_eq_left (by omega),List.drop_eq_getElem_cons (by omega),List.take_succ_cons,List.take_zero,(List.getElem?_eq_some_iff.1 hg).2]
      simp)
     have hgl:g.L.length=4:=rfl
     have hg1:=qob g
     have hY:=hX.step ((Below.refl wr.heap.size wr).alloc (Nat.le_refl _) (.cells g.L.toArray 28))
     have hrg:=fun w=>hrp g w
     obtain ⟨G,hG⟩:∃ G,Hid_9 (g.L=G):=⟨_,rfl⟩
     rw [show g.L=G from hG] at hpx hgl hg1 hY hrg
     replace hd:=qs9 hd
     replace hg:=qs9 hg
     have hgg:∃ b,g.good=b:=⟨_,rfl⟩
     obtain ⟨bg,hgg⟩:=hgg
     rw [hgg] at hrg
     replace hgg:=qs9 hgg
     clear hX
     cases bg
     ·have hQ:Hid_9 (Q=false):=by
       show _=_
       rw [show Q=_ from hQ,show _=_ from hd,show g.good=false from hgg];rfl
      go_wp2_with (first|(go_at_call 175;with_reducible refine (hrg _).mono ?_;rintro e w' ⟨rfl,hb⟩;have hY:=hY.step hb)|(refine qdg rfl 29 _ _ (.agg N.toArray) (.int .i64 p) (.agg G.toArray) rfl rfl rfl (hpx _) ?_)|(refine qbc rfl rfl 28 _ _ _ G rfl rfl rfl qkq (by rw [hgl];exact ql2) (qcp _ ZP G (by rw [hgl,hlP]) hg1) ?_)|(refine qa4 rfl 28 _ _ (.agg G.toArray) rfl rfl ((Blk.new 28 _ G).loadAt hgl qkq ql2) ?_))
      go_ret
      exact ⟨qbr (by rw [show Q=false from hQ]),hY.below⟩
     ·have hQ:Hid_9 (Q=((u.pg.drop (8*m+(p+1))).all Pg.good && u.tail)):=by
       show _=_
       rw [show Q=_ from hQ,show _=_ from hd,show g.good=true from hgg,Bool.true_and]
       rfl
      go_wp2_with (first|(go_at_call 175;with_reducible refine (hrg _).mono ?_;rintro e w' ⟨rfl,hb⟩;have hY:=hY.step hb)|(refine qdg rfl 29 _ _ (.agg N.toArray) (.int .i64 p) (.agg G.toArray) rfl rfl rfl (hpx _) ?_)|(refine qbc rfl rfl 28 _ _ _ G rfl rfl rfl qkq (by rw [hgl];exact ql2) (qcp _ ZP G (by rw [hgl,hlP]) hg1) ?_)|(refine qa4 rfl 28 _ _ (.agg G.toArray) rfl rfl ((Blk.new 28 _ G).loadAt hgl qkq ql2) ?_))
      go_round
      case rel=>exact ⟨p+1,by omega,by go_num,hY,hQ⟩
      case measure=>simp [intOf];omega
    ·obtain rfl:p=8:=by omega
     go_wp2
     go_round
     case rel=>exact ⟨m+1,by omega,by go_num,hX,hQ⟩
     case measure=>simp [intOf];omega
  ·obtain rfl:m=2:=by omega
   have hQ:Hid_9 (Q=(inB u.st 3 && inB u.ad 65535)):=by
    show _=_
    rw [show Q=_ from hQ,List.drop_eq_nil_of_le (by omega),← Un.tail_in]
    rfl
   have c65:=hX.b.cell h65
   have c66:=hX.b.cell h66
   have hB:=hX.below
   generalize u.st=s at *
   generalize u.ad=d at *
   generalize inB s 3=q1 at *
   generalize inB d 65535=q2 at *
   cases q1
   ·have hQ:Hid_9 (Q=false):=hQ
    go_wp2_with (first|(go_at_call 176;first|(with_reducible refine (hw1 _).mono ?_;rintro e w' ⟨rfl,rfl⟩)|(with_reducible refine (hw2 _).mono ?_;rintro e w' ⟨rfl,rfl⟩)))
    go_ret
    exact ⟨qbr (by rw [show Q=false from hQ]),hB⟩
   ·have hQ:Hid_9 (Q=q2):=hQ
    go_wp2_with (first|(go_at_call 176;first|(with_reducible refine (hw1 _).mono ?_;rintro e w' ⟨rfl,rfl⟩)|(with_reducible refine (hw2 _).mono ?_;rintro e w' ⟨rfl,rfl⟩)))
    go_ret
    exact ⟨qbr (by rw [show Q=q2 from hQ]),hB⟩
theorem qib {n:Int} (h:isReg n=true):ofP n=true:=by have:=qct h;unfold ofP;rw [decide_eq_true this.1,decide_eq_true this.2.1];rfl
theorem qnz {n:Int} (h:isReg n=false):(ofP n && decide ((n - 16)%4=0))=false∧(ofP n && decide ((n - 16)%4=2))=false:=by
 unfold isReg at h
 unfold ofP
 simp only [Bool.and_eq_false_iff,decide_eq_false_iff_not] at h ⊢
 constructor<;>omega
theorem rd_stat (u:Un) (hu:u.ok) (n:Int) (hn:n=0) (h0:0≤u.st) (h1:u.st≤3) (W0:World):Calls Tryz.prog 166 #[.agg u.L.toArray,.int .i64 n] W0 fun e w'=>e=.returned (.tuple #[.int .i64 (statV u),.bool true])∧Below W0.heap.size W0 w':=by
 have hX:=One.put u W0
 have hB:=hX.below
 have hs:=fun w=>qpk u hu h0 h1 w
 have hld:=hX.b.loadAt (P:=Tryz.prog) (T:=32) (Un.len hu) qb3 qbp
 subst hn
 go_enter Tryz.func166,Tryz.ntmps166
 go_wp2_with (first|(go_at_call 170;with_reducible refine (hs _).mono ?_;rintro e w' ⟨rfl,hb⟩;have hX:=hX.step hb)|(refine qa4 rfl 32 _ _ (.agg u.L.toArray) rfl rfl hld ?_))
 go_ret2
 exact ⟨rfl,hX.below⟩
theorem rd_addr (u:Un) (hu:u.ok) (n:Int) (hn:n=2) (W0:World):Calls Tryz.prog 166 #[.agg u.L.toArray,.int .i64 n] W0 fun e w'=>e=.returned (.tuple #[.int .i64 u.ad,.bool true])∧Below W0.heap.size W0 w':=by
 have hX:=One.put u W0
 have hB:=hX.below
 have c66:=hX.b.cell (Un.at66 hu)
 subst hn
 go_enter Tryz.func166,Tryz.ntmps166
 go_wp2
 go_ret2
 exact ⟨rfl,hB⟩
theorem rd_none (u:Un) (hu:u.ok) (n:Int) (hn:isReg n=false) (hn0:n≠0) (hn2:n≠2) (W0:World):Calls Tryz.prog 166 #[.agg u.L.toArray,.int .i64 n] W0 fun e w'=>e=.returned (.tuple #[.int .i64 0,.bool false])∧Below W0.heap.size W0 w':=by
 have hX:=One.put u W0
 have hB:=hX.below
 have h1:=fun w=>qdr n w
 have h2:=fun w=>qez n w
 rw [(qnz hn).1] at h1
 rw [(qnz hn).2] at h2
 clear hn
 go_enter Tryz.func166,Tryz.ntmps166
 go_wp2_with (first|(go_at_call 171;with_reducible refine (h1 _).mono ?_;rintro e w' ⟨rfl,hw⟩;subst hw)|(go_at_call 173;with_reducible refine (h2 _).mono ?_;rintro e w' ⟨rfl,hw⟩;subst hw))
 go_ret2
 exact ⟨rfl,hB⟩
theorem rd_base (u:Un) (hu:u.ok) (n:Int) (hn:isReg n=true) (m p:Nat) (hm:m<2) (hp:p<8) (hnm:(n - 16) / 32=(m:Int)) (hnp:(n - 16)%32 / 4=(p:Int)) (g:Pg) (hg:u.pg[8*m+p]? = some g) (hd:¬ (n - 16)%4=2) (W0:World):Calls Tryz.prog 166 #[.agg u.L.toArray,.int .i64 n] W0 fun e w'=>e=.returned (.tuple #[.int .i64 g.b,.bool true])∧Below W0.heap.size W0 w':=by
 have hX:=One.put u W0
 have hB:=hX.below
 have hr:=qct hn
 have h1:=fun w=>qdr n w
 rw [qib hn,decide_eq_true (show (n - 16)%4=0 by omega)] at h1
 have h3:=fun w=>qe0 W0.heap.size n hr.1 hr.2.1 m p hm hp (by omega) (by omega) w
 have hn0:¬ n=0:=by omega
 have hn2:¬ n=2:=by omega
 have ⟨k0,_,_,_⟩:=hX.page hg
 clear hd hn hnm hnp hr hX
 obtain ⟨gb,gl,ga,gr⟩:=g
 simp only at *
 go_enter Tryz.func166,Tryz.ntmps166
 go_wp2_with (first|(go_at_call 171;with_reducible refine (h1 _).mono ?_;rintro e w' ⟨rfl,hw⟩;subst hw)|(go_at_call 172;with_reducible refine (h3 _).mono ?_;rintro e w' ⟨rfl,hw⟩;subst hw))
 go_ret2
 exact ⟨rfl,hB⟩
theorem rd_desc (u:Un) (hu:u.ok) (n:Int) (hn:isReg n=true) (m p:Nat) (hm:m<2) (hp:p<8) (hnm:(n - 16) / 32=(m:Int)) (hnp:(n - 16)%32 / 4=(p:Int)) (g:Pg) (hg:u.pg[8*m+p]? = some g) (hd:(n - 16)%4=2) (hgd:g.good=true) (W0:World):Calls Tryz.prog 166 #[.agg u.L.toArray,.int .i64 n] W0 fun e w'=>e=.returned (.tuple #[.int .i64 (descV g),.bool true])∧Below W0.heap.size W0 w':=by
 have hX:=One.put u W0
 have hB:=hX.below
 have hr:=qct hn
 have h1:=fun w=>qdr n w
 have h2:=fun w=>qez n w
 rw [qib hn,decide_eq_false (show ¬ (n - 16)%4=0 by omega)] at h1
 rw [qib hn,decide_eq_true hd] at h2
 have h3:=fun w=>qe0 W0.heap.size n hr.1 hr.2.1 m p hm hp (by omega) (by omega) w
 have hn0:¬ n=0:=by omega
 have hn2:¬ n=2:=by omega
 obtain ⟨k0,k1,k2,k3⟩:=hX.page hg
 have hc:=fun w=>desc_any g hgd w
 generalize descV g=R at *
 clear hd hn hnm hnp hr hgd
 obtain ⟨gb,gl,ga,gr⟩:=g
 simp only at *
 have hc:∀ w,Calls Tryz.prog 174 #[.agg #[.int .i64 gb,.int .i64 gl,.int .i64 ga,.bool gr]] w fun e w'=>e=.returned (.int .i64 R)∧Below w.heap.size w w':=hc
 go_enter Tryz.func166,Tryz.ntmps166
 go_wp2_with (first|(go_at_call 171;with_reducible refine (h1 _).mono ?_;rintro e w' ⟨rfl,hw⟩;subst hw)|(go_at_call 173;with_reducible refine (h2 _).mono ?_;rintro e w' ⟨rfl,hw⟩;subst hw)|(go_at_call 172;with_reducible refine (h3 _).mono ?_;rintro e w' ⟨rfl,hw⟩;subst hw)|(go_at_call 174;with_reducible refine (hc _).mono ?_;rintro e w' ⟨rfl,hb⟩;have hX:=hX.step hb))
 go_ret2
 exact ⟨rfl,hX.below⟩
theorem qqo (u:Un) (hu:u.ok) (hr:u.right=true) (n:Int) (W0:World):Calls Tryz.prog 166 #[.agg u.L.toArray,.int .i64 n] W0 fun e w'=>e=.returned (.tuple #[.int .i64 (u.read n).1,.bool (u.read n).2])∧Below W0.heap.size W0 w':=by
 have ht:=Un.right_tail hr
 by_cases h0:n=0
 ·rw [show u.read n=_ from by unfold Un.read;rw [if_pos h0]]
  exact rd_stat u hu n h0 ht.1 ht.2.1 W0
 by_cases h2:n=2
 ·rw [show u.read n=_ from by unfold Un.read;rw [if_neg h0,if_pos h2]]
  exact rd_addr u hu n h2 W0
 by_cases hn:isReg n=true
 ·have hk:=qnh hn
  have hg:=Un.pgAt_some hu hk
  have hgd:=Un.right_at hr hu hk
  have hi:=qct hn
  by_cases hd:(n - 16)%4=2
  ·rw [show u.read n=_ from by unfold Un.read;rw [if_neg h0,if_neg h2,if_pos hn,if_pos hd]]
   exact rd_desc u hu n hn ((n - 16) / 32).toNat ((n - 16)%32 / 4).toNat (by omega) (by omega) (by omega) (by omega) _ hg hd hgd W0
  ·rw [show u.read n=_ from by unfold Un.read;rw [if_neg h0,if_neg h2,if_pos hn,if_neg hd]]
   exact rd_base u hu n hn ((n - 16) / 32).toNat ((n - 16)%32 / 4).toNat (by omega) (by omega) (by omega) (by omega) _ hg hd W0
 ·rw [show u.read n=_ from by unfold Un.read;rw [if_neg h0,if_neg h2,if_neg hn]]
  exact rd_none u hu n (by simpa using hn) h0 h2 W0
set_option maxHeartbeats 8000000
theorem qlw {B C m p:Nat} {u Z:Un} {w0 w:World} {g:Pg} (hm:m<2) (hp:p<8) (hX:Two B C u Z w0 w) (hg:u.pg[8*m+p]? = some g) (hn:C≠B) (hB:w0.heap.size≤B) (v:Int) :
 Calls Tryz.prog 177 #[.pointer (some ⟨B,1+m*32+p*4,none⟩),.int .i64 v] w fun e w'=>e=.returned (.tuple #[])∧Two B C (u.withP (8*m+p) ⟨g.b,min (v%65536%256) 128,min (v%65536 / 256%4) 2,false⟩) Z w0 w':=by
 have A1:=a255 v
 have A2:=a3 (v / 256)
 rw [show v%65536%256=v%256 by omega,show v%65536 / 256%4=v / 256%4 by omega]
 have hq1:0≤v%256:=by omega
 have hq2:0≤v / 256%4:=by omega
 have hA:∃ ml,min (v%256) 128=ml∧((v%256≤128∧ml=v%256)∨(128<v%256∧ml=128)):=⟨_,rfl,by omega⟩
 have hM:∃ ma,min (v / 256%4) 2=ma∧((v / 256%4≤2∧ma=v / 256%4)∨(2<v / 256%4∧ma=2)):=⟨_,rfl,by omega⟩
 obtain ⟨ml,hml,hA⟩:=hA
 obtain ⟨ma,hma,hM⟩:=hM
 rw [hml,hma]
 clear hml hma
 obtain ⟨gb,gl,ga,gr⟩:=g
 have f1:=hX.fz (1+m*32+p*4+1)
 obtain ⟨_,c1,_,_⟩:=hX.page hg
 have hg1:=Un.withP_at (g':=⟨gb,ml,ga,gr⟩) hg
 have hY1:=hX.putF (g':=⟨gb,ml,ga,gr⟩) hg hn hB 1 (by decide) (.int .i64 ml) rfl (1+m*32+p*4+1) rfl
 obtain ⟨W1,e1,hY1⟩:∃ W1,W1=_∧Two _ _ _ _ _ W1:=⟨_,rfl,hY1⟩
 have f2:=hY1.fz (1+m*32+p*4+2)
 obtain ⟨_,_,c2,_⟩:=hY1.page hg1
 have hg2:=Un.withP_at (g':=⟨gb,ml,ma,gr⟩) hg1
 have hY2:=hY1.putF (g':=⟨gb,ml,ma,gr⟩) hg1 hn hB 2 (by decide) (.int .i64 ma) rfl (1+m*32+p*4+2) rfl
 obtain ⟨W2,e2,hY2⟩:∃ W2,W2=_∧Two _ _ _ _ _ W2:=⟨_,rfl,hY2⟩
 have f3:=hY2.fz (1+m*32+p*4+3)
 obtain ⟨_,_,_,c3⟩:=hY2.page hg2
 have hY3:=hY2.putF (g':=⟨gb,ml,ma,false⟩) hg2 hn hB 3 (by decide) (.bool false) rfl (1+m*32+p*4+3) rfl
 obtain ⟨W3,e3,hZ3⟩:∃ W3,W3=_∧Two _ _ _ _ _ W3:=⟨_,rfl,hY3⟩
 replace e1:=e1.symm
 replace e2:=e2.symm
 replace e3:=e3.symm
 rw [qhq,qhq] at hZ3
 simp only at *
 generalize u.withP (8*m+p) ⟨gb,ml,ma,false⟩=u2 at *
 clear hY1 hY2 hY3 hg hg1 hg2 hX
 rcases hA with ⟨a1,a2⟩|⟨a1,a2⟩<;>rcases hM with ⟨b1,b2⟩|⟨b1,b2⟩
 all_goals
  subst a2 b2
  go_enter Tryz.func177,Tryz.ntmps177
  go_wp2
  refine bodyPost_end (v:=.tuple #[]) (by simp [results,Tryz.results177,go_sem]) rfl ⟨rfl,hZ3⟩
theorem wr_addr (u:Un) (hu:u.ok) (n v:Int) (hn:n=2) (W0:World):Calls Tryz.prog 169 #[.agg u.L.toArray,.int .i64 n,.int .i64 v] W0 fun e w'=>e=.returned (.tuple #[.agg u.L.toArray,.bool true])∧Below W0.heap.size W0 w':=by
 have hz:=qec
 have hX:=Two.put u W0
 have hln:=Un.len hu
 have hzl:=Un.zlen
 have hzo:=Un.z_ok
 subst hn
 generalize Un.z=Z at *
 obtain ⟨hld,W,hst,hX2,hlv⟩:=hX.outR hu hzo (by omega) (by omega)
 go_enter Tryz.func169,Tryz.ntmps169
 go_wp2_with (first|(refine qa4 rfl 32 (.tmp 3) (.pointer (some ⟨W0.heap.size,0,none⟩)) (.agg u.L.toArray) rfl rfl hld ?_))
 exact bodyPost_ret (qam Tryz.results169 rfl hlv) rfl ⟨rfl,hX2.below⟩
theorem wr_none (u:Un) (hu:u.ok) (n v:Int) (hn:isReg n=false) (hn0:n≠0) (hn2:n≠2) (W0:World):Calls Tryz.prog 169 #[.agg u.L.toArray,.int .i64 n,.int .i64 v] W0 fun e w'=>e=.returned (.tuple #[.agg u.L.toArray,.bool false])∧Below W0.heap.size W0 w':=by
 have hz:=qec
 have hX:=Two.put u W0
 have hln:=Un.len hu
 have hzl:=Un.zlen
 have hzo:=Un.z_ok
 have h1:=fun w=>qdr n w
 have h2:=fun w=>qez n w
 rw [(qnz hn).1] at h1
 rw [(qnz hn).2] at h2
 clear hn
 generalize Un.z=Z at *
 obtain ⟨hld,W,hst,hX2,hlv⟩:=hX.outR hu hzo (by omega) (by omega)
 generalize hW1:(W0.alloc (.cells u.L.toArray 32)).alloc (.cells Z.L.toArray 32)=W1 at *
 go_enter Tryz.func169,Tryz.ntmps169
 go_wp2_with (first|(go_at_call 171;with_reducible refine (h1 _).mono ?_;rintro e w' ⟨rfl,hw⟩;subst hw)|(go_at_call 173;with_reducible refine (h2 _).mono ?_;rintro e w' ⟨rfl,hw⟩;subst hw)|(refine qa4 rfl 32 (.tmp 3) (.pointer (some ⟨W0.heap.size,0,none⟩)) (.agg u.L.toArray) rfl rfl hld ?_))
 exact bodyPost_ret (qam Tryz.results169 rfl hlv) rfl ⟨rfl,hX2.below⟩
theorem wr_stat (u:Un) (hu:u.ok) (n v:Int) (hn:n=0) (W0:World):Calls Tryz.prog 169 #[.agg u.L.toArray,.int .i64 n,.int .i64 v] W0 fun e w'=>e=.returned (.tuple #[.agg ({u with on:=decide (v%65536%2=1),st:=v%65536 / 2%4}:Un).L.toArray,.bool true])∧Below W0.heap.size W0 w':=by
 have hz:=qec
 have hX:=Two.put u W0
 have hln:=Un.len hu
 have hzl:=Un.zlen
 have hzo:=Un.z_ok
 subst hn
 generalize hZ:Un.z=Z at *
 have A1:=a1 v
 have A2:=a3 (v / 2)
 have hbe:(v%2 != 0)=decide (v%65536%2=1):=by
  by_cases h:v%2=0
  ·rw [decide_eq_false (by omega),h];rfl
  ·rw [decide_eq_true (by omega)];simpa using h
 rw [show v%65536 / 2%4=v / 2%4 by omega]
 have hu2:({u with on:=decide (v%65536%2=1)}:Un).ok:=hu
 have hu3:({u with on:=decide (v%65536%2=1),st:=v / 2%4}:Un).ok:=hu
 have e0:=Un.set0 u (decide (v%65536%2=1))
 have e1:=Un.set65 hu2 (v / 2%4)
 simp only at e1
 have f0:=hX.fz 0
 have c0:=hX.b.cell (Un.at0 u)
 have hY:=Two.put {u with on:=decide (v%65536%2=1)} W0
 have hY2:=Two.put {u with on:=decide (v%65536%2=1),st:=v / 2%4} W0
 rw [hZ] at hY hY2
 have f65:=hY.fz 65
 have c65:=hY.c65 hu2
 obtain ⟨hld,W,hst,hX2,hlv⟩:=hY2.outR hu3 hzo (by omega) (by omega)
 have hln3:=Un.len hu3
 generalize ({u with on:=decide (v%65536%2=1),st:=v / 2%4}:Un)=u3 at *
 generalize ({u with on:=decide (v%65536%2=1)}:Un)=u2 at *
 generalize decide (v%65536%2=1)=bb at *
 go_enter Tryz.func169,Tryz.ntmps169
 go_wp2_with (first|(refine qa4 rfl 32 (.tmp 3) (.pointer (some ⟨W0.heap.size,0,none⟩)) (.agg u3.L.toArray) rfl rfl hld ?_))
 exact bodyPost_ret (qam Tryz.results169 rfl hlv) rfl ⟨rfl,hX2.below⟩
theorem wr_base (u:Un) (hu:u.ok) (n v:Int) (hn:isReg n=true) (m p:Nat) (hm:m<2) (hp:p<8) (hnm:(n - 16) / 32=(m:Int)) (hnp:(n - 16)%32 / 4=(p:Int)) (g:Pg) (hg:u.pg[8*m+p]? = some g) (hd:¬ (n - 16)%4=2) (W0:World):Calls Tryz.prog 169 #[.agg u.L.toArray,.int .i64 n,.int .i64 v] W0 fun e w'=>e=.returned (.tuple #[.agg (u.withP (8*m+p) {g with b:=v%65536%4096}).L.toArray,.bool true])∧Below W0.heap.size W0 w':=by
 have hz:=qec
 have hX:=Two.put u W0
 have hln:=Un.len hu
 have hzl:=Un.zlen
 have hzo:=Un.z_ok
 have hr:=qct hn
 have h1:=fun w=>qdr n w
 rw [qib hn,decide_eq_true (show (n - 16)%4=0 by omega)] at h1
 have h3:=fun w=>qe0 W0.heap.size n hr.1 hr.2.1 m p hm hp (by omega) (by omega) w
 have hn0:¬ n=0:=by omega
 have hn2:¬ n=2:=by omega
 generalize Un.z=Z at *
 have A1:=a4095 v
 rw [show v%4096=v%65536%4096 by omega] at A1
 obtain ⟨k0,_,_,_⟩:=hX.page hg
 have f0:=hX.fz (1+m*32+p*4)
 have hY:=hX.putF (g':={g with b:=v%65536%4096}) hg (by omega) (Nat.le_refl _) 0 (by decide) (.int .i64 (v%65536%4096)) rfl (1+m*32+p*4) rfl
 have hu2:=Un.withP_ok hu (8*m+p) {g with b:=v%65536%4096}
 have hln2:=Un.len hu2
 generalize u.withP (8*m+p) {g with b:=v%65536%4096}=u2 at *
 obtain ⟨hld,W,hst,hX2,hlv⟩:=hY.outR hu2 hzo (by omega) (by omega)
 obtain ⟨gb,gl,ga,gr⟩:=g
 simp only at *
 clear hd hn hr hnm hnp
 generalize v%65536%4096=y at *
 generalize hW1:(W0.alloc (.cells u.L.toArray 32)).alloc (.cells Z.L.toArray 32)=W1 at *
 go_enter Tryz.func169,Tryz.ntmps169
 go_wp2_with (first|(go_at_call 171;with_reducible refine (h1 _).mono ?_;rintro e w' ⟨rfl,hw⟩;subst hw)|(go_at_call 172;with_reducible refine (h3 _).mono ?_;rintro e w' ⟨rfl,hw⟩;subst hw)|(refine qa4 rfl 32 (.tmp 3) (.pointer (some ⟨W0.heap.size,0,none⟩)) (.agg u2.L.toArray) rfl rfl hld ?_))
 exact bodyPost_ret (qam Tryz.results169 rfl hlv) rfl ⟨rfl,hX2.below⟩
theorem wr_desc (u:Un) (hu:u.ok) (n v:Int) (hn:isReg n=true) (m p:Nat) (hm:m<2) (hp:p<8) (hnm:(n - 16) / 32=(m:Int)) (hnp:(n - 16)%32 / 4=(p:Int)) (g:Pg) (hg:u.pg[8*m+p]? = some g) (hd:(n - 16)%4=2) (W0:World):Calls Tryz.prog 169 #[.agg u.L.toArray,.int .i64 n,.int .i64 v] W0 fun e w'=>e=.returned (.tuple #[.agg (u.withP (8*m+p) ⟨g.b,min (v%65536%256) 128,min (v%65536 / 256%4) 2,false⟩).L.toArray,.bool true])∧Below W0.heap.size W0 w':=by
 have hz:=qec
 have hX:=Two.put u W0
 have hln:=Un.len hu
 have hzl:=Un.zlen
 have hzo:=Un.z_ok
 have hr:=qct hn
 have h1:=fun w=>qdr n w
 have h2:=fun w=>qez n w
 rw [qib hn,decide_eq_false (show ¬ (n - 16)%4=0 by omega)] at h1
 rw [qib hn,decide_eq_true hd] at h2
 have h3:=fun w=>qe0 W0.heap.size n hr.1 hr.2.1 m p hm hp (by omega) (by omega) w
 have hn0:¬ n=0:=by omega
 have hn2:¬ n=2:=by omega
 generalize Un.z=Z at *
 have h4:=qlw hm hp hX hg (by omega) (Nat.le_refl _) v
 have hu2:=Un.withP_ok hu (8*m+p) ⟨g.b,min (v%65536%256) 128,min (v%65536 / 256%4) 2,false⟩
 have hln2:=Un.len hu2
 generalize u.withP (8*m+p) ⟨g.b,min (v%65536%256) 128,min (v%65536 / 256%4) 2,false⟩=u2 at *
 clear hd hn hr hnm hnp hg
 go_enter Tryz.func169,Tryz.ntmps169
 go_wp2_with (first|(go_at_call 171;with_reducible refine (h1 _).mono ?_;rintro e w' ⟨rfl,hw⟩;subst hw)|(go_at_call 173;with_reducible refine (h2 _).mono ?_;rintro e w' ⟨rfl,hw⟩;subst hw)|(go_at_call 172;with_reducible refine (h3 _).mono ?_;rintro e w' ⟨rfl,hw⟩;subst hw)|(go_at_call 177;with_reducible refine h4.mono ?_;rintro e w' ⟨rfl,hY⟩;obtain ⟨hld,W,hst,hX2,hlv⟩:=hY.outR hu2 hzo (by omega) (by omega))|(refine qa4 rfl 32 (.tmp 3) (.pointer (some ⟨W0.heap.size,0,none⟩)) (.agg u2.L.toArray) rfl rfl hld ?_))
 exact bodyPost_ret (qam Tryz.results169 rfl hlv) rfl ⟨rfl,hX2.below⟩
theorem qmx (u:Un) (hu:u.ok) (n v:Int) (W0:World):Calls Tryz.prog 169 #[.agg u.L.toArray,.int .i64 n,.int .i64 v] W0 fun e w'=>e=.returned (.tuple #[.agg (u.write n v).1.L.toArray,.bool (u.write n v).2])∧Below W0.heap.size W0 w':=by
 by_cases h0:n=0
 ·rw [show u.write n v=_ from by unfold Un.write;rw [if_pos h0]]
  exact wr_stat u hu n v h0 W0
 by_cases h2:n=2
 ·rw [show u.write n v=_ from by unfold Un.write;rw [if_neg h0,if_pos h2]]
  exact wr_addr u hu n v h2 W0
 by_cases hn:isReg n=true
 ·have hk:=qnh hn
  have hg:=Un.pgAt_some hu hk
  have hi:=qct hn
  by_cases hd:(n - 16)%4=2
  ·rw [show u.write n v=_ from by unfold Un.write;rw [if_neg h0,if_neg h2,if_pos hn,if_pos hd]]
   exact wr_desc u hu n v hn ((n - 16) / 32).toNat ((n - 16)%32 / 4).toNat (by omega) (by omega) (by omega) (by omega) _ hg hd W0
  ·rw [show u.write n v=_ from by unfold Un.write;rw [if_neg h0,if_neg h2,if_pos hn,if_neg hd]]
   exact wr_base u hu n v hn ((n - 16) / 32).toNat ((n - 16)%32 / 4).toNat (by omega) (by omega) (by omega) (by omega) _ hg hd W0
 ·rw [show u.write n v=_ from by unfold Un.write;rw [if_neg h0,if_neg h2,if_neg hn]]
  exact wr_none u hu n v (by simpa using hn) h0 h2 W0
end Go.Proofs.YthpnddgfgpacpaaGreat
