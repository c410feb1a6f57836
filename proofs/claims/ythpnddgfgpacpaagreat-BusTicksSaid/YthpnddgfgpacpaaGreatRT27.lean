import Derived.Test.YthpnddgfgpacpaaGreatRT04
import Derived.Test.YthpnddgfgpacpaaGreatRT05
import Derived.Test.YthpnddgfgpacpaaGreatRT21
import Derived.Maps.AppendAt
import Derived.Laws.IdiomStrings
namespace Go.Proofs.YthpnddgfgpacpaaGreat
open Go.RowKit
set_option linter.unusedSimpArgs false
set_option linter.unusedVariables false
set_option maxHeartbeats 4000000
set_option maxRecDepth 100000
attribute [local irreducible] wpQuiet
theorem qre (w:World):(sizeOf 4).run Tryz.prog w=.ok 1 w:=by kernel_rfl
theorem psiz_str (w:World):(sizeOf 9).run Tryz.prog w=.ok 1 w:=by kernel_rfl
section
variable {ops:Array Oper} {rest:List Oper} {o:Oper} {a:Act} {w w0 w1:World} {Q:Exit→Act→World→Prop} {l:List (Nat×TypeId×List Value)}
theorem qhp {B k:Nat} {t T:TypeId} {cs:List Value} {z:ByteArray} (hX:Bag ((B,t,cs) :: l) w0 w) (hsz:∀ w,(sizeOf T).run Tryz.prog w=.ok 1 w) (x y:Operand) (hop:o.op=Op.store T x y) (hal:w1=w) (hx:a.eval x=.pointer (some ⟨B,k,none⟩)) (hy:a.eval y=.string z) (hdst:o.dst=none) (hw:Region.wanted o (yielded ops a.tmps)=true) (hk:k<cs.length)
 (h:∀ w2,Bag ((B,t,cs.set k (.string z)) :: l) w0 w2→wpList Tryz.prog ops Q rest a w2):wpList Tryz.prog ops Q (o :: rest) a w1:=by
 subst hal
 have hr:=(hX.all _ _ _ List.mem_cons_self).put_run (P:=Tryz.prog) (v:=.string z) hk rfl
 exact BigFrame.wpList_want hw fun _ hK=>by
  unfold Oper.wp execOp
  simp only [hop,hx,hy,Instr.storeAt,Instr.sureAddr,storeVar,Value.cells,hr,hsz,List.size_toArray,List.length_cons,List.length_nil,ne_eq,not_true_eq_false,if_false,Sem.run_bind,Sem.run_pure,Result.andThen_ok]
  exact hK _ _ (by rw [hdst];exact h _ (hX.over _))
end
def inB_14 (n g:Int):Bool:=decide (0≤n) && decide (n≤g)
theorem qa1 (n g:Int) (w:World):Calls Tryz.prog 282 #[.int .i64 n,.int .i64 g] w fun e' w'=>e'=.returned (.bool (inB_14 n g))∧w=w':=by
 unfold inB_14
 by_cases c0:0≤n
 ·have d0:decide (0≤n)=true:=decide_eq_true c0
  go_enter Tryz.func282,Tryz.ntmps282
  go_wp2
  go_ret
  exact ⟨by simp [d0],rfl⟩
 ·have d0:decide (0≤n)=false:=decide_eq_false c0
  go_enter Tryz.func282,Tryz.ntmps282
  go_wp2
  go_ret
  exact ⟨by simp [d0],rfl⟩
theorem qh2 (e r:Bool) (w:World):Calls Tryz.prog 280 #[.bool e,.bool r] w fun e' w'=>e'=.returned (.int .i64 (stB e r))∧w=w':=by
 have o1:bits .or .i64 0 64=64:=by decide
 have o2:bits .or .i64 0 128=128:=by decide
 have o3:bits .or .i64 64 128=192:=by decide
 cases e<;>cases r
 all_goals
  go_enter Tryz.func280,Tryz.ntmps280
  go_wp2
  go_ret
  exact ⟨rfl,rfl⟩
theorem or_over:∀ n:Fin 256,bits .or .i64 (n.val:Int) 32768=(n.val:Int)+32768:=by decide+kernel
theorem qt6 (a b o:Bool) (d:Int) (e f:Bool) (t l:Int) (s:ByteArray) (hd:0≤d∧d≤255) (w:World):Calls Tryz.prog 281 #[.agg #[.bool a,.bool b,.bool o,.int .i64 d,.bool e,.bool f,.int .i64 t,.int .i64 l,.string s]] w fun e' w'=>e'=.returned (.int .i64 (d+(if o=true then 32768 else 0)))∧Below w.heap.size w w':=by
 have h1:bits .or .i64 d 32768=d+32768:=by
  have:=or_over ⟨d.toNat,by omega⟩
  simpa [Int.toNat_of_nonneg hd.1] using this
 clear hd
 cases o
 ·simp only [Bool.false_eq_true,if_false,Int.add_zero]
  go_enter Tryz.func281,Tryz.ntmps281
  go_wp2
  go_ret
  exact ⟨rfl,((Bag.nil w).new 68 _).below⟩
 ·simp only [if_true]
  go_enter Tryz.func281,Tryz.ntmps281
  go_wp2
  go_ret
  exact ⟨rfl,((Bag.nil w).new 68 _).below⟩
theorem prdL_any (x:Ln) (hx:0≤x.d∧x.d≤255) (g:Int) (w:World):Calls Tryz.prog 274 #[.agg #[.bool (x).a,.bool (x).b,.bool (x).o,.int .i64 (x).d,.bool (x).e,.bool (x).f,.int .i64 (x).t,.int .i64 (x).l,.string (x).s],.int .i64 g] w fun e' w'=>e'=.returned (.tuple #[.agg #[.bool ((x.rd g).1).a,.bool ((x.rd g).1).b,.bool ((x.rd g).1).o,.int .i64 ((x.rd g).1).d,.bool ((x.rd g).1).e,.bool ((x.rd g).1).f,.int .i64 ((x.rd g).1).t,.int .i64 ((x.rd g).1).l,.string ((x.rd g).1).s],.int .i64 (x.rd g).2])∧Below w.heap.size w w':=by
 obtain ⟨a,b,o,d,e,f,t,l,s⟩:=x
 have hbt:=qh2
 unfold Ln.rd
 simp only at hx
 by_cases g0:g=0
 ·subst g0
  have h1:=hbt a b
  generalize stB a b=q at *
  go_enter Tryz.func274,Tryz.ntmps274
  go_wp2
  refine qbn (fun w'=>Bag [(w.heap.size+1,68,[.bool false,.bool false,.bool false,.int .i64 0,.bool false,.bool false,.int .i64 0,.int .i64 0,.string ⟨#[]⟩]),(w.heap.size,68,[.bool a,.bool b,.bool o,.int .i64 d,.bool e,.bool f,.int .i64 t,.int .i64 l,.string s])] w w') 6 (by kernel_rfl) (by kernel_rfl) (qbd w _ _).drew ?_
  repeat
   first
    | (refine BigFrame.wpQuiet_skip (by rfl) ?_
       simp only [Act.put,sx])
    | (refine BigFrame.wpQuiet_want (by rfl) (fun K hK=>?_)
       apply Exists.intro
       refine ⟨fun wq hq=>?_,hK _ ?_⟩
       ·first
         | (refine qar 68 _ _ _ rfl rfl ((hq.all _ _ _ (.tail _ (.head _))).loadAt rfl aggL sizL))
         | (refine qar 4 _ _ _ rfl rfl ((hq.all _ _ _ (.tail _ (.head _))).loadCell rfl qbl))
         | (unfold Oper.quietAt
            go_simp
            first
             | with_reducible rfl
             | ((go_at_call 280);with_reducible refine (h1 _).mono ?_;exact fun e w' ⟨he,hw⟩=>⟨he,(by subst hw;exact hq)⟩)
           )
       clear hK K
       simp only [Act.put,sx])
  refine wpQuiet_nil ?_
  intro w4 hX
  simp only [List.drop_succ_cons,List.drop_zero]
  go_wp2_with (first|((with_reducible refine qah ?_);refine qb0 hX aggL sizL _ _ rfl rfl rfl rfl rfl rfl rfl rfl (ql9 _ _ _ _ _ _ _ _ _) ?_;clear hX;intro wz hX))
  exact bodyPost_ret (qam Tryz.results274 rfl ((hX.all _ _ _ List.mem_cons_self).loadVar rfl aggL sizL)) rfl ⟨rfl,hX.below⟩
 have e0:(g == 0)=false:=by simpa using g0
 by_cases g2:g=2
 ·subst g2
  have h1:=qt6 a b o d e f t l s hx
  generalize d+(if o=true then 32768 else 0)=q at *
  clear hx
  have hX:=qbd w [.bool a,.bool b,.bool o,.int .i64 d,.bool e,.bool f,.int .i64 t,.int .i64 l,.string s] [.bool false,.bool false,.bool false,.int .i64 0,.bool false,.bool false,.int .i64 0,.int .i64 0,.string ⟨#[]⟩]
  go_enter Tryz.func274,Tryz.ntmps274
  go_wp2_with (first|(go_at_call 281;first|((with_reducible refine (h1 _).mono ?_);rintro e' w3 ⟨rfl,hb⟩;replace hX:=hX.step hb;replace hX:=hX.swap;clear hb))|((with_reducible refine qah ?_);first|(refine qhk hX qre _ _ rfl rfl rfl rfl rfl rfl (by simp) ?_;clear hX;intro wz hX;simp only [sx] at hX)|(refine qb0 hX.swap aggL sizL _ _ rfl rfl rfl rfl rfl rfl rfl rfl (ql9 _ _ _ _ _ _ _ _ _) ?_;clear hX;intro wz hX))|((with_reducible refine qab ?_);refine lw hX aggL sizL ?_))
  exact bodyPost_ret (qam Tryz.results274 rfl ((hX.all _ _ _ (.head _)).loadVar rfl aggL sizL)) rfl ⟨rfl,hX.below⟩
 have e2:(g == 2)=false:=by simpa using g2
 by_cases g4:g=4
 ·subst g4
  have h1:=hbt e f
  generalize stB e f=q at *
  go_enter Tryz.func274,Tryz.ntmps274
  go_wp2
  refine qbn (fun w'=>Bag [(w.heap.size+1,68,[.bool false,.bool false,.bool false,.int .i64 0,.bool false,.bool false,.int .i64 0,.int .i64 0,.string ⟨#[]⟩]),(w.heap.size,68,[.bool a,.bool b,.bool o,.int .i64 d,.bool e,.bool f,.int .i64 t,.int .i64 l,.string s])] w w') 6 (by kernel_rfl) (by kernel_rfl) (qbd w _ _).drew ?_
  repeat
   first
    | (refine BigFrame.wpQuiet_skip (by rfl) ?_
       simp only [Act.put,sx])
    | (refine BigFrame.wpQuiet_want (by rfl) (fun K hK=>?_)
       apply Exists.intro
       refine ⟨fun wq hq=>?_,hK _ ?_⟩
       ·first
         | (refine qar 68 _ _ _ rfl rfl ((hq.all _ _ _ (.tail _ (.head _))).loadAt rfl aggL sizL))
         | (refine qar 4 _ _ _ rfl rfl ((hq.all _ _ _ (.tail _ (.head _))).loadCell rfl qbl))
         | (unfold Oper.quietAt
            go_simp
            first
             | with_reducible rfl
             | ((go_at_call 280);with_reducible refine (h1 _).mono ?_;exact fun e w' ⟨he,hw⟩=>⟨he,(by subst hw;exact hq)⟩)
           )
       clear hK K
       simp only [Act.put,sx])
  refine wpQuiet_nil ?_
  intro w4 hX
  simp only [List.drop_succ_cons,List.drop_zero]
  go_wp2_with (first|((with_reducible refine qah ?_);refine qb0 hX aggL sizL _ _ rfl rfl rfl rfl rfl rfl rfl rfl (ql9 _ _ _ _ _ _ _ _ _) ?_;clear hX;intro wz hX))
  exact bodyPost_ret (qam Tryz.results274 rfl ((hX.all _ _ _ List.mem_cons_self).loadVar rfl aggL sizL)) rfl ⟨rfl,hX.below⟩
 have e4:(g == 4)=false:=by simpa using g4
 rw [if_neg g0,if_neg g2,if_neg g4]
 go_enter Tryz.func274,Tryz.ntmps274
 go_wp2
 exact bodyPost_ret (qam Tryz.results274 rfl (((qbd w _ _).all _ _ _ List.mem_cons_self).loadVar rfl aggL sizL)) rfl ⟨rfl,(qbd w _ _).below⟩
def sndV (f:Bool) (t l n:Int):Bool×Int×Int:=if f=true then (false,n%256,4) else (f,t,l)
theorem qt7 (a b o:Bool) (d:Int) (e f:Bool) (t l:Int) (s:ByteArray) (n:Int) (w:World):Calls Tryz.prog 284 #[.agg #[.bool a,.bool b,.bool o,.int .i64 d,.bool e,.bool f,.int .i64 t,.int .i64 l,.string s],.int .i64 n] w fun e' w'=>e'=.returned (.agg #[.bool a,.bool b,.bool o,.int .i64 d,.bool e,.bool (sndV f t l n).1,.int .i64 (sndV f t l n).2.1,.int .i64 (sndV f t l n).2.2,.string s])∧Below w.heap.size w w':=by
 have A:=a255 n
 unfold sndV
 generalize n%256=m at *
 cases f
 all_goals
  go_enter Tryz.func284,Tryz.ntmps284
  go_wp2
  exact bodyPost_ret (qaj Tryz.results284 rfl (((qbd w _ _).all _ _ _ List.mem_cons_self).loadVar rfl aggL sizL)) rfl ⟨rfl,(qbd w _ _).below⟩
theorem pwr_any (x:Ln) (g n:Int) (w:World):Calls Tryz.prog 279 #[.agg #[.bool (x).a,.bool (x).b,.bool (x).o,.int .i64 (x).d,.bool (x).e,.bool (x).f,.int .i64 (x).t,.int .i64 (x).l,.string (x).s],.int .i64 g,.int .i64 n] w fun e' w'=>e'=.returned (.agg #[.bool (x.wr g n).a,.bool (x.wr g n).b,.bool (x.wr g n).o,.int .i64 (x.wr g n).d,.bool (x.wr g n).e,.bool (x.wr g n).f,.int .i64 (x.wr g n).t,.int .i64 (x.wr g n).l,.string (x.wr g n).s])∧Below w.heap.size w w':=by
 obtain ⟨a,b,o,d,e,f,t,l,s⟩:=x
 have A2:=and_64 n
 unfold Ln.wr
 by_cases g0:g=0
 ·subst g0
  generalize decide (n / 64%2=1)=q at *
  go_enter Tryz.func279,Tryz.ntmps279
  go_wp2
  exact bodyPost_ret (qaj Tryz.results279 rfl (((qbd w _ _).all _ _ _ List.mem_cons_self).loadVar rfl aggL sizL)) rfl ⟨rfl,(qbd w _ _).below⟩
 have e0:(g == 0)=false:=by simpa using g0
 by_cases g4:g=4
 ·subst g4
  generalize decide (n / 64%2=1)=q at *
  go_enter Tryz.func279,Tryz.ntmps279
  go_wp2
  exact bodyPost_ret (qaj Tryz.results279 rfl (((qbd w _ _).all _ _ _ List.mem_cons_self).loadVar rfl aggL sizL)) rfl ⟨rfl,(qbd w _ _).below⟩
 have e4:(g == 4)=false:=by simpa using g4
 by_cases g6:g=6
 ·subst g6
  clear A2
  have h1:=qt7 a b o d e f t l s n
  have hr:(if (6:Int)=0 then (Ln.mk (decide (n / 64%2=1)) b o d e f t l s) else if (6:Int)=4 then (Ln.mk a b o d (decide (n / 64%2=1)) f t l s) else if (6:Int)=6 then (if f=true then (Ln.mk a b o d e false (n%256) 4 s) else Ln.mk a b o d e f t l s) else Ln.mk a b o d e f t l s)=Ln.mk a b o d e (sndV f t l n).1 (sndV f t l n).2.1 (sndV f t l n).2.2 s:=by
   unfold sndV
   cases f<;>rfl
  rw [hr]
  clear hr
  generalize sndV f t l n=y at *
  obtain ⟨y1,y2,y3⟩:=y
  dsimp only at h1 ⊢
  have hX:=qbd w [.bool a,.bool b,.bool o,.int .i64 d,.bool e,.bool f,.int .i64 t,.int .i64 l,.string s] [.bool false,.bool false,.bool false,.int .i64 0,.bool false,.bool false,.int .i64 0,.int .i64 0,.string ⟨#[]⟩]
  go_enter Tryz.func279,Tryz.ntmps279
  go_wp2_with (first|(go_at_call 284;first|(with_reducible refine cst hX (h1 _) ?_;clear hX;intro w3 hX))|((with_reducible refine qab ?_);refine lw hX aggL sizL ?_)|((with_reducible refine qah ?_);refine qb0 hX aggL sizL _ _ rfl rfl rfl rfl rfl rfl rfl rfl (ql9 _ _ _ _ _ _ _ _ _) ?_;clear hX;intro wz hX))
  exact bodyPost_ret (qaj Tryz.results279 rfl ((hX.all _ _ _ (.head _)).loadVar rfl aggL sizL)) rfl ⟨rfl,hX.below⟩
 have e6:(g == 6)=false:=by simpa using g6
 rw [if_neg g0,if_neg g4,if_neg g6]
 go_enter Tryz.func279,Tryz.ntmps279
 go_wp2
 exact bodyPost_ret (qaj Tryz.results279 rfl (((qbd w _ _).all _ _ _ List.mem_cons_self).loadVar rfl aggL sizL)) rfl ⟨rfl,(qbd w _ _).below⟩
theorem pout_lt (y:UInt8) (s:ByteArray) (hs:s.size<4096) (w:World):Calls Tryz.prog 283 #[.string s,.int .i64 (y.toNat:Int)] w fun e' w'=>e'=.returned (.string (s++(⟨#[y]⟩:ByteArray)))∧Below w.heap.size w w':=by
 have hy:(y.toNat:Int)≤255:=by have:=y.toNat_lt;omega
 have hy0:0≤(y.toNat:Int):=by omega
 have hcell:∀ w0:World,∀ j (hj:j<[y].length),(w0.alloc (.cells #[.int .u8 (y.toNat:Int)] 5)).cell? ((⟨w0.heap.size,0,none⟩:Addr).add j)=some (.int .u8 (([y][j]).toNat:Int)):=fun w0 j hj=>by
  have:=cell_one_new w0 (.int .u8 (y.toNat:Int)) 5 j (.int .u8 (y.toNat:Int)) (by
   have:j=0:=by simpa using hj
   subst this;rfl)
  rw [this]
  have:j=0:=by simpa using hj
  subst this;rfl
 have hcv0:∀ w0:World,(convert 167 9 (.slice (some ⟨w0.heap.size,0,none⟩) 1 1)).run Tryz.prog (w0.alloc (.cells #[.int .u8 (y.toNat:Int)] 5))=.ok (.string ⟨#[y]⟩) (w0.alloc (.cells #[.int .u8 (y.toNat:Int)] 5)):=fun w0 =>
  run_convert_bytes_back (P:=Tryz.prog) _ 167 9 5 ⟨w0.heap.size,0,none⟩ 1 [y] Tryz.underlying167 Tryz.underlying5 Tryz.underlying9 (hcell w0)
 have hcv:=hcv0 w
 have hsz:=qfy s y
 have hmx:max (0:Int) ((s.size:Int)+1 - 4096)=0:=by omega
 have hw1:wrap64 ((s.size:Int)+1 - 4096)=(s.size:Int)+1 - 4096:=by unfold wrap64;omega
 have hex:(s++(⟨#[y]⟩:ByteArray)).extract 0 (s.size+1)=s++(⟨#[y]⟩:ByteArray):=by rw [← hsz,ByteArray.extract_zero_size]
 have hs':s.size+1≤4096:=by omega
 clear hcv0 hcell hs
 go_enter Tryz.func283,Tryz.ntmps283
 go_wp2
 go_ret
 exact ⟨rfl,((Bag.nil w).new 5 _).below⟩
theorem pout_eq (y:UInt8) (s:ByteArray) (hs:s.size=4096) (w:World):Calls Tryz.prog 283 #[.string s,.int .i64 (y.toNat:Int)] w fun e' w'=>e'=.returned (.string ((s++(⟨#[y]⟩:ByteArray)).extract 1 (s.size+1)))∧Below w.heap.size w w':=by
 have hy:(y.toNat:Int)≤255:=by have:=y.toNat_lt;omega
 have hy0:0≤(y.toNat:Int):=by omega
 have hcell:∀ w0:World,∀ j (hj:j<[y].length),(w0.alloc (.cells #[.int .u8 (y.toNat:Int)] 5)).cell? ((⟨w0.heap.size,0,none⟩:Addr).add j)=some (.int .u8 (([y][j]).toNat:Int)):=fun w0 j hj=>by
  have:=cell_one_new w0 (.int .u8 (y.toNat:Int)) 5 j (.int .u8 (y.toNat:Int)) (by
   have:j=0:=by simpa using hj
   subst this;rfl)
  rw [this]
  have:j=0:=by simpa using hj
  subst this;rfl
 have hcv0:∀ w0:World,(convert 167 9 (.slice (some ⟨w0.heap.size,0,none⟩) 1 1)).run Tryz.prog (w0.alloc (.cells #[.int .u8 (y.toNat:Int)] 5))=.ok (.string ⟨#[y]⟩) (w0.alloc (.cells #[.int .u8 (y.toNat:Int)] 5)):=fun w0 =>
  run_convert_bytes_back (P:=Tryz.prog) _ 167 9 5 ⟨w0.heap.size,0,none⟩ 1 [y] Tryz.underlying167 Tryz.underlying5 Tryz.underlying9 (hcell w0)
 have hcv:=hcv0 w
 have hsz:=qfy s y
 have hs':(s.size:Int)=4096:=by omega
 replace hs:=hid_14 hs
 clear hcv0 hcell
 go_enter Tryz.func283,Tryz.ntmps283
 go_wp2
 go_ret
 exact ⟨rfl,((Bag.nil w).new 5 _).below⟩
theorem pout_any (y:UInt8) (s:ByteArray) (hs:s.size≤4096) (w:World):Calls Tryz.prog 283 #[.string s,.int .i64 (y.toNat:Int)] w fun e' w'=>e'=.returned (.string ⟨(lastO (s.data.toList++[y])).toArray⟩)∧Below w.heap.size w w':=by
 by_cases h:s.size<4096
 ·rw [qs7 h];exact pout_lt y s h w
 ·have h2:s.size=4096:=by omega
  rw [qtx h2];exact pout_eq y s h2 w
theorem ptick_0 (a b o:Bool) (d:Int) (e f:Bool) (t l:Int) (s:ByteArray) (h:l≤0) (w:World):Calls Tryz.prog 278 #[.agg #[.bool a,.bool b,.bool o,.int .i64 d,.bool e,.bool f,.int .i64 t,.int .i64 l,.string s]] w fun e' w'=>e'=.returned (.agg #[.bool a,.bool b,.bool o,.int .i64 d,.bool e,.bool f,.int .i64 t,.int .i64 l,.string s])∧Below w.heap.size w w':=by
 have d0:decide (l≤0)=true:=decide_eq_true h
 go_enter Tryz.func278,Tryz.ntmps278
 go_wp2
 exact bodyPost_ret (qaj Tryz.results278 rfl (((qbd w _ _).all _ _ _ List.mem_cons_self).loadVar rfl aggL sizL)) rfl ⟨rfl,(qbd w _ _).below⟩
theorem qp0 (a b o:Bool) (d:Int) (e f:Bool) (t l:Int) (s:ByteArray) (h:1<l∧l≤4) (w:World):Calls Tryz.prog 278 #[.agg #[.bool a,.bool b,.bool o,.int .i64 d,.bool e,.bool f,.int .i64 t,.int .i64 l,.string s]] w fun e' w'=>e'=.returned (.agg #[.bool a,.bool b,.bool o,.int .i64 d,.bool e,.bool f,.int .i64 t,.int .i64 (l - 1),.string s])∧Below w.heap.size w w':=by
 have d0:decide (l≤0)=false:=decide_eq_false (by omega)
 have hw:wrap64 (l - 1)=l - 1:=by unfold wrap64;omega
 have d1:(l - 1 == 0)=false:=by simp;omega
 go_enter Tryz.func278,Tryz.ntmps278
 go_wp2
 exact bodyPost_ret (qaj Tryz.results278 rfl (((qbd w _ _).all _ _ _ List.mem_cons_self).loadVar rfl aggL sizL)) rfl ⟨rfl,(qbd w _ _).below⟩
theorem qqr (a b o:Bool) (d:Int) (e f:Bool) (y:UInt8) (s:ByteArray) (hs:s.size≤4096) (w:World):Calls Tryz.prog 278 #[.agg #[.bool a,.bool b,.bool o,.int .i64 d,.bool e,.bool f,.int .i64 (y.toNat:Int),.int .i64 1,.string s]] w fun e' w'=>e'=.returned (.agg #[.bool a,.bool b,.bool o,.int .i64 d,.bool e,.bool true,.int .i64 (y.toNat:Int),.int .i64 0,.string ⟨(lastO (s.data.toList++[y])).toArray⟩])∧Below w.heap.size w w':=by
 have h1:=pout_any y s hs
 generalize (⟨(lastO (s.data.toList++[y])).toArray⟩:ByteArray)=s2 at *
 generalize (y.toNat:Int)=t at *
 clear hs
 have hX:=(qbd w [.bool a,.bool b,.bool o,.int .i64 d,.bool e,.bool true,.int .i64 t,.int .i64 0,.string s] [.bool false,.bool false,.bool false,.int .i64 0,.bool false,.bool false,.int .i64 0,.int .i64 0,.string ⟨#[]⟩]).swap
 go_enter Tryz.func278,Tryz.ntmps278
 go_wp2_with (first|(go_at_call 283;first|(with_reducible refine cst hX (h1 _) ?_;clear hX;intro w3 hX))|((with_reducible refine qah ?_);first|(refine qhp hX psiz_str _ _ rfl rfl rfl rfl rfl rfl (by simp) ?_;clear hX;intro wz hX;simp only [sx] at hX)|(refine qb0 hX.swap aggL sizL _ _ rfl rfl rfl rfl rfl rfl rfl rfl (ql9 _ _ _ _ _ _ _ _ _) ?_;clear hX;intro wz hX))|((with_reducible refine qab ?_);refine lw hX aggL sizL ?_))
 exact bodyPost_ret (qaj Tryz.results278 rfl ((hX.all _ _ _ (.head _)).loadVar rfl aggL sizL)) rfl ⟨rfl,hX.below⟩
theorem qp5 (x:Ln) (h:x.right=true) (w:World):Calls Tryz.prog 278 #[.agg #[.bool (x).a,.bool (x).b,.bool (x).o,.int .i64 (x).d,.bool (x).e,.bool (x).f,.int .i64 (x).t,.int .i64 (x).l,.string (x).s]] w fun e' w'=>e'=.returned (.agg #[.bool (x.tick).a,.bool (x.tick).b,.bool (x.tick).o,.int .i64 (x.tick).d,.bool (x.tick).e,.bool (x.tick).f,.int .i64 (x.tick).t,.int .i64 (x.tick).l,.string (x.tick).s])∧Below w.heap.size w w':=by
 have hx:0≤x.t∧x.t≤255∧x.s.size≤4096∧0≤x.l∧x.l≤4:=by
  unfold Ln.right at h
  simp only [Bool.and_eq_true,decide_eq_true_eq] at h
  omega
 obtain ⟨a,b,o,d,e,f,t,l,s⟩:=x
 simp only at hx
 unfold Ln.tick
 by_cases h0:l≤0
 ·rw [if_pos (show (Ln.mk a b o d e f t l s).l≤0 from h0)];exact ptick_0 a b o d e f t l s h0 w
 rw [if_neg (show ¬ (Ln.mk a b o d e f t l s).l≤0 from h0)]
 by_cases h1:1<l
 ·rw [if_pos (show 1<(Ln.mk a b o d e f t l s).l from h1)];exact qp0 a b o d e f t l s (by omega) w
 rw [if_neg (show ¬ 1<(Ln.mk a b o d e f t l s).l from h1)]
 obtain rfl:l=1:=by omega
 obtain ⟨y,rfl⟩:∃ y:UInt8,t=(y.toNat:Int):=⟨UInt8.ofNat t.toNat,by have:=UInt8.toNat_ofNat' (n:=t.toNat);omega⟩
 simp only [Int.toNat_natCast,UInt8.ofNat_toNat]
 exact qqr a b o d e f y s hx.2.2.1 w
theorem qmj (a b o:Bool) (d:Int) (e f:Bool) (t l:Int) (s:ByteArray) (c0:inB_14 d 255=false) (w:World):Calls Tryz.prog 277 #[.agg #[.bool a,.bool b,.bool o,.int .i64 d,.bool e,.bool f,.int .i64 t,.int .i64 l,.string s]] w fun e' w'=>e'=.returned (.bool false)∧Below w.heap.size w w':=by
 have h0:∀ w,Calls Tryz.prog 282 #[.int .i64 d,.int .i64 255] w fun e' w'=>e'=.returned (.bool false)∧w=w':=fun w=>c0▸qa1 d 255 w
 clear c0
 have hX:=(Bag.nil w).new 68 [.bool a,.bool b,.bool o,.int .i64 d,.bool e,.bool f,.int .i64 t,.int .i64 l,.string s]
 go_enter Tryz.func277,Tryz.ntmps277
 go_wp2_with (first|(go_at_call 282;first|((with_reducible refine (h0 _).mono ?_);rintro e' w' ⟨rfl,rfl⟩)))
 go_ret
 exact ⟨rfl,hX.below⟩
theorem qmo (a b o:Bool) (d:Int) (e f:Bool) (t l:Int) (s:ByteArray) (c0:inB_14 d 255=true) (c1:inB_14 t 255=false) (w:World):Calls Tryz.prog 277 #[.agg #[.bool a,.bool b,.bool o,.int .i64 d,.bool e,.bool f,.int .i64 t,.int .i64 l,.string s]] w fun e' w'=>e'=.returned (.bool false)∧Below w.heap.size w w':=by
 have h0:∀ w,Calls Tryz.prog 282 #[.int .i64 d,.int .i64 255] w fun e' w'=>e'=.returned (.bool true)∧w=w':=fun w=>c0▸qa1 d 255 w
 have h1:∀ w,Calls Tryz.prog 282 #[.int .i64 t,.int .i64 255] w fun e' w'=>e'=.returned (.bool false)∧w=w':=fun w=>c1▸qa1 t 255 w
 clear c0 c1
 have hX:=(Bag.nil w).new 68 [.bool a,.bool b,.bool o,.int .i64 d,.bool e,.bool f,.int .i64 t,.int .i64 l,.string s]
 go_enter Tryz.func277,Tryz.ntmps277
 go_wp2_with (first|(go_at_call 282;first|((with_reducible refine (h0 _).mono ?_);rintro e' w' ⟨rfl,rfl⟩)|((with_reducible refine (h1 _).mono ?_);rintro e' w' ⟨rfl,rfl⟩)))
 go_ret
 exact ⟨rfl,hX.below⟩
theorem qm2 (a b o:Bool) (d:Int) (e f:Bool) (t l:Int) (s:ByteArray) (c0:inB_14 d 255=true) (c1:inB_14 t 255=true) (c2:inB_14 l 4=false) (w:World):Calls Tryz.prog 277 #[.agg #[.bool a,.bool b,.bool o,.int .i64 d,.bool e,.bool f,.int .i64 t,.int .i64 l,.string s]] w fun e' w'=>e'=.returned (.bool false)∧Below w.heap.size w w':=by
 have h0:∀ w,Calls Tryz.prog 282 #[.int .i64 d,.int .i64 255] w fun e' w'=>e'=.returned (.bool true)∧w=w':=fun w=>c0▸qa1 d 255 w
 have h1:∀ w,Calls Tryz.prog 282 #[.int .i64 t,.int .i64 255] w fun e' w'=>e'=.returned (.bool true)∧w=w':=fun w=>c1▸qa1 t 255 w
 have h2:∀ w,Calls Tryz.prog 282 #[.int .i64 l,.int .i64 4] w fun e' w'=>e'=.returned (.bool false)∧w=w':=fun w=>c2▸qa1 l 4 w
 clear c0 c1 c2
 have hX:=(Bag.nil w).new 68 [.bool a,.bool b,.bool o,.int .i64 d,.bool e,.bool f,.int .i64 t,.int .i64 l,.string s]
 go_enter Tryz.func277,Tryz.ntmps277
 go_wp2_with (first|(go_at_call 282;first|((with_reducible refine (h0 _).mono ?_);rintro e' w' ⟨rfl,rfl⟩)|((with_reducible refine (h1 _).mono ?_);rintro e' w' ⟨rfl,rfl⟩)|((with_reducible refine (h2 _).mono ?_);rintro e' w' ⟨rfl,rfl⟩)))
 go_ret
 exact ⟨rfl,hX.below⟩
theorem qm7 (a b o:Bool) (d:Int) (e f:Bool) (t l:Int) (s:ByteArray) (c0:inB_14 d 255=true) (c1:inB_14 t 255=true) (c2:inB_14 l 4=true) (c3:(f == (l == 0))=false) (w:World):Calls Tryz.prog 277 #[.agg #[.bool a,.bool b,.bool o,.int .i64 d,.bool e,.bool f,.int .i64 t,.int .i64 l,.string s]] w fun e' w'=>e'=.returned (.bool false)∧Below w.heap.size w w':=by
 have h0:∀ w,Calls Tryz.prog 282 #[.int .i64 d,.int .i64 255] w fun e' w'=>e'=.returned (.bool true)∧w=w':=fun w=>c0▸qa1 d 255 w
 have h1:∀ w,Calls Tryz.prog 282 #[.int .i64 t,.int .i64 255] w fun e' w'=>e'=.returned (.bool true)∧w=w':=fun w=>c1▸qa1 t 255 w
 have h2:∀ w,Calls Tryz.prog 282 #[.int .i64 l,.int .i64 4] w fun e' w'=>e'=.returned (.bool true)∧w=w':=fun w=>c2▸qa1 l 4 w
 clear c0 c1 c2
 have hX:=(Bag.nil w).new 68 [.bool a,.bool b,.bool o,.int .i64 d,.bool e,.bool f,.int .i64 t,.int .i64 l,.string s]
 by_cases hz:l=0
 all_goals
  have hz2:(l == 0)=decide (l=0):=by rw [Bool.eq_iff_iff];simp
  first|rw [decide_eq_true hz] at hz2|rw [decide_eq_false hz] at hz2
  rw [hz2] at c3
  clear hz
  cases f
  all_goals first
   | (exact absurd c3 (by decide))
   | (clear c3
      go_enter Tryz.func277,Tryz.ntmps277
      go_wp2_with (first|(go_at_call 282;first|((with_reducible refine (h0 _).mono ?_);rintro e' w' ⟨rfl,rfl⟩)|((with_reducible refine (h1 _).mono ?_);rintro e' w' ⟨rfl,rfl⟩)|((with_reducible refine (h2 _).mono ?_);rintro e' w' ⟨rfl,rfl⟩)))
      go_ret
      exact ⟨rfl,hX.below⟩)
theorem qnq (a b o:Bool) (d:Int) (e f:Bool) (t l:Int) (s:ByteArray) (c0:inB_14 d 255=true) (c1:inB_14 t 255=true) (c2:inB_14 l 4=true) (c3:(f == (l == 0))=true) (c4:¬ (s.size:Int)≤4096) (w:World):Calls Tryz.prog 277 #[.agg #[.bool a,.bool b,.bool o,.int .i64 d,.bool e,.bool f,.int .i64 t,.int .i64 l,.string s]] w fun e' w'=>e'=.returned (.bool false)∧Below w.heap.size w w':=by
 have h0:∀ w,Calls Tryz.prog 282 #[.int .i64 d,.int .i64 255] w fun e' w'=>e'=.returned (.bool true)∧w=w':=fun w=>c0▸qa1 d 255 w
 have h1:∀ w,Calls Tryz.prog 282 #[.int .i64 t,.int .i64 255] w fun e' w'=>e'=.returned (.bool true)∧w=w':=fun w=>c1▸qa1 t 255 w
 have h2:∀ w,Calls Tryz.prog 282 #[.int .i64 l,.int .i64 4] w fun e' w'=>e'=.returned (.bool true)∧w=w':=fun w=>c2▸qa1 l 4 w
 clear c0 c1 c2
 have d4:decide ((s.size:Int)≤4096)=false:=decide_eq_false c4
 have hX:=(Bag.nil w).new 68 [.bool a,.bool b,.bool o,.int .i64 d,.bool e,.bool f,.int .i64 t,.int .i64 l,.string s]
 by_cases hz:l=0
 all_goals
  have hz2:(l == 0)=decide (l=0):=by rw [Bool.eq_iff_iff];simp
  first|rw [decide_eq_true hz] at hz2|rw [decide_eq_false hz] at hz2
  rw [hz2] at c3
  clear hz
  cases f
  all_goals first
   | (exact absurd c3 (by decide))
   | (clear c3
      go_enter Tryz.func277,Tryz.ntmps277
      go_wp2_with (first|(go_at_call 282;first|((with_reducible refine (h0 _).mono ?_);rintro e' w' ⟨rfl,rfl⟩)|((with_reducible refine (h1 _).mono ?_);rintro e' w' ⟨rfl,rfl⟩)|((with_reducible refine (h2 _).mono ?_);rintro e' w' ⟨rfl,rfl⟩)))
      go_ret
      exact ⟨rfl,hX.below⟩)
theorem pright_5 (a b o:Bool) (d:Int) (e f:Bool) (t l:Int) (s:ByteArray) (c0:inB_14 d 255=true) (c1:inB_14 t 255=true) (c2:inB_14 l 4=true) (c3:(f == (l == 0))=true) (c4:(s.size:Int)≤4096) (w:World):Calls Tryz.prog 277 #[.agg #[.bool a,.bool b,.bool o,.int .i64 d,.bool e,.bool f,.int .i64 t,.int .i64 l,.string s]] w fun e' w'=>e'=.returned (.bool true)∧Below w.heap.size w w':=by
 have h0:∀ w,Calls Tryz.prog 282 #[.int .i64 d,.int .i64 255] w fun e' w'=>e'=.returned (.bool true)∧w=w':=fun w=>c0▸qa1 d 255 w
 have h1:∀ w,Calls Tryz.prog 282 #[.int .i64 t,.int .i64 255] w fun e' w'=>e'=.returned (.bool true)∧w=w':=fun w=>c1▸qa1 t 255 w
 have h2:∀ w,Calls Tryz.prog 282 #[.int .i64 l,.int .i64 4] w fun e' w'=>e'=.returned (.bool true)∧w=w':=fun w=>c2▸qa1 l 4 w
 clear c0 c1 c2
 have d4:decide ((s.size:Int)≤4096)=true:=decide_eq_true c4
 have hX:=(Bag.nil w).new 68 [.bool a,.bool b,.bool o,.int .i64 d,.bool e,.bool f,.int .i64 t,.int .i64 l,.string s]
 by_cases hz:l=0
 all_goals
  have hz2:(l == 0)=decide (l=0):=by rw [Bool.eq_iff_iff];simp
  first|rw [decide_eq_true hz] at hz2|rw [decide_eq_false hz] at hz2
  rw [hz2] at c3
  clear hz
  cases f
  all_goals first
   | (exact absurd c3 (by decide))
   | (clear c3
      go_enter Tryz.func277,Tryz.ntmps277
      go_wp2_with (first|(go_at_call 282;first|((with_reducible refine (h0 _).mono ?_);rintro e' w' ⟨rfl,rfl⟩)|((with_reducible refine (h1 _).mono ?_);rintro e' w' ⟨rfl,rfl⟩)|((with_reducible refine (h2 _).mono ?_);rintro e' w' ⟨rfl,rfl⟩)))
      go_ret
      exact ⟨rfl,hX.below⟩)
theorem qmr (x:Ln) (w:World):Calls Tryz.prog 277 #[.agg #[.bool (x).a,.bool (x).b,.bool (x).o,.int .i64 (x).d,.bool (x).e,.bool (x).f,.int .i64 (x).t,.int .i64 (x).l,.string (x).s]] w fun e' w'=>e'=.returned (.bool x.right)∧Below w.heap.size w w':=by
 obtain ⟨a,b,o,d,e,f,t,l,s⟩:=x
 have hR:Ln.right ⟨a,b,o,d,e,f,t,l,s⟩=(inB_14 d 255 && inB_14 t 255 && inB_14 l 4 && (f == (l == 0)) && decide ((s.size:Int)≤4096)):=by
  have h0:decide (l=0)=(l == 0):=by rw [Bool.eq_iff_iff];simp
  have h1:decide (s.size≤4096)=decide ((s.size:Int)≤4096):=by rw [Bool.eq_iff_iff];simp;omega
  unfold Ln.right inB_14
  simp only [h0,h1]
  generalize decide (0≤d)=p1;generalize decide (d≤255)=p2;generalize decide (0≤t)=p3;generalize decide (t≤255)=p4;generalize decide (0≤l)=p5;generalize decide (l≤4)=p6;generalize (f == (l == 0))=p7;generalize decide ((s.size:Int)≤4096)=p8
  revert p1 p2 p3 p4 p5 p6 p7 p8
  decide
 rw [hR]
 cases c0:inB_14 d 255
 ·simpa [c0] using qmj a b o d e f t l s c0 w
 cases c1:inB_14 t 255
 ·simpa [c0,c1] using qmo a b o d e f t l s c0 c1 w
 cases c2:inB_14 l 4
 ·simpa [c0,c1,c2] using qm2 a b o d e f t l s c0 c1 c2 w
 cases c3:(f == (l == 0))
 ·simpa [c0,c1,c2,c3] using qm7 a b o d e f t l s c0 c1 c2 c3 w
 by_cases c4:(s.size:Int)≤4096
 ·rw [decide_eq_true c4];exact pright_5 a b o d e f t l s c0 c1 c2 c3 c4 w
 ·rw [decide_eq_false c4];exact qnq a b o d e f t l s c0 c1 c2 c3 c4 w
end Go.Proofs.YthpnddgfgpacpaaGreat
