/-
  LineRight, LineDoes over the contracts. Condition: the contracts.
-/
import Derived.Test.YtbbaflepnjglnaaLnF
import Derived.Deep.RegionHeld3
namespace Go.Proofs.Ytbbaflepnjglnaa
open Go.RowKit
set_option linter.unusedSimpArgs false
set_option linter.unusedVariables false
set_option maxHeartbeats 4000000
set_option maxRecDepth 100000
attribute [local irreducible] wpQuiet
theorem LineRight_law (W0 : World) (H : LnC W0) (x : Ln) : Calls Try.prog 3 #[.agg #[.bool (x).a, .bool (x).b, .bool (x).o, .int .i64 (x).d, .bool (x).e, .bool (x).f, .int .i64 (x).t, .int .i64 (x).l, .string (x).s]] W0 fun e' w' => e' = .returned (.bool true) ∧ Below W0.heap.size W0 w' := by
  have hal := fun w (h : Below W0.heap.size W0 w) => alive_true w (H.step h)
  have h1 := H.right x
  have h2 := rrightL_any x
  have h3 := H.nw
  have h4 := rnewL_any
  obtain ⟨N, hN⟩ : ∃ N, Ln.new = N := ⟨_, rfl⟩
  rw [hN] at h3 h4
  obtain ⟨na, nb, no, nd, ne, nf, nt, nl, ns⟩ := N
  generalize x.right = r at *
  obtain ⟨a, b, o, d, e, f, t, l, s⟩ := x
  dsimp only at h1 h2 h3 h4
  have hX := (Bag.nil W0).new 23 [.bool a, .bool b, .bool o, .int .i64 d, .bool e, .bool f, .int .i64 t, .int .i64 l, .string s]
  clear H hN
  go_enter Try.func3, Try.ntmps3
  go_wp2
  refine region_class (fun w' => Bag [(W0.heap.size, 23, [.bool a, .bool b, .bool o, .int .i64 d, .bool e, .bool f, .int .i64 t, .int .i64 l, .string s])] W0 w') (by kernel_rfl) (by kernel_rfl) hX.drew ?_
  repeat
    first
      | (refine BigFrame.wpQuiet_skip (by rfl) ?_
         simp only [Act.put, List.setIfInBounds_toArray, List.set_cons_zero, List.set_cons_succ])
      | (refine BigFrame.wpQuiet_want (by rfl) (fun K hK => ?_)
         apply Exists.intro
         refine ⟨fun wq hq => ?_, hK _ ?_⟩
         · first
             | (refine quiet_load 23 _ _ _ rfl rfl ((hq.all _ _ _ (.head _)).loadAt rfl aggL sizL))
             | (unfold Oper.quietAt
                go_simp
                first
                  | with_reducible rfl
                  | ((go_at_call 9); first | (with_reducible refine (h1 _ hq.below).mono ?_; exact fun e' w' ⟨he, hb⟩ => ⟨he, hq.step hb⟩))
                  | ((go_at_call 10); first | (with_reducible refine (h2 _).mono ?_; exact fun e' w' ⟨he, hb⟩ => ⟨he, hq.step hb⟩))
                  | ((go_at_call 11); first | (with_reducible refine (h3 _ hq.below).mono ?_; exact fun e' w' ⟨he, hb⟩ => ⟨he, hq.step hb⟩))
                  | ((go_at_call 12); first | (with_reducible refine (h4 _).mono ?_; exact fun e' w' ⟨he, hb⟩ => ⟨he, hq.step hb⟩))
                  | ((go_at_call 13); first | (with_reducible refine (hal _ hq.below).mono ?_; exact fun e' w' ⟨he, hb⟩ => ⟨he, hq.step hb⟩))
               )
         clear hK K
         simp only [Act.put, List.setIfInBounds_toArray, List.set_cons_zero, List.set_cons_succ])
  refine wpQuiet_nil ?_
  intro w4 hX
  go_wp2
  go_ret
  exact ⟨rfl, hX.below⟩
theorem two_ld (W0 : World) (cs ds : List Value) : Bag [(W0.heap.size + 1, 28, ds), (W0.heap.size, 23, cs)] W0 ((W0.alloc (.cells cs.toArray 23)).alloc (.cells ds.toArray 28)) := by
  have h := ((Bag.nil W0).new 23 cs).new 28 ds
  rw [show (W0.alloc (.cells cs.toArray 23)).heap.size = W0.heap.size + 1 from Array.size_push ..] at h
  exact h
theorem LineDoes_law (W0 : World) (H : LnC W0) (x : Ln) (kd g n : Int) : Calls Try.prog 4 #[.agg #[.bool (x).a, .bool (x).b, .bool (x).o, .int .i64 (x).d, .bool (x).e, .bool (x).f, .int .i64 (x).t, .int .i64 (x).l, .string (x).s], .agg #[.int .i64 kd, .int .i64 g, .int .i64 n]] W0 fun e' w' => e' = .returned (.bool true) ∧ Below W0.heap.size W0 w' := by
  have hal := fun w (h : Below W0.heap.size W0 w) => alive_true w (H.step h)
  have h0 := rrightL_any x
  cases hr : x.right
  · rw [hr] at h0
    obtain ⟨a, b, o, d, e, f, t, l, s⟩ := x
    dsimp only at h0
    clear H hr
    have hX := two_ld W0 [.bool a, .bool b, .bool o, .int .i64 d, .bool e, .bool f, .int .i64 t, .int .i64 l, .string s] [.int .i64 kd, .int .i64 g, .int .i64 n]
    go_enter Try.func4, Try.ntmps4
    go_wp2_with (first | (go_at_call 10; first | ((with_reducible refine (h0 _).mono ?_); rintro e' w' ⟨rfl, hb⟩; replace hX := hX.step hb; clear hb)) | ((with_reducible refine at_load ?_); refine wpList_bag_part (k := 0) hX aggL sizL _ rfl rfl rfl rfl (by first | exact .head _ | exact .tail _ (.head _) | exact .tail _ (.tail _ (.head _))) (fun jz vz hz => (congrArg (fun n => ([_, _, _, _, _, _, _, _, _] : List Value)[n]?) (Nat.zero_add jz)).trans hz) rfl ?_))
    go_ret
    exact ⟨rfl, hX.below⟩
  rw [hr] at h0
  have hd : 0 ≤ x.d ∧ x.d ≤ 255 := by
    unfold Ln.right at hr
    simp only [Bool.and_eq_true, decide_eq_true_eq] at hr
    omega
  have h1 := fun w hb => H.rd x g w hb hr
  have h2 := rrd_any x hd g
  have h3 := fun w hb => H.typ x n w hb hr
  have h4 := rtyp_any x n
  have h5 := fun w hb => H.wr x g n w hb hr
  have h6 := rwr_any x g n
  have h7 := fun w hb => H.tick x w hb hr
  have h8 := rtickL_any x hr
  have h9 := fun w hb => H.reset x w hb hr
  have h10 := rresetL_any x
  have h11 := fun w hb => H.acc x n g w hb hr
  clear H hr hd
  generalize x.rd g = R1 at *
  obtain ⟨⟨ra, rb, ro, rd, re, rf, rt, rl, rs⟩, rv⟩ := R1
  generalize x.typ n = Y at *
  obtain ⟨ya, yb, yo, yd, ye, yf, yt, yl, ys⟩ := Y
  generalize x.wr g n = U at *
  obtain ⟨ua, ub, uo, ud, ue, uf, ut, ul, us⟩ := U
  generalize x.tick = T1 at *
  obtain ⟨ta, tb, to, td, te, tf, tt, tl, ts⟩ := T1
  generalize x.reset = Z at *
  obtain ⟨za, zb, zo, zd, ze, zf, zt, zl, zs⟩ := Z
  obtain ⟨a, b, o, d, e, f, t, l, s⟩ := x
  dsimp only at h0 h1 h2 h3 h4 h5 h6 h7 h8 h9 h10 h11
  have hX := two_ld W0 [.bool a, .bool b, .bool o, .int .i64 d, .bool e, .bool f, .int .i64 t, .int .i64 l, .string s] [.int .i64 kd, .int .i64 g, .int .i64 n]
  go_enter Try.func4, Try.ntmps4
  go_wp2_with (first | (go_at_call 10; first | ((with_reducible refine (h0 _).mono ?_); rintro e' w' ⟨rfl, hb⟩; replace hX := hX.step hb; clear hb)) | (go_at_call 14; first | ((with_reducible refine (h1 _ hX.below).mono ?_); rintro e' wA ⟨rfl, hb⟩; replace hX := hX.step hb; clear hb)) | (go_at_call 15; first | ((with_reducible refine (h2 _).mono ?_); rintro e' wB ⟨rfl, hb⟩; replace hX := hX.step hb; clear hb)) | ((with_reducible refine at_store ?_); refine wpList_bag_store (zs := [.bool false, .bool false, .bool false, .int .i64 0, .bool false, .bool false, .int .i64 0, .int .i64 0, .string ⟨#[]⟩]) hX aggL sizL _ _ rfl rfl rfl rfl rfl rfl rfl rfl (one_ln _ _ _ _ _ _ _ _ _) ?_; clear hX; intro wz hX) | ((with_reducible refine at_load ?_); refine wpList_bag_cell hX int_cell _ rfl rfl rfl rfl (by first | exact .head _ | exact .tail _ (.head _) | exact .tail _ (.tail _ (.head _)) | exact .tail _ (.tail _ (.tail _ (.head _)))) rfl ?_) | ((with_reducible refine at_load ?_); refine wpList_bag_cell hX bool_cell _ rfl rfl rfl rfl (by first | exact .head _ | exact .tail _ (.head _) | exact .tail _ (.tail _ (.head _)) | exact .tail _ (.tail _ (.tail _ (.head _)))) rfl ?_) | ((with_reducible refine at_load ?_); refine wpList_bag_cell hX str_cell _ rfl rfl rfl rfl (by first | exact .head _ | exact .tail _ (.head _) | exact .tail _ (.tail _ (.head _)) | exact .tail _ (.tail _ (.tail _ (.head _)))) rfl ?_) | ((with_reducible refine at_load ?_); refine wpList_bag_part (k := 0) hX aggL sizL _ rfl rfl rfl rfl (by first | exact .head _ | exact .tail _ (.head _) | exact .tail _ (.tail _ (.head _))) (fun jz vz hz => (congrArg (fun n => ([_, _, _, _, _, _, _, _, _] : List Value)[n]?) (Nat.zero_add jz)).trans hz) rfl ?_))
  refine region_class (fun w' => Bag [(wB.heap.size, 23, [.bool ra, .bool rb, .bool ro, .int .i64 rd, .bool re, .bool rf, .int .i64 rt, .int .i64 rl, .string rs]), (wA.heap.size, 23, [.bool ra, .bool rb, .bool ro, .int .i64 rd, .bool re, .bool rf, .int .i64 rt, .int .i64 rl, .string rs]), (W0.heap.size + 1, 28, [.int .i64 kd, .int .i64 g, .int .i64 n]), (W0.heap.size, 23, [.bool a, .bool b, .bool o, .int .i64 d, .bool e, .bool f, .int .i64 t, .int .i64 l, .string s])] W0 w') (by kernel_rfl) (by kernel_rfl) hX.drew ?_
  repeat
    first
      | (refine BigFrame.wpQuiet_skip (by rfl) ?_
         simp only [Act.put, List.setIfInBounds_toArray, List.set_cons_zero, List.set_cons_succ])
      | (refine BigFrame.wpQuiet_want (by rfl) (fun K hK => ?_)
         apply Exists.intro
         refine ⟨fun wq hq => ?_, hK _ ?_⟩
         · first
             | (refine quiet_load 23 _ _ _ rfl rfl ((hq.all _ _ _ (.head _)).loadAt rfl aggL sizL))
             | (refine quiet_load 23 _ _ _ rfl rfl ((hq.all _ _ _ (.tail _ (.head _))).loadAt rfl aggL sizL))
             | (refine quiet_load 23 _ _ _ rfl rfl ((hq.all _ _ _ (.tail _ (.tail _ (.tail _ (.head _))))).loadAt rfl aggL sizL))
             | (refine quiet_load 3 _ _ _ rfl rfl ((hq.all _ _ _ (.tail _ (.tail _ (.head _)))).loadCell rfl int_cell))
             | (unfold Oper.quietAt
                go_simp
                first
                  | with_reducible rfl
                  | ((go_at_call 16); first | (with_reducible refine (h3 _ hq.below).mono ?_; exact fun e' w' ⟨he, hb⟩ => ⟨he, hq.step hb⟩))
                  | ((go_at_call 17); first | (with_reducible refine (h4 _).mono ?_; exact fun e' w' ⟨he, hb⟩ => ⟨he, hq.step hb⟩))
                  | ((go_at_call 18); first | (with_reducible refine (h5 _ hq.below).mono ?_; exact fun e' w' ⟨he, hb⟩ => ⟨he, hq.step hb⟩))
                  | ((go_at_call 19); first | (with_reducible refine (h6 _).mono ?_; exact fun e' w' ⟨he, hb⟩ => ⟨he, hq.step hb⟩))
               )
         clear hK K
         simp only [Act.put, List.setIfInBounds_toArray, List.set_cons_zero, List.set_cons_succ])
  refine wpQuiet_nil ?_
  intro w4 hX
  go_wp2
  refine region_class (fun w' => Bag [(wB.heap.size, 23, [.bool ra, .bool rb, .bool ro, .int .i64 rd, .bool re, .bool rf, .int .i64 rt, .int .i64 rl, .string rs]), (wA.heap.size, 23, [.bool ra, .bool rb, .bool ro, .int .i64 rd, .bool re, .bool rf, .int .i64 rt, .int .i64 rl, .string rs]), (W0.heap.size + 1, 28, [.int .i64 kd, .int .i64 g, .int .i64 n]), (W0.heap.size, 23, [.bool a, .bool b, .bool o, .int .i64 d, .bool e, .bool f, .int .i64 t, .int .i64 l, .string s])] W0 w') (by kernel_rfl) (by kernel_rfl) hX.drew ?_
  repeat
    first
      | (refine BigFrame.wpQuiet_skip (by rfl) ?_
         simp only [Act.put, List.setIfInBounds_toArray, List.set_cons_zero, List.set_cons_succ])
      | (refine BigFrame.wpQuiet_want (by rfl) (fun K hK => ?_)
         apply Exists.intro
         refine ⟨fun wq hq => ?_, hK _ ?_⟩
         · first
             | (refine quiet_load 23 _ _ _ rfl rfl ((hq.all _ _ _ (.tail _ (.tail _ (.tail _ (.head _))))).loadAt rfl aggL sizL))
             | (refine quiet_load 3 _ _ _ rfl rfl ((hq.all _ _ _ (.tail _ (.tail _ (.head _)))).loadCell rfl int_cell))
             | (unfold Oper.quietAt
                go_simp
                first
                  | with_reducible rfl
                  | ((go_at_call 20); first | (with_reducible refine (h7 _ hq.below).mono ?_; exact fun e' w' ⟨he, hb⟩ => ⟨he, hq.step hb⟩))
                  | ((go_at_call 21); first | (with_reducible refine (h8 _).mono ?_; exact fun e' w' ⟨he, hb⟩ => ⟨he, hq.step hb⟩))
                  | ((go_at_call 22); first | (with_reducible refine (h9 _ hq.below).mono ?_; exact fun e' w' ⟨he, hb⟩ => ⟨he, hq.step hb⟩))
                  | ((go_at_call 23); first | (with_reducible refine (h10 _).mono ?_; exact fun e' w' ⟨he, hb⟩ => ⟨he, hq.step hb⟩))
                  | ((go_at_call 24); first | (with_reducible refine (h11 _ hq.below).mono ?_; exact fun e' w' ⟨he, hb⟩ => ⟨he, hq.step hb⟩))
                  | ((go_at_call 13); first | (with_reducible refine (hal _ hq.below).mono ?_; exact fun e' w' ⟨he, hb⟩ => ⟨he, hq.step hb⟩))
               )
         clear hK K
         simp only [Act.put, List.setIfInBounds_toArray, List.set_cons_zero, List.set_cons_succ])
  refine wpQuiet_nil ?_
  intro w5 hX
  go_wp2
  go_ret
  exact ⟨rfl, hX.below⟩
end Go.Proofs.Ytbbaflepnjglnaa
