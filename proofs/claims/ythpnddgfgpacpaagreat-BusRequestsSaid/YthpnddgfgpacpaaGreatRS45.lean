import Derived.Test.YthpnddgfgpacpaaGreatRS43
import Derived.Test.YthpnddgfgpacpaaGreatRS20
import Derived.Test.YthpnddgfgpacpaaGreatRS35
import Derived.Test.YthpnddgfgpacpaaGreatRS37
/-
  BusRequests.
-/
namespace Go.Proofs.YthpnddgfgpacpaaGreat
open Go.RowKit
set_option linter.unusedSimpArgs false
set_option linter.unusedVariables false
set_option maxHeartbeats 4000000
set_option maxRecDepth 100000
attribute [local irreducible] wpQuiet

theorem BusRequests_law (A : Ma) (hA : A.ok) (c : List Int) (hc : A.C = c.map (Value.int .i64)) (hc10 : c.length = 10) (vm vb vl vs vd vt : Value) (w : World) (hN : MaNow w A vm vb vl vs vd vt) (p : Int) : Calls Tryz.prog 7 #[.agg (A.cells vm vb vl vs vd vt).toArray, .int .i64 p] w fun e' w' => e' = .returned (.bool true) ∧ Below w.heap.size w w' := by
  have hV := hN.sv18
  have hsm := fun wz (hb : Below w.heap.size w wz) => small_any A hA vm vb vl vs vd vt wz (hN.step hb)
  have hrr := fun wz (hb : Below w.heap.size w wz) (hl : A.little) => rbRight_any A hA (Ma.little_few hl) vm vb vl vs vd vt wz (hN.step hb)
  have hXm := (Bag.nil w).new 44 (A.cells vm vb vl vs vd vt)
  cases hR : A.right
  · rw [hR] at hrr
    go_enter Tryz.func7, Tryz.ntmps7
    go_upto_region 1 with fail
    replace hV := hV.below hXm.below
    generalize (w.alloc (Obj.cells (A.cells vm vb vl vs vd vt).toArray 44)) = wQ at hXm hV ⊢
    go_wp2_with (first | ((with_reducible refine at_ld 44 ?_); refine ldw (hn := Ma.clen hA) hXm aggM sizM ?_) | (go_at_call 10; (with_reducible refine (hsm _ hXm.below).mono ?_); rintro e' wr ⟨bb, rfl, hlt, hbb⟩; (try replace hXm := hXm.step hbb); (try replace hXx := hXx.step hbb); (try replace hXy := hXy.step hbb); (try replace hV := hV.below hbb); (try replace hVx := hVx.below hbb); (try replace hVy := hVy.below hbb); clear hbb; cases bb) | (go_at_call 12; have hcc := hrr _ hXm.below (hlt (by first | exact rfl | trivial)); (with_reducible refine hcc.mono ?_); clear hcc; rintro e' wr ⟨rfl, hbb⟩; (try replace hXm := hXm.step hbb); (try replace hXx := hXx.step hbb); (try replace hXy := hXy.step hbb); (try replace hV := hV.below hbb); (try replace hVx := hVx.below hbb); (try replace hVy := hVy.below hbb); clear hbb) | (go_at_call 9; (with_reducible refine (alive_any _).mono ?_); rintro e' wr ⟨rfl, hbb⟩; (try replace hXm := hXm.step hbb); (try replace hXx := hXx.step hbb); (try replace hXy := hXy.step hbb); (try replace hV := hV.below hbb); (try replace hVx := hVx.below hbb); (try replace hVy := hVy.below hbb); clear hbb))
    all_goals exact bodyPost_ret (results_tmp (by rfl) _ _ _) rfl ⟨rfl, hXm.below⟩
  have hR0 := hR
  rw [hR] at hrr
  have hAx := Ma.acc_ok hA p
  have hAy := Ma.reset_ok hA
  have hRx := Ma.acc_right hR0 p
  have hRy := Ma.reset_right hR0
  have hSx := Ma.right_small hRx
  have hSy := Ma.right_small hRy
  have hcx : (A.acc p).C = c.map (Value.int .i64) := hc
  have hcy : A.reset.C = c.map (Value.int .i64) := hc
  have hpx := fun wz (hV : MaV noB wz A vm vb vl vs vd vt) => bpAcc wz A vm vb vl vs vd vt p noB wz (Below.refl _ _) hA hR0 (fun _ q => q.elim) hV
  have hpy := fun wz (hV : MaV noB wz A vm vb vl vs vd vt) => bpReset wz A vm vb vl vs vd vt noB wz (Below.refl _ _) hA hR0 (fun _ q => q.elim) hV
  have hprx := fun {rm rb rl rs rd rt : Value} wz (hVx : MaV noB wz (A.acc p) rm rb rl rs rd rt) => hRx ▸ bpRight wz (A.acc p) rm rb rl rs rd rt wz (Below.refl _ _) hAx (Ma.right_few hRx) hVx.now
  have hpry := fun {rm rb rl rs rd rt : Value} wz (hVy : MaV noB wz A.reset rm rb rl rs rd rt) => hRy ▸ bpRight wz A.reset rm rb rl rs rd rt wz (Below.refl _ _) hAy (Ma.right_few hRy) hVy.now
  obtain ⟨X2, hX2⟩ : ∃ X2, A.acc p = X2 := ⟨_, rfl⟩
  obtain ⟨Y2, hY2⟩ : ∃ Y2, A.reset = Y2 := ⟨_, rfl⟩
  rw [hX2] at hAx hRx hSx hcx hpx hprx
  rw [hY2] at hAy hRy hSy hcy hpy hpry
  clear hN
  go_enter Tryz.func7, Tryz.ntmps7
  go_upto_region 1 with fail
  replace hV := hV.below hXm.below
  generalize (w.alloc (Obj.cells (A.cells vm vb vl vs vd vt).toArray 44)) = wQ at hXm hV ⊢
  go_wp2_with (first | ((with_reducible refine at_ld 44 ?_); refine ldw (hn := Ma.clen hA) hXm aggM sizM ?_) | (go_at_call 10; (with_reducible refine (hsm _ hXm.below).mono ?_); rintro e' wr ⟨bb, rfl, hlt, hbb⟩; (try replace hXm := hXm.step hbb); (try replace hXx := hXx.step hbb); (try replace hXy := hXy.step hbb); (try replace hV := hV.below hbb); (try replace hVx := hVx.below hbb); (try replace hVy := hVy.below hbb); clear hbb; cases bb) | (go_at_call 12; have hcc := hrr _ hXm.below (hlt (by first | exact rfl | trivial)); (with_reducible refine hcc.mono ?_); clear hcc; rintro e' wr ⟨rfl, hbb⟩; (try replace hXm := hXm.step hbb); (try replace hXx := hXx.step hbb); (try replace hXy := hXy.step hbb); (try replace hV := hV.below hbb); (try replace hVx := hVx.below hbb); (try replace hVy := hVy.below hbb); clear hbb) | (go_at_call 9; (with_reducible refine (alive_any _).mono ?_); rintro e' wr ⟨rfl, hbb⟩; (try replace hXm := hXm.step hbb); (try replace hXx := hXx.step hbb); (try replace hXy := hXy.step hbb); (try replace hV := hV.below hbb); (try replace hVx := hVx.below hbb); (try replace hVy := hVy.below hbb); clear hbb) | ((with_reducible refine at_alloc18 ?_); refine wpList_allocM rfl rfl ?_) | ((with_reducible refine at_st 44 ?_); first | (refine stn hXm aggM sizM (hVy.cone hAy) ?_ (hn := Ma.clen hAy) (hm := mzL_len); intro w3 hY hbb; have hXy := Bag.top hY; (try replace hXm := hXm.step hbb); (try replace hXx := hXx.step hbb); (try replace hV := hV.below hbb); (try replace hVx := hVx.below hbb); (try replace hVy := hVy.below hbb); clear hY hbb) | (refine stn hXm aggM sizM (hVx.cone hAx) ?_ (hn := Ma.clen hAx) (hm := mzL_len); intro w3 hY hbb; have hXx := Bag.top hY; (try replace hXm := hXm.step hbb); (try replace hXy := hXy.step hbb); (try replace hV := hV.below hbb); (try replace hVx := hVx.below hbb); (try replace hVy := hVy.below hbb); clear hY hbb)) | (go_at_call 20; have hcc := hpx _ hV; (with_reducible refine hcc.mono ?_); clear hcc; rintro e' wx ⟨x, rfl, ⟨xm, xb, xl, xs, xd, xt, rfl, r1, r2, r3, r4, r5, r6⟩, hbb⟩; (try replace hXm := hXm.step hbb); (try replace hXx := hXx.step hbb); (try replace hXy := hXy.step hbb); (try replace hV := hV.below hbb); (try replace hVx := hVx.below hbb); (try replace hVy := hVy.below hbb); have hVx : MaV noB wx _ xm xb xl xs xd xt := ⟨r1, r2, r3, r4, r5, r6⟩; clear hbb r1 r2 r3 r4 r5 r6) | (go_at_call 21; have hcc := hpy _ hV; (with_reducible refine hcc.mono ?_); clear hcc; rintro e' wy ⟨x, rfl, ⟨ym, yb, yl, ys, yd, yt, rfl, r1, r2, r3, r4, r5, r6⟩, hbb⟩; (try replace hXm := hXm.step hbb); (try replace hXx := hXx.step hbb); (try replace hXy := hXy.step hbb); (try replace hV := hV.below hbb); (try replace hVx := hVx.below hbb); (try replace hVy := hVy.below hbb); have hVy : MaV noB wy _ ym yb yl ys yd yt := ⟨r1, r2, r3, r4, r5, r6⟩; clear hbb r1 r2 r3 r4 r5 r6))
  · exact bodyPost_ret (results_tmp (by rfl) _ _ _) rfl ⟨rfl, hXm.below⟩
  have hql : A.req.length ≤ 1099511627776 := by
    rw [← req_fold A]
    have h4 := (Ma.parts hR0).1
    have h5 : ∀ (l : List Nat), (l.flatMap A.dReq).length ≤ 2 * l.length := fun l => by
      induction l with
      | nil => simp
      | cons k r ih =>
        rw [List.flatMap_cons, List.length_append, List.length_cons]
        have := dReq_len A k
        omega
    have := h5 (List.range (A.L.length + 4))
    rw [List.length_range] at this
    omega
  replace hXm := hXm.drew
  replace hXx := hXx.drew
  replace hXy := hXy.drew
  replace hV := hV.below (Below.refl _ _).drew
  replace hVx := hVx.below (Below.refl _ _).drew
  replace hVy := hVy.below (Below.refl _ _).drew
  refine region_hoistS (fun w' => Bag [(w.heap.size, 44, A.cells vm vb vl vs vd vt)] w w' ∧ Bag [(wx.heap.size, 44, X2.cells xm xb xl xs xd xt)] w w' ∧ Bag [(wy.heap.size, 44, Y2.cells ym yb yl ys yd yt)] w w') 29 [(0, true), (1, false), (2, false), (4, false), (3, true), (5, true), (6, true), (7, false), (8, false), (9, false), (10, false), (11, false), (12, true), (13, true), (14, false), (15, false), (16, false), (17, false), (18, true), (19, true), (20, false), (21, false), (22, false), (23, true), (24, false), (25, false), (26, false), (27, true), (28, false)] (by kernel_rfl) (by kernel_rfl) (fun _ _ dd _ _ h => by cases dd <;> exact h) ⟨hXm, hXx, hXy⟩ ?_
  refine wpHp_op rfl (fun KK hKK => ?_)
  have hcc := fun wz => alive_any wz
  go_wp2_with (first | (go_at_call 9; (with_reducible refine (hcc _).mono ?_); clear hcc; rintro e' wr ⟨rfl, hbb⟩; replace hXm := hXm.step hbb; replace hXx := hXx.step hbb; replace hXy := hXy.step hbb; replace hV := hV.below hbb; replace hVx := hVx.below hbb; replace hVy := hVy.below hbb; clear hbb))
  refine hKK _ _ ⟨hXm, hXx, hXy⟩ ?_
  clear hKK KK
  try simp only [Act.put, List.setIfInBounds_toArray, List.set_cons_zero, List.set_cons_succ]
  refine wpHp_q' rfl rfl (fun KK hKK => ?_)
  apply Exists.intro
  refine ⟨fun wq hq => ?_, hKK _ ?_⟩
  · try dsimp only at hq
    first
      | exact run_load_op 44 _ _ rfl rfl ((hq.1.all _ _ _ (.head _)).loadAtSub (fun j v hz => by rw [Nat.zero_add]; exact hz) (Ma.clen hA) aggM sizM)
      | exact run_load_op 44 _ _ rfl rfl ((hq.2.1.all _ _ _ (.head _)).loadAtSub (fun j v hz => by rw [Nat.zero_add]; exact hz) (Ma.clen hAx) aggM sizM)
      | exact run_load_op 44 _ _ rfl rfl ((hq.2.2.all _ _ _ (.head _)).loadAtSub (fun j v hz => by rw [Nat.zero_add]; exact hz) (Ma.clen hAy) aggM sizM)
      | (unfold execOp; go_simp; done)
      | (unfold execOp; go_simp; with_reducible rfl)
  clear hKK KK
  try simp only [Act.put, List.setIfInBounds_toArray, List.set_cons_zero, List.set_cons_succ]
  refine wpHp_q' rfl rfl (fun KK hKK => ?_)
  apply Exists.intro
  refine ⟨fun wq hq => ?_, hKK _ ?_⟩
  · try dsimp only at hq
    first
      | exact run_load_op 44 _ _ rfl rfl ((hq.1.all _ _ _ (.head _)).loadAtSub (fun j v hz => by rw [Nat.zero_add]; exact hz) (Ma.clen hA) aggM sizM)
      | exact run_load_op 44 _ _ rfl rfl ((hq.2.1.all _ _ _ (.head _)).loadAtSub (fun j v hz => by rw [Nat.zero_add]; exact hz) (Ma.clen hAx) aggM sizM)
      | exact run_load_op 44 _ _ rfl rfl ((hq.2.2.all _ _ _ (.head _)).loadAtSub (fun j v hz => by rw [Nat.zero_add]; exact hz) (Ma.clen hAy) aggM sizM)
      | (unfold execOp; go_simp; done)
      | (unfold execOp; go_simp; with_reducible rfl)
  clear hKK KK
  try simp only [Act.put, List.setIfInBounds_toArray, List.set_cons_zero, List.set_cons_succ]
  refine wpHp_q' rfl rfl (fun KK hKK => ?_)
  apply Exists.intro
  refine ⟨fun wq hq => ?_, hKK _ ?_⟩
  · try dsimp only at hq
    first
      | exact run_load_op 44 _ _ rfl rfl ((hq.1.all _ _ _ (.head _)).loadAtSub (fun j v hz => by rw [Nat.zero_add]; exact hz) (Ma.clen hA) aggM sizM)
      | exact run_load_op 44 _ _ rfl rfl ((hq.2.1.all _ _ _ (.head _)).loadAtSub (fun j v hz => by rw [Nat.zero_add]; exact hz) (Ma.clen hAx) aggM sizM)
      | exact run_load_op 44 _ _ rfl rfl ((hq.2.2.all _ _ _ (.head _)).loadAtSub (fun j v hz => by rw [Nat.zero_add]; exact hz) (Ma.clen hAy) aggM sizM)
      | (unfold execOp; go_simp; done)
      | (unfold execOp; go_simp; with_reducible rfl)
  clear hKK KK
  try simp only [Act.put, List.setIfInBounds_toArray, List.set_cons_zero, List.set_cons_succ]
  refine wpHp_op rfl (fun KK hKK => ?_)
  have hcc := bpReq _ A _ _ _ _ _ _ noB _ (Below.refl _ _) hA hR0 (fun _ q => q.elim) hV
  go_wp2_with (first | (go_at_call 23; (with_reducible refine hcc.mono ?_); clear hcc; rintro e' wr ⟨q1, rfl, hq1, hbb⟩; replace hXm := hXm.step hbb; replace hXx := hXx.step hbb; replace hXy := hXy.step hbb; replace hV := hV.below hbb; replace hVx := hVx.below hbb; replace hVy := hVy.below hbb; clear hbb))
  refine hKK _ _ ⟨hXm, hXx, hXy⟩ ?_
  clear hKK KK
  try simp only [Act.put, List.setIfInBounds_toArray, List.set_cons_zero, List.set_cons_succ]
  refine wpHp_op rfl (fun KK hKK => ?_)
  have hcc := rbReq_any A hA hR0 _ _ _ _ _ _ noB _ (fun _ q => q.elim) hV
  go_wp2_with (first | (go_at_call 24; (with_reducible refine hcc.mono ?_); clear hcc; rintro e' wr ⟨q2, rfl, hq2, hbb⟩; replace hXm := hXm.step hbb; replace hXx := hXx.step hbb; replace hXy := hXy.step hbb; replace hV := hV.below hbb; replace hVx := hVx.below hbb; replace hVy := hVy.below hbb; replace hq1 := Rw.below hq1 hbb; clear hbb))
  refine hKK _ _ ⟨hXm, hXx, hXy⟩ ?_
  clear hKK KK
  try simp only [Act.put, List.setIfInBounds_toArray, List.set_cons_zero, List.set_cons_succ]
  refine wpHp_op rfl (fun KK hKK => ?_)
  have hcc := (decide_eq_true (rfl : A.req = A.req)) ▸ rsameL_any18 _ _ _ _ hql hql _ hq1 hq2
  go_wp2_with (first | (go_at_call 22; (with_reducible refine hcc.mono ?_); clear hcc; rintro e' wr ⟨rfl, hbb⟩; replace hXm := hXm.step hbb; replace hXx := hXx.step hbb; replace hXy := hXy.step hbb; replace hV := hV.below hbb; replace hVx := hVx.below hbb; replace hVy := hVy.below hbb; clear hbb))
  refine hKK _ _ ⟨hXm, hXx, hXy⟩ ?_
  clear hKK KK
  try simp only [Act.put, List.setIfInBounds_toArray, List.set_cons_zero, List.set_cons_succ]
  refine wpHp_q' rfl rfl (fun KK hKK => ?_)
  apply Exists.intro
  refine ⟨fun wq hq => ?_, hKK _ ?_⟩
  · try dsimp only at hq
    first
      | exact run_load_op 44 _ _ rfl rfl ((hq.1.all _ _ _ (.head _)).loadAtSub (fun j v hz => by rw [Nat.zero_add]; exact hz) (Ma.clen hA) aggM sizM)
      | exact run_load_op 44 _ _ rfl rfl ((hq.2.1.all _ _ _ (.head _)).loadAtSub (fun j v hz => by rw [Nat.zero_add]; exact hz) (Ma.clen hAx) aggM sizM)
      | exact run_load_op 44 _ _ rfl rfl ((hq.2.2.all _ _ _ (.head _)).loadAtSub (fun j v hz => by rw [Nat.zero_add]; exact hz) (Ma.clen hAy) aggM sizM)
      | (unfold execOp; go_simp; done)
      | (unfold execOp; go_simp; with_reducible rfl)
  clear hKK KK
  try simp only [Act.put, List.setIfInBounds_toArray, List.set_cons_zero, List.set_cons_succ]
  refine wpHp_q' rfl rfl (fun KK hKK => ?_)
  apply Exists.intro
  refine ⟨fun wq hq => ?_, hKK _ ?_⟩
  · try dsimp only at hq
    first
      | exact run_load_op 44 _ _ rfl rfl ((hq.1.all _ _ _ (.head _)).loadAtSub (fun j v hz => by rw [Nat.zero_add]; exact hz) (Ma.clen hA) aggM sizM)
      | exact run_load_op 44 _ _ rfl rfl ((hq.2.1.all _ _ _ (.head _)).loadAtSub (fun j v hz => by rw [Nat.zero_add]; exact hz) (Ma.clen hAx) aggM sizM)
      | exact run_load_op 44 _ _ rfl rfl ((hq.2.2.all _ _ _ (.head _)).loadAtSub (fun j v hz => by rw [Nat.zero_add]; exact hz) (Ma.clen hAy) aggM sizM)
      | (unfold execOp; go_simp; done)
      | (unfold execOp; go_simp; with_reducible rfl)
  clear hKK KK
  try simp only [Act.put, List.setIfInBounds_toArray, List.set_cons_zero, List.set_cons_succ]
  refine wpHp_q' rfl rfl (fun KK hKK => ?_)
  apply Exists.intro
  refine ⟨fun wq hq => ?_, hKK _ ?_⟩
  · try dsimp only at hq
    first
      | exact run_load_op 44 _ _ rfl rfl ((hq.1.all _ _ _ (.head _)).loadAtSub (fun j v hz => by rw [Nat.zero_add]; exact hz) (Ma.clen hA) aggM sizM)
      | exact run_load_op 44 _ _ rfl rfl ((hq.2.1.all _ _ _ (.head _)).loadAtSub (fun j v hz => by rw [Nat.zero_add]; exact hz) (Ma.clen hAx) aggM sizM)
      | exact run_load_op 44 _ _ rfl rfl ((hq.2.2.all _ _ _ (.head _)).loadAtSub (fun j v hz => by rw [Nat.zero_add]; exact hz) (Ma.clen hAy) aggM sizM)
      | (unfold execOp; go_simp; done)
      | (unfold execOp; go_simp; with_reducible rfl)
  clear hKK KK
  try simp only [Act.put, List.setIfInBounds_toArray, List.set_cons_zero, List.set_cons_succ]
  refine wpHp_q' rfl rfl (fun KK hKK => ?_)
  apply Exists.intro
  refine ⟨fun wq hq => ?_, hKK _ ?_⟩
  · try dsimp only at hq
    first
      | exact run_load_op 44 _ _ rfl rfl ((hq.1.all _ _ _ (.head _)).loadAtSub (fun j v hz => by rw [Nat.zero_add]; exact hz) (Ma.clen hA) aggM sizM)
      | exact run_load_op 44 _ _ rfl rfl ((hq.2.1.all _ _ _ (.head _)).loadAtSub (fun j v hz => by rw [Nat.zero_add]; exact hz) (Ma.clen hAx) aggM sizM)
      | exact run_load_op 44 _ _ rfl rfl ((hq.2.2.all _ _ _ (.head _)).loadAtSub (fun j v hz => by rw [Nat.zero_add]; exact hz) (Ma.clen hAy) aggM sizM)
      | (unfold execOp; go_simp; done)
      | (unfold execOp; go_simp; with_reducible rfl)
  clear hKK KK
  try simp only [Act.put, List.setIfInBounds_toArray, List.set_cons_zero, List.set_cons_succ]
  refine wpHp_q' rfl rfl (fun KK hKK => ?_)
  apply Exists.intro
  refine ⟨fun wq hq => ?_, hKK _ ?_⟩
  · try dsimp only at hq
    first
      | exact run_load_op 44 _ _ rfl rfl ((hq.1.all _ _ _ (.head _)).loadAtSub (fun j v hz => by rw [Nat.zero_add]; exact hz) (Ma.clen hA) aggM sizM)
      | exact run_load_op 44 _ _ rfl rfl ((hq.2.1.all _ _ _ (.head _)).loadAtSub (fun j v hz => by rw [Nat.zero_add]; exact hz) (Ma.clen hAx) aggM sizM)
      | exact run_load_op 44 _ _ rfl rfl ((hq.2.2.all _ _ _ (.head _)).loadAtSub (fun j v hz => by rw [Nat.zero_add]; exact hz) (Ma.clen hAy) aggM sizM)
      | (unfold execOp; go_simp; done)
      | (unfold execOp; go_simp; with_reducible rfl)
  clear hKK KK
  try simp only [Act.put, List.setIfInBounds_toArray, List.set_cons_zero, List.set_cons_succ]
  refine wpHp_op rfl (fun KK hKK => ?_)
  have hcc := rbAccept_any A hA hR0 _ _ _ _ _ _ noB _ (fun _ q => q.elim) hV p
  rw [hX2] at hcc
  go_wp2_with (first | (go_at_call 25; (with_reducible refine hcc.mono ?_); clear hcc; rintro e' wr ⟨x, rfl, ⟨rm, rb, rl, rs, rd, rt, rfl, r1, r2, r3, r4, r5, r6⟩, hbb⟩; replace hXm := hXm.step hbb; replace hXx := hXx.step hbb; replace hXy := hXy.step hbb; replace hV := hV.below hbb; replace hVx := hVx.below hbb; replace hVy := hVy.below hbb; have hVz : MaV noB wr X2 rm rb rl rs rd rt := ⟨r1, r2, r3, r4, r5, r6⟩; clear r1 r2 r3 r4 r5 r6; clear hbb))
  refine hKK _ _ ⟨hXm, hXx, hXy⟩ ?_
  clear hKK KK
  try simp only [Act.put, List.setIfInBounds_toArray, List.set_cons_zero, List.set_cons_succ]
  refine wpHp_op rfl (fun KK hKK => ?_)
  have hcc := rsameMa_any hAx hSx c hcx hc10 _ hVx.now hVz.now
  go_wp2_with (first | (go_at_call 15; (with_reducible refine hcc.mono ?_); clear hcc; rintro e' wr ⟨rfl, hbb⟩; replace hXm := hXm.step hbb; replace hXx := hXx.step hbb; replace hXy := hXy.step hbb; replace hV := hV.below hbb; replace hVx := hVx.below hbb; replace hVy := hVy.below hbb; clear hbb))
  refine hKK _ _ ⟨hXm, hXx, hXy⟩ ?_
  clear hKK KK
  try simp only [Act.put, List.setIfInBounds_toArray, List.set_cons_zero, List.set_cons_succ]
  refine wpHp_q' rfl rfl (fun KK hKK => ?_)
  apply Exists.intro
  refine ⟨fun wq hq => ?_, hKK _ ?_⟩
  · try dsimp only at hq
    first
      | exact run_load_op 44 _ _ rfl rfl ((hq.1.all _ _ _ (.head _)).loadAtSub (fun j v hz => by rw [Nat.zero_add]; exact hz) (Ma.clen hA) aggM sizM)
      | exact run_load_op 44 _ _ rfl rfl ((hq.2.1.all _ _ _ (.head _)).loadAtSub (fun j v hz => by rw [Nat.zero_add]; exact hz) (Ma.clen hAx) aggM sizM)
      | exact run_load_op 44 _ _ rfl rfl ((hq.2.2.all _ _ _ (.head _)).loadAtSub (fun j v hz => by rw [Nat.zero_add]; exact hz) (Ma.clen hAy) aggM sizM)
      | (unfold execOp; go_simp; done)
      | (unfold execOp; go_simp; with_reducible rfl)
  clear hKK KK
  try simp only [Act.put, List.setIfInBounds_toArray, List.set_cons_zero, List.set_cons_succ]
  refine wpHp_q' rfl rfl (fun KK hKK => ?_)
  apply Exists.intro
  refine ⟨fun wq hq => ?_, hKK _ ?_⟩
  · try dsimp only at hq
    first
      | exact run_load_op 44 _ _ rfl rfl ((hq.1.all _ _ _ (.head _)).loadAtSub (fun j v hz => by rw [Nat.zero_add]; exact hz) (Ma.clen hA) aggM sizM)
      | exact run_load_op 44 _ _ rfl rfl ((hq.2.1.all _ _ _ (.head _)).loadAtSub (fun j v hz => by rw [Nat.zero_add]; exact hz) (Ma.clen hAx) aggM sizM)
      | exact run_load_op 44 _ _ rfl rfl ((hq.2.2.all _ _ _ (.head _)).loadAtSub (fun j v hz => by rw [Nat.zero_add]; exact hz) (Ma.clen hAy) aggM sizM)
      | (unfold execOp; go_simp; done)
      | (unfold execOp; go_simp; with_reducible rfl)
  clear hKK KK
  try simp only [Act.put, List.setIfInBounds_toArray, List.set_cons_zero, List.set_cons_succ]
  refine wpHp_q' rfl rfl (fun KK hKK => ?_)
  apply Exists.intro
  refine ⟨fun wq hq => ?_, hKK _ ?_⟩
  · try dsimp only at hq
    first
      | exact run_load_op 44 _ _ rfl rfl ((hq.1.all _ _ _ (.head _)).loadAtSub (fun j v hz => by rw [Nat.zero_add]; exact hz) (Ma.clen hA) aggM sizM)
      | exact run_load_op 44 _ _ rfl rfl ((hq.2.1.all _ _ _ (.head _)).loadAtSub (fun j v hz => by rw [Nat.zero_add]; exact hz) (Ma.clen hAx) aggM sizM)
      | exact run_load_op 44 _ _ rfl rfl ((hq.2.2.all _ _ _ (.head _)).loadAtSub (fun j v hz => by rw [Nat.zero_add]; exact hz) (Ma.clen hAy) aggM sizM)
      | (unfold execOp; go_simp; done)
      | (unfold execOp; go_simp; with_reducible rfl)
  clear hKK KK
  try simp only [Act.put, List.setIfInBounds_toArray, List.set_cons_zero, List.set_cons_succ]
  refine wpHp_q' rfl rfl (fun KK hKK => ?_)
  apply Exists.intro
  refine ⟨fun wq hq => ?_, hKK _ ?_⟩
  · try dsimp only at hq
    first
      | exact run_load_op 44 _ _ rfl rfl ((hq.1.all _ _ _ (.head _)).loadAtSub (fun j v hz => by rw [Nat.zero_add]; exact hz) (Ma.clen hA) aggM sizM)
      | exact run_load_op 44 _ _ rfl rfl ((hq.2.1.all _ _ _ (.head _)).loadAtSub (fun j v hz => by rw [Nat.zero_add]; exact hz) (Ma.clen hAx) aggM sizM)
      | exact run_load_op 44 _ _ rfl rfl ((hq.2.2.all _ _ _ (.head _)).loadAtSub (fun j v hz => by rw [Nat.zero_add]; exact hz) (Ma.clen hAy) aggM sizM)
      | (unfold execOp; go_simp; done)
      | (unfold execOp; go_simp; with_reducible rfl)
  clear hKK KK
  try simp only [Act.put, List.setIfInBounds_toArray, List.set_cons_zero, List.set_cons_succ]
  refine wpHp_op rfl (fun KK hKK => ?_)
  have hcc := rbReset_any A hA hR0 _ _ _ _ _ _ noB _ (fun _ q => q.elim) hV
  rw [hY2] at hcc
  go_wp2_with (first | (go_at_call 26; (with_reducible refine hcc.mono ?_); clear hcc; rintro e' wr ⟨x, rfl, ⟨rm, rb, rl, rs, rd, rt, rfl, r1, r2, r3, r4, r5, r6⟩, hbb⟩; replace hXm := hXm.step hbb; replace hXx := hXx.step hbb; replace hXy := hXy.step hbb; replace hV := hV.below hbb; replace hVx := hVx.below hbb; replace hVy := hVy.below hbb; clear hVz; have hVz : MaV noB wr Y2 rm rb rl rs rd rt := ⟨r1, r2, r3, r4, r5, r6⟩; clear r1 r2 r3 r4 r5 r6; clear hbb))
  refine hKK _ _ ⟨hXm, hXx, hXy⟩ ?_
  clear hKK KK
  try simp only [Act.put, List.setIfInBounds_toArray, List.set_cons_zero, List.set_cons_succ]
  refine wpHp_op rfl (fun KK hKK => ?_)
  have hcc := rsameMa_any hAy hSy c hcy hc10 _ hVy.now hVz.now
  go_wp2_with (first | (go_at_call 15; (with_reducible refine hcc.mono ?_); clear hcc; rintro e' wr ⟨rfl, hbb⟩; replace hXm := hXm.step hbb; replace hXx := hXx.step hbb; replace hXy := hXy.step hbb; replace hV := hV.below hbb; replace hVx := hVx.below hbb; replace hVy := hVy.below hbb; clear hbb))
  refine hKK _ _ ⟨hXm, hXx, hXy⟩ ?_
  clear hKK KK
  try simp only [Act.put, List.setIfInBounds_toArray, List.set_cons_zero, List.set_cons_succ]
  refine wpHp_q' rfl rfl (fun KK hKK => ?_)
  apply Exists.intro
  refine ⟨fun wq hq => ?_, hKK _ ?_⟩
  · try dsimp only at hq
    first
      | exact run_load_op 44 _ _ rfl rfl ((hq.1.all _ _ _ (.head _)).loadAtSub (fun j v hz => by rw [Nat.zero_add]; exact hz) (Ma.clen hA) aggM sizM)
      | exact run_load_op 44 _ _ rfl rfl ((hq.2.1.all _ _ _ (.head _)).loadAtSub (fun j v hz => by rw [Nat.zero_add]; exact hz) (Ma.clen hAx) aggM sizM)
      | exact run_load_op 44 _ _ rfl rfl ((hq.2.2.all _ _ _ (.head _)).loadAtSub (fun j v hz => by rw [Nat.zero_add]; exact hz) (Ma.clen hAy) aggM sizM)
      | (unfold execOp; go_simp; done)
      | (unfold execOp; go_simp; with_reducible rfl)
  clear hKK KK
  try simp only [Act.put, List.setIfInBounds_toArray, List.set_cons_zero, List.set_cons_succ]
  refine wpHp_q' rfl rfl (fun KK hKK => ?_)
  apply Exists.intro
  refine ⟨fun wq hq => ?_, hKK _ ?_⟩
  · try dsimp only at hq
    first
      | exact run_load_op 44 _ _ rfl rfl ((hq.1.all _ _ _ (.head _)).loadAtSub (fun j v hz => by rw [Nat.zero_add]; exact hz) (Ma.clen hA) aggM sizM)
      | exact run_load_op 44 _ _ rfl rfl ((hq.2.1.all _ _ _ (.head _)).loadAtSub (fun j v hz => by rw [Nat.zero_add]; exact hz) (Ma.clen hAx) aggM sizM)
      | exact run_load_op 44 _ _ rfl rfl ((hq.2.2.all _ _ _ (.head _)).loadAtSub (fun j v hz => by rw [Nat.zero_add]; exact hz) (Ma.clen hAy) aggM sizM)
      | (unfold execOp; go_simp; done)
      | (unfold execOp; go_simp; with_reducible rfl)
  clear hKK KK
  try simp only [Act.put, List.setIfInBounds_toArray, List.set_cons_zero, List.set_cons_succ]
  refine wpHp_q' rfl rfl (fun KK hKK => ?_)
  apply Exists.intro
  refine ⟨fun wq hq => ?_, hKK _ ?_⟩
  · try dsimp only at hq
    first
      | exact run_load_op 44 _ _ rfl rfl ((hq.1.all _ _ _ (.head _)).loadAtSub (fun j v hz => by rw [Nat.zero_add]; exact hz) (Ma.clen hA) aggM sizM)
      | exact run_load_op 44 _ _ rfl rfl ((hq.2.1.all _ _ _ (.head _)).loadAtSub (fun j v hz => by rw [Nat.zero_add]; exact hz) (Ma.clen hAx) aggM sizM)
      | exact run_load_op 44 _ _ rfl rfl ((hq.2.2.all _ _ _ (.head _)).loadAtSub (fun j v hz => by rw [Nat.zero_add]; exact hz) (Ma.clen hAy) aggM sizM)
      | (unfold execOp; go_simp; done)
      | (unfold execOp; go_simp; with_reducible rfl)
  clear hKK KK
  try simp only [Act.put, List.setIfInBounds_toArray, List.set_cons_zero, List.set_cons_succ]
  refine wpHp_op rfl (fun KK hKK => ?_)
  have hcc := hprx _ hVx
  go_wp2_with (first | (go_at_call 11; (with_reducible refine hcc.mono ?_); clear hcc; rintro e' wr ⟨rfl, hbb⟩; replace hXm := hXm.step hbb; replace hXx := hXx.step hbb; replace hXy := hXy.step hbb; replace hV := hV.below hbb; replace hVx := hVx.below hbb; replace hVy := hVy.below hbb; clear hbb))
  refine hKK _ _ ⟨hXm, hXx, hXy⟩ ?_
  clear hKK KK
  try simp only [Act.put, List.setIfInBounds_toArray, List.set_cons_zero, List.set_cons_succ]
  refine wpHp_q' rfl rfl (fun KK hKK => ?_)
  apply Exists.intro
  refine ⟨fun wq hq => ?_, hKK _ ?_⟩
  · try dsimp only at hq
    first
      | exact run_load_op 44 _ _ rfl rfl ((hq.1.all _ _ _ (.head _)).loadAtSub (fun j v hz => by rw [Nat.zero_add]; exact hz) (Ma.clen hA) aggM sizM)
      | exact run_load_op 44 _ _ rfl rfl ((hq.2.1.all _ _ _ (.head _)).loadAtSub (fun j v hz => by rw [Nat.zero_add]; exact hz) (Ma.clen hAx) aggM sizM)
      | exact run_load_op 44 _ _ rfl rfl ((hq.2.2.all _ _ _ (.head _)).loadAtSub (fun j v hz => by rw [Nat.zero_add]; exact hz) (Ma.clen hAy) aggM sizM)
      | (unfold execOp; go_simp; done)
      | (unfold execOp; go_simp; with_reducible rfl)
  clear hKK KK
  try simp only [Act.put, List.setIfInBounds_toArray, List.set_cons_zero, List.set_cons_succ]
  refine wpHp_q' rfl rfl (fun KK hKK => ?_)
  apply Exists.intro
  refine ⟨fun wq hq => ?_, hKK _ ?_⟩
  · try dsimp only at hq
    first
      | exact run_load_op 44 _ _ rfl rfl ((hq.1.all _ _ _ (.head _)).loadAtSub (fun j v hz => by rw [Nat.zero_add]; exact hz) (Ma.clen hA) aggM sizM)
      | exact run_load_op 44 _ _ rfl rfl ((hq.2.1.all _ _ _ (.head _)).loadAtSub (fun j v hz => by rw [Nat.zero_add]; exact hz) (Ma.clen hAx) aggM sizM)
      | exact run_load_op 44 _ _ rfl rfl ((hq.2.2.all _ _ _ (.head _)).loadAtSub (fun j v hz => by rw [Nat.zero_add]; exact hz) (Ma.clen hAy) aggM sizM)
      | (unfold execOp; go_simp; done)
      | (unfold execOp; go_simp; with_reducible rfl)
  clear hKK KK
  try simp only [Act.put, List.setIfInBounds_toArray, List.set_cons_zero, List.set_cons_succ]
  refine wpHp_q' rfl rfl (fun KK hKK => ?_)
  apply Exists.intro
  refine ⟨fun wq hq => ?_, hKK _ ?_⟩
  · try dsimp only at hq
    first
      | exact run_load_op 44 _ _ rfl rfl ((hq.1.all _ _ _ (.head _)).loadAtSub (fun j v hz => by rw [Nat.zero_add]; exact hz) (Ma.clen hA) aggM sizM)
      | exact run_load_op 44 _ _ rfl rfl ((hq.2.1.all _ _ _ (.head _)).loadAtSub (fun j v hz => by rw [Nat.zero_add]; exact hz) (Ma.clen hAx) aggM sizM)
      | exact run_load_op 44 _ _ rfl rfl ((hq.2.2.all _ _ _ (.head _)).loadAtSub (fun j v hz => by rw [Nat.zero_add]; exact hz) (Ma.clen hAy) aggM sizM)
      | (unfold execOp; go_simp; done)
      | (unfold execOp; go_simp; with_reducible rfl)
  clear hKK KK
  try simp only [Act.put, List.setIfInBounds_toArray, List.set_cons_zero, List.set_cons_succ]
  refine wpHp_op rfl (fun KK hKK => ?_)
  have hcc := hpry _ hVy
  go_wp2_with (first | (go_at_call 11; (with_reducible refine hcc.mono ?_); clear hcc; rintro e' wr ⟨rfl, hbb⟩; replace hXm := hXm.step hbb; replace hXx := hXx.step hbb; replace hXy := hXy.step hbb; replace hV := hV.below hbb; replace hVx := hVx.below hbb; replace hVy := hVy.below hbb; clear hbb))
  refine hKK _ _ ⟨hXm, hXx, hXy⟩ ?_
  clear hKK KK
  try simp only [Act.put, List.setIfInBounds_toArray, List.set_cons_zero, List.set_cons_succ]
  refine wpHp_q' rfl rfl (fun KK hKK => ?_)
  apply Exists.intro
  refine ⟨fun wq hq => ?_, hKK _ ?_⟩
  · try dsimp only at hq
    first
      | exact run_load_op 44 _ _ rfl rfl ((hq.1.all _ _ _ (.head _)).loadAtSub (fun j v hz => by rw [Nat.zero_add]; exact hz) (Ma.clen hA) aggM sizM)
      | exact run_load_op 44 _ _ rfl rfl ((hq.2.1.all _ _ _ (.head _)).loadAtSub (fun j v hz => by rw [Nat.zero_add]; exact hz) (Ma.clen hAx) aggM sizM)
      | exact run_load_op 44 _ _ rfl rfl ((hq.2.2.all _ _ _ (.head _)).loadAtSub (fun j v hz => by rw [Nat.zero_add]; exact hz) (Ma.clen hAy) aggM sizM)
      | (unfold execOp; go_simp; done)
      | (unfold execOp; go_simp; with_reducible rfl)
  clear hKK KK
  try simp only [Act.put, List.setIfInBounds_toArray, List.set_cons_zero, List.set_cons_succ]
  refine wpHp_nil ?_
  simp only [List.drop_succ_cons, List.drop_zero]
  go_wp2
  exact bodyPost_ret (results_tmp (by rfl) _ _ _) rfl ⟨rfl, hXm.below⟩
end Go.Proofs.YthpnddgfgpacpaaGreat
