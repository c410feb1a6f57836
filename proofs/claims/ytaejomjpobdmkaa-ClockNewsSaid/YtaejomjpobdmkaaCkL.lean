/-
  The contracts of package clock; alive and the laws over them. Condition: the contracts.
-/
import Derived.Test.YtaejomjpobdmkaaCkB
namespace Go.Proofs.Ytaejomjpobdmkaa
open Go.RowKit
set_option linter.unusedSimpArgs false
set_option linter.unusedVariables false
set_option maxHeartbeats 4000000
set_option maxRecDepth 100000
attribute [local irreducible] wpQuiet

/-- The contracts of package clock. -/
structure CkC : Prop where
  nw : ∀ (n : Int) (w : World), Calls Try.prog 7 #[.int .i64 n] w fun e' w' => e' = .returned (.tuple #[.agg #[.bool ((newK n).1).e, .bool ((newK n).1).r, .int .i64 ((newK n).1).p, .int .i64 ((newK n).1).l], .int .i64 (newK n).2]) ∧ Below w.heap.size w w'
  right : ∀ (c : Ck) (w : World), Calls Try.prog 9 #[.agg #[.bool c.e, .bool c.r, .int .i64 c.p, .int .i64 c.l]] w fun e' w' => e' = .returned (.bool c.right) ∧ Below w.heap.size w w'
  tick : ∀ (c : Ck) (w : World), c.right = true → Calls Try.prog 12 #[.agg #[.bool c.e, .bool c.r, .int .i64 c.p, .int .i64 c.l]] w fun e' w' => e' = .returned (.agg #[.bool (c.tick).e, .bool (c.tick).r, .int .i64 (c.tick).p, .int .i64 (c.tick).l]) ∧ Below w.heap.size w w'
  read : ∀ (c : Ck) (w : World), c.right = true → Calls Try.prog 16 #[.agg #[.bool c.e, .bool c.r, .int .i64 c.p, .int .i64 c.l]] w fun e' w' => e' = .returned (.int .i64 c.read) ∧ Below w.heap.size w w'
  write : ∀ (c : Ck) (v : Int) (w : World), c.right = true → Calls Try.prog 18 #[.agg #[.bool c.e, .bool c.r, .int .i64 c.p, .int .i64 c.l], .int .i64 v] w fun e' w' => e' = .returned (.agg #[.bool (c.write v).e, .bool (c.write v).r, .int .i64 (c.write v).p, .int .i64 (c.write v).l]) ∧ Below w.heap.size w w'
  req : ∀ (c : Ck) (w : World), c.right = true → Calls Try.prog 21 #[.agg #[.bool c.e, .bool c.r, .int .i64 c.p, .int .i64 c.l]] w fun e' w' => ∃ v, e' = .returned v ∧ Rqs w' v c.req ∧ Below w.heap.size w w'
  acc : ∀ (c : Ck) (v : Int) (w : World), c.right = true → Calls Try.prog 23 #[.agg #[.bool c.e, .bool c.r, .int .i64 c.p, .int .i64 c.l], .int .i64 v] w fun e' w' => e' = .returned (.agg #[.bool (c.acc v).e, .bool (c.acc v).r, .int .i64 (c.acc v).p, .int .i64 (c.acc v).l]) ∧ Below w.heap.size w w'
  reset : ∀ (c : Ck) (w : World), c.right = true → Calls Try.prog 14 #[.agg #[.bool c.e, .bool c.r, .int .i64 c.p, .int .i64 c.l]] w fun e' w' => e' = .returned (.agg #[.bool (c.reset).e, .bool (c.reset).r, .int .i64 (c.reset).p, .int .i64 (c.reset).l]) ∧ Below w.heap.size w w'
theorem alive_true (H : CkC) (W0 : World) : Calls Try.prog 11 #[] W0 fun e' w' => e' = .returned (.bool true) ∧ Below W0.heap.size W0 w' := by
  have n2 : ∀ w, Calls Try.prog 7 #[.int .i64 2] w fun e' w' => e' = .returned (.tuple #[.agg #[.bool false, .bool false, .int .i64 2, .int .i64 2], .int .i64 0]) ∧ Below w.heap.size w w' := H.nw 2
  have n0 : ∀ w, Calls Try.prog 7 #[.int .i64 0] w fun e' w' => e' = .returned (.tuple #[.agg #[.bool false, .bool false, .int .i64 0, .int .i64 0], .int .i64 2]) ∧ Below w.heap.size w w' := H.nw 0
  have t1 : ∀ w, Calls Try.prog 12 #[.agg #[.bool false, .bool false, .int .i64 2, .int .i64 2]] w fun e' w' => e' = .returned (.agg #[.bool false, .bool false, .int .i64 2, .int .i64 1]) ∧ Below w.heap.size w w' := fun w => H.tick ⟨false, false, 2, 2⟩ w (by decide)
  have t2 : ∀ w, Calls Try.prog 12 #[.agg #[.bool false, .bool false, .int .i64 2, .int .i64 1]] w fun e' w' => e' = .returned (.agg #[.bool false, .bool true, .int .i64 2, .int .i64 2]) ∧ Below w.heap.size w w' := fun w => H.tick ⟨false, false, 2, 1⟩ w (by decide)
  have w1 : ∀ w, Calls Try.prog 18 #[.agg #[.bool false, .bool true, .int .i64 2, .int .i64 2], .int .i64 192] w fun e' w' => e' = .returned (.agg #[.bool true, .bool true, .int .i64 2, .int .i64 2]) ∧ Below w.heap.size w w' := fun w => H.write ⟨false, true, 2, 2⟩ 192 w (by decide)
  have r1 : ∀ w, Calls Try.prog 16 #[.agg #[.bool false, .bool true, .int .i64 2, .int .i64 2]] w fun e' w' => e' = .returned (.int .i64 128) ∧ Below w.heap.size w w' := fun w => H.read ⟨false, true, 2, 2⟩ w (by decide)
  have r2 : ∀ w, Calls Try.prog 16 #[.agg #[.bool true, .bool true, .int .i64 2, .int .i64 2]] w fun e' w' => e' = .returned (.int .i64 192) ∧ Below w.heap.size w w' := fun w => H.read ⟨true, true, 2, 2⟩ w (by decide)
  have r3 : ∀ w, Calls Try.prog 16 #[.agg #[.bool true, .bool false, .int .i64 2, .int .i64 2]] w fun e' w' => e' = .returned (.int .i64 64) ∧ Below w.heap.size w w' := fun w => H.read ⟨true, false, 2, 2⟩ w (by decide)
  have q1 : ∀ w, Calls Try.prog 21 #[.agg #[.bool true, .bool true, .int .i64 2, .int .i64 2]] w fun e' w' => ∃ v, e' = .returned v ∧ Rqs w' v [(6, 64)] ∧ Below w.heap.size w w' := fun w => H.req ⟨true, true, 2, 2⟩ w (by decide)
  have a1 : ∀ w, Calls Try.prog 23 #[.agg #[.bool true, .bool true, .int .i64 2, .int .i64 2], .int .i64 64] w fun e' w' => e' = .returned (.agg #[.bool true, .bool false, .int .i64 2, .int .i64 2]) ∧ Below w.heap.size w w' := fun w => H.acc ⟨true, true, 2, 2⟩ 64 w (by decide)
  have hX := Bag.nil W0
  clear H
  go_enter Try.func11, Try.ntmps11
  go_wp2_with (first | (go_at_call 7; first | ((with_reducible refine (n2 _).mono ?_); rintro e' w' ⟨rfl, hb⟩; replace hX := hX.step hb; clear hb) | ((with_reducible refine (n0 _).mono ?_); rintro e' w' ⟨rfl, hb⟩; replace hX := hX.step hb; clear hb)) | (go_at_call 12; first | ((with_reducible refine (t1 _).mono ?_); rintro e' w' ⟨rfl, hb⟩; replace hX := hX.step hb; clear hb) | ((with_reducible refine (t2 _).mono ?_); rintro e' w' ⟨rfl, hb⟩; replace hX := hX.step hb; clear hb)) | (go_at_call 18; first | ((with_reducible refine (w1 _).mono ?_); rintro e' w' ⟨rfl, hb⟩; replace hX := hX.step hb; clear hb)) | (go_at_call 16; first | ((with_reducible refine (r1 _).mono ?_); rintro e' w' ⟨rfl, hb⟩; replace hX := hX.step hb; clear hb) | ((with_reducible refine (r2 _).mono ?_); rintro e' w' ⟨rfl, hb⟩; replace hX := hX.step hb; clear hb) | ((with_reducible refine (r3 _).mono ?_); rintro e' w' ⟨rfl, hb⟩; replace hX := hX.step hb; clear hb)) | (go_at_call 23; first | ((with_reducible refine (a1 _).mono ?_); rintro e' w' ⟨rfl, hb⟩; replace hX := hX.step hb; clear hb)) | (go_at_call 21; (with_reducible refine (q1 _).mono ?_); rintro e' w' ⟨v, rfl, hv, hb⟩; replace hX := hX.step hb; obtain ⟨A, cp, rfl, _, _⟩ := hv; clear hb) | ((with_reducible refine at_store ?_); refine wpList_bag_store (zs := [.bool false, .bool false, .int .i64 0, .int .i64 0]) hX aggK sizK _ _ rfl rfl rfl rfl rfl rfl rfl rfl (one_ck _ _ _ _) ?_; clear hX; intro wz hX) | ((with_reducible refine at_load ?_); refine wpList_bag_cell hX int_cell _ rfl rfl rfl rfl (by first | exact .head _ | exact .tail _ (.head _) | exact .tail _ (.tail _ (.head _)) | exact .tail _ (.tail _ (.tail _ (.head _)))) (by first | assumption | rfl) ?_) | ((with_reducible refine at_load ?_); refine wpList_bag_cell hX bool_cell _ rfl rfl rfl rfl (by first | exact .head _ | exact .tail _ (.head _) | exact .tail _ (.tail _ (.head _)) | exact .tail _ (.tail _ (.tail _ (.head _)))) (by first | assumption | rfl) ?_) | ((with_reducible refine at_load ?_); refine wpList_bag_part (k := 0) hX aggK sizK _ rfl rfl rfl rfl (by first | exact .head _ | exact .tail _ (.head _) | exact .tail _ (.tail _ (.head _)) | exact .tail _ (.tail _ (.tail _ (.head _)))) (fun jz vz hz => (congrArg (fun n => ([_, _, _, _] : List Value)[n]?) (Nat.zero_add jz)).trans hz) rfl ?_))
  go_ret
  exact ⟨rfl, hX.below⟩
theorem ClockNews_law (H : CkC) (c : Ck) (n : Int) (W0 : World) : Calls Try.prog 3 #[.agg #[.bool c.e, .bool c.r, .int .i64 c.p, .int .i64 c.l], .int .i64 n] W0 fun e' w' => e' = .returned (.bool true) ∧ Below W0.heap.size W0 w' := by
  have hal := alive_true H
  have h1 := H.nw n
  have h2 := rnew_any n
  have h3 := H.right c
  have h4 := rright_any c
  generalize newK n = N at *
  obtain ⟨⟨ne, nr, np, nl⟩, nf⟩ := N
  generalize c.right = b at *
  have hX := (Bag.nil W0).new 23 [.bool c.e, .bool c.r, .int .i64 c.p, .int .i64 c.l]
  clear H
  go_enter Try.func3, Try.ntmps3
  go_wp2_with (first | (go_at_call 7; first | ((with_reducible refine (h1 _).mono ?_); rintro e' wA ⟨rfl, hb⟩; replace hX := hX.step hb; clear hb)) | (go_at_call 8; first | ((with_reducible refine (h2 _).mono ?_); rintro e' wB ⟨rfl, hb⟩; replace hX := hX.step hb; clear hb)) | ((with_reducible refine at_store ?_); refine wpList_bag_store (zs := [.bool false, .bool false, .int .i64 0, .int .i64 0]) hX aggK sizK _ _ rfl rfl rfl rfl rfl rfl rfl rfl (one_ck _ _ _ _) ?_; clear hX; intro wz hX))
  refine region_class (fun w' => Bag [(wB.heap.size, 23, [.bool ne, .bool nr, .int .i64 np, .int .i64 nl]), (wA.heap.size, 23, [.bool ne, .bool nr, .int .i64 np, .int .i64 nl]), (W0.heap.size, 23, [.bool c.e, .bool c.r, .int .i64 c.p, .int .i64 c.l])] W0 w') (by kernel_rfl) (by kernel_rfl) hX.drew ?_
  repeat
    first
      | (refine BigFrame.wpQuiet_skip (by rfl) ?_
         simp only [Act.put, List.setIfInBounds_toArray, List.set_cons_zero, List.set_cons_succ])
      | (refine BigFrame.wpQuiet_want (by rfl) (fun K hK => ?_)
         apply Exists.intro
         refine ⟨fun wq hq => ?_, hK _ ?_⟩
         · first
             | (refine quiet_load 23 _ _ _ rfl rfl ((hq.all _ _ _ (.head _)).loadAt rfl aggK sizK))
             | (refine quiet_load 23 _ _ _ rfl rfl ((hq.all _ _ _ (.tail _ (.head _))).loadAt rfl aggK sizK))
             | (refine quiet_load 23 _ _ _ rfl rfl ((hq.all _ _ _ (.tail _ (.tail _ (.head _)))).loadAt rfl aggK sizK))
             | (unfold Oper.quietAt
                go_simp
                first
                  | with_reducible rfl
                  | ((go_at_call 9); with_reducible refine (h3 _).mono ?_; exact fun e' w' ⟨he, hb⟩ => ⟨he, hq.step hb⟩)
                  | ((go_at_call 10); with_reducible refine (h4 _).mono ?_; exact fun e' w' ⟨he, hb⟩ => ⟨he, hq.step hb⟩)
                  | ((go_at_call 11); with_reducible refine (hal _).mono ?_; exact fun e' w' ⟨he, hb⟩ => ⟨he, hq.step hb⟩)
               )
         clear hK K
         simp only [Act.put, List.setIfInBounds_toArray, List.set_cons_zero, List.set_cons_succ])
  refine wpQuiet_nil ?_
  intro w4 hX
  go_wp2
  go_ret
  exact ⟨rfl, hX.below⟩
theorem tick_right {c : Ck} (h : c.right = true) : c.tick.right = true := by
  rw [Ck.right_iff] at h ⊢
  unfold Ck.tick
  split <;> simp only <;> omega
theorem reset_right {c : Ck} (h : c.right = true) : c.reset.right = true := by
  rw [Ck.right_iff] at h ⊢
  simp only [Ck.reset]
  omega
theorem ClockTicks_law (H : CkC) (c : Ck) (W0 : World) : Calls Try.prog 4 #[.agg #[.bool c.e, .bool c.r, .int .i64 c.p, .int .i64 c.l]] W0 fun e' w' => e' = .returned (.bool true) ∧ Below W0.heap.size W0 w' := by
  have hal := alive_true H
  have hX := (Bag.nil W0).new 23 [.bool c.e, .bool c.r, .int .i64 c.p, .int .i64 c.l]
  have h0 := rright_any c
  cases hr : c.right
  · rw [hr] at h0
    clear H hr
    go_enter Try.func4, Try.ntmps4
    go_wp2_with (first | (go_at_call 10; first | ((with_reducible refine (h0 _).mono ?_); rintro e' w' ⟨rfl, hb⟩; replace hX := hX.step hb; clear hb)) | (go_at_call 11; first | ((with_reducible refine (hal _).mono ?_); rintro e' w' ⟨rfl, hb⟩; replace hX := hX.step hb; clear hb)) | ((with_reducible refine at_load ?_); refine wpList_bag_part (k := 0) hX aggK sizK _ rfl rfl rfl rfl (by first | exact .head _ | exact .tail _ (.head _) | exact .tail _ (.tail _ (.head _)) | exact .tail _ (.tail _ (.tail _ (.head _)))) (fun jz vz hz => (congrArg (fun n => ([_, _, _, _] : List Value)[n]?) (Nat.zero_add jz)).trans hz) rfl ?_))
    go_ret
    exact ⟨rfl, hX.below⟩
  rw [hr] at h0
  have h1 := fun w => H.tick c w hr
  have h2 := rtick_any c hr
  have h3 := fun w => H.reset c w hr
  have h4 := rreset_any c
  have h5 := H.right c.tick
  have h6 := H.right c.reset
  rw [tick_right hr] at h5
  rw [reset_right hr] at h6
  generalize c.tick = t at *
  generalize c.reset = s at *
  clear H hr
  go_enter Try.func4, Try.ntmps4
  go_wp2_with (first | (go_at_call 10; first | ((with_reducible refine (h0 _).mono ?_); rintro e' w' ⟨rfl, hb⟩; replace hX := hX.step hb; clear hb)) | ((with_reducible refine at_load ?_); refine wpList_bag_part (k := 0) hX aggK sizK _ rfl rfl rfl rfl (by first | exact .head _ | exact .tail _ (.head _) | exact .tail _ (.tail _ (.head _)) | exact .tail _ (.tail _ (.tail _ (.head _)))) (fun jz vz hz => (congrArg (fun n => ([_, _, _, _] : List Value)[n]?) (Nat.zero_add jz)).trans hz) rfl ?_))
  refine region_class (fun w' => Bag [(W0.heap.size, 23, [.bool c.e, .bool c.r, .int .i64 c.p, .int .i64 c.l])] W0 w') (by kernel_rfl) (by kernel_rfl) hX.drew ?_
  repeat
    first
      | (refine BigFrame.wpQuiet_skip (by rfl) ?_
         simp only [Act.put, List.setIfInBounds_toArray, List.set_cons_zero, List.set_cons_succ])
      | (refine BigFrame.wpQuiet_want (by rfl) (fun K hK => ?_)
         apply Exists.intro
         refine ⟨fun wq hq => ?_, hK _ ?_⟩
         · first
             | (refine quiet_load 23 _ _ _ rfl rfl ((hq.all _ _ _ (.head _)).loadAt rfl aggK sizK))
             | (unfold Oper.quietAt
                go_simp
                first
                  | with_reducible rfl
                  | ((go_at_call 12); with_reducible refine (h1 _).mono ?_; exact fun e' w' ⟨he, hb⟩ => ⟨he, hq.step hb⟩)
                  | ((go_at_call 13); with_reducible refine (h2 _).mono ?_; exact fun e' w' ⟨he, hb⟩ => ⟨he, hq.step hb⟩)
                  | ((go_at_call 14); with_reducible refine (h3 _).mono ?_; exact fun e' w' ⟨he, hb⟩ => ⟨he, hq.step hb⟩)
                  | ((go_at_call 15); with_reducible refine (h4 _).mono ?_; exact fun e' w' ⟨he, hb⟩ => ⟨he, hq.step hb⟩)
                  | ((go_at_call 9); first | (with_reducible refine (h5 _).mono ?_; exact fun e' w' ⟨he, hb⟩ => ⟨he, hq.step hb⟩) | (with_reducible refine (h6 _).mono ?_; exact fun e' w' ⟨he, hb⟩ => ⟨he, hq.step hb⟩))
                  | ((go_at_call 11); with_reducible refine (hal _).mono ?_; exact fun e' w' ⟨he, hb⟩ => ⟨he, hq.step hb⟩)
               )
         clear hK K
         simp only [Act.put, List.setIfInBounds_toArray, List.set_cons_zero, List.set_cons_succ])
  refine wpQuiet_nil ?_
  intro w4 hX
  go_wp2
  go_ret
  exact ⟨rfl, hX.below⟩
end Go.Proofs.Ytaejomjpobdmkaa
