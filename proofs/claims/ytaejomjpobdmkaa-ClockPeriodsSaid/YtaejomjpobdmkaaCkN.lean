/-
  The law ClockPeriods over the contracts of package clock. Condition: the contracts.
-/
import Derived.Test.YtaejomjpobdmkaaCkL
import Derived.Test.YtaejomjpobdmkaaTail
namespace Go.Proofs.Ytaejomjpobdmkaa
open Go.RowKit
set_option linter.unusedSimpArgs false
set_option linter.unusedVariables false
set_option maxHeartbeats 4000000
set_option maxRecDepth 100000
attribute [local irreducible] wpQuiet

theorem addr_zero (a : Addr) : a.add 0 = a := by unfold Addr.add; cases a; split <;> simp_all
theorem cell_load {w : World} {a : Addr} {x : Int} (h : w.cell? a = some (.int .i64 x)) : (Instr.loadAt 3 (.pointer (some a))).run Try.prog w = .ok (.int .i64 x) w := by
  simp only [Instr.loadAt, Instr.sureAddr, Go.loadVar, Sem.run_bind, Sem.run_pure, Result.andThen_ok, int_cell, Bool.false_eq_true, if_false]
  simp [h, go_sem]
theorem req_loads {w : World} {a : Addr} {n c : Nat} (h : Rqs w (.slice (some a) n c) [(6, 64)]) (hn : n = 1) : ∀ w', Below w.heap.size w w' → (Instr.loadAt 3 (.pointer (some a))).run Try.prog w' = .ok (.int .i64 6) w' ∧ (Instr.loadAt 3 (.pointer (some (a.add 1)))).run Try.prog w' = .ok (.int .i64 64) w' := by
  subst hn
  intro w' hb
  have h0 := Rqs.cells (Rqs.below h hb) 0 _ rfl
  have h1 := Rqs.cells (Rqs.below h hb) 1 _ rfl
  rw [addr_zero] at h0
  exact ⟨cell_load h0, cell_load h1⟩
/-- A fact that the walk does not use. -/
def Hid (p : Prop) : Prop := p
theorem hid {p : Prop} (h : p) : Hid p := h
theorem mod_step {i p : Int} (hp : 1 ≤ p) : (i % p = 0 → (i - 1) % p = p - 1) ∧ (¬ i % p = 0 → (i - 1) % p = i % p - 1) := by
  have h := Int.emod_add_mul_ediv i p
  have h0 := Int.emod_nonneg i (show p ≠ 0 by omega)
  have h1 := Int.emod_lt_of_pos i (show 0 < p by omega)
  constructor
  · intro e
    rw [e] at h
    have e2 : i - 1 = (p - 1) + p * (i / p - 1) := by rw [Int.mul_sub]; omega
    rw [e2, Int.add_mul_emod_self_left, Int.emod_eq_of_lt (by omega) (by omega)]
  · intro e
    have e2 : i - 1 = (i % p - 1) + p * (i / p) := by omega
    have e3 : (i % p - 1 + p * (i / p)) % p = i % p - 1 := by rw [Int.add_mul_emod_self_left, Int.emod_eq_of_lt (by omega) (by omega)]
    rw [e2]; exact e3
theorem ClockPeriods_law (H : CkC) (a n : Int) (ha : 0 ≤ a ∧ a ≤ 65535) (hn : 0 ≤ n ∧ n ≤ 65535) (W0 : World) : Calls Try.prog 6 #[.int .u16 a, .int .u16 n] W0 fun e' w' => e' = .returned (.bool true) ∧ Below W0.heap.size W0 w' := by
  have hal := alive_true H
  obtain ⟨x, hx, hx0, hx3⟩ : ∃ x : Int, a.tmod 300 = x ∧ 0 ≤ x ∧ x < 300 := ⟨_, rfl, by rw [Int.tmod_eq_emod_of_nonneg ha.1]; omega, by rw [Int.tmod_eq_emod_of_nonneg ha.1]; omega⟩
  obtain ⟨y, hy, hy0, hy3⟩ : ∃ y : Int, n.tmod 300 = y ∧ 0 ≤ y ∧ y < 300 := ⟨_, rfl, by rw [Int.tmod_eq_emod_of_nonneg hn.1]; omega, by rw [Int.tmod_eq_emod_of_nonneg hn.1]; omega⟩
  obtain ⟨p, hp⟩ : ∃ p : Int, x + 1 = p := ⟨_, rfl⟩
  have hwp : wrap64 (x + 1) = p := by unfold wrap64; omega
  have hp1 : 1 ≤ p := by omega
  have hp3 : p ≤ 300 := by omega
  have n1 : ∀ w, Calls Try.prog 7 #[.int .i64 p] w fun e' w' => e' = .returned (.tuple #[.agg #[.bool false, .bool false, .int .i64 p, .int .i64 p], .int .i64 0]) ∧ Below w.heap.size w w' := fun w => by
    have := H.nw p w
    rw [show newK p = (⟨false, false, p, p⟩, 0) from if_pos (by omega)] at this; exact this
  have w1 : ∀ w, Calls Try.prog 18 #[.agg #[.bool false, .bool false, .int .i64 p, .int .i64 p], .int .i64 64] w fun e' w' => e' = .returned (.agg #[.bool true, .bool false, .int .i64 p, .int .i64 p]) ∧ Below w.heap.size w w' := fun w => H.write ⟨false, false, p, p⟩ 64 w (by rw [Ck.right_iff]; simp only; omega)
  have hX := Bag.nil W0
  go_enter Try.func6, Try.ntmps6
  go_wp2_with (first | (go_at_call 7; (with_reducible refine (n1 _).mono ?_); rintro e' wA ⟨rfl, hb⟩; replace hX := hX.step hb; clear hb) | (go_at_call 18; (with_reducible refine (w1 _).mono ?_); rintro e' w' ⟨rfl, hb⟩; replace hX := hX.step hb; clear hb) | ((with_reducible refine at_store ?_); refine wpList_bag_store (zs := [.bool false, .bool false, .int .i64 0, .int .i64 0]) hX aggK sizK _ _ rfl rfl rfl rfl rfl rfl rfl rfl (one_ck _ _ _ _) ?_; clear hX; intro wz hX) | ((with_reducible refine at_store ?_); refine wpList_bag_over hX aggK sizK _ _ rfl rfl rfl rfl rfl rfl rfl rfl (one_ck _ _ _ _) ?_; clear hX; intro wz hX) | ((with_reducible refine at_load ?_); refine wpList_bag_part (k := 0) hX aggK sizK _ rfl rfl rfl rfl (by first | exact .head _ | exact .tail _ (.head _) | exact .tail _ (.tail _ (.head _)) | exact .tail _ (.tail _ (.tail _ (.head _)))) (fun jz vz hz => (congrArg (fun n => ([_, _, _, _] : List Value)[n]?) (Nat.zero_add jz)).trans hz) rfl ?_))
  clear n1 w1 hx hy hwp
  go_loopw [9] (fun iv wr => ∃ i : Nat, 1 ≤ i ∧ (i : Int) ≤ y + 1 ∧ iv = .int .i64 i ∧ Bag [(wA.heap.size, 23, [.bool true, .bool false, .int .i64 p, .int .i64 (p - ((i : Int) - 1) % p)])] W0 wr) (fun iv _ => match iv with | .int _ q => (y + 1).toNat - q.toNat | _ => 0)
  case atStart => exact ⟨1, by omega, by omega, rfl, by simpa using hX⟩
  case round =>
    clear hX
    obtain ⟨i, hi1, hiy, rfl, hX⟩ := hrel
    by_cases hle : (i : Int) ≤ y
    · have hms := mod_step (i := (i : Int)) hp1
      obtain ⟨m, hm⟩ : ∃ m : Int, (i : Int) % p = m := ⟨_, rfl⟩
      have hm0 : 0 ≤ m := hm ▸ Int.emod_nonneg _ (by omega)
      have hmp : m < p := hm ▸ Int.emod_lt_of_pos _ (by omega)
      have htm : (i : Int).tmod p = m := by rw [Int.tmod_eq_emod_of_nonneg (by omega)]; exact hm
      rw [hm] at hms
      have hnx : p - (((i + 1 : Nat) : Int) - 1) % p = p - m := by rw [show ((i + 1 : Nat) : Int) - 1 = (i : Int) from by omega, hm]
      replace hnx := hid hnx
      have hpn : ¬ p = 0 := by omega
      have hw1 : wrap64 (p - m) = p - m := by unfold wrap64; omega
      have hw2 : IntKind.i64.wrap (p - m) = p - m := by rw [wrap_i64]; exact hw1
      by_cases hz : m = 0
      · rw [(hms.1 hz), show p - (p - 1) = 1 from by omega] at hX
        have hmb : (m == 0) = true := by simpa using hz
        have hpm : p - m = p := by omega
        rw [hpm] at hw1 hw2
        have t1 : ∀ w, Calls Try.prog 12 #[.agg #[.bool true, .bool false, .int .i64 p, .int .i64 1]] w fun e' w' => e' = .returned (.agg #[.bool true, .bool true, .int .i64 p, .int .i64 p]) ∧ Below w.heap.size w w' := fun w => H.tick ⟨true, false, p, 1⟩ w (by rw [Ck.right_iff]; simp only; omega)
        have q1 : ∀ w, Calls Try.prog 21 #[.agg #[.bool true, .bool true, .int .i64 p, .int .i64 p]] w fun e' w' => ∃ v, e' = .returned v ∧ Rqs w' v [(6, 64)] ∧ Below w.heap.size w w' := fun w => H.req ⟨true, true, p, p⟩ w (by rw [Ck.right_iff]; simp only; omega)
        have g1 : ∀ w, Calls Try.prog 9 #[.agg #[.bool true, .bool true, .int .i64 p, .int .i64 p]] w fun e' w' => e' = .returned (.bool true) ∧ Below w.heap.size w w' := fun w => by
          have := H.right ⟨true, true, p, p⟩ w
          rw [show Ck.right ⟨true, true, p, p⟩ = true from (by rw [Ck.right_iff]; simp only; omega)] at this; exact this
        have a1 : ∀ w, Calls Try.prog 23 #[.agg #[.bool true, .bool true, .int .i64 p, .int .i64 p], .int .i64 60] w fun e' w' => e' = .returned (.agg #[.bool true, .bool true, .int .i64 p, .int .i64 p]) ∧ Below w.heap.size w w' := fun w => H.acc ⟨true, true, p, p⟩ 60 w (by rw [Ck.right_iff]; simp only; omega)
        have a2 : ∀ w, Calls Try.prog 23 #[.agg #[.bool true, .bool true, .int .i64 p, .int .i64 p], .int .i64 64] w fun e' w' => e' = .returned (.agg #[.bool true, .bool false, .int .i64 p, .int .i64 p]) ∧ Below w.heap.size w w' := fun w => H.acc ⟨true, true, p, p⟩ 64 w (by rw [Ck.right_iff]; simp only; omega)
        clear hms hz hm hal H
        go_wp2_with (first | (go_at_call 12; (with_reducible refine (t1 _).mono ?_); rintro e' w' ⟨rfl, hb⟩; replace hX := hX.step hb; clear hb) | (go_at_call 21; (with_reducible refine (q1 _).mono ?_); rintro e' w5 ⟨v, rfl, hv, hb⟩; replace hX := hX.step hb; obtain ⟨A', c', rfl, _, hcv⟩ := id hv; obtain ⟨la, rfl, _⟩ := hcv 0 (.int .i64 6) rfl; have hll := req_loads hv rfl; clear hb hcv) | ((with_reducible refine at_store ?_); refine wpList_bag_over hX aggK sizK _ _ rfl rfl rfl rfl rfl rfl rfl rfl (one_ck _ _ _ _) ?_; clear hX; intro wz hX) | ((with_reducible refine at_load ?_); refine wpList_bag_part (k := 0) hX aggK sizK _ rfl rfl rfl rfl (by first | exact .head _ | exact .tail _ (.head _) | exact .tail _ (.tail _ (.head _)) | exact .tail _ (.tail _ (.tail _ (.head _)))) (fun jz vz hz => (congrArg (fun n => ([_, _, _, _] : List Value)[n]?) (Nat.zero_add jz)).trans hz) rfl ?_))
        refine region_class (fun w' => Bag [(wA.heap.size, 23, [.bool true, .bool true, .int .i64 p, .int .i64 p])] W0 w' ∧ Below w5.heap.size w5 w') (by kernel_rfl) (by kernel_rfl) ⟨hX.drew, (Below.refl _ _).drew⟩ ?_
        repeat
          first
            | (refine BigFrame.wpQuiet_skip (by rfl) ?_
               simp only [Act.put, List.setIfInBounds_toArray, List.set_cons_zero, List.set_cons_succ])
            | (refine BigFrame.wpQuiet_want (by rfl) (fun K hK => ?_)
               apply Exists.intro
               refine ⟨fun wq hq => ?_, hK _ ?_⟩
               · first
                   | (refine quiet_load 23 _ _ _ rfl rfl ((hq.1.all _ _ _ (.head _)).loadAt rfl aggK sizK))
                   | (refine quiet_load 3 _ _ _ rfl rfl ((hq.1.all _ _ _ (.head _)).loadCell rfl int_cell))
                   | (unfold Oper.quietAt
                      go_simp
                      first
                        | with_reducible rfl
                        | ((go_at_call 9); with_reducible refine (g1 _).mono ?_; exact fun e' w' ⟨he, hb⟩ => ⟨he, ⟨hq.1.step hb, hq.2.trans (hb.mono hq.2.size)⟩⟩)
                     )
               clear hK K
               simp only [Act.put, List.setIfInBounds_toArray, List.set_cons_zero, List.set_cons_succ])
        refine wpQuiet_nil ?_
        rintro w6 ⟨hX6, hB6⟩
        go_wp2
        refine region_class (fun w' => Bag [(wA.heap.size, 23, [.bool true, .bool true, .int .i64 p, .int .i64 p])] W0 w' ∧ Below w5.heap.size w5 w') (by kernel_rfl) (by kernel_rfl) ⟨hX6.drew, hB6.drew⟩ ?_
        repeat
          first
            | (refine BigFrame.wpQuiet_skip (by rfl) ?_
               simp only [Act.put, List.setIfInBounds_toArray, List.set_cons_zero, List.set_cons_succ])
            | (refine BigFrame.wpQuiet_want (by rfl) (fun K hK => ?_)
               apply Exists.intro
               refine ⟨fun wq hq => ?_, hK _ ?_⟩
               · first
                   | (refine quiet_load 23 _ _ _ rfl rfl ((hq.1.all _ _ _ (.head _)).loadAt rfl aggK sizK))
                   | (refine quiet_load 3 _ _ _ rfl rfl (hll _ hq.2).1)
                   | (refine quiet_load 3 _ _ _ rfl rfl (hll _ hq.2).2)
                   | (unfold Oper.quietAt
                      go_simp
                      first
                        | with_reducible rfl
                        | ((go_at_call 23); with_reducible refine (a1 _).mono ?_; exact fun e' w' ⟨he, hb⟩ => ⟨he, ⟨hq.1.step hb, hq.2.trans (hb.mono hq.2.size)⟩⟩)
                     )
               clear hK K
               simp only [Act.put, List.setIfInBounds_toArray, List.set_cons_zero, List.set_cons_succ])
        refine wpQuiet_nil ?_
        rintro w7 ⟨hX7, hB7⟩
        go_wp2
        refine region_class_tail (fun w' => Bag [(wA.heap.size, 23, [.bool true, .bool true, .int .i64 p, .int .i64 p])] W0 w' ∧ Below w5.heap.size w5 w') 6 (by kernel_rfl) (by kernel_rfl) ⟨hX7.drew, hB7.drew⟩ ?_
        repeat
          first
            | (refine BigFrame.wpQuiet_skip (by rfl) ?_
               simp only [Act.put, List.setIfInBounds_toArray, List.set_cons_zero, List.set_cons_succ])
            | (refine BigFrame.wpQuiet_want (by rfl) (fun K hK => ?_)
               apply Exists.intro
               refine ⟨fun wq hq => ?_, hK _ ?_⟩
               · first
                   | (refine quiet_load 23 _ _ _ rfl rfl ((hq.1.all _ _ _ (.head _)).loadAt rfl aggK sizK))
                   | (refine quiet_load 3 _ _ _ rfl rfl (hll _ hq.2).1)
                   | (refine quiet_load 3 _ _ _ rfl rfl (hll _ hq.2).2)
                   | (unfold Oper.quietAt
                      go_simp
                      first
                        | with_reducible rfl
                        | ((go_at_call 23); with_reducible refine (a2 _).mono ?_; exact fun e' w' ⟨he, hb⟩ => ⟨he, ⟨hq.1.step hb, hq.2.trans (hb.mono hq.2.size)⟩⟩)
                     )
               clear hK K
               simp only [Act.put, List.setIfInBounds_toArray, List.set_cons_zero, List.set_cons_succ])
        refine wpQuiet_nil ?_
        rintro w8 ⟨hX8, hB8⟩
        replace hX := hX8
        simp only [List.drop_succ_cons, List.drop_zero]
        go_wp2_with (first | ((with_reducible refine at_store ?_); refine wpList_bag_over hX aggK sizK _ _ rfl rfl rfl rfl rfl rfl rfl rfl (one_ck _ _ _ _) ?_; clear hX; intro wz hX))
        exact ⟨⟨i + 1, by omega, by omega, by go_num, by rw [show p - (((i + 1 : Nat) : Int) - 1) % p = _ from hnx, hpm]; exact hX⟩, by simp only; omega⟩
      · rw [(hms.2 hz), show p - (m - 1) = p - m + 1 from by omega] at hX
        have hmb : (m == 0) = false := by simpa using hz
        have t1 : ∀ w, Calls Try.prog 12 #[.agg #[.bool true, .bool false, .int .i64 p, .int .i64 (p - m + 1)]] w fun e' w' => e' = .returned (.agg #[.bool true, .bool false, .int .i64 p, .int .i64 (p - m)]) ∧ Below w.heap.size w w' := fun w => by
          have := H.tick ⟨true, false, p, p - m + 1⟩ w (by rw [Ck.right_iff]; simp only; omega)
          rw [show Ck.tick ⟨true, false, p, p - m + 1⟩ = ⟨true, false, p, p - m⟩ from by unfold Ck.tick; rw [if_neg (by simp only; omega)]; simp only [Ck.mk.injEq, true_and]; omega] at this
          exact this
        have q1 : ∀ w, Calls Try.prog 21 #[.agg #[.bool true, .bool false, .int .i64 p, .int .i64 (p - m)]] w fun e' w' => ∃ v, e' = .returned v ∧ Rqs w' v [] ∧ Below w.heap.size w w' := fun w => H.req ⟨true, false, p, p - m⟩ w (by rw [Ck.right_iff]; simp only; omega)
        have g1 : ∀ w, Calls Try.prog 9 #[.agg #[.bool true, .bool false, .int .i64 p, .int .i64 (p - m)]] w fun e' w' => e' = .returned (.bool true) ∧ Below w.heap.size w w' := fun w => by
          have := H.right ⟨true, false, p, p - m⟩ w
          rw [show Ck.right ⟨true, false, p, p - m⟩ = true from (by rw [Ck.right_iff]; simp only; omega)] at this; exact this
        clear hms hz hm hal H
        generalize p - m + 1 = l0 at *
        obtain ⟨d, hd⟩ : ∃ d : Int, p - m = d := ⟨_, rfl⟩
        rw [hd] at t1 q1 g1 hw1 hw2 hnx
        go_wp2_with (first | (go_at_call 12; (with_reducible refine (t1 _).mono ?_); rintro e' w' ⟨rfl, hb⟩; replace hX := hX.step hb; clear hb) | (go_at_call 21; (with_reducible refine (q1 _).mono ?_); rintro e' w5 ⟨v, rfl, hv, hb⟩; replace hX := hX.step hb; obtain ⟨A', c', rfl, _, _⟩ := hv; clear hb) | ((with_reducible refine at_store ?_); refine wpList_bag_over hX aggK sizK _ _ rfl rfl rfl rfl rfl rfl rfl rfl (one_ck _ _ _ _) ?_; clear hX; intro wz hX) | ((with_reducible refine at_load ?_); refine wpList_bag_part (k := 0) hX aggK sizK _ rfl rfl rfl rfl (by first | exact .head _ | exact .tail _ (.head _) | exact .tail _ (.tail _ (.head _)) | exact .tail _ (.tail _ (.tail _ (.head _)))) (fun jz vz hz => (congrArg (fun n => ([_, _, _, _] : List Value)[n]?) (Nat.zero_add jz)).trans hz) rfl ?_))
        refine region_class (fun w' => Bag [(wA.heap.size, 23, [.bool true, .bool false, .int .i64 p, .int .i64 d])] W0 w' ∧ Below w5.heap.size w5 w') (by kernel_rfl) (by kernel_rfl) ⟨hX.drew, (Below.refl _ _).drew⟩ ?_
        repeat
          first
            | (refine BigFrame.wpQuiet_skip (by rfl) ?_
               simp only [Act.put, List.setIfInBounds_toArray, List.set_cons_zero, List.set_cons_succ])
            | (refine BigFrame.wpQuiet_want (by rfl) (fun K hK => ?_)
               apply Exists.intro
               refine ⟨fun wq hq => ?_, hK _ ?_⟩
               · first
                   | (refine quiet_load 23 _ _ _ rfl rfl ((hq.1.all _ _ _ (.head _)).loadAt rfl aggK sizK))
                   | (refine quiet_load 3 _ _ _ rfl rfl ((hq.1.all _ _ _ (.head _)).loadCell rfl int_cell))
                   | (unfold Oper.quietAt
                      go_simp
                      first
                        | with_reducible rfl
                        | ((go_at_call 9); with_reducible refine (g1 _).mono ?_; exact fun e' w' ⟨he, hb⟩ => ⟨he, ⟨hq.1.step hb, hq.2.trans (hb.mono hq.2.size)⟩⟩)
                     )
               clear hK K
               simp only [Act.put, List.setIfInBounds_toArray, List.set_cons_zero, List.set_cons_succ])
        refine wpQuiet_nil ?_
        rintro w6 ⟨hX6, hB6⟩
        go_wp2
        exact ⟨⟨i + 1, by omega, by omega, by go_num, by rw [show p - (((i + 1 : Nat) : Int) - 1) % p = _ from hnx]; exact hX6⟩, by simp only; omega⟩
    · clear H
      go_wp2_with (first | (go_at_call 11; (with_reducible refine (hal _).mono ?_); rintro e' w' ⟨rfl, hb⟩; replace hX := hX.step hb; clear hb))
      go_ret
      exact ⟨rfl, hX.below⟩
end Go.Proofs.Ytaejomjpobdmkaa
