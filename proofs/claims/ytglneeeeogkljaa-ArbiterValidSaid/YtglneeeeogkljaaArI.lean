/-
  Best and Grant. Condition: at most 2^40 requests.
-/
import Derived.Test.YtglneeeeogkljaaArH
import Derived.Test.YtglneeeeogkljaaArF
namespace Go.Proofs.Ytglneeeeogkljaa
open Go.RowKit
set_option linter.unusedSimpArgs false
set_option linter.unusedVariables false
set_option maxHeartbeats 4000000
set_option maxRecDepth 100000
attribute [local irreducible] wpQuiet
theorem Bag.less {l : List (Nat × TypeId × List Value)} {b : Nat × TypeId × List Value} {w0 w : World} (h : Bag (b :: l) w0 w) : Bag l w0 w :=
  ⟨fun B t cs hm => h.all B t cs (List.mem_cons_of_mem _ hm), h.below, fun x hx => h.lo x (List.mem_cons_of_mem _ hx), by have := h.dis; rw [List.map_cons, List.nodup_cons] at this; exact this.2⟩
theorem pBest_any (v : Value) (l : List Rq) (hl : l.length ≤ 1099511627776) (w : World) (hv : Rqs w v l) :
    Calls Try.prog 11 #[v] w fun e w' => e = .returned (.tuple #[.agg #[.int .i64 (bst l).1.1, .int .i64 (bst l).1.2], .bool (bst l).2]) ∧ Below w.heap.size w w' := by
  have hv0 := hv
  obtain ⟨A, c, rfl, _, hc⟩ := hv
  have hX := ((Bag.nil w).new 23 [.int .i64 0, .int .i64 0])
  have hsz : (w.alloc (.cells [.int .i64 0, .int .i64 0].toArray 23)).heap.size = w.heap.size + 1 := Array.size_push ..
  replace hX := hX.new 23 [.int .i64 0, .int .i64 0]
  rw [hsz] at hX
  clear hsz
  have hfin : Hid (bst (l.take l.length) = bst l) := by show _ = _; rw [List.take_length]
  generalize bst l = BL at *
  obtain ⟨⟨P, U⟩, O⟩ := BL
  go_enter Try.func11, Try.ntmps11
  go_wp2_with (refine wpList_build_run 23 (.agg #[.int .i64 0, .int .i64 0]) rfl rfl zeroQ ?_)
  go_loopw [5, 11] (fun fv iv wr => ∃ (k : Nat) (B : Rq × Bool), k ≤ l.length ∧ iv = .int .i64 k ∧ Hid (B = bst (l.take k)) ∧ fv = .bool B.2 ∧ Bag [(w.heap.size + 1, 23, [.int .i64 B.1.1, .int .i64 B.1.2]), (w.heap.size, 23, [.int .i64 0, .int .i64 0])] w wr)
    (fun _ iv _ => match iv with | .int _ q => l.length - q.toNat | _ => 0)
  case atStart => exact ⟨0, ((0, 0), false), Nat.zero_le _, rfl, rfl, rfl, hX⟩
  case round =>
    clear hX
    obtain ⟨k, ⟨⟨bp, bv⟩, bf⟩, hk, rfl, hB, rfl, hX⟩ := hrel
    by_cases hkl : k < l.length
    · have hx := List.getElem?_eq_getElem hkl
      generalize l[k] = x at *
      obtain ⟨a, rfl, hc0⟩ := hc (k * 2) (.int .i64 x.1) (flat_get hx 0 _ rfl)
      have hLx : ∀ w', Below w.heap.size w w' → (Instr.loadAt 23 (.pointer (some (a.add (k * 2))))).run Try.prog w' = .ok (.agg [.int .i64 x.1, .int .i64 x.2].toArray) w' := fun w' h => Rqs.load (hv0.below h) rfl hx
      have hva := fun w => pValid_any x w
      have hno := @bst_no (l.take k) x
      have hfi := @bst_first (l.take k) x
      have hne := @bst_next (l.take k) x
      rw [← take_one hx, ← show _ = _ from hB] at hno hfi hne
      have hcm := fun w => compare_below x (bp, bv) w
      clear hc hc0 hx
      cases hok : okQ x
      · rw [hok] at hva
        have hB2 : Hid (((bp, bv), bf) = bst (l.take (k + 1))) := (hno hok).symm
        clear hno hfi hne hcm hv0 hB
        go_wp2_with (first | ((with_reducible refine at_load ?_); refine wpList_loadW rfl 23 _ _ _ rfl rfl (hLx _ hX.below) ?_) | ((with_reducible refine at_store ?_); refine wpList_bag_store (zs := [.int .i64 0, .int .i64 0]) hX aggQ sizQ _ _ rfl rfl rfl rfl rfl rfl rfl rfl (by intro u hu; simp at hu; rcases hu with rfl | rfl <;> rfl) ?_; clear hX; intro wz hX) | ((with_reducible refine at_load ?_); refine wpList_bag_part (k := 0) hX aggQ sizQ _ rfl rfl rfl rfl (by first | exact .head _ | exact .tail _ (.head _) | exact .tail _ (.tail _ (.head _))) (fun jz vz hz => (congrArg (fun n => ([_, _] : List Value)[n]?) (Nat.zero_add jz)).trans hz) rfl ?_) | (go_at_call 8; (with_reducible refine (hva _).mono ?_); rintro e w' ⟨rfl, hb⟩; replace hX := hX.step hb; clear hb))
        exact ⟨⟨k + 1, ((bp, bv), bf), by omega, by go_num, hB2, rfl, hX.less⟩, by simp only; omega⟩
      · rw [hok] at hva
        cases bf with
        | false =>
          have hB2 : Hid ((x, true) = bst (l.take (k + 1))) := (hfi hok rfl).symm
          clear hno hfi hne hcm hv0 hB
          go_wp2_with (first | ((with_reducible refine at_load ?_); refine wpList_loadW rfl 23 _ _ _ rfl rfl (hLx _ hX.below) ?_) | ((with_reducible refine at_store ?_); refine wpList_bag_store (zs := [.int .i64 0, .int .i64 0]) hX aggQ sizQ _ _ rfl rfl rfl rfl rfl rfl rfl rfl (by intro u hu; simp at hu; rcases hu with rfl | rfl <;> rfl) ?_; clear hX; intro wz hX) | ((with_reducible refine at_store ?_); refine wpList_bag_over hX.swap aggQ sizQ _ _ rfl rfl rfl rfl rfl rfl rfl rfl (by intro u hu; simp at hu; rcases hu with rfl | rfl <;> rfl) ?_; clear hX; intro wz hX) | ((with_reducible refine at_load ?_); refine wpList_bag_part (k := 0) hX aggQ sizQ _ rfl rfl rfl rfl (by first | exact .head _ | exact .tail _ (.head _) | exact .tail _ (.tail _ (.head _))) (fun jz vz hz => (congrArg (fun n => ([_, _] : List Value)[n]?) (Nat.zero_add jz)).trans hz) rfl ?_) | (go_at_call 8; (with_reducible refine (hva _).mono ?_); rintro e w' ⟨rfl, hb⟩; replace hX := hX.step hb; clear hb))
          exact ⟨⟨k + 1, (x, true), by omega, by go_num, hB2, rfl, hX.swap.less⟩, by simp only; omega⟩
        | true =>
          have hB3 := hne hok rfl
          clear hno hfi hne
          by_cases hc : cf x (bp, bv) < 0
          · have hd : decide (cf x (bp, bv) < 0) = true := decide_eq_true hc
            rw [if_pos hc] at hB3
            have hB2 : Hid ((x, true) = bst (l.take (k + 1))) := hB3.symm
            clear hB3 hv0 hB hc
            generalize cf x (bp, bv) = C at *
            go_wp2_with (first | ((with_reducible refine at_load ?_); refine wpList_loadW rfl 23 _ _ _ rfl rfl (hLx _ hX.below) ?_) | ((with_reducible refine at_store ?_); refine wpList_bag_store (zs := [.int .i64 0, .int .i64 0]) hX aggQ sizQ _ _ rfl rfl rfl rfl rfl rfl rfl rfl (by intro u hu; simp at hu; rcases hu with rfl | rfl <;> rfl) ?_; clear hX; intro wz hX) | ((with_reducible refine at_store ?_); refine wpList_bag_over hX.swap aggQ sizQ _ _ rfl rfl rfl rfl rfl rfl rfl rfl (by intro u hu; simp at hu; rcases hu with rfl | rfl <;> rfl) ?_; clear hX; intro wz hX) | ((with_reducible refine at_load ?_); refine wpList_bag_part (k := 0) hX aggQ sizQ _ rfl rfl rfl rfl (by first | exact .head _ | exact .tail _ (.head _) | exact .tail _ (.tail _ (.head _))) (fun jz vz hz => (congrArg (fun n => ([_, _] : List Value)[n]?) (Nat.zero_add jz)).trans hz) rfl ?_) | (go_at_call 8; (with_reducible refine (hva _).mono ?_); rintro e w' ⟨rfl, hb⟩; replace hX := hX.step hb; clear hb) | (go_at_call 18; (with_reducible refine (hcm _).mono ?_); rintro e w' ⟨rfl, hb⟩; replace hX := hX.step hb; clear hb))
            exact ⟨⟨k + 1, (x, true), by omega, by go_num, hB2, rfl, hX.swap.less⟩, by simp only; omega⟩
          · have hd : decide (cf x (bp, bv) < 0) = false := decide_eq_false hc
            rw [if_neg hc] at hB3
            have hB2 : Hid (((bp, bv), true) = bst (l.take (k + 1))) := hB3.symm
            clear hB3 hv0 hB hc
            generalize cf x (bp, bv) = C at *
            go_wp2_with (first | ((with_reducible refine at_load ?_); refine wpList_loadW rfl 23 _ _ _ rfl rfl (hLx _ hX.below) ?_) | ((with_reducible refine at_store ?_); refine wpList_bag_store (zs := [.int .i64 0, .int .i64 0]) hX aggQ sizQ _ _ rfl rfl rfl rfl rfl rfl rfl rfl (by intro u hu; simp at hu; rcases hu with rfl | rfl <;> rfl) ?_; clear hX; intro wz hX) | ((with_reducible refine at_store ?_); refine wpList_bag_over hX.swap aggQ sizQ _ _ rfl rfl rfl rfl rfl rfl rfl rfl (by intro u hu; simp at hu; rcases hu with rfl | rfl <;> rfl) ?_; clear hX; intro wz hX) | ((with_reducible refine at_load ?_); refine wpList_bag_part (k := 0) hX aggQ sizQ _ rfl rfl rfl rfl (by first | exact .head _ | exact .tail _ (.head _) | exact .tail _ (.tail _ (.head _))) (fun jz vz hz => (congrArg (fun n => ([_, _] : List Value)[n]?) (Nat.zero_add jz)).trans hz) rfl ?_) | (go_at_call 8; (with_reducible refine (hva _).mono ?_); rintro e w' ⟨rfl, hb⟩; replace hX := hX.step hb; clear hb) | (go_at_call 18; (with_reducible refine (hcm _).mono ?_); rintro e w' ⟨rfl, hb⟩; replace hX := hX.step hb; clear hb))
            exact ⟨⟨k + 1, ((bp, bv), true), by omega, by go_num, hB2, rfl, hX.less⟩, by simp only; omega⟩
    · have hkk : k = l.length := by omega
      subst hkk
      have hE : ((bp, bv), bf) = ((P, U), O) := (show _ = _ from hB).trans hfin
      simp only [Prod.mk.injEq] at hE
      obtain ⟨⟨rfl, rfl⟩, rfl⟩ := hE
      clear hB hc hv0 hfin
      go_wp2_with (first | ((with_reducible refine at_load ?_); refine wpList_bag_part (k := 0) hX aggQ sizQ _ rfl rfl rfl rfl (by first | exact .head _ | exact .tail _ (.head _) | exact .tail _ (.tail _ (.head _))) (fun jz vz hz => (congrArg (fun n => ([_, _] : List Value)[n]?) (Nat.zero_add jz)).trans hz) rfl ?_) | ((with_reducible refine at_store ?_); refine wpList_bag_over hX.swap aggQ sizQ _ _ rfl rfl rfl rfl rfl rfl rfl rfl (by intro u hu; simp at hu; rcases hu with rfl | rfl <;> rfl) ?_; clear hX; intro wz hX))
      exact bodyPost_ret (results_ct Try.results11 rfl ((hX.all _ _ _ List.mem_cons_self).loadVar rfl aggQ sizQ)) rfl ⟨rfl, hX.below⟩
theorem pGrant_any (v : Value) (l : List Rq) (n : Int) (hl : l.length ≤ 1099511627776) (w : World) (hv : Rqs w v l) :
    Calls Try.prog 16 #[v, .int .i64 n] w fun e w' => e = .returned (.tuple #[.agg #[.int .i64 (grt l (pr n)).1.1, .int .i64 (grt l (pr n)).1.2], .bool (grt l (pr n)).2]) ∧ Below w.heap.size w w' := by
  have hX := (Bag.nil w).new 23 [.int .i64 0, .int .i64 0]
  have hs := pBest_any v l hl _ (Rw.alloc hv (.cells #[.int .i64 0, .int .i64 0] 23))
  have hi := fun w => inter_any (bst l).1 n w
  have hno := grt_no (l := l) (p := pr n)
  have hyes := grt_yes (l := l) (p := pr n)
  clear hv
  generalize grt l (pr n) = G at *
  obtain ⟨⟨y, z⟩, t⟩ := G
  generalize bst l = B at *
  obtain ⟨⟨p, u⟩, ok⟩ := B
  generalize pr n = m at *
  simp only at *
  cases ok with
  | false =>
    cases hno (.inl rfl)
    clear hno hyes hi
    go_enter Try.func16, Try.ntmps16
    go_wp2_with (first | (go_at_call 11; (with_reducible refine (hs).mono ?_); rintro e w' ⟨rfl, hb⟩; replace hX := hX.step hb; clear hb) | (go_at_call 21; (with_reducible refine (hi _).mono ?_); rintro e w' ⟨rfl, hb⟩; replace hX := hX.step hb; clear hb) | ((with_reducible refine at_store ?_); refine wpList_bag_store (zs := [.int .i64 0, .int .i64 0]) hX aggQ sizQ _ _ rfl rfl rfl rfl rfl rfl rfl rfl (by intro u hu; simp at hu; rcases hu with rfl | rfl <;> rfl) ?_; clear hX; intro wz hX) | ((with_reducible refine at_store ?_); refine wpList_bag_over hX.swap aggQ sizQ _ _ rfl rfl rfl rfl rfl rfl rfl rfl (by intro u hu; simp at hu; rcases hu with rfl | rfl <;> rfl) ?_; clear hX; intro wz hX) | ((with_reducible refine at_load ?_); refine wpList_bag_part (k := 0) hX aggQ sizQ _ rfl rfl rfl rfl (by first | exact .head _ | exact .tail _ (.head _) | exact .tail _ (.tail _ (.head _))) (fun jz vz hz => (congrArg (fun n => ([_, _] : List Value)[n]?) (Nat.zero_add jz)).trans hz) rfl ?_) | (refine wpList_build_run 23 (.agg #[.int .i64 0, .int .i64 0]) rfl rfl zeroQ ?_))
    exact bodyPost_ret (results_ct Try.results16 rfl ((hX.all _ _ _ List.mem_cons_self).loadVar rfl aggQ sizQ)) rfl ⟨rfl, hX.below⟩
  | true =>
    by_cases hc : p ≤ m
    · have hd : decide (m < p) = false := decide_eq_false (by omega)
      cases hno (.inr hc)
      clear hno hyes hc
      go_enter Try.func16, Try.ntmps16
      go_wp2_with (first | (go_at_call 11; (with_reducible refine (hs).mono ?_); rintro e w' ⟨rfl, hb⟩; replace hX := hX.step hb; clear hb) | (go_at_call 21; (with_reducible refine (hi _).mono ?_); rintro e w' ⟨rfl, hb⟩; replace hX := hX.step hb; clear hb) | ((with_reducible refine at_store ?_); refine wpList_bag_store (zs := [.int .i64 0, .int .i64 0]) hX aggQ sizQ _ _ rfl rfl rfl rfl rfl rfl rfl rfl (by intro u hu; simp at hu; rcases hu with rfl | rfl <;> rfl) ?_; clear hX; intro wz hX) | ((with_reducible refine at_store ?_); refine wpList_bag_over hX.swap aggQ sizQ _ _ rfl rfl rfl rfl rfl rfl rfl rfl (by intro u hu; simp at hu; rcases hu with rfl | rfl <;> rfl) ?_; clear hX; intro wz hX) | ((with_reducible refine at_load ?_); refine wpList_bag_part (k := 0) hX aggQ sizQ _ rfl rfl rfl rfl (by first | exact .head _ | exact .tail _ (.head _) | exact .tail _ (.tail _ (.head _))) (fun jz vz hz => (congrArg (fun n => ([_, _] : List Value)[n]?) (Nat.zero_add jz)).trans hz) rfl ?_) | (refine wpList_build_run 23 (.agg #[.int .i64 0, .int .i64 0]) rfl rfl zeroQ ?_))
      exact bodyPost_ret (results_ct Try.results16 rfl ((hX.all _ _ _ List.mem_cons_self).loadVar rfl aggQ sizQ)) rfl ⟨rfl, hX.below⟩
    · have hd : decide (m < p) = true := decide_eq_true (by omega)
      cases hyes rfl hc
      clear hno hyes hc
      go_enter Try.func16, Try.ntmps16
      go_wp2_with (first | (go_at_call 11; (with_reducible refine (hs).mono ?_); rintro e w' ⟨rfl, hb⟩; replace hX := hX.step hb; clear hb) | (go_at_call 21; (with_reducible refine (hi _).mono ?_); rintro e w' ⟨rfl, hb⟩; replace hX := hX.step hb; clear hb) | ((with_reducible refine at_store ?_); refine wpList_bag_store (zs := [.int .i64 0, .int .i64 0]) hX aggQ sizQ _ _ rfl rfl rfl rfl rfl rfl rfl rfl (by intro u hu; simp at hu; rcases hu with rfl | rfl <;> rfl) ?_; clear hX; intro wz hX) | ((with_reducible refine at_store ?_); refine wpList_bag_over hX.swap aggQ sizQ _ _ rfl rfl rfl rfl rfl rfl rfl rfl (by intro u hu; simp at hu; rcases hu with rfl | rfl <;> rfl) ?_; clear hX; intro wz hX) | ((with_reducible refine at_load ?_); refine wpList_bag_part (k := 0) hX aggQ sizQ _ rfl rfl rfl rfl (by first | exact .head _ | exact .tail _ (.head _) | exact .tail _ (.tail _ (.head _))) (fun jz vz hz => (congrArg (fun n => ([_, _] : List Value)[n]?) (Nat.zero_add jz)).trans hz) rfl ?_) | (refine wpList_build_run 23 (.agg #[.int .i64 0, .int .i64 0]) rfl rfl zeroQ ?_))
      exact bodyPost_ret (results_ct Try.results16 rfl ((hX.all _ _ _ List.mem_cons_self).loadVar rfl aggQ sizQ)) rfl ⟨rfl, hX.below⟩
end Go.Proofs.Ytglneeeeogkljaa
