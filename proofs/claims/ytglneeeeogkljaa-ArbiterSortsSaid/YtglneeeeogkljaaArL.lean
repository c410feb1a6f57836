/-
  The contracts of package arbiter; alive and laws over them. Condition: at most 2^40 requests.
-/
import Derived.Test.YtglneeeeogkljaaArF
namespace Go.Proofs.Ytglneeeeogkljaa
open Go.RowKit
set_option linter.unusedSimpArgs false
set_option linter.unusedVariables false
set_option maxHeartbeats 4000000
set_option maxRecDepth 100000
attribute [local irreducible] wpQuiet

/-- The contracts of package arbiter. -/
structure ArC : Prop where
  val : ∀ (q : Rq) (w : World), Calls Try.prog 8 #[.agg #[.int .i64 q.1, .int .i64 q.2]] w fun e w' => e = .returned (.bool (okQ q)) ∧ Below w.heap.size w w'
  srt : ∀ (v : Value) (l : List Rq) (w : World), l.length ≤ 60 → Rqs w v l → Calls Try.prog 14 #[v] w fun e w' => ∃ r, e = .returned r ∧ Rqs w' r (srt l) ∧ Below w.heap.size w w'
  bst : ∀ (v : Value) (l : List Rq) (w : World), l.length ≤ 60 → Rqs w v l → Calls Try.prog 11 #[v] w fun e w' => e = .returned (.tuple #[.agg #[.int .i64 (bst l).1.1, .int .i64 (bst l).1.2], .bool (bst l).2]) ∧ Below w.heap.size w w'
  grt : ∀ (v : Value) (l : List Rq) (n : Int) (w : World), l.length ≤ 60 → Rqs w v l → Calls Try.prog 16 #[v, .int .i64 n] w fun e w' => e = .returned (.tuple #[.agg #[.int .i64 (grt l (pr n)).1.1, .int .i64 (grt l (pr n)).1.2], .bool (grt l (pr n)).2]) ∧ Below w.heap.size w w'
theorem alive_true (H : ArC) (W0 : World) : Calls Try.prog 10 #[] W0 fun e w' => e = .returned (.bool true) ∧ Below W0.heap.size W0 w' := by
  have hX := (Bag.nil W0).new 23 [.int .i64 5, .int .i64 164, .int .i64 5, .int .i64 160, .int .i64 4, .int .i64 128, .int .i64 9, .int .i64 64]
  have hR : ∀ l w, (W0.heap.size, 23, [.int .i64 5, .int .i64 164, .int .i64 5, .int .i64 160, .int .i64 4, .int .i64 128, .int .i64 9, .int .i64 64]) ∈ l → Bag l W0 w → Rqs w (.slice (some ⟨W0.heap.size, 0, none⟩) 4 4) [(5, 164), (5, 160), (4, 128), (9, 64)] := fun l w hm hX => blk_rqs (hX.all _ _ _ hm) rfl
  have e1 : grt [(5, 164), (5, 160), (4, 128), (9, 64)] (pr 128) = ((5, 160), true) := by decide
  have e2 : grt [(5, 164), (5, 160), (4, 128), (9, 64)] (pr 160) = ((0, 0), false) := by decide
  have e3 : srt [(5, 164), (5, 160), (4, 128), (9, 64)] = [(5, 160), (5, 164), (4, 128)] := by decide
  have h1 : ∀ l w, (W0.heap.size, 23, [.int .i64 5, .int .i64 164, .int .i64 5, .int .i64 160, .int .i64 4, .int .i64 128, .int .i64 9, .int .i64 64]) ∈ l → Bag l W0 w → Calls Try.prog 16 #[.slice (some ⟨W0.heap.size, 0, none⟩) 4 4, .int .i64 128] w fun e w' => e = .returned (.tuple #[.agg #[.int .i64 5, .int .i64 160], .bool true]) ∧ Below w.heap.size w w' := fun l w hm hX => by
    have h := H.grt _ _ 128 w (by decide) (hR l w hm hX)
    rw [e1] at h; exact h
  have h2 : ∀ l w, (W0.heap.size, 23, [.int .i64 5, .int .i64 164, .int .i64 5, .int .i64 160, .int .i64 4, .int .i64 128, .int .i64 9, .int .i64 64]) ∈ l → Bag l W0 w → Calls Try.prog 16 #[.slice (some ⟨W0.heap.size, 0, none⟩) 4 4, .int .i64 160] w fun e w' => e = .returned (.tuple #[.agg #[.int .i64 0, .int .i64 0], .bool false]) ∧ Below w.heap.size w w' := fun l w hm hX => by
    have h := H.grt _ _ 160 w (by decide) (hR l w hm hX)
    rw [e2] at h; exact h
  have h3 : ∀ l w, (W0.heap.size, 23, [.int .i64 5, .int .i64 164, .int .i64 5, .int .i64 160, .int .i64 4, .int .i64 128, .int .i64 9, .int .i64 64]) ∈ l → Bag l W0 w → Calls Try.prog 14 #[.slice (some ⟨W0.heap.size, 0, none⟩) 4 4] w fun e w' => ∃ r, e = .returned r ∧ Rqs w' r [(5, 160), (5, 164), (4, 128)] ∧ Below w.heap.size w w' := fun l w hm hX => by
    have h := H.srt _ _ w (by decide) (hR l w hm hX)
    rw [e3] at h; exact h
  have h4 : ∀ r w, Rqs w r [(5, 160), (5, 164), (4, 128)] → Calls Try.prog 13 #[r, .slice (some ⟨w.heap.size, 0, none⟩) 3 3] (w.alloc (.cells #[.int .i64 5, .int .i64 160, .int .i64 5, .int .i64 164, .int .i64 4, .int .i64 128] 23)) fun e w' => e = .returned (.bool true) ∧ Below (w.alloc (.cells #[.int .i64 5, .int .i64 160, .int .i64 5, .int .i64 164, .int .i64 4, .int .i64 128] 23)).heap.size (w.alloc (.cells #[.int .i64 5, .int .i64 160, .int .i64 5, .int .i64 164, .int .i64 4, .int .i64 128] 23)) w' := fun r w hr => by
    have h := rSame_any r _ [(5, 160), (5, 164), (4, 128)] [(5, 160), (5, 164), (4, 128)] (by decide) (by decide) _ (Rw.alloc hr _) (rqs_new w [(5, 160), (5, 164), (4, 128)] 3 rfl)
    rw [decide_eq_true rfl] at h; exact h
  clear H hR e1 e2 e3
  go_enter Try.func10, Try.ntmps10
  go_wp2_with (first
    | (go_at_call 16; first | ((with_reducible refine (h1 _ _ (by first | exact List.mem_cons_self | exact List.mem_cons_of_mem _ List.mem_cons_self | exact List.mem_cons_of_mem _ (List.mem_cons_of_mem _ List.mem_cons_self)) hX).mono ?_); rintro e w' ⟨rfl, hb⟩; replace hX := hX.step hb; clear hb) | ((with_reducible refine (h2 _ _ (by first | exact List.mem_cons_self | exact List.mem_cons_of_mem _ List.mem_cons_self | exact List.mem_cons_of_mem _ (List.mem_cons_of_mem _ List.mem_cons_self)) hX).mono ?_); rintro e w' ⟨rfl, hb⟩; replace hX := hX.step hb; clear hb))
    | (go_at_call 14; (with_reducible refine (h3 _ _ (by first | exact List.mem_cons_self | exact List.mem_cons_of_mem _ List.mem_cons_self | exact List.mem_cons_of_mem _ (List.mem_cons_of_mem _ List.mem_cons_self)) hX).mono ?_); rintro e w' ⟨r, rfl, hr, hb⟩; replace hX := hX.step hb; clear hb)
    | (go_at_call 13; (with_reducible refine (h4 _ _ hr).mono ?_); rintro e w' ⟨rfl, hb⟩; replace hX := (hX.new 23 [.int .i64 5, .int .i64 160, .int .i64 5, .int .i64 164, .int .i64 4, .int .i64 128]).step hb; clear hb hr)
    | ((with_reducible refine at_store ?_); refine wpList_bag_store (zs := [.int .i64 0, .int .i64 0]) hX aggQ sizQ _ _ rfl rfl rfl rfl rfl rfl rfl rfl (by intro u hu; simp at hu; rcases hu with rfl | rfl <;> rfl) ?_; clear hX; intro wz hX) | ((with_reducible refine at_load ?_); refine wpList_bag_cell hX int_cell _ rfl rfl rfl rfl (by first | exact .head _ | exact .tail _ (.head _) | exact .tail _ (.tail _ (.head _)) | exact .tail _ (.tail _ (.tail _ (.head _)))) (by first | assumption | rfl) ?_))
  go_ret
  exact ⟨rfl, hX.below⟩

theorem srt_le (l : List Rq) : (srt l).length ≤ l.length := by rw [srt_length]; exact List.countP_le_length
theorem ArbiterValid_law (H : ArC) (q : Rq) (W0 : World) : Calls Try.prog 3 #[.agg #[.int .i64 q.1, .int .i64 q.2]] W0 fun e w' => e = .returned (.bool true) ∧ Below W0.heap.size W0 w' := by
  have hal := alive_true H
  have h1 := H.val q
  have h2 := rValid_any q
  generalize okQ q = r at *
  have hX := (Bag.nil W0).new 23 [.int .i64 q.1, .int .i64 q.2]
  clear H
  go_enter Try.func3, Try.ntmps3
  go_wp2_with (first | ((with_reducible refine at_load ?_); refine wpList_bag_part (k := 0) hX aggQ sizQ _ rfl rfl rfl rfl (by first | exact .head _ | exact .tail _ (.head _) | exact .tail _ (.tail _ (.head _)) | exact .tail _ (.tail _ (.tail _ (.head _)))) (fun jz vz hz => (congrArg (fun n => ([_, _] : List Value)[n]?) (Nat.zero_add jz)).trans hz) rfl ?_))
  refine region_class (fun w' => Bag [(W0.heap.size, 23, [.int .i64 q.1, .int .i64 q.2])] W0 w') (by kernel_rfl) (by kernel_rfl) hX.drew ?_
  repeat
    first
      | (refine BigFrame.wpQuiet_skip (by rfl) ?_
         simp only [Act.put, List.setIfInBounds_toArray, List.set_cons_zero, List.set_cons_succ])
      | (refine BigFrame.wpQuiet_want (by rfl) (fun K hK => ?_)
         apply Exists.intro
         refine ⟨fun wq hq => ?_, hK _ ?_⟩
         · first
             | (refine quiet_load 23 _ _ _ rfl rfl ((hq.all _ _ _ (.head _)).loadAt rfl aggQ sizQ))
             | (unfold Oper.quietAt
                go_simp
                first
                  | with_reducible rfl
                  | ((go_at_call 8); with_reducible refine (h1 _).mono ?_; exact fun e w' ⟨he, hb⟩ => ⟨he, hq.step hb⟩)
                  | ((go_at_call 9); with_reducible refine (h2 _).mono ?_; exact fun e w' ⟨he, hb⟩ => ⟨he, hq.step hb⟩)
                  | ((go_at_call 10); with_reducible refine (hal _).mono ?_; exact fun e w' ⟨he, hb⟩ => ⟨he, hq.step hb⟩)
               )
         clear hK K
         simp only [Act.put, List.setIfInBounds_toArray, List.set_cons_zero, List.set_cons_succ])
  refine wpQuiet_nil ?_
  intro w4 hX
  go_wp2
  go_ret
  exact ⟨rfl, hX.below⟩
theorem ArbiterSorts_law (H : ArC) (v : Value) (l : List Rq) (W0 : World) (hv : Rqs W0 v l) : Calls Try.prog 4 #[v] W0 fun e w' => e = .returned (.bool true) ∧ Below W0.heap.size W0 w' := by
  have hal := alive_true H
  have hv0 := hv
  obtain ⟨A, c, rfl, _, _⟩ := hv
  by_cases h60 : 60 < l.length
  · have hX := Bag.nil W0
    have hgt : (60 : Int) < (l.length : Int) := by omega
    clear H
    go_enter Try.func4, Try.ntmps4
    go_wp2_with (first | (go_at_call 10; (with_reducible refine (hal _).mono ?_); rintro e w' ⟨rfl, hb⟩; replace hX := hX.step hb; clear hb))
    go_ret
    exact ⟨rfl, hX.below⟩
  have hle : ¬ (60 : Int) < (l.length : Int) := by omega
  have hl6 : l.length ≤ 60 := by omega
  have hsl := srt_le l
  have h1 := fun l' w (hX : Bag l' W0 w) => H.bst _ l w hl6 (Rw.below hv0 hX.below)
  have h2 := fun l' w (hX : Bag l' W0 w) => rBest_any _ l (by omega) w (Rw.below hv0 hX.below)
  have h3 := fun l' w (hX : Bag l' W0 w) => H.srt _ l w hl6 (Rw.below hv0 hX.below)
  have h4 : ∀ l' w, Bag l' W0 w → Calls Try.prog 15 #[.slice A l.length c] w fun e w' => ∃ r, e = .returned r ∧ Rqs w' r (srt l) ∧ Below w.heap.size w w' := fun l' w hX => (rSort_any _ l (by omega) w (Rw.below hv0 hX.below)).mono fun e w' ⟨r, he, ho, hb⟩ => ⟨r, he, Rw.of_own ho, hb⟩
  have h5 : ∀ l' w (hX : Bag l' W0 w) r s, Rqs w r (srt l) → Rqs w s (srt l) → Calls Try.prog 13 #[r, s] w fun e w' => e = .returned (.bool true) ∧ Below w.heap.size w w' := fun l' w hX r s hr hs => by
    have h := rSame_any r s (srt l) (srt l) (by omega) (by omega) w hr hs
    rw [decide_eq_true rfl] at h; exact h
  generalize bst l = B at *
  generalize srt l = S at *
  obtain ⟨⟨p, u⟩, ok⟩ := B
  have hX := Bag.nil W0
  clear H hsl
  go_enter Try.func4, Try.ntmps4
  go_wp2_with (first | (go_at_call 11; (with_reducible refine (h1 _ _ hX).mono ?_); rintro e w' ⟨rfl, hb⟩; replace hX := hX.step hb; clear hb) | (go_at_call 12; (with_reducible refine (h2 _ _ hX).mono ?_); rintro e w' ⟨rfl, hb⟩; replace hX := hX.step hb; clear hb) | (go_at_call 14; (with_reducible refine (h3 _ _ hX).mono ?_); rintro e w' ⟨r, rfl, hr, hb⟩; replace hX := hX.step hb; clear hb) | (go_at_call 15; (with_reducible refine (h4 _ _ hX).mono ?_); rintro e w' ⟨s, rfl, hs, hb⟩; replace hX := hX.step hb; replace hr := Rqs.below hr hb; clear hb) | (go_at_call 13; (with_reducible refine (h5 _ _ hX _ _ hr hs).mono ?_); rintro e w' ⟨rfl, hb⟩; replace hX := hX.step hb; clear hb) | (go_at_call 10; (with_reducible refine (hal _).mono ?_); rintro e w' ⟨rfl, hb⟩; replace hX := hX.step hb; clear hb) | ((with_reducible refine at_store ?_); refine wpList_bag_store (zs := [.int .i64 0, .int .i64 0]) hX aggQ sizQ _ _ rfl rfl rfl rfl rfl rfl rfl rfl (by intro u hu; simp at hu; rcases hu with rfl | rfl <;> rfl) ?_; clear hX; intro wz hX) | ((with_reducible refine at_load ?_); refine wpList_bag_part (k := 0) hX aggQ sizQ _ rfl rfl rfl rfl (by first | exact .head _ | exact .tail _ (.head _) | exact .tail _ (.tail _ (.head _)) | exact .tail _ (.tail _ (.tail _ (.head _)))) (fun jz vz hz => (congrArg (fun n => ([_, _] : List Value)[n]?) (Nat.zero_add jz)).trans hz) rfl ?_))
  go_ret
  exact ⟨rfl, hX.below⟩
theorem ArbiterGrants_law (H : ArC) (v : Value) (l : List Rq) (n : Int) (W0 : World) (hv : Rqs W0 v l) : Calls Try.prog 5 #[v, .int .i64 n] W0 fun e w' => e = .returned (.bool true) ∧ Below W0.heap.size W0 w' := by
  have hal := alive_true H
  have hv0 := hv
  obtain ⟨A, c, rfl, _, _⟩ := hv
  by_cases h60 : 60 < l.length
  · have hX := Bag.nil W0
    have hgt : (60 : Int) < (l.length : Int) := by omega
    clear H
    go_enter Try.func5, Try.ntmps5
    go_wp2_with (first | (go_at_call 10; (with_reducible refine (hal _).mono ?_); rintro e w' ⟨rfl, hb⟩; replace hX := hX.step hb; clear hb))
    go_ret
    exact ⟨rfl, hX.below⟩
  have hle : ¬ (60 : Int) < (l.length : Int) := by omega
  have hl6 : l.length ≤ 60 := by omega
  have h1 := fun l' w (hX : Bag l' W0 w) => H.grt _ l n w hl6 (Rw.below hv0 hX.below)
  have h2 := fun l' w (hX : Bag l' W0 w) => rGrant_any _ l n (by omega) w (Rw.below hv0 hX.below)
  generalize grt l (pr n) = B at *
  obtain ⟨⟨p, u⟩, ok⟩ := B
  have hX := Bag.nil W0
  clear H
  go_enter Try.func5, Try.ntmps5
  go_wp2_with (first | (go_at_call 16; (with_reducible refine (h1 _ _ hX).mono ?_); rintro e w' ⟨rfl, hb⟩; replace hX := hX.step hb; clear hb) | (go_at_call 17; (with_reducible refine (h2 _ _ hX).mono ?_); rintro e w' ⟨rfl, hb⟩; replace hX := hX.step hb; clear hb) | (go_at_call 10; (with_reducible refine (hal _).mono ?_); rintro e w' ⟨rfl, hb⟩; replace hX := hX.step hb; clear hb) | ((with_reducible refine at_store ?_); refine wpList_bag_store (zs := [.int .i64 0, .int .i64 0]) hX aggQ sizQ _ _ rfl rfl rfl rfl rfl rfl rfl rfl (by intro u hu; simp at hu; rcases hu with rfl | rfl <;> rfl) ?_; clear hX; intro wz hX) | ((with_reducible refine at_load ?_); refine wpList_bag_part (k := 0) hX aggQ sizQ _ rfl rfl rfl rfl (by first | exact .head _ | exact .tail _ (.head _) | exact .tail _ (.tail _ (.head _)) | exact .tail _ (.tail _ (.tail _ (.head _)))) (fun jz vz hz => (congrArg (fun n => ([_, _] : List Value)[n]?) (Nat.zero_add jz)).trans hz) rfl ?_))
  go_ret
  exact ⟨rfl, hX.below⟩
end Go.Proofs.Ytglneeeeogkljaa
