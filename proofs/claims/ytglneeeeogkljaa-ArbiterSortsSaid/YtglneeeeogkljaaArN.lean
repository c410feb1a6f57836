/-
  The law ArbiterOrder over the contracts of package arbiter. Condition: the contracts.
-/
import Derived.Test.YtglneeeeogkljaaArM
import Derived.Laws.AppendOwnNone
namespace Go.Proofs.Ytglneeeeogkljaa
open Go.RowKit
set_option linter.unusedSimpArgs false
set_option linter.unusedVariables false
set_option maxHeartbeats 4000000
set_option maxRecDepth 100000
attribute [local irreducible] wpQuiet
theorem ArbiterOrder_law (H : ArC) (v : Value) (l : List Rq) (W0 : World) (hv : Rqs W0 v l) : Calls Try.prog 6 #[v] W0 fun e w' => e = .returned (.bool true) ∧ Below W0.heap.size W0 w' := by
  have hal := alive_true H
  have hv0 := hv
  obtain ⟨A, c, rfl, _, _⟩ := hv
  by_cases h60 : 60 < l.length
  · have hX := Bag.nil W0
    have hgt : (60 : Int) < (l.length : Int) := by omega
    clear H
    go_enter Try.func6, Try.ntmps6
    go_wp2_with (first | (go_at_call 10; (with_reducible refine (hal _).mono ?_); rintro e w' ⟨rfl, hb⟩; replace hX := hX.step hb; clear hb))
    go_ret
    exact ⟨rfl, hX.below⟩
  have hle : ¬ (60 : Int) < (l.length : Int) := by omega
  have hl6 : l.length ≤ 60 := by omega
  have hsl := srt_le l
  have hS60 : (srt l).length ≤ 60 := by omega
  have h1 : ∀ v w, Rqs w v l → Calls Try.prog 14 #[v] w fun e w' => ∃ r, e = .returned r ∧ Rqs w' r (srt l) ∧ Below w.heap.size w w' := fun v w h => H.srt v l w hl6 h
  have h4 : ∀ v w, Rqs w v l.reverse → Calls Try.prog 14 #[v] w fun e w' => ∃ r, e = .returned r ∧ Rqs w' r (srt l) ∧ Below w.heap.size w w' := fun v w h => by
    have := H.srt v l.reverse w (by rw [List.length_reverse]; exact hl6) h
    rw [srt_reverse] at this; exact this
  have h6 : ∀ v w, Rqs w v (srt l) → Calls Try.prog 14 #[v] w fun e w' => ∃ r, e = .returned r ∧ Rqs w' r (srt l) ∧ Below w.heap.size w w' := fun v w h => by
    have := H.srt v (srt l) w hS60 h
    rw [srt_srt] at this; exact this
  have h2 : ∀ v w, Rqs w v l → Calls Try.prog 11 #[v] w fun e w' => e = .returned (.tuple #[.agg #[.int .i64 (bst l).1.1, .int .i64 (bst l).1.2], .bool (bst l).2]) ∧ Below w.heap.size w w' := fun v w h => H.bst v l w hl6 h
  have h3 : ∀ v w, Rqs w v l.reverse → Calls Try.prog 11 #[v] w fun e w' => e = .returned (.tuple #[.agg #[.int .i64 (bst l).1.1, .int .i64 (bst l).1.2], .bool (bst l).2]) ∧ Below w.heap.size w w' := fun v w h => by
    have := H.bst v l.reverse w (by rw [List.length_reverse]; exact hl6) h
    rw [show bst l.reverse = bst l from by unfold bst; rw [srt_reverse]] at this; exact this
  have h5 : ∀ r s w, Rqs w r (srt l) → Rqs w s (srt l) → Calls Try.prog 13 #[r, s] w fun e w' => e = .returned (.bool true) ∧ Below w.heap.size w w' := fun r s w hr hs => by
    have h := rSame_any r s (srt l) (srt l) (by omega) (by omega) w hr hs
    rw [decide_eq_true rfl] at h; exact h
  have h7 := H.val
  have hcnt : Hid (l.countP okQ = (srt l).length) := (srt_length l).symm
  have hSB : Hid ((srt l = [] ∧ bst l = ((0, 0), false)) ∨ ∃ q rest, srt l = q :: rest ∧ bst l = (q, true)) := by
    show _ ∨ _
    cases h : srt l with
    | nil => exact .inl ⟨rfl, bst_nil h⟩
    | cons q rest => exact .inr ⟨q, rest, rfl, bst_cons h⟩
  generalize bst l = B at *
  generalize srt l = S at *
  obtain ⟨⟨p, u⟩, ok⟩ := B
  clear H
  have hw0 : wrap64 ((l.length : Int) - 1) = (l.length : Int) - 1 := by unfold wrap64; omega
  go_enter Try.func6, Try.ntmps6
  go_wp2
  go_loopw [3, 4] (fun bv iv wr => ∃ (k : Nat) (M : List Rq), k ≤ l.length ∧ iv = .int .i64 ((k : Int) - 1) ∧ Hid (M = (l.drop k).reverse) ∧ M.length ≤ l.length - k ∧ wr.ownsRow W0.heap.size 23 2 bv M.length (flat M) ∧ Below W0.heap.size W0 wr) (fun _ iv _ => match iv with | .int _ q => (q + 1).toNat | _ => 0)
  case atStart => exact ⟨l.length, [], Nat.le_refl _, rfl, by show _ = _; rw [List.drop_length]; rfl, by simp, World.ownsRow_nil _ _ _ _, Below.refl _ _⟩
  case round =>
    obtain ⟨k, M, hk, rfl, hM, hMl, hown, hB⟩ := hrel
    by_cases hk0 : k = 0
    · subst hk0
      have hMr : M = l.reverse := by rw [show M = _ from hM]; rfl
      subst hMr
      clear hM hMl
      have hb0 : Rqs wr _ l.reverse := Rw.of_own hown
      clear hown
      have hvr : Rqs wr (.slice A l.length c) l := Rqs.below hv0 hB
      clear hv0
      go_wp2_with (first
        | (go_at_call 14; first
            | ((with_reducible refine (h1 _ _ hvr).mono ?_); rintro e W1 ⟨r, rfl, hr, hb⟩; have hX := Bag.nil W1; have hv1 := Rqs.below hvr hb; have hb1 := Rqs.below hb0 hb; replace hB := hB.trans (hb.mono hB.size); clear hb hvr hb0)
            | ((with_reducible refine (h4 _ _ (Rqs.below hb1 hX.below)).mono ?_); rintro e w' ⟨s, rfl, hs, hb⟩; replace hX := hX.step hb; clear hb)
            | ((with_reducible refine (h6 _ _ (Rqs.below hr hX.below)).mono ?_); rintro e w' ⟨s, rfl, hs, hb⟩; replace hX := hX.step hb; clear hb))
        | (go_at_call 11; first
            | ((with_reducible refine (h2 _ _ (Rqs.below hv1 hX.below)).mono ?_); rintro e wA ⟨rfl, hb⟩; replace hX := hX.step hb; clear hb)
            | ((with_reducible refine (h3 _ _ (Rqs.below hb1 hX.below)).mono ?_); rintro e w' ⟨rfl, hb⟩; replace hX := hX.step hb; clear hb))
        | (go_at_call 13; (with_reducible refine (h5 _ _ _ (Rqs.below hr hX.below) hs).mono ?_); rintro e w' ⟨rfl, hb⟩; replace hX := hX.step hb; clear hb hs)
        | ((with_reducible refine at_store ?_); refine wpList_bag_store (zs := [.int .i64 0, .int .i64 0]) hX aggQ sizQ _ _ rfl rfl rfl rfl rfl rfl rfl rfl (by intro u hu; simp at hu; rcases hu with rfl | rfl <;> rfl) ?_; clear hX; intro wz hX) | ((with_reducible refine at_load ?_); refine wpList_bag_part (k := 0) hX aggQ sizQ _ rfl rfl rfl rfl (by first | exact .head _ | exact .tail _ (.head _) | exact .tail _ (.tail _ (.head _)) | exact .tail _ (.tail _ (.tail _ (.head _)))) (fun jz vz hz => (congrArg (fun n => ([_, _] : List Value)[n]?) (Nat.zero_add jz)).trans hz) rfl ?_))
      clear h1 h2 h3 h4 h5 h6 hb1
      go_loopw [10, 11] (fun nv iv wi => ∃ k : Nat, k ≤ l.length ∧ nv = .int .i64 (((l.take k).countP okQ : Nat) : Int) ∧ iv = .int .i64 k ∧ Bag [(wA.heap.size, 23, [.int .i64 p, .int .i64 u])] W1 wi) (fun _ iv _ => match iv with | .int _ q => l.length - q.toNat | _ => 0)
      case atStart => exact ⟨0, Nat.zero_le _, rfl, rfl, hX.rest⟩
      case round =>
        clear hX
        obtain ⟨k, hk, rfl, rfl, hX⟩ := hrel
        have hcl : (l.take k).countP okQ ≤ k := Nat.le_trans List.countP_le_length (by rw [List.length_take]; omega)
        by_cases hkl : k < l.length
        · have hx := List.getElem?_eq_getElem hkl
          generalize l[k] = x at *
          have hvv := hv1
          obtain ⟨A', c', hAv, _, hc⟩ := hv1
          obtain ⟨a, rfl, _⟩ := hc (k * 2) (.int .i64 x.1) (flat_get hx 0 _ rfl)
          cases hAv
          have hLx : ∀ w', Below W1.heap.size W1 w' → (Instr.loadAt 23 (.pointer (some (a.add (k * 2))))).run Try.prog w' = .ok (.agg #[.int .i64 x.1, .int .i64 x.2]) w' := fun w' h => Rqs.load (Rw.below hvv h) rfl hx
          have hva := h7 x
          have hct : Hid ((l.take (k + 1)).countP okQ = (l.take k).countP okQ + if okQ x = true then 1 else 0) := by
            show _ = _
            rw [take_snoc hx, List.countP_append, List.countP_singleton]
          clear hx hc hvv h7 hal hSB
          generalize (l.take k).countP okQ = N at *
          cases hok : okQ x
          · rw [hok] at hva hct
            go_wp2_with (first | ((with_reducible refine at_load ?_); refine wpList_loadW rfl 23 _ _ _ rfl rfl (hLx _ hX.below) ?_) | (go_at_call 8; (with_reducible refine (hva _).mono ?_); rintro e w' ⟨rfl, hb⟩; replace hX := hX.step hb; clear hb))
            exact ⟨⟨k + 1, by omega, by rw [show (l.take (k + 1)).countP okQ = _ from hct]; go_num, by go_num, hX⟩, by simp only; omega⟩
          · rw [hok] at hva hct
            go_wp2_with (first | ((with_reducible refine at_load ?_); refine wpList_loadW rfl 23 _ _ _ rfl rfl (hLx _ hX.below) ?_) | (go_at_call 8; (with_reducible refine (hva _).mono ?_); rintro e w' ⟨rfl, hb⟩; replace hX := hX.step hb; clear hb))
            exact ⟨⟨k + 1, by omega, by rw [show (l.take (k + 1)).countP okQ = _ from hct]; go_num, by go_num, hX⟩, by simp only; omega⟩
        · have hkn : k = l.length := by omega
          subst hkn
          have hn : (l.take l.length).countP okQ = S.length := by rw [List.take_length]; exact hcnt
          rw [hn]
          clear hn hcnt hcl hv1 h7
          rcases hSB with ⟨rfl, hBq⟩ | ⟨q, rest, rfl, hBq⟩
          · cases hBq
            obtain ⟨Ar, cr, rfl, _, _⟩ := hr
            go_wp2
            refine region_class (fun w' => Bag [(wA.heap.size, 23, [.int .i64 0, .int .i64 0])] W1 w') (by kernel_rfl) (by kernel_rfl) hX.drew ?_
            repeat
              first
                | (refine BigFrame.wpQuiet_skip (by rfl) ?_
                   simp only [Act.put, List.setIfInBounds_toArray, List.set_cons_zero, List.set_cons_succ])
                | (refine BigFrame.wpQuiet_want (by rfl) (fun K hK => ?_)
                   apply Exists.intro
                   refine ⟨fun wq hq => ?_, hK _ ?_⟩
                   · first
                       | (refine quiet_load 23 _ _ _ rfl rfl ((hq.all _ _ _ (.head _)).loadAt rfl aggQ sizQ))
                       | (unfold Oper.quietAt
                          go_simp
                          first
                            | with_reducible rfl
                            | ((go_at_call 10); with_reducible refine (hal _).mono ?_; exact fun e w' ⟨he, hb⟩ => ⟨he, hq.step hb⟩)
                         )
                   clear hK K
                   simp only [Act.put, List.setIfInBounds_toArray, List.set_cons_zero, List.set_cons_succ])
            refine wpQuiet_nil ?_
            intro w4 hX
            go_wp2
            go_ret
            exact ⟨rfl, hB.trans (hX.below.mono hB.size)⟩
          · cases hBq
            have hrr := hr
            obtain ⟨Ar, cr, rfl, _, hcr⟩ := hr
            obtain ⟨ad, rfl, _⟩ := hcr (0 * 2) (.int .i64 p) (flat_get (l := (p, u) :: rest) (k := 0) rfl 0 _ rfl)
            have hLs : ∀ w', Below W1.heap.size W1 w' → (Instr.loadAt 23 (.pointer (some (ad.add (0 * 2))))).run Try.prog w' = .ok (.agg #[.int .i64 p, .int .i64 u]) w' := fun w' h => Rqs.load (k := 0) (q := (p, u)) (Rw.below hrr h) rfl rfl
            clear hrr hcr
            have hN0 : 0 < (((p, u) :: rest : List Rq).length) := Nat.succ_pos _
            generalize (((p, u) :: rest : List Rq).length) = N at *
            have hN1 : (0 : Int) < (N : Int) := by omega
            have hN2 : ((N : Int) == 0) = false := by simp; omega
            have hN3 : decide ((0 : Int) < (N : Int)) = true := decide_eq_true hN1
            go_wp2
            refine region_class (fun w' => Bag [(wA.heap.size, 23, [.int .i64 p, .int .i64 u])] W1 w') (by kernel_rfl) (by kernel_rfl) hX.drew ?_
            repeat
              first
                | (refine BigFrame.wpQuiet_skip (by rfl) ?_
                   simp only [Act.put, List.setIfInBounds_toArray, List.set_cons_zero, List.set_cons_succ])
                | (refine BigFrame.wpQuiet_want (by rfl) (fun K hK => ?_)
                   apply Exists.intro
                   refine ⟨fun wq hq => ?_, hK _ ?_⟩
                   · first
                       | (refine quiet_load 23 _ _ _ rfl rfl ((hq.all _ _ _ (.head _)).loadAt rfl aggQ sizQ))
                       | (refine quiet_load 23 _ _ _ rfl rfl (hLs _ hq.below))
                       | (unfold Oper.quietAt
                          go_simp
                          first
                            | with_reducible rfl
                            | ((go_at_call 10); with_reducible refine (hal _).mono ?_; exact fun e w' ⟨he, hb⟩ => ⟨he, hq.step hb⟩)
                         )
                   clear hK K
                   simp only [Act.put, List.setIfInBounds_toArray, List.set_cons_zero, List.set_cons_succ])
            refine wpQuiet_nil ?_
            intro w4 hX
            go_wp2
            go_ret
            exact ⟨rfl, hB.trans (hX.below.mono hB.size)⟩
    · obtain ⟨j, rfl⟩ : ∃ j, k = j + 1 := ⟨k - 1, by omega⟩
      have hx := List.getElem?_eq_getElem (show j < l.length by omega)
      generalize l[j] = x at *
      have hj0 : (((j + 1 : Nat) : Int) - 1) = (j : Int) := by omega
      rw [hj0]
      have hjl : j < l.length := by omega
      have hvv := hv0
      obtain ⟨A', c', hAv, _, hc⟩ := hv0
      obtain ⟨a, rfl, _⟩ := hc (j * 2) (.int .i64 x.1) (flat_get hx 0 _ rfl)
      cases hAv
      have hLx : ∀ w', Below W0.heap.size W0 w' → (Instr.loadAt 23 (.pointer (some (a.add (j * 2))))).run Try.prog w' = .ok (.agg #[.int .i64 x.1, .int .i64 x.2]) w' := fun w' h => Rqs.load (Rw.below hvv h) rfl hx
      have hM2 : Hid (M ++ [x] = (l.drop j).reverse) := by
        show _ = _
        rw [show M = _ from hM, List.drop_eq_getElem_cons hjl, (List.getElem?_eq_some_iff.1 hx).2, List.reverse_cons]
      have hwj : wrap64 ((j : Int) - 1) = (j : Int) - 1 := by unfold wrap64; omega
      clear hx hM hc hvv hal h1 h2 h3 h4 h5 h6 h7
      go_wp2_with (first | ((with_reducible refine at_load ?_); refine wpList_loadW rfl 23 _ _ _ rfl rfl (hLx _ hB) ?_) | (at_builtin; refine wpList_appQ rfl (.tmp 23) (.tmp 28) rfl W0.heap.size _ _ _ rfl (World.ownsRow.alloc hown _) ⟨wr.heap.size, 0, none⟩ 1 1 [.int .i64 x.1, .int .i64 x.2] rfl rfl (cells_two_new _ _ _ _) (flat_one [x]) (by omega) (by have := hB.size; simp <;> omega) ?_; intro v2 w2 ho2 hbN _; replace hB := (hB.alloc hB.size _).trans hbN))
      have ho3 : w2.ownsRow W0.heap.size 23 2 v2 (M ++ [x]).length (flat (M ++ [x])) := by
        rw [List.length_append, flat_append]; exact ho2
      exact ⟨⟨j, M ++ [x], by omega, by go_num, hM2, by rw [List.length_append, List.length_singleton]; omega, ho3, hB⟩, by simp only; omega⟩
end Go.Proofs.Ytglneeeeogkljaa
