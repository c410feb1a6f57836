/-
  Walk over the operation of a form. Condition: the tables read as the program's text lays them; the word without its fields, less the form's word, is small.
-/
import Derived.Test.YtdbbnkjnmldnpaaGreatDoorInC
namespace Go.Proofs.YtdbbnkjnmldnpaaGreatDoor
open Go.RowKit
set_option linter.unusedSimpArgs false
set_option linter.unusedVariables false
set_option maxHeartbeats 40000000
set_option maxRecDepth 100000
attribute [local irreducible] wpQuiet

theorem operation_any (f l d a e0 e1 e2 e3 e4 e5 : Int) (w t : Int) (ha : a = 12 ∨ a = 15 ∨ a = 9 ∨ a = 6 ∨ a = 8 ∨ a = 4 ∨ a = 0) (hf : 0 ≤ f ∧ f ≤ 64) (ht : bits .andNot .i64 w (bitsR e0 e1 e2 e3 e4) - d = t) (hb : -65536 ≤ t ∧ t ≤ 65536) {A : Addr} {c : Nat} (W0 : World) (W : Frm A c W0) :
    Calls Tryz.prog 77 #[.agg #[.int .i64 f, .int .i64 l, .int .i64 d, .int .i64 a, .int .i64 e0, .int .i64 e1, .int .i64 e2, .int .i64 e3, .int .i64 e4, .int .i64 e5], .int .i64 w] W0 fun e w' => e = .returned (.tuple #[.int .i64 (opR f a t), .bool (hitR f l a t)]) ∧ Below W0.heap.size W0 w' := by
  have hX := (St.start W).put [.int .i64 f, .int .i64 l, .int .i64 d, .int .i64 a, .int .i64 e0, .int .i64 e1, .int .i64 e2, .int .i64 e3, .int .i64 e4, .int .i64 e5] 69
  have hB := fun w => bits_any e0 e1 e2 e3 e4 e5 w
  generalize bitsR e0 e1 e2 e3 e4 = X at *
  obtain ⟨hb1, hb2⟩ := hb
  obtain ⟨hf1, hf2⟩ := hf
  have V : IntKind.i64.wrap (bits .andNot .i64 w X - d) = t := by rw [ht, wrap_i64]; exact IntWalk.wrap64_in _ ⟨by omega, by omega⟩
  clear ht
  rcases ha with rfl | rfl | rfl | rfl | rfl | rfl | rfl
  · have P : pwR 12 = 4096 := by decide
    have K : okR 12 t = (decide (0 ≤ t) && decide (t % 4096 = 0)) := by unfold okR; rw [P]
    have A1 : bits .and .i64 t 4095 = t % 4096 := a4095 t
    by_cases h0 : t < 0
    · have k : okR 12 t = false := by rw [K, decide_eq_false (by omega)]; rfl
      have e1 : opR f 12 t = 0 := if_neg (by rw [k]; decide)
      have e2 : hitR f l 12 t = false := by unfold hitR; rw [k]; rfl
      rw [e1, e2]
      clear e1 e2 k K P
      go_enter Tryz.func77, Tryz.ntmps77
      go_wp2_with fail
      obtain ⟨c0, c1, c2, c3, c4, c5, c6, c7, c8, c9⟩ := hX.ten 0 rfl
      generalize W0.alloc (.cells #[.int .i64 f, .int .i64 l, .int .i64 d, .int .i64 12, .int .i64 e0, .int .i64 e1, .int .i64 e2, .int .i64 e3, .int .i64 e4, .int .i64 e5] 69) = w1 at *
      generalize hBB : W0.heap.size = B at hX c0 c1 c2 c3 c4 c5 c6 c7 c8 c9 ⊢
      refine region_class (fun w' => St A c [(B, [.int .i64 f, .int .i64 l, .int .i64 d, .int .i64 12, .int .i64 e0, .int .i64 e1, .int .i64 e2, .int .i64 e3, .int .i64 e4, .int .i64 e5])] W0 w') (by kernel_rfl) (by kernel_rfl) hX.drew ?_
      clear hX c0 c1 c2 c3 c4 c5 c6 c7 c8 c9
      repeat
        first
          | (refine BigFrame.wpQuiet_skip (by rfl) ?_
             simp only [Act.put, List.setIfInBounds_toArray, List.set_cons_zero, List.set_cons_succ])
          | (refine BigFrame.wpQuiet_want (by rfl) (fun K hK => ?_)
             apply Exists.intro
             refine ⟨fun wq hq => ?_, hK _ ?_⟩
             · obtain ⟨c0, c1, c2, c3, c4, c5, c6, c7, c8, c9⟩ := hq.ten 0 rfl
               unfold Oper.quietAt
               go_simp
               first
                 | with_reducible rfl
                 | ((go_at_call 89); with_reducible refine (hB _).mono ?_; exact fun e w' ⟨he, hb⟩ => ⟨he, hq.step hb⟩)
             clear hK K
             simp only [Act.put, List.setIfInBounds_toArray, List.set_cons_zero, List.set_cons_succ])
      refine wpQuiet_nil ?_
      intro w4 hX
      obtain ⟨c0, c1, c2, c3, c4, c5, c6, c7, c8, c9⟩ := hX.ten 0 rfl
      go_wp2_with fail
      go_ret2
      exact ⟨rfl, by first | exact hX.below | exact hBB ▸ hX.below⟩
    · by_cases h1 : t % 4096 = 0
      · have k : okR 12 t = true := by rw [K, decide_eq_true (show 0 ≤ t by omega), decide_eq_true h1]; rfl
        have e1 : opR f 12 t = f + t / 4096 := (if_pos k).trans (by rw [P])
        have e2 : hitR f l 12 t = decide (f + t / 4096 ≤ l) := by unfold hitR; rw [k, P]; rfl
        rw [e1, e2]
        rw [h1] at A1
        clear e1 e2 k K P
        have V2 : IntKind.i64.wrap (f + t / 4096) = f + t / 4096 := by rw [wrap_i64]; exact IntWalk.wrap64_in _ ⟨by omega, by omega⟩
        go_enter Tryz.func77, Tryz.ntmps77
        go_wp2_with fail
        obtain ⟨c0, c1, c2, c3, c4, c5, c6, c7, c8, c9⟩ := hX.ten 0 rfl
        generalize W0.alloc (.cells #[.int .i64 f, .int .i64 l, .int .i64 d, .int .i64 12, .int .i64 e0, .int .i64 e1, .int .i64 e2, .int .i64 e3, .int .i64 e4, .int .i64 e5] 69) = w1 at *
        generalize hBB : W0.heap.size = B at hX c0 c1 c2 c3 c4 c5 c6 c7 c8 c9 ⊢
        refine region_class (fun w' => St A c [(B, [.int .i64 f, .int .i64 l, .int .i64 d, .int .i64 12, .int .i64 e0, .int .i64 e1, .int .i64 e2, .int .i64 e3, .int .i64 e4, .int .i64 e5])] W0 w') (by kernel_rfl) (by kernel_rfl) hX.drew ?_
        clear hX c0 c1 c2 c3 c4 c5 c6 c7 c8 c9
        repeat
          first
            | (refine BigFrame.wpQuiet_skip (by rfl) ?_
               simp only [Act.put, List.setIfInBounds_toArray, List.set_cons_zero, List.set_cons_succ])
            | (refine BigFrame.wpQuiet_want (by rfl) (fun K hK => ?_)
               apply Exists.intro
               refine ⟨fun wq hq => ?_, hK _ ?_⟩
               · obtain ⟨c0, c1, c2, c3, c4, c5, c6, c7, c8, c9⟩ := hq.ten 0 rfl
                 unfold Oper.quietAt
                 go_simp
                 first
                   | with_reducible rfl
                   | ((go_at_call 89); with_reducible refine (hB _).mono ?_; exact fun e w' ⟨he, hb⟩ => ⟨he, hq.step hb⟩)
               clear hK K
               simp only [Act.put, List.setIfInBounds_toArray, List.set_cons_zero, List.set_cons_succ])
        refine wpQuiet_nil ?_
        intro w4 hX
        obtain ⟨c0, c1, c2, c3, c4, c5, c6, c7, c8, c9⟩ := hX.ten 0 rfl
        go_wp2_with fail
        refine region_class (fun w' => St A c [(B, [.int .i64 f, .int .i64 l, .int .i64 d, .int .i64 12, .int .i64 e0, .int .i64 e1, .int .i64 e2, .int .i64 e3, .int .i64 e4, .int .i64 e5])] W0 w') (by kernel_rfl) (by kernel_rfl) hX.drew ?_
        clear hX c0 c1 c2 c3 c4 c5 c6 c7 c8 c9
        repeat
          first
            | (refine BigFrame.wpQuiet_skip (by rfl) ?_
               simp only [Act.put, List.setIfInBounds_toArray, List.set_cons_zero, List.set_cons_succ])
            | (refine BigFrame.wpQuiet_want (by rfl) (fun K hK => ?_)
               apply Exists.intro
               refine ⟨fun wq hq => ?_, hK _ ?_⟩
               · obtain ⟨c0, c1, c2, c3, c4, c5, c6, c7, c8, c9⟩ := hq.ten 0 rfl
                 unfold Oper.quietAt
                 go_simp
                 first
                   | with_reducible rfl
               clear hK K
               simp only [Act.put, List.setIfInBounds_toArray, List.set_cons_zero, List.set_cons_succ])
        refine wpQuiet_nil ?_
        intro w4 hX
        obtain ⟨c0, c1, c2, c3, c4, c5, c6, c7, c8, c9⟩ := hX.ten 0 rfl
        go_wp2_with fail
        refine region_class (fun w' => St A c [(B, [.int .i64 f, .int .i64 l, .int .i64 d, .int .i64 12, .int .i64 e0, .int .i64 e1, .int .i64 e2, .int .i64 e3, .int .i64 e4, .int .i64 e5])] W0 w') (by kernel_rfl) (by kernel_rfl) hX.drew ?_
        clear hX c0 c1 c2 c3 c4 c5 c6 c7 c8 c9
        repeat
          first
            | (refine BigFrame.wpQuiet_skip (by rfl) ?_
               simp only [Act.put, List.setIfInBounds_toArray, List.set_cons_zero, List.set_cons_succ])
            | (refine BigFrame.wpQuiet_want (by rfl) (fun K hK => ?_)
               apply Exists.intro
               refine ⟨fun wq hq => ?_, hK _ ?_⟩
               · obtain ⟨c0, c1, c2, c3, c4, c5, c6, c7, c8, c9⟩ := hq.ten 0 rfl
                 unfold Oper.quietAt
                 go_simp
                 first
                   | with_reducible rfl
               clear hK K
               simp only [Act.put, List.setIfInBounds_toArray, List.set_cons_zero, List.set_cons_succ])
        refine wpQuiet_nil ?_
        intro w4 hX
        obtain ⟨c0, c1, c2, c3, c4, c5, c6, c7, c8, c9⟩ := hX.ten 0 rfl
        go_wp2_with fail
        go_ret2
        exact ⟨rfl, by first | exact hX.below | exact hBB ▸ hX.below⟩
      · have k : okR 12 t = false := by rw [K, decide_eq_false h1, Bool.and_false]
        have e1 : opR f 12 t = 0 := if_neg (by rw [k]; decide)
        have e2 : hitR f l 12 t = false := by unfold hitR; rw [k]; rfl
        rw [e1, e2]
        clear e1 e2 k K P
        have h2 : (t % 4096 != 0) = true := by simpa using h1
        go_enter Tryz.func77, Tryz.ntmps77
        go_wp2_with fail
        obtain ⟨c0, c1, c2, c3, c4, c5, c6, c7, c8, c9⟩ := hX.ten 0 rfl
        generalize W0.alloc (.cells #[.int .i64 f, .int .i64 l, .int .i64 d, .int .i64 12, .int .i64 e0, .int .i64 e1, .int .i64 e2, .int .i64 e3, .int .i64 e4, .int .i64 e5] 69) = w1 at *
        generalize hBB : W0.heap.size = B at hX c0 c1 c2 c3 c4 c5 c6 c7 c8 c9 ⊢
        refine region_class (fun w' => St A c [(B, [.int .i64 f, .int .i64 l, .int .i64 d, .int .i64 12, .int .i64 e0, .int .i64 e1, .int .i64 e2, .int .i64 e3, .int .i64 e4, .int .i64 e5])] W0 w') (by kernel_rfl) (by kernel_rfl) hX.drew ?_
        clear hX c0 c1 c2 c3 c4 c5 c6 c7 c8 c9
        repeat
          first
            | (refine BigFrame.wpQuiet_skip (by rfl) ?_
               simp only [Act.put, List.setIfInBounds_toArray, List.set_cons_zero, List.set_cons_succ])
            | (refine BigFrame.wpQuiet_want (by rfl) (fun K hK => ?_)
               apply Exists.intro
               refine ⟨fun wq hq => ?_, hK _ ?_⟩
               · obtain ⟨c0, c1, c2, c3, c4, c5, c6, c7, c8, c9⟩ := hq.ten 0 rfl
                 unfold Oper.quietAt
                 go_simp
                 first
                   | with_reducible rfl
                   | ((go_at_call 89); with_reducible refine (hB _).mono ?_; exact fun e w' ⟨he, hb⟩ => ⟨he, hq.step hb⟩)
               clear hK K
               simp only [Act.put, List.setIfInBounds_toArray, List.set_cons_zero, List.set_cons_succ])
        refine wpQuiet_nil ?_
        intro w4 hX
        obtain ⟨c0, c1, c2, c3, c4, c5, c6, c7, c8, c9⟩ := hX.ten 0 rfl
        go_wp2_with fail
        go_ret2
        exact ⟨rfl, by first | exact hX.below | exact hBB ▸ hX.below⟩
  · have P : pwR 15 = 32768 := by decide
    have K : okR 15 t = (decide (0 ≤ t) && decide (t % 32768 = 0)) := by unfold okR; rw [P]
    have A1 : bits .and .i64 t 32767 = t % 32768 := a32767 t
    by_cases h0 : t < 0
    · have k : okR 15 t = false := by rw [K, decide_eq_false (by omega)]; rfl
      have e1 : opR f 15 t = 0 := if_neg (by rw [k]; decide)
      have e2 : hitR f l 15 t = false := by unfold hitR; rw [k]; rfl
      rw [e1, e2]
      clear e1 e2 k K P
      go_enter Tryz.func77, Tryz.ntmps77
      go_wp2_with fail
      obtain ⟨c0, c1, c2, c3, c4, c5, c6, c7, c8, c9⟩ := hX.ten 0 rfl
      generalize W0.alloc (.cells #[.int .i64 f, .int .i64 l, .int .i64 d, .int .i64 15, .int .i64 e0, .int .i64 e1, .int .i64 e2, .int .i64 e3, .int .i64 e4, .int .i64 e5] 69) = w1 at *
      generalize hBB : W0.heap.size = B at hX c0 c1 c2 c3 c4 c5 c6 c7 c8 c9 ⊢
      refine region_class (fun w' => St A c [(B, [.int .i64 f, .int .i64 l, .int .i64 d, .int .i64 15, .int .i64 e0, .int .i64 e1, .int .i64 e2, .int .i64 e3, .int .i64 e4, .int .i64 e5])] W0 w') (by kernel_rfl) (by kernel_rfl) hX.drew ?_
      clear hX c0 c1 c2 c3 c4 c5 c6 c7 c8 c9
      repeat
        first
          | (refine BigFrame.wpQuiet_skip (by rfl) ?_
             simp only [Act.put, List.setIfInBounds_toArray, List.set_cons_zero, List.set_cons_succ])
          | (refine BigFrame.wpQuiet_want (by rfl) (fun K hK => ?_)
             apply Exists.intro
             refine ⟨fun wq hq => ?_, hK _ ?_⟩
             · obtain ⟨c0, c1, c2, c3, c4, c5, c6, c7, c8, c9⟩ := hq.ten 0 rfl
               unfold Oper.quietAt
               go_simp
               first
                 | with_reducible rfl
                 | ((go_at_call 89); with_reducible refine (hB _).mono ?_; exact fun e w' ⟨he, hb⟩ => ⟨he, hq.step hb⟩)
             clear hK K
             simp only [Act.put, List.setIfInBounds_toArray, List.set_cons_zero, List.set_cons_succ])
      refine wpQuiet_nil ?_
      intro w4 hX
      obtain ⟨c0, c1, c2, c3, c4, c5, c6, c7, c8, c9⟩ := hX.ten 0 rfl
      go_wp2_with fail
      go_ret2
      exact ⟨rfl, by first | exact hX.below | exact hBB ▸ hX.below⟩
    · by_cases h1 : t % 32768 = 0
      · have k : okR 15 t = true := by rw [K, decide_eq_true (show 0 ≤ t by omega), decide_eq_true h1]; rfl
        have e1 : opR f 15 t = f + t / 32768 := (if_pos k).trans (by rw [P])
        have e2 : hitR f l 15 t = decide (f + t / 32768 ≤ l) := by unfold hitR; rw [k, P]; rfl
        rw [e1, e2]
        rw [h1] at A1
        clear e1 e2 k K P
        have V2 : IntKind.i64.wrap (f + t / 32768) = f + t / 32768 := by rw [wrap_i64]; exact IntWalk.wrap64_in _ ⟨by omega, by omega⟩
        go_enter Tryz.func77, Tryz.ntmps77
        go_wp2_with fail
        obtain ⟨c0, c1, c2, c3, c4, c5, c6, c7, c8, c9⟩ := hX.ten 0 rfl
        generalize W0.alloc (.cells #[.int .i64 f, .int .i64 l, .int .i64 d, .int .i64 15, .int .i64 e0, .int .i64 e1, .int .i64 e2, .int .i64 e3, .int .i64 e4, .int .i64 e5] 69) = w1 at *
        generalize hBB : W0.heap.size = B at hX c0 c1 c2 c3 c4 c5 c6 c7 c8 c9 ⊢
        refine region_class (fun w' => St A c [(B, [.int .i64 f, .int .i64 l, .int .i64 d, .int .i64 15, .int .i64 e0, .int .i64 e1, .int .i64 e2, .int .i64 e3, .int .i64 e4, .int .i64 e5])] W0 w') (by kernel_rfl) (by kernel_rfl) hX.drew ?_
        clear hX c0 c1 c2 c3 c4 c5 c6 c7 c8 c9
        repeat
          first
            | (refine BigFrame.wpQuiet_skip (by rfl) ?_
               simp only [Act.put, List.setIfInBounds_toArray, List.set_cons_zero, List.set_cons_succ])
            | (refine BigFrame.wpQuiet_want (by rfl) (fun K hK => ?_)
               apply Exists.intro
               refine ⟨fun wq hq => ?_, hK _ ?_⟩
               · obtain ⟨c0, c1, c2, c3, c4, c5, c6, c7, c8, c9⟩ := hq.ten 0 rfl
                 unfold Oper.quietAt
                 go_simp
                 first
                   | with_reducible rfl
                   | ((go_at_call 89); with_reducible refine (hB _).mono ?_; exact fun e w' ⟨he, hb⟩ => ⟨he, hq.step hb⟩)
               clear hK K
               simp only [Act.put, List.setIfInBounds_toArray, List.set_cons_zero, List.set_cons_succ])
        refine wpQuiet_nil ?_
        intro w4 hX
        obtain ⟨c0, c1, c2, c3, c4, c5, c6, c7, c8, c9⟩ := hX.ten 0 rfl
        go_wp2_with fail
        refine region_class (fun w' => St A c [(B, [.int .i64 f, .int .i64 l, .int .i64 d, .int .i64 15, .int .i64 e0, .int .i64 e1, .int .i64 e2, .int .i64 e3, .int .i64 e4, .int .i64 e5])] W0 w') (by kernel_rfl) (by kernel_rfl) hX.drew ?_
        clear hX c0 c1 c2 c3 c4 c5 c6 c7 c8 c9
        repeat
          first
            | (refine BigFrame.wpQuiet_skip (by rfl) ?_
               simp only [Act.put, List.setIfInBounds_toArray, List.set_cons_zero, List.set_cons_succ])
            | (refine BigFrame.wpQuiet_want (by rfl) (fun K hK => ?_)
               apply Exists.intro
               refine ⟨fun wq hq => ?_, hK _ ?_⟩
               · obtain ⟨c0, c1, c2, c3, c4, c5, c6, c7, c8, c9⟩ := hq.ten 0 rfl
                 unfold Oper.quietAt
                 go_simp
                 first
                   | with_reducible rfl
               clear hK K
               simp only [Act.put, List.setIfInBounds_toArray, List.set_cons_zero, List.set_cons_succ])
        refine wpQuiet_nil ?_
        intro w4 hX
        obtain ⟨c0, c1, c2, c3, c4, c5, c6, c7, c8, c9⟩ := hX.ten 0 rfl
        go_wp2_with fail
        refine region_class (fun w' => St A c [(B, [.int .i64 f, .int .i64 l, .int .i64 d, .int .i64 15, .int .i64 e0, .int .i64 e1, .int .i64 e2, .int .i64 e3, .int .i64 e4, .int .i64 e5])] W0 w') (by kernel_rfl) (by kernel_rfl) hX.drew ?_
        clear hX c0 c1 c2 c3 c4 c5 c6 c7 c8 c9
        repeat
          first
            | (refine BigFrame.wpQuiet_skip (by rfl) ?_
               simp only [Act.put, List.setIfInBounds_toArray, List.set_cons_zero, List.set_cons_succ])
            | (refine BigFrame.wpQuiet_want (by rfl) (fun K hK => ?_)
               apply Exists.intro
               refine ⟨fun wq hq => ?_, hK _ ?_⟩
               · obtain ⟨c0, c1, c2, c3, c4, c5, c6, c7, c8, c9⟩ := hq.ten 0 rfl
                 unfold Oper.quietAt
                 go_simp
                 first
                   | with_reducible rfl
               clear hK K
               simp only [Act.put, List.setIfInBounds_toArray, List.set_cons_zero, List.set_cons_succ])
        refine wpQuiet_nil ?_
        intro w4 hX
        obtain ⟨c0, c1, c2, c3, c4, c5, c6, c7, c8, c9⟩ := hX.ten 0 rfl
        go_wp2_with fail
        go_ret2
        exact ⟨rfl, by first | exact hX.below | exact hBB ▸ hX.below⟩
      · have k : okR 15 t = false := by rw [K, decide_eq_false h1, Bool.and_false]
        have e1 : opR f 15 t = 0 := if_neg (by rw [k]; decide)
        have e2 : hitR f l 15 t = false := by unfold hitR; rw [k]; rfl
        rw [e1, e2]
        clear e1 e2 k K P
        have h2 : (t % 32768 != 0) = true := by simpa using h1
        go_enter Tryz.func77, Tryz.ntmps77
        go_wp2_with fail
        obtain ⟨c0, c1, c2, c3, c4, c5, c6, c7, c8, c9⟩ := hX.ten 0 rfl
        generalize W0.alloc (.cells #[.int .i64 f, .int .i64 l, .int .i64 d, .int .i64 15, .int .i64 e0, .int .i64 e1, .int .i64 e2, .int .i64 e3, .int .i64 e4, .int .i64 e5] 69) = w1 at *
        generalize hBB : W0.heap.size = B at hX c0 c1 c2 c3 c4 c5 c6 c7 c8 c9 ⊢
        refine region_class (fun w' => St A c [(B, [.int .i64 f, .int .i64 l, .int .i64 d, .int .i64 15, .int .i64 e0, .int .i64 e1, .int .i64 e2, .int .i64 e3, .int .i64 e4, .int .i64 e5])] W0 w') (by kernel_rfl) (by kernel_rfl) hX.drew ?_
        clear hX c0 c1 c2 c3 c4 c5 c6 c7 c8 c9
        repeat
          first
            | (refine BigFrame.wpQuiet_skip (by rfl) ?_
               simp only [Act.put, List.setIfInBounds_toArray, List.set_cons_zero, List.set_cons_succ])
            | (refine BigFrame.wpQuiet_want (by rfl) (fun K hK => ?_)
               apply Exists.intro
               refine ⟨fun wq hq => ?_, hK _ ?_⟩
               · obtain ⟨c0, c1, c2, c3, c4, c5, c6, c7, c8, c9⟩ := hq.ten 0 rfl
                 unfold Oper.quietAt
                 go_simp
                 first
                   | with_reducible rfl
                   | ((go_at_call 89); with_reducible refine (hB _).mono ?_; exact fun e w' ⟨he, hb⟩ => ⟨he, hq.step hb⟩)
               clear hK K
               simp only [Act.put, List.setIfInBounds_toArray, List.set_cons_zero, List.set_cons_succ])
        refine wpQuiet_nil ?_
        intro w4 hX
        obtain ⟨c0, c1, c2, c3, c4, c5, c6, c7, c8, c9⟩ := hX.ten 0 rfl
        go_wp2_with fail
        go_ret2
        exact ⟨rfl, by first | exact hX.below | exact hBB ▸ hX.below⟩
  · have P : pwR 9 = 512 := by decide
    have K : okR 9 t = (decide (0 ≤ t) && decide (t % 512 = 0)) := by unfold okR; rw [P]
    have A1 : bits .and .i64 t 511 = t % 512 := a511 t
    by_cases h0 : t < 0
    · have k : okR 9 t = false := by rw [K, decide_eq_false (by omega)]; rfl
      have e1 : opR f 9 t = 0 := if_neg (by rw [k]; decide)
      have e2 : hitR f l 9 t = false := by unfold hitR; rw [k]; rfl
      rw [e1, e2]
      clear e1 e2 k K P
      go_enter Tryz.func77, Tryz.ntmps77
      go_wp2_with fail
      obtain ⟨c0, c1, c2, c3, c4, c5, c6, c7, c8, c9⟩ := hX.ten 0 rfl
      generalize W0.alloc (.cells #[.int .i64 f, .int .i64 l, .int .i64 d, .int .i64 9, .int .i64 e0, .int .i64 e1, .int .i64 e2, .int .i64 e3, .int .i64 e4, .int .i64 e5] 69) = w1 at *
      generalize hBB : W0.heap.size = B at hX c0 c1 c2 c3 c4 c5 c6 c7 c8 c9 ⊢
      refine region_class (fun w' => St A c [(B, [.int .i64 f, .int .i64 l, .int .i64 d, .int .i64 9, .int .i64 e0, .int .i64 e1, .int .i64 e2, .int .i64 e3, .int .i64 e4, .int .i64 e5])] W0 w') (by kernel_rfl) (by kernel_rfl) hX.drew ?_
      clear hX c0 c1 c2 c3 c4 c5 c6 c7 c8 c9
      repeat
        first
          | (refine BigFrame.wpQuiet_skip (by rfl) ?_
             simp only [Act.put, List.setIfInBounds_toArray, List.set_cons_zero, List.set_cons_succ])
          | (refine BigFrame.wpQuiet_want (by rfl) (fun K hK => ?_)
             apply Exists.intro
             refine ⟨fun wq hq => ?_, hK _ ?_⟩
             · obtain ⟨c0, c1, c2, c3, c4, c5, c6, c7, c8, c9⟩ := hq.ten 0 rfl
               unfold Oper.quietAt
               go_simp
               first
                 | with_reducible rfl
                 | ((go_at_call 89); with_reducible refine (hB _).mono ?_; exact fun e w' ⟨he, hb⟩ => ⟨he, hq.step hb⟩)
             clear hK K
             simp only [Act.put, List.setIfInBounds_toArray, List.set_cons_zero, List.set_cons_succ])
      refine wpQuiet_nil ?_
      intro w4 hX
      obtain ⟨c0, c1, c2, c3, c4, c5, c6, c7, c8, c9⟩ := hX.ten 0 rfl
      go_wp2_with fail
      go_ret2
      exact ⟨rfl, by first | exact hX.below | exact hBB ▸ hX.below⟩
    · by_cases h1 : t % 512 = 0
      · have k : okR 9 t = true := by rw [K, decide_eq_true (show 0 ≤ t by omega), decide_eq_true h1]; rfl
        have e1 : opR f 9 t = f + t / 512 := (if_pos k).trans (by rw [P])
        have e2 : hitR f l 9 t = decide (f + t / 512 ≤ l) := by unfold hitR; rw [k, P]; rfl
        rw [e1, e2]
        rw [h1] at A1
        clear e1 e2 k K P
        have V2 : IntKind.i64.wrap (f + t / 512) = f + t / 512 := by rw [wrap_i64]; exact IntWalk.wrap64_in _ ⟨by omega, by omega⟩
        go_enter Tryz.func77, Tryz.ntmps77
        go_wp2_with fail
        obtain ⟨c0, c1, c2, c3, c4, c5, c6, c7, c8, c9⟩ := hX.ten 0 rfl
        generalize W0.alloc (.cells #[.int .i64 f, .int .i64 l, .int .i64 d, .int .i64 9, .int .i64 e0, .int .i64 e1, .int .i64 e2, .int .i64 e3, .int .i64 e4, .int .i64 e5] 69) = w1 at *
        generalize hBB : W0.heap.size = B at hX c0 c1 c2 c3 c4 c5 c6 c7 c8 c9 ⊢
        refine region_class (fun w' => St A c [(B, [.int .i64 f, .int .i64 l, .int .i64 d, .int .i64 9, .int .i64 e0, .int .i64 e1, .int .i64 e2, .int .i64 e3, .int .i64 e4, .int .i64 e5])] W0 w') (by kernel_rfl) (by kernel_rfl) hX.drew ?_
        clear hX c0 c1 c2 c3 c4 c5 c6 c7 c8 c9
        repeat
          first
            | (refine BigFrame.wpQuiet_skip (by rfl) ?_
               simp only [Act.put, List.setIfInBounds_toArray, List.set_cons_zero, List.set_cons_succ])
            | (refine BigFrame.wpQuiet_want (by rfl) (fun K hK => ?_)
               apply Exists.intro
               refine ⟨fun wq hq => ?_, hK _ ?_⟩
               · obtain ⟨c0, c1, c2, c3, c4, c5, c6, c7, c8, c9⟩ := hq.ten 0 rfl
                 unfold Oper.quietAt
                 go_simp
                 first
                   | with_reducible rfl
                   | ((go_at_call 89); with_reducible refine (hB _).mono ?_; exact fun e w' ⟨he, hb⟩ => ⟨he, hq.step hb⟩)
               clear hK K
               simp only [Act.put, List.setIfInBounds_toArray, List.set_cons_zero, List.set_cons_succ])
        refine wpQuiet_nil ?_
        intro w4 hX
        obtain ⟨c0, c1, c2, c3, c4, c5, c6, c7, c8, c9⟩ := hX.ten 0 rfl
        go_wp2_with fail
        refine region_class (fun w' => St A c [(B, [.int .i64 f, .int .i64 l, .int .i64 d, .int .i64 9, .int .i64 e0, .int .i64 e1, .int .i64 e2, .int .i64 e3, .int .i64 e4, .int .i64 e5])] W0 w') (by kernel_rfl) (by kernel_rfl) hX.drew ?_
        clear hX c0 c1 c2 c3 c4 c5 c6 c7 c8 c9
        repeat
          first
            | (refine BigFrame.wpQuiet_skip (by rfl) ?_
               simp only [Act.put, List.setIfInBounds_toArray, List.set_cons_zero, List.set_cons_succ])
            | (refine BigFrame.wpQuiet_want (by rfl) (fun K hK => ?_)
               apply Exists.intro
               refine ⟨fun wq hq => ?_, hK _ ?_⟩
               · obtain ⟨c0, c1, c2, c3, c4, c5, c6, c7, c8, c9⟩ := hq.ten 0 rfl
                 unfold Oper.quietAt
                 go_simp
                 first
                   | with_reducible rfl
               clear hK K
               simp only [Act.put, List.setIfInBounds_toArray, List.set_cons_zero, List.set_cons_succ])
        refine wpQuiet_nil ?_
        intro w4 hX
        obtain ⟨c0, c1, c2, c3, c4, c5, c6, c7, c8, c9⟩ := hX.ten 0 rfl
        go_wp2_with fail
        refine region_class (fun w' => St A c [(B, [.int .i64 f, .int .i64 l, .int .i64 d, .int .i64 9, .int .i64 e0, .int .i64 e1, .int .i64 e2, .int .i64 e3, .int .i64 e4, .int .i64 e5])] W0 w') (by kernel_rfl) (by kernel_rfl) hX.drew ?_
        clear hX c0 c1 c2 c3 c4 c5 c6 c7 c8 c9
        repeat
          first
            | (refine BigFrame.wpQuiet_skip (by rfl) ?_
               simp only [Act.put, List.setIfInBounds_toArray, List.set_cons_zero, List.set_cons_succ])
            | (refine BigFrame.wpQuiet_want (by rfl) (fun K hK => ?_)
               apply Exists.intro
               refine ⟨fun wq hq => ?_, hK _ ?_⟩
               · obtain ⟨c0, c1, c2, c3, c4, c5, c6, c7, c8, c9⟩ := hq.ten 0 rfl
                 unfold Oper.quietAt
                 go_simp
                 first
                   | with_reducible rfl
               clear hK K
               simp only [Act.put, List.setIfInBounds_toArray, List.set_cons_zero, List.set_cons_succ])
        refine wpQuiet_nil ?_
        intro w4 hX
        obtain ⟨c0, c1, c2, c3, c4, c5, c6, c7, c8, c9⟩ := hX.ten 0 rfl
        go_wp2_with fail
        go_ret2
        exact ⟨rfl, by first | exact hX.below | exact hBB ▸ hX.below⟩
      · have k : okR 9 t = false := by rw [K, decide_eq_false h1, Bool.and_false]
        have e1 : opR f 9 t = 0 := if_neg (by rw [k]; decide)
        have e2 : hitR f l 9 t = false := by unfold hitR; rw [k]; rfl
        rw [e1, e2]
        clear e1 e2 k K P
        have h2 : (t % 512 != 0) = true := by simpa using h1
        go_enter Tryz.func77, Tryz.ntmps77
        go_wp2_with fail
        obtain ⟨c0, c1, c2, c3, c4, c5, c6, c7, c8, c9⟩ := hX.ten 0 rfl
        generalize W0.alloc (.cells #[.int .i64 f, .int .i64 l, .int .i64 d, .int .i64 9, .int .i64 e0, .int .i64 e1, .int .i64 e2, .int .i64 e3, .int .i64 e4, .int .i64 e5] 69) = w1 at *
        generalize hBB : W0.heap.size = B at hX c0 c1 c2 c3 c4 c5 c6 c7 c8 c9 ⊢
        refine region_class (fun w' => St A c [(B, [.int .i64 f, .int .i64 l, .int .i64 d, .int .i64 9, .int .i64 e0, .int .i64 e1, .int .i64 e2, .int .i64 e3, .int .i64 e4, .int .i64 e5])] W0 w') (by kernel_rfl) (by kernel_rfl) hX.drew ?_
        clear hX c0 c1 c2 c3 c4 c5 c6 c7 c8 c9
        repeat
          first
            | (refine BigFrame.wpQuiet_skip (by rfl) ?_
               simp only [Act.put, List.setIfInBounds_toArray, List.set_cons_zero, List.set_cons_succ])
            | (refine BigFrame.wpQuiet_want (by rfl) (fun K hK => ?_)
               apply Exists.intro
               refine ⟨fun wq hq => ?_, hK _ ?_⟩
               · obtain ⟨c0, c1, c2, c3, c4, c5, c6, c7, c8, c9⟩ := hq.ten 0 rfl
                 unfold Oper.quietAt
                 go_simp
                 first
                   | with_reducible rfl
                   | ((go_at_call 89); with_reducible refine (hB _).mono ?_; exact fun e w' ⟨he, hb⟩ => ⟨he, hq.step hb⟩)
               clear hK K
               simp only [Act.put, List.setIfInBounds_toArray, List.set_cons_zero, List.set_cons_succ])
        refine wpQuiet_nil ?_
        intro w4 hX
        obtain ⟨c0, c1, c2, c3, c4, c5, c6, c7, c8, c9⟩ := hX.ten 0 rfl
        go_wp2_with fail
        go_ret2
        exact ⟨rfl, by first | exact hX.below | exact hBB ▸ hX.below⟩
  · have P : pwR 6 = 64 := by decide
    have K : okR 6 t = (decide (0 ≤ t) && decide (t % 64 = 0)) := by unfold okR; rw [P]
    have A1 : bits .and .i64 t 63 = t % 64 := a63 t
    by_cases h0 : t < 0
    · have k : okR 6 t = false := by rw [K, decide_eq_false (by omega)]; rfl
      have e1 : opR f 6 t = 0 := if_neg (by rw [k]; decide)
      have e2 : hitR f l 6 t = false := by unfold hitR; rw [k]; rfl
      rw [e1, e2]
      clear e1 e2 k K P
      go_enter Tryz.func77, Tryz.ntmps77
      go_wp2_with fail
      obtain ⟨c0, c1, c2, c3, c4, c5, c6, c7, c8, c9⟩ := hX.ten 0 rfl
      generalize W0.alloc (.cells #[.int .i64 f, .int .i64 l, .int .i64 d, .int .i64 6, .int .i64 e0, .int .i64 e1, .int .i64 e2, .int .i64 e3, .int .i64 e4, .int .i64 e5] 69) = w1 at *
      generalize hBB : W0.heap.size = B at hX c0 c1 c2 c3 c4 c5 c6 c7 c8 c9 ⊢
      refine region_class (fun w' => St A c [(B, [.int .i64 f, .int .i64 l, .int .i64 d, .int .i64 6, .int .i64 e0, .int .i64 e1, .int .i64 e2, .int .i64 e3, .int .i64 e4, .int .i64 e5])] W0 w') (by kernel_rfl) (by kernel_rfl) hX.drew ?_
      clear hX c0 c1 c2 c3 c4 c5 c6 c7 c8 c9
      repeat
        first
          | (refine BigFrame.wpQuiet_skip (by rfl) ?_
             simp only [Act.put, List.setIfInBounds_toArray, List.set_cons_zero, List.set_cons_succ])
          | (refine BigFrame.wpQuiet_want (by rfl) (fun K hK => ?_)
             apply Exists.intro
             refine ⟨fun wq hq => ?_, hK _ ?_⟩
             · obtain ⟨c0, c1, c2, c3, c4, c5, c6, c7, c8, c9⟩ := hq.ten 0 rfl
               unfold Oper.quietAt
               go_simp
               first
                 | with_reducible rfl
                 | ((go_at_call 89); with_reducible refine (hB _).mono ?_; exact fun e w' ⟨he, hb⟩ => ⟨he, hq.step hb⟩)
             clear hK K
             simp only [Act.put, List.setIfInBounds_toArray, List.set_cons_zero, List.set_cons_succ])
      refine wpQuiet_nil ?_
      intro w4 hX
      obtain ⟨c0, c1, c2, c3, c4, c5, c6, c7, c8, c9⟩ := hX.ten 0 rfl
      go_wp2_with fail
      go_ret2
      exact ⟨rfl, by first | exact hX.below | exact hBB ▸ hX.below⟩
    · by_cases h1 : t % 64 = 0
      · have k : okR 6 t = true := by rw [K, decide_eq_true (show 0 ≤ t by omega), decide_eq_true h1]; rfl
        have e1 : opR f 6 t = f + t / 64 := (if_pos k).trans (by rw [P])
        have e2 : hitR f l 6 t = decide (f + t / 64 ≤ l) := by unfold hitR; rw [k, P]; rfl
        rw [e1, e2]
        rw [h1] at A1
        clear e1 e2 k K P
        have V2 : IntKind.i64.wrap (f + t / 64) = f + t / 64 := by rw [wrap_i64]; exact IntWalk.wrap64_in _ ⟨by omega, by omega⟩
        go_enter Tryz.func77, Tryz.ntmps77
        go_wp2_with fail
        obtain ⟨c0, c1, c2, c3, c4, c5, c6, c7, c8, c9⟩ := hX.ten 0 rfl
        generalize W0.alloc (.cells #[.int .i64 f, .int .i64 l, .int .i64 d, .int .i64 6, .int .i64 e0, .int .i64 e1, .int .i64 e2, .int .i64 e3, .int .i64 e4, .int .i64 e5] 69) = w1 at *
        generalize hBB : W0.heap.size = B at hX c0 c1 c2 c3 c4 c5 c6 c7 c8 c9 ⊢
        refine region_class (fun w' => St A c [(B, [.int .i64 f, .int .i64 l, .int .i64 d, .int .i64 6, .int .i64 e0, .int .i64 e1, .int .i64 e2, .int .i64 e3, .int .i64 e4, .int .i64 e5])] W0 w') (by kernel_rfl) (by kernel_rfl) hX.drew ?_
        clear hX c0 c1 c2 c3 c4 c5 c6 c7 c8 c9
        repeat
          first
            | (refine BigFrame.wpQuiet_skip (by rfl) ?_
               simp only [Act.put, List.setIfInBounds_toArray, List.set_cons_zero, List.set_cons_succ])
            | (refine BigFrame.wpQuiet_want (by rfl) (fun K hK => ?_)
               apply Exists.intro
               refine ⟨fun wq hq => ?_, hK _ ?_⟩
               · obtain ⟨c0, c1, c2, c3, c4, c5, c6, c7, c8, c9⟩ := hq.ten 0 rfl
                 unfold Oper.quietAt
                 go_simp
                 first
                   | with_reducible rfl
                   | ((go_at_call 89); with_reducible refine (hB _).mono ?_; exact fun e w' ⟨he, hb⟩ => ⟨he, hq.step hb⟩)
               clear hK K
               simp only [Act.put, List.setIfInBounds_toArray, List.set_cons_zero, List.set_cons_succ])
        refine wpQuiet_nil ?_
        intro w4 hX
        obtain ⟨c0, c1, c2, c3, c4, c5, c6, c7, c8, c9⟩ := hX.ten 0 rfl
        go_wp2_with fail
        refine region_class (fun w' => St A c [(B, [.int .i64 f, .int .i64 l, .int .i64 d, .int .i64 6, .int .i64 e0, .int .i64 e1, .int .i64 e2, .int .i64 e3, .int .i64 e4, .int .i64 e5])] W0 w') (by kernel_rfl) (by kernel_rfl) hX.drew ?_
        clear hX c0 c1 c2 c3 c4 c5 c6 c7 c8 c9
        repeat
          first
            | (refine BigFrame.wpQuiet_skip (by rfl) ?_
               simp only [Act.put, List.setIfInBounds_toArray, List.set_cons_zero, List.set_cons_succ])
            | (refine BigFrame.wpQuiet_want (by rfl) (fun K hK => ?_)
               apply Exists.intro
               refine ⟨fun wq hq => ?_, hK _ ?_⟩
               · obtain ⟨c0, c1, c2, c3, c4, c5, c6, c7, c8, c9⟩ := hq.ten 0 rfl
                 unfold Oper.quietAt
                 go_simp
                 first
                   | with_reducible rfl
               clear hK K
               simp only [Act.put, List.setIfInBounds_toArray, List.set_cons_zero, List.set_cons_succ])
        refine wpQuiet_nil ?_
        intro w4 hX
        obtain ⟨c0, c1, c2, c3, c4, c5, c6, c7, c8, c9⟩ := hX.ten 0 rfl
        go_wp2_with fail
        refine region_class (fun w' => St A c [(B, [.int .i64 f, .int .i64 l, .int .i64 d, .int .i64 6, .int .i64 e0, .int .i64 e1, .int .i64 e2, .int .i64 e3, .int .i64 e4, .int .i64 e5])] W0 w') (by kernel_rfl) (by kernel_rfl) hX.drew ?_
        clear hX c0 c1 c2 c3 c4 c5 c6 c7 c8 c9
        repeat
          first
            | (refine BigFrame.wpQuiet_skip (by rfl) ?_
               simp only [Act.put, List.setIfInBounds_toArray, List.set_cons_zero, List.set_cons_succ])
            | (refine BigFrame.wpQuiet_want (by rfl) (fun K hK => ?_)
               apply Exists.intro
               refine ⟨fun wq hq => ?_, hK _ ?_⟩
               · obtain ⟨c0, c1, c2, c3, c4, c5, c6, c7, c8, c9⟩ := hq.ten 0 rfl
                 unfold Oper.quietAt
                 go_simp
                 first
                   | with_reducible rfl
               clear hK K
               simp only [Act.put, List.setIfInBounds_toArray, List.set_cons_zero, List.set_cons_succ])
        refine wpQuiet_nil ?_
        intro w4 hX
        obtain ⟨c0, c1, c2, c3, c4, c5, c6, c7, c8, c9⟩ := hX.ten 0 rfl
        go_wp2_with fail
        go_ret2
        exact ⟨rfl, by first | exact hX.below | exact hBB ▸ hX.below⟩
      · have k : okR 6 t = false := by rw [K, decide_eq_false h1, Bool.and_false]
        have e1 : opR f 6 t = 0 := if_neg (by rw [k]; decide)
        have e2 : hitR f l 6 t = false := by unfold hitR; rw [k]; rfl
        rw [e1, e2]
        clear e1 e2 k K P
        have h2 : (t % 64 != 0) = true := by simpa using h1
        go_enter Tryz.func77, Tryz.ntmps77
        go_wp2_with fail
        obtain ⟨c0, c1, c2, c3, c4, c5, c6, c7, c8, c9⟩ := hX.ten 0 rfl
        generalize W0.alloc (.cells #[.int .i64 f, .int .i64 l, .int .i64 d, .int .i64 6, .int .i64 e0, .int .i64 e1, .int .i64 e2, .int .i64 e3, .int .i64 e4, .int .i64 e5] 69) = w1 at *
        generalize hBB : W0.heap.size = B at hX c0 c1 c2 c3 c4 c5 c6 c7 c8 c9 ⊢
        refine region_class (fun w' => St A c [(B, [.int .i64 f, .int .i64 l, .int .i64 d, .int .i64 6, .int .i64 e0, .int .i64 e1, .int .i64 e2, .int .i64 e3, .int .i64 e4, .int .i64 e5])] W0 w') (by kernel_rfl) (by kernel_rfl) hX.drew ?_
        clear hX c0 c1 c2 c3 c4 c5 c6 c7 c8 c9
        repeat
          first
            | (refine BigFrame.wpQuiet_skip (by rfl) ?_
               simp only [Act.put, List.setIfInBounds_toArray, List.set_cons_zero, List.set_cons_succ])
            | (refine BigFrame.wpQuiet_want (by rfl) (fun K hK => ?_)
               apply Exists.intro
               refine ⟨fun wq hq => ?_, hK _ ?_⟩
               · obtain ⟨c0, c1, c2, c3, c4, c5, c6, c7, c8, c9⟩ := hq.ten 0 rfl
                 unfold Oper.quietAt
                 go_simp
                 first
                   | with_reducible rfl
                   | ((go_at_call 89); with_reducible refine (hB _).mono ?_; exact fun e w' ⟨he, hb⟩ => ⟨he, hq.step hb⟩)
               clear hK K
               simp only [Act.put, List.setIfInBounds_toArray, List.set_cons_zero, List.set_cons_succ])
        refine wpQuiet_nil ?_
        intro w4 hX
        obtain ⟨c0, c1, c2, c3, c4, c5, c6, c7, c8, c9⟩ := hX.ten 0 rfl
        go_wp2_with fail
        go_ret2
        exact ⟨rfl, by first | exact hX.below | exact hBB ▸ hX.below⟩
  · have P : pwR 8 = 256 := by decide
    have K : okR 8 t = (decide (0 ≤ t) && decide (t % 256 = 0)) := by unfold okR; rw [P]
    have A1 : bits .and .i64 t 255 = t % 256 := a255 t
    by_cases h0 : t < 0
    · have k : okR 8 t = false := by rw [K, decide_eq_false (by omega)]; rfl
      have e1 : opR f 8 t = 0 := if_neg (by rw [k]; decide)
      have e2 : hitR f l 8 t = false := by unfold hitR; rw [k]; rfl
      rw [e1, e2]
      clear e1 e2 k K P
      go_enter Tryz.func77, Tryz.ntmps77
      go_wp2_with fail
      obtain ⟨c0, c1, c2, c3, c4, c5, c6, c7, c8, c9⟩ := hX.ten 0 rfl
      generalize W0.alloc (.cells #[.int .i64 f, .int .i64 l, .int .i64 d, .int .i64 8, .int .i64 e0, .int .i64 e1, .int .i64 e2, .int .i64 e3, .int .i64 e4, .int .i64 e5] 69) = w1 at *
      generalize hBB : W0.heap.size = B at hX c0 c1 c2 c3 c4 c5 c6 c7 c8 c9 ⊢
      refine region_class (fun w' => St A c [(B, [.int .i64 f, .int .i64 l, .int .i64 d, .int .i64 8, .int .i64 e0, .int .i64 e1, .int .i64 e2, .int .i64 e3, .int .i64 e4, .int .i64 e5])] W0 w') (by kernel_rfl) (by kernel_rfl) hX.drew ?_
      clear hX c0 c1 c2 c3 c4 c5 c6 c7 c8 c9
      repeat
        first
          | (refine BigFrame.wpQuiet_skip (by rfl) ?_
             simp only [Act.put, List.setIfInBounds_toArray, List.set_cons_zero, List.set_cons_succ])
          | (refine BigFrame.wpQuiet_want (by rfl) (fun K hK => ?_)
             apply Exists.intro
             refine ⟨fun wq hq => ?_, hK _ ?_⟩
             · obtain ⟨c0, c1, c2, c3, c4, c5, c6, c7, c8, c9⟩ := hq.ten 0 rfl
               unfold Oper.quietAt
               go_simp
               first
                 | with_reducible rfl
                 | ((go_at_call 89); with_reducible refine (hB _).mono ?_; exact fun e w' ⟨he, hb⟩ => ⟨he, hq.step hb⟩)
             clear hK K
             simp only [Act.put, List.setIfInBounds_toArray, List.set_cons_zero, List.set_cons_succ])
      refine wpQuiet_nil ?_
      intro w4 hX
      obtain ⟨c0, c1, c2, c3, c4, c5, c6, c7, c8, c9⟩ := hX.ten 0 rfl
      go_wp2_with fail
      go_ret2
      exact ⟨rfl, by first | exact hX.below | exact hBB ▸ hX.below⟩
    · by_cases h1 : t % 256 = 0
      · have k : okR 8 t = true := by rw [K, decide_eq_true (show 0 ≤ t by omega), decide_eq_true h1]; rfl
        have e1 : opR f 8 t = f + t / 256 := (if_pos k).trans (by rw [P])
        have e2 : hitR f l 8 t = decide (f + t / 256 ≤ l) := by unfold hitR; rw [k, P]; rfl
        rw [e1, e2]
        rw [h1] at A1
        clear e1 e2 k K P
        have V2 : IntKind.i64.wrap (f + t / 256) = f + t / 256 := by rw [wrap_i64]; exact IntWalk.wrap64_in _ ⟨by omega, by omega⟩
        go_enter Tryz.func77, Tryz.ntmps77
        go_wp2_with fail
        obtain ⟨c0, c1, c2, c3, c4, c5, c6, c7, c8, c9⟩ := hX.ten 0 rfl
        generalize W0.alloc (.cells #[.int .i64 f, .int .i64 l, .int .i64 d, .int .i64 8, .int .i64 e0, .int .i64 e1, .int .i64 e2, .int .i64 e3, .int .i64 e4, .int .i64 e5] 69) = w1 at *
        generalize hBB : W0.heap.size = B at hX c0 c1 c2 c3 c4 c5 c6 c7 c8 c9 ⊢
        refine region_class (fun w' => St A c [(B, [.int .i64 f, .int .i64 l, .int .i64 d, .int .i64 8, .int .i64 e0, .int .i64 e1, .int .i64 e2, .int .i64 e3, .int .i64 e4, .int .i64 e5])] W0 w') (by kernel_rfl) (by kernel_rfl) hX.drew ?_
        clear hX c0 c1 c2 c3 c4 c5 c6 c7 c8 c9
        repeat
          first
            | (refine BigFrame.wpQuiet_skip (by rfl) ?_
               simp only [Act.put, List.setIfInBounds_toArray, List.set_cons_zero, List.set_cons_succ])
            | (refine BigFrame.wpQuiet_want (by rfl) (fun K hK => ?_)
               apply Exists.intro
               refine ⟨fun wq hq => ?_, hK _ ?_⟩
               · obtain ⟨c0, c1, c2, c3, c4, c5, c6, c7, c8, c9⟩ := hq.ten 0 rfl
                 unfold Oper.quietAt
                 go_simp
                 first
                   | with_reducible rfl
                   | ((go_at_call 89); with_reducible refine (hB _).mono ?_; exact fun e w' ⟨he, hb⟩ => ⟨he, hq.step hb⟩)
               clear hK K
               simp only [Act.put, List.setIfInBounds_toArray, List.set_cons_zero, List.set_cons_succ])
        refine wpQuiet_nil ?_
        intro w4 hX
        obtain ⟨c0, c1, c2, c3, c4, c5, c6, c7, c8, c9⟩ := hX.ten 0 rfl
        go_wp2_with fail
        refine region_class (fun w' => St A c [(B, [.int .i64 f, .int .i64 l, .int .i64 d, .int .i64 8, .int .i64 e0, .int .i64 e1, .int .i64 e2, .int .i64 e3, .int .i64 e4, .int .i64 e5])] W0 w') (by kernel_rfl) (by kernel_rfl) hX.drew ?_
        clear hX c0 c1 c2 c3 c4 c5 c6 c7 c8 c9
        repeat
          first
            | (refine BigFrame.wpQuiet_skip (by rfl) ?_
               simp only [Act.put, List.setIfInBounds_toArray, List.set_cons_zero, List.set_cons_succ])
            | (refine BigFrame.wpQuiet_want (by rfl) (fun K hK => ?_)
               apply Exists.intro
               refine ⟨fun wq hq => ?_, hK _ ?_⟩
               · obtain ⟨c0, c1, c2, c3, c4, c5, c6, c7, c8, c9⟩ := hq.ten 0 rfl
                 unfold Oper.quietAt
                 go_simp
                 first
                   | with_reducible rfl
               clear hK K
               simp only [Act.put, List.setIfInBounds_toArray, List.set_cons_zero, List.set_cons_succ])
        refine wpQuiet_nil ?_
        intro w4 hX
        obtain ⟨c0, c1, c2, c3, c4, c5, c6, c7, c8, c9⟩ := hX.ten 0 rfl
        go_wp2_with fail
        refine region_class (fun w' => St A c [(B, [.int .i64 f, .int .i64 l, .int .i64 d, .int .i64 8, .int .i64 e0, .int .i64 e1, .int .i64 e2, .int .i64 e3, .int .i64 e4, .int .i64 e5])] W0 w') (by kernel_rfl) (by kernel_rfl) hX.drew ?_
        clear hX c0 c1 c2 c3 c4 c5 c6 c7 c8 c9
        repeat
          first
            | (refine BigFrame.wpQuiet_skip (by rfl) ?_
               simp only [Act.put, List.setIfInBounds_toArray, List.set_cons_zero, List.set_cons_succ])
            | (refine BigFrame.wpQuiet_want (by rfl) (fun K hK => ?_)
               apply Exists.intro
               refine ⟨fun wq hq => ?_, hK _ ?_⟩
               · obtain ⟨c0, c1, c2, c3, c4, c5, c6, c7, c8, c9⟩ := hq.ten 0 rfl
                 unfold Oper.quietAt
                 go_simp
                 first
                   | with_reducible rfl
               clear hK K
               simp only [Act.put, List.setIfInBounds_toArray, List.set_cons_zero, List.set_cons_succ])
        refine wpQuiet_nil ?_
        intro w4 hX
        obtain ⟨c0, c1, c2, c3, c4, c5, c6, c7, c8, c9⟩ := hX.ten 0 rfl
        go_wp2_with fail
        go_ret2
        exact ⟨rfl, by first | exact hX.below | exact hBB ▸ hX.below⟩
      · have k : okR 8 t = false := by rw [K, decide_eq_false h1, Bool.and_false]
        have e1 : opR f 8 t = 0 := if_neg (by rw [k]; decide)
        have e2 : hitR f l 8 t = false := by unfold hitR; rw [k]; rfl
        rw [e1, e2]
        clear e1 e2 k K P
        have h2 : (t % 256 != 0) = true := by simpa using h1
        go_enter Tryz.func77, Tryz.ntmps77
        go_wp2_with fail
        obtain ⟨c0, c1, c2, c3, c4, c5, c6, c7, c8, c9⟩ := hX.ten 0 rfl
        generalize W0.alloc (.cells #[.int .i64 f, .int .i64 l, .int .i64 d, .int .i64 8, .int .i64 e0, .int .i64 e1, .int .i64 e2, .int .i64 e3, .int .i64 e4, .int .i64 e5] 69) = w1 at *
        generalize hBB : W0.heap.size = B at hX c0 c1 c2 c3 c4 c5 c6 c7 c8 c9 ⊢
        refine region_class (fun w' => St A c [(B, [.int .i64 f, .int .i64 l, .int .i64 d, .int .i64 8, .int .i64 e0, .int .i64 e1, .int .i64 e2, .int .i64 e3, .int .i64 e4, .int .i64 e5])] W0 w') (by kernel_rfl) (by kernel_rfl) hX.drew ?_
        clear hX c0 c1 c2 c3 c4 c5 c6 c7 c8 c9
        repeat
          first
            | (refine BigFrame.wpQuiet_skip (by rfl) ?_
               simp only [Act.put, List.setIfInBounds_toArray, List.set_cons_zero, List.set_cons_succ])
            | (refine BigFrame.wpQuiet_want (by rfl) (fun K hK => ?_)
               apply Exists.intro
               refine ⟨fun wq hq => ?_, hK _ ?_⟩
               · obtain ⟨c0, c1, c2, c3, c4, c5, c6, c7, c8, c9⟩ := hq.ten 0 rfl
                 unfold Oper.quietAt
                 go_simp
                 first
                   | with_reducible rfl
                   | ((go_at_call 89); with_reducible refine (hB _).mono ?_; exact fun e w' ⟨he, hb⟩ => ⟨he, hq.step hb⟩)
               clear hK K
               simp only [Act.put, List.setIfInBounds_toArray, List.set_cons_zero, List.set_cons_succ])
        refine wpQuiet_nil ?_
        intro w4 hX
        obtain ⟨c0, c1, c2, c3, c4, c5, c6, c7, c8, c9⟩ := hX.ten 0 rfl
        go_wp2_with fail
        go_ret2
        exact ⟨rfl, by first | exact hX.below | exact hBB ▸ hX.below⟩
  · have P : pwR 4 = 16 := by decide
    have K : okR 4 t = (decide (0 ≤ t) && decide (t % 16 = 0)) := by unfold okR; rw [P]
    have A1 : bits .and .i64 t 15 = t % 16 := a15 t
    by_cases h0 : t < 0
    · have k : okR 4 t = false := by rw [K, decide_eq_false (by omega)]; rfl
      have e1 : opR f 4 t = 0 := if_neg (by rw [k]; decide)
      have e2 : hitR f l 4 t = false := by unfold hitR; rw [k]; rfl
      rw [e1, e2]
      clear e1 e2 k K P
      go_enter Tryz.func77, Tryz.ntmps77
      go_wp2_with fail
      obtain ⟨c0, c1, c2, c3, c4, c5, c6, c7, c8, c9⟩ := hX.ten 0 rfl
      generalize W0.alloc (.cells #[.int .i64 f, .int .i64 l, .int .i64 d, .int .i64 4, .int .i64 e0, .int .i64 e1, .int .i64 e2, .int .i64 e3, .int .i64 e4, .int .i64 e5] 69) = w1 at *
      generalize hBB : W0.heap.size = B at hX c0 c1 c2 c3 c4 c5 c6 c7 c8 c9 ⊢
      refine region_class (fun w' => St A c [(B, [.int .i64 f, .int .i64 l, .int .i64 d, .int .i64 4, .int .i64 e0, .int .i64 e1, .int .i64 e2, .int .i64 e3, .int .i64 e4, .int .i64 e5])] W0 w') (by kernel_rfl) (by kernel_rfl) hX.drew ?_
      clear hX c0 c1 c2 c3 c4 c5 c6 c7 c8 c9
      repeat
        first
          | (refine BigFrame.wpQuiet_skip (by rfl) ?_
             simp only [Act.put, List.setIfInBounds_toArray, List.set_cons_zero, List.set_cons_succ])
          | (refine BigFrame.wpQuiet_want (by rfl) (fun K hK => ?_)
             apply Exists.intro
             refine ⟨fun wq hq => ?_, hK _ ?_⟩
             · obtain ⟨c0, c1, c2, c3, c4, c5, c6, c7, c8, c9⟩ := hq.ten 0 rfl
               unfold Oper.quietAt
               go_simp
               first
                 | with_reducible rfl
                 | ((go_at_call 89); with_reducible refine (hB _).mono ?_; exact fun e w' ⟨he, hb⟩ => ⟨he, hq.step hb⟩)
             clear hK K
             simp only [Act.put, List.setIfInBounds_toArray, List.set_cons_zero, List.set_cons_succ])
      refine wpQuiet_nil ?_
      intro w4 hX
      obtain ⟨c0, c1, c2, c3, c4, c5, c6, c7, c8, c9⟩ := hX.ten 0 rfl
      go_wp2_with fail
      go_ret2
      exact ⟨rfl, by first | exact hX.below | exact hBB ▸ hX.below⟩
    · by_cases h1 : t % 16 = 0
      · have k : okR 4 t = true := by rw [K, decide_eq_true (show 0 ≤ t by omega), decide_eq_true h1]; rfl
        have e1 : opR f 4 t = f + t / 16 := (if_pos k).trans (by rw [P])
        have e2 : hitR f l 4 t = decide (f + t / 16 ≤ l) := by unfold hitR; rw [k, P]; rfl
        rw [e1, e2]
        rw [h1] at A1
        clear e1 e2 k K P
        have V2 : IntKind.i64.wrap (f + t / 16) = f + t / 16 := by rw [wrap_i64]; exact IntWalk.wrap64_in _ ⟨by omega, by omega⟩
        go_enter Tryz.func77, Tryz.ntmps77
        go_wp2_with fail
        obtain ⟨c0, c1, c2, c3, c4, c5, c6, c7, c8, c9⟩ := hX.ten 0 rfl
        generalize W0.alloc (.cells #[.int .i64 f, .int .i64 l, .int .i64 d, .int .i64 4, .int .i64 e0, .int .i64 e1, .int .i64 e2, .int .i64 e3, .int .i64 e4, .int .i64 e5] 69) = w1 at *
        generalize hBB : W0.heap.size = B at hX c0 c1 c2 c3 c4 c5 c6 c7 c8 c9 ⊢
        refine region_class (fun w' => St A c [(B, [.int .i64 f, .int .i64 l, .int .i64 d, .int .i64 4, .int .i64 e0, .int .i64 e1, .int .i64 e2, .int .i64 e3, .int .i64 e4, .int .i64 e5])] W0 w') (by kernel_rfl) (by kernel_rfl) hX.drew ?_
        clear hX c0 c1 c2 c3 c4 c5 c6 c7 c8 c9
        repeat
          first
            | (refine BigFrame.wpQuiet_skip (by rfl) ?_
               simp only [Act.put, List.setIfInBounds_toArray, List.set_cons_zero, List.set_cons_succ])
            | (refine BigFrame.wpQuiet_want (by rfl) (fun K hK => ?_)
               apply Exists.intro
               refine ⟨fun wq hq => ?_, hK _ ?_⟩
               · obtain ⟨c0, c1, c2, c3, c4, c5, c6, c7, c8, c9⟩ := hq.ten 0 rfl
                 unfold Oper.quietAt
                 go_simp
                 first
                   | with_reducible rfl
                   | ((go_at_call 89); with_reducible refine (hB _).mono ?_; exact fun e w' ⟨he, hb⟩ => ⟨he, hq.step hb⟩)
               clear hK K
               simp only [Act.put, List.setIfInBounds_toArray, List.set_cons_zero, List.set_cons_succ])
        refine wpQuiet_nil ?_
        intro w4 hX
        obtain ⟨c0, c1, c2, c3, c4, c5, c6, c7, c8, c9⟩ := hX.ten 0 rfl
        go_wp2_with fail
        refine region_class (fun w' => St A c [(B, [.int .i64 f, .int .i64 l, .int .i64 d, .int .i64 4, .int .i64 e0, .int .i64 e1, .int .i64 e2, .int .i64 e3, .int .i64 e4, .int .i64 e5])] W0 w') (by kernel_rfl) (by kernel_rfl) hX.drew ?_
        clear hX c0 c1 c2 c3 c4 c5 c6 c7 c8 c9
        repeat
          first
            | (refine BigFrame.wpQuiet_skip (by rfl) ?_
               simp only [Act.put, List.setIfInBounds_toArray, List.set_cons_zero, List.set_cons_succ])
            | (refine BigFrame.wpQuiet_want (by rfl) (fun K hK => ?_)
               apply Exists.intro
               refine ⟨fun wq hq => ?_, hK _ ?_⟩
               · obtain ⟨c0, c1, c2, c3, c4, c5, c6, c7, c8, c9⟩ := hq.ten 0 rfl
                 unfold Oper.quietAt
                 go_simp
                 first
                   | with_reducible rfl
               clear hK K
               simp only [Act.put, List.setIfInBounds_toArray, List.set_cons_zero, List.set_cons_succ])
        refine wpQuiet_nil ?_
        intro w4 hX
        obtain ⟨c0, c1, c2, c3, c4, c5, c6, c7, c8, c9⟩ := hX.ten 0 rfl
        go_wp2_with fail
        refine region_class (fun w' => St A c [(B, [.int .i64 f, .int .i64 l, .int .i64 d, .int .i64 4, .int .i64 e0, .int .i64 e1, .int .i64 e2, .int .i64 e3, .int .i64 e4, .int .i64 e5])] W0 w') (by kernel_rfl) (by kernel_rfl) hX.drew ?_
        clear hX c0 c1 c2 c3 c4 c5 c6 c7 c8 c9
        repeat
          first
            | (refine BigFrame.wpQuiet_skip (by rfl) ?_
               simp only [Act.put, List.setIfInBounds_toArray, List.set_cons_zero, List.set_cons_succ])
            | (refine BigFrame.wpQuiet_want (by rfl) (fun K hK => ?_)
               apply Exists.intro
               refine ⟨fun wq hq => ?_, hK _ ?_⟩
               · obtain ⟨c0, c1, c2, c3, c4, c5, c6, c7, c8, c9⟩ := hq.ten 0 rfl
                 unfold Oper.quietAt
                 go_simp
                 first
                   | with_reducible rfl
               clear hK K
               simp only [Act.put, List.setIfInBounds_toArray, List.set_cons_zero, List.set_cons_succ])
        refine wpQuiet_nil ?_
        intro w4 hX
        obtain ⟨c0, c1, c2, c3, c4, c5, c6, c7, c8, c9⟩ := hX.ten 0 rfl
        go_wp2_with fail
        go_ret2
        exact ⟨rfl, by first | exact hX.below | exact hBB ▸ hX.below⟩
      · have k : okR 4 t = false := by rw [K, decide_eq_false h1, Bool.and_false]
        have e1 : opR f 4 t = 0 := if_neg (by rw [k]; decide)
        have e2 : hitR f l 4 t = false := by unfold hitR; rw [k]; rfl
        rw [e1, e2]
        clear e1 e2 k K P
        have h2 : (t % 16 != 0) = true := by simpa using h1
        go_enter Tryz.func77, Tryz.ntmps77
        go_wp2_with fail
        obtain ⟨c0, c1, c2, c3, c4, c5, c6, c7, c8, c9⟩ := hX.ten 0 rfl
        generalize W0.alloc (.cells #[.int .i64 f, .int .i64 l, .int .i64 d, .int .i64 4, .int .i64 e0, .int .i64 e1, .int .i64 e2, .int .i64 e3, .int .i64 e4, .int .i64 e5] 69) = w1 at *
        generalize hBB : W0.heap.size = B at hX c0 c1 c2 c3 c4 c5 c6 c7 c8 c9 ⊢
        refine region_class (fun w' => St A c [(B, [.int .i64 f, .int .i64 l, .int .i64 d, .int .i64 4, .int .i64 e0, .int .i64 e1, .int .i64 e2, .int .i64 e3, .int .i64 e4, .int .i64 e5])] W0 w') (by kernel_rfl) (by kernel_rfl) hX.drew ?_
        clear hX c0 c1 c2 c3 c4 c5 c6 c7 c8 c9
        repeat
          first
            | (refine BigFrame.wpQuiet_skip (by rfl) ?_
               simp only [Act.put, List.setIfInBounds_toArray, List.set_cons_zero, List.set_cons_succ])
            | (refine BigFrame.wpQuiet_want (by rfl) (fun K hK => ?_)
               apply Exists.intro
               refine ⟨fun wq hq => ?_, hK _ ?_⟩
               · obtain ⟨c0, c1, c2, c3, c4, c5, c6, c7, c8, c9⟩ := hq.ten 0 rfl
                 unfold Oper.quietAt
                 go_simp
                 first
                   | with_reducible rfl
                   | ((go_at_call 89); with_reducible refine (hB _).mono ?_; exact fun e w' ⟨he, hb⟩ => ⟨he, hq.step hb⟩)
               clear hK K
               simp only [Act.put, List.setIfInBounds_toArray, List.set_cons_zero, List.set_cons_succ])
        refine wpQuiet_nil ?_
        intro w4 hX
        obtain ⟨c0, c1, c2, c3, c4, c5, c6, c7, c8, c9⟩ := hX.ten 0 rfl
        go_wp2_with fail
        go_ret2
        exact ⟨rfl, by first | exact hX.below | exact hBB ▸ hX.below⟩
  · have P : pwR 0 = 1 := by decide
    have K : okR 0 t = (decide (0 ≤ t) && decide (t % 1 = 0)) := by unfold okR; rw [P]
    have A1 : bits .and .i64 t 0 = t % 1 := (a0 t).trans (by omega)
    by_cases h0 : t < 0
    · have k : okR 0 t = false := by rw [K, decide_eq_false (by omega)]; rfl
      have e1 : opR f 0 t = 0 := if_neg (by rw [k]; decide)
      have e2 : hitR f l 0 t = false := by unfold hitR; rw [k]; rfl
      rw [e1, e2]
      clear e1 e2 k K P
      go_enter Tryz.func77, Tryz.ntmps77
      go_wp2_with fail
      obtain ⟨c0, c1, c2, c3, c4, c5, c6, c7, c8, c9⟩ := hX.ten 0 rfl
      generalize W0.alloc (.cells #[.int .i64 f, .int .i64 l, .int .i64 d, .int .i64 0, .int .i64 e0, .int .i64 e1, .int .i64 e2, .int .i64 e3, .int .i64 e4, .int .i64 e5] 69) = w1 at *
      generalize hBB : W0.heap.size = B at hX c0 c1 c2 c3 c4 c5 c6 c7 c8 c9 ⊢
      refine region_class (fun w' => St A c [(B, [.int .i64 f, .int .i64 l, .int .i64 d, .int .i64 0, .int .i64 e0, .int .i64 e1, .int .i64 e2, .int .i64 e3, .int .i64 e4, .int .i64 e5])] W0 w') (by kernel_rfl) (by kernel_rfl) hX.drew ?_
      clear hX c0 c1 c2 c3 c4 c5 c6 c7 c8 c9
      repeat
        first
          | (refine BigFrame.wpQuiet_skip (by rfl) ?_
             simp only [Act.put, List.setIfInBounds_toArray, List.set_cons_zero, List.set_cons_succ])
          | (refine BigFrame.wpQuiet_want (by rfl) (fun K hK => ?_)
             apply Exists.intro
             refine ⟨fun wq hq => ?_, hK _ ?_⟩
             · obtain ⟨c0, c1, c2, c3, c4, c5, c6, c7, c8, c9⟩ := hq.ten 0 rfl
               unfold Oper.quietAt
               go_simp
               first
                 | with_reducible rfl
                 | ((go_at_call 89); with_reducible refine (hB _).mono ?_; exact fun e w' ⟨he, hb⟩ => ⟨he, hq.step hb⟩)
             clear hK K
             simp only [Act.put, List.setIfInBounds_toArray, List.set_cons_zero, List.set_cons_succ])
      refine wpQuiet_nil ?_
      intro w4 hX
      obtain ⟨c0, c1, c2, c3, c4, c5, c6, c7, c8, c9⟩ := hX.ten 0 rfl
      go_wp2_with fail
      go_ret2
      exact ⟨rfl, by first | exact hX.below | exact hBB ▸ hX.below⟩
    · have k : okR 0 t = true := by rw [K, decide_eq_true (show 0 ≤ t by omega), decide_eq_true (show t % 1 = 0 by omega)]; rfl
      have e1 : opR f 0 t = f + t := (if_pos k).trans (by rw [P, Int.ediv_one])
      have e2 : hitR f l 0 t = decide (f + t ≤ l) := by unfold hitR; rw [k, P, Int.ediv_one]; rfl
      rw [e1, e2]
      have A1 : bits .and .i64 t 0 = 0 := a0 t
      clear e1 e2 k K P
      have V2 : IntKind.i64.wrap (f + t) = f + t := by rw [wrap_i64]; exact IntWalk.wrap64_in _ ⟨by omega, by omega⟩
      go_enter Tryz.func77, Tryz.ntmps77
      go_wp2_with fail
      obtain ⟨c0, c1, c2, c3, c4, c5, c6, c7, c8, c9⟩ := hX.ten 0 rfl
      generalize W0.alloc (.cells #[.int .i64 f, .int .i64 l, .int .i64 d, .int .i64 0, .int .i64 e0, .int .i64 e1, .int .i64 e2, .int .i64 e3, .int .i64 e4, .int .i64 e5] 69) = w1 at *
      generalize hBB : W0.heap.size = B at hX c0 c1 c2 c3 c4 c5 c6 c7 c8 c9 ⊢
      refine region_class (fun w' => St A c [(B, [.int .i64 f, .int .i64 l, .int .i64 d, .int .i64 0, .int .i64 e0, .int .i64 e1, .int .i64 e2, .int .i64 e3, .int .i64 e4, .int .i64 e5])] W0 w') (by kernel_rfl) (by kernel_rfl) hX.drew ?_
      clear hX c0 c1 c2 c3 c4 c5 c6 c7 c8 c9
      repeat
        first
          | (refine BigFrame.wpQuiet_skip (by rfl) ?_
             simp only [Act.put, List.setIfInBounds_toArray, List.set_cons_zero, List.set_cons_succ])
          | (refine BigFrame.wpQuiet_want (by rfl) (fun K hK => ?_)
             apply Exists.intro
             refine ⟨fun wq hq => ?_, hK _ ?_⟩
             · obtain ⟨c0, c1, c2, c3, c4, c5, c6, c7, c8, c9⟩ := hq.ten 0 rfl
               unfold Oper.quietAt
               go_simp
               first
                 | with_reducible rfl
                 | ((go_at_call 89); with_reducible refine (hB _).mono ?_; exact fun e w' ⟨he, hb⟩ => ⟨he, hq.step hb⟩)
             clear hK K
             simp only [Act.put, List.setIfInBounds_toArray, List.set_cons_zero, List.set_cons_succ])
      refine wpQuiet_nil ?_
      intro w4 hX
      obtain ⟨c0, c1, c2, c3, c4, c5, c6, c7, c8, c9⟩ := hX.ten 0 rfl
      go_wp2_with fail
      refine region_class (fun w' => St A c [(B, [.int .i64 f, .int .i64 l, .int .i64 d, .int .i64 0, .int .i64 e0, .int .i64 e1, .int .i64 e2, .int .i64 e3, .int .i64 e4, .int .i64 e5])] W0 w') (by kernel_rfl) (by kernel_rfl) hX.drew ?_
      clear hX c0 c1 c2 c3 c4 c5 c6 c7 c8 c9
      repeat
        first
          | (refine BigFrame.wpQuiet_skip (by rfl) ?_
             simp only [Act.put, List.setIfInBounds_toArray, List.set_cons_zero, List.set_cons_succ])
          | (refine BigFrame.wpQuiet_want (by rfl) (fun K hK => ?_)
             apply Exists.intro
             refine ⟨fun wq hq => ?_, hK _ ?_⟩
             · obtain ⟨c0, c1, c2, c3, c4, c5, c6, c7, c8, c9⟩ := hq.ten 0 rfl
               unfold Oper.quietAt
               go_simp
               first
                 | with_reducible rfl
             clear hK K
             simp only [Act.put, List.setIfInBounds_toArray, List.set_cons_zero, List.set_cons_succ])
      refine wpQuiet_nil ?_
      intro w4 hX
      obtain ⟨c0, c1, c2, c3, c4, c5, c6, c7, c8, c9⟩ := hX.ten 0 rfl
      go_wp2_with fail
      refine region_class (fun w' => St A c [(B, [.int .i64 f, .int .i64 l, .int .i64 d, .int .i64 0, .int .i64 e0, .int .i64 e1, .int .i64 e2, .int .i64 e3, .int .i64 e4, .int .i64 e5])] W0 w') (by kernel_rfl) (by kernel_rfl) hX.drew ?_
      clear hX c0 c1 c2 c3 c4 c5 c6 c7 c8 c9
      repeat
        first
          | (refine BigFrame.wpQuiet_skip (by rfl) ?_
             simp only [Act.put, List.setIfInBounds_toArray, List.set_cons_zero, List.set_cons_succ])
          | (refine BigFrame.wpQuiet_want (by rfl) (fun K hK => ?_)
             apply Exists.intro
             refine ⟨fun wq hq => ?_, hK _ ?_⟩
             · obtain ⟨c0, c1, c2, c3, c4, c5, c6, c7, c8, c9⟩ := hq.ten 0 rfl
               unfold Oper.quietAt
               go_simp
               first
                 | with_reducible rfl
             clear hK K
             simp only [Act.put, List.setIfInBounds_toArray, List.set_cons_zero, List.set_cons_succ])
      refine wpQuiet_nil ?_
      intro w4 hX
      obtain ⟨c0, c1, c2, c3, c4, c5, c6, c7, c8, c9⟩ := hX.ten 0 rfl
      go_wp2_with fail
      go_ret2
      exact ⟨rfl, by first | exact hX.below | exact hBB ▸ hX.below⟩

end Go.Proofs.YtdbbnkjnmldnpaaGreatDoor
