/-
  Walks over the chapter's examples. No condition.
-/
import Derived.Test.YtgppklkaehhokaaOpD
namespace Go.Proofs.Ytgppklkaehhokaa
open Go.RowKit
set_option linter.unusedSimpArgs false
set_option maxHeartbeats 4000000
set_option maxRecDepth 100000
attribute [local irreducible] wpQuiet

/-- The three boxes of the examples. -/
structure B3 (B : Nat) (w0 w : World) : Prop where
  a : Bx B 5 3 0 w0 w
  b : Bx (B + 1) 2 7 7 w0 w
  c : Bx (B + 1 + 1) 3 7 7 w0 w
theorem B3.step {B : Nat} {w0 w w' : World} (h : B3 B w0 w) (hb : Below w.heap.size w w') : B3 B w0 w' := ⟨h.a.step hb, h.b.step hb, h.c.step hb⟩
theorem B3.put (w : World) : B3 w.heap.size w (((w.alloc (.cells #[.int .i64 5, .int .i64 3, .int .i64 0] 23)).alloc (.cells #[.int .i64 2, .int .i64 7, .int .i64 7] 23)).alloc (.cells #[.int .i64 3, .int .i64 7, .int .i64 7] 23)) := by
  have X := Bx.put 5 3 0 w
  have Y := Bx.put 2 7 7 (w.alloc (.cells #[.int .i64 5, .int .i64 3, .int .i64 0] 23))
  have Z := Bx.put 3 7 7 ((w.alloc (.cells #[.int .i64 5, .int .i64 3, .int .i64 0] 23)).alloc (.cells #[.int .i64 2, .int .i64 7, .int .i64 7] 23))
  have X2 := (X.step Y.below).step Z.below
  have Y2 := Y.step Z.below
  have ey : (w.alloc (.cells #[.int .i64 5, .int .i64 3, .int .i64 0] 23)).heap.size = w.heap.size + 1 := by simp
  have ez : ((w.alloc (.cells #[.int .i64 5, .int .i64 3, .int .i64 0] 23)).alloc (.cells #[.int .i64 2, .int .i64 7, .int .i64 7] 23)).heap.size = w.heap.size + 1 + 1 := by simp
  rw [ey] at Y2; rw [ez] at Z
  exact ⟨X2, ⟨Y2.c0, Y2.c1, Y2.c2, Y2.lt, X2.below⟩, ⟨Z.c0, Z.c1, Z.c2, Z.lt, X2.below⟩⟩
theorem B3.drew {B : Nat} {w0 w : World} (h : B3 B w0 w) : B3 B w0 w.drew := ⟨h.a.drew, h.b.drew, h.c.drew⟩

theorem alive_any (w : World) : Calls Try.prog 12 #[] w fun e w' => e = .returned (.bool true) ∧ Below w.heap.size w w' := by
  have q0 : ∀ w, Calls Try.prog 13 #[.agg #[.int .i64 5, .int .i64 3, .int .i64 0]] w fun e w' => e = .returned (.int .i64 43) ∧ Below w.heap.size w w' := fun w => field_any 5 3 0 w
  have q1 : ∀ w, Calls Try.prog 15 #[.int .i64 43] w fun e w' => e = .returned (.agg #[.int .i64 5, .int .i64 3, .int .i64 0]) ∧ Below w.heap.size w w' := fun w => from_any 43 w
  have q2 : ∀ w, Calls Try.prog 21 #[.agg #[.int .i64 5, .int .i64 3, .int .i64 0], .bool true] w fun e w' => e = .returned (.int .i64 (-2)) ∧ Below w.heap.size w w' := fun w => step_any 5 3 0 true w
  have q3 : ∀ w, Calls Try.prog 17 #[.agg #[.int .i64 2, .int .i64 7, .int .i64 7]] w fun e w' => e = .returned (.bool true) ∧ Below w.heap.size w w' := fun w => ext_any 2 7 7 w
  have q4 : ∀ w, Calls Try.prog 21 #[.agg #[.int .i64 2, .int .i64 7, .int .i64 7], .bool false] w fun e w' => e = .returned (.int .i64 0) ∧ Below w.heap.size w w' := fun w => step_any 2 7 7 false w
  have q5 : ∀ w, Calls Try.prog 10 #[.agg #[.int .i64 2, .int .i64 7, .int .i64 7]] w fun e w' => e = .returned (.bool false) ∧ Below w.heap.size w w' := fun w => writable_any 2 7 7 w
  have q6 : ∀ w, Calls Try.prog 10 #[.agg #[.int .i64 3, .int .i64 7, .int .i64 7]] w fun e w' => e = .returned (.bool true) ∧ Below w.heap.size w w' := fun w => writable_any 3 7 7 w
  have q7 : ∀ w, Calls Try.prog 19 #[.agg #[.int .i64 3, .int .i64 7, .int .i64 7]] w fun e w' => e = .returned (.bool true) ∧ Below w.heap.size w w' := fun w => def_any 3 7 7 w
  have q8 : ∀ w, Calls Try.prog 19 #[.agg #[.int .i64 2, .int .i64 7, .int .i64 7]] w fun e w' => e = .returned (.bool false) ∧ Below w.heap.size w w' := fun w => def_any 2 7 7 w
  have q9 : ∀ w, Calls Try.prog 21 #[.agg #[.int .i64 2, .int .i64 6, .int .i64 0], .bool true] w fun e w' => e = .returned (.int .i64 2) ∧ Below w.heap.size w w' := fun w => step_any 2 6 0 true w
  have q10 : ∀ w, Calls Try.prog 21 #[.agg #[.int .i64 2, .int .i64 0, .int .i64 0], .bool true] w fun e w' => e = .returned (.int .i64 1) ∧ Below w.heap.size w w' := fun w => step_any 2 0 0 true w
  have q11 : ∀ w, Calls Try.prog 21 #[.agg #[.int .i64 4, .int .i64 0, .int .i64 0], .bool false] w fun e w' => e = .returned (.int .i64 (-2)) ∧ Below w.heap.size w w' := fun w => step_any 4 0 0 false w
  have q12 : ∀ w, Calls Try.prog 8 #[.agg #[.int .i64 1, .int .i64 0, .int .i64 5]] w fun e w' => e = .returned (.bool false) ∧ Below w.heap.size w w' := fun w => valid_any 1 0 5 w
  have q13 : ∀ w, Calls Try.prog 8 #[.agg #[.int .i64 5, .int .i64 3, .int .i64 0]] w fun e w' => e = .returned (.bool true) ∧ Below w.heap.size w w' := fun w => valid_any 5 3 0 w
  go_enter Try.func12, Try.ntmps12
  go_wp2_with fail
  have hX := B3.put w
  generalize (((w.alloc (.cells #[.int .i64 5, .int .i64 3, .int .i64 0] 23)).alloc (.cells #[.int .i64 2, .int .i64 7, .int .i64 7] 23)).alloc (.cells #[.int .i64 3, .int .i64 7, .int .i64 7] 23)) = w1 at *
  obtain ⟨B, hBB⟩ : ∃ B, w.heap.size = B := ⟨_, rfl⟩
  rw [hBB] at hX
  simp only [hBB]
  refine region_class (fun w' => B3 B w w') (by kernel_rfl) (by kernel_rfl) (hX.drew) ?_
  clear hX
  repeat
    first
      | (refine BigFrame.wpQuiet_skip (by rfl) ?_
         simp only [Act.put, List.setIfInBounds_toArray, List.set_cons_zero, List.set_cons_succ])
      | (refine BigFrame.wpQuiet_want (by rfl) (fun K hK => ?_)
         apply Exists.intro
         refine ⟨fun wq hq => ?_, hK _ ?_⟩
         · have c0 := hq.a.c0; have c1 := hq.a.c1; have c2 := hq.a.c2; have c3 := hq.b.c0; have c4 := hq.b.c1; have c5 := hq.b.c2; have c6 := hq.c.c0; have c7 := hq.c.c1; have c8 := hq.c.c2
           unfold Oper.quietAt
           go_simp
           first
             | with_reducible rfl
             | ((go_at_call 13); with_reducible refine (q0 _).mono ?_; exact fun e w' ⟨he, hb⟩ => ⟨he, hq.step hb⟩)
             | ((go_at_call 15); with_reducible refine (q1 _).mono ?_; exact fun e w' ⟨he, hb⟩ => ⟨he, hq.step hb⟩)
             | ((go_at_call 21); with_reducible refine (q2 _).mono ?_; exact fun e w' ⟨he, hb⟩ => ⟨he, hq.step hb⟩)
             | ((go_at_call 17); with_reducible refine (q3 _).mono ?_; exact fun e w' ⟨he, hb⟩ => ⟨he, hq.step hb⟩)
             | ((go_at_call 21); with_reducible refine (q4 _).mono ?_; exact fun e w' ⟨he, hb⟩ => ⟨he, hq.step hb⟩)
             | ((go_at_call 10); with_reducible refine (q5 _).mono ?_; exact fun e w' ⟨he, hb⟩ => ⟨he, hq.step hb⟩)
             | ((go_at_call 10); with_reducible refine (q6 _).mono ?_; exact fun e w' ⟨he, hb⟩ => ⟨he, hq.step hb⟩)
             | ((go_at_call 19); with_reducible refine (q7 _).mono ?_; exact fun e w' ⟨he, hb⟩ => ⟨he, hq.step hb⟩)
             | ((go_at_call 19); with_reducible refine (q8 _).mono ?_; exact fun e w' ⟨he, hb⟩ => ⟨he, hq.step hb⟩)
             | ((go_at_call 21); with_reducible refine (q9 _).mono ?_; exact fun e w' ⟨he, hb⟩ => ⟨he, hq.step hb⟩)
             | ((go_at_call 21); with_reducible refine (q10 _).mono ?_; exact fun e w' ⟨he, hb⟩ => ⟨he, hq.step hb⟩)
             | ((go_at_call 21); with_reducible refine (q11 _).mono ?_; exact fun e w' ⟨he, hb⟩ => ⟨he, hq.step hb⟩)
             | ((go_at_call 8); with_reducible refine (q12 _).mono ?_; exact fun e w' ⟨he, hb⟩ => ⟨he, hq.step hb⟩)
             | ((go_at_call 8); with_reducible refine (q13 _).mono ?_; exact fun e w' ⟨he, hb⟩ => ⟨he, hq.step hb⟩)
         clear hK K
         simp only [Act.put, List.setIfInBounds_toArray, List.set_cons_zero, List.set_cons_succ])
  refine wpQuiet_nil ?_
  intro w4 hX
  have c0 := hX.a.c0; have c1 := hX.a.c1; have c2 := hX.a.c2
  have c3 := hX.b.c0; have c4 := hX.b.c1; have c5 := hX.b.c2
  have c6 := hX.c.c0; have c7 := hX.c.c1; have c8 := hX.c.c2
  go_wp2_with (first | (go_at_call 21; with_reducible refine (q9 _).mono ?_; rintro e w' ⟨rfl, hb⟩; have hX := hX.step hb; have c0 := hX.a.c0; have c1 := hX.a.c1; have c2 := hX.a.c2; clear hb) | (go_at_call 21; with_reducible refine (q10 _).mono ?_; rintro e w' ⟨rfl, hb⟩; have hX := hX.step hb; have c0 := hX.a.c0; have c1 := hX.a.c1; have c2 := hX.a.c2; clear hb) | (go_at_call 21; with_reducible refine (q11 _).mono ?_; rintro e w' ⟨rfl, hb⟩; have hX := hX.step hb; have c0 := hX.a.c0; have c1 := hX.a.c1; have c2 := hX.a.c2; clear hb) | (go_at_call 8; with_reducible refine (q12 _).mono ?_; rintro e w' ⟨rfl, hb⟩; have hX := hX.step hb; have c0 := hX.a.c0; have c1 := hX.a.c1; have c2 := hX.a.c2; clear hb) | (go_at_call 8; with_reducible refine (q13 _).mono ?_; rintro e w' ⟨rfl, hb⟩; have hX := hX.step hb; have c0 := hX.a.c0; have c1 := hX.a.c1; have c2 := hX.a.c2; clear hb))
  go_ret
  exact ⟨rfl, by first | exact hX.a.below | exact hBB ▸ hX.a.below⟩

end Go.Proofs.Ytgppklkaehhokaa
