/-
  Walks over Step, Valid, Writable, Field and From of package operand and of its reference. No condition.
-/
import Derived.Test.YtipaednpelapgaaDoorOpB
namespace Go.Proofs.YtipaednpelapgaaDoor
open Go.RowKit
set_option linter.unusedSimpArgs false
set_option maxHeartbeats 1000000
set_option maxRecDepth 100000
attribute [local irreducible] wpQuiet

theorem rfield_any (m r x : Int) (w : World) : Calls Tryd.prog 82 #[.agg #[.int .i64 m, .int .i64 r, .int .i64 x]] w fun e w' => e = .returned (.int .i64 (fdR m r)) ∧ Below w.heap.size w w' := by
  have hm := fun w => rmode_any m r x w
  have hr := fun w => rreg_any m r x w
  have hX := Bx.put m r x w
  have hM := low_bd m
  have hR := low_bd r
  unfold fdR
  generalize m % 8 = M at *
  generalize r % 8 = R at *
  obtain ⟨hM, hM2⟩ := hM
  obtain ⟨hR, hR2⟩ := hR
  have V : IntKind.i64.wrap (8 * M) = 8 * M := by rw [wrap_i64]; exact IntWalk.wrap64_in _ ⟨by omega, by omega⟩
  have V2 : IntKind.i64.wrap (8 * M + R) = 8 * M + R := by rw [wrap_i64]; exact IntWalk.wrap64_in _ ⟨by omega, by omega⟩
  go_enter Tryd.func82, Tryd.ntmps82
  go_wp2_with fail
  have c0 := hX.c0
  have c1 := hX.c1
  have c2 := hX.c2
  generalize w.alloc (.cells #[.int .i64 m, .int .i64 r, .int .i64 x] 29) = w1 at *
  generalize hBB : w.heap.size = B at hX c0 c1 c2 ⊢
  refine region_class (fun w' => Bx B m r x w w') (by kernel_rfl) (by kernel_rfl) (hX.drew) ?_
  clear hX c0 c1 c2
  repeat
    first
      | (refine BigFrame.wpQuiet_skip (by rfl) ?_
         simp only [Act.put, List.setIfInBounds_toArray, List.set_cons_zero, List.set_cons_succ])
      | (refine BigFrame.wpQuiet_want (by rfl) (fun K hK => ?_)
         apply Exists.intro
         refine ⟨fun wq hq => ?_, hK _ ?_⟩
         · have c0 := hq.c0; have c1 := hq.c1; have c2 := hq.c2
           unfold Oper.quietAt
           go_simp
           first
             | with_reducible rfl
             | ((go_at_call 54); with_reducible refine (hm _).mono ?_; exact fun e w' ⟨he, hb⟩ => ⟨he, hq.step hb⟩)
             | ((go_at_call 55); with_reducible refine (hr _).mono ?_; exact fun e w' ⟨he, hb⟩ => ⟨he, hq.step hb⟩)
         clear hK K
         simp only [Act.put, List.setIfInBounds_toArray, List.set_cons_zero, List.set_cons_succ])
  refine wpQuiet_nil ?_
  intro w4 hX
  go_wp2
  go_ret
  exact ⟨rfl, by first | exact hX.below | exact hBB ▸ hX.below⟩

theorem from_any (n : Int) (w : World) : Calls Tryd.prog 91 #[.int .i64 n] w fun e w' => e = .returned (.agg #[.int .i64 (n / 8 % 8), .int .i64 (n % 8), .int .i64 0]) ∧ Below w.heap.size w w' := by
  have A := a7 (n / 8)
  have B := a7 n
  generalize n / 8 % 8 = M at *
  generalize n % 8 = R at *
  go_enter Tryd.func91, Tryd.ntmps91
  go_wp2
  refine bodyPost_ret (v := .agg #[.int .i64 M, .int .i64 R, .int .i64 0]) (by simp [results, Tryd.results91, go_sem]) rfl ⟨rfl, (Below.refl _ _).alloc (Nat.le_refl _) _⟩

end Go.Proofs.YtipaednpelapgaaDoor
