/-
  Walk over the statement DisasmOperands: whatever the input, it answers true. Condition: the tables read as the program's text lays them.
-/
import Derived.Test.YtipaednpelapgaaDoorDwQ
import Derived.Test.YtipaednpelapgaaDoorDsR
namespace Go.Proofs.YtipaednpelapgaaDoor
open Go.RowKit
set_option linter.unusedSimpArgs false
set_option linter.unusedVariables false
set_option maxHeartbeats 8000000
set_option maxRecDepth 100000
attribute [local irreducible] wpQuiet

theorem operands_law (m r x nx : Int) {A : Addr} {c : Nat} (W0 : World) (W : Dis A c W0) (T : Tab 4 rgs W0) :
    Calls Tryd.prog 4 #[.agg #[.int .i64 m, .int .i64 r, .int .i64 x], .int .i64 nx] W0 fun e w' => e = .returned (.bool true) ∧ Below W0.heap.size W0 w' := by
  have hX := (St.start W.frm).put [.int .i64 m, .int .i64 r, .int .i64 x] 29
  have h1 := fun w D => dopr_any m r x nx (A := A) (c := c) w D
  have h2 := fun w (k : Frm A c w) t => ropr_any m r x nx w k t
  have h3 := fun w (D : Dis A c w) => alive_any w D
  generalize opT m r x nx = S at *
  obtain ⟨b0, b1, b2⟩ := hX.three 0 rfl
  go_enter Tryd.func4, Tryd.ntmps4
  go_upto_region 1 with fail
  generalize W0.alloc (.cells #[.int .i64 m, .int .i64 r, .int .i64 x] 29) = w1 at *
  generalize hBB : W0.heap.size = B at hX b0 b1 b2 ⊢
  refine region_class (fun w' => St A c [(B, [.int .i64 m, .int .i64 r, .int .i64 x])] W0 w') (by kernel_rfl) (by kernel_rfl) hX.drew ?_
  clear hX b0 b1 b2
  repeat
    first
      | (refine BigFrame.wpQuiet_skip (by rfl) ?_
         simp only [Act.put, List.setIfInBounds_toArray, List.set_cons_zero, List.set_cons_succ])
      | (refine BigFrame.wpQuiet_want (by rfl) (fun K hK => ?_)
         apply Exists.intro
         refine ⟨fun wq hq => ?_, hK _ ?_⟩
         · obtain ⟨b0, b1, b2⟩ := hq.three 0 rfl
           unfold Oper.quietAt
           go_simp
           first
             | with_reducible rfl
             | ((go_at_call 13); with_reducible refine (h1 _ (hq.dis W)).mono ?_; exact fun e w' ⟨he, hb⟩ => ⟨he, hq.step hb⟩)
             | ((go_at_call 14); with_reducible refine (h2 _ hq.frm (T.step hq.below)).mono ?_; exact fun e w' ⟨he, hb⟩ => ⟨he, hq.step hb⟩)
             | ((go_at_call 8); with_reducible refine (h3 _ (hq.dis W)).mono ?_; exact fun e w' ⟨he, hb⟩ => ⟨he, hq.step hb⟩)
         clear hK K
         simp only [Act.put, List.setIfInBounds_toArray, List.set_cons_zero, List.set_cons_succ])
  refine wpQuiet_nil ?_
  intro w4 hX
  go_wp2
  go_ret
  exact ⟨rfl, by first | exact hX.below | exact hBB ▸ hX.below⟩

end Go.Proofs.YtipaednpelapgaaDoor
