/-
  The law MmuMapped, joined. Condition: the address is a word (what the type uint16 says).
-/
import Derived.Test.YtggnbfilkogcoaaLw9F
namespace Go.Proofs.Ytggnbfilkogcoaa
open Go.RowKit
set_option linter.unusedSimpArgs false
set_option linter.unusedVariables false
set_option maxHeartbeats 8000000
set_option maxRecDepth 100000
attribute [local irreducible] wpQuiet

theorem mapped_law (u : Un) (hu : u.ok) (mode base blocks acc ad : Int) (a0 : 0 ≤ ad) (a1 : ad ≤ 65535) (W0 : World) : Calls Try.prog 9 #[.agg u.L.toArray, .agg [.int .i64 mode, .int .i64 base, .int .i64 blocks, .int .i64 acc].toArray, .int .u16 ad] W0 fun e w' => e = .returned (.bool true) ∧ Below W0.heap.size W0 w' := by
  by_cases hr : u.right = true
  · by_cases m0 : mode < 0
    · exact mapped_no u hu mode base blocks acc ad a0 a1 W0 (.inr (.inl m0))
    · by_cases m1 : 1 < mode
      · exact mapped_no u hu mode base blocks acc ad a0 a1 W0 (.inr (.inr m1))
      · by_cases h : okMap mode base blocks acc
        · have hh := h
          unfold okMap at hh
          rcases (by omega : mode = 0 ∨ mode = 1) with rfl | rfl
          · by_cases ho : 64 * blocks ≤ ad
            · exact mapped_out0 u hu base blocks acc ad a0 a1 W0 hr h ho
            · rcases (by omega : acc = 1 ∨ acc = 2) with rfl | rfl
              · exact mapped_in01 u hu base blocks ad a0 a1 W0 hr h ho
              · exact mapped_in02 u hu base blocks ad a0 a1 W0 hr h ho
          · by_cases ho : 64 * blocks ≤ ad
            · exact mapped_out1 u hu base blocks acc ad a0 a1 W0 hr h ho
            · rcases (by omega : acc = 1 ∨ acc = 2) with rfl | rfl
              · exact mapped_in11 u hu base blocks ad a0 a1 W0 hr h ho
              · exact mapped_in12 u hu base blocks ad a0 a1 W0 hr h ho
        · exact mapped_bad u hu mode base blocks acc ad a0 a1 W0 hr (by omega) (by omega) h
  · exact mapped_no u hu mode base blocks acc ad a0 a1 W0 (.inl (by simpa using hr))
end Go.Proofs.Ytggnbfilkogcoaa
