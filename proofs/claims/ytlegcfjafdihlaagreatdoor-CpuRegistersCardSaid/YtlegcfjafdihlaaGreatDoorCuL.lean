/-
  The law of CpuRegisters. Condition: the listed tables.
-/
import Derived.Test.YtlegcfjafdihlaaGreatDoorCuC
import Derived.Test.YtlegcfjafdihlaaGreatDoorCuE
import Derived.Test.YtlegcfjafdihlaaGreatDoorAlv
namespace Go.Proofs.YtlegcfjafdihlaaGreatDoor
open Go.RowKit Psw
set_option linter.unusedSimpArgs false
set_option linter.unusedVariables false
set_option maxHeartbeats 4000000
set_option maxRecDepth 100000
attribute [local irreducible] wpQuiet
variable {A : Addr} {c : Nat} {w : World}
theorem CpuRegisters_law {l : List Int} (hl : l.length = 10) (n v : Int) (W : Tab A c w) : Calls Tryz.prog 3 #[cpuV l, .int .i64 n, .int .i64 v] w fun e w' => e = .returned (.bool true) ∧ Below w.heap.size w w' := by
  have hl2 := hl
  obtain ⟨r0, r1, r2, r3, r4, r5, r6, r7, r8, r9, rfl⟩ := ten hl
  have R1 := fun w' (h : Below w.heap.size w w') => right_any hl2 (W.below h)
  have R2 := fun w' => rright_any hl2 w'
  have R3 := fun w' => register_any hl2 n w'
  have R4 := fun w' => rregister_any hl2 n w'
  have R5 := fun w' (h : Below w.heap.size w w') => setRegister_any hl2 n v (W.below h)
  have R6 := fun w' => rsetRegister_any hl2 n v w'
  have h10 := srL_len hl2 (md r9) n v
  simp only [List.getD_cons_succ, List.getD_cons_zero] at R3 R4 R5 R6
  have hq20 := fun w => cpu_eq20 _ h10 w
  generalize srL [r0, r1, r2, r3, r4, r5, r6, r7, r8, r9] (md r9) n v = SL at *
  generalize rgL [r0, r1, r2, r3, r4, r5, r6, r7, r8, r9] (md r9) n = RV at *
  generalize rtL [r0, r1, r2, r3, r4, r5, r6, r7, r8, r9] = b at *
  simp only [cpuV, List.map_cons, List.map_nil] at R1 R2 R3 R4 R5 R6 ⊢
  cases b
  all_goals
    go_enter Tryz.func3, Tryz.ntmps3
    go_wp2
    refine region_class (Cop [Value.int .i64 r0, .int .i64 r1, .int .i64 r2, .int .i64 r3, .int .i64 r4, .int .i64 r5, .int .i64 r6, .int .i64 r7, .int .i64 r8, .int .i64 r9] w.heap.size w) (by kernel_rfl) (by kernel_rfl) (Cop.new _ w) ?_
    repeat
      first
        | (refine BigFrame.wpQuiet_skip (by rfl) ?_
           simp only [Act.put, List.setIfInBounds_toArray, List.set_cons_zero, List.set_cons_succ])
        | (refine BigFrame.wpQuiet_want (by rfl) (fun K hK => ?_)
           apply Exists.intro
           refine ⟨fun wq hq => ?_, hK _ ?_⟩
           · first
             | exact quiet_load 25 _ _ _ rfl rfl (hq.blk.loadAt rfl aggC sizC)
             | (unfold Oper.quietAt
                go_simp
                first
                  | with_reducible rfl
                  | ((go_at_call 7); exact (R1 _ hq.bel).mono (fun e w' ⟨he, hb⟩ => ⟨he, hq.step hb⟩))
                  | ((go_at_call 8); exact (R2 _).mono (fun e w' ⟨he, hb⟩ => ⟨he, hq.step hb⟩))
                  | ((go_at_call 9); exact (alive_any (W.below hq.bel)).mono (fun e w' ⟨he, hb⟩ => ⟨he, hq.step hb⟩))
                  | ((go_at_call 10); exact (R3 _).mono (fun e w' ⟨he, hb⟩ => ⟨he, hq.step hb⟩))
                  | ((go_at_call 11); exact (R4 _).mono (fun e w' ⟨he, hb⟩ => ⟨he, hq.step hb⟩))
                  | ((go_at_call 12); exact (R5 _ hq.bel).mono (fun e w' ⟨he, hb⟩ => ⟨he, hq.step hb⟩))
                  | ((go_at_call 13); exact (R6 _).mono (fun e w' ⟨he, hb⟩ => ⟨he, hq.step hb⟩)))
           clear hK K
           simp only [Act.put, List.setIfInBounds_toArray, List.set_cons_zero, List.set_cons_succ])
    refine wpQuiet_nil ?_
    intro w4 hS
    go_wp2_with (first
      | (go_at_call 8; refine (R2 _).mono ?_; rintro e w5 ⟨rfl, hb⟩; replace hS := hS.step hb; clear hb)
      | (go_at_call 9; refine (alive_any (W.below hS.bel)).mono ?_; rintro e w6 ⟨rfl, hb⟩; replace hS := hS.step hb; clear hb)
      | (refine wpList_loadW rfl 25 _ _ _ rfl rfl (hS.blk.loadAt rfl aggC sizC) ?_))
  · go_ret
    exact ⟨rfl, hS.bel⟩
  · refine region_class (Cop [Value.int .i64 r0, .int .i64 r1, .int .i64 r2, .int .i64 r3, .int .i64 r4, .int .i64 r5, .int .i64 r6, .int .i64 r7, .int .i64 r8, .int .i64 r9] w.heap.size w) (by kernel_rfl) (by kernel_rfl) ⟨hS.blk, hS.bel.drew⟩ ?_
    repeat
      first
        | (refine BigFrame.wpQuiet_skip (by rfl) ?_
           simp only [Act.put, List.setIfInBounds_toArray, List.set_cons_zero, List.set_cons_succ])
        | (refine BigFrame.wpQuiet_want (by rfl) (fun K hK => ?_)
           apply Exists.intro
           refine ⟨fun wq hq => ?_, hK _ ?_⟩
           · first
             | exact quiet_load 25 _ _ _ rfl rfl (hq.blk.loadAt rfl aggC sizC)
             | (unfold Oper.quietAt
                go_simp
                first
                  | with_reducible rfl
                  | ((go_at_call 7); exact (R1 _ hq.bel).mono (fun e w' ⟨he, hb⟩ => ⟨he, hq.step hb⟩))
                  | ((go_at_call 8); exact (R2 _).mono (fun e w' ⟨he, hb⟩ => ⟨he, hq.step hb⟩))
                  | ((go_at_call 9); exact (alive_any (W.below hq.bel)).mono (fun e w' ⟨he, hb⟩ => ⟨he, hq.step hb⟩))
                  | ((go_at_call 10); exact (R3 _).mono (fun e w' ⟨he, hb⟩ => ⟨he, hq.step hb⟩))
                  | ((go_at_call 11); exact (R4 _).mono (fun e w' ⟨he, hb⟩ => ⟨he, hq.step hb⟩))
                  | ((go_at_call 12); exact (R5 _ hq.bel).mono (fun e w' ⟨he, hb⟩ => ⟨he, hq.step hb⟩))
                  | ((go_at_call 13); exact (R6 _).mono (fun e w' ⟨he, hb⟩ => ⟨he, hq.step hb⟩)))
           clear hK K
           simp only [Act.put, List.setIfInBounds_toArray, List.set_cons_zero, List.set_cons_succ])
    refine wpQuiet_nil ?_
    intro w5 hS5
    go_wp2
    go_ret
    exact ⟨rfl, hS5.bel⟩
end Go.Proofs.YtlegcfjafdihlaaGreatDoor
