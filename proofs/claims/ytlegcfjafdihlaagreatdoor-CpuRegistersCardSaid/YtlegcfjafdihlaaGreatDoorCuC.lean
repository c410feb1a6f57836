/-
  The registers: Register and SetRegister, of the package and of the reference. Condition: the table of widths.
-/
import Derived.Test.YtlegcfjafdihlaaGreatDoorCuB
import Derived.Test.YtlegcfjafdihlaaGreatDoorCelm
import Derived.Test.YtlegcfjafdihlaaGreatDoorBagG
import Derived.Test.YtlegcfjafdihlaaGreatDoorReg
import Derived.Test.YtlegcfjafdihlaaGreatDoorTail
namespace Go.Proofs.YtlegcfjafdihlaaGreatDoor
open Go.RowKit Psw
set_option linter.unusedSimpArgs false
set_option linter.unusedVariables false
set_option maxHeartbeats 4000000
set_option maxRecDepth 100000
attribute [local irreducible] wpQuiet

variable {A : Addr} {c : Nat} {w : World}
theorem registerIn_any {l : List Int} (hl : l.length = 10) (m n : Int) (hm : m = 0 ∨ m = 1) (w : World) : Calls Tryz.prog 29 #[cpuV l, .int .i64 m, .int .i64 n] w fun e w' => e = .returned (.int .i64 (rgL l m n)) ∧ Below w.heap.size w w' := by
  obtain ⟨r0, r1, r2, r3, r4, r5, r6, r7, r8, r9, rfl⟩ := ten hl
  simp only [cpuV, List.map_cons, List.map_nil]
  rcases which n with rfl | rfl | rfl | rfl | rfl | rfl | rfl | rfl | h | h <;> rcases hm with rfl | rfl
  all_goals try have h7 : (n == 7) = false := by simp; omega
  all_goals try have h6 : (n == 6) = false := by simp; omega
  all_goals try (have h0 : ¬ 0 ≤ n := by omega)
  all_goals try (have h0 : ¬ n < 6 := by omega)
  all_goals
    go_enter Tryz.func29, Tryz.ntmps29
    go_wp2
    go_ret
    refine ⟨ret_int ?_, al_below⟩
  all_goals (try rfl)
  all_goals (rw [rgL, if_neg (by omega), if_neg (by omega), if_neg (by omega)])
theorem withRegisterIn_any {l : List Int} (hl : l.length = 10) (m n v : Int) (hm : m = 0 ∨ m = 1) (W : Tab A c w) : Calls Tryz.prog 32 #[cpuV l, .int .i64 m, .int .i64 n, .int .i64 v] w fun e w' => e = .returned (cpuV (srL l m n v)) ∧ Below w.heap.size w w' := by
  obtain ⟨r0, r1, r2, r3, r4, r5, r6, r7, r8, r9, rfl⟩ := ten hl
  have W1 : ∀ w', Below w.heap.size w w' → Tab A c w' := fun w' h => W.below h
  simp only [cpuV, List.map_cons, List.map_nil]
  rcases which n with rfl | rfl | rfl | rfl | rfl | rfl | rfl | rfl | h | h <;> rcases hm with rfl | rfl
  all_goals try have h7 : (n == 7) = false := by simp; omega
  all_goals try have h6 : (n == 6) = false := by simp; omega
  all_goals try (have h0 : ¬ 0 ≤ n := by omega)
  all_goals try (have h0 : ¬ n < 6 := by omega)
  all_goals
    go_enter Tryz.func32, Tryz.ntmps32
    go_wp2_with (go_at_call 58; refine (wrap20 _ (W1 _ al2_below)).mono ?_; rintro e w' ⟨rfl, rfl⟩)
  all_goals
    (try simp only [Exit.inBlock, Exit.then])
    refine bodyPost_ret (results_cell_row (P := Tryz.prog) rfl _ _ (w.heap.size + 1) 25 _ _ _ rfl (heap_alloc2_new _ _ _) Tryz.underlying25 rfl (by kernel_rfl)) rfl ⟨?_, al2_below⟩
  all_goals (try rfl)
  all_goals (rw [srL, if_neg (by omega), if_neg (by omega), if_neg (by omega)]; rfl)
theorem rregister_any {l : List Int} (hl : l.length = 10) (n : Int) (w : World) : Calls Tryz.prog 11 #[cpuV l, .int .i64 n] w fun e w' => e = .returned (.int .i64 (rgL l (md (l.getD 9 0)) n)) ∧ Below w.heap.size w w' := by
  obtain ⟨r0, r1, r2, r3, r4, r5, r6, r7, r8, r9, rfl⟩ := ten hl
  obtain ⟨M, hM⟩ : ∃ M, md r9 = M := ⟨_, rfl⟩
  have hm := md01 r9
  have RM := fun w => rmode_any r9 w
  rw [show md (([r0, r1, r2, r3, r4, r5, r6, r7, r8, r9] : List Int).getD 9 0) = M from hM]
  simp only [hM] at RM
  rw [hM] at hm
  simp only [cpuV, List.map_cons, List.map_nil]
  rcases which n with rfl | rfl | rfl | rfl | rfl | rfl | rfl | rfl | h | h <;> rcases hm with rfl | rfl
  all_goals try have h7 : (n == 7) = false := by simp; omega
  all_goals try have h6 : (n == 6) = false := by simp; omega
  all_goals try (have h0 : ¬ 0 ≤ n := by omega)
  all_goals try (have h0 : ¬ n < 6 := by omega)
  all_goals
    go_enter Tryz.func11, Tryz.ntmps11
    go_wp2_with (go_at_call 31; refine (RM _).mono ?_; rintro e w' ⟨rfl, rfl⟩)
    go_ret
    refine ⟨ret_int ?_, al_below⟩
  all_goals (try rfl)
  all_goals (rw [rgL, if_neg (by omega), if_neg (by omega), if_neg (by omega)])
theorem aggC (w : World) : (isAgg 25).run Tryz.prog w = .ok true w := by kernel_rfl
theorem sizC (w : World) : (sizeOf 25).run Tryz.prog w = .ok 10 w := by kernel_rfl
theorem aggI20 (w : World) : (isAgg 3).run Tryz.prog w = .ok false w := by kernel_rfl
/-- One copy of the registers, that stays while the rest only grows. -/
structure Cop (l : List Value) (B : Nat) (w w' : World) : Prop where
  blk : Blk 25 w' B l
  bel : Below w.heap.size w w'
theorem Cop.step {l : List Value} {B : Nat} {w w1 w2 : World} (h : Cop l B w w1) (k : Below w1.heap.size w1 w2) : Cop l B w w2 :=
  ⟨by have := h.blk; unfold Blk at this ⊢; rw [k.block _ h.blk.lt]; exact this, h.bel.trans (k.mono h.bel.size)⟩
theorem Cop.new' (l : List Value) (w : World) : Cop l w.heap.size w (w.alloc (.cells l.toArray 25)) := ⟨Blk.new 25 w l, al_below⟩
theorem Cop.two (l : List Value) (o : Obj) (w : World) : Cop l w.heap.size w ((w.alloc (.cells l.toArray 25)).alloc o).drew := (Cop.new' l w).step (Below.alloc (Below.refl _ _) (Nat.le_refl _) _).drew
theorem Cop.new (l : List Value) (w : World) : Cop l w.heap.size w (w.alloc (.cells l.toArray 25)).drew := ⟨Blk.new 25 w l, al_below.drew⟩
theorem register_any {l : List Int} (hl : l.length = 10) (n : Int) (w : World) : Calls Tryz.prog 10 #[cpuV l, .int .i64 n] w fun e w' => e = .returned (.int .i64 (rgL l (md (l.getD 9 0)) n)) ∧ Below w.heap.size w w' := by
  have hl2 := hl
  obtain ⟨r0, r1, r2, r3, r4, r5, r6, r7, r8, r9, rfl⟩ := ten hl
  have RG := fun w => registerIn_any hl2 (md r9) n (md01 r9) w
  simp only [cpuV, List.map_cons, List.map_nil] at RG ⊢
  go_enter Tryz.func10, Tryz.ntmps10
  go_wp2
  refine region_class (Cop [Value.int .i64 r0, .int .i64 r1, .int .i64 r2, .int .i64 r3, .int .i64 r4, .int .i64 r5, .int .i64 r6, .int .i64 r7, .int .i64 r8, .int .i64 r9] w.heap.size w) (by kernel_rfl) (by kernel_rfl) (Cop.new _ w) ?_
  repeat
    first
      | (refine BigFrame.wpQuiet_skip (by rfl) ?_
         simp only [Act.put, List.setIfInBounds_toArray, List.set_cons_zero, List.set_cons_succ])
      | (refine BigFrame.wpQuiet_want (by rfl) (fun K hK => ?_)
         apply Exists.intro
         refine ⟨fun wq hq => ?_, hK _ ?_⟩
         · first
           | exact quiet_load 25 _ _ _ rfl rfl (hq.blk.loadAt rfl aggC sizC)
           | exact quiet_load 3 _ (.pointer (some ⟨w.heap.size, 9, none⟩)) _ rfl rfl (hq.blk.loadCell (k := 9) rfl aggI20)
           | (unfold Oper.quietAt
              go_simp
              first
                | with_reducible rfl
                | ((go_at_call 30); exact (mode_any _ _).mono (fun e w' ⟨he, hw⟩ => ⟨he, hw ▸ hq⟩))
                | ((go_at_call 29); exact (RG _).mono (fun e w' ⟨he, hb⟩ => ⟨he, hq.step hb⟩)))
         clear hK K
         simp only [Act.put, List.setIfInBounds_toArray, List.set_cons_zero, List.set_cons_succ])
  refine wpQuiet_nil ?_
  intro w4 hS
  go_wp2
  go_ret
  exact ⟨rfl, hS.bel⟩
theorem rsetRegister_any {l : List Int} (hl : l.length = 10) (n v : Int) (w : World) : Calls Tryz.prog 13 #[cpuV l, .int .i64 n, .int .i64 v] w fun e w' => e = .returned (cpuV (srL l (md (l.getD 9 0)) n v)) ∧ Below w.heap.size w w' := by
  obtain ⟨r0, r1, r2, r3, r4, r5, r6, r7, r8, r9, rfl⟩ := ten hl
  obtain ⟨M, hM⟩ : ∃ M, md r9 = M := ⟨_, rfl⟩
  have hm := md01 r9
  have RM := fun w => rmode_any r9 w
  rw [show md (([r0, r1, r2, r3, r4, r5, r6, r7, r8, r9] : List Int).getD 9 0) = M from hM]
  simp only [hM] at RM
  rw [hM] at hm
  simp only [cpuV, List.map_cons, List.map_nil]
  rcases which n with rfl | rfl | rfl | rfl | rfl | rfl | rfl | rfl | h | h <;> rcases hm with rfl | rfl
  all_goals try have h7 : (n == 7) = false := by simp; omega
  all_goals try have h6 : (n == 6) = false := by simp; omega
  all_goals try (have h0 : ¬ 0 ≤ n := by omega)
  all_goals try (have h0 : ¬ n < 6 := by omega)
  all_goals
    go_enter Tryz.func13, Tryz.ntmps13
    go_wp2_with (first | (go_at_call 31; refine (RM _).mono ?_; rintro e w' ⟨rfl, rfl⟩) | (go_at_call 33; refine (rwrap20 _ _).mono ?_; rintro e w' ⟨rfl, rfl⟩))
  all_goals
    (try simp only [Exit.inBlock, Exit.then])
    refine bodyPost_ret (results_cell_row (P := Tryz.prog) rfl _ _ (w.heap.size + 1) 25 _ _ _ rfl (heap_alloc2_new _ _ _) Tryz.underlying25 rfl (by kernel_rfl)) rfl ⟨?_, al2_below⟩
  all_goals (try rfl)
  all_goals (rw [srL, if_neg (by omega), if_neg (by omega), if_neg (by omega)]; rfl)
theorem srL_len {l : List Int} (hl : l.length = 10) (m n v : Int) : (srL l m n v).length = 10 := by
  unfold srL
  repeat (first | (rw [List.length_set]; exact hl) | exact hl | split)
/-- Two boxes of registers. -/
structure Cop2 (l z : List Value) (B : Nat) (w w' : World) : Prop extends Cop l B w w' where
  blk2 : Blk 25 w' (B + 1) z
theorem Cop2.step {l z : List Value} {B : Nat} {w w1 w2 : World} (h : Cop2 l z B w w1) (k : Below w1.heap.size w1 w2) : Cop2 l z B w w2 :=
  ⟨h.toCop.step k, by have := h.blk2; unfold Blk at this ⊢; rw [k.block _ h.blk2.lt]; exact this⟩
theorem Cop2.new (l z : List Value) (w : World) : Cop2 l z w.heap.size w ((w.alloc (.cells l.toArray 25)).alloc (.cells z.toArray 25)).drew :=
  ⟨Cop.two l _ w, by have h := Blk.new 25 (w.alloc (.cells l.toArray 25)) z; rw [show (w.alloc (.cells l.toArray 25)).heap.size = w.heap.size + 1 by simp] at h; exact h⟩
theorem setRegister_any {l : List Int} (hl : l.length = 10) (n v : Int) (W : Tab A c w) : Calls Tryz.prog 12 #[cpuV l, .int .i64 n, .int .i64 v] w fun e w' => e = .returned (cpuV (srL l (md (l.getD 9 0)) n v)) ∧ Below w.heap.size w w' := by
  have hl2 := hl
  obtain ⟨r0, r1, r2, r3, r4, r5, r6, r7, r8, r9, rfl⟩ := ten hl
  have RG := fun w' (h : Below w.heap.size w w') => withRegisterIn_any hl2 (md r9) n v (md01 r9) (W.below h)
  simp only [cpuV, List.map_cons, List.map_nil] at RG
  show Calls Tryz.prog 12 #[.agg #[.int .i64 r0, .int .i64 r1, .int .i64 r2, .int .i64 r3, .int .i64 r4, .int .i64 r5, .int .i64 r6, .int .i64 r7, .int .i64 r8, .int .i64 r9], .int .i64 n, .int .i64 v] w _
  go_enter Tryz.func12, Tryz.ntmps12
  go_wp2
  refine region_class_tail (Cop2 [Value.int .i64 r0, .int .i64 r1, .int .i64 r2, .int .i64 r3, .int .i64 r4, .int .i64 r5, .int .i64 r6, .int .i64 r7, .int .i64 r8, .int .i64 r9] [.int .i64 0, .int .i64 0, .int .i64 0, .int .i64 0, .int .i64 0, .int .i64 0, .int .i64 0, .int .i64 0, .int .i64 0, .int .i64 0] w.heap.size w) 7 (by kernel_rfl) (by kernel_rfl) (Cop2.new _ _ w) ?_
  simp only [List.take_succ_cons, List.take_zero, List.drop_succ_cons, List.drop_zero]
  repeat
    first
      | (refine BigFrame.wpQuiet_skip (by rfl) ?_
         simp only [Act.put, List.setIfInBounds_toArray, List.set_cons_zero, List.set_cons_succ])
      | (refine BigFrame.wpQuiet_want (by rfl) (fun K hK => ?_)
         apply Exists.intro
         refine ⟨fun wq hq => ?_, hK _ ?_⟩
         · first
           | exact quiet_load 25 _ _ _ rfl rfl (hq.blk.loadAt rfl aggC sizC)
           | exact quiet_load 3 _ (.pointer (some ⟨w.heap.size, 9, none⟩)) _ rfl rfl (hq.blk.loadCell (k := 9) rfl aggI20)
           | (unfold Oper.quietAt
              go_simp
              first
                | with_reducible rfl
                | ((go_at_call 30); exact (mode_any _ _).mono (fun e w' ⟨he, hw⟩ => ⟨he, hw ▸ hq⟩))
                | ((go_at_call 32); exact (RG _ hq.bel).mono (fun e w' ⟨he, hb⟩ => ⟨he, hq.step hb⟩)))
         clear hK K
         simp only [Act.put, List.setIfInBounds_toArray, List.set_cons_zero, List.set_cons_succ])
  refine wpQuiet_nil ?_
  intro w4 hS
  have h10 := srL_len hl2 (md r9) n v
  refine wpList_store_run rfl rfl 25 _ _ _ ((srL [r0, r1, r2, r3, r4, r5, r6, r7, r8, r9] (md r9) n v).map (Value.int .i64)) rfl rfl rfl aggC (by rw [List.length_map, h10]; exact sizC) (hS.blk2.store_run (by rw [List.length_map, h10]; rfl) (by intro x hx; obtain ⟨y, _, rfl⟩ := List.mem_map.1 hx; rfl)) ?_
  go_wp2
  (try simp only [Exit.inBlock, Exit.then])
  refine bodyPost_ret (results_cell_row (P := Tryz.prog) rfl _ _ (w.heap.size + 1) 25 _ _ _ rfl (setRow_heap _ _ _ _ _ _ hS.blk2) Tryz.underlying25 rfl (by rw [List.size_toArray, List.length_map, h10]; kernel_rfl)) rfl ⟨rfl, below_setRow hS.bel (by omega) _⟩
end Go.Proofs.YtlegcfjafdihlaaGreatDoor
