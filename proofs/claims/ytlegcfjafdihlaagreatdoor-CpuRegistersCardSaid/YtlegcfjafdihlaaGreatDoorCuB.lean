/-
  The registers: what Right, Register and SetRegister answer, and that the package and the reference answer so. Condition: the table of widths.
-/
import Derived.Test.YtlegcfjafdihlaaGreatDoorCuA
import Derived.LoopN
namespace Go.Proofs.YtlegcfjafdihlaaGreatDoor
open Go.RowKit Psw
set_option linter.unusedSimpArgs false
set_option linter.unusedVariables false
set_option maxHeartbeats 4000000
set_option maxRecDepth 100000

/-- The registers as a value. -/
def cpuV (l : List Int) : Value := .agg (l.map (Value.int .i64)).toArray
theorem ten {l : List Int} (h : l.length = 10) : ∃ r0 r1 r2 r3 r4 r5 r6 r7 r8 r9, l = [r0, r1, r2, r3, r4, r5, r6, r7, r8, r9] := by
  match l, h with
  | [r0, r1, r2, r3, r4, r5, r6, r7, r8, r9], _ => exact ⟨r0, r1, r2, r3, r4, r5, r6, r7, r8, r9, rfl⟩
/-- Are the registers valid? -/
def rtL (l : List Int) : Bool := match l with
  | [r0, r1, r2, r3, r4, r5, r6, r7, r8, r9] => isW r0 && isW r1 && isW r2 && isW r3 && isW r4 && isW r5 && isW r6 && isW r7 && isW r8 && vd r9
  | _ => false
/-- A register in a mode. -/
def rgL (l : List Int) (m n : Int) : Int := if n = 7 then l.getD 8 0 else if n = 6 then l.getD (6 + m.toNat) 0 else if 0 ≤ n ∧ n < 6 then l.getD n.toNat 0 else 0
/-- The registers with another value. -/
def srL (l : List Int) (m n v : Int) : List Int := if n = 7 then l.set 8 (v % 65536) else if n = 6 then l.set (6 + m.toNat) (v % 65536) else if 0 ≤ n ∧ n < 6 then l.set n.toNat (v % 65536) else l
theorem which (n : Int) : n = 0 ∨ n = 1 ∨ n = 2 ∨ n = 3 ∨ n = 4 ∨ n = 5 ∨ n = 6 ∨ n = 7 ∨ n < 0 ∨ 7 < n := by omega
theorem md01 (n : Int) : md n = 0 ∨ md n = 1 := by unfold md; omega
variable {A : Addr} {c : Nat} {w : World}
theorem al_below {w : World} {o : Obj} : Below w.heap.size w (w.alloc o) := (Below.refl _ _).alloc (Nat.le_refl _) _
theorem al2_below {w : World} {o o' : Obj} : Below w.heap.size w ((w.alloc o).alloc o') := Below.alloc al_below (by simp) _
theorem idx_run {P : Program} {w : World} {ops : Array Oper} {rest : List Oper} {o : Oper} {a : Act} {Q : Exit → Act → World → Prop} (hw : Region.wanted o (yielded ops a.tmps) = true) (t : TypeId) (x ix : Operand) (xv iv v : Value) (hop : o.op = Op.index t x ix) (hx : a.eval x = xv) (hi : a.eval ix = iv)
    (hrun : (Instr.index t xv iv).run P w = .ok v w) (h : wpList P ops Q rest (a.put o.dst v) w) : wpList P ops Q (o :: rest) a w :=
  BigFrame.wpList_want hw fun _ hK => by
    unfold Oper.wp execOp
    simp only [hop, hx, hi, hrun, Sem.run_bind, Sem.run_pure, Result.andThen_ok]
    exact hK _ _ h
theorem run_index_one {P : Program} {t e : TypeId} {w : World} {n : Nat} {xs : Array Value} {v : Value} (i : Nat) (hu : P.underlying t = some (.array n e)) (hi : i < n) (hagg : ∀ w, (isAgg e).run P w = .ok false w) (hsz : ∀ w, (sizeOf e).run P w = .ok 1 w) (hd : xs[i]? = some v) : (Instr.index t (.agg xs) (.int .i64 i)).run P w = .ok v w := by
  have e0 : (0 : Int) ≤ (i : Int) ∧ (i : Int) < (n : Int) := ⟨by omega, by omega⟩
  simp only [Instr.index, asIntOf, Sem.run_bind, Sem.run_pure, Result.andThen_ok, run_underlying hu, if_pos e0, part, hagg, hsz, Int.toNat_natCast, if_false, Bool.false_eq_true, Nat.mul_one, hd, reduceIte]
  first | done | simp [hd]
theorem right_any {l : List Int} (hl : l.length = 10) (W : Tab A c w) : Calls Tryz.prog 7 #[cpuV l] w fun e w' => e = .returned (.bool (rtL l)) ∧ Below w.heap.size w w' := by
  obtain ⟨r0, r1, r2, r3, r4, r5, r6, r7, r8, r9, rfl⟩ := ten hl
  unfold rtL
  have W1 : ∀ o, Tab A c (w.alloc o) := fun o => W.below al_below
  simp only [cpuV, List.map_cons, List.map_nil]
  go_enter Tryz.func7, Tryz.ntmps7
  go_wp2
  have ix : ∀ (i : Nat) (v : Value) (w : World), i < 6 → (#[Value.int .i64 r0, .int .i64 r1, .int .i64 r2, .int .i64 r3, .int .i64 r4, .int .i64 r5] : Array Value)[i]? = some v → (Instr.index 22 (.agg #[Value.int .i64 r0, .int .i64 r1, .int .i64 r2, .int .i64 r3, .int .i64 r4, .int .i64 r5]) (.int .i64 i)).run Tryz.prog w = .ok v w := fun i v w hi hv =>
    run_index_one i Tryz.underlying22 hi (fun w => by kernel_rfl) (fun w => by kernel_rfl) hv
  refine wp_loop_rounds 7 ?_
  iterate 7
    all_goals (try (rw [rounds_succ]; go_wp2_with (first | (go_at_call 23; refine (isWord_any _ (W1 _)).mono ?_; rintro e w' ⟨rfl, rfl⟩) | (go_at_call 24; refine (valid_any _ _).mono ?_; rintro e w' ⟨rfl, rfl⟩) | (refine idx_run rfl 22 _ _ _ (.int .i64 0) (.int .i64 r0) rfl rfl rfl (ix 0 _ _ (by decide) rfl) ?_) | (refine idx_run rfl 22 _ _ _ (.int .i64 1) (.int .i64 r1) rfl rfl rfl (ix 1 _ _ (by decide) rfl) ?_) | (refine idx_run rfl 22 _ _ _ (.int .i64 2) (.int .i64 r2) rfl rfl rfl (ix 2 _ _ (by decide) rfl) ?_) | (refine idx_run rfl 22 _ _ _ (.int .i64 3) (.int .i64 r3) rfl rfl rfl (ix 3 _ _ (by decide) rfl) ?_) | (refine idx_run rfl 22 _ _ _ (.int .i64 4) (.int .i64 r4) rfl rfl rfl (ix 4 _ _ (by decide) rfl) ?_) | (refine idx_run rfl 22 _ _ _ (.int .i64 5) (.int .i64 r5) rfl rfl rfl (ix 5 _ _ (by decide) rfl) ?_))))
  all_goals (go_ret; refine ⟨ret_bool ?_, al_below⟩; simp_all)
theorem rright_any {l : List Int} (hl : l.length = 10) (w : World) : Calls Tryz.prog 8 #[cpuV l] w fun e w' => e = .returned (.bool (rtL l)) ∧ Below w.heap.size w w' := by
  obtain ⟨r0, r1, r2, r3, r4, r5, r6, r7, r8, r9, rfl⟩ := ten hl
  unfold rtL
  simp only [cpuV, List.map_cons, List.map_nil]
  go_enter Tryz.func8, Tryz.ntmps8
  go_wp2
  refine wp_loop_rounds 7 ?_
  iterate 7
    all_goals (try (rw [rounds_succ]; go_wp2_with (first | (go_at_call 25; refine (rword_any _ _).mono ?_; rintro e w' ⟨rfl, rfl⟩) | (go_at_call 26; refine (rvalid_any _ _).mono ?_; rintro e w' ⟨rfl, rfl⟩))))
  all_goals (go_ret; refine ⟨ret_bool ?_, al_below⟩; simp_all)
end Go.Proofs.YtlegcfjafdihlaaGreatDoor
