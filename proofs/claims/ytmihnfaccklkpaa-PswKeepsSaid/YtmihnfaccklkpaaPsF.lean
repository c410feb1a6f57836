/-
  Walk over the statement PswKeeps: whatever the input, it answers true. No condition.
-/
import Derived.Test.YtmihnfaccklkpaaPsE
namespace Go.Proofs.Ytmihnfaccklkpaa
open Go.RowKit
set_option linter.unusedSimpArgs false
set_option maxHeartbeats 4000000
set_option maxRecDepth 100000

theorem keeps_law (n m : Int) (w : World) : Calls Try.prog 6 #[.int .i64 n, .int .i64 m] w fun e w' => e = .returned (.bool true) ∧ Below w.heap.size w w' := by
  have p1 := fun w => with_any n m w
  have p2 := fun w => enter_any n m w
  have p3 := fun w => return_any n m w
  have v1 := fun w => valid_any (wF n m) w
  have v2 := fun w => valid_any (eN n m) w
  have v3 := fun w => valid_any (rT n m) w
  rw [wF_vd] at v1
  rw [eN_vd] at v2
  rw [rT_vd] at v3
  have a1 := fun w => flags_any (wF n m) w
  have a2 := fun w => mode_any (wF n m) w
  have a3 := fun w => prev_any (wF n m) w
  have a4 := fun w => prio_any (wF n m) w
  have a5 := fun w => trace_any (wF n m) w
  obtain ⟨e1, e2, e3, e4, e5⟩ := wF_is n m
  rw [e1] at a1; rw [e2] at a2; rw [e3] at a3; rw [e4] at a4; rw [e5] at a5
  clear e1 e2 e3 e4 e5
  have b1 := fun w => flags_any (eN n m) w
  have b2 := fun w => mode_any (eN n m) w
  have b3 := fun w => prev_any (eN n m) w
  have b4 := fun w => prio_any (eN n m) w
  have b5 := fun w => trace_any (eN n m) w
  obtain ⟨e3, e2, e4, e1, e5⟩ := eN_is n m
  rw [e1] at b1; rw [e2] at b2; rw [e3] at b3; rw [e4] at b4; rw [e5] at b5
  clear e1 e2 e3 e4 e5
  have c1 := fun w => flags_any (rT n m) w
  have c2 := fun w => mode_any (rT n m) w
  have c3 := fun w => prev_any (rT n m) w
  have c4 := fun w => prio_any (rT n m) w
  have c5 := fun w => trace_any (rT n m) w
  obtain ⟨e1, e5⟩ := rT_is n m
  rw [e1] at c1; rw [e5] at c5
  clear e1 e5
  have hw2 := fun w => mode_any n w
  have hw3 := fun w => prev_any n w
  have hw4 := fun w => prio_any n w
  have hw5 := fun w => trace_any n w
  have hv1 := fun w => flags_any m w
  have hv2 := fun w => mode_any m w
  have hv3 := fun w => prev_any m w
  have hv4 := fun w => prio_any m w
  have hv5 := fun w => trace_any m w
  have A := a15 m
  have K : (md n = 1 ∧ md (rT n m) = 1 ∧ pv (rT n m) = pv n ∧ pr (rT n m) = pr n) ∨ (md n = 0 ∧ md (rT n m) = md m ∧ pv (rT n m) = pv m ∧ pr (rT n m) = pr m) := by
    rcases md_bd n with h | h
    · exact Or.inr ⟨h, rT_kern m h⟩
    · exact Or.inl ⟨h, rT_user m h⟩
  rcases K with ⟨h1, h2, h3, h4⟩ | ⟨h1, h2, h3, h4⟩
  all_goals
    rw [h2] at c2; rw [h3] at c3; rw [h4] at c4
    rw [h1] at a2 b3 hw2
    clear h1 h2 h3 h4
    generalize fg m = fm at *
    generalize md m = mm at *
    generalize pv m = pm at *
    generalize pr m = rm at *
    generalize tb m = tm at *
    generalize pv n = pn at *
    generalize pr n = rn at *
    generalize tb n = tn at *
    generalize wF n m = X at *
    generalize eN n m = Y at *
    generalize rT n m = Z at *
    go_enter Try.func6, Try.ntmps6
    go_wp2_with (first
      | (go_at_call 21; with_reducible refine (p1 _).mono ?_; rintro e w' ⟨rfl, rfl⟩)
      | (go_at_call 23; with_reducible refine (p2 _).mono ?_; rintro e w' ⟨rfl, rfl⟩)
      | (go_at_call 25; with_reducible refine (p3 _).mono ?_; rintro e w' ⟨rfl, rfl⟩)
      | (go_at_call 8; (first | with_reducible refine (v1 _).mono ?_ | with_reducible refine (v2 _).mono ?_ | with_reducible refine (v3 _).mono ?_); rintro e w' ⟨rfl, rfl⟩)
      | (go_at_call 16; (first | with_reducible refine (a1 _).mono ?_ | with_reducible refine (b1 _).mono ?_ | with_reducible refine (c1 _).mono ?_ | with_reducible refine (hv1 _).mono ?_); rintro e w' ⟨rfl, rfl⟩)
      | (go_at_call 10; (first | with_reducible refine (a2 _).mono ?_ | with_reducible refine (b2 _).mono ?_ | with_reducible refine (c2 _).mono ?_ | with_reducible refine (hw2 _).mono ?_ | with_reducible refine (hv2 _).mono ?_); rintro e w' ⟨rfl, rfl⟩)
      | (go_at_call 12; (first | with_reducible refine (a3 _).mono ?_ | with_reducible refine (b3 _).mono ?_ | with_reducible refine (c3 _).mono ?_ | with_reducible refine (hw3 _).mono ?_ | with_reducible refine (hv3 _).mono ?_); rintro e w' ⟨rfl, rfl⟩)
      | (go_at_call 14; (first | with_reducible refine (a4 _).mono ?_ | with_reducible refine (b4 _).mono ?_ | with_reducible refine (c4 _).mono ?_ | with_reducible refine (hw4 _).mono ?_ | with_reducible refine (hv4 _).mono ?_); rintro e w' ⟨rfl, rfl⟩)
      | (go_at_call 18; (first | with_reducible refine (a5 _).mono ?_ | with_reducible refine (b5 _).mono ?_ | with_reducible refine (c5 _).mono ?_ | with_reducible refine (hw5 _).mono ?_ | with_reducible refine (hv5 _).mono ?_); rintro e w' ⟨rfl, rfl⟩)
      | (go_at_call 20; with_reducible refine (alive_any _).mono ?_; rintro e w' ⟨rfl, hb⟩))
    go_ret
    exact ⟨rfl, hb⟩

end Go.Proofs.Ytmihnfaccklkpaa
