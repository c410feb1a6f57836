import Derived.Test.YthpnddgfgpacpaaGreatRW44
import Derived.Test.YthpnddgfgpacpaaGreatRW45
import Derived.Test.YthpnddgfgpacpaaGreatRW06
/-
  BusRight.
-/
namespace Go.Proofs.YthpnddgfgpacpaaGreat
open Go.RowKit
set_option linter.unusedSimpArgs false
set_option linter.unusedVariables false
set_option maxHeartbeats 4000000
set_option maxRecDepth 100000
attribute [local irreducible] wpQuiet

theorem BusRight_law (A : Ma) (hA : A.ok) (c : List Int) (hc : A.C = c.map (Value.int .i64)) (hc10 : c.length = 10) (vm vb vl vs vd vt : Value) (w : World) (hN : MaNow w A vm vb vl vs vd vt) : Calls Tryz.prog 3 #[.agg (A.cells vm vb vl vs vd vt).toArray] w fun e' w' => e' = .returned (.bool true) ∧ Below w.heap.size w w' := by
  have hsm := fun wz (hb : Below w.heap.size w wz) => small_det A hA vm vb vl vs vd vt wz (hN.step hb)
  have hXm := (Bag.nil w).new 44 (A.cells vm vb vl vs vd vt)
  cases hs : A.smallB
  · rw [hs] at hsm
    clear hN
    go_enter Tryz.func3, Tryz.ntmps3
    go_upto_region 1 with fail
    generalize (w.alloc (Obj.cells (A.cells vm vb vl vs vd vt).toArray 44)) = wQ at hXm ⊢
    refine region_class (fun w' => Bag [(w.heap.size, 44, A.cells vm vb vl vs vd vt)] w w') (by kernel_rfl) (by kernel_rfl) hXm.drew ?_
    repeat
      first
        | (refine BigFrame.wpQuiet_skip (by rfl) ?_
           simp only [Act.put, List.setIfInBounds_toArray, List.set_cons_zero, List.set_cons_succ])
        | (refine BigFrame.wpQuiet_want (by rfl) (fun K hK => ?_)
           apply Exists.intro
           refine ⟨fun wq hq => ?_, hK _ ?_⟩
           · first
               | (refine quiet_load 44 _ _ _ rfl rfl ((hq.all _ _ _ (.head _)).loadAtSub (fun j v hz => by rw [Nat.zero_add]; exact hz) (Ma.clen hA) aggM sizM))
               | (unfold Oper.quietAt
                  go_simp
                  first
                    | with_reducible rfl
                    | ((go_at_call 9); refine (alive_any _).mono ?_; exact fun e w' ⟨he, hw⟩ => ⟨he, hq.step hw⟩)
                    | ((go_at_call 10); refine (hsm _ hq.below).mono ?_; exact fun e w' ⟨he, hw⟩ => ⟨he, hq.step hw⟩)
                    | ((go_at_call 11); refine (hpr _ hq.below).mono ?_; exact fun e w' ⟨he, hw⟩ => ⟨he, hq.step hw⟩)
                    | ((go_at_call 12); refine (hrr _ hq.below).mono ?_; exact fun e w' ⟨he, hw⟩ => ⟨he, hq.step hw⟩)
                 )
           clear hK K
           simp only [Act.put, List.setIfInBounds_toArray, List.set_cons_zero, List.set_cons_succ])
    refine wpQuiet_nil ?_
    intro w9 hX9
    go_wp2
    exact bodyPost_ret (results_tmp (by rfl) _ _ _) rfl ⟨by simp, hX9.below⟩
  · rw [hs] at hsm
    have hli : A.little := (of_decide_eq_true hs).2
    have hpr := fun wz (hb : Below w.heap.size w wz) => bpRight wz A vm vb vl vs vd vt wz (Below.refl _ _) hA (Ma.little_few hli) (hN.step hb)
    have hrr := fun wz (hb : Below w.heap.size w wz) => rbRight_any A hA (Ma.little_few hli) vm vb vl vs vd vt wz (hN.step hb)
    generalize A.right = rr at *
    clear hN
    go_enter Tryz.func3, Tryz.ntmps3
    go_upto_region 1 with fail
    generalize (w.alloc (Obj.cells (A.cells vm vb vl vs vd vt).toArray 44)) = wQ at hXm ⊢
    refine region_class (fun w' => Bag [(w.heap.size, 44, A.cells vm vb vl vs vd vt)] w w') (by kernel_rfl) (by kernel_rfl) hXm.drew ?_
    repeat
      first
        | (refine BigFrame.wpQuiet_skip (by rfl) ?_
           simp only [Act.put, List.setIfInBounds_toArray, List.set_cons_zero, List.set_cons_succ])
        | (refine BigFrame.wpQuiet_want (by rfl) (fun K hK => ?_)
           apply Exists.intro
           refine ⟨fun wq hq => ?_, hK _ ?_⟩
           · first
               | (refine quiet_load 44 _ _ _ rfl rfl ((hq.all _ _ _ (.head _)).loadAtSub (fun j v hz => by rw [Nat.zero_add]; exact hz) (Ma.clen hA) aggM sizM))
               | (unfold Oper.quietAt
                  go_simp
                  first
                    | with_reducible rfl
                    | ((go_at_call 9); refine (alive_any _).mono ?_; exact fun e w' ⟨he, hw⟩ => ⟨he, hq.step hw⟩)
                    | ((go_at_call 10); refine (hsm _ hq.below).mono ?_; exact fun e w' ⟨he, hw⟩ => ⟨he, hq.step hw⟩)
                    | ((go_at_call 11); refine (hpr _ hq.below).mono ?_; exact fun e w' ⟨he, hw⟩ => ⟨he, hq.step hw⟩)
                    | ((go_at_call 12); refine (hrr _ hq.below).mono ?_; exact fun e w' ⟨he, hw⟩ => ⟨he, hq.step hw⟩)
                 )
           clear hK K
           simp only [Act.put, List.setIfInBounds_toArray, List.set_cons_zero, List.set_cons_succ])
    refine wpQuiet_nil ?_
    intro w9 hX9
    go_wp2
    exact bodyPost_ret (results_tmp (by rfl) _ _ _) rfl ⟨by simp, hX9.below⟩
end Go.Proofs.YthpnddgfgpacpaaGreat
