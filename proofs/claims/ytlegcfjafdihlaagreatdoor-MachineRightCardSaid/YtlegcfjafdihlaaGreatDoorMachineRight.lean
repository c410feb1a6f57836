import Derived.Test.YtlegcfjafdihlaaGreatDoorRows
import Derived.Test.YtlegcfjafdihlaaGreatDoorZR16
import Derived.Test.YtlegcfjafdihlaaGreatDoorZR39
import Derived.Test.YtlegcfjafdihlaaGreatDoorZR40
import Derived.Test.YtlegcfjafdihlaaGreatDoorCards
import Derived.Test.YtlegcfjafdihlaaGreatDoorTie
import Derived.SevenTiedAt
import Derived.Lib.SmallJoins
/-
  THE STATEMENT MachineRight: for every input the call returns true, and the input reads behind it as before. Condition: the listed tables hold what their initialisers lay.
-/
namespace Go.Proofs.YtlegcfjafdihlaaGreatDoor
open Go Go.ChangeShapes Go.WideShapes Go.ChangeAt Go.RowKit Go.Joins
set_option linter.unusedVariables false
set_option linter.unusedSimpArgs false

set_option maxRecDepth 100000 in
theorem MachineRight_lifted (os : Os) (started : os.Started) (H : Type) (enc : TypeId × Value → H) :
    ReturnsInHanded {} Tryz.checked os 5 .any (fun w args => (Rows.machineRightSpec.pre enc Tryz.prog Tryz.f5 [] false w args ∧ laidMetH Tryz.prog laidW w) ∧ sizedMet enc Tryz.prog Tryz.f5 (OpenSpec.ofChange Rows.machineRightSpec) false w args)
      (Rows.machineRightSpec.post enc Tryz.prog Tryz.f5 false true false false) := by
  refine returnsInHanded_of_change_and (C := Tryz.checked) (X := fun w _ => laidMetH Tryz.prog laidW w) (fun _ _ _ hh h => h.of_heap hh) own started (by kernel_rfl) Tryz.func5
    (ChangeSpec.witness_shaped (enc := enc) (C := Tryz.checked) (os := os) (X := fun w _ => laidMetH Tryz.prog laidW w) false (World.doorLaid Tryz.prog 400 os) #[.agg mzL.toArray] 8 rfl (World.shaped_of_RefB (by kernel_rfl) (by kernel_rfl)) (by kernel_rfl) (by kernel_rfl) (by kernel_rfl) (door_met os _)) ?_
  intro W base args ds gs before hval0 hW _ _ hL _
  have hval : ∀ (j : Nat) t v, Tryz.f5.params[j]? = some t → args[j]? = some v → Value.okWide Tryz.prog W .any base t v := hval0
  have hW' := hW
  have hlt := hW.lt
  obtain ⟨p, q, hA0, hV, rfl, hfz, hnd⟩ := hW
  have hA : DataW.TrodAll enc Tryz.prog W 0 (fun _ => true) true Tryz.f5.params.toList args.toList ds p := hA0
  rw [Tryz.params5] at hA hval
  obtain ⟨v0, vs0, d0, ds0, p0, q0, hargs, rfl, rfl, h0, r0⟩ := trodAll_cons hA
  obtain ⟨rfl, rfl, rfl⟩ := trodAll_nil r0
  obtain rfl : args = #[v0] := Array.ext' (by simpa using hargs)
  clear hargs
  obtain ⟨rfl, rfl⟩ := trodVars_none hV
  obtain ⟨A, c, vm, vb, vl, vs, vd, vt, rfl, hAk, hc, hc10, hN⟩ := open_machine (hval 0 49 v0 rfl rfl) h0
  obtain ⟨AT, cT, hT⟩ := of_laid hL
  clear hA0 hval0
  simp only [List.append_nil, List.nil_append] at hW'
  refine (MachineRight_law A hAk c hc hc10 vm vb vl vs vd vt W hT hN).mono fun e W' ⟨he, bel⟩ => ?_
  subst he
  exact ⟨_, rfl, _, _, _, [], (p0 ++ []), [], hW', (trodAll_cons_mk (shut_bool Tryz.underlying4 _) trodAll_mk0), (trodAll_cons_mk (Below.trod laidOut (by kernel_rfl) (of_decide_eq_true (by kernel_rfl)) h0 bel (fun x hx => hlt x (by simp [hx]))) trodAll_mk0), rfl, bel.frame _, fun h => by cases h⟩

theorem MachineRight_inst : Tryz.f5.isInstance Tryz.prog Rows.machineRightRow.origin Rows.machineRightRow.targs := of_decide_eq_true (by kernel_rfl)
theorem MachineRight_hw : Rows.machineRightRow.wfByText (OpenSpec.ofChange Rows.machineRightSpec) = true := by kernel_rfl
theorem MachineRight_looks : false = Tryz.prog.looks [] := by kernel_rfl
theorem MachineRight_goes : false = Rows.machineRightRow.goesBy Tryz.prog := by kernel_rfl
theorem MachineRight_over : Rows.machineRightRow.holds Tryz.pinned (OpenSpec.ofChange Rows.machineRightSpec) :=
  OpenClaim.holds_of_wide 5 Tryz.f5 rfl rfl rfl rfl rfl rfl rfl ⟨rfl, rfl, rfl, rfl, rfl⟩ rfl rfl rfl rfl rfl (by kernel_rfl) Tryz.func5 MachineRight_closed
    MachineRight_inst (by unfold Func.isWrapper; first | (rw [if_pos (by decide +kernel)]; kernel_rfl) | (rw [if_neg (by decide +kernel)]; exact ⟨rfl, rfl⟩))
    (fun os started H enc _ => MachineRight_lifted os started H enc)

/-- THE STATEMENT. -/
theorem MachineRight_holds : Rows.MachineRightCardSaid := by
  unfold Rows.MachineRightCardSaid Rows.machineRightCard
  exact Claim7.holds_tied_plain_at .later [] [.data, .wider, .data, .data, .wider] true _ false
    (MachineRight_over) (fun _ h => by cases h) MachineRight_hw (fun _ h => by cases h) machineRight_row_tie rfl ⟨rfl, rfl⟩ (by kernel_rfl) rfl
    (fun f fn hf hfn => by
      obtain rfl : f = 5 := Option.some.inj ((show Tryz.prog.funcNamed "emulator/emulatorlaw20.MachineRight" = some 5 by kernel_rfl).symm.trans hf) |>.symm
      obtain rfl : fn = Tryz.f5 := (Option.some.inj (Tryz.func5.symm.trans hfn)).symm
      exact ⟨MachineRight_looks, fun j t ht => by
        rw [Tryz.params5] at ht
        have hm : t ∈ [49] := by simpa using Array.mem_of_getElem? ht
        have hall : ([49].all fun u => !Tryz.prog.wantsStandIn u) = true := by kernel_rfl
        exact (show Tryz.prog.wantsStandIn t = false by simpa using List.all_eq_true.1 hall t hm)⟩)
    MachineRight_goes
#print axioms MachineRight_holds
end Go.Proofs.YtlegcfjafdihlaaGreatDoor
