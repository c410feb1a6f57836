import Derived.Test.YtlegcfjafdihlaaGreatDoorRows
import Derived.Test.YtlegcfjafdihlaaGreatDoorZC16
import Derived.Test.YtlegcfjafdihlaaGreatDoorZC32
import Derived.Test.YtlegcfjafdihlaaGreatDoorZC33
import Derived.Test.YtlegcfjafdihlaaGreatDoorCards
import Derived.Test.YtlegcfjafdihlaaGreatDoorTie
import Derived.SevenTiedAt
import Derived.Lib.SmallJoins
/-
  THE STATEMENT MachineCopies: for every input the call returns true, and the input reads behind it as before. Condition: the listed tables hold what their initialisers lay.
-/
namespace Go.Proofs.YtlegcfjafdihlaaGreatDoor
open Go Go.ChangeShapes Go.WideShapes Go.ChangeAt Go.RowKit Go.Joins
set_option linter.unusedVariables false
set_option linter.unusedSimpArgs false

set_option maxRecDepth 100000 in
theorem MachineCopies_lifted (os : Os) (started : os.Started) (H : Type) (enc : TypeId × Value → H) :
    ReturnsInHanded {} Tryz.checked os 6 .any (fun w args => (Rows.machineCopiesSpec.pre enc Tryz.prog Tryz.f6 [] false w args ∧ laidMetH Tryz.prog laidW w) ∧ sizedMet enc Tryz.prog Tryz.f6 (OpenSpec.ofChange Rows.machineCopiesSpec) false w args)
      (Rows.machineCopiesSpec.post enc Tryz.prog Tryz.f6 false true false false) := by
  refine returnsInHanded_of_change_and (C := Tryz.checked) (X := fun w _ => laidMetH Tryz.prog laidW w) (fun _ _ _ hh h => h.of_heap hh) own started (by kernel_rfl) Tryz.func6
    (ChangeSpec.witness_shaped (enc := enc) (C := Tryz.checked) (os := os) (X := fun w _ => laidMetH Tryz.prog laidW w) false (World.doorLaid Tryz.prog 400 os) #[.agg mzL.toArray, .int .i64 0] 8 rfl (World.shaped_of_RefB (by kernel_rfl) (by kernel_rfl)) (by kernel_rfl) (by kernel_rfl) (by kernel_rfl) (door_met os _)) ?_
  intro W base args ds gs before hval0 hW _ _ hL _
  have hval : ∀ (j : Nat) t v, Tryz.f6.params[j]? = some t → args[j]? = some v → Value.okWide Tryz.prog W .any base t v := hval0
  have hW' := hW
  have hlt := hW.lt
  obtain ⟨p, q, hA0, hV, rfl, hfz, hnd⟩ := hW
  have hA : DataW.TrodAll enc Tryz.prog W 0 (fun _ => true) true Tryz.f6.params.toList args.toList ds p := hA0
  rw [Tryz.params6] at hA hval
  obtain ⟨v0, vs0, d0, ds0, p0, q0, hargs, rfl, rfl, h0, r0⟩ := trodAll_cons hA
  obtain ⟨v1, vs1, d1, ds1, p1, q1, rfl, rfl, rfl, h1, r1⟩ := trodAll_cons r0
  obtain ⟨rfl, rfl, rfl⟩ := trodAll_nil r1
  obtain rfl : args = #[v0, v1] := Array.ext' (by simpa using hargs)
  clear hargs
  obtain ⟨rfl, rfl⟩ := trodVars_none hV
  obtain ⟨A, c, vm, vb, vl, vs, vd, vt, rfl, hAk, hc, hc10, hN⟩ := open_machine (hval 0 49 v0 rfl rfl) h0
  obtain ⟨n1, rfl, rfl, rfl, w1⟩ := open_int Tryz.underlying3 (hval 1 3 v1 rfl rfl) h1
  obtain ⟨AT, cT, hT⟩ := of_laid hL
  clear hA0 hval0
  simp only [List.append_nil, List.nil_append] at hW'
  refine (MachineCopies_law A hAk c hc hc10 vm vb vl vs vd vt n1 W hT hN).mono fun e W' ⟨he, bel⟩ => ?_
  subst he
  exact ⟨_, rfl, _, _, _, [], (p0 ++ ([] ++ [])), [], hW', (trodAll_cons_mk (shut_bool Tryz.underlying4 _) trodAll_mk0), (trodAll_cons_mk (Below.trod laidOut (by kernel_rfl) (of_decide_eq_true (by kernel_rfl)) h0 bel (fun x hx => hlt x (by simp [hx]))) (trodAll_cons_mk (shut_int Tryz.underlying3 w1) trodAll_mk0)), rfl, bel.frame _, fun h => by cases h⟩

theorem MachineCopies_inst : Tryz.f6.isInstance Tryz.prog Rows.machineCopiesRow.origin Rows.machineCopiesRow.targs := of_decide_eq_true (by kernel_rfl)
theorem MachineCopies_hw : Rows.machineCopiesRow.wfByText (OpenSpec.ofChange Rows.machineCopiesSpec) = true := by kernel_rfl
theorem MachineCopies_looks : false = Tryz.prog.looks [] := by kernel_rfl
theorem MachineCopies_goes : false = Rows.machineCopiesRow.goesBy Tryz.prog := by kernel_rfl
theorem MachineCopies_over : Rows.machineCopiesRow.holds Tryz.pinned (OpenSpec.ofChange Rows.machineCopiesSpec) :=
  OpenClaim.holds_of_wide 6 Tryz.f6 rfl rfl rfl rfl rfl rfl rfl ⟨rfl, rfl, rfl, rfl, rfl⟩ rfl rfl rfl rfl rfl (by kernel_rfl) Tryz.func6 MachineCopies_closed
    MachineCopies_inst (by unfold Func.isWrapper; first | (rw [if_pos (by decide +kernel)]; kernel_rfl) | (rw [if_neg (by decide +kernel)]; exact ⟨rfl, rfl⟩))
    (fun os started H enc _ => MachineCopies_lifted os started H enc)

/-- THE STATEMENT. -/
theorem MachineCopies_holds : Rows.MachineCopiesCardSaid := by
  unfold Rows.MachineCopiesCardSaid Rows.machineCopiesCard
  exact Claim7.holds_tied_plain_at .later [] [.data, .wider, .data, .data, .wider] true _ false
    (MachineCopies_over) (fun _ h => by cases h) MachineCopies_hw (fun _ h => by cases h) machineCopies_row_tie rfl ⟨rfl, rfl⟩ (by kernel_rfl) rfl
    (fun f fn hf hfn => by
      obtain rfl : f = 6 := Option.some.inj ((show Tryz.prog.funcNamed "emulator/emulatorlaw20.MachineCopies" = some 6 by kernel_rfl).symm.trans hf) |>.symm
      obtain rfl : fn = Tryz.f6 := (Option.some.inj (Tryz.func6.symm.trans hfn)).symm
      exact ⟨MachineCopies_looks, fun j t ht => by
        rw [Tryz.params6] at ht
        have hm : t ∈ [49, 3] := by simpa using Array.mem_of_getElem? ht
        have hall : ([49, 3].all fun u => !Tryz.prog.wantsStandIn u) = true := by kernel_rfl
        exact (show Tryz.prog.wantsStandIn t = false by simpa using List.all_eq_true.1 hall t hm)⟩)
    MachineCopies_goes
#print axioms MachineCopies_holds
end Go.Proofs.YtlegcfjafdihlaaGreatDoor
