import Derived.Test.YtlegcfjafdihlaaGreatDoorRows
import Derived.JoinedOf
import Derived.KernelRfl
/-
  The facts of the row MachineCopies on the program, one theorem each: so each fits into the kernel's memory.
-/
namespace Go.Proofs.YtlegcfjafdihlaaGreatDoor
open Go
set_option maxRecDepth 100000
theorem MachineCopies_k0 : (Rows.machineCopiesRow.wf (OpenSpec.ofChange Rows.machineCopiesSpec)) = true := by kernel_rfl
theorem MachineCopies_k1 : (laidOutB Tryz.prog) = true := by kernel_rfl
theorem MachineCopies_k2 : (mapsRowed Tryz.prog) = true := by kernel_rfl
theorem MachineCopies_k3 : (Tryz.f6.params.all (Tryz.prog.readableRec ·)) = true := by kernel_rfl
theorem MachineCopies_k4 : (namedTie Tryz.prog Rows.machineCopiesRow.named Rows.machineCopiesSpec.vars) = true := by kernel_rfl
theorem MachineCopies_k5 : ((Rows.machineCopiesRow.stops == [])) = true := by kernel_rfl
theorem MachineCopies_k6 : ((Tryz.prog.stops == [])) = true := by kernel_rfl
theorem MachineCopies_k7 : ((Rows.machineCopiesRow.knobs == [])) = true := by kernel_rfl
theorem MachineCopies_k8 : ((Tryz.prog.stopKnobs == [])) = true := by kernel_rfl
theorem MachineCopies_k9 : ((Rows.machineCopiesRow.inPlace == Tryz.prog.inPlace 6)) = true := by kernel_rfl
theorem MachineCopies_k10 : ((Rows.machineCopiesRow.unfollowed == Tryz.prog.unfollowed 6)) = true := by kernel_rfl
theorem MachineCopies_k11 : ((Rows.machineCopiesRow.recurses == Tryz.prog.recurses 6)) = true := by kernel_rfl
theorem MachineCopies_k12 : ((Rows.machineCopiesRow.named == Tryz.prog.varsNamed 6)) = true := by kernel_rfl
theorem MachineCopies_k13 : ((Rows.machineCopiesRow.maps == (Tryz.f6.params.toList ++ Rows.machineCopiesSpec.plain.varTypes Tryz.prog).any (Tryz.prog.mapsRec ·))) = true := by kernel_rfl
theorem MachineCopies_k14 : ((Rows.machineCopiesRow.ifaces == (Tryz.f6.params.toList ++ Rows.machineCopiesSpec.plain.varTypes Tryz.prog).any (Tryz.prog.ifacesRec ·))) = true := by kernel_rfl
theorem MachineCopies_k15 : ((Rows.machineCopiesRow.mapsOut == Tryz.prog.mapsAmong Tryz.f6.resultTypes.toList)) = true := by kernel_rfl
theorem MachineCopies_k16 : ((Rows.machineCopiesRow.loops == (Tryz.f6.params.toList ++ Rows.machineCopiesSpec.plain.varTypes Tryz.prog).any (Tryz.prog.loopsFrom ·))) = true := by kernel_rfl
theorem MachineCopies_k17 : ((Rows.machineCopiesRow.wideKeys == (Tryz.f6.params.toList ++ Rows.machineCopiesSpec.plain.varTypes Tryz.prog ++ Tryz.f6.resultTypes.toList).any (Tryz.prog.wideKeysFrom ·))) = true := by kernel_rfl
theorem MachineCopies_k18 : (Rows.machineCopiesSpec.vars.all (Tryz.prog.varReadable ·)) = true := by kernel_rfl
theorem MachineCopies_k19 : (Tryz.f6.resultTypes.all (fun t => Tryz.prog.readableRec t && decide (t < Tryz.prog.types.size))) = true := by kernel_rfl
theorem MachineCopies_k20 : ((Rows.machineCopiesRow.ifacesOut == Tryz.f6.resultTypes.toList.any (Tryz.prog.ifacesRec ·))) = true := by kernel_rfl
theorem MachineCopies_k21 : ((Rows.machineCopiesRow.loopsOut == Tryz.f6.resultTypes.toList.any (Tryz.prog.loopsFrom ·))) = true := by kernel_rfl
theorem MachineCopies_k22 : ((Rows.machineCopiesRow.plainKeys == Tryz.prog.plainKeys)) = true := by kernel_rfl
theorem MachineCopies_k23 : (Rows.machineCopiesRow.shortTexts.isNone) = true := by kernel_rfl
theorem MachineCopies_k24 : (Tryz.prog.stopsHeard) = true := by kernel_rfl
theorem MachineCopies_k25 : (Tryz.prog.mayEnter) = true := by kernel_rfl
theorem MachineCopies_k26 : ((Rows.machineCopiesRow.lifted == Tryz.prog.liftsFinal)) = true := by kernel_rfl
theorem MachineCopies_k27 : ((Tryz.prog.make == some Rows.machineCopiesRow.make)) = true := by kernel_rfl
theorem MachineCopies_k28 : ((Rows.machineCopiesRow.kinds == (if Rows.machineCopiesRow.domain.isEmpty then [] else Tryz.f6.params.toList.map fun t => match Tryz.prog.underlying t with | some (.int k) => some k | _ => none))) = true := by kernel_rfl
theorem MachineCopies_k29 : ((Rows.machineCopiesRow.pinned == Rows.machineCopiesRow.pinnedBy)) = true := by kernel_rfl
theorem MachineCopies_k30 : ((Rows.machineCopiesRow.veiled == (Tryz.f6.params.toList ++ Rows.machineCopiesSpec.plain.varTypes Tryz.prog ++ Tryz.f6.resultTypes.toList).any (Tryz.prog.veiledRec ·))) = true := by kernel_rfl
theorem MachineCopies_k31 : (Rows.machineCopiesRow.veiledFits Tryz.prog Tryz.f6.params.toList (Tryz.f6.params.toList ++ Rows.machineCopiesSpec.plain.varTypes Tryz.prog ++ Tryz.f6.resultTypes.toList)) = true := by kernel_rfl
theorem MachineCopies_closed : joinedFacts Tryz.prog 6 Tryz.f6 Rows.machineCopiesSpec Rows.machineCopiesRow = true := by
  unfold joinedFacts
  simp only [Bool.and_eq_true]
  exact ⟨⟨⟨⟨⟨⟨⟨⟨⟨⟨⟨⟨⟨⟨⟨⟨⟨⟨⟨⟨⟨⟨⟨⟨⟨⟨⟨⟨⟨⟨⟨MachineCopies_k0, MachineCopies_k1⟩, MachineCopies_k2⟩, MachineCopies_k3⟩, MachineCopies_k4⟩, MachineCopies_k5⟩, MachineCopies_k6⟩, MachineCopies_k7⟩, MachineCopies_k8⟩, MachineCopies_k9⟩, MachineCopies_k10⟩, MachineCopies_k11⟩, MachineCopies_k12⟩, MachineCopies_k13⟩, MachineCopies_k14⟩, MachineCopies_k15⟩, MachineCopies_k16⟩, MachineCopies_k17⟩, MachineCopies_k18⟩, MachineCopies_k19⟩, MachineCopies_k20⟩, MachineCopies_k21⟩, MachineCopies_k22⟩, MachineCopies_k23⟩, MachineCopies_k24⟩, MachineCopies_k25⟩, MachineCopies_k26⟩, MachineCopies_k27⟩, MachineCopies_k28⟩, MachineCopies_k29⟩, MachineCopies_k30⟩, MachineCopies_k31⟩
end Go.Proofs.YtlegcfjafdihlaaGreatDoor
