import Derived.Test.YtlegcfjafdihlaaGreatDoorRows
import Derived.JoinedOf
import Derived.KernelRfl
/-
  The facts of the row MachineRight on the program, one theorem each: so each fits into the kernel's memory.
-/
namespace Go.Proofs.YtlegcfjafdihlaaGreatDoor
open Go
set_option maxRecDepth 100000
theorem MachineRight_k0 : (Rows.machineRightRow.wf (OpenSpec.ofChange Rows.machineRightSpec)) = true := by kernel_rfl
theorem MachineRight_k1 : (laidOutB Tryz.prog) = true := by kernel_rfl
theorem MachineRight_k2 : (mapsRowed Tryz.prog) = true := by kernel_rfl
theorem MachineRight_k3 : (Tryz.f5.params.all (Tryz.prog.readableRec ·)) = true := by kernel_rfl
theorem MachineRight_k4 : (namedTie Tryz.prog Rows.machineRightRow.named Rows.machineRightSpec.vars) = true := by kernel_rfl
theorem MachineRight_k5 : ((Rows.machineRightRow.stops == [])) = true := by kernel_rfl
theorem MachineRight_k6 : ((Tryz.prog.stops == [])) = true := by kernel_rfl
theorem MachineRight_k7 : ((Rows.machineRightRow.knobs == [])) = true := by kernel_rfl
theorem MachineRight_k8 : ((Tryz.prog.stopKnobs == [])) = true := by kernel_rfl
theorem MachineRight_k9 : ((Rows.machineRightRow.inPlace == Tryz.prog.inPlace 5)) = true := by kernel_rfl
theorem MachineRight_k10 : ((Rows.machineRightRow.unfollowed == Tryz.prog.unfollowed 5)) = true := by kernel_rfl
theorem MachineRight_k11 : ((Rows.machineRightRow.recurses == Tryz.prog.recurses 5)) = true := by kernel_rfl
theorem MachineRight_k12 : ((Rows.machineRightRow.named == Tryz.prog.varsNamed 5)) = true := by kernel_rfl
theorem MachineRight_k13 : ((Rows.machineRightRow.maps == (Tryz.f5.params.toList ++ Rows.machineRightSpec.plain.varTypes Tryz.prog).any (Tryz.prog.mapsRec ·))) = true := by kernel_rfl
theorem MachineRight_k14 : ((Rows.machineRightRow.ifaces == (Tryz.f5.params.toList ++ Rows.machineRightSpec.plain.varTypes Tryz.prog).any (Tryz.prog.ifacesRec ·))) = true := by kernel_rfl
theorem MachineRight_k15 : ((Rows.machineRightRow.mapsOut == Tryz.prog.mapsAmong Tryz.f5.resultTypes.toList)) = true := by kernel_rfl
theorem MachineRight_k16 : ((Rows.machineRightRow.loops == (Tryz.f5.params.toList ++ Rows.machineRightSpec.plain.varTypes Tryz.prog).any (Tryz.prog.loopsFrom ·))) = true := by kernel_rfl
theorem MachineRight_k17 : ((Rows.machineRightRow.wideKeys == (Tryz.f5.params.toList ++ Rows.machineRightSpec.plain.varTypes Tryz.prog ++ Tryz.f5.resultTypes.toList).any (Tryz.prog.wideKeysFrom ·))) = true := by kernel_rfl
theorem MachineRight_k18 : (Rows.machineRightSpec.vars.all (Tryz.prog.varReadable ·)) = true := by kernel_rfl
theorem MachineRight_k19 : (Tryz.f5.resultTypes.all (fun t => Tryz.prog.readableRec t && decide (t < Tryz.prog.types.size))) = true := by kernel_rfl
theorem MachineRight_k20 : ((Rows.machineRightRow.ifacesOut == Tryz.f5.resultTypes.toList.any (Tryz.prog.ifacesRec ·))) = true := by kernel_rfl
theorem MachineRight_k21 : ((Rows.machineRightRow.loopsOut == Tryz.f5.resultTypes.toList.any (Tryz.prog.loopsFrom ·))) = true := by kernel_rfl
theorem MachineRight_k22 : ((Rows.machineRightRow.plainKeys == Tryz.prog.plainKeys)) = true := by kernel_rfl
theorem MachineRight_k23 : (Rows.machineRightRow.shortTexts.isNone) = true := by kernel_rfl
theorem MachineRight_k24 : (Tryz.prog.stopsHeard) = true := by kernel_rfl
theorem MachineRight_k25 : (Tryz.prog.mayEnter) = true := by kernel_rfl
theorem MachineRight_k26 : ((Rows.machineRightRow.lifted == Tryz.prog.liftsFinal)) = true := by kernel_rfl
theorem MachineRight_k27 : ((Tryz.prog.make == some Rows.machineRightRow.make)) = true := by kernel_rfl
theorem MachineRight_k28 : ((Rows.machineRightRow.kinds == (if Rows.machineRightRow.domain.isEmpty then [] else Tryz.f5.params.toList.map fun t => match Tryz.prog.underlying t with | some (.int k) => some k | _ => none))) = true := by kernel_rfl
theorem MachineRight_k29 : ((Rows.machineRightRow.pinned == Rows.machineRightRow.pinnedBy)) = true := by kernel_rfl
theorem MachineRight_k30 : ((Rows.machineRightRow.veiled == (Tryz.f5.params.toList ++ Rows.machineRightSpec.plain.varTypes Tryz.prog ++ Tryz.f5.resultTypes.toList).any (Tryz.prog.veiledRec ·))) = true := by kernel_rfl
theorem MachineRight_k31 : (Rows.machineRightRow.veiledFits Tryz.prog Tryz.f5.params.toList (Tryz.f5.params.toList ++ Rows.machineRightSpec.plain.varTypes Tryz.prog ++ Tryz.f5.resultTypes.toList)) = true := by kernel_rfl
theorem MachineRight_closed : joinedFacts Tryz.prog 5 Tryz.f5 Rows.machineRightSpec Rows.machineRightRow = true := by
  unfold joinedFacts
  simp only [Bool.and_eq_true]
  exact ⟨⟨⟨⟨⟨⟨⟨⟨⟨⟨⟨⟨⟨⟨⟨⟨⟨⟨⟨⟨⟨⟨⟨⟨⟨⟨⟨⟨⟨⟨⟨MachineRight_k0, MachineRight_k1⟩, MachineRight_k2⟩, MachineRight_k3⟩, MachineRight_k4⟩, MachineRight_k5⟩, MachineRight_k6⟩, MachineRight_k7⟩, MachineRight_k8⟩, MachineRight_k9⟩, MachineRight_k10⟩, MachineRight_k11⟩, MachineRight_k12⟩, MachineRight_k13⟩, MachineRight_k14⟩, MachineRight_k15⟩, MachineRight_k16⟩, MachineRight_k17⟩, MachineRight_k18⟩, MachineRight_k19⟩, MachineRight_k20⟩, MachineRight_k21⟩, MachineRight_k22⟩, MachineRight_k23⟩, MachineRight_k24⟩, MachineRight_k25⟩, MachineRight_k26⟩, MachineRight_k27⟩, MachineRight_k28⟩, MachineRight_k29⟩, MachineRight_k30⟩, MachineRight_k31⟩
end Go.Proofs.YtlegcfjafdihlaaGreatDoor
