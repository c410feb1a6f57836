/-
  The facts of the row CpuRegisters on the program, one theorem each: so each fits into the kernel's memory.
-/
import Derived.Test.YtlegcfjafdihlaaGreatDoorRows
import Derived.JoinedOf
import Derived.KernelRfl
namespace Go.Proofs.YtlegcfjafdihlaaGreatDoor
open Go
set_option maxRecDepth 100000
theorem CpuRegisters_k0 : (Rows.cpuRegistersRow.wf (OpenSpec.ofChange Rows.cpuRegistersSpec)) = true := by kernel_rfl
theorem CpuRegisters_k1 : (laidOutB Tryz.prog) = true := by kernel_rfl
theorem CpuRegisters_k2 : (mapsRowed Tryz.prog) = true := by kernel_rfl
theorem CpuRegisters_k3 : (Tryz.f3.params.all (Tryz.prog.readableRec ·)) = true := by kernel_rfl
theorem CpuRegisters_k4 : (namedTie Tryz.prog Rows.cpuRegistersRow.named Rows.cpuRegistersSpec.vars) = true := by kernel_rfl
theorem CpuRegisters_k5 : ((Rows.cpuRegistersRow.stops == [])) = true := by kernel_rfl
theorem CpuRegisters_k6 : ((Tryz.prog.stops == [])) = true := by kernel_rfl
theorem CpuRegisters_k7 : ((Rows.cpuRegistersRow.knobs == [])) = true := by kernel_rfl
theorem CpuRegisters_k8 : ((Tryz.prog.stopKnobs == [])) = true := by kernel_rfl
theorem CpuRegisters_k9 : ((Rows.cpuRegistersRow.inPlace == Tryz.prog.inPlace 3)) = true := by kernel_rfl
theorem CpuRegisters_k10 : ((Rows.cpuRegistersRow.unfollowed == Tryz.prog.unfollowed 3)) = true := by kernel_rfl
theorem CpuRegisters_k11 : ((Rows.cpuRegistersRow.recurses == Tryz.prog.recurses 3)) = true := by kernel_rfl
theorem CpuRegisters_k12 : ((Rows.cpuRegistersRow.named == Tryz.prog.varsNamed 3)) = true := by kernel_rfl
theorem CpuRegisters_k13 : ((Rows.cpuRegistersRow.maps == (Tryz.f3.params.toList ++ Rows.cpuRegistersSpec.plain.varTypes Tryz.prog).any (Tryz.prog.mapsRec ·))) = true := by kernel_rfl
theorem CpuRegisters_k14 : ((Rows.cpuRegistersRow.ifaces == (Tryz.f3.params.toList ++ Rows.cpuRegistersSpec.plain.varTypes Tryz.prog).any (Tryz.prog.ifacesRec ·))) = true := by kernel_rfl
theorem CpuRegisters_k15 : ((Rows.cpuRegistersRow.mapsOut == Tryz.prog.mapsAmong Tryz.f3.resultTypes.toList)) = true := by kernel_rfl
theorem CpuRegisters_k16 : ((Rows.cpuRegistersRow.loops == (Tryz.f3.params.toList ++ Rows.cpuRegistersSpec.plain.varTypes Tryz.prog).any (Tryz.prog.loopsFrom ·))) = true := by kernel_rfl
theorem CpuRegisters_k17 : ((Rows.cpuRegistersRow.wideKeys == (Tryz.f3.params.toList ++ Rows.cpuRegistersSpec.plain.varTypes Tryz.prog ++ Tryz.f3.resultTypes.toList).any (Tryz.prog.wideKeysFrom ·))) = true := by kernel_rfl
theorem CpuRegisters_k18 : (Rows.cpuRegistersSpec.vars.all (Tryz.prog.varReadable ·)) = true := by kernel_rfl
theorem CpuRegisters_k19 : (Tryz.f3.resultTypes.all (fun t => Tryz.prog.readableRec t && decide (t < Tryz.prog.types.size))) = true := by kernel_rfl
theorem CpuRegisters_k20 : ((Rows.cpuRegistersRow.ifacesOut == Tryz.f3.resultTypes.toList.any (Tryz.prog.ifacesRec ·))) = true := by kernel_rfl
theorem CpuRegisters_k21 : ((Rows.cpuRegistersRow.loopsOut == Tryz.f3.resultTypes.toList.any (Tryz.prog.loopsFrom ·))) = true := by kernel_rfl
theorem CpuRegisters_k22 : ((Rows.cpuRegistersRow.plainKeys == Tryz.prog.plainKeys)) = true := by kernel_rfl
theorem CpuRegisters_k23 : (Rows.cpuRegistersRow.shortTexts.isNone) = true := by kernel_rfl
theorem CpuRegisters_k24 : (Tryz.prog.stopsHeard) = true := by kernel_rfl
theorem CpuRegisters_k25 : (Tryz.prog.mayEnter) = true := by kernel_rfl
theorem CpuRegisters_k26 : ((Rows.cpuRegistersRow.lifted == Tryz.prog.liftsFinal)) = true := by kernel_rfl
theorem CpuRegisters_k27 : ((Tryz.prog.make == some Rows.cpuRegistersRow.make)) = true := by kernel_rfl
theorem CpuRegisters_k28 : ((Rows.cpuRegistersRow.kinds == (if Rows.cpuRegistersRow.domain.isEmpty then [] else Tryz.f3.params.toList.map fun t => match Tryz.prog.underlying t with | some (.int k) => some k | _ => none))) = true := by kernel_rfl
theorem CpuRegisters_k29 : ((Rows.cpuRegistersRow.pinned == Rows.cpuRegistersRow.pinnedBy)) = true := by kernel_rfl
theorem CpuRegisters_k30 : ((Rows.cpuRegistersRow.veiled == (Tryz.f3.params.toList ++ Rows.cpuRegistersSpec.plain.varTypes Tryz.prog ++ Tryz.f3.resultTypes.toList).any (Tryz.prog.veiledRec ·))) = true := by kernel_rfl
theorem CpuRegisters_k31 : (Rows.cpuRegistersRow.veiledFits Tryz.prog Tryz.f3.params.toList (Tryz.f3.params.toList ++ Rows.cpuRegistersSpec.plain.varTypes Tryz.prog ++ Tryz.f3.resultTypes.toList)) = true := by kernel_rfl
theorem CpuRegisters_closed : joinedFacts Tryz.prog 3 Tryz.f3 Rows.cpuRegistersSpec Rows.cpuRegistersRow = true := by
  unfold joinedFacts
  simp only [Bool.and_eq_true]
  exact ⟨⟨⟨⟨⟨⟨⟨⟨⟨⟨⟨⟨⟨⟨⟨⟨⟨⟨⟨⟨⟨⟨⟨⟨⟨⟨⟨⟨⟨⟨⟨CpuRegisters_k0, CpuRegisters_k1⟩, CpuRegisters_k2⟩, CpuRegisters_k3⟩, CpuRegisters_k4⟩, CpuRegisters_k5⟩, CpuRegisters_k6⟩, CpuRegisters_k7⟩, CpuRegisters_k8⟩, CpuRegisters_k9⟩, CpuRegisters_k10⟩, CpuRegisters_k11⟩, CpuRegisters_k12⟩, CpuRegisters_k13⟩, CpuRegisters_k14⟩, CpuRegisters_k15⟩, CpuRegisters_k16⟩, CpuRegisters_k17⟩, CpuRegisters_k18⟩, CpuRegisters_k19⟩, CpuRegisters_k20⟩, CpuRegisters_k21⟩, CpuRegisters_k22⟩, CpuRegisters_k23⟩, CpuRegisters_k24⟩, CpuRegisters_k25⟩, CpuRegisters_k26⟩, CpuRegisters_k27⟩, CpuRegisters_k28⟩, CpuRegisters_k29⟩, CpuRegisters_k30⟩, CpuRegisters_k31⟩
end Go.Proofs.YtlegcfjafdihlaaGreatDoor
