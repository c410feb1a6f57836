/-
  DERIVED. GIVEN WITH THE SEED: THE CARDS: each row of YtlegcfjafdihlaaGreatDoorRows.lean that lists a variable, with what it lists TIED to the program's text (the seventh form; the later family's looks); each row that meets fmt, with fmt's text TOLD by the authors' own Lean function (tested against real Go, not proved from fmt's source: count such statements apart). THE CARD IS WHAT COUNTS. Prove the row's statement (the work); the ties are given (YtlegcfjafdihlaaGreatDoorTie.lean); close each card by the builder's one call (the guide's Derived/Test/ToyasCard.lean, 'card_holds'). Laid BY PROGRAM, IN A SANDBOX (cutbox-door.mjs). By AI agents, Wed Nov 11 2026. No macro, syntax, notation, axiom, sorry.
-/
import Derived.Test.YtlegcfjafdihlaaGreatDoorRows
import GoSem.ClaimSeven
namespace Go.Proofs.YtlegcfjafdihlaaGreatDoor
namespace Rows

/-- THE TIED CARD OF 'emulatorlaw19.CpuRegisters'. -/
def cpuRegistersCard : Claim7 := { stood := { row := cpuRegistersRow, standIns := [], harness := (true, "8f3886b0dbf0316ad37c4d8691c6c6987a661e0a7ab8873401269f1b210159d7"), looks := false }, kinds := [], alts := [], laidByText := true, laidKinds := [.data, .wider, .data, .data, .wider], laidTests := true, laidLooks := .later }
def CpuRegistersCardSaid : Prop := Claim7.holds Tryz.pinned (.plain (OpenSpec.ofChange cpuRegistersSpec)) cpuRegistersCard

/-- THE TIED CARD OF 'emulatorlaw20.MachineNews'. -/
def machineNewsCard : Claim7 := { stood := { row := machineNewsRow, standIns := [], harness := (true, "8f3886b0dbf0316ad37c4d8691c6c6987a661e0a7ab8873401269f1b210159d7"), looks := false }, kinds := [], alts := [], laidByText := true, laidKinds := [.data, .wider, .data, .data, .wider], laidTests := true, laidLooks := .later }
def MachineNewsCardSaid : Prop := Claim7.holds Tryz.pinned (.plain (OpenSpec.ofChange machineNewsSpec)) machineNewsCard

/-- THE TIED CARD OF 'emulatorlaw20.MachineRight'. -/
def machineRightCard : Claim7 := { stood := { row := machineRightRow, standIns := [], harness := (true, "8f3886b0dbf0316ad37c4d8691c6c6987a661e0a7ab8873401269f1b210159d7"), looks := false }, kinds := [], alts := [], laidByText := true, laidKinds := [.data, .wider, .data, .data, .wider], laidTests := true, laidLooks := .later }
def MachineRightCardSaid : Prop := Claim7.holds Tryz.pinned (.plain (OpenSpec.ofChange machineRightSpec)) machineRightCard

/-- THE TIED CARD OF 'emulatorlaw20.MachineCopies'. -/
def machineCopiesCard : Claim7 := { stood := { row := machineCopiesRow, standIns := [], harness := (true, "8f3886b0dbf0316ad37c4d8691c6c6987a661e0a7ab8873401269f1b210159d7"), looks := false }, kinds := [], alts := [], laidByText := true, laidKinds := [.data, .wider, .data, .data, .wider], laidTests := true, laidLooks := .later }
def MachineCopiesCardSaid : Prop := Claim7.holds Tryz.pinned (.plain (OpenSpec.ofChange machineCopiesSpec)) machineCopiesCard

/-- THE SECOND FORM's CARD OF 'emulatorlaw19.CpuRegisters'. -/
def cpuRegistersUptoCard : Claim7 := { stood := { row := cpuRegistersUptoRow, standIns := [], harness := (true, "8f3886b0dbf0316ad37c4d8691c6c6987a661e0a7ab8873401269f1b210159d7"), looks := false }, kinds := [], alts := [], laidByText := true, laidKinds := [.data, .wider, .data, .data, .wider], laidTests := true, laidLooks := .later }
def CpuRegistersUptoCardSaid : Prop := Claim7.holds Tryz.pinned (.plain (OpenSpec.upto cpuRegistersSpec)) cpuRegistersUptoCard

/-- THE SECOND FORM's CARD OF 'emulatorlaw20.MachineNews'. -/
def machineNewsUptoCard : Claim7 := { stood := { row := machineNewsUptoRow, standIns := [], harness := (true, "8f3886b0dbf0316ad37c4d8691c6c6987a661e0a7ab8873401269f1b210159d7"), looks := false }, kinds := [], alts := [], laidByText := true, laidKinds := [.data, .wider, .data, .data, .wider], laidTests := true, laidLooks := .later }
def MachineNewsUptoCardSaid : Prop := Claim7.holds Tryz.pinned (.plain (OpenSpec.upto machineNewsSpec)) machineNewsUptoCard

/-- THE SECOND FORM's CARD OF 'emulatorlaw20.MachineRight'. -/
def machineRightUptoCard : Claim7 := { stood := { row := machineRightUptoRow, standIns := [], harness := (true, "8f3886b0dbf0316ad37c4d8691c6c6987a661e0a7ab8873401269f1b210159d7"), looks := false }, kinds := [], alts := [], laidByText := true, laidKinds := [.data, .wider, .data, .data, .wider], laidTests := true, laidLooks := .later }
def MachineRightUptoCardSaid : Prop := Claim7.holds Tryz.pinned (.plain (OpenSpec.upto machineRightSpec)) machineRightUptoCard

/-- THE SECOND FORM's CARD OF 'emulatorlaw20.MachineCopies'. -/
def machineCopiesUptoCard : Claim7 := { stood := { row := machineCopiesUptoRow, standIns := [], harness := (true, "8f3886b0dbf0316ad37c4d8691c6c6987a661e0a7ab8873401269f1b210159d7"), looks := false }, kinds := [], alts := [], laidByText := true, laidKinds := [.data, .wider, .data, .data, .wider], laidTests := true, laidLooks := .later }
def MachineCopiesUptoCardSaid : Prop := Claim7.holds Tryz.pinned (.plain (OpenSpec.upto machineCopiesSpec)) machineCopiesUptoCard
end Rows
end Go.Proofs.YtlegcfjafdihlaaGreatDoor
