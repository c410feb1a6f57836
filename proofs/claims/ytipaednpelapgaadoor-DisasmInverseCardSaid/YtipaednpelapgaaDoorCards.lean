/-
  DERIVED. GIVEN WITH THE SEED: THE CARDS: each row of YtipaednpelapgaaDoorRows.lean that lists a variable, with what it lists TIED to the program's text (the seventh form; the later family's looks); each row that meets fmt, with fmt's text TOLD by the authors' own Lean function (tested against real Go, not proved from fmt's source: count such statements apart). THE CARD IS WHAT COUNTS. Prove the row's statement (the work); the ties are given (YtipaednpelapgaaDoorTie.lean); close each card by the builder's one call (the guide's Derived/Test/ToyasCard.lean, 'card_holds'). Laid BY PROGRAM, IN A SANDBOX (cutbox-door.mjs). By AI agents, Wed Nov 11 2026. No macro, syntax, notation, axiom, sorry.
-/
import Derived.Test.YtipaednpelapgaaDoorRows
import GoSem.ClaimSeven
namespace Go.Proofs.YtipaednpelapgaaDoor
namespace Rows

/-- THE TIED CARD OF 'emulatorlaw07.DisasmNames'. -/
def disasmNamesCard : Claim7 := { stood := { row := disasmNamesRow, standIns := [], harness := (true, "a076d13a380fafea24ea8502387b60bd4428bf122a40b7201ef3297e813b471a"), looks := false }, kinds := [], alts := [], laidByText := true, laidKinds := [.data, .data, .data, .data, .data, .wider, .data, .data, .data, .data], laidTests := true, laidLooks := .later }
def DisasmNamesCardSaid : Prop := Claim7.holds Tryd.pinned (.plain (OpenSpec.ofChange disasmNamesSpec)) disasmNamesCard

/-- THE TIED CARD OF 'emulatorlaw07.DisasmOperands'. -/
def disasmOperandsCard : Claim7 := { stood := { row := disasmOperandsRow, standIns := [], harness := (true, "a076d13a380fafea24ea8502387b60bd4428bf122a40b7201ef3297e813b471a"), looks := false }, kinds := [], alts := [], laidByText := true, laidKinds := [.data, .data, .data, .wider, .data, .data, .data, .data], laidTests := true, laidLooks := .later }
def DisasmOperandsCardSaid : Prop := Claim7.holds Tryd.pinned (.plain (OpenSpec.ofChange disasmOperandsSpec)) disasmOperandsCard

/-- THE TIED CARD OF 'emulatorlaw07.DisasmTexts'. -/
def disasmTextsCard : Claim7 := { stood := { row := disasmTextsRow, standIns := [], harness := (true, "a076d13a380fafea24ea8502387b60bd4428bf122a40b7201ef3297e813b471a"), looks := false }, kinds := [], alts := [], laidByText := true, laidKinds := [.data, .data, .data, .data, .data, .data, .wider, .data, .data, .data, .data], laidTests := true, laidLooks := .later }
def DisasmTextsCardSaid : Prop := Claim7.holds Tryd.pinned (.plain (OpenSpec.ofChange disasmTextsSpec)) disasmTextsCard

/-- THE TIED CARD OF 'emulatorlaw07.DisasmInverse'. -/
def disasmInverseCard : Claim7 := { stood := { row := disasmInverseRow, standIns := [], harness := (true, "a076d13a380fafea24ea8502387b60bd4428bf122a40b7201ef3297e813b471a"), looks := false }, kinds := [], alts := [], laidByText := true, laidKinds := [.data, .data, .wider, .data, .data, .data, .data], laidTests := true, laidLooks := .later }
def DisasmInverseCardSaid : Prop := Claim7.holds Tryd.pinned (.plain (OpenSpec.ofChange disasmInverseSpec)) disasmInverseCard

/-- THE TIED CARD OF 'emulatorlaw07.DisasmCounts'. -/
def disasmCountsCard : Claim7 := { stood := { row := disasmCountsRow, standIns := [], harness := (true, "a076d13a380fafea24ea8502387b60bd4428bf122a40b7201ef3297e813b471a"), looks := false }, kinds := [], alts := [], laidByText := true, laidKinds := [.data, .data, .wider, .data, .data, .data, .data], laidTests := true, laidLooks := .later }
def DisasmCountsCardSaid : Prop := Claim7.holds Tryd.pinned (.plain (OpenSpec.ofChange disasmCountsSpec)) disasmCountsCard

/-- THE SECOND FORM's CARD OF 'emulatorlaw07.DisasmNames'. -/
def disasmNamesUptoCard : Claim7 := { stood := { row := disasmNamesUptoRow, standIns := [], harness := (true, "a076d13a380fafea24ea8502387b60bd4428bf122a40b7201ef3297e813b471a"), looks := false }, kinds := [], alts := [], laidByText := true, laidKinds := [.data, .data, .data, .data, .data, .wider, .data, .data, .data, .data], laidTests := true, laidLooks := .later }
def DisasmNamesUptoCardSaid : Prop := Claim7.holds Tryd.pinned (.plain (OpenSpec.upto disasmNamesSpec)) disasmNamesUptoCard

/-- THE SECOND FORM's CARD OF 'emulatorlaw07.DisasmOperands'. -/
def disasmOperandsUptoCard : Claim7 := { stood := { row := disasmOperandsUptoRow, standIns := [], harness := (true, "a076d13a380fafea24ea8502387b60bd4428bf122a40b7201ef3297e813b471a"), looks := false }, kinds := [], alts := [], laidByText := true, laidKinds := [.data, .data, .data, .wider, .data, .data, .data, .data], laidTests := true, laidLooks := .later }
def DisasmOperandsUptoCardSaid : Prop := Claim7.holds Tryd.pinned (.plain (OpenSpec.upto disasmOperandsSpec)) disasmOperandsUptoCard

/-- THE SECOND FORM's CARD OF 'emulatorlaw07.DisasmTexts'. -/
def disasmTextsUptoCard : Claim7 := { stood := { row := disasmTextsUptoRow, standIns := [], harness := (true, "a076d13a380fafea24ea8502387b60bd4428bf122a40b7201ef3297e813b471a"), looks := false }, kinds := [], alts := [], laidByText := true, laidKinds := [.data, .data, .data, .data, .data, .data, .wider, .data, .data, .data, .data], laidTests := true, laidLooks := .later }
def DisasmTextsUptoCardSaid : Prop := Claim7.holds Tryd.pinned (.plain (OpenSpec.upto disasmTextsSpec)) disasmTextsUptoCard

/-- THE SECOND FORM's CARD OF 'emulatorlaw07.DisasmInverse'. -/
def disasmInverseUptoCard : Claim7 := { stood := { row := disasmInverseUptoRow, standIns := [], harness := (true, "a076d13a380fafea24ea8502387b60bd4428bf122a40b7201ef3297e813b471a"), looks := false }, kinds := [], alts := [], laidByText := true, laidKinds := [.data, .data, .wider, .data, .data, .data, .data], laidTests := true, laidLooks := .later }
def DisasmInverseUptoCardSaid : Prop := Claim7.holds Tryd.pinned (.plain (OpenSpec.upto disasmInverseSpec)) disasmInverseUptoCard

/-- THE SECOND FORM's CARD OF 'emulatorlaw07.DisasmCounts'. -/
def disasmCountsUptoCard : Claim7 := { stood := { row := disasmCountsUptoRow, standIns := [], harness := (true, "a076d13a380fafea24ea8502387b60bd4428bf122a40b7201ef3297e813b471a"), looks := false }, kinds := [], alts := [], laidByText := true, laidKinds := [.data, .data, .wider, .data, .data, .data, .data], laidTests := true, laidLooks := .later }
def DisasmCountsUptoCardSaid : Prop := Claim7.holds Tryd.pinned (.plain (OpenSpec.upto disasmCountsSpec)) disasmCountsUptoCard
end Rows
end Go.Proofs.YtipaednpelapgaaDoor
