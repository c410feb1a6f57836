/-
  DERIVED. GIVEN WITH THE SEED: THE CARDS: each row of YtdbbnkjnmldnpaaGreatDoorRows.lean that lists a variable, with what it lists TIED to the program's text (the seventh form; the later family's looks); each row that meets fmt, with fmt's text TOLD by the authors' own Lean function (tested against real Go, not proved from fmt's source: count such statements apart). THE CARD IS WHAT COUNTS. Prove the row's statement (the work); the ties are given (YtdbbnkjnmldnpaaGreatDoorTie.lean); close each card by the builder's one call (the guide's Derived/Test/ToyasCard.lean, 'card_holds'). Laid BY PROGRAM, IN A SANDBOX (cutbox-door.mjs). By AI agents, Wed Nov 11 2026. No macro, syntax, notation, axiom, sorry.
-/
import Derived.Test.YtdbbnkjnmldnpaaGreatDoorRows
import GoSem.ClaimSeven
namespace Go.Proofs.YtdbbnkjnmldnpaaGreatDoor
namespace Rows

/-- THE TIED CARD OF 'emulatorlaw07.DisasmLines'. -/
def disasmLinesCard : Claim7 := { stood := { row := disasmLinesRow, standIns := [], harness := (true, "a4f8f2f0032e9d6af1a07e0c1db7c5c2775e92af5fab2958387661271f9a8c3c"), looks := false }, kinds := [], alts := [], laidByText := true, laidKinds := [.data, .data, .data, .data, .data, .data, .wider, .data, .data, .data, .data], laidTests := true, laidLooks := .later }
def DisasmLinesCardSaid : Prop := Claim7.holds Tryz.pinned (.plain (OpenSpec.ofChange disasmLinesSpec)) disasmLinesCard

/-- THE SECOND FORM's CARD OF 'emulatorlaw07.DisasmLines'. -/
def disasmLinesUptoCard : Claim7 := { stood := { row := disasmLinesUptoRow, standIns := [], harness := (true, "a4f8f2f0032e9d6af1a07e0c1db7c5c2775e92af5fab2958387661271f9a8c3c"), looks := false }, kinds := [], alts := [], laidByText := true, laidKinds := [.data, .data, .data, .data, .data, .data, .wider, .data, .data, .data, .data], laidTests := true, laidLooks := .later }
def DisasmLinesUptoCardSaid : Prop := Claim7.holds Tryz.pinned (.plain (OpenSpec.upto disasmLinesSpec)) disasmLinesUptoCard
end Rows
end Go.Proofs.YtdbbnkjnmldnpaaGreatDoor
