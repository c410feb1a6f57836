/-
  DERIVED. GIVEN WITH THE SEED: THE CARDS: each row of YtlaikajgpgpidaaDoorRows.lean that lists a variable, with what it lists TIED to the program's text (the seventh form; the later family's looks); each row that meets fmt, with fmt's text TOLD by the authors' own Lean function (tested against real Go, not proved from fmt's source: count such statements apart). THE CARD IS WHAT COUNTS. Prove the row's statement (the work); the ties are given (YtlaikajgpgpidaaDoorTie.lean); close each card by the builder's one call (the guide's Derived/Test/ToyasCard.lean, 'card_holds'). Laid BY PROGRAM, IN A SANDBOX (cutbox-door.mjs). By AI agents, Wed Nov 11 2026. No macro, syntax, notation, axiom, sorry.
-/
import Derived.Test.YtlaikajgpgpidaaDoorRows
import GoSem.ClaimSeven
namespace Go.Proofs.YtlaikajgpgpidaaDoor
namespace Rows

/-- THE TIED CARD OF 'emulatorlaw06.InstDecodes'. -/
def instDecodesCard : Claim7 := { stood := { row := instDecodesRow, standIns := [], harness := (true, "5827e8d65e5f17080484420e2b025a966e98ffd7832cddbe9c32d46fe5c25c98"), looks := false }, kinds := [], alts := [], laidByText := true, laidKinds := [.data, .data, .wider], laidTests := true, laidLooks := .later }
def InstDecodesCardSaid : Prop := Claim7.holds Tryd.pinned (.plain (OpenSpec.ofChange instDecodesSpec)) instDecodesCard

/-- THE TIED CARD OF 'emulatorlaw06.InstEncodes'. -/
def instEncodesCard : Claim7 := { stood := { row := instEncodesRow, standIns := [], harness := (true, "5827e8d65e5f17080484420e2b025a966e98ffd7832cddbe9c32d46fe5c25c98"), looks := false }, kinds := [], alts := [], laidByText := true, laidKinds := [.data, .data, .wider], laidTests := true, laidLooks := .later }
def InstEncodesCardSaid : Prop := Claim7.holds Tryd.pinned (.plain (OpenSpec.ofChange instEncodesSpec)) instEncodesCard

/-- THE TIED CARD OF 'emulatorlaw06.InstWords'. -/
def instWordsCard : Claim7 := { stood := { row := instWordsRow, standIns := [], harness := (true, "5827e8d65e5f17080484420e2b025a966e98ffd7832cddbe9c32d46fe5c25c98"), looks := false }, kinds := [], alts := [], laidByText := true, laidKinds := [.data, .data, .wider], laidTests := true, laidLooks := .later }
def InstWordsCardSaid : Prop := Claim7.holds Tryd.pinned (.plain (OpenSpec.ofChange instWordsSpec)) instWordsCard

/-- THE TIED CARD OF 'emulatorlaw06.InstBack'. -/
def instBackCard : Claim7 := { stood := { row := instBackRow, standIns := [], harness := (true, "5827e8d65e5f17080484420e2b025a966e98ffd7832cddbe9c32d46fe5c25c98"), looks := false }, kinds := [], alts := [], laidByText := true, laidKinds := [.data, .data, .wider], laidTests := true, laidLooks := .later }
def InstBackCardSaid : Prop := Claim7.holds Tryd.pinned (.plain (OpenSpec.ofChange instBackSpec)) instBackCard

/-- THE TIED CARD OF 'emulatorlaw06.InstUnique'. -/
def instUniqueCard : Claim7 := { stood := { row := instUniqueRow, standIns := [], harness := (true, "5827e8d65e5f17080484420e2b025a966e98ffd7832cddbe9c32d46fe5c25c98"), looks := false }, kinds := [], alts := [], laidByText := true, laidKinds := [.data, .data, .wider], laidTests := true, laidLooks := .later }
def InstUniqueCardSaid : Prop := Claim7.holds Tryd.pinned (.plain (OpenSpec.ofChange instUniqueSpec)) instUniqueCard

/-- THE SECOND FORM's CARD OF 'emulatorlaw06.InstDecodes'. -/
def instDecodesUptoCard : Claim7 := { stood := { row := instDecodesUptoRow, standIns := [], harness := (true, "5827e8d65e5f17080484420e2b025a966e98ffd7832cddbe9c32d46fe5c25c98"), looks := false }, kinds := [], alts := [], laidByText := true, laidKinds := [.data, .data, .wider], laidTests := true, laidLooks := .later }
def InstDecodesUptoCardSaid : Prop := Claim7.holds Tryd.pinned (.plain (OpenSpec.upto instDecodesSpec)) instDecodesUptoCard

/-- THE SECOND FORM's CARD OF 'emulatorlaw06.InstEncodes'. -/
def instEncodesUptoCard : Claim7 := { stood := { row := instEncodesUptoRow, standIns := [], harness := (true, "5827e8d65e5f17080484420e2b025a966e98ffd7832cddbe9c32d46fe5c25c98"), looks := false }, kinds := [], alts := [], laidByText := true, laidKinds := [.data, .data, .wider], laidTests := true, laidLooks := .later }
def InstEncodesUptoCardSaid : Prop := Claim7.holds Tryd.pinned (.plain (OpenSpec.upto instEncodesSpec)) instEncodesUptoCard

/-- THE SECOND FORM's CARD OF 'emulatorlaw06.InstWords'. -/
def instWordsUptoCard : Claim7 := { stood := { row := instWordsUptoRow, standIns := [], harness := (true, "5827e8d65e5f17080484420e2b025a966e98ffd7832cddbe9c32d46fe5c25c98"), looks := false }, kinds := [], alts := [], laidByText := true, laidKinds := [.data, .data, .wider], laidTests := true, laidLooks := .later }
def InstWordsUptoCardSaid : Prop := Claim7.holds Tryd.pinned (.plain (OpenSpec.upto instWordsSpec)) instWordsUptoCard

/-- THE SECOND FORM's CARD OF 'emulatorlaw06.InstBack'. -/
def instBackUptoCard : Claim7 := { stood := { row := instBackUptoRow, standIns := [], harness := (true, "5827e8d65e5f17080484420e2b025a966e98ffd7832cddbe9c32d46fe5c25c98"), looks := false }, kinds := [], alts := [], laidByText := true, laidKinds := [.data, .data, .wider], laidTests := true, laidLooks := .later }
def InstBackUptoCardSaid : Prop := Claim7.holds Tryd.pinned (.plain (OpenSpec.upto instBackSpec)) instBackUptoCard

/-- THE SECOND FORM's CARD OF 'emulatorlaw06.InstUnique'. -/
def instUniqueUptoCard : Claim7 := { stood := { row := instUniqueUptoRow, standIns := [], harness := (true, "5827e8d65e5f17080484420e2b025a966e98ffd7832cddbe9c32d46fe5c25c98"), looks := false }, kinds := [], alts := [], laidByText := true, laidKinds := [.data, .data, .wider], laidTests := true, laidLooks := .later }
def InstUniqueUptoCardSaid : Prop := Claim7.holds Tryd.pinned (.plain (OpenSpec.upto instUniqueSpec)) instUniqueUptoCard
end Rows
end Go.Proofs.YtlaikajgpgpidaaDoor
