/-
  DERIVED. GIVEN WITH THE SEED: THE CARDS: each row of YtbcnehjpondplaaDoorRows.lean that lists a variable, with what it lists TIED to the program's text (the seventh form; the later family's looks); each row that meets fmt, with fmt's text TOLD by the authors' own Lean function (tested against real Go, not proved from fmt's source: count such statements apart). THE CARD IS WHAT COUNTS. Prove the row's statement (the work); the ties are given (YtbcnehjpondplaaDoorTie.lean); close each card by the builder's one call (the guide's Derived/Test/ToyasCard.lean, 'card_holds'). Laid BY PROGRAM, IN A SANDBOX (cutbox-door.mjs). By AI agents, Wed Nov 11 2026. No macro, syntax, notation, axiom, sorry.
-/
import Derived.Test.YtbcnehjpondplaaDoorRows
import GoSem.ClaimSeven
namespace Go.Proofs.YtbcnehjpondplaaDoor
namespace Rows

/-- THE TIED CARD OF 'emulatorlaw03.OctetPuts'. -/
def octetPutsCard : Claim7 := { stood := { row := octetPutsRow, standIns := [], harness := (true, "7782be22a591d19ec070a322af082a49e02b63716ac3378a8327fcfcfde5c44e"), looks := false }, kinds := [], alts := [], laidByText := true, laidKinds := [.data], laidTests := true, laidLooks := .later }
def OctetPutsCardSaid : Prop := Claim7.holds Tryd.pinned (.plain (OpenSpec.ofChange octetPutsSpec)) octetPutsCard

/-- THE TIED CARD OF 'emulatorlaw03.OctetGets'. -/
def octetGetsCard : Claim7 := { stood := { row := octetGetsRow, standIns := [], harness := (true, "7782be22a591d19ec070a322af082a49e02b63716ac3378a8327fcfcfde5c44e"), looks := false }, kinds := [], alts := [], laidByText := true, laidKinds := [.data], laidTests := true, laidLooks := .later }
def OctetGetsCardSaid : Prop := Claim7.holds Tryd.pinned (.plain (OpenSpec.ofChange octetGetsSpec)) octetGetsCard

/-- THE TIED CARD OF 'emulatorlaw03.OctetTexts'. -/
def octetTextsCard : Claim7 := { stood := { row := octetTextsRow, standIns := [], harness := (true, "7782be22a591d19ec070a322af082a49e02b63716ac3378a8327fcfcfde5c44e"), looks := false }, kinds := [], alts := [], laidByText := true, laidKinds := [.data], laidTests := true, laidLooks := .later }
def OctetTextsCardSaid : Prop := Claim7.holds Tryd.pinned (.plain (OpenSpec.ofChange octetTextsSpec)) octetTextsCard

/-- THE TIED CARD OF 'emulatorlaw03.OctetWords'. -/
def octetWordsCard : Claim7 := { stood := { row := octetWordsRow, standIns := [], harness := (true, "7782be22a591d19ec070a322af082a49e02b63716ac3378a8327fcfcfde5c44e"), looks := false }, kinds := [], alts := [], laidByText := true, laidKinds := [.data], laidTests := true, laidLooks := .later }
def OctetWordsCardSaid : Prop := Claim7.holds Tryd.pinned (.plain (OpenSpec.ofChange octetWordsSpec)) octetWordsCard

/-- THE TIED CARD OF 'emulatorlaw03.OctetSums'. -/
def octetSumsCard : Claim7 := { stood := { row := octetSumsRow, standIns := [], harness := (true, "7782be22a591d19ec070a322af082a49e02b63716ac3378a8327fcfcfde5c44e"), looks := false }, kinds := [], alts := [], laidByText := true, laidKinds := [.data], laidTests := true, laidLooks := .later }
def OctetSumsCardSaid : Prop := Claim7.holds Tryd.pinned (.plain (OpenSpec.ofChange octetSumsSpec)) octetSumsCard

/-- THE TIED CARD OF 'emulatorlaw03.OctetBack'. -/
def octetBackCard : Claim7 := { stood := { row := octetBackRow, standIns := [], harness := (true, "7782be22a591d19ec070a322af082a49e02b63716ac3378a8327fcfcfde5c44e"), looks := false }, kinds := [], alts := [], laidByText := true, laidKinds := [.data], laidTests := true, laidLooks := .later }
def OctetBackCardSaid : Prop := Claim7.holds Tryd.pinned (.plain (OpenSpec.ofChange octetBackSpec)) octetBackCard

/-- THE TIED CARD OF 'emulatorlaw03.OctetDamage'. -/
def octetDamageCard : Claim7 := { stood := { row := octetDamageRow, standIns := [], harness := (true, "7782be22a591d19ec070a322af082a49e02b63716ac3378a8327fcfcfde5c44e"), looks := false }, kinds := [], alts := [], laidByText := true, laidKinds := [.data], laidTests := true, laidLooks := .later }
def OctetDamageCardSaid : Prop := Claim7.holds Tryd.pinned (.plain (OpenSpec.ofChange octetDamageSpec)) octetDamageCard

/-- THE SECOND FORM's CARD OF 'emulatorlaw03.OctetPuts'. -/
def octetPutsUptoCard : Claim7 := { stood := { row := octetPutsUptoRow, standIns := [], harness := (true, "7782be22a591d19ec070a322af082a49e02b63716ac3378a8327fcfcfde5c44e"), looks := false }, kinds := [], alts := [], laidByText := true, laidKinds := [.data], laidTests := true, laidLooks := .later }
def OctetPutsUptoCardSaid : Prop := Claim7.holds Tryd.pinned (.plain (OpenSpec.upto octetPutsSpec)) octetPutsUptoCard

/-- THE SECOND FORM's CARD OF 'emulatorlaw03.OctetGets'. -/
def octetGetsUptoCard : Claim7 := { stood := { row := octetGetsUptoRow, standIns := [], harness := (true, "7782be22a591d19ec070a322af082a49e02b63716ac3378a8327fcfcfde5c44e"), looks := false }, kinds := [], alts := [], laidByText := true, laidKinds := [.data], laidTests := true, laidLooks := .later }
def OctetGetsUptoCardSaid : Prop := Claim7.holds Tryd.pinned (.plain (OpenSpec.upto octetGetsSpec)) octetGetsUptoCard

/-- THE SECOND FORM's CARD OF 'emulatorlaw03.OctetTexts'. -/
def octetTextsUptoCard : Claim7 := { stood := { row := octetTextsUptoRow, standIns := [], harness := (true, "7782be22a591d19ec070a322af082a49e02b63716ac3378a8327fcfcfde5c44e"), looks := false }, kinds := [], alts := [], laidByText := true, laidKinds := [.data], laidTests := true, laidLooks := .later }
def OctetTextsUptoCardSaid : Prop := Claim7.holds Tryd.pinned (.plain (OpenSpec.upto octetTextsSpec)) octetTextsUptoCard

/-- THE SECOND FORM's CARD OF 'emulatorlaw03.OctetWords'. -/
def octetWordsUptoCard : Claim7 := { stood := { row := octetWordsUptoRow, standIns := [], harness := (true, "7782be22a591d19ec070a322af082a49e02b63716ac3378a8327fcfcfde5c44e"), looks := false }, kinds := [], alts := [], laidByText := true, laidKinds := [.data], laidTests := true, laidLooks := .later }
def OctetWordsUptoCardSaid : Prop := Claim7.holds Tryd.pinned (.plain (OpenSpec.upto octetWordsSpec)) octetWordsUptoCard

/-- THE SECOND FORM's CARD OF 'emulatorlaw03.OctetSums'. -/
def octetSumsUptoCard : Claim7 := { stood := { row := octetSumsUptoRow, standIns := [], harness := (true, "7782be22a591d19ec070a322af082a49e02b63716ac3378a8327fcfcfde5c44e"), looks := false }, kinds := [], alts := [], laidByText := true, laidKinds := [.data], laidTests := true, laidLooks := .later }
def OctetSumsUptoCardSaid : Prop := Claim7.holds Tryd.pinned (.plain (OpenSpec.upto octetSumsSpec)) octetSumsUptoCard

/-- THE SECOND FORM's CARD OF 'emulatorlaw03.OctetBack'. -/
def octetBackUptoCard : Claim7 := { stood := { row := octetBackUptoRow, standIns := [], harness := (true, "7782be22a591d19ec070a322af082a49e02b63716ac3378a8327fcfcfde5c44e"), looks := false }, kinds := [], alts := [], laidByText := true, laidKinds := [.data], laidTests := true, laidLooks := .later }
def OctetBackUptoCardSaid : Prop := Claim7.holds Tryd.pinned (.plain (OpenSpec.upto octetBackSpec)) octetBackUptoCard

/-- THE SECOND FORM's CARD OF 'emulatorlaw03.OctetDamage'. -/
def octetDamageUptoCard : Claim7 := { stood := { row := octetDamageUptoRow, standIns := [], harness := (true, "7782be22a591d19ec070a322af082a49e02b63716ac3378a8327fcfcfde5c44e"), looks := false }, kinds := [], alts := [], laidByText := true, laidKinds := [.data], laidTests := true, laidLooks := .later }
def OctetDamageUptoCardSaid : Prop := Claim7.holds Tryd.pinned (.plain (OpenSpec.upto octetDamageSpec)) octetDamageUptoCard
end Rows
end Go.Proofs.YtbcnehjpondplaaDoor
