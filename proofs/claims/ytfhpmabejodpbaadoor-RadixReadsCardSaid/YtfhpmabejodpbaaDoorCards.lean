/-
  DERIVED. GIVEN WITH THE SEED: THE CARDS: each row of YtfhpmabejodpbaaDoorRows.lean that lists a variable, with what it lists TIED to the program's text (the seventh form; the later family's looks); each row that meets fmt, with fmt's text TOLD by the authors' own Lean function (tested against real Go, not proved from fmt's source: count such statements apart). THE CARD IS WHAT COUNTS. Prove the row's statement (the work); the ties are given (YtfhpmabejodpbaaDoorTie.lean); close each card by the builder's one call (the guide's Derived/Test/ToyasCard.lean, 'card_holds'). Laid BY PROGRAM, IN A SANDBOX (cutbox-door.mjs). By AI agents, Wed Nov 11 2026. No macro, syntax, notation, axiom, sorry.
-/
import Derived.Test.YtfhpmabejodpbaaDoorRows
import GoSem.ClaimSeven
namespace Go.Proofs.YtfhpmabejodpbaaDoor
namespace Rows

/-- THE TIED CARD OF 'emulatorlaw02.RadixFormats'. -/
def radixFormatsCard : Claim7 := { stood := { row := radixFormatsRow, standIns := [], harness := (true, "0ba686e38401c839991331938ad47ff8fa68fa736fb9f6b3194cc705e7815460"), looks := false }, kinds := [], alts := [], laidByText := true, laidKinds := [.data, .data, .data], laidTests := true, laidLooks := .later }
def RadixFormatsCardSaid : Prop := Claim7.holds Tryd.pinned (.plain (OpenSpec.ofChange radixFormatsSpec)) radixFormatsCard

/-- THE TIED CARD OF 'emulatorlaw02.RadixParses'. -/
def radixParsesCard : Claim7 := { stood := { row := radixParsesRow, standIns := [], harness := (true, "0ba686e38401c839991331938ad47ff8fa68fa736fb9f6b3194cc705e7815460"), looks := false }, kinds := [], alts := [], laidByText := true, laidKinds := [.data, .data, .data], laidTests := true, laidLooks := .later }
def RadixParsesCardSaid : Prop := Claim7.holds Tryd.pinned (.plain (OpenSpec.ofChange radixParsesSpec)) radixParsesCard

/-- THE TIED CARD OF 'emulatorlaw02.RadixFields'. -/
def radixFieldsCard : Claim7 := { stood := { row := radixFieldsRow, standIns := [], harness := (true, "0ba686e38401c839991331938ad47ff8fa68fa736fb9f6b3194cc705e7815460"), looks := false }, kinds := [], alts := [], laidByText := true, laidKinds := [.data, .data, .data], laidTests := true, laidLooks := .later }
def RadixFieldsCardSaid : Prop := Claim7.holds Tryd.pinned (.plain (OpenSpec.ofChange radixFieldsSpec)) radixFieldsCard

/-- THE TIED CARD OF 'emulatorlaw02.RadixQuotes'. -/
def radixQuotesCard : Claim7 := { stood := { row := radixQuotesRow, standIns := [], harness := (true, "0ba686e38401c839991331938ad47ff8fa68fa736fb9f6b3194cc705e7815460"), looks := false }, kinds := [], alts := [], laidByText := true, laidKinds := [.data, .data, .data], laidTests := true, laidLooks := .later }
def RadixQuotesCardSaid : Prop := Claim7.holds Tryd.pinned (.plain (OpenSpec.ofChange radixQuotesSpec)) radixQuotesCard

/-- THE TIED CARD OF 'emulatorlaw02.RadixReads'. -/
def radixReadsCard : Claim7 := { stood := { row := radixReadsRow, standIns := [], harness := (true, "0ba686e38401c839991331938ad47ff8fa68fa736fb9f6b3194cc705e7815460"), looks := false }, kinds := [], alts := [], laidByText := true, laidKinds := [.data, .data, .data], laidTests := true, laidLooks := .later }
def RadixReadsCardSaid : Prop := Claim7.holds Tryd.pinned (.plain (OpenSpec.ofChange radixReadsSpec)) radixReadsCard

/-- THE SECOND FORM's CARD OF 'emulatorlaw02.RadixFormats'. -/
def radixFormatsUptoCard : Claim7 := { stood := { row := radixFormatsUptoRow, standIns := [], harness := (true, "0ba686e38401c839991331938ad47ff8fa68fa736fb9f6b3194cc705e7815460"), looks := false }, kinds := [], alts := [], laidByText := true, laidKinds := [.data, .data, .data], laidTests := true, laidLooks := .later }
def RadixFormatsUptoCardSaid : Prop := Claim7.holds Tryd.pinned (.plain (OpenSpec.upto radixFormatsSpec)) radixFormatsUptoCard

/-- THE SECOND FORM's CARD OF 'emulatorlaw02.RadixParses'. -/
def radixParsesUptoCard : Claim7 := { stood := { row := radixParsesUptoRow, standIns := [], harness := (true, "0ba686e38401c839991331938ad47ff8fa68fa736fb9f6b3194cc705e7815460"), looks := false }, kinds := [], alts := [], laidByText := true, laidKinds := [.data, .data, .data], laidTests := true, laidLooks := .later }
def RadixParsesUptoCardSaid : Prop := Claim7.holds Tryd.pinned (.plain (OpenSpec.upto radixParsesSpec)) radixParsesUptoCard

/-- THE SECOND FORM's CARD OF 'emulatorlaw02.RadixFields'. -/
def radixFieldsUptoCard : Claim7 := { stood := { row := radixFieldsUptoRow, standIns := [], harness := (true, "0ba686e38401c839991331938ad47ff8fa68fa736fb9f6b3194cc705e7815460"), looks := false }, kinds := [], alts := [], laidByText := true, laidKinds := [.data, .data, .data], laidTests := true, laidLooks := .later }
def RadixFieldsUptoCardSaid : Prop := Claim7.holds Tryd.pinned (.plain (OpenSpec.upto radixFieldsSpec)) radixFieldsUptoCard

/-- THE SECOND FORM's CARD OF 'emulatorlaw02.RadixQuotes'. -/
def radixQuotesUptoCard : Claim7 := { stood := { row := radixQuotesUptoRow, standIns := [], harness := (true, "0ba686e38401c839991331938ad47ff8fa68fa736fb9f6b3194cc705e7815460"), looks := false }, kinds := [], alts := [], laidByText := true, laidKinds := [.data, .data, .data], laidTests := true, laidLooks := .later }
def RadixQuotesUptoCardSaid : Prop := Claim7.holds Tryd.pinned (.plain (OpenSpec.upto radixQuotesSpec)) radixQuotesUptoCard

/-- THE SECOND FORM's CARD OF 'emulatorlaw02.RadixReads'. -/
def radixReadsUptoCard : Claim7 := { stood := { row := radixReadsUptoRow, standIns := [], harness := (true, "0ba686e38401c839991331938ad47ff8fa68fa736fb9f6b3194cc705e7815460"), looks := false }, kinds := [], alts := [], laidByText := true, laidKinds := [.data, .data, .data], laidTests := true, laidLooks := .later }
def RadixReadsUptoCardSaid : Prop := Claim7.holds Tryd.pinned (.plain (OpenSpec.upto radixReadsSpec)) radixReadsUptoCard
end Rows
end Go.Proofs.YtfhpmabejodpbaaDoor
