/-
  NARROWER THAN 'FOR EVERY INPUT', by the rows' own cells (each row's printed sentence says how): OctetPuts: laid · OctetGets: laid · OctetTexts: laid · OctetWords: laid · OctetSums: laid · OctetBack: laid · OctetDamage: laid.
  DERIVED. THE GIVEN ROWS OF THIS SEAT. 7 by the template 'for every input the law returns true; each argument reads behind the call as it read before'; 0 by the template 'total and deterministic' (their statements: YtbcnehjpondplaaDoorTotals.lean).
  GIVEN WITH THE SEED: the statements are not yours to turn. If you find one false, say at which input.
  Laid BY PROGRAM, IN A SANDBOX (cutbox-rows.mjs): the forced cells as the released guide's own fill.sh prints them over the translation 1f8d8b2021c780a9… (all of the seat's roots in one cut). By AI agents, Wed Nov 11 2026. No macro, syntax, notation, axiom, sorry.
-/
import Derived.Test.YtbcnehjpondplaaDoorChecked
import GoSem.Claim
import GoSem.ClaimJoined
import GoSem.ClaimMapViews
import Derived.JoinedTies
import Derived.KernelRfl
namespace Go.Proofs.YtbcnehjpondplaaDoor
/- THE CELL 'sum', in the pinned program and in every row, IS THE sha256 OF THE DUMP (.gsa) THAT YtbcnehjpondplaaDoorProg.lean LOADS. Nothing in Lean hashes anything: it is a label: what it is worth is what the hold of that sum in a sandbox is worth. -/
noncomputable def Tryd.pinned : Pinned := { name := "ytbcnehjpondplaadoor", sum := "1f8d8b2021c780a93f5b59b10de4b8098edaed1438e33f16257110037173c16d", checked := Tryd.checked }
namespace Rows
def none {H : Type} : Left H := { results := [], args := [] }

/- WHAT THE LISTED PACKAGE-LEVEL VARIABLES READ AS WHEN THE CALL BEGINS. Each datum BY PROGRAM (the guide's laid-datum.mjs) off the statement by which the dump's own 'gosem.cut.vars' lays the variable. In a bare row this is a premise. The card (YtbcnehjpondplaaDoorCards.lean) ties it to the program's text. -/
def laid_emulator_octet_remainders {H : Type} : DataW H := .agg [.lit (.int .u32 0), .lit (.int .u32 498536548), .lit (.int .u32 997073096), .lit (.int .u32 651767980), .lit (.int .u32 1994146192), .lit (.int .u32 1802195444), .lit (.int .u32 1303535960), .lit (.int .u32 1342533948), .lit (.int .u32 3988292384), .lit (.int .u32 4027552580), .lit (.int .u32 3604390888), .lit (.int .u32 3412177804), .lit (.int .u32 2607071920), .lit (.int .u32 2262029012), .lit (.int .u32 2685067896), .lit (.int .u32 3183342108)]

/-- 'emulatorlaw03.OctetPuts': WHATEVER THE INPUT: true; the input reads as it did. -/
def octetPutsSpec : ChangeSpec := { name := "octetPuts", fn := fun _ => fun
  | [d1, d2] => { results := [.lit (.bool true)], args := [d1, d2] }
  | _ => none }
def octetPutsRow : OpenClaim := { program := "ytbcnehjpondplaadoor", sum := "1f8d8b2021c780a93f5b59b10de4b8098edaed1438e33f16257110037173c16d", func := "emulator/emulatorlaw03.OctetPuts", spec := "octetPuts", named := ["emulator/octet.remainders"], apart := false, laid := [("emulator/octet.remainders", laid_emulator_octet_remainders)] }
def OctetPutsSaid : Prop := octetPutsRow.holds Tryd.pinned (OpenSpec.ofChange octetPutsSpec)

/-- ITS FALSE NEIGHBOUR: 'it returns false'. Refute it at one input. -/
def octetPutsWrong : ChangeSpec := { name := "octetPuts", fn := fun _ => fun
  | [d1, d2] => { results := [.lit (.bool false)], args := [d1, d2] }
  | _ => none }
def OctetPutsWrongFalsely : Prop := octetPutsRow.holds Tryd.pinned (OpenSpec.ofChange octetPutsWrong)

/-- 'emulatorlaw03.OctetGets': WHATEVER THE INPUT: true; the input reads as it did. -/
def octetGetsSpec : ChangeSpec := { name := "octetGets", fn := fun _ => fun
  | [d1, d2, d3] => { results := [.lit (.bool true)], args := [d1, d2, d3] }
  | _ => none }
def octetGetsRow : OpenClaim := { program := "ytbcnehjpondplaadoor", sum := "1f8d8b2021c780a93f5b59b10de4b8098edaed1438e33f16257110037173c16d", func := "emulator/emulatorlaw03.OctetGets", spec := "octetGets", named := ["emulator/octet.remainders"], apart := false, laid := [("emulator/octet.remainders", laid_emulator_octet_remainders)] }
def OctetGetsSaid : Prop := octetGetsRow.holds Tryd.pinned (OpenSpec.ofChange octetGetsSpec)

/-- ITS FALSE NEIGHBOUR: 'it returns false'. Refute it at one input. -/
def octetGetsWrong : ChangeSpec := { name := "octetGets", fn := fun _ => fun
  | [d1, d2, d3] => { results := [.lit (.bool false)], args := [d1, d2, d3] }
  | _ => none }
def OctetGetsWrongFalsely : Prop := octetGetsRow.holds Tryd.pinned (OpenSpec.ofChange octetGetsWrong)

/-- 'emulatorlaw03.OctetTexts': WHATEVER THE INPUT: true; the input reads as it did. -/
def octetTextsSpec : ChangeSpec := { name := "octetTexts", fn := fun _ => fun
  | [d1, d2, d3] => { results := [.lit (.bool true)], args := [d1, d2, d3] }
  | _ => none }
def octetTextsRow : OpenClaim := { program := "ytbcnehjpondplaadoor", sum := "1f8d8b2021c780a93f5b59b10de4b8098edaed1438e33f16257110037173c16d", func := "emulator/emulatorlaw03.OctetTexts", spec := "octetTexts", named := ["emulator/octet.remainders"], apart := false, laid := [("emulator/octet.remainders", laid_emulator_octet_remainders)] }
def OctetTextsSaid : Prop := octetTextsRow.holds Tryd.pinned (OpenSpec.ofChange octetTextsSpec)

/-- ITS FALSE NEIGHBOUR: 'it returns false'. Refute it at one input. -/
def octetTextsWrong : ChangeSpec := { name := "octetTexts", fn := fun _ => fun
  | [d1, d2, d3] => { results := [.lit (.bool false)], args := [d1, d2, d3] }
  | _ => none }
def OctetTextsWrongFalsely : Prop := octetTextsRow.holds Tryd.pinned (OpenSpec.ofChange octetTextsWrong)

/-- 'emulatorlaw03.OctetWords': WHATEVER THE INPUT: true; the input reads as it did. -/
def octetWordsSpec : ChangeSpec := { name := "octetWords", fn := fun _ => fun
  | [d1, d2] => { results := [.lit (.bool true)], args := [d1, d2] }
  | _ => none }
def octetWordsRow : OpenClaim := { program := "ytbcnehjpondplaadoor", sum := "1f8d8b2021c780a93f5b59b10de4b8098edaed1438e33f16257110037173c16d", func := "emulator/emulatorlaw03.OctetWords", spec := "octetWords", named := ["emulator/octet.remainders"], apart := false, laid := [("emulator/octet.remainders", laid_emulator_octet_remainders)] }
def OctetWordsSaid : Prop := octetWordsRow.holds Tryd.pinned (OpenSpec.ofChange octetWordsSpec)

/-- ITS FALSE NEIGHBOUR: 'it returns false'. Refute it at one input. -/
def octetWordsWrong : ChangeSpec := { name := "octetWords", fn := fun _ => fun
  | [d1, d2] => { results := [.lit (.bool false)], args := [d1, d2] }
  | _ => none }
def OctetWordsWrongFalsely : Prop := octetWordsRow.holds Tryd.pinned (OpenSpec.ofChange octetWordsWrong)

/-- 'emulatorlaw03.OctetSums': WHATEVER THE INPUT: true; the input reads as it did. -/
def octetSumsSpec : ChangeSpec := { name := "octetSums", fn := fun _ => fun
  | [d] => { results := [.lit (.bool true)], args := [d] }
  | _ => none }
def octetSumsRow : OpenClaim := { program := "ytbcnehjpondplaadoor", sum := "1f8d8b2021c780a93f5b59b10de4b8098edaed1438e33f16257110037173c16d", func := "emulator/emulatorlaw03.OctetSums", spec := "octetSums", named := ["emulator/octet.remainders"], apart := false, laid := [("emulator/octet.remainders", laid_emulator_octet_remainders)] }
def OctetSumsSaid : Prop := octetSumsRow.holds Tryd.pinned (OpenSpec.ofChange octetSumsSpec)

/-- ITS FALSE NEIGHBOUR: 'it returns false'. Refute it at one input. -/
def octetSumsWrong : ChangeSpec := { name := "octetSums", fn := fun _ => fun
  | [d] => { results := [.lit (.bool false)], args := [d] }
  | _ => none }
def OctetSumsWrongFalsely : Prop := octetSumsRow.holds Tryd.pinned (OpenSpec.ofChange octetSumsWrong)

/-- 'emulatorlaw03.OctetBack': WHATEVER THE INPUT: true; the input reads as it did. -/
def octetBackSpec : ChangeSpec := { name := "octetBack", fn := fun _ => fun
  | [d1, d2, d3, d4, d5] => { results := [.lit (.bool true)], args := [d1, d2, d3, d4, d5] }
  | _ => none }
def octetBackRow : OpenClaim := { program := "ytbcnehjpondplaadoor", sum := "1f8d8b2021c780a93f5b59b10de4b8098edaed1438e33f16257110037173c16d", func := "emulator/emulatorlaw03.OctetBack", spec := "octetBack", named := ["emulator/octet.remainders"], apart := false, laid := [("emulator/octet.remainders", laid_emulator_octet_remainders)] }
def OctetBackSaid : Prop := octetBackRow.holds Tryd.pinned (OpenSpec.ofChange octetBackSpec)

/-- ITS FALSE NEIGHBOUR: 'it returns false'. Refute it at one input. -/
def octetBackWrong : ChangeSpec := { name := "octetBack", fn := fun _ => fun
  | [d1, d2, d3, d4, d5] => { results := [.lit (.bool false)], args := [d1, d2, d3, d4, d5] }
  | _ => none }
def OctetBackWrongFalsely : Prop := octetBackRow.holds Tryd.pinned (OpenSpec.ofChange octetBackWrong)

/-- 'emulatorlaw03.OctetDamage': WHATEVER THE INPUT: true; the input reads as it did. -/
def octetDamageSpec : ChangeSpec := { name := "octetDamage", fn := fun _ => fun
  | [d1, d2, d3] => { results := [.lit (.bool true)], args := [d1, d2, d3] }
  | _ => none }
def octetDamageRow : OpenClaim := { program := "ytbcnehjpondplaadoor", sum := "1f8d8b2021c780a93f5b59b10de4b8098edaed1438e33f16257110037173c16d", func := "emulator/emulatorlaw03.OctetDamage", spec := "octetDamage", named := ["emulator/octet.remainders"], apart := false, laid := [("emulator/octet.remainders", laid_emulator_octet_remainders)] }
def OctetDamageSaid : Prop := octetDamageRow.holds Tryd.pinned (OpenSpec.ofChange octetDamageSpec)

/-- ITS FALSE NEIGHBOUR: 'it returns false'. Refute it at one input. -/
def octetDamageWrong : ChangeSpec := { name := "octetDamage", fn := fun _ => fun
  | [d1, d2, d3] => { results := [.lit (.bool false)], args := [d1, d2, d3] }
  | _ => none }
def OctetDamageWrongFalsely : Prop := octetDamageRow.holds Tryd.pinned (OpenSpec.ofChange octetDamageWrong)

/- THE SECOND FORM. 'bulk': how many values and letters a reading holds, each counted each time it is reached (what is shared counts as often as it is met; a slice's spare places count too). A statement '..UptoSaid' is the law's where the arguments, and the package variables that the reading takes, are together of bulk at most 1048576: NARROWER than '..Said'. Prove '..Said' where nothing that the law and all that it calls make is longer than what came in: it says more and counts as full. Else prove '..UptoSaid'. A law counts once. -/
mutual
def uptoBulk {H : Type} : DataW H → Nat
  | .lit (.string bytes) => bytes.length + 1
  | .lit _ => 1
  | .nil => 1
  | .ptr d => uptoBulk d + 1
  | .slice elems spare => uptoBulkAll elems + uptoBulkAll spare + 1
  | .agg parts => uptoBulkAll parts + 1
  | .iface _ d => uptoBulk d + 1
  | .map entries => uptoBulkEntries entries + 1
  | .held _ => 1
def uptoBulkAll {H : Type} : List (DataW H) → Nat
  | [] => 0
  | d :: r => uptoBulk d + uptoBulkAll r
def uptoBulkEntries {H : Type} : List (Lit × DataW H) → Nat
  | [] => 0
  | x :: r => uptoBulkEntry x + uptoBulkEntries r
def uptoBulkEntry {H : Type} : Lit × DataW H → Nat
  | (.string bytes, d) => bytes.length + uptoBulk d + 1
  | (_, d) => uptoBulk d + 1
 end
def uptoSmall : (H : Type) → List (DataW H) → Bool := fun _ ds => decide (uptoBulkAll ds ≤ 1048576)
def OpenSpec.upto (s : _root_.Go.ChangeSpec) : _root_.Go.OpenSpec := { _root_.Go.OpenSpec.ofChange s with cond := some uptoSmall }

/-- 'emulatorlaw03.OctetPuts', WHERE WHAT IT READS IS OF BULK AT MOST 1048576: true; the input reads as it did. -/
def octetPutsUptoRow : OpenClaim := { program := "ytbcnehjpondplaadoor", sum := "1f8d8b2021c780a93f5b59b10de4b8098edaed1438e33f16257110037173c16d", func := "emulator/emulatorlaw03.OctetPuts", spec := "octetPuts", named := ["emulator/octet.remainders"], apart := false, laid := [("emulator/octet.remainders", laid_emulator_octet_remainders)], narrowed := true }
def OctetPutsUptoSaid : Prop := octetPutsUptoRow.holds Tryd.pinned (OpenSpec.upto octetPutsSpec)

/-- 'emulatorlaw03.OctetGets', WHERE WHAT IT READS IS OF BULK AT MOST 1048576: true; the input reads as it did. -/
def octetGetsUptoRow : OpenClaim := { program := "ytbcnehjpondplaadoor", sum := "1f8d8b2021c780a93f5b59b10de4b8098edaed1438e33f16257110037173c16d", func := "emulator/emulatorlaw03.OctetGets", spec := "octetGets", named := ["emulator/octet.remainders"], apart := false, laid := [("emulator/octet.remainders", laid_emulator_octet_remainders)], narrowed := true }
def OctetGetsUptoSaid : Prop := octetGetsUptoRow.holds Tryd.pinned (OpenSpec.upto octetGetsSpec)

/-- 'emulatorlaw03.OctetTexts', WHERE WHAT IT READS IS OF BULK AT MOST 1048576: true; the input reads as it did. -/
def octetTextsUptoRow : OpenClaim := { program := "ytbcnehjpondplaadoor", sum := "1f8d8b2021c780a93f5b59b10de4b8098edaed1438e33f16257110037173c16d", func := "emulator/emulatorlaw03.OctetTexts", spec := "octetTexts", named := ["emulator/octet.remainders"], apart := false, laid := [("emulator/octet.remainders", laid_emulator_octet_remainders)], narrowed := true }
def OctetTextsUptoSaid : Prop := octetTextsUptoRow.holds Tryd.pinned (OpenSpec.upto octetTextsSpec)

/-- 'emulatorlaw03.OctetWords', WHERE WHAT IT READS IS OF BULK AT MOST 1048576: true; the input reads as it did. -/
def octetWordsUptoRow : OpenClaim := { program := "ytbcnehjpondplaadoor", sum := "1f8d8b2021c780a93f5b59b10de4b8098edaed1438e33f16257110037173c16d", func := "emulator/emulatorlaw03.OctetWords", spec := "octetWords", named := ["emulator/octet.remainders"], apart := false, laid := [("emulator/octet.remainders", laid_emulator_octet_remainders)], narrowed := true }
def OctetWordsUptoSaid : Prop := octetWordsUptoRow.holds Tryd.pinned (OpenSpec.upto octetWordsSpec)

/-- 'emulatorlaw03.OctetSums', WHERE WHAT IT READS IS OF BULK AT MOST 1048576: true; the input reads as it did. -/
def octetSumsUptoRow : OpenClaim := { program := "ytbcnehjpondplaadoor", sum := "1f8d8b2021c780a93f5b59b10de4b8098edaed1438e33f16257110037173c16d", func := "emulator/emulatorlaw03.OctetSums", spec := "octetSums", named := ["emulator/octet.remainders"], apart := false, laid := [("emulator/octet.remainders", laid_emulator_octet_remainders)], narrowed := true }
def OctetSumsUptoSaid : Prop := octetSumsUptoRow.holds Tryd.pinned (OpenSpec.upto octetSumsSpec)

/-- 'emulatorlaw03.OctetBack', WHERE WHAT IT READS IS OF BULK AT MOST 1048576: true; the input reads as it did. -/
def octetBackUptoRow : OpenClaim := { program := "ytbcnehjpondplaadoor", sum := "1f8d8b2021c780a93f5b59b10de4b8098edaed1438e33f16257110037173c16d", func := "emulator/emulatorlaw03.OctetBack", spec := "octetBack", named := ["emulator/octet.remainders"], apart := false, laid := [("emulator/octet.remainders", laid_emulator_octet_remainders)], narrowed := true }
def OctetBackUptoSaid : Prop := octetBackUptoRow.holds Tryd.pinned (OpenSpec.upto octetBackSpec)

/-- 'emulatorlaw03.OctetDamage', WHERE WHAT IT READS IS OF BULK AT MOST 1048576: true; the input reads as it did. -/
def octetDamageUptoRow : OpenClaim := { program := "ytbcnehjpondplaadoor", sum := "1f8d8b2021c780a93f5b59b10de4b8098edaed1438e33f16257110037173c16d", func := "emulator/emulatorlaw03.OctetDamage", spec := "octetDamage", named := ["emulator/octet.remainders"], apart := false, laid := [("emulator/octet.remainders", laid_emulator_octet_remainders)], narrowed := true }
def OctetDamageUptoSaid : Prop := octetDamageUptoRow.holds Tryd.pinned (OpenSpec.upto octetDamageSpec)

end Rows
end Go.Proofs.YtbcnehjpondplaaDoor
