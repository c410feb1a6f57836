/-
  NARROWER THAN 'FOR EVERY INPUT', by the rows' own cells (each row's printed sentence says how): TrapVectors: laid · TrapNames: laid · TrapLists: laid · TrapReturns: laid.
  DERIVED. THE GIVEN ROWS OF THIS SEAT. 4 by the template 'for every input the law returns true; each argument reads behind the call as it read before'; 0 by the template 'total and deterministic' (their statements: YtlkpddenhmlkbaaDoorTotals.lean).
  GIVEN WITH THE SEED: the statements are not yours to turn. If you find one false, say at which input.
  Laid BY PROGRAM, IN A SANDBOX (cutbox-rows.mjs): the forced cells as the released guide's own fill.sh prints them over the translation 74d814023b4469b5… (all of the seat's roots in one cut). By AI agents, Wed Nov 11 2026. No macro, syntax, notation, axiom, sorry.
-/
import Derived.Test.YtlkpddenhmlkbaaDoorChecked
import GoSem.Claim
import GoSem.ClaimJoined
import GoSem.ClaimMapViews
import Derived.JoinedTies
import Derived.KernelRfl
namespace Go.Proofs.YtlkpddenhmlkbaaDoor
/- THE CELL 'sum', in the pinned program and in every row, IS THE sha256 OF THE DUMP (.gsa) THAT YtlkpddenhmlkbaaDoorProg.lean LOADS. Nothing in Lean hashes anything: it is a label: what it is worth is what the hold of that sum in a sandbox is worth. -/
noncomputable def Tryd.pinned : Pinned := { name := "ytlkpddenhmlkbaadoor", sum := "74d814023b4469b5541526939ce13d3495bddff2ef2ffe6f7e8a180f6482ddef", checked := Tryd.checked }
namespace Rows
def none {H : Type} : Left H := { results := [], args := [] }

/- WHAT THE LISTED PACKAGE-LEVEL VARIABLES READ AS WHEN THE CALL BEGINS. Each datum BY PROGRAM (the guide's laid-datum.mjs) off the statement by which the dump's own 'gosem.cut.vars' lays the variable. In a bare row this is a premise. The card (YtlkpddenhmlkbaaDoorCards.lean) ties it to the program's text. -/
def laid_emulator_trap_kinds {H : Type} : DataW H := .agg [.agg [.lit (.string []), .lit (.int .i64 0), .lit (.bool false)], .agg [.lit (.string [98, 117, 115]), .lit (.int .i64 4), .lit (.bool true)], .agg [.lit (.string [105, 108, 108, 101, 103, 97, 108]), .lit (.int .i64 8), .lit (.bool true)], .agg [.lit (.string [98, 112, 116]), .lit (.int .i64 12), .lit (.bool false)], .agg [.lit (.string [105, 111, 116]), .lit (.int .i64 16), .lit (.bool false)], .agg [.lit (.string [112, 111, 119, 101, 114]), .lit (.int .i64 20), .lit (.bool false)], .agg [.lit (.string [101, 109, 116]), .lit (.int .i64 24), .lit (.bool false)], .agg [.lit (.string [116, 114, 97, 112]), .lit (.int .i64 28), .lit (.bool false)], .agg [.lit (.string [109, 109, 117]), .lit (.int .i64 32), .lit (.bool true)], .agg [.lit (.string [112, 97, 114, 105, 116, 121]), .lit (.int .i64 36), .lit (.bool true)]]

/-- 'emulatorlaw11.TrapVectors': WHATEVER THE INPUT: true; the input reads as it did. -/
def trapVectorsSpec : ChangeSpec := { name := "trapVectors", fn := fun _ => fun
  | [d1, d2] => { results := [.lit (.bool true)], args := [d1, d2] }
  | _ => none }
def trapVectorsRow : OpenClaim := { program := "ytlkpddenhmlkbaadoor", sum := "74d814023b4469b5541526939ce13d3495bddff2ef2ffe6f7e8a180f6482ddef", func := "emulator/emulatorlaw11.TrapVectors", spec := "trapVectors", named := ["emulator/trap.kinds"], apart := false, laid := [("emulator/trap.kinds", laid_emulator_trap_kinds)] }
def TrapVectorsSaid : Prop := trapVectorsRow.holds Tryd.pinned (OpenSpec.ofChange trapVectorsSpec)

/-- ITS FALSE NEIGHBOUR: 'it returns false'. Refute it at one input. -/
def trapVectorsWrong : ChangeSpec := { name := "trapVectors", fn := fun _ => fun
  | [d1, d2] => { results := [.lit (.bool false)], args := [d1, d2] }
  | _ => none }
def TrapVectorsWrongFalsely : Prop := trapVectorsRow.holds Tryd.pinned (OpenSpec.ofChange trapVectorsWrong)

/-- 'emulatorlaw11.TrapNames': WHATEVER THE INPUT: true; the input reads as it did. -/
def trapNamesSpec : ChangeSpec := { name := "trapNames", fn := fun _ => fun
  | [d] => { results := [.lit (.bool true)], args := [d] }
  | _ => none }
def trapNamesRow : OpenClaim := { program := "ytlkpddenhmlkbaadoor", sum := "74d814023b4469b5541526939ce13d3495bddff2ef2ffe6f7e8a180f6482ddef", func := "emulator/emulatorlaw11.TrapNames", spec := "trapNames", named := ["emulator/trap.kinds"], apart := false, laid := [("emulator/trap.kinds", laid_emulator_trap_kinds)] }
def TrapNamesSaid : Prop := trapNamesRow.holds Tryd.pinned (OpenSpec.ofChange trapNamesSpec)

/-- ITS FALSE NEIGHBOUR: 'it returns false'. Refute it at one input. -/
def trapNamesWrong : ChangeSpec := { name := "trapNames", fn := fun _ => fun
  | [d] => { results := [.lit (.bool false)], args := [d] }
  | _ => none }
def TrapNamesWrongFalsely : Prop := trapNamesRow.holds Tryd.pinned (OpenSpec.ofChange trapNamesWrong)

/-- 'emulatorlaw11.TrapLists': WHATEVER THE INPUT: true; the input reads as it did. -/
def trapListsSpec : ChangeSpec := { name := "trapLists", fn := fun _ => fun
  | [d] => { results := [.lit (.bool true)], args := [d] }
  | _ => none }
def trapListsRow : OpenClaim := { program := "ytlkpddenhmlkbaadoor", sum := "74d814023b4469b5541526939ce13d3495bddff2ef2ffe6f7e8a180f6482ddef", func := "emulator/emulatorlaw11.TrapLists", spec := "trapLists", named := ["emulator/trap.kinds"], apart := false, laid := [("emulator/trap.kinds", laid_emulator_trap_kinds)] }
def TrapListsSaid : Prop := trapListsRow.holds Tryd.pinned (OpenSpec.ofChange trapListsSpec)

/-- ITS FALSE NEIGHBOUR: 'it returns false'. Refute it at one input. -/
def trapListsWrong : ChangeSpec := { name := "trapLists", fn := fun _ => fun
  | [d] => { results := [.lit (.bool false)], args := [d] }
  | _ => none }
def TrapListsWrongFalsely : Prop := trapListsRow.holds Tryd.pinned (OpenSpec.ofChange trapListsWrong)

/-- 'emulatorlaw11.TrapReturns': WHATEVER THE INPUT: true; the input reads as it did. -/
def trapReturnsSpec : ChangeSpec := { name := "trapReturns", fn := fun _ => fun
  | [d1, d2] => { results := [.lit (.bool true)], args := [d1, d2] }
  | _ => none }
def trapReturnsRow : OpenClaim := { program := "ytlkpddenhmlkbaadoor", sum := "74d814023b4469b5541526939ce13d3495bddff2ef2ffe6f7e8a180f6482ddef", func := "emulator/emulatorlaw11.TrapReturns", spec := "trapReturns", named := ["emulator/trap.kinds"], apart := false, laid := [("emulator/trap.kinds", laid_emulator_trap_kinds)] }
def TrapReturnsSaid : Prop := trapReturnsRow.holds Tryd.pinned (OpenSpec.ofChange trapReturnsSpec)

/-- ITS FALSE NEIGHBOUR: 'it returns false'. Refute it at one input. -/
def trapReturnsWrong : ChangeSpec := { name := "trapReturns", fn := fun _ => fun
  | [d1, d2] => { results := [.lit (.bool false)], args := [d1, d2] }
  | _ => none }
def TrapReturnsWrongFalsely : Prop := trapReturnsRow.holds Tryd.pinned (OpenSpec.ofChange trapReturnsWrong)

/- THE SECOND FORM. 'bulk': how many values and letters a reading holds, each counted each time it is reached (what is shared counts as often as it is met; a slice's spare places count too). A statement '..UptoSaid' is the law's where the arguments, and the package variables that the reading takes, are together of bulk at most 1048576: NARROWER than '..Said'. Prove '..Said' where nothing that the law and all that it calls make is longer than what came in: it says more and counts as full. Else prove '..UptoSaid'. A law counts once. -/
mutual
def uptoBulk {H : Type} : DataW H → Nat
  | .lit (.string bytes) => bytes.length + 1
  | .lit _ => 1
  | .nil => 1
  | .ptr d => uptoBulk d + 1
  | .slice elems spare => uptoBulkAll elems + uptoBulkAll spare + 1
  | .agg parts => uptoBulkAll parts + 1
  | .iface _ d => uptoBulk d + 1
  | .map entries => uptoBulkEntries entries + 1
  | .held _ => 1
def uptoBulkAll {H : Type} : List (DataW H) → Nat
  | [] => 0
  | d :: r => uptoBulk d + uptoBulkAll r
def uptoBulkEntries {H : Type} : List (Lit × DataW H) → Nat
  | [] => 0
  | x :: r => uptoBulkEntry x + uptoBulkEntries r
def uptoBulkEntry {H : Type} : Lit × DataW H → Nat
  | (.string bytes, d) => bytes.length + uptoBulk d + 1
  | (_, d) => uptoBulk d + 1
 end
def uptoSmall : (H : Type) → List (DataW H) → Bool := fun _ ds => decide (uptoBulkAll ds ≤ 1048576)
def OpenSpec.upto (s : _root_.Go.ChangeSpec) : _root_.Go.OpenSpec := { _root_.Go.OpenSpec.ofChange s with cond := some uptoSmall }

/-- 'emulatorlaw11.TrapVectors', WHERE WHAT IT READS IS OF BULK AT MOST 1048576: true; the input reads as it did. -/
def trapVectorsUptoRow : OpenClaim := { program := "ytlkpddenhmlkbaadoor", sum := "74d814023b4469b5541526939ce13d3495bddff2ef2ffe6f7e8a180f6482ddef", func := "emulator/emulatorlaw11.TrapVectors", spec := "trapVectors", named := ["emulator/trap.kinds"], apart := false, laid := [("emulator/trap.kinds", laid_emulator_trap_kinds)], narrowed := true }
def TrapVectorsUptoSaid : Prop := trapVectorsUptoRow.holds Tryd.pinned (OpenSpec.upto trapVectorsSpec)

/-- 'emulatorlaw11.TrapNames', WHERE WHAT IT READS IS OF BULK AT MOST 1048576: true; the input reads as it did. -/
def trapNamesUptoRow : OpenClaim := { program := "ytlkpddenhmlkbaadoor", sum := "74d814023b4469b5541526939ce13d3495bddff2ef2ffe6f7e8a180f6482ddef", func := "emulator/emulatorlaw11.TrapNames", spec := "trapNames", named := ["emulator/trap.kinds"], apart := false, laid := [("emulator/trap.kinds", laid_emulator_trap_kinds)], narrowed := true }
def TrapNamesUptoSaid : Prop := trapNamesUptoRow.holds Tryd.pinned (OpenSpec.upto trapNamesSpec)

/-- 'emulatorlaw11.TrapLists', WHERE WHAT IT READS IS OF BULK AT MOST 1048576: true; the input reads as it did. -/
def trapListsUptoRow : OpenClaim := { program := "ytlkpddenhmlkbaadoor", sum := "74d814023b4469b5541526939ce13d3495bddff2ef2ffe6f7e8a180f6482ddef", func := "emulator/emulatorlaw11.TrapLists", spec := "trapLists", named := ["emulator/trap.kinds"], apart := false, laid := [("emulator/trap.kinds", laid_emulator_trap_kinds)], narrowed := true }
def TrapListsUptoSaid : Prop := trapListsUptoRow.holds Tryd.pinned (OpenSpec.upto trapListsSpec)

/-- 'emulatorlaw11.TrapReturns', WHERE WHAT IT READS IS OF BULK AT MOST 1048576: true; the input reads as it did. -/
def trapReturnsUptoRow : OpenClaim := { program := "ytlkpddenhmlkbaadoor", sum := "74d814023b4469b5541526939ce13d3495bddff2ef2ffe6f7e8a180f6482ddef", func := "emulator/emulatorlaw11.TrapReturns", spec := "trapReturns", named := ["emulator/trap.kinds"], apart := false, laid := [("emulator/trap.kinds", laid_emulator_trap_kinds)], narrowed := true }
def TrapReturnsUptoSaid : Prop := trapReturnsUptoRow.holds Tryd.pinned (OpenSpec.upto trapReturnsSpec)

end Rows
end Go.Proofs.YtlkpddenhmlkbaaDoor
