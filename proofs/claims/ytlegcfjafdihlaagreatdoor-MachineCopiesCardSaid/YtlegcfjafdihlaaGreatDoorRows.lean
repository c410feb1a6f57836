/-
  NARROWER THAN 'FOR EVERY INPUT', by the rows' own cells (each row's printed sentence says how): CpuRegisters: laid · MachineNews: laid · MachineRight: laid · MachineCopies: laid.
  DERIVED. THE GIVEN ROWS OF THIS SEAT. 4 by the template 'for every input the law returns true; each argument reads behind the call as it read before'; 0 by the template 'total and deterministic' (their statements: YtlegcfjafdihlaaGreatDoorTotals.lean).
  GIVEN WITH THE SEED: the statements are not yours to turn. If you find one false, say at which input.
  Laid BY PROGRAM, IN A SANDBOX (cutbox-rows.mjs): the forced cells as the released guide's own fill.sh prints them over the translation 3c4ed1b362594616… (all of the seat's roots in one cut). By AI agents, Wed Nov 11 2026. No macro, syntax, notation, axiom, sorry.
-/
import Derived.Test.YtlegcfjafdihlaaGreatDoorChecked
import GoSem.Claim
import GoSem.ClaimJoined
import GoSem.ClaimMapViews
import Derived.JoinedTies
import Derived.KernelRfl
namespace Go.Proofs.YtlegcfjafdihlaaGreatDoor
/- THE CELL 'sum', in the pinned program and in every row, IS THE sha256 OF THE DUMP (.gsa) THAT YtlegcfjafdihlaaGreatDoorProg.lean LOADS. Nothing in Lean hashes anything: it is a label: what it is worth is what the hold of that sum in a sandbox is worth. -/
noncomputable def Tryz.pinned : Pinned := { name := "ytlegcfjafdihlaagreatdoor", sum := "3c4ed1b3625946161d90964a1322e8cc74318a138928caa6dad19f0eeb68f67c", checked := Tryz.checked }
namespace Rows
def none {H : Type} : Left H := { results := [], args := [] }

/- WHAT THE LISTED PACKAGE-LEVEL VARIABLES READ AS WHEN THE CALL BEGINS. Each datum BY PROGRAM (the guide's laid-datum.mjs) off the statement by which the dump's own 'gosem.cut.vars' lays the variable. In a bare row this is a premise. The card (YtlegcfjafdihlaaGreatDoorCards.lean) ties it to the program's text. -/
def laid_emulator_trap_kinds {H : Type} : DataW H := .agg [.agg [.lit (.string []), .lit (.int .i64 0), .lit (.bool false)], .agg [.lit (.string [98, 117, 115]), .lit (.int .i64 4), .lit (.bool true)], .agg [.lit (.string [105, 108, 108, 101, 103, 97, 108]), .lit (.int .i64 8), .lit (.bool true)], .agg [.lit (.string [98, 112, 116]), .lit (.int .i64 12), .lit (.bool false)], .agg [.lit (.string [105, 111, 116]), .lit (.int .i64 16), .lit (.bool false)], .agg [.lit (.string [112, 111, 119, 101, 114]), .lit (.int .i64 20), .lit (.bool false)], .agg [.lit (.string [101, 109, 116]), .lit (.int .i64 24), .lit (.bool false)], .agg [.lit (.string [116, 114, 97, 112]), .lit (.int .i64 28), .lit (.bool false)], .agg [.lit (.string [109, 109, 117]), .lit (.int .i64 32), .lit (.bool true)], .agg [.lit (.string [112, 97, 114, 105, 116, 121]), .lit (.int .i64 36), .lit (.bool true)]]
def laid_emulator_word_widths {H : Type} : DataW H := .agg [.agg [.lit (.int .i64 65535), .lit (.int .i64 32768)], .agg [.lit (.int .i64 255), .lit (.int .i64 128)]]
def laid_math_bits_deBruijn32tab {H : Type} : DataW H := .agg [.lit (.int .u8 0), .lit (.int .u8 1), .lit (.int .u8 28), .lit (.int .u8 2), .lit (.int .u8 29), .lit (.int .u8 14), .lit (.int .u8 24), .lit (.int .u8 3), .lit (.int .u8 30), .lit (.int .u8 22), .lit (.int .u8 20), .lit (.int .u8 15), .lit (.int .u8 25), .lit (.int .u8 17), .lit (.int .u8 4), .lit (.int .u8 8), .lit (.int .u8 31), .lit (.int .u8 27), .lit (.int .u8 13), .lit (.int .u8 23), .lit (.int .u8 21), .lit (.int .u8 19), .lit (.int .u8 16), .lit (.int .u8 7), .lit (.int .u8 26), .lit (.int .u8 12), .lit (.int .u8 18), .lit (.int .u8 6), .lit (.int .u8 11), .lit (.int .u8 5), .lit (.int .u8 10), .lit (.int .u8 9)]
def laid_math_bits_deBruijn64tab {H : Type} : DataW H := .agg [.lit (.int .u8 0), .lit (.int .u8 1), .lit (.int .u8 56), .lit (.int .u8 2), .lit (.int .u8 57), .lit (.int .u8 49), .lit (.int .u8 28), .lit (.int .u8 3), .lit (.int .u8 61), .lit (.int .u8 58), .lit (.int .u8 42), .lit (.int .u8 50), .lit (.int .u8 38), .lit (.int .u8 29), .lit (.int .u8 17), .lit (.int .u8 4), .lit (.int .u8 62), .lit (.int .u8 47), .lit (.int .u8 59), .lit (.int .u8 36), .lit (.int .u8 45), .lit (.int .u8 43), .lit (.int .u8 51), .lit (.int .u8 22), .lit (.int .u8 53), .lit (.int .u8 39), .lit (.int .u8 33), .lit (.int .u8 30), .lit (.int .u8 24), .lit (.int .u8 18), .lit (.int .u8 12), .lit (.int .u8 5), .lit (.int .u8 63), .lit (.int .u8 55), .lit (.int .u8 48), .lit (.int .u8 27), .lit (.int .u8 60), .lit (.int .u8 41), .lit (.int .u8 37), .lit (.int .u8 16), .lit (.int .u8 46), .lit (.int .u8 35), .lit (.int .u8 44), .lit (.int .u8 21), .lit (.int .u8 52), .lit (.int .u8 32), .lit (.int .u8 23), .lit (.int .u8 11), .lit (.int .u8 54), .lit (.int .u8 26), .lit (.int .u8 40), .lit (.int .u8 15), .lit (.int .u8 34), .lit (.int .u8 20), .lit (.int .u8 31), .lit (.int .u8 10), .lit (.int .u8 25), .lit (.int .u8 14), .lit (.int .u8 19), .lit (.int .u8 9), .lit (.int .u8 13), .lit (.int .u8 8), .lit (.int .u8 7), .lit (.int .u8 6)]
def laid_emulator_inst_forms {H : Type} : DataW H := .slice [.agg [.lit (.int .i64 1), .lit (.int .i64 5), .lit (.int .i64 4096), .lit (.int .i64 12), .agg [.lit (.int .i64 32768), .lit (.int .i64 4032), .lit (.int .i64 63), .lit (.int .i64 0), .lit (.int .i64 0), .lit (.int .i64 0)]], .agg [.lit (.int .i64 6), .lit (.int .i64 7), .lit (.int .i64 24576), .lit (.int .i64 15), .agg [.lit (.int .i64 0), .lit (.int .i64 4032), .lit (.int .i64 63), .lit (.int .i64 0), .lit (.int .i64 0), .lit (.int .i64 0)]], .agg [.lit (.int .i64 8), .lit (.int .i64 10), .lit (.int .i64 28672), .lit (.int .i64 9), .agg [.lit (.int .i64 0), .lit (.int .i64 63), .lit (.int .i64 0), .lit (.int .i64 448), .lit (.int .i64 0), .lit (.int .i64 0)]], .agg [.lit (.int .i64 11), .lit (.int .i64 11), .lit (.int .i64 30720), .lit (.int .i64 0), .agg [.lit (.int .i64 0), .lit (.int .i64 0), .lit (.int .i64 63), .lit (.int .i64 448), .lit (.int .i64 0), .lit (.int .i64 0)]], .agg [.lit (.int .i64 12), .lit (.int .i64 19), .lit (.int .i64 2560), .lit (.int .i64 6), .agg [.lit (.int .i64 32768), .lit (.int .i64 0), .lit (.int .i64 63), .lit (.int .i64 0), .lit (.int .i64 0), .lit (.int .i64 0)]], .agg [.lit (.int .i64 20), .lit (.int .i64 23), .lit (.int .i64 3072), .lit (.int .i64 6), .agg [.lit (.int .i64 32768), .lit (.int .i64 0), .lit (.int .i64 63), .lit (.int .i64 0), .lit (.int .i64 0), .lit (.int .i64 0)]], .agg [.lit (.int .i64 24), .lit (.int .i64 24), .lit (.int .i64 192), .lit (.int .i64 0), .agg [.lit (.int .i64 0), .lit (.int .i64 0), .lit (.int .i64 63), .lit (.int .i64 0), .lit (.int .i64 0), .lit (.int .i64 0)]], .agg [.lit (.int .i64 25), .lit (.int .i64 25), .lit (.int .i64 3520), .lit (.int .i64 0), .agg [.lit (.int .i64 0), .lit (.int .i64 0), .lit (.int .i64 63), .lit (.int .i64 0), .lit (.int .i64 0), .lit (.int .i64 0)]], .agg [.lit (.int .i64 55), .lit (.int .i64 55), .lit (.int .i64 3392), .lit (.int .i64 0), .agg [.lit (.int .i64 0), .lit (.int .i64 63), .lit (.int .i64 0), .lit (.int .i64 0), .lit (.int .i64 0), .lit (.int .i64 0)]], .agg [.lit (.int .i64 56), .lit (.int .i64 56), .lit (.int .i64 3456), .lit (.int .i64 0), .agg [.lit (.int .i64 0), .lit (.int .i64 0), .lit (.int .i64 63), .lit (.int .i64 0), .lit (.int .i64 0), .lit (.int .i64 0)]], .agg [.lit (.int .i64 41), .lit (.int .i64 41), .lit (.int .i64 64), .lit (.int .i64 0), .agg [.lit (.int .i64 0), .lit (.int .i64 0), .lit (.int .i64 63), .lit (.int .i64 0), .lit (.int .i64 0), .lit (.int .i64 0)]], .agg [.lit (.int .i64 42), .lit (.int .i64 42), .lit (.int .i64 2048), .lit (.int .i64 0), .agg [.lit (.int .i64 0), .lit (.int .i64 0), .lit (.int .i64 63), .lit (.int .i64 448), .lit (.int .i64 0), .lit (.int .i64 0)]], .agg [.lit (.int .i64 43), .lit (.int .i64 43), .lit (.int .i64 128), .lit (.int .i64 0), .agg [.lit (.int .i64 0), .lit (.int .i64 0), .lit (.int .i64 0), .lit (.int .i64 7), .lit (.int .i64 0), .lit (.int .i64 0)]], .agg [.lit (.int .i64 44), .lit (.int .i64 44), .lit (.int .i64 32256), .lit (.int .i64 0), .agg [.lit (.int .i64 0), .lit (.int .i64 0), .lit (.int .i64 0), .lit (.int .i64 448), .lit (.int .i64 63), .lit (.int .i64 0)]], .agg [.lit (.int .i64 26), .lit (.int .i64 32), .lit (.int .i64 256), .lit (.int .i64 8), .agg [.lit (.int .i64 0), .lit (.int .i64 0), .lit (.int .i64 0), .lit (.int .i64 0), .lit (.int .i64 255), .lit (.int .i64 (-128))]], .agg [.lit (.int .i64 33), .lit (.int .i64 40), .lit (.int .i64 32768), .lit (.int .i64 8), .agg [.lit (.int .i64 0), .lit (.int .i64 0), .lit (.int .i64 0), .lit (.int .i64 0), .lit (.int .i64 255), .lit (.int .i64 (-128))]], .agg [.lit (.int .i64 45), .lit (.int .i64 46), .lit (.int .i64 34816), .lit (.int .i64 8), .agg [.lit (.int .i64 0), .lit (.int .i64 0), .lit (.int .i64 0), .lit (.int .i64 0), .lit (.int .i64 255), .lit (.int .i64 0)]], .agg [.lit (.int .i64 53), .lit (.int .i64 54), .lit (.int .i64 160), .lit (.int .i64 4), .agg [.lit (.int .i64 0), .lit (.int .i64 0), .lit (.int .i64 0), .lit (.int .i64 0), .lit (.int .i64 15), .lit (.int .i64 0)]], .agg [.lit (.int .i64 50), .lit (.int .i64 51), .lit (.int .i64 0), .lit (.int .i64 0), .agg [.lit (.int .i64 0), .lit (.int .i64 0), .lit (.int .i64 0), .lit (.int .i64 0), .lit (.int .i64 0), .lit (.int .i64 0)]], .agg [.lit (.int .i64 49), .lit (.int .i64 49), .lit (.int .i64 2), .lit (.int .i64 0), .agg [.lit (.int .i64 0), .lit (.int .i64 0), .lit (.int .i64 0), .lit (.int .i64 0), .lit (.int .i64 0), .lit (.int .i64 0)]], .agg [.lit (.int .i64 47), .lit (.int .i64 48), .lit (.int .i64 3), .lit (.int .i64 0), .agg [.lit (.int .i64 0), .lit (.int .i64 0), .lit (.int .i64 0), .lit (.int .i64 0), .lit (.int .i64 0), .lit (.int .i64 0)]], .agg [.lit (.int .i64 52), .lit (.int .i64 52), .lit (.int .i64 5), .lit (.int .i64 0), .agg [.lit (.int .i64 0), .lit (.int .i64 0), .lit (.int .i64 0), .lit (.int .i64 0), .lit (.int .i64 0), .lit (.int .i64 0)]]] []

/-- 'emulatorlaw19.CpuRegisters': WHATEVER THE INPUT: true; the input reads as it did. -/
def cpuRegistersSpec : ChangeSpec := { name := "cpuRegisters", fn := fun _ => fun
  | [d1, d2, d3] => { results := [.lit (.bool true)], args := [d1, d2, d3] }
  | _ => none }
def cpuRegistersRow : OpenClaim := { program := "ytlegcfjafdihlaagreatdoor", sum := "3c4ed1b3625946161d90964a1322e8cc74318a138928caa6dad19f0eeb68f67c", func := "emulator/emulatorlaw19.CpuRegisters", spec := "cpuRegisters", unfollowed := true, recurses := true, named := ["emulator/word.widths", "emulator/inst.forms", "math/bits.deBruijn32tab", "math/bits.deBruijn64tab", "emulator/trap.kinds"], apart := false, laid := [("emulator/trap.kinds", laid_emulator_trap_kinds), ("emulator/word.widths", laid_emulator_word_widths), ("math/bits.deBruijn32tab", laid_math_bits_deBruijn32tab), ("math/bits.deBruijn64tab", laid_math_bits_deBruijn64tab), ("emulator/inst.forms", laid_emulator_inst_forms)] }
def CpuRegistersSaid : Prop := cpuRegistersRow.holds Tryz.pinned (OpenSpec.ofChange cpuRegistersSpec)

/-- ITS FALSE NEIGHBOUR: 'it returns false'. Refute it at one input. -/
def cpuRegistersWrong : ChangeSpec := { name := "cpuRegisters", fn := fun _ => fun
  | [d1, d2, d3] => { results := [.lit (.bool false)], args := [d1, d2, d3] }
  | _ => none }
def CpuRegistersWrongFalsely : Prop := cpuRegistersRow.holds Tryz.pinned (OpenSpec.ofChange cpuRegistersWrong)

/-- 'emulatorlaw20.MachineNews': WHATEVER THE INPUT: true; the input reads as it did. -/
def machineNewsSpec : ChangeSpec := { name := "machineNews", fn := fun _ => fun
  | [d1, d2, d3] => { results := [.lit (.bool true)], args := [d1, d2, d3] }
  | _ => none }
def machineNewsRow : OpenClaim := { program := "ytlegcfjafdihlaagreatdoor", sum := "3c4ed1b3625946161d90964a1322e8cc74318a138928caa6dad19f0eeb68f67c", func := "emulator/emulatorlaw20.MachineNews", spec := "machineNews", unfollowed := true, recurses := true, named := ["emulator/trap.kinds", "emulator/word.widths", "emulator/inst.forms", "math/bits.deBruijn32tab", "math/bits.deBruijn64tab"], apart := false, laid := [("emulator/trap.kinds", laid_emulator_trap_kinds), ("emulator/word.widths", laid_emulator_word_widths), ("math/bits.deBruijn32tab", laid_math_bits_deBruijn32tab), ("math/bits.deBruijn64tab", laid_math_bits_deBruijn64tab), ("emulator/inst.forms", laid_emulator_inst_forms)] }
def MachineNewsSaid : Prop := machineNewsRow.holds Tryz.pinned (OpenSpec.ofChange machineNewsSpec)

/-- ITS FALSE NEIGHBOUR: 'it returns false'. Refute it at one input. -/
def machineNewsWrong : ChangeSpec := { name := "machineNews", fn := fun _ => fun
  | [d1, d2, d3] => { results := [.lit (.bool false)], args := [d1, d2, d3] }
  | _ => none }
def MachineNewsWrongFalsely : Prop := machineNewsRow.holds Tryz.pinned (OpenSpec.ofChange machineNewsWrong)

/-- 'emulatorlaw20.MachineRight': WHATEVER THE INPUT: true; the input reads as it did. -/
def machineRightSpec : ChangeSpec := { name := "machineRight", fn := fun _ => fun
  | [d] => { results := [.lit (.bool true)], args := [d] }
  | _ => none }
def machineRightRow : OpenClaim := { program := "ytlegcfjafdihlaagreatdoor", sum := "3c4ed1b3625946161d90964a1322e8cc74318a138928caa6dad19f0eeb68f67c", func := "emulator/emulatorlaw20.MachineRight", spec := "machineRight", unfollowed := true, recurses := true, named := ["emulator/trap.kinds", "emulator/word.widths", "emulator/inst.forms", "math/bits.deBruijn32tab", "math/bits.deBruijn64tab"], apart := false, laid := [("emulator/trap.kinds", laid_emulator_trap_kinds), ("emulator/word.widths", laid_emulator_word_widths), ("math/bits.deBruijn32tab", laid_math_bits_deBruijn32tab), ("math/bits.deBruijn64tab", laid_math_bits_deBruijn64tab), ("emulator/inst.forms", laid_emulator_inst_forms)] }
def MachineRightSaid : Prop := machineRightRow.holds Tryz.pinned (OpenSpec.ofChange machineRightSpec)

/-- ITS FALSE NEIGHBOUR: 'it returns false'. Refute it at one input. -/
def machineRightWrong : ChangeSpec := { name := "machineRight", fn := fun _ => fun
  | [d] => { results := [.lit (.bool false)], args := [d] }
  | _ => none }
def MachineRightWrongFalsely : Prop := machineRightRow.holds Tryz.pinned (OpenSpec.ofChange machineRightWrong)

/-- 'emulatorlaw20.MachineCopies': WHATEVER THE INPUT: true; the input reads as it did. -/
def machineCopiesSpec : ChangeSpec := { name := "machineCopies", fn := fun _ => fun
  | [d1, d2] => { results := [.lit (.bool true)], args := [d1, d2] }
  | _ => none }
def machineCopiesRow : OpenClaim := { program := "ytlegcfjafdihlaagreatdoor", sum := "3c4ed1b3625946161d90964a1322e8cc74318a138928caa6dad19f0eeb68f67c", func := "emulator/emulatorlaw20.MachineCopies", spec := "machineCopies", unfollowed := true, recurses := true, named := ["emulator/trap.kinds", "emulator/word.widths", "emulator/inst.forms", "math/bits.deBruijn32tab", "math/bits.deBruijn64tab"], apart := false, laid := [("emulator/trap.kinds", laid_emulator_trap_kinds), ("emulator/word.widths", laid_emulator_word_widths), ("math/bits.deBruijn32tab", laid_math_bits_deBruijn32tab), ("math/bits.deBruijn64tab", laid_math_bits_deBruijn64tab), ("emulator/inst.forms", laid_emulator_inst_forms)] }
def MachineCopiesSaid : Prop := machineCopiesRow.holds Tryz.pinned (OpenSpec.ofChange machineCopiesSpec)

/-- ITS FALSE NEIGHBOUR: 'it returns false'. Refute it at one input. -/
def machineCopiesWrong : ChangeSpec := { name := "machineCopies", fn := fun _ => fun
  | [d1, d2] => { results := [.lit (.bool false)], args := [d1, d2] }
  | _ => none }
def MachineCopiesWrongFalsely : Prop := machineCopiesRow.holds Tryz.pinned (OpenSpec.ofChange machineCopiesWrong)

/- THE SECOND FORM. 'bulk': how many values and letters a reading holds, each counted each time it is reached (what is shared counts as often as it is met; a slice's spare places count too). A statement '..UptoSaid' is the law's where the arguments, and the package variables that the reading takes, are together of bulk at most 1048576: NARROWER than '..Said'. Prove '..Said' where nothing that the law and all that it calls make is longer than what came in: it says more and counts as full. Else prove '..UptoSaid'. A law counts once. -/
mutual
def uptoBulk {H : Type} : DataW H → Nat
  | .lit (.string bytes) => bytes.length + 1
  | .lit _ => 1
  | .nil => 1
  | .ptr d => uptoBulk d + 1
  | .slice elems spare => uptoBulkAll elems + uptoBulkAll spare + 1
  | .agg parts => uptoBulkAll parts + 1
  | .iface _ d => uptoBulk d + 1
  | .map entries => uptoBulkEntries entries + 1
  | .held _ => 1
def uptoBulkAll {H : Type} : List (DataW H) → Nat
  | [] => 0
  | d :: r => uptoBulk d + uptoBulkAll r
def uptoBulkEntries {H : Type} : List (Lit × DataW H) → Nat
  | [] => 0
  | x :: r => uptoBulkEntry x + uptoBulkEntries r
def uptoBulkEntry {H : Type} : Lit × DataW H → Nat
  | (.string bytes, d) => bytes.length + uptoBulk d + 1
  | (_, d) => uptoBulk d + 1
 end
def uptoSmall : (H : Type) → List (DataW H) → Bool := fun _ ds => decide (uptoBulkAll ds ≤ 1048576)
def OpenSpec.upto (s : _root_.Go.ChangeSpec) : _root_.Go.OpenSpec := { _root_.Go.OpenSpec.ofChange s with cond := some uptoSmall }

/-- 'emulatorlaw19.CpuRegisters', WHERE WHAT IT READS IS OF BULK AT MOST 1048576: true; the input reads as it did. -/
def cpuRegistersUptoRow : OpenClaim := { program := "ytlegcfjafdihlaagreatdoor", sum := "3c4ed1b3625946161d90964a1322e8cc74318a138928caa6dad19f0eeb68f67c", func := "emulator/emulatorlaw19.CpuRegisters", spec := "cpuRegisters", unfollowed := true, recurses := true, named := ["emulator/word.widths", "emulator/inst.forms", "math/bits.deBruijn32tab", "math/bits.deBruijn64tab", "emulator/trap.kinds"], apart := false, laid := [("emulator/trap.kinds", laid_emulator_trap_kinds), ("emulator/word.widths", laid_emulator_word_widths), ("math/bits.deBruijn32tab", laid_math_bits_deBruijn32tab), ("math/bits.deBruijn64tab", laid_math_bits_deBruijn64tab), ("emulator/inst.forms", laid_emulator_inst_forms)], narrowed := true }
def CpuRegistersUptoSaid : Prop := cpuRegistersUptoRow.holds Tryz.pinned (OpenSpec.upto cpuRegistersSpec)

/-- 'emulatorlaw20.MachineNews', WHERE WHAT IT READS IS OF BULK AT MOST 1048576: true; the input reads as it did. -/
def machineNewsUptoRow : OpenClaim := { program := "ytlegcfjafdihlaagreatdoor", sum := "3c4ed1b3625946161d90964a1322e8cc74318a138928caa6dad19f0eeb68f67c", func := "emulator/emulatorlaw20.MachineNews", spec := "machineNews", unfollowed := true, recurses := true, named := ["emulator/trap.kinds", "emulator/word.widths", "emulator/inst.forms", "math/bits.deBruijn32tab", "math/bits.deBruijn64tab"], apart := false, laid := [("emulator/trap.kinds", laid_emulator_trap_kinds), ("emulator/word.widths", laid_emulator_word_widths), ("math/bits.deBruijn32tab", laid_math_bits_deBruijn32tab), ("math/bits.deBruijn64tab", laid_math_bits_deBruijn64tab), ("emulator/inst.forms", laid_emulator_inst_forms)], narrowed := true }
def MachineNewsUptoSaid : Prop := machineNewsUptoRow.holds Tryz.pinned (OpenSpec.upto machineNewsSpec)

/-- 'emulatorlaw20.MachineRight', WHERE WHAT IT READS IS OF BULK AT MOST 1048576: true; the input reads as it did. -/
def machineRightUptoRow : OpenClaim := { program := "ytlegcfjafdihlaagreatdoor", sum := "3c4ed1b3625946161d90964a1322e8cc74318a138928caa6dad19f0eeb68f67c", func := "emulator/emulatorlaw20.MachineRight", spec := "machineRight", unfollowed := true, recurses := true, named := ["emulator/trap.kinds", "emulator/word.widths", "emulator/inst.forms", "math/bits.deBruijn32tab", "math/bits.deBruijn64tab"], apart := false, laid := [("emulator/trap.kinds", laid_emulator_trap_kinds), ("emulator/word.widths", laid_emulator_word_widths), ("math/bits.deBruijn32tab", laid_math_bits_deBruijn32tab), ("math/bits.deBruijn64tab", laid_math_bits_deBruijn64tab), ("emulator/inst.forms", laid_emulator_inst_forms)], narrowed := true }
def MachineRightUptoSaid : Prop := machineRightUptoRow.holds Tryz.pinned (OpenSpec.upto machineRightSpec)

/-- 'emulatorlaw20.MachineCopies', WHERE WHAT IT READS IS OF BULK AT MOST 1048576: true; the input reads as it did. -/
def machineCopiesUptoRow : OpenClaim := { program := "ytlegcfjafdihlaagreatdoor", sum := "3c4ed1b3625946161d90964a1322e8cc74318a138928caa6dad19f0eeb68f67c", func := "emulator/emulatorlaw20.MachineCopies", spec := "machineCopies", unfollowed := true, recurses := true, named := ["emulator/trap.kinds", "emulator/word.widths", "emulator/inst.forms", "math/bits.deBruijn32tab", "math/bits.deBruijn64tab"], apart := false, laid := [("emulator/trap.kinds", laid_emulator_trap_kinds), ("emulator/word.widths", laid_emulator_word_widths), ("math/bits.deBruijn32tab", laid_math_bits_deBruijn32tab), ("math/bits.deBruijn64tab", laid_math_bits_deBruijn64tab), ("emulator/inst.forms", laid_emulator_inst_forms)], narrowed := true }
def MachineCopiesUptoSaid : Prop := machineCopiesUptoRow.holds Tryz.pinned (OpenSpec.upto machineCopiesSpec)

end Rows
end Go.Proofs.YtlegcfjafdihlaaGreatDoor
