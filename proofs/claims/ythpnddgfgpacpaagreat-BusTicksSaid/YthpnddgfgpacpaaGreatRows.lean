/-
  No cell of these rows narrows 'for every input' (looked for: loops, veiled, ifaces, maps, wideKeys, modest, calm, conditions, laid).
  DERIVED. THE GIVEN ROWS OF THIS SEAT. 6 by the template 'for every input the law returns true; each argument reads behind the call as it read before'; 0 by the template 'total and deterministic' (their statements: YthpnddgfgpacpaaGreatTotals.lean).
  GIVEN WITH THE SEED: the statements are not yours to turn. If you find one false, say at which input.
  Laid BY PROGRAM, IN A SANDBOX (cutbox-rows.mjs): the forced cells as the released guide's own fill.sh prints them over the translation 8a688ab55e938f17… (all of the seat's roots in one cut). By AI agents, Wed Nov 11 2026. No macro, syntax, notation, axiom, sorry.
-/
import Derived.Test.YthpnddgfgpacpaaGreatChecked
import GoSem.Claim
import GoSem.ClaimJoined
import GoSem.ClaimMapViews
import Derived.JoinedTies
import Derived.KernelRfl
namespace Go.Proofs.YthpnddgfgpacpaaGreat
/- THE CELL 'sum', in the pinned program and in every row, IS THE sha256 OF THE DUMP (.gsa) THAT YthpnddgfgpacpaaGreatProg.lean LOADS. Nothing in Lean hashes anything: it is a label: what it is worth is what the hold of that sum in a sandbox is worth. -/
noncomputable def Tryz.pinned : Pinned := { name := "ythpnddgfgpacpaagreat", sum := "8a688ab55e938f173604c85f2050a61b64e3883ed30c8e1cb4a20f282f6c898e", checked := Tryz.checked }
namespace Rows
def none {H : Type} : Left H := { results := [], args := [] }

/-- 'emulatorlaw18.BusRight': WHATEVER THE INPUT: true; the input reads as it did. -/
def busRightSpec : ChangeSpec := { name := "busRight", fn := fun _ => fun
  | [d] => { results := [.lit (.bool true)], args := [d] }
  | _ => none }
def busRightRow : OpenClaim := { program := "ythpnddgfgpacpaagreat", sum := "8a688ab55e938f173604c85f2050a61b64e3883ed30c8e1cb4a20f282f6c898e", func := "emulator/emulatorlaw18.BusRight", spec := "busRight", unfollowed := true, recurses := true, apart := false }
def BusRightSaid : Prop := busRightRow.holds Tryz.pinned (OpenSpec.ofChange busRightSpec)

/-- ITS FALSE NEIGHBOUR: 'it returns false'. Refute it at one input. -/
def busRightWrong : ChangeSpec := { name := "busRight", fn := fun _ => fun
  | [d] => { results := [.lit (.bool false)], args := [d] }
  | _ => none }
def BusRightWrongFalsely : Prop := busRightRow.holds Tryz.pinned (OpenSpec.ofChange busRightWrong)

/-- 'emulatorlaw18.BusReads': WHATEVER THE INPUT: true; the input reads as it did. -/
def busReadsSpec : ChangeSpec := { name := "busReads", fn := fun _ => fun
  | [d1, d2, d3] => { results := [.lit (.bool true)], args := [d1, d2, d3] }
  | _ => none }
def busReadsRow : OpenClaim := { program := "ythpnddgfgpacpaagreat", sum := "8a688ab55e938f173604c85f2050a61b64e3883ed30c8e1cb4a20f282f6c898e", func := "emulator/emulatorlaw18.BusReads", spec := "busReads", unfollowed := true, recurses := true, apart := false }
def BusReadsSaid : Prop := busReadsRow.holds Tryz.pinned (OpenSpec.ofChange busReadsSpec)

/-- ITS FALSE NEIGHBOUR: 'it returns false'. Refute it at one input. -/
def busReadsWrong : ChangeSpec := { name := "busReads", fn := fun _ => fun
  | [d1, d2, d3] => { results := [.lit (.bool false)], args := [d1, d2, d3] }
  | _ => none }
def BusReadsWrongFalsely : Prop := busReadsRow.holds Tryz.pinned (OpenSpec.ofChange busReadsWrong)

/-- 'emulatorlaw18.BusWrites': WHATEVER THE INPUT: true; the input reads as it did. -/
def busWritesSpec : ChangeSpec := { name := "busWrites", fn := fun _ => fun
  | [d1, d2] => { results := [.lit (.bool true)], args := [d1, d2] }
  | _ => none }
def busWritesRow : OpenClaim := { program := "ythpnddgfgpacpaagreat", sum := "8a688ab55e938f173604c85f2050a61b64e3883ed30c8e1cb4a20f282f6c898e", func := "emulator/emulatorlaw18.BusWrites", spec := "busWrites", unfollowed := true, recurses := true, apart := false }
def BusWritesSaid : Prop := busWritesRow.holds Tryz.pinned (OpenSpec.ofChange busWritesSpec)

/-- ITS FALSE NEIGHBOUR: 'it returns false'. Refute it at one input. -/
def busWritesWrong : ChangeSpec := { name := "busWrites", fn := fun _ => fun
  | [d1, d2] => { results := [.lit (.bool false)], args := [d1, d2] }
  | _ => none }
def BusWritesWrongFalsely : Prop := busWritesRow.holds Tryz.pinned (OpenSpec.ofChange busWritesWrong)

/-- 'emulatorlaw18.BusTicks': WHATEVER THE INPUT: true; the input reads as it did. -/
def busTicksSpec : ChangeSpec := { name := "busTicks", fn := fun _ => fun
  | [d1, d2] => { results := [.lit (.bool true)], args := [d1, d2] }
  | _ => none }
def busTicksRow : OpenClaim := { program := "ythpnddgfgpacpaagreat", sum := "8a688ab55e938f173604c85f2050a61b64e3883ed30c8e1cb4a20f282f6c898e", func := "emulator/emulatorlaw18.BusTicks", spec := "busTicks", unfollowed := true, recurses := true, apart := false }
def BusTicksSaid : Prop := busTicksRow.holds Tryz.pinned (OpenSpec.ofChange busTicksSpec)

/-- ITS FALSE NEIGHBOUR: 'it returns false'. Refute it at one input. -/
def busTicksWrong : ChangeSpec := { name := "busTicks", fn := fun _ => fun
  | [d1, d2] => { results := [.lit (.bool false)], args := [d1, d2] }
  | _ => none }
def BusTicksWrongFalsely : Prop := busTicksRow.holds Tryz.pinned (OpenSpec.ofChange busTicksWrong)

/-- 'emulatorlaw18.BusRequests': WHATEVER THE INPUT: true; the input reads as it did. -/
def busRequestsSpec : ChangeSpec := { name := "busRequests", fn := fun _ => fun
  | [d1, d2] => { results := [.lit (.bool true)], args := [d1, d2] }
  | _ => none }
def busRequestsRow : OpenClaim := { program := "ythpnddgfgpacpaagreat", sum := "8a688ab55e938f173604c85f2050a61b64e3883ed30c8e1cb4a20f282f6c898e", func := "emulator/emulatorlaw18.BusRequests", spec := "busRequests", unfollowed := true, recurses := true, apart := false }
def BusRequestsSaid : Prop := busRequestsRow.holds Tryz.pinned (OpenSpec.ofChange busRequestsSpec)

/-- ITS FALSE NEIGHBOUR: 'it returns false'. Refute it at one input. -/
def busRequestsWrong : ChangeSpec := { name := "busRequests", fn := fun _ => fun
  | [d1, d2] => { results := [.lit (.bool false)], args := [d1, d2] }
  | _ => none }
def BusRequestsWrongFalsely : Prop := busRequestsRow.holds Tryz.pinned (OpenSpec.ofChange busRequestsWrong)

/-- 'emulatorlaw18.BusSeparate': WHATEVER THE INPUT: true; the input reads as it did. -/
def busSeparateSpec : ChangeSpec := { name := "busSeparate", fn := fun _ => fun
  | [d1, d2, d3] => { results := [.lit (.bool true)], args := [d1, d2, d3] }
  | _ => none }
def busSeparateRow : OpenClaim := { program := "ythpnddgfgpacpaagreat", sum := "8a688ab55e938f173604c85f2050a61b64e3883ed30c8e1cb4a20f282f6c898e", func := "emulator/emulatorlaw18.BusSeparate", spec := "busSeparate", unfollowed := true, recurses := true, apart := false }
def BusSeparateSaid : Prop := busSeparateRow.holds Tryz.pinned (OpenSpec.ofChange busSeparateSpec)

/-- ITS FALSE NEIGHBOUR: 'it returns false'. Refute it at one input. -/
def busSeparateWrong : ChangeSpec := { name := "busSeparate", fn := fun _ => fun
  | [d1, d2, d3] => { results := [.lit (.bool false)], args := [d1, d2, d3] }
  | _ => none }
def BusSeparateWrongFalsely : Prop := busSeparateRow.holds Tryz.pinned (OpenSpec.ofChange busSeparateWrong)

/- THE SECOND FORM. 'bulk': how many values and letters a reading holds, each counted each time it is reached (what is shared counts as often as it is met; a slice's spare places count too). A statement '..UptoSaid' is the law's where the arguments, and the package variables that the reading takes, are together of bulk at most 1048576: NARROWER than '..Said'. Prove '..Said' where nothing that the law and all that it calls make is longer than what came in: it says more and counts as full. Else prove '..UptoSaid'. A law counts once. -/
mutual
def uptoBulk {H : Type} : DataW H → Nat
  | .lit (.string bytes) => bytes.length + 1
  | .lit _ => 1
  | .nil => 1
  | .ptr d => uptoBulk d + 1
  | .slice elems spare => uptoBulkAll elems + uptoBulkAll spare + 1
  | .agg parts => uptoBulkAll parts + 1
  | .iface _ d => uptoBulk d + 1
  | .map entries => uptoBulkEntries entries + 1
  | .held _ => 1
def uptoBulkAll {H : Type} : List (DataW H) → Nat
  | [] => 0
  | d :: r => uptoBulk d + uptoBulkAll r
def uptoBulkEntries {H : Type} : List (Lit × DataW H) → Nat
  | [] => 0
  | x :: r => uptoBulkEntry x + uptoBulkEntries r
def uptoBulkEntry {H : Type} : Lit × DataW H → Nat
  | (.string bytes, d) => bytes.length + uptoBulk d + 1
  | (_, d) => uptoBulk d + 1
 end
def uptoSmall : (H : Type) → List (DataW H) → Bool := fun _ ds => decide (uptoBulkAll ds ≤ 1048576)
def OpenSpec.upto (s : _root_.Go.ChangeSpec) : _root_.Go.OpenSpec := { _root_.Go.OpenSpec.ofChange s with cond := some uptoSmall }

/-- 'emulatorlaw18.BusRight', WHERE WHAT IT READS IS OF BULK AT MOST 1048576: true; the input reads as it did. -/
def busRightUptoRow : OpenClaim := { program := "ythpnddgfgpacpaagreat", sum := "8a688ab55e938f173604c85f2050a61b64e3883ed30c8e1cb4a20f282f6c898e", func := "emulator/emulatorlaw18.BusRight", spec := "busRight", unfollowed := true, recurses := true, apart := false, narrowed := true }
def BusRightUptoSaid : Prop := busRightUptoRow.holds Tryz.pinned (OpenSpec.upto busRightSpec)

/-- 'emulatorlaw18.BusReads', WHERE WHAT IT READS IS OF BULK AT MOST 1048576: true; the input reads as it did. -/
def busReadsUptoRow : OpenClaim := { program := "ythpnddgfgpacpaagreat", sum := "8a688ab55e938f173604c85f2050a61b64e3883ed30c8e1cb4a20f282f6c898e", func := "emulator/emulatorlaw18.BusReads", spec := "busReads", unfollowed := true, recurses := true, apart := false, narrowed := true }
def BusReadsUptoSaid : Prop := busReadsUptoRow.holds Tryz.pinned (OpenSpec.upto busReadsSpec)

/-- 'emulatorlaw18.BusWrites', WHERE WHAT IT READS IS OF BULK AT MOST 1048576: true; the input reads as it did. -/
def busWritesUptoRow : OpenClaim := { program := "ythpnddgfgpacpaagreat", sum := "8a688ab55e938f173604c85f2050a61b64e3883ed30c8e1cb4a20f282f6c898e", func := "emulator/emulatorlaw18.BusWrites", spec := "busWrites", unfollowed := true, recurses := true, apart := false, narrowed := true }
def BusWritesUptoSaid : Prop := busWritesUptoRow.holds Tryz.pinned (OpenSpec.upto busWritesSpec)

/-- 'emulatorlaw18.BusTicks', WHERE WHAT IT READS IS OF BULK AT MOST 1048576: true; the input reads as it did. -/
def busTicksUptoRow : OpenClaim := { program := "ythpnddgfgpacpaagreat", sum := "8a688ab55e938f173604c85f2050a61b64e3883ed30c8e1cb4a20f282f6c898e", func := "emulator/emulatorlaw18.BusTicks", spec := "busTicks", unfollowed := true, recurses := true, apart := false, narrowed := true }
def BusTicksUptoSaid : Prop := busTicksUptoRow.holds Tryz.pinned (OpenSpec.upto busTicksSpec)

/-- 'emulatorlaw18.BusRequests', WHERE WHAT IT READS IS OF BULK AT MOST 1048576: true; the input reads as it did. -/
def busRequestsUptoRow : OpenClaim := { program := "ythpnddgfgpacpaagreat", sum := "8a688ab55e938f173604c85f2050a61b64e3883ed30c8e1cb4a20f282f6c898e", func := "emulator/emulatorlaw18.BusRequests", spec := "busRequests", unfollowed := true, recurses := true, apart := false, narrowed := true }
def BusRequestsUptoSaid : Prop := busRequestsUptoRow.holds Tryz.pinned (OpenSpec.upto busRequestsSpec)

/-- 'emulatorlaw18.BusSeparate', WHERE WHAT IT READS IS OF BULK AT MOST 1048576: true; the input reads as it did. -/
def busSeparateUptoRow : OpenClaim := { program := "ythpnddgfgpacpaagreat", sum := "8a688ab55e938f173604c85f2050a61b64e3883ed30c8e1cb4a20f282f6c898e", func := "emulator/emulatorlaw18.BusSeparate", spec := "busSeparate", unfollowed := true, recurses := true, apart := false, narrowed := true }
def BusSeparateUptoSaid : Prop := busSeparateUptoRow.holds Tryz.pinned (OpenSpec.upto busSeparateSpec)

end Rows
end Go.Proofs.YthpnddgfgpacpaaGreat
