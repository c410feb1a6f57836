/-
  DERIVED. GIVEN WITH THE SEED: THE PROGRAM's TIES (one call each: nine closed facts by the kernel) AND EACH ROW's TIE, after the 31st guide's Derived/Test/Toyas{Tie, Card}.lean. No idea stands in it: it is a product of the set-up. Laid BY PROGRAM, IN A SANDBOX (cutbox-door.mjs). By AI agents, Wed Nov 11 2026. No macro, syntax, notation, axiom, sorry.
-/
import Derived.Test.YtlegcfjafdihlaaGreatDoorRows
import Derived.LaidByTextLater
import Derived.SevenTiedAt
import Derived.LaidSub
import Derived.LaidOnce
namespace Go.Proofs.YtlegcfjafdihlaaGreatDoor
open Go
set_option maxRecDepth 100000
theorem seatTie1 : Tryz.prog.laidByTextLater [("emulator/trap.kinds", Rows.laid_emulator_trap_kinds), ("emulator/word.widths", Rows.laid_emulator_word_widths), ("math/bits.deBruijn32tab", Rows.laid_math_bits_deBruijn32tab), ("math/bits.deBruijn64tab", Rows.laid_math_bits_deBruijn64tab), ("emulator/inst.forms", Rows.laid_emulator_inst_forms)] [.data, .wider, .data, .data, .wider] true :=
  Program.laidByTextLater_by_one 89 8 221 (by kernel_rfl) (by kernel_rfl) (by kernel_rfl) (by kernel_rfl) (by kernel_rfl) (by kernel_rfl) (fun _ _ => by kernel_rfl)
theorem noOwnUnsafe : Tryz.pinned.checked.prog.headLifts.contains "ownunsafe" = false := by kernel_rfl
theorem tie : Tryz.prog.laidByTextLater [("emulator/trap.kinds", Rows.laid_emulator_trap_kinds), ("emulator/word.widths", Rows.laid_emulator_word_widths), ("math/bits.deBruijn32tab", Rows.laid_math_bits_deBruijn32tab), ("math/bits.deBruijn64tab", Rows.laid_math_bits_deBruijn64tab), ("emulator/inst.forms", Rows.laid_emulator_inst_forms)] [.data, .wider, .data, .data, .wider] true :=
  Program.laidByTextLater.sub seatTie1 ["emulator/trap.kinds", "emulator/word.widths", "math/bits.deBruijn32tab", "math/bits.deBruijn64tab", "emulator/inst.forms"] (by kernel_rfl) (by kernel_rfl)
theorem cpuRegisters_row_tie : Rows.cpuRegistersRow.laidByTextAt .later Tryz.pinned [.data, .wider, .data, .data, .wider] true :=
  OpenClaim.laidByTextAt_later rfl rfl tie noOwnUnsafe
theorem machineNews_row_tie : Rows.machineNewsRow.laidByTextAt .later Tryz.pinned [.data, .wider, .data, .data, .wider] true :=
  OpenClaim.laidByTextAt_later rfl rfl tie noOwnUnsafe
theorem machineRight_row_tie : Rows.machineRightRow.laidByTextAt .later Tryz.pinned [.data, .wider, .data, .data, .wider] true :=
  OpenClaim.laidByTextAt_later rfl rfl tie noOwnUnsafe
theorem machineCopies_row_tie : Rows.machineCopiesRow.laidByTextAt .later Tryz.pinned [.data, .wider, .data, .data, .wider] true :=
  OpenClaim.laidByTextAt_later rfl rfl tie noOwnUnsafe
theorem cpuRegistersUpto_row_tie : Rows.cpuRegistersUptoRow.laidByTextAt .later Tryz.pinned [.data, .wider, .data, .data, .wider] true :=
  OpenClaim.laidByTextAt_later rfl rfl tie noOwnUnsafe
theorem machineNewsUpto_row_tie : Rows.machineNewsUptoRow.laidByTextAt .later Tryz.pinned [.data, .wider, .data, .data, .wider] true :=
  OpenClaim.laidByTextAt_later rfl rfl tie noOwnUnsafe
theorem machineRightUpto_row_tie : Rows.machineRightUptoRow.laidByTextAt .later Tryz.pinned [.data, .wider, .data, .data, .wider] true :=
  OpenClaim.laidByTextAt_later rfl rfl tie noOwnUnsafe
theorem machineCopiesUpto_row_tie : Rows.machineCopiesUptoRow.laidByTextAt .later Tryz.pinned [.data, .wider, .data, .data, .wider] true :=
  OpenClaim.laidByTextAt_later rfl rfl tie noOwnUnsafe
end Go.Proofs.YtlegcfjafdihlaaGreatDoor
