/-
  DERIVED. GIVEN WITH THE SEED: THE PROGRAM's TIES (one call each: nine closed facts by the kernel) AND EACH ROW's TIE, after the 31st guide's Derived/Test/Toyas{Tie, Card}.lean. No idea stands in it: it is a product of the set-up. Laid BY PROGRAM, IN A SANDBOX (cutbox-door.mjs). By AI agents, Wed Nov 11 2026. No macro, syntax, notation, axiom, sorry.
-/
import Derived.Test.YtdbbnkjnmldnpaaGreatDoorRows
import Derived.LaidByTextLater
import Derived.SevenTiedAt
import Derived.LaidSub
import Derived.LaidOnce
namespace Go.Proofs.YtdbbnkjnmldnpaaGreatDoor
open Go
set_option maxRecDepth 100000
theorem seatTie1 : Tryz.prog.laidByTextLater [("emulator/emulatorref07.names", Rows.laid_emulator_emulatorref07_names), ("emulator/emulatorref07.clear", Rows.laid_emulator_emulatorref07_clear), ("emulator/emulatorref07.set", Rows.laid_emulator_emulatorref07_set), ("emulator/emulatorref07.registers", Rows.laid_emulator_emulatorref07_registers), ("math/bits.deBruijn32tab", Rows.laid_math_bits_deBruijn32tab), ("math/bits.deBruijn64tab", Rows.laid_math_bits_deBruijn64tab), ("emulator/inst.forms", Rows.laid_emulator_inst_forms), ("internal/strconv.uint64pow10", Rows.laid_internal_strconv_uint64pow10), ("emulator/disasm.registers", Rows.laid_emulator_disasm_registers), ("emulator/disasm.mnemonics", Rows.laid_emulator_disasm_mnemonics), ("emulator/disasm.abbreviations", Rows.laid_emulator_disasm_abbreviations)] [.data, .data, .data, .data, .data, .data, .wider, .data, .data, .data, .data] true :=
  Program.laidByTextLater_by_one 117 8 221 (by kernel_rfl) (by kernel_rfl) (by kernel_rfl) (by kernel_rfl) (by kernel_rfl) (by kernel_rfl) (fun _ _ => by kernel_rfl)
theorem noOwnUnsafe : Tryz.pinned.checked.prog.headLifts.contains "ownunsafe" = false := by kernel_rfl
theorem tie : Tryz.prog.laidByTextLater [("emulator/emulatorref07.names", Rows.laid_emulator_emulatorref07_names), ("emulator/emulatorref07.clear", Rows.laid_emulator_emulatorref07_clear), ("emulator/emulatorref07.set", Rows.laid_emulator_emulatorref07_set), ("emulator/emulatorref07.registers", Rows.laid_emulator_emulatorref07_registers), ("math/bits.deBruijn32tab", Rows.laid_math_bits_deBruijn32tab), ("math/bits.deBruijn64tab", Rows.laid_math_bits_deBruijn64tab), ("emulator/inst.forms", Rows.laid_emulator_inst_forms), ("internal/strconv.uint64pow10", Rows.laid_internal_strconv_uint64pow10), ("emulator/disasm.registers", Rows.laid_emulator_disasm_registers), ("emulator/disasm.mnemonics", Rows.laid_emulator_disasm_mnemonics), ("emulator/disasm.abbreviations", Rows.laid_emulator_disasm_abbreviations)] [.data, .data, .data, .data, .data, .data, .wider, .data, .data, .data, .data] true :=
  Program.laidByTextLater.sub seatTie1 ["emulator/emulatorref07.names", "emulator/emulatorref07.clear", "emulator/emulatorref07.set", "emulator/emulatorref07.registers", "math/bits.deBruijn32tab", "math/bits.deBruijn64tab", "emulator/inst.forms", "internal/strconv.uint64pow10", "emulator/disasm.registers", "emulator/disasm.mnemonics", "emulator/disasm.abbreviations"] (by kernel_rfl) (by kernel_rfl)
theorem disasmLines_row_tie : Rows.disasmLinesRow.laidByTextAt .later Tryz.pinned [.data, .data, .data, .data, .data, .data, .wider, .data, .data, .data, .data] true :=
  OpenClaim.laidByTextAt_later rfl rfl tie noOwnUnsafe
theorem disasmLinesUpto_row_tie : Rows.disasmLinesUptoRow.laidByTextAt .later Tryz.pinned [.data, .data, .data, .data, .data, .data, .wider, .data, .data, .data, .data] true :=
  OpenClaim.laidByTextAt_later rfl rfl tie noOwnUnsafe
end Go.Proofs.YtdbbnkjnmldnpaaGreatDoor
