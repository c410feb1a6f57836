/-
  THE STATEMENT DisasmLines: for every input the call returns true, and the input reads behind it as before. Condition: the listed tables (of packages inst and disasm, of its reference, of math/bits and strconv) read at the call as the program's text lays them; the card ties that to the text.
-/
import Derived.Test.YtdbbnkjnmldnpaaGreatDoorMW
import Derived.Test.YtdbbnkjnmldnpaaGreatDoorLaidD
import Derived.Test.YtdbbnkjnmldnpaaGreatDoorCards
import Derived.Test.YtdbbnkjnmldnpaaGreatDoorTie
import Derived.SevenTiedAt
import Derived.Lib.SmallJoins
import Derived.ChangeMaps5
namespace Go.Proofs.YtdbbnkjnmldnpaaGreatDoor
open Go Go.ChangeShapes Go.WideShapes Go.ChangeAt Go.RowKit Go.Joins Go.ChangeMaps
set_option linter.unusedVariables false
set_option linter.unusedSimpArgs false
set_option maxRecDepth 100000

def laidW : List (String × DataW Unit) := [("emulator/emulatorref07.names", Rows.laid_emulator_emulatorref07_names), ("emulator/emulatorref07.clear", Rows.laid_emulator_emulatorref07_clear), ("emulator/emulatorref07.set", Rows.laid_emulator_emulatorref07_set), ("emulator/emulatorref07.registers", Rows.laid_emulator_emulatorref07_registers), ("math/bits.deBruijn32tab", Rows.laid_math_bits_deBruijn32tab), ("math/bits.deBruijn64tab", Rows.laid_math_bits_deBruijn64tab), ("emulator/inst.forms", Rows.laid_emulator_inst_forms), ("internal/strconv.uint64pow10", Rows.laid_internal_strconv_uint64pow10), ("emulator/disasm.registers", Rows.laid_emulator_disasm_registers), ("emulator/disasm.mnemonics", Rows.laid_emulator_disasm_mnemonics), ("emulator/disasm.abbreviations", Rows.laid_emulator_disasm_abbreviations)]
theorem door_met (os : Os) (args : Array Value) : laidMetH Tryz.prog laidW ((World.doorLaid Tryz.prog 400 os).forCall (fun _ _ => 0) ⟨#[], args, []⟩).memory :=
  laidMetH_of_parts3 (fuel := 8) (laidMet_of_run' 8 (by kernel_rfl) (by kernel_rfl)) (by kernel_rfl) (by kernel_rfl)
theorem of_laid {W : World} (h : laidMetH Tryz.prog laidW W) : (∃ A c, Dis A c W) ∧ Tab 6 mns W ∧ Tab 1 clr W ∧ Tab 2 sts W ∧ Tab 3 rgs W := by
  rw [MakeChecks.laidMetH_plain _ _ _ (by kernel_rfl)] at h
  exact ⟨dis_of (Lib.laidMet.reads h (.tail _ (.tail _ (.tail _ (.tail _ (.tail _ (.head _))))))) (Lib.laidMet.reads h (.tail _ (.tail _ (.tail _ (.tail _ (.tail _ (.tail _ (.head _)))))))) (Lib.laidMet.reads h (.tail _ (.tail _ (.tail _ (.tail _ (.tail _ (.tail _ (.tail _ (.tail _ (.head _)))))))))) (Lib.laidMet.reads h (.tail _ (.tail _ (.tail _ (.tail _ (.tail _ (.tail _ (.tail _ (.tail _ (.tail _ (.head _))))))))))) (Lib.laidMet.reads h (.tail _ (.tail _ (.tail _ (.tail _ (.tail _ (.tail _ (.tail _ (.tail _ (.tail _ (.tail _ (.head _)))))))))))), rnames_of (Lib.laidMet.reads h (.head _)), rclear_of (Lib.laidMet.reads h (.tail _ (.head _))), rset_of (Lib.laidMet.reads h (.tail _ (.tail _ (.head _)))), rregs_of (Lib.laidMet.reads h (.tail _ (.tail _ (.tail _ (.head _)))))⟩

theorem DisasmLines_lifted (os : Os) (started : os.Started) (H : Type) (enc : TypeId × Value → H) :
    ReturnsInHanded {} Tryz.checked os 3 .any (fun w args => (Rows.disasmLinesSpec.pre enc Tryz.prog Tryz.f3 [] false w args ∧ laidMetH Tryz.prog laidW w) ∧ sizedMet enc Tryz.prog Tryz.f3 (OpenSpec.ofChange Rows.disasmLinesSpec) false w args)
      (Rows.disasmLinesSpec.post enc Tryz.prog Tryz.f3 false true false false) := by
  refine returnsInHanded_of_change_and (C := Tryz.checked) (X := fun w _ => laidMetH Tryz.prog laidW w) (fun _ _ _ hh h => h.of_heap hh) own started (by kernel_rfl) Tryz.func3
    (ChangeSpec.witness_shaped (enc := enc) (C := Tryz.checked) (os := os) (X := fun w _ => laidMetH Tryz.prog laidW w) false (World.doorLaid Tryz.prog 400 os) #[.slice none 0 0, .int .i64 0] 8 rfl (World.shaped_of_RefB (by kernel_rfl) (by kernel_rfl)) (by kernel_rfl) (by kernel_rfl) (by kernel_rfl) (door_met os _)) ?_
  intro W base args ds gs before hval0 hW _ _ hL _
  have hval : ∀ (j : Nat) t v, Tryz.f3.params[j]? = some t → args[j]? = some v → Value.okWide Tryz.prog W .any base t v := hval0
  obtain ⟨⟨cA, cC, hD⟩, h_names, h_clear, h_set, h_registers⟩ := of_laid hL
  have hW' := hW
  have hlt := hW.lt
  obtain ⟨p, q, hA0, hV, rfl, hfz, hnd⟩ := hW
  have hA : DataW.TrodAll enc Tryz.prog W 0 (fun _ => true) true Tryz.f3.params.toList args.toList ds p := hA0
  rw [Tryz.params3] at hA hval
  obtain ⟨v0, vs0, d0, ds0, p0, q0, hargs, rfl, rfl, h0, r0⟩ := trodAll_cons hA
  obtain ⟨v1, vs1, d1, ds1, p1, q1, rfl, rfl, rfl, h1, r1⟩ := trodAll_cons r0
  obtain ⟨rfl, rfl, rfl⟩ := trodAll_nil r1
  obtain rfl : args = #[v0, v1] := by cases args; simp_all
  obtain ⟨rfl, rfl⟩ := trodVars_none hV
  obtain ⟨l, n0, w0, m0⟩ := open_nums Tryz.underlying22 Tryz.underlying3 (by kernel_rfl) (hval 0 22 v0 rfl rfl) h0
  obtain ⟨a, rfl, rfl, rfl, w1⟩ := open_int Tryz.underlying3 (hval 1 3 v1 rfl rfl) h1
  clear hA0 hval0
  have hW2 := hW'
  simp only [List.append_nil, List.nil_append] at hW'
  refine (lines_law l v0 a W hD h_names h_clear h_set h_registers n0 m0).mono fun e W' ⟨he, bel⟩ => ?_
  subst he
  exact ⟨_, rfl, _, _, _, [], (p0 ++ ([] ++ [])), [], hW2, (trodAll_cons_mk (shut_bool Tryz.underlying4 _) trodAll_mk0), (trodAll_cons_mk (Below.trod laidOut (by kernel_rfl) (of_decide_eq_true (by kernel_rfl)) h0 bel (fun x hx => hlt x (by simp [hx]))) (trodAll_cons_mk (shut_int Tryz.underlying3 w1) trodAll_mk0)), rfl, bel.frame _, fun h => by cases h⟩

theorem DisasmLines_over : Rows.disasmLinesRow.holds Tryz.pinned (OpenSpec.ofChange Rows.disasmLinesSpec) :=
  OpenClaim.holds_of_wide 3 Tryz.f3 rfl rfl rfl rfl rfl rfl rfl ⟨rfl, rfl, rfl, rfl, rfl⟩ rfl rfl rfl rfl rfl (by kernel_rfl) Tryz.func3 (by kernel_rfl)
    (of_decide_eq_true (by kernel_rfl)) (by unfold Func.isWrapper; first | (rw [if_pos (by decide +kernel)]; kernel_rfl) | (rw [if_neg (by decide +kernel)]; exact ⟨rfl, rfl⟩))
    (fun os started H enc _ => DisasmLines_lifted os started H enc)

/-- THE STATEMENT. -/
theorem DisasmLines_holds : Rows.DisasmLinesCardSaid := by
  unfold Rows.DisasmLinesCardSaid Rows.disasmLinesCard
  exact Claim7.holds_tied_plain_at .later [] [.data, .data, .data, .data, .data, .data, .wider, .data, .data, .data, .data] true _ false
    DisasmLines_over (fun _ h => by cases h) (by kernel_rfl) (fun _ h => by cases h) disasmLines_row_tie rfl ⟨rfl, rfl⟩ (by kernel_rfl) rfl
    (fun f fn hf hfn => by
      obtain rfl : f = 3 := Option.some.inj ((show Tryz.prog.funcNamed "emulator/emulatorlaw07.DisasmLines" = some 3 by kernel_rfl).symm.trans hf) |>.symm
      obtain rfl : fn = Tryz.f3 := (Option.some.inj (Tryz.func3.symm.trans hfn)).symm
      exact ⟨by kernel_rfl, fun j t ht => by
        rw [Tryz.params3] at ht
        have hm : t ∈ [22, 3] := by simpa using Array.mem_of_getElem? ht
        have hall : ([22, 3].all fun u => !Tryz.prog.wantsStandIn u) = true := by kernel_rfl
        exact (show Tryz.prog.wantsStandIn t = false by simpa using List.all_eq_true.1 hall t hm)⟩)
    (by kernel_rfl)
#print axioms DisasmLines_holds
end Go.Proofs.YtdbbnkjnmldnpaaGreatDoor
