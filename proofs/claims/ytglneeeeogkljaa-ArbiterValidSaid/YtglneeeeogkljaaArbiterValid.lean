/-
  THE STATEMENT ArbiterValid: for every input the call returns true, and the input reads behind it as before. No condition.
-/
import Derived.Test.YtglneeeeogkljaaRows
import Derived.Test.YtglneeeeogkljaaArP
import Derived.Test.YtglneeeeogkljaaLaidQ
import Derived.WalkKit
import Derived.ProofKit
import Derived.OpenShut
import Derived.ChangeMaps5
import Derived.Lib.SmallJoins
namespace Go.Proofs.Ytglneeeeogkljaa
open Go.ChangeShapes Go.WideShapes Go.ChangeAt Go.RowKit Go.Joins Go.ChangeMaps
set_option linter.unusedVariables false
set_option linter.unusedSimpArgs false

theorem ArbiterValid_own : ownKnob Try.prog.godebug = none := by kernel_rfl

set_option maxRecDepth 100000 in
theorem ArbiterValid_lifted (os : Os) (started : os.Started) (H : Type) (enc : TypeId × Value → H) :
    ReturnsInHanded {} Try.checked os 3 .any (Rows.arbiterValidSpec.pre6 enc Try.prog Try.f3 Rows.arbiterValidRow.domain false) (Rows.arbiterValidSpec.post enc Try.prog Try.f3 false true false false) := by
  refine returnsInHanded_of_change (C := Try.checked) ArbiterValid_own started (by kernel_rfl) Try.func3
    (ChangeSpec.witness6 (enc := enc) (C := Try.checked) false ⟨#[], #[.agg #[.int .i64 0, .int .i64 0]], []⟩ 8 (by kernel_rfl) (by kernel_rfl) (by kernel_rfl) (by kernel_rfl)) ?_
  intro W base args ds gs before hval0 hW hcnd _
  have hval : ∀ (j : Nat) t v, Try.f3.params[j]? = some t → args[j]? = some v → Value.okWide Try.prog W .any base t v := hval0
  have hW' := hW
  have hlt := hW.lt
  obtain ⟨p, q, hA0, hV, rfl, hfz, hnd⟩ := hW
  have hA : DataW.TrodAll enc Try.prog W 0 (fun _ => true) true Try.f3.params.toList args.toList ds p := hA0
  rw [Try.params3] at hA hval
  obtain ⟨v0, vs0, d0, ds0, p0, q0, hargs, rfl, rfl, h0, r0⟩ := trodAll_cons hA
  obtain ⟨rfl, rfl, rfl⟩ := trodAll_nil r0
  obtain rfl : args = #[v0] := Array.ext' (by simpa using hargs)
  clear hargs
  obtain ⟨rfl, rfl⟩ := trodVars_none hV
  have cS0 : Try.prog.cellsOf 23 = 2 := by kernel_rfl
  obtain ⟨k00, k01, y00, y01, z0, rfl, rfl, rfl, hy00, hy01⟩ := open_agg2 Try.underlying23 (by kernel_rfl) cS0 (hval 0 23 v0 rfl rfl) h0
  obtain ⟨y, e00, rfl, w00⟩ := DataW.trod_int Try.underlying3 hy00
  obtain ⟨z, e01, rfl, w01⟩ := DataW.trod_int Try.underlying3 hy01
  simp at e00 e01
  subst e00 e01
  have structReads0 : ∀ (W' : World) (sp : Nat → Bool), DataW.Trod enc Try.prog W' 0 sp true 23 (.agg #[.int .i64 y, .int .i64 z]) (.agg [.lit (.int .i64 y), .lit (.int .i64 z)]) [] := fun W' sp =>
    shut_agg2 (y0 := (.lit (.int .i64 y), [])) (y1 := (.lit (.int .i64 z), [])) Try.underlying23 (by kernel_rfl) cS0 ⟨1, by simp [DataW.trod, Try.underlying3, w00]⟩ ⟨1, by simp [DataW.trod, Try.underlying3, w01]⟩
  clear hA0 hval0
  simp only [List.append_nil, List.nil_append] at hW'
  refine (ArbiterValid_law arb_c (y, z) W).mono fun e W' ⟨he, bel⟩ => ?_
  subst he
  exact ⟨_, rfl, _, _, _, [], ([] ++ []), [], hW', (trodAll_cons_mk (shut_bool Try.underlying4 _) trodAll_mk0), (trodAll_cons_mk (structReads0 _ _) trodAll_mk0), rfl, bel.frame _, fun h => by cases h⟩

theorem ArbiterValid_over : Rows.arbiterValidRow.holds Try.pinned (OpenSpec.ofChange Rows.arbiterValidSpec) :=
  OpenClaim.holds_of_wide 3 Try.f3 rfl rfl rfl rfl rfl rfl rfl ⟨rfl, rfl, rfl, rfl, rfl⟩ rfl rfl rfl rfl rfl (by kernel_rfl) Try.func3 (by kernel_rfl)
    (of_decide_eq_true (by kernel_rfl)) (by unfold Func.isWrapper; first | (rw [if_pos (by decide +kernel)]; kernel_rfl) | (rw [if_neg (by decide +kernel)]; exact ⟨rfl, rfl⟩))
    (fun os started H enc _ => ArbiterValid_lifted os started H enc)

/-- THE STATEMENT. -/
theorem ArbiterValid_holds : Rows.ArbiterValidSaid :=
  ArbiterValid_over
#print axioms ArbiterValid_holds
end Go.Proofs.Ytglneeeeogkljaa
