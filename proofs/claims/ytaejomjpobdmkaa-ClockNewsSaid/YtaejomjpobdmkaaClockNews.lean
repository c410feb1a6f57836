/-
  THE STATEMENT ClockNews: for every input the call returns true, and the input reads behind it as before. No condition.
-/
import Derived.Test.YtaejomjpobdmkaaRows
import Derived.Test.YtaejomjpobdmkaaCkL
import Derived.Test.YtaejomjpobdmkaaCkP
import Derived.Test.YtaejomjpobdmkaaLaidT
import Derived.WalkKit
import Derived.ProofKit
import Derived.OpenShut
import Derived.ChangeMaps5
import Derived.Lib.SmallJoins
namespace Go.Proofs.Ytaejomjpobdmkaa
open Go.ChangeShapes Go.WideShapes Go.ChangeAt Go.RowKit Go.Joins Go.ChangeMaps
set_option linter.unusedVariables false
set_option linter.unusedSimpArgs false

theorem ClockNews_own : ownKnob Try.prog.godebug = none := by kernel_rfl

set_option maxRecDepth 100000 in
theorem ClockNews_lifted (os : Os) (started : os.Started) (H : Type) (enc : TypeId × Value → H) :
    ReturnsInHanded {} Try.checked os 3 .any (Rows.clockNewsSpec.pre6 enc Try.prog Try.f3 Rows.clockNewsRow.domain false) (Rows.clockNewsSpec.post enc Try.prog Try.f3 false true false false) := by
  refine returnsInHanded_of_change (C := Try.checked) ClockNews_own started (by kernel_rfl) Try.func3
    (ChangeSpec.witness6 (enc := enc) (C := Try.checked) false ⟨#[], #[.agg #[.bool false, .bool false, .int .i64 0, .int .i64 0], .int .i64 0], []⟩ 8 (by kernel_rfl) (by kernel_rfl) (by kernel_rfl) (by kernel_rfl)) ?_
  intro W base args ds gs before hval0 hW hcnd _
  have hval : ∀ (j : Nat) t v, Try.f3.params[j]? = some t → args[j]? = some v → Value.okWide Try.prog W .any base t v := hval0
  have hW' := hW
  have hlt := hW.lt
  obtain ⟨p, q, hA0, hV, rfl, hfz, hnd⟩ := hW
  have hA : DataW.TrodAll enc Try.prog W 0 (fun _ => true) true Try.f3.params.toList args.toList ds p := hA0
  rw [Try.params3] at hA hval
  obtain ⟨v0, vs0, d0, ds0, p0, q0, hargs, rfl, rfl, h0, r0⟩ := trodAll_cons hA
  obtain ⟨v1, vs1, d1, ds1, p1, q1, rfl, rfl, rfl, h1, r1⟩ := trodAll_cons r0
  obtain ⟨rfl, rfl, rfl⟩ := trodAll_nil r1
  obtain rfl : args = #[v0, v1] := Array.ext' (by simpa using hargs)
  clear hargs
  obtain ⟨rfl, rfl⟩ := trodVars_none hV
  have cS0 : Try.prog.cellsOf 23 = 4 := by kernel_rfl
  obtain ⟨k00, k01, k02, k03, y00, y01, y02, y03, z0, rfl, rfl, rfl, hy00, hy01, hy02, hy03⟩ := open_agg4 Try.underlying23 (by kernel_rfl) cS0 (hval 0 23 v0 rfl rfl) h0
  obtain ⟨ce, e00, rfl⟩ := DataW.trod_bool Try.underlying4 hy00
  obtain ⟨cr, e01, rfl⟩ := DataW.trod_bool Try.underlying4 hy01
  obtain ⟨cp, e02, rfl, w02⟩ := DataW.trod_int Try.underlying3 hy02
  obtain ⟨cl, e03, rfl, w03⟩ := DataW.trod_int Try.underlying3 hy03
  simp at e00 e01 e02 e03
  subst e00 e01 e02 e03
  have structReads0 : ∀ (W' : World) (sp : Nat → Bool), DataW.Trod enc Try.prog W' 0 sp true 23 (.agg #[.bool ce, .bool cr, .int .i64 cp, .int .i64 cl]) (.agg [.lit (.bool ce), .lit (.bool cr), .lit (.int .i64 cp), .lit (.int .i64 cl)]) [] := fun W' sp =>
    shut_agg4 (y0 := (.lit (.bool ce), [])) (y1 := (.lit (.bool cr), [])) (y2 := (.lit (.int .i64 cp), [])) (y3 := (.lit (.int .i64 cl), [])) Try.underlying23 (by kernel_rfl) cS0 ⟨1, by simp [DataW.trod, Try.underlying4]⟩ ⟨1, by simp [DataW.trod, Try.underlying4]⟩ ⟨1, by simp [DataW.trod, Try.underlying3, w02]⟩ ⟨1, by simp [DataW.trod, Try.underlying3, w03]⟩
  obtain ⟨n, rfl, rfl, rfl, w1⟩ := open_int Try.underlying3 (hval 1 3 v1 rfl rfl) h1
  clear hA0 hval0
  simp only [List.append_nil, List.nil_append] at hW'
  refine (ClockNews_law clk_c ⟨ce, cr, cp, cl⟩ n W).mono fun e W' ⟨he, bel⟩ => ?_
  subst he
  exact ⟨_, rfl, _, _, _, [], ([] ++ ([] ++ [])), [], hW', (trodAll_cons_mk (shut_bool Try.underlying4 _) trodAll_mk0), (trodAll_cons_mk (structReads0 _ _) (trodAll_cons_mk (shut_int Try.underlying3 w1) trodAll_mk0)), rfl, bel.frame _, fun h => by cases h⟩

theorem ClockNews_over : Rows.clockNewsRow.holds Try.pinned (OpenSpec.ofChange Rows.clockNewsSpec) :=
  OpenClaim.holds_of_wide 3 Try.f3 rfl rfl rfl rfl rfl rfl rfl ⟨rfl, rfl, rfl, rfl, rfl⟩ rfl rfl rfl rfl rfl (by kernel_rfl) Try.func3 (by kernel_rfl)
    (of_decide_eq_true (by kernel_rfl)) (by unfold Func.isWrapper; first | (rw [if_pos (by decide +kernel)]; kernel_rfl) | (rw [if_neg (by decide +kernel)]; exact ⟨rfl, rfl⟩))
    (fun os started H enc _ => ClockNews_lifted os started H enc)

/-- THE STATEMENT. -/
theorem ClockNews_holds : Rows.ClockNewsSaid :=
  ClockNews_over
#print axioms ClockNews_holds
end Go.Proofs.Ytaejomjpobdmkaa
