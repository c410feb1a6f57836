/-
  THE STATEMENT MmuMaps: for every input the call returns true, and the input reads behind it as before. No condition.
-/
import Derived.Test.YtggnbfilkogcoaaRows
import Derived.Test.YtggnbfilkogcoaaLw9B
import Derived.Test.YtggnbfilkogcoaaLaidV
import Derived.WalkKit
import Derived.ProofKit
import Derived.OpenShut
import Derived.ChangeMaps5
import Derived.Lib.SmallJoins
namespace Go.Proofs.Ytggnbfilkogcoaa
open Go.ChangeShapes Go.WideShapes Go.ChangeAt Go.RowKit Go.Joins Go.ChangeMaps
set_option linter.unusedVariables false
set_option linter.unusedSimpArgs false

theorem MmuMaps_own : ownKnob Try.prog.godebug = none := by kernel_rfl

set_option maxRecDepth 100000 in
theorem MmuMaps_lifted (os : Os) (started : os.Started) (H : Type) (enc : TypeId × Value → H) :
    ReturnsInHanded {} Try.checked os 6 .any (Rows.mmuMapsSpec.pre6 enc Try.prog Try.f6 Rows.mmuMapsRow.domain false) (Rows.mmuMapsSpec.post enc Try.prog Try.f6 false true false false) := by
  refine returnsInHanded_of_change (C := Try.checked) MmuMaps_own started (by kernel_rfl) Try.func6
    (ChangeSpec.witness6 (enc := enc) (C := Try.checked) false ⟨#[], #[.agg Un.z.L.toArray, .agg #[.int .i64 0, .int .i64 0, .int .i64 0, .int .i64 0]], []⟩ 8 (by kernel_rfl) (by kernel_rfl) (by kernel_rfl) (by kernel_rfl)) ?_
  intro W base args ds gs before hval0 hW hcnd _
  have hval : ∀ (j : Nat) t v, Try.f6.params[j]? = some t → args[j]? = some v → Value.okWide Try.prog W .any base t v := hval0
  have hW' := hW
  have hlt := hW.lt
  obtain ⟨p, q, hA0, hV, rfl, hfz, hnd⟩ := hW
  have hA : DataW.TrodAll enc Try.prog W 0 (fun _ => true) true Try.f6.params.toList args.toList ds p := hA0
  rw [Try.params6] at hA hval
  obtain ⟨v0, vs0, d0, ds0, p0, q0, hargs, rfl, rfl, h0, r0⟩ := trodAll_cons hA
  obtain ⟨v1, vs1, d1, ds1, p1, q1, rfl, rfl, rfl, h1, r1⟩ := trodAll_cons r0
  obtain ⟨rfl, rfl, rfl⟩ := trodAll_nil r1
  obtain rfl : args = #[v0, v1] := Array.ext' (by simpa using hargs)
  clear hargs
  obtain ⟨rfl, rfl⟩ := trodVars_none hV
  obtain ⟨u, rfl, hu0⟩ := open_unitV (hval 0 27 v0 rfl rfl) h0
  have cS1 : Try.prog.cellsOf 42 = 4 := by kernel_rfl
  obtain ⟨k10, k11, k12, k13, y10, y11, y12, y13, z1, rfl, rfl, rfl, hy10, hy11, hy12, hy13⟩ := open_agg4 Try.underlying42 (by kernel_rfl) cS1 (hval 1 42 v1 rfl rfl) h1
  obtain ⟨mode, e10, rfl, w10⟩ := DataW.trod_int Try.underlying3 hy10
  obtain ⟨bs, e11, rfl, w11⟩ := DataW.trod_int Try.underlying3 hy11
  obtain ⟨blocks, e12, rfl, w12⟩ := DataW.trod_int Try.underlying3 hy12
  obtain ⟨acc, e13, rfl, w13⟩ := DataW.trod_int Try.underlying3 hy13
  simp at e10 e11 e12 e13
  subst e10 e11 e12 e13
  have structReads1 : ∀ (W' : World) (sp : Nat → Bool), DataW.Trod enc Try.prog W' 0 sp true 42 (.agg #[.int .i64 mode, .int .i64 bs, .int .i64 blocks, .int .i64 acc]) (.agg [.lit (.int .i64 mode), .lit (.int .i64 bs), .lit (.int .i64 blocks), .lit (.int .i64 acc)]) [] := fun W' sp =>
    shut_agg4 (y0 := (.lit (.int .i64 mode), [])) (y1 := (.lit (.int .i64 bs), [])) (y2 := (.lit (.int .i64 blocks), [])) (y3 := (.lit (.int .i64 acc), [])) Try.underlying42 (by kernel_rfl) cS1 ⟨1, by simp [DataW.trod, Try.underlying3, w10]⟩ ⟨1, by simp [DataW.trod, Try.underlying3, w11]⟩ ⟨1, by simp [DataW.trod, Try.underlying3, w12]⟩ ⟨1, by simp [DataW.trod, Try.underlying3, w13]⟩
  clear hA0 hval0
  simp only [List.append_nil, List.nil_append] at hW'
  refine (maps_law u hu0.1 mode bs blocks acc W).mono fun e W' ⟨he, bel⟩ => ?_
  subst he
  exact ⟨_, rfl, _, _, _, [], (p0 ++ ([] ++ [])), [], hW', (trodAll_cons_mk (shut_bool Try.underlying4 _) trodAll_mk0), (trodAll_cons_mk (Below.trod laidOut (by kernel_rfl) (of_decide_eq_true (by kernel_rfl)) h0 bel (fun x hx => hlt x (by simp [hx]))) (trodAll_cons_mk (structReads1 _ _) trodAll_mk0)), rfl, bel.frame _, fun h => by cases h⟩

theorem MmuMaps_over : Rows.mmuMapsRow.holds Try.pinned (OpenSpec.ofChange Rows.mmuMapsSpec) :=
  OpenClaim.holds_of_wide 6 Try.f6 rfl rfl rfl rfl rfl rfl rfl ⟨rfl, rfl, rfl, rfl, rfl⟩ rfl rfl rfl rfl rfl (by kernel_rfl) Try.func6 (by kernel_rfl)
    (of_decide_eq_true (by kernel_rfl)) (by unfold Func.isWrapper; first | (rw [if_pos (by decide +kernel)]; kernel_rfl) | (rw [if_neg (by decide +kernel)]; exact ⟨rfl, rfl⟩))
    (fun os started H enc _ => MmuMaps_lifted os started H enc)

/-- THE STATEMENT. -/
theorem MmuMaps_holds : Rows.MmuMapsSaid :=
  MmuMaps_over
#print axioms MmuMaps_holds
end Go.Proofs.Ytggnbfilkogcoaa
