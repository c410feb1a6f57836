/-
  THE STATEMENT MemoryRanges: for every input the call returns true, and the input reads behind it as before. No condition.
-/
import Derived.Test.YtjjmgmnhcccjgaaRows
import Derived.Test.YtjjmgmnhcccjgaaMeO
import Derived.Test.YtjjmgmnhcccjgaaLaidM
import Derived.WalkKit
import Derived.ProofKit
import Derived.OpenShut
import Derived.ChangeMaps5
import Derived.Lib.SmallJoins
namespace Go.Proofs.Ytjjmgmnhcccjgaa
open Go.ChangeShapes Go.WideShapes Go.ChangeAt Go.RowKit Go.Joins Go.ChangeMaps
set_option linter.unusedVariables false
set_option linter.unusedSimpArgs false

theorem MemoryRanges_own : ownKnob Try.prog.godebug = none := by kernel_rfl

set_option maxRecDepth 100000 in
theorem MemoryRanges_lifted (os : Os) (started : os.Started) (H : Type) (enc : TypeId × Value → H) :
    ReturnsInHanded {} Try.checked os 6 .any (Rows.memoryRangesSpec.pre6 enc Try.prog Try.f6 Rows.memoryRangesRow.domain false) (Rows.memoryRangesSpec.post enc Try.prog Try.f6 false true false false) := by
  refine returnsInHanded_of_change (C := Try.checked) MemoryRanges_own started (by kernel_rfl) Try.func6
    (ChangeSpec.witness6 (enc := enc) (C := Try.checked) false ⟨#[], #[.slice none 0 0, .string ⟨#[]⟩, .agg #[.int .i64 0, .int .i64 0, .int .i64 0]], []⟩ 8 (by kernel_rfl) (by kernel_rfl) (by kernel_rfl) (by kernel_rfl)) ?_
  intro W base args ds gs before hval0 hW hcnd _
  have hval : ∀ (j : Nat) t v, Try.f6.params[j]? = some t → args[j]? = some v → Value.okWide Try.prog W .any base t v := hval0
  have hW' := hW
  have hlt := hW.lt
  obtain ⟨p, q, hA0, hV, rfl, hfz, hnd⟩ := hW
  have hA : DataW.TrodAll enc Try.prog W 0 (fun _ => true) true Try.f6.params.toList args.toList ds p := hA0
  rw [Try.params6] at hA hval
  obtain ⟨v0, vs0, d0, ds0, p0, q0, hargs, rfl, rfl, h0, r0⟩ := trodAll_cons hA
  obtain ⟨v1, vs1, d1, ds1, p1, q1, rfl, rfl, rfl, h1, r1⟩ := trodAll_cons r0
  obtain ⟨v2, vs2, d2, ds2, p2, q2, rfl, rfl, rfl, h2, r2⟩ := trodAll_cons r1
  obtain ⟨rfl, rfl, rfl⟩ := trodAll_nil r2
  obtain rfl : args = #[v0, v1, v2] := Array.ext' (by simpa using hargs)
  clear hargs
  obtain ⟨rfl, rfl⟩ := trodVars_none hV
  obtain ⟨l, n0, w0, m0⟩ := open_nums Try.underlying22 Try.underlying3 (by kernel_rfl) (hval 0 22 v0 rfl rfl) h0
  obtain ⟨s, rfl, rfl, rfl, m1⟩ := open_string Try.underlying9 (hval 1 9 v1 rfl rfl) h1
  have cS2 : Try.prog.cellsOf 40 = 3 := by kernel_rfl
  obtain ⟨k20, k21, k22, y20, y21, y22, z2, rfl, rfl, rfl, hy20, hy21, hy22⟩ := open_agg3 Try.underlying40 (by kernel_rfl) cS2 (hval 2 40 v2 rfl rfl) h2
  obtain ⟨d, e20, rfl, w20⟩ := DataW.trod_int Try.underlying3 hy20
  obtain ⟨f, e21, rfl, w21⟩ := DataW.trod_int Try.underlying3 hy21
  obtain ⟨n, e22, rfl, w22⟩ := DataW.trod_int Try.underlying3 hy22
  simp at e20 e21 e22
  subst e20 e21 e22
  have structReads2 : ∀ (W' : World) (sp : Nat → Bool), DataW.Trod enc Try.prog W' 0 sp true 40 (.agg #[.int .i64 d, .int .i64 f, .int .i64 n]) (.agg [.lit (.int .i64 d), .lit (.int .i64 f), .lit (.int .i64 n)]) [] := fun W' sp =>
    shut_agg3 (y0 := (.lit (.int .i64 d), [])) (y1 := (.lit (.int .i64 f), [])) (y2 := (.lit (.int .i64 n), [])) Try.underlying40 (by kernel_rfl) cS2 ⟨1, by simp [DataW.trod, Try.underlying3, w20]⟩ ⟨1, by simp [DataW.trod, Try.underlying3, w21]⟩ ⟨1, by simp [DataW.trod, Try.underlying3, w22]⟩
  clear hA0 hval0
  simp only [List.append_nil, List.nil_append] at hW'
  refine (ranges_law v0 l s d f n (i64_bd w20).2 (i64_bd w21).2 W n0).mono fun e W' ⟨he, bel⟩ => ?_
  subst he
  exact ⟨_, rfl, _, _, _, [], (p0 ++ ([] ++ ([] ++ []))), [], hW', (trodAll_cons_mk (shut_bool Try.underlying4 _) trodAll_mk0), (trodAll_cons_mk (Below.trod laidOut (by kernel_rfl) (of_decide_eq_true (by kernel_rfl)) h0 bel (fun x hx => hlt x (by simp [hx]))) (trodAll_cons_mk (shut_string Try.underlying9 m1) (trodAll_cons_mk (structReads2 _ _) trodAll_mk0))), rfl, bel.frame _, fun h => by cases h⟩

theorem MemoryRanges_over : Rows.memoryRangesRow.holds Try.pinned (OpenSpec.ofChange Rows.memoryRangesSpec) :=
  OpenClaim.holds_of_wide 6 Try.f6 rfl rfl rfl rfl rfl rfl rfl ⟨rfl, rfl, rfl, rfl, rfl⟩ rfl rfl rfl rfl rfl (by kernel_rfl) Try.func6 (by kernel_rfl)
    (of_decide_eq_true (by kernel_rfl)) (by unfold Func.isWrapper; first | (rw [if_pos (by decide +kernel)]; kernel_rfl) | (rw [if_neg (by decide +kernel)]; exact ⟨rfl, rfl⟩))
    (fun os started H enc _ => MemoryRanges_lifted os started H enc)

/-- THE STATEMENT. -/
theorem MemoryRanges_holds : Rows.MemoryRangesSaid :=
  MemoryRanges_over
#print axioms MemoryRanges_holds
end Go.Proofs.Ytjjmgmnhcccjgaa
