/-
  THE STATEMENT MemoryAccess: for every input the call returns true, and the input reads behind it as before. No condition.
-/
import Derived.Test.YtjjmgmnhcccjgaaRows
import Derived.Test.YtjjmgmnhcccjgaaMeO
import Derived.Test.YtjjmgmnhcccjgaaLaidM
import Derived.WalkKit
import Derived.ProofKit
import Derived.OpenShut
import Derived.ChangeMaps5
import Derived.Lib.SmallJoins
namespace Go.Proofs.Ytjjmgmnhcccjgaa
open Go.ChangeShapes Go.WideShapes Go.ChangeAt Go.RowKit Go.Joins Go.ChangeMaps
set_option linter.unusedVariables false
set_option linter.unusedSimpArgs false

theorem MemoryAccess_own : ownKnob Try.prog.godebug = none := by kernel_rfl

set_option maxRecDepth 100000 in
theorem MemoryAccess_lifted (os : Os) (started : os.Started) (H : Type) (enc : TypeId × Value → H) :
    ReturnsInHanded {} Try.checked os 4 .any (Rows.memoryAccessSpec.pre6 enc Try.prog Try.f4 Rows.memoryAccessRow.domain false) (Rows.memoryAccessSpec.post enc Try.prog Try.f4 false true false false) := by
  refine returnsInHanded_of_change (C := Try.checked) MemoryAccess_own started (by kernel_rfl) Try.func4
    (ChangeSpec.witness6 (enc := enc) (C := Try.checked) false ⟨#[], #[.slice none 0 0, .slice none 0 0, .agg #[.int .i64 0, .bool false, .int .i64 0]], []⟩ 8 (by kernel_rfl) (by kernel_rfl) (by kernel_rfl) (by kernel_rfl)) ?_
  intro W base args ds gs before hval0 hW hcnd _
  have hval : ∀ (j : Nat) t v, Try.f4.params[j]? = some t → args[j]? = some v → Value.okWide Try.prog W .any base t v := hval0
  have hW' := hW
  have hlt := hW.lt
  obtain ⟨p, q, hA0, hV, rfl, hfz, hnd⟩ := hW
  have hA : DataW.TrodAll enc Try.prog W 0 (fun _ => true) true Try.f4.params.toList args.toList ds p := hA0
  rw [Try.params4] at hA hval
  obtain ⟨v0, vs0, d0, ds0, p0, q0, hargs, rfl, rfl, h0, r0⟩ := trodAll_cons hA
  obtain ⟨v1, vs1, d1, ds1, p1, q1, rfl, rfl, rfl, h1, r1⟩ := trodAll_cons r0
  obtain ⟨v2, vs2, d2, ds2, p2, q2, rfl, rfl, rfl, h2, r2⟩ := trodAll_cons r1
  obtain ⟨rfl, rfl, rfl⟩ := trodAll_nil r2
  obtain rfl : args = #[v0, v1, v2] := Array.ext' (by simpa using hargs)
  clear hargs
  obtain ⟨rfl, rfl⟩ := trodVars_none hV
  obtain ⟨l, n0, w0, m0⟩ := open_nums Try.underlying22 Try.underlying3 (by kernel_rfl) (hval 0 22 v0 rfl rfl) h0
  obtain ⟨l2, n1, w1, m1⟩ := open_nums Try.underlying22 Try.underlying3 (by kernel_rfl) (hval 1 22 v1 rfl rfl) h1
  have cS2 : Try.prog.cellsOf 30 = 3 := by kernel_rfl
  obtain ⟨k20, k21, k22, y20, y21, y22, z2, rfl, rfl, rfl, hy20, hy21, hy22⟩ := open_agg3 Try.underlying30 (by kernel_rfl) cS2 (hval 2 30 v2 rfl rfl) h2
  obtain ⟨a, e20, rfl, w20⟩ := DataW.trod_int Try.underlying3 hy20
  obtain ⟨b, e21, rfl⟩ := DataW.trod_bool Try.underlying4 hy21
  obtain ⟨x, e22, rfl, w22⟩ := DataW.trod_int Try.underlying3 hy22
  simp at e20 e21 e22
  subst e20 e21 e22
  have structReads2 : ∀ (W' : World) (sp : Nat → Bool), DataW.Trod enc Try.prog W' 0 sp true 30 (.agg #[.int .i64 a, .bool b, .int .i64 x]) (.agg [.lit (.int .i64 a), .lit (.bool b), .lit (.int .i64 x)]) [] := fun W' sp =>
    shut_agg3 (y0 := (.lit (.int .i64 a), [])) (y1 := (.lit (.bool b), [])) (y2 := (.lit (.int .i64 x), [])) Try.underlying30 (by kernel_rfl) cS2 ⟨1, by simp [DataW.trod, Try.underlying3, w20]⟩ ⟨1, by simp [DataW.trod, Try.underlying4]⟩ ⟨1, by simp [DataW.trod, Try.underlying3, w22]⟩
  clear hA0 hval0
  simp only [List.append_nil, List.nil_append] at hW'
  refine (access_law v0 v1 l l2 a b x W n0 n1).mono fun e W' ⟨he, bel⟩ => ?_
  subst he
  exact ⟨_, rfl, _, _, _, [], (p0 ++ (p1 ++ ([] ++ []))), [], hW', (trodAll_cons_mk (shut_bool Try.underlying4 _) trodAll_mk0), (trodAll_cons_mk (Below.trod laidOut (by kernel_rfl) (of_decide_eq_true (by kernel_rfl)) h0 bel (fun x hx => hlt x (by simp [hx]))) (trodAll_cons_mk (Below.trod laidOut (by kernel_rfl) (of_decide_eq_true (by kernel_rfl)) h1 bel (fun x hx => hlt x (by simp [hx]))) (trodAll_cons_mk (structReads2 _ _) trodAll_mk0))), rfl, bel.frame _, fun h => by cases h⟩

theorem MemoryAccess_over : Rows.memoryAccessRow.holds Try.pinned (OpenSpec.ofChange Rows.memoryAccessSpec) :=
  OpenClaim.holds_of_wide 4 Try.f4 rfl rfl rfl rfl rfl rfl rfl ⟨rfl, rfl, rfl, rfl, rfl⟩ rfl rfl rfl rfl rfl (by kernel_rfl) Try.func4 (by kernel_rfl)
    (of_decide_eq_true (by kernel_rfl)) (by unfold Func.isWrapper; first | (rw [if_pos (by decide +kernel)]; kernel_rfl) | (rw [if_neg (by decide +kernel)]; exact ⟨rfl, rfl⟩))
    (fun os started H enc _ => MemoryAccess_lifted os started H enc)

/-- THE STATEMENT. -/
theorem MemoryAccess_holds : Rows.MemoryAccessSaid :=
  MemoryAccess_over
#print axioms MemoryAccess_holds
end Go.Proofs.Ytjjmgmnhcccjgaa
