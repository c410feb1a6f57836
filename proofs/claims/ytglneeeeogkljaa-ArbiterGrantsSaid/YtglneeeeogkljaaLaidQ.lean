/-
  Slices of requests among the arguments, opened. No condition.
-/
import Derived.Test.YtglneeeeogkljaaRows
import Derived.Test.YtglneeeeogkljaaArC
import Derived.ProofKit
import Derived.LaidMore
import Derived.OpenShut
import Derived.Carry
import Derived.ChangeSame
import Derived.ChangeSlices
import Derived.Deep.SlicePairs
namespace Go.Proofs.Ytglneeeeogkljaa
open Go.ChangeShapes Go.WideShapes Go.ChangeAt Go.RowKit Go.Deep

theorem laidOut : laidOutB Try.prog = true := by kernel_rfl
def asInt : Value → Int
  | .int _ z => z
  | _ => 0
theorem flat_at {l : List Rq} {j : Nat} {u : Value} (h : (flat l)[j]? = some u) : ∃ i q, l[i]? = some q ∧ ((j = i * 2 ∧ u = .int .i64 q.1) ∨ (j = i * 2 + 1 ∧ u = .int .i64 q.2)) := by
  have hj : j < (flat l).length := (List.getElem?_eq_some_iff.1 h).1
  rw [flat_length] at hj
  have hi : j / 2 < l.length := by omega
  have hq := List.getElem?_eq_getElem hi
  refine ⟨j / 2, l[j / 2], hq, ?_⟩
  have g0 := flat_get hq 0 _ rfl
  have g1 := flat_get hq 1 _ rfl
  rcases (by omega : j = j / 2 * 2 ∨ j = j / 2 * 2 + 1) with e | e
  · refine .inl ⟨e, ?_⟩
    rw [Nat.add_zero, ← e, h] at g0
    exact Option.some.inj g0
  · refine .inr ⟨e, ?_⟩
    rw [← e, h] at g1
    exact Option.some.inj g1
theorem open_reqs {H : Type} {enc : TypeId × Value → H} {W : World} {r : Reach} {b0 : Nat} {v : Value} {d : DataW H} {p : List MemPlace}
    (hv : Value.okWide Try.prog W r b0 26 v) (h : DataW.Trod enc Try.prog W 0 (fun _ => true) true 26 v d p) : ∃ l : List Rq, Rqs W v l := by
  obtain ⟨a0, len0, cap0, rfl⟩ := okWide_slice Try.underlying26 hv
  obtain ⟨fuel, hf⟩ := h
  rcases open_slice_pairs Try.underlying26 Try.underlying23 (by kernel_rfl) rfl rfl (by kernel_rfl) (by kernel_rfl) hf with ⟨hcs, _⟩ | ⟨a, len, cap, m, n, V0, V1, D0, D1, P0, P1, hcs, _, hl, _, hm, _, hx⟩
  · simp [Value.cells] at hcs
    obtain ⟨rfl, rfl, rfl⟩ := hcs
    exact ⟨[], ⟨none, 0, rfl, Nat.le_refl _, fun j x hx => by simp [flat] at hx⟩⟩
  · simp [Value.cells] at hcs
    obtain ⟨rfl, rfl, rfl⟩ := hcs
    have hmc : m = cap0 := by simpa using hm
    subst hmc
    have hq : ∀ i, i < m → V0 i = .int .i64 (asInt (V0 i)) ∧ V1 i = .int .i64 (asInt (V1 i)) := by
      intro i hi
      obtain ⟨_, _, t0, t1⟩ := hx i hi
      obtain ⟨z0, e0, _, _⟩ := DataW.trod_int Try.underlying3 t0
      obtain ⟨z1, e1, _, _⟩ := DataW.trod_int Try.underlying3 t1
      simp at e0 e1
      rw [e0, e1]
      exact ⟨rfl, rfl⟩
    have hlen : ((List.range len0).map fun i => (asInt (V0 i), asInt (V1 i))).length = len0 := by simp
    refine ⟨(List.range len0).map fun i => (asInt (V0 i), asInt (V1 i)), ⟨some a, m, by rw [hlen], by rw [hlen]; exact hl, fun j u hu => ⟨a, rfl, ?_⟩⟩⟩
    obtain ⟨i, q, hi, hju⟩ := flat_at hu
    have hil : i < len0 := by rw [← hlen]; exact (List.getElem?_eq_some_iff.1 hi).1
    have hqi : q = (asInt (V0 i), asInt (V1 i)) := by
      rw [List.getElem?_map, List.getElem?_range hil] at hi
      exact (Option.some.inj hi).symm
    subst hqi
    obtain ⟨c0, c1, _, _⟩ := hx i (by omega)
    obtain ⟨e0, e1⟩ := hq i (by omega)
    have hc : W.cell? (a.add j) = some u := by
      rcases hju with ⟨rfl, rfl⟩ | ⟨rfl, rfl⟩
      · rw [c0]; exact congrArg some e0
      · rw [c1]; exact congrArg some e1
    exact ⟨hc, World.block_lt_of_cell? W _ hc⟩
end Go.Proofs.Ytglneeeeogkljaa
