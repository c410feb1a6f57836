/-
  A slice of structs among the arguments, opened: for any struct whose cells are known. General. No condition.
-/
import Derived.Test.YtohfniejflibmaaRow
import Derived.ProofKit
import Derived.LaidMore
import Derived.OpenShut
import Derived.Carry
import Derived.ChangeSame
import Derived.ChangeSlices
import Derived.Deep.Slices
namespace Go.Proofs.Ytohfniejflibmaa
open Go.ChangeShapes Go.WideShapes Go.ChangeAt Go.RowKit Go.Deep
set_option linter.unusedVariables false
set_option linter.unusedSimpArgs false

theorem flatMap_at {α : Type} (g : α → List Value) (s : Nat) (hs : ∀ q, (g q).length = s) : ∀ (l : List α) (j : Nat) (u : Value), (l.flatMap g)[j]? = some u → ∃ i q r, l[i]? = some q ∧ r < s ∧ j = i * s + r ∧ (g q)[r]? = some u
  | [], j, u, h => by simp at h
  | q :: l, j, u, h => by
    rw [List.flatMap_cons] at h
    rcases Nat.lt_or_ge j s with k | k
    · rw [List.getElem?_append_left (by rw [hs]; exact k)] at h
      exact ⟨0, q, j, rfl, k, by omega, h⟩
    · rw [List.getElem?_append_right (by rw [hs]; exact k), hs] at h
      obtain ⟨i, q', r, h1, h2, h3, h4⟩ := flatMap_at g s hs l (j - s) u h
      exact ⟨i + 1, q', r, by simpa using h1, h2, by rw [Nat.add_mul, Nat.one_mul]; omega, h4⟩
theorem open_rows {α : Type} {H : Type} {enc : TypeId × Value → H} {P : Program} {W : World} {r : Reach} {b0 : Nat} {t e : TypeId} {v : Value} {d : DataW H} {p : List MemPlace} (g : α → List Value) (s : Nat) (hs : ∀ q, (g q).length = s)
    (ht : P.underlying t = some (.slice e)) (hce : P.cellsOf e = s) (hG : ∀ n cs x, DataW.trod enc P W 0 (fun _ => true) true n e cs = some x → ∃ q, cs = g q)
    (hv : Value.okWide P W r b0 t v) (h : DataW.Trod enc P W 0 (fun _ => true) true t v d p) : ∃ l : List α, Rw W v l.length (l.flatMap g) := by
  obtain ⟨a0, len0, cap0, rfl⟩ := okWide_slice ht hv
  obtain ⟨fuel, hf⟩ := h
  rcases open_slice ht hf with ⟨hcs, _⟩ | ⟨a, len, cap, m, n, D, Pl, hcs, _, hl, _, hm, _, hx⟩
  · simp [Value.cells] at hcs
    obtain ⟨rfl, rfl, rfl⟩ := hcs
    exact ⟨[], ⟨none, 0, rfl, Nat.le_refl _, fun j x hx => by simp at hx⟩⟩
  · simp [Value.cells] at hcs
    obtain ⟨rfl, rfl, rfl⟩ := hcs
    have hmc : m = cap0 := by simpa using hm
    subst hmc
    rw [hce] at hx
    have hq : ∀ i : Fin len0, ∃ q, W.cells? 0 (a.add (i.1 * s)) s = some (g q) := fun i => by
      obtain ⟨cs', h1, h2⟩ := hx i.1 (by have := i.2; omega)
      obtain ⟨q, rfl⟩ := hG _ _ _ h2
      exact ⟨q, h1⟩
    refine ⟨(List.finRange len0).map fun i => (hq i).choose, ⟨some a, m, by simp, by simpa using hl, fun j u hu => ⟨a, rfl, ?_⟩⟩⟩
    obtain ⟨i, q, r', hi, hr, rfl, hju⟩ := flatMap_at g s hs _ j u hu
    rw [List.getElem?_map] at hi
    have hil : i < len0 := by
      rcases Nat.lt_or_ge i len0 with k | k
      · exact k
      · rw [List.getElem?_eq_none (by simpa using k)] at hi; cases hi
    rw [List.getElem?_eq_getElem (by simpa using hil)] at hi
    have hqi : q = (hq ⟨i, hil⟩).choose := by simpa using (Option.some.inj hi).symm
    have hc := (hq ⟨i, hil⟩).choose_spec
    rw [← hqi] at hc
    obtain ⟨_, hcl, hat⟩ := World.cells?_some hc
    have h3 := hat r' hr
    rw [addr_add, hju] at h3
    exact ⟨h3, World.block_lt_of_cell? W _ h3⟩
end Go.Proofs.Ytohfniejflibmaa
