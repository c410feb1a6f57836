/-
  A slice of any elements among the arguments, or in a field of a struct among them, opened; without memory only if it is nil. General. No condition.
-/
import Derived.Test.YtohfniejflibmaaOpenRow
namespace Go.Proofs.Ytohfniejflibmaa
open Go.ChangeShapes Go.WideShapes Go.ChangeAt Go.RowKit Go.Deep
set_option linter.unusedVariables false
set_option linter.unusedSimpArgs false

theorem open_rowsC {α : Type} {H : Type} {enc : TypeId × Value → H} {P : Program} {W : World} {t e : TypeId} {cs : List Value} {fuel : Nat} {x : DataW H × List MemPlace} (g : α → List Value) (s : Nat) (hs : ∀ q, (g q).length = s)
    (ht : P.underlying t = some (.slice e)) (hce : P.cellsOf e = s) (hG : ∀ n cs x, DataW.trod enc P W 0 (fun _ => true) true n e cs = some x → ∃ q, cs = g q)
    (hf : DataW.trod enc P W 0 (fun _ => true) true fuel t cs = some x) : ∃ (l : List α) (v : Value), cs = [v] ∧ Rw W v l.length (l.flatMap g) ∧ ∀ m c, v = .slice none m c → c = 0 := by
  rcases open_slice ht hf with ⟨rfl, _⟩ | ⟨a, len0, cap0, m, n, D, Pl, rfl, _, hl, _, hm, _, hx⟩
  · exact ⟨[], _, rfl, ⟨none, 0, rfl, Nat.le_refl _, fun j x hx => by simp at hx⟩, fun m c h => by cases h; rfl⟩
  · have hmc : m = cap0 := by simpa using hm
    subst hmc
    rw [hce] at hx
    have hq : ∀ i : Fin len0, ∃ q, W.cells? 0 (a.add (i.1 * s)) s = some (g q) := fun i => by
      obtain ⟨cs', h1, h2⟩ := hx i.1 (by have := i.2; omega)
      obtain ⟨q, rfl⟩ := hG _ _ _ h2
      exact ⟨q, h1⟩
    refine ⟨(List.finRange len0).map fun i => (hq i).choose, _, rfl, ⟨some a, m, by simp, by simpa using hl, fun j u hu => ⟨a, rfl, ?_⟩⟩, fun m c h => by cases h⟩
    obtain ⟨i, q, r', hi, hr, rfl, hju⟩ := flatMap_at g s hs _ j u hu
    rw [List.getElem?_map] at hi
    have hil : i < len0 := by
      rcases Nat.lt_or_ge i len0 with k | k
      · exact k
      · rw [List.getElem?_eq_none (by simpa using k)] at hi; cases hi
    rw [List.getElem?_eq_getElem (by simpa using hil)] at hi
    have hqi : q = (hq ⟨i, hil⟩).choose := by simpa using (Option.some.inj hi).symm
    have hc := (hq ⟨i, hil⟩).choose_spec
    rw [← hqi] at hc
    obtain ⟨_, hcl, hat⟩ := World.cells?_some hc
    have h3 := hat r' hr
    rw [addr_add, hju] at h3
    exact ⟨h3, World.block_lt_of_cell? W _ h3⟩
theorem open_rowsZ {α : Type} {H : Type} {enc : TypeId × Value → H} {P : Program} {W : World} {r : Reach} {b0 : Nat} {t e : TypeId} {v : Value} {d : DataW H} {p : List MemPlace} (g : α → List Value) (s : Nat) (hs : ∀ q, (g q).length = s)
    (ht : P.underlying t = some (.slice e)) (hce : P.cellsOf e = s) (hG : ∀ n cs x, DataW.trod enc P W 0 (fun _ => true) true n e cs = some x → ∃ q, cs = g q)
    (hv : Value.okWide P W r b0 t v) (h : DataW.Trod enc P W 0 (fun _ => true) true t v d p) : ∃ l : List α, Rw W v l.length (l.flatMap g) ∧ ∀ m c, v = .slice none m c → c = 0 := by
  obtain ⟨a0, len0, cap0, rfl⟩ := okWide_slice ht hv
  obtain ⟨fuel, hf⟩ := h
  obtain ⟨l, v, e, h1, h2⟩ := open_rowsC g s hs ht hce hG hf
  simp [Value.cells] at e
  subst e
  exact ⟨l, h1, h2⟩
theorem flatMap_one {α β : Type} (f : α → β) (l : List α) : (l.flatMap fun q => [f q]) = l.map f := by
  induction l with
  | nil => rfl
  | cons a l ih => rw [List.flatMap_cons, ih]; rfl
end Go.Proofs.Ytohfniejflibmaa
