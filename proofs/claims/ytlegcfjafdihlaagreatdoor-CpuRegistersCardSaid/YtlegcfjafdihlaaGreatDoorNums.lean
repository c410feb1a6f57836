/-
  Slices of integers: what they read as; a row of the call's own that grows by append. No condition.
-/
import Derived.Test.YtlegcfjafdihlaaGreatDoorProg
import Derived.Test.YtlegcfjafdihlaaGreatDoorBits
import Derived.WalkKit
import Derived.Deep.OwnRows
import Derived.Maps.OwnRows
import Derived.Maps.AppendAt
import Derived.Laws.IdiomStrings
import Derived.Lib.IndexBytes
import Derived.KernelRfl
namespace Go.Proofs.YtlegcfjafdihlaaGreatDoor
open Go.RowKit
set_option linter.unusedSimpArgs false

/-- A slice of integers of kind q that reads as l. -/
def Nums (q : IntKind) (w : World) (v : Value) (l : List Int) : Prop :=
  ∃ A c, v = .slice A l.length c ∧ l.length ≤ c ∧ ∀ j x, l[j]? = some x → ∃ a : Addr, A = some a ∧ w.cell? (a.add j) = some (.int q x) ∧ (a.add j).block < w.heap.size
theorem Nums.below {q : IntKind} {w w' : World} {v : Value} {l : List Int} (h : Nums q w v l) (hb : Below w.heap.size w w') : Nums q w' v l := by
  obtain ⟨A, c, hv, hk, hc⟩ := h
  refine ⟨A, c, hv, hk, fun j x hx => ?_⟩
  obtain ⟨a, ha, h1, h2⟩ := hc j x hx
  exact ⟨a, ha, (hb.cell h2).trans h1, Nat.lt_of_lt_of_le h2 hb.size⟩
theorem Nums.drew {q : IntKind} {w : World} {v : Value} {l : List Int} (h : Nums q w v l) : Nums q w.drew v l := h.below (Below.refl _ _).drew

theorem Nums.of_own {q : IntKind} {w : World} {base n : Nat} {t : TypeId} {v : Value} {l : List Int} (h : w.ownsRow base t 1 v n (l.map (Value.int q))) : Nums q w v l := by
  have hl := h.1
  rw [List.length_map, Nat.mul_one] at hl
  subst hl
  rcases h.2 with ⟨rfl, h0⟩ | ⟨g, cap, cur, rfl, hb, hh, hnc, _, hcs, _⟩
  · have : l = [] := List.eq_nil_of_length_eq_zero h0
    subst this
    exact ⟨none, 0, rfl, Nat.le_refl _, fun j x hx => by simp at hx⟩
  · refine ⟨_, cap, rfl, hnc, fun j x hx => ⟨_, rfl, ?_⟩⟩
    have hj : j < l.length := (List.getElem?_eq_some_iff.1 hx).1
    have e1 : (⟨g, 0, none⟩ : Addr).add j = ⟨g, j, none⟩ := by unfold Addr.add; split <;> simp_all
    have hc := h.cellAt j (by omega)
    rw [e1, hc, List.getElem?_map, hx]
    refine ⟨rfl, ?_⟩
    show g < w.heap.size
    rcases Nat.lt_or_ge g w.heap.size with h' | h'
    · exact h'
    · rw [Array.getElem?_eq_none h'] at hh; cases hh
theorem Nums.nil (q : IntKind) (w : World) : Nums q w (.slice none 0 0) [] := ⟨none, 0, rfl, Nat.le_refl _, fun j x hx => by simp at hx⟩

theorem own_step {base n s : Nat} {t : TypeId} {v : Value} {xs : List Value} {w w' : World} (h : w.ownsRow base t s v n xs) (hb : Below w.heap.size w w') : w'.ownsRow base t s v n xs := by
  refine ⟨h.1, ?_⟩
  rcases h.2 with h0 | ⟨g, cap, cur, hv, hg, hh, r⟩
  · exact .inl h0
  · have hlt : g < w.heap.size := by
      rcases Nat.lt_or_ge g w.heap.size with k | k
      · exact k
      · rw [Array.getElem?_eq_none k] at hh; cases hh
    exact .inr ⟨g, cap, cur, hv, hg, (hb.block g hlt).trans hh, r⟩
theorem own_one (w : World) (t : TypeId) (x : Value) {base : Nat} (hb : base ≤ w.heap.size) : (w.alloc (.cells #[x] t)).ownsRow base t 1 (.slice (some ⟨w.heap.size, 0, none⟩) 1 1) 1 [x] :=
  ⟨rfl, .inr ⟨w.heap.size, 1, #[x], rfl, hb, by show (w.heap.push _)[w.heap.size]? = _; simp, Nat.le_refl _, by decide, rfl, rfl⟩⟩
end Go.Proofs.YtlegcfjafdihlaaGreatDoor
