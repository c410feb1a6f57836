/-
  Slices of elements of any number of cells: what they read as, their elements, what append leaves. General. No condition.
-/
import Derived.Test.YtlegcfjafdihlaaGreatDoorNums
import Derived.Test.YtlegcfjafdihlaaGreatDoorCelm
import Derived.Deep.Slices
namespace Go.Proofs.YtlegcfjafdihlaaGreatDoor
open Go.RowKit
set_option linter.unusedSimpArgs false
set_option linter.unusedVariables false

theorem addr_add (a : Addr) (i j : Nat) : (a.add i).add j = a.add (i + j) := Go.Deep.add_add a i j
/-- A slice of n elements whose cells are cs. -/
def Rw (w : World) (v : Value) (n : Nat) (cs : List Value) : Prop :=
  ∃ A c, v = .slice A n c ∧ n ≤ c ∧ ∀ j u, cs[j]? = some u → ∃ a : Addr, A = some a ∧ w.cell? (a.add j) = some u ∧ (a.add j).block < w.heap.size
theorem Rw.below {w w' : World} {v : Value} {n : Nat} {cs : List Value} (h : Rw w v n cs) (hb : Below w.heap.size w w') : Rw w' v n cs := by
  obtain ⟨A, c, hv, hk, hc⟩ := h
  refine ⟨A, c, hv, hk, fun j x hx => ?_⟩
  obtain ⟨a, ha, h1, h2⟩ := hc j x hx
  exact ⟨a, ha, (hb.cell h2).trans h1, Nat.lt_of_lt_of_le h2 hb.size⟩
theorem Rw.drew {w : World} {v : Value} {n : Nat} {cs : List Value} (h : Rw w v n cs) : Rw w.drew v n cs := h.below (Below.refl _ _).drew
theorem Rw.alloc {w : World} {v : Value} {n : Nat} {cs : List Value} (h : Rw w v n cs) (o : Obj) : Rw (w.alloc o) v n cs := h.below ((Below.refl _ _).alloc (Nat.le_refl _) o)
theorem Rw.nil (w : World) : Rw w (.slice none 0 0) 0 [] := ⟨none, 0, rfl, Nat.le_refl _, fun j x hx => by simp at hx⟩
theorem Rw.of_own {w : World} {base s n : Nat} {t : TypeId} {v : Value} {xs : List Value} (h : w.ownsRow base t s v n xs) : Rw w v n xs := by
  have hl := h.1
  rcases h.2 with ⟨rfl, h0⟩ | ⟨g, cap, cur, rfl, hb, hh, hnc, _, hcs, _⟩
  · have : xs = [] := List.eq_nil_of_length_eq_zero (by rw [hl, h0, Nat.zero_mul])
    subst this
    subst h0
    exact Rw.nil w
  · refine ⟨_, cap, rfl, hnc, fun j x hx => ⟨_, rfl, ?_⟩⟩
    have hj : j < xs.length := (List.getElem?_eq_some_iff.1 hx).1
    have e1 : (⟨g, 0, none⟩ : Addr).add j = ⟨g, j, none⟩ := by unfold Addr.add; split <;> simp_all
    have hc := h.cellAt j (by omega)
    rw [e1, hc, hx]
    refine ⟨rfl, ?_⟩
    show g < w.heap.size
    rcases Nat.lt_or_ge g w.heap.size with h' | h'
    · exact h'
    · rw [Array.getElem?_eq_none h'] at hh; cases hh
/-- An element is loaded. -/
theorem Rw.loadAt {P : Program} {T : TypeId} {w : World} {a : Addr} {n c k s : Nat} {cs ds : List Value} (h : Rw w (.slice (some a) n c) n cs) (hd : ∀ j v, ds[j]? = some v → cs[k * s + j]? = some v) (hn : ds.length = s) (hagg : ∀ w, (isAgg T).run P w = .ok true w) (hsz : ∀ w, (sizeOf T).run P w = .ok s w) :
    (Instr.loadAt T (.pointer (some (a.add (k * s))))).run P w = .ok (.agg ds.toArray) w := by
  obtain ⟨A, c', hv, _, hc⟩ := h
  cases hv
  have e : (loadCells (a.add (k * s)) ds.length).run P w = .ok ds.toArray w := by
    refine run_loadCells_list w _ ds (fun j v hv => ?_)
    obtain ⟨a', ha, h1, _⟩ := hc _ v (hd j v hv)
    cases ha
    rw [addr_add]; exact h1
  rw [hn] at e
  simp only [Instr.loadAt, Instr.sureAddr, Go.loadVar, Sem.run_bind, Sem.run_pure, Result.andThen_ok, hagg, hsz, e, if_true]
theorem own_base {w : World} {b b' s n : Nat} {t : TypeId} {v : Value} {xs : List Value} (h : w.ownsRow b t s v n xs) (hb : b' ≤ b) : w.ownsRow b' t s v n xs := by
  refine ⟨h.1, ?_⟩
  rcases h.2 with h0 | ⟨g, cap, cur, hv, hg, r⟩
  · exact .inl h0
  · exact .inr ⟨g, cap, cur, hv, Nat.le_trans hb hg, r⟩
/-- A row of the call's own with an element at least: where it lies. -/
theorem own_at {w : World} {b s n : Nat} {t : TypeId} {v : Value} {xs : List Value} (h : w.ownsRow b t s v n xs) (hn : 0 < n) : ∃ g cap, v = .slice (some ⟨g, 0, none⟩) n cap ∧ n ≤ cap ∧ cap ≤ maxLen ∧ b ≤ g ∧ g < w.heap.size ∧ ∀ j u, xs[j]? = some u → w.cell? ((⟨g, 0, none⟩ : Addr).add j) = some u := by
  obtain ⟨A, c, hv, hk, hc⟩ := Rw.of_own h
  rcases h.2 with ⟨_, h0⟩ | ⟨g, cap, cur, hv', hg, hh, hnc, hm, _⟩
  · omega
  · rw [hv] at hv'
    cases hv'
    refine ⟨g, c, hv, hnc, hm, hg, ?_, fun j u hu => ?_⟩
    · rcases Nat.lt_or_ge g w.heap.size with k | k
      · exact k
      · rw [Array.getElem?_eq_none k] at hh; cases hh
    · obtain ⟨a, ha, h1, _⟩ := hc j u hu
      cases ha; exact h1
end Go.Proofs.YtlegcfjafdihlaaGreatDoor
