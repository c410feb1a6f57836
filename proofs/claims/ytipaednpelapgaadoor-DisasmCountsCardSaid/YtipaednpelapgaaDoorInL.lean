/-
  Walk over Encode of package inst. Condition: the tables read as the program's text lays them.
-/
import Derived.Test.YtipaednpelapgaaDoorInK
namespace Go.Proofs.YtipaednpelapgaaDoor
open Go.RowKit
set_option linter.unusedSimpArgs false
set_option linter.unusedVariables false
set_option maxHeartbeats 40000000
set_option maxRecDepth 100000
attribute [local irreducible] wpQuiet

theorem St.grown {A : Addr} {c : Nat} {bs : List (Nat × List Value)} {w0 w w' : World} {N : Nat} {row : Option Nat} (h : St A c bs w0 w) (hg : w.grownBy w' row) (hlt : ∀ e ∈ bs, e.1 < N) (hk : ∀ k, row = some k → N ≤ k) (hlow : w0.heap.size ≤ N) : St A c bs w0 w' := {
  bx := fun e he => by
    have hb := h.bx e he
    have hl := hlt e he
    have hbl : w'.heap[e.1]? = w.heap[e.1]? := hg.block e.1 hb.lt (fun hh => by have := hk _ hh.symm; omega)
    exact ⟨fun k v hv => (World.cell?_of_block (w := w) (a := ⟨e.1, k, none⟩) hbl).trans (hb.c k v hv), fun k => (World.frozen?_of_block (w := w) (a := ⟨e.1, k, none⟩) hbl).trans (hb.fz k), Nat.lt_of_lt_of_le hb.lt hg.size⟩
  frm0 := h.frm0
  below := h.below.grown hg h.below.size (fun k hh => Nat.le_trans hlow (hk k hh)) }
theorem St.alloc {A : Addr} {c : Nat} {bs : List (Nat × List Value)} {w0 w : World} (h : St A c bs w0 w) (o : Obj) : St A c bs w0 (w.alloc o) := h.step ((Below.refl _ _).alloc (Nat.le_refl _) o)
theorem le_alloc {N : Nat} {w : World} (h : N ≤ w.heap.size) (o : Obj) : N ≤ (w.alloc o).heap.size := Nat.le_trans h (by simp)
theorem size_alloc (w : World) (o : Obj) : (w.alloc o).heap.size = w.heap.size + 1 := by simp

theorem St.putTwo {A : Addr} {c : Nat} {bs : List (Nat × List Value)} {w0 w : World} (h : St A c bs w0 w) (l1 l2 : List Value) (t1 t2 : TypeId) : St A c ((w.heap.size + 1, l2) :: (w.heap.size, l1) :: bs) w0 ((w.alloc (.cells l1.toArray t1)).alloc (.cells l2.toArray t2)) := by
  have k := (h.put l1 t1).put l2 t2
  rw [size_alloc] at k
  exact k

end Go.Proofs.YtipaednpelapgaaDoor
