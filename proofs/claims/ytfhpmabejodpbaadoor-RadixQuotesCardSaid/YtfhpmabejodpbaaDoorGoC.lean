/-
  Walks over strconv.FormatInt at the bases 8 and 16 and over Format of package radix. Condition: the two tables of the library hold what their initialisers lay.
-/
import Derived.Test.YtfhpmabejodpbaaDoorGoA
import Derived.Test.YtfhpmabejodpbaaDoorShelf
import Derived.Laws.BytesString
namespace Go.Proofs.YtfhpmabejodpbaaDoor
open Go.RowKit
set_option linter.unusedSimpArgs false

/-- The tables of the library that are read. -/
structure Tabs (w : World) : Prop where
  size : 4 ≤ w.heap.size
  c7 : w.cell? ⟨3, 7, none⟩ = some (.int .u8 3)
  c15 : w.cell? ⟨3, 15, none⟩ = some (.int .u8 4)
  pow : Lib.TabIs Tryd.prog w "internal/strconv.uint64pow10" .u64 Lib.pow10Tab

theorem tab_below {w w' : World} {zs : List Int} (h : Lib.TabIs Tryd.prog w "internal/strconv.uint64pow10" .u64 zs) (hb : Below w.heap.size w w') : Lib.TabIs Tryd.prog w' "internal/strconv.uint64pow10" .u64 zs := by
  have hgn : Tryd.prog.globalNamed "internal/strconv.uint64pow10" = some 0 := by kernel_rfl
  unfold Lib.TabIs World.var? at h ⊢
  rw [hgn] at h ⊢
  simp only [Option.bind_some] at h ⊢
  have hlt : 0 < w.heap.size := by
    rcases Nat.lt_or_ge 0 w.heap.size with h' | h'
    · exact h'
    · rw [Array.getElem?_eq_none h'] at h; cases h
  rw [hb.block _ hlt]
  exact h
theorem Tabs.below {w w' : World} (W : Tabs w) (h : Below w.heap.size w w') : Tabs w' :=
  ⟨Nat.le_trans W.size h.size, by rw [h.cell (by have := W.size; show 3 < _; omega)]; exact W.c7, by rw [h.cell (by have := W.size; show 3 < _; omega)]; exact W.c15, tab_below W.pow h⟩
theorem below_grow (w : World) (k : Nat) (os : Array Obj) : Below w.heap.size w (Sort.grow (w.drewN k) os) :=
  ⟨rfl, rfl, rfl, by show w.heap.size ≤ (w.heap ++ os).size; rw [Array.size_append]; omega, fun _ hj => Sort.heap_grow_old (w.drewN k) os hj⟩

end Go.Proofs.YtfhpmabejodpbaaDoor
