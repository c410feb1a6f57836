/-
  Rows of integers that a call made: copied; a byte set in it; a memory of zeros. Condition: lists have at most 2^40 elements; a byte is set in a list of words.
-/
import Derived.Test.YtjjmgmnhcccjgaaMeD
import Derived.Test.YtjjmgmnhcccjgaaLast
import Derived.Laws.CopyOwn
import Derived.Laws.OwnMore
import Derived.Deep.Onto
namespace Go.Proofs.Ytjjmgmnhcccjgaa
open Go.RowKit
set_option linter.unusedSimpArgs false
set_option linter.unusedVariables false
set_option maxHeartbeats 1000000
attribute [local irreducible] wpQuiet

theorem info64 : (Try.prog.info? 3).map (fun i => (i.zero, i.size, i.bytes)) = some (some (.int .i64 0), 1, 8) := by kernel_rfl

/-- A row of the call's own, from block B on, that reads as l. -/
def Own (B : Nat) (w : World) (v : Value) (l : List Int) : Prop := w.ownsRow B 3 1 v l.length (l.map (Value.int .i64))
theorem Own.nums {B : Nat} {w : World} {v : Value} {l : List Int} (h : Own B w v l) : Nums .i64 w v l := Nums.of_own h
theorem Own.step {B : Nat} {w w' : World} {v : Value} {l : List Int} (h : Own B w v l) (hb : Below w.heap.size w w') : Own B w' v l := own_step h hb
theorem Own.nil (B : Nat) (w : World) : Own B w (.slice none 0 0) [] := World.ownsRow_nil _ _ _ _
theorem Own.form {B : Nat} {w : World} {v : Value} {l : List Int} (h : Own B w v l) (hl : 0 < l.length) : ∃ g cap, v = .slice (some ⟨g, 0, none⟩) l.length cap ∧ B ≤ g ∧ l.length ≤ cap ∧ g < w.heap.size := by
  rcases h.2 with ⟨_, h0⟩ | ⟨g, cap, cur, hv, hb, hh, hc, _⟩
  · omega
  · refine ⟨g, cap, hv, hb, hc, ?_⟩
    rcases Nat.lt_or_ge g w.heap.size with k | k
    · exact k
    · rw [Array.getElem?_eq_none k] at hh; cases hh
theorem Own.cell {B g cap : Nat} {w : World} {l : List Int} (h : Own B w (.slice (some ⟨g, 0, none⟩) l.length cap) l) {j : Nat} {x : Int} (hx : l[j]? = some x) : w.cell? ⟨g, j, none⟩ = some (.int .i64 x) := by
  have hj : j < l.length := (List.getElem?_eq_some_iff.1 hx).1
  rw [World.ownsRow.cellAt h j (by omega), List.getElem?_map, hx]; rfl
theorem Own.frozen {B g cap : Nat} {w : World} {l : List Int} (h : Own B w (.slice (some ⟨g, 0, none⟩) l.length cap) l) (j : Nat) : w.frozen? ⟨g, j, none⟩ = false := World.ownsRow.frozenAt h j
theorem Own.set {B g cap : Nat} {w : World} {l : List Int} (h : Own B w (.slice (some ⟨g, 0, none⟩) l.length cap) l) (j : Nat) (x : Int) : Own B (w.setCell ⟨g, j, none⟩ (.int .i64 x)) (.slice (some ⟨g, 0, none⟩) l.length cap) (l.set j x) := by
  unfold Own
  rw [List.length_set, List.map_set]
  exact (World.ownsRow.stored h j _).1
theorem Own.drew {B : Nat} {w : World} {v : Value} {l : List Int} (h : Own B w v l) : Own B w.drew v l := h
theorem Own.drewN {B : Nat} {w : World} {v : Value} {l : List Int} (h : Own B w v l) (n : Nat) : Own B (w.drewN n) v l := h
theorem own_row {B g : Nat} {w : World} {l : List Int} {X : List Value} (hX : X = l.map (Value.int .i64)) (h : w.heap[g]? = some (.cells X.toArray 3 (0, 0))) (hb : B ≤ g) (hl : l.length ≤ 1099511627776) : Own B w (.slice (some ⟨g, 0, none⟩) l.length l.length) l := by
  subst hX
  exact ⟨by simp, .inr ⟨g, l.length, _, rfl, hb, h, Nat.le_refl _, by unfold maxLen; omega, by simp, by rw [List.take_of_length_le (by simp)]⟩⟩
theorem row_made (w : World) (n : Nat) : (w.alloc (.cells (madeCells #[.int .i64 0] n) 3)).heap[w.heap.size]? = some (.cells (List.replicate n (Value.int .i64 0)).toArray 3 (0, 0)) := by
  rw [heap_alloc_new]
  rw [← toList_madeCells_one]
theorem splice_all {n : Nat} {z : Value} {X : List Value} (h : X.length = n) : splice (List.replicate n z) 0 X = X := by
  simp [splice, h]
theorem one_ints (l : List Int) : ∀ v ∈ l.map (Value.int .i64), v.oneCell' = true := by
  intro v hv
  obtain ⟨x, _, rfl⟩ := List.mem_map.1 hv
  rfl
theorem nums_cells {w : World} {A : Option Addr} {k c : Nat} {l : List Int} (hc : ∀ j x, l[j]? = some x → ∃ a : Addr, A = some a ∧ w.cell? (a.add j) = some (.int .i64 x) ∧ (a.add j).block < w.heap.size) {w' : World} (hb : Below w.heap.size w w')
    {X : List Value} (hX : X = l.map (Value.int .i64)) : ∀ j v, X[j]? = some v → ∃ a : Addr, A = some a ∧ w'.cell? (a.add j) = some v := by
  subst hX
  intro j v hv
  rw [List.getElem?_map] at hv
  cases hx : l[j]? with
  | none => rw [hx] at hv; cases hv
  | some x =>
    rw [hx] at hv
    obtain ⟨a, ha, h1, h2⟩ := hc j x hx
    have hvx : Value.int .i64 x = v := Option.some.inj hv
    exact ⟨a, ha, by rw [← hvx]; exact (hb.cell h2).trans h1⟩

theorem copied_any (v : Value) (l : List Int) (hl : l.length ≤ 1099511627776) (w : World) (hv : Nums .i64 w v l) :
    Calls Try.prog 39 #[v] w fun e w' => ∃ r, e = .returned r ∧ Own w.heap.size w' r l ∧ Below w.heap.size w w' := by
  obtain ⟨A, c, rfl, hlc, hc⟩ := hv
  have hmk := run_make_row' (P := Try.prog) 22 3 (.int .i64 0) 8 Try.underlying22 info64 rfl .i64 .i64 l.length (by omega) (by omega)
  have hB : Below w.heap.size w (w.alloc (.cells (madeCells #[.int .i64 0] l.length) 3)) := (Below.refl _ _).alloc (Nat.le_refl _) _
  obtain ⟨X, hX⟩ : ∃ X, X = l.map (Value.int .i64) := ⟨_, rfl⟩
  have hcells := nums_cells (k := 0) (c := c) hc hB hX
  have hXl : X.length = l.length := by rw [hX, List.length_map]
  have hX1 : ∀ v ∈ X, v.oneCell' = true := by rw [hX]; exact one_ints l
  have hpos : 0 < X.length → (some (⟨w.heap.size, 0, none⟩ : Addr)) = some ⟨w.heap.size, 0, none⟩ ∧ ∃ ad, A = some ad ∧ ∀ j v, X[j]? = some v → (w.alloc (.cells (madeCells #[.int .i64 0] l.length) 3)).cell? (ad.add j) = some v := by
    intro h0
    obtain ⟨ad, had, _⟩ := hcells 0 X[0] (List.getElem?_eq_getElem h0)
    refine ⟨rfl, ad, had, fun j v hv => ?_⟩
    obtain ⟨a2, ha2, h⟩ := hcells j v hv
    rw [had] at ha2
    rw [Option.some.inj ha2]; exact h
  have hX := hid hX
  clear hc hcells
  go_enter Try.func39, Try.ntmps39
  go_wp2_with (with_reducible refine wpList_copy_splice rfl (.tmp 7) (.tmp 8) 22 22 rfl 3 Try.underlying22 (by kernel_rfl) (some ⟨w.heap.size, 0, none⟩) A l.length l.length l.length c rfl rfl w.heap.size 0 (List.replicate l.length (.int .i64 0)) 3 (row_made _ _) X (by rw [hXl]; exact (Nat.min_self _).symm) hpos (by rw [List.length_replicate]; omega) hX1 w.heap.size w hB (Nat.le_refl _) ?_; intro w2 HG HB)
  go_ret
  refine ⟨_, rfl, own_row hX ?_ (Nat.le_refl _) hl, HB⟩
  have h := HG
  unfold Hid RowKit.Hid at h
  rw [splice_all hXl] at h
  exact h
end Go.Proofs.Ytjjmgmnhcccjgaa
