/-
  Walks over the statements WordSums and WordRotates: each returns true, and what lay in memory stays. Condition: the table of widths holds its four numbers.
-/
import Derived.Test.YtlcngnnlimhjmaaDoorLawA
import Derived.Test.YtlcngnnlimhjmaaDoorRefF
namespace Go.Proofs.YtlcngnnlimhjmaaDoor
open Go.RowKit
set_option maxRecDepth 100000

theorem box4_new (w : World) (a b c : Int) (y : Bool) :
    (w.alloc (.cells #[.int .i64 a, .int .i64 b, .int .i64 c, .bool y] 27)).cell? ⟨w.heap.size, 0, none⟩ = some (.int .i64 a) ∧
    (w.alloc (.cells #[.int .i64 a, .int .i64 b, .int .i64 c, .bool y] 27)).cell? ⟨w.heap.size, 1, none⟩ = some (.int .i64 b) ∧
    (w.alloc (.cells #[.int .i64 a, .int .i64 b, .int .i64 c, .bool y] 27)).cell? ⟨w.heap.size, 2, none⟩ = some (.int .i64 c) ∧
    (w.alloc (.cells #[.int .i64 a, .int .i64 b, .int .i64 c, .bool y] 27)).cell? ⟨w.heap.size, 3, none⟩ = some (.bool y) ∧
    w.heap.size < (w.alloc (.cells #[.int .i64 a, .int .i64 b, .int .i64 c, .bool y] 27)).heap.size :=
  ⟨by simp, by simp, by simp, by simp, by simp⟩

theorem box4_step {n : Nat} {v0 v1 v2 v3 : Value} {w1 w2 : World} (h : w1.cell? ⟨n, 0, none⟩ = some v0 ∧ w1.cell? ⟨n, 1, none⟩ = some v1 ∧ w1.cell? ⟨n, 2, none⟩ = some v2 ∧ w1.cell? ⟨n, 3, none⟩ = some v3 ∧ n < w1.heap.size)
    (hb : Below w1.heap.size w1 w2) : w2.cell? ⟨n, 0, none⟩ = some v0 ∧ w2.cell? ⟨n, 1, none⟩ = some v1 ∧ w2.cell? ⟨n, 2, none⟩ = some v2 ∧ w2.cell? ⟨n, 3, none⟩ = some v3 ∧ n < w2.heap.size := by
  obtain ⟨h0, h1, h2, h3, h4⟩ := h
  exact ⟨by rw [hb.cell (by exact h4)]; exact h0, by rw [hb.cell (by exact h4)]; exact h1, by rw [hb.cell (by exact h4)]; exact h2, by rw [hb.cell (by exact h4)]; exact h3, Nat.lt_of_lt_of_le h4 hb.size⟩

set_option maxHeartbeats 2000000 in
theorem WordSums_walk (a b c : Int) (y : Bool) (w : World) (W : Wid w) :
    Calls Tryd.prog 4 #[.agg #[.int .i64 a, .int .i64 b, .int .i64 c, .bool y]] w fun e w' => e = .returned (.bool true) ∧ Below w.heap.size w w' := by
  go_enter Tryd.func4, Tryd.ntmps4
  go_wp2_with fail
  have hS := box4_new w a b c y
  have W := W.below ((Below.refl w.heap.size w).alloc (Nat.le_refl _) (.cells #[.int .i64 a, .int .i64 b, .int .i64 c, .bool y] 27))
  have hB := (Below.refl w.heap.size w).alloc (Nat.le_refl _) (.cells #[.int .i64 a, .int .i64 b, .int .i64 c, .bool y] 27)
  generalize w.alloc (.cells #[.int .i64 a, .int .i64 b, .int .i64 c, .bool y] 27) = w2 at hS W hB ⊢
  have c0 := hS.1
  have c1 := hS.2.1
  have c2 := hS.2.2.1
  have c3 := hS.2.2.2.1
  go_wp2_with (first | (go_at_call 18; refine (Add_any _ _ _ _ _ W).mono ?_; rintro e w' ⟨rfl, hb⟩; have W := W.below hb; have hB := hB.trans (hb.mono hB.size); have hS := box4_step hS hb; have c0 := hS.1; have c1 := hS.2.1; have c2 := hS.2.2.1; have c3 := hS.2.2.2.1; clear hb) | (go_at_call 19; refine (rAdd_any _ _ _ _ _).mono ?_; rintro e w' ⟨rfl, rfl⟩) | (go_at_call 20; refine (Sub_any _ _ _ _ _ W).mono ?_; rintro e w' ⟨rfl, hb⟩; have W := W.below hb; have hB := hB.trans (hb.mono hB.size); have hS := box4_step hS hb; have c0 := hS.1; have c1 := hS.2.1; have c2 := hS.2.2.1; have c3 := hS.2.2.2.1; clear hb) | (go_at_call 21; refine (rSub_any _ _ _ _ _).mono ?_; rintro e w' ⟨rfl, rfl⟩) | (go_at_call 17; refine (alive_any _ W).mono ?_; rintro e w' ⟨rfl, hb⟩; have hB := hB.trans (hb.mono hB.size); clear hb))
  go_ret
  exact ⟨rfl, hB⟩

set_option maxHeartbeats 2000000 in
theorem WordRotates_walk (a b c : Int) (y l : Bool) (w : World) (W : Wid w) :
    Calls Tryd.prog 7 #[.agg #[.int .i64 a, .int .i64 b, .int .i64 c, .bool y], .bool l] w fun e w' => e = .returned (.bool true) ∧ Below w.heap.size w w' := by
  go_enter Tryd.func7, Tryd.ntmps7
  go_wp2_with fail
  have hS := box4_new w a b c y
  have W := W.below ((Below.refl w.heap.size w).alloc (Nat.le_refl _) (.cells #[.int .i64 a, .int .i64 b, .int .i64 c, .bool y] 27))
  have hB := (Below.refl w.heap.size w).alloc (Nat.le_refl _) (.cells #[.int .i64 a, .int .i64 b, .int .i64 c, .bool y] 27)
  generalize w.alloc (.cells #[.int .i64 a, .int .i64 b, .int .i64 c, .bool y] 27) = w2 at hS W hB ⊢
  have c0 := hS.1
  have c1 := hS.2.1
  have c2 := hS.2.2.1
  have c3 := hS.2.2.2.1
  go_wp2_with (first | (go_at_call 28; refine (Rotate_any _ _ _ _ _ W).mono ?_; rintro e w' ⟨rfl, hb⟩; have W := W.below hb; have hB := hB.trans (hb.mono hB.size); have hS := box4_step hS hb; have c0 := hS.1; have c1 := hS.2.1; have c2 := hS.2.2.1; have c3 := hS.2.2.2.1; clear hb) | (go_at_call 29; refine (rRotate_any _ _ _ _ _).mono ?_; rintro e w' ⟨rfl, rfl⟩) | (go_at_call 17; refine (alive_any _ W).mono ?_; rintro e w' ⟨rfl, hb⟩; have hB := hB.trans (hb.mono hB.size); clear hb))
  go_ret
  exact ⟨rfl, hB⟩

end Go.Proofs.YtlcngnnlimhjmaaDoor
