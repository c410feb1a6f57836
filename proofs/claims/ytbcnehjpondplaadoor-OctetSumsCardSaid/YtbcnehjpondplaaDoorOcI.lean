/-
  The examples of the chapter: what the calls of package octet return there, and that the examples' function answers true. Condition: the table of package octet holds what its initialiser lays.
-/
import Derived.Test.YtbcnehjpondplaaDoorOcH
namespace Go.Proofs.YtbcnehjpondplaaDoor
open Go.RowKit
set_option linter.unusedSimpArgs false

theorem ev1 : getI [2, 1, 0] 0 2 = (258, 2, 0) := by decide +kernel
theorem ev2 : getI [2, 1, 0] 0 4 = (0, 0, 8) := by decide +kernel
theorem ev3 : getI [2, 1, 0] 0 8 = (0, 0, 1) := by decide +kernel
theorem ev4 : opn [97, 98, 99] = ([], 8) := by decide +kernel
theorem ev5 : opn [0, 0, 0, 0] = ([], 0) := by decide +kernel
theorem ev6 : putI 258 3 = [2, 1, 0] := by decide +kernel
theorem ev7 : ptxt [97, 98] = [2, 0, 97, 98] := by decide +kernel
theorem ev8 : pwds [65, -1] = [65, 0, 255, 255] := by decide +kernel
theorem ev9 : crc [] = 0 := by decide +kernel
theorem ev10 : crc [49, 50, 51, 52, 53, 54, 55, 56, 57] = 3421780262 := by decide +kernel

theorem lit2 (w : World) : Nums .i64 (w.alloc (.cells #[.int .i64 65, .int .i64 (-1)] 3)) (.slice (some ⟨w.heap.size, 0, none⟩) 2 2) [65, -1] := by
  refine ⟨_, 2, rfl, fun j x hx => ⟨_, rfl, ?_⟩⟩
  have hj : j < 2 := (List.getElem?_eq_some_iff.1 hx).1
  have hlt : (Addr.add ⟨w.heap.size, 0, none⟩ j).block < (w.alloc (.cells #[.int .i64 65, .int .i64 (-1)] 3)).heap.size := by
    have e1 : (⟨w.heap.size, 0, none⟩ : Addr).add j = ⟨w.heap.size, j, none⟩ := by unfold Addr.add; split <;> simp_all
    rw [e1]; simp
  refine ⟨cell_two_new w _ _ _ j _ ?_, hlt⟩
  match j, hx with
  | 0, hx => simp at hx; subst hx; rfl
  | 1, hx => simp at hx; subst hx; rfl

theorem a1 (w : World) : Calls Tryd.prog 13 #[.string ⟨#[2, 1, 0]⟩, .int .i64 0, .int .i64 2] w fun e w' => e = .returned (.tuple #[.int .i64 258, .int .i64 2, .int .i64 0]) ∧ w = w' := by
  have h := get_any ⟨#[2, 1, 0]⟩ 0 2 (by decide) w
  rw [ev1] at h; exact h
theorem a2 (w : World) : Calls Tryd.prog 13 #[.string ⟨#[2, 1, 0]⟩, .int .i64 0, .int .i64 4] w fun e w' => e = .returned (.tuple #[.int .i64 0, .int .i64 0, .int .i64 8]) ∧ w = w' := by
  have h := get_any ⟨#[2, 1, 0]⟩ 0 4 (by decide) w
  rw [ev2] at h; exact h
theorem a3 (w : World) : Calls Tryd.prog 13 #[.string ⟨#[2, 1, 0]⟩, .int .i64 0, .int .i64 8] w fun e w' => e = .returned (.tuple #[.int .i64 0, .int .i64 0, .int .i64 1]) ∧ w = w' := by
  have h := get_any ⟨#[2, 1, 0]⟩ 0 8 (by decide) w
  rw [ev3] at h; exact h
theorem a4 (w : World) (W : Tabs w) : Calls Tryd.prog 24 #[.string ⟨#[97, 98, 99]⟩] w fun e w' => e = .returned (.tuple #[.string ⟨#[]⟩, .int .i64 8]) ∧ Below w.heap.size w w' := by
  have h := open_any ⟨#[97, 98, 99]⟩ (by decide) w W
  rw [ev4] at h; exact h
theorem a5 (w : World) (W : Tabs w) : Calls Tryd.prog 24 #[.string ⟨#[0, 0, 0, 0]⟩] w fun e w' => e = .returned (.tuple #[.string ⟨#[]⟩, .int .i64 0]) ∧ Below w.heap.size w w' := by
  have h := open_any ⟨#[0, 0, 0, 0]⟩ (by decide) w W
  rw [ev5] at h; exact h
theorem a6 (w : World) : Calls Tryd.prog 10 #[.int .i64 258, .int .i64 3] w fun e w' => e = .returned (.string ⟨#[2, 1, 0]⟩) ∧ Below w.heap.size w w' := by
  have h := put_any 258 3 (by decide) w
  rw [ev6] at h; exact h
theorem a7 (w : World) : Calls Tryd.prog 17 #[.string ⟨#[97, 98]⟩] w fun e w' => e = .returned (.string ⟨#[2, 0, 97, 98]⟩) ∧ Below w.heap.size w w' := by
  have h := ptext_any ⟨#[97, 98]⟩ (by decide) w
  rw [ev7] at h; exact h
theorem a8 (w : World) : Calls Tryd.prog 21 #[.slice (some ⟨w.heap.size, 0, none⟩) 2 2] (w.alloc (.cells #[.int .i64 65, .int .i64 (-1)] 3)) fun e w' => e = .returned (.string ⟨#[65, 0, 255, 255]⟩) ∧ Below w.heap.size w w' := by
  have h := putw_any _ [65, -1] (by decide) (by decide) _ (lit2 w)
  rw [ev8] at h
  refine h.mono ?_
  rintro e w' ⟨rfl, h2⟩
  have hb : Below w.heap.size w (w.alloc (.cells #[.int .i64 65, .int .i64 (-1)] 3)) := (Below.refl _ _).alloc (Nat.le_refl _) _
  exact ⟨rfl, hb.trans (h2.mono hb.size)⟩
theorem a9 (w : World) (W : Tabs w) : Calls Tryd.prog 26 #[.string ⟨#[]⟩] w fun e w' => e = .returned (.int .i64 0) ∧ w = w' := by
  have h := crc_any ⟨#[]⟩ (by decide) w W
  rw [ev9] at h; exact h
theorem a10 (w : World) (W : Tabs w) : Calls Tryd.prog 26 #[.string ⟨#[49, 50, 51, 52, 53, 54, 55, 56, 57]⟩] w fun e w' => e = .returned (.int .i64 3421780262) ∧ w = w' := by
  have h := crc_any ⟨#[49, 50, 51, 52, 53, 54, 55, 56, 57]⟩ (by decide) w W
  rw [ev10] at h; exact h

set_option maxRecDepth 100000 in
set_option maxHeartbeats 2000000 in
theorem alive_any (w : World) (W : Tabs w) : Calls Tryd.prog 12 #[] w fun e w' => e = .returned (.bool true) ∧ Below w.heap.size w w' := by
  have hB : Below w.heap.size w w := Below.refl _ _
  go_enter Tryd.func12, Tryd.ntmps12
  go_wp2_with (first
    | (go_at_call 13; with_reducible refine (a1 _).mono ?_; rintro e w' ⟨rfl, rfl⟩)
    | (go_at_call 13; with_reducible refine (a2 _).mono ?_; rintro e w' ⟨rfl, rfl⟩)
    | (go_at_call 13; with_reducible refine (a3 _).mono ?_; rintro e w' ⟨rfl, rfl⟩)
    | (go_at_call 24; with_reducible refine (a4 _ W).mono ?_; rintro e w' ⟨rfl, hb⟩; have W := W.below hb; have hB := hB.trans (hb.mono hB.size); clear hb)
    | (go_at_call 24; with_reducible refine (a5 _ W).mono ?_; rintro e w' ⟨rfl, hb⟩; have W := W.below hb; have hB := hB.trans (hb.mono hB.size); clear hb)
    | (go_at_call 10; with_reducible refine (a6 _).mono ?_; rintro e w' ⟨rfl, hb⟩; have W := W.below hb; have hB := hB.trans (hb.mono hB.size); clear hb)
    | (go_at_call 17; with_reducible refine (a7 _).mono ?_; rintro e w' ⟨rfl, hb⟩; have W := W.below hb; have hB := hB.trans (hb.mono hB.size); clear hb)
    | (go_at_call 21; with_reducible refine (a8 _).mono ?_; rintro e w' ⟨rfl, hb⟩; have W := W.below hb; have hB := hB.trans (hb.mono hB.size); clear hb)
    | (go_at_call 26; with_reducible refine (a9 _ W).mono ?_; rintro e w' ⟨rfl, rfl⟩)
    | (go_at_call 26; with_reducible refine (a10 _ W).mono ?_; rintro e w' ⟨rfl, rfl⟩))
  go_ret
  exact ⟨rfl, hB⟩

end Go.Proofs.YtbcnehjpondplaaDoor
