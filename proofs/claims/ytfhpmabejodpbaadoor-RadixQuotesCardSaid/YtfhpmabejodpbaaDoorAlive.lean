/-
  The examples of the chapter: what the calls of package radix return there, and that the examples' function answers true. Condition: the tables of the library hold what their initialisers lay.
-/
import Derived.Test.YtfhpmabejodpbaaDoorGoF
import Derived.Test.YtfhpmabejodpbaaDoorGoI
import Derived.Test.YtfhpmabejodpbaaDoorGoJ
import Derived.Test.YtfhpmabejodpbaaDoorGoK
namespace Go.Proofs.YtfhpmabejodpbaaDoor
open Go.RowKit
set_option linter.unusedSimpArgs false

theorem ev1 : prs [70, 70, 102, 102] 16 = (65535, 0) := by decide +kernel
theorem ev2 : prs [50, 48, 48, 48, 48, 48] 8 = (0, 2) := by decide +kernel
theorem ev3 : prs [56] 8 = (0, 3) := by decide +kernel
theorem ev4 : prs [] 7 = (0, 1) := by decide +kernel
theorem ev5 : unq [34, 92, 49, 48, 49, 98, 34, 32, 120] = ([65, 98], 7, 0) := by decide +kernel
theorem ev6 : unq [34, 92, 52, 48, 48, 34] = ([], 0, 3) := by decide +kernel
theorem ev7 : flds [32, 97, 9, 98, 32, 32, 99, 32] = [[97], [98], [99]] := by decide +kernel
theorem ev8 : fmt 255 16 = [102, 102] := by decide +kernel
theorem ev9 : fmt (-9) 8 = [45, 49, 49] := by decide +kernel
theorem ev10 : fmt 1 2 = [] := by decide +kernel
theorem ev11 : pad 9 8 4 = [48, 48, 49, 49] := by decide +kernel
theorem ev12 : pad 65536 10 3 = [54, 53, 53, 51, 54] := by decide +kernel
theorem ev13 : quo [97, 34, 10, 0] = [34, 97, 92, 34, 92, 110, 92, 48, 48, 48, 34] := by decide +kernel

theorem lit3 (w : World) : Txt (w.alloc (.cells #[.string ⟨#[97]⟩, .string ⟨#[98]⟩, .string ⟨#[99]⟩] 9)) (.slice (some ⟨w.heap.size, 0, none⟩) 3 3) [[97], [98], [99]] := by
  refine Or.inr ⟨by simp, w.heap.size, 3, rfl, by simp, fun j x hx => ?_⟩
  match j, hx with
  | 0, hx => simp at hx; subst hx; simp
  | 1, hx => simp at hx; subst hx; simp
  | 2, hx => simp at hx; subst hx; simp

theorem a1 (w : World) : Calls Tryd.prog 13 #[.string ⟨#[70, 70, 102, 102]⟩, .int .i64 16] w fun e w' => e = .returned (.tuple #[.int .i64 65535, .int .i64 0]) ∧ w = w' := by
  have h := parse_any ⟨#[70, 70, 102, 102]⟩ 16 (by decide) w
  rw [prsV, ev1] at h; exact h
theorem a2 (w : World) : Calls Tryd.prog 13 #[.string ⟨#[50, 48, 48, 48, 48, 48]⟩, .int .i64 8] w fun e w' => e = .returned (.tuple #[.int .i64 0, .int .i64 2]) ∧ w = w' := by
  have h := parse_any ⟨#[50, 48, 48, 48, 48, 48]⟩ 8 (by decide) w
  rw [prsV, ev2] at h; exact h
theorem a3 (w : World) : Calls Tryd.prog 13 #[.string ⟨#[56]⟩, .int .i64 8] w fun e w' => e = .returned (.tuple #[.int .i64 0, .int .i64 3]) ∧ w = w' := by
  have h := parse_any ⟨#[56]⟩ 8 (by decide) w
  rw [prsV, ev3] at h; exact h
theorem a4 (w : World) : Calls Tryd.prog 13 #[.string ⟨#[]⟩, .int .i64 7] w fun e w' => e = .returned (.tuple #[.int .i64 0, .int .i64 1]) ∧ w = w' := by
  have h := parse_any ⟨#[]⟩ 7 (by decide) w
  rw [prsV, ev4] at h; exact h
theorem a5 (w : World) : Calls Tryd.prog 18 #[.string ⟨#[34, 92, 49, 48, 49, 98, 34, 32, 120]⟩] w fun e w' => e = .returned (.tuple #[.string ⟨#[65, 98]⟩, .int .i64 7, .int .i64 0]) ∧ Below w.heap.size w w' := by
  have h := unquote_any ⟨#[34, 92, 49, 48, 49, 98, 34, 32, 120]⟩ (by decide) w
  rw [ev5] at h; exact h
theorem a6 (w : World) : Calls Tryd.prog 18 #[.string ⟨#[34, 92, 52, 48, 48, 34]⟩] w fun e w' => e = .returned (.tuple #[.string ⟨#[]⟩, .int .i64 0, .int .i64 3]) ∧ Below w.heap.size w w' := by
  have h := unquote_any ⟨#[34, 92, 52, 48, 48, 34]⟩ (by decide) w
  rw [ev6] at h; exact h
theorem a7 (w : World) : Calls Tryd.prog 15 #[.string ⟨#[32, 97, 9, 98, 32, 32, 99, 32]⟩] w fun e w' => ∃ v, e = .returned v ∧ Txt w' v [[97], [98], [99]] ∧ Below w.heap.size w w' := by
  have h := fields_any ⟨#[32, 97, 9, 98, 32, 32, 99, 32]⟩ (by decide) w
  rw [ev7] at h; exact h
theorem a8 (w : World) (W : Tabs w) : Calls Tryd.prog 8 #[.int .i64 255, .int .i64 16] w fun e w' => e = .returned (.string ⟨#[102, 102]⟩) ∧ Below w.heap.size w w' := by
  have h := format_any 255 16 (by decide) (by decide) w W
  rw [ev8] at h; exact h
theorem a9 (w : World) (W : Tabs w) : Calls Tryd.prog 8 #[.int .i64 (-9), .int .i64 8] w fun e w' => e = .returned (.string ⟨#[45, 49, 49]⟩) ∧ Below w.heap.size w w' := by
  have h := format_any (-9) 8 (by decide) (by decide) w W
  rw [ev9] at h; exact h
theorem a10 (w : World) (W : Tabs w) : Calls Tryd.prog 8 #[.int .i64 1, .int .i64 2] w fun e w' => e = .returned (.string ⟨#[]⟩) ∧ Below w.heap.size w w' := by
  have h := format_any 1 2 (by decide) (by decide) w W
  rw [ev10] at h; exact h
theorem a11 (w : World) (W : Tabs w) : Calls Tryd.prog 10 #[.int .i64 9, .int .i64 8, .int .i64 4] w fun e w' => e = .returned (.string ⟨#[48, 48, 49, 49]⟩) ∧ Below w.heap.size w w' := by
  have h := pad_any 9 8 4 (by decide) (by decide) w W
  rw [ev11] at h; exact h
theorem a12 (w : World) (W : Tabs w) : Calls Tryd.prog 10 #[.int .i64 65536, .int .i64 10, .int .i64 3] w fun e w' => e = .returned (.string ⟨#[54, 53, 53, 51, 54]⟩) ∧ Below w.heap.size w w' := by
  have h := pad_any 65536 10 3 (by decide) (by decide) w W
  rw [ev12] at h; exact h
theorem a13 (w : World) (W : Tabs w) : Calls Tryd.prog 20 #[.string ⟨#[97, 34, 10, 0]⟩] w fun e w' => e = .returned (.string ⟨#[34, 97, 92, 34, 92, 110, 92, 48, 48, 48, 34]⟩) ∧ Below w.heap.size w w' := by
  have h := quote_any ⟨#[97, 34, 10, 0]⟩ (by decide) w W
  rw [ev13] at h; exact h
theorem a14 (v : Value) (w : World) (h : Txt w v [[97], [98], [99]]) :
    Calls Tryd.prog 16 #[v, .slice (some ⟨w.heap.size, 0, none⟩) 3 3] (w.alloc (.cells #[.string ⟨#[97]⟩, .string ⟨#[98]⟩, .string ⟨#[99]⟩] 9)) fun e w' => e = .returned (.bool true) ∧ Below w.heap.size w w' := by
  have hb : Below w.heap.size w (w.alloc (.cells #[.string ⟨#[97]⟩, .string ⟨#[98]⟩, .string ⟨#[99]⟩] 9)) := (Below.refl _ _).alloc (Nat.le_refl _) _
  refine (same_any [[97], [98], [99]] [[97], [98], [99]] v _ (by decide) _ (h.below hb) (lit3 w)).mono ?_
  rintro e w' ⟨rfl, h2⟩
  exact ⟨by rw [show (([[97], [98], [99]] : List (List UInt8)) == [[97], [98], [99]]) = true by decide], hb.trans (h2.mono hb.size)⟩

set_option maxRecDepth 100000 in
set_option maxHeartbeats 2000000 in
theorem alive_any (w : World) (W : Tabs w) : Calls Tryd.prog 12 #[] w fun e w' => e = .returned (.bool true) ∧ Below w.heap.size w w' := by
  have hB : Below w.heap.size w w := Below.refl _ _
  go_enter Tryd.func12, Tryd.ntmps12
  go_wp2_with (first
    | (go_at_call 13; with_reducible refine (a1 _).mono ?_; rintro e w' ⟨rfl, rfl⟩)
    | (go_at_call 13; with_reducible refine (a2 _).mono ?_; rintro e w' ⟨rfl, rfl⟩)
    | (go_at_call 13; with_reducible refine (a3 _).mono ?_; rintro e w' ⟨rfl, rfl⟩)
    | (go_at_call 13; with_reducible refine (a4 _).mono ?_; rintro e w' ⟨rfl, rfl⟩)
    | (go_at_call 18; with_reducible refine (a5 _).mono ?_; rintro e w' ⟨rfl, hb⟩; have W := W.below hb; have hB := hB.trans (hb.mono hB.size); clear hb)
    | (go_at_call 18; with_reducible refine (a6 _).mono ?_; rintro e w' ⟨rfl, hb⟩; have W := W.below hb; have hB := hB.trans (hb.mono hB.size); clear hb)
    | (go_at_call 15; with_reducible refine (a7 _).mono ?_; rintro e w' ⟨v, rfl, hT, hb⟩; have W := W.below hb; have hB := hB.trans (hb.mono hB.size); clear hb)
    | (go_at_call 8; with_reducible refine (a8 _ W).mono ?_; rintro e w' ⟨rfl, hb⟩; have W := W.below hb; have hB := hB.trans (hb.mono hB.size); have hT := hT.below hb; clear hb)
    | (go_at_call 8; with_reducible refine (a9 _ W).mono ?_; rintro e w' ⟨rfl, hb⟩; have W := W.below hb; have hB := hB.trans (hb.mono hB.size); have hT := hT.below hb; clear hb)
    | (go_at_call 8; with_reducible refine (a10 _ W).mono ?_; rintro e w' ⟨rfl, hb⟩; have W := W.below hb; have hB := hB.trans (hb.mono hB.size); have hT := hT.below hb; clear hb)
    | (go_at_call 10; with_reducible refine (a11 _ W).mono ?_; rintro e w' ⟨rfl, hb⟩; have W := W.below hb; have hB := hB.trans (hb.mono hB.size); have hT := hT.below hb; clear hb)
    | (go_at_call 10; with_reducible refine (a12 _ W).mono ?_; rintro e w' ⟨rfl, hb⟩; have W := W.below hb; have hB := hB.trans (hb.mono hB.size); have hT := hT.below hb; clear hb)
    | (go_at_call 16; with_reducible refine (a14 _ _ hT).mono ?_; rintro e w' ⟨rfl, hb⟩; have W := W.below hb; have hB := hB.trans (hb.mono hB.size); clear hb)
    | (go_at_call 20; with_reducible refine (a13 _ W).mono ?_; rintro e w' ⟨rfl, hb⟩; have W := W.below hb; have hB := hB.trans (hb.mono hB.size); clear hb))
  go_ret
  exact ⟨rfl, hB⟩

end Go.Proofs.YtfhpmabejodpbaaDoor
