/-
  Walks over the statements RadixFormats and RadixParses: whatever the input, they answer true. Condition: the tables of the library hold what their initialisers lay.
-/
import Derived.Test.YtfhpmabejodpbaaDoorAlive
namespace Go.Proofs.YtfhpmabejodpbaaDoor
open Go.RowKit
set_option linter.unusedSimpArgs false

set_option maxRecDepth 100000 in
set_option maxHeartbeats 1000000 in
theorem formats_law (n b x : Int) (h0 : -9223372036854775808 ≤ n) (h1 : n ≤ 9223372036854775807) (w : World) (W : Tabs w) :
    Calls Tryd.prog 3 #[.int .i64 n, .int .i64 b, .int .i64 x] w fun e w' => e = .returned (.bool true) ∧ Below w.heap.size w w' := by
  have hB : Below w.heap.size w w := Below.refl _ _
  have hf := fun w W => format_any n b h0 h1 w W
  have hg := fun w => rformat_any n b h0 h1 w
  have hp := fun w W => pad_any n b x h0 h1 w W
  have hq := fun w => rpad_any n b x h0 h1 w
  generalize fmt n b = F at *
  generalize pad n b x = P at *
  go_enter Tryd.func3, Tryd.ntmps3
  go_wp2_with (first
    | (go_at_call 8; with_reducible refine (hf _ W).mono ?_; rintro e w' ⟨rfl, hb⟩; have W := W.below hb; have hB := hB.trans (hb.mono hB.size); clear hb)
    | (go_at_call 9; with_reducible refine (hg _).mono ?_; rintro e w' ⟨rfl, hb⟩; have W := W.below hb; have hB := hB.trans (hb.mono hB.size); clear hb)
    | (go_at_call 10; with_reducible refine (hp _ W).mono ?_; rintro e w' ⟨rfl, hb⟩; have W := W.below hb; have hB := hB.trans (hb.mono hB.size); clear hb)
    | (go_at_call 11; with_reducible refine (hq _).mono ?_; rintro e w' ⟨rfl, hb⟩; have W := W.below hb; have hB := hB.trans (hb.mono hB.size); clear hb)
    | (go_at_call 12; with_reducible refine (alive_any _ W).mono ?_; rintro e w' ⟨rfl, hb⟩; have hB := hB.trans (hb.mono hB.size); clear hb))
  go_ret
  exact ⟨rfl, hB⟩

set_option maxRecDepth 100000 in
set_option maxHeartbeats 1000000 in
theorem parses_law (s : ByteArray) (b : Int) (hs : s.size ≤ 9223372036854775807) (w : World) (W : Tabs w) :
    Calls Tryd.prog 4 #[.string s, .int .i64 b] w fun e w' => e = .returned (.bool true) ∧ Below w.heap.size w w' := by
  have hB : Below w.heap.size w w := Below.refl _ _
  have hf := fun w => parse_any s b hs w
  have hg := fun w => rparse_any s b hs w
  unfold prsV at hf hg
  generalize (prs s.data.toList b).1 = N at *
  generalize (prs s.data.toList b).2 = E at *
  go_enter Tryd.func4, Tryd.ntmps4
  go_wp2_with (first
    | (go_at_call 13; with_reducible refine (hf _).mono ?_; rintro e w' ⟨rfl, rfl⟩)
    | (go_at_call 14; with_reducible refine (hg _).mono ?_; rintro e w' ⟨rfl, rfl⟩)
    | (go_at_call 12; with_reducible refine (alive_any _ W).mono ?_; rintro e w' ⟨rfl, hb⟩; have hB := hB.trans (hb.mono hB.size); clear hb))
  all_goals go_ret
  all_goals exact ⟨rfl, hB⟩

end Go.Proofs.YtfhpmabejodpbaaDoor
