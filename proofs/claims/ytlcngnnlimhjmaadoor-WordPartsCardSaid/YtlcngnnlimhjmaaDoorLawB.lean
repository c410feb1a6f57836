/-
  Walks over the statements WordParts, WordProducts and WordShifts: each returns true, and what lay in memory stays. Condition: the table of widths holds its four numbers.
-/
import Derived.Test.YtlcngnnlimhjmaaDoorLawA
import Derived.Test.YtlcngnnlimhjmaaDoorRefF
namespace Go.Proofs.YtlcngnnlimhjmaaDoor
open Go.RowKit
set_option maxRecDepth 100000

theorem Div_ret (a b c : Int) (w : World) (W : Wid w) :
    Calls Tryd.prog 24 #[.int .i64 a, .int .i64 b, .int .i64 c] w fun e w' => e = .returned (.tuple #[.int .i64 (dvQ a b c), .int .i64 (dvR a b c), .int .i64 (dvF a b c), .bool (dvW a b c)]) ∧ Below w.heap.size w w' := Div_any a b c w W
theorem rDiv_ret (a b c : Int) (w : World) :
    Calls Tryd.prog 25 #[.int .i64 a, .int .i64 b, .int .i64 c] w fun e w' => e = .returned (.tuple #[.int .i64 (dvQ a b c), .int .i64 (dvR a b c), .int .i64 (dvF a b c), .bool (dvW a b c)]) ∧ w = w' := rDiv_any a b c w

set_option maxHeartbeats 2000000 in
theorem WordParts_walk (n : Int) (b : Bool) (w : World) (W : Wid w) :
    Calls Tryd.prog 3 #[.int .i64 n, .bool b] w fun e w' => e = .returned (.bool true) ∧ Below w.heap.size w w' := by
  have hB := Below.refl w.heap.size w
  go_enter Tryd.func3, Tryd.ntmps3
  go_wp2_with (first | (go_at_call 9; refine (wrap_any _ _ W).mono ?_; rintro e w' ⟨rfl, rfl⟩) | (go_at_call 10; refine (rWrap_any _ _).mono ?_; rintro e w' ⟨rfl, rfl⟩) | (go_at_call 11; refine (Signed_any _ _ W).mono ?_; rintro e w' ⟨rfl, hb⟩; have W := W.below hb; have hB := hB.trans (hb.mono hB.size); clear hb) | (go_at_call 12; refine (rSigned_any _ _).mono ?_; rintro e w' ⟨rfl, rfl⟩) | (go_at_call 13; refine (Extend_any _ _ W).mono ?_; rintro e w' ⟨rfl, hb⟩; have W := W.below hb; have hB := hB.trans (hb.mono hB.size); clear hb) | (go_at_call 14; refine (rExtend_any _ _).mono ?_; rintro e w' ⟨rfl, rfl⟩) | (go_at_call 15; refine (Flags_any _ _ _ W).mono ?_; rintro e w' ⟨rfl, hb⟩; have W := W.below hb; have hB := hB.trans (hb.mono hB.size); clear hb) | (go_at_call 16; refine (rFlags_any _ _ _).mono ?_; rintro e w' ⟨rfl, rfl⟩) | (go_at_call 17; refine (alive_any _ W).mono ?_; rintro e w' ⟨rfl, hb⟩; have hB := hB.trans (hb.mono hB.size); clear hb))
  go_ret
  exact ⟨rfl, hB⟩

set_option maxHeartbeats 2000000 in
theorem WordProducts_walk (a b c : Int) (w : World) (W : Wid w) :
    Calls Tryd.prog 5 #[.int .i64 a, .int .i64 b, .int .i64 c] w fun e w' => e = .returned (.bool true) ∧ Below w.heap.size w w' := by
  have hB := Below.refl w.heap.size w
  go_enter Tryd.func5, Tryd.ntmps5
  go_wp2_with (first | (go_at_call 22; refine (Mul_any _ _ _ W).mono ?_; rintro e w' ⟨rfl, hb⟩; have W := W.below hb; have hB := hB.trans (hb.mono hB.size); clear hb) | (go_at_call 23; refine (rMul_any _ _ _).mono ?_; rintro e w' ⟨rfl, rfl⟩) | (go_at_call 24; refine (Div_ret _ _ _ _ W).mono ?_; rintro e w' ⟨rfl, hb⟩; have W := W.below hb; have hB := hB.trans (hb.mono hB.size); clear hb) | (go_at_call 25; refine (rDiv_ret _ _ _ _).mono ?_; rintro e w' ⟨rfl, rfl⟩) | (go_at_call 17; refine (alive_any _ W).mono ?_; rintro e w' ⟨rfl, hb⟩; have hB := hB.trans (hb.mono hB.size); clear hb))
  go_ret
  exact ⟨rfl, hB⟩

set_option maxHeartbeats 2000000 in
theorem WordShifts_walk (x n : Int) (w : World) (W : Wid w) :
    Calls Tryd.prog 6 #[.int .i64 x, .int .i64 n] w fun e w' => e = .returned (.bool true) ∧ Below w.heap.size w w' := by
  have hB := Below.refl w.heap.size w
  go_enter Tryd.func6, Tryd.ntmps6
  go_wp2_with (first | (go_at_call 26; refine (Shift_any _ _ _ W).mono ?_; rintro e w' ⟨rfl, hb⟩; have W := W.below hb; have hB := hB.trans (hb.mono hB.size); clear hb) | (go_at_call 27; refine (rShift_any _ _ _).mono ?_; rintro e w' ⟨rfl, rfl⟩) | (go_at_call 17; refine (alive_any _ W).mono ?_; rintro e w' ⟨rfl, hb⟩; have hB := hB.trans (hb.mono hB.size); clear hb))
  go_ret
  exact ⟨rfl, hB⟩

end Go.Proofs.YtlcngnnlimhjmaaDoor
