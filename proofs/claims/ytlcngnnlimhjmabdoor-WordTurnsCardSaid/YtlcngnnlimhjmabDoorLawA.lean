/-
  The examples that every statement of layer 1 asks beside its own: the function 'alive' answers true. Condition: the table of widths holds its four numbers.
-/
import Derived.Test.YtlcngnnlimhjmabDoorWalkF
namespace Go.Proofs.YtlcngnnlimhjmabDoor
open Go.RowKit

theorem Add_ex (w : World) (W : Wid w) :
    Calls Tryd.prog 16 #[.int .i64 32767, .int .i64 1, .int .i64 0, .bool false] w fun e w' => e = .returned (.tuple #[.int .i64 32768, .int .i64 10]) ∧ Below w.heap.size w w' :=
  (Add_any false 32767 1 0 w W).mono fun _ _ ⟨he, hb⟩ => ⟨he.trans (by rfl), hb⟩

theorem Sub_ex (w : World) (W : Wid w) :
    Calls Tryd.prog 17 #[.int .i64 128, .int .i64 1, .int .i64 0, .bool true] w fun e w' => e = .returned (.tuple #[.int .i64 127, .int .i64 2]) ∧ Below w.heap.size w w' :=
  (Sub_any true 128 1 0 w W).mono fun _ _ ⟨he, hb⟩ => ⟨he.trans (by rfl), hb⟩

theorem Mul_ex (w : World) (W : Wid w) :
    Calls Tryd.prog 7 #[.int .i64 65535, .int .i64 2] w fun e w' => e = .returned (.tuple #[.int .i64 65535, .int .i64 65534, .int .i64 8]) ∧ Below w.heap.size w w' :=
  (Mul_any 65535 2 w W).mono fun _ _ ⟨he, hb⟩ => ⟨he.trans (by rfl), hb⟩

theorem Div_ex (w : World) (W : Wid w) :
    Calls Tryd.prog 6 #[.int .i64 0, .int .i64 7, .int .i64 65534] w fun e w' => e = .returned (.tuple #[.int .i64 65533, .int .i64 1, .int .i64 8, .bool true]) ∧ Below w.heap.size w w' :=
  (Div_any 0 7 65534 w W).mono fun _ _ ⟨he, hb⟩ => ⟨he.trans (by rfl), hb⟩

theorem Shift_ex (w : World) (W : Wid w) :
    Calls Tryd.prog 10 #[.int .i64 32769, .int .i64 1] w fun e w' => e = .returned (.tuple #[.int .i64 2, .int .i64 3]) ∧ Below w.heap.size w w' :=
  (Shift_any 32769 1 w W).mono fun _ _ ⟨he, hb⟩ => ⟨he.trans (by rfl), hb⟩

theorem Rotate_ex (w : World) (W : Wid w) :
    Calls Tryd.prog 9 #[.int .i64 1, .int .i64 1, .bool false, .bool false] w fun e w' => e = .returned (.tuple #[.int .i64 32768, .int .i64 9]) ∧ Below w.heap.size w w' :=
  (Rotate_any false false 1 1 w W).mono fun _ _ ⟨he, hb⟩ => ⟨he.trans (by rfl), hb⟩

set_option maxRecDepth 100000
set_option maxHeartbeats 1000000 in
theorem alive_any (w : World) (W : Wid w) :
    Calls Tryd.prog 8 #[] w fun e w' => e = .returned (.bool true) ∧ Below w.heap.size w w' := by
  go_enter Tryd.func8, Tryd.ntmps8
  go_wp2_with fail
  refine (Add_ex _ W).mono ?_
  rintro e w1 ⟨rfl, hb1⟩
  have hB1 := hb1
  have W1 := W.below hB1
  clear hb1
  go_wp2_with fail
  refine (Sub_ex _ W1).mono ?_
  rintro e w2 ⟨rfl, hb2⟩
  have hB2 := hB1.trans (hb2.mono hB1.size)
  have W2 := W.below hB2
  clear hb2
  clear hB1 W1
  go_wp2_with fail
  refine (Mul_ex _ W2).mono ?_
  rintro e w3 ⟨rfl, hb3⟩
  have hB3 := hB2.trans (hb3.mono hB2.size)
  have W3 := W.below hB3
  clear hb3
  clear hB2 W2
  go_wp2_with fail
  refine (Div_ex _ W3).mono ?_
  rintro e w4 ⟨rfl, hb4⟩
  have hB4 := hB3.trans (hb4.mono hB3.size)
  have W4 := W.below hB4
  clear hb4
  clear hB3 W3
  go_wp2_with fail
  refine (Shift_ex _ W4).mono ?_
  rintro e w5 ⟨rfl, hb5⟩
  have hB5 := hB4.trans (hb5.mono hB4.size)
  have W5 := W.below hB5
  clear hb5
  clear hB4 W4
  go_wp2_with fail
  refine (Rotate_ex _ W5).mono ?_
  rintro e w6 ⟨rfl, hb6⟩
  have hB6 := hB5.trans (hb6.mono hB5.size)
  have W6 := W.below hB6
  clear hb6
  clear hB5 W5
  go_wp2_with fail
  go_ret
  exact ⟨rfl, hB6⟩

#print axioms alive_any
end Go.Proofs.YtlcngnnlimhjmabDoor
