/-
  The walk over the statement WordDivides: it returns true, and what lay in memory stays. Condition: the table of widths holds its four numbers.
-/
import Derived.Test.YtlcngnnlimhjmabDoorLawA
import Derived.Test.YtlcngnnlimhjmabDoorPlainD
namespace Go.Proofs.YtlcngnnlimhjmabDoor
open Go.RowKit
set_option maxRecDepth 100000

set_option maxHeartbeats 400000 in
theorem sig_any (b : Bool) (n : Int) (w : World) (h : -4611686018427387904 ≤ n ∧ n ≤ 4611686018427387904) :
    Calls Tryd.prog 5 #[.int .i64 n, .bool b] w fun e w' => e = .returned (.int .i64 (sg b n)) ∧ w = w' := by
  have A1 := and_65535
  have A2 := and_255
  obtain ⟨h0, h1⟩ := h
  cases b
  all_goals
    go_enter Tryd.func5, Tryd.ntmps5
    go_wp2
    go_ret
    exact ⟨rfl, rfl⟩

theorem sigm_any (n : Int) (w : World) :
    Calls Tryd.prog 5 #[.int .i64 (n % 65536), .bool false] w fun e w' => e = .returned (.int .i64 (sg false n)) ∧ w = w' :=
  (sig_any false _ w (by omega)).mono fun _ _ ⟨he, hw⟩ => ⟨by rw [he, sg_mod], hw⟩

theorem Div_0r (a b c : Int) (w : World) (W : Wid w) (h : sg false c = 0) :
    Calls Tryd.prog 6 #[.int .i64 a, .int .i64 b, .int .i64 c] w fun e w' => e = .returned (.tuple #[.int .i64 0, .int .i64 0, .int .i64 3, .bool false]) ∧ Below w.heap.size w w' := Div_0 a b c w W h
theorem Div_2r (a b c : Int) (w : World) (W : Wid w) (h : sg false c ≠ 0) (hf : fit (divQ a b c) = false) :
    Calls Tryd.prog 6 #[.int .i64 a, .int .i64 b, .int .i64 c] w fun e w' => e = .returned (.tuple #[.int .i64 0, .int .i64 0, .int .i64 2, .bool false]) ∧ Below w.heap.size w w' := Div_2 a b c w W h hf
theorem Div_1r (a b c : Int) (w : World) (W : Wid w) (h : sg false c ≠ 0) (hf : fit (divQ a b c) = true) :
    Calls Tryd.prog 6 #[.int .i64 a, .int .i64 b, .int .i64 c] w fun e w' => e = .returned (.tuple #[.int .i64 (divQ a b c % 65536), .int .i64 (divR a b c % 65536), .int .i64 (cod (neg false (divQ a b c)) (zer false (divQ a b c)) false false), .bool true]) ∧ Below w.heap.size w w' := Div_1 a b c w W h hf
theorem Div_m (b c : Int) (w : World) (W : Wid w) (h : sg false c ≠ 0) :
    Calls Tryd.prog 6 #[.int .i64 (mulH b c), .int .i64 (mulL b c), .int .i64 c] w fun e w' => e = .returned (.tuple #[.int .i64 (b % 65536), .int .i64 0, .int .i64 (cod (neg false (sg false b)) (zer false (sg false b)) false false), .bool true]) ∧ Below w.heap.size w w' := by
  have hb := sg_bd b
  have hf : fit (divQ (mulH b c) (mulL b c) c) = true := by rw [mulQ b c h]; exact decide_eq_true (by omega)
  have := Div_1r (mulH b c) (mulL b c) c w W h hf
  rw [mulQ b c h, mulR, sg_low] at this
  exact this

set_option maxHeartbeats 4000000 in
theorem WordDivides_0 (a b c : Int) (w : World) (W : Wid w) (h : sg false c = 0) :
    Calls Tryd.prog 3 #[.int .i64 a, .int .i64 b, .int .i64 c] w fun e w' => e = .returned (.bool true) ∧ Below w.heap.size w w' := by
  have hB := Below.refl w.heap.size w
  have A1 := and_65535
  have ha := sg_bd a
  have hc := sg_bd c
  have H := hid h
  have h0 : (sg false c == 0) = true := by simpa using h
  have h1 : (sg false c != 0) = false := by simpa using h
  clear h
  go_enter Tryd.func3, Tryd.ntmps3
  go_wp2_with (first | (go_at_call 5; refine (sigm_any _ _).mono ?_; rintro e w' ⟨rfl, rfl⟩) | (go_at_call 6; refine (Div_0r _ _ _ _ W H.out).mono ?_; rintro e w' ⟨rfl, hb⟩; have W := W.below hb; have hB := hB.trans (hb.mono hB.size); clear hb) | (go_at_call 7; refine (Mul_any _ _ _ W).mono ?_; rintro e w' ⟨rfl, hb⟩; have W := W.below hb; have hB := hB.trans (hb.mono hB.size); clear hb) | (go_at_call 8; refine (alive_any _ W).mono ?_; rintro e w' ⟨rfl, hb⟩; have hB := hB.trans (hb.mono hB.size); clear hb))
  go_ret
  exact ⟨rfl, hB⟩

set_option maxHeartbeats 4000000 in
theorem WordDivides_3 (a b c : Int) (w : World) (W : Wid w) (h : sg false c ≠ 0) (hq : divQ a b c < -32768) :
    Calls Tryd.prog 3 #[.int .i64 a, .int .i64 b, .int .i64 c] w fun e w' => e = .returned (.bool true) ∧ Below w.heap.size w w' := by
  have hB := Below.refl w.heap.size w
  have A1 := and_65535
  have ha := sg_bd a
  have hc := sg_bd c
  have H := hid h
  have h0 : (sg false c == 0) = false := by simpa using h
  have h1 : (sg false c != 0) = true := by simpa using h
  have F := hid (show fit (divQ a b c) = false from decide_eq_false (by omega))
  have hn := divN_bd a b
  have hqb := divQ_bd a b c
  unfold divQ at hq hqb
  unfold divN at hq hqb hn
  clear h
  go_enter Tryd.func3, Tryd.ntmps3
  go_wp2_with (first | (go_at_call 5; refine (sigm_any _ _).mono ?_; rintro e w' ⟨rfl, rfl⟩) | (go_at_call_of 6 (Value.int IntKind.i64 (mulH b c)); refine (Div_m _ _ _ W H.out).mono ?_; rintro e w' ⟨rfl, hb⟩; have W := W.below hb; have hB := hB.trans (hb.mono hB.size); clear hb) | (go_at_call 6; refine (Div_2r _ _ _ _ W H.out F.out).mono ?_; rintro e w' ⟨rfl, hb⟩; have W := W.below hb; have hB := hB.trans (hb.mono hB.size); clear hb) | (go_at_call 7; refine (Mul_any _ _ _ W).mono ?_; rintro e w' ⟨rfl, hb⟩; have W := W.below hb; have hB := hB.trans (hb.mono hB.size); clear hb) | (go_at_call 8; refine (alive_any _ W).mono ?_; rintro e w' ⟨rfl, hb⟩; have hB := hB.trans (hb.mono hB.size); clear hb))
  go_ret
  exact ⟨rfl, hB⟩

set_option maxHeartbeats 4000000 in
theorem WordDivides_4 (a b c : Int) (w : World) (W : Wid w) (h : sg false c ≠ 0) (hq : 32767 < divQ a b c) :
    Calls Tryd.prog 3 #[.int .i64 a, .int .i64 b, .int .i64 c] w fun e w' => e = .returned (.bool true) ∧ Below w.heap.size w w' := by
  have hB := Below.refl w.heap.size w
  have A1 := and_65535
  have ha := sg_bd a
  have hc := sg_bd c
  have H := hid h
  have h0 : (sg false c == 0) = false := by simpa using h
  have h1 : (sg false c != 0) = true := by simpa using h
  have F := hid (show fit (divQ a b c) = false from decide_eq_false (by omega))
  have hn := divN_bd a b
  have hqb := divQ_bd a b c
  unfold divQ at hq hqb
  unfold divN at hq hqb hn
  clear h
  go_enter Tryd.func3, Tryd.ntmps3
  go_wp2_with (first | (go_at_call 5; refine (sigm_any _ _).mono ?_; rintro e w' ⟨rfl, rfl⟩) | (go_at_call_of 6 (Value.int IntKind.i64 (mulH b c)); refine (Div_m _ _ _ W H.out).mono ?_; rintro e w' ⟨rfl, hb⟩; have W := W.below hb; have hB := hB.trans (hb.mono hB.size); clear hb) | (go_at_call 6; refine (Div_2r _ _ _ _ W H.out F.out).mono ?_; rintro e w' ⟨rfl, hb⟩; have W := W.below hb; have hB := hB.trans (hb.mono hB.size); clear hb) | (go_at_call 7; refine (Mul_any _ _ _ W).mono ?_; rintro e w' ⟨rfl, hb⟩; have W := W.below hb; have hB := hB.trans (hb.mono hB.size); clear hb) | (go_at_call 8; refine (alive_any _ W).mono ?_; rintro e w' ⟨rfl, hb⟩; have hB := hB.trans (hb.mono hB.size); clear hb))
  go_ret
  exact ⟨rfl, hB⟩

set_option maxHeartbeats 4000000 in
theorem WordDivides_1pz (a b c : Int) (w : World) (W : Wid w) (hd : 0 < sg false c) (hr : divR a b c = 0) (hf : fit (divQ a b c) = true) :
    Calls Tryd.prog 3 #[.int .i64 a, .int .i64 b, .int .i64 c] w fun e w' => e = .returned (.bool true) ∧ Below w.heap.size w w' := by
  have hB := Below.refl w.heap.size w
  have A1 := and_65535
  have ha := sg_bd a
  have hc := sg_bd c
  have h : sg false c ≠ 0 := by omega
  have H := hid h
  have h0 : (sg false c == 0) = false := by simpa using h
  have h1 : (sg false c != 0) = true := by simpa using h
  have F := hid hf
  have E1 := sg_fit _ hf
  have E2 := sg_fit _ (divR_fit a b c h)
  have hnear := div_near a b c h
  have hsgn := div_sign a b c
  have hsum := div_sum a b c
  have hn := divN_bd a b
  have hm := divM_bd a b c h
  unfold divN at hsum hn hsgn
  have S1 : (divQ a b c * sg false c + divR a b c != sg false a * 65536 + b % 65536) = false := by simpa using hsum
  have R1 : (divR a b c != 0) = false := by simpa using hr
  have B1 : -1 < divR a b c ∧ divR a b c < 1 := by omega
  have B2 : -(sg false c).natAbs < divR a b c ∧ divR a b c < (sg false c).natAbs := by omega
  have L1 : -(sg false c) < divR a b c ∧ divR a b c < sg false c := by omega
  clear h hsgn hnear hsum hf B2 hr
  go_enter Tryd.func3, Tryd.ntmps3
  go_wp2_with (first | (go_at_call 5; refine (sigm_any _ _).mono ?_; rintro e w' ⟨rfl, rfl⟩) | (go_at_call_of 6 (Value.int IntKind.i64 (mulH b c)); refine (Div_m _ _ _ W H.out).mono ?_; rintro e w' ⟨rfl, hb⟩; have W := W.below hb; have hB := hB.trans (hb.mono hB.size); clear hb) | (go_at_call 6; refine (Div_1r _ _ _ _ W H.out F.out).mono ?_; rintro e w' ⟨rfl, hb⟩; have W := W.below hb; have hB := hB.trans (hb.mono hB.size); clear hb) | (go_at_call 7; refine (Mul_any _ _ _ W).mono ?_; rintro e w' ⟨rfl, hb⟩; have W := W.below hb; have hB := hB.trans (hb.mono hB.size); clear hb) | (go_at_call 8; refine (alive_any _ W).mono ?_; rintro e w' ⟨rfl, hb⟩; have hB := hB.trans (hb.mono hB.size); clear hb))
  go_ret
  exact ⟨rfl, hB⟩

set_option maxHeartbeats 4000000 in
theorem WordDivides_1pp (a b c : Int) (w : World) (W : Wid w) (hd : 0 < sg false c) (hr : 0 < divR a b c) (hf : fit (divQ a b c) = true) :
    Calls Tryd.prog 3 #[.int .i64 a, .int .i64 b, .int .i64 c] w fun e w' => e = .returned (.bool true) ∧ Below w.heap.size w w' := by
  have hB := Below.refl w.heap.size w
  have A1 := and_65535
  have ha := sg_bd a
  have hc := sg_bd c
  have h : sg false c ≠ 0 := by omega
  have H := hid h
  have h0 : (sg false c == 0) = false := by simpa using h
  have h1 : (sg false c != 0) = true := by simpa using h
  have F := hid hf
  have E1 := sg_fit _ hf
  have E2 := sg_fit _ (divR_fit a b c h)
  have hnear := div_near a b c h
  have hsgn := div_sign a b c
  have hsum := div_sum a b c
  have hn := divN_bd a b
  have hm := divM_bd a b c h
  unfold divN at hsum hn hsgn
  have S1 : (divQ a b c * sg false c + divR a b c != sg false a * 65536 + b % 65536) = false := by simpa using hsum
  have R1 : (divR a b c != 0) = true := by simpa using (show divR a b c ≠ 0 by omega)
  have B1 : -(sg false c).natAbs < divR a b c ∧ divR a b c < (sg false c).natAbs := by omega
  have N1 : 0 < sg false a * 65536 + b % 65536 := by omega
  have L1 : -(sg false c) < divR a b c ∧ divR a b c < sg false c := by omega
  clear h hsgn hnear hsum hf B1
  go_enter Tryd.func3, Tryd.ntmps3
  go_wp2_with (first | (go_at_call 5; refine (sigm_any _ _).mono ?_; rintro e w' ⟨rfl, rfl⟩) | (go_at_call_of 6 (Value.int IntKind.i64 (mulH b c)); refine (Div_m _ _ _ W H.out).mono ?_; rintro e w' ⟨rfl, hb⟩; have W := W.below hb; have hB := hB.trans (hb.mono hB.size); clear hb) | (go_at_call 6; refine (Div_1r _ _ _ _ W H.out F.out).mono ?_; rintro e w' ⟨rfl, hb⟩; have W := W.below hb; have hB := hB.trans (hb.mono hB.size); clear hb) | (go_at_call 7; refine (Mul_any _ _ _ W).mono ?_; rintro e w' ⟨rfl, hb⟩; have W := W.below hb; have hB := hB.trans (hb.mono hB.size); clear hb) | (go_at_call 8; refine (alive_any _ W).mono ?_; rintro e w' ⟨rfl, hb⟩; have hB := hB.trans (hb.mono hB.size); clear hb))
  go_ret
  exact ⟨rfl, hB⟩

set_option maxHeartbeats 4000000 in
theorem WordDivides_1pn (a b c : Int) (w : World) (W : Wid w) (hd : 0 < sg false c) (hr : divR a b c < 0) (hf : fit (divQ a b c) = true) :
    Calls Tryd.prog 3 #[.int .i64 a, .int .i64 b, .int .i64 c] w fun e w' => e = .returned (.bool true) ∧ Below w.heap.size w w' := by
  have hB := Below.refl w.heap.size w
  have A1 := and_65535
  have ha := sg_bd a
  have hc := sg_bd c
  have h : sg false c ≠ 0 := by omega
  have H := hid h
  have h0 : (sg false c == 0) = false := by simpa using h
  have h1 : (sg false c != 0) = true := by simpa using h
  have F := hid hf
  have E1 := sg_fit _ hf
  have E2 := sg_fit _ (divR_fit a b c h)
  have hnear := div_near a b c h
  have hsgn := div_sign a b c
  have hsum := div_sum a b c
  have hn := divN_bd a b
  have hm := divM_bd a b c h
  unfold divN at hsum hn hsgn
  have S1 : (divQ a b c * sg false c + divR a b c != sg false a * 65536 + b % 65536) = false := by simpa using hsum
  have R1 : (divR a b c != 0) = true := by simpa using (show divR a b c ≠ 0 by omega)
  have B1 : -(sg false c).natAbs < divR a b c ∧ divR a b c < (sg false c).natAbs := by omega
  have N1 : sg false a * 65536 + b % 65536 < 0 := by omega
  have L1 : -(sg false c) < divR a b c ∧ divR a b c < sg false c := by omega
  clear h hsgn hnear hsum hf B1
  go_enter Tryd.func3, Tryd.ntmps3
  go_wp2_with (first | (go_at_call 5; refine (sigm_any _ _).mono ?_; rintro e w' ⟨rfl, rfl⟩) | (go_at_call_of 6 (Value.int IntKind.i64 (mulH b c)); refine (Div_m _ _ _ W H.out).mono ?_; rintro e w' ⟨rfl, hb⟩; have W := W.below hb; have hB := hB.trans (hb.mono hB.size); clear hb) | (go_at_call 6; refine (Div_1r _ _ _ _ W H.out F.out).mono ?_; rintro e w' ⟨rfl, hb⟩; have W := W.below hb; have hB := hB.trans (hb.mono hB.size); clear hb) | (go_at_call 7; refine (Mul_any _ _ _ W).mono ?_; rintro e w' ⟨rfl, hb⟩; have W := W.below hb; have hB := hB.trans (hb.mono hB.size); clear hb) | (go_at_call 8; refine (alive_any _ W).mono ?_; rintro e w' ⟨rfl, hb⟩; have hB := hB.trans (hb.mono hB.size); clear hb))
  go_ret
  exact ⟨rfl, hB⟩

set_option maxHeartbeats 4000000 in
theorem WordDivides_1nz (a b c : Int) (w : World) (W : Wid w) (hd : sg false c < 0) (hr : divR a b c = 0) (hf : fit (divQ a b c) = true) :
    Calls Tryd.prog 3 #[.int .i64 a, .int .i64 b, .int .i64 c] w fun e w' => e = .returned (.bool true) ∧ Below w.heap.size w w' := by
  have hB := Below.refl w.heap.size w
  have A1 := and_65535
  have ha := sg_bd a
  have hc := sg_bd c
  have h : sg false c ≠ 0 := by omega
  have H := hid h
  have h0 : (sg false c == 0) = false := by simpa using h
  have h1 : (sg false c != 0) = true := by simpa using h
  have F := hid hf
  have E1 := sg_fit _ hf
  have E2 := sg_fit _ (divR_fit a b c h)
  have hnear := div_near a b c h
  have hsgn := div_sign a b c
  have hsum := div_sum a b c
  have hn := divN_bd a b
  have hm := divM_bd a b c h
  unfold divN at hsum hn hsgn
  have S1 : (divQ a b c * sg false c + divR a b c != sg false a * 65536 + b % 65536) = false := by simpa using hsum
  have R1 : (divR a b c != 0) = false := by simpa using hr
  have B1 : -1 < divR a b c ∧ divR a b c < 1 := by omega
  have B2 : -(sg false c).natAbs < divR a b c ∧ divR a b c < (sg false c).natAbs := by omega
  have L1 : sg false c < divR a b c ∧ divR a b c < -(sg false c) := by omega
  clear h hsgn hnear hsum hf B2 hr
  go_enter Tryd.func3, Tryd.ntmps3
  go_wp2_with (first | (go_at_call 5; refine (sigm_any _ _).mono ?_; rintro e w' ⟨rfl, rfl⟩) | (go_at_call_of 6 (Value.int IntKind.i64 (mulH b c)); refine (Div_m _ _ _ W H.out).mono ?_; rintro e w' ⟨rfl, hb⟩; have W := W.below hb; have hB := hB.trans (hb.mono hB.size); clear hb) | (go_at_call 6; refine (Div_1r _ _ _ _ W H.out F.out).mono ?_; rintro e w' ⟨rfl, hb⟩; have W := W.below hb; have hB := hB.trans (hb.mono hB.size); clear hb) | (go_at_call 7; refine (Mul_any _ _ _ W).mono ?_; rintro e w' ⟨rfl, hb⟩; have W := W.below hb; have hB := hB.trans (hb.mono hB.size); clear hb) | (go_at_call 8; refine (alive_any _ W).mono ?_; rintro e w' ⟨rfl, hb⟩; have hB := hB.trans (hb.mono hB.size); clear hb))
  go_ret
  exact ⟨rfl, hB⟩

set_option maxHeartbeats 4000000 in
theorem WordDivides_1np (a b c : Int) (w : World) (W : Wid w) (hd : sg false c < 0) (hr : 0 < divR a b c) (hf : fit (divQ a b c) = true) :
    Calls Tryd.prog 3 #[.int .i64 a, .int .i64 b, .int .i64 c] w fun e w' => e = .returned (.bool true) ∧ Below w.heap.size w w' := by
  have hB := Below.refl w.heap.size w
  have A1 := and_65535
  have ha := sg_bd a
  have hc := sg_bd c
  have h : sg false c ≠ 0 := by omega
  have H := hid h
  have h0 : (sg false c == 0) = false := by simpa using h
  have h1 : (sg false c != 0) = true := by simpa using h
  have F := hid hf
  have E1 := sg_fit _ hf
  have E2 := sg_fit _ (divR_fit a b c h)
  have hnear := div_near a b c h
  have hsgn := div_sign a b c
  have hsum := div_sum a b c
  have hn := divN_bd a b
  have hm := divM_bd a b c h
  unfold divN at hsum hn hsgn
  have S1 : (divQ a b c * sg false c + divR a b c != sg false a * 65536 + b % 65536) = false := by simpa using hsum
  have R1 : (divR a b c != 0) = true := by simpa using (show divR a b c ≠ 0 by omega)
  have B1 : -(sg false c).natAbs < divR a b c ∧ divR a b c < (sg false c).natAbs := by omega
  have N1 : 0 < sg false a * 65536 + b % 65536 := by omega
  have L1 : sg false c < divR a b c ∧ divR a b c < -(sg false c) := by omega
  clear h hsgn hnear hsum hf B1
  go_enter Tryd.func3, Tryd.ntmps3
  go_wp2_with (first | (go_at_call 5; refine (sigm_any _ _).mono ?_; rintro e w' ⟨rfl, rfl⟩) | (go_at_call_of 6 (Value.int IntKind.i64 (mulH b c)); refine (Div_m _ _ _ W H.out).mono ?_; rintro e w' ⟨rfl, hb⟩; have W := W.below hb; have hB := hB.trans (hb.mono hB.size); clear hb) | (go_at_call 6; refine (Div_1r _ _ _ _ W H.out F.out).mono ?_; rintro e w' ⟨rfl, hb⟩; have W := W.below hb; have hB := hB.trans (hb.mono hB.size); clear hb) | (go_at_call 7; refine (Mul_any _ _ _ W).mono ?_; rintro e w' ⟨rfl, hb⟩; have W := W.below hb; have hB := hB.trans (hb.mono hB.size); clear hb) | (go_at_call 8; refine (alive_any _ W).mono ?_; rintro e w' ⟨rfl, hb⟩; have hB := hB.trans (hb.mono hB.size); clear hb))
  go_ret
  exact ⟨rfl, hB⟩

set_option maxHeartbeats 4000000 in
theorem WordDivides_1nn (a b c : Int) (w : World) (W : Wid w) (hd : sg false c < 0) (hr : divR a b c < 0) (hf : fit (divQ a b c) = true) :
    Calls Tryd.prog 3 #[.int .i64 a, .int .i64 b, .int .i64 c] w fun e w' => e = .returned (.bool true) ∧ Below w.heap.size w w' := by
  have hB := Below.refl w.heap.size w
  have A1 := and_65535
  have ha := sg_bd a
  have hc := sg_bd c
  have h : sg false c ≠ 0 := by omega
  have H := hid h
  have h0 : (sg false c == 0) = false := by simpa using h
  have h1 : (sg false c != 0) = true := by simpa using h
  have F := hid hf
  have E1 := sg_fit _ hf
  have E2 := sg_fit _ (divR_fit a b c h)
  have hnear := div_near a b c h
  have hsgn := div_sign a b c
  have hsum := div_sum a b c
  have hn := divN_bd a b
  have hm := divM_bd a b c h
  unfold divN at hsum hn hsgn
  have S1 : (divQ a b c * sg false c + divR a b c != sg false a * 65536 + b % 65536) = false := by simpa using hsum
  have R1 : (divR a b c != 0) = true := by simpa using (show divR a b c ≠ 0 by omega)
  have B1 : -(sg false c).natAbs < divR a b c ∧ divR a b c < (sg false c).natAbs := by omega
  have N1 : sg false a * 65536 + b % 65536 < 0 := by omega
  have L1 : sg false c < divR a b c ∧ divR a b c < -(sg false c) := by omega
  clear h hsgn hnear hsum hf B1
  go_enter Tryd.func3, Tryd.ntmps3
  go_wp2_with (first | (go_at_call 5; refine (sigm_any _ _).mono ?_; rintro e w' ⟨rfl, rfl⟩) | (go_at_call_of 6 (Value.int IntKind.i64 (mulH b c)); refine (Div_m _ _ _ W H.out).mono ?_; rintro e w' ⟨rfl, hb⟩; have W := W.below hb; have hB := hB.trans (hb.mono hB.size); clear hb) | (go_at_call 6; refine (Div_1r _ _ _ _ W H.out F.out).mono ?_; rintro e w' ⟨rfl, hb⟩; have W := W.below hb; have hB := hB.trans (hb.mono hB.size); clear hb) | (go_at_call 7; refine (Mul_any _ _ _ W).mono ?_; rintro e w' ⟨rfl, hb⟩; have W := W.below hb; have hB := hB.trans (hb.mono hB.size); clear hb) | (go_at_call 8; refine (alive_any _ W).mono ?_; rintro e w' ⟨rfl, hb⟩; have hB := hB.trans (hb.mono hB.size); clear hb))
  go_ret
  exact ⟨rfl, hB⟩

theorem WordDivides_walk (a b c : Int) (w : World) (W : Wid w) :
    Calls Tryd.prog 3 #[.int .i64 a, .int .i64 b, .int .i64 c] w fun e w' => e = .returned (.bool true) ∧ Below w.heap.size w w' := by
  by_cases h : sg false c = 0
  · exact WordDivides_0 a b c w W h
  · cases hf : fit (divQ a b c)
    · have := of_decide_eq_false hf
      by_cases h3 : divQ a b c < -32768
      · exact WordDivides_3 a b c w W h h3
      · exact WordDivides_4 a b c w W h (by omega)
    · rcases Int.lt_trichotomy (divR a b c) 0 with hr | hr | hr
      all_goals
        rcases Int.lt_or_gt_of_ne h with hd | hd
      · exact WordDivides_1nn a b c w W hd hr hf
      · exact WordDivides_1pn a b c w W hd hr hf
      · exact WordDivides_1nz a b c w W hd hr hf
      · exact WordDivides_1pz a b c w W hd hr hf
      · exact WordDivides_1np a b c w W hd hr hf
      · exact WordDivides_1pp a b c w W hd hr hf

end Go.Proofs.YtlcngnnlimhjmabDoor
