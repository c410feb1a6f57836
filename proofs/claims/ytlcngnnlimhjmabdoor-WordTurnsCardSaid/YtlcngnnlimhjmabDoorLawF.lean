/-
  The walk over the statement WordTurns: it returns true, and what lay in memory stays. Condition: the table of widths holds its four numbers.
-/
import Derived.Test.YtlcngnnlimhjmabDoorLawE
namespace Go.Proofs.YtlcngnnlimhjmabDoor
open Go.RowKit
set_option maxRecDepth 100000

theorem box4_new (w : World) (a b c : Int) (y : Bool) :
    (w.alloc (.cells #[.int .i64 a, .int .i64 b, .int .i64 c, .bool y] 30)).cell? ⟨w.heap.size, 0, none⟩ = some (.int .i64 a) ∧
    (w.alloc (.cells #[.int .i64 a, .int .i64 b, .int .i64 c, .bool y] 30)).cell? ⟨w.heap.size, 1, none⟩ = some (.int .i64 b) ∧
    (w.alloc (.cells #[.int .i64 a, .int .i64 b, .int .i64 c, .bool y] 30)).cell? ⟨w.heap.size, 2, none⟩ = some (.int .i64 c) ∧
    (w.alloc (.cells #[.int .i64 a, .int .i64 b, .int .i64 c, .bool y] 30)).cell? ⟨w.heap.size, 3, none⟩ = some (.bool y) ∧
    w.heap.size < (w.alloc (.cells #[.int .i64 a, .int .i64 b, .int .i64 c, .bool y] 30)).heap.size :=
  ⟨by simp, by simp, by simp, by simp, by simp⟩

theorem box4_step {n : Nat} {v0 v1 v2 v3 : Value} {w1 w2 : World} (h : w1.cell? ⟨n, 0, none⟩ = some v0 ∧ w1.cell? ⟨n, 1, none⟩ = some v1 ∧ w1.cell? ⟨n, 2, none⟩ = some v2 ∧ w1.cell? ⟨n, 3, none⟩ = some v3 ∧ n < w1.heap.size)
    (hb : Below w1.heap.size w1 w2) : w2.cell? ⟨n, 0, none⟩ = some v0 ∧ w2.cell? ⟨n, 1, none⟩ = some v1 ∧ w2.cell? ⟨n, 2, none⟩ = some v2 ∧ w2.cell? ⟨n, 3, none⟩ = some v3 ∧ n < w2.heap.size := by
  obtain ⟨h0, h1, h2, h3, h4⟩ := h
  exact ⟨by rw [hb.cell (by exact h4)]; exact h0, by rw [hb.cell (by exact h4)]; exact h1, by rw [hb.cell (by exact h4)]; exact h2, by rw [hb.cell (by exact h4)]; exact h3, Nat.lt_of_lt_of_le h4 hb.size⟩

theorem Rot_back (b : Bool) (x c : Int) (w : World) (W : Wid w) :
    Calls Tryd.prog 9 #[.int .i64 (rotR true b x c), .int .i64 (rotF true b x c), .bool false, .bool b] w fun e w' => e = .returned (.tuple #[.int .i64 (op b x), .int .i64 (rotF false b (rotR true b x c) (rotF true b x c))]) ∧ Below w.heap.size w w' :=
  (Rotate_any false b _ _ w W).mono fun _ _ ⟨he, hb⟩ => ⟨by
    rw [he]
    cases b
    · rw [rot_back_f]; rfl
    · rw [rot_back_t]; rfl, hb⟩

theorem Shift_up (x : Int) (k : Nat) (h : k < 16) (w : World) (W : Wid w) :
    Calls Tryd.prog 10 #[.int .i64 x, .int .i64 (k : Int)] w fun e w' => e = .returned (.tuple #[.int .i64 (x * 2 ^ k % 65536), .int .i64 (shfF x k)]) ∧ Below w.heap.size w w' :=
  (Shift_any x k w W).mono fun _ _ ⟨he, hb⟩ => ⟨by rw [he, shf_up x k h], hb⟩
theorem Shift_down (x : Int) (k : Nat) (h : k < 16) (w : World) (W : Wid w) :
    Calls Tryd.prog 10 #[.int .i64 x, .int .i64 (-(k : Int))] w fun e w' => e = .returned (.tuple #[.int .i64 (sg false x / 2 ^ k % 65536), .int .i64 (shfF x (-(k : Int)))]) ∧ Below w.heap.size w w' :=
  (Shift_any x (-(k : Int)) w W).mono fun _ _ ⟨he, hb⟩ => ⟨by rw [he, shf_down x k h], hb⟩

set_option maxHeartbeats 4000000 in
theorem WordTurns_f (a b c n : Int) (w : World) (W : Wid w) (hn : 0 ≤ n ∧ n ≤ 255) :
    Calls Tryd.prog 4 #[.agg #[.int .i64 a, .int .i64 b, .int .i64 c, .bool false], .int .u8 n] w fun e w' => e = .returned (.bool true) ∧ Below w.heap.size w w' := by
  have A1 := and_65535
  have A2 := and_1
  have P1 := rot_carry_f a c
  have P0 : op false a = a % 65536 := rfl
  obtain ⟨n0, n1⟩ := hn
  obtain ⟨k, hk⟩ : ∃ k : Nat, n % 16 = (k : Int) := ⟨(n % 16).toNat, by omega⟩
  have hk16 : k < 16 := by omega
  have T1 : wrap64 (a * 2 ^ k) % 65536 = a * 2 ^ k % 65536 := by generalize a * 2 ^ k = z; unfold wrap64; omega
  go_enter Tryd.func4, Tryd.ntmps4
  go_wp2_with fail
  have hS := box4_new w a b c false
  have W := W.below ((Below.refl w.heap.size w).alloc (Nat.le_refl _) (.cells #[.int .i64 a, .int .i64 b, .int .i64 c, .bool false] 30))
  have hB := (Below.refl w.heap.size w).alloc (Nat.le_refl _) (.cells #[.int .i64 a, .int .i64 b, .int .i64 c, .bool false] 30)
  generalize w.alloc (.cells #[.int .i64 a, .int .i64 b, .int .i64 c, .bool false] 30) = w2 at hS W hB ⊢
  have c0 := hS.1
  have c1 := hS.2.1
  have c2 := hS.2.2.1
  have c3 := hS.2.2.2.1
  refine (Rotate_any true false a c _ W).mono ?_
  rintro e w' ⟨rfl, hb⟩
  have W := W.below hb
  have hB := hB.trans (hb.mono hB.size)
  have hS := box4_step hS hb
  have c0 := hS.1
  have c1 := hS.2.1
  have c2 := hS.2.2.1
  have c3 := hS.2.2.2.1
  clear hb
  go_wp2_with fail
  refine (Rot_back false a c _ W).mono ?_
  rintro e w' ⟨rfl, hb⟩
  have W := W.below hb
  have hB := hB.trans (hb.mono hB.size)
  have hS := box4_step hS hb
  have c0 := hS.1
  have c1 := hS.2.1
  have c2 := hS.2.2.1
  have c3 := hS.2.2.2.1
  clear hb
  go_wp2_with fail
  refine (Shift_up a k hk16 _ W).mono ?_
  rintro e w' ⟨rfl, hb⟩
  have W := W.below hb
  have hB := hB.trans (hb.mono hB.size)
  have hS := box4_step hS hb
  have c0 := hS.1
  have c1 := hS.2.1
  have c2 := hS.2.2.1
  have c3 := hS.2.2.2.1
  clear hb
  go_wp2_with fail
  refine (Shift_down a k hk16 _ W).mono ?_
  rintro e w' ⟨rfl, hb⟩
  have W := W.below hb
  have hB := hB.trans (hb.mono hB.size)
  have hS := box4_step hS hb
  have c0 := hS.1
  have c1 := hS.2.1
  have c2 := hS.2.2.1
  have c3 := hS.2.2.2.1
  clear hb
  go_wp2_with (first | (go_at_call 5; refine (sigm_any _ _).mono ?_; rintro e w' ⟨rfl, rfl⟩) | (go_at_call 8; refine (alive_any _ W).mono ?_; rintro e w' ⟨rfl, hb⟩; have hB := hB.trans (hb.mono hB.size); clear hb))
  go_ret
  exact ⟨rfl, hB⟩

set_option maxHeartbeats 4000000 in
theorem WordTurns_t (a b c n : Int) (w : World) (W : Wid w) (hn : 0 ≤ n ∧ n ≤ 255) :
    Calls Tryd.prog 4 #[.agg #[.int .i64 a, .int .i64 b, .int .i64 c, .bool true], .int .u8 n] w fun e w' => e = .returned (.bool true) ∧ Below w.heap.size w w' := by
  have A1 := and_255
  have A3 := and_65535
  have A2 := and_1
  have P1 := rot_carry_t a c
  have P0 : op true a = a % 256 := rfl
  obtain ⟨n0, n1⟩ := hn
  obtain ⟨k, hk⟩ : ∃ k : Nat, n % 16 = (k : Int) := ⟨(n % 16).toNat, by omega⟩
  have hk16 : k < 16 := by omega
  have T1 : wrap64 (a * 2 ^ k) % 65536 = a * 2 ^ k % 65536 := by generalize a * 2 ^ k = z; unfold wrap64; omega
  go_enter Tryd.func4, Tryd.ntmps4
  go_wp2_with fail
  have hS := box4_new w a b c true
  have W := W.below ((Below.refl w.heap.size w).alloc (Nat.le_refl _) (.cells #[.int .i64 a, .int .i64 b, .int .i64 c, .bool true] 30))
  have hB := (Below.refl w.heap.size w).alloc (Nat.le_refl _) (.cells #[.int .i64 a, .int .i64 b, .int .i64 c, .bool true] 30)
  generalize w.alloc (.cells #[.int .i64 a, .int .i64 b, .int .i64 c, .bool true] 30) = w2 at hS W hB ⊢
  have c0 := hS.1
  have c1 := hS.2.1
  have c2 := hS.2.2.1
  have c3 := hS.2.2.2.1
  refine (Rotate_any true true a c _ W).mono ?_
  rintro e w' ⟨rfl, hb⟩
  have W := W.below hb
  have hB := hB.trans (hb.mono hB.size)
  have hS := box4_step hS hb
  have c0 := hS.1
  have c1 := hS.2.1
  have c2 := hS.2.2.1
  have c3 := hS.2.2.2.1
  clear hb
  go_wp2_with fail
  refine (Rot_back true a c _ W).mono ?_
  rintro e w' ⟨rfl, hb⟩
  have W := W.below hb
  have hB := hB.trans (hb.mono hB.size)
  have hS := box4_step hS hb
  have c0 := hS.1
  have c1 := hS.2.1
  have c2 := hS.2.2.1
  have c3 := hS.2.2.2.1
  clear hb
  go_wp2_with fail
  refine (Shift_up a k hk16 _ W).mono ?_
  rintro e w' ⟨rfl, hb⟩
  have W := W.below hb
  have hB := hB.trans (hb.mono hB.size)
  have hS := box4_step hS hb
  have c0 := hS.1
  have c1 := hS.2.1
  have c2 := hS.2.2.1
  have c3 := hS.2.2.2.1
  clear hb
  go_wp2_with fail
  refine (Shift_down a k hk16 _ W).mono ?_
  rintro e w' ⟨rfl, hb⟩
  have W := W.below hb
  have hB := hB.trans (hb.mono hB.size)
  have hS := box4_step hS hb
  have c0 := hS.1
  have c1 := hS.2.1
  have c2 := hS.2.2.1
  have c3 := hS.2.2.2.1
  clear hb
  go_wp2_with (first | (go_at_call 5; refine (sigm_any _ _).mono ?_; rintro e w' ⟨rfl, rfl⟩) | (go_at_call 8; refine (alive_any _ W).mono ?_; rintro e w' ⟨rfl, hb⟩; have hB := hB.trans (hb.mono hB.size); clear hb))
  go_ret
  exact ⟨rfl, hB⟩

theorem WordTurns_walk (a b c : Int) (y : Bool) (n : Int) (w : World) (W : Wid w) (hn : (Lit.int .u8 n).wf = true) :
    Calls Tryd.prog 4 #[.agg #[.int .i64 a, .int .i64 b, .int .i64 c, .bool y], .int .u8 n] w fun e w' => e = .returned (.bool true) ∧ Below w.heap.size w w' := by
  have h : 0 ≤ n ∧ n ≤ 255 := by
    simp [Lit.wf, IntKind.min, IntKind.max, IntKind.bits, IntKind.signed] at hn
    omega
  cases y
  · exact WordTurns_f a b c n w W h
  · exact WordTurns_t a b c n w W h

end Go.Proofs.YtlcngnnlimhjmabDoor
