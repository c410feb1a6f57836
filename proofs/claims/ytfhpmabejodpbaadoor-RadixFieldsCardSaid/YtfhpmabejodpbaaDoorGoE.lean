/-
  Walks over strconv.FormatInt and over Format and Pad of package radix. Condition: the tables of the library hold what their initialisers lay.
-/
import Derived.Test.YtfhpmabejodpbaaDoorGoB
import Derived.Test.YtfhpmabejodpbaaDoorGoD
namespace Go.Proofs.YtfhpmabejodpbaaDoor
open Go.RowKit
set_option linter.unusedSimpArgs false

theorem ba_app (a b : Array UInt8) : ((⟨a⟩ : ByteArray) ++ ⟨b⟩) = ⟨a ++ b⟩ := by apply ByteArray.ext; simp [ByteArray.data_append]

set_option maxHeartbeats 400000 in
theorem iformat_8 (n : Int) (h0 : -9223372036854775808 ≤ n) (h1 : n ≤ 9223372036854775807) (w : World) (W : Tabs w) :
    Calls Tryd.prog 37 #[.int .i64 n, .int .i64 8] w fun e w' => e = .returned (.string ⟨(fmtL n 8).toArray⟩) ∧ Below w.heap.size w w' := by
  by_cases hn : n < 0
  · obtain ⟨U, rfl⟩ : ∃ U : Nat, n = -(U : Int) := ⟨n.natAbs, by omega⟩
    have hw : IntKind.u64.wrap (-(U : Int)) = 18446744073709551616 - (U : Int) := by rw [IntKind.wrap_u64]; omega
    have hf : fmtL (-(U : Int)) 8 = 45 :: digs 8 U := by rw [fmtL, if_pos hn, show (-(U : Int)).natAbs = U by omega]
    have hN : (decide (0 < U)) = true := by simp; omega
    have hc := fun w W => fbits_8_neg U (by omega) (by omega) w W
    rw [hf]
    clear hf
    go_enter Tryd.func37, Tryd.ntmps37
    go_wp2_with (first | (go_at_call 49; refine (hc _ W).mono ?_; rintro e w' ⟨rfl, hb⟩))
    go_ret
    exact ⟨rfl, by assumption⟩
  · obtain ⟨U, rfl⟩ : ∃ U : Nat, n = (U : Int) := ⟨n.toNat, by omega⟩
    have hw : IntKind.u64.wrap (U : Int) = (U : Int) := by rw [IntKind.wrap_u64]; omega
    have hf : fmtL (U : Int) 8 = digs 8 U := by rw [fmtL, if_neg hn]; rfl
    have hc := fun w W => fbits_8_pos U (by omega) w W
    rw [hf]
    clear hf
    go_enter Tryd.func37, Tryd.ntmps37
    go_wp2_with (first | (go_at_call 49; refine (hc _ W).mono ?_; rintro e w' ⟨rfl, hb⟩))
    go_ret
    exact ⟨rfl, by assumption⟩
set_option maxHeartbeats 400000 in
theorem sformat_8 (n : Int) (h0 : -9223372036854775808 ≤ n) (h1 : n ≤ 9223372036854775807) (w : World) (W : Tabs w) :
    Calls Tryd.prog 23 #[.int .i64 n, .int .i64 8] w fun e w' => e = .returned (.string ⟨(fmtL n 8).toArray⟩) ∧ Below w.heap.size w w' := by
  go_enter Tryd.func23, Tryd.ntmps23
  go_wp2_with (first | (go_at_call 37; refine (iformat_8 n h0 h1 _ W).mono ?_; rintro e w' ⟨rfl, hb⟩))
  go_ret
  exact ⟨rfl, by assumption⟩

set_option maxHeartbeats 400000 in
theorem iformat_16 (n : Int) (h0 : -9223372036854775808 ≤ n) (h1 : n ≤ 9223372036854775807) (w : World) (W : Tabs w) :
    Calls Tryd.prog 37 #[.int .i64 n, .int .i64 16] w fun e w' => e = .returned (.string ⟨(fmtL n 16).toArray⟩) ∧ Below w.heap.size w w' := by
  by_cases hn : n < 0
  · obtain ⟨U, rfl⟩ : ∃ U : Nat, n = -(U : Int) := ⟨n.natAbs, by omega⟩
    have hw : IntKind.u64.wrap (-(U : Int)) = 18446744073709551616 - (U : Int) := by rw [IntKind.wrap_u64]; omega
    have hf : fmtL (-(U : Int)) 16 = 45 :: digs 16 U := by rw [fmtL, if_pos hn, show (-(U : Int)).natAbs = U by omega]
    have hN : (decide (0 < U)) = true := by simp; omega
    have hc := fun w W => fbits_16_neg U (by omega) (by omega) w W
    rw [hf]
    clear hf
    go_enter Tryd.func37, Tryd.ntmps37
    go_wp2_with (first | (go_at_call 49; refine (hc _ W).mono ?_; rintro e w' ⟨rfl, hb⟩))
    go_ret
    exact ⟨rfl, by assumption⟩
  · obtain ⟨U, rfl⟩ : ∃ U : Nat, n = (U : Int) := ⟨n.toNat, by omega⟩
    have hw : IntKind.u64.wrap (U : Int) = (U : Int) := by rw [IntKind.wrap_u64]; omega
    have hf : fmtL (U : Int) 16 = digs 16 U := by rw [fmtL, if_neg hn]; rfl
    have hc := fun w W => fbits_16_pos U (by omega) w W
    rw [hf]
    clear hf
    go_enter Tryd.func37, Tryd.ntmps37
    go_wp2_with (first | (go_at_call 49; refine (hc _ W).mono ?_; rintro e w' ⟨rfl, hb⟩))
    go_ret
    exact ⟨rfl, by assumption⟩
set_option maxHeartbeats 400000 in
theorem sformat_16 (n : Int) (h0 : -9223372036854775808 ≤ n) (h1 : n ≤ 9223372036854775807) (w : World) (W : Tabs w) :
    Calls Tryd.prog 23 #[.int .i64 n, .int .i64 16] w fun e w' => e = .returned (.string ⟨(fmtL n 16).toArray⟩) ∧ Below w.heap.size w w' := by
  go_enter Tryd.func23, Tryd.ntmps23
  go_wp2_with (first | (go_at_call 37; refine (iformat_16 n h0 h1 _ W).mono ?_; rintro e w' ⟨rfl, hb⟩))
  go_ret
  exact ⟨rfl, by assumption⟩

theorem sformat_any (n b : Int) (hb : isB b = true) (h0 : -9223372036854775808 ≤ n) (h1 : n ≤ 9223372036854775807) (w : World) (W : Tabs w) :
    Calls Tryd.prog 23 #[.int .i64 n, .int .i64 b] w fun e w' => e = .returned (.string ⟨(fmt n b).toArray⟩) ∧ Below w.heap.size w w' := by
  rw [fmt_is hb]
  rcases isB_cases hb with rfl | rfl | rfl
  · exact sformat_8 n h0 h1 w W
  · refine (Tryd.strconv_FormatInt_10 n h0 h1 w W.pow).mono ?_
    rintro e w' ⟨rfl, k, os, rfl⟩
    exact ⟨by rw [show (10 : Int).toNat = 10 from rfl, fmtL_ten], below_grow w k os⟩
  · exact sformat_16 n h0 h1 w W

set_option maxHeartbeats 400000 in
theorem format_any (n b : Int) (h0 : -9223372036854775808 ≤ n) (h1 : n ≤ 9223372036854775807) (w : World) (W : Tabs w) :
    Calls Tryd.prog 8 #[.int .i64 n, .int .i64 b] w fun e w' => e = .returned (.string ⟨(fmt n b).toArray⟩) ∧ Below w.heap.size w w' := by
  by_cases hb : isB b = true
  · go_enter Tryd.func8, Tryd.ntmps8
    go_wp2_with (first
      | (go_at_call 22; refine (isBase_any _ _).mono ?_; rintro e w' ⟨rfl, rfl⟩)
      | (go_at_call 23; refine (sformat_any n b hb h0 h1 _ W).mono ?_; rintro e w' ⟨rfl, hb⟩))
    go_ret
    exact ⟨rfl, by assumption⟩
  · have hb : isB b = false := by simpa using hb
    rw [fmt_not hb]
    go_enter Tryd.func8, Tryd.ntmps8
    go_wp2_with (first | (go_at_call 22; refine (isBase_any _ _).mono ?_; rintro e w' ⟨rfl, rfl⟩))
    go_ret
    exact ⟨rfl, Below.refl _ _⟩

set_option maxHeartbeats 400000 in
theorem pad_bad (n b x : Int) (h : n < 0 ∨ isB b = false) (w : World) :
    Calls Tryd.prog 10 #[.int .i64 n, .int .i64 b, .int .i64 x] w fun e w' => e = .returned (.string ⟨(pad n b x).toArray⟩) ∧ Below w.heap.size w w' := by
  rw [pad_not h]
  by_cases hn : n < 0
  · go_enter Tryd.func10, Tryd.ntmps10
    go_wp2
    go_ret
    exact ⟨rfl, Below.refl _ _⟩
  · have hb : isB b = false := by rcases h with h | h; exact absurd h hn; exact h
    go_enter Tryd.func10, Tryd.ntmps10
    go_wp2_with (first | (go_at_call 22; refine (isBase_any _ _).mono ?_; rintro e w' ⟨rfl, rfl⟩))
    go_ret
    exact ⟨rfl, Below.refl _ _⟩

set_option maxHeartbeats 400000 in
theorem pad_any (n b x : Int) (h0 : -9223372036854775808 ≤ n) (h1 : n ≤ 9223372036854775807) (w : World) (W : Tabs w) :
    Calls Tryd.prog 10 #[.int .i64 n, .int .i64 b, .int .i64 x] w fun e w' => e = .returned (.string ⟨(pad n b x).toArray⟩) ∧ Below w.heap.size w w' := by
  by_cases hbad : n < 0 ∨ isB b = false
  · exact pad_bad n b x hbad w
  · have hn : ¬ n < 0 := fun h => hbad (Or.inl h)
    have hb : isB b = true := by simpa using fun h => hbad (Or.inr h)
    rw [pad_is hbad]
    have hfl := fmt_len n b h0 h1
    have hfm := fun w W => format_any n b h0 h1 w W
    generalize fmt n b = F at *
    have hF : ByteArray.size ⟨F.toArray⟩ = F.length := by simp [ByteArray.size]
    have hZ : max 0 (max 0 (min x 64) - (F.length : Int)) = ((wid x - F.length : Nat) : Int) := by unfold wid; omega
    have hrp := fun w => Tryd.strings_Repeat ⟨#[48]⟩ (wid x - F.length) w (by have := wid_le x; omega) (by have := wid_le x; show 1 * _ ≤ _; omega)
    have hre : Lib.repeatL [48] (wid x - F.length) = List.replicate (wid x - F.length) 48 := by have h := Lib.repeatL_replicate 48 1 (wid x - F.length); rw [Nat.mul_one] at h; exact h
    simp only [hre] at hrp
    have hwl : wid x - F.length ≤ 64 := by have := wid_le x; omega
    generalize wid x - F.length = Z at *
    go_enter Tryd.func10, Tryd.ntmps10
    go_wp2_with (first
      | (go_at_call 22; refine (isBase_any _ _).mono ?_; rintro e w' ⟨rfl, rfl⟩)
      | (go_at_call 8; refine (hfm _ W).mono ?_; rintro e w1 ⟨rfl, hb1⟩)
      | (go_at_call 26; refine (hrp _).mono ?_; rintro e w2 ⟨rfl, hb2⟩))
    go_ret
    refine ⟨?_, hb1.trans (hb2.mono hb1.size)⟩
    rw [ba_app]
    simp

end Go.Proofs.YtfhpmabejodpbaaDoor
