/-
  Walks over the calls of package octet and of its reference that read a number out of bytes. No condition but that the bytes of one number are at most seven.
-/
import Derived.Test.YtbcnehjpondplaaDoorProg
import Derived.Test.YtbcnehjpondplaaDoorOctB
import Derived.WalkKit
import Derived.WalkSpells
import Derived.WalkLawsBesides
import Derived.Deep.RegionHeld3
import Derived.Deep.DeepCutAuto
import Derived.Deep.QuietTactic
import Derived.BigQuiet
import Derived.KernelRfl
import Derived.Laws.DeepStrings4
import Derived.Laws.BitsLemmas
import Derived.Lib.Strings
namespace Go.Proofs.YtbcnehjpondplaaDoor
open Go.RowKit
set_option linter.unusedSimpArgs false

def Hid (p : Prop) : Prop := p
theorem hid {p : Prop} (h : p) : Hid p := h
theorem ret_bool {a b : Bool} (h : a = b) : Ending.returned (.bool a) = .returned (.bool b) := by rw [h]
theorem ret_int {k : IntKind} {a b : Int} (h : a = b) : Ending.returned (.int k a) = .returned (.int k b) := by rw [h]
theorem size_len (s : ByteArray) : s.data.toList.length = s.size := rfl
theorem byte_at (s : ByteArray) (k : Nat) (h : k < s.size) : s[k]'h = s.data.toList.getD k 0 := by
  obtain ⟨⟨l⟩⟩ := s
  have hl : k < l.length := h
  simp only [List.getD, List.getElem?_eq_getElem hl, Option.getD_some]
  rfl
theorem drop_at (l : List UInt8) (k : Nat) (h : k < l.length) : l.drop k = l.getD k 0 :: l.drop (k + 1) := by
  rw [List.drop_eq_getElem_cons h]
  congr 1
  simp [List.getD, h]
theorem take_at (l : List UInt8) (k : Nat) (h : k < l.length) : l.take (k + 1) = l.take k ++ [l.getD k 0] := by
  rw [List.take_succ_eq_append_getElem h]
  simp [List.getD, h]
theorem wraps_i64 (n : Int) (h₀ : 0 ≤ n) (h₁ : n < 2 ^ 62) : IntKind.i64.wrap n = n := by
  rw [IntKind.wrap_i64]
  have : (2 : Int) ^ 62 = 4611686018427387904 := by decide
  omega
/-- One byte more in a number of at most seven bytes. -/
theorem or_step (l : List UInt8) (k : Nat) (h : k < l.length) (h7 : l.length ≤ 7) :
    bits .or .i64 (getN (l.take k) : Int) (((l.getD k 0).toNat * 2 ^ (8 * k) : Nat) : Int) = (getN (l.take (k + 1)) : Int) ∧ (l.getD k 0).toNat * 2 ^ (8 * k) < 2 ^ 62 := by
  have hl : (l.take k).length = k := by rw [List.length_take]; omega
  have h1 := getN_or (l.take k) (l.getD k 0)
  rw [hl, ← take_at l k h] at h1
  have hc := UInt8.toNat_lt (l.getD k 0)
  have hp : 2 ^ (8 * k) ≤ 2 ^ 48 := Nat.pow_le_pow_right (by decide) (by omega)
  have hb : (l.getD k 0).toNat * 2 ^ (8 * k) < 2 ^ 62 := by
    have := Nat.mul_le_mul (Nat.le_of_lt hc) hp
    have : 2 ^ 8 * 2 ^ 48 < 2 ^ 62 := by decide
    omega
  have ha : getN (l.take k) < 2 ^ 62 := by
    have h2 := getN_lt (l.take k)
    rw [hl] at h2
    have : 256 ^ k ≤ 256 ^ 7 := Nat.pow_le_pow_right (by decide) (by omega)
    have : 256 ^ 7 < 2 ^ 62 := by decide
    omega
  refine ⟨?_, hb⟩
  rw [(bits_nat .i64 62 (by decide) wraps_i64 _ _ ha hb).2, h1]

theorem w64_id (n : Int) (h₀ : 0 ≤ n) (h₁ : n < 2 ^ 62) : wrap64 n = n := by
  have e2 : (2 : Int) ^ 62 = 4611686018427387904 := by decide
  unfold wrap64; omega
theorem w64_step (c : UInt8) (k : Nat) (hb : c.toNat * 2 ^ (8 * k) < 2 ^ 62) : wrap64 (wrap64 (c.toNat : Int) * 2 ^ (8 * k)) = ((c.toNat * 2 ^ (8 * k) : Nat) : Int) := by
  have hc := UInt8.toNat_lt c
  have e2 : (2 : Int) ^ 62 = 4611686018427387904 := by decide
  have e3 : 2 ^ 62 = 4611686018427387904 := by decide
  rw [w64_id (c.toNat : Int) (by omega) (by omega)]
  have e : (c.toNat : Int) * 2 ^ (8 * k) = ((c.toNat * 2 ^ (8 * k) : Nat) : Int) := by simp
  rw [e]
  exact w64_id _ (by omega) (by omega)

theorem number_any (s : ByteArray) (hs : s.size ≤ 7) (w : World) :
    Calls Tryd.prog 31 #[.string s] w fun e w' => e = .returned (.int .i64 (getN s.data.toList)) ∧ w = w' := by
  have hsz := size_len s
  go_enter Tryd.func31, Tryd.ntmps31
  go_wp2
  go_loop [3, 7] (fun n i => ∃ k : Nat, k ≤ s.size ∧ i = .int .i64 k ∧ n = .int .i64 (getN (s.data.toList.take k)))
                     (fun _ i => match i with | .int _ q => s.size - q.toNat | _ => 0)
  case atStart => exact ⟨0, Nat.zero_le _, rfl, rfl⟩
  case round =>
    obtain ⟨k, hk, rfl, rfl⟩ := hrel
    by_cases hkl : k < s.size
    · have hix : ∀ h : k < s.size, s[k]'h = s.data.toList.getD k 0 := fun h => byte_at s k h
      obtain ⟨ho, hb⟩ := or_step s.data.toList k (by omega) (by omega)
      generalize hc : s.data.toList.getD k 0 = c at *
      generalize getN (s.data.toList.take k) = n at *
      generalize hm : getN (s.data.toList.take (k + 1)) = m at *
      go_wp2
      refine ⟨⟨k + 1, by omega, by go_num, ?_⟩, ?_⟩
      · rw [w64_step c k hb, ho, hm]
      · simp only; omega
    · have hkk : s.data.toList.take k = s.data.toList := List.take_of_length_le (by omega)
      rw [hkk]
      go_wp2
      go_ret
      exact ⟨rfl, rfl⟩

/-! ### Get -/
def gV (x : Int × Int × Int) : Value := .tuple #[.int .i64 x.1, .int .i64 x.2.1, .int .i64 x.2.2]
theorem cut_list (s : ByteArray) (i j : Nat) : (s.extract i j).data.toList = (s.data.toList.drop i).take (j - i) := by
  rw [ByteArray.data_extract, Array.toList_extract]
theorem inside_any (s : ByteArray) (a : Int) (w : World) :
    Calls Tryd.prog 30 #[.string s, .int .i64 a] w fun e w' => e = .returned (.bool (decide (0 ≤ a) && decide (a ≤ s.size))) ∧ w = w' := by
  by_cases h : 0 ≤ a
  · rw [decide_eq_true h, Bool.true_and]
    go_enter Tryd.func30, Tryd.ntmps30
    go_wp2
    go_ret
    exact ⟨rfl, rfl⟩
  · rw [decide_eq_false h, Bool.false_and]
    go_enter Tryd.func30, Tryd.ntmps30
    go_wp2
    go_ret
    exact ⟨rfl, rfl⟩
theorem getI_arg {l : List UInt8} {a w : Int} (h : w < 1 ∨ 7 < w ∨ a < 0 ∨ (l.length : Int) < a) : getI l a w = (0, 0, 1) := if_pos h
theorem getI_short {l : List UInt8} {a w : Int} (h : ¬ (w < 1 ∨ 7 < w ∨ a < 0 ∨ (l.length : Int) < a)) (h2 : (l.length : Int) - a < w) : getI l a w = (0, 0, 8) := by
  unfold getI; rw [if_neg h, if_pos h2]
theorem getI_ok {l : List UInt8} {a w : Int} (h : ¬ (w < 1 ∨ 7 < w ∨ a < 0 ∨ (l.length : Int) < a)) (h2 : ¬ (l.length : Int) - a < w) : getI l a w = ((getN ((l.drop a.toNat).take w.toNat) : Int), a + w, 0) := by
  unfold getI; rw [if_neg h, if_neg h2]

theorem get_any (s : ByteArray) (a b : Int) (hs : s.size ≤ 9223372036854775807) (w : World) :
    Calls Tryd.prog 13 #[.string s, .int .i64 a, .int .i64 b] w fun e w' => e = .returned (gV (getI s.data.toList a b)) ∧ w = w' := by
  have hsz := size_len s
  have hin := fun w => inside_any s a w
  by_cases h : b < 1 ∨ 7 < b ∨ a < 0 ∨ (s.data.toList.length : Int) < a
  · rw [getI_arg h]
    have hi2 : ¬ (b < 1 ∨ 7 < b) → (decide (0 ≤ a) && decide (a ≤ s.size)) = false := by
      intro h1
      rcases (show a < 0 ∨ (s.size : Int) < a by omega) with h2 | h2
      · rw [decide_eq_false (by omega)]; rfl
      · rw [decide_eq_false (p := a ≤ s.size) (by omega), Bool.and_false]
    generalize (decide (0 ≤ a) && decide (a ≤ s.size)) = I at *
    by_cases h1 : b < 1
    · clear hi2 h
      go_enter Tryd.func13, Tryd.ntmps13
      go_wp2
      go_ret3
      exact ⟨rfl, rfl⟩
    · by_cases h2 : 7 < b
      · clear hi2 h
        go_enter Tryd.func13, Tryd.ntmps13
        go_wp2
        go_ret3
        exact ⟨rfl, rfl⟩
      · obtain rfl := hi2 (by omega)
        clear hi2 h
        go_enter Tryd.func13, Tryd.ntmps13
        go_wp2_with (first | (go_at_call 30; with_reducible refine (hin _).mono ?_; rintro e w' ⟨rfl, rfl⟩))
        go_ret3
        exact ⟨rfl, rfl⟩
  · have hI : (decide (0 ≤ a) && decide (a ≤ s.size)) = true := by simp; omega
    rw [hI] at hin
    by_cases h2 : (s.data.toList.length : Int) - a < b
    · rw [getI_short h h2]
      obtain ⟨k, rfl⟩ := Int.eq_ofNat_of_zero_le (show 0 ≤ a by omega)
      obtain ⟨m, rfl⟩ := Int.eq_ofNat_of_zero_le (show 0 ≤ b by omega)
      have hk : k ≤ s.size := by omega
      have hm : 1 ≤ m ∧ m ≤ 7 := by omega
      have h3 : s.size < k + m := by omega
      clear h h2
      go_enter Tryd.func13, Tryd.ntmps13
      go_wp2_with (first | (go_at_call 30; with_reducible refine (hin _).mono ?_; rintro e w' ⟨rfl, rfl⟩))
      go_ret3
      exact ⟨rfl, rfl⟩
    · rw [getI_ok h h2]
      obtain ⟨k, rfl⟩ := Int.eq_ofNat_of_zero_le (show 0 ≤ a by omega)
      obtain ⟨m, rfl⟩ := Int.eq_ofNat_of_zero_le (show 0 ≤ b by omega)
      have hm : 1 ≤ m ∧ m ≤ 7 := by omega
      have h3 : k + m ≤ s.size := by omega
      clear h h2
      have hxl := cut_list s k (k + m)
      have hxs : (s.extract k (k + m)).size = m := by rw [← size_len, hxl, List.length_take, List.length_drop]; omega
      have hnum := fun w => number_any (s.extract k (k + m)) (by omega) w
      rw [hxl, show k + m - k = m by omega] at hnum
      simp only [Int.toNat_natCast]
      generalize getN ((s.data.toList.drop k).take m) = G at *
      go_enter Tryd.func13, Tryd.ntmps13
      go_wp2_with (first
        | (go_at_call 30; with_reducible refine (hin _).mono ?_; rintro e w' ⟨rfl, rfl⟩)
        | (go_at_call 31; with_reducible refine (hnum _).mono ?_; rintro e w' ⟨rfl, rfl⟩))
      go_ret3
      exact ⟨rfl, rfl⟩

/-! ### Get of the reference -/
theorem get_step (l : List UInt8) (k : Nat) (h : k < l.length) : getN (l.drop k) = (l.getD k 0).toNat + 256 * getN (l.drop (k + 1)) := by
  rw [drop_at l k h, getN]
theorem seg_step (l : List UInt8) (k m j : Nat) (h : k + j < l.length) (hj : j < m) : getN (((l.drop k).take m).drop j) = (l.getD (k + j) 0).toNat + 256 * getN (((l.drop k).take m).drop (j + 1)) := by
  rw [get_step _ j (by rw [List.length_take, List.length_drop]; omega)]
  congr 2
  simp [List.getD, List.getElem?_take, List.getElem?_drop, hj]
theorem seg_lt (l : List UInt8) (m j : Nat) (hm : m ≤ 7) : getN ((l.take m).drop (j + 1)) < 281474976710656 := by
  have h := getN_lt ((l.take m).drop (j + 1))
  have hl : ((l.take m).drop (j + 1)).length ≤ 6 := by rw [List.length_drop, List.length_take]; omega
  have : 256 ^ ((l.take m).drop (j + 1)).length ≤ 256 ^ 6 := Nat.pow_le_pow_right (by decide) hl
  have e : 256 ^ 6 = 281474976710656 := by decide
  omega
theorem w64_add (n : Nat) (c : UInt8) (h : n < 281474976710656) : wrap64 (wrap64 (256 * (n : Int)) + (c.toNat : Int)) = ((c.toNat + 256 * n : Nat) : Int) := by
  have hc := UInt8.toNat_lt c
  unfold wrap64; omega

theorem rget_any (s : ByteArray) (a b : Int) (hs : s.size ≤ 9223372036854775807) (w : World) :
    Calls Tryd.prog 14 #[.string s, .int .i64 a, .int .i64 b] w fun e w' => e = .returned (gV (getI s.data.toList a b)) ∧ w = w' := by
  have hsz := size_len s
  by_cases h : b < 1 ∨ 7 < b ∨ a < 0 ∨ (s.data.toList.length : Int) < a
  · rw [getI_arg h]
    by_cases h1 : b < 1
    · clear h
      go_enter Tryd.func14, Tryd.ntmps14
      go_wp2
      go_ret3
      exact ⟨rfl, rfl⟩
    · by_cases h2 : 7 < b
      · clear h
        go_enter Tryd.func14, Tryd.ntmps14
        go_wp2
        go_ret3
        exact ⟨rfl, rfl⟩
      · by_cases h3 : a < 0
        · clear h
          go_enter Tryd.func14, Tryd.ntmps14
          go_wp2
          go_ret3
          exact ⟨rfl, rfl⟩
        · have h4 : (s.size : Int) < a := by omega
          clear h
          go_enter Tryd.func14, Tryd.ntmps14
          go_wp2
          go_ret3
          exact ⟨rfl, rfl⟩
  · by_cases h2 : (s.data.toList.length : Int) - a < b
    · rw [getI_short h h2]
      obtain ⟨k, rfl⟩ := Int.eq_ofNat_of_zero_le (show 0 ≤ a by omega)
      obtain ⟨m, rfl⟩ := Int.eq_ofNat_of_zero_le (show 0 ≤ b by omega)
      have hk : k ≤ s.size := by omega
      have hm : 1 ≤ m ∧ m ≤ 7 := by omega
      have h3 : s.size < k + m := by omega
      clear h h2
      go_enter Tryd.func14, Tryd.ntmps14
      go_wp2
      go_ret3
      exact ⟨rfl, rfl⟩
    · rw [getI_ok h h2]
      obtain ⟨k, rfl⟩ := Int.eq_ofNat_of_zero_le (show 0 ≤ a by omega)
      obtain ⟨m, rfl⟩ := Int.eq_ofNat_of_zero_le (show 0 ≤ b by omega)
      have hm : 1 ≤ m ∧ m ≤ 7 := by omega
      have h3 : k + m ≤ s.size := by omega
      clear h h2
      simp only [Int.toNat_natCast]
      have hd : decide (s.size < k) = false := decide_eq_false (by omega)
      go_enter Tryd.func14, Tryd.ntmps14
      go_wp2
      go_loop [9, 10] (fun n i => ∃ j : Nat, j ≤ m ∧ i = .int .i64 ((k : Int) + j - 1) ∧ n = .int .i64 (getN (((s.data.toList.drop k).take m).drop j)))
                     (fun _ i => match i with | .int _ q => (q + 1).toNat | _ => 0)
      case atStart =>
        refine ⟨m, by omega, by go_num, ?_⟩
        rw [List.drop_eq_nil_of_le (by rw [List.length_take]; omega)]; rfl
      case round =>
        obtain ⟨j, hj, rfl, rfl⟩ := hrel
        by_cases hj0 : 0 < j
        · obtain ⟨i, rfl⟩ : ∃ i, j = i + 1 := ⟨j - 1, by omega⟩
          have hix : ∀ h : k + i < s.size, s[k + i]'h = s.data.toList.getD (k + i) 0 := fun h => byte_at s (k + i) h
          have hst := seg_step s.data.toList k m i (by omega) (by omega)
          have hlt := seg_lt (s.data.toList.drop k) m i hm.2
          have e : (k : Int) + ((i + 1 : Nat) : Int) - 1 = ((k + i : Nat) : Int) := by omega
          rw [e]
          generalize s.data.toList.getD (k + i) 0 = c at *
          generalize getN (((s.data.toList.drop k).take m).drop (i + 1)) = n at *
          have hc := UInt8.toNat_lt c
          have hi1 : k + i < s.size := by omega
          have hi2 : k ≤ k + i := by omega
          go_wp2
          refine ⟨⟨i, by omega, by go_num, ?_⟩, ?_⟩
          · rw [hst]; go_num
          · simp only; omega
        · obtain rfl : j = 0 := by omega
          go_wp2
          go_ret3
          exact ⟨rfl, rfl⟩

end Go.Proofs.YtbcnehjpondplaaDoor
