/-
  Walks over Parse of package radix and of its reference, whatever the text and the base. Condition: the text is no longer than an int says.
-/
import Derived.Test.YtfhpmabejodpbaaDoorGoA
namespace Go.Proofs.YtfhpmabejodpbaaDoor
open Go.RowKit
set_option linter.unusedSimpArgs false

theorem prsV_not {l : List UInt8} {b : Int} (h : isB b = false) : prsV l b = .tuple #[.int .i64 0, .int .i64 1] := by unfold prsV prs; rw [if_pos h]
theorem prsV_nil {b : Int} (h : isB b = true) : prsV [] b = .tuple #[.int .i64 0, .int .i64 3] := by unfold prsV prs; rw [h, if_neg (by decide), if_pos rfl]
theorem nil_of_size {s : ByteArray} (h : s.size = 0) : s.data.toList = [] := by rw [← size_len] at h; exact List.eq_nil_of_length_eq_zero h
theorem is_empty {s : ByteArray} (h : s.size = 0) : s.toList.isEmpty = true := by rw [Lib.toList_data, nil_of_size h]; rfl

set_option maxHeartbeats 400000 in
theorem parse_any (s : ByteArray) (b : Int) (hs : s.size ≤ 9223372036854775807) (w : World) :
    Calls Tryd.prog 13 #[.string s, .int .i64 b] w fun e w' => e = .returned (prsV s.data.toList b) ∧ w = w' := by
  by_cases hb : isB b = true
  · by_cases hz : s.size = 0
    · have hse := is_empty hz
      rw [nil_of_size hz, prsV_nil hb]
      go_enter Tryd.func13, Tryd.ntmps13
      go_wp2_with (first | (go_at_call 22; refine (isBase_any _ _).mono ?_; rintro e w' ⟨rfl, rfl⟩))
      go_ret2
      exact ⟨rfl, rfl⟩
    · exact parse_base s b hb (by omega) hs w
  · have hb : isB b = false := by simpa using hb
    rw [prsV_not hb]
    go_enter Tryd.func13, Tryd.ntmps13
    go_wp2_with (first | (go_at_call 22; refine (isBase_any _ _).mono ?_; rintro e w' ⟨rfl, rfl⟩))
    go_ret2
    exact ⟨rfl, rfl⟩

set_option maxHeartbeats 1000000 in
theorem rparse_base (s : ByteArray) (b : Int) (hb : isB b = true) (hne : 0 < s.size) (hs : s.size ≤ 9223372036854775807) (w : World) :
    Calls Tryd.prog 14 #[.string s, .int .i64 b] w fun e w' => e = .returned (prsV s.data.toList b) ∧ w = w' := by
  obtain ⟨B, rfl⟩ : ∃ B : Nat, b = (B : Int) := ⟨b.toNat, by have := isB_cases hb; omega⟩
  have hB : 8 ≤ B ∧ B ≤ 16 := by have := isB_cases hb; omega
  have hP : Hid (prsV s.data.toList B = match rd B s.data.toList 0 with
    | none => .tuple #[.int .i64 0, .int .i64 3]
    | some n => if 65535 < n then .tuple #[.int .i64 0, .int .i64 2] else .tuple #[.int .i64 n, .int .i64 0]) := by
    have hl : s.data.toList ≠ [] := by intro h; have := size_len s; rw [h] at this; simp at this; omega
    unfold Hid prsV prs
    rw [hb, if_neg (by decide), if_neg hl, show ((B : Int)).toNat = B from rfl]
    cases rd B s.data.toList 0 with
    | none => rfl
    | some n => simp only; split <;> rfl
  generalize hV : prsV s.data.toList B = V at *
  clear hV
  have hse : s.toList.isEmpty = false := not_empty hne
  go_enter Tryd.func14, Tryd.ntmps14
  go_wp2_with (first | (go_at_call 24; refine (base_any _ _).mono ?_; rintro e w' ⟨rfl, rfl⟩))
  go_loop [6, 7] (fun n i => ∃ k m : Nat, k ≤ s.size ∧ i = .int .i64 k ∧ n = .int .i64 m ∧ m ≤ 65536 ∧ Hid (rd B (s.data.toList.drop k) m = rd B s.data.toList 0))
                     (fun _ i => match i with | .int _ q => s.size - q.toNat | _ => 0)
  case atStart => exact ⟨0, 0, Nat.zero_le _, rfl, rfl, by omega, rfl⟩
  case round =>
    obtain ⟨k, m, hk, rfl, rfl, hm, HS⟩ := hrel
    by_cases hkl : k < s.size
    · have hix : ∀ h : k < s.size, s[k]'h = s.data.toList.getD k 0 := fun h => byte_at s k h
      have HR := fun R => @rd_round s B k m R hkl HS
      have hR := dv_le (s.data.toList.getD k 0)
      generalize hc : s.data.toList.getD k 0 = c at *
      have hmb : m * B ≤ 65536 * 16 := Nat.mul_le_mul hm hB.2
      obtain ⟨D, hD⟩ : ∃ D, D = dv c := ⟨_, rfl⟩
      have HR := hid (HR D hD.symm)
      rw [← hD] at hR
      obtain ⟨E, hE⟩ : ∃ E, E = vl c := ⟨_, rfl⟩
      have hE1 : (D < 16 ∧ E = D) ∨ (D = 16 ∧ E = -1) := by rw [hE, hD]; unfold vl; split <;> omega
      have hdig : ∀ w, Calls Tryd.prog 28 #[.int .u8 c.toNat] w fun e w' => e = .returned (.int .i64 E) ∧ w = w' := fun w => hE ▸ value_any c w
      obtain ⟨MB, hMB⟩ : ∃ MB, MB = m * B := ⟨_, rfl⟩
      have hMB' : (m : Int) * (B : Int) = (MB : Int) := by rw [hMB]; simp
      have HMB : Hid (MB = m * B) := hMB
      rw [← hMB] at hmb
      clear hMB hD hc hE
      rcases hE1 with ⟨hD1, rfl⟩ | ⟨rfl, rfl⟩
      · go_wp2_with (first | (go_at_call 28; refine (hdig _).mono ?_; rintro e w' ⟨rfl, rfl⟩))
        · go_ret2
          refine ⟨?_, rfl⟩
          have hx : ((D : Int) < 0 ∨ B ≤ D) := by assumption
          have hle : B ≤ D := by omega
          rw [prs_none hP (by unfold Hid at HR; rw [if_pos hle] at HR; exact HR.symm)]
          rfl
        · have hx : ((0 : Int) ≤ D ∧ ¬ B ≤ D) := by assumption
          have hle : ¬ B ≤ D := hx.2
          refine ⟨⟨k + 1, min (m * B + D) 65536, by omega, by go_num, ?_, by omega, ?_⟩, ?_⟩
          · unfold Hid at HMB
            rw [← HMB]
            congr 1
            split <;> omega
          · unfold Hid at HR ⊢
            rw [if_neg hle] at HR; exact HR
          · simp only; omega
      · go_wp2_with (first | (go_at_call 28; refine (hdig _).mono ?_; rintro e w' ⟨rfl, rfl⟩))
        go_ret2
        refine ⟨?_, rfl⟩
        rw [prs_none hP (by unfold Hid at HR; rw [if_pos hB.2] at HR; exact HR.symm)]
        rfl
    · have hkk : k = s.size := by omega
      have HR : rd B s.data.toList 0 = some m := by
        have H' : rd B (s.data.toList.drop k) m = rd B s.data.toList 0 := HS
        rw [← H', List.drop_eq_nil_of_le (by rw [size_len]; omega), rd]
      have hP := hid (prs_some hP HR)
      clear HR
      go_wp2
      all_goals go_ret2
      all_goals refine ⟨?_, rfl⟩
      all_goals (unfold Hid at hP; rw [hP]; split <;> first | rfl | omega)

set_option maxHeartbeats 400000 in
theorem rparse_any (s : ByteArray) (b : Int) (hs : s.size ≤ 9223372036854775807) (w : World) :
    Calls Tryd.prog 14 #[.string s, .int .i64 b] w fun e w' => e = .returned (prsV s.data.toList b) ∧ w = w' := by
  by_cases hb : isB b = true
  · by_cases hz : s.size = 0
    · have hse := is_empty hz
      rw [nil_of_size hz, prsV_nil hb]
      go_enter Tryd.func14, Tryd.ntmps14
      go_wp2_with (first | (go_at_call 24; refine (base_any _ _).mono ?_; rintro e w' ⟨rfl, rfl⟩))
      go_ret2
      exact ⟨rfl, rfl⟩
    · exact rparse_base s b hb (by omega) hs w
  · have hb : isB b = false := by simpa using hb
    rw [prsV_not hb]
    go_enter Tryd.func14, Tryd.ntmps14
    go_wp2_with (first | (go_at_call 24; refine (base_any _ _).mono ?_; rintro e w' ⟨rfl, rfl⟩))
    go_ret2
    exact ⟨rfl, rfl⟩

set_option maxHeartbeats 400000 in
theorem isPlain_any (c : UInt8) (w : World) : Calls Tryd.prog 43 #[.int .u8 c.toNat] w fun e w' => e = .returned (.bool (pln c)) ∧ w = w' := by
  have hc := UInt8.toNat_lt c
  unfold pln
  generalize c.toNat = n at *
  go_enter Tryd.func43, Tryd.ntmps43
  go_wp2
  all_goals go_ret
  all_goals refine ⟨ret_bool ?_, rfl⟩
  all_goals (rw [Bool.eq_iff_iff]; simp only [Bool.and_eq_true, decide_eq_true_eq, bne_iff_ne, ne_eq, Bool.false_eq_true]; constructor <;> intro hh <;> first | exact hh.elim | omega)

set_option maxHeartbeats 400000 in
theorem plain_any (c : UInt8) (w : World) : Calls Tryd.prog 36 #[.int .u8 c.toNat] w fun e w' => e = .returned (.bool (pln c)) ∧ w = w' := by
  have hc := UInt8.toNat_lt c
  unfold pln
  generalize c.toNat = n at *
  go_enter Tryd.func36, Tryd.ntmps36
  go_wp2
  all_goals go_ret
  all_goals refine ⟨ret_bool ?_, rfl⟩
  all_goals (rw [Bool.eq_iff_iff]; simp only [Bool.and_eq_true, decide_eq_true_eq, bne_iff_ne, ne_eq, Bool.false_eq_true]; constructor <;> intro hh <;> first | exact hh.elim | omega)

end Go.Proofs.YtfhpmabejodpbaaDoor
