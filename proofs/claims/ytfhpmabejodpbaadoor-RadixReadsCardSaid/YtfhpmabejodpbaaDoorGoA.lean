/-
  Walks over the calls of package radix and of its reference that read one number or one byte. No condition.
-/
import Derived.Test.YtfhpmabejodpbaaDoorProg
import Derived.Test.YtfhpmabejodpbaaDoorNumB
import Derived.WalkKit
import Derived.WalkSpells
import Derived.WalkLawsBesides
import Derived.Deep.RegionHeld3
import Derived.Deep.DeepCutAuto
import Derived.Deep.QuietTactic
import Derived.BigQuiet
import Derived.KernelRfl
import Derived.Laws.DeepStrings4
import Derived.Lib.Strings
namespace Go.Proofs.YtfhpmabejodpbaaDoor
open Go.RowKit

theorem hid {p : Prop} (h : p) : Hid p := h
theorem ret_bool {a b : Bool} (h : a = b) : Ending.returned (.bool a) = .returned (.bool b) := by rw [h]
theorem ret_int {k : IntKind} {a b : Int} (h : a = b) : Ending.returned (.int k a) = .returned (.int k b) := by rw [h]

set_option maxHeartbeats 400000 in
theorem isBase_any (b : Int) (w : World) : Calls Tryd.prog 22 #[.int .i64 b] w fun e w' => e = .returned (.bool (isB b)) ∧ w = w' := by
  go_enter Tryd.func22, Tryd.ntmps22
  go_wp2
  all_goals go_ret
  all_goals refine ⟨ret_bool ?_, rfl⟩
  all_goals simp_all [isB]

set_option maxHeartbeats 400000 in
theorem base_any (b : Int) (w : World) : Calls Tryd.prog 24 #[.int .i64 b] w fun e w' => e = .returned (.bool (isB b)) ∧ w = w' := by
  go_enter Tryd.func24, Tryd.ntmps24
  go_wp2
  all_goals go_ret
  all_goals refine ⟨ret_bool ?_, rfl⟩
  all_goals simp_all [isB]

set_option maxHeartbeats 400000 in
theorem digit_any (c : UInt8) (w : World) : Calls Tryd.prog 27 #[.int .u8 c.toNat] w fun e w' => e = .returned (.int .i64 (dv c)) ∧ w = w' := by
  have hc := UInt8.toNat_lt c
  have hd : ((dv c : Nat) : Int) = if 48 ≤ c.toNat ∧ c.toNat ≤ 57 then (c.toNat : Int) - 48 else if 97 ≤ c.toNat ∧ c.toNat ≤ 102 then (c.toNat : Int) - 87 else if 65 ≤ c.toNat ∧ c.toNat ≤ 70 then (c.toNat : Int) - 55 else 16 := by
    unfold dv; repeat' split
    all_goals omega
  generalize dv c = D at *
  generalize c.toNat = n at *
  have hD := hid hd
  clear hd
  go_enter Tryd.func27, Tryd.ntmps27
  go_wp2
  all_goals go_ret
  all_goals refine ⟨ret_int ?_, rfl⟩
  all_goals
    have hd := hD
    unfold Hid at hd
    rw [hd]
    repeat' split
  all_goals omega

/-- The same of the reference; -1: none. -/
def vl (c : UInt8) : Int := if dv c < 16 then dv c else -1

set_option maxHeartbeats 400000 in
theorem value_any (c : UInt8) (w : World) : Calls Tryd.prog 28 #[.int .u8 c.toNat] w fun e w' => e = .returned (.int .i64 (vl c)) ∧ w = w' := by
  have hc := UInt8.toNat_lt c
  have hd : vl c = if 48 ≤ c.toNat ∧ c.toNat ≤ 57 then (c.toNat : Int) - 48 else if 97 ≤ c.toNat ∧ c.toNat ≤ 102 then (c.toNat : Int) - 87 else if 65 ≤ c.toNat ∧ c.toNat ≤ 70 then (c.toNat : Int) - 55 else -1 := by
    unfold vl dv; repeat' split
    all_goals omega
  generalize vl c = D at *
  generalize c.toNat = n at *
  have hD := hid hd
  clear hd
  go_enter Tryd.func28, Tryd.ntmps28
  go_wp2
  all_goals go_ret
  all_goals refine ⟨ret_int ?_, rfl⟩
  all_goals
    have hd := hD
    unfold Hid at hd
    rw [hd]
    repeat' split
  all_goals omega

theorem size_len (s : ByteArray) : s.data.toList.length = s.size := rfl
theorem byte_at (s : ByteArray) (k : Nat) (h : k < s.size) : s[k]'h = s.data.toList.getD k 0 := by
  obtain ⟨⟨l⟩⟩ := s
  have hl : k < l.length := h
  simp only [List.getD, List.getElem?_eq_getElem hl, Option.getD_some]
  rfl
theorem drop_at (l : List UInt8) (k : Nat) (h : k < l.length) : l.drop k = l.getD k 0 :: l.drop (k + 1) := by
  rw [List.drop_eq_getElem_cons h]
  congr 1
  simp [List.getD, h]
theorem rd_round {s : ByteArray} {b k m R : Nat} (h : k < s.size) (H : Hid (rd b (s.data.toList.drop k) m = rd b s.data.toList 0)) (hd : dv (s.data.toList.getD k 0) = R) :
    (if b ≤ R then none else rd b (s.data.toList.drop (k + 1)) (min (m * b + R) 65536)) = rd b s.data.toList 0 := by
  have H' : rd b (s.data.toList.drop k) m = rd b s.data.toList 0 := H
  rw [drop_at _ k h, rd, hd] at H'
  exact H'

theorem not_empty {s : ByteArray} (h : 0 < s.size) : s.toList.isEmpty = false := by
  rw [Lib.toList_data, List.isEmpty_eq_false_iff]
  intro h0; have := size_len s; rw [h0] at this; simp at this; omega
theorem prs_none {b : Nat} {l : List UInt8} {V : Value} (h : Hid (V = match rd b l 0 with
    | none => .tuple #[.int .i64 0, .int .i64 3]
    | some n => if 65535 < n then .tuple #[.int .i64 0, .int .i64 2] else .tuple #[.int .i64 n, .int .i64 0])) (h0 : rd b l 0 = none) : V = .tuple #[.int .i64 0, .int .i64 3] := by
  unfold Hid at h; rw [h, h0]
theorem prs_some {b n : Nat} {l : List UInt8} {V : Value} (h : Hid (V = match rd b l 0 with
    | none => .tuple #[.int .i64 0, .int .i64 3]
    | some n => if 65535 < n then .tuple #[.int .i64 0, .int .i64 2] else .tuple #[.int .i64 n, .int .i64 0])) (h0 : rd b l 0 = some n) : V = if 65535 < n then .tuple #[.int .i64 0, .int .i64 2] else .tuple #[.int .i64 n, .int .i64 0] := by
  unfold Hid at h; rw [h, h0]
/-- What Parse returns. -/
def prsV (l : List UInt8) (b : Int) : Value := .tuple #[.int .i64 (prs l b).1, .int .i64 (prs l b).2]

set_option maxHeartbeats 1000000 in
theorem parse_base (s : ByteArray) (b : Int) (hb : isB b = true) (hne : 0 < s.size) (hs : s.size ≤ 9223372036854775807) (w : World) :
    Calls Tryd.prog 13 #[.string s, .int .i64 b] w fun e w' => e = .returned (prsV s.data.toList b) ∧ w = w' := by
  obtain ⟨B, rfl⟩ : ∃ B : Nat, b = (B : Int) := ⟨b.toNat, by have := isB_cases hb; omega⟩
  have hB : 8 ≤ B ∧ B ≤ 16 := by have := isB_cases hb; omega
  have hP : Hid (prsV s.data.toList B = match rd B s.data.toList 0 with
    | none => .tuple #[.int .i64 0, .int .i64 3]
    | some n => if 65535 < n then .tuple #[.int .i64 0, .int .i64 2] else .tuple #[.int .i64 n, .int .i64 0]) := by
    have hl : s.data.toList ≠ [] := by intro h; have := size_len s; rw [h] at this; simp at this; omega
    unfold Hid prsV prs
    rw [hb, if_neg (by decide), if_neg hl, show ((B : Int)).toNat = B from rfl]
    cases rd B s.data.toList 0 with
    | none => rfl
    | some n => simp only; split <;> rfl
  generalize hV : prsV s.data.toList B = V at *
  clear hV
  have hse : s.toList.isEmpty = false := not_empty hne
  go_enter Tryd.func13, Tryd.ntmps13
  go_wp2_with (first | (go_at_call 22; refine (isBase_any _ _).mono ?_; rintro e w' ⟨rfl, rfl⟩))
  go_loop [6, 16] (fun n i => ∃ k m : Nat, k ≤ s.size ∧ i = .int .i64 k ∧ n = .int .i64 m ∧ m ≤ 65536 ∧ Hid (rd B (s.data.toList.drop k) m = rd B s.data.toList 0))
                     (fun _ i => match i with | .int _ q => s.size - q.toNat | _ => 0)
  case atStart => exact ⟨0, 0, Nat.zero_le _, rfl, rfl, by omega, rfl⟩
  case round =>
    obtain ⟨k, m, hk, rfl, rfl, hm, HS⟩ := hrel
    by_cases hkl : k < s.size
    · have hix : ∀ h : k < s.size, s[k]'h = s.data.toList.getD k 0 := fun h => byte_at s k h
      have HR := fun R => @rd_round s B k m R hkl HS
      have hR := dv_le (s.data.toList.getD k 0)
      generalize hc : s.data.toList.getD k 0 = c at *
      have hmb : m * B ≤ 65536 * 16 := Nat.mul_le_mul hm hB.2
      obtain ⟨D, hD⟩ : ∃ D, D = dv c := ⟨_, rfl⟩
      have HR := hid (HR D hD.symm)
      rw [← hD] at hR
      have hdig : ∀ w, Calls Tryd.prog 27 #[.int .u8 c.toNat] w fun e w' => e = .returned (.int .i64 D) ∧ w = w' := fun w => hD ▸ digit_any c w
      obtain ⟨MB, hMB⟩ : ∃ MB, MB = m * B := ⟨_, rfl⟩
      have hMB' : (m : Int) * (B : Int) = (MB : Int) := by rw [hMB]; simp
      have HMB : Hid (MB = m * B) := hMB
      rw [← hMB] at hmb
      clear hMB hD hc
      go_wp2_with (first | (go_at_call 27; refine (hdig _).mono ?_; rintro e w' ⟨rfl, rfl⟩))
      · go_ret2
        refine ⟨?_, rfl⟩
        have hle : B ≤ D := by assumption
        rw [prs_none hP (by unfold Hid at HR; rw [if_pos hle] at HR; exact HR.symm)]
        rfl
      · have hle : ¬ B ≤ D := by assumption
        refine ⟨⟨k + 1, min (m * B + D) 65536, by omega, by go_num, ?_, by omega, ?_⟩, ?_⟩
        · unfold Hid at HMB
          rw [← HMB]
          congr 1
          split <;> omega
        · unfold Hid at HR ⊢
          rw [if_neg hle] at HR; exact HR
        · simp only; omega
    · have hkk : k = s.size := by omega
      have HR : rd B s.data.toList 0 = some m := by
        have H' : rd B (s.data.toList.drop k) m = rd B s.data.toList 0 := HS
        rw [← H', List.drop_eq_nil_of_le (by rw [size_len]; omega), rd]
      have hP := hid (prs_some hP HR)
      clear HR
      go_wp2
      all_goals go_ret2
      all_goals refine ⟨?_, rfl⟩
      all_goals (unfold Hid at hP; rw [hP]; split <;> first | rfl | omega)

end Go.Proofs.YtfhpmabejodpbaaDoor
