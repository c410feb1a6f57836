/-
  Walks over Crc of package octet and of its reference. Condition: the table of package octet holds what its initialiser lays.
-/
import Derived.Test.YtbcnehjpondplaaDoorOcC
namespace Go.Proofs.YtbcnehjpondplaaDoor
open Go.RowKit
set_option linter.unusedSimpArgs false

/-- The table of half bytes is as it was laid. -/
structure Tabs (w : World) : Prop where
  size : 0 < w.heap.size
  rem : ∀ k : Nat, k < 16 → w.cell? ⟨0, k, none⟩ = some (.int .u32 (cs4 k : Int))
theorem Tabs.below {w w' : World} (W : Tabs w) (h : Below w.heap.size w w') : Tabs w' :=
  ⟨Nat.lt_of_lt_of_le W.size h.size, fun k hk => by rw [h.cell W.size]; exact W.rem k hk⟩

theorem xor_u32 (a b : Nat) (ha : a < 4294967296) (hb : b < 4294967296) : bits .xor .u32 (a : Int) (b : Int) = ((a ^^^ b : Nat) : Int) := by
  have hx : a ^^^ b < 2 ^ 32 := Nat.xor_lt_two_pow (n := 32) (by omega) (by omega)
  have h1 : (BitVec.ofInt 32 (a : Int)).toNat = a := by
    rw [BitVec.ofInt_natCast, BitVec.toNat_ofNat]; exact Nat.mod_eq_of_lt (by omega)
  have h2 : (BitVec.ofInt 32 (b : Int)).toNat = b := by
    rw [BitVec.ofInt_natCast, BitVec.toNat_ofNat]; exact Nat.mod_eq_of_lt (by omega)
  show IntKind.u32.wrap ((BitVec.ofInt 32 (a : Int) ^^^ BitVec.ofInt 32 (b : Int)).toNat : Int) = _
  rw [BitVec.toNat_xor, h1, h2, IntKind.wrap_u32]
  omega
theorem and_u32_15 (a : Nat) (ha : a < 4294967296) : bits .and .u32 (a : Int) 15 = ((a % 16 : Nat) : Int) := by
  have h := bits_mask .u32 32 (by decide) (fun n h0 h1 => by rw [IntKind.wrap_u32]; omega) 4 (by decide) (a : Int) (by omega) (by omega)
  exact h.trans (by omega)
/-- Half a byte, as the table gives it. -/
theorem half_step (S : Nat) (h : S < 4294967296) : bits .xor .u32 ((S : Int) / 16) (cs4 (S % 16) : Int) = (cs4 S : Int) ∧ cs4 S < 4294967296 := by
  have h1 : cs4 (S % 16) < 4294967296 := cs4_lt (by omega)
  have e : (S : Int) / 16 = ((S / 16 : Nat) : Int) := by omega
  refine ⟨?_, cs4_lt h⟩
  rw [e, xor_u32 _ _ (by omega) h1, ← cs4_table]

theorem csL_take (l : List UInt8) (k : Nat) (h : k < l.length) : csL 4294967295 (l.take (k + 1)) = cs4 (cs4 (csL 4294967295 (l.take k) ^^^ (l.getD k 0).toNat)) := by
  rw [take_at l k h]
  unfold csL
  rw [List.foldl_append]
  rfl

set_option maxHeartbeats 1000000 in
theorem crc_any (s : ByteArray) (hs : s.size ≤ 9223372036854775807) (w : World) (W : Tabs w) :
    Calls Tryd.prog 26 #[.string s] w fun e w' => e = .returned (.int .i64 (crc s.data.toList)) ∧ w = w' := by
  have hsz := size_len s
  have hcl : ∀ k, csL 4294967295 (s.data.toList.take k) < 4294967296 := fun k => csL_lt _ (by decide)
  have hC : Hid (crc s.data.toList = csL 4294967295 (s.data.toList.take s.size) ^^^ 4294967295) := by
    unfold Hid; rw [List.take_of_length_le (by omega)]; rfl
  generalize crc s.data.toList = C at *
  go_enter Tryd.func26, Tryd.ntmps26
  go_wp2
  go_loop [3, 7] (fun n i => ∃ k : Nat, k ≤ s.size ∧ i = .int .i64 k ∧ n = .int .u32 (csL 4294967295 (s.data.toList.take k)))
                     (fun _ i => match i with | .int _ q => s.size - q.toNat | _ => 0)
  case atStart => exact ⟨0, Nat.zero_le _, rfl, rfl⟩
  case round =>
    obtain ⟨k, hk, rfl, rfl⟩ := hrel
    by_cases hkl : k < s.size
    · have hix : ∀ h : k < s.size, s[k]'h = s.data.toList.getD k 0 := fun h => byte_at s k h
      have hst := csL_take s.data.toList k (by omega)
      have hlt := hcl k
      generalize s.data.toList.getD k 0 = c at *
      generalize hS' : csL 4294967295 (s.data.toList.take (k + 1)) = S' at *
      generalize csL 4294967295 (s.data.toList.take k) = S at *
      have hc := UInt8.toNat_lt c
      have hx := xor_u32 S c.toNat hlt (by omega)
      have hx1 := in_lt hlt c
      generalize S ^^^ c.toNat = S1 at *
      have ha1 := and_u32_15 S1 hx1
      have hr1 := W.rem (S1 % 16) (by omega)
      obtain ⟨hh1, hx2⟩ := half_step S1 hx1
      generalize cs4 S1 = S2 at *
      have ha2 := and_u32_15 S2 hx2
      have hr2 := W.rem (S2 % 16) (by omega)
      obtain ⟨hh2, hx3⟩ := half_step S2 hx2
      generalize cs4 S2 = S3 at *
      subst hst
      have hm1 : S1 % 16 < 16 := by omega
      have hm2 : S2 % 16 < 16 := by omega
      generalize cs4 (S1 % 16) = T1 at *
      generalize cs4 (S2 % 16) = T2 at *
      generalize S1 % 16 = I1 at *
      generalize S2 % 16 = I2 at *
      go_wp2
      refine ⟨⟨k + 1, by omega, by go_num, by rw [hS']⟩, ?_⟩
      simp only; omega
    · obtain rfl : k = s.size := by omega
      have hlt := hcl s.size
      have hC' : C = csL 4294967295 (s.data.toList.take s.size) ^^^ 4294967295 := hC
      generalize csL 4294967295 (s.data.toList.take s.size) = S at *
      have hmx : bits .xor .u32 IntKind.u32.max (S : Int) = (C : Int) := by
        rw [hC', show IntKind.u32.max = ((4294967295 : Nat) : Int) from rfl, xor_u32 _ _ (by decide) hlt, Nat.xor_comm]
      have hCl : C < 4294967296 := by rw [hC']; exact Nat.xor_lt_two_pow (n := 32) (by omega) (by decide)
      have hsg : IntKind.u32.signed = false := rfl
      clear hC hC'
      go_wp2
      go_ret
      exact ⟨rfl, rfl⟩

/-! ### Crc of the reference -/
/-- k bits of a byte. -/
def cs1N : Nat → Nat → Nat
  | c, 0 => c
  | c, k + 1 => cs1 (cs1N c k)
theorem cs1N_lt {c : Nat} (h : c < 4294967296) : ∀ k, cs1N c k < 4294967296
  | 0 => h
  | k + 1 => cs1_lt (cs1N_lt h k)
theorem cs1_odd (S : Nat) (h : S < 4294967296) (h1 : S % 2 = 1) : bits .xor .u32 ((S : Int) / 2) 3988292384 = (cs1 S : Int) := by
  have e : (S : Int) / 2 = ((S / 2 : Nat) : Int) := by omega
  rw [e, show (3988292384 : Int) = ((3988292384 : Nat) : Int) from rfl, xor_u32 _ _ (by omega) (by decide), cs1, if_pos h1]
  rfl
theorem cs1_even (S : Nat) (h1 : ¬ S % 2 = 1) : (S : Int) / 2 = (cs1 S : Int) := by
  rw [cs1, if_neg h1]; omega

set_option maxHeartbeats 1000000 in
theorem rcrc_any (s : ByteArray) (hs : s.size ≤ 9223372036854775807) (w : World) :
    Calls Tryd.prog 27 #[.string s] w fun e w' => e = .returned (.int .i64 (crc s.data.toList)) ∧ w = w' := by
  have hsz := size_len s
  have hcl : ∀ k, csL 4294967295 (s.data.toList.take k) < 4294967296 := fun k => csL_lt _ (by decide)
  have hC : Hid (crc s.data.toList = csL 4294967295 (s.data.toList.take s.size) ^^^ 4294967295) := by
    unfold Hid; rw [List.take_of_length_le (by omega)]; rfl
  generalize crc s.data.toList = C at *
  go_enter Tryd.func27, Tryd.ntmps27
  go_wp2
  go_loop [3, 4] (fun n i => ∃ k : Nat, k ≤ s.size ∧ i = .int .i64 k ∧ n = .int .u32 (csL 4294967295 (s.data.toList.take k)))
                     (fun _ i => match i with | .int _ q => s.size - q.toNat | _ => 0)
  case atStart => exact ⟨0, Nat.zero_le _, rfl, rfl⟩
  case round =>
    obtain ⟨k, hk, rfl, rfl⟩ := hrel
    by_cases hkl : k < s.size
    · have hix : ∀ h : k < s.size, s[k]'h = s.data.toList.getD k 0 := fun h => byte_at s k h
      have hst := csL_take s.data.toList k (by omega)
      have hlt := hcl k
      generalize s.data.toList.getD k 0 = c at *
      generalize hS' : csL 4294967295 (s.data.toList.take (k + 1)) = S' at *
      generalize csL 4294967295 (s.data.toList.take k) = S at *
      have hc := UInt8.toNat_lt c
      have hx := xor_u32 S c.toNat hlt (by omega)
      have hx1 := in_lt hlt c
      generalize S ^^^ c.toNat = S1 at *
      have hst : Hid (S' = cs1N S1 8) := hst
      go_wp2
      go_loop [3, 5] (fun n i => ∃ j : Nat, j ≤ 8 ∧ i = .int .i64 j ∧ n = .int .u32 (cs1N S1 j))
                     (fun _ i => match i with | .int _ q => 8 - q.toNat | _ => 0)
      case atStart => exact ⟨0, Nat.zero_le _, rfl, rfl⟩
      case round =>
        clear hix hx hC
        obtain ⟨j, hj, rfl, rfl⟩ := hrel
        have hjl := cs1N_lt hx1 j
        have hn : Hid (cs1N S1 (j + 1) = cs1 (cs1N S1 j)) := rfl
        by_cases hj8 : j < 8
        · generalize hT : cs1N S1 j = T at *
          by_cases h1 : T % 2 = 1
          · have ho := cs1_odd T hjl h1
            have h1' : ((T : Int) % 2 == 1) = true := by rw [beq_iff_eq]; omega
            generalize cs1 T = U at *
            go_wp2
            exact ⟨⟨j + 1, by omega, by go_num, by rw [show cs1N S1 (j + 1) = U from hn]⟩, by simp only; omega⟩
          · have ho := cs1_even T h1
            have h1' : ((T : Int) % 2 == 1) = false := by rw [beq_eq_false_iff_ne]; omega
            generalize cs1 T = U at *
            go_wp2
            exact ⟨⟨j + 1, by omega, by go_num, by rw [show cs1N S1 (j + 1) = U from hn]⟩, by simp only; omega⟩
        · obtain rfl : j = 8 := by omega
          unfold Hid at hst
          rw [← hst]
          go_wp2
          exact ⟨⟨k + 1, by omega, by go_num, by rw [hS']⟩, by simp only; omega⟩
    · obtain rfl : k = s.size := by omega
      have hlt := hcl s.size
      have hC' : C = csL 4294967295 (s.data.toList.take s.size) ^^^ 4294967295 := hC
      generalize csL 4294967295 (s.data.toList.take s.size) = S at *
      have hmx : bits .xor .u32 (S : Int) 4294967295 = (C : Int) := by
        rw [hC', show (4294967295 : Int) = ((4294967295 : Nat) : Int) from rfl, xor_u32 _ _ hlt (by decide)]
      have hCl : C < 4294967296 := by rw [hC']; exact Nat.xor_lt_two_pow (n := 32) (by omega) (by decide)
      clear hC hC'
      go_wp2
      go_ret
      exact ⟨rfl, rfl⟩

end Go.Proofs.YtbcnehjpondplaaDoor
