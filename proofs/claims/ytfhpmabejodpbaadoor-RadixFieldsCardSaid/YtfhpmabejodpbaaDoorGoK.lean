/-
  Walks over Format and Pad of the reference. No condition but that the number is an int.
-/
import Derived.Test.YtfhpmabejodpbaaDoorGoE
namespace Go.Proofs.YtfhpmabejodpbaaDoor
open Go.RowKit
set_option linter.unusedSimpArgs false

/-- The digits' text of the reference. -/
def htxt : ByteArray := ⟨#[48, 49, 50, 51, 52, 53, 54, 55, 56, 57, 97, 98, 99, 100, 101, 102]⟩
theorem htxt_cut : ∀ d : Fin 16, (htxt.extract d.val (d.val + 1)) = ⟨#[dg d.val]⟩ := by decide
theorem htxt_at (d : Nat) (h : d < 16) : (htxt.extract d (d + 1)) = ⟨#[dg d]⟩ := htxt_cut ⟨d, h⟩

set_option maxHeartbeats 1000000 in
theorem positive_8 (U : Nat) (hU : U < 18446744073709551616) (w : World) :
    Calls Tryd.prog 25 #[.int .u64 U, .int .i64 8] w fun e w' => e = .returned (.string ⟨(digs 8 U).toArray⟩) ∧ Below w.heap.size w w' := by
  have hc0 := htxt_at (U % 8) (by omega)
  unfold htxt at hc0
  have hL : (digs 8 U).length ≤ 22 := digs_len (by decide) 21 U (Nat.lt_trans hU (by decide))
  have hZ := digs_digz (b := 8) (by decide) U
  go_enter Tryd.func25, Tryd.ntmps25
  go_wp2
  go_quiet (fail)
  go_wp2
  go_loopw [0, 6] (fun u s wr => ∃ (k : Nat) (acc : List UInt8), u = .int .u64 k ∧ k < 18446744073709551616 ∧ s = .string ⟨acc.toArray⟩ ∧ Hid (digz 8 k ++ acc = digs 8 U) ∧ Below w.heap.size w wr)
    (fun u _ _ => match u with | .int _ q => q.toNat | _ => 0)
  case atStart => exact ⟨U / 8, [dg (U % 8)], by go_num, by omega, congrArg Value.string hc0, hZ.symm, ⟨rfl, rfl, rfl, Nat.le_refl _, fun _ _ => rfl⟩⟩
  case round =>
    clear hZ hc0
    obtain ⟨k, acc, rfl, hk, rfl, HS, hbr⟩ := hrel
    have H : digz 8 k ++ acc = digs 8 U := HS
    have hacc : acc.length ≤ 22 := by rw [← H, List.length_append] at hL; omega
    have has : ByteArray.size ⟨acc.toArray⟩ = acc.length := by simp [ByteArray.size]
    by_cases hk0 : k = 0
    · subst hk0
      have he : Hid (acc = digs 8 U) := by
        have h0 : digz 8 0 = [] := rfl
        rw [h0] at H; exact H
      clear HS H
      go_wp2
      go_ret
      exact ⟨by unfold Hid at he; rw [he]; rfl, hbr⟩
    · have hc1 := htxt_at (k % 8) (by omega)
      unfold htxt at hc1
      have H2 : Hid (digz 8 (k / 8) ++ (dg (k % 8) :: acc) = digs 8 U) := by
        rw [digz_pos hk0, digs_digz (by decide) k, List.append_assoc] at H; exact H
      have hkp : (0 : Int) < (k : Int) := by omega
      clear HS H
      go_wp2
      go_quiet (fail)
      go_wp2
      refine ⟨⟨k / 8, dg (k % 8) :: acc, by go_num, by omega, by rw [ba_app]; simp, H2, ⟨hbr.os, hbr.tape, hbr.output, hbr.size, hbr.block⟩⟩, ?_⟩
      simp only; omega

set_option maxHeartbeats 1000000 in
theorem positive_10 (U : Nat) (hU : U < 18446744073709551616) (w : World) :
    Calls Tryd.prog 25 #[.int .u64 U, .int .i64 10] w fun e w' => e = .returned (.string ⟨(digs 10 U).toArray⟩) ∧ Below w.heap.size w w' := by
  have hc0 := htxt_at (U % 10) (by omega)
  unfold htxt at hc0
  have hL : (digs 10 U).length ≤ 22 := digs_len (by decide) 21 U (Nat.lt_trans hU (by decide))
  have hZ := digs_digz (b := 10) (by decide) U
  go_enter Tryd.func25, Tryd.ntmps25
  go_wp2
  go_quiet (fail)
  go_wp2
  go_loopw [0, 6] (fun u s wr => ∃ (k : Nat) (acc : List UInt8), u = .int .u64 k ∧ k < 18446744073709551616 ∧ s = .string ⟨acc.toArray⟩ ∧ Hid (digz 10 k ++ acc = digs 10 U) ∧ Below w.heap.size w wr)
    (fun u _ _ => match u with | .int _ q => q.toNat | _ => 0)
  case atStart => exact ⟨U / 10, [dg (U % 10)], by go_num, by omega, congrArg Value.string hc0, hZ.symm, ⟨rfl, rfl, rfl, Nat.le_refl _, fun _ _ => rfl⟩⟩
  case round =>
    clear hZ hc0
    obtain ⟨k, acc, rfl, hk, rfl, HS, hbr⟩ := hrel
    have H : digz 10 k ++ acc = digs 10 U := HS
    have hacc : acc.length ≤ 22 := by rw [← H, List.length_append] at hL; omega
    have has : ByteArray.size ⟨acc.toArray⟩ = acc.length := by simp [ByteArray.size]
    by_cases hk0 : k = 0
    · subst hk0
      have he : Hid (acc = digs 10 U) := by
        have h0 : digz 10 0 = [] := rfl
        rw [h0] at H; exact H
      clear HS H
      go_wp2
      go_ret
      exact ⟨by unfold Hid at he; rw [he]; rfl, hbr⟩
    · have hc1 := htxt_at (k % 10) (by omega)
      unfold htxt at hc1
      have H2 : Hid (digz 10 (k / 10) ++ (dg (k % 10) :: acc) = digs 10 U) := by
        rw [digz_pos hk0, digs_digz (by decide) k, List.append_assoc] at H; exact H
      have hkp : (0 : Int) < (k : Int) := by omega
      clear HS H
      go_wp2
      go_quiet (fail)
      go_wp2
      refine ⟨⟨k / 10, dg (k % 10) :: acc, by go_num, by omega, by rw [ba_app]; simp, H2, ⟨hbr.os, hbr.tape, hbr.output, hbr.size, hbr.block⟩⟩, ?_⟩
      simp only; omega

set_option maxHeartbeats 1000000 in
theorem positive_16 (U : Nat) (hU : U < 18446744073709551616) (w : World) :
    Calls Tryd.prog 25 #[.int .u64 U, .int .i64 16] w fun e w' => e = .returned (.string ⟨(digs 16 U).toArray⟩) ∧ Below w.heap.size w w' := by
  have hc0 := htxt_at (U % 16) (by omega)
  unfold htxt at hc0
  have hL : (digs 16 U).length ≤ 22 := digs_len (by decide) 21 U (Nat.lt_trans hU (by decide))
  have hZ := digs_digz (b := 16) (by decide) U
  go_enter Tryd.func25, Tryd.ntmps25
  go_wp2
  go_quiet (fail)
  go_wp2
  go_loopw [0, 6] (fun u s wr => ∃ (k : Nat) (acc : List UInt8), u = .int .u64 k ∧ k < 18446744073709551616 ∧ s = .string ⟨acc.toArray⟩ ∧ Hid (digz 16 k ++ acc = digs 16 U) ∧ Below w.heap.size w wr)
    (fun u _ _ => match u with | .int _ q => q.toNat | _ => 0)
  case atStart => exact ⟨U / 16, [dg (U % 16)], by go_num, by omega, congrArg Value.string hc0, hZ.symm, ⟨rfl, rfl, rfl, Nat.le_refl _, fun _ _ => rfl⟩⟩
  case round =>
    clear hZ hc0
    obtain ⟨k, acc, rfl, hk, rfl, HS, hbr⟩ := hrel
    have H : digz 16 k ++ acc = digs 16 U := HS
    have hacc : acc.length ≤ 22 := by rw [← H, List.length_append] at hL; omega
    have has : ByteArray.size ⟨acc.toArray⟩ = acc.length := by simp [ByteArray.size]
    by_cases hk0 : k = 0
    · subst hk0
      have he : Hid (acc = digs 16 U) := by
        have h0 : digz 16 0 = [] := rfl
        rw [h0] at H; exact H
      clear HS H
      go_wp2
      go_ret
      exact ⟨by unfold Hid at he; rw [he]; rfl, hbr⟩
    · have hc1 := htxt_at (k % 16) (by omega)
      unfold htxt at hc1
      have H2 : Hid (digz 16 (k / 16) ++ (dg (k % 16) :: acc) = digs 16 U) := by
        rw [digz_pos hk0, digs_digz (by decide) k, List.append_assoc] at H; exact H
      have hkp : (0 : Int) < (k : Int) := by omega
      clear HS H
      go_wp2
      go_quiet (fail)
      go_wp2
      refine ⟨⟨k / 16, dg (k % 16) :: acc, by go_num, by omega, by rw [ba_app]; simp, H2, ⟨hbr.os, hbr.tape, hbr.output, hbr.size, hbr.block⟩⟩, ?_⟩
      simp only; omega

theorem positive_any (U : Nat) (b : Int) (hb : isB b = true) (hU : U < 18446744073709551616) (w : World) :
    Calls Tryd.prog 25 #[.int .u64 U, .int .i64 b] w fun e w' => e = .returned (.string ⟨(digs b.toNat U).toArray⟩) ∧ Below w.heap.size w w' := by
  rcases isB_cases hb with rfl | rfl | rfl
  · exact positive_8 U hU w
  · exact positive_10 U hU w
  · exact positive_16 U hU w

set_option maxHeartbeats 400000 in
theorem rformat_any (n b : Int) (h0 : -9223372036854775808 ≤ n) (h1 : n ≤ 9223372036854775807) (w : World) :
    Calls Tryd.prog 9 #[.int .i64 n, .int .i64 b] w fun e w' => e = .returned (.string ⟨(fmt n b).toArray⟩) ∧ Below w.heap.size w w' := by
  by_cases hb : isB b = true
  · have hbs := fun w => base_any b w
    rw [hb] at hbs
    by_cases hn : n < 0
    · obtain ⟨U, rfl⟩ : ∃ U : Nat, n = -(U : Int) := ⟨n.natAbs, by omega⟩
      have hf : fmt (-(U : Int)) b = 45 :: digs b.toNat U := by rw [fmt_is hb, fmtL, if_pos hn, show (-(U : Int)).natAbs = U by omega]
      have hlen := fmt_len (-(U : Int)) b h0 h1
      rw [hf] at hlen ⊢
      simp only [List.length_cons] at hlen
      have hp := fun w => positive_any U b hb (by omega) w
      have hU1 : 1 ≤ U := by omega
      have hU2 : -(-(U : Int) + 1) + 1 = (U : Int) := by omega
      generalize digs b.toNat U = D at *
      have hDs : ByteArray.size ⟨D.toArray⟩ = D.length := by simp [ByteArray.size]
      go_enter Tryd.func9, Tryd.ntmps9
      go_wp2_with (first
        | (go_at_call 24; with_reducible refine (hbs _).mono ?_; rintro e w' ⟨rfl, rfl⟩)
        | (go_at_call 25; with_reducible refine (hp _).mono ?_; rintro e w1 ⟨rfl, hb1⟩))
      go_ret
      refine ⟨?_, by assumption⟩
      rw [ba_app]; simp
    · obtain ⟨U, rfl⟩ : ∃ U : Nat, n = (U : Int) := ⟨n.toNat, by omega⟩
      have hf : fmt (U : Int) b = digs b.toNat U := by rw [fmt_is hb, fmtL, if_neg hn]; rfl
      rw [hf]
      have hp := fun w => positive_any U b hb (by omega) w
      clear hf
      generalize digs b.toNat U = D at *
      go_enter Tryd.func9, Tryd.ntmps9
      go_wp2_with (first
        | (go_at_call 24; with_reducible refine (hbs _).mono ?_; rintro e w' ⟨rfl, rfl⟩)
        | (go_at_call 25; with_reducible refine (hp _).mono ?_; rintro e w1 ⟨rfl, hb1⟩))
      go_ret
      exact ⟨rfl, by assumption⟩
  · have hb : isB b = false := by simpa using hb
    rw [fmt_not hb]
    go_enter Tryd.func9, Tryd.ntmps9
    go_wp2_with (first | (go_at_call 24; refine (base_any _ _).mono ?_; rintro e w' ⟨rfl, rfl⟩))
    go_ret
    exact ⟨rfl, Below.refl _ _⟩

/-- One zero more. -/
theorem pad_more (Z : Nat) (F : List UInt8) : (⟨#[48]⟩ : ByteArray) ++ ⟨(List.replicate Z 48 ++ F).toArray⟩ = ⟨(List.replicate (Z + 1) 48 ++ F).toArray⟩ := by
  rw [ba_app, List.replicate_succ]; simp

set_option maxHeartbeats 400000 in
theorem rpad_any (n b x : Int) (h0 : -9223372036854775808 ≤ n) (h1 : n ≤ 9223372036854775807) (w : World) :
    Calls Tryd.prog 11 #[.int .i64 n, .int .i64 b, .int .i64 x] w fun e w' => e = .returned (.string ⟨(pad n b x).toArray⟩) ∧ Below w.heap.size w w' := by
  by_cases hbad : n < 0 ∨ isB b = false
  · rw [pad_not hbad]
    by_cases hn : n < 0
    · go_enter Tryd.func11, Tryd.ntmps11
      go_wp2
      go_ret
      exact ⟨rfl, Below.refl _ _⟩
    · have hb : isB b = false := by rcases hbad with h | h; exact absurd h hn; exact h
      go_enter Tryd.func11, Tryd.ntmps11
      go_wp2_with (first | (go_at_call 24; refine (base_any _ _).mono ?_; rintro e w' ⟨rfl, rfl⟩))
      go_ret
      exact ⟨rfl, Below.refl _ _⟩
  · have hn : ¬ n < 0 := fun h => hbad (Or.inl h)
    have hb : isB b = true := by simpa using fun h => hbad (Or.inr h)
    have hbs := fun w => base_any b w
    rw [hb] at hbs
    rw [pad_is hbad]
    have hfl := fmt_len n b h0 h1
    have hfm := fun w => rformat_any n b h0 h1 w
    have hwid : (wid x : Int) = max 0 (min x 64) := by unfold wid; omega
    generalize fmt n b = F at *
    generalize wid x = X at *
    clear hbad
    go_enter Tryd.func11, Tryd.ntmps11
    go_wp2_with (first
      | (go_at_call 24; with_reducible refine (hbs _).mono ?_; rintro e w' ⟨rfl, rfl⟩)
      | (go_at_call 9; with_reducible refine (hfm _).mono ?_; rintro e w1 ⟨rfl, hb1⟩))
    go_loopw [7] (fun s wr => ∃ Z : Nat, s = .string ⟨(List.replicate Z 48 ++ F).toArray⟩ ∧ Z ≤ X - F.length ∧ Below w.heap.size w wr)
      (fun s _ => match s with | .string q => 100 - q.size | _ => 0)
    case atStart => exact ⟨0, rfl, by omega, hb1⟩
    case round =>
      obtain ⟨Z, rfl, hZ, hbr⟩ := hrel
      have hzs : ByteArray.size ⟨(List.replicate Z 48 ++ F).toArray⟩ = Z + F.length := by simp [ByteArray.size]
      have hm := pad_more Z F
      have hzs1 : ByteArray.size ⟨(List.replicate (Z + 1) 48 ++ F).toArray⟩ = Z + 1 + F.length := by simp [ByteArray.size]
      have hH := hid hwid
      obtain ⟨T, hT⟩ : ∃ T, T = (⟨(List.replicate Z 48 ++ F).toArray⟩ : ByteArray) := ⟨_, rfl⟩
      rw [← hT] at hzs hm ⊢
      by_cases hgo : Z < X - F.length
      · have hx1 : ((Z + F.length : Nat) : Int) < x := by omega
        have hx2 : ((Z + F.length : Nat) : Int) < 64 := by omega
        clear hwid
        go_wp2
        refine ⟨⟨Z + 1, by rw [pad_more], by omega, hbr⟩, ?_⟩
        rw [pad_more]
        simp only
        rw [hzs1, hzs]; omega
      · have hZe : Hid (T = ⟨(List.replicate (X - F.length) 48 ++ F).toArray⟩) := by rw [show X - F.length = Z by omega]; exact hT
        clear hT hm hzs1
        by_cases hx : x ≤ ((Z + F.length : Nat) : Int)
        · clear hwid
          go_wp2
          go_ret
          exact ⟨by unfold Hid at hZe; rw [← hZe]; rfl, hbr⟩
        · have hx1 : ((Z + F.length : Nat) : Int) < x := by omega
          have hx2 : (64 : Int) ≤ ((Z + F.length : Nat) : Int) := by omega
          clear hwid hx
          go_wp2
          go_ret
          exact ⟨by unfold Hid at hZe; rw [← hZe]; rfl, hbr⟩

end Go.Proofs.YtfhpmabejodpbaaDoor
