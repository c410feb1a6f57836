/-
  Walks over internal/strconv.formatBits at the bases 8 and 16. Condition: the tables of the library hold what their initialisers lay.
-/
import Derived.Test.YtfhpmabejodpbaaDoorGoC
import Derived.Laws.IdiomStrings
namespace Go.Proofs.YtfhpmabejodpbaaDoor
open Go.RowKit
set_option linter.unusedSimpArgs false

/-- The row of 65 bytes that is filled from its end: from place i on it holds acc. -/
structure Back (A i : Nat) (acc : List UInt8) (w : World) : Prop where
  len : i + acc.length = 65
  blk : ∃ cs : Array Value, w.heap[A]? = some (.cells cs 88 (0, 0)) ∧ cs.size = 65 ∧ ∀ j (h : j < acc.length), cs[i + j]? = some (.int .u8 (acc[j].toNat : Int))

theorem Back.cell {A i : Nat} {acc : List UInt8} {w : World} (h : Back A i acc w) {j : Nat} (hj : j < 65) : ∃ v, w.cell? ⟨A, j, none⟩ = some v := by
  obtain ⟨cs, hb, hs, _⟩ := h.blk
  refine ⟨cs[j]'(by omega), ?_⟩
  simp [World.cell?, hb, Array.getElem?_eq_getElem (show j < cs.size by omega)]
theorem Back.frozen {A i : Nat} {acc : List UInt8} {w : World} (h : Back A i acc w) (j : Nat) : w.frozen? ⟨A, j, none⟩ = false := by
  obtain ⟨cs, hb, hs, _⟩ := h.blk
  simp [World.frozen?, hb]
theorem Back.push {A j : Nat} {acc : List UInt8} {w : World} (h : Back A (j + 1) acc w) (c : UInt8) : Back A j (c :: acc) (w.setCell ⟨A, j, none⟩ (.int .u8 (c.toNat : Int))) := by
  obtain ⟨hl, cs, hb, hs, hc⟩ := h
  refine ⟨by simp only [List.length_cons]; omega, cs.setIfInBounds j (.int .u8 (c.toNat : Int)), ?_, by simpa using hs, fun t ht => ?_⟩
  · simp [World.setCell, Array.getElem?_modify, hb]
  · cases t with
    | zero => simp [Array.getElem?_setIfInBounds, show j < cs.size by omega]
    | succ t =>
      have := hc t (by simpa using ht)
      rw [Array.getElem?_setIfInBounds, if_neg (by omega), List.getElem_cons_succ, ← this]
      congr 1; omega
theorem Back.read {A i : Nat} {acc : List UInt8} {w : World} (h : Back A i acc w) (j : Nat) (hj : j < acc.length) : w.cell? ((⟨A, i, none⟩ : Addr).add j) = some (.int .u8 (acc[j].toNat : Int)) := by
  obtain ⟨cs, hb, hs, hc⟩ := h.blk
  have e : (⟨A, i, none⟩ : Addr).add j = ⟨A, i + j, none⟩ := by unfold Addr.add; split <;> simp_all
  rw [e, World.cell?]
  simp [hb, hc j hj]
theorem Back.start (w : World) : Back w.heap.size 65 [] (w.alloc (.cells Tryd.zeroCells88 88)) :=
  ⟨rfl, _, heap_alloc_new w _, by kernel_rfl, fun j h => by simp at h⟩

theorem slice_65 (A j : Nat) (hj : j < 65) (W : World) : (Instr.sliceAt 88 (.pointer (some ⟨A, 0, none⟩)) (some (.int .i64 j)) none none).run Tryd.prog W = .ok (.slice (some ⟨A, j, none⟩) (65 - j) (65 - j)) W := by
  have hal : Tryd.prog.arrayLen 88 = 65 := by kernel_rfl
  rw [run_sliceAt_array_l W 88 ⟨A, 0, none⟩ (by simp [Program.arrayLen, Program.elem, Tryd.underlying88]) .i64 (j : Int) (by omega) (by rw [hal]; omega)]
  rw [hal]
  go_simp
  omega
theorem Back.conv {A i : Nat} {acc : List UInt8} {w : World} (h : Back A i acc w) : (convert 48 9 (.slice (some ⟨A, i, none⟩) (65 - i) (65 - i))).run Tryd.prog w = .ok (.string ⟨acc.toArray⟩) w := by
  have e := run_convert_bytes_back (P := Tryd.prog) w 48 9 5 ⟨A, i, none⟩ acc.length acc Tryd.underlying48 Tryd.underlying5 Tryd.underlying9 h.read
  rw [show acc.length = 65 - i by have := h.len; omega] at e
  exact e

/-- The digits' text. -/
def dtxt : ByteArray := ⟨#[48, 49, 50, 51, 52, 53, 54, 55, 56, 57, 97, 98, 99, 100, 101, 102, 103, 104, 105, 106, 107, 108, 109, 110, 111, 112, 113, 114, 115, 116, 117, 118, 119, 120, 121, 122]⟩
theorem dtxt_at : ∀ d : Fin 16, dtxt.data.toList.getD d.val 0 = dg d.val := by decide
theorem dtxt_get (d : Nat) (h : d < 16) (h' : d < dtxt.size) : dtxt[d]'h' = dg d := by
  rw [byte_at dtxt d h']; exact dtxt_at ⟨d, h⟩

theorem tz64_8 (w : World) (W : Tabs w) : Calls Tryd.prog 62 #[.int .u64 8] w fun e w' => e = .returned (.int .i64 3) ∧ w = w' := by
  have hc := W.c7
  have k1 : IntKind.u64.wrap (bits BinOp.and IntKind.u64 8 (IntKind.u64.wrap (-8)) * 285870213051353865) / 288230376151711744 = 7 := by kernel_rfl
  go_enter Tryd.func62, Tryd.ntmps62
  go_wp2_with (simp only [k1])
  go_ret
  exact ⟨rfl, rfl⟩
theorem tz_8 (w : World) (W : Tabs w) : Calls Tryd.prog 59 #[.int .u64 8] w fun e w' => e = .returned (.int .i64 3) ∧ w = w' := by
  go_enter Tryd.func59, Tryd.ntmps59
  go_wp2_with (first | (go_at_call 62; refine (tz64_8 _ W).mono ?_; rintro e w' ⟨rfl, rfl⟩))
  go_ret
  exact ⟨rfl, rfl⟩
theorem isPow_8 (w : World) : Calls Tryd.prog 58 #[.int .i64 8] w fun e w' => e = .returned (.bool true) ∧ w = w' := by
  have k1 : bits BinOp.and IntKind.i64 8 7 = 0 := by kernel_rfl
  go_enter Tryd.func58, Tryd.ntmps58
  go_wp2
  go_ret
  exact ⟨rfl, rfl⟩
theorem low_8 (u : Nat) (hu : u < 18446744073709551616) : bits .and .u64 (u : Int) 7 = ((u % 8 : Nat) : Int) := by
  rw [show (7 : Int) = ((7 : Nat) : Int) from rfl, bits_and_u64_nat u 7 hu (by decide)]
  congr 1
  exact Nat.and_two_pow_sub_one_eq_mod u 3

set_option maxRecDepth 100000 in
set_option maxHeartbeats 1000000 in
theorem fbits_8_pos (U : Nat) (hU : U < 9223372036854775808) (w : World) (W : Tabs w) :
    Calls Tryd.prog 49 #[.slice none 0 0, .int .u64 U, .int .i64 8, .bool false, .bool false] w fun e w' =>
      e = .returned (.tuple #[.slice none 0 0, .string ⟨(digs 8 U).toArray⟩]) ∧ Below w.heap.size w w' := by
  have hst := Back.start w
  have hbw : Below w.heap.size w (w.alloc (.cells Tryd.zeroCells88 88)) := (Below.refl _ _).alloc (Nat.le_refl _) _
  have hal : Tryd.prog.arrayLen 88 = 65 := by kernel_rfl
  have hL : (digs 8 U).length ≤ 22 := digs_len (by decide) 21 U (Nat.lt_trans hU (by decide))
  go_enter Tryd.func49, Tryd.ntmps49
  go_wp2_with (first
    | (go_at_call 58; refine (isPow_8 _).mono ?_; rintro e w' ⟨rfl, rfl⟩)
    | (go_at_call 59; refine (tz_8 _ (W.below (by assumption))).mono ?_; rintro e w' ⟨rfl, rfl⟩))
  go_loopw [1, 13] (fun u i wr => ∃ (k j : Nat) (acc : List UInt8), u = .int .u64 k ∧ i = .int .i64 j ∧ k < 9223372036854775808 ∧ Back w.heap.size j acc wr ∧ Below w.heap.size w wr ∧ Hid (digs 8 k ++ acc = digs 8 U))
    (fun u _ _ => match u with | .int _ q => q.toNat | _ => 0)
  case atStart => exact ⟨U, 65, [], rfl, rfl, hU, hst, hbw, by unfold Hid; simp⟩
  case round =>
    obtain ⟨k, j, acc, rfl, rfl, hk, hB, hbr, HS⟩ := hrel
    clear hst hbw
    have hacc : acc.length + (digs 8 k).length ≤ 22 := by
      have H : digs 8 k ++ acc = digs 8 U := HS
      rw [← H, List.length_append] at hL; omega
    have hpos := digs_pos 8 k
    have hj := hB.len
    obtain ⟨j, rfl⟩ : ∃ q, j = q + 1 := ⟨j - 1, by omega⟩
    have hfz := hB.frozen j
    obtain ⟨old, hcell⟩ := hB.cell (j := j) (by omega)
    by_cases hu : k < 8
    · have hdg := dtxt_get k (by omega)
      unfold dtxt at hdg
      have hdl : Hid (dg k :: acc = digs 8 U) := by
        have H : digs 8 k ++ acc = digs 8 U := HS
        rw [digs_small hu] at H; exact H
      have hP := hB.push (dg k)
      have hPb : Below w.heap.size w (wr.setCell ⟨w.heap.size, j, none⟩ (.int .u8 ((dg k).toNat : Int))) := hbr.setCell (Nat.le_refl _) _
      have hsl := slice_65 w.heap.size j (by omega)
      have hcv := hP.conv
      rw [show dg k :: acc = digs 8 U from hdl] at hcv
      clear HS hal
      go_wp2
      go_ret2
      exact ⟨rfl, by assumption⟩
    · have hlow := low_8 k (by omega)
      have hdg := dtxt_get (k % 8) (by omega)
      unfold dtxt at hdg
      have hd2 : Hid (digs 8 (k / 8) ++ dg (k % 8) :: acc = digs 8 U) := by
        have H : digs 8 k ++ acc = digs 8 U := HS
        rw [digs_big (by decide) (by omega), List.append_assoc] at H; exact H
      have hP := hB.push (dg (k % 8))
      have hPb : Below w.heap.size w (wr.setCell ⟨w.heap.size, j, none⟩ (.int .u8 ((dg (k % 8)).toNat : Int))) := hbr.setCell (Nat.le_refl _) _
      clear HS hal
      go_wp2
      refine ⟨⟨k / 8, j, dg (k % 8) :: acc, by go_num, rfl, by omega, hP, hPb, hd2⟩, ?_⟩
      simp only
      omega
set_option maxRecDepth 100000 in
set_option maxHeartbeats 1000000 in
theorem fbits_8_neg (U : Nat) (hU1 : 1 ≤ U) (hU : U ≤ 9223372036854775808) (w : World) (W : Tabs w) :
    Calls Tryd.prog 49 #[.slice none 0 0, .int .u64 (18446744073709551616 - U), .int .i64 8, .bool true, .bool false] w fun e w' =>
      e = .returned (.tuple #[.slice none 0 0, .string ⟨(45 :: digs 8 U).toArray⟩]) ∧ Below w.heap.size w w' := by
  have hst := Back.start w
  have hbw : Below w.heap.size w (w.alloc (.cells Tryd.zeroCells88 88)) := (Below.refl _ _).alloc (Nat.le_refl _) _
  have hal : Tryd.prog.arrayLen 88 = 65 := by kernel_rfl
  have hng : IntKind.u64.wrap (-(18446744073709551616 - (U : Int))) = (U : Int) := by rw [IntKind.wrap_u64]; omega
  have hL : (digs 8 U).length ≤ 22 := digs_len (by decide) 21 U (Nat.lt_of_le_of_lt hU (by decide))
  go_enter Tryd.func49, Tryd.ntmps49
  go_wp2_with (first
    | (go_at_call 58; refine (isPow_8 _).mono ?_; rintro e w' ⟨rfl, rfl⟩)
    | (go_at_call 59; refine (tz_8 _ (W.below (by assumption))).mono ?_; rintro e w' ⟨rfl, rfl⟩))
  go_loopw [1, 13] (fun u i wr => ∃ (k j : Nat) (acc : List UInt8), u = .int .u64 k ∧ i = .int .i64 j ∧ k ≤ 9223372036854775808 ∧ Back w.heap.size j acc wr ∧ Below w.heap.size w wr ∧ Hid (digs 8 k ++ acc = digs 8 U))
    (fun u _ _ => match u with | .int _ q => q.toNat | _ => 0)
  case atStart => exact ⟨U, 65, [], rfl, rfl, hU, hst, hbw, by unfold Hid; simp⟩
  case round =>
    obtain ⟨k, j, acc, rfl, rfl, hk, hB, hbr, HS⟩ := hrel
    clear hst hbw
    have hacc : acc.length + (digs 8 k).length ≤ 22 := by
      have H : digs 8 k ++ acc = digs 8 U := HS
      rw [← H, List.length_append] at hL; omega
    have hpos := digs_pos 8 k
    have hj := hB.len
    obtain ⟨j, rfl⟩ : ∃ q, j = q + 1 := ⟨j - 1, by omega⟩
    clear hng
    have hfz := hB.frozen j
    obtain ⟨old, hcell⟩ := hB.cell (j := j) (by omega)
    by_cases hu : k < 8
    · have hdg := dtxt_get k (by omega)
      unfold dtxt at hdg
      have hdl : Hid (dg k :: acc = digs 8 U) := by
        have H : digs 8 k ++ acc = digs 8 U := HS
        rw [digs_small hu] at H; exact H
      have hP := hB.push (dg k)
      have hPb : Below w.heap.size w (wr.setCell ⟨w.heap.size, j, none⟩ (.int .u8 ((dg k).toNat : Int))) := hbr.setCell (Nat.le_refl _) _
      obtain ⟨i, rfl⟩ : ∃ q, j = q + 1 := ⟨j - 1, by omega⟩
      have hfz2 := hP.frozen i
      obtain ⟨old2, hcell2⟩ := hP.cell (j := i) (by omega)
      have hP2 : Back w.heap.size i (45 :: dg k :: acc) ((wr.setCell ⟨w.heap.size, i + 1, none⟩ (.int .u8 ((dg k).toNat : Int))).setCell ⟨w.heap.size, i, none⟩ (.int .u8 45)) := hP.push 45
      have hPb2 : Below w.heap.size w ((wr.setCell ⟨w.heap.size, i + 1, none⟩ (.int .u8 ((dg k).toNat : Int))).setCell ⟨w.heap.size, i, none⟩ (.int .u8 45)) := hPb.setCell (Nat.le_refl _) _
      have hsl := slice_65 w.heap.size i (by omega)
      have hcv := hP2.conv
      rw [show dg k :: acc = digs 8 U from hdl] at hcv
      clear HS hal
      go_wp2
      go_ret2
      exact ⟨rfl, by assumption⟩
    · have hlow := low_8 k (by omega)
      have hdg := dtxt_get (k % 8) (by omega)
      unfold dtxt at hdg
      have hd2 : Hid (digs 8 (k / 8) ++ dg (k % 8) :: acc = digs 8 U) := by
        have H : digs 8 k ++ acc = digs 8 U := HS
        rw [digs_big (by decide) (by omega), List.append_assoc] at H; exact H
      have hP := hB.push (dg (k % 8))
      have hPb : Below w.heap.size w (wr.setCell ⟨w.heap.size, j, none⟩ (.int .u8 ((dg (k % 8)).toNat : Int))) := hbr.setCell (Nat.le_refl _) _
      clear HS hal
      go_wp2
      refine ⟨⟨k / 8, j, dg (k % 8) :: acc, by go_num, rfl, by omega, hP, hPb, hd2⟩, ?_⟩
      simp only
      omega


theorem tz64_16 (w : World) (W : Tabs w) : Calls Tryd.prog 62 #[.int .u64 16] w fun e w' => e = .returned (.int .i64 4) ∧ w = w' := by
  have hc := W.c15
  have k1 : IntKind.u64.wrap (bits BinOp.and IntKind.u64 16 (IntKind.u64.wrap (-16)) * 285870213051353865) / 288230376151711744 = 15 := by kernel_rfl
  go_enter Tryd.func62, Tryd.ntmps62
  go_wp2_with (simp only [k1])
  go_ret
  exact ⟨rfl, rfl⟩
theorem tz_16 (w : World) (W : Tabs w) : Calls Tryd.prog 59 #[.int .u64 16] w fun e w' => e = .returned (.int .i64 4) ∧ w = w' := by
  go_enter Tryd.func59, Tryd.ntmps59
  go_wp2_with (first | (go_at_call 62; refine (tz64_16 _ W).mono ?_; rintro e w' ⟨rfl, rfl⟩))
  go_ret
  exact ⟨rfl, rfl⟩
theorem isPow_16 (w : World) : Calls Tryd.prog 58 #[.int .i64 16] w fun e w' => e = .returned (.bool true) ∧ w = w' := by
  have k1 : bits BinOp.and IntKind.i64 16 15 = 0 := by kernel_rfl
  go_enter Tryd.func58, Tryd.ntmps58
  go_wp2
  go_ret
  exact ⟨rfl, rfl⟩
theorem low_16 (u : Nat) (hu : u < 18446744073709551616) : bits .and .u64 (u : Int) 15 = ((u % 16 : Nat) : Int) := by
  rw [show (15 : Int) = ((15 : Nat) : Int) from rfl, bits_and_u64_nat u 15 hu (by decide)]
  congr 1
  exact Nat.and_two_pow_sub_one_eq_mod u 4

set_option maxRecDepth 100000 in
set_option maxHeartbeats 1000000 in
theorem fbits_16_pos (U : Nat) (hU : U < 9223372036854775808) (w : World) (W : Tabs w) :
    Calls Tryd.prog 49 #[.slice none 0 0, .int .u64 U, .int .i64 16, .bool false, .bool false] w fun e w' =>
      e = .returned (.tuple #[.slice none 0 0, .string ⟨(digs 16 U).toArray⟩]) ∧ Below w.heap.size w w' := by
  have hst := Back.start w
  have hbw : Below w.heap.size w (w.alloc (.cells Tryd.zeroCells88 88)) := (Below.refl _ _).alloc (Nat.le_refl _) _
  have hal : Tryd.prog.arrayLen 88 = 65 := by kernel_rfl
  have hL : (digs 16 U).length ≤ 22 := digs_len (by decide) 21 U (Nat.lt_trans hU (by decide))
  go_enter Tryd.func49, Tryd.ntmps49
  go_wp2_with (first
    | (go_at_call 58; refine (isPow_16 _).mono ?_; rintro e w' ⟨rfl, rfl⟩)
    | (go_at_call 59; refine (tz_16 _ (W.below (by assumption))).mono ?_; rintro e w' ⟨rfl, rfl⟩))
  go_loopw [1, 13] (fun u i wr => ∃ (k j : Nat) (acc : List UInt8), u = .int .u64 k ∧ i = .int .i64 j ∧ k < 9223372036854775808 ∧ Back w.heap.size j acc wr ∧ Below w.heap.size w wr ∧ Hid (digs 16 k ++ acc = digs 16 U))
    (fun u _ _ => match u with | .int _ q => q.toNat | _ => 0)
  case atStart => exact ⟨U, 65, [], rfl, rfl, hU, hst, hbw, by unfold Hid; simp⟩
  case round =>
    obtain ⟨k, j, acc, rfl, rfl, hk, hB, hbr, HS⟩ := hrel
    clear hst hbw
    have hacc : acc.length + (digs 16 k).length ≤ 22 := by
      have H : digs 16 k ++ acc = digs 16 U := HS
      rw [← H, List.length_append] at hL; omega
    have hpos := digs_pos 16 k
    have hj := hB.len
    obtain ⟨j, rfl⟩ : ∃ q, j = q + 1 := ⟨j - 1, by omega⟩
    have hfz := hB.frozen j
    obtain ⟨old, hcell⟩ := hB.cell (j := j) (by omega)
    by_cases hu : k < 16
    · have hdg := dtxt_get k (by omega)
      unfold dtxt at hdg
      have hdl : Hid (dg k :: acc = digs 16 U) := by
        have H : digs 16 k ++ acc = digs 16 U := HS
        rw [digs_small hu] at H; exact H
      have hP := hB.push (dg k)
      have hPb : Below w.heap.size w (wr.setCell ⟨w.heap.size, j, none⟩ (.int .u8 ((dg k).toNat : Int))) := hbr.setCell (Nat.le_refl _) _
      have hsl := slice_65 w.heap.size j (by omega)
      have hcv := hP.conv
      rw [show dg k :: acc = digs 16 U from hdl] at hcv
      clear HS hal
      go_wp2
      go_ret2
      exact ⟨rfl, by assumption⟩
    · have hlow := low_16 k (by omega)
      have hdg := dtxt_get (k % 16) (by omega)
      unfold dtxt at hdg
      have hd2 : Hid (digs 16 (k / 16) ++ dg (k % 16) :: acc = digs 16 U) := by
        have H : digs 16 k ++ acc = digs 16 U := HS
        rw [digs_big (by decide) (by omega), List.append_assoc] at H; exact H
      have hP := hB.push (dg (k % 16))
      have hPb : Below w.heap.size w (wr.setCell ⟨w.heap.size, j, none⟩ (.int .u8 ((dg (k % 16)).toNat : Int))) := hbr.setCell (Nat.le_refl _) _
      clear HS hal
      go_wp2
      refine ⟨⟨k / 16, j, dg (k % 16) :: acc, by go_num, rfl, by omega, hP, hPb, hd2⟩, ?_⟩
      simp only
      omega
set_option maxRecDepth 100000 in
set_option maxHeartbeats 1000000 in
theorem fbits_16_neg (U : Nat) (hU1 : 1 ≤ U) (hU : U ≤ 9223372036854775808) (w : World) (W : Tabs w) :
    Calls Tryd.prog 49 #[.slice none 0 0, .int .u64 (18446744073709551616 - U), .int .i64 16, .bool true, .bool false] w fun e w' =>
      e = .returned (.tuple #[.slice none 0 0, .string ⟨(45 :: digs 16 U).toArray⟩]) ∧ Below w.heap.size w w' := by
  have hst := Back.start w
  have hbw : Below w.heap.size w (w.alloc (.cells Tryd.zeroCells88 88)) := (Below.refl _ _).alloc (Nat.le_refl _) _
  have hal : Tryd.prog.arrayLen 88 = 65 := by kernel_rfl
  have hng : IntKind.u64.wrap (-(18446744073709551616 - (U : Int))) = (U : Int) := by rw [IntKind.wrap_u64]; omega
  have hL : (digs 16 U).length ≤ 22 := digs_len (by decide) 21 U (Nat.lt_of_le_of_lt hU (by decide))
  go_enter Tryd.func49, Tryd.ntmps49
  go_wp2_with (first
    | (go_at_call 58; refine (isPow_16 _).mono ?_; rintro e w' ⟨rfl, rfl⟩)
    | (go_at_call 59; refine (tz_16 _ (W.below (by assumption))).mono ?_; rintro e w' ⟨rfl, rfl⟩))
  go_loopw [1, 13] (fun u i wr => ∃ (k j : Nat) (acc : List UInt8), u = .int .u64 k ∧ i = .int .i64 j ∧ k ≤ 9223372036854775808 ∧ Back w.heap.size j acc wr ∧ Below w.heap.size w wr ∧ Hid (digs 16 k ++ acc = digs 16 U))
    (fun u _ _ => match u with | .int _ q => q.toNat | _ => 0)
  case atStart => exact ⟨U, 65, [], rfl, rfl, hU, hst, hbw, by unfold Hid; simp⟩
  case round =>
    obtain ⟨k, j, acc, rfl, rfl, hk, hB, hbr, HS⟩ := hrel
    clear hst hbw
    have hacc : acc.length + (digs 16 k).length ≤ 22 := by
      have H : digs 16 k ++ acc = digs 16 U := HS
      rw [← H, List.length_append] at hL; omega
    have hpos := digs_pos 16 k
    have hj := hB.len
    obtain ⟨j, rfl⟩ : ∃ q, j = q + 1 := ⟨j - 1, by omega⟩
    clear hng
    have hfz := hB.frozen j
    obtain ⟨old, hcell⟩ := hB.cell (j := j) (by omega)
    by_cases hu : k < 16
    · have hdg := dtxt_get k (by omega)
      unfold dtxt at hdg
      have hdl : Hid (dg k :: acc = digs 16 U) := by
        have H : digs 16 k ++ acc = digs 16 U := HS
        rw [digs_small hu] at H; exact H
      have hP := hB.push (dg k)
      have hPb : Below w.heap.size w (wr.setCell ⟨w.heap.size, j, none⟩ (.int .u8 ((dg k).toNat : Int))) := hbr.setCell (Nat.le_refl _) _
      obtain ⟨i, rfl⟩ : ∃ q, j = q + 1 := ⟨j - 1, by omega⟩
      have hfz2 := hP.frozen i
      obtain ⟨old2, hcell2⟩ := hP.cell (j := i) (by omega)
      have hP2 : Back w.heap.size i (45 :: dg k :: acc) ((wr.setCell ⟨w.heap.size, i + 1, none⟩ (.int .u8 ((dg k).toNat : Int))).setCell ⟨w.heap.size, i, none⟩ (.int .u8 45)) := hP.push 45
      have hPb2 : Below w.heap.size w ((wr.setCell ⟨w.heap.size, i + 1, none⟩ (.int .u8 ((dg k).toNat : Int))).setCell ⟨w.heap.size, i, none⟩ (.int .u8 45)) := hPb.setCell (Nat.le_refl _) _
      have hsl := slice_65 w.heap.size i (by omega)
      have hcv := hP2.conv
      rw [show dg k :: acc = digs 16 U from hdl] at hcv
      clear HS hal
      go_wp2
      go_ret2
      exact ⟨rfl, by assumption⟩
    · have hlow := low_16 k (by omega)
      have hdg := dtxt_get (k % 16) (by omega)
      unfold dtxt at hdg
      have hd2 : Hid (digs 16 (k / 16) ++ dg (k % 16) :: acc = digs 16 U) := by
        have H : digs 16 k ++ acc = digs 16 U := HS
        rw [digs_big (by decide) (by omega), List.append_assoc] at H; exact H
      have hP := hB.push (dg (k % 16))
      have hPb : Below w.heap.size w (wr.setCell ⟨w.heap.size, j, none⟩ (.int .u8 ((dg (k % 16)).toNat : Int))) := hbr.setCell (Nat.le_refl _) _
      clear HS hal
      go_wp2
      refine ⟨⟨k / 16, j, dg (k % 16) :: acc, by go_num, rfl, by omega, hP, hPb, hd2⟩, ?_⟩
      simp only
      omega


end Go.Proofs.YtfhpmabejodpbaaDoor
