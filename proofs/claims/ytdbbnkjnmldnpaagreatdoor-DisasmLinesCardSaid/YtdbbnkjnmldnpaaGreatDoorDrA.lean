/-
  Walks over Format and Pad of package radix and of its reference, at base 8, for numbers from 0 to 65535, and what they call. Condition: a cell of the library's table holds what its initialiser lays.
-/
import Derived.Test.YtdbbnkjnmldnpaaGreatDoorProg
import Derived.Test.YtdbbnkjnmldnpaaGreatDoorShelf
import Derived.Test.YtdbbnkjnmldnpaaGreatDoorOA
import Derived.WalkKit
import Derived.WalkSpells
import Derived.WalkLawsBesides
import Derived.Deep.RegionHeld3
import Derived.Deep.DeepCutAuto
import Derived.Deep.QuietTactic
import Derived.BigQuiet
import Derived.KernelRfl
import Derived.Laws.DeepStrings4
import Derived.Laws.BytesString
import Derived.Laws.IdiomStrings
import Derived.Lib.Strings
namespace Go.Proofs.YtdbbnkjnmldnpaaGreatDoor
open Go.RowKit
set_option linter.unusedSimpArgs false

/-- The digit's character. -/
def dg (d : Nat) : UInt8 := if d < 10 then UInt8.ofNat (48 + d) else UInt8.ofNat (87 + d)

/-- The digits of u in base b, the first ahead; one digit for 0. -/
def digs (b u : Nat) : List UInt8 :=
  if _h : u < b ∨ b < 2 then [dg u] else digs b (u / b) ++ [dg (u % b)]
termination_by u
decreasing_by
  exact Nat.div_lt_self (by omega) (by omega)

theorem digs_small {b u : Nat} (h : u < b) : digs b u = [dg u] := by rw [digs, dif_pos (Or.inl h)]

theorem digs_big {b u : Nat} (hb : 2 ≤ b) (h : b ≤ u) : digs b u = digs b (u / b) ++ [dg (u % b)] := by
  rw [digs, dif_neg (by omega)]

theorem digs_pos (b u : Nat) : 1 ≤ (digs b u).length := by
  rw [digs]
  split <;> simp

theorem digs_len {b : Nat} (hb : 2 ≤ b) : ∀ (k u : Nat), u < b ^ (k + 1) → (digs b u).length ≤ k + 1
  | 0, u, h => by rw [digs_small (by simpa using h)]; simp
  | k + 1, u, h => by
    by_cases hu : u < b
    · rw [digs_small hu]; simp
    · rw [digs_big hb (by omega), List.length_append]
      have := digs_len hb k (u / b) (Nat.div_lt_of_lt_mul (by rw [Nat.pow_succ, Nat.mul_comm] at h; exact h))
      simp only [List.length_cons, List.length_nil]
      omega

/-- No digit for 0. -/
def digz (b u : Nat) : List UInt8 := if u = 0 then [] else digs b u

theorem digs_digz {b : Nat} (hb : 2 ≤ b) (u : Nat) : digs b u = digz b (u / b) ++ [dg (u % b)] := by
  by_cases h : u < b
  · rw [digs_small h, Nat.div_eq_of_lt h, Nat.mod_eq_of_lt h, digz, if_pos rfl]; rfl
  · have : 0 < u / b := Nat.div_pos (by omega) (by omega)
    rw [digs_big hb (by omega), digz, if_neg (by omega)]

theorem digz_pos {b u : Nat} (h : u ≠ 0) : digz b u = digs b u := if_neg h

/-- Six digits. -/
def pd6 (U : Nat) : List UInt8 := List.replicate (6 - (digs 8 U).length) 48 ++ digs 8 U
theorem digs_6 (U : Nat) (h : U < 65536) : (digs 8 U).length ≤ 6 := digs_len (by decide) 5 U (Nat.lt_trans h (by decide))

/-- The cell of the table that is read at base 8. -/
structure Tb7 (w : World) : Prop where
  c7 : w.cell? ⟨11, 7, none⟩ = some (.int .u8 3)
  lt : 11 < w.heap.size
theorem Tb7.below {w w' : World} (W : Tb7 w) (h : Below w.heap.size w w') : Tb7 w' :=
  ⟨(h.cell (p := ⟨11, 7, none⟩) W.lt).trans W.c7, Nat.lt_of_lt_of_le W.lt h.size⟩

theorem byte_at (s : ByteArray) (k : Nat) (h : k < s.size) : s[k]'h = s.data.toList.getD k 0 := by
  obtain ⟨⟨l⟩⟩ := s
  have hl : k < l.length := h
  simp only [List.getD, List.getElem?_eq_getElem hl, Option.getD_some]
  rfl
/-- The row of 65 bytes that is filled from its end: from place i on it holds acc. -/
structure Back (A i : Nat) (acc : List UInt8) (w : World) : Prop where
  len : i + acc.length = 65
  blk : ∃ cs : Array Value, w.heap[A]? = some (.cells cs 125 (0, 0)) ∧ cs.size = 65 ∧ ∀ j (h : j < acc.length), cs[i + j]? = some (.int .u8 (acc[j].toNat : Int))

theorem Back.cell {A i : Nat} {acc : List UInt8} {w : World} (h : Back A i acc w) {j : Nat} (hj : j < 65) : ∃ v, w.cell? ⟨A, j, none⟩ = some v := by
  obtain ⟨cs, hb, hs, _⟩ := h.blk
  refine ⟨cs[j]'(by omega), ?_⟩
  simp [World.cell?, hb, Array.getElem?_eq_getElem (show j < cs.size by omega)]

theorem Back.frozen {A i : Nat} {acc : List UInt8} {w : World} (h : Back A i acc w) (j : Nat) : w.frozen? ⟨A, j, none⟩ = false := by
  obtain ⟨cs, hb, hs, _⟩ := h.blk
  simp [World.frozen?, hb]

theorem Back.push {A j : Nat} {acc : List UInt8} {w : World} (h : Back A (j + 1) acc w) (c : UInt8) : Back A j (c :: acc) (w.setCell ⟨A, j, none⟩ (.int .u8 (c.toNat : Int))) := by
  obtain ⟨hl, cs, hb, hs, hc⟩ := h
  refine ⟨by simp only [List.length_cons]; omega, cs.setIfInBounds j (.int .u8 (c.toNat : Int)), ?_, by simpa using hs, fun t ht => ?_⟩
  · simp [World.setCell, Array.getElem?_modify, hb]
  · cases t with
    | zero => simp [Array.getElem?_setIfInBounds, show j < cs.size by omega]
    | succ t =>
      have := hc t (by simpa using ht)
      rw [Array.getElem?_setIfInBounds, if_neg (by omega), List.getElem_cons_succ, ← this]
      congr 1; omega

theorem Back.read {A i : Nat} {acc : List UInt8} {w : World} (h : Back A i acc w) (j : Nat) (hj : j < acc.length) : w.cell? ((⟨A, i, none⟩ : Addr).add j) = some (.int .u8 (acc[j].toNat : Int)) := by
  obtain ⟨cs, hb, hs, hc⟩ := h.blk
  have e : (⟨A, i, none⟩ : Addr).add j = ⟨A, i + j, none⟩ := by unfold Addr.add; split <;> simp_all
  rw [e, World.cell?]
  simp [hb, hc j hj]

theorem Back.start (w : World) : Back w.heap.size 65 [] (w.alloc (.cells Tryz.zeroCells125 125)) :=
  ⟨rfl, _, heap_alloc_new w _, by kernel_rfl, fun j h => by simp at h⟩

theorem slice_65 (A j : Nat) (hj : j < 65) (W : World) : (Instr.sliceAt 125 (.pointer (some ⟨A, 0, none⟩)) (some (.int .i64 j)) none none).run Tryz.prog W = .ok (.slice (some ⟨A, j, none⟩) (65 - j) (65 - j)) W := by
  have hal : Tryz.prog.arrayLen 125 = 65 := by kernel_rfl
  rw [run_sliceAt_array_l W 125 ⟨A, 0, none⟩ (by simp [Program.arrayLen, Program.elem, Tryz.underlying125]) .i64 (j : Int) (by omega) (by rw [hal]; omega)]
  rw [hal]
  go_simp
  omega

theorem Back.conv {A i : Nat} {acc : List UInt8} {w : World} (h : Back A i acc w) : (convert 74 9 (.slice (some ⟨A, i, none⟩) (65 - i) (65 - i))).run Tryz.prog w = .ok (.string ⟨acc.toArray⟩) w := by
  have e := run_convert_bytes_back (P := Tryz.prog) w 74 9 5 ⟨A, i, none⟩ acc.length acc Tryz.underlying74 Tryz.underlying5 Tryz.underlying9 h.read
  rw [show acc.length = 65 - i by have := h.len; omega] at e
  exact e

/-- The digits' text. -/
def dtxt : ByteArray := ⟨#[48, 49, 50, 51, 52, 53, 54, 55, 56, 57, 97, 98, 99, 100, 101, 102, 103, 104, 105, 106, 107, 108, 109, 110, 111, 112, 113, 114, 115, 116, 117, 118, 119, 120, 121, 122]⟩

theorem dtxt_at : ∀ d : Fin 16, dtxt.data.toList.getD d.val 0 = dg d.val := by decide

theorem dtxt_get (d : Nat) (h : d < 16) (h' : d < dtxt.size) : dtxt[d]'h' = dg d := by
  rw [byte_at dtxt d h']; exact dtxt_at ⟨d, h⟩

theorem tz64_8 (w : World) (W : Tb7 w) : Calls Tryz.prog 103 #[.int .u64 8] w fun e w' => e = .returned (.int .i64 3) ∧ w = w' := by
  have hc := W.c7
  have k1 : IntKind.u64.wrap (bits BinOp.and IntKind.u64 8 (IntKind.u64.wrap (-8)) * 285870213051353865) / 288230376151711744 = 7 := by kernel_rfl
  go_enter Tryz.func103, Tryz.ntmps103
  go_wp2_with (simp only [k1])
  go_ret
  exact ⟨rfl, rfl⟩

theorem tz_8 (w : World) (W : Tb7 w) : Calls Tryz.prog 97 #[.int .u64 8] w fun e w' => e = .returned (.int .i64 3) ∧ w = w' := by
  go_enter Tryz.func97, Tryz.ntmps97
  go_wp2_with (first | (go_at_call 103; refine (tz64_8 _ W).mono ?_; rintro e w' ⟨rfl, rfl⟩))
  go_ret
  exact ⟨rfl, rfl⟩

theorem isPow_8 (w : World) : Calls Tryz.prog 107 #[.int .i64 8] w fun e w' => e = .returned (.bool true) ∧ w = w' := by
  have k1 : bits BinOp.and IntKind.i64 8 7 = 0 := by kernel_rfl
  go_enter Tryz.func107, Tryz.ntmps107
  go_wp2
  go_ret
  exact ⟨rfl, rfl⟩

theorem low_8 (u : Nat) (hu : u < 18446744073709551616) : bits .and .u64 (u : Int) 7 = ((u % 8 : Nat) : Int) := by
  rw [show (7 : Int) = ((7 : Nat) : Int) from rfl, bits_and_u64_nat u 7 hu (by decide)]
  congr 1
  exact Nat.and_two_pow_sub_one_eq_mod u 3

set_option maxRecDepth 100000 in
set_option maxHeartbeats 1000000 in
theorem fbits_8_pos (U : Nat) (hU : U < 9223372036854775808) (w : World) (W : Tb7 w) :
    Calls Tryz.prog 101 #[.slice none 0 0, .int .u64 U, .int .i64 8, .bool false, .bool false] w fun e w' =>
      e = .returned (.tuple #[.slice none 0 0, .string ⟨(digs 8 U).toArray⟩]) ∧ Below w.heap.size w w' := by
  have hst := Back.start w
  have hbw : Below w.heap.size w (w.alloc (.cells Tryz.zeroCells125 125)) := (Below.refl _ _).alloc (Nat.le_refl _) _
  have hal : Tryz.prog.arrayLen 125 = 65 := by kernel_rfl
  have hL : (digs 8 U).length ≤ 22 := digs_len (by decide) 21 U (Nat.lt_trans hU (by decide))
  go_enter Tryz.func101, Tryz.ntmps101
  go_wp2_with (first
    | (go_at_call 107; refine (isPow_8 _).mono ?_; rintro e w' ⟨rfl, rfl⟩)
    | (go_at_call 97; refine (tz_8 _ (W.below (by assumption))).mono ?_; rintro e w' ⟨rfl, rfl⟩))
  go_loopw [1, 13] (fun u i wr => ∃ (k j : Nat) (acc : List UInt8), u = .int .u64 k ∧ i = .int .i64 j ∧ k < 9223372036854775808 ∧ Back w.heap.size j acc wr ∧ Below w.heap.size w wr ∧ Hid (digs 8 k ++ acc = digs 8 U))
    (fun u _ _ => match u with | .int _ q => q.toNat | _ => 0)
  case atStart => exact ⟨U, 65, [], rfl, rfl, hU, hst, hbw, by unfold Hid; simp⟩
  case round =>
    obtain ⟨k, j, acc, rfl, rfl, hk, hB, hbr, HS⟩ := hrel
    clear hst hbw
    have hacc : acc.length + (digs 8 k).length ≤ 22 := by
      have H : digs 8 k ++ acc = digs 8 U := HS
      rw [← H, List.length_append] at hL; omega
    have hpos := digs_pos 8 k
    have hj := hB.len
    obtain ⟨j, rfl⟩ : ∃ q, j = q + 1 := ⟨j - 1, by omega⟩
    have hfz := hB.frozen j
    obtain ⟨old, hcell⟩ := hB.cell (j := j) (by omega)
    by_cases hu : k < 8
    · have hdg := dtxt_get k (by omega)
      unfold dtxt at hdg
      have hdl : Hid (dg k :: acc = digs 8 U) := by
        have H : digs 8 k ++ acc = digs 8 U := HS
        rw [digs_small hu] at H; exact H
      have hP := hB.push (dg k)
      have hPb : Below w.heap.size w (wr.setCell ⟨w.heap.size, j, none⟩ (.int .u8 ((dg k).toNat : Int))) := hbr.setCell (Nat.le_refl _) _
      have hsl := slice_65 w.heap.size j (by omega)
      have hcv := hP.conv
      rw [show dg k :: acc = digs 8 U from hdl] at hcv
      clear HS hal
      go_wp2
      go_ret2
      exact ⟨rfl, by assumption⟩
    · have hlow := low_8 k (by omega)
      have hdg := dtxt_get (k % 8) (by omega)
      unfold dtxt at hdg
      have hd2 : Hid (digs 8 (k / 8) ++ dg (k % 8) :: acc = digs 8 U) := by
        have H : digs 8 k ++ acc = digs 8 U := HS
        rw [digs_big (by decide) (by omega), List.append_assoc] at H; exact H
      have hP := hB.push (dg (k % 8))
      have hPb : Below w.heap.size w (wr.setCell ⟨w.heap.size, j, none⟩ (.int .u8 ((dg (k % 8)).toNat : Int))) := hbr.setCell (Nat.le_refl _) _
      clear HS hal
      go_wp2
      refine ⟨⟨k / 8, j, dg (k % 8) :: acc, by go_num, rfl, by omega, hP, hPb, hd2⟩, ?_⟩
      simp only
      omega

theorem ba_app (a b : Array UInt8) : ((⟨a⟩ : ByteArray) ++ ⟨b⟩) = ⟨a ++ b⟩ := by apply ByteArray.ext; simp [ByteArray.data_append]

theorem isBase_8 (w : World) : Calls Tryz.prog 54 #[.int .i64 8] w fun e w' => e = .returned (.bool true) ∧ w = w' := by
  go_enter Tryz.func54, Tryz.ntmps54
  go_wp2
  all_goals go_ret
  all_goals exact ⟨rfl, rfl⟩
theorem base_8 (w : World) : Calls Tryz.prog 37 #[.int .i64 8] w fun e w' => e = .returned (.bool true) ∧ w = w' := by
  go_enter Tryz.func37, Tryz.ntmps37
  go_wp2
  all_goals go_ret
  all_goals exact ⟨rfl, rfl⟩
theorem iformat_8 (U : Nat) (h1 : U < 65536) (w : World) (W : Tb7 w) :
    Calls Tryz.prog 92 #[.int .i64 U, .int .i64 8] w fun e w' => e = .returned (.string ⟨(digs 8 U).toArray⟩) ∧ Below w.heap.size w w' := by
  have hw : IntKind.u64.wrap (U : Int) = (U : Int) := by rw [IntKind.wrap_u64]; omega
  have hc := fun w W => fbits_8_pos U (by omega) w W
  go_enter Tryz.func92, Tryz.ntmps92
  go_wp2_with (first | (go_at_call 101; refine (hc _ W).mono ?_; rintro e w' ⟨rfl, hb⟩))
  go_ret
  exact ⟨rfl, by assumption⟩
theorem sformat_8 (U : Nat) (h1 : U < 65536) (w : World) (W : Tb7 w) :
    Calls Tryz.prog 79 #[.int .i64 U, .int .i64 8] w fun e w' => e = .returned (.string ⟨(digs 8 U).toArray⟩) ∧ Below w.heap.size w w' := by
  go_enter Tryz.func79, Tryz.ntmps79
  go_wp2_with (first | (go_at_call 92; refine (iformat_8 U h1 _ W).mono ?_; rintro e w' ⟨rfl, hb⟩))
  go_ret
  exact ⟨rfl, by assumption⟩
theorem format_8 (U : Nat) (h1 : U < 65536) (w : World) (W : Tb7 w) :
    Calls Tryz.prog 55 #[.int .i64 U, .int .i64 8] w fun e w' => e = .returned (.string ⟨(digs 8 U).toArray⟩) ∧ Below w.heap.size w w' := by
  go_enter Tryz.func55, Tryz.ntmps55
  go_wp2_with (first
    | (go_at_call 54; refine (isBase_8 _).mono ?_; rintro e w' ⟨rfl, rfl⟩)
    | (go_at_call 79; refine (sformat_8 U h1 _ W).mono ?_; rintro e w' ⟨rfl, hb⟩))
  go_ret
  exact ⟨rfl, by assumption⟩

set_option maxHeartbeats 400000 in
theorem pad_8 (U : Nat) (h1 : U < 65536) (w : World) (W : Tb7 w) :
    Calls Tryz.prog 26 #[.int .i64 U, .int .i64 8, .int .i64 6] w fun e w' => e = .returned (.string ⟨(pd6 U).toArray⟩) ∧ Below w.heap.size w w' := by
  unfold pd6
  have hfl := digs_6 U h1
  have hfm := fun w W => format_8 U h1 w W
  generalize digs 8 U = F at *
  have hF : ByteArray.size ⟨F.toArray⟩ = F.length := by simp [ByteArray.size]
  have hZ : max 0 (max 0 (min 6 64) - (F.length : Int)) = ((6 - F.length : Nat) : Int) := by omega
  have hrp := fun w => Tryz.strings_Repeat ⟨#[48]⟩ (6 - F.length) w (by omega) (by show 1 * _ ≤ _; omega)
  have hre : Lib.repeatL [48] (6 - F.length) = List.replicate (6 - F.length) 48 := by have h := Lib.repeatL_replicate 48 1 (6 - F.length); rw [Nat.mul_one] at h; exact h
  simp only [hre] at hrp
  have hwl : 6 - F.length ≤ 6 := by omega
  generalize 6 - F.length = Z at *
  have hu0 : (0 : Int) ≤ (U : Int) := by omega
  go_enter Tryz.func26, Tryz.ntmps26
  go_wp2_with (first
    | (go_at_call 54; refine (isBase_8 _).mono ?_; rintro e w' ⟨rfl, rfl⟩)
    | (go_at_call 55; refine (hfm _ W).mono ?_; rintro e w1 ⟨rfl, hb1⟩)
    | (go_at_call 56; refine (hrp _).mono ?_; rintro e w2 ⟨rfl, hb2⟩))
  go_ret
  refine ⟨?_, hb1.trans (hb2.mono hb1.size)⟩
  rw [ba_app]
  simp

/-- The digits' text of the reference. -/
def htxt : ByteArray := ⟨#[48, 49, 50, 51, 52, 53, 54, 55, 56, 57, 97, 98, 99, 100, 101, 102]⟩

theorem htxt_cut : ∀ d : Fin 16, (htxt.extract d.val (d.val + 1)) = ⟨#[dg d.val]⟩ := by decide

theorem htxt_at (d : Nat) (h : d < 16) : (htxt.extract d (d + 1)) = ⟨#[dg d]⟩ := htxt_cut ⟨d, h⟩

set_option maxHeartbeats 1000000 in
theorem positive_8 (U : Nat) (hU : U < 18446744073709551616) (w : World) :
    Calls Tryz.prog 71 #[.int .u64 U, .int .i64 8] w fun e w' => e = .returned (.string ⟨(digs 8 U).toArray⟩) ∧ Below w.heap.size w w' := by
  have hc0 := htxt_at (U % 8) (by omega)
  unfold htxt at hc0
  have hL : (digs 8 U).length ≤ 22 := digs_len (by decide) 21 U (Nat.lt_trans hU (by decide))
  have hZ := digs_digz (b := 8) (by decide) U
  go_enter Tryz.func71, Tryz.ntmps71
  go_wp2
  go_quiet (fail)
  go_wp2
  go_loopw [0, 6] (fun u s wr => ∃ (k : Nat) (acc : List UInt8), u = .int .u64 k ∧ k < 18446744073709551616 ∧ s = .string ⟨acc.toArray⟩ ∧ Hid (digz 8 k ++ acc = digs 8 U) ∧ Below w.heap.size w wr)
    (fun u _ _ => match u with | .int _ q => q.toNat | _ => 0)
  case atStart => exact ⟨U / 8, [dg (U % 8)], by go_num, by omega, congrArg Value.string hc0, hZ.symm, ⟨rfl, rfl, rfl, Nat.le_refl _, fun _ _ => rfl⟩⟩
  case round =>
    clear hZ hc0
    obtain ⟨k, acc, rfl, hk, rfl, HS, hbr⟩ := hrel
    have H : digz 8 k ++ acc = digs 8 U := HS
    have hacc : acc.length ≤ 22 := by rw [← H, List.length_append] at hL; omega
    have has : ByteArray.size ⟨acc.toArray⟩ = acc.length := by simp [ByteArray.size]
    by_cases hk0 : k = 0
    · subst hk0
      have he : Hid (acc = digs 8 U) := by
        have h0 : digz 8 0 = [] := rfl
        rw [h0] at H; exact H
      clear HS H
      go_wp2
      go_ret
      exact ⟨by unfold Hid at he; rw [he]; rfl, hbr⟩
    · have hc1 := htxt_at (k % 8) (by omega)
      unfold htxt at hc1
      have H2 : Hid (digz 8 (k / 8) ++ (dg (k % 8) :: acc) = digs 8 U) := by
        rw [digz_pos hk0, digs_digz (by decide) k, List.append_assoc] at H; exact H
      have hkp : (0 : Int) < (k : Int) := by omega
      clear HS H
      go_wp2
      go_quiet (fail)
      go_wp2
      refine ⟨⟨k / 8, dg (k % 8) :: acc, by go_num, by omega, by rw [ba_app]; simp, H2, ⟨hbr.os, hbr.tape, hbr.output, hbr.size, hbr.block⟩⟩, ?_⟩
      simp only; omega

theorem rformat_8 (U : Nat) (h1 : U < 65536) (w : World) :
    Calls Tryz.prog 38 #[.int .i64 U, .int .i64 8] w fun e w' => e = .returned (.string ⟨(digs 8 U).toArray⟩) ∧ Below w.heap.size w w' := by
  have hp := fun w => positive_8 U (by omega) w
  generalize digs 8 U = D at *
  go_enter Tryz.func38, Tryz.ntmps38
  go_wp2_with (first
    | (go_at_call 37; with_reducible refine (base_8 _).mono ?_; rintro e w' ⟨rfl, rfl⟩)
    | (go_at_call 71; with_reducible refine (hp _).mono ?_; rintro e w1 ⟨rfl, hb1⟩))
  go_ret
  exact ⟨rfl, by assumption⟩

/-- One zero more. -/
theorem pad_more (Z : Nat) (F : List UInt8) : (⟨#[48]⟩ : ByteArray) ++ ⟨(List.replicate Z 48 ++ F).toArray⟩ = ⟨(List.replicate (Z + 1) 48 ++ F).toArray⟩ := by
  rw [ba_app, List.replicate_succ]; simp

set_option maxHeartbeats 400000 in
theorem rpad_8 (U : Nat) (h1 : U < 65536) (w : World) :
    Calls Tryz.prog 15 #[.int .i64 U, .int .i64 8, .int .i64 6] w fun e w' => e = .returned (.string ⟨(pd6 U).toArray⟩) ∧ Below w.heap.size w w' := by
  unfold pd6
  have hfl := digs_6 U h1
  have hfm := fun w => rformat_8 U h1 w
  generalize digs 8 U = F at *
  have hu0 : (0 : Int) ≤ (U : Int) := by omega
  go_enter Tryz.func15, Tryz.ntmps15
  go_wp2_with (first
    | (go_at_call 37; with_reducible refine (base_8 _).mono ?_; rintro e w' ⟨rfl, rfl⟩)
    | (go_at_call 38; with_reducible refine (hfm _).mono ?_; rintro e w1 ⟨rfl, hb1⟩))
  go_loopw [7] (fun s wr => ∃ Z : Nat, s = .string ⟨(List.replicate Z 48 ++ F).toArray⟩ ∧ Z ≤ 6 - F.length ∧ Below w.heap.size w wr)
    (fun s _ => match s with | .string q => 100 - q.size | _ => 0)
  case atStart => exact ⟨0, rfl, by omega, hb1⟩
  case round =>
    obtain ⟨Z, rfl, hZ, hbr⟩ := hrel
    have hzs : ByteArray.size ⟨(List.replicate Z 48 ++ F).toArray⟩ = Z + F.length := by simp [ByteArray.size]
    have hm := pad_more Z F
    have hzs1 : ByteArray.size ⟨(List.replicate (Z + 1) 48 ++ F).toArray⟩ = Z + 1 + F.length := by simp [ByteArray.size]
    obtain ⟨T, hT⟩ : ∃ T, T = (⟨(List.replicate Z 48 ++ F).toArray⟩ : ByteArray) := ⟨_, rfl⟩
    rw [← hT] at hzs hm ⊢
    by_cases hgo : Z < 6 - F.length
    · have hx1 : ((Z + F.length : Nat) : Int) < 6 := by omega
      have hx2 : ((Z + F.length : Nat) : Int) < 64 := by omega
      go_wp2
      refine ⟨⟨Z + 1, by rw [pad_more], by omega, hbr⟩, ?_⟩
      rw [pad_more]
      simp only
      rw [hzs1, hzs]; omega
    · have hZe : Hid (T = ⟨(List.replicate (6 - F.length) 48 ++ F).toArray⟩) := by rw [show 6 - F.length = Z by omega]; exact hT
      clear hT hm hzs1
      have hx : (6 : Int) ≤ ((Z + F.length : Nat) : Int) := by omega
      go_wp2
      go_ret
      exact ⟨by unfold Hid at hZe; rw [← hZe]; rfl, hbr⟩

end Go.Proofs.YtdbbnkjnmldnpaaGreatDoor
