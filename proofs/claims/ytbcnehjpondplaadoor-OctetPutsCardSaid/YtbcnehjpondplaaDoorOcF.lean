/-
  Walks over PutWords of package octet and of its reference: lists of integers as bytes. Condition: the lists have at most 2^40 elements.
-/
import Derived.Test.YtbcnehjpondplaaDoorOcE
import Derived.Maps.OwnRows
namespace Go.Proofs.YtbcnehjpondplaaDoor
open Go.RowKit
set_option linter.unusedSimpArgs false

/-- A slice of integers of kind q that reads as l. -/
def Nums (q : IntKind) (w : World) (v : Value) (l : List Int) : Prop :=
  ∃ A c, v = .slice A l.length c ∧ ∀ j x, l[j]? = some x → ∃ a : Addr, A = some a ∧ w.cell? (a.add j) = some (.int q x) ∧ (a.add j).block < w.heap.size
theorem Nums.below {q : IntKind} {w w' : World} {v : Value} {l : List Int} (h : Nums q w v l) (hb : Below w.heap.size w w') : Nums q w' v l := by
  obtain ⟨A, c, hv, hc⟩ := h
  refine ⟨A, c, hv, fun j x hx => ?_⟩
  obtain ⟨a, ha, h1, h2⟩ := hc j x hx
  exact ⟨a, ha, (hb.cell h2).trans h1, Nat.lt_of_lt_of_le h2 hb.size⟩
theorem Nums.drew {q : IntKind} {w : World} {v : Value} {l : List Int} (h : Nums q w v l) : Nums q w.drew v l := h.below (Below.refl _ _).drew

/-! ### Plain -/
theorem wrd_lt (n : Int) : wrd n < 65536 := by unfold wrd; omega
theorem putW_snoc : ∀ (l : List Nat) (n : Nat), putW (l ++ [n]) = putW l ++ putN n 2
  | [], n => by simp [putW]
  | m :: l, n => by rw [List.cons_append, putW, putW_snoc l n, putW, List.append_assoc]
theorem pwds_step (l : List Int) (k : Nat) (x : Int) (h : l[k]? = some x) : pwds (l.take (k + 1)) = pwds (l.take k) ++ putN (wrd x) 2 := by
  unfold pwds
  rw [List.take_add_one, h, List.map_append, Option.toList_some]
  exact putW_snoc _ _
theorem pwds_length (l : List Int) : (pwds l).length = 2 * l.length := by unfold pwds; rw [putW_length, List.length_map]
theorem cells_snoc2 (l : List UInt8) (n : Int) : Lib.byteCells l ++ [.int .u8 (n % 256), .int .u8 (n / 256 % 256)] = Lib.byteCells (l ++ putN (wrd n) 2) := by
  have e : putN (wrd n) 2 = [UInt8.ofNat (wrd n % 256), UInt8.ofNat (wrd n / 256 % 256)] := rfl
  rw [e]
  have h1 : ((UInt8.ofNat (wrd n % 256)).toNat : Int) = n % 256 := by rw [u8_mod]; unfold wrd; omega
  have h2 : ((UInt8.ofNat (wrd n / 256 % 256)).toNat : Int) = n / 256 % 256 := by rw [u8_mod]; unfold wrd; omega
  simp only [Lib.byteCells, List.map_append, List.map_cons, List.map_nil, h1, h2]

set_option maxHeartbeats 1000000

theorem tmod_eq (n : Int) : n.tmod 65536 = if 0 ≤ n then n % 65536 else -((-n) % 65536) := by
  split
  · next h => exact Int.tmod_eq_emod_of_nonneg h
  · next h =>
    have e := Int.neg_tmod (-n) 65536
    rw [Int.neg_neg, Int.tmod_eq_emod_of_nonneg (a := -n) (by omega)] at e
    exact e
theorem word_any (n : Int) (h0 : -9223372036854775808 ≤ n) (h1 : n ≤ 9223372036854775807) (w : World) :
    Calls Tryd.prog 32 #[.int .i64 n] w fun e w' => e = .returned (.int .i64 (wrd n)) ∧ w = w' := by
  have hB : -65536 < n.tmod 65536 ∧ n.tmod 65536 < 65536 := by rw [tmod_eq]; split <;> omega
  go_enter Tryd.func32, Tryd.ntmps32
  go_wp2
  · go_ret
    refine ⟨ret_int ?_, rfl⟩
    have h : n.tmod 65536 < 0 := by assumption
    show n.tmod 65536 + 65536 = _
    rw [tmod_eq] at h ⊢; unfold wrd; split <;> omega
  · go_ret
    refine ⟨ret_int ?_, rfl⟩
    have h : 0 ≤ n.tmod 65536 := by assumption
    show n.tmod 65536 = _
    rw [tmod_eq] at h ⊢; unfold wrd; split <;> omega

theorem putw_any (v : Value) (l : List Int) (hl : l.length ≤ 1099511627776) (hb : ∀ x ∈ l, -9223372036854775808 ≤ x ∧ x ≤ 9223372036854775807) (w : World) (hv : Nums .i64 w v l) :
    Calls Tryd.prog 21 #[v] w fun e w' => e = .returned (.string ⟨(pwds l).toArray⟩) ∧ Below w.heap.size w w' := by
  obtain ⟨i0, hi, hz0, hz1, hz2⟩ := info_parts info8
  obtain ⟨A, c, rfl, hcell⟩ := hv
  go_enter Tryd.func21, Tryd.ntmps21
  go_wp2_with (first
    | (refine wpList_make_own _ rfl _ _ 32 rfl w.heap.size 5 i0 (.int .u8 0) 1 Tryd.underlying32 hi hz0 hz1 .i64 .i64 _ (2 * l.length) rfl rfl (by omega) (by rw [hz2]; omega) (by unfold maxLen; omega) (Nat.le_refl _) ?_; intro w1 hown hgrow))
  go_loopw [3, 12] (fun v i wr => ∃ k : Nat, k ≤ l.length ∧ i = .int .i64 k ∧ wr.ownsRow w.heap.size 5 1 v (pwds (l.take k)).length (Lib.byteCells (pwds (l.take k))) ∧ Below w.heap.size w wr)
    (fun _ i _ => match i with | .int _ q => l.length - q.toNat | _ => 0)
  case atStart => exact ⟨0, Nat.zero_le _, rfl, hown, (Below.refl _ _).grown hgrow (Nat.le_refl _) (fun j hj => by cases hj)⟩
  case round =>
    clear hown hgrow
    obtain ⟨k, hk, rfl, hown, hB⟩ := hrel
    by_cases hkl : k < l.length
    · have hx := List.getElem?_eq_getElem hkl
      obtain ⟨h0, h1⟩ := hb l[k] (List.getElem_mem hkl)
      generalize l[k] = x at *
      obtain ⟨a, rfl, hc1, hc2⟩ := hcell k x hx
      have hc := (hB.cell hc2).trans hc1
      have hst := hid (pwds_step l k x hx)
      have hlen := pwds_length (l.take k)
      rw [List.length_take, Nat.min_eq_left (by omega)] at hlen
      have hbl : (Lib.byteCells (pwds (l.take k))).length = 2 * k := by simp [Lib.byteCells, hlen]
      clear hcell hc1 hc2 hb
      go_wp2_with (first
        | (at_builtin; refine wpList_append_own _ rfl (.tmp 16) (.tmp 22) 32 rfl w.heap.size 5 i0 (.int .u8 0) 1 1 Tryd.underlying32 hi hz0 hz1 hz2 rfl (by decide) _ _ _ rfl (hown.alloc _) ⟨wr.heap.size, 0, none⟩ 2 2 [.int .u8 (x % 256), .int .u8 (x / 256 % 256)] rfl rfl (cell_two_new _ _ _ _) (fun x hx => by simp at hx; rcases hx with rfl | rfl <;> rfl) (by unfold maxLen; omega) (by omega) (by have := hB.size; simp; omega) ?_; intro v' w1 hown' hgrow _))
      refine ⟨⟨k + 1, by omega, by go_num, ?_, (hB.alloc hB.size _).grown hgrow (by have := hB.size; simp; omega) (fun j hj => (hown.lt j hj).1)⟩, ?_⟩
      · unfold Hid at hst
        rw [hst, List.length_append, ← cells_snoc2, putN_length]
        exact hown'
      · simp only; omega
    · obtain rfl : k = l.length := by omega
      rw [List.take_length] at hown
      have hcv := own_conv hown
      clear hcell hb
      go_wp2
      go_ret
      exact ⟨rfl, hB⟩

theorem wrd_cells (x : Int) : (x % 256 = (wrd x : Int) % 256) ∧ (x / 256 % 256 = (wrd x : Int) / 256) := by unfold wrd; omega
theorem rputw_any (v : Value) (l : List Int) (hl : l.length ≤ 1099511627776) (hb : ∀ x ∈ l, -9223372036854775808 ≤ x ∧ x ≤ 9223372036854775807) (w : World) (hv : Nums .i64 w v l) :
    Calls Tryd.prog 22 #[v] w fun e w' => e = .returned (.string ⟨(pwds l).toArray⟩) ∧ Below w.heap.size w w' := by
  obtain ⟨i0, hi, hz0, hz1, hz2⟩ := info_parts info8
  obtain ⟨A, c, rfl, hcell⟩ := hv
  go_enter Tryd.func22, Tryd.ntmps22
  go_wp2
  go_loopw [3, 4] (fun v i wr => ∃ k : Nat, k ≤ l.length ∧ i = .int .i64 k ∧ wr.ownsRow w.heap.size 5 1 v (pwds (l.take k)).length (Lib.byteCells (pwds (l.take k))) ∧ Below w.heap.size w wr)
    (fun _ i _ => match i with | .int _ q => l.length - q.toNat | _ => 0)
  case atStart => exact ⟨0, Nat.zero_le _, rfl, World.ownsRow_nil _ _ _ _, Below.refl _ _⟩
  case round =>
    obtain ⟨k, hk, rfl, hown, hB⟩ := hrel
    by_cases hkl : k < l.length
    · have hx := List.getElem?_eq_getElem hkl
      obtain ⟨h0, h1⟩ := hb l[k] (List.getElem_mem hkl)
      generalize l[k] = x at *
      obtain ⟨a, rfl, hc1, hc2⟩ := hcell k x hx
      have hc := (hB.cell hc2).trans hc1
      have hst := hid (pwds_step l k x hx)
      have hlen := pwds_length (l.take k)
      rw [List.length_take, Nat.min_eq_left (by omega)] at hlen
      have hbl : (Lib.byteCells (pwds (l.take k))).length = 2 * k := by simp [Lib.byteCells, hlen]
      have hwd := fun w => word_any x h0 h1 w
      have hwl := wrd_lt x
      have hwc := hid (wrd_cells x)
      have hs2 := hid (cells_snoc2 (pwds (l.take k)) x)
      clear hcell hc1 hc2 hb
      generalize hW : wrd x = W at *
      go_wp2_with (first
        | (go_at_call 32; with_reducible refine (hwd _).mono ?_; rintro e w' ⟨rfl, rfl⟩)
        | (at_builtin; refine wpList_append_own _ rfl (.tmp 17) (.tmp 24) 32 rfl w.heap.size 5 i0 (.int .u8 0) 1 1 Tryd.underlying32 hi hz0 hz1 hz2 rfl (by decide) _ _ _ rfl (hown.alloc _) ⟨wr.heap.size, 0, none⟩ 2 2 [.int .u8 ((W : Int) % 256), .int .u8 ((W : Int) / 256)] rfl rfl (cell_two_new _ _ _ _) (fun x hx => by simp at hx; rcases hx with rfl | rfl <;> rfl) (by unfold maxLen; omega) (by omega) (by have := hB.size; simp; omega) ?_; intro v' w1 hown' hgrow _))
      refine ⟨⟨k + 1, by omega, by go_num, ?_, (hB.alloc hB.size _).grown hgrow (by have := hB.size; simp; omega) (fun j hj => (hown.lt j hj).1)⟩, ?_⟩
      · unfold Hid at hst hwc hs2
        rw [hwc.1, hwc.2] at hs2
        rw [hst, List.length_append, ← hs2, putN_length]
        exact hown'
      · simp only; omega
    · obtain rfl : k = l.length := by omega
      rw [List.take_length] at hown
      have hcv := own_conv hown
      clear hcell hb
      go_wp2
      go_ret
      exact ⟨rfl, hB⟩

end Go.Proofs.YtbcnehjpondplaaDoor
