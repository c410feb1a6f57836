/-
  Walks over the chapter's examples and over small. No condition.
-/
import Derived.Test.YtjjmgmnhcccjgaaMeM
namespace Go.Proofs.Ytjjmgmnhcccjgaa
open Go.RowKit
set_option linter.unusedSimpArgs false
set_option linter.unusedVariables false
set_option maxHeartbeats 4000000
set_option maxRecDepth 100000
attribute [local irreducible] wpQuiet

def M0 : List Int := newL 256
def M1 : List Int := writeM M0 2 false 4660
def M2 : List Int := writeM M1 3 true 5
def M3 : List Int := storeL M0 0 [97, 98, 99]
def M4 : List Int := moveL M3 1 0 3
theorem len0 : M0.length = 128 := by decide +kernel
theorem len1 : M1.length = 128 := by decide +kernel
theorem len2 : M2.length = 128 := by decide +kernel
theorem len3 : M3.length = 128 := by decide +kernel
theorem len4 : M4.length = 128 := by decide +kernel
theorem wd0 : wordsB M0 = true := by decide +kernel
theorem wd1 : wordsB M1 = true := by decide +kernel
theorem wd2 : wordsB M2 = true := by decide +kernel
theorem wd3 : wordsB M3 = true := by decide +kernel
theorem wd4 : wordsB M4 = true := by decide +kernel
theorem Own.shape {B n : Nat} {w : World} {v : Value} {l : List Int} (h : Own B w v l) (hl : l.length = n) : ∃ A c, v = .slice A n c := by
  obtain ⟨A, c, hv, _⟩ := h.nums
  exact ⟨A, c, by rw [hv, hl]⟩
theorem lit_nums (w : World) (x : Int) : Nums .i64 (w.alloc (.cells #[.int .i64 x] 3)) (.slice (some ⟨w.heap.size, 0, none⟩) 1 1) [x] :=
  Nums.of_own (base := w.heap.size) (t := 3) (n := 1) (own_one w 3 (.int .i64 x) (Nat.le_refl _))
theorem n_new0 : newE 256 = 0 := by decide +kernel
theorem n_new1 : newE 255 = 1 := by decide +kernel
theorem n_new2 : newE 192 = 1 := by decide +kernel
theorem c_new (w : World) : Calls Try.prog 9 #[.int .i64 256] w fun e w' => ∃ A c, e = .returned (.tuple #[.slice A 128 c, .int .i64 0]) ∧ Nums .i64 w' (.slice A 128 c) M0 ∧ Below w.heap.size w w' := by
  refine (new_any 256 w).mono ?_
  rintro e w' ⟨r, rfl, ho, hb⟩
  obtain ⟨A, c, rfl⟩ := Own.shape ho (n := 128) len0
  rw [n_new0]
  exact ⟨A, c, rfl, ho.nums, hb⟩
theorem c_new1 (w : World) : Calls Try.prog 9 #[.int .i64 255] w fun e w' => ∃ r, e = .returned (.tuple #[r, .int .i64 1]) ∧ Below w.heap.size w w' := by
  refine (new_any 255 w).mono ?_
  rintro e w' ⟨r, rfl, ho, hb⟩
  rw [n_new1]
  exact ⟨r, rfl, hb⟩
theorem c_new2 (w : World) : Calls Try.prog 9 #[.int .i64 192] w fun e w' => ∃ r, e = .returned (.tuple #[r, .int .i64 1]) ∧ Below w.heap.size w w' := by
  refine (new_any 192 w).mono ?_
  rintro e w' ⟨r, rfl, ho, hb⟩
  rw [n_new2]
  exact ⟨r, rfl, hb⟩
theorem c_w1 (vm vb : Value) (w : World) (hm : Nums .i64 w vm M0) (hb : Nums .i64 w vb []) : Calls Try.prog 18 #[vm, vb, .int .i64 2, .bool false, .int .i64 4660] w fun e w' => ∃ A c A2 c2, e = .returned (.tuple #[.slice A 128 c, .slice A2 0 c2, .int .i64 0]) ∧ Nums .i64 w' (.slice A 128 c) M1 ∧ Nums .i64 w' (.slice A2 0 c2) [] ∧ Below w.heap.size w w' := by
  refine (write_any vm vb M0 [] (by rw [len0]; decide) (by decide) wd0 (by decide +kernel) 2 false 4660 w hm hb).mono ?_
  rintro e w' ⟨r, s, rfl, ho, hs, hb⟩
  rw [show writeT (2 * (M0.length : Int)) 2 false = 0 by decide +kernel]
  rw [show writeB (2 * (M0.length : Int)) [] 2 false = [] by decide +kernel] at hs
  obtain ⟨A, c, rfl⟩ := Own.shape ho (n := 128) len1
  obtain ⟨A2, c2, rfl⟩ := Own.shape hs (n := 0) rfl
  exact ⟨A, c, A2, c2, rfl, ho.nums, hs.nums, hb⟩
theorem c_w2 (vm vb : Value) (w : World) (hm : Nums .i64 w vm M1) (hb : Nums .i64 w vb [2]) : Calls Try.prog 18 #[vm, vb, .int .i64 3, .bool true, .int .i64 5] w fun e w' => ∃ A c A2 c2, e = .returned (.tuple #[.slice A 128 c, .slice A2 0 c2, .int .i64 0]) ∧ Nums .i64 w' (.slice A 128 c) M2 ∧ Nums .i64 w' (.slice A2 0 c2) [] ∧ Below w.heap.size w w' := by
  refine (write_any vm vb M1 [2] (by rw [len1]; decide) (by decide) wd1 (by decide +kernel) 3 true 5 w hm hb).mono ?_
  rintro e w' ⟨r, s, rfl, ho, hs, hb⟩
  rw [show writeT (2 * (M1.length : Int)) 3 true = 0 by decide +kernel]
  rw [show writeB (2 * (M1.length : Int)) [2] 3 true = [] by decide +kernel] at hs
  obtain ⟨A, c, rfl⟩ := Own.shape ho (n := 128) len2
  obtain ⟨A2, c2, rfl⟩ := Own.shape hs (n := 0) rfl
  exact ⟨A, c, A2, c2, rfl, ho.nums, hs.nums, hb⟩
theorem c_r1 (vm vb : Value) (w : World) (hm : Nums .i64 w vm M1) (hb : Nums .i64 w vb []) : Calls Try.prog 16 #[vm, vb, .int .i64 2, .bool true] w fun e w' => e = .returned (.tuple #[.int .i64 52, .int .i64 0]) ∧ Below w.heap.size w w' := by
  have h := read_any vm vb M1 [] (by rw [len1]; decide) (by decide) (by decide +kernel) 2 true w hm hb
  rw [show readV M1 [] 2 true = 52 by decide +kernel, show readT (2 * (M1.length : Int)) [] 2 true = 0 by decide +kernel] at h
  exact h
theorem c_r2 (vm vb : Value) (w : World) (hm : Nums .i64 w vm M1) (hb : Nums .i64 w vb []) : Calls Try.prog 16 #[vm, vb, .int .i64 3, .bool true] w fun e w' => e = .returned (.tuple #[.int .i64 18, .int .i64 0]) ∧ Below w.heap.size w w' := by
  have h := read_any vm vb M1 [] (by rw [len1]; decide) (by decide) (by decide +kernel) 3 true w hm hb
  rw [show readV M1 [] 3 true = 18 by decide +kernel, show readT (2 * (M1.length : Int)) [] 3 true = 0 by decide +kernel] at h
  exact h
theorem c_r3 (vm vb : Value) (w : World) (hm : Nums .i64 w vm M1) (hb : Nums .i64 w vb []) : Calls Try.prog 16 #[vm, vb, .int .i64 3, .bool false] w fun e w' => e = .returned (.tuple #[.int .i64 0, .int .i64 1]) ∧ Below w.heap.size w w' := by
  have h := read_any vm vb M1 [] (by rw [len1]; decide) (by decide) (by decide +kernel) 3 false w hm hb
  rw [show readV M1 [] 3 false = 0 by decide +kernel, show readT (2 * (M1.length : Int)) [] 3 false = 1 by decide +kernel] at h
  exact h
theorem c_r4 (vm vb : Value) (w : World) (hm : Nums .i64 w vm M1) (hb : Nums .i64 w vb [2]) : Calls Try.prog 16 #[vm, vb, .int .i64 3, .bool true] w fun e w' => e = .returned (.tuple #[.int .i64 0, .int .i64 9]) ∧ Below w.heap.size w w' := by
  have h := read_any vm vb M1 [2] (by rw [len1]; decide) (by decide) (by decide +kernel) 3 true w hm hb
  rw [show readV M1 [2] 3 true = 0 by decide +kernel, show readT (2 * (M1.length : Int)) [2] 3 true = 9 by decide +kernel] at h
  exact h
theorem c_r5 (vm vb : Value) (w : World) (hm : Nums .i64 w vm M2) (hb : Nums .i64 w vb []) : Calls Try.prog 16 #[vm, vb, .int .i64 2, .bool false] w fun e w' => e = .returned (.tuple #[.int .i64 1332, .int .i64 0]) ∧ Below w.heap.size w w' := by
  have h := read_any vm vb M2 [] (by rw [len2]; decide) (by decide) (by decide +kernel) 2 false w hm hb
  rw [show readV M2 [] 2 false = 1332 by decide +kernel, show readT (2 * (M2.length : Int)) [] 2 false = 0 by decide +kernel] at h
  exact h
theorem c_b1 (vm : Value) (w : World) (hm : Nums .i64 w vm M0) : Calls Try.prog 22 #[vm, .int .i64 250, .int .i64 7] w fun e w' => e = .returned (.tuple #[.string ⟨#[]⟩, .int .i64 2]) ∧ Below w.heap.size w w' := by
  have h := bytes_any vm M0 (by rw [len0]; decide) 250 7 (by decide) w hm
  rw [show bytesS M0 250 7 = [] by decide +kernel, show bytesE (2 * (M0.length : Int)) 250 7 = 2 by decide +kernel] at h
  exact h
theorem c_b2 (vm : Value) (w : World) (hm : Nums .i64 w vm M0) : Calls Try.prog 22 #[vm, .int .i64 256, .int .i64 0] w fun e w' => e = .returned (.tuple #[.string ⟨#[]⟩, .int .i64 0]) ∧ Below w.heap.size w w' := by
  have h := bytes_any vm M0 (by rw [len0]; decide) 256 0 (by decide) w hm
  rw [show bytesS M0 256 0 = [] by decide +kernel, show bytesE (2 * (M0.length : Int)) 256 0 = 0 by decide +kernel] at h
  exact h
theorem c_b3 (vm : Value) (w : World) (hm : Nums .i64 w vm M4) : Calls Try.prog 22 #[vm, .int .i64 0, .int .i64 4] w fun e w' => e = .returned (.tuple #[.string ⟨#[97, 97, 98, 99]⟩, .int .i64 0]) ∧ Below w.heap.size w w' := by
  have h := bytes_any vm M4 (by rw [len4]; decide) 0 4 (by decide) w hm
  rw [show bytesS M4 0 4 = [97, 97, 98, 99] by decide +kernel, show bytesE (2 * (M4.length : Int)) 0 4 = 0 by decide +kernel] at h
  exact h
theorem c_sp (A : Option Addr) (c : Nat) (vb : Value) (w : World) (hb : Nums .i64 w vb []) : Calls Try.prog 20 #[.slice A 128 c, vb, .int .i64 2] w fun e w' => ∃ r, e = .returned (.tuple #[r, .int .i64 0]) ∧ Nums .i64 w' r [2] ∧ Below w.heap.size w w' := by
  refine (spoil_any A 128 c (by decide) vb [] (by decide) (by decide) 2 w hb).mono ?_
  rintro e w' ⟨r, rfl, ho, hb⟩
  rw [show spoilE (2 * ((128 : Nat) : Int)) 2 = 0 by decide +kernel]
  rw [show spoilL (2 * ((128 : Nat) : Int)) [] 2 = [2] by decide +kernel] at ho
  exact ⟨r, rfl, ho.nums, hb⟩
theorem c_st (vm : Value) (w : World) (hm : Nums .i64 w vm M0) : Calls Try.prog 24 #[vm, .int .i64 0, .string ⟨#[97, 98, 99]⟩] w fun e w' => ∃ r x, e = .returned (.tuple #[r, .int .i64 x]) ∧ Nums .i64 w' r M3 ∧ Below w.heap.size w w' := by
  refine (store_any vm M0 (by rw [len0]; decide) wd0 (by rw [len0]; decide) 0 (by decide) ⟨#[97, 98, 99]⟩ (by decide) w hm).mono ?_
  rintro e w' ⟨r, rfl, ho, hb⟩
  exact ⟨r, _, rfl, ho.nums, hb⟩
theorem c_mv (vm : Value) (w : World) (hm : Nums .i64 w vm M3) : Calls Try.prog 26 #[vm, .int .i64 1, .int .i64 0, .int .i64 3] w fun e w' => ∃ r x, e = .returned (.tuple #[r, .int .i64 x]) ∧ Nums .i64 w' r M4 ∧ Below w.heap.size w w' := by
  refine (move_any vm M3 (by rw [len3]; decide) wd3 (by rw [len3]; decide) 1 0 3 (by decide) (by decide) w hm).mono ?_
  rintro e w' ⟨r, rfl, ho, hb⟩
  exact ⟨r, _, rfl, ho.nums, hb⟩
theorem nil_nums (w : World) : Nums .i64 w (.slice none 0 0) [] := Nums.nil _ _
theorem lit_nums2 {w : World} {v : Value} {l : List Int} (h : Nums .i64 w v l) (x : Int) : Nums .i64 (w.alloc (.cells #[.int .i64 x] 3)) v l := h.below ((Below.refl _ _).alloc (Nat.le_refl _) _)

theorem same_two (l : List Int) (va vb : Value) (w : World) (hl : l.length ≤ 1099511627776) (ha : Nums .i64 w va l) (hb : Nums .i64 w vb l) : Calls Try.prog 11 #[va, vb] w fun e w' => e = .returned (.bool true) ∧ Below w.heap.size w w' := by
  have h := same_lists l l va vb hl w ha hb
  rw [decide_eq_true rfl] at h
  exact h
theorem alive_any (W0 : World) : Calls Try.prog 14 #[] W0 fun e w' => e = .returned (.bool true) ∧ Below W0.heap.size W0 w' := by
  have hsm := fun va vb w => same_two [2] va vb w (by decide)
  have hB := Below.refl W0.heap.size W0
  go_enter Try.func14, Try.ntmps14
  go_wp2_with (first
    | (go_at_call 9; with_reducible refine (c_new _).mono ?_; rintro e w' ⟨A0, k0, rfl, n0, hb⟩; have hB := hB.trans (hb.mono hB.size); clear hb)
    | (go_at_call 9; with_reducible refine (c_new1 _).mono ?_; rintro e w' ⟨x1, rfl, hb⟩; have n0 := n0.below hb; have hB := hB.trans (hb.mono hB.size); clear hb)
    | (go_at_call 9; with_reducible refine (c_new2 _).mono ?_; rintro e w' ⟨x2, rfl, hb⟩; have n0 := n0.below hb; have hB := hB.trans (hb.mono hB.size); clear hb)
    | (go_at_call 18; with_reducible refine (c_w1 _ _ _ n0 (nil_nums _)).mono ?_; rintro e w' ⟨A1, k1, A2, k2, rfl, n1, b1, hb⟩; have n0 := n0.below hb; have hB := hB.trans (hb.mono hB.size); clear hb)
    | (go_at_call 16; with_reducible refine (c_r1 _ _ _ n1 b1).mono ?_; rintro e w' ⟨rfl, hb⟩; have n0 := n0.below hb; have n1 := n1.below hb; have b1 := b1.below hb; have hB := hB.trans (hb.mono hB.size); clear hb)
    | (go_at_call 16; with_reducible refine (c_r2 _ _ _ n1 b1).mono ?_; rintro e w' ⟨rfl, hb⟩; have n0 := n0.below hb; have n1 := n1.below hb; have b1 := b1.below hb; have hB := hB.trans (hb.mono hB.size); clear hb)
    | (go_at_call 16; with_reducible refine (c_r3 _ _ _ n1 b1).mono ?_; rintro e w' ⟨rfl, hb⟩; have n0 := n0.below hb; have n1 := n1.below hb; have b1 := b1.below hb; have hB := hB.trans (hb.mono hB.size); clear hb)
    | (go_at_call 20; with_reducible refine (c_sp _ _ _ _ b1).mono ?_; rintro e w' ⟨r1, rfl, p2, hb⟩; have n0 := n0.below hb; have n1 := n1.below hb; have b1 := b1.below hb; have hB := hB.trans (hb.mono hB.size); clear hb)
    | (go_at_call 16; with_reducible refine (c_r4 _ _ _ n1 p2).mono ?_; rintro e w' ⟨rfl, hb⟩; have n0 := n0.below hb; have n1 := n1.below hb; have b1 := b1.below hb; have p2 := p2.below hb; have hB := hB.trans (hb.mono hB.size); clear hb)
    | (go_at_call 18; with_reducible refine (c_w2 _ _ _ n1 p2).mono ?_; rintro e w' ⟨A3, k3, A4, k4, rfl, n2, b2, hb⟩; have n0 := n0.below hb; have p2 := p2.below hb; have hB := hB.trans (hb.mono hB.size); clear hb)
    | (go_at_call 16; with_reducible refine (c_r5 _ _ _ n2 b2).mono ?_; rintro e w' ⟨rfl, hb⟩; have n0 := n0.below hb; have p2 := p2.below hb; have n2 := n2.below hb; have b2 := b2.below hb; have hB := hB.trans (hb.mono hB.size); clear hb)
    | (go_at_call 22; with_reducible refine (c_b1 _ _ n0).mono ?_; rintro e w' ⟨rfl, hb⟩; have n0 := n0.below hb; have p2 := p2.below hb; have hB := hB.trans (hb.mono hB.size); clear hb)
    | (go_at_call 22; with_reducible refine (c_b2 _ _ n0).mono ?_; rintro e w' ⟨rfl, hb⟩; have n0 := n0.below hb; have p2 := p2.below hb; have hB := hB.trans (hb.mono hB.size); clear hb)
    | (go_at_call 24; with_reducible refine (c_st _ _ n0).mono ?_; rintro e w' ⟨r3, x3, rfl, n3, hb⟩; have p2 := p2.below hb; have hB := hB.trans (hb.mono hB.size); clear hb)
    | (go_at_call 26; with_reducible refine (c_mv _ _ n3).mono ?_; rintro e w' ⟨r4, x4, rfl, n4, hb⟩; have p2 := p2.below hb; have hB := hB.trans (hb.mono hB.size); clear hb)
    | (go_at_call 22; with_reducible refine (c_b3 _ _ n4).mono ?_; rintro e w' ⟨rfl, hb⟩; have p2 := p2.below hb; have hB := hB.trans (hb.mono hB.size); clear hb)
    | (go_at_call 11; with_reducible refine (hsm _ _ _ (lit_nums2 p2 2) (lit_nums _ 2)).mono ?_; rintro e w' ⟨rfl, hb⟩; have hB := (hB.alloc hB.size _).trans (hb.mono (Nat.le_trans hB.size (Nat.le_of_lt (by simp)))); clear hb))
  go_ret
  exact ⟨rfl, hB⟩

def smallP (mem bad : List Int) : Bool := decide (mem.length ≤ 2048) && (decide (bad.length ≤ 2048) && rightP mem bad)
theorem small_any (vm vb : Value) (mem bad : List Int) (w : World) (hm : Nums .i64 w vm mem) (hb : Nums .i64 w vb bad) :
    Calls Try.prog 15 #[vm, vb] w fun e w' => e = .returned (.bool (smallP mem bad)) ∧ Below w.heap.size w w' := by
  have hr := fun h1 h2 => rright_any vm vb mem bad h1 h2 w hm hb
  obtain ⟨A, ca, rfl, _, _⟩ := hm
  obtain ⟨B, cb, rfl, _, _⟩ := hb
  unfold smallP
  by_cases h1 : mem.length ≤ 2048
  · have i1 : (mem.length : Int) ≤ 2048 := by omega
    by_cases h2 : bad.length ≤ 2048
    · have i2 : (bad.length : Int) ≤ 2048 := by omega
      have hr := hr (by omega) (by omega)
      rw [decide_eq_true h1, decide_eq_true h2]
      generalize rightP mem bad = Q at *
      clear h1 h2
      go_enter Try.func15, Try.ntmps15
      go_wp2_with (first | (go_at_call 13; with_reducible refine hr.mono ?_; rintro e w' ⟨rfl, hb⟩))
      go_ret
      exact ⟨ret_bool (by first | rfl | simp), hb⟩
    · have i2 : ¬ (bad.length : Int) ≤ 2048 := by omega
      rw [decide_eq_false h2]
      clear hr h1 h2
      go_enter Try.func15, Try.ntmps15
      go_wp2
      go_ret
      exact ⟨ret_bool (by simp), Below.refl _ _⟩
  · have i1 : ¬ (mem.length : Int) ≤ 2048 := by omega
    rw [decide_eq_false h1]
    clear hr h1
    go_enter Try.func15, Try.ntmps15
    go_wp2
    go_ret
    exact ⟨ret_bool (by simp), Below.refl _ _⟩
theorem small_out {mem bad : List Int} (h : smallP mem bad = true) : mem.length ≤ 2048 ∧ bad.length ≤ 2048 ∧ rightP mem bad = true := by
  unfold smallP at h
  simpa using h
theorem right_out {mem bad : List Int} (h : rightP mem bad = true) : 128 ≤ mem.length ∧ wordsB mem = true ∧ (∀ x ∈ bad, 0 ≤ x ∧ x % 2 = 0 ∧ x < 2 * (mem.length : Int)) ∧ bad.Pairwise (· < ·) := by
  unfold rightP at h
  simp only [Bool.and_eq_true] at h
  obtain ⟨h1, h2, h3⟩ := h
  have := okS_iff.1 h1
  obtain ⟨h4, h5⟩ := (badB_iff _ _ _).1 h3
  exact ⟨by omega, h2, h4, h5⟩
end Go.Proofs.Ytjjmgmnhcccjgaa
