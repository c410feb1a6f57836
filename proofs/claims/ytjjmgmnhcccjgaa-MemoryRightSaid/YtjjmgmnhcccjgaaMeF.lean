/-
  A byte set in a row of a call's own, and New, of package memory and of its reference. Condition: lists have at most 2^40 elements; a byte is set in a list of words.
-/
import Derived.Test.YtjjmgmnhcccjgaaMeE
namespace Go.Proofs.Ytjjmgmnhcccjgaa
open Go.RowKit
set_option linter.unusedSimpArgs false
set_option linter.unusedVariables false
set_option maxHeartbeats 1000000
attribute [local irreducible] wpQuiet

/-! ### Bits -/
theorem N64_small {x : Int} (h0 : 0 ≤ x) (h1 : x ≤ 65535) : N64 x = x.toNat := by have := N64_eq x; omega
theorem or_hi {h l : Int} (h0 : 0 ≤ h) (h1 : h ≤ 255) (l0 : 0 ≤ l) (l1 : l ≤ 255) : bits .or .i64 (h * 256) l = h * 256 + l := by
  have e1 : N64 (h * 256) = 2 ^ 8 * h.toNat := by have := N64_eq (h * 256); omega
  have e2 : N64 l = l.toNat := by have := N64_eq l; omega
  rw [or_def, e1, e2, ← Nat.two_pow_add_eq_or_of_lt (by omega), small (by omega)]
  omega
theorem or_lo {h l : Int} (h0 : 0 ≤ h) (h1 : h ≤ 255) (l0 : 0 ≤ l) (l1 : l ≤ 255) : bits .or .i64 l (h * 256) = h * 256 + l := by
  have e1 : N64 (h * 256) = 2 ^ 8 * h.toNat := by have := N64_eq (h * 256); omega
  have e2 : N64 l = l.toNat := by have := N64_eq l; omega
  rw [or_def, e1, e2, Nat.or_comm, ← Nat.two_pow_add_eq_or_of_lt (by omega), small (by omega)]
  omega
theorem and_cut {x M : Nat} (h : x ≤ 65535) : x &&& M = x &&& (65535 &&& M) := by
  rw [← Nat.and_assoc, m65535, Nat.mod_eq_of_lt (by omega)]
theorem m65280 {x : Nat} (h : x ≤ 65535) : x &&& 65280 = x / 256 * 256 := by
  have e : (65280 : Nat) = (2 ^ 8 - 1) * 2 ^ 8 := rfl
  rw [e, field]
  omega
theorem a65280 {x : Int} (h0 : 0 ≤ x) (h1 : x ≤ 65535) : bits .and .i64 x 65280 = x / 256 * 256 :=
  i_and (c := 65280) (r := x.toNat / 256 * 256) (by decide) (by rw [N64_small h0 h1]; exact m65280 (by omega)) (by intro h; omega)
theorem n255 {x : Int} (h0 : 0 ≤ x) (h1 : x ≤ 65535) : bits .andNot .i64 x 255 = x / 256 * 256 := by
  rw [andNot_def, N64_small h0 h1, show N64 255 = 255 by decide, and_cut (by omega), show 65535 &&& (18446744073709551615 - 255) = 65280 by decide, m65280 (by omega), small (by omega)]
  omega
theorem n65280 {x : Int} (h0 : 0 ≤ x) (h1 : x ≤ 65535) : bits .andNot .i64 x 65280 = x % 256 := by
  rw [andNot_def, N64_small h0 h1, show N64 65280 = 65280 by decide, and_cut (by omega), show 65535 &&& (18446744073709551615 - 65280) = 255 by decide, m255, small (by omega)]
  omega

/-! ### A byte is set -/
theorem own_tail {base g cap : Nat} {w w4 : World} {l : List Int} (h : Own base w (.slice (some ⟨g, 0, none⟩) l.length cap) l) (hg : base ≤ g) (k : Nat) (x : Int) (hb : Below base w w4) (ho : Own base w4 (.slice (some ⟨g, 0, none⟩) l.length cap) l) :
    Own base (w4.setCell ⟨g, k, none⟩ (.int .i64 x)) (.slice (some ⟨g, 0, none⟩) l.length cap) (l.set k x) ∧ Below base w (w4.setCell ⟨g, k, none⟩ (.int .i64 x)) :=
  ⟨ho.set k x, hb.setCell hg _⟩
theorem setN_even {l : List Int} {a : Nat} {x v : Int} (h : a % 2 = 0) (hx : l[a / 2]? = some x) : setN l a v = l.set (a / 2) (x / 256 * 256 + v % 256) := by
  unfold setN; rw [getD_at hx, h]; rfl
theorem setN_odd {l : List Int} {a : Nat} {x v : Int} (h : a % 2 = 1) (hx : l[a / 2]? = some x) : setN l a v = l.set (a / 2) (v % 256 * 256 + x % 256) := by
  unfold setN; rw [getD_at hx, h]; rfl

set_option maxHeartbeats 4000000 in
theorem setbyte_any (base : Nat) (r : Value) (l : List Int) (hl : l.length ≤ 1099511627776) (hw : wordsB l = true) (a : Nat) (ha : a < 2 * l.length) (v : Int) (w : World) (ho : Own base w r l) :
    Calls Try.prog 40 #[r, .int .i64 (a : Int), .int .i64 v] w fun e w' => e = .returned (.tuple #[]) ∧ Own base w' r (setN l a v) ∧ Below base w w' := by
  obtain ⟨g, cap, rfl, hg, hcap, hgl⟩ := ho.form (by omega)
  have hk : a / 2 < l.length := by omega
  have hx := List.getElem?_eq_getElem hk
  have hxb := (wordsB_iff l).1 hw _ (List.getElem_mem hk)
  have e0 := fun h => setN_even (a := a) (v := v) h hx
  have e1 := fun h => setN_odd (a := a) (v := v) h hx
  have hst := fun k x w4 (hb : Below base w w4) (h4 : Own base w4 (.slice (some ⟨g, 0, none⟩) l.length cap) l) => own_tail ho hg k x hb h4
  generalize l[a / 2] = x at *
  obtain ⟨hx0, hx1⟩ := hxb
  have hsh := fun w => shift_any a (by omega) w
  have A0 := a255 v
  have N0 := n255 hx0 hx1
  have N1 := n65280 hx0 hx1
  have O0 := or_hi (h := x / 256) (l := v % 256) (by omega) (by omega) (by omega) (by omega)
  have O1 := or_lo (h := v % 256) (l := x % 256) (by omega) (by omega) (by omega) (by omega)
  have hv0 : 0 ≤ v % 256 ∧ v % 256 ≤ 255 := by omega
  have hi : (a : Int) / 2 = ((a / 2 : Nat) : Int) := by omega
  have hx := hid hx
  rcases Nat.mod_two_eq_zero_or_one a with h | h
  · have hm : (a : Int) % 2 * 8 = 0 := by omega
    rw [hm] at hsh
    rw [e0 h]
    clear e0 e1 h hm O1 N1 hw
    generalize v % 256 = y at *
    generalize hj : a / 2 = j at *
    have hj := hid hj
    go_enter Try.func40, Try.ntmps40
    go_wp2
    refine region_class_last (fun w' => Below base w w' ∧ Own base w' (.slice (some ⟨g, 0, none⟩) l.length cap) l) 15 _ (by kernel_rfl) (by rfl) (by rfl) (by rfl) (by kernel_rfl) (by kernel_rfl) (by kernel_rfl) ⟨(Below.refl _ _).drew, ho.drew⟩ ?_
    simp only [blankLast, List.take_succ_cons, List.take_zero, List.drop_succ_cons, List.drop_zero, List.map_cons, List.map_nil, List.cons_append, List.nil_append, blank]
    repeat
      first
        | (refine BigFrame.wpQuiet_skip (by rfl) ?_
           simp only [Act.put, List.setIfInBounds_toArray, List.set_cons_zero, List.set_cons_succ])
        | (refine BigFrame.wpQuiet_want (by rfl) (fun K hK => ?_)
           apply Exists.intro
           refine ⟨fun wq hq => ?_, hK _ ?_⟩
           · obtain ⟨hqb, hqo⟩ := hq
             have c0 := hqo.cell hx
             unfold Oper.quietAt
             go_simp
             first
               | with_reducible rfl
               | ((go_at_call 50); with_reducible refine (hsh _).mono ?_; exact fun e w' ⟨he, hb⟩ => ⟨he, by rw [← hb]; exact ⟨hqb, hqo⟩⟩)
           clear hK K
           simp only [Act.put, List.setIfInBounds_toArray, List.set_cons_zero, List.set_cons_succ])
    refine wpQuiet_nil ?_
    intro w4 hX
    obtain ⟨hqb, hqo⟩ := hX
    have c0 := hqo.cell hx
    have z0 := hqo.frozen j
    have hfin := hst j (x / 256 * 256 + y) w4 hqb hqo
    go_wp2
    rw [N0, O0]
    exact bodyPost_end (v := .tuple #[]) (by simp [results, Try.results40, go_sem]) rfl ⟨rfl, hfin.1, hfin.2⟩
  · have hm : (a : Int) % 2 * 8 = 8 := by omega
    rw [hm] at hsh
    rw [e1 h]
    clear e0 e1 h hm O0 N0 hw
    generalize v % 256 = y at *
    generalize hj : a / 2 = j at *
    have hj := hid hj
    go_enter Try.func40, Try.ntmps40
    go_wp2
    refine region_class_last (fun w' => Below base w w' ∧ Own base w' (.slice (some ⟨g, 0, none⟩) l.length cap) l) 15 _ (by kernel_rfl) (by rfl) (by rfl) (by rfl) (by kernel_rfl) (by kernel_rfl) (by kernel_rfl) ⟨(Below.refl _ _).drew, ho.drew⟩ ?_
    simp only [blankLast, List.take_succ_cons, List.take_zero, List.drop_succ_cons, List.drop_zero, List.map_cons, List.map_nil, List.cons_append, List.nil_append, blank]
    repeat
      first
        | (refine BigFrame.wpQuiet_skip (by rfl) ?_
           simp only [Act.put, List.setIfInBounds_toArray, List.set_cons_zero, List.set_cons_succ])
        | (refine BigFrame.wpQuiet_want (by rfl) (fun K hK => ?_)
           apply Exists.intro
           refine ⟨fun wq hq => ?_, hK _ ?_⟩
           · obtain ⟨hqb, hqo⟩ := hq
             have c0 := hqo.cell hx
             unfold Oper.quietAt
             go_simp
             first
               | with_reducible rfl
               | ((go_at_call 50); with_reducible refine (hsh _).mono ?_; exact fun e w' ⟨he, hb⟩ => ⟨he, by rw [← hb]; exact ⟨hqb, hqo⟩⟩)
           clear hK K
           simp only [Act.put, List.setIfInBounds_toArray, List.set_cons_zero, List.set_cons_succ])
    refine wpQuiet_nil ?_
    intro w4 hX
    obtain ⟨hqb, hqo⟩ := hX
    have c0 := hqo.cell hx
    have z0 := hqo.frozen j
    have hfin := hst j (y * 256 + x % 256) w4 hqb hqo
    go_wp2
    rw [N1, O1]
    exact bodyPost_end (v := .tuple #[]) (by simp [results, Try.results40, go_sem]) rfl ⟨rfl, hfin.1, hfin.2⟩

theorem rset_any (base : Nat) (r : Value) (l : List Int) (hl : l.length ≤ 1099511627776) (hw : wordsB l = true) (a : Nat) (ha : a < 2 * l.length) (v : Int) (hv : 0 ≤ v ∧ v ≤ 255) (w : World) (ho : Own base w r l) :
    Calls Try.prog 42 #[r, .int .i64 (a : Int), .int .i64 v] w fun e w' => e = .returned (.tuple #[]) ∧ Own base w' r (setN l a v) ∧ Below base w w' := by
  obtain ⟨g, cap, rfl, hg, hcap, hgl⟩ := ho.form (by omega)
  obtain ⟨hv0, hv1⟩ := hv
  have hk : a / 2 < l.length := by omega
  have hx := List.getElem?_eq_getElem hk
  have hxb := (wordsB_iff l).1 hw _ (List.getElem_mem hk)
  have e0 := fun h => setN_even (a := a) (v := v) h hx
  have e1 := fun h => setN_odd (a := a) (v := v) h hx
  rw [show v % 256 = v by omega] at e0 e1
  have hst := fun k x => own_tail ho hg k x (Below.refl base w) ho
  generalize l[a / 2] = x at *
  obtain ⟨hx0, hx1⟩ := hxb
  have N0 := a65280 hx0 hx1
  have N1 := a255 x
  have O0 := or_hi (h := x / 256) (l := v) (by omega) (by omega) (by omega) (by omega)
  have O1 := or_lo (h := v) (l := x % 256) (by omega) (by omega) (by omega) (by omega)
  have hi : (a : Int) / 2 = ((a / 2 : Nat) : Int) := by omega
  have c0 := ho.cell hx
  have z0 := ho.frozen (a / 2)
  rcases Nat.mod_two_eq_zero_or_one a with h | h
  · have hm : (a : Int) % 2 = 0 := by omega
    rw [e0 h]
    have hfin := hst (a / 2) (x / 256 * 256 + v)
    clear e0 e1 h O1 N1 hw hx hst
    generalize hj : a / 2 = j at *
    have hj := hid hj
    generalize x / 256 * 256 + v = V at *
    go_enter Try.func42, Try.ntmps42
    go_wp2
    exact bodyPost_end (v := .tuple #[]) (by simp [results, Try.results42, go_sem]) rfl ⟨rfl, hfin.1, hfin.2⟩
  · have hm : (a : Int) % 2 = 1 := by omega
    rw [e1 h]
    have hfin := hst (a / 2) (v * 256 + x % 256)
    clear e0 e1 h O0 N0 hw hx hst
    generalize hj : a / 2 = j at *
    have hj := hid hj
    generalize v * 256 + x % 256 = V at *
    go_enter Try.func42, Try.ntmps42
    go_wp2
    exact bodyPost_end (v := .tuple #[]) (by simp [results, Try.results42, go_sem]) rfl ⟨rfl, hfin.1, hfin.2⟩

/-! ### New -/
theorem made_own (w : World) (k : Nat) (hk : k ≤ 1099511627776) : Own w.heap.size (w.alloc (.cells (madeCells #[.int .i64 0] k) 3)) (.slice (some ⟨w.heap.size, 0, none⟩) k k) (List.replicate k 0) := by
  have h := own_row (B := w.heap.size) (l := List.replicate k 0) (X := List.replicate k (Value.int .i64 0)) (by rw [List.map_replicate]) (row_made w k) (Nat.le_refl _) (by rw [List.length_replicate]; exact hk)
  rw [List.length_replicate] at h
  exact h
theorem new_any (n : Int) (w : World) : Calls Try.prog 9 #[.int .i64 n] w fun e w' => ∃ r, e = .returned (.tuple #[r, .int .i64 (newE n)]) ∧ Own w.heap.size w' r (newL n) ∧ Below w.heap.size w w' := by
  have ha := fun w => allowed_any n w
  unfold newE newL
  cases hq : okS n
  · rw [hq] at ha
    clear hq
    go_enter Try.func9, Try.ntmps9
    go_wp2_with (first | (go_at_call 28; with_reducible refine (ha _).mono ?_; rintro e w' ⟨rfl, rfl⟩))
    go_ret2
    exact ⟨_, rfl, Own.nil _ _, Below.refl _ _⟩
  · rw [hq] at ha
    obtain ⟨h0, h1, h2⟩ := okS_iff.1 hq
    obtain ⟨k, hk⟩ := Int.eq_ofNat_of_zero_le (show 0 ≤ n / 2 by omega)
    have hmk := run_make_row' (P := Try.prog) 22 3 (.int .i64 0) 8 Try.underlying22 info64 rfl .i64 .i64 k (by omega) (by omega)
    have hown := made_own w k (by omega)
    have hB : Below w.heap.size w (w.alloc (.cells (madeCells #[.int .i64 0] k) 3)) := (Below.refl _ _).alloc (Nat.le_refl _) _
    simp only [if_true]
    rw [hk, Int.toNat_natCast]
    clear hq h2
    go_enter Try.func9, Try.ntmps9
    go_wp2_with (first | (go_at_call 28; with_reducible refine (ha _).mono ?_; rintro e w' ⟨rfl, rfl⟩))
    go_ret2
    exact ⟨_, rfl, hown, hB⟩
theorem rnew_any (n : Int) (w : World) : Calls Try.prog 10 #[.int .i64 n] w fun e w' => ∃ r, e = .returned (.tuple #[r, .int .i64 (newE n)]) ∧ Own w.heap.size w' r (newL n) ∧ Below w.heap.size w w' := by
  have ha := fun w => size_any n w
  unfold newE newL
  cases hq : okS n
  · rw [hq] at ha
    clear hq
    go_enter Try.func10, Try.ntmps10
    go_wp2_with (first | (go_at_call 29; with_reducible refine (ha _).mono ?_; rintro e w' ⟨rfl, rfl⟩))
    go_ret2
    exact ⟨_, rfl, Own.nil _ _, Below.refl _ _⟩
  · rw [hq] at ha
    obtain ⟨h0, h1, h2⟩ := okS_iff.1 hq
    obtain ⟨k, hk⟩ := Int.eq_ofNat_of_zero_le (show 0 ≤ n / 2 by omega)
    have hmk := run_make_row' (P := Try.prog) 22 3 (.int .i64 0) 8 Try.underlying22 info64 rfl .i64 .i64 k (by omega) (by omega)
    have hown := made_own w k (by omega)
    have hB : Below w.heap.size w (w.alloc (.cells (madeCells #[.int .i64 0] k) 3)) := (Below.refl _ _).alloc (Nat.le_refl _) _
    simp only [if_true]
    rw [hk, Int.toNat_natCast]
    clear hq h2
    go_enter Try.func10, Try.ntmps10
    go_wp2_with (first | (go_at_call 29; with_reducible refine (ha _).mono ?_; rintro e w' ⟨rfl, rfl⟩))
    go_ret2
    exact ⟨_, rfl, hown, hB⟩
end Go.Proofs.Ytjjmgmnhcccjgaa
