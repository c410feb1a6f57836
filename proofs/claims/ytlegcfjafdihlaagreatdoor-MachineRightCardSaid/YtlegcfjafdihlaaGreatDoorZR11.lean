import Derived.Test.YtlegcfjafdihlaaGreatDoorZR10
import Derived.Deep.RegionHeld3
import Derived.Test.YtlegcfjafdihlaaGreatDoorProg
import Derived.Test.YtlegcfjafdihlaaGreatDoorZR01
import Derived.Test.YtlegcfjafdihlaaGreatDoorZR09
import Derived.Test.YtlegcfjafdihlaaGreatDoorZR05
import Derived.WalkKit
import Derived.WalkSpells
import Derived.WalkLawsBesides
import Derived.Deep.DeepCutAuto
import Derived.Deep.QuietTactic
import Derived.BigQuiet
import Derived.KernelRfl
/-
  New, Right, SameTexts, Same of the reference. Condition: at most 2^40 records.
-/
namespace Go.Proofs.YtlegcfjafdihlaaGreatDoor
open Go.RowKit
set_option linter.unusedSimpArgs false
set_option linter.unusedVariables false
set_option maxHeartbeats 4000000
set_option maxRecDepth 100000
attribute [local irreducible] wpQuiet

theorem rrightT_any (K : Tp) (hl : K.R.length ≤ 1099511627776) (vs : Value) (w : World) (hs : Sts w vs K.R) : Calls Tryz.prog 98 #[.agg #[vs, .int .i64 (K).p, .bool (K).n, .bool (K).r, .bool (K).e, .bool (K).m, .bool (K).d, .int .i64 (K).c, .int .i64 (K).k, .int .i64 (K).a, .int .i64 (K).l]] w fun e' w' => e' = .returned (.bool K.right) ∧ Below w.heap.size w w' := by
  obtain ⟨A, c1, rfl, _, hc⟩ := hs.form
  have hri : K.right = true ↔ (K.R.length ≤ 64 ∧ 0 ≤ K.p ∧ K.p ≤ (K.R.length : Int) ∧ 0 ≤ K.c ∧ K.c ≤ 6 ∧ wordV_17 K.k = true ∧ wordV_17 K.a = true) ∧ (∀ s ∈ K.R, s.size ≤ 512) ∧ (0 ≤ K.l ∧ K.l ≤ 16) ∧ K.r = decide (K.l = 0) := by
    unfold Tp.right
    rw [Bool.and_eq_true, Tp.ok_iff, shortV_iff]
    constructor
    · rintro ⟨⟨h1, ⟨h2, h3⟩, ⟨h4, h5⟩, h6, h7, h8, h9⟩, h10⟩; exact ⟨⟨h1, h2, h3, h4, h5, h6, h7⟩, h10, h8, h9⟩
    · rintro ⟨⟨h1, h2, h3, h4, h5, h6, h7⟩, h10, h8, h9⟩; exact ⟨⟨h1, ⟨h2, h3⟩, ⟨h4, h5⟩, h6, h7, h8, h9⟩, h10⟩
  obtain ⟨R, p, n, r, e, m, d, c, k, a, l⟩ := K
  dsimp only at hri hc hl ⊢
  have hX := (Bag.nil w).new 47 [(.slice A R.length c1), .int .i64 p, .bool n, .bool r, .bool e, .bool m, .bool d, .int .i64 c, .int .i64 k, .int .i64 a, .int .i64 l]
  generalize Tp.right _ = RR at *
  have hwk := fun w => rwordT_any k w
  have hwa := fun w => rwordT_any a w
  clear hs
  by_cases q : 64 < R.length
  · have hr : RR = false := by cases RR; rfl; have := (hri.1 rfl).1; omega
    subst hr
    have q1 : decide ((64 : Int) < (R.length : Int)) = true := decide_eq_true (by omega)
    have q1i : (64 : Int) < (R.length : Int) := by omega
    clear hri hc
    go_enter Tryz.func98, Tryz.ntmps98
    go_wp2_with (first | ((with_reducible refine at_load ?_); refine wpList_bag_cell hX int_cell _ rfl rfl rfl rfl (by first | exact .head _) rfl ?_) | ((with_reducible refine at_load ?_); refine wpList_bag_cell hX bool_cell _ rfl rfl rfl rfl (by first | exact .head _) rfl ?_) | ((with_reducible refine at_load ?_); refine wpList_bag_cell hX slS_cell _ rfl rfl rfl rfl (by first | exact .head _) rfl ?_) | (go_at_call 134; first | ((with_reducible refine (hwk _).mono ?_); rintro e' w' ⟨rfl, hbb⟩; replace hX := hX.step hbb; clear hbb) | ((with_reducible refine (hwa _).mono ?_); rintro e' w' ⟨rfl, hbb⟩; replace hX := hX.step hbb; clear hbb)))
    go_ret
    exact ⟨rfl, hX.below⟩
  have q1 : decide ((64 : Int) < (R.length : Int)) = false := decide_eq_false (by omega)
  replace q := hid q
  have q1h := q
  clear q
  by_cases q : p < 0
  · have hr : RR = false := by cases RR; rfl; have := (hri.1 rfl).1; omega
    subst hr
    have q2 : decide (p < 0) = true := decide_eq_true (by omega)
    have q2i : p < 0 := by omega
    clear hri hc
    go_enter Tryz.func98, Tryz.ntmps98
    go_wp2_with (first | ((with_reducible refine at_load ?_); refine wpList_bag_cell hX int_cell _ rfl rfl rfl rfl (by first | exact .head _) rfl ?_) | ((with_reducible refine at_load ?_); refine wpList_bag_cell hX bool_cell _ rfl rfl rfl rfl (by first | exact .head _) rfl ?_) | ((with_reducible refine at_load ?_); refine wpList_bag_cell hX slS_cell _ rfl rfl rfl rfl (by first | exact .head _) rfl ?_) | (go_at_call 134; first | ((with_reducible refine (hwk _).mono ?_); rintro e' w' ⟨rfl, hbb⟩; replace hX := hX.step hbb; clear hbb) | ((with_reducible refine (hwa _).mono ?_); rintro e' w' ⟨rfl, hbb⟩; replace hX := hX.step hbb; clear hbb)))
    go_ret
    exact ⟨rfl, hX.below⟩
  have q2 : decide (p < 0) = false := decide_eq_false (by omega)
  replace q := hid q
  have q2h := q
  clear q
  by_cases q : (R.length : Int) < p
  · have hr : RR = false := by cases RR; rfl; have := (hri.1 rfl).1; omega
    subst hr
    have q3 : decide ((R.length : Int) < p) = true := decide_eq_true (by omega)
    have q3i : (R.length : Int) < p := by omega
    clear hri hc
    go_enter Tryz.func98, Tryz.ntmps98
    go_wp2_with (first | ((with_reducible refine at_load ?_); refine wpList_bag_cell hX int_cell _ rfl rfl rfl rfl (by first | exact .head _) rfl ?_) | ((with_reducible refine at_load ?_); refine wpList_bag_cell hX bool_cell _ rfl rfl rfl rfl (by first | exact .head _) rfl ?_) | ((with_reducible refine at_load ?_); refine wpList_bag_cell hX slS_cell _ rfl rfl rfl rfl (by first | exact .head _) rfl ?_) | (go_at_call 134; first | ((with_reducible refine (hwk _).mono ?_); rintro e' w' ⟨rfl, hbb⟩; replace hX := hX.step hbb; clear hbb) | ((with_reducible refine (hwa _).mono ?_); rintro e' w' ⟨rfl, hbb⟩; replace hX := hX.step hbb; clear hbb)))
    go_ret
    exact ⟨rfl, hX.below⟩
  have q3 : decide ((R.length : Int) < p) = false := decide_eq_false (by omega)
  replace q := hid q
  have q3h := q
  clear q
  by_cases q : c < 0
  · have hr : RR = false := by cases RR; rfl; have := (hri.1 rfl).1; omega
    subst hr
    have q4 : decide (c < 0) = true := decide_eq_true (by omega)
    have q4i : c < 0 := by omega
    clear hri hc
    go_enter Tryz.func98, Tryz.ntmps98
    go_wp2_with (first | ((with_reducible refine at_load ?_); refine wpList_bag_cell hX int_cell _ rfl rfl rfl rfl (by first | exact .head _) rfl ?_) | ((with_reducible refine at_load ?_); refine wpList_bag_cell hX bool_cell _ rfl rfl rfl rfl (by first | exact .head _) rfl ?_) | ((with_reducible refine at_load ?_); refine wpList_bag_cell hX slS_cell _ rfl rfl rfl rfl (by first | exact .head _) rfl ?_) | (go_at_call 134; first | ((with_reducible refine (hwk _).mono ?_); rintro e' w' ⟨rfl, hbb⟩; replace hX := hX.step hbb; clear hbb) | ((with_reducible refine (hwa _).mono ?_); rintro e' w' ⟨rfl, hbb⟩; replace hX := hX.step hbb; clear hbb)))
    go_ret
    exact ⟨rfl, hX.below⟩
  have q4 : decide (c < 0) = false := decide_eq_false (by omega)
  replace q := hid q
  have q4h := q
  clear q
  by_cases q : 6 < c
  · have hr : RR = false := by cases RR; rfl; have := (hri.1 rfl).1; omega
    subst hr
    have q5 : decide (6 < c) = true := decide_eq_true (by omega)
    have q5i : 6 < c := by omega
    clear hri hc
    go_enter Tryz.func98, Tryz.ntmps98
    go_wp2_with (first | ((with_reducible refine at_load ?_); refine wpList_bag_cell hX int_cell _ rfl rfl rfl rfl (by first | exact .head _) rfl ?_) | ((with_reducible refine at_load ?_); refine wpList_bag_cell hX bool_cell _ rfl rfl rfl rfl (by first | exact .head _) rfl ?_) | ((with_reducible refine at_load ?_); refine wpList_bag_cell hX slS_cell _ rfl rfl rfl rfl (by first | exact .head _) rfl ?_) | (go_at_call 134; first | ((with_reducible refine (hwk _).mono ?_); rintro e' w' ⟨rfl, hbb⟩; replace hX := hX.step hbb; clear hbb) | ((with_reducible refine (hwa _).mono ?_); rintro e' w' ⟨rfl, hbb⟩; replace hX := hX.step hbb; clear hbb)))
    go_ret
    exact ⟨rfl, hX.below⟩
  have q5 : decide (6 < c) = false := decide_eq_false (by omega)
  replace q := hid q
  have q5h := q
  clear q
  cases q : wordV_17 k
  · have hr : RR = false := by cases RR; rfl; have h := (hri.1 rfl).1; simp [q] at h
    subst hr
    rw [q] at hwk
    clear hri hc
    go_enter Tryz.func98, Tryz.ntmps98
    go_wp2_with (first | ((with_reducible refine at_load ?_); refine wpList_bag_cell hX int_cell _ rfl rfl rfl rfl (by first | exact .head _) rfl ?_) | ((with_reducible refine at_load ?_); refine wpList_bag_cell hX bool_cell _ rfl rfl rfl rfl (by first | exact .head _) rfl ?_) | ((with_reducible refine at_load ?_); refine wpList_bag_cell hX slS_cell _ rfl rfl rfl rfl (by first | exact .head _) rfl ?_) | (go_at_call 134; first | ((with_reducible refine (hwk _).mono ?_); rintro e' w' ⟨rfl, hbb⟩; replace hX := hX.step hbb; clear hbb) | ((with_reducible refine (hwa _).mono ?_); rintro e' w' ⟨rfl, hbb⟩; replace hX := hX.step hbb; clear hbb)))
    go_ret
    exact ⟨rfl, hX.below⟩
  rw [q] at hwk
  cases q : wordV_17 a
  · have hr : RR = false := by cases RR; rfl; have h := (hri.1 rfl).1; simp [q] at h
    subst hr
    rw [q] at hwa
    clear hri hc
    go_enter Tryz.func98, Tryz.ntmps98
    go_wp2_with (first | ((with_reducible refine at_load ?_); refine wpList_bag_cell hX int_cell _ rfl rfl rfl rfl (by first | exact .head _) rfl ?_) | ((with_reducible refine at_load ?_); refine wpList_bag_cell hX bool_cell _ rfl rfl rfl rfl (by first | exact .head _) rfl ?_) | ((with_reducible refine at_load ?_); refine wpList_bag_cell hX slS_cell _ rfl rfl rfl rfl (by first | exact .head _) rfl ?_) | (go_at_call 134; first | ((with_reducible refine (hwk _).mono ?_); rintro e' w' ⟨rfl, hbb⟩; replace hX := hX.step hbb; clear hbb) | ((with_reducible refine (hwa _).mono ?_); rintro e' w' ⟨rfl, hbb⟩; replace hX := hX.step hbb; clear hbb)))
    go_ret
    exact ⟨rfl, hX.below⟩
  rw [q] at hwa
  have hri2 : RR = true ↔ (∀ s ∈ R, s.size ≤ 512) ∧ (0 ≤ l ∧ l ≤ 16) ∧ r = decide (l = 0) := ⟨fun h => (hri.1 h).2, fun h => hri.2 ⟨⟨by have := (show ¬ 64 < R.length from q1h); omega, by have := (show ¬ p < 0 from q2h); omega, by have := (show ¬ (R.length : Int) < p from q3h); omega, by have := (show ¬ c < 0 from q4h); omega, by have := (show ¬ 6 < c from q5h); omega, by assumption, by assumption⟩, h⟩⟩
  clear hri q1h q2h q3h q4h q5h
  go_enter Tryz.func98, Tryz.ntmps98
  go_wp2_with (first | ((with_reducible refine at_load ?_); refine wpList_bag_cell hX int_cell _ rfl rfl rfl rfl (by first | exact .head _) rfl ?_) | ((with_reducible refine at_load ?_); refine wpList_bag_cell hX bool_cell _ rfl rfl rfl rfl (by first | exact .head _) rfl ?_) | ((with_reducible refine at_load ?_); refine wpList_bag_cell hX slS_cell _ rfl rfl rfl rfl (by first | exact .head _) rfl ?_) | (go_at_call 134; first | ((with_reducible refine (hwk _).mono ?_); rintro e' w' ⟨rfl, hbb⟩; replace hX := hX.step hbb; clear hbb) | ((with_reducible refine (hwa _).mono ?_); rintro e' w' ⟨rfl, hbb⟩; replace hX := hX.step hbb; clear hbb)))
  clear q1 q2 q3 q4 q5 hwk hwa
  go_loopw [3] (fun iv wr => ∃ i : Nat, i ≤ R.length ∧ iv = .int .i64 i ∧ Hid (∀ (j : Nat) s, j < i → R[j]? = some s → s.size ≤ 512) ∧ Bag [(w.heap.size, 47, [(.slice A R.length c1), .int .i64 p, .bool n, .bool r, .bool e, .bool m, .bool d, .int .i64 c, .int .i64 k, .int .i64 a, .int .i64 l])] w wr) (fun i _ => match i with | .int _ q => R.length - q.toNat | _ => 0)
  case atStart => exact ⟨0, Nat.zero_le _, rfl, fun j s hj => absurd hj (Nat.not_lt_zero j), hX⟩
  case round =>
    clear hX
    obtain ⟨i, hi, rfl, hN, hX⟩ := hrel
    by_cases hin : i < R.length
    · have hii : (i : Int) < (R.length : Int) := by omega
      have hx := List.getElem?_eq_getElem hin
      have hm := List.getElem_mem hin
      generalize R[i] = x at *
      obtain ⟨a', rfl, hL⟩ := hc i x hx
      by_cases hsz : x.size ≤ 512
      · have hszi : ¬ (512 : Int) < (x.size : Int) := by omega
        have hN2 : Hid (∀ (j : Nat) s, j < i + 1 → R[j]? = some s → s.size ≤ 512) := fun j s hj hs => by
          rcases (by omega : j < i ∨ j = i) with h | rfl
          · exact (show ∀ (j : Nat) s, j < i → R[j]? = some s → s.size ≤ 512 from hN) j s h hs
          · rw [hx] at hs; cases hs; exact hsz
        clear hN hx hsz hc hri2 hm
        go_wp2_with (first | ((with_reducible refine at_load ?_); refine wpList_bag_cell hX int_cell _ rfl rfl rfl rfl (by first | exact .head _) rfl ?_) | ((with_reducible refine at_load ?_); refine wpList_bag_cell hX bool_cell _ rfl rfl rfl rfl (by first | exact .head _) rfl ?_) | ((with_reducible refine at_load ?_); refine wpList_bag_cell hX slS_cell _ rfl rfl rfl rfl (by first | exact .head _) rfl ?_) | ((with_reducible refine at_load ?_); refine wpList_loadW rfl 9 _ _ _ rfl rfl (hL _ hX.below) ?_))
        exact ⟨⟨i + 1, by omega, by go_num, hN2, hX⟩, by simp only; omega⟩
      · have hszi : (512 : Int) < (x.size : Int) := by omega
        have hr : RR = false := by cases RR; rfl; exact absurd ((hri2.1 rfl).1 x hm) hsz
        subst hr
        clear hN hx hsz hc hri2 hm
        go_wp2_with (first | ((with_reducible refine at_load ?_); refine wpList_bag_cell hX int_cell _ rfl rfl rfl rfl (by first | exact .head _) rfl ?_) | ((with_reducible refine at_load ?_); refine wpList_bag_cell hX bool_cell _ rfl rfl rfl rfl (by first | exact .head _) rfl ?_) | ((with_reducible refine at_load ?_); refine wpList_bag_cell hX slS_cell _ rfl rfl rfl rfl (by first | exact .head _) rfl ?_) | ((with_reducible refine at_load ?_); refine wpList_loadW rfl 9 _ _ _ rfl rfl (hL _ hX.below) ?_))
        go_ret
        exact ⟨rfl, hX.below⟩
    · have hii : ¬ (i : Int) < (R.length : Int) := by omega
      have hall : ∀ s ∈ R, s.size ≤ 512 := fun s hs => by
        obtain ⟨j, hj⟩ := List.mem_iff_getElem?.1 hs
        have hjl : j < R.length := (List.getElem?_eq_some_iff.1 hj).1
        exact (show ∀ (j : Nat) s, j < i → R[j]? = some s → s.size ≤ 512 from hN) j s (by omega) hj
      have hri3 : RR = true ↔ (0 ≤ l ∧ l ≤ 16) ∧ r = decide (l = 0) := ⟨fun h => (hri2.1 h).2, fun h => hri2.2 ⟨hall, h⟩⟩
      clear hri2 hall hN hc
      by_cases l0 : 0 ≤ l
      · have d0 : decide (0 ≤ l) = true := decide_eq_true l0
        by_cases l1 : l ≤ 16
        · have d1 : decide (l ≤ 16) = true := decide_eq_true l1
          have hd : (r == (l == 0)) = RR := by
            rw [Bool.eq_iff_iff, hri3]
            have hb : (l == 0) = decide (l = 0) := by rw [Bool.eq_iff_iff]; simp
            simp [l0, l1, hb]
          clear hri3 l0 l1
          go_wp2_with (first | ((with_reducible refine at_load ?_); refine wpList_bag_cell hX int_cell _ rfl rfl rfl rfl (by first | exact .head _) rfl ?_) | ((with_reducible refine at_load ?_); refine wpList_bag_cell hX bool_cell _ rfl rfl rfl rfl (by first | exact .head _) rfl ?_) | ((with_reducible refine at_load ?_); refine wpList_bag_cell hX slS_cell _ rfl rfl rfl rfl (by first | exact .head _) rfl ?_))
          go_ret
          exact ⟨by simp [hd], hX.below⟩
        · have d1 : decide (l ≤ 16) = false := decide_eq_false l1
          have hr : RR = false := by cases RR; rfl; have := (hri3.1 rfl).1; omega
          subst hr
          clear hri3 l0 l1
          go_wp2_with (first | ((with_reducible refine at_load ?_); refine wpList_bag_cell hX int_cell _ rfl rfl rfl rfl (by first | exact .head _) rfl ?_) | ((with_reducible refine at_load ?_); refine wpList_bag_cell hX bool_cell _ rfl rfl rfl rfl (by first | exact .head _) rfl ?_) | ((with_reducible refine at_load ?_); refine wpList_bag_cell hX slS_cell _ rfl rfl rfl rfl (by first | exact .head _) rfl ?_))
          go_ret
          exact ⟨rfl, hX.below⟩
      · have d0 : decide (0 ≤ l) = false := decide_eq_false l0
        have hr : RR = false := by cases RR; rfl; have := (hri3.1 rfl).1; omega
        subst hr
        clear hri3 l0
        go_wp2_with (first | ((with_reducible refine at_load ?_); refine wpList_bag_cell hX int_cell _ rfl rfl rfl rfl (by first | exact .head _) rfl ?_) | ((with_reducible refine at_load ?_); refine wpList_bag_cell hX bool_cell _ rfl rfl rfl rfl (by first | exact .head _) rfl ?_) | ((with_reducible refine at_load ?_); refine wpList_bag_cell hX slS_cell _ rfl rfl rfl rfl (by first | exact .head _) rfl ?_))
        go_ret
        exact ⟨rfl, hX.below⟩
end Go.Proofs.YtlegcfjafdihlaaGreatDoor
/-
  Walks over the calls of package memory and of its reference that only reckon: sizes, addresses, ranges. Condition: lists have at most 2^40 elements.
-/
namespace Go.Proofs.YtlegcfjafdihlaaGreatDoor
open Go.RowKit
set_option linter.unusedSimpArgs false
set_option maxHeartbeats 1000000

theorem ret_bool {a b : Bool} (h : a = b) : Ending.returned (.bool a) = .returned (.bool b) := by rw [h]
theorem ret_int {k : IntKind} {a b : Int} (h : a = b) : Ending.returned (.int k a) = .returned (.int k b) := by rw [h]

attribute [local irreducible] wpQuiet
theorem drewN_below {B : Nat} {a w : World} (h : Below B a w) (q : Nat) : Below B a (w.drewN q) := ⟨h.os, h.tape, h.output, h.size, h.block⟩

theorem okS_in {n : Int} (h1 : 256 ≤ n) (h2 : n ≤ 32768) (h3 : n % 64 = 0) : okS n = true := by simp [okS, h1, h2, h3]
theorem okS_out {n : Int} (h : ¬(256 ≤ n ∧ n ≤ 32768 ∧ n % 64 = 0)) : okS n = false := by
  cases e : okS n
  · rfl
  · exact absurd (by simpa [okS] using e) h
theorem allowed_any (n : Int) (w : World) : Calls Tryz.prog 67 #[.int .i64 n] w fun e w' => e = .returned (.bool (okS n)) ∧ w = w' := by
  by_cases h1 : 256 ≤ n
  · by_cases h2 : n ≤ 32768
    · have h0 : 0 ≤ n := by omega
      by_cases h3 : n % 64 = 0
      · rw [okS_in h1 h2 h3]
        go_enter Tryz.func67, Tryz.ntmps67
        go_wp2
        go_ret
        exact ⟨rfl, rfl⟩
      · rw [okS_out (fun k => h3 k.2.2)]
        go_enter Tryz.func67, Tryz.ntmps67
        go_wp2
        go_ret
        exact ⟨ret_bool (by simp [h3]), rfl⟩
    · rw [okS_out (fun k => h2 k.2.1)]
      go_enter Tryz.func67, Tryz.ntmps67
      go_wp2
      go_ret
      exact ⟨rfl, rfl⟩
  · rw [okS_out (fun k => h1 k.1)]
    go_enter Tryz.func67, Tryz.ntmps67
    go_wp2
    go_ret
    exact ⟨rfl, rfl⟩

theorem size_any (n : Int) (w : World) : Calls Tryz.prog 78 #[.int .i64 n] w fun e w' => e = .returned (.bool (okS n)) ∧ w = w' := by
  by_cases h1 : 256 ≤ n
  · by_cases h2 : n ≤ 32768
    · have h0 : 0 ≤ n := by omega
      by_cases h3 : n % 64 = 0
      · rw [okS_in h1 h2 h3]
        go_enter Tryz.func78, Tryz.ntmps78
        go_wp2
        go_ret
        exact ⟨rfl, rfl⟩
      · rw [okS_out (fun k => h3 k.2.2)]
        go_enter Tryz.func78, Tryz.ntmps78
        go_wp2
        go_ret
        exact ⟨ret_bool (by simp [h3]), rfl⟩
    · rw [okS_out (fun k => h2 k.2.1)]
      go_enter Tryz.func78, Tryz.ntmps78
      go_wp2
      go_ret
      exact ⟨rfl, rfl⟩
  · rw [okS_out (fun k => h1 k.1)]
    go_enter Tryz.func78, Tryz.ntmps78
    go_wp2
    go_ret
    exact ⟨rfl, rfl⟩

theorem sizeof_any (A : Option Addr) (k c : Nat) (hk : k ≤ 1099511627776) (w : World) : Calls Tryz.prog 129 #[.slice A k c] w fun e w' => e = .returned (.int .i64 (2 * (k : Int))) ∧ w = w' := by
  go_enter Tryz.func129, Tryz.ntmps129
  go_wp2
  go_ret
  exact ⟨rfl, rfl⟩

theorem tmod2 (n : Int) : (n.tmod 2 = 0) = (n % 2 = 0) := by
  apply propext
  have := Int.tmod_eq_emod (a := n) (b := 2)
  constructor <;> intro h <;> split at this <;> omega
theorem odd_any (n : Int) (w : World) : Calls Tryz.prog 167 #[.int .i64 n] w fun e w' => e = .returned (.bool (!decide (n % 2 = 0))) ∧ w = w' := by
  have h := tmod2 n
  by_cases h2 : n % 2 = 0
  · have h3 : n.tmod 2 = 0 := by rw [h]; exact h2
    rw [decide_eq_true h2]
    go_enter Tryz.func167, Tryz.ntmps167
    go_wp2
    go_ret
    exact ⟨ret_bool (by simp [h3]), rfl⟩
  · have h3 : ¬ n.tmod 2 = 0 := by rw [h]; exact h2
    rw [decide_eq_false h2]
    go_enter Tryz.func167, Tryz.ntmps167
    go_wp2
    go_ret
    exact ⟨ret_bool (by simp [h3]), rfl⟩

/-- Is it the address of a word? -/
def wwP (n a : Int) : Bool := accP n a false
theorem wwP_eq (n a : Int) : wwP n a = (decide (a % 2 = 0) && (decide (0 ≤ a) && decide (a < n))) := by simp [wwP, accP]
theorem within_any (A : Option Addr) (k c : Nat) (hk : k ≤ 1099511627776) (a : Int) (w : World) : Calls Tryz.prog 130 #[.slice A k c, .int .i64 a] w fun e w' => e = .returned (.bool (wwP (2 * (k : Int)) a)) ∧ w = w' := by
  have hs := fun w => sizeof_any A k c hk w
  have ho := fun w => odd_any a w
  rw [wwP_eq]
  by_cases h1 : a % 2 = 0
  · rw [decide_eq_true h1] at ho ⊢
    by_cases h2 : 0 ≤ a
    · rw [decide_eq_true h2]
      by_cases h3 : a < 2 * (k : Int)
      · rw [decide_eq_true h3]
        clear h1
        go_enter Tryz.func130, Tryz.ntmps130
        go_wp2_with (first | (go_at_call 167; with_reducible refine (ho _).mono ?_; rintro e w' ⟨rfl, rfl⟩) | (go_at_call 129; with_reducible refine (hs _).mono ?_; rintro e w' ⟨rfl, rfl⟩))
        go_ret
        exact ⟨rfl, rfl⟩
      · rw [decide_eq_false h3]
        clear h1
        go_enter Tryz.func130, Tryz.ntmps130
        go_wp2_with (first | (go_at_call 167; with_reducible refine (ho _).mono ?_; rintro e w' ⟨rfl, rfl⟩) | (go_at_call 129; with_reducible refine (hs _).mono ?_; rintro e w' ⟨rfl, rfl⟩))
        go_ret
        exact ⟨ret_bool (by simp [h3]), rfl⟩
    · rw [decide_eq_false h2]
      clear h1
      go_enter Tryz.func130, Tryz.ntmps130
      go_wp2_with (first | (go_at_call 167; with_reducible refine (ho _).mono ?_; rintro e w' ⟨rfl, rfl⟩) | (go_at_call 129; with_reducible refine (hs _).mono ?_; rintro e w' ⟨rfl, rfl⟩))
      go_ret
      exact ⟨rfl, rfl⟩
  · rw [decide_eq_false h1] at ho ⊢
    clear h1
    go_enter Tryz.func130, Tryz.ntmps130
    go_wp2_with (first | (go_at_call 167; with_reducible refine (ho _).mono ?_; rintro e w' ⟨rfl, rfl⟩) | (go_at_call 129; with_reducible refine (hs _).mono ?_; rintro e w' ⟨rfl, rfl⟩))
    go_ret
    exact ⟨rfl, rfl⟩

end Go.Proofs.YtlegcfjafdihlaaGreatDoor
