import Derived.Test.YthpnddgfgpacpaaGreatRS11
import Derived.Deep.RegionHeld3
/-
  start, Write of the reference. No condition.
-/
namespace Go.Proofs.YthpnddgfgpacpaaGreat
open Go.RowKit
set_option linter.unusedSimpArgs false
set_option linter.unusedVariables false
set_option maxHeartbeats 4000000
set_option maxRecDepth 100000
attribute [local irreducible] wpQuiet

theorem siz_int_17 (w : World) : (sizeOf 3).run Tryz.prog w = .ok 1 w := by kernel_rfl
theorem siz_bool_17 (w : World) : (sizeOf 4).run Tryz.prog w = .ok 1 w := by kernel_rfl
theorem andT64 (n : Int) : (bits .and .i64 n 64 != 0) = decide (n / 64 % 2 = 1) := by
  have h1 : bits .and .i64 n 64 = n / 64 % 2 * 64 := i_and (c := 64) (by decide) (field _ 6 1) (by intro h; omega)
  rw [h1, Bool.eq_iff_iff]; simp; omega
theorem andT7 (n : Int) : bits .and .i64 n 7 = n % 8 := i_and (c := 7) (by decide) (field _ 0 3) (by intro h; omega)
theorem andT16 (n : Int) : bits .and .i64 n 65535 = n % 65536 := i_and (c := 65535) (by decide) (field _ 0 16) (by intro h; omega)
end Go.Proofs.YthpnddgfgpacpaaGreat
/-
  New, Right, SameTexts, Same of the reference. Condition: at most 2^40 records.
-/
namespace Go.Proofs.YthpnddgfgpacpaaGreat
open Go.RowKit
set_option linter.unusedSimpArgs false
set_option linter.unusedVariables false
set_option maxHeartbeats 4000000
set_option maxRecDepth 100000
attribute [local irreducible] wpQuiet

theorem rnewT_any (L : List ByteArray) (hl : L.length ≤ 1099511627776) (v : Value) (w : World) (X : Nat → Prop) (hXl : ∀ b, X b → b < w.heap.size) (hv : Sts w v L) : Calls Tryz.prog 70 #[v] w fun e' w' => ∃ x, e' = .returned (.tuple #[x, .int .i64 (newT L).2]) ∧ TpX X w' x (newT L).1 ∧ Below w.heap.size w w' := by
  have hv0 := hv
  obtain ⟨A, c, rfl, _, hc⟩ := hv.form
  have hX := (Bag.nil w).new 42 [.slice none 0 0, .int .i64 0, .bool false, .bool false, .bool false, .bool false, .bool false, .int .i64 0, .int .i64 0, .int .i64 0, .int .i64 0]
  have hall := shortV_iff L
  unfold newT
  by_cases h1 : 64 < L.length
  · have d1 : (64 : Int) < (L.length : Int) := by omega
    rw [if_pos h1]
    clear hc hall hv hv0
    go_enter Tryz.func70, Tryz.ntmps70
    go_wp2_with (first | ((with_reducible refine at_store ?_); refine wpList_bag_overV (cs' := [.slice none 0 0, .int .i64 0, .bool false, .bool false, .bool false, .bool false, .bool false, .int .i64 0, .int .i64 0, .int .i64 0, .int .i64 0]) hX aggT sizT _ _ rfl rfl rfl rfl rfl rfl rfl rfl (by intro u hu; simp at hu; rcases hu with rfl | rfl | rfl | rfl | rfl | rfl | rfl | rfl | rfl | rfl | rfl <;> rfl) ?_; clear hX; intro wz hX hkz))
    exact bodyPost_ret (results_ct Tryz.results70 rfl ((hX.all _ _ _ (.head _)).loadVar rfl aggT sizT)) rfl ⟨_, rfl, TpX.z X _, hX.below⟩
  have d1 : ¬ (64 : Int) < (L.length : Int) := by omega
  rw [if_neg h1]
  obtain ⟨RR, hRR⟩ : ∃ RR, (if shortV L = true then (Tp.new L, (0 : Int)) else (Tp.z, 7)) = RR := ⟨_, rfl⟩
  rw [hRR]
  generalize shortV L = sh at *
  replace hRR := hid hRR
  clear hv
  go_enter Tryz.func70, Tryz.ntmps70
  go_wp2
  clear d1
  go_loopw [4] (fun iv wr => ∃ i : Nat, i ≤ L.length ∧ iv = .int .i64 i ∧ Hid (∀ (j : Nat) s, j < i → L[j]? = some s → s.size ≤ 512) ∧ Bag [(w.heap.size, 42, [.slice none 0 0, .int .i64 0, .bool false, .bool false, .bool false, .bool false, .bool false, .int .i64 0, .int .i64 0, .int .i64 0, .int .i64 0])] w wr) (fun i _ => match i with | .int _ q => L.length - q.toNat | _ => 0)
  case atStart => exact ⟨0, Nat.zero_le _, rfl, fun j s hj => absurd hj (Nat.not_lt_zero j), hX⟩
  case round =>
    clear hX
    obtain ⟨i, hi, rfl, hN, hX⟩ := hrel
    by_cases hin : i < L.length
    · have hii : (i : Int) < (L.length : Int) := by omega
      have hx := List.getElem?_eq_getElem hin
      have hm := List.getElem_mem hin
      generalize L[i] = x at *
      obtain ⟨a, rfl, hL⟩ := hc i x hx
      by_cases hsz : x.size ≤ 512
      · have hszi : ¬ (512 : Int) < (x.size : Int) := by omega
        have hN2 : Hid (∀ (j : Nat) s, j < i + 1 → L[j]? = some s → s.size ≤ 512) := fun j s hj hs => by
          rcases (by omega : j < i ∨ j = i) with h | rfl
          · exact (show ∀ (j : Nat) s, j < i → L[j]? = some s → s.size ≤ 512 from hN) j s h hs
          · rw [hx] at hs; cases hs; exact hsz
        clear hN hx hsz hc hall hm hv0
        go_wp2_with (first | ((with_reducible refine at_load ?_); refine wpList_loadW rfl 9 _ _ _ rfl rfl (hL _ hX.below) ?_))
        exact ⟨⟨i + 1, by omega, by go_num, hN2, hX⟩, by simp only; omega⟩
      · have hszi : (512 : Int) < (x.size : Int) := by omega
        have hr : sh = false := by cases sh; rfl; exact absurd (hall.1 rfl x hm) hsz
        subst hr
        obtain rfl : (Tp.z, (7 : Int)) = RR := hRR
        clear hN hx hsz hc hall hm hv0
        go_wp2_with (first | ((with_reducible refine at_load ?_); refine wpList_loadW rfl 9 _ _ _ rfl rfl (hL _ hX.below) ?_) | ((with_reducible refine at_store ?_); refine wpList_bag_overV (cs' := [.slice none 0 0, .int .i64 0, .bool false, .bool false, .bool false, .bool false, .bool false, .int .i64 0, .int .i64 0, .int .i64 0, .int .i64 0]) hX aggT sizT _ _ rfl rfl rfl rfl rfl rfl rfl rfl (by intro u hu; simp at hu; rcases hu with rfl | rfl | rfl | rfl | rfl | rfl | rfl | rfl | rfl | rfl | rfl <;> rfl) ?_; clear hX; intro wz hX hkz))
        exact bodyPost_ret (results_ct Tryz.results70 rfl ((hX.all _ _ _ (.head _)).loadVar rfl aggT sizT)) rfl ⟨_, rfl, TpX.z X _, hX.below⟩
    · have hii : ¬ (i : Int) < (L.length : Int) := by omega
      have hr : sh = true := hall.2 fun s hs => by
        obtain ⟨j, hj⟩ := List.mem_iff_getElem?.1 hs
        have hjl : j < L.length := (List.getElem?_eq_some_iff.1 hj).1
        exact (show ∀ (j : Nat) s, j < i → L[j]? = some s → s.size ≤ 512 from hN) j s (by omega) hj
      subst hr
      obtain rfl : (Tp.new L, (0 : Int)) = RR := hRR
      have hlt := (hX.all _ _ _ (.head _)).lt
      clear hall hN hc
      rcases Rz.form hv0 with ⟨h2, h3, h4⟩ | ⟨a, c', h2, _⟩
      · obtain rfl : L = [] := by cases L; rfl; simp at h4
        cases h2
        have hown := own_empty wr 9
        go_wp2_with (first | (at_builtin; refine wpList_appS0 rfl (.tmp 22) (.tmp 23) rfl wr.heap.size _ 0 [] rfl hown rfl ?_; replace hX := hX.step ((Below.refl _ _).alloc (Nat.le_refl _) (.cells #[] 9))) | ((with_reducible refine at_store ?_); refine wpList_bag_overV (cs' := [(.slice (some ⟨wr.heap.size, 0, none⟩) 0 0), .int .i64 0, .bool false, .bool true, .bool false, .bool false, .bool false, .int .i64 0, .int .i64 0, .int .i64 0, .int .i64 0]) hX aggT sizT _ _ rfl rfl rfl rfl rfl rfl rfl rfl (by intro u hu; simp at hu; rcases hu with rfl | rfl | rfl | rfl | rfl | rfl | rfl | rfl | rfl | rfl | rfl <;> rfl) ?_; clear hX; intro wz hX hkz))
        replace hown := own_other hown (fun k hk => hkz k (by omega))
        exact bodyPost_ret (results_ct Tryz.results70 rfl ((hX.all _ _ _ (.head _)).loadVar rfl aggT sizT)) rfl ⟨_, rfl, ⟨_, rfl, stsX_of (fun b hb => by have := hXl b hb; omega) (hid rfl) (hid rfl) hown⟩, hX.below⟩
      · cases h2
        have hcl := Rz.cell (Rz.below (Rz.below hv0 hX.below) ((Below.refl _ _).alloc (Nat.le_refl _) (.cells #[] 9)))
        go_wp2_with (first | (at_builtin; refine wpList_appS rfl (.tmp 22) (.tmp 23) rfl wr.heap.size _ 0 [] rfl (own_empty wr _) a L.length c (L.map Value.string) rfl (by simp) hcl (one_str L) (by omega) (by simp) ?_; intro v2 w2 ho2 hb2 _; rw [Nat.zero_add, List.nil_append] at ho2; replace hX := hX.step (((Below.refl _ _).alloc (Nat.le_refl _) (.cells #[] 9)).trans hb2); clear hb2; obtain ⟨A2, c2, rfl, _, _⟩ := Rw.of_own ho2) | ((with_reducible refine at_store ?_); refine wpList_bag_overV (cs' := [(.slice A2 L.length c2), .int .i64 0, .bool false, .bool true, .bool false, .bool false, .bool false, .int .i64 0, .int .i64 0, .int .i64 0, .int .i64 0]) hX aggT sizT _ _ rfl rfl rfl rfl rfl rfl rfl rfl (by intro u hu; simp at hu; rcases hu with rfl | rfl | rfl | rfl | rfl | rfl | rfl | rfl | rfl | rfl | rfl <;> rfl) ?_; clear hX; intro wz hX hkz))
        replace ho2 := own_other ho2 (fun k hk => hkz k (by omega))
        exact bodyPost_ret (results_ct Tryz.results70 rfl ((hX.all _ _ _ (.head _)).loadVar rfl aggT sizT)) rfl ⟨_, rfl, ⟨_, rfl, stsX_of (fun b hb => by have := hXl b hb; omega) (hid rfl) (hid rfl) ho2⟩, hX.below⟩
theorem rrightT_any (K : Tp) (hl : K.R.length ≤ 1099511627776) (vs : Value) (w : World) (hs : Sts w vs K.R) : Calls Tryz.prog 35 #[.agg #[vs, .int .i64 (K).p, .bool (K).n, .bool (K).r, .bool (K).e, .bool (K).m, .bool (K).d, .int .i64 (K).c, .int .i64 (K).k, .int .i64 (K).a, .int .i64 (K).l]] w fun e' w' => e' = .returned (.bool K.right) ∧ Below w.heap.size w w' := by
  obtain ⟨A, c1, rfl, _, hc⟩ := hs.form
  have hri : K.right = true ↔ (K.R.length ≤ 64 ∧ 0 ≤ K.p ∧ K.p ≤ (K.R.length : Int) ∧ 0 ≤ K.c ∧ K.c ≤ 6 ∧ wordV_17 K.k = true ∧ wordV_17 K.a = true) ∧ (∀ s ∈ K.R, s.size ≤ 512) ∧ (0 ≤ K.l ∧ K.l ≤ 16) ∧ K.r = decide (K.l = 0) := by
    unfold Tp.right
    rw [Bool.and_eq_true, Tp.ok_iff, shortV_iff]
    constructor
    · rintro ⟨⟨h1, ⟨h2, h3⟩, ⟨h4, h5⟩, h6, h7, h8, h9⟩, h10⟩; exact ⟨⟨h1, h2, h3, h4, h5, h6, h7⟩, h10, h8, h9⟩
    · rintro ⟨⟨h1, h2, h3, h4, h5, h6, h7⟩, h10, h8, h9⟩; exact ⟨⟨h1, ⟨h2, h3⟩, ⟨h4, h5⟩, h6, h7, h8, h9⟩, h10⟩
  obtain ⟨R, p, n, r, e, m, d, c, k, a, l⟩ := K
  dsimp only at hri hc hl ⊢
  have hX := (Bag.nil w).new 42 [(.slice A R.length c1), .int .i64 p, .bool n, .bool r, .bool e, .bool m, .bool d, .int .i64 c, .int .i64 k, .int .i64 a, .int .i64 l]
  generalize Tp.right _ = RR at *
  have hwk := fun w => rwordT_any k w
  have hwa := fun w => rwordT_any a w
  clear hs
  by_cases q : 64 < R.length
  · have hr : RR = false := by cases RR; rfl; have := (hri.1 rfl).1; omega
    subst hr
    have q1 : decide ((64 : Int) < (R.length : Int)) = true := decide_eq_true (by omega)
    have q1i : (64 : Int) < (R.length : Int) := by omega
    clear hri hc
    go_enter Tryz.func35, Tryz.ntmps35
    go_wp2_with (first | ((with_reducible refine at_load ?_); refine wpList_bag_cell hX int_cell _ rfl rfl rfl rfl (by first | exact .head _) rfl ?_) | ((with_reducible refine at_load ?_); refine wpList_bag_cell hX bool_cell _ rfl rfl rfl rfl (by first | exact .head _) rfl ?_) | ((with_reducible refine at_load ?_); refine wpList_bag_cell hX slS_cell _ rfl rfl rfl rfl (by first | exact .head _) rfl ?_) | (go_at_call 79; first | ((with_reducible refine (hwk _).mono ?_); rintro e' w' ⟨rfl, hbb⟩; replace hX := hX.step hbb; clear hbb) | ((with_reducible refine (hwa _).mono ?_); rintro e' w' ⟨rfl, hbb⟩; replace hX := hX.step hbb; clear hbb)))
    go_ret
    exact ⟨rfl, hX.below⟩
  have q1 : decide ((64 : Int) < (R.length : Int)) = false := decide_eq_false (by omega)
  replace q := hid q
  have q1h := q
  clear q
  by_cases q : p < 0
  · have hr : RR = false := by cases RR; rfl; have := (hri.1 rfl).1; omega
    subst hr
    have q2 : decide (p < 0) = true := decide_eq_true (by omega)
    have q2i : p < 0 := by omega
    clear hri hc
    go_enter Tryz.func35, Tryz.ntmps35
    go_wp2_with (first | ((with_reducible refine at_load ?_); refine wpList_bag_cell hX int_cell _ rfl rfl rfl rfl (by first | exact .head _) rfl ?_) | ((with_reducible refine at_load ?_); refine wpList_bag_cell hX bool_cell _ rfl rfl rfl rfl (by first | exact .head _) rfl ?_) | ((with_reducible refine at_load ?_); refine wpList_bag_cell hX slS_cell _ rfl rfl rfl rfl (by first | exact .head _) rfl ?_) | (go_at_call 79; first | ((with_reducible refine (hwk _).mono ?_); rintro e' w' ⟨rfl, hbb⟩; replace hX := hX.step hbb; clear hbb) | ((with_reducible refine (hwa _).mono ?_); rintro e' w' ⟨rfl, hbb⟩; replace hX := hX.step hbb; clear hbb)))
    go_ret
    exact ⟨rfl, hX.below⟩
  have q2 : decide (p < 0) = false := decide_eq_false (by omega)
  replace q := hid q
  have q2h := q
  clear q
  by_cases q : (R.length : Int) < p
  · have hr : RR = false := by cases RR; rfl; have := (hri.1 rfl).1; omega
    subst hr
    have q3 : decide ((R.length : Int) < p) = true := decide_eq_true (by omega)
    have q3i : (R.length : Int) < p := by omega
    clear hri hc
    go_enter Tryz.func35, Tryz.ntmps35
    go_wp2_with (first | ((with_reducible refine at_load ?_); refine wpList_bag_cell hX int_cell _ rfl rfl rfl rfl (by first | exact .head _) rfl ?_) | ((with_reducible refine at_load ?_); refine wpList_bag_cell hX bool_cell _ rfl rfl rfl rfl (by first | exact .head _) rfl ?_) | ((with_reducible refine at_load ?_); refine wpList_bag_cell hX slS_cell _ rfl rfl rfl rfl (by first | exact .head _) rfl ?_) | (go_at_call 79; first | ((with_reducible refine (hwk _).mono ?_); rintro e' w' ⟨rfl, hbb⟩; replace hX := hX.step hbb; clear hbb) | ((with_reducible refine (hwa _).mono ?_); rintro e' w' ⟨rfl, hbb⟩; replace hX := hX.step hbb; clear hbb)))
    go_ret
    exact ⟨rfl, hX.below⟩
  have q3 : decide ((R.length : Int) < p) = false := decide_eq_false (by omega)
  replace q := hid q
  have q3h := q
  clear q
  by_cases q : c < 0
  · have hr : RR = false := by cases RR; rfl; have := (hri.1 rfl).1; omega
    subst hr
    have q4 : decide (c < 0) = true := decide_eq_true (by omega)
    have q4i : c < 0 := by omega
    clear hri hc
    go_enter Tryz.func35, Tryz.ntmps35
    go_wp2_with (first | ((with_reducible refine at_load ?_); refine wpList_bag_cell hX int_cell _ rfl rfl rfl rfl (by first | exact .head _) rfl ?_) | ((with_reducible refine at_load ?_); refine wpList_bag_cell hX bool_cell _ rfl rfl rfl rfl (by first | exact .head _) rfl ?_) | ((with_reducible refine at_load ?_); refine wpList_bag_cell hX slS_cell _ rfl rfl rfl rfl (by first | exact .head _) rfl ?_) | (go_at_call 79; first | ((with_reducible refine (hwk _).mono ?_); rintro e' w' ⟨rfl, hbb⟩; replace hX := hX.step hbb; clear hbb) | ((with_reducible refine (hwa _).mono ?_); rintro e' w' ⟨rfl, hbb⟩; replace hX := hX.step hbb; clear hbb)))
    go_ret
    exact ⟨rfl, hX.below⟩
  have q4 : decide (c < 0) = false := decide_eq_false (by omega)
  replace q := hid q
  have q4h := q
  clear q
  by_cases q : 6 < c
  · have hr : RR = false := by cases RR; rfl; have := (hri.1 rfl).1; omega
    subst hr
    have q5 : decide (6 < c) = true := decide_eq_true (by omega)
    have q5i : 6 < c := by omega
    clear hri hc
    go_enter Tryz.func35, Tryz.ntmps35
    go_wp2_with (first | ((with_reducible refine at_load ?_); refine wpList_bag_cell hX int_cell _ rfl rfl rfl rfl (by first | exact .head _) rfl ?_) | ((with_reducible refine at_load ?_); refine wpList_bag_cell hX bool_cell _ rfl rfl rfl rfl (by first | exact .head _) rfl ?_) | ((with_reducible refine at_load ?_); refine wpList_bag_cell hX slS_cell _ rfl rfl rfl rfl (by first | exact .head _) rfl ?_) | (go_at_call 79; first | ((with_reducible refine (hwk _).mono ?_); rintro e' w' ⟨rfl, hbb⟩; replace hX := hX.step hbb; clear hbb) | ((with_reducible refine (hwa _).mono ?_); rintro e' w' ⟨rfl, hbb⟩; replace hX := hX.step hbb; clear hbb)))
    go_ret
    exact ⟨rfl, hX.below⟩
  have q5 : decide (6 < c) = false := decide_eq_false (by omega)
  replace q := hid q
  have q5h := q
  clear q
  cases q : wordV_17 k
  · have hr : RR = false := by cases RR; rfl; have h := (hri.1 rfl).1; simp [q] at h
    subst hr
    rw [q] at hwk
    clear hri hc
    go_enter Tryz.func35, Tryz.ntmps35
    go_wp2_with (first | ((with_reducible refine at_load ?_); refine wpList_bag_cell hX int_cell _ rfl rfl rfl rfl (by first | exact .head _) rfl ?_) | ((with_reducible refine at_load ?_); refine wpList_bag_cell hX bool_cell _ rfl rfl rfl rfl (by first | exact .head _) rfl ?_) | ((with_reducible refine at_load ?_); refine wpList_bag_cell hX slS_cell _ rfl rfl rfl rfl (by first | exact .head _) rfl ?_) | (go_at_call 79; first | ((with_reducible refine (hwk _).mono ?_); rintro e' w' ⟨rfl, hbb⟩; replace hX := hX.step hbb; clear hbb) | ((with_reducible refine (hwa _).mono ?_); rintro e' w' ⟨rfl, hbb⟩; replace hX := hX.step hbb; clear hbb)))
    go_ret
    exact ⟨rfl, hX.below⟩
  rw [q] at hwk
  cases q : wordV_17 a
  · have hr : RR = false := by cases RR; rfl; have h := (hri.1 rfl).1; simp [q] at h
    subst hr
    rw [q] at hwa
    clear hri hc
    go_enter Tryz.func35, Tryz.ntmps35
    go_wp2_with (first | ((with_reducible refine at_load ?_); refine wpList_bag_cell hX int_cell _ rfl rfl rfl rfl (by first | exact .head _) rfl ?_) | ((with_reducible refine at_load ?_); refine wpList_bag_cell hX bool_cell _ rfl rfl rfl rfl (by first | exact .head _) rfl ?_) | ((with_reducible refine at_load ?_); refine wpList_bag_cell hX slS_cell _ rfl rfl rfl rfl (by first | exact .head _) rfl ?_) | (go_at_call 79; first | ((with_reducible refine (hwk _).mono ?_); rintro e' w' ⟨rfl, hbb⟩; replace hX := hX.step hbb; clear hbb) | ((with_reducible refine (hwa _).mono ?_); rintro e' w' ⟨rfl, hbb⟩; replace hX := hX.step hbb; clear hbb)))
    go_ret
    exact ⟨rfl, hX.below⟩
  rw [q] at hwa
  have hri2 : RR = true ↔ (∀ s ∈ R, s.size ≤ 512) ∧ (0 ≤ l ∧ l ≤ 16) ∧ r = decide (l = 0) := ⟨fun h => (hri.1 h).2, fun h => hri.2 ⟨⟨by have := (show ¬ 64 < R.length from q1h); omega, by have := (show ¬ p < 0 from q2h); omega, by have := (show ¬ (R.length : Int) < p from q3h); omega, by have := (show ¬ c < 0 from q4h); omega, by have := (show ¬ 6 < c from q5h); omega, by assumption, by assumption⟩, h⟩⟩
  clear hri q1h q2h q3h q4h q5h
  go_enter Tryz.func35, Tryz.ntmps35
  go_wp2_with (first | ((with_reducible refine at_load ?_); refine wpList_bag_cell hX int_cell _ rfl rfl rfl rfl (by first | exact .head _) rfl ?_) | ((with_reducible refine at_load ?_); refine wpList_bag_cell hX bool_cell _ rfl rfl rfl rfl (by first | exact .head _) rfl ?_) | ((with_reducible refine at_load ?_); refine wpList_bag_cell hX slS_cell _ rfl rfl rfl rfl (by first | exact .head _) rfl ?_) | (go_at_call 79; first | ((with_reducible refine (hwk _).mono ?_); rintro e' w' ⟨rfl, hbb⟩; replace hX := hX.step hbb; clear hbb) | ((with_reducible refine (hwa _).mono ?_); rintro e' w' ⟨rfl, hbb⟩; replace hX := hX.step hbb; clear hbb)))
  clear q1 q2 q3 q4 q5 hwk hwa
  go_loopw [3] (fun iv wr => ∃ i : Nat, i ≤ R.length ∧ iv = .int .i64 i ∧ Hid (∀ (j : Nat) s, j < i → R[j]? = some s → s.size ≤ 512) ∧ Bag [(w.heap.size, 42, [(.slice A R.length c1), .int .i64 p, .bool n, .bool r, .bool e, .bool m, .bool d, .int .i64 c, .int .i64 k, .int .i64 a, .int .i64 l])] w wr) (fun i _ => match i with | .int _ q => R.length - q.toNat | _ => 0)
  case atStart => exact ⟨0, Nat.zero_le _, rfl, fun j s hj => absurd hj (Nat.not_lt_zero j), hX⟩
  case round =>
    clear hX
    obtain ⟨i, hi, rfl, hN, hX⟩ := hrel
    by_cases hin : i < R.length
    · have hii : (i : Int) < (R.length : Int) := by omega
      have hx := List.getElem?_eq_getElem hin
      have hm := List.getElem_mem hin
      generalize R[i] = x at *
      obtain ⟨a', rfl, hL⟩ := hc i x hx
      by_cases hsz : x.size ≤ 512
      · have hszi : ¬ (512 : Int) < (x.size : Int) := by omega
        have hN2 : Hid (∀ (j : Nat) s, j < i + 1 → R[j]? = some s → s.size ≤ 512) := fun j s hj hs => by
          rcases (by omega : j < i ∨ j = i) with h | rfl
          · exact (show ∀ (j : Nat) s, j < i → R[j]? = some s → s.size ≤ 512 from hN) j s h hs
          · rw [hx] at hs; cases hs; exact hsz
        clear hN hx hsz hc hri2 hm
        go_wp2_with (first | ((with_reducible refine at_load ?_); refine wpList_bag_cell hX int_cell _ rfl rfl rfl rfl (by first | exact .head _) rfl ?_) | ((with_reducible refine at_load ?_); refine wpList_bag_cell hX bool_cell _ rfl rfl rfl rfl (by first | exact .head _) rfl ?_) | ((with_reducible refine at_load ?_); refine wpList_bag_cell hX slS_cell _ rfl rfl rfl rfl (by first | exact .head _) rfl ?_) | ((with_reducible refine at_load ?_); refine wpList_loadW rfl 9 _ _ _ rfl rfl (hL _ hX.below) ?_))
        exact ⟨⟨i + 1, by omega, by go_num, hN2, hX⟩, by simp only; omega⟩
      · have hszi : (512 : Int) < (x.size : Int) := by omega
        have hr : RR = false := by cases RR; rfl; exact absurd ((hri2.1 rfl).1 x hm) hsz
        subst hr
        clear hN hx hsz hc hri2 hm
        go_wp2_with (first | ((with_reducible refine at_load ?_); refine wpList_bag_cell hX int_cell _ rfl rfl rfl rfl (by first | exact .head _) rfl ?_) | ((with_reducible refine at_load ?_); refine wpList_bag_cell hX bool_cell _ rfl rfl rfl rfl (by first | exact .head _) rfl ?_) | ((with_reducible refine at_load ?_); refine wpList_bag_cell hX slS_cell _ rfl rfl rfl rfl (by first | exact .head _) rfl ?_) | ((with_reducible refine at_load ?_); refine wpList_loadW rfl 9 _ _ _ rfl rfl (hL _ hX.below) ?_))
        go_ret
        exact ⟨rfl, hX.below⟩
    · have hii : ¬ (i : Int) < (R.length : Int) := by omega
      have hall : ∀ s ∈ R, s.size ≤ 512 := fun s hs => by
        obtain ⟨j, hj⟩ := List.mem_iff_getElem?.1 hs
        have hjl : j < R.length := (List.getElem?_eq_some_iff.1 hj).1
        exact (show ∀ (j : Nat) s, j < i → R[j]? = some s → s.size ≤ 512 from hN) j s (by omega) hj
      have hri3 : RR = true ↔ (0 ≤ l ∧ l ≤ 16) ∧ r = decide (l = 0) := ⟨fun h => (hri2.1 h).2, fun h => hri2.2 ⟨hall, h⟩⟩
      clear hri2 hall hN hc
      by_cases l0 : 0 ≤ l
      · have d0 : decide (0 ≤ l) = true := decide_eq_true l0
        by_cases l1 : l ≤ 16
        · have d1 : decide (l ≤ 16) = true := decide_eq_true l1
          have hd : (r == (l == 0)) = RR := by
            rw [Bool.eq_iff_iff, hri3]
            have hb : (l == 0) = decide (l = 0) := by rw [Bool.eq_iff_iff]; simp
            simp [l0, l1, hb]
          clear hri3 l0 l1
          go_wp2_with (first | ((with_reducible refine at_load ?_); refine wpList_bag_cell hX int_cell _ rfl rfl rfl rfl (by first | exact .head _) rfl ?_) | ((with_reducible refine at_load ?_); refine wpList_bag_cell hX bool_cell _ rfl rfl rfl rfl (by first | exact .head _) rfl ?_) | ((with_reducible refine at_load ?_); refine wpList_bag_cell hX slS_cell _ rfl rfl rfl rfl (by first | exact .head _) rfl ?_))
          go_ret
          exact ⟨by simp [hd], hX.below⟩
        · have d1 : decide (l ≤ 16) = false := decide_eq_false l1
          have hr : RR = false := by cases RR; rfl; have := (hri3.1 rfl).1; omega
          subst hr
          clear hri3 l0 l1
          go_wp2_with (first | ((with_reducible refine at_load ?_); refine wpList_bag_cell hX int_cell _ rfl rfl rfl rfl (by first | exact .head _) rfl ?_) | ((with_reducible refine at_load ?_); refine wpList_bag_cell hX bool_cell _ rfl rfl rfl rfl (by first | exact .head _) rfl ?_) | ((with_reducible refine at_load ?_); refine wpList_bag_cell hX slS_cell _ rfl rfl rfl rfl (by first | exact .head _) rfl ?_))
          go_ret
          exact ⟨rfl, hX.below⟩
      · have d0 : decide (0 ≤ l) = false := decide_eq_false l0
        have hr : RR = false := by cases RR; rfl; have := (hri3.1 rfl).1; omega
        subst hr
        clear hri3 l0
        go_wp2_with (first | ((with_reducible refine at_load ?_); refine wpList_bag_cell hX int_cell _ rfl rfl rfl rfl (by first | exact .head _) rfl ?_) | ((with_reducible refine at_load ?_); refine wpList_bag_cell hX bool_cell _ rfl rfl rfl rfl (by first | exact .head _) rfl ?_) | ((with_reducible refine at_load ?_); refine wpList_bag_cell hX slS_cell _ rfl rfl rfl rfl (by first | exact .head _) rfl ?_))
        go_ret
        exact ⟨rfl, hX.below⟩
end Go.Proofs.YthpnddgfgpacpaaGreat
