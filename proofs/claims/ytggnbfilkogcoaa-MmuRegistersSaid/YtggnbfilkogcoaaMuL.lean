/-
  Read of package mmu. Condition: the unit is valid.
-/
import Derived.Test.YtggnbfilkogcoaaMuK
namespace Go.Proofs.Ytggnbfilkogcoaa
open Go.RowKit
set_option linter.unusedSimpArgs false
set_option linter.unusedVariables false
set_option maxHeartbeats 4000000
set_option maxRecDepth 100000
attribute [local irreducible] wpQuiet

theorem ofp_of {n : Int} (h : isReg n = true) : ofP n = true := by have := isReg_all h; unfold ofP; rw [decide_eq_true this.1, decide_eq_true this.2.1]; rfl
theorem notreg {n : Int} (h : isReg n = false) : (ofP n && decide ((n - 16) % 4 = 0)) = false ∧ (ofP n && decide ((n - 16) % 4 = 2)) = false := by
  unfold isReg at h
  unfold ofP
  simp only [Bool.and_eq_false_iff, decide_eq_false_iff_not] at h ⊢
  constructor <;> omega

theorem rd_stat (u : Un) (hu : u.ok) (n : Int) (hn : n = 0) (h0 : 0 ≤ u.st) (h1 : u.st ≤ 3) (W0 : World) : Calls Try.prog 15 #[.agg u.L.toArray, .int .i64 n] W0 fun e w' => e = .returned (.tuple #[.int .i64 (statV u), .bool true]) ∧ Below W0.heap.size W0 w' := by
  have hX := One.put u W0
  have hB := hX.below
  have hs := fun w => status_any u hu h0 h1 w
  have hld := hX.b.loadAt (P := Try.prog) (T := 27) (Un.len hu) agg_unit size_unit
  subst hn
  go_enter Try.func15, Try.ntmps15
  go_wp2_with (first | (go_at_call 28; with_reducible refine (hs _).mono ?_; rintro e w' ⟨rfl, hb⟩; have hX := hX.step hb) | (refine wpList_load_run rfl 27 _ _ (.agg u.L.toArray) rfl rfl hld ?_))
  go_ret2
  exact ⟨rfl, hX.below⟩
theorem rd_addr (u : Un) (hu : u.ok) (n : Int) (hn : n = 2) (W0 : World) : Calls Try.prog 15 #[.agg u.L.toArray, .int .i64 n] W0 fun e w' => e = .returned (.tuple #[.int .i64 u.ad, .bool true]) ∧ Below W0.heap.size W0 w' := by
  have hX := One.put u W0
  have hB := hX.below
  have c66 := hX.b.cell (Un.at66 hu)
  subst hn
  go_enter Try.func15, Try.ntmps15
  go_wp2
  go_ret2
  exact ⟨rfl, hB⟩
theorem rd_none (u : Un) (hu : u.ok) (n : Int) (hn : isReg n = false) (hn0 : n ≠ 0) (hn2 : n ≠ 2) (W0 : World) : Calls Try.prog 15 #[.agg u.L.toArray, .int .i64 n] W0 fun e w' => e = .returned (.tuple #[.int .i64 0, .bool false]) ∧ Below W0.heap.size W0 w' := by
  have hX := One.put u W0
  have hB := hX.below
  have h1 := fun w => isbase_any n w
  have h2 := fun w => isdesc_any n w
  rw [(notreg hn).1] at h1
  rw [(notreg hn).2] at h2
  clear hn
  go_enter Try.func15, Try.ntmps15
  go_wp2_with (first | (go_at_call 29; with_reducible refine (h1 _).mono ?_; rintro e w' ⟨rfl, hw⟩; subst hw) | (go_at_call 31; with_reducible refine (h2 _).mono ?_; rintro e w' ⟨rfl, hw⟩; subst hw))
  go_ret2
  exact ⟨rfl, hB⟩
theorem rd_base (u : Un) (hu : u.ok) (n : Int) (hn : isReg n = true) (m p : Nat) (hm : m < 2) (hp : p < 8) (hnm : (n - 16) / 32 = (m : Int)) (hnp : (n - 16) % 32 / 4 = (p : Int)) (g : Pg) (hg : u.pg[8 * m + p]? = some g) (hd : ¬ (n - 16) % 4 = 2) (W0 : World) : Calls Try.prog 15 #[.agg u.L.toArray, .int .i64 n] W0 fun e w' => e = .returned (.tuple #[.int .i64 g.b, .bool true]) ∧ Below W0.heap.size W0 w' := by
  have hX := One.put u W0
  have hB := hX.below
  have hr := isReg_all hn
  have h1 := fun w => isbase_any n w
  rw [ofp_of hn, decide_eq_true (show (n - 16) % 4 = 0 by omega)] at h1
  have h3 := fun w => pageat_any W0.heap.size n hr.1 hr.2.1 m p hm hp (by omega) (by omega) w
  have hn0 : ¬ n = 0 := by omega
  have hn2 : ¬ n = 2 := by omega
  have ⟨k0, _, _, _⟩ := hX.page hg
  clear hd hn hnm hnp hr hX
  obtain ⟨gb, gl, ga, gr⟩ := g
  simp only at *
  go_enter Try.func15, Try.ntmps15
  go_wp2_with (first | (go_at_call 29; with_reducible refine (h1 _).mono ?_; rintro e w' ⟨rfl, hw⟩; subst hw) | (go_at_call 30; with_reducible refine (h3 _).mono ?_; rintro e w' ⟨rfl, hw⟩; subst hw))
  go_ret2
  exact ⟨rfl, hB⟩
theorem rd_desc (u : Un) (hu : u.ok) (n : Int) (hn : isReg n = true) (m p : Nat) (hm : m < 2) (hp : p < 8) (hnm : (n - 16) / 32 = (m : Int)) (hnp : (n - 16) % 32 / 4 = (p : Int)) (g : Pg) (hg : u.pg[8 * m + p]? = some g) (hd : (n - 16) % 4 = 2) (hgd : g.good = true) (W0 : World) : Calls Try.prog 15 #[.agg u.L.toArray, .int .i64 n] W0 fun e w' => e = .returned (.tuple #[.int .i64 (descV g), .bool true]) ∧ Below W0.heap.size W0 w' := by
  have hX := One.put u W0
  have hB := hX.below
  have hr := isReg_all hn
  have h1 := fun w => isbase_any n w
  have h2 := fun w => isdesc_any n w
  rw [ofp_of hn, decide_eq_false (show ¬ (n - 16) % 4 = 0 by omega)] at h1
  rw [ofp_of hn, decide_eq_true hd] at h2
  have h3 := fun w => pageat_any W0.heap.size n hr.1 hr.2.1 m p hm hp (by omega) (by omega) w
  have hn0 : ¬ n = 0 := by omega
  have hn2 : ¬ n = 2 := by omega
  obtain ⟨k0, k1, k2, k3⟩ := hX.page hg
  have hc := fun w => desc_any g hgd w
  generalize descV g = R at *
  clear hd hn hnm hnp hr hgd
  obtain ⟨gb, gl, ga, gr⟩ := g
  simp only at *
  have hc : ∀ w, Calls Try.prog 32 #[.agg #[.int .i64 gb, .int .i64 gl, .int .i64 ga, .bool gr]] w fun e w' => e = .returned (.int .i64 R) ∧ Below w.heap.size w w' := hc
  go_enter Try.func15, Try.ntmps15
  go_wp2_with (first | (go_at_call 29; with_reducible refine (h1 _).mono ?_; rintro e w' ⟨rfl, hw⟩; subst hw) | (go_at_call 31; with_reducible refine (h2 _).mono ?_; rintro e w' ⟨rfl, hw⟩; subst hw) | (go_at_call 30; with_reducible refine (h3 _).mono ?_; rintro e w' ⟨rfl, hw⟩; subst hw) | (go_at_call 32; with_reducible refine (hc _).mono ?_; rintro e w' ⟨rfl, hb⟩; have hX := hX.step hb))
  go_ret2
  exact ⟨rfl, hX.below⟩
theorem read_any (u : Un) (hu : u.ok) (hr : u.right = true) (n : Int) (W0 : World) : Calls Try.prog 15 #[.agg u.L.toArray, .int .i64 n] W0 fun e w' => e = .returned (.tuple #[.int .i64 (u.read n).1, .bool (u.read n).2]) ∧ Below W0.heap.size W0 w' := by
  have ht := Un.right_tail hr
  by_cases h0 : n = 0
  · rw [show u.read n = _ from by unfold Un.read; rw [if_pos h0]]
    exact rd_stat u hu n h0 ht.1 ht.2.1 W0
  by_cases h2 : n = 2
  · rw [show u.read n = _ from by unfold Un.read; rw [if_neg h0, if_pos h2]]
    exact rd_addr u hu n h2 W0
  by_cases hn : isReg n = true
  · have hk := regK_lt hn
    have hg := Un.pgAt_some hu hk
    have hgd := Un.right_at hr hu hk
    have hi := isReg_all hn
    by_cases hd : (n - 16) % 4 = 2
    · rw [show u.read n = _ from by unfold Un.read; rw [if_neg h0, if_neg h2, if_pos hn, if_pos hd]]
      exact rd_desc u hu n hn ((n - 16) / 32).toNat ((n - 16) % 32 / 4).toNat (by omega) (by omega) (by omega) (by omega) _ hg hd hgd W0
    · rw [show u.read n = _ from by unfold Un.read; rw [if_neg h0, if_neg h2, if_pos hn, if_neg hd]]
      exact rd_base u hu n hn ((n - 16) / 32).toNat ((n - 16) % 32 / 4).toNat (by omega) (by omega) (by omega) (by omega) _ hg hd W0
  · rw [show u.read n = _ from by unfold Un.read; rw [if_neg h0, if_neg h2, if_neg hn]]
    exact rd_none u hu n (by simpa using hn) h0 h2 W0
end Go.Proofs.Ytggnbfilkogcoaa
