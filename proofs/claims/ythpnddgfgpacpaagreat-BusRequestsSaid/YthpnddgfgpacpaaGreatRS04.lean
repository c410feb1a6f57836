import Derived.Test.YthpnddgfgpacpaaGreatRS03
/-
  describe and Write of package mmu. No condition but that the pages are sixteen.
-/
namespace Go.Proofs.YthpnddgfgpacpaaGreat
open Go.RowKit
set_option linter.unusedSimpArgs false
set_option linter.unusedVariables false
set_option maxHeartbeats 8000000
set_option maxRecDepth 100000
attribute [local irreducible] wpQuiet

theorem describe_any {B C m p : Nat} {u Z : Un} {w0 w : World} {g : Pg} (hm : m < 2) (hp : p < 8) (hX : Two B C u Z w0 w) (hg : u.pg[8 * m + p]? = some g) (hn : C ≠ B) (hB : w0.heap.size ≤ B) (v : Int) :
    Calls Tryz.prog 177 #[.pointer (some ⟨B, 1 + m * 32 + p * 4, none⟩), .int .i64 v] w fun e w' => e = .returned (.tuple #[]) ∧ Two B C (u.withP (8 * m + p) ⟨g.b, min (v % 65536 % 256) 128, min (v % 65536 / 256 % 4) 2, false⟩) Z w0 w' := by
  have A1 := a255 v
  have A2 := a3 (v / 256)
  rw [show v % 65536 % 256 = v % 256 by omega, show v % 65536 / 256 % 4 = v / 256 % 4 by omega]
  have hq1 : 0 ≤ v % 256 := by omega
  have hq2 : 0 ≤ v / 256 % 4 := by omega
  have hA : ∃ ml, min (v % 256) 128 = ml ∧ ((v % 256 ≤ 128 ∧ ml = v % 256) ∨ (128 < v % 256 ∧ ml = 128)) := ⟨_, rfl, by omega⟩
  have hM : ∃ ma, min (v / 256 % 4) 2 = ma ∧ ((v / 256 % 4 ≤ 2 ∧ ma = v / 256 % 4) ∨ (2 < v / 256 % 4 ∧ ma = 2)) := ⟨_, rfl, by omega⟩
  obtain ⟨ml, hml, hA⟩ := hA
  obtain ⟨ma, hma, hM⟩ := hM
  rw [hml, hma]
  clear hml hma
  obtain ⟨gb, gl, ga, gr⟩ := g
  have f1 := hX.fz (1 + m * 32 + p * 4 + 1)
  obtain ⟨_, c1, _, _⟩ := hX.page hg
  have hg1 := Un.withP_at (g' := ⟨gb, ml, ga, gr⟩) hg
  have hY1 := hX.putF (g' := ⟨gb, ml, ga, gr⟩) hg hn hB 1 (by decide) (.int .i64 ml) rfl (1 + m * 32 + p * 4 + 1) rfl
  obtain ⟨W1, e1, hY1⟩ : ∃ W1, W1 = _ ∧ Two _ _ _ _ _ W1 := ⟨_, rfl, hY1⟩
  have f2 := hY1.fz (1 + m * 32 + p * 4 + 2)
  obtain ⟨_, _, c2, _⟩ := hY1.page hg1
  have hg2 := Un.withP_at (g' := ⟨gb, ml, ma, gr⟩) hg1
  have hY2 := hY1.putF (g' := ⟨gb, ml, ma, gr⟩) hg1 hn hB 2 (by decide) (.int .i64 ma) rfl (1 + m * 32 + p * 4 + 2) rfl
  obtain ⟨W2, e2, hY2⟩ : ∃ W2, W2 = _ ∧ Two _ _ _ _ _ W2 := ⟨_, rfl, hY2⟩
  have f3 := hY2.fz (1 + m * 32 + p * 4 + 3)
  obtain ⟨_, _, _, c3⟩ := hY2.page hg2
  have hY3 := hY2.putF (g' := ⟨gb, ml, ma, false⟩) hg2 hn hB 3 (by decide) (.bool false) rfl (1 + m * 32 + p * 4 + 3) rfl
  obtain ⟨W3, e3, hZ3⟩ : ∃ W3, W3 = _ ∧ Two _ _ _ _ _ W3 := ⟨_, rfl, hY3⟩
  replace e1 := e1.symm
  replace e2 := e2.symm
  replace e3 := e3.symm
  rw [withP_twice, withP_twice] at hZ3
  simp only at *
  generalize u.withP (8 * m + p) ⟨gb, ml, ma, false⟩ = u2 at *
  clear hY1 hY2 hY3 hg hg1 hg2 hX
  rcases hA with ⟨a1, a2⟩ | ⟨a1, a2⟩ <;> rcases hM with ⟨b1, b2⟩ | ⟨b1, b2⟩
  all_goals
    subst a2 b2
    go_enter Tryz.func177, Tryz.ntmps177
    go_wp2
    refine bodyPost_end (v := .tuple #[]) (by simp [results, Tryz.results177, go_sem]) rfl ⟨rfl, hZ3⟩

theorem wr_addr (u : Un) (hu : u.ok) (n v : Int) (hn : n = 2) (W0 : World) : Calls Tryz.prog 169 #[.agg u.L.toArray, .int .i64 n, .int .i64 v] W0 fun e w' => e = .returned (.tuple #[.agg u.L.toArray, .bool true]) ∧ Below W0.heap.size W0 w' := by
  have hz := zero_unit
  have hX := Two.put u W0
  have hln := Un.len hu
  have hzl := Un.zlen
  have hzo := Un.z_ok
  subst hn
  generalize Un.z = Z at *
  obtain ⟨hld, W, hst, hX2, hlv⟩ := hX.outR hu hzo (by omega) (by omega)
  go_enter Tryz.func169, Tryz.ntmps169
  go_wp2_with (first | (refine wpList_load_run rfl 32 (.tmp 3) (.pointer (some ⟨W0.heap.size, 0, none⟩)) (.agg u.L.toArray) rfl rfl hld ?_))
  exact bodyPost_ret (results_ct Tryz.results169 rfl hlv) rfl ⟨rfl, hX2.below⟩

theorem wr_none (u : Un) (hu : u.ok) (n v : Int) (hn : isReg n = false) (hn0 : n ≠ 0) (hn2 : n ≠ 2) (W0 : World) : Calls Tryz.prog 169 #[.agg u.L.toArray, .int .i64 n, .int .i64 v] W0 fun e w' => e = .returned (.tuple #[.agg u.L.toArray, .bool false]) ∧ Below W0.heap.size W0 w' := by
  have hz := zero_unit
  have hX := Two.put u W0
  have hln := Un.len hu
  have hzl := Un.zlen
  have hzo := Un.z_ok
  have h1 := fun w => isbase_any n w
  have h2 := fun w => isdesc_any n w
  rw [(notreg hn).1] at h1
  rw [(notreg hn).2] at h2
  clear hn
  generalize Un.z = Z at *
  obtain ⟨hld, W, hst, hX2, hlv⟩ := hX.outR hu hzo (by omega) (by omega)
  generalize hW1 : (W0.alloc (.cells u.L.toArray 32)).alloc (.cells Z.L.toArray 32) = W1 at *
  go_enter Tryz.func169, Tryz.ntmps169
  go_wp2_with (first | (go_at_call 171; with_reducible refine (h1 _).mono ?_; rintro e w' ⟨rfl, hw⟩; subst hw) | (go_at_call 173; with_reducible refine (h2 _).mono ?_; rintro e w' ⟨rfl, hw⟩; subst hw) | (refine wpList_load_run rfl 32 (.tmp 3) (.pointer (some ⟨W0.heap.size, 0, none⟩)) (.agg u.L.toArray) rfl rfl hld ?_))
  exact bodyPost_ret (results_ct Tryz.results169 rfl hlv) rfl ⟨rfl, hX2.below⟩

theorem wr_stat (u : Un) (hu : u.ok) (n v : Int) (hn : n = 0) (W0 : World) : Calls Tryz.prog 169 #[.agg u.L.toArray, .int .i64 n, .int .i64 v] W0 fun e w' => e = .returned (.tuple #[.agg ({ u with on := decide (v % 65536 % 2 = 1), st := v % 65536 / 2 % 4 } : Un).L.toArray, .bool true]) ∧ Below W0.heap.size W0 w' := by
  have hz := zero_unit
  have hX := Two.put u W0
  have hln := Un.len hu
  have hzl := Un.zlen
  have hzo := Un.z_ok
  subst hn
  generalize hZ : Un.z = Z at *
  have A1 := a1 v
  have A2 := a3 (v / 2)
  have hbe : (v % 2 != 0) = decide (v % 65536 % 2 = 1) := by
    by_cases h : v % 2 = 0
    · rw [decide_eq_false (by omega), h]; rfl
    · rw [decide_eq_true (by omega)]; simpa using h
  rw [show v % 65536 / 2 % 4 = v / 2 % 4 by omega]
  have hu2 : ({ u with on := decide (v % 65536 % 2 = 1) } : Un).ok := hu
  have hu3 : ({ u with on := decide (v % 65536 % 2 = 1), st := v / 2 % 4 } : Un).ok := hu
  have e0 := Un.set0 u (decide (v % 65536 % 2 = 1))
  have e1 := Un.set65 hu2 (v / 2 % 4)
  simp only at e1
  have f0 := hX.fz 0
  have c0 := hX.b.cell (Un.at0 u)
  have hY := Two.put { u with on := decide (v % 65536 % 2 = 1) } W0
  have hY2 := Two.put { u with on := decide (v % 65536 % 2 = 1), st := v / 2 % 4 } W0
  rw [hZ] at hY hY2
  have f65 := hY.fz 65
  have c65 := hY.c65 hu2
  obtain ⟨hld, W, hst, hX2, hlv⟩ := hY2.outR hu3 hzo (by omega) (by omega)
  have hln3 := Un.len hu3
  generalize ({ u with on := decide (v % 65536 % 2 = 1), st := v / 2 % 4 } : Un) = u3 at *
  generalize ({ u with on := decide (v % 65536 % 2 = 1) } : Un) = u2 at *
  generalize decide (v % 65536 % 2 = 1) = bb at *
  go_enter Tryz.func169, Tryz.ntmps169
  go_wp2_with (first | (refine wpList_load_run rfl 32 (.tmp 3) (.pointer (some ⟨W0.heap.size, 0, none⟩)) (.agg u3.L.toArray) rfl rfl hld ?_))
  exact bodyPost_ret (results_ct Tryz.results169 rfl hlv) rfl ⟨rfl, hX2.below⟩

theorem wr_base (u : Un) (hu : u.ok) (n v : Int) (hn : isReg n = true) (m p : Nat) (hm : m < 2) (hp : p < 8) (hnm : (n - 16) / 32 = (m : Int)) (hnp : (n - 16) % 32 / 4 = (p : Int)) (g : Pg) (hg : u.pg[8 * m + p]? = some g) (hd : ¬ (n - 16) % 4 = 2) (W0 : World) : Calls Tryz.prog 169 #[.agg u.L.toArray, .int .i64 n, .int .i64 v] W0 fun e w' => e = .returned (.tuple #[.agg (u.withP (8 * m + p) { g with b := v % 65536 % 4096 }).L.toArray, .bool true]) ∧ Below W0.heap.size W0 w' := by
  have hz := zero_unit
  have hX := Two.put u W0
  have hln := Un.len hu
  have hzl := Un.zlen
  have hzo := Un.z_ok
  have hr := isReg_all hn
  have h1 := fun w => isbase_any n w
  rw [ofp_of hn, decide_eq_true (show (n - 16) % 4 = 0 by omega)] at h1
  have h3 := fun w => pageat_any W0.heap.size n hr.1 hr.2.1 m p hm hp (by omega) (by omega) w
  have hn0 : ¬ n = 0 := by omega
  have hn2 : ¬ n = 2 := by omega
  generalize Un.z = Z at *
  have A1 := a4095 v
  rw [show v % 4096 = v % 65536 % 4096 by omega] at A1
  obtain ⟨k0, _, _, _⟩ := hX.page hg
  have f0 := hX.fz (1 + m * 32 + p * 4)
  have hY := hX.putF (g' := { g with b := v % 65536 % 4096 }) hg (by omega) (Nat.le_refl _) 0 (by decide) (.int .i64 (v % 65536 % 4096)) rfl (1 + m * 32 + p * 4) rfl
  have hu2 := Un.withP_ok hu (8 * m + p) { g with b := v % 65536 % 4096 }
  have hln2 := Un.len hu2
  generalize u.withP (8 * m + p) { g with b := v % 65536 % 4096 } = u2 at *
  obtain ⟨hld, W, hst, hX2, hlv⟩ := hY.outR hu2 hzo (by omega) (by omega)
  obtain ⟨gb, gl, ga, gr⟩ := g
  simp only at *
  clear hd hn hr hnm hnp
  generalize v % 65536 % 4096 = y at *
  generalize hW1 : (W0.alloc (.cells u.L.toArray 32)).alloc (.cells Z.L.toArray 32) = W1 at *
  go_enter Tryz.func169, Tryz.ntmps169
  go_wp2_with (first | (go_at_call 171; with_reducible refine (h1 _).mono ?_; rintro e w' ⟨rfl, hw⟩; subst hw) | (go_at_call 172; with_reducible refine (h3 _).mono ?_; rintro e w' ⟨rfl, hw⟩; subst hw) | (refine wpList_load_run rfl 32 (.tmp 3) (.pointer (some ⟨W0.heap.size, 0, none⟩)) (.agg u2.L.toArray) rfl rfl hld ?_))
  exact bodyPost_ret (results_ct Tryz.results169 rfl hlv) rfl ⟨rfl, hX2.below⟩

theorem wr_desc (u : Un) (hu : u.ok) (n v : Int) (hn : isReg n = true) (m p : Nat) (hm : m < 2) (hp : p < 8) (hnm : (n - 16) / 32 = (m : Int)) (hnp : (n - 16) % 32 / 4 = (p : Int)) (g : Pg) (hg : u.pg[8 * m + p]? = some g) (hd : (n - 16) % 4 = 2) (W0 : World) : Calls Tryz.prog 169 #[.agg u.L.toArray, .int .i64 n, .int .i64 v] W0 fun e w' => e = .returned (.tuple #[.agg (u.withP (8 * m + p) ⟨g.b, min (v % 65536 % 256) 128, min (v % 65536 / 256 % 4) 2, false⟩).L.toArray, .bool true]) ∧ Below W0.heap.size W0 w' := by
  have hz := zero_unit
  have hX := Two.put u W0
  have hln := Un.len hu
  have hzl := Un.zlen
  have hzo := Un.z_ok
  have hr := isReg_all hn
  have h1 := fun w => isbase_any n w
  have h2 := fun w => isdesc_any n w
  rw [ofp_of hn, decide_eq_false (show ¬ (n - 16) % 4 = 0 by omega)] at h1
  rw [ofp_of hn, decide_eq_true hd] at h2
  have h3 := fun w => pageat_any W0.heap.size n hr.1 hr.2.1 m p hm hp (by omega) (by omega) w
  have hn0 : ¬ n = 0 := by omega
  have hn2 : ¬ n = 2 := by omega
  generalize Un.z = Z at *
  have h4 := describe_any hm hp hX hg (by omega) (Nat.le_refl _) v
  have hu2 := Un.withP_ok hu (8 * m + p) ⟨g.b, min (v % 65536 % 256) 128, min (v % 65536 / 256 % 4) 2, false⟩
  have hln2 := Un.len hu2
  generalize u.withP (8 * m + p) ⟨g.b, min (v % 65536 % 256) 128, min (v % 65536 / 256 % 4) 2, false⟩ = u2 at *
  clear hd hn hr hnm hnp hg
  go_enter Tryz.func169, Tryz.ntmps169
  go_wp2_with (first | (go_at_call 171; with_reducible refine (h1 _).mono ?_; rintro e w' ⟨rfl, hw⟩; subst hw) | (go_at_call 173; with_reducible refine (h2 _).mono ?_; rintro e w' ⟨rfl, hw⟩; subst hw) | (go_at_call 172; with_reducible refine (h3 _).mono ?_; rintro e w' ⟨rfl, hw⟩; subst hw) | (go_at_call 177; with_reducible refine h4.mono ?_; rintro e w' ⟨rfl, hY⟩; obtain ⟨hld, W, hst, hX2, hlv⟩ := hY.outR hu2 hzo (by omega) (by omega)) | (refine wpList_load_run rfl 32 (.tmp 3) (.pointer (some ⟨W0.heap.size, 0, none⟩)) (.agg u2.L.toArray) rfl rfl hld ?_))
  exact bodyPost_ret (results_ct Tryz.results169 rfl hlv) rfl ⟨rfl, hX2.below⟩

theorem write_any_9 (u : Un) (hu : u.ok) (n v : Int) (W0 : World) : Calls Tryz.prog 169 #[.agg u.L.toArray, .int .i64 n, .int .i64 v] W0 fun e w' => e = .returned (.tuple #[.agg (u.write n v).1.L.toArray, .bool (u.write n v).2]) ∧ Below W0.heap.size W0 w' := by
  by_cases h0 : n = 0
  · rw [show u.write n v = _ from by unfold Un.write; rw [if_pos h0]]
    exact wr_stat u hu n v h0 W0
  by_cases h2 : n = 2
  · rw [show u.write n v = _ from by unfold Un.write; rw [if_neg h0, if_pos h2]]
    exact wr_addr u hu n v h2 W0
  by_cases hn : isReg n = true
  · have hk := regK_lt hn
    have hg := Un.pgAt_some hu hk
    have hi := isReg_all hn
    by_cases hd : (n - 16) % 4 = 2
    · rw [show u.write n v = _ from by unfold Un.write; rw [if_neg h0, if_neg h2, if_pos hn, if_pos hd]]
      exact wr_desc u hu n v hn ((n - 16) / 32).toNat ((n - 16) % 32 / 4).toNat (by omega) (by omega) (by omega) (by omega) _ hg hd W0
    · rw [show u.write n v = _ from by unfold Un.write; rw [if_neg h0, if_neg h2, if_pos hn, if_neg hd]]
      exact wr_base u hu n v hn ((n - 16) / 32).toNat ((n - 16) % 32 / 4).toNat (by omega) (by omega) (by omega) (by omega) _ hg hd W0
  · rw [show u.write n v = _ from by unfold Un.write; rw [if_neg h0, if_neg h2, if_neg hn]]
    exact wr_none u hu n v (by simpa using hn) h0 h2 W0
end Go.Proofs.YthpnddgfgpacpaaGreat
