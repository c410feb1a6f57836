/-
  Write of the reference of package mmu. No condition but that the pages are sixteen.
-/
import Derived.Test.YtggnbfilkogcoaaMuD
namespace Go.Proofs.Ytggnbfilkogcoaa
open Go.RowKit
set_option linter.unusedSimpArgs false
set_option linter.unusedVariables false
set_option maxHeartbeats 8000000
set_option maxRecDepth 100000
attribute [local irreducible] wpQuiet

theorem Two.put0 {B C : Nat} {u v : Un} {w0 w : World} (h : Two B C u v w0 w) (hn : C ≠ B) (hB : w0.heap.size ≤ B) (x : Bool) : Two B C { u with on := x } v w0 (w.setCell ⟨B, 0, none⟩ (.bool x)) :=
  ⟨by rw [← Un.set0 u x]; exact h.b.set 0 _, h.c.other hn _, h.below.setCell hB _⟩
theorem Two.putF {B C m p : Nat} {u v : Un} {w0 w : World} {g g' : Pg} (h : Two B C u v w0 w) (hg : u.pg[8 * m + p]? = some g) (hn : C ≠ B) (hB : w0.heap.size ≤ B) (j : Nat) (hj : j < 4) (x : Value) (he : g.L.set j x = g'.L) (k : Nat) (hk : k = 1 + m * 32 + p * 4 + j) : Two B C (u.withP (8 * m + p) g') v w0 (w.setCell ⟨B, k, none⟩ x) := by
  have e : k = 1 + (4 * (8 * m + p) + j) := by omega
  have q := Un.setp (u := u) (p' := g') hg j hj x he
  refine ⟨?_, h.c.other hn _, h.below.setCell hB _⟩
  subst e
  have k2 := h.b.set (1 + (4 * (8 * m + p) + j)) x
  rw [q] at k2
  exact k2
theorem withP_twice (u : Un) (k : Nat) (g g' : Pg) : (u.withP k g).withP k g' = u.withP k g' := by
  unfold Un.withP; simp
/-- What a load of the whole box and a store of it leave. -/
theorem Two.outR {B C : Nat} {u v : Un} {w0 w : World} (h : Two B C u v w0 w) (hu : u.ok) (hv : v.ok) (hn : B ≠ C) (hC : w0.heap.size ≤ C) :
    (Instr.loadAt 27 (.pointer (some ⟨B, 0, none⟩))).run Try.prog w = .ok (.agg u.L.toArray) w ∧ ∃ W, (storeCells ⟨C, 0, none⟩ u.L).run Try.prog w = .ok () W ∧ Two B C u u w0 W ∧ (loadVar 27 ⟨C, 0, none⟩).run Try.prog W = .ok (.agg u.L.toArray) W := by
  obtain ⟨_, W, h1, h2, h3⟩ := h.out hu hv hn hC
  exact ⟨h.b.loadAt (Un.len hu) agg_unit size_unit, W, h1, h2, h3⟩

theorem rwr_addr (u : Un) (hu : u.ok) (n v : Int) (hn : n = 2) (W0 : World) : Calls Try.prog 18 #[.agg u.L.toArray, .int .i64 n, .int .i64 v] W0 fun e w' => e = .returned (.tuple #[.agg u.L.toArray, .bool true]) ∧ Below W0.heap.size W0 w' := by
  have hwd := fun w => rword_any v w
  have hz := zero_unit
  have hX := Two.put u W0
  have hln := Un.len hu
  have hzl := Un.zlen
  have hzo := Un.z_ok
  subst hn
  generalize Un.z = Z at *
  obtain ⟨hld, W, hst, hX2, hlv⟩ := hX.outR hu hzo (by omega) (by omega)
  go_enter Try.func18, Try.ntmps18
  go_wp2_with (first | (go_at_call 26; with_reducible refine (hwd _).mono ?_; rintro e w' ⟨rfl, rfl⟩; generalize (W0.alloc (.cells u.L.toArray 27)).alloc (.cells Z.L.toArray 27) = w1 at *) | (refine wpList_load_run rfl 27 (.tmp 3) (.pointer (some ⟨W0.heap.size, 0, none⟩)) (.agg u.L.toArray) rfl rfl hld ?_))
  exact bodyPost_ret (results_ct Try.results18 rfl hlv) rfl ⟨rfl, hX2.below⟩

theorem rwr_none (u : Un) (hu : u.ok) (n v : Int) (hn : isReg n = false) (hn0 : n ≠ 0) (hn2 : n ≠ 2) (W0 : World) : Calls Try.prog 18 #[.agg u.L.toArray, .int .i64 n, .int .i64 v] W0 fun e w' => e = .returned (.tuple #[.agg u.L.toArray, .bool false]) ∧ Below W0.heap.size W0 w' := by
  have hwd := fun w => rword_any v w
  have hz := zero_unit
  have hX := Two.put u W0
  have hln := Un.len hu
  have hzl := Un.zlen
  have hzo := Un.z_ok
  have hpgc := fun w => rpage_any n w
  rw [pgV_no hn] at hpgc
  generalize Un.z = Z at *
  obtain ⟨hld, W, hst, hX2, hlv⟩ := hX.outR hu hzo (by omega) (by omega)
  go_enter Try.func18, Try.ntmps18
  go_wp2_with (first | (go_at_call 26; with_reducible refine (hwd _).mono ?_; rintro e w' ⟨rfl, rfl⟩; generalize (W0.alloc (.cells u.L.toArray 27)).alloc (.cells Z.L.toArray 27) = w1 at *) | (go_at_call 33; with_reducible refine (hpgc _).mono ?_; rintro e w' ⟨rfl, rfl⟩) | (refine wpList_load_run rfl 27 (.tmp 3) (.pointer (some ⟨W0.heap.size, 0, none⟩)) (.agg u.L.toArray) rfl rfl hld ?_))
  exact bodyPost_ret (results_ct Try.results18 rfl hlv) rfl ⟨rfl, hX2.below⟩

theorem rwr_stat (u : Un) (hu : u.ok) (n v : Int) (hn : n = 0) (W0 : World) : Calls Try.prog 18 #[.agg u.L.toArray, .int .i64 n, .int .i64 v] W0 fun e w' => e = .returned (.tuple #[.agg ({ u with on := decide (v % 65536 % 2 = 1), st := v % 65536 / 2 % 4 } : Un).L.toArray, .bool true]) ∧ Below W0.heap.size W0 w' := by
  have hwd := fun w => rword_any v w
  have hz := zero_unit
  have hX := Two.put u W0
  have hln := Un.len hu
  have hzl := Un.zlen
  have hzo := Un.z_ok
  subst hn
  generalize Un.z = Z at *
  have hbd : 0 ≤ v % 65536 := by omega
  have hbd2 : v % 65536 ≤ 65535 := by omega
  have hbe : (v % 65536 % 2 == 1) = decide (v % 65536 % 2 = 1) := rfl
  have hu2 : ({ u with on := decide (v % 65536 % 2 = 1) } : Un).ok := hu
  have hu3 : ({ u with on := decide (v % 65536 % 2 = 1), st := v % 65536 / 2 % 4 } : Un).ok := hu
  have f0 := hX.fz 0
  have c0 := hX.b.cell (Un.at0 u)
  have hY := hX.put0 (by omega) (Nat.le_refl _) (decide (v % 65536 % 2 = 1))
  have f65 := hY.fz 65
  have c65 := hY.c65 hu2
  have hY2 := hY.put65 hu2 (by omega) (Nat.le_refl _) (v % 65536 / 2 % 4)
  obtain ⟨hld, W, hst, hX2, hlv⟩ := hY2.outR hu3 hzo (by omega) (by omega)
  have hln3 := Un.len hu3
  simp only at hld hst hX2 hlv hln3
  generalize ({ u with on := decide (v % 65536 % 2 = 1), st := v % 65536 / 2 % 4 } : Un) = u3 at *
  generalize decide (v % 65536 % 2 = 1) = bb at *
  generalize v % 65536 = y at *
  go_enter Try.func18, Try.ntmps18
  go_wp2_with (first | (go_at_call 26; with_reducible refine (hwd _).mono ?_; rintro e w' ⟨rfl, rfl⟩; generalize (W0.alloc (.cells u.L.toArray 27)).alloc (.cells Z.L.toArray 27) = w1 at *) | (refine wpList_load_run rfl 27 (.tmp 3) (.pointer (some ⟨W0.heap.size, 0, none⟩)) (.agg u3.L.toArray) rfl rfl hld ?_))
  exact bodyPost_ret (results_ct Try.results18 rfl hlv) rfl ⟨rfl, hX2.below⟩

theorem rwr_base (u : Un) (hu : u.ok) (n v : Int) (hn : isReg n = true) (m p : Nat) (hm : m < 2) (hp : p < 8) (hnm : (n - 16) / 32 = (m : Int)) (hnp : (n - 16) % 32 / 4 = (p : Int)) (g : Pg) (hg : u.pg[8 * m + p]? = some g) (hd : ¬ (n - 16) % 4 = 2) (W0 : World) : Calls Try.prog 18 #[.agg u.L.toArray, .int .i64 n, .int .i64 v] W0 fun e w' => e = .returned (.tuple #[.agg (u.withP (8 * m + p) { g with b := v % 65536 % 4096 }).L.toArray, .bool true]) ∧ Below W0.heap.size W0 w' := by
  have hwd := fun w => rword_any v w
  have hz := zero_unit
  have hX := Two.put u W0
  have hln := Un.len hu
  have hzl := Un.zlen
  have hzo := Un.z_ok
  have hpgc := fun w => rpage_any n w
  rw [pgV_ok hn, hnm, hnp, decide_eq_false hd] at hpgc
  have m0 : (0 : Int) ≤ (m : Int) := by omega
  have m1 : (m : Int) < 2 := by omega
  have p0 : (0 : Int) ≤ (p : Int) := by omega
  have p1 : (p : Int) < 8 := by omega
  have hn0 : ¬ n = 0 := by simp [isReg] at hn; omega
  have hn2 : ¬ n = 2 := by simp [isReg] at hn; omega
  generalize Un.z = Z at *
  have hbd : 0 ≤ v % 65536 := by omega
  have hbd2 : v % 65536 ≤ 65535 := by omega
  obtain ⟨k0, _, _, _⟩ := hX.page hg
  have f0 := hX.fz (1 + m * 32 + p * 4)
  have hY := hX.putF (g' := { g with b := v % 65536 % 4096 }) hg (by omega) (Nat.le_refl _) 0 (by decide) (.int .i64 (v % 65536 % 4096)) rfl (1 + m * 32 + p * 4) rfl
  have hu2 := Un.withP_ok hu (8 * m + p) { g with b := v % 65536 % 4096 }
  have hln2 := Un.len hu2
  generalize u.withP (8 * m + p) { g with b := v % 65536 % 4096 } = u2 at *
  obtain ⟨hld, W, hst, hX2, hlv⟩ := hY.outR hu2 hzo (by omega) (by omega)
  obtain ⟨gb, gl, ga, gr⟩ := g
  simp only at *
  clear hd hn
  have hz4 : v % 65536 % 4096 = v % 65536 % 4096 := rfl
  clear hz4
  generalize v % 65536 = y at *
  go_enter Try.func18, Try.ntmps18
  go_wp2_with (first | (go_at_call 26; with_reducible refine (hwd _).mono ?_; rintro e w' ⟨rfl, rfl⟩; generalize (W0.alloc (.cells u.L.toArray 27)).alloc (.cells Z.L.toArray 27) = w1 at *) | (go_at_call 33; with_reducible refine (hpgc _).mono ?_; rintro e w' ⟨rfl, rfl⟩) | (refine wpList_load_run rfl 27 (.tmp 3) (.pointer (some ⟨W0.heap.size, 0, none⟩)) (.agg u2.L.toArray) rfl rfl hld ?_))
  exact bodyPost_ret (results_ct Try.results18 rfl hlv) rfl ⟨rfl, hX2.below⟩

theorem rwr_desc (u : Un) (hu : u.ok) (n v : Int) (hn : isReg n = true) (m p : Nat) (hm : m < 2) (hp : p < 8) (hnm : (n - 16) / 32 = (m : Int)) (hnp : (n - 16) % 32 / 4 = (p : Int)) (g : Pg) (hg : u.pg[8 * m + p]? = some g) (hd : (n - 16) % 4 = 2) (W0 : World) : Calls Try.prog 18 #[.agg u.L.toArray, .int .i64 n, .int .i64 v] W0 fun e w' => e = .returned (.tuple #[.agg (u.withP (8 * m + p) ⟨g.b, min (v % 65536 % 256) 128, min (v % 65536 / 256 % 4) 2, false⟩).L.toArray, .bool true]) ∧ Below W0.heap.size W0 w' := by
  have hwd := fun w => rword_any v w
  have hz := zero_unit
  have hX := Two.put u W0
  have hln := Un.len hu
  have hzl := Un.zlen
  have hzo := Un.z_ok
  have hpgc := fun w => rpage_any n w
  rw [pgV_ok hn, hnm, hnp, decide_eq_true hd] at hpgc
  have m0 : (0 : Int) ≤ (m : Int) := by omega
  have m1 : (m : Int) < 2 := by omega
  have p0 : (0 : Int) ≤ (p : Int) := by omega
  have p1 : (p : Int) < 8 := by omega
  have hn0 : ¬ n = 0 := by simp [isReg] at hn; omega
  have hn2 : ¬ n = 2 := by simp [isReg] at hn; omega
  generalize Un.z = Z at *
  have hbd : 0 ≤ v % 65536 := by omega
  have hbd2 : v % 65536 ≤ 65535 := by omega
  have hq1 : 0 ≤ v % 65536 % 256 := by omega
  have hq2 : 0 ≤ v % 65536 / 256 % 4 := by omega
  have hA : ∃ ml, min (v % 65536 % 256) 128 = ml ∧ ((v % 65536 % 256 ≤ 128 ∧ ml = v % 65536 % 256) ∨ (128 < v % 65536 % 256 ∧ ml = 128)) := ⟨_, rfl, by omega⟩
  have hM : ∃ ma, min (v % 65536 / 256 % 4) 2 = ma ∧ ((v % 65536 / 256 % 4 ≤ 2 ∧ ma = v % 65536 / 256 % 4) ∨ (2 < v % 65536 / 256 % 4 ∧ ma = 2)) := ⟨_, rfl, by omega⟩
  obtain ⟨ml, hml, hA⟩ := hA
  obtain ⟨ma, hma, hM⟩ := hM
  rw [hml, hma]
  clear hml hma
  obtain ⟨gb, gl, ga, gr⟩ := g
  have f1 := hX.fz (1 + m * 32 + p * 4 + 1)
  obtain ⟨_, c1, _, _⟩ := hX.page hg
  have hg1 := Un.withP_at (g' := ⟨gb, ml, ga, gr⟩) hg
  have hY1 := hX.putF (g' := ⟨gb, ml, ga, gr⟩) hg (by omega) (Nat.le_refl _) 1 (by decide) (.int .i64 ml) rfl (1 + m * 32 + p * 4 + 1) rfl
  obtain ⟨W1, e1, hY1⟩ : ∃ W1, W1 = _ ∧ Two _ _ _ _ _ W1 := ⟨_, rfl, hY1⟩
  have f2 := hY1.fz (1 + m * 32 + p * 4 + 2)
  obtain ⟨_, _, c2, _⟩ := hY1.page hg1
  have hg2 := Un.withP_at (g' := ⟨gb, ml, ma, gr⟩) hg1
  have hY2 := hY1.putF (g' := ⟨gb, ml, ma, gr⟩) hg1 (by omega) (Nat.le_refl _) 2 (by decide) (.int .i64 ma) rfl (1 + m * 32 + p * 4 + 2) rfl
  obtain ⟨W2, e2, hY2⟩ : ∃ W2, W2 = _ ∧ Two _ _ _ _ _ W2 := ⟨_, rfl, hY2⟩
  have f3 := hY2.fz (1 + m * 32 + p * 4 + 3)
  obtain ⟨_, _, _, c3⟩ := hY2.page hg2
  have hY3 := hY2.putF (g' := ⟨gb, ml, ma, false⟩) hg2 (by omega) (Nat.le_refl _) 3 (by decide) (.bool false) rfl (1 + m * 32 + p * 4 + 3) rfl
  obtain ⟨W3, e3, hY3⟩ : ∃ W3, W3 = _ ∧ Two _ _ _ _ _ W3 := ⟨_, rfl, hY3⟩
  replace e1 := e1.symm
  replace e2 := e2.symm
  replace e3 := e3.symm
  rw [withP_twice, withP_twice] at hY3
  have hu2 := Un.withP_ok hu (8 * m + p) ⟨gb, ml, ma, false⟩
  have hln2 := Un.len hu2
  simp only at *
  generalize u.withP (8 * m + p) ⟨gb, ml, ma, false⟩ = u2 at *
  obtain ⟨hld, W, hst, hX2, hlv⟩ := hY3.outR hu2 hzo (by omega) (by omega)
  clear hd hn hY1 hY2 hg hg1 hg2
  generalize v % 65536 = y at *
  rcases hA with ⟨a1, a2⟩ | ⟨a1, a2⟩ <;> rcases hM with ⟨b1, b2⟩ | ⟨b1, b2⟩
  all_goals
    subst a2 b2
    go_enter Try.func18, Try.ntmps18
    go_wp2_with (first | (go_at_call 26; with_reducible refine (hwd _).mono ?_; rintro e w' ⟨rfl, rfl⟩; generalize (W0.alloc (.cells u.L.toArray 27)).alloc (.cells Z.L.toArray 27) = w1 at *) | (go_at_call 33; with_reducible refine (hpgc _).mono ?_; rintro e w' ⟨rfl, rfl⟩) | (refine wpList_load_run rfl 27 (.tmp 3) (.pointer (some ⟨W0.heap.size, 0, none⟩)) (.agg u2.L.toArray) rfl rfl hld ?_))
    exact bodyPost_ret (results_ct Try.results18 rfl hlv) rfl ⟨rfl, hX2.below⟩
end Go.Proofs.Ytggnbfilkogcoaa
