import Derived.Test.YthpnddgfgpacpaaGreatRD32
import Derived.Test.YthpnddgfgpacpaaGreatRD25
import Derived.Test.YthpnddgfgpacpaaGreatRD31
import Derived.Test.YthpnddgfgpacpaaGreatRD33
import Derived.Test.YthpnddgfgpacpaaGreatRD35
import Derived.Test.YthpnddgfgpacpaaGreatRD37
import Derived.Test.YthpnddgfgpacpaaGreatRD16
import Derived.Test.YthpnddgfgpacpaaGreatRD34
import Derived.Test.YthpnddgfgpacpaaGreatRD36
/-
  Read of package mmu. Condition: the unit is valid.
-/
namespace Go.Proofs.YthpnddgfgpacpaaGreat
open Go.RowKit
set_option linter.unusedSimpArgs false
set_option linter.unusedVariables false
set_option maxHeartbeats 4000000
set_option maxRecDepth 100000
attribute [local irreducible] wpQuiet

theorem ofp_of {n : Int} (h : isReg n = true) : ofP n = true := by have := isReg_all h; unfold ofP; rw [decide_eq_true this.1, decide_eq_true this.2.1]; rfl
theorem notreg {n : Int} (h : isReg n = false) : (ofP n && decide ((n - 16) % 4 = 0)) = false ∧ (ofP n && decide ((n - 16) % 4 = 2)) = false := by
  unfold isReg at h
  unfold ofP
  simp only [Bool.and_eq_false_iff, decide_eq_false_iff_not] at h ⊢
  constructor <;> omega

theorem rd_stat (u : Un) (hu : u.ok) (n : Int) (hn : n = 0) (h0 : 0 ≤ u.st) (h1 : u.st ≤ 3) (W0 : World) : Calls Tryz.prog 166 #[.agg u.L.toArray, .int .i64 n] W0 fun e w' => e = .returned (.tuple #[.int .i64 (statV u), .bool true]) ∧ Below W0.heap.size W0 w' := by
  have hX := One.put u W0
  have hB := hX.below
  have hs := fun w => status_any u hu h0 h1 w
  have hld := hX.b.loadAt (P := Tryz.prog) (T := 32) (Un.len hu) agg_unit size_unit
  subst hn
  go_enter Tryz.func166, Tryz.ntmps166
  go_wp2_with (first | (go_at_call 170; with_reducible refine (hs _).mono ?_; rintro e w' ⟨rfl, hb⟩; have hX := hX.step hb) | (refine wpList_load_run rfl 32 _ _ (.agg u.L.toArray) rfl rfl hld ?_))
  go_ret2
  exact ⟨rfl, hX.below⟩
theorem rd_addr (u : Un) (hu : u.ok) (n : Int) (hn : n = 2) (W0 : World) : Calls Tryz.prog 166 #[.agg u.L.toArray, .int .i64 n] W0 fun e w' => e = .returned (.tuple #[.int .i64 u.ad, .bool true]) ∧ Below W0.heap.size W0 w' := by
  have hX := One.put u W0
  have hB := hX.below
  have c66 := hX.b.cell (Un.at66 hu)
  subst hn
  go_enter Tryz.func166, Tryz.ntmps166
  go_wp2
  go_ret2
  exact ⟨rfl, hB⟩
theorem rd_none (u : Un) (hu : u.ok) (n : Int) (hn : isReg n = false) (hn0 : n ≠ 0) (hn2 : n ≠ 2) (W0 : World) : Calls Tryz.prog 166 #[.agg u.L.toArray, .int .i64 n] W0 fun e w' => e = .returned (.tuple #[.int .i64 0, .bool false]) ∧ Below W0.heap.size W0 w' := by
  have hX := One.put u W0
  have hB := hX.below
  have h1 := fun w => isbase_any n w
  have h2 := fun w => isdesc_any n w
  rw [(notreg hn).1] at h1
  rw [(notreg hn).2] at h2
  clear hn
  go_enter Tryz.func166, Tryz.ntmps166
  go_wp2_with (first | (go_at_call 171; with_reducible refine (h1 _).mono ?_; rintro e w' ⟨rfl, hw⟩; subst hw) | (go_at_call 173; with_reducible refine (h2 _).mono ?_; rintro e w' ⟨rfl, hw⟩; subst hw))
  go_ret2
  exact ⟨rfl, hB⟩
theorem rd_base (u : Un) (hu : u.ok) (n : Int) (hn : isReg n = true) (m p : Nat) (hm : m < 2) (hp : p < 8) (hnm : (n - 16) / 32 = (m : Int)) (hnp : (n - 16) % 32 / 4 = (p : Int)) (g : Pg) (hg : u.pg[8 * m + p]? = some g) (hd : ¬ (n - 16) % 4 = 2) (W0 : World) : Calls Tryz.prog 166 #[.agg u.L.toArray, .int .i64 n] W0 fun e w' => e = .returned (.tuple #[.int .i64 g.b, .bool true]) ∧ Below W0.heap.size W0 w' := by
  have hX := One.put u W0
  have hB := hX.below
  have hr := isReg_all hn
  have h1 := fun w => isbase_any n w
  rw [ofp_of hn, decide_eq_true (show (n - 16) % 4 = 0 by omega)] at h1
  have h3 := fun w => pageat_any W0.heap.size n hr.1 hr.2.1 m p hm hp (by omega) (by omega) w
  have hn0 : ¬ n = 0 := by omega
  have hn2 : ¬ n = 2 := by omega
  have ⟨k0, _, _, _⟩ := hX.page hg
  clear hd hn hnm hnp hr hX
  obtain ⟨gb, gl, ga, gr⟩ := g
  simp only at *
  go_enter Tryz.func166, Tryz.ntmps166
  go_wp2_with (first | (go_at_call 171; with_reducible refine (h1 _).mono ?_; rintro e w' ⟨rfl, hw⟩; subst hw) | (go_at_call 172; with_reducible refine (h3 _).mono ?_; rintro e w' ⟨rfl, hw⟩; subst hw))
  go_ret2
  exact ⟨rfl, hB⟩
theorem rd_desc (u : Un) (hu : u.ok) (n : Int) (hn : isReg n = true) (m p : Nat) (hm : m < 2) (hp : p < 8) (hnm : (n - 16) / 32 = (m : Int)) (hnp : (n - 16) % 32 / 4 = (p : Int)) (g : Pg) (hg : u.pg[8 * m + p]? = some g) (hd : (n - 16) % 4 = 2) (hgd : g.good = true) (W0 : World) : Calls Tryz.prog 166 #[.agg u.L.toArray, .int .i64 n] W0 fun e w' => e = .returned (.tuple #[.int .i64 (descV g), .bool true]) ∧ Below W0.heap.size W0 w' := by
  have hX := One.put u W0
  have hB := hX.below
  have hr := isReg_all hn
  have h1 := fun w => isbase_any n w
  have h2 := fun w => isdesc_any n w
  rw [ofp_of hn, decide_eq_false (show ¬ (n - 16) % 4 = 0 by omega)] at h1
  rw [ofp_of hn, decide_eq_true hd] at h2
  have h3 := fun w => pageat_any W0.heap.size n hr.1 hr.2.1 m p hm hp (by omega) (by omega) w
  have hn0 : ¬ n = 0 := by omega
  have hn2 : ¬ n = 2 := by omega
  obtain ⟨k0, k1, k2, k3⟩ := hX.page hg
  have hc := fun w => desc_any g hgd w
  generalize descV g = R at *
  clear hd hn hnm hnp hr hgd
  obtain ⟨gb, gl, ga, gr⟩ := g
  simp only at *
  have hc : ∀ w, Calls Tryz.prog 174 #[.agg #[.int .i64 gb, .int .i64 gl, .int .i64 ga, .bool gr]] w fun e w' => e = .returned (.int .i64 R) ∧ Below w.heap.size w w' := hc
  go_enter Tryz.func166, Tryz.ntmps166
  go_wp2_with (first | (go_at_call 171; with_reducible refine (h1 _).mono ?_; rintro e w' ⟨rfl, hw⟩; subst hw) | (go_at_call 173; with_reducible refine (h2 _).mono ?_; rintro e w' ⟨rfl, hw⟩; subst hw) | (go_at_call 172; with_reducible refine (h3 _).mono ?_; rintro e w' ⟨rfl, hw⟩; subst hw) | (go_at_call 174; with_reducible refine (hc _).mono ?_; rintro e w' ⟨rfl, hb⟩; have hX := hX.step hb))
  go_ret2
  exact ⟨rfl, hX.below⟩
theorem read_any_9 (u : Un) (hu : u.ok) (hr : u.right = true) (n : Int) (W0 : World) : Calls Tryz.prog 166 #[.agg u.L.toArray, .int .i64 n] W0 fun e w' => e = .returned (.tuple #[.int .i64 (u.read n).1, .bool (u.read n).2]) ∧ Below W0.heap.size W0 w' := by
  have ht := Un.right_tail hr
  by_cases h0 : n = 0
  · rw [show u.read n = _ from by unfold Un.read; rw [if_pos h0]]
    exact rd_stat u hu n h0 ht.1 ht.2.1 W0
  by_cases h2 : n = 2
  · rw [show u.read n = _ from by unfold Un.read; rw [if_neg h0, if_pos h2]]
    exact rd_addr u hu n h2 W0
  by_cases hn : isReg n = true
  · have hk := regK_lt hn
    have hg := Un.pgAt_some hu hk
    have hgd := Un.right_at hr hu hk
    have hi := isReg_all hn
    by_cases hd : (n - 16) % 4 = 2
    · rw [show u.read n = _ from by unfold Un.read; rw [if_neg h0, if_neg h2, if_pos hn, if_pos hd]]
      exact rd_desc u hu n hn ((n - 16) / 32).toNat ((n - 16) % 32 / 4).toNat (by omega) (by omega) (by omega) (by omega) _ hg hd hgd W0
    · rw [show u.read n = _ from by unfold Un.read; rw [if_neg h0, if_neg h2, if_pos hn, if_neg hd]]
      exact rd_base u hu n hn ((n - 16) / 32).toNat ((n - 16) % 32 / 4).toNat (by omega) (by omega) (by omega) (by omega) _ hg hd W0
  · rw [show u.read n = _ from by unfold Un.read; rw [if_neg h0, if_neg h2, if_neg hn]]
    exact rd_none u hu n (by simpa using hn) h0 h2 W0
end Go.Proofs.YthpnddgfgpacpaaGreat
/-
  The devices are read. Condition: a valid machine.
-/
namespace Go.Proofs.YthpnddgfgpacpaaGreat
open Go.RowKit
set_option linter.unusedSimpArgs false
set_option linter.unusedVariables false
set_option maxHeartbeats 4000000
set_option maxRecDepth 100000
attribute [local irreducible] wpQuiet

abbrev MdRead (A : Ma) (B : Nat) (w : World) (f : Nat) (r : Value) (q v : Int) (ok : Bool) : Prop := Calls Tryz.prog f #[r, .pointer (some ⟨B, 0, none⟩), .int .i64 q] w fun e' w' => e' = .returned (.tuple #[.int .i64 v, .bool ok]) ∧ Below w.heap.size w w'
theorem md_read_0 (A : Ma) (hA : A.ok) (hR : A.right = true) (q : Int) (vm vb vl vs vd vt : Value) (w0 w : World) (B : Nat) (hX : Bag [(B, 44, A.cells vm vb vl vs vd vt)] w0 w) (hN : MaNow w A vm vb vl vs vd vt) : MdRead A B w 160 (.agg #[]) q (A.U.read q).1 (A.U.read q).2 := by
  obtain ⟨_, _, _, hU, _, hKr, hTr⟩ := Ma.parts hR
  have hB := (Below.refl w.heap.size w).alloc (Nat.le_refl _) (.cells #[] 133)
  replace hX := hX.step hB
  have hL := Ma.len hA vs vd vt
  have hc : ∀ wz, Calls Tryz.prog 166 #[.agg A.U.L.toArray, .int .i64 q] wz fun e' w' => e' = .returned (.tuple #[.int .i64 (A.U.read q).1, .bool (A.U.read q).2]) ∧ Below wz.heap.size wz w' := fun wz => read_any_9 A.U hA.2.2 hU q wz
  clear hN hR hKr hTr hU
  go_enter Tryz.func160, Tryz.ntmps160
  go_wp2_with (first | ((with_reducible refine at_ld 32 ?_); refine ldp hX agg_unit size_unit (get_u hL) (Un.len hA.2.2) ?_) | (go_at_call 166; (with_reducible refine (hc _).mono ?_); rintro e' wc ⟨rfl, hbb⟩; replace hX := hX.step hbb; replace hB := hB.trans (hbb.mono hB.size); clear hbb))
  go_ret2
  exact ⟨rfl, hB⟩
theorem md_read_2 (A : Ma) (hA : A.ok) (hR : A.right = true) (q : Int) (vm vb vl vs vd vt : Value) (w0 w : World) (B : Nat) (hX : Bag [(B, 44, A.cells vm vb vl vs vd vt)] w0 w) (hN : MaNow w A vm vb vl vs vd vt) : MdRead A B w 195 (.agg #[]) q (A.K.rd q).1 (A.K.rd q).2 := by
  obtain ⟨_, _, _, hU, _, hKr, hTr⟩ := Ma.parts hR
  have hB := (Below.refl w.heap.size w).alloc (Nat.le_refl _) (.cells #[] 135)
  replace hX := hX.step hB
  have hc : 0 ≤ A.K.c ∧ A.K.c ≤ 3 := by have h := hKr; unfold Dk.right at h; rw [Bool.and_eq_true, Dk.ok_iff] at h; exact h.1.1
  have o4 := rz_one hN.s
  have o5 := rz_one hN.d
  have hL := Ma.len hA vs vd vt
  have hc : ∀ wz, Calls Tryz.prog 202 #[.agg (dkL vs vd A.K).toArray, .int .i64 q] wz fun e' w' => e' = .returned (.tuple #[.int .i64 (A.K.rd q).1, .bool (A.K.rd q).2]) ∧ Below wz.heap.size wz w' := fun wz => preadK_any A.K q hc.1 hc.2 vs vd o4 o5 wz
  clear hN hR hKr hTr hU
  go_enter Tryz.func195, Tryz.ntmps195
  go_wp2_with (first | ((with_reducible refine at_ld 40 ?_); refine ldp hX aggK sizK (get_d hL) rfl ?_) | (go_at_call 202; (with_reducible refine (hc _).mono ?_); rintro e' wc ⟨rfl, hbb⟩; replace hX := hX.step hbb; replace hB := hB.trans (hbb.mono hB.size); clear hbb))
  go_ret2
  exact ⟨rfl, hB⟩
theorem md_read_3 (A : Ma) (hA : A.ok) (hR : A.right = true) (q : Int) (vm vb vl vs vd vt : Value) (w0 w : World) (B : Nat) (hX : Bag [(B, 44, A.cells vm vb vl vs vd vt)] w0 w) (hN : MaNow w A vm vb vl vs vd vt) : MdRead A B w 233 (.agg #[]) q (A.T.rd q).1 (A.T.rd q).2 := by
  obtain ⟨_, _, _, hU, _, hKr, hTr⟩ := Ma.parts hR
  have hB := (Below.refl w.heap.size w).alloc (Nat.le_refl _) (.cells #[] 136)
  replace hX := hX.step hB
  have hc : 0 ≤ A.T.c ∧ A.T.c ≤ 6 := ((Tp.right_iff A.T).1 hTr).1.2.2.1
  obtain ⟨A1, c1, ev, _⟩ := hN.t.form
  have hL := Ma.len hA vs vd vt
  have hc : ∀ wz, Calls Tryz.prog 240 #[.agg (tpL vt A.T).toArray, .int .i64 q] wz fun e' w' => e' = .returned (.tuple #[.int .i64 (A.T.rd q).1, .bool (A.T.rd q).2]) ∧ Below wz.heap.size wz w' := by rw [ev]; exact fun wz => preadT_any A.T q hc.1 hc.2 A1 _ c1 wz
  clear hN hR hKr hTr hU ev
  go_enter Tryz.func233, Tryz.ntmps233
  go_wp2_with (first | ((with_reducible refine at_ld 42 ?_); refine ldp hX aggT sizT (get_t hL) rfl ?_) | (go_at_call 240; (with_reducible refine (hc _).mono ?_); rintro e' wc ⟨rfl, hbb⟩; replace hX := hX.step hbb; replace hB := hB.trans (hbb.mono hB.size); clear hbb))
  go_ret2
  exact ⟨rfl, hB⟩
theorem md_read_1 (A : Ma) (hA : A.ok) (q : Int) (vm vb vl vs vd vt : Value) (w0 w : World) (B : Nat) (hX : Bag [(B, 44, A.cells vm vb vl vs vd vt)] w0 w) : MdRead A B w 180 (.agg #[]) q (if q = 0 then A.k.read else 0) (decide (q = 0)) := by
  have hB := (Below.refl w.heap.size w).alloc (Nat.le_refl _) (.cells #[] 134)
  replace hX := hX.step hB
  have hL := Ma.len hA vs vd vt
  have hc : ∀ wz, Calls Tryz.prog 187 #[.agg A.k.L.toArray] wz fun e' w' => e' = .returned (.int .i64 A.k.read) ∧ Below wz.heap.size wz w' := fun wz => pread_any_13 A.k wz
  by_cases q0 : q = 0
  · subst q0
    go_enter Tryz.func180, Tryz.ntmps180
    go_wp2_with (first | ((with_reducible refine at_ld 34 ?_); refine ldp hX aggK_13 sizK_13 (get_k hL) rfl ?_) | (go_at_call 187; (with_reducible refine (hc _).mono ?_); rintro e' wc ⟨rfl, hbb⟩; replace hX := hX.step hbb; replace hB := hB.trans (hbb.mono hB.size); clear hbb))
    go_ret2
    exact ⟨rfl, hB⟩
  · have e0 : (q != 0) = true := by simpa using q0
    rw [if_neg q0, decide_eq_false q0]
    go_enter Tryz.func180, Tryz.ntmps180
    go_wp2
    go_ret2
    exact ⟨rfl, hB⟩
theorem md_lineReg (q : Int) (w : World) : Calls Tryz.prog 273 #[.int .i64 q] w fun e' w' => e' = .returned (.bool (decide (0 ≤ q) && decide (q < 8))) ∧ w = w' := by
  by_cases h : 0 ≤ q
  · have d1 : decide (0 ≤ q) = true := decide_eq_true h
    go_enter Tryz.func273, Tryz.ntmps273
    go_wp2
    go_ret
    exact ⟨by simp [d1], rfl⟩
  · have d1 : decide (0 ≤ q) = false := decide_eq_false h
    go_enter Tryz.func273, Tryz.ntmps273
    go_wp2
    go_ret
    exact ⟨by simp [d1], rfl⟩
end Go.Proofs.YthpnddgfgpacpaaGreat
