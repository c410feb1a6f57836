/-
  Valid of the reference is Valid of the rows; the reference's first word is the rows'. No condition.
-/
import Derived.Test.YtdbbnkjnmldnpaaGreatDoorInRa
namespace Go.Proofs.YtdbbnkjnmldnpaaGreatDoor
open Go.RowKit
set_option linter.unusedVariables false
set_option linter.unusedSimpArgs false
set_option maxRecDepth 10000
set_option maxHeartbeats 40000000

theorem tm2 {g : Int} (h : 0 ≤ g) : g.tmod 2 = g % 2 := Int.tmod_eq_emod_of_nonneg h
theorem rv0 (o : Int) (b : Bool) (m r x p q y g n : Int) (h : 1 ≤ o ∧ o ≤ 5) : rvR ⟨o, b, m, r, x, p, q, y, g, n⟩ = vR ⟨o, b, m, r, x, p, q, y, g, n⟩ := by
  rw [vR_some (i := ⟨o, b, m, r, x, p, q, y, g, n⟩) (form0 (o := o) h)]
  have a_hbyR : hbyR o = true := by
    rw [hby_iff]; omega
  have a_hsR : hsR o = true := by
    rw [hs_iff]; omega
  have a_hdR : hdR o = true := by
    rw [hd_iff]; omega
  have a_hrgR : hrgR o = false := by
    rw [Bool.eq_false_iff]; intro k; rw [hrg_iff] at k; omega
  have a_isB : isB o = false := by
    rw [Bool.eq_false_iff]; intro k; rw [isB_iff] at k; omega
  have a_lo : loR o = 0 := by unfold loR; rw [a_isB]; rfl
  have a_hi : hiR o = 0 := by unfold hiR; rw [a_isB]; simp; try omega
  have o1 : decide (o < 1) = false := decide_eq_false (by omega)
  have o2 : decide (56 < o) = false := decide_eq_false (by omega)
  have o9 : decide (o = 9) = false := decide_eq_false (by omega)
  have o41 : decide (o = 41) = false := decide_eq_false (by omega)
  have o42 : decide (o = 42) = false := decide_eq_false (by omega)
  unfold rvR bad1 bad2 bad3 bad4 bad5 good6 hoR hoO fbR
  simp only [a_hbyR, a_hsR, a_hdR, a_hrgR, a_lo, a_hi, o1, o2, o9, o41, o42]
  have t3 : takeR 0 0 = 0 := by decide
  rw [t3]
  unfold zz
  generalize vdR m r x = V1
  generalize vdR p q y = V2
  generalize decide (m = 0 ∧ r = 0 ∧ x = 0) = Z1
  generalize decide (p = 0 ∧ q = 0 ∧ y = 0) = Z2
  cases b <;> cases V1 <;> cases V2 <;> rw [Bool.eq_iff_iff] <;> simp [show ¬ o = 9 by omega, show ¬ o = 41 by omega, show ¬ o = 42 by omega] <;> omega

theorem rv1 (o : Int) (b : Bool) (m r x p q y g n : Int) (h : 6 ≤ o ∧ o ≤ 7) : rvR ⟨o, b, m, r, x, p, q, y, g, n⟩ = vR ⟨o, b, m, r, x, p, q, y, g, n⟩ := by
  rw [vR_some (i := ⟨o, b, m, r, x, p, q, y, g, n⟩) (form1 (o := o) h)]
  have a_hbyR : hbyR o = false := by
    rw [Bool.eq_false_iff]; intro k; rw [hby_iff] at k; omega
  have a_hsR : hsR o = true := by
    rw [hs_iff]; omega
  have a_hdR : hdR o = true := by
    rw [hd_iff]; omega
  have a_hrgR : hrgR o = false := by
    rw [Bool.eq_false_iff]; intro k; rw [hrg_iff] at k; omega
  have a_isB : isB o = false := by
    rw [Bool.eq_false_iff]; intro k; rw [isB_iff] at k; omega
  have a_lo : loR o = 0 := by unfold loR; rw [a_isB]; rfl
  have a_hi : hiR o = 0 := by unfold hiR; rw [a_isB]; simp; try omega
  have o1 : decide (o < 1) = false := decide_eq_false (by omega)
  have o2 : decide (56 < o) = false := decide_eq_false (by omega)
  have o9 : decide (o = 9) = false := decide_eq_false (by omega)
  have o41 : decide (o = 41) = false := decide_eq_false (by omega)
  have o42 : decide (o = 42) = false := decide_eq_false (by omega)
  unfold rvR bad1 bad2 bad3 bad4 bad5 good6 hoR hoO fbR
  simp only [a_hbyR, a_hsR, a_hdR, a_hrgR, a_lo, a_hi, o1, o2, o9, o41, o42]
  have t3 : takeR 0 0 = 0 := by decide
  rw [t3]
  unfold zz
  generalize vdR m r x = V1
  generalize vdR p q y = V2
  generalize decide (m = 0 ∧ r = 0 ∧ x = 0) = Z1
  generalize decide (p = 0 ∧ q = 0 ∧ y = 0) = Z2
  cases b <;> cases V1 <;> cases V2 <;> rw [Bool.eq_iff_iff] <;> simp [show ¬ o = 9 by omega, show ¬ o = 41 by omega, show ¬ o = 42 by omega] <;> omega

theorem rv2_8 (b : Bool) (m r x p q y g n : Int) : rvR ⟨8, b, m, r, x, p, q, y, g, n⟩ = vR ⟨8, b, m, r, x, p, q, y, g, n⟩ := by
  rw [vR_some (i := ⟨8, b, m, r, x, p, q, y, g, n⟩) (form2 (o := 8) (by decide))]
  have a_hbyR : hbyR 8 = false := by
    rw [Bool.eq_false_iff]; intro k; rw [hby_iff] at k; omega
  have a_hsR : hsR 8 = true := by
    rw [hs_iff]; omega
  have a_hdR : hdR 8 = false := by
    rw [Bool.eq_false_iff]; intro k; rw [hd_iff] at k; omega
  have a_hrgR : hrgR 8 = true := by
    rw [hrg_iff]; omega
  have a_isB : isB 8 = false := by
    rw [Bool.eq_false_iff]; intro k; rw [isB_iff] at k; omega
  have a_lo : loR 8 = 0 := by unfold loR; rw [a_isB]; rfl
  have a_hi : hiR 8 = 0 := by unfold hiR; rw [a_isB]; simp
  have o1 : decide (8 < 1) = false := decide_eq_false (by omega)
  have o2 : decide (56 < 8) = false := decide_eq_false (by omega)
  have o9 : decide (8 = 9) = false := decide_eq_false (by omega)
  have o41 : decide (8 = 41) = false := decide_eq_false (by omega)
  have o42 : decide (8 = 42) = false := decide_eq_false (by omega)
  unfold rvR bad1 bad2 bad3 bad4 bad5 good6 hoR hoO fbR
  simp only [a_hbyR, a_hsR, a_hdR, a_hrgR, a_lo, a_hi, o1, o2, o9, o41, o42]
  have t3 : takeR 448 448 = 7 := by decide
  rw [t3]
  unfold zz
  generalize vdR m r x = V1
  generalize vdR p q y = V2
  generalize decide (m = 0 ∧ r = 0 ∧ x = 0) = Z1
  generalize decide (p = 0 ∧ q = 0 ∧ y = 0) = Z2
  cases b <;> cases V1 <;> cases Z2 <;> rw [Bool.eq_iff_iff] <;> simp <;> omega

theorem rv2_9 (b : Bool) (m r x p q y g n : Int) : rvR ⟨9, b, m, r, x, p, q, y, g, n⟩ = vR ⟨9, b, m, r, x, p, q, y, g, n⟩ := by
  rw [vR_some (i := ⟨9, b, m, r, x, p, q, y, g, n⟩) (form2 (o := 9) (by decide))]
  have a_hbyR : hbyR 9 = false := by
    rw [Bool.eq_false_iff]; intro k; rw [hby_iff] at k; omega
  have a_hsR : hsR 9 = true := by
    rw [hs_iff]; omega
  have a_hdR : hdR 9 = false := by
    rw [Bool.eq_false_iff]; intro k; rw [hd_iff] at k; omega
  have a_hrgR : hrgR 9 = true := by
    rw [hrg_iff]; omega
  have a_isB : isB 9 = false := by
    rw [Bool.eq_false_iff]; intro k; rw [isB_iff] at k; omega
  have a_lo : loR 9 = 0 := by unfold loR; rw [a_isB]; rfl
  have a_hi : hiR 9 = 0 := by unfold hiR; rw [a_isB]; simp
  have o1 : decide (9 < 1) = false := decide_eq_false (by omega)
  have o2 : decide (56 < 9) = false := decide_eq_false (by omega)
  have o9 : decide (9 = 9) = true := decide_eq_true (by omega)
  have o41 : decide (9 = 41) = false := decide_eq_false (by omega)
  have o42 : decide (9 = 42) = false := decide_eq_false (by omega)
  unfold rvR bad1 bad2 bad3 bad4 bad5 good6 hoR hoO fbR
  simp only [a_hbyR, a_hsR, a_hdR, a_hrgR, a_lo, a_hi, o1, o2, o9, o41, o42]
  have t3 : takeR 448 448 = 7 := by decide
  rw [t3]
  unfold zz
  generalize vdR m r x = V1
  generalize vdR p q y = V2
  generalize decide (m = 0 ∧ r = 0 ∧ x = 0) = Z1
  generalize decide (p = 0 ∧ q = 0 ∧ y = 0) = Z2
  by_cases hg : 0 ≤ g
  · rw [tm2 hg]
    cases b <;> cases V1 <;> cases Z2 <;> rw [Bool.eq_iff_iff] <;> simp <;> omega
  · have g1 : decide (g < 0) = true := decide_eq_true (by omega)
    have g2 : decide (0 ≤ g) = false := decide_eq_false hg
    rw [g1, g2]
    simp

theorem rv2_10 (b : Bool) (m r x p q y g n : Int) : rvR ⟨10, b, m, r, x, p, q, y, g, n⟩ = vR ⟨10, b, m, r, x, p, q, y, g, n⟩ := by
  rw [vR_some (i := ⟨10, b, m, r, x, p, q, y, g, n⟩) (form2 (o := 10) (by decide))]
  have a_hbyR : hbyR 10 = false := by
    rw [Bool.eq_false_iff]; intro k; rw [hby_iff] at k; omega
  have a_hsR : hsR 10 = true := by
    rw [hs_iff]; omega
  have a_hdR : hdR 10 = false := by
    rw [Bool.eq_false_iff]; intro k; rw [hd_iff] at k; omega
  have a_hrgR : hrgR 10 = true := by
    rw [hrg_iff]; omega
  have a_isB : isB 10 = false := by
    rw [Bool.eq_false_iff]; intro k; rw [isB_iff] at k; omega
  have a_lo : loR 10 = 0 := by unfold loR; rw [a_isB]; rfl
  have a_hi : hiR 10 = 0 := by unfold hiR; rw [a_isB]; simp
  have o1 : decide (10 < 1) = false := decide_eq_false (by omega)
  have o2 : decide (56 < 10) = false := decide_eq_false (by omega)
  have o9 : decide (10 = 9) = false := decide_eq_false (by omega)
  have o41 : decide (10 = 41) = false := decide_eq_false (by omega)
  have o42 : decide (10 = 42) = false := decide_eq_false (by omega)
  unfold rvR bad1 bad2 bad3 bad4 bad5 good6 hoR hoO fbR
  simp only [a_hbyR, a_hsR, a_hdR, a_hrgR, a_lo, a_hi, o1, o2, o9, o41, o42]
  have t3 : takeR 448 448 = 7 := by decide
  rw [t3]
  unfold zz
  generalize vdR m r x = V1
  generalize vdR p q y = V2
  generalize decide (m = 0 ∧ r = 0 ∧ x = 0) = Z1
  generalize decide (p = 0 ∧ q = 0 ∧ y = 0) = Z2
  cases b <;> cases V1 <;> cases Z2 <;> rw [Bool.eq_iff_iff] <;> simp <;> omega

theorem rv2 (o : Int) (b : Bool) (m r x p q y g n : Int) (h : 8 ≤ o ∧ o ≤ 10) : rvR ⟨o, b, m, r, x, p, q, y, g, n⟩ = vR ⟨o, b, m, r, x, p, q, y, g, n⟩ := by
  rcases (show o = 8 ∨ o = 9 ∨ o = 10 by omega) with rfl | rfl | rfl
  · exact rv2_8 b m r x p q y g n
  · exact rv2_9 b m r x p q y g n
  · exact rv2_10 b m r x p q y g n

theorem rv3 (b : Bool) (m r x p q y g n : Int) : rvR ⟨11, b, m, r, x, p, q, y, g, n⟩ = vR ⟨11, b, m, r, x, p, q, y, g, n⟩ := by
  rw [vR_some (i := ⟨11, b, m, r, x, p, q, y, g, n⟩) (form3 (o := 11) (by decide))]
  have a_hbyR : hbyR 11 = false := by
    rw [Bool.eq_false_iff]; intro k; rw [hby_iff] at k; omega
  have a_hsR : hsR 11 = false := by
    rw [Bool.eq_false_iff]; intro k; rw [hs_iff] at k; omega
  have a_hdR : hdR 11 = true := by
    rw [hd_iff]; omega
  have a_hrgR : hrgR 11 = true := by
    rw [hrg_iff]; omega
  have a_isB : isB 11 = false := by
    rw [Bool.eq_false_iff]; intro k; rw [isB_iff] at k; omega
  have a_lo : loR 11 = 0 := by unfold loR; rw [a_isB]; rfl
  have a_hi : hiR 11 = 0 := by unfold hiR; rw [a_isB]; simp
  have o1 : decide (11 < 1) = false := decide_eq_false (by omega)
  have o2 : decide (56 < 11) = false := decide_eq_false (by omega)
  have o9 : decide (11 = 9) = false := decide_eq_false (by omega)
  have o41 : decide (11 = 41) = false := decide_eq_false (by omega)
  have o42 : decide (11 = 42) = false := decide_eq_false (by omega)
  unfold rvR bad1 bad2 bad3 bad4 bad5 good6 hoR hoO fbR
  simp only [a_hbyR, a_hsR, a_hdR, a_hrgR, a_lo, a_hi, o1, o2, o9, o41, o42]
  have t3 : takeR 448 448 = 7 := by decide
  rw [t3]
  unfold zz
  generalize vdR m r x = V1
  generalize vdR p q y = V2
  generalize decide (m = 0 ∧ r = 0 ∧ x = 0) = Z1
  generalize decide (p = 0 ∧ q = 0 ∧ y = 0) = Z2
  cases b <;> cases Z1 <;> cases V2 <;> rw [Bool.eq_iff_iff] <;> simp <;> omega

theorem rv4 (o : Int) (b : Bool) (m r x p q y g n : Int) (h : 12 ≤ o ∧ o ≤ 19) : rvR ⟨o, b, m, r, x, p, q, y, g, n⟩ = vR ⟨o, b, m, r, x, p, q, y, g, n⟩ := by
  rw [vR_some (i := ⟨o, b, m, r, x, p, q, y, g, n⟩) (form4 (o := o) h)]
  have a_hbyR : hbyR o = true := by
    rw [hby_iff]; omega
  have a_hsR : hsR o = false := by
    rw [Bool.eq_false_iff]; intro k; rw [hs_iff] at k; omega
  have a_hdR : hdR o = true := by
    rw [hd_iff]; omega
  have a_hrgR : hrgR o = false := by
    rw [Bool.eq_false_iff]; intro k; rw [hrg_iff] at k; omega
  have a_isB : isB o = false := by
    rw [Bool.eq_false_iff]; intro k; rw [isB_iff] at k; omega
  have a_lo : loR o = 0 := by unfold loR; rw [a_isB]; rfl
  have a_hi : hiR o = 0 := by unfold hiR; rw [a_isB]; simp; try omega
  have o1 : decide (o < 1) = false := decide_eq_false (by omega)
  have o2 : decide (56 < o) = false := decide_eq_false (by omega)
  have o9 : decide (o = 9) = false := decide_eq_false (by omega)
  have o41 : decide (o = 41) = false := decide_eq_false (by omega)
  have o42 : decide (o = 42) = false := decide_eq_false (by omega)
  unfold rvR bad1 bad2 bad3 bad4 bad5 good6 hoR hoO fbR
  simp only [a_hbyR, a_hsR, a_hdR, a_hrgR, a_lo, a_hi, o1, o2, o9, o41, o42]
  have t3 : takeR 0 0 = 0 := by decide
  rw [t3]
  unfold zz
  generalize vdR m r x = V1
  generalize vdR p q y = V2
  generalize decide (m = 0 ∧ r = 0 ∧ x = 0) = Z1
  generalize decide (p = 0 ∧ q = 0 ∧ y = 0) = Z2
  cases b <;> cases Z1 <;> cases V2 <;> rw [Bool.eq_iff_iff] <;> simp [show ¬ o = 9 by omega, show ¬ o = 41 by omega, show ¬ o = 42 by omega] <;> omega

theorem rv5 (o : Int) (b : Bool) (m r x p q y g n : Int) (h : 20 ≤ o ∧ o ≤ 23) : rvR ⟨o, b, m, r, x, p, q, y, g, n⟩ = vR ⟨o, b, m, r, x, p, q, y, g, n⟩ := by
  rw [vR_some (i := ⟨o, b, m, r, x, p, q, y, g, n⟩) (form5 (o := o) h)]
  have a_hbyR : hbyR o = true := by
    rw [hby_iff]; omega
  have a_hsR : hsR o = false := by
    rw [Bool.eq_false_iff]; intro k; rw [hs_iff] at k; omega
  have a_hdR : hdR o = true := by
    rw [hd_iff]; omega
  have a_hrgR : hrgR o = false := by
    rw [Bool.eq_false_iff]; intro k; rw [hrg_iff] at k; omega
  have a_isB : isB o = false := by
    rw [Bool.eq_false_iff]; intro k; rw [isB_iff] at k; omega
  have a_lo : loR o = 0 := by unfold loR; rw [a_isB]; rfl
  have a_hi : hiR o = 0 := by unfold hiR; rw [a_isB]; simp; try omega
  have o1 : decide (o < 1) = false := decide_eq_false (by omega)
  have o2 : decide (56 < o) = false := decide_eq_false (by omega)
  have o9 : decide (o = 9) = false := decide_eq_false (by omega)
  have o41 : decide (o = 41) = false := decide_eq_false (by omega)
  have o42 : decide (o = 42) = false := decide_eq_false (by omega)
  unfold rvR bad1 bad2 bad3 bad4 bad5 good6 hoR hoO fbR
  simp only [a_hbyR, a_hsR, a_hdR, a_hrgR, a_lo, a_hi, o1, o2, o9, o41, o42]
  have t3 : takeR 0 0 = 0 := by decide
  rw [t3]
  unfold zz
  generalize vdR m r x = V1
  generalize vdR p q y = V2
  generalize decide (m = 0 ∧ r = 0 ∧ x = 0) = Z1
  generalize decide (p = 0 ∧ q = 0 ∧ y = 0) = Z2
  cases b <;> cases Z1 <;> cases V2 <;> rw [Bool.eq_iff_iff] <;> simp [show ¬ o = 9 by omega, show ¬ o = 41 by omega, show ¬ o = 42 by omega] <;> omega

theorem rv6 (b : Bool) (m r x p q y g n : Int) : rvR ⟨24, b, m, r, x, p, q, y, g, n⟩ = vR ⟨24, b, m, r, x, p, q, y, g, n⟩ := by
  rw [vR_some (i := ⟨24, b, m, r, x, p, q, y, g, n⟩) (form6 (o := 24) (by decide))]
  have a_hbyR : hbyR 24 = false := by
    rw [Bool.eq_false_iff]; intro k; rw [hby_iff] at k; omega
  have a_hsR : hsR 24 = false := by
    rw [Bool.eq_false_iff]; intro k; rw [hs_iff] at k; omega
  have a_hdR : hdR 24 = true := by
    rw [hd_iff]; omega
  have a_hrgR : hrgR 24 = false := by
    rw [Bool.eq_false_iff]; intro k; rw [hrg_iff] at k; omega
  have a_isB : isB 24 = false := by
    rw [Bool.eq_false_iff]; intro k; rw [isB_iff] at k; omega
  have a_lo : loR 24 = 0 := by unfold loR; rw [a_isB]; rfl
  have a_hi : hiR 24 = 0 := by unfold hiR; rw [a_isB]; simp
  have o1 : decide (24 < 1) = false := decide_eq_false (by omega)
  have o2 : decide (56 < 24) = false := decide_eq_false (by omega)
  have o9 : decide (24 = 9) = false := decide_eq_false (by omega)
  have o41 : decide (24 = 41) = false := decide_eq_false (by omega)
  have o42 : decide (24 = 42) = false := decide_eq_false (by omega)
  unfold rvR bad1 bad2 bad3 bad4 bad5 good6 hoR hoO fbR
  simp only [a_hbyR, a_hsR, a_hdR, a_hrgR, a_lo, a_hi, o1, o2, o9, o41, o42]
  have t3 : takeR 0 0 = 0 := by decide
  rw [t3]
  unfold zz
  generalize vdR m r x = V1
  generalize vdR p q y = V2
  generalize decide (m = 0 ∧ r = 0 ∧ x = 0) = Z1
  generalize decide (p = 0 ∧ q = 0 ∧ y = 0) = Z2
  cases b <;> cases Z1 <;> cases V2 <;> rw [Bool.eq_iff_iff] <;> simp <;> omega

theorem rv7 (b : Bool) (m r x p q y g n : Int) : rvR ⟨25, b, m, r, x, p, q, y, g, n⟩ = vR ⟨25, b, m, r, x, p, q, y, g, n⟩ := by
  rw [vR_some (i := ⟨25, b, m, r, x, p, q, y, g, n⟩) (form7 (o := 25) (by decide))]
  have a_hbyR : hbyR 25 = false := by
    rw [Bool.eq_false_iff]; intro k; rw [hby_iff] at k; omega
  have a_hsR : hsR 25 = false := by
    rw [Bool.eq_false_iff]; intro k; rw [hs_iff] at k; omega
  have a_hdR : hdR 25 = true := by
    rw [hd_iff]; omega
  have a_hrgR : hrgR 25 = false := by
    rw [Bool.eq_false_iff]; intro k; rw [hrg_iff] at k; omega
  have a_isB : isB 25 = false := by
    rw [Bool.eq_false_iff]; intro k; rw [isB_iff] at k; omega
  have a_lo : loR 25 = 0 := by unfold loR; rw [a_isB]; rfl
  have a_hi : hiR 25 = 0 := by unfold hiR; rw [a_isB]; simp
  have o1 : decide (25 < 1) = false := decide_eq_false (by omega)
  have o2 : decide (56 < 25) = false := decide_eq_false (by omega)
  have o9 : decide (25 = 9) = false := decide_eq_false (by omega)
  have o41 : decide (25 = 41) = false := decide_eq_false (by omega)
  have o42 : decide (25 = 42) = false := decide_eq_false (by omega)
  unfold rvR bad1 bad2 bad3 bad4 bad5 good6 hoR hoO fbR
  simp only [a_hbyR, a_hsR, a_hdR, a_hrgR, a_lo, a_hi, o1, o2, o9, o41, o42]
  have t3 : takeR 0 0 = 0 := by decide
  rw [t3]
  unfold zz
  generalize vdR m r x = V1
  generalize vdR p q y = V2
  generalize decide (m = 0 ∧ r = 0 ∧ x = 0) = Z1
  generalize decide (p = 0 ∧ q = 0 ∧ y = 0) = Z2
  cases b <;> cases Z1 <;> cases V2 <;> rw [Bool.eq_iff_iff] <;> simp <;> omega

theorem rv8 (b : Bool) (m r x p q y g n : Int) : rvR ⟨55, b, m, r, x, p, q, y, g, n⟩ = vR ⟨55, b, m, r, x, p, q, y, g, n⟩ := by
  rw [vR_some (i := ⟨55, b, m, r, x, p, q, y, g, n⟩) (form8 (o := 55) (by decide))]
  have a_hbyR : hbyR 55 = false := by
    rw [Bool.eq_false_iff]; intro k; rw [hby_iff] at k; omega
  have a_hsR : hsR 55 = true := by
    rw [hs_iff]; omega
  have a_hdR : hdR 55 = false := by
    rw [Bool.eq_false_iff]; intro k; rw [hd_iff] at k; omega
  have a_hrgR : hrgR 55 = false := by
    rw [Bool.eq_false_iff]; intro k; rw [hrg_iff] at k; omega
  have a_isB : isB 55 = false := by
    rw [Bool.eq_false_iff]; intro k; rw [isB_iff] at k; omega
  have a_lo : loR 55 = 0 := by unfold loR; rw [a_isB]; rfl
  have a_hi : hiR 55 = 0 := by unfold hiR; rw [a_isB]; simp
  have o1 : decide (55 < 1) = false := decide_eq_false (by omega)
  have o2 : decide (56 < 55) = false := decide_eq_false (by omega)
  have o9 : decide (55 = 9) = false := decide_eq_false (by omega)
  have o41 : decide (55 = 41) = false := decide_eq_false (by omega)
  have o42 : decide (55 = 42) = false := decide_eq_false (by omega)
  unfold rvR bad1 bad2 bad3 bad4 bad5 good6 hoR hoO fbR
  simp only [a_hbyR, a_hsR, a_hdR, a_hrgR, a_lo, a_hi, o1, o2, o9, o41, o42]
  have t3 : takeR 0 0 = 0 := by decide
  rw [t3]
  unfold zz
  generalize vdR m r x = V1
  generalize vdR p q y = V2
  generalize decide (m = 0 ∧ r = 0 ∧ x = 0) = Z1
  generalize decide (p = 0 ∧ q = 0 ∧ y = 0) = Z2
  cases b <;> cases V1 <;> cases Z2 <;> rw [Bool.eq_iff_iff] <;> simp <;> omega

theorem rv9 (b : Bool) (m r x p q y g n : Int) : rvR ⟨56, b, m, r, x, p, q, y, g, n⟩ = vR ⟨56, b, m, r, x, p, q, y, g, n⟩ := by
  rw [vR_some (i := ⟨56, b, m, r, x, p, q, y, g, n⟩) (form9 (o := 56) (by decide))]
  have a_hbyR : hbyR 56 = false := by
    rw [Bool.eq_false_iff]; intro k; rw [hby_iff] at k; omega
  have a_hsR : hsR 56 = false := by
    rw [Bool.eq_false_iff]; intro k; rw [hs_iff] at k; omega
  have a_hdR : hdR 56 = true := by
    rw [hd_iff]; omega
  have a_hrgR : hrgR 56 = false := by
    rw [Bool.eq_false_iff]; intro k; rw [hrg_iff] at k; omega
  have a_isB : isB 56 = false := by
    rw [Bool.eq_false_iff]; intro k; rw [isB_iff] at k; omega
  have a_lo : loR 56 = 0 := by unfold loR; rw [a_isB]; rfl
  have a_hi : hiR 56 = 0 := by unfold hiR; rw [a_isB]; simp
  have o1 : decide (56 < 1) = false := decide_eq_false (by omega)
  have o2 : decide (56 < 56) = false := decide_eq_false (by omega)
  have o9 : decide (56 = 9) = false := decide_eq_false (by omega)
  have o41 : decide (56 = 41) = false := decide_eq_false (by omega)
  have o42 : decide (56 = 42) = false := decide_eq_false (by omega)
  unfold rvR bad1 bad2 bad3 bad4 bad5 good6 hoR hoO fbR
  simp only [a_hbyR, a_hsR, a_hdR, a_hrgR, a_lo, a_hi, o1, o2, o9, o41, o42]
  have t3 : takeR 0 0 = 0 := by decide
  rw [t3]
  unfold zz
  generalize vdR m r x = V1
  generalize vdR p q y = V2
  generalize decide (m = 0 ∧ r = 0 ∧ x = 0) = Z1
  generalize decide (p = 0 ∧ q = 0 ∧ y = 0) = Z2
  cases b <;> cases Z1 <;> cases V2 <;> rw [Bool.eq_iff_iff] <;> simp <;> omega

theorem rv10 (b : Bool) (m r x p q y g n : Int) : rvR ⟨41, b, m, r, x, p, q, y, g, n⟩ = vR ⟨41, b, m, r, x, p, q, y, g, n⟩ := by
  rw [vR_some (i := ⟨41, b, m, r, x, p, q, y, g, n⟩) (form10 (o := 41) (by decide))]
  have a_hbyR : hbyR 41 = false := by
    rw [Bool.eq_false_iff]; intro k; rw [hby_iff] at k; omega
  have a_hsR : hsR 41 = false := by
    rw [Bool.eq_false_iff]; intro k; rw [hs_iff] at k; omega
  have a_hdR : hdR 41 = true := by
    rw [hd_iff]; omega
  have a_hrgR : hrgR 41 = false := by
    rw [Bool.eq_false_iff]; intro k; rw [hrg_iff] at k; omega
  have a_isB : isB 41 = false := by
    rw [Bool.eq_false_iff]; intro k; rw [isB_iff] at k; omega
  have a_lo : loR 41 = 0 := by unfold loR; rw [a_isB]; rfl
  have a_hi : hiR 41 = 0 := by unfold hiR; rw [a_isB]; simp
  have o1 : decide (41 < 1) = false := decide_eq_false (by omega)
  have o2 : decide (56 < 41) = false := decide_eq_false (by omega)
  have o9 : decide (41 = 9) = false := decide_eq_false (by omega)
  have o41 : decide (41 = 41) = true := decide_eq_true (by omega)
  have o42 : decide (41 = 42) = false := decide_eq_false (by omega)
  unfold rvR bad1 bad2 bad3 bad4 bad5 good6 hoR hoO fbR
  simp only [a_hbyR, a_hsR, a_hdR, a_hrgR, a_lo, a_hi, o1, o2, o9, o41, o42]
  have t3 : takeR 0 0 = 0 := by decide
  rw [t3]
  unfold zz
  generalize vdR m r x = V1
  generalize vdR p q y = V2
  generalize decide (m = 0 ∧ r = 0 ∧ x = 0) = Z1
  generalize decide (p = 0 ∧ q = 0 ∧ y = 0) = Z2
  cases b <;> cases Z1 <;> cases V2 <;> rw [Bool.eq_iff_iff] <;> simp <;> omega

theorem rv11 (b : Bool) (m r x p q y g n : Int) : rvR ⟨42, b, m, r, x, p, q, y, g, n⟩ = vR ⟨42, b, m, r, x, p, q, y, g, n⟩ := by
  rw [vR_some (i := ⟨42, b, m, r, x, p, q, y, g, n⟩) (form11 (o := 42) (by decide))]
  have a_hbyR : hbyR 42 = false := by
    rw [Bool.eq_false_iff]; intro k; rw [hby_iff] at k; omega
  have a_hsR : hsR 42 = false := by
    rw [Bool.eq_false_iff]; intro k; rw [hs_iff] at k; omega
  have a_hdR : hdR 42 = true := by
    rw [hd_iff]; omega
  have a_hrgR : hrgR 42 = true := by
    rw [hrg_iff]; omega
  have a_isB : isB 42 = false := by
    rw [Bool.eq_false_iff]; intro k; rw [isB_iff] at k; omega
  have a_lo : loR 42 = 0 := by unfold loR; rw [a_isB]; rfl
  have a_hi : hiR 42 = 0 := by unfold hiR; rw [a_isB]; simp
  have o1 : decide (42 < 1) = false := decide_eq_false (by omega)
  have o2 : decide (56 < 42) = false := decide_eq_false (by omega)
  have o9 : decide (42 = 9) = false := decide_eq_false (by omega)
  have o41 : decide (42 = 41) = false := decide_eq_false (by omega)
  have o42 : decide (42 = 42) = true := decide_eq_true (by omega)
  unfold rvR bad1 bad2 bad3 bad4 bad5 good6 hoR hoO fbR
  simp only [a_hbyR, a_hsR, a_hdR, a_hrgR, a_lo, a_hi, o1, o2, o9, o41, o42]
  have t3 : takeR 448 448 = 7 := by decide
  rw [t3]
  unfold zz
  generalize vdR m r x = V1
  generalize vdR p q y = V2
  generalize decide (m = 0 ∧ r = 0 ∧ x = 0) = Z1
  generalize decide (p = 0 ∧ q = 0 ∧ y = 0) = Z2
  cases b <;> cases Z1 <;> cases V2 <;> rw [Bool.eq_iff_iff] <;> simp <;> omega

theorem rv12 (b : Bool) (m r x p q y g n : Int) : rvR ⟨43, b, m, r, x, p, q, y, g, n⟩ = vR ⟨43, b, m, r, x, p, q, y, g, n⟩ := by
  rw [vR_some (i := ⟨43, b, m, r, x, p, q, y, g, n⟩) (form12 (o := 43) (by decide))]
  have a_hbyR : hbyR 43 = false := by
    rw [Bool.eq_false_iff]; intro k; rw [hby_iff] at k; omega
  have a_hsR : hsR 43 = false := by
    rw [Bool.eq_false_iff]; intro k; rw [hs_iff] at k; omega
  have a_hdR : hdR 43 = false := by
    rw [Bool.eq_false_iff]; intro k; rw [hd_iff] at k; omega
  have a_hrgR : hrgR 43 = true := by
    rw [hrg_iff]; omega
  have a_isB : isB 43 = false := by
    rw [Bool.eq_false_iff]; intro k; rw [isB_iff] at k; omega
  have a_lo : loR 43 = 0 := by unfold loR; rw [a_isB]; rfl
  have a_hi : hiR 43 = 0 := by unfold hiR; rw [a_isB]; simp
  have o1 : decide (43 < 1) = false := decide_eq_false (by omega)
  have o2 : decide (56 < 43) = false := decide_eq_false (by omega)
  have o9 : decide (43 = 9) = false := decide_eq_false (by omega)
  have o41 : decide (43 = 41) = false := decide_eq_false (by omega)
  have o42 : decide (43 = 42) = false := decide_eq_false (by omega)
  unfold rvR bad1 bad2 bad3 bad4 bad5 good6 hoR hoO fbR
  simp only [a_hbyR, a_hsR, a_hdR, a_hrgR, a_lo, a_hi, o1, o2, o9, o41, o42]
  have t3 : takeR 7 7 = 7 := by decide
  rw [t3]
  unfold zz
  generalize vdR m r x = V1
  generalize vdR p q y = V2
  generalize decide (m = 0 ∧ r = 0 ∧ x = 0) = Z1
  generalize decide (p = 0 ∧ q = 0 ∧ y = 0) = Z2
  cases b <;> cases Z1 <;> cases Z2 <;> rw [Bool.eq_iff_iff] <;> simp <;> omega

theorem rv13 (b : Bool) (m r x p q y g n : Int) : rvR ⟨44, b, m, r, x, p, q, y, g, n⟩ = vR ⟨44, b, m, r, x, p, q, y, g, n⟩ := by
  rw [vR_some (i := ⟨44, b, m, r, x, p, q, y, g, n⟩) (form13 (o := 44) (by decide))]
  have a_hbyR : hbyR 44 = false := by
    rw [Bool.eq_false_iff]; intro k; rw [hby_iff] at k; omega
  have a_hsR : hsR 44 = false := by
    rw [Bool.eq_false_iff]; intro k; rw [hs_iff] at k; omega
  have a_hdR : hdR 44 = false := by
    rw [Bool.eq_false_iff]; intro k; rw [hd_iff] at k; omega
  have a_hrgR : hrgR 44 = true := by
    rw [hrg_iff]; omega
  have a_isB : isB 44 = false := by
    rw [Bool.eq_false_iff]; intro k; rw [isB_iff] at k; omega
  have a_lo : loR 44 = 0 := by unfold loR; rw [a_isB]; rfl
  have a_hi : hiR 44 = 63 := by unfold hiR; rw [a_isB]; simp
  have o1 : decide (44 < 1) = false := decide_eq_false (by omega)
  have o2 : decide (56 < 44) = false := decide_eq_false (by omega)
  have o9 : decide (44 = 9) = false := decide_eq_false (by omega)
  have o41 : decide (44 = 41) = false := decide_eq_false (by omega)
  have o42 : decide (44 = 42) = false := decide_eq_false (by omega)
  unfold rvR bad1 bad2 bad3 bad4 bad5 good6 hoR hoO fbR
  simp only [a_hbyR, a_hsR, a_hdR, a_hrgR, a_lo, a_hi, o1, o2, o9, o41, o42]
  have t3 : takeR 448 448 = 7 := by decide
  rw [t3]
  unfold zz
  generalize vdR m r x = V1
  generalize vdR p q y = V2
  generalize decide (m = 0 ∧ r = 0 ∧ x = 0) = Z1
  generalize decide (p = 0 ∧ q = 0 ∧ y = 0) = Z2
  cases b <;> cases Z1 <;> cases Z2 <;> rw [Bool.eq_iff_iff] <;> simp <;> omega

theorem rv14 (o : Int) (b : Bool) (m r x p q y g n : Int) (h : 26 ≤ o ∧ o ≤ 32) : rvR ⟨o, b, m, r, x, p, q, y, g, n⟩ = vR ⟨o, b, m, r, x, p, q, y, g, n⟩ := by
  rw [vR_some (i := ⟨o, b, m, r, x, p, q, y, g, n⟩) (form14 (o := o) h)]
  have a_hbyR : hbyR o = false := by
    rw [Bool.eq_false_iff]; intro k; rw [hby_iff] at k; omega
  have a_hsR : hsR o = false := by
    rw [Bool.eq_false_iff]; intro k; rw [hs_iff] at k; omega
  have a_hdR : hdR o = false := by
    rw [Bool.eq_false_iff]; intro k; rw [hd_iff] at k; omega
  have a_hrgR : hrgR o = false := by
    rw [Bool.eq_false_iff]; intro k; rw [hrg_iff] at k; omega
  have a_isB : isB o = true := by
    rw [isB_iff]; omega
  have a_lo : loR o = -128 := by unfold loR; rw [a_isB]; rfl
  have a_hi : hiR o = 127 := by unfold hiR; rw [a_isB]; simp; try omega
  have o1 : decide (o < 1) = false := decide_eq_false (by omega)
  have o2 : decide (56 < o) = false := decide_eq_false (by omega)
  have o9 : decide (o = 9) = false := decide_eq_false (by omega)
  have o41 : decide (o = 41) = false := decide_eq_false (by omega)
  have o42 : decide (o = 42) = false := decide_eq_false (by omega)
  unfold rvR bad1 bad2 bad3 bad4 bad5 good6 hoR hoO fbR
  simp only [a_hbyR, a_hsR, a_hdR, a_hrgR, a_lo, a_hi, o1, o2, o9, o41, o42]
  have t3 : takeR 0 0 = 0 := by decide
  rw [t3]
  unfold zz
  generalize vdR m r x = V1
  generalize vdR p q y = V2
  generalize decide (m = 0 ∧ r = 0 ∧ x = 0) = Z1
  generalize decide (p = 0 ∧ q = 0 ∧ y = 0) = Z2
  cases b <;> cases Z1 <;> cases Z2 <;> rw [Bool.eq_iff_iff] <;> simp [show ¬ o = 9 by omega, show ¬ o = 41 by omega, show ¬ o = 42 by omega] <;> omega

theorem rv15 (o : Int) (b : Bool) (m r x p q y g n : Int) (h : 33 ≤ o ∧ o ≤ 40) : rvR ⟨o, b, m, r, x, p, q, y, g, n⟩ = vR ⟨o, b, m, r, x, p, q, y, g, n⟩ := by
  rw [vR_some (i := ⟨o, b, m, r, x, p, q, y, g, n⟩) (form15 (o := o) h)]
  have a_hbyR : hbyR o = false := by
    rw [Bool.eq_false_iff]; intro k; rw [hby_iff] at k; omega
  have a_hsR : hsR o = false := by
    rw [Bool.eq_false_iff]; intro k; rw [hs_iff] at k; omega
  have a_hdR : hdR o = false := by
    rw [Bool.eq_false_iff]; intro k; rw [hd_iff] at k; omega
  have a_hrgR : hrgR o = false := by
    rw [Bool.eq_false_iff]; intro k; rw [hrg_iff] at k; omega
  have a_isB : isB o = true := by
    rw [isB_iff]; omega
  have a_lo : loR o = -128 := by unfold loR; rw [a_isB]; rfl
  have a_hi : hiR o = 127 := by unfold hiR; rw [a_isB]; simp; try omega
  have o1 : decide (o < 1) = false := decide_eq_false (by omega)
  have o2 : decide (56 < o) = false := decide_eq_false (by omega)
  have o9 : decide (o = 9) = false := decide_eq_false (by omega)
  have o41 : decide (o = 41) = false := decide_eq_false (by omega)
  have o42 : decide (o = 42) = false := decide_eq_false (by omega)
  unfold rvR bad1 bad2 bad3 bad4 bad5 good6 hoR hoO fbR
  simp only [a_hbyR, a_hsR, a_hdR, a_hrgR, a_lo, a_hi, o1, o2, o9, o41, o42]
  have t3 : takeR 0 0 = 0 := by decide
  rw [t3]
  unfold zz
  generalize vdR m r x = V1
  generalize vdR p q y = V2
  generalize decide (m = 0 ∧ r = 0 ∧ x = 0) = Z1
  generalize decide (p = 0 ∧ q = 0 ∧ y = 0) = Z2
  cases b <;> cases Z1 <;> cases Z2 <;> rw [Bool.eq_iff_iff] <;> simp [show ¬ o = 9 by omega, show ¬ o = 41 by omega, show ¬ o = 42 by omega] <;> omega

theorem rv16 (o : Int) (b : Bool) (m r x p q y g n : Int) (h : 45 ≤ o ∧ o ≤ 46) : rvR ⟨o, b, m, r, x, p, q, y, g, n⟩ = vR ⟨o, b, m, r, x, p, q, y, g, n⟩ := by
  rw [vR_some (i := ⟨o, b, m, r, x, p, q, y, g, n⟩) (form16 (o := o) h)]
  have a_hbyR : hbyR o = false := by
    rw [Bool.eq_false_iff]; intro k; rw [hby_iff] at k; omega
  have a_hsR : hsR o = false := by
    rw [Bool.eq_false_iff]; intro k; rw [hs_iff] at k; omega
  have a_hdR : hdR o = false := by
    rw [Bool.eq_false_iff]; intro k; rw [hd_iff] at k; omega
  have a_hrgR : hrgR o = false := by
    rw [Bool.eq_false_iff]; intro k; rw [hrg_iff] at k; omega
  have a_isB : isB o = false := by
    rw [Bool.eq_false_iff]; intro k; rw [isB_iff] at k; omega
  have a_lo : loR o = 0 := by unfold loR; rw [a_isB]; rfl
  have a_hi : hiR o = 255 := by unfold hiR; rw [a_isB]; simp; try omega
  have o1 : decide (o < 1) = false := decide_eq_false (by omega)
  have o2 : decide (56 < o) = false := decide_eq_false (by omega)
  have o9 : decide (o = 9) = false := decide_eq_false (by omega)
  have o41 : decide (o = 41) = false := decide_eq_false (by omega)
  have o42 : decide (o = 42) = false := decide_eq_false (by omega)
  unfold rvR bad1 bad2 bad3 bad4 bad5 good6 hoR hoO fbR
  simp only [a_hbyR, a_hsR, a_hdR, a_hrgR, a_lo, a_hi, o1, o2, o9, o41, o42]
  have t3 : takeR 0 0 = 0 := by decide
  rw [t3]
  unfold zz
  generalize vdR m r x = V1
  generalize vdR p q y = V2
  generalize decide (m = 0 ∧ r = 0 ∧ x = 0) = Z1
  generalize decide (p = 0 ∧ q = 0 ∧ y = 0) = Z2
  cases b <;> cases Z1 <;> cases Z2 <;> rw [Bool.eq_iff_iff] <;> simp [show ¬ o = 9 by omega, show ¬ o = 41 by omega, show ¬ o = 42 by omega] <;> omega

theorem rv17 (o : Int) (b : Bool) (m r x p q y g n : Int) (h : 53 ≤ o ∧ o ≤ 54) : rvR ⟨o, b, m, r, x, p, q, y, g, n⟩ = vR ⟨o, b, m, r, x, p, q, y, g, n⟩ := by
  rw [vR_some (i := ⟨o, b, m, r, x, p, q, y, g, n⟩) (form17 (o := o) h)]
  have a_hbyR : hbyR o = false := by
    rw [Bool.eq_false_iff]; intro k; rw [hby_iff] at k; omega
  have a_hsR : hsR o = false := by
    rw [Bool.eq_false_iff]; intro k; rw [hs_iff] at k; omega
  have a_hdR : hdR o = false := by
    rw [Bool.eq_false_iff]; intro k; rw [hd_iff] at k; omega
  have a_hrgR : hrgR o = false := by
    rw [Bool.eq_false_iff]; intro k; rw [hrg_iff] at k; omega
  have a_isB : isB o = false := by
    rw [Bool.eq_false_iff]; intro k; rw [isB_iff] at k; omega
  have a_lo : loR o = 0 := by unfold loR; rw [a_isB]; rfl
  have a_hi : hiR o = 15 := by unfold hiR; rw [a_isB]; simp; try omega
  have o1 : decide (o < 1) = false := decide_eq_false (by omega)
  have o2 : decide (56 < o) = false := decide_eq_false (by omega)
  have o9 : decide (o = 9) = false := decide_eq_false (by omega)
  have o41 : decide (o = 41) = false := decide_eq_false (by omega)
  have o42 : decide (o = 42) = false := decide_eq_false (by omega)
  unfold rvR bad1 bad2 bad3 bad4 bad5 good6 hoR hoO fbR
  simp only [a_hbyR, a_hsR, a_hdR, a_hrgR, a_lo, a_hi, o1, o2, o9, o41, o42]
  have t3 : takeR 0 0 = 0 := by decide
  rw [t3]
  unfold zz
  generalize vdR m r x = V1
  generalize vdR p q y = V2
  generalize decide (m = 0 ∧ r = 0 ∧ x = 0) = Z1
  generalize decide (p = 0 ∧ q = 0 ∧ y = 0) = Z2
  cases b <;> cases Z1 <;> cases Z2 <;> rw [Bool.eq_iff_iff] <;> simp [show ¬ o = 9 by omega, show ¬ o = 41 by omega, show ¬ o = 42 by omega] <;> omega

theorem rv18 (o : Int) (b : Bool) (m r x p q y g n : Int) (h : 50 ≤ o ∧ o ≤ 51) : rvR ⟨o, b, m, r, x, p, q, y, g, n⟩ = vR ⟨o, b, m, r, x, p, q, y, g, n⟩ := by
  rw [vR_some (i := ⟨o, b, m, r, x, p, q, y, g, n⟩) (form18 (o := o) h)]
  have a_hbyR : hbyR o = false := by
    rw [Bool.eq_false_iff]; intro k; rw [hby_iff] at k; omega
  have a_hsR : hsR o = false := by
    rw [Bool.eq_false_iff]; intro k; rw [hs_iff] at k; omega
  have a_hdR : hdR o = false := by
    rw [Bool.eq_false_iff]; intro k; rw [hd_iff] at k; omega
  have a_hrgR : hrgR o = false := by
    rw [Bool.eq_false_iff]; intro k; rw [hrg_iff] at k; omega
  have a_isB : isB o = false := by
    rw [Bool.eq_false_iff]; intro k; rw [isB_iff] at k; omega
  have a_lo : loR o = 0 := by unfold loR; rw [a_isB]; rfl
  have a_hi : hiR o = 0 := by unfold hiR; rw [a_isB]; simp; try omega
  have o1 : decide (o < 1) = false := decide_eq_false (by omega)
  have o2 : decide (56 < o) = false := decide_eq_false (by omega)
  have o9 : decide (o = 9) = false := decide_eq_false (by omega)
  have o41 : decide (o = 41) = false := decide_eq_false (by omega)
  have o42 : decide (o = 42) = false := decide_eq_false (by omega)
  unfold rvR bad1 bad2 bad3 bad4 bad5 good6 hoR hoO fbR
  simp only [a_hbyR, a_hsR, a_hdR, a_hrgR, a_lo, a_hi, o1, o2, o9, o41, o42]
  have t3 : takeR 0 0 = 0 := by decide
  rw [t3]
  unfold zz
  generalize vdR m r x = V1
  generalize vdR p q y = V2
  generalize decide (m = 0 ∧ r = 0 ∧ x = 0) = Z1
  generalize decide (p = 0 ∧ q = 0 ∧ y = 0) = Z2
  cases b <;> cases Z1 <;> cases Z2 <;> rw [Bool.eq_iff_iff] <;> simp [show ¬ o = 9 by omega, show ¬ o = 41 by omega, show ¬ o = 42 by omega] <;> omega

theorem rv19 (b : Bool) (m r x p q y g n : Int) : rvR ⟨49, b, m, r, x, p, q, y, g, n⟩ = vR ⟨49, b, m, r, x, p, q, y, g, n⟩ := by
  rw [vR_some (i := ⟨49, b, m, r, x, p, q, y, g, n⟩) (form19 (o := 49) (by decide))]
  have a_hbyR : hbyR 49 = false := by
    rw [Bool.eq_false_iff]; intro k; rw [hby_iff] at k; omega
  have a_hsR : hsR 49 = false := by
    rw [Bool.eq_false_iff]; intro k; rw [hs_iff] at k; omega
  have a_hdR : hdR 49 = false := by
    rw [Bool.eq_false_iff]; intro k; rw [hd_iff] at k; omega
  have a_hrgR : hrgR 49 = false := by
    rw [Bool.eq_false_iff]; intro k; rw [hrg_iff] at k; omega
  have a_isB : isB 49 = false := by
    rw [Bool.eq_false_iff]; intro k; rw [isB_iff] at k; omega
  have a_lo : loR 49 = 0 := by unfold loR; rw [a_isB]; rfl
  have a_hi : hiR 49 = 0 := by unfold hiR; rw [a_isB]; simp
  have o1 : decide (49 < 1) = false := decide_eq_false (by omega)
  have o2 : decide (56 < 49) = false := decide_eq_false (by omega)
  have o9 : decide (49 = 9) = false := decide_eq_false (by omega)
  have o41 : decide (49 = 41) = false := decide_eq_false (by omega)
  have o42 : decide (49 = 42) = false := decide_eq_false (by omega)
  unfold rvR bad1 bad2 bad3 bad4 bad5 good6 hoR hoO fbR
  simp only [a_hbyR, a_hsR, a_hdR, a_hrgR, a_lo, a_hi, o1, o2, o9, o41, o42]
  have t3 : takeR 0 0 = 0 := by decide
  rw [t3]
  unfold zz
  generalize vdR m r x = V1
  generalize vdR p q y = V2
  generalize decide (m = 0 ∧ r = 0 ∧ x = 0) = Z1
  generalize decide (p = 0 ∧ q = 0 ∧ y = 0) = Z2
  cases b <;> cases Z1 <;> cases Z2 <;> rw [Bool.eq_iff_iff] <;> simp <;> omega

theorem rv20 (o : Int) (b : Bool) (m r x p q y g n : Int) (h : 47 ≤ o ∧ o ≤ 48) : rvR ⟨o, b, m, r, x, p, q, y, g, n⟩ = vR ⟨o, b, m, r, x, p, q, y, g, n⟩ := by
  rw [vR_some (i := ⟨o, b, m, r, x, p, q, y, g, n⟩) (form20 (o := o) h)]
  have a_hbyR : hbyR o = false := by
    rw [Bool.eq_false_iff]; intro k; rw [hby_iff] at k; omega
  have a_hsR : hsR o = false := by
    rw [Bool.eq_false_iff]; intro k; rw [hs_iff] at k; omega
  have a_hdR : hdR o = false := by
    rw [Bool.eq_false_iff]; intro k; rw [hd_iff] at k; omega
  have a_hrgR : hrgR o = false := by
    rw [Bool.eq_false_iff]; intro k; rw [hrg_iff] at k; omega
  have a_isB : isB o = false := by
    rw [Bool.eq_false_iff]; intro k; rw [isB_iff] at k; omega
  have a_lo : loR o = 0 := by unfold loR; rw [a_isB]; rfl
  have a_hi : hiR o = 0 := by unfold hiR; rw [a_isB]; simp; try omega
  have o1 : decide (o < 1) = false := decide_eq_false (by omega)
  have o2 : decide (56 < o) = false := decide_eq_false (by omega)
  have o9 : decide (o = 9) = false := decide_eq_false (by omega)
  have o41 : decide (o = 41) = false := decide_eq_false (by omega)
  have o42 : decide (o = 42) = false := decide_eq_false (by omega)
  unfold rvR bad1 bad2 bad3 bad4 bad5 good6 hoR hoO fbR
  simp only [a_hbyR, a_hsR, a_hdR, a_hrgR, a_lo, a_hi, o1, o2, o9, o41, o42]
  have t3 : takeR 0 0 = 0 := by decide
  rw [t3]
  unfold zz
  generalize vdR m r x = V1
  generalize vdR p q y = V2
  generalize decide (m = 0 ∧ r = 0 ∧ x = 0) = Z1
  generalize decide (p = 0 ∧ q = 0 ∧ y = 0) = Z2
  cases b <;> cases Z1 <;> cases Z2 <;> rw [Bool.eq_iff_iff] <;> simp [show ¬ o = 9 by omega, show ¬ o = 41 by omega, show ¬ o = 42 by omega] <;> omega

theorem rv21 (b : Bool) (m r x p q y g n : Int) : rvR ⟨52, b, m, r, x, p, q, y, g, n⟩ = vR ⟨52, b, m, r, x, p, q, y, g, n⟩ := by
  rw [vR_some (i := ⟨52, b, m, r, x, p, q, y, g, n⟩) (form21 (o := 52) (by decide))]
  have a_hbyR : hbyR 52 = false := by
    rw [Bool.eq_false_iff]; intro k; rw [hby_iff] at k; omega
  have a_hsR : hsR 52 = false := by
    rw [Bool.eq_false_iff]; intro k; rw [hs_iff] at k; omega
  have a_hdR : hdR 52 = false := by
    rw [Bool.eq_false_iff]; intro k; rw [hd_iff] at k; omega
  have a_hrgR : hrgR 52 = false := by
    rw [Bool.eq_false_iff]; intro k; rw [hrg_iff] at k; omega
  have a_isB : isB 52 = false := by
    rw [Bool.eq_false_iff]; intro k; rw [isB_iff] at k; omega
  have a_lo : loR 52 = 0 := by unfold loR; rw [a_isB]; rfl
  have a_hi : hiR 52 = 0 := by unfold hiR; rw [a_isB]; simp
  have o1 : decide (52 < 1) = false := decide_eq_false (by omega)
  have o2 : decide (56 < 52) = false := decide_eq_false (by omega)
  have o9 : decide (52 = 9) = false := decide_eq_false (by omega)
  have o41 : decide (52 = 41) = false := decide_eq_false (by omega)
  have o42 : decide (52 = 42) = false := decide_eq_false (by omega)
  unfold rvR bad1 bad2 bad3 bad4 bad5 good6 hoR hoO fbR
  simp only [a_hbyR, a_hsR, a_hdR, a_hrgR, a_lo, a_hi, o1, o2, o9, o41, o42]
  have t3 : takeR 0 0 = 0 := by decide
  rw [t3]
  unfold zz
  generalize vdR m r x = V1
  generalize vdR p q y = V2
  generalize decide (m = 0 ∧ r = 0 ∧ x = 0) = Z1
  generalize decide (p = 0 ∧ q = 0 ∧ y = 0) = Z2
  cases b <;> cases Z1 <;> cases Z2 <;> rw [Bool.eq_iff_iff] <;> simp <;> omega

theorem rv_eq (o : Int) (b : Bool) (m r x p q y g n : Int) : rvR ⟨o, b, m, r, x, p, q, y, g, n⟩ = vR ⟨o, b, m, r, x, p, q, y, g, n⟩ := by
  by_cases k0 : 1 ≤ o ∧ o ≤ 5
  · exact rv0 o b m r x p q y g n k0
  by_cases k1 : 6 ≤ o ∧ o ≤ 7
  · exact rv1 o b m r x p q y g n k1
  by_cases k2 : 8 ≤ o ∧ o ≤ 10
  · exact rv2 o b m r x p q y g n k2
  by_cases k3 : o = 11
  · subst k3; exact rv3 b m r x p q y g n
  by_cases k4 : 12 ≤ o ∧ o ≤ 19
  · exact rv4 o b m r x p q y g n k4
  by_cases k5 : 20 ≤ o ∧ o ≤ 23
  · exact rv5 o b m r x p q y g n k5
  by_cases k6 : o = 24
  · subst k6; exact rv6 b m r x p q y g n
  by_cases k7 : o = 25
  · subst k7; exact rv7 b m r x p q y g n
  by_cases k8 : o = 55
  · subst k8; exact rv8 b m r x p q y g n
  by_cases k9 : o = 56
  · subst k9; exact rv9 b m r x p q y g n
  by_cases k10 : o = 41
  · subst k10; exact rv10 b m r x p q y g n
  by_cases k11 : o = 42
  · subst k11; exact rv11 b m r x p q y g n
  by_cases k12 : o = 43
  · subst k12; exact rv12 b m r x p q y g n
  by_cases k13 : o = 44
  · subst k13; exact rv13 b m r x p q y g n
  by_cases k14 : 26 ≤ o ∧ o ≤ 32
  · exact rv14 o b m r x p q y g n k14
  by_cases k15 : 33 ≤ o ∧ o ≤ 40
  · exact rv15 o b m r x p q y g n k15
  by_cases k16 : 45 ≤ o ∧ o ≤ 46
  · exact rv16 o b m r x p q y g n k16
  by_cases k17 : 53 ≤ o ∧ o ≤ 54
  · exact rv17 o b m r x p q y g n k17
  by_cases k18 : 50 ≤ o ∧ o ≤ 51
  · exact rv18 o b m r x p q y g n k18
  by_cases k19 : o = 49
  · subst k19; exact rv19 b m r x p q y g n
  by_cases k20 : 47 ≤ o ∧ o ≤ 48
  · exact rv20 o b m r x p q y g n k20
  by_cases k21 : o = 52
  · subst k21; exact rv21 b m r x p q y g n
  have ho : o < 1 ∨ 56 < o := by omega
  rw [vR_none (i := ⟨o, b, m, r, x, p, q, y, g, n⟩) (form_none (o := o) ho)]
  unfold rvR bad1
  have k : (decide (o < 1) || (decide (56 < o) || (b && !hbyR o))) = true := by
    rcases ho with h | h
    · rw [decide_eq_true h]; rfl
    · rw [decide_eq_true h]; simp
  simp only [k]
  rfl

end Go.Proofs.YtdbbnkjnmldnpaaGreatDoor
