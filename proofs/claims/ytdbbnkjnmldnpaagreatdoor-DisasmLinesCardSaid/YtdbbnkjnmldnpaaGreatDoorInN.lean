/-
  Walks over the small calls of the reference of package inst. No condition.
-/
import Derived.Test.YtdbbnkjnmldnpaaGreatDoorInT
import Derived.Test.YtdbbnkjnmldnpaaGreatDoorOC
namespace Go.Proofs.YtdbbnkjnmldnpaaGreatDoor
open Go.RowKit
set_option linter.unusedSimpArgs false
set_option linter.unusedVariables false
set_option maxHeartbeats 40000000
set_option maxRecDepth 100000
attribute [local irreducible] wpQuiet

def isD (o : Int) : Bool := decide (1 ≤ o ∧ o ≤ 7)
def isL (o : Int) : Bool := decide (8 ≤ o ∧ o ≤ 10)
def isS (o : Int) : Bool := decide (12 ≤ o ∧ o ≤ 25)
def isB (o : Int) : Bool := decide (26 ≤ o ∧ o ≤ 40)
def hbyR (o : Int) : Bool := decide ((1 ≤ o ∧ o ≤ 5) ∨ (12 ≤ o ∧ o ≤ 23))
def hrgR (o : Int) : Bool := decide ((8 ≤ o ∧ o ≤ 11) ∨ o = 42 ∨ o = 43 ∨ o = 44)
def loR (o : Int) : Int := if isB o = true then -128 else 0
def hiR (o : Int) : Int := if isB o = true then 127 else if o = 44 then 63 else if o = 45 ∨ o = 46 then 255 else if o = 53 ∨ o = 54 then 15 else 0
def wordB (n : Int) : Bool := decide (0 ≤ n ∧ n < 65536)
theorem isD_iff (o : Int) : isD o = true ↔ 1 ≤ o ∧ o ≤ 7 := by unfold isD; rw [decide_eq_true_eq]
theorem isL_iff (o : Int) : isL o = true ↔ 8 ≤ o ∧ o ≤ 10 := by unfold isL; rw [decide_eq_true_eq]
theorem isS_iff (o : Int) : isS o = true ↔ 12 ≤ o ∧ o ≤ 25 := by unfold isS; rw [decide_eq_true_eq]
theorem isB_iff (o : Int) : isB o = true ↔ 26 ≤ o ∧ o ≤ 40 := by unfold isB; rw [decide_eq_true_eq]
theorem hby_iff (o : Int) : hbyR o = true ↔ (1 ≤ o ∧ o ≤ 5) ∨ (12 ≤ o ∧ o ≤ 23) := by unfold hbyR; rw [decide_eq_true_eq]
theorem hrg_iff (o : Int) : hrgR o = true ↔ (8 ≤ o ∧ o ≤ 11) ∨ o = 42 ∨ o = 43 ∨ o = 44 := by unfold hrgR; rw [decide_eq_true_eq]
theorem hs_iff (o : Int) : hsR o = true ↔ (1 ≤ o ∧ o ≤ 10) ∨ o = 55 := by unfold hsR; simp only [Bool.or_eq_true, Bool.and_eq_true, decide_eq_true_eq]; omega
theorem hd_iff (o : Int) : hdR o = true ↔ (1 ≤ o ∧ o ≤ 7) ∨ (11 ≤ o ∧ o ≤ 25) ∨ o = 41 ∨ o = 42 ∨ o = 56 := by unfold hdR; simp only [Bool.or_eq_true, Bool.and_eq_true, decide_eq_true_eq]; omega
theorem word_iff (n : Int) : wordB n = true ↔ 0 ≤ n ∧ n < 65536 := by unfold wordB; rw [decide_eq_true_eq]
theorem b_iff {a b : Bool} {p : Prop} (h : b = true ↔ p) (k : a = true ↔ p) : a = b := by rw [Bool.eq_iff_iff]; exact k.trans h.symm
theorem b_fal {b : Bool} {p : Prop} (h : b = true ↔ p) (k : b = false) : ¬ p := fun hp => by rw [h.2 hp] at k; cases k

theorem isdouble_any (o : Int) (w : World) : Calls Tryz.prog 59 #[.int .i64 o] w fun e w' => e = .returned (.bool (isD o)) ∧ Below w.heap.size w w' := by
  have e : ∀ b : Bool, (b = true ↔ (1 ≤ o ∧ o ≤ 7)) → Ending.returned (.bool b) = .returned (.bool (isD o)) := fun b h => ret_bool (b_iff (isD_iff o) h)
  have hB := Below.refl w.heap.size w
  go_enter Tryz.func59, Tryz.ntmps59
  go_wp2
  all_goals
    go_ret
    refine ⟨e _ ?_, hB⟩
    clear e hB
    try simp only [beq_iff_eq, beq_eq_false_iff_ne, ne_eq] at *
    first
      | omega
      | (simp only [decide_eq_true_eq, beq_iff_eq, Bool.false_eq_true, false_iff, true_iff]; omega)
      | (simp; omega)
      | simp

theorem islong_any (o : Int) (w : World) : Calls Tryz.prog 60 #[.int .i64 o] w fun e w' => e = .returned (.bool (isL o)) ∧ Below w.heap.size w w' := by
  have e : ∀ b : Bool, (b = true ↔ (8 ≤ o ∧ o ≤ 10)) → Ending.returned (.bool b) = .returned (.bool (isL o)) := fun b h => ret_bool (b_iff (isL_iff o) h)
  have hB := Below.refl w.heap.size w
  go_enter Tryz.func60, Tryz.ntmps60
  go_wp2
  all_goals
    go_ret
    refine ⟨e _ ?_, hB⟩
    clear e hB
    try simp only [beq_iff_eq, beq_eq_false_iff_ne, ne_eq] at *
    first
      | omega
      | (simp only [decide_eq_true_eq, beq_iff_eq, Bool.false_eq_true, false_iff, true_iff]; omega)
      | (simp; omega)
      | simp

theorem issingle_any (o : Int) (w : World) : Calls Tryz.prog 63 #[.int .i64 o] w fun e w' => e = .returned (.bool (isS o)) ∧ Below w.heap.size w w' := by
  have e : ∀ b : Bool, (b = true ↔ (12 ≤ o ∧ o ≤ 25)) → Ending.returned (.bool b) = .returned (.bool (isS o)) := fun b h => ret_bool (b_iff (isS_iff o) h)
  have hB := Below.refl w.heap.size w
  go_enter Tryz.func63, Tryz.ntmps63
  go_wp2
  all_goals
    go_ret
    refine ⟨e _ ?_, hB⟩
    clear e hB
    try simp only [beq_iff_eq, beq_eq_false_iff_ne, ne_eq] at *
    first
      | omega
      | (simp only [decide_eq_true_eq, beq_iff_eq, Bool.false_eq_true, false_iff, true_iff]; omega)
      | (simp; omega)
      | simp

theorem isbranch_any (o : Int) (w : World) : Calls Tryz.prog 83 #[.int .i64 o] w fun e w' => e = .returned (.bool (isB o)) ∧ Below w.heap.size w w' := by
  have e : ∀ b : Bool, (b = true ↔ (26 ≤ o ∧ o ≤ 40)) → Ending.returned (.bool b) = .returned (.bool (isB o)) := fun b h => ret_bool (b_iff (isB_iff o) h)
  have hB := Below.refl w.heap.size w
  go_enter Tryz.func83, Tryz.ntmps83
  go_wp2
  all_goals
    go_ret
    refine ⟨e _ ?_, hB⟩
    clear e hB
    try simp only [beq_iff_eq, beq_eq_false_iff_ne, ne_eq] at *
    first
      | omega
      | (simp only [decide_eq_true_eq, beq_iff_eq, Bool.false_eq_true, false_iff, true_iff]; omega)
      | (simp; omega)
      | simp

theorem hasbyte_any (o : Int) (w : World) : Calls Tryz.prog 64 #[.int .i64 o] w fun e w' => e = .returned (.bool (hbyR o)) ∧ Below w.heap.size w w' := by
  have e : ∀ b : Bool, (b = true ↔ ((1 ≤ o ∧ o ≤ 5) ∨ (12 ≤ o ∧ o ≤ 23))) → Ending.returned (.bool b) = .returned (.bool (hbyR o)) := fun b h => ret_bool (b_iff (hby_iff o) h)
  have hB := Below.refl w.heap.size w
  go_enter Tryz.func64, Tryz.ntmps64
  go_wp2
  all_goals
    go_ret
    refine ⟨e _ ?_, hB⟩
    clear e hB
    try simp only [beq_iff_eq, beq_eq_false_iff_ne, ne_eq] at *
    first
      | omega
      | (simp only [decide_eq_true_eq, beq_iff_eq, Bool.false_eq_true, false_iff, true_iff]; omega)
      | (simp; omega)
      | simp

theorem hassrc_any (o : Int) (w : World) : Calls Tryz.prog 29 #[.int .i64 o] w fun e w' => e = .returned (.bool (hsR o)) ∧ Below w.heap.size w w' := by
  have e : ∀ b : Bool, (b = true ↔ ((1 ≤ o ∧ o ≤ 10) ∨ o = 55)) → Ending.returned (.bool b) = .returned (.bool (hsR o)) := fun b h => ret_bool (b_iff (hs_iff o) h)
  have hB := Below.refl w.heap.size w
  have j0 := fun w => isdouble_any o w; have j1 := fun w => islong_any o w
  by_cases h0 : isD o = true
  all_goals (by_cases h1 : isL o = true)
  all_goals
    first | rw [h0] at j0 | rw [Bool.eq_false_iff.2 h0] at j0
    rw [isD_iff] at h0
    first | rw [h1] at j1 | rw [Bool.eq_false_iff.2 h1] at j1
    rw [isL_iff] at h1
    go_enter Tryz.func29, Tryz.ntmps29
    go_wp2_with (first | (go_at_call 59; with_reducible refine (j0 _).mono ?_; rintro _ w' ⟨rfl, hb⟩; have hB := hB.trans (hb.mono hB.size); clear hb) | (go_at_call 60; with_reducible refine (j1 _).mono ?_; rintro _ w' ⟨rfl, hb⟩; have hB := hB.trans (hb.mono hB.size); clear hb))
    all_goals
      go_ret
      refine ⟨e _ ?_, hB⟩
      clear e hB j0 j1
      try simp only [beq_iff_eq, beq_eq_false_iff_ne, ne_eq] at *
      first
        | omega
        | (simp only [decide_eq_true_eq, beq_iff_eq, Bool.false_eq_true, false_iff, true_iff]; omega)
        | (simp; omega)
        | simp

theorem hasdst_any (o : Int) (w : World) : Calls Tryz.prog 31 #[.int .i64 o] w fun e w' => e = .returned (.bool (hdR o)) ∧ Below w.heap.size w w' := by
  have e : ∀ b : Bool, (b = true ↔ ((1 ≤ o ∧ o ≤ 7) ∨ (11 ≤ o ∧ o ≤ 25) ∨ o = 41 ∨ o = 42 ∨ o = 56)) → Ending.returned (.bool b) = .returned (.bool (hdR o)) := fun b h => ret_bool (b_iff (hd_iff o) h)
  have hB := Below.refl w.heap.size w
  have j0 := fun w => isdouble_any o w; have j1 := fun w => issingle_any o w
  by_cases h0 : isD o = true
  all_goals (by_cases h1 : isS o = true)
  all_goals
    first | rw [h0] at j0 | rw [Bool.eq_false_iff.2 h0] at j0
    rw [isD_iff] at h0
    first | rw [h1] at j1 | rw [Bool.eq_false_iff.2 h1] at j1
    rw [isS_iff] at h1
    go_enter Tryz.func31, Tryz.ntmps31
    go_wp2_with (first | (go_at_call 59; with_reducible refine (j0 _).mono ?_; rintro _ w' ⟨rfl, hb⟩; have hB := hB.trans (hb.mono hB.size); clear hb) | (go_at_call 63; with_reducible refine (j1 _).mono ?_; rintro _ w' ⟨rfl, hb⟩; have hB := hB.trans (hb.mono hB.size); clear hb))
    all_goals
      go_ret
      refine ⟨e _ ?_, hB⟩
      clear e hB j0 j1
      try simp only [beq_iff_eq, beq_eq_false_iff_ne, ne_eq] at *
      first
        | omega
        | (simp only [decide_eq_true_eq, beq_iff_eq, Bool.false_eq_true, false_iff, true_iff]; omega)
        | (simp; omega)
        | simp

theorem hasreg_any (o : Int) (w : World) : Calls Tryz.prog 66 #[.int .i64 o] w fun e w' => e = .returned (.bool (hrgR o)) ∧ Below w.heap.size w w' := by
  have e : ∀ b : Bool, (b = true ↔ ((8 ≤ o ∧ o ≤ 11) ∨ o = 42 ∨ o = 43 ∨ o = 44)) → Ending.returned (.bool b) = .returned (.bool (hrgR o)) := fun b h => ret_bool (b_iff (hrg_iff o) h)
  have hB := Below.refl w.heap.size w
  have j0 := fun w => islong_any o w
  by_cases h0 : isL o = true
  all_goals
    first | rw [h0] at j0 | rw [Bool.eq_false_iff.2 h0] at j0
    rw [isL_iff] at h0
    go_enter Tryz.func66, Tryz.ntmps66
    go_wp2_with (first | (go_at_call 60; with_reducible refine (j0 _).mono ?_; rintro _ w' ⟨rfl, hb⟩; have hB := hB.trans (hb.mono hB.size); clear hb))
    all_goals
      go_ret
      refine ⟨e _ ?_, hB⟩
      clear e hB j0
      try simp only [beq_iff_eq, beq_eq_false_iff_ne, ne_eq] at *
      first
        | omega
        | (simp only [decide_eq_true_eq, beq_iff_eq, Bool.false_eq_true, false_iff, true_iff]; omega)
        | (simp; omega)
        | simp

theorem isword_any (n : Int) (w : World) : Calls Tryz.prog 27 #[.int .i64 n] w fun e w' => e = .returned (.bool (wordB n)) ∧ Below w.heap.size w w' := by
  have e : ∀ b : Bool, (b = true ↔ (0 ≤ n ∧ n < 65536)) → Ending.returned (.bool b) = .returned (.bool (wordB n)) := fun b h => ret_bool (b_iff (word_iff n) h)
  have hB := Below.refl w.heap.size w
  go_enter Tryz.func27, Tryz.ntmps27
  go_wp2
  all_goals
    go_ret
    refine ⟨e _ ?_, hB⟩
    clear e hB
    try simp only [beq_iff_eq, beq_eq_false_iff_ne, ne_eq] at *
    first
      | omega
      | (simp only [decide_eq_true_eq, beq_iff_eq, Bool.false_eq_true, false_iff, true_iff]; omega)
      | (simp; omega)
      | simp

theorem least_any (o : Int) (w : World) : Calls Tryz.prog 67 #[.int .i64 o] w fun e w' => e = .returned (.int .i64 (loR o)) ∧ Below w.heap.size w w' := by
  have hj := fun w => isbranch_any o w
  have hB := Below.refl w.heap.size w
  have kB := isB_iff o
  by_cases hb : isB o = true
  · rw [show loR o = -128 from if_pos hb]
    rw [hb] at hj
    clear kB
    go_enter Tryz.func67, Tryz.ntmps67
    go_wp2_with (first | (go_at_call 83; with_reducible refine (hj _).mono ?_; rintro _ w' ⟨rfl, hb⟩; have hB := hB.trans (hb.mono hB.size); clear hb))
    go_ret
    exact ⟨rfl, hB⟩
  · have hbf : isB o = false := by simpa using hb
    rw [hbf] at hj
    clear kB
    rw [show loR o = 0 from if_neg hb]
    go_enter Tryz.func67, Tryz.ntmps67
    go_wp2_with (first | (go_at_call 83; with_reducible refine (hj _).mono ?_; rintro _ w' ⟨rfl, hb⟩; have hB := hB.trans (hb.mono hB.size); clear hb))
    go_ret
    exact ⟨rfl, hB⟩

theorem greatest_any (o : Int) (w : World) : Calls Tryz.prog 68 #[.int .i64 o] w fun e w' => e = .returned (.int .i64 (hiR o)) ∧ Below w.heap.size w w' := by
  have hj := fun w => isbranch_any o w
  have hB := Below.refl w.heap.size w
  have kB := isB_iff o
  by_cases hb : isB o = true
  · rw [show hiR o = 127 from if_pos hb]
    rw [hb] at hj
    clear kB
    go_enter Tryz.func68, Tryz.ntmps68
    go_wp2_with (first | (go_at_call 83; with_reducible refine (hj _).mono ?_; rintro _ w' ⟨rfl, hb⟩; have hB := hB.trans (hb.mono hB.size); clear hb))
    go_ret
    exact ⟨rfl, hB⟩
  · have hbf : isB o = false := by simpa using hb
    rw [hbf] at hj
    clear kB
    by_cases h0 : o = 44
    · rw [show hiR o = 63 from (if_neg hb).trans (if_pos h0)]
      clear hb hbf
      rcases h0 with rfl
      all_goals
        go_enter Tryz.func68, Tryz.ntmps68
        go_wp2_with (first | (go_at_call 83; with_reducible refine (hj _).mono ?_; rintro _ w' ⟨rfl, hb⟩; have hB := hB.trans (hb.mono hB.size); clear hb))
        go_ret
        exact ⟨rfl, hB⟩
    · skip
      by_cases h1 : o = 45 ∨ o = 46
      · rw [show hiR o = 255 from ((if_neg hb).trans (if_neg h0)).trans (if_pos h1)]
        clear hb hbf h0
        rcases h1 with rfl | rfl
        all_goals
          go_enter Tryz.func68, Tryz.ntmps68
          go_wp2_with (first | (go_at_call 83; with_reducible refine (hj _).mono ?_; rintro _ w' ⟨rfl, hb⟩; have hB := hB.trans (hb.mono hB.size); clear hb))
          go_ret
          exact ⟨rfl, hB⟩
      · skip
        by_cases h2 : o = 53 ∨ o = 54
        · rw [show hiR o = 15 from (((if_neg hb).trans (if_neg h0)).trans (if_neg h1)).trans (if_pos h2)]
          clear hb hbf h0 h1
          rcases h2 with rfl | rfl
          all_goals
            go_enter Tryz.func68, Tryz.ntmps68
            go_wp2_with (first | (go_at_call 83; with_reducible refine (hj _).mono ?_; rintro _ w' ⟨rfl, hb⟩; have hB := hB.trans (hb.mono hB.size); clear hb))
            go_ret
            exact ⟨rfl, hB⟩
        · skip
          rw [show hiR o = 0 from (((if_neg hb).trans (if_neg h0)).trans (if_neg h1)).trans (if_neg h2)]
          have n44 : (o == 44) = false := by simp; omega
          have n45 : (o == 45) = false := by simp; omega
          have n46 : (o == 46) = false := by simp; omega
          have n53 : (o == 53) = false := by simp; omega
          have n54 : (o == 54) = false := by simp; omega
          go_enter Tryz.func68, Tryz.ntmps68
          go_wp2_with (first | (go_at_call 83; with_reducible refine (hj _).mono ?_; rintro _ w' ⟨rfl, hb⟩; have hB := hB.trans (hb.mono hB.size); clear hb))
          go_ret
          exact ⟨rfl, hB⟩

def sgI (n : Int) : Int := if 127 < n then n - 256 else n
theorem signed_any (n : Int) (hn : 0 ≤ n ∧ n ≤ 255) (w : World) : Calls Tryz.prog 58 #[.int .i64 n] w fun e w' => e = .returned (.int .i64 (sgR n)) ∧ Below w.heap.size w w' := by
  obtain ⟨h0, h1⟩ := hn
  by_cases h : 127 < n
  · have e : sgR n = n - 256 := if_pos h
    rw [e]
    clear e
    go_enter Tryz.func58, Tryz.ntmps58
    go_wp2
    go_ret
    exact ⟨rfl, Below.refl _ _⟩
  · have e : sgR n = n := if_neg h
    rw [e]
    clear e
    go_enter Tryz.func58, Tryz.ntmps58
    go_wp2
    go_ret
    exact ⟨rfl, Below.refl _ _⟩

end Go.Proofs.YtdbbnkjnmldnpaaGreatDoor
