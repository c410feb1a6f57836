/-
  What is used of the answers of package alu, plain. No condition.
-/
import Derived.Test.YtpimdbglmoopcaaDoorAlE
namespace Go.Proofs.YtpimdbglmoopcaaDoor
open Go.RowKit
set_option linter.unusedSimpArgs false
set_option linter.unusedVariables false
set_option maxHeartbeats 4000000
set_option maxRecDepth 100000

/-! ### The codes of a number of codes -/
theorem fN_cod (n z v c : Bool) : fN (cod n z v c) = n := by cases n <;> cases z <;> cases v <;> cases c <;> rfl
theorem fZ_cod (n z v c : Bool) : fZ (cod n z v c) = z := by cases n <;> cases z <;> cases v <;> cases c <;> rfl
theorem fV_cod (n z v c : Bool) : fV (cod n z v c) = v := by cases n <;> cases z <;> cases v <;> cases c <;> rfl
theorem fC_cod (n z v c : Bool) : fC (cod n z v c) = c := by cases n <;> cases z <;> cases v <;> cases c <;> rfl
theorem op_op (b : Bool) (n : Int) : op b (op b n) = op b n := by cases b <;> simp [op]
theorem neg_op (b : Bool) (n : Int) : neg b (op b n) = neg b n := by
  cases b
  · exact neg_op_f n
  · exact neg_op_t n
theorem addR_op (b : Bool) (x y c : Int) : addR b (op b x) (op b y) c = addR b x y c := by unfold addR addD; rw [op_op, op_op]
theorem addF_op (b : Bool) (x y c : Int) : addF b (op b x) (op b y) c = addF b x y c := by
  unfold addF; rw [addR_op, neg_op, neg_op]; unfold addD; rw [op_op, op_op]
theorem subR_op (b : Bool) (x y c : Int) : subR b (op b x) (op b y) c = subR b x y c := by unfold subR subD; rw [op_op, op_op]
theorem subF_op (b : Bool) (x y c : Int) : subF b (op b x) (op b y) c = subF b x y c := by
  unfold subF; rw [subR_op, neg_op, neg_op]; unfold subD; rw [op_op, op_op]
/-! ### After cmp -/
theorem cmp_codes (b : Bool) (x y : Int) : fC (subF b x y 0) = decide (op b x < op b y) ∧ fZ (subF b x y 0) = decide (op b x = op b y) ∧ (fN (subF b x y 0) != fV (subF b x y 0)) = decide (op b (x + M b / 2) < op b (y + M b / 2)) := by
  unfold subF
  rw [fC_cod, fZ_cod, fN_cod, fV_cod]
  cases b
  · refine ⟨?_, ?_, ?_⟩
    · rw [decide_eq_decide]; show x % 65536 - y % 65536 - 0 % 2 < 0 ↔ x % 65536 < y % 65536; omega
    · show decide ((x % 65536 - y % 65536 - 0 % 2) % 65536 % 65536 = 0) = decide (x % 65536 = y % 65536)
      rw [decide_eq_decide]; omega
    · show (decide (32768 ≤ (x % 65536 - y % 65536 - 0 % 2) % 65536 % 65536) != (!(decide (32768 ≤ x % 65536) == decide (32768 ≤ y % 65536)) && (decide (32768 ≤ (x % 65536 - y % 65536 - 0 % 2) % 65536 % 65536) == decide (32768 ≤ y % 65536)))) = decide ((x + 65536 / 2) % 65536 < (y + 65536 / 2) % 65536)
      by_cases h1 : 32768 ≤ x % 65536 <;> by_cases h2 : 32768 ≤ y % 65536 <;> by_cases h3 : 32768 ≤ (x % 65536 - y % 65536 - 0 % 2) % 65536 % 65536 <;> by_cases h4 : (x + 65536 / 2) % 65536 < (y + 65536 / 2) % 65536 <;> simp only [h1, h2, h3, h4, decide_true, decide_false] <;> first | rfl | omega
  · refine ⟨?_, ?_, ?_⟩
    · rw [decide_eq_decide]; show x % 256 - y % 256 - 0 % 2 < 0 ↔ x % 256 < y % 256; omega
    · show decide ((x % 256 - y % 256 - 0 % 2) % 256 % 256 = 0) = decide (x % 256 = y % 256)
      rw [decide_eq_decide]; omega
    · show (decide (128 ≤ (x % 256 - y % 256 - 0 % 2) % 256 % 256) != (!(decide (128 ≤ x % 256) == decide (128 ≤ y % 256)) && (decide (128 ≤ (x % 256 - y % 256 - 0 % 2) % 256 % 256) == decide (128 ≤ y % 256)))) = decide ((x + 256 / 2) % 256 < (y + 256 / 2) % 256)
      by_cases h1 : 128 ≤ x % 256 <;> by_cases h2 : 128 ≤ y % 256 <;> by_cases h3 : 128 ≤ (x % 256 - y % 256 - 0 % 2) % 256 % 256 <;> by_cases h4 : (x + 256 / 2) % 256 < (y + 256 / 2) % 256 <;> simp only [h1, h2, h3, h4, decide_true, decide_false] <;> first | rfl | omega
theorem tk_cmp (b : Bool) (x y : Int) : tkB 40 (subF b x y 0) = decide (op b x < op b y) ∧ tkB 36 (subF b x y 0) = decide (op b x ≤ op b y) ∧ tkB 28 (subF b x y 0) = decide (op b x = op b y) ∧
    tkB 30 (subF b x y 0) = decide (op b (x + M b / 2) < op b (y + M b / 2)) ∧ tkB 31 (subF b x y 0) = decide (op b (y + M b / 2) < op b (x + M b / 2)) ∧ tkB 32 (subF b x y 0) = decide (op b (x + M b / 2) ≤ op b (y + M b / 2)) := by
  obtain ⟨hc, hz, hl⟩ := cmp_codes b x y
  have he : (op b x = op b y) ↔ (op b (x + M b / 2) = op b (y + M b / 2)) := by
    cases b
    · show x % 65536 = y % 65536 ↔ (x + 65536 / 2) % 65536 = (y + 65536 / 2) % 65536
      omega
    · show x % 256 = y % 256 ↔ (x + 256 / 2) % 256 = (y + 256 / 2) % 256
      omega
  generalize subF b x y 0 = F at *
  generalize op b (x + M b / 2) = s at *
  generalize op b (y + M b / 2) = t at *
  generalize op b x = p at *
  generalize op b y = q at *
  refine ⟨hc, ?_, hz, hl, ?_, ?_⟩
  · show (fC F || fZ F) = _
    rw [hc, hz, ← Bool.decide_or, decide_eq_decide]; omega
  · show (!fZ F && (fN F == fV F)) = _
    have e : (fN F == fV F) = !decide (s < t) := by rw [← hl]; cases fN F <;> cases fV F <;> rfl
    rw [hz, e, ← decide_not, ← decide_not, ← Bool.decide_and, decide_eq_decide]; omega
  · show (fZ F || (fN F != fV F)) = _
    rw [hz, hl, ← Bool.decide_or, decide_eq_decide]; omega
/-! ### Opposite branches -/
theorem tk_pair (f : Int) (k : Nat) (hk : k < 7) : tkB (27 + 2 * (k : Int) + 1) f = !tkB (27 + 2 * (k : Int)) f := by
  rcases (by omega : k = 0 ∨ k = 1 ∨ k = 2 ∨ k = 3 ∨ k = 4 ∨ k = 5 ∨ k = 6) with rfl | rfl | rfl | rfl | rfl | rfl | rfl
  · show fZ f = !!fZ f
    cases fZ f <;> rfl
  · show (fN f != fV f) = !(fN f == fV f)
    rfl
  · show (fZ f || (fN f != fV f)) = !(!fZ f && (fN f == fV f))
    cases fZ f <;> cases fN f <;> cases fV f <;> rfl
  · show fN f = !!fN f
    cases fN f <;> rfl
  · show (fC f || fZ f) = !(!fC f && !fZ f)
    cases fC f <;> cases fZ f <;> rfl
  · show fV f = !!fV f
    cases fV f <;> rfl
  · show fC f = !!fC f
    cases fC f <;> rfl
/-! ### What undoes what -/
theorem un_com (b : Bool) (a f : Int) : (sngV 13 b (sngV 13 b a f).1 f).1 = op b a := by
  cases b
  · show (-1 - (-1 - a % 65536) % 65536 % 65536) % 65536 = a % 65536
    omega
  · show (-1 - (-1 - a % 256) % 256 % 256) % 256 = a % 256
    omega
theorem un_neg (b : Bool) (a f : Int) : (sngV 16 b (sngV 16 b a f).1 f).1 = op b a := by
  cases b
  · show (0 % 65536 - (0 % 65536 - a % 65536 % 65536 - 0 % 2) % 65536 % 65536 % 65536 - 0 % 2) % 65536 = a % 65536
    omega
  · show (0 % 256 - (0 % 256 - a % 256 % 256 - 0 % 2) % 256 % 256 % 256 - 0 % 2) % 256 = a % 256
    omega
theorem un_inc (b : Bool) (a f : Int) : (sngV 15 b (sngV 14 b a f).1 f).1 = op b a := by
  cases b
  · show ((a % 65536 % 65536 + 1 % 65536 + 0 % 2) % 65536 % 65536 % 65536 - 1 % 65536 - 0 % 2) % 65536 = a % 65536
    omega
  · show ((a % 256 % 256 + 1 % 256 + 0 % 2) % 256 % 256 % 256 - 1 % 256 - 0 % 2) % 256 = a % 256
    omega
theorem un_swab (a f : Int) : (sngV 24 false (sngV 24 false a f).1 f).1 = a % 65536 := by
  show (a % 65536 % 256 * 256 + a % 65536 / 256) % 65536 % 256 * 256 + (a % 65536 % 256 * 256 + a % 65536 / 256) % 65536 / 256 = a % 65536
  obtain ⟨h, hh⟩ : ∃ h, a % 65536 / 256 = h := ⟨_, rfl⟩
  obtain ⟨l, hl⟩ : ∃ l, a % 65536 % 256 = l := ⟨_, rfl⟩
  have b0 : 0 ≤ h ∧ h ≤ 255 := by omega
  have b1 : 0 ≤ l ∧ l ≤ 255 := by omega
  have e : a % 65536 = 256 * h + l := by omega
  rw [hh, hl, e]
  clear hh hl e
  have e1 : (l * 256 + h) % 65536 = l * 256 + h := by omega
  rw [e1]
  omega
theorem un_add (a b f : Int) : (dblV 7 false b (dblV 6 false b a f).1 f).1 = a % 65536 := by
  show ((a % 65536 % 65536 + b % 65536 % 65536 + 0 % 2) % 65536 % 65536 % 65536 - b % 65536 % 65536 - 0 % 2) % 65536 = a % 65536
  omega
end Go.Proofs.YtpimdbglmoopcaaDoor
