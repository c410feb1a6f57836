/-
  A valid instruction: its first word by the rows is the reference's, and decode of its words is the instruction; encode of what is decoded are the words. No condition.
-/
import Derived.Test.YtlaikajgpgpidaaDoorInV
import Derived.Test.YtlaikajgpgpidaaDoorInM
namespace Go.Proofs.YtlaikajgpgpidaaDoor
open Go.RowKit
set_option linter.unusedVariables false
set_option linter.unusedSimpArgs false
set_option maxRecDepth 10000
set_option maxHeartbeats 4000000

structure Enc (i : In) : Prop where
  eq : fstR i = rfR i
  word : 0 ≤ rfR i ∧ rfR i ≤ 65535
  sh : shR (rfR i) = ⟨i.o, i.b, i.m, i.r, 0, i.p, i.q, 0, i.g, i.n⟩
  x : exS i = false → i.x = 0
  y : exD i = false → i.y = 0
theorem ho_parts {e : Row} {i : In} (h : hoR e i = true) : ((e.e0 = 0 → i.b = false) ∧ hoO i.m i.r i.x e.e1 = true ∧ hoO i.p i.q i.y e.e2 = true) ∧ (0 ≤ i.g ∧ i.g ≤ takeR e.e3 e.e3) ∧ (e.e5 ≤ i.n ∧ i.n ≤ e.e5 + e.e4) := by
  unfold hoR at h
  simp only [Bool.and_eq_true, decide_eq_true_eq, Bool.or_eq_true, Bool.not_eq_true', decide_eq_false_iff_not] at h
  obtain ⟨⟨⟨⟨⟨⟨h1, h2⟩, h3⟩, h4⟩, h5⟩, h6⟩, h7⟩ := h
  exact ⟨⟨fun k => by rcases h1 with h1 | h1; exact absurd k h1; exact h1, h2, h3⟩, ⟨h4, h5⟩, ⟨h6, h7⟩⟩
theorem hoO_used {m r x f : Int} (hf : f ≠ 0) (h : hoO m r x f = true) : ((0 ≤ m ∧ m ≤ 7) ∧ (0 ≤ r ∧ r ≤ 7)) ∧ (exR (m % 8) (r % 8) = false → x = 0) := by
  unfold hoO at h
  rw [if_neg hf] at h
  obtain ⟨⟨h1, h2, h3, h4, h5, h6⟩, h7⟩ := vd_parts h
  refine ⟨⟨⟨h1, h2⟩, ⟨h3, h4⟩⟩, fun k => ?_⟩
  rw [Int.emod_eq_of_lt h1 (by omega), Int.emod_eq_of_lt h3 (by omega)] at k
  rcases h7 with h7 | h7
  · exact h7
  · rw [k] at h7; cases h7
theorem hoO_zero {m r x : Int} (h : hoO m r x 0 = true) : m = 0 ∧ r = 0 ∧ x = 0 := by
  unfold hoO at h
  rw [if_pos rfl, decide_eq_true_eq] at h
  exact h

theorem fp_0f (o m r x p q y : Int) (ho : 1 ≤ o ∧ o ≤ 5) (h1 : (0 ≤ m ∧ m ≤ 7) ∧ (0 ≤ r ∧ r ≤ 7)) (h2 : (0 ≤ p ∧ p ≤ 7) ∧ (0 ≤ q ∧ q ≤ 7)) : firstP ⟨1, 5, 4096, 12, 32768, 4032, 63, 0, 0, 0⟩ ⟨o, false, m, r, x, p, q, y, 0, 0⟩ = rfR ⟨o, false, m, r, x, p, q, y, 0, 0⟩ := by
  have hU := fdR_bds m r
  have hV := fdR_bds p q
  have q1 : placeR (fdR m r) 4032 = fdR m r * 64 := by simp [placeR]; try omega
  have q2 : placeR (fdR p q) 63 = fdR p q := by simp [placeR]; try omega
  have q3 : placeR 0 0 = 0 := by simp [placeR]
  have q4 : placeR 0 0 = 0 := by simp [placeR]
  have e : firstP ⟨1, 5, 4096, 12, 32768, 4032, 63, 0, 0, 0⟩ ⟨o, false, m, r, x, p, q, y, 0, 0⟩ = 4096 + (o - 1) * pwR 12 + bits .or .i64 (bits .or .i64 (bits .or .i64 (placeR (fdR m r) 4032) (placeR (fdR p q) 63)) (placeR 0 0)) (placeR 0 0) := rfl
  rw [e]
  simp only [q1, q2, q3, q4]
  rw [show pwR 12 = 4096 by decide, fst_0 o m r p q x y (by omega) h1 h2]
  clear e q1 q2 q3 q4
  generalize fdR m r = U at *
  generalize fdR p q = V at *
  rw [or64 (x := U) (v := V) (by omega) (by omega), or_z (x := U * 64 + V) (by omega), or_z (x := U * 64 + V) (by omega)]
  omega
theorem en_0f (o m r x p q y : Int) (hv : vR ⟨o, false, m, r, x, p, q, y, 0, 0⟩ = true) (ho : 1 ≤ o ∧ o ≤ 5) : Enc ⟨o, false, m, r, x, p, q, y, 0, 0⟩ := by
  have hf := form0 (o := o) (by omega)
  rw [vR_some (i := ⟨o, false, m, r, x, p, q, y, 0, 0⟩) hf, Bool.and_eq_true] at hv
  obtain ⟨⟨_, s1, s2⟩, s3, s4⟩ := ho_parts hv.1
  simp only at s1 s2 s3 s4
  have tt : takeR 0 0 = 0 := by decide
  rw [tt] at s3
  obtain ⟨h1, hx⟩ := hoO_used (by decide) s1
  obtain ⟨h2, hy⟩ := hoO_used (by decide) s2
  clear s3
  clear s4
  obtain ⟨w0, w1, w2⟩ := enc_0 o m r p q x y (by omega) h1 h2
  refine ⟨?_, ⟨by omega, by omega⟩, w2, hx, hy⟩
  have k : fstR ⟨o, false, m, r, x, p, q, y, 0, 0⟩ = firstP ⟨1, 5, 4096, 12, 32768, 4032, 63, 0, 0, 0⟩ ⟨o, false, m, r, x, p, q, y, 0, 0⟩ := by unfold fstR; rw [show formR (⟨o, false, m, r, x, p, q, y, 0, 0⟩ : In).o = some ⟨1, 5, 4096, 12, 32768, 4032, 63, 0, 0, 0⟩ from hf]
  rw [k, fp_0f o m r x p q y ho h1 h2]

theorem fp_0t (o m r x p q y : Int) (ho : 1 ≤ o ∧ o ≤ 5) (h1 : (0 ≤ m ∧ m ≤ 7) ∧ (0 ≤ r ∧ r ≤ 7)) (h2 : (0 ≤ p ∧ p ≤ 7) ∧ (0 ≤ q ∧ q ≤ 7)) : firstP ⟨1, 5, 4096, 12, 32768, 4032, 63, 0, 0, 0⟩ ⟨o, true, m, r, x, p, q, y, 0, 0⟩ = rfR ⟨o, true, m, r, x, p, q, y, 0, 0⟩ := by
  have hU := fdR_bds m r
  have hV := fdR_bds p q
  have q1 : placeR (fdR m r) 4032 = fdR m r * 64 := by simp [placeR]; try omega
  have q2 : placeR (fdR p q) 63 = fdR p q := by simp [placeR]; try omega
  have q3 : placeR 0 0 = 0 := by simp [placeR]
  have q4 : placeR 0 0 = 0 := by simp [placeR]
  have e : firstP ⟨1, 5, 4096, 12, 32768, 4032, 63, 0, 0, 0⟩ ⟨o, true, m, r, x, p, q, y, 0, 0⟩ = 4096 + (o - 1) * pwR 12 + bits .or .i64 (bits .or .i64 (bits .or .i64 (bits .or .i64 (placeR (fdR m r) 4032) (placeR (fdR p q) 63)) (placeR 0 0)) (placeR 0 0)) 32768 := rfl
  rw [e]
  simp only [q1, q2, q3, q4]
  rw [show pwR 12 = 4096 by decide, fst_1 o m r p q x y (by omega) h1 h2]
  clear e q1 q2 q3 q4
  generalize fdR m r = U at *
  generalize fdR p q = V at *
  rw [or64 (x := U) (v := V) (by omega) (by omega), or_z (x := U * 64 + V) (by omega), or_z (x := U * 64 + V) (by omega), or_byte (x := U * 64 + V) (by omega)]
  omega
theorem en_0t (o m r x p q y : Int) (hv : vR ⟨o, true, m, r, x, p, q, y, 0, 0⟩ = true) (ho : 1 ≤ o ∧ o ≤ 5) : Enc ⟨o, true, m, r, x, p, q, y, 0, 0⟩ := by
  have hf := form0 (o := o) (by omega)
  rw [vR_some (i := ⟨o, true, m, r, x, p, q, y, 0, 0⟩) hf, Bool.and_eq_true] at hv
  obtain ⟨⟨_, s1, s2⟩, s3, s4⟩ := ho_parts hv.1
  simp only at s1 s2 s3 s4
  have tt : takeR 0 0 = 0 := by decide
  rw [tt] at s3
  obtain ⟨h1, hx⟩ := hoO_used (by decide) s1
  obtain ⟨h2, hy⟩ := hoO_used (by decide) s2
  clear s3
  clear s4
  obtain ⟨w0, w1, w2⟩ := enc_1 o m r p q x y (by omega) h1 h2
  refine ⟨?_, ⟨by omega, by omega⟩, w2, hx, hy⟩
  have k : fstR ⟨o, true, m, r, x, p, q, y, 0, 0⟩ = firstP ⟨1, 5, 4096, 12, 32768, 4032, 63, 0, 0, 0⟩ ⟨o, true, m, r, x, p, q, y, 0, 0⟩ := by unfold fstR; rw [show formR (⟨o, true, m, r, x, p, q, y, 0, 0⟩ : In).o = some ⟨1, 5, 4096, 12, 32768, 4032, 63, 0, 0, 0⟩ from hf]
  rw [k, fp_0t o m r x p q y ho h1 h2]

theorem enc_c0 (o : Int) (b : Bool) (m r x p q y g n : Int) (ho : 1 ≤ o ∧ o ≤ 5) (hv : vR ⟨o, b, m, r, x, p, q, y, g, n⟩ = true) : Enc ⟨o, b, m, r, x, p, q, y, g, n⟩ := by
  have hf := form0 (o := o) (by omega)
  have hv2 := hv
  rw [vR_some (i := ⟨o, b, m, r, x, p, q, y, g, n⟩) hf, Bool.and_eq_true] at hv2
  obtain ⟨⟨sb, s1, s2⟩, s3, s4⟩ := ho_parts hv2.1
  simp only at sb s1 s2 s3 s4
  have tt : takeR 0 0 = 0 := by decide
  rw [tt] at s3
  clear hv2 hf
  obtain rfl : g = 0 := by omega
  obtain rfl : n = 0 := by omega
  cases b
  · exact en_0f o m r x p q y hv ho
  · exact en_0t o m r x p q y hv ho

theorem fp_1f (m r x p q y : Int) (h1 : (0 ≤ m ∧ m ≤ 7) ∧ (0 ≤ r ∧ r ≤ 7)) (h2 : (0 ≤ p ∧ p ≤ 7) ∧ (0 ≤ q ∧ q ≤ 7)) : firstP ⟨6, 7, 24576, 15, 0, 4032, 63, 0, 0, 0⟩ ⟨6, false, m, r, x, p, q, y, 0, 0⟩ = rfR ⟨6, false, m, r, x, p, q, y, 0, 0⟩ := by
  have hU := fdR_bds m r
  have hV := fdR_bds p q
  have q1 : placeR (fdR m r) 4032 = fdR m r * 64 := by simp [placeR]; try omega
  have q2 : placeR (fdR p q) 63 = fdR p q := by simp [placeR]; try omega
  have q3 : placeR 0 0 = 0 := by simp [placeR]
  have q4 : placeR 0 0 = 0 := by simp [placeR]
  have e : firstP ⟨6, 7, 24576, 15, 0, 4032, 63, 0, 0, 0⟩ ⟨6, false, m, r, x, p, q, y, 0, 0⟩ = 24576 + (6 - 6) * pwR 15 + bits .or .i64 (bits .or .i64 (bits .or .i64 (placeR (fdR m r) 4032) (placeR (fdR p q) 63)) (placeR 0 0)) (placeR 0 0) := rfl
  rw [e]
  simp only [q1, q2, q3, q4]
  rw [show pwR 15 = 32768 by decide, fst_2 m r p q x y h1 h2]
  clear e q1 q2 q3 q4
  generalize fdR m r = U at *
  generalize fdR p q = V at *
  rw [or64 (x := U) (v := V) (by omega) (by omega), or_z (x := U * 64 + V) (by omega), or_z (x := U * 64 + V) (by omega)]
  omega
theorem en_1f (m r x p q y : Int) (hv : vR ⟨6, false, m, r, x, p, q, y, 0, 0⟩ = true)  : Enc ⟨6, false, m, r, x, p, q, y, 0, 0⟩ := by
  have hf := form1 (o := 6) (by omega)
  rw [vR_some (i := ⟨6, false, m, r, x, p, q, y, 0, 0⟩) hf, Bool.and_eq_true] at hv
  obtain ⟨⟨_, s1, s2⟩, s3, s4⟩ := ho_parts hv.1
  simp only at s1 s2 s3 s4
  have tt : takeR 0 0 = 0 := by decide
  rw [tt] at s3
  obtain ⟨h1, hx⟩ := hoO_used (by decide) s1
  obtain ⟨h2, hy⟩ := hoO_used (by decide) s2
  clear s3
  clear s4
  obtain ⟨w0, w1, w2⟩ := enc_2 m r p q x y h1 h2
  refine ⟨?_, ⟨by omega, by omega⟩, w2, hx, hy⟩
  have k : fstR ⟨6, false, m, r, x, p, q, y, 0, 0⟩ = firstP ⟨6, 7, 24576, 15, 0, 4032, 63, 0, 0, 0⟩ ⟨6, false, m, r, x, p, q, y, 0, 0⟩ := by unfold fstR; rw [show formR (⟨6, false, m, r, x, p, q, y, 0, 0⟩ : In).o = some ⟨6, 7, 24576, 15, 0, 4032, 63, 0, 0, 0⟩ from hf]
  rw [k, fp_1f m r x p q y h1 h2]

theorem enc_c1 (b : Bool) (m r x p q y g n : Int) (hv : vR ⟨6, b, m, r, x, p, q, y, g, n⟩ = true) : Enc ⟨6, b, m, r, x, p, q, y, g, n⟩ := by
  have hf := form1 (o := 6) (by omega)
  have hv2 := hv
  rw [vR_some (i := ⟨6, b, m, r, x, p, q, y, g, n⟩) hf, Bool.and_eq_true] at hv2
  obtain ⟨⟨sb, s1, s2⟩, s3, s4⟩ := ho_parts hv2.1
  simp only at sb s1 s2 s3 s4
  have tt : takeR 0 0 = 0 := by decide
  rw [tt] at s3
  clear hv2 hf
  obtain rfl : g = 0 := by omega
  obtain rfl : n = 0 := by omega
  obtain rfl : b = false := by simpa using sb
  exact en_1f m r x p q y hv 

theorem fp_2f (m r x p q y : Int) (h1 : (0 ≤ m ∧ m ≤ 7) ∧ (0 ≤ r ∧ r ≤ 7)) (h2 : (0 ≤ p ∧ p ≤ 7) ∧ (0 ≤ q ∧ q ≤ 7)) : firstP ⟨6, 7, 24576, 15, 0, 4032, 63, 0, 0, 0⟩ ⟨7, false, m, r, x, p, q, y, 0, 0⟩ = rfR ⟨7, false, m, r, x, p, q, y, 0, 0⟩ := by
  have hU := fdR_bds m r
  have hV := fdR_bds p q
  have q1 : placeR (fdR m r) 4032 = fdR m r * 64 := by simp [placeR]; try omega
  have q2 : placeR (fdR p q) 63 = fdR p q := by simp [placeR]; try omega
  have q3 : placeR 0 0 = 0 := by simp [placeR]
  have q4 : placeR 0 0 = 0 := by simp [placeR]
  have e : firstP ⟨6, 7, 24576, 15, 0, 4032, 63, 0, 0, 0⟩ ⟨7, false, m, r, x, p, q, y, 0, 0⟩ = 24576 + (7 - 6) * pwR 15 + bits .or .i64 (bits .or .i64 (bits .or .i64 (placeR (fdR m r) 4032) (placeR (fdR p q) 63)) (placeR 0 0)) (placeR 0 0) := rfl
  rw [e]
  simp only [q1, q2, q3, q4]
  rw [show pwR 15 = 32768 by decide, fst_3 m r p q x y h1 h2]
  clear e q1 q2 q3 q4
  generalize fdR m r = U at *
  generalize fdR p q = V at *
  rw [or64 (x := U) (v := V) (by omega) (by omega), or_z (x := U * 64 + V) (by omega), or_z (x := U * 64 + V) (by omega)]
  omega
theorem en_2f (m r x p q y : Int) (hv : vR ⟨7, false, m, r, x, p, q, y, 0, 0⟩ = true)  : Enc ⟨7, false, m, r, x, p, q, y, 0, 0⟩ := by
  have hf := form1 (o := 7) (by omega)
  rw [vR_some (i := ⟨7, false, m, r, x, p, q, y, 0, 0⟩) hf, Bool.and_eq_true] at hv
  obtain ⟨⟨_, s1, s2⟩, s3, s4⟩ := ho_parts hv.1
  simp only at s1 s2 s3 s4
  have tt : takeR 0 0 = 0 := by decide
  rw [tt] at s3
  obtain ⟨h1, hx⟩ := hoO_used (by decide) s1
  obtain ⟨h2, hy⟩ := hoO_used (by decide) s2
  clear s3
  clear s4
  obtain ⟨w0, w1, w2⟩ := enc_3 m r p q x y h1 h2
  refine ⟨?_, ⟨by omega, by omega⟩, w2, hx, hy⟩
  have k : fstR ⟨7, false, m, r, x, p, q, y, 0, 0⟩ = firstP ⟨6, 7, 24576, 15, 0, 4032, 63, 0, 0, 0⟩ ⟨7, false, m, r, x, p, q, y, 0, 0⟩ := by unfold fstR; rw [show formR (⟨7, false, m, r, x, p, q, y, 0, 0⟩ : In).o = some ⟨6, 7, 24576, 15, 0, 4032, 63, 0, 0, 0⟩ from hf]
  rw [k, fp_2f m r x p q y h1 h2]

theorem enc_c2 (b : Bool) (m r x p q y g n : Int) (hv : vR ⟨7, b, m, r, x, p, q, y, g, n⟩ = true) : Enc ⟨7, b, m, r, x, p, q, y, g, n⟩ := by
  have hf := form1 (o := 7) (by omega)
  have hv2 := hv
  rw [vR_some (i := ⟨7, b, m, r, x, p, q, y, g, n⟩) hf, Bool.and_eq_true] at hv2
  obtain ⟨⟨sb, s1, s2⟩, s3, s4⟩ := ho_parts hv2.1
  simp only at sb s1 s2 s3 s4
  have tt : takeR 0 0 = 0 := by decide
  rw [tt] at s3
  clear hv2 hf
  obtain rfl : g = 0 := by omega
  obtain rfl : n = 0 := by omega
  obtain rfl : b = false := by simpa using sb
  exact en_2f m r x p q y hv 

theorem fp_3f (o m r x g : Int) (ho : 8 ≤ o ∧ o ≤ 10) (h1 : (0 ≤ m ∧ m ≤ 7) ∧ (0 ≤ r ∧ r ≤ 7)) (h3 : 0 ≤ g ∧ g ≤ 7) : firstP ⟨8, 10, 28672, 9, 0, 63, 0, 448, 0, 0⟩ ⟨o, false, m, r, x, 0, 0, 0, g, 0⟩ = rfR ⟨o, false, m, r, x, 0, 0, 0, g, 0⟩ := by
  have hU := fdR_bds m r
  have hV := fdR_bds 0 0
  have q1 : placeR (fdR m r) 63 = fdR m r := by simp [placeR]; try omega
  have q2 : placeR (fdR 0 0) 0 = 0 := by simp [placeR]
  have q3 : placeR g 448 = g * 64 := by simp [placeR]; try omega
  have q4 : placeR 0 0 = 0 := by simp [placeR]
  have e : firstP ⟨8, 10, 28672, 9, 0, 63, 0, 448, 0, 0⟩ ⟨o, false, m, r, x, 0, 0, 0, g, 0⟩ = 28672 + (o - 8) * pwR 9 + bits .or .i64 (bits .or .i64 (bits .or .i64 (placeR (fdR m r) 63) (placeR (fdR 0 0) 0)) (placeR g 448)) (placeR 0 0) := rfl
  rw [e]
  simp only [q1, q2, q3, q4]
  rw [show pwR 9 = 512 by decide, fst_4 o m r g x 0 (by omega) h1 h3]
  clear e q1 q2 q3 q4
  generalize fdR m r = U at *
  generalize fdR 0 0 = V at *
  rw [or_z (x := U) (by omega), or64' (x := g) (v := U) (by omega) (by omega), or_z (x := g * 64 + U) (by omega)]
  omega
theorem en_3f (o m r x g : Int) (hv : vR ⟨o, false, m, r, x, 0, 0, 0, g, 0⟩ = true) (ho : 8 ≤ o ∧ o ≤ 10) : Enc ⟨o, false, m, r, x, 0, 0, 0, g, 0⟩ := by
  have hf := form2 (o := o) (by omega)
  rw [vR_some (i := ⟨o, false, m, r, x, 0, 0, 0, g, 0⟩) hf, Bool.and_eq_true] at hv
  obtain ⟨⟨_, s1, s2⟩, s3, s4⟩ := ho_parts hv.1
  simp only at s1 s2 s3 s4
  have tt : takeR 448 448 = 7 := by decide
  rw [tt] at s3
  obtain ⟨h1, hx⟩ := hoO_used (by decide) s1
  clear s2
  have h3 := s3
  clear s4
  obtain ⟨w0, w1, w2⟩ := enc_4 o m r g x 0 (by omega) h1 h3
  refine ⟨?_, ⟨by omega, by omega⟩, w2, hx, fun _ => rfl⟩
  have k : fstR ⟨o, false, m, r, x, 0, 0, 0, g, 0⟩ = firstP ⟨8, 10, 28672, 9, 0, 63, 0, 448, 0, 0⟩ ⟨o, false, m, r, x, 0, 0, 0, g, 0⟩ := by unfold fstR; rw [show formR (⟨o, false, m, r, x, 0, 0, 0, g, 0⟩ : In).o = some ⟨8, 10, 28672, 9, 0, 63, 0, 448, 0, 0⟩ from hf]
  rw [k, fp_3f o m r x g ho h1 h3]

theorem enc_c3 (o : Int) (b : Bool) (m r x p q y g n : Int) (ho : 8 ≤ o ∧ o ≤ 10) (hv : vR ⟨o, b, m, r, x, p, q, y, g, n⟩ = true) : Enc ⟨o, b, m, r, x, p, q, y, g, n⟩ := by
  have hf := form2 (o := o) (by omega)
  have hv2 := hv
  rw [vR_some (i := ⟨o, b, m, r, x, p, q, y, g, n⟩) hf, Bool.and_eq_true] at hv2
  obtain ⟨⟨sb, s1, s2⟩, s3, s4⟩ := ho_parts hv2.1
  simp only at sb s1 s2 s3 s4
  have tt : takeR 448 448 = 7 := by decide
  rw [tt] at s3
  clear hv2 hf
  obtain ⟨rfl, rfl, rfl⟩ := hoO_zero s2
  obtain rfl : n = 0 := by omega
  obtain rfl : b = false := by simpa using sb
  exact en_3f o m r x g hv ho

theorem fp_4f (p q y g : Int) (h2 : (0 ≤ p ∧ p ≤ 7) ∧ (0 ≤ q ∧ q ≤ 7)) (h3 : 0 ≤ g ∧ g ≤ 7) : firstP ⟨11, 11, 30720, 0, 0, 0, 63, 448, 0, 0⟩ ⟨11, false, 0, 0, 0, p, q, y, g, 0⟩ = rfR ⟨11, false, 0, 0, 0, p, q, y, g, 0⟩ := by
  have hU := fdR_bds 0 0
  have hV := fdR_bds p q
  have q1 : placeR (fdR 0 0) 0 = 0 := by simp [placeR]
  have q2 : placeR (fdR p q) 63 = fdR p q := by simp [placeR]; try omega
  have q3 : placeR g 448 = g * 64 := by simp [placeR]; try omega
  have q4 : placeR 0 0 = 0 := by simp [placeR]
  have e : firstP ⟨11, 11, 30720, 0, 0, 0, 63, 448, 0, 0⟩ ⟨11, false, 0, 0, 0, p, q, y, g, 0⟩ = 30720 + (11 - 11) * pwR 0 + bits .or .i64 (bits .or .i64 (bits .or .i64 (placeR (fdR 0 0) 0) (placeR (fdR p q) 63)) (placeR g 448)) (placeR 0 0) := rfl
  rw [e]
  simp only [q1, q2, q3, q4]
  rw [show pwR 0 = 1 by decide, fst_5 p q g 0 y h2 h3]
  clear e q1 q2 q3 q4
  generalize fdR 0 0 = U at *
  generalize fdR p q = V at *
  rw [z_or (x := V) (by omega), or64' (x := g) (v := V) (by omega) (by omega), or_z (x := g * 64 + V) (by omega)]
  omega
theorem en_4f (p q y g : Int) (hv : vR ⟨11, false, 0, 0, 0, p, q, y, g, 0⟩ = true)  : Enc ⟨11, false, 0, 0, 0, p, q, y, g, 0⟩ := by
  have hf := form3 (o := 11) (by omega)
  rw [vR_some (i := ⟨11, false, 0, 0, 0, p, q, y, g, 0⟩) hf, Bool.and_eq_true] at hv
  obtain ⟨⟨_, s1, s2⟩, s3, s4⟩ := ho_parts hv.1
  simp only at s1 s2 s3 s4
  have tt : takeR 448 448 = 7 := by decide
  rw [tt] at s3
  clear s1
  obtain ⟨h2, hy⟩ := hoO_used (by decide) s2
  have h3 := s3
  clear s4
  obtain ⟨w0, w1, w2⟩ := enc_5 p q g 0 y h2 h3
  refine ⟨?_, ⟨by omega, by omega⟩, w2, fun _ => rfl, hy⟩
  have k : fstR ⟨11, false, 0, 0, 0, p, q, y, g, 0⟩ = firstP ⟨11, 11, 30720, 0, 0, 0, 63, 448, 0, 0⟩ ⟨11, false, 0, 0, 0, p, q, y, g, 0⟩ := by unfold fstR; rw [show formR (⟨11, false, 0, 0, 0, p, q, y, g, 0⟩ : In).o = some ⟨11, 11, 30720, 0, 0, 0, 63, 448, 0, 0⟩ from hf]
  rw [k, fp_4f p q y g h2 h3]

theorem enc_c4 (b : Bool) (m r x p q y g n : Int) (hv : vR ⟨11, b, m, r, x, p, q, y, g, n⟩ = true) : Enc ⟨11, b, m, r, x, p, q, y, g, n⟩ := by
  have hf := form3 (o := 11) (by omega)
  have hv2 := hv
  rw [vR_some (i := ⟨11, b, m, r, x, p, q, y, g, n⟩) hf, Bool.and_eq_true] at hv2
  obtain ⟨⟨sb, s1, s2⟩, s3, s4⟩ := ho_parts hv2.1
  simp only at sb s1 s2 s3 s4
  have tt : takeR 448 448 = 7 := by decide
  rw [tt] at s3
  clear hv2 hf
  obtain ⟨rfl, rfl, rfl⟩ := hoO_zero s1
  obtain rfl : n = 0 := by omega
  obtain rfl : b = false := by simpa using sb
  exact en_4f p q y g hv 

theorem fp_5f (o p q y : Int) (ho : 12 ≤ o ∧ o ≤ 19) (h2 : (0 ≤ p ∧ p ≤ 7) ∧ (0 ≤ q ∧ q ≤ 7)) : firstP ⟨12, 19, 2560, 6, 32768, 0, 63, 0, 0, 0⟩ ⟨o, false, 0, 0, 0, p, q, y, 0, 0⟩ = rfR ⟨o, false, 0, 0, 0, p, q, y, 0, 0⟩ := by
  have hU := fdR_bds 0 0
  have hV := fdR_bds p q
  have q1 : placeR (fdR 0 0) 0 = 0 := by simp [placeR]
  have q2 : placeR (fdR p q) 63 = fdR p q := by simp [placeR]; try omega
  have q3 : placeR 0 0 = 0 := by simp [placeR]
  have q4 : placeR 0 0 = 0 := by simp [placeR]
  have e : firstP ⟨12, 19, 2560, 6, 32768, 0, 63, 0, 0, 0⟩ ⟨o, false, 0, 0, 0, p, q, y, 0, 0⟩ = 2560 + (o - 12) * pwR 6 + bits .or .i64 (bits .or .i64 (bits .or .i64 (placeR (fdR 0 0) 0) (placeR (fdR p q) 63)) (placeR 0 0)) (placeR 0 0) := rfl
  rw [e]
  simp only [q1, q2, q3, q4]
  rw [show pwR 6 = 64 by decide, fst_7 o p q 0 y (by omega) h2]
  clear e q1 q2 q3 q4
  generalize fdR 0 0 = U at *
  generalize fdR p q = V at *
  rw [z_or (x := V) (by omega), or_z (x := V) (by omega), or_z (x := V) (by omega)]
  omega
theorem en_5f (o p q y : Int) (hv : vR ⟨o, false, 0, 0, 0, p, q, y, 0, 0⟩ = true) (ho : 12 ≤ o ∧ o ≤ 19) : Enc ⟨o, false, 0, 0, 0, p, q, y, 0, 0⟩ := by
  have hf := form4 (o := o) (by omega)
  rw [vR_some (i := ⟨o, false, 0, 0, 0, p, q, y, 0, 0⟩) hf, Bool.and_eq_true] at hv
  obtain ⟨⟨_, s1, s2⟩, s3, s4⟩ := ho_parts hv.1
  simp only at s1 s2 s3 s4
  have tt : takeR 0 0 = 0 := by decide
  rw [tt] at s3
  clear s1
  obtain ⟨h2, hy⟩ := hoO_used (by decide) s2
  clear s3
  clear s4
  obtain ⟨w0, w1, w2⟩ := enc_7 o p q 0 y (by omega) h2
  refine ⟨?_, ⟨by omega, by omega⟩, w2, fun _ => rfl, hy⟩
  have k : fstR ⟨o, false, 0, 0, 0, p, q, y, 0, 0⟩ = firstP ⟨12, 19, 2560, 6, 32768, 0, 63, 0, 0, 0⟩ ⟨o, false, 0, 0, 0, p, q, y, 0, 0⟩ := by unfold fstR; rw [show formR (⟨o, false, 0, 0, 0, p, q, y, 0, 0⟩ : In).o = some ⟨12, 19, 2560, 6, 32768, 0, 63, 0, 0, 0⟩ from hf]
  rw [k, fp_5f o p q y ho h2]

theorem fp_5t (o p q y : Int) (ho : 12 ≤ o ∧ o ≤ 19) (h2 : (0 ≤ p ∧ p ≤ 7) ∧ (0 ≤ q ∧ q ≤ 7)) : firstP ⟨12, 19, 2560, 6, 32768, 0, 63, 0, 0, 0⟩ ⟨o, true, 0, 0, 0, p, q, y, 0, 0⟩ = rfR ⟨o, true, 0, 0, 0, p, q, y, 0, 0⟩ := by
  have hU := fdR_bds 0 0
  have hV := fdR_bds p q
  have q1 : placeR (fdR 0 0) 0 = 0 := by simp [placeR]
  have q2 : placeR (fdR p q) 63 = fdR p q := by simp [placeR]; try omega
  have q3 : placeR 0 0 = 0 := by simp [placeR]
  have q4 : placeR 0 0 = 0 := by simp [placeR]
  have e : firstP ⟨12, 19, 2560, 6, 32768, 0, 63, 0, 0, 0⟩ ⟨o, true, 0, 0, 0, p, q, y, 0, 0⟩ = 2560 + (o - 12) * pwR 6 + bits .or .i64 (bits .or .i64 (bits .or .i64 (bits .or .i64 (placeR (fdR 0 0) 0) (placeR (fdR p q) 63)) (placeR 0 0)) (placeR 0 0)) 32768 := rfl
  rw [e]
  simp only [q1, q2, q3, q4]
  rw [show pwR 6 = 64 by decide, fst_8 o p q 0 y (by omega) h2]
  clear e q1 q2 q3 q4
  generalize fdR 0 0 = U at *
  generalize fdR p q = V at *
  rw [z_or (x := V) (by omega), or_z (x := V) (by omega), or_z (x := V) (by omega), or_byte (x := V) (by omega)]
  omega
theorem en_5t (o p q y : Int) (hv : vR ⟨o, true, 0, 0, 0, p, q, y, 0, 0⟩ = true) (ho : 12 ≤ o ∧ o ≤ 19) : Enc ⟨o, true, 0, 0, 0, p, q, y, 0, 0⟩ := by
  have hf := form4 (o := o) (by omega)
  rw [vR_some (i := ⟨o, true, 0, 0, 0, p, q, y, 0, 0⟩) hf, Bool.and_eq_true] at hv
  obtain ⟨⟨_, s1, s2⟩, s3, s4⟩ := ho_parts hv.1
  simp only at s1 s2 s3 s4
  have tt : takeR 0 0 = 0 := by decide
  rw [tt] at s3
  clear s1
  obtain ⟨h2, hy⟩ := hoO_used (by decide) s2
  clear s3
  clear s4
  obtain ⟨w0, w1, w2⟩ := enc_8 o p q 0 y (by omega) h2
  refine ⟨?_, ⟨by omega, by omega⟩, w2, fun _ => rfl, hy⟩
  have k : fstR ⟨o, true, 0, 0, 0, p, q, y, 0, 0⟩ = firstP ⟨12, 19, 2560, 6, 32768, 0, 63, 0, 0, 0⟩ ⟨o, true, 0, 0, 0, p, q, y, 0, 0⟩ := by unfold fstR; rw [show formR (⟨o, true, 0, 0, 0, p, q, y, 0, 0⟩ : In).o = some ⟨12, 19, 2560, 6, 32768, 0, 63, 0, 0, 0⟩ from hf]
  rw [k, fp_5t o p q y ho h2]

theorem enc_c5 (o : Int) (b : Bool) (m r x p q y g n : Int) (ho : 12 ≤ o ∧ o ≤ 19) (hv : vR ⟨o, b, m, r, x, p, q, y, g, n⟩ = true) : Enc ⟨o, b, m, r, x, p, q, y, g, n⟩ := by
  have hf := form4 (o := o) (by omega)
  have hv2 := hv
  rw [vR_some (i := ⟨o, b, m, r, x, p, q, y, g, n⟩) hf, Bool.and_eq_true] at hv2
  obtain ⟨⟨sb, s1, s2⟩, s3, s4⟩ := ho_parts hv2.1
  simp only at sb s1 s2 s3 s4
  have tt : takeR 0 0 = 0 := by decide
  rw [tt] at s3
  clear hv2 hf
  obtain ⟨rfl, rfl, rfl⟩ := hoO_zero s1
  obtain rfl : g = 0 := by omega
  obtain rfl : n = 0 := by omega
  cases b
  · exact en_5f o p q y hv ho
  · exact en_5t o p q y hv ho

theorem fp_6f (o p q y : Int) (ho : 20 ≤ o ∧ o ≤ 23) (h2 : (0 ≤ p ∧ p ≤ 7) ∧ (0 ≤ q ∧ q ≤ 7)) : firstP ⟨20, 23, 3072, 6, 32768, 0, 63, 0, 0, 0⟩ ⟨o, false, 0, 0, 0, p, q, y, 0, 0⟩ = rfR ⟨o, false, 0, 0, 0, p, q, y, 0, 0⟩ := by
  have hU := fdR_bds 0 0
  have hV := fdR_bds p q
  have q1 : placeR (fdR 0 0) 0 = 0 := by simp [placeR]
  have q2 : placeR (fdR p q) 63 = fdR p q := by simp [placeR]; try omega
  have q3 : placeR 0 0 = 0 := by simp [placeR]
  have q4 : placeR 0 0 = 0 := by simp [placeR]
  have e : firstP ⟨20, 23, 3072, 6, 32768, 0, 63, 0, 0, 0⟩ ⟨o, false, 0, 0, 0, p, q, y, 0, 0⟩ = 3072 + (o - 20) * pwR 6 + bits .or .i64 (bits .or .i64 (bits .or .i64 (placeR (fdR 0 0) 0) (placeR (fdR p q) 63)) (placeR 0 0)) (placeR 0 0) := rfl
  rw [e]
  simp only [q1, q2, q3, q4]
  rw [show pwR 6 = 64 by decide, fst_9 o p q 0 y (by omega) h2]
  clear e q1 q2 q3 q4
  generalize fdR 0 0 = U at *
  generalize fdR p q = V at *
  rw [z_or (x := V) (by omega), or_z (x := V) (by omega), or_z (x := V) (by omega)]
  omega
theorem en_6f (o p q y : Int) (hv : vR ⟨o, false, 0, 0, 0, p, q, y, 0, 0⟩ = true) (ho : 20 ≤ o ∧ o ≤ 23) : Enc ⟨o, false, 0, 0, 0, p, q, y, 0, 0⟩ := by
  have hf := form5 (o := o) (by omega)
  rw [vR_some (i := ⟨o, false, 0, 0, 0, p, q, y, 0, 0⟩) hf, Bool.and_eq_true] at hv
  obtain ⟨⟨_, s1, s2⟩, s3, s4⟩ := ho_parts hv.1
  simp only at s1 s2 s3 s4
  have tt : takeR 0 0 = 0 := by decide
  rw [tt] at s3
  clear s1
  obtain ⟨h2, hy⟩ := hoO_used (by decide) s2
  clear s3
  clear s4
  obtain ⟨w0, w1, w2⟩ := enc_9 o p q 0 y (by omega) h2
  refine ⟨?_, ⟨by omega, by omega⟩, w2, fun _ => rfl, hy⟩
  have k : fstR ⟨o, false, 0, 0, 0, p, q, y, 0, 0⟩ = firstP ⟨20, 23, 3072, 6, 32768, 0, 63, 0, 0, 0⟩ ⟨o, false, 0, 0, 0, p, q, y, 0, 0⟩ := by unfold fstR; rw [show formR (⟨o, false, 0, 0, 0, p, q, y, 0, 0⟩ : In).o = some ⟨20, 23, 3072, 6, 32768, 0, 63, 0, 0, 0⟩ from hf]
  rw [k, fp_6f o p q y ho h2]

theorem fp_6t (o p q y : Int) (ho : 20 ≤ o ∧ o ≤ 23) (h2 : (0 ≤ p ∧ p ≤ 7) ∧ (0 ≤ q ∧ q ≤ 7)) : firstP ⟨20, 23, 3072, 6, 32768, 0, 63, 0, 0, 0⟩ ⟨o, true, 0, 0, 0, p, q, y, 0, 0⟩ = rfR ⟨o, true, 0, 0, 0, p, q, y, 0, 0⟩ := by
  have hU := fdR_bds 0 0
  have hV := fdR_bds p q
  have q1 : placeR (fdR 0 0) 0 = 0 := by simp [placeR]
  have q2 : placeR (fdR p q) 63 = fdR p q := by simp [placeR]; try omega
  have q3 : placeR 0 0 = 0 := by simp [placeR]
  have q4 : placeR 0 0 = 0 := by simp [placeR]
  have e : firstP ⟨20, 23, 3072, 6, 32768, 0, 63, 0, 0, 0⟩ ⟨o, true, 0, 0, 0, p, q, y, 0, 0⟩ = 3072 + (o - 20) * pwR 6 + bits .or .i64 (bits .or .i64 (bits .or .i64 (bits .or .i64 (placeR (fdR 0 0) 0) (placeR (fdR p q) 63)) (placeR 0 0)) (placeR 0 0)) 32768 := rfl
  rw [e]
  simp only [q1, q2, q3, q4]
  rw [show pwR 6 = 64 by decide, fst_10 o p q 0 y (by omega) h2]
  clear e q1 q2 q3 q4
  generalize fdR 0 0 = U at *
  generalize fdR p q = V at *
  rw [z_or (x := V) (by omega), or_z (x := V) (by omega), or_z (x := V) (by omega), or_byte (x := V) (by omega)]
  omega
theorem en_6t (o p q y : Int) (hv : vR ⟨o, true, 0, 0, 0, p, q, y, 0, 0⟩ = true) (ho : 20 ≤ o ∧ o ≤ 23) : Enc ⟨o, true, 0, 0, 0, p, q, y, 0, 0⟩ := by
  have hf := form5 (o := o) (by omega)
  rw [vR_some (i := ⟨o, true, 0, 0, 0, p, q, y, 0, 0⟩) hf, Bool.and_eq_true] at hv
  obtain ⟨⟨_, s1, s2⟩, s3, s4⟩ := ho_parts hv.1
  simp only at s1 s2 s3 s4
  have tt : takeR 0 0 = 0 := by decide
  rw [tt] at s3
  clear s1
  obtain ⟨h2, hy⟩ := hoO_used (by decide) s2
  clear s3
  clear s4
  obtain ⟨w0, w1, w2⟩ := enc_10 o p q 0 y (by omega) h2
  refine ⟨?_, ⟨by omega, by omega⟩, w2, fun _ => rfl, hy⟩
  have k : fstR ⟨o, true, 0, 0, 0, p, q, y, 0, 0⟩ = firstP ⟨20, 23, 3072, 6, 32768, 0, 63, 0, 0, 0⟩ ⟨o, true, 0, 0, 0, p, q, y, 0, 0⟩ := by unfold fstR; rw [show formR (⟨o, true, 0, 0, 0, p, q, y, 0, 0⟩ : In).o = some ⟨20, 23, 3072, 6, 32768, 0, 63, 0, 0, 0⟩ from hf]
  rw [k, fp_6t o p q y ho h2]

theorem enc_c6 (o : Int) (b : Bool) (m r x p q y g n : Int) (ho : 20 ≤ o ∧ o ≤ 23) (hv : vR ⟨o, b, m, r, x, p, q, y, g, n⟩ = true) : Enc ⟨o, b, m, r, x, p, q, y, g, n⟩ := by
  have hf := form5 (o := o) (by omega)
  have hv2 := hv
  rw [vR_some (i := ⟨o, b, m, r, x, p, q, y, g, n⟩) hf, Bool.and_eq_true] at hv2
  obtain ⟨⟨sb, s1, s2⟩, s3, s4⟩ := ho_parts hv2.1
  simp only at sb s1 s2 s3 s4
  have tt : takeR 0 0 = 0 := by decide
  rw [tt] at s3
  clear hv2 hf
  obtain ⟨rfl, rfl, rfl⟩ := hoO_zero s1
  obtain rfl : g = 0 := by omega
  obtain rfl : n = 0 := by omega
  cases b
  · exact en_6f o p q y hv ho
  · exact en_6t o p q y hv ho

theorem fp_7f (p q y : Int) (h2 : (0 ≤ p ∧ p ≤ 7) ∧ (0 ≤ q ∧ q ≤ 7)) : firstP ⟨24, 24, 192, 0, 0, 0, 63, 0, 0, 0⟩ ⟨24, false, 0, 0, 0, p, q, y, 0, 0⟩ = rfR ⟨24, false, 0, 0, 0, p, q, y, 0, 0⟩ := by
  have hU := fdR_bds 0 0
  have hV := fdR_bds p q
  have q1 : placeR (fdR 0 0) 0 = 0 := by simp [placeR]
  have q2 : placeR (fdR p q) 63 = fdR p q := by simp [placeR]; try omega
  have q3 : placeR 0 0 = 0 := by simp [placeR]
  have q4 : placeR 0 0 = 0 := by simp [placeR]
  have e : firstP ⟨24, 24, 192, 0, 0, 0, 63, 0, 0, 0⟩ ⟨24, false, 0, 0, 0, p, q, y, 0, 0⟩ = 192 + (24 - 24) * pwR 0 + bits .or .i64 (bits .or .i64 (bits .or .i64 (placeR (fdR 0 0) 0) (placeR (fdR p q) 63)) (placeR 0 0)) (placeR 0 0) := rfl
  rw [e]
  simp only [q1, q2, q3, q4]
  rw [show pwR 0 = 1 by decide, fst_11 p q 0 y h2]
  clear e q1 q2 q3 q4
  generalize fdR 0 0 = U at *
  generalize fdR p q = V at *
  rw [z_or (x := V) (by omega), or_z (x := V) (by omega), or_z (x := V) (by omega)]
  omega
theorem en_7f (p q y : Int) (hv : vR ⟨24, false, 0, 0, 0, p, q, y, 0, 0⟩ = true)  : Enc ⟨24, false, 0, 0, 0, p, q, y, 0, 0⟩ := by
  have hf := form6 (o := 24) (by omega)
  rw [vR_some (i := ⟨24, false, 0, 0, 0, p, q, y, 0, 0⟩) hf, Bool.and_eq_true] at hv
  obtain ⟨⟨_, s1, s2⟩, s3, s4⟩ := ho_parts hv.1
  simp only at s1 s2 s3 s4
  have tt : takeR 0 0 = 0 := by decide
  rw [tt] at s3
  clear s1
  obtain ⟨h2, hy⟩ := hoO_used (by decide) s2
  clear s3
  clear s4
  obtain ⟨w0, w1, w2⟩ := enc_11 p q 0 y h2
  refine ⟨?_, ⟨by omega, by omega⟩, w2, fun _ => rfl, hy⟩
  have k : fstR ⟨24, false, 0, 0, 0, p, q, y, 0, 0⟩ = firstP ⟨24, 24, 192, 0, 0, 0, 63, 0, 0, 0⟩ ⟨24, false, 0, 0, 0, p, q, y, 0, 0⟩ := by unfold fstR; rw [show formR (⟨24, false, 0, 0, 0, p, q, y, 0, 0⟩ : In).o = some ⟨24, 24, 192, 0, 0, 0, 63, 0, 0, 0⟩ from hf]
  rw [k, fp_7f p q y h2]

theorem enc_c7 (b : Bool) (m r x p q y g n : Int) (hv : vR ⟨24, b, m, r, x, p, q, y, g, n⟩ = true) : Enc ⟨24, b, m, r, x, p, q, y, g, n⟩ := by
  have hf := form6 (o := 24) (by omega)
  have hv2 := hv
  rw [vR_some (i := ⟨24, b, m, r, x, p, q, y, g, n⟩) hf, Bool.and_eq_true] at hv2
  obtain ⟨⟨sb, s1, s2⟩, s3, s4⟩ := ho_parts hv2.1
  simp only at sb s1 s2 s3 s4
  have tt : takeR 0 0 = 0 := by decide
  rw [tt] at s3
  clear hv2 hf
  obtain ⟨rfl, rfl, rfl⟩ := hoO_zero s1
  obtain rfl : g = 0 := by omega
  obtain rfl : n = 0 := by omega
  obtain rfl : b = false := by simpa using sb
  exact en_7f p q y hv 

theorem fp_8f (p q y : Int) (h2 : (0 ≤ p ∧ p ≤ 7) ∧ (0 ≤ q ∧ q ≤ 7)) : firstP ⟨25, 25, 3520, 0, 0, 0, 63, 0, 0, 0⟩ ⟨25, false, 0, 0, 0, p, q, y, 0, 0⟩ = rfR ⟨25, false, 0, 0, 0, p, q, y, 0, 0⟩ := by
  have hU := fdR_bds 0 0
  have hV := fdR_bds p q
  have q1 : placeR (fdR 0 0) 0 = 0 := by simp [placeR]
  have q2 : placeR (fdR p q) 63 = fdR p q := by simp [placeR]; try omega
  have q3 : placeR 0 0 = 0 := by simp [placeR]
  have q4 : placeR 0 0 = 0 := by simp [placeR]
  have e : firstP ⟨25, 25, 3520, 0, 0, 0, 63, 0, 0, 0⟩ ⟨25, false, 0, 0, 0, p, q, y, 0, 0⟩ = 3520 + (25 - 25) * pwR 0 + bits .or .i64 (bits .or .i64 (bits .or .i64 (placeR (fdR 0 0) 0) (placeR (fdR p q) 63)) (placeR 0 0)) (placeR 0 0) := rfl
  rw [e]
  simp only [q1, q2, q3, q4]
  rw [show pwR 0 = 1 by decide, fst_12 p q 0 y h2]
  clear e q1 q2 q3 q4
  generalize fdR 0 0 = U at *
  generalize fdR p q = V at *
  rw [z_or (x := V) (by omega), or_z (x := V) (by omega), or_z (x := V) (by omega)]
  omega
theorem en_8f (p q y : Int) (hv : vR ⟨25, false, 0, 0, 0, p, q, y, 0, 0⟩ = true)  : Enc ⟨25, false, 0, 0, 0, p, q, y, 0, 0⟩ := by
  have hf := form7 (o := 25) (by omega)
  rw [vR_some (i := ⟨25, false, 0, 0, 0, p, q, y, 0, 0⟩) hf, Bool.and_eq_true] at hv
  obtain ⟨⟨_, s1, s2⟩, s3, s4⟩ := ho_parts hv.1
  simp only at s1 s2 s3 s4
  have tt : takeR 0 0 = 0 := by decide
  rw [tt] at s3
  clear s1
  obtain ⟨h2, hy⟩ := hoO_used (by decide) s2
  clear s3
  clear s4
  obtain ⟨w0, w1, w2⟩ := enc_12 p q 0 y h2
  refine ⟨?_, ⟨by omega, by omega⟩, w2, fun _ => rfl, hy⟩
  have k : fstR ⟨25, false, 0, 0, 0, p, q, y, 0, 0⟩ = firstP ⟨25, 25, 3520, 0, 0, 0, 63, 0, 0, 0⟩ ⟨25, false, 0, 0, 0, p, q, y, 0, 0⟩ := by unfold fstR; rw [show formR (⟨25, false, 0, 0, 0, p, q, y, 0, 0⟩ : In).o = some ⟨25, 25, 3520, 0, 0, 0, 63, 0, 0, 0⟩ from hf]
  rw [k, fp_8f p q y h2]

theorem enc_c8 (b : Bool) (m r x p q y g n : Int) (hv : vR ⟨25, b, m, r, x, p, q, y, g, n⟩ = true) : Enc ⟨25, b, m, r, x, p, q, y, g, n⟩ := by
  have hf := form7 (o := 25) (by omega)
  have hv2 := hv
  rw [vR_some (i := ⟨25, b, m, r, x, p, q, y, g, n⟩) hf, Bool.and_eq_true] at hv2
  obtain ⟨⟨sb, s1, s2⟩, s3, s4⟩ := ho_parts hv2.1
  simp only at sb s1 s2 s3 s4
  have tt : takeR 0 0 = 0 := by decide
  rw [tt] at s3
  clear hv2 hf
  obtain ⟨rfl, rfl, rfl⟩ := hoO_zero s1
  obtain rfl : g = 0 := by omega
  obtain rfl : n = 0 := by omega
  obtain rfl : b = false := by simpa using sb
  exact en_8f p q y hv 

theorem fp_9f (o n : Int) (ho : 26 ≤ o ∧ o ≤ 32) (h4 : -128 ≤ n ∧ n ≤ 127) : firstP ⟨26, 32, 256, 8, 0, 0, 0, 0, 255, -128⟩ ⟨o, false, 0, 0, 0, 0, 0, 0, 0, n⟩ = rfR ⟨o, false, 0, 0, 0, 0, 0, 0, 0, n⟩ := by
  have hU := fdR_bds 0 0
  have hV := fdR_bds 0 0
  have q1 : placeR (fdR 0 0) 0 = 0 := by simp [placeR]
  have q2 : placeR (fdR 0 0) 0 = 0 := by simp [placeR]
  have q3 : placeR 0 0 = 0 := by simp [placeR]
  have q4 : placeR n 255 = n % 256 := by simp [placeR]; try omega
  have e : firstP ⟨26, 32, 256, 8, 0, 0, 0, 0, 255, -128⟩ ⟨o, false, 0, 0, 0, 0, 0, 0, 0, n⟩ = 256 + (o - 26) * pwR 8 + bits .or .i64 (bits .or .i64 (bits .or .i64 (placeR (fdR 0 0) 0) (placeR (fdR 0 0) 0)) (placeR 0 0)) (placeR n 255) := rfl
  rw [e]
  simp only [q1, q2, q3, q4]
  rw [show pwR 8 = 256 by decide, fst_18 o n 0 0 (by omega) h4]
  clear e q1 q2 q3 q4
  generalize fdR 0 0 = U at *
  generalize fdR 0 0 = V at *
  rw [z_or (x := 0) (by omega), z_or (x := 0) (by omega), z_or (x := n % 256) (by omega)]
  omega
theorem en_9f (o n : Int) (hv : vR ⟨o, false, 0, 0, 0, 0, 0, 0, 0, n⟩ = true) (ho : 26 ≤ o ∧ o ≤ 32) : Enc ⟨o, false, 0, 0, 0, 0, 0, 0, 0, n⟩ := by
  have hf := form14 (o := o) (by omega)
  rw [vR_some (i := ⟨o, false, 0, 0, 0, 0, 0, 0, 0, n⟩) hf, Bool.and_eq_true] at hv
  obtain ⟨⟨_, s1, s2⟩, s3, s4⟩ := ho_parts hv.1
  simp only at s1 s2 s3 s4
  have tt : takeR 0 0 = 0 := by decide
  rw [tt] at s3
  clear s1
  clear s2
  clear s3
  have h4 : -128 ≤ n ∧ n ≤ 127 := by omega
  obtain ⟨w0, w1, w2⟩ := enc_18 o n 0 0 (by omega) h4
  refine ⟨?_, ⟨by omega, by omega⟩, w2, fun _ => rfl, fun _ => rfl⟩
  have k : fstR ⟨o, false, 0, 0, 0, 0, 0, 0, 0, n⟩ = firstP ⟨26, 32, 256, 8, 0, 0, 0, 0, 255, -128⟩ ⟨o, false, 0, 0, 0, 0, 0, 0, 0, n⟩ := by unfold fstR; rw [show formR (⟨o, false, 0, 0, 0, 0, 0, 0, 0, n⟩ : In).o = some ⟨26, 32, 256, 8, 0, 0, 0, 0, 255, -128⟩ from hf]
  rw [k, fp_9f o n ho h4]

theorem enc_c9 (o : Int) (b : Bool) (m r x p q y g n : Int) (ho : 26 ≤ o ∧ o ≤ 32) (hv : vR ⟨o, b, m, r, x, p, q, y, g, n⟩ = true) : Enc ⟨o, b, m, r, x, p, q, y, g, n⟩ := by
  have hf := form14 (o := o) (by omega)
  have hv2 := hv
  rw [vR_some (i := ⟨o, b, m, r, x, p, q, y, g, n⟩) hf, Bool.and_eq_true] at hv2
  obtain ⟨⟨sb, s1, s2⟩, s3, s4⟩ := ho_parts hv2.1
  simp only at sb s1 s2 s3 s4
  have tt : takeR 0 0 = 0 := by decide
  rw [tt] at s3
  clear hv2 hf
  obtain ⟨rfl, rfl, rfl⟩ := hoO_zero s1
  obtain ⟨rfl, rfl, rfl⟩ := hoO_zero s2
  obtain rfl : g = 0 := by omega
  obtain rfl : b = false := by simpa using sb
  exact en_9f o n hv ho

theorem fp_10f (o n : Int) (ho : 33 ≤ o ∧ o ≤ 40) (h4 : -128 ≤ n ∧ n ≤ 127) : firstP ⟨33, 40, 32768, 8, 0, 0, 0, 0, 255, -128⟩ ⟨o, false, 0, 0, 0, 0, 0, 0, 0, n⟩ = rfR ⟨o, false, 0, 0, 0, 0, 0, 0, 0, n⟩ := by
  have hU := fdR_bds 0 0
  have hV := fdR_bds 0 0
  have q1 : placeR (fdR 0 0) 0 = 0 := by simp [placeR]
  have q2 : placeR (fdR 0 0) 0 = 0 := by simp [placeR]
  have q3 : placeR 0 0 = 0 := by simp [placeR]
  have q4 : placeR n 255 = n % 256 := by simp [placeR]; try omega
  have e : firstP ⟨33, 40, 32768, 8, 0, 0, 0, 0, 255, -128⟩ ⟨o, false, 0, 0, 0, 0, 0, 0, 0, n⟩ = 32768 + (o - 33) * pwR 8 + bits .or .i64 (bits .or .i64 (bits .or .i64 (placeR (fdR 0 0) 0) (placeR (fdR 0 0) 0)) (placeR 0 0)) (placeR n 255) := rfl
  rw [e]
  simp only [q1, q2, q3, q4]
  rw [show pwR 8 = 256 by decide, fst_19 o n 0 0 (by omega) h4]
  clear e q1 q2 q3 q4
  generalize fdR 0 0 = U at *
  generalize fdR 0 0 = V at *
  rw [z_or (x := 0) (by omega), z_or (x := 0) (by omega), z_or (x := n % 256) (by omega)]
  omega
theorem en_10f (o n : Int) (hv : vR ⟨o, false, 0, 0, 0, 0, 0, 0, 0, n⟩ = true) (ho : 33 ≤ o ∧ o ≤ 40) : Enc ⟨o, false, 0, 0, 0, 0, 0, 0, 0, n⟩ := by
  have hf := form15 (o := o) (by omega)
  rw [vR_some (i := ⟨o, false, 0, 0, 0, 0, 0, 0, 0, n⟩) hf, Bool.and_eq_true] at hv
  obtain ⟨⟨_, s1, s2⟩, s3, s4⟩ := ho_parts hv.1
  simp only at s1 s2 s3 s4
  have tt : takeR 0 0 = 0 := by decide
  rw [tt] at s3
  clear s1
  clear s2
  clear s3
  have h4 : -128 ≤ n ∧ n ≤ 127 := by omega
  obtain ⟨w0, w1, w2⟩ := enc_19 o n 0 0 (by omega) h4
  refine ⟨?_, ⟨by omega, by omega⟩, w2, fun _ => rfl, fun _ => rfl⟩
  have k : fstR ⟨o, false, 0, 0, 0, 0, 0, 0, 0, n⟩ = firstP ⟨33, 40, 32768, 8, 0, 0, 0, 0, 255, -128⟩ ⟨o, false, 0, 0, 0, 0, 0, 0, 0, n⟩ := by unfold fstR; rw [show formR (⟨o, false, 0, 0, 0, 0, 0, 0, 0, n⟩ : In).o = some ⟨33, 40, 32768, 8, 0, 0, 0, 0, 255, -128⟩ from hf]
  rw [k, fp_10f o n ho h4]

theorem enc_c10 (o : Int) (b : Bool) (m r x p q y g n : Int) (ho : 33 ≤ o ∧ o ≤ 40) (hv : vR ⟨o, b, m, r, x, p, q, y, g, n⟩ = true) : Enc ⟨o, b, m, r, x, p, q, y, g, n⟩ := by
  have hf := form15 (o := o) (by omega)
  have hv2 := hv
  rw [vR_some (i := ⟨o, b, m, r, x, p, q, y, g, n⟩) hf, Bool.and_eq_true] at hv2
  obtain ⟨⟨sb, s1, s2⟩, s3, s4⟩ := ho_parts hv2.1
  simp only at sb s1 s2 s3 s4
  have tt : takeR 0 0 = 0 := by decide
  rw [tt] at s3
  clear hv2 hf
  obtain ⟨rfl, rfl, rfl⟩ := hoO_zero s1
  obtain ⟨rfl, rfl, rfl⟩ := hoO_zero s2
  obtain rfl : g = 0 := by omega
  obtain rfl : b = false := by simpa using sb
  exact en_10f o n hv ho

theorem fp_11f (p q y : Int) (h2 : (0 ≤ p ∧ p ≤ 7) ∧ (0 ≤ q ∧ q ≤ 7)) : firstP ⟨41, 41, 64, 0, 0, 0, 63, 0, 0, 0⟩ ⟨41, false, 0, 0, 0, p, q, y, 0, 0⟩ = rfR ⟨41, false, 0, 0, 0, p, q, y, 0, 0⟩ := by
  have hU := fdR_bds 0 0
  have hV := fdR_bds p q
  have q1 : placeR (fdR 0 0) 0 = 0 := by simp [placeR]
  have q2 : placeR (fdR p q) 63 = fdR p q := by simp [placeR]; try omega
  have q3 : placeR 0 0 = 0 := by simp [placeR]
  have q4 : placeR 0 0 = 0 := by simp [placeR]
  have e : firstP ⟨41, 41, 64, 0, 0, 0, 63, 0, 0, 0⟩ ⟨41, false, 0, 0, 0, p, q, y, 0, 0⟩ = 64 + (41 - 41) * pwR 0 + bits .or .i64 (bits .or .i64 (bits .or .i64 (placeR (fdR 0 0) 0) (placeR (fdR p q) 63)) (placeR 0 0)) (placeR 0 0) := rfl
  rw [e]
  simp only [q1, q2, q3, q4]
  rw [show pwR 0 = 1 by decide, fst_15 p q 0 y h2]
  clear e q1 q2 q3 q4
  generalize fdR 0 0 = U at *
  generalize fdR p q = V at *
  rw [z_or (x := V) (by omega), or_z (x := V) (by omega), or_z (x := V) (by omega)]
  omega
theorem en_11f (p q y : Int) (hv : vR ⟨41, false, 0, 0, 0, p, q, y, 0, 0⟩ = true)  : Enc ⟨41, false, 0, 0, 0, p, q, y, 0, 0⟩ := by
  have hf := form10 (o := 41) (by omega)
  rw [vR_some (i := ⟨41, false, 0, 0, 0, p, q, y, 0, 0⟩) hf, Bool.and_eq_true] at hv
  obtain ⟨⟨_, s1, s2⟩, s3, s4⟩ := ho_parts hv.1
  simp only at s1 s2 s3 s4
  have tt : takeR 0 0 = 0 := by decide
  rw [tt] at s3
  clear s1
  obtain ⟨h2, hy⟩ := hoO_used (by decide) s2
  clear s3
  clear s4
  obtain ⟨w0, w1, w2⟩ := enc_15 p q 0 y h2
  refine ⟨?_, ⟨by omega, by omega⟩, w2, fun _ => rfl, hy⟩
  have k : fstR ⟨41, false, 0, 0, 0, p, q, y, 0, 0⟩ = firstP ⟨41, 41, 64, 0, 0, 0, 63, 0, 0, 0⟩ ⟨41, false, 0, 0, 0, p, q, y, 0, 0⟩ := by unfold fstR; rw [show formR (⟨41, false, 0, 0, 0, p, q, y, 0, 0⟩ : In).o = some ⟨41, 41, 64, 0, 0, 0, 63, 0, 0, 0⟩ from hf]
  rw [k, fp_11f p q y h2]

theorem enc_c11 (b : Bool) (m r x p q y g n : Int) (hv : vR ⟨41, b, m, r, x, p, q, y, g, n⟩ = true) : Enc ⟨41, b, m, r, x, p, q, y, g, n⟩ := by
  have hf := form10 (o := 41) (by omega)
  have hv2 := hv
  rw [vR_some (i := ⟨41, b, m, r, x, p, q, y, g, n⟩) hf, Bool.and_eq_true] at hv2
  obtain ⟨⟨sb, s1, s2⟩, s3, s4⟩ := ho_parts hv2.1
  simp only at sb s1 s2 s3 s4
  have tt : takeR 0 0 = 0 := by decide
  rw [tt] at s3
  clear hv2 hf
  obtain ⟨rfl, rfl, rfl⟩ := hoO_zero s1
  obtain rfl : g = 0 := by omega
  obtain rfl : n = 0 := by omega
  obtain rfl : b = false := by simpa using sb
  exact en_11f p q y hv 

theorem fp_12f (p q y g : Int) (h2 : (0 ≤ p ∧ p ≤ 7) ∧ (0 ≤ q ∧ q ≤ 7)) (h3 : 0 ≤ g ∧ g ≤ 7) : firstP ⟨42, 42, 2048, 0, 0, 0, 63, 448, 0, 0⟩ ⟨42, false, 0, 0, 0, p, q, y, g, 0⟩ = rfR ⟨42, false, 0, 0, 0, p, q, y, g, 0⟩ := by
  have hU := fdR_bds 0 0
  have hV := fdR_bds p q
  have q1 : placeR (fdR 0 0) 0 = 0 := by simp [placeR]
  have q2 : placeR (fdR p q) 63 = fdR p q := by simp [placeR]; try omega
  have q3 : placeR g 448 = g * 64 := by simp [placeR]; try omega
  have q4 : placeR 0 0 = 0 := by simp [placeR]
  have e : firstP ⟨42, 42, 2048, 0, 0, 0, 63, 448, 0, 0⟩ ⟨42, false, 0, 0, 0, p, q, y, g, 0⟩ = 2048 + (42 - 42) * pwR 0 + bits .or .i64 (bits .or .i64 (bits .or .i64 (placeR (fdR 0 0) 0) (placeR (fdR p q) 63)) (placeR g 448)) (placeR 0 0) := rfl
  rw [e]
  simp only [q1, q2, q3, q4]
  rw [show pwR 0 = 1 by decide, fst_16 p q g 0 y h2 h3]
  clear e q1 q2 q3 q4
  generalize fdR 0 0 = U at *
  generalize fdR p q = V at *
  rw [z_or (x := V) (by omega), or64' (x := g) (v := V) (by omega) (by omega), or_z (x := g * 64 + V) (by omega)]
  omega
theorem en_12f (p q y g : Int) (hv : vR ⟨42, false, 0, 0, 0, p, q, y, g, 0⟩ = true)  : Enc ⟨42, false, 0, 0, 0, p, q, y, g, 0⟩ := by
  have hf := form11 (o := 42) (by omega)
  rw [vR_some (i := ⟨42, false, 0, 0, 0, p, q, y, g, 0⟩) hf, Bool.and_eq_true] at hv
  obtain ⟨⟨_, s1, s2⟩, s3, s4⟩ := ho_parts hv.1
  simp only at s1 s2 s3 s4
  have tt : takeR 448 448 = 7 := by decide
  rw [tt] at s3
  clear s1
  obtain ⟨h2, hy⟩ := hoO_used (by decide) s2
  have h3 := s3
  clear s4
  obtain ⟨w0, w1, w2⟩ := enc_16 p q g 0 y h2 h3
  refine ⟨?_, ⟨by omega, by omega⟩, w2, fun _ => rfl, hy⟩
  have k : fstR ⟨42, false, 0, 0, 0, p, q, y, g, 0⟩ = firstP ⟨42, 42, 2048, 0, 0, 0, 63, 448, 0, 0⟩ ⟨42, false, 0, 0, 0, p, q, y, g, 0⟩ := by unfold fstR; rw [show formR (⟨42, false, 0, 0, 0, p, q, y, g, 0⟩ : In).o = some ⟨42, 42, 2048, 0, 0, 0, 63, 448, 0, 0⟩ from hf]
  rw [k, fp_12f p q y g h2 h3]

theorem enc_c12 (b : Bool) (m r x p q y g n : Int) (hv : vR ⟨42, b, m, r, x, p, q, y, g, n⟩ = true) : Enc ⟨42, b, m, r, x, p, q, y, g, n⟩ := by
  have hf := form11 (o := 42) (by omega)
  have hv2 := hv
  rw [vR_some (i := ⟨42, b, m, r, x, p, q, y, g, n⟩) hf, Bool.and_eq_true] at hv2
  obtain ⟨⟨sb, s1, s2⟩, s3, s4⟩ := ho_parts hv2.1
  simp only at sb s1 s2 s3 s4
  have tt : takeR 448 448 = 7 := by decide
  rw [tt] at s3
  clear hv2 hf
  obtain ⟨rfl, rfl, rfl⟩ := hoO_zero s1
  obtain rfl : n = 0 := by omega
  obtain rfl : b = false := by simpa using sb
  exact en_12f p q y g hv 

theorem fp_13f (g : Int) (h3 : 0 ≤ g ∧ g ≤ 7) : firstP ⟨43, 43, 128, 0, 0, 0, 0, 7, 0, 0⟩ ⟨43, false, 0, 0, 0, 0, 0, 0, g, 0⟩ = rfR ⟨43, false, 0, 0, 0, 0, 0, 0, g, 0⟩ := by
  have hU := fdR_bds 0 0
  have hV := fdR_bds 0 0
  have q1 : placeR (fdR 0 0) 0 = 0 := by simp [placeR]
  have q2 : placeR (fdR 0 0) 0 = 0 := by simp [placeR]
  have q3 : placeR g 7 = g := by simp [placeR]; try omega
  have q4 : placeR 0 0 = 0 := by simp [placeR]
  have e : firstP ⟨43, 43, 128, 0, 0, 0, 0, 7, 0, 0⟩ ⟨43, false, 0, 0, 0, 0, 0, 0, g, 0⟩ = 128 + (43 - 43) * pwR 0 + bits .or .i64 (bits .or .i64 (bits .or .i64 (placeR (fdR 0 0) 0) (placeR (fdR 0 0) 0)) (placeR g 7)) (placeR 0 0) := rfl
  rw [e]
  simp only [q1, q2, q3, q4]
  rw [show pwR 0 = 1 by decide, fst_17 g 0 0 h3]
  clear e q1 q2 q3 q4
  generalize fdR 0 0 = U at *
  generalize fdR 0 0 = V at *
  rw [z_or (x := 0) (by omega), z_or (x := g) (by omega), or_z (x := g) (by omega)]
  omega
theorem en_13f (g : Int) (hv : vR ⟨43, false, 0, 0, 0, 0, 0, 0, g, 0⟩ = true)  : Enc ⟨43, false, 0, 0, 0, 0, 0, 0, g, 0⟩ := by
  have hf := form12 (o := 43) (by omega)
  rw [vR_some (i := ⟨43, false, 0, 0, 0, 0, 0, 0, g, 0⟩) hf, Bool.and_eq_true] at hv
  obtain ⟨⟨_, s1, s2⟩, s3, s4⟩ := ho_parts hv.1
  simp only at s1 s2 s3 s4
  have tt : takeR 7 7 = 7 := by decide
  rw [tt] at s3
  clear s1
  clear s2
  have h3 := s3
  clear s4
  obtain ⟨w0, w1, w2⟩ := enc_17 g 0 0 h3
  refine ⟨?_, ⟨by omega, by omega⟩, w2, fun _ => rfl, fun _ => rfl⟩
  have k : fstR ⟨43, false, 0, 0, 0, 0, 0, 0, g, 0⟩ = firstP ⟨43, 43, 128, 0, 0, 0, 0, 7, 0, 0⟩ ⟨43, false, 0, 0, 0, 0, 0, 0, g, 0⟩ := by unfold fstR; rw [show formR (⟨43, false, 0, 0, 0, 0, 0, 0, g, 0⟩ : In).o = some ⟨43, 43, 128, 0, 0, 0, 0, 7, 0, 0⟩ from hf]
  rw [k, fp_13f g h3]

theorem enc_c13 (b : Bool) (m r x p q y g n : Int) (hv : vR ⟨43, b, m, r, x, p, q, y, g, n⟩ = true) : Enc ⟨43, b, m, r, x, p, q, y, g, n⟩ := by
  have hf := form12 (o := 43) (by omega)
  have hv2 := hv
  rw [vR_some (i := ⟨43, b, m, r, x, p, q, y, g, n⟩) hf, Bool.and_eq_true] at hv2
  obtain ⟨⟨sb, s1, s2⟩, s3, s4⟩ := ho_parts hv2.1
  simp only at sb s1 s2 s3 s4
  have tt : takeR 7 7 = 7 := by decide
  rw [tt] at s3
  clear hv2 hf
  obtain ⟨rfl, rfl, rfl⟩ := hoO_zero s1
  obtain ⟨rfl, rfl, rfl⟩ := hoO_zero s2
  obtain rfl : n = 0 := by omega
  obtain rfl : b = false := by simpa using sb
  exact en_13f g hv 

theorem fp_14f (g n : Int) (h3 : 0 ≤ g ∧ g ≤ 7) (h4 : 0 ≤ n ∧ n ≤ 63) : firstP ⟨44, 44, 32256, 0, 0, 0, 0, 448, 63, 0⟩ ⟨44, false, 0, 0, 0, 0, 0, 0, g, n⟩ = rfR ⟨44, false, 0, 0, 0, 0, 0, 0, g, n⟩ := by
  have hU := fdR_bds 0 0
  have hV := fdR_bds 0 0
  have q1 : placeR (fdR 0 0) 0 = 0 := by simp [placeR]
  have q2 : placeR (fdR 0 0) 0 = 0 := by simp [placeR]
  have q3 : placeR g 448 = g * 64 := by simp [placeR]; try omega
  have q4 : placeR n 63 = n := by simp [placeR]; try omega
  have e : firstP ⟨44, 44, 32256, 0, 0, 0, 0, 448, 63, 0⟩ ⟨44, false, 0, 0, 0, 0, 0, 0, g, n⟩ = 32256 + (44 - 44) * pwR 0 + bits .or .i64 (bits .or .i64 (bits .or .i64 (placeR (fdR 0 0) 0) (placeR (fdR 0 0) 0)) (placeR g 448)) (placeR n 63) := rfl
  rw [e]
  simp only [q1, q2, q3, q4]
  rw [show pwR 0 = 1 by decide, fst_6 g n 0 0 h3 h4]
  clear e q1 q2 q3 q4
  generalize fdR 0 0 = U at *
  generalize fdR 0 0 = V at *
  rw [z_or (x := 0) (by omega), z_or (x := g * 64) (by omega), or64 (x := g) (v := n) (by omega) (by omega)]
  omega
theorem en_14f (g n : Int) (hv : vR ⟨44, false, 0, 0, 0, 0, 0, 0, g, n⟩ = true)  : Enc ⟨44, false, 0, 0, 0, 0, 0, 0, g, n⟩ := by
  have hf := form13 (o := 44) (by omega)
  rw [vR_some (i := ⟨44, false, 0, 0, 0, 0, 0, 0, g, n⟩) hf, Bool.and_eq_true] at hv
  obtain ⟨⟨_, s1, s2⟩, s3, s4⟩ := ho_parts hv.1
  simp only at s1 s2 s3 s4
  have tt : takeR 448 448 = 7 := by decide
  rw [tt] at s3
  clear s1
  clear s2
  have h3 := s3
  have h4 : 0 ≤ n ∧ n ≤ 63 := by omega
  obtain ⟨w0, w1, w2⟩ := enc_6 g n 0 0 h3 h4
  refine ⟨?_, ⟨by omega, by omega⟩, w2, fun _ => rfl, fun _ => rfl⟩
  have k : fstR ⟨44, false, 0, 0, 0, 0, 0, 0, g, n⟩ = firstP ⟨44, 44, 32256, 0, 0, 0, 0, 448, 63, 0⟩ ⟨44, false, 0, 0, 0, 0, 0, 0, g, n⟩ := by unfold fstR; rw [show formR (⟨44, false, 0, 0, 0, 0, 0, 0, g, n⟩ : In).o = some ⟨44, 44, 32256, 0, 0, 0, 0, 448, 63, 0⟩ from hf]
  rw [k, fp_14f g n h3 h4]

theorem enc_c14 (b : Bool) (m r x p q y g n : Int) (hv : vR ⟨44, b, m, r, x, p, q, y, g, n⟩ = true) : Enc ⟨44, b, m, r, x, p, q, y, g, n⟩ := by
  have hf := form13 (o := 44) (by omega)
  have hv2 := hv
  rw [vR_some (i := ⟨44, b, m, r, x, p, q, y, g, n⟩) hf, Bool.and_eq_true] at hv2
  obtain ⟨⟨sb, s1, s2⟩, s3, s4⟩ := ho_parts hv2.1
  simp only at sb s1 s2 s3 s4
  have tt : takeR 448 448 = 7 := by decide
  rw [tt] at s3
  clear hv2 hf
  obtain ⟨rfl, rfl, rfl⟩ := hoO_zero s1
  obtain ⟨rfl, rfl, rfl⟩ := hoO_zero s2
  obtain rfl : b = false := by simpa using sb
  exact en_14f g n hv 

theorem fp_15f (n : Int) (h4 : 0 ≤ n ∧ n ≤ 255) : firstP ⟨45, 46, 34816, 8, 0, 0, 0, 0, 255, 0⟩ ⟨45, false, 0, 0, 0, 0, 0, 0, 0, n⟩ = rfR ⟨45, false, 0, 0, 0, 0, 0, 0, 0, n⟩ := by
  have hU := fdR_bds 0 0
  have hV := fdR_bds 0 0
  have q1 : placeR (fdR 0 0) 0 = 0 := by simp [placeR]
  have q2 : placeR (fdR 0 0) 0 = 0 := by simp [placeR]
  have q3 : placeR 0 0 = 0 := by simp [placeR]
  have q4 : placeR n 255 = n % 256 := by simp [placeR]; try omega
  have e : firstP ⟨45, 46, 34816, 8, 0, 0, 0, 0, 255, 0⟩ ⟨45, false, 0, 0, 0, 0, 0, 0, 0, n⟩ = 34816 + (45 - 45) * pwR 8 + bits .or .i64 (bits .or .i64 (bits .or .i64 (placeR (fdR 0 0) 0) (placeR (fdR 0 0) 0)) (placeR 0 0)) (placeR n 255) := rfl
  rw [e]
  simp only [q1, q2, q3, q4]
  rw [show pwR 8 = 256 by decide, fst_20 n 0 0 h4]
  clear e q1 q2 q3 q4
  generalize fdR 0 0 = U at *
  generalize fdR 0 0 = V at *
  rw [z_or (x := 0) (by omega), z_or (x := 0) (by omega), z_or (x := n % 256) (by omega)]
  omega
theorem en_15f (n : Int) (hv : vR ⟨45, false, 0, 0, 0, 0, 0, 0, 0, n⟩ = true)  : Enc ⟨45, false, 0, 0, 0, 0, 0, 0, 0, n⟩ := by
  have hf := form16 (o := 45) (by omega)
  rw [vR_some (i := ⟨45, false, 0, 0, 0, 0, 0, 0, 0, n⟩) hf, Bool.and_eq_true] at hv
  obtain ⟨⟨_, s1, s2⟩, s3, s4⟩ := ho_parts hv.1
  simp only at s1 s2 s3 s4
  have tt : takeR 0 0 = 0 := by decide
  rw [tt] at s3
  clear s1
  clear s2
  clear s3
  have h4 : 0 ≤ n ∧ n ≤ 255 := by omega
  obtain ⟨w0, w1, w2⟩ := enc_20 n 0 0 h4
  refine ⟨?_, ⟨by omega, by omega⟩, w2, fun _ => rfl, fun _ => rfl⟩
  have k : fstR ⟨45, false, 0, 0, 0, 0, 0, 0, 0, n⟩ = firstP ⟨45, 46, 34816, 8, 0, 0, 0, 0, 255, 0⟩ ⟨45, false, 0, 0, 0, 0, 0, 0, 0, n⟩ := by unfold fstR; rw [show formR (⟨45, false, 0, 0, 0, 0, 0, 0, 0, n⟩ : In).o = some ⟨45, 46, 34816, 8, 0, 0, 0, 0, 255, 0⟩ from hf]
  rw [k, fp_15f n h4]

theorem enc_c15 (b : Bool) (m r x p q y g n : Int) (hv : vR ⟨45, b, m, r, x, p, q, y, g, n⟩ = true) : Enc ⟨45, b, m, r, x, p, q, y, g, n⟩ := by
  have hf := form16 (o := 45) (by omega)
  have hv2 := hv
  rw [vR_some (i := ⟨45, b, m, r, x, p, q, y, g, n⟩) hf, Bool.and_eq_true] at hv2
  obtain ⟨⟨sb, s1, s2⟩, s3, s4⟩ := ho_parts hv2.1
  simp only at sb s1 s2 s3 s4
  have tt : takeR 0 0 = 0 := by decide
  rw [tt] at s3
  clear hv2 hf
  obtain ⟨rfl, rfl, rfl⟩ := hoO_zero s1
  obtain ⟨rfl, rfl, rfl⟩ := hoO_zero s2
  obtain rfl : g = 0 := by omega
  obtain rfl : b = false := by simpa using sb
  exact en_15f n hv 

theorem fp_16f (n : Int) (h4 : 0 ≤ n ∧ n ≤ 255) : firstP ⟨45, 46, 34816, 8, 0, 0, 0, 0, 255, 0⟩ ⟨46, false, 0, 0, 0, 0, 0, 0, 0, n⟩ = rfR ⟨46, false, 0, 0, 0, 0, 0, 0, 0, n⟩ := by
  have hU := fdR_bds 0 0
  have hV := fdR_bds 0 0
  have q1 : placeR (fdR 0 0) 0 = 0 := by simp [placeR]
  have q2 : placeR (fdR 0 0) 0 = 0 := by simp [placeR]
  have q3 : placeR 0 0 = 0 := by simp [placeR]
  have q4 : placeR n 255 = n % 256 := by simp [placeR]; try omega
  have e : firstP ⟨45, 46, 34816, 8, 0, 0, 0, 0, 255, 0⟩ ⟨46, false, 0, 0, 0, 0, 0, 0, 0, n⟩ = 34816 + (46 - 45) * pwR 8 + bits .or .i64 (bits .or .i64 (bits .or .i64 (placeR (fdR 0 0) 0) (placeR (fdR 0 0) 0)) (placeR 0 0)) (placeR n 255) := rfl
  rw [e]
  simp only [q1, q2, q3, q4]
  rw [show pwR 8 = 256 by decide, fst_21 n 0 0 h4]
  clear e q1 q2 q3 q4
  generalize fdR 0 0 = U at *
  generalize fdR 0 0 = V at *
  rw [z_or (x := 0) (by omega), z_or (x := 0) (by omega), z_or (x := n % 256) (by omega)]
  omega
theorem en_16f (n : Int) (hv : vR ⟨46, false, 0, 0, 0, 0, 0, 0, 0, n⟩ = true)  : Enc ⟨46, false, 0, 0, 0, 0, 0, 0, 0, n⟩ := by
  have hf := form16 (o := 46) (by omega)
  rw [vR_some (i := ⟨46, false, 0, 0, 0, 0, 0, 0, 0, n⟩) hf, Bool.and_eq_true] at hv
  obtain ⟨⟨_, s1, s2⟩, s3, s4⟩ := ho_parts hv.1
  simp only at s1 s2 s3 s4
  have tt : takeR 0 0 = 0 := by decide
  rw [tt] at s3
  clear s1
  clear s2
  clear s3
  have h4 : 0 ≤ n ∧ n ≤ 255 := by omega
  obtain ⟨w0, w1, w2⟩ := enc_21 n 0 0 h4
  refine ⟨?_, ⟨by omega, by omega⟩, w2, fun _ => rfl, fun _ => rfl⟩
  have k : fstR ⟨46, false, 0, 0, 0, 0, 0, 0, 0, n⟩ = firstP ⟨45, 46, 34816, 8, 0, 0, 0, 0, 255, 0⟩ ⟨46, false, 0, 0, 0, 0, 0, 0, 0, n⟩ := by unfold fstR; rw [show formR (⟨46, false, 0, 0, 0, 0, 0, 0, 0, n⟩ : In).o = some ⟨45, 46, 34816, 8, 0, 0, 0, 0, 255, 0⟩ from hf]
  rw [k, fp_16f n h4]

theorem enc_c16 (b : Bool) (m r x p q y g n : Int) (hv : vR ⟨46, b, m, r, x, p, q, y, g, n⟩ = true) : Enc ⟨46, b, m, r, x, p, q, y, g, n⟩ := by
  have hf := form16 (o := 46) (by omega)
  have hv2 := hv
  rw [vR_some (i := ⟨46, b, m, r, x, p, q, y, g, n⟩) hf, Bool.and_eq_true] at hv2
  obtain ⟨⟨sb, s1, s2⟩, s3, s4⟩ := ho_parts hv2.1
  simp only at sb s1 s2 s3 s4
  have tt : takeR 0 0 = 0 := by decide
  rw [tt] at s3
  clear hv2 hf
  obtain ⟨rfl, rfl, rfl⟩ := hoO_zero s1
  obtain ⟨rfl, rfl, rfl⟩ := hoO_zero s2
  obtain rfl : g = 0 := by omega
  obtain rfl : b = false := by simpa using sb
  exact en_16f n hv 

theorem fp_17f (n : Int) (h4 : 0 ≤ n ∧ n ≤ 15) : firstP ⟨53, 54, 160, 4, 0, 0, 0, 0, 15, 0⟩ ⟨53, false, 0, 0, 0, 0, 0, 0, 0, n⟩ = rfR ⟨53, false, 0, 0, 0, 0, 0, 0, 0, n⟩ := by
  have hU := fdR_bds 0 0
  have hV := fdR_bds 0 0
  have q1 : placeR (fdR 0 0) 0 = 0 := by simp [placeR]
  have q2 : placeR (fdR 0 0) 0 = 0 := by simp [placeR]
  have q3 : placeR 0 0 = 0 := by simp [placeR]
  have q4 : placeR n 15 = n := by simp [placeR]; try omega
  have e : firstP ⟨53, 54, 160, 4, 0, 0, 0, 0, 15, 0⟩ ⟨53, false, 0, 0, 0, 0, 0, 0, 0, n⟩ = 160 + (53 - 53) * pwR 4 + bits .or .i64 (bits .or .i64 (bits .or .i64 (placeR (fdR 0 0) 0) (placeR (fdR 0 0) 0)) (placeR 0 0)) (placeR n 15) := rfl
  rw [e]
  simp only [q1, q2, q3, q4]
  rw [show pwR 4 = 16 by decide, fst_22 n 0 0 h4]
  clear e q1 q2 q3 q4
  generalize fdR 0 0 = U at *
  generalize fdR 0 0 = V at *
  rw [z_or (x := 0) (by omega), z_or (x := 0) (by omega), z_or (x := n) (by omega)]
  omega
theorem en_17f (n : Int) (hv : vR ⟨53, false, 0, 0, 0, 0, 0, 0, 0, n⟩ = true)  : Enc ⟨53, false, 0, 0, 0, 0, 0, 0, 0, n⟩ := by
  have hf := form17 (o := 53) (by omega)
  rw [vR_some (i := ⟨53, false, 0, 0, 0, 0, 0, 0, 0, n⟩) hf, Bool.and_eq_true] at hv
  obtain ⟨⟨_, s1, s2⟩, s3, s4⟩ := ho_parts hv.1
  simp only at s1 s2 s3 s4
  have tt : takeR 0 0 = 0 := by decide
  rw [tt] at s3
  clear s1
  clear s2
  clear s3
  have h4 : 0 ≤ n ∧ n ≤ 15 := by omega
  obtain ⟨w0, w1, w2⟩ := enc_22 n 0 0 h4
  refine ⟨?_, ⟨by omega, by omega⟩, w2, fun _ => rfl, fun _ => rfl⟩
  have k : fstR ⟨53, false, 0, 0, 0, 0, 0, 0, 0, n⟩ = firstP ⟨53, 54, 160, 4, 0, 0, 0, 0, 15, 0⟩ ⟨53, false, 0, 0, 0, 0, 0, 0, 0, n⟩ := by unfold fstR; rw [show formR (⟨53, false, 0, 0, 0, 0, 0, 0, 0, n⟩ : In).o = some ⟨53, 54, 160, 4, 0, 0, 0, 0, 15, 0⟩ from hf]
  rw [k, fp_17f n h4]

theorem enc_c17 (b : Bool) (m r x p q y g n : Int) (hv : vR ⟨53, b, m, r, x, p, q, y, g, n⟩ = true) : Enc ⟨53, b, m, r, x, p, q, y, g, n⟩ := by
  have hf := form17 (o := 53) (by omega)
  have hv2 := hv
  rw [vR_some (i := ⟨53, b, m, r, x, p, q, y, g, n⟩) hf, Bool.and_eq_true] at hv2
  obtain ⟨⟨sb, s1, s2⟩, s3, s4⟩ := ho_parts hv2.1
  simp only at sb s1 s2 s3 s4
  have tt : takeR 0 0 = 0 := by decide
  rw [tt] at s3
  clear hv2 hf
  obtain ⟨rfl, rfl, rfl⟩ := hoO_zero s1
  obtain ⟨rfl, rfl, rfl⟩ := hoO_zero s2
  obtain rfl : g = 0 := by omega
  obtain rfl : b = false := by simpa using sb
  exact en_17f n hv 

theorem fp_18f (n : Int) (h4 : 0 ≤ n ∧ n ≤ 15) : firstP ⟨53, 54, 160, 4, 0, 0, 0, 0, 15, 0⟩ ⟨54, false, 0, 0, 0, 0, 0, 0, 0, n⟩ = rfR ⟨54, false, 0, 0, 0, 0, 0, 0, 0, n⟩ := by
  have hU := fdR_bds 0 0
  have hV := fdR_bds 0 0
  have q1 : placeR (fdR 0 0) 0 = 0 := by simp [placeR]
  have q2 : placeR (fdR 0 0) 0 = 0 := by simp [placeR]
  have q3 : placeR 0 0 = 0 := by simp [placeR]
  have q4 : placeR n 15 = n := by simp [placeR]; try omega
  have e : firstP ⟨53, 54, 160, 4, 0, 0, 0, 0, 15, 0⟩ ⟨54, false, 0, 0, 0, 0, 0, 0, 0, n⟩ = 160 + (54 - 53) * pwR 4 + bits .or .i64 (bits .or .i64 (bits .or .i64 (placeR (fdR 0 0) 0) (placeR (fdR 0 0) 0)) (placeR 0 0)) (placeR n 15) := rfl
  rw [e]
  simp only [q1, q2, q3, q4]
  rw [show pwR 4 = 16 by decide, fst_23 n 0 0 h4]
  clear e q1 q2 q3 q4
  generalize fdR 0 0 = U at *
  generalize fdR 0 0 = V at *
  rw [z_or (x := 0) (by omega), z_or (x := 0) (by omega), z_or (x := n) (by omega)]
  omega
theorem en_18f (n : Int) (hv : vR ⟨54, false, 0, 0, 0, 0, 0, 0, 0, n⟩ = true)  : Enc ⟨54, false, 0, 0, 0, 0, 0, 0, 0, n⟩ := by
  have hf := form17 (o := 54) (by omega)
  rw [vR_some (i := ⟨54, false, 0, 0, 0, 0, 0, 0, 0, n⟩) hf, Bool.and_eq_true] at hv
  obtain ⟨⟨_, s1, s2⟩, s3, s4⟩ := ho_parts hv.1
  simp only at s1 s2 s3 s4
  have tt : takeR 0 0 = 0 := by decide
  rw [tt] at s3
  clear s1
  clear s2
  clear s3
  have h4 : 0 ≤ n ∧ n ≤ 15 := by omega
  obtain ⟨w0, w1, w2⟩ := enc_23 n 0 0 h4
  refine ⟨?_, ⟨by omega, by omega⟩, w2, fun _ => rfl, fun _ => rfl⟩
  have k : fstR ⟨54, false, 0, 0, 0, 0, 0, 0, 0, n⟩ = firstP ⟨53, 54, 160, 4, 0, 0, 0, 0, 15, 0⟩ ⟨54, false, 0, 0, 0, 0, 0, 0, 0, n⟩ := by unfold fstR; rw [show formR (⟨54, false, 0, 0, 0, 0, 0, 0, 0, n⟩ : In).o = some ⟨53, 54, 160, 4, 0, 0, 0, 0, 15, 0⟩ from hf]
  rw [k, fp_18f n h4]

theorem enc_c18 (b : Bool) (m r x p q y g n : Int) (hv : vR ⟨54, b, m, r, x, p, q, y, g, n⟩ = true) : Enc ⟨54, b, m, r, x, p, q, y, g, n⟩ := by
  have hf := form17 (o := 54) (by omega)
  have hv2 := hv
  rw [vR_some (i := ⟨54, b, m, r, x, p, q, y, g, n⟩) hf, Bool.and_eq_true] at hv2
  obtain ⟨⟨sb, s1, s2⟩, s3, s4⟩ := ho_parts hv2.1
  simp only at sb s1 s2 s3 s4
  have tt : takeR 0 0 = 0 := by decide
  rw [tt] at s3
  clear hv2 hf
  obtain ⟨rfl, rfl, rfl⟩ := hoO_zero s1
  obtain ⟨rfl, rfl, rfl⟩ := hoO_zero s2
  obtain rfl : g = 0 := by omega
  obtain rfl : b = false := by simpa using sb
  exact en_18f n hv 

theorem fp_19f (m r x : Int) (h1 : (0 ≤ m ∧ m ≤ 7) ∧ (0 ≤ r ∧ r ≤ 7)) : firstP ⟨55, 55, 3392, 0, 0, 63, 0, 0, 0, 0⟩ ⟨55, false, m, r, x, 0, 0, 0, 0, 0⟩ = rfR ⟨55, false, m, r, x, 0, 0, 0, 0, 0⟩ := by
  have hU := fdR_bds m r
  have hV := fdR_bds 0 0
  have q1 : placeR (fdR m r) 63 = fdR m r := by simp [placeR]; try omega
  have q2 : placeR (fdR 0 0) 0 = 0 := by simp [placeR]
  have q3 : placeR 0 0 = 0 := by simp [placeR]
  have q4 : placeR 0 0 = 0 := by simp [placeR]
  have e : firstP ⟨55, 55, 3392, 0, 0, 63, 0, 0, 0, 0⟩ ⟨55, false, m, r, x, 0, 0, 0, 0, 0⟩ = 3392 + (55 - 55) * pwR 0 + bits .or .i64 (bits .or .i64 (bits .or .i64 (placeR (fdR m r) 63) (placeR (fdR 0 0) 0)) (placeR 0 0)) (placeR 0 0) := rfl
  rw [e]
  simp only [q1, q2, q3, q4]
  rw [show pwR 0 = 1 by decide, fst_13 m r x 0 h1]
  clear e q1 q2 q3 q4
  generalize fdR m r = U at *
  generalize fdR 0 0 = V at *
  rw [or_z (x := U) (by omega), or_z (x := U) (by omega), or_z (x := U) (by omega)]
  omega
theorem en_19f (m r x : Int) (hv : vR ⟨55, false, m, r, x, 0, 0, 0, 0, 0⟩ = true)  : Enc ⟨55, false, m, r, x, 0, 0, 0, 0, 0⟩ := by
  have hf := form8 (o := 55) (by omega)
  rw [vR_some (i := ⟨55, false, m, r, x, 0, 0, 0, 0, 0⟩) hf, Bool.and_eq_true] at hv
  obtain ⟨⟨_, s1, s2⟩, s3, s4⟩ := ho_parts hv.1
  simp only at s1 s2 s3 s4
  have tt : takeR 0 0 = 0 := by decide
  rw [tt] at s3
  obtain ⟨h1, hx⟩ := hoO_used (by decide) s1
  clear s2
  clear s3
  clear s4
  obtain ⟨w0, w1, w2⟩ := enc_13 m r x 0 h1
  refine ⟨?_, ⟨by omega, by omega⟩, w2, hx, fun _ => rfl⟩
  have k : fstR ⟨55, false, m, r, x, 0, 0, 0, 0, 0⟩ = firstP ⟨55, 55, 3392, 0, 0, 63, 0, 0, 0, 0⟩ ⟨55, false, m, r, x, 0, 0, 0, 0, 0⟩ := by unfold fstR; rw [show formR (⟨55, false, m, r, x, 0, 0, 0, 0, 0⟩ : In).o = some ⟨55, 55, 3392, 0, 0, 63, 0, 0, 0, 0⟩ from hf]
  rw [k, fp_19f m r x h1]

theorem enc_c19 (b : Bool) (m r x p q y g n : Int) (hv : vR ⟨55, b, m, r, x, p, q, y, g, n⟩ = true) : Enc ⟨55, b, m, r, x, p, q, y, g, n⟩ := by
  have hf := form8 (o := 55) (by omega)
  have hv2 := hv
  rw [vR_some (i := ⟨55, b, m, r, x, p, q, y, g, n⟩) hf, Bool.and_eq_true] at hv2
  obtain ⟨⟨sb, s1, s2⟩, s3, s4⟩ := ho_parts hv2.1
  simp only at sb s1 s2 s3 s4
  have tt : takeR 0 0 = 0 := by decide
  rw [tt] at s3
  clear hv2 hf
  obtain ⟨rfl, rfl, rfl⟩ := hoO_zero s2
  obtain rfl : g = 0 := by omega
  obtain rfl : n = 0 := by omega
  obtain rfl : b = false := by simpa using sb
  exact en_19f m r x hv 

theorem fp_20f (p q y : Int) (h2 : (0 ≤ p ∧ p ≤ 7) ∧ (0 ≤ q ∧ q ≤ 7)) : firstP ⟨56, 56, 3456, 0, 0, 0, 63, 0, 0, 0⟩ ⟨56, false, 0, 0, 0, p, q, y, 0, 0⟩ = rfR ⟨56, false, 0, 0, 0, p, q, y, 0, 0⟩ := by
  have hU := fdR_bds 0 0
  have hV := fdR_bds p q
  have q1 : placeR (fdR 0 0) 0 = 0 := by simp [placeR]
  have q2 : placeR (fdR p q) 63 = fdR p q := by simp [placeR]; try omega
  have q3 : placeR 0 0 = 0 := by simp [placeR]
  have q4 : placeR 0 0 = 0 := by simp [placeR]
  have e : firstP ⟨56, 56, 3456, 0, 0, 0, 63, 0, 0, 0⟩ ⟨56, false, 0, 0, 0, p, q, y, 0, 0⟩ = 3456 + (56 - 56) * pwR 0 + bits .or .i64 (bits .or .i64 (bits .or .i64 (placeR (fdR 0 0) 0) (placeR (fdR p q) 63)) (placeR 0 0)) (placeR 0 0) := rfl
  rw [e]
  simp only [q1, q2, q3, q4]
  rw [show pwR 0 = 1 by decide, fst_14 p q 0 y h2]
  clear e q1 q2 q3 q4
  generalize fdR 0 0 = U at *
  generalize fdR p q = V at *
  rw [z_or (x := V) (by omega), or_z (x := V) (by omega), or_z (x := V) (by omega)]
  omega
theorem en_20f (p q y : Int) (hv : vR ⟨56, false, 0, 0, 0, p, q, y, 0, 0⟩ = true)  : Enc ⟨56, false, 0, 0, 0, p, q, y, 0, 0⟩ := by
  have hf := form9 (o := 56) (by omega)
  rw [vR_some (i := ⟨56, false, 0, 0, 0, p, q, y, 0, 0⟩) hf, Bool.and_eq_true] at hv
  obtain ⟨⟨_, s1, s2⟩, s3, s4⟩ := ho_parts hv.1
  simp only at s1 s2 s3 s4
  have tt : takeR 0 0 = 0 := by decide
  rw [tt] at s3
  clear s1
  obtain ⟨h2, hy⟩ := hoO_used (by decide) s2
  clear s3
  clear s4
  obtain ⟨w0, w1, w2⟩ := enc_14 p q 0 y h2
  refine ⟨?_, ⟨by omega, by omega⟩, w2, fun _ => rfl, hy⟩
  have k : fstR ⟨56, false, 0, 0, 0, p, q, y, 0, 0⟩ = firstP ⟨56, 56, 3456, 0, 0, 0, 63, 0, 0, 0⟩ ⟨56, false, 0, 0, 0, p, q, y, 0, 0⟩ := by unfold fstR; rw [show formR (⟨56, false, 0, 0, 0, p, q, y, 0, 0⟩ : In).o = some ⟨56, 56, 3456, 0, 0, 0, 63, 0, 0, 0⟩ from hf]
  rw [k, fp_20f p q y h2]

theorem enc_c20 (b : Bool) (m r x p q y g n : Int) (hv : vR ⟨56, b, m, r, x, p, q, y, g, n⟩ = true) : Enc ⟨56, b, m, r, x, p, q, y, g, n⟩ := by
  have hf := form9 (o := 56) (by omega)
  have hv2 := hv
  rw [vR_some (i := ⟨56, b, m, r, x, p, q, y, g, n⟩) hf, Bool.and_eq_true] at hv2
  obtain ⟨⟨sb, s1, s2⟩, s3, s4⟩ := ho_parts hv2.1
  simp only at sb s1 s2 s3 s4
  have tt : takeR 0 0 = 0 := by decide
  rw [tt] at s3
  clear hv2 hf
  obtain ⟨rfl, rfl, rfl⟩ := hoO_zero s1
  obtain rfl : g = 0 := by omega
  obtain rfl : n = 0 := by omega
  obtain rfl : b = false := by simpa using sb
  exact en_20f p q y hv 

theorem fp_21f  : firstP ⟨50, 51, 0, 0, 0, 0, 0, 0, 0, 0⟩ ⟨50, false, 0, 0, 0, 0, 0, 0, 0, 0⟩ = rfR ⟨50, false, 0, 0, 0, 0, 0, 0, 0, 0⟩ := by
  have hU := fdR_bds 0 0
  have hV := fdR_bds 0 0
  have q1 : placeR (fdR 0 0) 0 = 0 := by simp [placeR]
  have q2 : placeR (fdR 0 0) 0 = 0 := by simp [placeR]
  have q3 : placeR 0 0 = 0 := by simp [placeR]
  have q4 : placeR 0 0 = 0 := by simp [placeR]
  have e : firstP ⟨50, 51, 0, 0, 0, 0, 0, 0, 0, 0⟩ ⟨50, false, 0, 0, 0, 0, 0, 0, 0, 0⟩ = 0 + (50 - 50) * pwR 0 + bits .or .i64 (bits .or .i64 (bits .or .i64 (placeR (fdR 0 0) 0) (placeR (fdR 0 0) 0)) (placeR 0 0)) (placeR 0 0) := rfl
  rw [e]
  simp only [q1, q2, q3, q4]
  rw [show pwR 0 = 1 by decide, fst_24  0 0 ]
  clear e q1 q2 q3 q4
  generalize fdR 0 0 = U at *
  generalize fdR 0 0 = V at *
  rw [z_or (x := 0) (by omega), z_or (x := 0) (by omega), z_or (x := 0) (by omega)]
  omega
theorem en_21f (hv : vR ⟨50, false, 0, 0, 0, 0, 0, 0, 0, 0⟩ = true)  : Enc ⟨50, false, 0, 0, 0, 0, 0, 0, 0, 0⟩ := by
  have hf := form18 (o := 50) (by omega)
  rw [vR_some (i := ⟨50, false, 0, 0, 0, 0, 0, 0, 0, 0⟩) hf, Bool.and_eq_true] at hv
  obtain ⟨⟨_, s1, s2⟩, s3, s4⟩ := ho_parts hv.1
  simp only at s1 s2 s3 s4
  have tt : takeR 0 0 = 0 := by decide
  rw [tt] at s3
  clear s1
  clear s2
  clear s3
  clear s4
  obtain ⟨w0, w1, w2⟩ := enc_24  0 0 
  refine ⟨?_, ⟨by omega, by omega⟩, w2, fun _ => rfl, fun _ => rfl⟩
  have k : fstR ⟨50, false, 0, 0, 0, 0, 0, 0, 0, 0⟩ = firstP ⟨50, 51, 0, 0, 0, 0, 0, 0, 0, 0⟩ ⟨50, false, 0, 0, 0, 0, 0, 0, 0, 0⟩ := by unfold fstR; rw [show formR (⟨50, false, 0, 0, 0, 0, 0, 0, 0, 0⟩ : In).o = some ⟨50, 51, 0, 0, 0, 0, 0, 0, 0, 0⟩ from hf]
  rw [k, fp_21f  ]

theorem enc_c21 (b : Bool) (m r x p q y g n : Int) (hv : vR ⟨50, b, m, r, x, p, q, y, g, n⟩ = true) : Enc ⟨50, b, m, r, x, p, q, y, g, n⟩ := by
  have hf := form18 (o := 50) (by omega)
  have hv2 := hv
  rw [vR_some (i := ⟨50, b, m, r, x, p, q, y, g, n⟩) hf, Bool.and_eq_true] at hv2
  obtain ⟨⟨sb, s1, s2⟩, s3, s4⟩ := ho_parts hv2.1
  simp only at sb s1 s2 s3 s4
  have tt : takeR 0 0 = 0 := by decide
  rw [tt] at s3
  clear hv2 hf
  obtain ⟨rfl, rfl, rfl⟩ := hoO_zero s1
  obtain ⟨rfl, rfl, rfl⟩ := hoO_zero s2
  obtain rfl : g = 0 := by omega
  obtain rfl : n = 0 := by omega
  obtain rfl : b = false := by simpa using sb
  exact en_21f  hv 

theorem fp_22f  : firstP ⟨50, 51, 0, 0, 0, 0, 0, 0, 0, 0⟩ ⟨51, false, 0, 0, 0, 0, 0, 0, 0, 0⟩ = rfR ⟨51, false, 0, 0, 0, 0, 0, 0, 0, 0⟩ := by
  have hU := fdR_bds 0 0
  have hV := fdR_bds 0 0
  have q1 : placeR (fdR 0 0) 0 = 0 := by simp [placeR]
  have q2 : placeR (fdR 0 0) 0 = 0 := by simp [placeR]
  have q3 : placeR 0 0 = 0 := by simp [placeR]
  have q4 : placeR 0 0 = 0 := by simp [placeR]
  have e : firstP ⟨50, 51, 0, 0, 0, 0, 0, 0, 0, 0⟩ ⟨51, false, 0, 0, 0, 0, 0, 0, 0, 0⟩ = 0 + (51 - 50) * pwR 0 + bits .or .i64 (bits .or .i64 (bits .or .i64 (placeR (fdR 0 0) 0) (placeR (fdR 0 0) 0)) (placeR 0 0)) (placeR 0 0) := rfl
  rw [e]
  simp only [q1, q2, q3, q4]
  rw [show pwR 0 = 1 by decide, fst_25  0 0 ]
  clear e q1 q2 q3 q4
  generalize fdR 0 0 = U at *
  generalize fdR 0 0 = V at *
  rw [z_or (x := 0) (by omega), z_or (x := 0) (by omega), z_or (x := 0) (by omega)]
  omega
theorem en_22f (hv : vR ⟨51, false, 0, 0, 0, 0, 0, 0, 0, 0⟩ = true)  : Enc ⟨51, false, 0, 0, 0, 0, 0, 0, 0, 0⟩ := by
  have hf := form18 (o := 51) (by omega)
  rw [vR_some (i := ⟨51, false, 0, 0, 0, 0, 0, 0, 0, 0⟩) hf, Bool.and_eq_true] at hv
  obtain ⟨⟨_, s1, s2⟩, s3, s4⟩ := ho_parts hv.1
  simp only at s1 s2 s3 s4
  have tt : takeR 0 0 = 0 := by decide
  rw [tt] at s3
  clear s1
  clear s2
  clear s3
  clear s4
  obtain ⟨w0, w1, w2⟩ := enc_25  0 0 
  refine ⟨?_, ⟨by omega, by omega⟩, w2, fun _ => rfl, fun _ => rfl⟩
  have k : fstR ⟨51, false, 0, 0, 0, 0, 0, 0, 0, 0⟩ = firstP ⟨50, 51, 0, 0, 0, 0, 0, 0, 0, 0⟩ ⟨51, false, 0, 0, 0, 0, 0, 0, 0, 0⟩ := by unfold fstR; rw [show formR (⟨51, false, 0, 0, 0, 0, 0, 0, 0, 0⟩ : In).o = some ⟨50, 51, 0, 0, 0, 0, 0, 0, 0, 0⟩ from hf]
  rw [k, fp_22f  ]

theorem enc_c22 (b : Bool) (m r x p q y g n : Int) (hv : vR ⟨51, b, m, r, x, p, q, y, g, n⟩ = true) : Enc ⟨51, b, m, r, x, p, q, y, g, n⟩ := by
  have hf := form18 (o := 51) (by omega)
  have hv2 := hv
  rw [vR_some (i := ⟨51, b, m, r, x, p, q, y, g, n⟩) hf, Bool.and_eq_true] at hv2
  obtain ⟨⟨sb, s1, s2⟩, s3, s4⟩ := ho_parts hv2.1
  simp only at sb s1 s2 s3 s4
  have tt : takeR 0 0 = 0 := by decide
  rw [tt] at s3
  clear hv2 hf
  obtain ⟨rfl, rfl, rfl⟩ := hoO_zero s1
  obtain ⟨rfl, rfl, rfl⟩ := hoO_zero s2
  obtain rfl : g = 0 := by omega
  obtain rfl : n = 0 := by omega
  obtain rfl : b = false := by simpa using sb
  exact en_22f  hv 

theorem fp_23f  : firstP ⟨49, 49, 2, 0, 0, 0, 0, 0, 0, 0⟩ ⟨49, false, 0, 0, 0, 0, 0, 0, 0, 0⟩ = rfR ⟨49, false, 0, 0, 0, 0, 0, 0, 0, 0⟩ := by
  have hU := fdR_bds 0 0
  have hV := fdR_bds 0 0
  have q1 : placeR (fdR 0 0) 0 = 0 := by simp [placeR]
  have q2 : placeR (fdR 0 0) 0 = 0 := by simp [placeR]
  have q3 : placeR 0 0 = 0 := by simp [placeR]
  have q4 : placeR 0 0 = 0 := by simp [placeR]
  have e : firstP ⟨49, 49, 2, 0, 0, 0, 0, 0, 0, 0⟩ ⟨49, false, 0, 0, 0, 0, 0, 0, 0, 0⟩ = 2 + (49 - 49) * pwR 0 + bits .or .i64 (bits .or .i64 (bits .or .i64 (placeR (fdR 0 0) 0) (placeR (fdR 0 0) 0)) (placeR 0 0)) (placeR 0 0) := rfl
  rw [e]
  simp only [q1, q2, q3, q4]
  rw [show pwR 0 = 1 by decide, fst_26  0 0 ]
  clear e q1 q2 q3 q4
  generalize fdR 0 0 = U at *
  generalize fdR 0 0 = V at *
  rw [z_or (x := 0) (by omega), z_or (x := 0) (by omega), z_or (x := 0) (by omega)]
  omega
theorem en_23f (hv : vR ⟨49, false, 0, 0, 0, 0, 0, 0, 0, 0⟩ = true)  : Enc ⟨49, false, 0, 0, 0, 0, 0, 0, 0, 0⟩ := by
  have hf := form19 (o := 49) (by omega)
  rw [vR_some (i := ⟨49, false, 0, 0, 0, 0, 0, 0, 0, 0⟩) hf, Bool.and_eq_true] at hv
  obtain ⟨⟨_, s1, s2⟩, s3, s4⟩ := ho_parts hv.1
  simp only at s1 s2 s3 s4
  have tt : takeR 0 0 = 0 := by decide
  rw [tt] at s3
  clear s1
  clear s2
  clear s3
  clear s4
  obtain ⟨w0, w1, w2⟩ := enc_26  0 0 
  refine ⟨?_, ⟨by omega, by omega⟩, w2, fun _ => rfl, fun _ => rfl⟩
  have k : fstR ⟨49, false, 0, 0, 0, 0, 0, 0, 0, 0⟩ = firstP ⟨49, 49, 2, 0, 0, 0, 0, 0, 0, 0⟩ ⟨49, false, 0, 0, 0, 0, 0, 0, 0, 0⟩ := by unfold fstR; rw [show formR (⟨49, false, 0, 0, 0, 0, 0, 0, 0, 0⟩ : In).o = some ⟨49, 49, 2, 0, 0, 0, 0, 0, 0, 0⟩ from hf]
  rw [k, fp_23f  ]

theorem enc_c23 (b : Bool) (m r x p q y g n : Int) (hv : vR ⟨49, b, m, r, x, p, q, y, g, n⟩ = true) : Enc ⟨49, b, m, r, x, p, q, y, g, n⟩ := by
  have hf := form19 (o := 49) (by omega)
  have hv2 := hv
  rw [vR_some (i := ⟨49, b, m, r, x, p, q, y, g, n⟩) hf, Bool.and_eq_true] at hv2
  obtain ⟨⟨sb, s1, s2⟩, s3, s4⟩ := ho_parts hv2.1
  simp only at sb s1 s2 s3 s4
  have tt : takeR 0 0 = 0 := by decide
  rw [tt] at s3
  clear hv2 hf
  obtain ⟨rfl, rfl, rfl⟩ := hoO_zero s1
  obtain ⟨rfl, rfl, rfl⟩ := hoO_zero s2
  obtain rfl : g = 0 := by omega
  obtain rfl : n = 0 := by omega
  obtain rfl : b = false := by simpa using sb
  exact en_23f  hv 

theorem fp_24f  : firstP ⟨47, 48, 3, 0, 0, 0, 0, 0, 0, 0⟩ ⟨47, false, 0, 0, 0, 0, 0, 0, 0, 0⟩ = rfR ⟨47, false, 0, 0, 0, 0, 0, 0, 0, 0⟩ := by
  have hU := fdR_bds 0 0
  have hV := fdR_bds 0 0
  have q1 : placeR (fdR 0 0) 0 = 0 := by simp [placeR]
  have q2 : placeR (fdR 0 0) 0 = 0 := by simp [placeR]
  have q3 : placeR 0 0 = 0 := by simp [placeR]
  have q4 : placeR 0 0 = 0 := by simp [placeR]
  have e : firstP ⟨47, 48, 3, 0, 0, 0, 0, 0, 0, 0⟩ ⟨47, false, 0, 0, 0, 0, 0, 0, 0, 0⟩ = 3 + (47 - 47) * pwR 0 + bits .or .i64 (bits .or .i64 (bits .or .i64 (placeR (fdR 0 0) 0) (placeR (fdR 0 0) 0)) (placeR 0 0)) (placeR 0 0) := rfl
  rw [e]
  simp only [q1, q2, q3, q4]
  rw [show pwR 0 = 1 by decide, fst_27  0 0 ]
  clear e q1 q2 q3 q4
  generalize fdR 0 0 = U at *
  generalize fdR 0 0 = V at *
  rw [z_or (x := 0) (by omega), z_or (x := 0) (by omega), z_or (x := 0) (by omega)]
  omega
theorem en_24f (hv : vR ⟨47, false, 0, 0, 0, 0, 0, 0, 0, 0⟩ = true)  : Enc ⟨47, false, 0, 0, 0, 0, 0, 0, 0, 0⟩ := by
  have hf := form20 (o := 47) (by omega)
  rw [vR_some (i := ⟨47, false, 0, 0, 0, 0, 0, 0, 0, 0⟩) hf, Bool.and_eq_true] at hv
  obtain ⟨⟨_, s1, s2⟩, s3, s4⟩ := ho_parts hv.1
  simp only at s1 s2 s3 s4
  have tt : takeR 0 0 = 0 := by decide
  rw [tt] at s3
  clear s1
  clear s2
  clear s3
  clear s4
  obtain ⟨w0, w1, w2⟩ := enc_27  0 0 
  refine ⟨?_, ⟨by omega, by omega⟩, w2, fun _ => rfl, fun _ => rfl⟩
  have k : fstR ⟨47, false, 0, 0, 0, 0, 0, 0, 0, 0⟩ = firstP ⟨47, 48, 3, 0, 0, 0, 0, 0, 0, 0⟩ ⟨47, false, 0, 0, 0, 0, 0, 0, 0, 0⟩ := by unfold fstR; rw [show formR (⟨47, false, 0, 0, 0, 0, 0, 0, 0, 0⟩ : In).o = some ⟨47, 48, 3, 0, 0, 0, 0, 0, 0, 0⟩ from hf]
  rw [k, fp_24f  ]

theorem enc_c24 (b : Bool) (m r x p q y g n : Int) (hv : vR ⟨47, b, m, r, x, p, q, y, g, n⟩ = true) : Enc ⟨47, b, m, r, x, p, q, y, g, n⟩ := by
  have hf := form20 (o := 47) (by omega)
  have hv2 := hv
  rw [vR_some (i := ⟨47, b, m, r, x, p, q, y, g, n⟩) hf, Bool.and_eq_true] at hv2
  obtain ⟨⟨sb, s1, s2⟩, s3, s4⟩ := ho_parts hv2.1
  simp only at sb s1 s2 s3 s4
  have tt : takeR 0 0 = 0 := by decide
  rw [tt] at s3
  clear hv2 hf
  obtain ⟨rfl, rfl, rfl⟩ := hoO_zero s1
  obtain ⟨rfl, rfl, rfl⟩ := hoO_zero s2
  obtain rfl : g = 0 := by omega
  obtain rfl : n = 0 := by omega
  obtain rfl : b = false := by simpa using sb
  exact en_24f  hv 

theorem fp_25f  : firstP ⟨47, 48, 3, 0, 0, 0, 0, 0, 0, 0⟩ ⟨48, false, 0, 0, 0, 0, 0, 0, 0, 0⟩ = rfR ⟨48, false, 0, 0, 0, 0, 0, 0, 0, 0⟩ := by
  have hU := fdR_bds 0 0
  have hV := fdR_bds 0 0
  have q1 : placeR (fdR 0 0) 0 = 0 := by simp [placeR]
  have q2 : placeR (fdR 0 0) 0 = 0 := by simp [placeR]
  have q3 : placeR 0 0 = 0 := by simp [placeR]
  have q4 : placeR 0 0 = 0 := by simp [placeR]
  have e : firstP ⟨47, 48, 3, 0, 0, 0, 0, 0, 0, 0⟩ ⟨48, false, 0, 0, 0, 0, 0, 0, 0, 0⟩ = 3 + (48 - 47) * pwR 0 + bits .or .i64 (bits .or .i64 (bits .or .i64 (placeR (fdR 0 0) 0) (placeR (fdR 0 0) 0)) (placeR 0 0)) (placeR 0 0) := rfl
  rw [e]
  simp only [q1, q2, q3, q4]
  rw [show pwR 0 = 1 by decide, fst_28  0 0 ]
  clear e q1 q2 q3 q4
  generalize fdR 0 0 = U at *
  generalize fdR 0 0 = V at *
  rw [z_or (x := 0) (by omega), z_or (x := 0) (by omega), z_or (x := 0) (by omega)]
  omega
theorem en_25f (hv : vR ⟨48, false, 0, 0, 0, 0, 0, 0, 0, 0⟩ = true)  : Enc ⟨48, false, 0, 0, 0, 0, 0, 0, 0, 0⟩ := by
  have hf := form20 (o := 48) (by omega)
  rw [vR_some (i := ⟨48, false, 0, 0, 0, 0, 0, 0, 0, 0⟩) hf, Bool.and_eq_true] at hv
  obtain ⟨⟨_, s1, s2⟩, s3, s4⟩ := ho_parts hv.1
  simp only at s1 s2 s3 s4
  have tt : takeR 0 0 = 0 := by decide
  rw [tt] at s3
  clear s1
  clear s2
  clear s3
  clear s4
  obtain ⟨w0, w1, w2⟩ := enc_28  0 0 
  refine ⟨?_, ⟨by omega, by omega⟩, w2, fun _ => rfl, fun _ => rfl⟩
  have k : fstR ⟨48, false, 0, 0, 0, 0, 0, 0, 0, 0⟩ = firstP ⟨47, 48, 3, 0, 0, 0, 0, 0, 0, 0⟩ ⟨48, false, 0, 0, 0, 0, 0, 0, 0, 0⟩ := by unfold fstR; rw [show formR (⟨48, false, 0, 0, 0, 0, 0, 0, 0, 0⟩ : In).o = some ⟨47, 48, 3, 0, 0, 0, 0, 0, 0, 0⟩ from hf]
  rw [k, fp_25f  ]

theorem enc_c25 (b : Bool) (m r x p q y g n : Int) (hv : vR ⟨48, b, m, r, x, p, q, y, g, n⟩ = true) : Enc ⟨48, b, m, r, x, p, q, y, g, n⟩ := by
  have hf := form20 (o := 48) (by omega)
  have hv2 := hv
  rw [vR_some (i := ⟨48, b, m, r, x, p, q, y, g, n⟩) hf, Bool.and_eq_true] at hv2
  obtain ⟨⟨sb, s1, s2⟩, s3, s4⟩ := ho_parts hv2.1
  simp only at sb s1 s2 s3 s4
  have tt : takeR 0 0 = 0 := by decide
  rw [tt] at s3
  clear hv2 hf
  obtain ⟨rfl, rfl, rfl⟩ := hoO_zero s1
  obtain ⟨rfl, rfl, rfl⟩ := hoO_zero s2
  obtain rfl : g = 0 := by omega
  obtain rfl : n = 0 := by omega
  obtain rfl : b = false := by simpa using sb
  exact en_25f  hv 

theorem fp_26f  : firstP ⟨52, 52, 5, 0, 0, 0, 0, 0, 0, 0⟩ ⟨52, false, 0, 0, 0, 0, 0, 0, 0, 0⟩ = rfR ⟨52, false, 0, 0, 0, 0, 0, 0, 0, 0⟩ := by
  have hU := fdR_bds 0 0
  have hV := fdR_bds 0 0
  have q1 : placeR (fdR 0 0) 0 = 0 := by simp [placeR]
  have q2 : placeR (fdR 0 0) 0 = 0 := by simp [placeR]
  have q3 : placeR 0 0 = 0 := by simp [placeR]
  have q4 : placeR 0 0 = 0 := by simp [placeR]
  have e : firstP ⟨52, 52, 5, 0, 0, 0, 0, 0, 0, 0⟩ ⟨52, false, 0, 0, 0, 0, 0, 0, 0, 0⟩ = 5 + (52 - 52) * pwR 0 + bits .or .i64 (bits .or .i64 (bits .or .i64 (placeR (fdR 0 0) 0) (placeR (fdR 0 0) 0)) (placeR 0 0)) (placeR 0 0) := rfl
  rw [e]
  simp only [q1, q2, q3, q4]
  rw [show pwR 0 = 1 by decide, fst_29  0 0 ]
  clear e q1 q2 q3 q4
  generalize fdR 0 0 = U at *
  generalize fdR 0 0 = V at *
  rw [z_or (x := 0) (by omega), z_or (x := 0) (by omega), z_or (x := 0) (by omega)]
  omega
theorem en_26f (hv : vR ⟨52, false, 0, 0, 0, 0, 0, 0, 0, 0⟩ = true)  : Enc ⟨52, false, 0, 0, 0, 0, 0, 0, 0, 0⟩ := by
  have hf := form21 (o := 52) (by omega)
  rw [vR_some (i := ⟨52, false, 0, 0, 0, 0, 0, 0, 0, 0⟩) hf, Bool.and_eq_true] at hv
  obtain ⟨⟨_, s1, s2⟩, s3, s4⟩ := ho_parts hv.1
  simp only at s1 s2 s3 s4
  have tt : takeR 0 0 = 0 := by decide
  rw [tt] at s3
  clear s1
  clear s2
  clear s3
  clear s4
  obtain ⟨w0, w1, w2⟩ := enc_29  0 0 
  refine ⟨?_, ⟨by omega, by omega⟩, w2, fun _ => rfl, fun _ => rfl⟩
  have k : fstR ⟨52, false, 0, 0, 0, 0, 0, 0, 0, 0⟩ = firstP ⟨52, 52, 5, 0, 0, 0, 0, 0, 0, 0⟩ ⟨52, false, 0, 0, 0, 0, 0, 0, 0, 0⟩ := by unfold fstR; rw [show formR (⟨52, false, 0, 0, 0, 0, 0, 0, 0, 0⟩ : In).o = some ⟨52, 52, 5, 0, 0, 0, 0, 0, 0, 0⟩ from hf]
  rw [k, fp_26f  ]

theorem enc_c26 (b : Bool) (m r x p q y g n : Int) (hv : vR ⟨52, b, m, r, x, p, q, y, g, n⟩ = true) : Enc ⟨52, b, m, r, x, p, q, y, g, n⟩ := by
  have hf := form21 (o := 52) (by omega)
  have hv2 := hv
  rw [vR_some (i := ⟨52, b, m, r, x, p, q, y, g, n⟩) hf, Bool.and_eq_true] at hv2
  obtain ⟨⟨sb, s1, s2⟩, s3, s4⟩ := ho_parts hv2.1
  simp only at sb s1 s2 s3 s4
  have tt : takeR 0 0 = 0 := by decide
  rw [tt] at s3
  clear hv2 hf
  obtain ⟨rfl, rfl, rfl⟩ := hoO_zero s1
  obtain ⟨rfl, rfl, rfl⟩ := hoO_zero s2
  obtain rfl : g = 0 := by omega
  obtain rfl : n = 0 := by omega
  obtain rfl : b = false := by simpa using sb
  exact en_26f  hv 

theorem enc_all {o : Int} {b : Bool} {m r x p q y g n : Int} (hv : vR ⟨o, b, m, r, x, p, q, y, g, n⟩ = true) : Enc ⟨o, b, m, r, x, p, q, y, g, n⟩ := by
  by_cases k0 : 1 ≤ o ∧ o ≤ 5
  · exact enc_c0 o b m r x p q y g n k0 hv
  by_cases k1 : o = 6
  · subst k1; exact enc_c1 b m r x p q y g n hv
  by_cases k2 : o = 7
  · subst k2; exact enc_c2 b m r x p q y g n hv
  by_cases k3 : 8 ≤ o ∧ o ≤ 10
  · exact enc_c3 o b m r x p q y g n k3 hv
  by_cases k4 : o = 11
  · subst k4; exact enc_c4 b m r x p q y g n hv
  by_cases k5 : 12 ≤ o ∧ o ≤ 19
  · exact enc_c5 o b m r x p q y g n k5 hv
  by_cases k6 : 20 ≤ o ∧ o ≤ 23
  · exact enc_c6 o b m r x p q y g n k6 hv
  by_cases k7 : o = 24
  · subst k7; exact enc_c7 b m r x p q y g n hv
  by_cases k8 : o = 25
  · subst k8; exact enc_c8 b m r x p q y g n hv
  by_cases k9 : 26 ≤ o ∧ o ≤ 32
  · exact enc_c9 o b m r x p q y g n k9 hv
  by_cases k10 : 33 ≤ o ∧ o ≤ 40
  · exact enc_c10 o b m r x p q y g n k10 hv
  by_cases k11 : o = 41
  · subst k11; exact enc_c11 b m r x p q y g n hv
  by_cases k12 : o = 42
  · subst k12; exact enc_c12 b m r x p q y g n hv
  by_cases k13 : o = 43
  · subst k13; exact enc_c13 b m r x p q y g n hv
  by_cases k14 : o = 44
  · subst k14; exact enc_c14 b m r x p q y g n hv
  by_cases k15 : o = 45
  · subst k15; exact enc_c15 b m r x p q y g n hv
  by_cases k16 : o = 46
  · subst k16; exact enc_c16 b m r x p q y g n hv
  by_cases k17 : o = 53
  · subst k17; exact enc_c17 b m r x p q y g n hv
  by_cases k18 : o = 54
  · subst k18; exact enc_c18 b m r x p q y g n hv
  by_cases k19 : o = 55
  · subst k19; exact enc_c19 b m r x p q y g n hv
  by_cases k20 : o = 56
  · subst k20; exact enc_c20 b m r x p q y g n hv
  by_cases k21 : o = 50
  · subst k21; exact enc_c21 b m r x p q y g n hv
  by_cases k22 : o = 51
  · subst k22; exact enc_c22 b m r x p q y g n hv
  by_cases k23 : o = 49
  · subst k23; exact enc_c23 b m r x p q y g n hv
  by_cases k24 : o = 47
  · subst k24; exact enc_c24 b m r x p q y g n hv
  by_cases k25 : o = 48
  · subst k25; exact enc_c25 b m r x p q y g n hv
  by_cases k26 : o = 52
  · subst k26; exact enc_c26 b m r x p q y g n hv
  have ho : o < 1 ∨ 56 < o := by omega
  rw [vR_none (i := ⟨o, b, m, r, x, p, q, y, g, n⟩) (form_none (o := o) ho)] at hv
  cases hv
theorem dec_all {w : Int} (h0 : 0 ≤ w) (h1 : w ≤ 65535) {e : Row} (T : Took w e) (x y : Int) : rfR ⟨(shR w).o, (shR w).b, (shR w).m, (shR w).r, x, (shR w).p, (shR w).q, y, (shR w).g, (shR w).n⟩ = w := by
  by_cases k0 : w ≤ 0
  · exact dec_24 (by omega) (by omega) x y
  by_cases k1 : w ≤ 1
  · exact dec_25 (by omega) (by omega) x y
  by_cases k2 : w ≤ 2
  · exact dec_26 (by omega) (by omega) x y
  by_cases k3 : w ≤ 3
  · exact dec_27 (by omega) (by omega) x y
  by_cases k4 : w ≤ 4
  · exact dec_28 (by omega) (by omega) x y
  by_cases k5 : w ≤ 5
  · exact dec_29 (by omega) (by omega) x y
  by_cases k6 : w ≤ 63
  · exfalso
    have k : shR w = nil10 := by
      unfold shR
      rw [if_neg (by omega), if_neg (by omega), if_neg (by omega), if_neg (by omega), if_neg (by omega), if_neg (by omega), if_neg (by omega), if_neg (by omega), if_neg (by omega), if_neg (by omega), if_neg (by omega), if_neg (by omega), if_neg (by omega), if_neg (by omega), if_neg (by omega), if_neg (by omega), if_neg (by omega), if_neg (by omega), if_neg (by omega), if_neg (by omega), if_neg (by omega), if_neg (by omega), if_neg (by omega), if_neg (by omega), if_neg (by omega), if_neg (by omega), if_neg (by omega), if_neg (by omega), if_neg (by omega), if_neg (by omega)]
    have k2 := T.form
    rw [k] at k2
    rw [form_none (o := (nil10).o) (by decide)] at k2
    cases k2
  by_cases k7 : w ≤ 127
  · exact dec_15 (by omega) (by omega) x y
  by_cases k8 : w ≤ 135
  · exact dec_17 (by omega) (by omega) x y
  by_cases k9 : w ≤ 159
  · exfalso
    have k : shR w = nil10 := by
      unfold shR
      rw [if_neg (by omega), if_neg (by omega), if_neg (by omega), if_neg (by omega), if_neg (by omega), if_neg (by omega), if_neg (by omega), if_neg (by omega), if_neg (by omega), if_neg (by omega), if_neg (by omega), if_neg (by omega), if_neg (by omega), if_neg (by omega), if_neg (by omega), if_neg (by omega), if_neg (by omega), if_neg (by omega), if_neg (by omega), if_neg (by omega), if_neg (by omega), if_neg (by omega), if_neg (by omega), if_neg (by omega), if_neg (by omega), if_neg (by omega), if_neg (by omega), if_neg (by omega), if_neg (by omega), if_neg (by omega)]
    have k2 := T.form
    rw [k] at k2
    rw [form_none (o := (nil10).o) (by decide)] at k2
    cases k2
  by_cases k10 : w ≤ 175
  · exact dec_22 (by omega) (by omega) x y
  by_cases k11 : w ≤ 191
  · exact dec_23 (by omega) (by omega) x y
  by_cases k12 : w ≤ 255
  · exact dec_11 (by omega) (by omega) x y
  by_cases k13 : w ≤ 2047
  · exact dec_18 (by omega) (by omega) x y
  by_cases k14 : w ≤ 2559
  · exact dec_16 (by omega) (by omega) x y
  by_cases k15 : w ≤ 3071
  · exact dec_7 (by omega) (by omega) x y
  by_cases k16 : w ≤ 3327
  · exact dec_9 (by omega) (by omega) x y
  by_cases k17 : w ≤ 3391
  · exfalso
    have k : shR w = nil10 := by
      unfold shR
      rw [if_neg (by omega), if_neg (by omega), if_neg (by omega), if_neg (by omega), if_neg (by omega), if_neg (by omega), if_neg (by omega), if_neg (by omega), if_neg (by omega), if_neg (by omega), if_neg (by omega), if_neg (by omega), if_neg (by omega), if_neg (by omega), if_neg (by omega), if_neg (by omega), if_neg (by omega), if_neg (by omega), if_neg (by omega), if_neg (by omega), if_neg (by omega), if_neg (by omega), if_neg (by omega), if_neg (by omega), if_neg (by omega), if_neg (by omega), if_neg (by omega), if_neg (by omega), if_neg (by omega), if_neg (by omega)]
    have k2 := T.form
    rw [k] at k2
    rw [form_none (o := (nil10).o) (by decide)] at k2
    cases k2
  by_cases k18 : w ≤ 3455
  · exact dec_13 (by omega) (by omega) x y
  by_cases k19 : w ≤ 3519
  · exact dec_14 (by omega) (by omega) x y
  by_cases k20 : w ≤ 3583
  · exact dec_12 (by omega) (by omega) x y
  by_cases k21 : w ≤ 4095
  · exfalso
    have k : shR w = nil10 := by
      unfold shR
      rw [if_neg (by omega), if_neg (by omega), if_neg (by omega), if_neg (by omega), if_neg (by omega), if_neg (by omega), if_neg (by omega), if_neg (by omega), if_neg (by omega), if_neg (by omega), if_neg (by omega), if_neg (by omega), if_neg (by omega), if_neg (by omega), if_neg (by omega), if_neg (by omega), if_neg (by omega), if_neg (by omega), if_neg (by omega), if_neg (by omega), if_neg (by omega), if_neg (by omega), if_neg (by omega), if_neg (by omega), if_neg (by omega), if_neg (by omega), if_neg (by omega), if_neg (by omega), if_neg (by omega), if_neg (by omega)]
    have k2 := T.form
    rw [k] at k2
    rw [form_none (o := (nil10).o) (by decide)] at k2
    cases k2
  by_cases k22 : w ≤ 24575
  · exact dec_0 (by omega) (by omega) x y
  by_cases k23 : w ≤ 28671
  · exact dec_2 (by omega) (by omega) x y
  by_cases k24 : w ≤ 30207
  · exact dec_4 (by omega) (by omega) x y
  by_cases k25 : w ≤ 30719
  · exfalso
    have k : shR w = nil10 := by
      unfold shR
      rw [if_neg (by omega), if_neg (by omega), if_neg (by omega), if_neg (by omega), if_neg (by omega), if_neg (by omega), if_neg (by omega), if_neg (by omega), if_neg (by omega), if_neg (by omega), if_neg (by omega), if_neg (by omega), if_neg (by omega), if_neg (by omega), if_neg (by omega), if_neg (by omega), if_neg (by omega), if_neg (by omega), if_neg (by omega), if_neg (by omega), if_neg (by omega), if_neg (by omega), if_neg (by omega), if_neg (by omega), if_neg (by omega), if_neg (by omega), if_neg (by omega), if_neg (by omega), if_neg (by omega), if_neg (by omega)]
    have k2 := T.form
    rw [k] at k2
    rw [form_none (o := (nil10).o) (by decide)] at k2
    cases k2
  by_cases k26 : w ≤ 31231
  · exact dec_5 (by omega) (by omega) x y
  by_cases k27 : w ≤ 32255
  · exfalso
    have k : shR w = nil10 := by
      unfold shR
      rw [if_neg (by omega), if_neg (by omega), if_neg (by omega), if_neg (by omega), if_neg (by omega), if_neg (by omega), if_neg (by omega), if_neg (by omega), if_neg (by omega), if_neg (by omega), if_neg (by omega), if_neg (by omega), if_neg (by omega), if_neg (by omega), if_neg (by omega), if_neg (by omega), if_neg (by omega), if_neg (by omega), if_neg (by omega), if_neg (by omega), if_neg (by omega), if_neg (by omega), if_neg (by omega), if_neg (by omega), if_neg (by omega), if_neg (by omega), if_neg (by omega), if_neg (by omega), if_neg (by omega), if_neg (by omega)]
    have k2 := T.form
    rw [k] at k2
    rw [form_none (o := (nil10).o) (by decide)] at k2
    cases k2
  by_cases k28 : w ≤ 32767
  · exact dec_6 (by omega) (by omega) x y
  by_cases k29 : w ≤ 34815
  · exact dec_19 (by omega) (by omega) x y
  by_cases k30 : w ≤ 35071
  · exact dec_20 (by omega) (by omega) x y
  by_cases k31 : w ≤ 35327
  · exact dec_21 (by omega) (by omega) x y
  by_cases k32 : w ≤ 35839
  · exact dec_8 (by omega) (by omega) x y
  by_cases k33 : w ≤ 36095
  · exact dec_10 (by omega) (by omega) x y
  by_cases k34 : w ≤ 36863
  · exfalso
    have k : shR w = nil10 := by
      unfold shR
      rw [if_neg (by omega), if_neg (by omega), if_neg (by omega), if_neg (by omega), if_neg (by omega), if_neg (by omega), if_neg (by omega), if_neg (by omega), if_neg (by omega), if_neg (by omega), if_neg (by omega), if_neg (by omega), if_neg (by omega), if_neg (by omega), if_neg (by omega), if_neg (by omega), if_neg (by omega), if_neg (by omega), if_neg (by omega), if_neg (by omega), if_neg (by omega), if_neg (by omega), if_neg (by omega), if_neg (by omega), if_neg (by omega), if_neg (by omega), if_neg (by omega), if_neg (by omega), if_neg (by omega), if_neg (by omega)]
    have k2 := T.form
    rw [k] at k2
    rw [form_none (o := (nil10).o) (by decide)] at k2
    cases k2
  by_cases k35 : w ≤ 57343
  · exact dec_1 (by omega) (by omega) x y
  by_cases k36 : w ≤ 61439
  · exact dec_3 (by omega) (by omega) x y
  exfalso
  have k : shR w = nil10 := by
    unfold shR
    rw [if_neg (by omega), if_neg (by omega), if_neg (by omega), if_neg (by omega), if_neg (by omega), if_neg (by omega), if_neg (by omega), if_neg (by omega), if_neg (by omega), if_neg (by omega), if_neg (by omega), if_neg (by omega), if_neg (by omega), if_neg (by omega), if_neg (by omega), if_neg (by omega), if_neg (by omega), if_neg (by omega), if_neg (by omega), if_neg (by omega), if_neg (by omega), if_neg (by omega), if_neg (by omega), if_neg (by omega), if_neg (by omega), if_neg (by omega), if_neg (by omega), if_neg (by omega), if_neg (by omega), if_neg (by omega)]
  have k2 := T.form
  rw [k] at k2
  rw [form_none (o := (nil10).o) (by decide)] at k2
  cases k2

end Go.Proofs.YtlaikajgpgpidaaDoor
