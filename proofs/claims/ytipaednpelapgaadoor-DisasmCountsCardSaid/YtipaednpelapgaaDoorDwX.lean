/-
  Plain: lines begin with their addresses in six octal digits and have a text each; valid instructions have a text.
-/
import Derived.Test.YtipaednpelapgaaDoorDwK
namespace Go.Proofs.YtipaednpelapgaaDoor
set_option linter.unusedSimpArgs false
set_option linter.unusedVariables false
set_option maxHeartbeats 8000000
set_option maxRecDepth 100000

theorem row_by : ∀ k : Fin 57, (match formR (k.val : Int) with | some e => decide (e.e0 = 0) || byB (k.val : Int) | none => true) = true := by decide +kernel
theorem mn_ne : ∀ k : Fin 57, 1 ≤ k.val → mns.getD k.val [] ≠ [] := by decide
theorem ab_ne : ∀ e ∈ abv, e.1 ≠ [] := by decide
theorem vR_op {i : In} (hv : vR i = true) : (1 ≤ i.o ∧ i.o ≤ 56) ∧ (i.b = true → byB i.o = true) := by
  obtain ⟨o, b, m, r, x, p, q, y, g, n⟩ := i
  have ho := (vR_rng hv).1
  refine ⟨ho, fun hb => ?_⟩
  obtain ⟨K, rfl⟩ : ∃ K : Nat, o = (K : Int) := ⟨o.toNat, by omega⟩
  have hr := row_by ⟨K, by omega⟩
  simp only at hr hb ⊢
  cases hf : formR (K : Int) with
  | none => rw [vR_none (i := ⟨K, b, m, r, x, p, q, y, g, n⟩) hf] at hv; cases hv
  | some e =>
    rw [vR_some (i := ⟨K, b, m, r, x, p, q, y, g, n⟩) hf] at hv
    rw [hf] at hr
    simp only [Bool.and_eq_true] at hv
    have h1 := hv.1
    unfold hoR at h1
    simp only [Bool.and_eq_true, Bool.or_eq_true, Bool.not_eq_true', decide_eq_false_iff_not] at h1
    simp only [Bool.or_eq_true, decide_eq_true_eq] at hr
    rcases hr with h | h
    · rcases h1.1.1.1.1.1.1 with h2 | h2
      · exact absurd h h2
      · rw [hb] at h2; cases h2
    · exact h
theorem nm_some {o : Int} {b : Bool} (ho : 1 ≤ o ∧ o ≤ 56) (hb : b = true → byB o = true) : nmT o b = mnT o ++ (if b = true then [98] else []) := by
  unfold nmT opB
  rw [if_pos (by simpa using ho)]
  cases b with
  | false => simp
  | true => rw [if_pos rfl, if_pos (hb rfl), if_pos rfl]
theorem nm_ne {o : Int} {b : Bool} (ho : 1 ≤ o ∧ o ≤ 56) (hb : b = true → byB o = true) : nmT o b ≠ [] := by
  rw [nm_some ho hb]
  have h : mns.getD o.toNat [] ≠ [] := mn_ne ⟨o.toNat, by omega⟩ (by simp only; omega)
  exact fun k => h (List.append_eq_nil_iff.1 k).1
theorem tx_ne {i : In} (a : Int) (hv : vR i = true) : 0 < (txT i a).length := by
  have h := vR_op hv
  unfold txT
  rw [hv, if_pos rfl]
  cases hA : abT i.o i.n with
  | some s =>
    simp only
    unfold abT at hA
    rw [Option.map_eq_some_iff] at hA
    obtain ⟨e, he, rfl⟩ := hA
    exact List.length_pos_iff.2 (ab_ne e (List.mem_of_find?_eq_some he))
  | none =>
    simp only
    have := List.length_pos_iff.2 (nm_ne h.1 h.2)
    rw [List.length_append]
    omega
theorem dc_v (l : List Int) : (dcI l).2 = 0 ∨ vR (dcI l).1 = true := by
  cases l with
  | nil => exact Or.inl rfl
  | cons w t =>
    show (if 0 ≤ w ∧ w ≤ 65535 then dcW w t else (nil10, 0)).2 = 0 ∨ vR (if 0 ≤ w ∧ w ≤ 65535 then dcW w t else (nil10, 0)).1 = true
    split
    · unfold dcW
      split
      · exact Or.inl rfl
      · split
        · rename_i h; exact Or.inr h.2
        · exact Or.inl rfl
    · exact Or.inl rfl
theorem fs_ne (l : List Int) (a : Int) : 0 < (fsT l a).1.length := by
  unfold fsT
  split
  · simp
  · rename_i h
    rcases dc_v l with h1 | h1
    · exact absurd h1 h
    · exact tx_ne a h1

/-- Lines of the addresses from a to e. -/
def Sq : List (List UInt8) → Int → Int → Prop
  | [], a, e => a = e
  | s :: t, a, e => ∃ (T : List UInt8) (n : Int), s = adT a ++ 32 :: T ∧ 0 < T.length ∧ (n = 2 ∨ n = 4 ∨ n = 6) ∧ a + n ≤ e ∧ Sq t (a + n) e
theorem Sq.of : ∀ (k : Nat) (l : List Int) (a : Int), l.length ≤ k → Sq (lnT k l a) a (a + 2 * l.length)
  | 0, l, a, h => by
    have e : l = [] := List.length_eq_zero_iff.1 (by omega)
    subst e
    show a = a + 2 * ((([] : List Int).length : Nat) : Int)
    simp
  | k + 1, l, a, h => by
    unfold lnT
    split
    · rename_i h0
      show a = a + 2 * (l.length : Int)
      omega
    · have hr := fsT_rng l a (by omega)
      have ih := Sq.of k (l.drop (fsT l a).2) (a + 2 * (fsT l a).2) (by rw [List.length_drop]; omega)
      rw [List.length_drop] at ih
      refine ⟨(fsT l a).1, 2 * (fsT l a).2, rfl, fs_ne l a, by omega, by omega, ?_⟩
      have e : a + 2 * ((fsT l a).2 : Int) + 2 * ((l.length - (fsT l a).2 : Nat) : Int) = a + 2 * l.length := by omega
      rwa [e] at ih
theorem Sq.len : ∀ (L : List (List UInt8)) (a e : Int), Sq L a e → a + 2 * L.length ≤ e
  | [], a, e, h => by have : a = e := h; simp; omega
  | s :: t, a, e, ⟨T, n, _, _, hn, _, ht⟩ => by
    have := Sq.len t (a + n) e ht
    simp only [List.length_cons]
    omega
theorem Sq.nil {L : List (List UInt8)} {a e : Int} (h : Sq L a e) (hL : L = []) : a = e := by subst hL; exact h

/-! ### The six digits of an address -/
theorem dg_nat : ∀ d : Fin 8, (dg d.val).toNat = 48 + d.val := by decide
theorem pd6_six (U : Nat) (h : U < 65536) : pd6 U = [dg (U / 32768), dg (U / 4096 % 8), dg (U / 512 % 8), dg (U / 64 % 8), dg (U / 8 % 8), dg (U % 8)] := by
  have z : dg 0 = 48 := by decide
  unfold pd6
  by_cases h1 : U < 8
  · rw [digs_small h1, show U / 32768 = 0 by omega, show U / 4096 % 8 = 0 by omega, show U / 512 % 8 = 0 by omega, show U / 64 % 8 = 0 by omega, show U / 8 % 8 = 0 by omega, show U % 8 = U by omega, z]; rfl
  rw [digs_big (b := 8) (u := U) (by omega) (by omega)]
  by_cases h2 : U / 8 < 8
  · rw [digs_small h2, show U / 32768 = 0 by omega, show U / 4096 % 8 = 0 by omega, show U / 512 % 8 = 0 by omega, show U / 64 % 8 = 0 by omega, show U / 8 % 8 = U / 8 by omega, z]; rfl
  rw [digs_big (b := 8) (u := U / 8) (by omega) (by omega)]
  by_cases h3 : U / 8 / 8 < 8
  · rw [digs_small h3, show U / 32768 = 0 by omega, show U / 4096 % 8 = 0 by omega, show U / 512 % 8 = 0 by omega, show U / 64 % 8 = U / 8 / 8 by omega, z]; rfl
  rw [digs_big (b := 8) (u := U / 8 / 8) (by omega) (by omega)]
  by_cases h4 : U / 8 / 8 / 8 < 8
  · rw [digs_small h4, show U / 32768 = 0 by omega, show U / 4096 % 8 = 0 by omega, show U / 512 % 8 = U / 8 / 8 / 8 by omega, show U / 64 = U / 8 / 8 by omega, z]; rfl
  rw [digs_big (b := 8) (u := U / 8 / 8 / 8) (by omega) (by omega)]
  by_cases h5 : U / 8 / 8 / 8 / 8 < 8
  · rw [digs_small h5, show U / 32768 = 0 by omega, show U / 4096 % 8 = U / 8 / 8 / 8 / 8 by omega, show U / 512 = U / 8 / 8 / 8 by omega, show U / 64 = U / 8 / 8 by omega, z]; rfl
  rw [digs_big (b := 8) (u := U / 8 / 8 / 8 / 8) (by omega) (by omega), digs_small (by omega), show U / 32768 = U / 8 / 8 / 8 / 8 / 8 by omega, show U / 4096 = U / 8 / 8 / 8 / 8 by omega, show U / 512 = U / 8 / 8 / 8 by omega, show U / 64 = U / 8 / 8 by omega]
  rfl
/-- The number that the first k of six digits write, and the digit behind them. -/
def av (U k : Nat) : Nat := U / 8 ^ (6 - k)
def dgt (U k : Nat) : Nat := U / 8 ^ (5 - k) % 8
theorem av_0 {U : Nat} (h : U < 65536) : av U 0 = 0 := by unfold av; simp only [Nat.sub_zero, Nat.reducePow]; omega
theorem av_6 (U : Nat) : av U 6 = U := by unfold av; simp
theorem av_step (U : Nat) {k : Nat} (hk : k < 6) : av U (k + 1) = 8 * av U k + dgt U k ∧ dgt U k < 8 := by
  unfold av dgt
  rcases (by omega : k = 0 ∨ k = 1 ∨ k = 2 ∨ k = 3 ∨ k = 4 ∨ k = 5) with rfl | rfl | rfl | rfl | rfl | rfl
  all_goals
    simp only [Nat.reduceSub, Nat.reducePow, Nat.reduceAdd, Nat.sub_zero]
    omega
theorem av_le (U k : Nat) : av U k ≤ U := Nat.div_le_self _ _
theorem ad_dig {a : Int} {U : Nat} (hU : a = (U : Int)) (h : U < 65536) {k : Nat} (hk : k < 6) : ((adT a).getD k 0).toNat = 48 + dgt U k := by
  subst hU
  unfold adT
  rw [show ((U : Int) % 65536).toNat = U by omega, pd6_six U h]
  unfold dgt
  rcases (by omega : k = 0 ∨ k = 1 ∨ k = 2 ∨ k = 3 ∨ k = 4 ∨ k = 5) with rfl | rfl | rfl | rfl | rfl | rfl
  · have := dg_nat ⟨U / 32768, by omega⟩
    simp only [List.getD, List.getElem?_cons_zero, Option.getD_some, Nat.reduceSub, Nat.reducePow, Nat.sub_zero] at this ⊢
    omega
  · have := dg_nat ⟨U / 4096 % 8, by omega⟩
    simpa [List.getD] using this
  · have := dg_nat ⟨U / 512 % 8, by omega⟩
    simpa [List.getD] using this
  · have := dg_nat ⟨U / 64 % 8, by omega⟩
    simpa [List.getD] using this
  · have := dg_nat ⟨U / 8 % 8, by omega⟩
    simpa [List.getD] using this
  · have := dg_nat ⟨U % 8, by omega⟩
    simpa [List.getD] using this

end Go.Proofs.YtipaednpelapgaaDoor
