/-
  Tick of the reference: a valid controller and memory of at most 2^40 words.
-/
import Derived.Test.YtjolhlfjpnlcnaaDkI
import Derived.Test.YtjolhlfjpnlcnaaDkJb
namespace Go.Proofs.Ytjolhlfjpnlcnaa
open Go.RowKit
set_option linter.unusedSimpArgs false
set_option linter.unusedVariables false
set_option maxHeartbeats 4000000
set_option maxRecDepth 100000
attribute [local irreducible] wpQuiet

theorem rd_size {D : Drv} {s : Int} (hD : D.right = true) (he : (D.rd s).2 = 0) : (D.rd s).1.size = 128 := by
  unfold Drv.rd at *
  split at he
  · rename_i h
    rw [if_pos h]
    split at he
    · cases he
    · rename_i h1
      rw [if_neg h1]
      have hk : s.toNat < D.S.length := by omega
      rw [List.getD_eq_getElem?_getD, List.getElem?_eq_getElem hk]
      exact ((right_iff D).1 hD).2.2.1 _ (List.getElem_mem hk)
  · cases he
theorem rtickK_any (K : Dk) (m B : List Int) (vs vb vm vz : Value) (w : World) (X : Nat → Prop) (hXl : ∀ b, X b → b < w.heap.size) (hs : StsX X w vs K.D.S) (hb : ItsX X w vb K.D.B) (hm : ItsX X w vm m) (hz : ItsX X w vz B) (hR : K.right = true) (hw : ∀ x ∈ m, 0 ≤ x ∧ x ≤ 65535) (hml : m.length ≤ 1099511627776) (hzl : B.length ≤ 1099511627776) (hl : K.D.B.length ≤ 1099511627776) : Calls Try.prog 27 #[.agg #[vs, vb, .bool (K).n, .bool (K).r, .bool (K).e, .int .i64 (K).c, .int .i64 (K).w, .int .i64 (K).a, .int .i64 (K).s, .int .i64 (K).l], vm, vz] w (TickSays K m B X w) := by
  unfold Dk.right at hR
  rw [Bool.and_eq_true] at hR
  obtain ⟨hok, hD⟩ := hR
  obtain ⟨⟨hc0, hc3⟩, hw1, ha1, hs1, ha2, ⟨hl0, hl8⟩, hrl, hcw⟩ := (Dk.ok_iff K).1 hok
  rw [wordV_iff] at hw1 ha1 hs1
  have hl2 : K.D.S.length ≤ 1099511627776 := by have := ((right_iff K.D).1 hD).2.1; omega
  by_cases h0 : K.l = 0
  · exact rtick_idle K m B vs vb vm vz w X hXl hs hb hm hz h0
  by_cases h1 : 1 < K.l
  · exact rtick_down K m B vs vb vm vz w X hXl hs hb hm hz h1 hl8
  obtain ⟨D, en, rd, er, c, w1, a, s, l⟩ := K
  dsimp only at *
  obtain rfl : l = 1 := by omega
  obtain rfl : rd = false := by rw [hrl]; rfl
  obtain ⟨A, rfl⟩ : ∃ A : Nat, a = 2 * (A : Int) := ⟨(a / 2).toNat, by omega⟩
  have hcw' : c ≠ 0 ∧ w1 ≠ 0 := hcw.resolve_left (by decide)
  have hs0 := hs1
  by_cases hb64 : w1 ≤ 64
  · obtain ⟨n, rfl⟩ : ∃ n : Nat, w1 = (n : Int) := ⟨w1.toNat, by omega⟩
    by_cases hr : 2 * (m.length : Int) < 2 * (A : Int) + 2 * ((n : Nat) : Int)
    · exact rtick_far_small D en er c s A n (by omega) (by omega) (by omega) m B vs vb vm vz w X hXl hs hb hm hz hml hzl hl hl2 hr
    by_cases h2 : c = 2
    · subst h2
      cases hp : spV B (2 * (A : Int)) n
      · exact rtick_wr_small D en er s A n (by omega) (by omega) (by omega) m B vs vb vm vz w X hXl hs hb hm hz hml hzl hl hl2 hs0 hw hr hp _ _ rfl
      · exact rtick_sp2_small D en er s A n (by omega) (by omega) (by omega) m B vs vb vm vz w X hXl hs hb hm hz hml hzl hl hl2 hr hp
    by_cases he : (D.rd s).2 = 0
    · have hsz := rd_size hD he
      by_cases h1 : c = 1
      · subst h1
        exact rtick_get_small D en er s A n (by omega) (by omega) (by omega) m B vs vb vm vz w X hXl hs hb hm hz hml hzl hl hl2 hs0 hr he hsz
      obtain rfl : c = 3 := by omega
      cases hp : spV B (2 * (A : Int)) n
      · cases hd : dfW m A n (D.rd s).1
        · exact rtick_ck_small D en er s A n (by omega) (by omega) (by omega) m B vs vb vm vz w X hXl hs hb hm hz hml hzl hl hl2 hs0 hr he hsz hp hd
        · exact rtick_df_small D en er s A n (by omega) (by omega) (by omega) m B vs vb vm vz w X hXl hs hb hm hz hml hzl hl hl2 hr he hsz hp hd
      · exact rtick_sp3_small D en er s A n (by omega) (by omega) (by omega) m B vs vb vm vz w X hXl hs hb hm hz hml hzl hl hl2 hr he hp
    · exact rtick_rd_small D en er c s A n (by omega) (by omega) (by omega) m B vs vb vm vz w X hXl hs hb hm hz hml hzl hl hl2 hr h2 he
  · skip
    by_cases hr : 2 * (m.length : Int) < 2 * (A : Int) + 2 * ((64 : Nat) : Int)
    · exact rtick_far_big D en er c s A w1 (by omega) (by omega) (by omega) m B vs vb vm vz w X hXl hs hb hm hz hml hzl hl hl2 hr
    by_cases h2 : c = 2
    · subst h2
      cases hp : spV B (2 * (A : Int)) 64
      · exact rtick_wr_big D en er s A w1 (by omega) (by omega) (by omega) m B vs vb vm vz w X hXl hs hb hm hz hml hzl hl hl2 hs0 hw hr hp _ _ rfl
      · exact rtick_sp2_big D en er s A w1 (by omega) (by omega) (by omega) m B vs vb vm vz w X hXl hs hb hm hz hml hzl hl hl2 hr hp
    by_cases he : (D.rd s).2 = 0
    · have hsz := rd_size hD he
      by_cases h1 : c = 1
      · subst h1
        exact rtick_get_big D en er s A w1 (by omega) (by omega) (by omega) m B vs vb vm vz w X hXl hs hb hm hz hml hzl hl hl2 hs0 hr he hsz
      obtain rfl : c = 3 := by omega
      cases hp : spV B (2 * (A : Int)) 64
      · cases hd : dfW m A 64 (D.rd s).1
        · exact rtick_ck_big D en er s A w1 (by omega) (by omega) (by omega) m B vs vb vm vz w X hXl hs hb hm hz hml hzl hl hl2 hs0 hr he hsz hp hd
        · exact rtick_df_big D en er s A w1 (by omega) (by omega) (by omega) m B vs vb vm vz w X hXl hs hb hm hz hml hzl hl hl2 hr he hsz hp hd
      · exact rtick_sp3_big D en er s A w1 (by omega) (by omega) (by omega) m B vs vb vm vz w X hXl hs hb hm hz hml hzl hl hl2 hr he hp
    · exact rtick_rd_big D en er c s A w1 (by omega) (by omega) (by omega) m B vs vb vm vz w X hXl hs hb hm hz hml hzl hl hl2 hr h2 he
end Go.Proofs.Ytjolhlfjpnlcnaa
