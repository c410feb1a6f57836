/-
  Walk over ByName of the reference of package disasm. Condition: its tables read as the program's text lays them.
-/
import Derived.Test.YtipaednpelapgaaDoorDwR
namespace Go.Proofs.YtipaednpelapgaaDoor
open Go.RowKit
set_option linter.unusedSimpArgs false
set_option linter.unusedVariables false
set_option maxHeartbeats 8000000
set_option maxRecDepth 100000

theorem bn_hit : ∀ (k : Fin 57) (b : Bool), nmT (k.val : Int) b ≠ [] → bnT (nmT (k.val : Int) b) = some ((k.val : Int), b) := by decide +kernel
theorem bn_clr : ∀ k : Fin 9, clr.getD k.val [] ≠ [] → bnT (clr.getD k.val []) = some (53, false) := by decide +kernel
theorem bn_sts : ∀ k : Fin 9, sts.getD k.val [] ≠ [] → bnT (sts.getD k.val []) = some (54, false) := by decide +kernel
theorem bn_keys : ∀ e ∈ tabN 57 ++ tabB, (∃ k : Fin 57, e.1 = nmT (k.val : Int) false ∨ e.1 = nmT (k.val : Int) true) ∨ (∃ k : Fin 9, e.1 = clr.getD k.val [] ∨ e.1 = sts.getD k.val []) := by decide +kernel
theorem bn_ne : ∀ e ∈ tabN 57 ++ tabB, e.1 ≠ [] := by decide +kernel
theorem bn_miss {s : List UInt8} (h1 : ∀ k : Nat, k < 57 → 1 ≤ k → nmT (k : Int) false ≠ s ∧ nmT (k : Int) true ≠ s) (h2 : ∀ k : Nat, k < 9 → clr.getD k [] ≠ s ∧ sts.getD k [] ≠ s) : bnT s = none := by
  unfold bnT fnd
  rw [List.find?_eq_none.2, Option.map_none]
  intro e he
  have he' : e ∈ tabN 57 ++ tabB := List.mem_reverse.1 he
  have hne : e.1 ≠ s := by
    rcases bn_keys e he' with ⟨k, h⟩ | ⟨k, h⟩
    · by_cases hk : 1 ≤ k.val
      · rcases h with h | h
        · rw [h]; exact (h1 k.val k.isLt hk).1
        · rw [h]; exact (h1 k.val k.isLt hk).2
      · have k0 : k.val = 0 := by omega
        rw [k0] at h
        have : e.1 = [] := by rcases h with h | h <;> (rw [h]; rfl)
        exact absurd this (bn_ne e he')
    · rcases h with h | h
      · rw [h]; exact (h2 k.val k.isLt).1
      · rw [h]; exact (h2 k.val k.isLt).2
  simpa using hne

theorem rbyname_any (s : ByteArray) {W0 : World} (T : Tab 0 mns W0) (T1 : Tab 1 clr W0) (T2 : Tab 2 sts W0) :
    Calls Tryd.prog 10 #[.string s] W0 fun e w' => e = .returned (bnV (bnT s.data.toList)) ∧ Below W0.heap.size W0 w' := by
  obtain ⟨l, rfl⟩ : ∃ l : List UInt8, s = ⟨l.toArray⟩ := ⟨s.data.toList, by simp⟩
  have es : (⟨l.toArray⟩ : ByteArray).data.toList = l := by simp
  rw [es]
  clear es
  have hb := Below.refl W0.heap.size W0
  by_cases hl : l = []
  · subst hl
    have e : Hid (bnT [] = none) := by unfold Hid; decide +kernel
    go_enter Tryd.func10, Tryd.ntmps10
    go_wp2
    go_ret3
    unfold Hid at e
    rw [e]
    exact ⟨rfl, hb⟩
  · have hle := List.isEmpty_eq_false_iff.2 hl
    have hl2 : Hid (l ≠ []) := hl
    clear hl
    go_enter Tryd.func10, Tryd.ntmps10
    go_wp2
    clear hle
    go_loopw [5] (fun i wr => ∃ k : Nat, 1 ≤ k ∧ k ≤ 57 ∧ i = .int .i64 k ∧ Below W0.heap.size W0 wr ∧ Hid (∀ j : Nat, j < k → 1 ≤ j → nmT (j : Int) false ≠ l ∧ nmT (j : Int) true ≠ l))
      (fun i _ => match i with | .int _ q => 57 - q.toNat | _ => 0)
    case atStart => exact ⟨1, by omega, by omega, rfl, hb, fun j h1 h2 => by omega⟩
    case round =>
      clear hb
      obtain ⟨k, hk0, hk, rfl, hbr, HS⟩ := hrel
      obtain ⟨a, cN, hT1, hT2, hT3⟩ := (T.step hbr).sl
      replace hT1 : _ = some (Value.slice (some a) 57 cN) := hT1
      clear hT2 hT3
      by_cases hk57 : k = 57
      · subst hk57
        go_wp2
        clear hT1
        go_loopw [6] (fun i wr => ∃ k : Nat, k ≤ 9 ∧ i = .int .i64 k ∧ Below W0.heap.size W0 wr ∧ Hid (∀ j : Nat, j < k → clr.getD j [] ≠ l ∧ sts.getD j [] ≠ l))
          (fun i _ => match i with | .int _ q => 9 - q.toNat | _ => 0)
        case atStart => exact ⟨0, by omega, rfl, hbr, fun j h1 => by omega⟩
        case round =>
          clear hbr
          obtain ⟨k, hk, rfl, hbr, HB⟩ := hrel
          obtain ⟨a1, c1, hA1, hA2, hA3⟩ := (T1.step hbr).sl
          obtain ⟨a2, c2, hB1, hB2, hB3⟩ := (T2.step hbr).sl
          replace hA1 : _ = some (Value.slice (some a1) 9 c1) := hA1
          replace hB1 : _ = some (Value.slice (some a2) 9 c2) := hB1
          by_cases hk9 : k = 9
          · subst hk9
            have e : Hid (bnT l = none) := bn_miss HS HB
            clear HS HB
            go_wp2
            go_ret3
            unfold Hid at e
            rw [e]
            exact ⟨rfl, hbr⟩
          · have hk1 : k < 9 := by omega
            have hk2 : (k : Int) < 9 := by omega
            have hA : _ = _ := Tab.at (g := 0) hA2 k hk1
            have hB : _ = _ := Tab.at (g := 0) hB2 k hk1
            have hc1 := bn_clr ⟨k, hk1⟩
            have hc2 := bn_sts ⟨k, hk1⟩
            simp only at hc1 hc2
            clear hA2 hA3 hB2 hB3 hk9
            have HB2 : clr.getD k [] ≠ l → sts.getD k [] ≠ l → Hid (∀ j : Nat, j < k + 1 → clr.getD j [] ≠ l ∧ sts.getD j [] ≠ l) := fun h1 h2 j hj => by
              rcases Nat.lt_or_ge j k with h | h
              · exact HB j h
              · obtain rfl : j = k := by omega
                exact ⟨h1, h2⟩
            generalize clr.getD k [] = X at *
            generalize sts.getD k [] = Y at *
            by_cases hX : X = l
            · subst hX
              have e : Hid (bnT X = some (53, false)) := hc1 hl2
              clear HS HB HB2 hc1 hc2
              go_wp2
              go_ret3
              unfold Hid at e
              rw [e]
              exact ⟨rfl, hbr⟩
            · have hX1 : (X == l) = false := beq_eq_false_iff_ne.2 hX
              by_cases hY : Y = l
              · subst hY
                have e : Hid (bnT Y = some (54, false)) := hc2 hl2
                clear HS HB HB2 hc1 hc2
                go_wp2
                go_ret3
                unfold Hid at e
                rw [e]
                exact ⟨rfl, hbr⟩
              · have hY1 : (Y == l) = false := beq_eq_false_iff_ne.2 hY
                have HB3 := HB2 hX hY
                clear HB HB2 hc1 hc2
                have HS2 := HS
                clear HS
                go_wp2
                refine ⟨⟨k + 1, by omega, rfl, hbr, HB3⟩, by simp only; omega⟩
      · have hk1 : k < 57 := by omega
        have hk2 : (k : Int) < 57 := by omega
        have hn0 := fun w t => rname_any (k : Int) false w t
        have hn1 := fun w t => rname_any (k : Int) true w t
        have hc0 := bn_hit ⟨k, hk1⟩ false
        have hc1 := bn_hit ⟨k, hk1⟩ true
        simp only at hc0 hc1
        have HS2 : nmT (k : Int) false ≠ l → nmT (k : Int) true ≠ l → Hid (∀ j : Nat, j < k + 1 → 1 ≤ j → nmT (j : Int) false ≠ l ∧ nmT (j : Int) true ≠ l) := fun h1 h2 j hj hj1 => by
          rcases Nat.lt_or_ge j k with h | h
          · exact HS j h hj1
          · obtain rfl : j = k := by omega
            exact ⟨h1, h2⟩
        generalize nmT (k : Int) false = X at *
        generalize nmT (k : Int) true = Y at *
        by_cases hX : X = l
        · subst hX
          have e : Hid (bnT X = some ((k : Int), false)) := hc0 hl2
          clear HS HS2 hc0 hc1
          go_wp2_with (first | (go_at_call 12; with_reducible refine (hn0 _ (T.step hbr)).mono ?_; rintro e w1 ⟨rfl, hb⟩; have hbr := hbr.trans (hb.mono hbr.size); clear hb))
          go_ret3
          unfold Hid at e
          rw [e]
          exact ⟨rfl, hbr⟩
        · have hX1 : (X == l) = false := beq_eq_false_iff_ne.2 hX
          by_cases hY : Y = l
          · subst hY
            have e : Hid (bnT Y = some ((k : Int), true)) := hc1 hl2
            clear HS HS2 hc0 hc1
            go_wp2_with (first | (go_at_call 12; with_reducible refine (hn0 _ (T.step hbr)).mono ?_; rintro e w1 ⟨rfl, hb⟩; have hbr := hbr.trans (hb.mono hbr.size); clear hb) | (go_at_call 12; with_reducible refine (hn1 _ (T.step hbr)).mono ?_; rintro e w1 ⟨rfl, hb⟩; have hbr := hbr.trans (hb.mono hbr.size); clear hb))
            go_ret3
            unfold Hid at e
            rw [e]
            exact ⟨rfl, hbr⟩
          · have hY1 : (Y == l) = false := beq_eq_false_iff_ne.2 hY
            have HS3 := HS2 hX hY
            clear HS HS2 hc0 hc1
            go_wp2_with (first | (go_at_call 12; with_reducible refine (hn0 _ (T.step hbr)).mono ?_; rintro e w1 ⟨rfl, hb⟩; have hbr := hbr.trans (hb.mono hbr.size); clear hb) | (go_at_call 12; with_reducible refine (hn1 _ (T.step hbr)).mono ?_; rintro e w1 ⟨rfl, hb⟩; have hbr := hbr.trans (hb.mono hbr.size); clear hb))
            refine ⟨⟨k + 1, by omega, by omega, rfl, hbr, HS3⟩, by simp only; omega⟩

end Go.Proofs.YtipaednpelapgaaDoor
