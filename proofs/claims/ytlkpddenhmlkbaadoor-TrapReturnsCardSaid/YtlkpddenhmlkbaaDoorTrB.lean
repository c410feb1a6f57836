/-
  The reference of package trap. No condition.
-/
import Derived.Test.YtlkpddenhmlkbaaDoorTrA
import Derived.Test.YtlkpddenhmlkbaaDoorReg
import Derived.Maps.AppendAt
namespace Go.Proofs.YtlkpddenhmlkbaaDoor
open Go.RowKit
set_option linter.unusedSimpArgs false
set_option linter.unusedVariables false
set_option maxHeartbeats 4000000
set_option maxRecDepth 100000
attribute [local irreducible] wpQuiet

/-- A fact that the walk does not use. -/
def Hid (p : Prop) : Prop := p
theorem hid {p : Prop} (h : p) : Hid p := h
theorem ris_any (t : Int) (w : World) : Calls Tryd.prog 19 #[.int .i64 t] w fun e w' => e = .returned (.bool (decide (1 ≤ t ∧ t ≤ 9))) ∧ w = w' := by
  by_cases h1 : 1 ≤ t
  · have d1 : decide (1 ≤ t) = true := decide_eq_true h1
    by_cases h2 : t ≤ 9
    · have d2 : decide (t ≤ 9) = true := decide_eq_true h2
      rw [decide_eq_true (p := 1 ≤ t ∧ t ≤ 9) ⟨h1, h2⟩]
      go_enter Tryd.func19, Tryd.ntmps19
      go_wp2
      go_ret
      exact ⟨rfl, rfl⟩
    · have d2 : decide (t ≤ 9) = false := decide_eq_false h2
      rw [decide_eq_false (p := 1 ≤ t ∧ t ≤ 9) (by omega)]
      go_enter Tryd.func19, Tryd.ntmps19
      go_wp2
      go_ret
      exact ⟨rfl, rfl⟩
  · have d1 : decide (1 ≤ t) = false := decide_eq_false h1
    rw [decide_eq_false (p := 1 ≤ t ∧ t ≤ 9) (by omega)]
    go_enter Tryd.func19, Tryd.ntmps19
    go_wp2
    go_ret
    exact ⟨rfl, rfl⟩
theorem rvec_any (t : Int) (w : World) : Calls Tryd.prog 10 #[.int .i64 t] w fun e w' => e = .returned (.int .i64 (vcV t)) ∧ w = w' := by
  have hi := ris_any t
  by_cases h : 1 ≤ t ∧ t ≤ 9
  · rw [decide_eq_true h] at hi
    rw [vcV_yes h]
    have hw1 : wrap64 (4 * t) = 4 * t := by unfold wrap64; omega
    go_enter Tryd.func10, Tryd.ntmps10
    go_wp2_with (first | (go_at_call 19; with_reducible refine (hi _).mono ?_; rintro e w' ⟨rfl, hw⟩; subst hw))
    go_ret
    exact ⟨rfl, rfl⟩
  · rw [decide_eq_false h] at hi
    rw [vcV_no h]
    go_enter Tryd.func10, Tryd.ntmps10
    go_wp2_with (first | (go_at_call 19; with_reducible refine (hi _).mono ?_; rintro e w' ⟨rfl, hw⟩; subst hw))
    go_ret
    exact ⟨rfl, rfl⟩
theorem rab_any (t : Int) (w : World) : Calls Tryd.prog 15 #[.int .i64 t] w fun e w' => e = .returned (.bool (abV t)) ∧ w = w' := by
  unfold abV
  by_cases n1 : t = 1
  · subst n1
    go_enter Tryd.func15, Tryd.ntmps15
    go_wp2
    go_ret
    exact ⟨rfl, rfl⟩
  have e1 : (t == 1) = false := by simpa using n1
  by_cases n2 : t = 2
  · subst n2
    go_enter Tryd.func15, Tryd.ntmps15
    go_wp2
    go_ret
    exact ⟨rfl, rfl⟩
  have e2 : (t == 2) = false := by simpa using n2
  by_cases n8 : t = 8
  · subst n8
    go_enter Tryd.func15, Tryd.ntmps15
    go_wp2
    go_ret
    exact ⟨rfl, rfl⟩
  have e8 : (t == 8) = false := by simpa using n8
  by_cases n9 : t = 9
  · subst n9
    go_enter Tryd.func15, Tryd.ntmps15
    go_wp2
    go_ret
    exact ⟨rfl, rfl⟩
  have e9 : (t == 9) = false := by simpa using n9
  rw [decide_eq_false n1, decide_eq_false n2, decide_eq_false n8, decide_eq_false n9]
  go_enter Tryd.func15, Tryd.ntmps15
  go_wp2
  go_ret
  exact ⟨rfl, rfl⟩
theorem rby_any (v : Int) (w : World) : Calls Tryd.prog 8 #[.int .i64 v] w fun e w' => e = .returned (.tuple #[.int .i64 (byV v).1, .bool (byV v).2]) ∧ w = w' := by
  go_enter Tryd.func8, Tryd.ntmps8
  go_wp2
  go_loopw [4] (fun tv wr => ∃ k : Nat, k ≤ 9 ∧ tv = .int .i64 ((k : Int) + 1) ∧ Hid (∀ j : Nat, j < k → v ≠ 4 * ((j : Int) + 1)) ∧ wr = w) (fun tv _ => match tv with | .int _ q => 10 - q.toNat | _ => 0)
  case atStart => exact ⟨0, by omega, rfl, fun j hj => absurd hj (Nat.not_lt_zero j), rfl⟩
  case round =>
    obtain ⟨k, hk, rfl, hN, rfl⟩ := hrel
    by_cases hk9 : k < 9
    · have hv := fun w => rvec_any ((k : Int) + 1) w
      rw [vcV_yes (by omega)] at hv
      by_cases hf : 4 * ((k : Int) + 1) = v
      · have hb : byV v = ((k : Int) + 1, true) := by rw [← hf]; exact byV_vc (by omega)
        have he : (4 * ((k : Int) + 1) == v) = true := by simpa using hf
        replace hb := hid hb
        clear hN hf
        generalize 4 * ((k : Int) + 1) = y at *
        go_wp2_with (first | (go_at_call 10; with_reducible refine (hv _).mono ?_; rintro e w' ⟨rfl, hw⟩; subst hw))
        go_ret2
        exact ⟨by rw [show byV v = _ from hb]; rfl, rfl⟩
      · have he : (4 * ((k : Int) + 1) == v) = false := by simpa using hf
        have hN2 : Hid (∀ j : Nat, j < k + 1 → v ≠ 4 * ((j : Int) + 1)) := fun j hj => by
          rcases (by omega : j < k ∨ j = k) with h | rfl
          · exact (show ∀ j : Nat, j < k → v ≠ 4 * ((j : Int) + 1) from hN) j h
          · exact fun h => hf h.symm
        clear hN hf
        generalize 4 * ((k : Int) + 1) = y at *
        go_wp2_with (first | (go_at_call 10; with_reducible refine (hv _).mono ?_; rintro e w' ⟨rfl, hw⟩; subst hw))
        exact ⟨⟨k + 1, by omega, by go_num, hN2, by first | rfl | trivial⟩, by simp only; omega⟩
    · have hk10 : k = 9 := by omega
      have hb : byV v = (0, false) := by
        unfold byV
        rw [if_neg]
        rintro ⟨h1, h2, h3⟩
        exact (show ∀ j : Nat, j < k → v ≠ 4 * ((j : Int) + 1) from hN) (v / 4 - 1).toNat (by omega) (by omega)
      replace hb := hid hb
      have hkn : ¬ (k : Int) + 1 ≤ 9 := by omega
      clear hN
      go_wp2
      go_ret2
      exact ⟨by rw [show byV v = _ from hb]; rfl, rfl⟩
theorem rnm_1 (w : World) : Calls Tryd.prog 13 #[.int .i64 1] w fun e w' => e = .returned (.string ⟨#[98, 117, 115]⟩) ∧ Below w.heap.size w w' := by
  have hi : ∀ w, Calls Tryd.prog 19 #[.int .i64 1] w fun e w' => e = .returned (.bool true) ∧ w = w' := ris_any 1
  go_enter Tryd.func13, Tryd.ntmps13
  go_wp2_with (first | (go_at_call 19; with_reducible refine (hi _).mono ?_; rintro e w' ⟨rfl, hw⟩; subst hw))
  go_ret
  exact ⟨rfl, (Below.refl _ _).alloc (Nat.le_refl _) _⟩
theorem rnm_2 (w : World) : Calls Tryd.prog 13 #[.int .i64 2] w fun e w' => e = .returned (.string ⟨#[105, 108, 108, 101, 103, 97, 108]⟩) ∧ Below w.heap.size w w' := by
  have hi : ∀ w, Calls Tryd.prog 19 #[.int .i64 2] w fun e w' => e = .returned (.bool true) ∧ w = w' := ris_any 2
  go_enter Tryd.func13, Tryd.ntmps13
  go_wp2_with (first | (go_at_call 19; with_reducible refine (hi _).mono ?_; rintro e w' ⟨rfl, hw⟩; subst hw))
  go_ret
  exact ⟨rfl, (Below.refl _ _).alloc (Nat.le_refl _) _⟩
theorem rnm_3 (w : World) : Calls Tryd.prog 13 #[.int .i64 3] w fun e w' => e = .returned (.string ⟨#[98, 112, 116]⟩) ∧ Below w.heap.size w w' := by
  have hi : ∀ w, Calls Tryd.prog 19 #[.int .i64 3] w fun e w' => e = .returned (.bool true) ∧ w = w' := ris_any 3
  go_enter Tryd.func13, Tryd.ntmps13
  go_wp2_with (first | (go_at_call 19; with_reducible refine (hi _).mono ?_; rintro e w' ⟨rfl, hw⟩; subst hw))
  go_ret
  exact ⟨rfl, (Below.refl _ _).alloc (Nat.le_refl _) _⟩
theorem rnm_4 (w : World) : Calls Tryd.prog 13 #[.int .i64 4] w fun e w' => e = .returned (.string ⟨#[105, 111, 116]⟩) ∧ Below w.heap.size w w' := by
  have hi : ∀ w, Calls Tryd.prog 19 #[.int .i64 4] w fun e w' => e = .returned (.bool true) ∧ w = w' := ris_any 4
  go_enter Tryd.func13, Tryd.ntmps13
  go_wp2_with (first | (go_at_call 19; with_reducible refine (hi _).mono ?_; rintro e w' ⟨rfl, hw⟩; subst hw))
  go_ret
  exact ⟨rfl, (Below.refl _ _).alloc (Nat.le_refl _) _⟩
theorem rnm_5 (w : World) : Calls Tryd.prog 13 #[.int .i64 5] w fun e w' => e = .returned (.string ⟨#[112, 111, 119, 101, 114]⟩) ∧ Below w.heap.size w w' := by
  have hi : ∀ w, Calls Tryd.prog 19 #[.int .i64 5] w fun e w' => e = .returned (.bool true) ∧ w = w' := ris_any 5
  go_enter Tryd.func13, Tryd.ntmps13
  go_wp2_with (first | (go_at_call 19; with_reducible refine (hi _).mono ?_; rintro e w' ⟨rfl, hw⟩; subst hw))
  go_ret
  exact ⟨rfl, (Below.refl _ _).alloc (Nat.le_refl _) _⟩
theorem rnm_6 (w : World) : Calls Tryd.prog 13 #[.int .i64 6] w fun e w' => e = .returned (.string ⟨#[101, 109, 116]⟩) ∧ Below w.heap.size w w' := by
  have hi : ∀ w, Calls Tryd.prog 19 #[.int .i64 6] w fun e w' => e = .returned (.bool true) ∧ w = w' := ris_any 6
  go_enter Tryd.func13, Tryd.ntmps13
  go_wp2_with (first | (go_at_call 19; with_reducible refine (hi _).mono ?_; rintro e w' ⟨rfl, hw⟩; subst hw))
  go_ret
  exact ⟨rfl, (Below.refl _ _).alloc (Nat.le_refl _) _⟩
theorem rnm_7 (w : World) : Calls Tryd.prog 13 #[.int .i64 7] w fun e w' => e = .returned (.string ⟨#[116, 114, 97, 112]⟩) ∧ Below w.heap.size w w' := by
  have hi : ∀ w, Calls Tryd.prog 19 #[.int .i64 7] w fun e w' => e = .returned (.bool true) ∧ w = w' := ris_any 7
  go_enter Tryd.func13, Tryd.ntmps13
  go_wp2_with (first | (go_at_call 19; with_reducible refine (hi _).mono ?_; rintro e w' ⟨rfl, hw⟩; subst hw))
  go_ret
  exact ⟨rfl, (Below.refl _ _).alloc (Nat.le_refl _) _⟩
theorem rnm_8 (w : World) : Calls Tryd.prog 13 #[.int .i64 8] w fun e w' => e = .returned (.string ⟨#[109, 109, 117]⟩) ∧ Below w.heap.size w w' := by
  have hi : ∀ w, Calls Tryd.prog 19 #[.int .i64 8] w fun e w' => e = .returned (.bool true) ∧ w = w' := ris_any 8
  go_enter Tryd.func13, Tryd.ntmps13
  go_wp2_with (first | (go_at_call 19; with_reducible refine (hi _).mono ?_; rintro e w' ⟨rfl, hw⟩; subst hw))
  go_ret
  exact ⟨rfl, (Below.refl _ _).alloc (Nat.le_refl _) _⟩
theorem rnm_9 (w : World) : Calls Tryd.prog 13 #[.int .i64 9] w fun e w' => e = .returned (.string ⟨#[112, 97, 114, 105, 116, 121]⟩) ∧ Below w.heap.size w w' := by
  have hi : ∀ w, Calls Tryd.prog 19 #[.int .i64 9] w fun e w' => e = .returned (.bool true) ∧ w = w' := ris_any 9
  go_enter Tryd.func13, Tryd.ntmps13
  go_wp2_with (first | (go_at_call 19; with_reducible refine (hi _).mono ?_; rintro e w' ⟨rfl, hw⟩; subst hw))
  go_ret
  exact ⟨rfl, (Below.refl _ _).alloc (Nat.le_refl _) _⟩
theorem rnm_any (t : Int) (w : World) : Calls Tryd.prog 13 #[.int .i64 t] w fun e w' => e = .returned (.string (nmV t)) ∧ Below w.heap.size w w' := by
  by_cases h : 1 ≤ t ∧ t ≤ 9
  · rcases nine h with rfl | rfl | rfl | rfl | rfl | rfl | rfl | rfl | rfl
    · exact rnm_1 w
    · exact rnm_2 w
    · exact rnm_3 w
    · exact rnm_4 w
    · exact rnm_5 w
    · exact rnm_6 w
    · exact rnm_7 w
    · exact rnm_8 w
    · exact rnm_9 w
  · have hi := ris_any t
    rw [decide_eq_false h] at hi
    rw [nmV_no h]
    go_enter Tryd.func13, Tryd.ntmps13
    go_wp2_with (first | (go_at_call 19; with_reducible refine (hi _).mono ?_; rintro e w' ⟨rfl, hw⟩; subst hw))
    go_ret
    exact ⟨rfl, Below.refl _ _⟩
theorem infoI : (Tryd.prog.info? 3).map (fun i => (i.zero, i.size, i.bytes)) = some (some (.int .i64 0), 1, 8) := by kernel_rfl
theorem infoI_parts : ∃ i : TypeInfo, Tryd.prog.info? 3 = some i ∧ i.zero = some (.int .i64 0) ∧ i.size = 1 ∧ i.bytes = 8 := by
  have h := infoI
  cases hi : Tryd.prog.info? 3 with
  | none => rw [hi] at h; cases h
  | some i =>
    rw [hi] at h
    simp only [Option.map_some, Option.some.injEq, Prod.mk.injEq] at h
    exact ⟨i, rfl, h.1, h.2.1, h.2.2⟩
theorem rvs_any (w : World) : Calls Tryd.prog 17 #[] w fun e w' => ∃ r, e = .returned r ∧ Nums .i64 w' r vcL ∧ Below w.heap.size w w' := by
  obtain ⟨ii, hii, hz0, hz1, hz2⟩ := infoI_parts
  go_enter Tryd.func17, Tryd.ntmps17
  go_wp2
  go_loopw [1, 2] (fun ov tv wr => ∃ k : Nat, k ≤ 9 ∧ tv = .int .i64 ((k : Int) + 1) ∧ wr.ownsRow w.heap.size 3 1 ov k ((vcL.take k).map (Value.int .i64)) ∧ Below w.heap.size w wr) (fun _ tv _ => match tv with | .int _ q => 10 - q.toNat | _ => 0)
  case atStart => exact ⟨0, by omega, rfl, World.ownsRow_nil _ _ _ _, Below.refl _ _⟩
  case round =>
    obtain ⟨k, hk, rfl, hown, hB⟩ := hrel
    by_cases hk9 : k < 9
    · have hv := fun w => rvec_any ((k : Int) + 1) w
      rw [vcV_yes (by omega)] at hv
      have htk := hid (vcL_take hk9)
      go_wp2_with (first | (go_at_call 10; with_reducible refine (hv _).mono ?_; rintro e w' ⟨rfl, hw⟩; subst hw) | (at_builtin; refine wpList_append_own _ rfl (.tmp 7) (.tmp 10) 31 rfl w.heap.size 3 ii (.int .i64 0) 1 8 Tryd.underlying31 hii hz0 hz1 hz2 rfl (by decide) _ _ _ rfl (World.ownsRow.alloc hown _) ⟨wr.heap.size, 0, none⟩ 1 1 [.int .i64 (4 * ((k : Int) + 1))] rfl rfl (cell_one_new _ _ _) (fun x hx => by simp at hx; subst hx; rfl) (by unfold maxLen; omega) (by omega) (by have := hB.size; simp <;> omega) ?_; intro v2 w2 ho2 hg2 _))
      have ho3 : w2.ownsRow w.heap.size 3 1 v2 (k + 1) ((vcL.take (k + 1)).map (Value.int .i64)) := by
        rw [show vcL.take (k + 1) = _ from htk, List.map_append]; exact ho2
      exact ⟨⟨k + 1, by omega, by go_num, ho3, (hB.alloc hB.size _).grown hg2 (by have := hB.size; simp <;> omega) (fun j hj => (World.ownsRow.lt hown j hj).1)⟩, by simp only; omega⟩
    · have hk10 : k = 9 := by omega
      have hkn : ¬ (k : Int) + 1 ≤ 9 := by omega
      rw [show vcL.take k = vcL from by rw [hk10]; rfl] at hown
      have hN : Nums .i64 wr _ vcL := Nums.of_own hown
      clear hown
      go_wp2
      go_ret
      exact ⟨_, rfl, hN, hB⟩
end Go.Proofs.YtlkpddenhmlkbaaDoor
