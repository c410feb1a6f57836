/-
  The contracts of package trap. Condition: the table of traps.
-/
import Derived.Test.YtlkpddenhmlkbaaDoorTrT
import Derived.Test.YtlkpddenhmlkbaaDoorTrL
import Derived.Maps.AppendAt
namespace Go.Proofs.YtlkpddenhmlkbaaDoor
open Go.RowKit
set_option linter.unusedSimpArgs false
set_option linter.unusedVariables false
set_option maxHeartbeats 4000000
set_option maxRecDepth 100000
attribute [local irreducible] wpQuiet

theorem kind_0 (w : World) (W : Kin w) : Calls Tryd.prog 18 #[.int .i64 0] w fun e w' => e = .returned (.agg #[.string ⟨#[]⟩, .int .i64 0, .bool false]) ∧ Below w.heap.size w w' := by
  have hs := W.size
  have h0 : w.cell? ⟨0, 0, none⟩ = some (.string ⟨#[]⟩) := (W.at0 0 (by omega)).1
  have h1 : w.cell? ⟨0, 1, none⟩ = some (.int .i64 0) := (W.at0 0 (by omega)).2.1
  have h2 : w.cell? ⟨0, 2, none⟩ = some (.bool false) := (W.at0 0 (by omega)).2.2
  clear W
  go_enter Tryd.func18, Tryd.ntmps18
  go_wp2
  refine bodyPost_ret (v := .agg #[.string ⟨#[]⟩, .int .i64 0, .bool false]) (by simp [results, Tryd.results18, go_sem]) rfl ⟨rfl, (Below.refl _ _).alloc (Nat.le_refl _) _⟩
theorem kind_1 (w : World) (W : Kin w) : Calls Tryd.prog 18 #[.int .i64 1] w fun e w' => e = .returned (.agg #[.string ⟨#[98, 117, 115]⟩, .int .i64 4, .bool true]) ∧ Below w.heap.size w w' := by
  have hs := W.size
  have h0 : w.cell? ⟨0, 3, none⟩ = some (.string ⟨#[98, 117, 115]⟩) := (W.at0 1 (by omega)).1
  have h1 : w.cell? ⟨0, 4, none⟩ = some (.int .i64 4) := (W.at0 1 (by omega)).2.1
  have h2 : w.cell? ⟨0, 5, none⟩ = some (.bool true) := (W.at0 1 (by omega)).2.2
  clear W
  go_enter Tryd.func18, Tryd.ntmps18
  go_wp2
  refine bodyPost_ret (v := .agg #[.string ⟨#[98, 117, 115]⟩, .int .i64 4, .bool true]) (by simp [results, Tryd.results18, go_sem]) rfl ⟨rfl, (Below.refl _ _).alloc (Nat.le_refl _) _⟩
theorem kind_2 (w : World) (W : Kin w) : Calls Tryd.prog 18 #[.int .i64 2] w fun e w' => e = .returned (.agg #[.string ⟨#[105, 108, 108, 101, 103, 97, 108]⟩, .int .i64 8, .bool true]) ∧ Below w.heap.size w w' := by
  have hs := W.size
  have h0 : w.cell? ⟨0, 6, none⟩ = some (.string ⟨#[105, 108, 108, 101, 103, 97, 108]⟩) := (W.at0 2 (by omega)).1
  have h1 : w.cell? ⟨0, 7, none⟩ = some (.int .i64 8) := (W.at0 2 (by omega)).2.1
  have h2 : w.cell? ⟨0, 8, none⟩ = some (.bool true) := (W.at0 2 (by omega)).2.2
  clear W
  go_enter Tryd.func18, Tryd.ntmps18
  go_wp2
  refine bodyPost_ret (v := .agg #[.string ⟨#[105, 108, 108, 101, 103, 97, 108]⟩, .int .i64 8, .bool true]) (by simp [results, Tryd.results18, go_sem]) rfl ⟨rfl, (Below.refl _ _).alloc (Nat.le_refl _) _⟩
theorem kind_3 (w : World) (W : Kin w) : Calls Tryd.prog 18 #[.int .i64 3] w fun e w' => e = .returned (.agg #[.string ⟨#[98, 112, 116]⟩, .int .i64 12, .bool false]) ∧ Below w.heap.size w w' := by
  have hs := W.size
  have h0 : w.cell? ⟨0, 9, none⟩ = some (.string ⟨#[98, 112, 116]⟩) := (W.at0 3 (by omega)).1
  have h1 : w.cell? ⟨0, 10, none⟩ = some (.int .i64 12) := (W.at0 3 (by omega)).2.1
  have h2 : w.cell? ⟨0, 11, none⟩ = some (.bool false) := (W.at0 3 (by omega)).2.2
  clear W
  go_enter Tryd.func18, Tryd.ntmps18
  go_wp2
  refine bodyPost_ret (v := .agg #[.string ⟨#[98, 112, 116]⟩, .int .i64 12, .bool false]) (by simp [results, Tryd.results18, go_sem]) rfl ⟨rfl, (Below.refl _ _).alloc (Nat.le_refl _) _⟩
theorem kind_4 (w : World) (W : Kin w) : Calls Tryd.prog 18 #[.int .i64 4] w fun e w' => e = .returned (.agg #[.string ⟨#[105, 111, 116]⟩, .int .i64 16, .bool false]) ∧ Below w.heap.size w w' := by
  have hs := W.size
  have h0 : w.cell? ⟨0, 12, none⟩ = some (.string ⟨#[105, 111, 116]⟩) := (W.at0 4 (by omega)).1
  have h1 : w.cell? ⟨0, 13, none⟩ = some (.int .i64 16) := (W.at0 4 (by omega)).2.1
  have h2 : w.cell? ⟨0, 14, none⟩ = some (.bool false) := (W.at0 4 (by omega)).2.2
  clear W
  go_enter Tryd.func18, Tryd.ntmps18
  go_wp2
  refine bodyPost_ret (v := .agg #[.string ⟨#[105, 111, 116]⟩, .int .i64 16, .bool false]) (by simp [results, Tryd.results18, go_sem]) rfl ⟨rfl, (Below.refl _ _).alloc (Nat.le_refl _) _⟩
theorem kind_5 (w : World) (W : Kin w) : Calls Tryd.prog 18 #[.int .i64 5] w fun e w' => e = .returned (.agg #[.string ⟨#[112, 111, 119, 101, 114]⟩, .int .i64 20, .bool false]) ∧ Below w.heap.size w w' := by
  have hs := W.size
  have h0 : w.cell? ⟨0, 15, none⟩ = some (.string ⟨#[112, 111, 119, 101, 114]⟩) := (W.at0 5 (by omega)).1
  have h1 : w.cell? ⟨0, 16, none⟩ = some (.int .i64 20) := (W.at0 5 (by omega)).2.1
  have h2 : w.cell? ⟨0, 17, none⟩ = some (.bool false) := (W.at0 5 (by omega)).2.2
  clear W
  go_enter Tryd.func18, Tryd.ntmps18
  go_wp2
  refine bodyPost_ret (v := .agg #[.string ⟨#[112, 111, 119, 101, 114]⟩, .int .i64 20, .bool false]) (by simp [results, Tryd.results18, go_sem]) rfl ⟨rfl, (Below.refl _ _).alloc (Nat.le_refl _) _⟩
theorem kind_6 (w : World) (W : Kin w) : Calls Tryd.prog 18 #[.int .i64 6] w fun e w' => e = .returned (.agg #[.string ⟨#[101, 109, 116]⟩, .int .i64 24, .bool false]) ∧ Below w.heap.size w w' := by
  have hs := W.size
  have h0 : w.cell? ⟨0, 18, none⟩ = some (.string ⟨#[101, 109, 116]⟩) := (W.at0 6 (by omega)).1
  have h1 : w.cell? ⟨0, 19, none⟩ = some (.int .i64 24) := (W.at0 6 (by omega)).2.1
  have h2 : w.cell? ⟨0, 20, none⟩ = some (.bool false) := (W.at0 6 (by omega)).2.2
  clear W
  go_enter Tryd.func18, Tryd.ntmps18
  go_wp2
  refine bodyPost_ret (v := .agg #[.string ⟨#[101, 109, 116]⟩, .int .i64 24, .bool false]) (by simp [results, Tryd.results18, go_sem]) rfl ⟨rfl, (Below.refl _ _).alloc (Nat.le_refl _) _⟩
theorem kind_7 (w : World) (W : Kin w) : Calls Tryd.prog 18 #[.int .i64 7] w fun e w' => e = .returned (.agg #[.string ⟨#[116, 114, 97, 112]⟩, .int .i64 28, .bool false]) ∧ Below w.heap.size w w' := by
  have hs := W.size
  have h0 : w.cell? ⟨0, 21, none⟩ = some (.string ⟨#[116, 114, 97, 112]⟩) := (W.at0 7 (by omega)).1
  have h1 : w.cell? ⟨0, 22, none⟩ = some (.int .i64 28) := (W.at0 7 (by omega)).2.1
  have h2 : w.cell? ⟨0, 23, none⟩ = some (.bool false) := (W.at0 7 (by omega)).2.2
  clear W
  go_enter Tryd.func18, Tryd.ntmps18
  go_wp2
  refine bodyPost_ret (v := .agg #[.string ⟨#[116, 114, 97, 112]⟩, .int .i64 28, .bool false]) (by simp [results, Tryd.results18, go_sem]) rfl ⟨rfl, (Below.refl _ _).alloc (Nat.le_refl _) _⟩
theorem kind_8 (w : World) (W : Kin w) : Calls Tryd.prog 18 #[.int .i64 8] w fun e w' => e = .returned (.agg #[.string ⟨#[109, 109, 117]⟩, .int .i64 32, .bool true]) ∧ Below w.heap.size w w' := by
  have hs := W.size
  have h0 : w.cell? ⟨0, 24, none⟩ = some (.string ⟨#[109, 109, 117]⟩) := (W.at0 8 (by omega)).1
  have h1 : w.cell? ⟨0, 25, none⟩ = some (.int .i64 32) := (W.at0 8 (by omega)).2.1
  have h2 : w.cell? ⟨0, 26, none⟩ = some (.bool true) := (W.at0 8 (by omega)).2.2
  clear W
  go_enter Tryd.func18, Tryd.ntmps18
  go_wp2
  refine bodyPost_ret (v := .agg #[.string ⟨#[109, 109, 117]⟩, .int .i64 32, .bool true]) (by simp [results, Tryd.results18, go_sem]) rfl ⟨rfl, (Below.refl _ _).alloc (Nat.le_refl _) _⟩
theorem kind_9 (w : World) (W : Kin w) : Calls Tryd.prog 18 #[.int .i64 9] w fun e w' => e = .returned (.agg #[.string ⟨#[112, 97, 114, 105, 116, 121]⟩, .int .i64 36, .bool true]) ∧ Below w.heap.size w w' := by
  have hs := W.size
  have h0 : w.cell? ⟨0, 27, none⟩ = some (.string ⟨#[112, 97, 114, 105, 116, 121]⟩) := (W.at0 9 (by omega)).1
  have h1 : w.cell? ⟨0, 28, none⟩ = some (.int .i64 36) := (W.at0 9 (by omega)).2.1
  have h2 : w.cell? ⟨0, 29, none⟩ = some (.bool true) := (W.at0 9 (by omega)).2.2
  clear W
  go_enter Tryd.func18, Tryd.ntmps18
  go_wp2
  refine bodyPost_ret (v := .agg #[.string ⟨#[112, 97, 114, 105, 116, 121]⟩, .int .i64 36, .bool true]) (by simp [results, Tryd.results18, go_sem]) rfl ⟨rfl, (Below.refl _ _).alloc (Nat.le_refl _) _⟩
theorem kind_no (t : Int) (h : ¬ (0 ≤ t ∧ t < 10)) (w : World) : Calls Tryd.prog 18 #[.int .i64 t] w fun e w' => e = .returned (.agg #[.string ⟨#[]⟩, .int .i64 0, .bool false]) ∧ Below w.heap.size w w' := by
  by_cases h0 : t < 0
  · have d0 : decide (t < 0) = true := decide_eq_true h0
    go_enter Tryd.func18, Tryd.ntmps18
    go_wp2
    refine bodyPost_ret (v := .agg #[.string ⟨#[]⟩, .int .i64 0, .bool false]) (by simp [results, Tryd.results18, go_sem]) rfl ⟨rfl, (Below.refl _ _).alloc (Nat.le_refl _) _⟩
  · have d0 : decide (t < 0) = false := decide_eq_false h0
    have h1 : 10 ≤ t := by omega
    have d1 : decide (10 ≤ t) = true := decide_eq_true h1
    go_enter Tryd.func18, Tryd.ntmps18
    go_wp2
    refine bodyPost_ret (v := .agg #[.string ⟨#[]⟩, .int .i64 0, .bool false]) (by simp [results, Tryd.results18, go_sem]) rfl ⟨rfl, (Below.refl _ _).alloc (Nat.le_refl _) _⟩
theorem kind_any (t : Int) (w : World) (W : Kin w) : Calls Tryd.prog 18 #[.int .i64 t] w fun e w' => e = .returned (.agg #[.string (nmV t), .int .i64 (vcV t), .bool (abV t)]) ∧ Below w.heap.size w w' := by
  by_cases h : 0 ≤ t ∧ t < 10
  · have h10 : t = 0 ∨ t = 1 ∨ t = 2 ∨ t = 3 ∨ t = 4 ∨ t = 5 ∨ t = 6 ∨ t = 7 ∨ t = 8 ∨ t = 9 := by omega
    rcases h10 with rfl | rfl | rfl | rfl | rfl | rfl | rfl | rfl | rfl | rfl
    · exact kind_0 w W
    · exact kind_1 w W
    · exact kind_2 w W
    · exact kind_3 w W
    · exact kind_4 w W
    · exact kind_5 w W
    · exact kind_6 w W
    · exact kind_7 w W
    · exact kind_8 w W
    · exact kind_9 w W
  · rw [nmV_no (by omega), vcV_no (by omega), show abV t = false from by unfold abV; rw [decide_eq_false (by omega), decide_eq_false (by omega), decide_eq_false (by omega), decide_eq_false (by omega)]; rfl]
    exact kind_no t h w
theorem fld0 (s : ByteArray) (v : Int) (b : Bool) (w : World) : Sem.run Tryd.prog (Instr.field 35 (.agg #[.string s, .int .i64 v, .bool b]) 0) w = .ok (.string s) w := by kernel_rfl
theorem fld1 (s : ByteArray) (v : Int) (b : Bool) (w : World) : Sem.run Tryd.prog (Instr.field 35 (.agg #[.string s, .int .i64 v, .bool b]) 1) w = .ok (.int .i64 v) w := by kernel_rfl
theorem fld2 (s : ByteArray) (v : Int) (b : Bool) (w : World) : Sem.run Tryd.prog (Instr.field 35 (.agg #[.string s, .int .i64 v, .bool b]) 2) w = .ok (.bool b) w := by kernel_rfl
theorem pVector (t : Int) (w : World) (W : Kin w) : Calls Tryd.prog 9 #[.int .i64 t] w fun e w' => e = .returned (.int .i64 (vcV t)) ∧ Below w.heap.size w w' := by
  have hk := kind_any t
  generalize nmV t = s at *
  generalize vcV t = v at *
  generalize abV t = b at *
  have hf := fld1 s v b
  go_enter Tryd.func9, Tryd.ntmps9
  go_wp2_with (first | (go_at_call 18; with_reducible refine (hk _ W).mono ?_; rintro e w' ⟨rfl, hb⟩))
  go_ret
  exact ⟨rfl, hb⟩
theorem pName (t : Int) (w : World) (W : Kin w) : Calls Tryd.prog 12 #[.int .i64 t] w fun e w' => e = .returned (.string (nmV t)) ∧ Below w.heap.size w w' := by
  have hk := kind_any t
  generalize nmV t = s at *
  generalize vcV t = v at *
  generalize abV t = b at *
  have hf := fld0 s v b
  go_enter Tryd.func12, Tryd.ntmps12
  go_wp2_with (first | (go_at_call 18; with_reducible refine (hk _ W).mono ?_; rintro e w' ⟨rfl, hb⟩))
  go_ret
  exact ⟨rfl, hb⟩
theorem pAborts (t : Int) (w : World) (W : Kin w) : Calls Tryd.prog 14 #[.int .i64 t] w fun e w' => e = .returned (.bool (abV t)) ∧ Below w.heap.size w w' := by
  have hk := kind_any t
  generalize nmV t = s at *
  generalize vcV t = v at *
  generalize abV t = b at *
  have hf := fld2 s v b
  go_enter Tryd.func14, Tryd.ntmps14
  go_wp2_with (first | (go_at_call 18; with_reducible refine (hk _ W).mono ?_; rintro e w' ⟨rfl, hb⟩))
  go_ret
  exact ⟨rfl, hb⟩
theorem pByVector (v : Int) (w : World) (W : Kin w) : Calls Tryd.prog 7 #[.int .i64 v] w fun e w' => e = .returned (.tuple #[.int .i64 (byV v).1, .bool (byV v).2]) ∧ Below w.heap.size w w' := by
  go_enter Tryd.func7, Tryd.ntmps7
  go_wp2
  go_loopw [4] (fun tv wr => ∃ k : Nat, k ≤ 9 ∧ tv = .int .i64 ((k : Int) + 1) ∧ Hid (∀ j : Nat, j < k → v ≠ 4 * ((j : Int) + 1)) ∧ Below w.heap.size w wr) (fun tv _ => match tv with | .int _ q => 10 - q.toNat | _ => 0)
  case atStart => exact ⟨0, by omega, rfl, fun j hj => absurd hj (Nat.not_lt_zero j), Below.refl _ _⟩
  case round =>
    obtain ⟨k, hk, rfl, hN, hB⟩ := hrel
    by_cases hk9 : k < 9
    · have hv := fun w => pVector ((k : Int) + 1) w
      rw [vcV_yes (by omega)] at hv
      by_cases hf : 4 * ((k : Int) + 1) = v
      · have hb : byV v = ((k : Int) + 1, true) := by rw [← hf]; exact byV_vc (by omega)
        have he : (4 * ((k : Int) + 1) == v) = true := by simpa using hf
        replace hb := hid hb
        have hbv := hb
        clear hN hf hb
        generalize 4 * ((k : Int) + 1) = y at *
        go_wp2_with (first | (go_at_call 9; with_reducible refine (hv _ (W.below hB)).mono ?_; rintro e w' ⟨rfl, hb⟩; replace hB := hB.trans (hb.mono hB.size); clear hb))
        go_ret2
        exact ⟨by rw [show byV v = _ from hbv]; rfl, hB⟩
      · have he : (4 * ((k : Int) + 1) == v) = false := by simpa using hf
        have hN2 : Hid (∀ j : Nat, j < k + 1 → v ≠ 4 * ((j : Int) + 1)) := fun j hj => by
          rcases (by omega : j < k ∨ j = k) with h | rfl
          · exact (show ∀ j : Nat, j < k → v ≠ 4 * ((j : Int) + 1) from hN) j h
          · exact fun h => hf h.symm
        clear hN hf
        generalize 4 * ((k : Int) + 1) = y at *
        go_wp2_with (first | (go_at_call 9; with_reducible refine (hv _ (W.below hB)).mono ?_; rintro e w' ⟨rfl, hb⟩; replace hB := hB.trans (hb.mono hB.size); clear hb))
        exact ⟨⟨k + 1, by omega, by go_num, hN2, hB⟩, by simp only; omega⟩
    · have hk10 : k = 9 := by omega
      have hbv : byV v = (0, false) := by
        unfold byV
        rw [if_neg]
        rintro ⟨h1, h2, h3⟩
        exact (show ∀ j : Nat, j < k → v ≠ 4 * ((j : Int) + 1) from hN) (v / 4 - 1).toNat (by omega) (by omega)
      replace hbv := hid hbv
      have hkn : ¬ (k : Int) + 1 ≤ 9 := by omega
      clear hN
      go_wp2
      go_ret2
      exact ⟨by rw [show byV v = _ from hbv]; rfl, hB⟩
theorem pVectors (w : World) (W : Kin w) : Calls Tryd.prog 16 #[] w fun e w' => ∃ r, e = .returned r ∧ Nums .i64 w' r vcL ∧ Below w.heap.size w w' := by
  obtain ⟨ii, hii, hz0, hz1, hz2⟩ := infoI_parts
  go_enter Tryd.func16, Tryd.ntmps16
  go_wp2
  go_loopw [1, 2] (fun ov tv wr => ∃ k : Nat, k ≤ 9 ∧ tv = .int .i64 ((k : Int) + 1) ∧ wr.ownsRow w.heap.size 3 1 ov k ((vcL.take k).map (Value.int .i64)) ∧ Below w.heap.size w wr) (fun _ tv _ => match tv with | .int _ q => 10 - q.toNat | _ => 0)
  case atStart => exact ⟨0, by omega, rfl, World.ownsRow_nil _ _ _ _, Below.refl _ _⟩
  case round =>
    obtain ⟨k, hk, rfl, hown, hB⟩ := hrel
    by_cases hk9 : k < 9
    · have hv := fun w => pVector ((k : Int) + 1) w
      rw [vcV_yes (by omega)] at hv
      have htk := hid (vcL_take hk9)
      go_wp2_with (first | (go_at_call 9; with_reducible refine (hv _ (W.below hB)).mono ?_; rintro e w' ⟨rfl, hb⟩; replace hown := own_step hown hb; replace hB := hB.trans (hb.mono hB.size); clear hb) | (at_builtin; refine wpList_append_own _ rfl (.tmp 7) (.tmp 10) 31 rfl w.heap.size 3 ii (.int .i64 0) 1 8 Tryd.underlying31 hii hz0 hz1 hz2 rfl (by decide) _ _ _ rfl (World.ownsRow.alloc hown _) ⟨w'.heap.size, 0, none⟩ 1 1 [.int .i64 (4 * ((k : Int) + 1))] rfl rfl (cell_one_new _ _ _) (fun x hx => by simp at hx; subst hx; rfl) (by unfold maxLen; omega) (by omega) (by have := hB.size; simp <;> omega) ?_; intro v2 w2 ho2 hg2 _))
      have ho3 : w2.ownsRow w.heap.size 3 1 v2 (k + 1) ((vcL.take (k + 1)).map (Value.int .i64)) := by
        rw [show vcL.take (k + 1) = _ from htk, List.map_append]; exact ho2
      exact ⟨⟨k + 1, by omega, by go_num, ho3, (hB.alloc hB.size _).grown hg2 (by have := hB.size; simp <;> omega) (fun j hj => (World.ownsRow.lt hown j hj).1)⟩, by simp only; omega⟩
    · have hk10 : k = 9 := by omega
      have hkn : ¬ (k : Int) + 1 ≤ 9 := by omega
      rw [show vcL.take k = vcL from by rw [hk10]; rfl] at hown
      have hN : Nums .i64 wr _ vcL := Nums.of_own hown
      clear hown
      go_wp2
      go_ret
      exact ⟨_, rfl, hN, hB⟩
theorem trap_c {W0 : World} (K : Kin W0) : TrC W0 :=
  ⟨fun t w h => pVector t w (K.below h), fun v w h => pByVector v w (K.below h), fun t w h => pName t w (K.below h), fun t w h => pAborts t w (K.below h), fun w h => pVectors w (K.below h)⟩
end Go.Proofs.YtlkpddenhmlkbaaDoor
