/-
  The examples of the chapter: the statements' own function answers true, whatever lies in memory beside the listed tables. Evaluated by the kernel.
-/
import Derived.Test.YtlegcfjafdihlaaGreatDoorTab
import Derived.Test.YtlegcfjafdihlaaGreatDoorAle
namespace Go.Proofs.YtlegcfjafdihlaaGreatDoor
open Go Go.RowKit
open Ev (Hp Tri AB dep hp Env Loc R RL)
set_option linter.unusedVariables false
set_option linter.unusedSimpArgs false
set_option maxRecDepth 100000

def Gn (A : Addr) (c : Nat) : Env := fun n => match n with
  | 0 => some ⟨0, 0, 4, 0, 1⟩
  | 1 => some ⟨1, 0, 1, 0, 1⟩
  | 2 => some ⟨2, 0, 30, 0, 1⟩
  | 3 => some ⟨3, 0, 32, 0, 1⟩
  | 4 => some ⟨4, 0, 64, 0, 1⟩
  | 11 => some ⟨A.block, A.off, 220, c - 22, 10⟩
  | _ => none
theorem Gn_glob {A : Addr} {c : Nat} (g : Nat) (h : (31 : Nat).testBit g = true) : ∃ l, Gn A c g = some l ∧ l.blk = g ∧ l.off = 0 := by
  match g, h with
  | 0, _ => exact ⟨_, rfl, rfl, rfl⟩
  | 1, _ => exact ⟨_, rfl, rfl, rfl⟩
  | 2, _ => exact ⟨_, rfl, rfl, rfl⟩
  | 3, _ => exact ⟨_, rfl, rfl, rfl⟩
  | 4, _ => exact ⟨_, rfl, rfl, rfl⟩
  | g + 5, h =>
    rw [Nat.testBit_eq_decide_div_mod_eq, Nat.div_eq_of_lt (Nat.lt_of_lt_of_le (by decide : 31 < 2 ^ 5) (Nat.pow_le_pow_right (by decide) (by omega)))] at h
    simp at h
theorem hp0 (n : Nat) (b : AB) (h : hp H0 n = some b) : (n = 0 ∧ b = .ro widL) ∨ (n = 1 ∧ b = .ro [.slice (some ⟨11, 0, none⟩) 22 22]) ∨ (n = 2 ∧ b = .ro kinL) ∨ (n = 4 ∧ b = .ro brL) ∨ (n = 11 ∧ b = .ro frmL) := by
  rw [H0, Ev.hp_set _ _ _ (by decide), Ev.hp_set _ _ _ (by decide), Ev.hp_set _ _ _ (by decide), Ev.hp_set _ _ _ (by decide), Ev.hp_set _ _ _ (by decide)] at h
  simp only [] at h
  by_cases h1 : n = 11
  · subst h1; simp at h; simp [h.symm]
  by_cases h2 : n = 4
  · subst h2; simp at h; simp [h.symm]
  by_cases h3 : n = 2
  · subst h3; simp at h; simp [h.symm]
  by_cases h4 : n = 1
  · subst h4; simp at h; simp [h.symm]
  by_cases h5 : n = 0
  · subst h5; simp at h; simp [h.symm]
  have h6 : hp (Tri.e : Hp) n = none := by
    unfold hp Ev.Tri.at
    rw [Ev.Tri.get_e]
    split <;> rfl
  rw [if_neg h1, if_neg h2, if_neg h3, if_neg h4, if_neg h5, h6] at h; cases h
theorem flat_wid : ∀ v ∈ widL, Ev.flat v = true := List.all_eq_true.1 (by kernel_rfl : widL.all Ev.flat = true)
theorem flat_kin : ∀ v ∈ kinL, Ev.flat v = true := List.all_eq_true.1 (by kernel_rfl : kinL.all Ev.flat = true)
theorem flat_br : ∀ v ∈ brL, Ev.flat v = true := List.all_eq_true.1 (by kernel_rfl : brL.all Ev.flat = true)
theorem flat_frm : ∀ v ∈ frmL, Ev.flat v = true := List.all_eq_true.1 (by kernel_rfl : frmL.all Ev.flat = true)
theorem good0 {A : Addr} {c : Nat} {w : World} (W : Tab A c w) : Ev.Good (Gn A c) (Gn A c) (hp H0) w := by
  have hA : A.spot = none := by
    have := World.cell?_spot (W.frm 0 _ rfl)
    simpa [Addr.add] using this
  have row : ∀ (j : Nat), A.add j = ⟨A.block, A.off + j, none⟩ := fun j => by
    unfold Addr.add
    split
    · next h => subst h; obtain ⟨b, o, s⟩ := A; simp only at hA; subst hA; rfl
    · rfl
  refine ⟨fun _ _ h => h, fun n b h => ?_, fun n m b b' l l' h h' _ hro => ?_, fun n l h h2 => ?_⟩
  · rcases hp0 n b h with ⟨rfl, rfl⟩ | ⟨rfl, rfl⟩ | ⟨rfl, rfl⟩ | ⟨rfl, rfl⟩ | ⟨rfl, rfl⟩
    · exact ⟨_, rfl, World.block_lt_of_cell? w _ (W.wid 0 _ rfl), List.cons_ne_nil _ _, _, RL.refl0 flat_wid, fun k v hk => by simpa using W.wid k v hk⟩
    · refine ⟨_, rfl, World.block_lt_of_cell? w _ W.fs, List.cons_ne_nil _ _, [.slice (some ⟨A.block, A.off, none⟩) 22 c], ?_, fun k v hk => ?_⟩
      · have := R.slice (ρ := Gn A c) 11 0 22 22 ⟨A.block, A.off, 220, c - 22, 10⟩ rfl
        rw [show (Loc.cap ⟨A.block, A.off, 220, c - 22, 10⟩ 0 22) = c from by have := W.cap; simp [Loc.cap]; omega] at this
        exact .cons _ _ _ _ this .nil
      · match k, hk with
        | 0, hk =>
          simp at hk; subst hk
          have := W.fs
          obtain ⟨b, o, s⟩ := A
          simp only at hA; subst hA
          exact this
    · exact ⟨_, rfl, World.block_lt_of_cell? w _ (W.kin 0 _ rfl), List.cons_ne_nil _ _, _, RL.refl0 flat_kin, fun k v hk => by simpa using W.kin k v hk⟩
    · exact ⟨_, rfl, World.block_lt_of_cell? w _ (W.br 0 _ rfl), List.cons_ne_nil _ _, _, RL.refl0 flat_br, fun k v hk => by simpa using W.br k v hk⟩
    · exact ⟨_, rfl, by have := World.block_lt_of_cell? w _ (W.frm 0 _ rfl); rwa [row] at this, List.cons_ne_nil _ _, _, RL.refl0 flat_frm, fun k v hk => by have := W.frm k v hk; rwa [row] at this⟩
  · rcases hp0 n b h with ⟨_, rfl⟩ | ⟨_, rfl⟩ | ⟨_, rfl⟩ | ⟨_, rfl⟩ | ⟨_, rfl⟩ <;>
    rcases hp0 m b' h' with ⟨_, rfl⟩ | ⟨_, rfl⟩ | ⟨_, rfl⟩ | ⟨_, rfl⟩ | ⟨_, rfl⟩ <;> exact absurd hro (by simp [AB.isRo])
  · match n, h with
    | 0, h => cases h; rfl
    | 1, h => cases h; rfl
    | 2, h => cases h; rfl
    | 3, h => cases h; rfl
    | 4, h => cases h; rfl
    | 11, h => simp at h2
theorem alive_any {A : Addr} {c : Nat} {w : World} (W : Tab A c w) : Calls Tryz.prog 9 #[] w fun e w' => e = .returned (.bool true) ∧ Below w.heap.size w w' := by
  have h := asked_true
  unfold asked at h
  split at h
  case h_2 => cases h
  rename_i Wm hrun
  have hl : Nat.land Wm (2 ^ 64 - 1) = 0 := Nat.eq_of_beq_eq_true h
  refine Ev.call0_ok (gs := 31) Gn_glob (by kernel_rfl) codes (fun _ _ _ _ _ h => by cases h) hrun rfl rfl (fun n hn => ?_) (fun n hn => ?_) w (good0 W)
  · match n, hn with
    | n + 64, _ => rfl
  · rcases hh : hp H0 n with _ | b
    · rfl
    · have hlt : n < 64 := by rcases hp0 n b hh with ⟨rfl, _⟩ | ⟨rfl, _⟩ | ⟨rfl, _⟩ | ⟨rfl, _⟩ | ⟨rfl, _⟩ <;> decide
      have : (Nat.land Wm (2 ^ 64 - 1)).testBit n = true := by
        have e : Nat.land Wm (2 ^ 64 - 1) = Wm &&& (2 ^ 64 - 1) := rfl
        rw [e, Nat.testBit_and, hn, Nat.testBit_two_pow_sub_one]; simp [hlt]
      rw [hl] at this; simp at this
end Go.Proofs.YtlegcfjafdihlaaGreatDoor
