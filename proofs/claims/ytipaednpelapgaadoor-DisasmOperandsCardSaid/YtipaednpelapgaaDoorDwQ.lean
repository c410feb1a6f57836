/-
  Walk over the examples that every statement asks. Condition: the tables read as the program's text lays them.
-/
import Derived.Test.YtipaednpelapgaaDoorDwN
import Derived.Test.YtipaednpelapgaaDoorDwO
namespace Go.Proofs.YtipaednpelapgaaDoor
open Go.RowKit
set_option linter.unusedSimpArgs false
set_option linter.unusedVariables false
set_option maxHeartbeats 8000000
set_option maxRecDepth 100000

theorem al_1 : bnT [116, 115, 116, 98] = some (19, true) := by decide +kernel
theorem al_2 : nmT 1 true = [109, 111, 118, 98] := by decide +kernel
theorem al_3 : opT 6 7 4 8 = [48, 111, 49, 52] := by decide +kernel
theorem al_4 : txT ⟨26, false, 0, 0, 0, 0, 0, 0, 0, -1⟩ 512 = [98, 114, 32, 48, 111, 49, 48, 48, 48] := by decide +kernel
theorem al_5 : lnT ([5569, 5, 7] : List Int).length [5569, 5, 7] 0 = [[48, 48, 48, 48, 48, 48, 32, 109, 111, 118, 32, 35, 53, 44, 32, 114, 49], [48, 48, 48, 48, 48, 52, 32, 46, 119, 111, 114, 100, 32, 48, 111, 48, 48, 48, 48, 48, 55]] := by decide +kernel
theorem nums_3 (w : World) (t : TypeId) : Nums .i64 (w.alloc (.cells #[.int .i64 5569, .int .i64 5, .int .i64 7] t)) (.slice (some ⟨w.heap.size, 0, none⟩) 3 3) [5569, 5, 7] :=
  ⟨some ⟨w.heap.size, 0, none⟩, 3, rfl, Nat.le_refl _, fun j x hx => ⟨_, rfl, by
    match j, hx with
    | 0, hx => cases hx; simp [Addr.add]
    | 1, hx => cases hx; simp [Addr.add]
    | 2, hx => cases hx; simp [Addr.add]
    | j + 3, hx => simp at hx⟩⟩
theorem txt_2 {w : World} {v : Value} {x y : List UInt8} (h : Txt w v [x, y]) : ∃ g c, v = .slice (some ⟨g, 0, none⟩) 2 c ∧ g < w.heap.size ∧ w.cell? ⟨g, 0, none⟩ = some (.string ⟨x.toArray⟩) ∧ w.cell? ⟨g, 1, none⟩ = some (.string ⟨y.toArray⟩) := by
  obtain ⟨A, c, rfl, hc⟩ := h
  obtain ⟨g, rfl, hg, h0⟩ := hc 0 x rfl
  obtain ⟨g', e, _, h1⟩ := hc 1 y rfl
  cases e
  exact ⟨g, c, rfl, hg, h0, h1⟩

theorem alive_any {A : Addr} {c : Nat} (W0 : World) (W : Dis A c W0) : Calls Tryd.prog 8 #[] W0 fun e w' => e = .returned (.bool true) ∧ Below W0.heap.size W0 w' := by
  have h1 := fun w D => byname_any ⟨#[116, 115, 116, 98]⟩ (by decide) (A := A) (c := c) w D
  rw [show bnT ((⟨#[116, 115, 116, 98]⟩ : ByteArray).data.toList) = some (19, true) from al_1] at h1
  have h2 := fun w (bk : Nat) D h => dlines_any [5569, 5, 7] (.slice (some ⟨bk, 0, none⟩) 3 3) 0 (by decide) (A := A) (c := c) w D h
  have h3 := fun w D => dnam_any 1 true (A := A) (c := c) w D
  have h4 := fun w D => dopr_any 6 7 4 8 (A := A) (c := c) w D
  have h5 := fun w D => dtext_any 26 false 0 0 0 0 0 0 0 (-1) 512 (A := A) (c := c) w D
  rw [al_2] at h3
  rw [al_3] at h4
  rw [al_4] at h5
  rw [al_5] at h2
  have hb := Below.refl W0.heap.size W0
  go_enter Tryd.func8, Tryd.ntmps8
  go_wp2_with (first
    | (go_at_call 9; with_reducible refine (h1 _ (W.step hb)).mono ?_; unfold bnV; rintro e w1 ⟨rfl, k⟩; simp only [Option.getD_some, Option.isSome_some]; have hb := hb.trans (k.mono hb.size); have hN := nums_3 w1 3; have hba := hb.alloc hb.size (.cells #[.int .i64 5569, .int .i64 5, .int .i64 7] 3); clear k)
    | (go_at_call 18; with_reducible refine (h2 _ _ (W.step hba) hN).mono ?_; rintro e w2 ⟨u, rfl, hT, k⟩; obtain ⟨g, cg, rfl, hg, g0, g1⟩ := txt_2 hT; have hb := hba.trans (k.mono hba.size); clear k hT)
    | (go_at_call 11; with_reducible refine (h3 _ (W.step hb)).mono ?_; rintro e w3 ⟨rfl, k⟩; have hb := hb.trans (k.mono hb.size); have g0 := (k.cell (p := ⟨g, 0, none⟩) hg).trans g0; have g1 := (k.cell (p := ⟨g, 1, none⟩) hg).trans g1; have hg := Nat.lt_of_lt_of_le hg k.size; clear k)
    | (go_at_call 13; with_reducible refine (h4 _ (W.step hb)).mono ?_; rintro e w3 ⟨rfl, k⟩; have hb := hb.trans (k.mono hb.size); have g0 := (k.cell (p := ⟨g, 0, none⟩) hg).trans g0; have g1 := (k.cell (p := ⟨g, 1, none⟩) hg).trans g1; have hg := Nat.lt_of_lt_of_le hg k.size; clear k)
    | (go_at_call 15; with_reducible refine (h5 _ (W.step hb)).mono ?_; rintro e w3 ⟨rfl, k⟩; have hb := hb.trans (k.mono hb.size); have g0 := (k.cell (p := ⟨g, 0, none⟩) hg).trans g0; have g1 := (k.cell (p := ⟨g, 1, none⟩) hg).trans g1; have hg := Nat.lt_of_lt_of_le hg k.size; clear k))
  go_ret
  exact ⟨rfl, hb⟩

end Go.Proofs.YtipaednpelapgaaDoor
