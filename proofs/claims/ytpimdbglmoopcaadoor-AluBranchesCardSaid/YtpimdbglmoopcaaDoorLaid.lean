/-
  The condition on the listed variable (the table of widths reads as its four numbers) gives the four cells that the walks ask for; and the heap that the start-up leaves meets the condition.
-/
import Derived.Test.YtpimdbglmoopcaaDoorRows
import Derived.Test.YtpimdbglmoopcaaDoorWalkA
import Derived.ProofKit
import Derived.LaidMore
import Derived.OpenShut
import Derived.Stop.Joined
import Derived.ChangeSame
namespace Go.Proofs.YtpimdbglmoopcaaDoor
open Go.ChangeShapes Go.WideShapes Go.ChangeAt Go.RowKit

theorem own : ownKnob Tryd.prog.godebug = none := by kernel_rfl
theorem gWidths : Tryd.prog.globalNamed "emulator/word.widths" = some 0 := by kernel_rfl
theorem tWidths : (Tryd.prog.globals[0]?).map (·.type) = some 53 := by kernel_rfl
def laidW : List (String × DataW Unit) := [("emulator/word.widths", Rows.laid_emulator_word_widths)]

theorem door_met (os : Os) (args : Array Value) : laidMetH Tryd.prog laidW ((World.doorLaid Tryd.prog 400 os).forCall (fun _ _ => 0) ⟨#[], args, []⟩).memory :=
  laidMetH_of_parts3 (fuel := 8) (laidMet_of_run' 8 (by kernel_rfl) (by kernel_rfl)) (by kernel_rfl) (by kernel_rfl)

theorem array4 {l : List Value} (h : l.length = 4) : ∃ a b c d, l = [a, b, c, d] := by
  match l, h with
  | [a, b, c, d], _ => exact ⟨a, b, c, d, rfl⟩

theorem of_laid {W : World} (h : laidMetH Tryd.prog laidW W) : Wid W := by
  rw [MakeChecks.laidMetH_plain _ _ _ (by kernel_rfl)] at h
  obtain ⟨ps, ⟨g0, t0, cs0, f0, p0, q0, hg0, ht0, hv0, hd0, _, _⟩, _, _⟩ := h
  obtain rfl := Option.some.inj (gWidths.symm.trans hg0)
  obtain rfl := Option.some.inj (tWidths.symm.trans ht0)
  have cE : Tryd.prog.cellsOf 50 = 2 := by kernel_rfl
  have cA : Tryd.prog.cellsOf 53 = 4 := by kernel_rfl
  have cI : Tryd.prog.cellsOf 3 = 1 := by kernel_rfl
  obtain ⟨xs, m1, rfl, hx, hlen, hn, hel⟩ := DataW.trod_array Tryd.underlying53 hd0
  have h0 := hel 0 (by decide)
  have h1 := hel 1 (by decide)
  rw [cA] at hlen
  obtain ⟨l0⟩ := cs0
  obtain ⟨v0, v1, v2, v3, hl⟩ := array4 hlen
  simp only at hl
  subst hl
  rw [cE] at h0 h1
  match xs, hn, hx, h0, h1 with
  | [x0, x1], _, hx, h0, h1 =>
    have h0' : DataW.trod (fun _ => ()) Tryd.prog W 0 (fun _ => true) false m1 50 [v0, v1] = some x0 := h0
    have h1' : DataW.trod (fun _ => ()) Tryd.prog W 0 (fun _ => true) false m1 50 [v2, v3] = some x1 := h1
    obtain ⟨y0, y1, n0, rfl, _, k0, k1⟩ := trod_struct2 Tryd.underlying50 h0'
    obtain ⟨z0, z1, n1, rfl, _, k2, k3⟩ := trod_struct2 Tryd.underlying50 h1'
    simp only [cI] at k0 k1 k2 k3
    obtain ⟨i0, e0, rfl, _⟩ := DataW.trod_int Tryd.underlying3 k0
    obtain ⟨i1, e1, rfl, _⟩ := DataW.trod_int Tryd.underlying3 k1
    obtain ⟨i2, e2, rfl, _⟩ := DataW.trod_int Tryd.underlying3 k2
    obtain ⟨i3, e3, rfl, _⟩ := DataW.trod_int Tryd.underlying3 k3
    simp at e0 e1 e2 e3
    subst e0 e1 e2 e3
    simp [Rows.laid_emulator_word_widths] at hx
    obtain ⟨⟨⟨rfl, rfl⟩, rfl, rfl⟩, _⟩ := hx
    have hc := fun j => World.var?_cell hg0 hv0 j
    have c0 := hc 0
    have hsz : 0 < W.heap.size := by
      rcases Nat.lt_or_ge 0 W.heap.size with h | h
      · exact h
      · simp [World.cell?, Array.getElem?_eq_none h] at c0
    exact ⟨hsz, by simpa using hc 0, by simpa using hc 1, by simpa using hc 2, by simpa using hc 3⟩
end Go.Proofs.YtpimdbglmoopcaaDoor
