/-
  The table of traps as it lies in memory, and the condition on it. No condition.
-/
import Derived.Test.YtlkpddenhmlkbaaDoorTrA
import Derived.Test.YtlkpddenhmlkbaaDoorRows
import Derived.ProofKit
import Derived.LaidMore
import Derived.OpenShut
import Derived.Stop.Joined
import Derived.ChangeSame
import Derived.Deep.Strs
namespace Go.Proofs.YtlkpddenhmlkbaaDoor
open Go.RowKit Go.ChangeShapes Go.WideShapes Go.ChangeAt Go.Deep
set_option linter.unusedSimpArgs false
set_option linter.unusedVariables false
set_option maxHeartbeats 4000000
set_option maxRecDepth 100000

theorem own : ownKnob Tryd.prog.godebug = none := by kernel_rfl
def laidW : List (String × DataW Unit) := [("emulator/trap.kinds", Rows.laid_emulator_trap_kinds)]
theorem door_met (os : Os) (args : Array Value) : laidMetH Tryd.prog laidW ((World.doorLaid Tryd.prog 400 os).forCall (fun _ _ => 0) ⟨#[], args, []⟩).memory :=
  laidMetH_of_parts3 (fuel := 8) (laidMet_of_run' 8 (by kernel_rfl) (by kernel_rfl)) (by kernel_rfl) (by kernel_rfl)
/-- The table of traps as it lies in memory. -/
structure Kin (w : World) : Prop where
  size : 0 < w.heap.size
  at0 : ∀ k : Nat, k < 10 → w.cell? ⟨0, k * 3, none⟩ = some (.string (nmV k)) ∧ w.cell? ⟨0, k * 3 + 1, none⟩ = some (.int .i64 (vcV k)) ∧ w.cell? ⟨0, k * 3 + 2, none⟩ = some (.bool (abV k))
theorem Kin.below {w w' : World} (W : Kin w) (h : Below w.heap.size w w') : Kin w' :=
  ⟨Nat.lt_of_lt_of_le W.size h.size, fun k hk => by rw [h.cell (by exact W.size), h.cell (by exact W.size), h.cell (by exact W.size)]; exact W.at0 k hk⟩
def rowD (k : Nat) : DataW Unit := .agg [.lit (.string (nmV k).data.toList), .lit (.int .i64 (vcV k)), .lit (.bool (abV k))]
theorem rows_eq : (Rows.laid_emulator_trap_kinds (H := Unit)) = .agg ((List.range 10).map rowD) := by kernel_rfl
theorem row_cells {W : World} {base : Nat} {sp : Nat → Bool} {held : Bool} {n : Nat} {cs : List Value} {pl : List MemPlace} {k : Nat} (h : DataW.trod (fun _ => ()) Tryd.prog W base sp held n 35 cs = some (rowD k, pl)) :
    cs = [.string (nmV k), .int .i64 (vcV k), .bool (abV k)] := by
  have cS : Tryd.prog.cellsOf 9 = 1 := by kernel_rfl
  have cI : Tryd.prog.cellsOf 3 = 1 := by kernel_rfl
  have cB : Tryd.prog.cellsOf 4 = 1 := by kernel_rfl
  have cF : Tryd.prog.cellsOf 35 = 3 := by kernel_rfl
  obtain ⟨y0, y1, y2, m, hx, hcl, f0, f1, f2⟩ := trod_struct3 Tryd.underlying35 h
  rw [cF] at hcl
  match cs, hcl with
  | [c0, c1, c2], _ =>
    simp [cS, cI, cB] at f0 f1 f2
    obtain ⟨s, e0, rfl, _⟩ := DataW.trod_string Tryd.underlying9 f0
    obtain ⟨i, e1, rfl, _⟩ := DataW.trod_int Tryd.underlying3 f1
    obtain ⟨b, e2, rfl⟩ := DataW.trod_bool Tryd.underlying4 f2
    simp at e0 e1 e2
    subst e0 e1 e2
    simp only [rowD, Prod.mk.injEq, DataW.agg.injEq, List.cons.injEq, DataW.lit.injEq, Lit.string.injEq, Lit.int.injEq, Lit.bool.injEq, and_true, true_and] at hx
    obtain ⟨⟨h1, h2, h3⟩, _⟩ := hx
    rw [h2, h3, show s = nmV k from (ByteArray.ext (Array.toList_inj.1 h1)).symm]
theorem of_laid {W : World} (h : laidMetH Tryd.prog laidW W) : Kin W := by
  rw [MakeChecks.laidMetH_plain _ _ _ (by kernel_rfl)] at h
  obtain ⟨ps, ⟨g', t', cs, fuel, p, q, hg', ht', hvar, hd, _, _⟩, _, _⟩ := h
  have g2 : Tryd.prog.globalNamed "emulator/trap.kinds" = some 0 := by kernel_rfl
  have t2 : (Tryd.prog.globals[0]?).map (·.type) = some 38 := by kernel_rfl
  obtain rfl := Option.some.inj (g2.symm.trans hg')
  obtain rfl := Option.some.inj (t2.symm.trans ht')
  have cE : Tryd.prog.cellsOf 35 = 3 := by kernel_rfl
  have cA : Tryd.prog.cellsOf 38 = 30 := by kernel_rfl
  rw [rows_eq] at hd
  obtain ⟨xs, m, _, hx, hlen, hn, hel⟩ := DataW.trod_array Tryd.underlying38 hd
  rw [cA] at hlen
  simp only [Prod.mk.injEq, DataW.agg.injEq] at hx
  have hat : ∀ k : Nat, k < 10 → (cs.toList.drop (k * 3)).take 3 = [.string (nmV k), .int .i64 (vcV k), .bool (abV k)] := fun k hk => by
    have h1 := hel k hk
    rw [cE] at h1
    have h2 : xs[k]? = some (rowD k, (xs[k]'(by omega)).2) := by
      rw [List.getElem?_eq_getElem (by omega)]
      have h3 : (xs.map (·.1))[k]? = ((List.range 10).map rowD)[k]? := by rw [← hx.1]
      rw [List.getElem?_map, List.getElem?_eq_getElem (by omega), List.getElem?_map, List.getElem?_range hk] at h3
      have h4 := Option.some.inj h3
      rw [← h4]
    rw [h2] at h1
    exact row_cells h1
  have hc : ∀ j : Nat, W.cell? ⟨0, j, none⟩ = cs[j]? := fun j => World.var?_cell g2 hvar j
  have hk : ∀ k : Nat, k < 10 → ∀ (i : Nat) (v : Value), i < 3 → ([.string (nmV k), .int .i64 (vcV k), .bool (abV k)] : List Value)[i]? = some v → W.cell? ⟨0, k * 3 + i, none⟩ = some v := fun k hk i v hi hv => by
    rw [hc, ← hat k hk, List.getElem?_take, if_pos hi, List.getElem?_drop] at *
    simpa using hv
  exact ⟨World.block_lt_of_cell? W _ (hk 0 (by omega) 0 _ (by omega) rfl), fun k h => ⟨hk k h 0 _ (by omega) rfl, hk k h 1 _ (by omega) rfl, hk k h 2 _ (by omega) rfl⟩⟩
end Go.Proofs.YtlkpddenhmlkbaaDoor
