/-
  The condition on the listed variable (the table of package octet reads as the numbers that its initialiser lays) gives the fact that the walks ask for; the heap that the start-up leaves meets the condition; a slice of integers among the arguments, opened.
-/
import Derived.Test.YtbcnehjpondplaaDoorRows
import Derived.Test.YtbcnehjpondplaaDoorOcF
import Derived.ProofKit
import Derived.LaidMore
import Derived.OpenShut
import Derived.Carry
import Derived.Stop.Joined
import Derived.ChangeSame
import Derived.ChangeSlices
import Derived.Lib.LaidTab
import Derived.Lib.LaidU8
namespace Go.Proofs.YtbcnehjpondplaaDoor
open Go.ChangeShapes Go.WideShapes Go.ChangeAt Go.RowKit

theorem own : ownKnob Tryd.prog.godebug = none := by kernel_rfl
theorem laidOut : laidOutB Tryd.prog = true := by kernel_rfl
def laidW : List (String × DataW Unit) := [("emulator/octet.remainders", Rows.laid_emulator_octet_remainders)]

theorem door_met (os : Os) (args : Array Value) : laidMetH Tryd.prog laidW ((World.doorLaid Tryd.prog 400 os).forCall (fun _ _ => 0) ⟨#[], args, []⟩).memory :=
  laidMetH_of_parts3 (fuel := 8) (laidMet_of_run' 8 (by kernel_rfl) (by kernel_rfl)) (by kernel_rfl) (by kernel_rfl)

/-- A table that reads as listed holds its numbers. -/
theorem tab_of_reads {P : Program} {W : World} {name : String} {k : IntKind} {zs : List Int} {g : Nat} {t e : TypeId} {n : Nat}
    (hg : P.globalNamed name = some g) (hty : (P.globals[g]?).map (·.type) = some t) (ht : P.underlying t = some (.array n e)) (he : P.underlying e = some (.int k)) (hce : P.cellsOf e = 1) (hct : P.cellsOf t = n)
    (h : Lib.VarReads P W name (Lib.tabData k zs)) : Lib.TabIs P W name k zs := by
  obtain ⟨g', t', cs, fuel, p, hg', ht', hvar, hd⟩ := h
  obtain rfl := Option.some.inj (hg.symm.trans hg')
  obtain rfl := Option.some.inj (hty.symm.trans ht')
  unfold Lib.TabIs
  rw [hvar, ← Lib.cells_of_tab ht he hce hct hd]

def nums {H : Type} : DataW H → List Int
  | .agg l => l.map fun d => match d with | .lit (.int _ z) => z | _ => 0
  | _ => []
def remTab : List Int := nums (Rows.laid_emulator_octet_remainders (H := Unit))
theorem remTab_at : ∀ k : Fin 16, remTab.getD k.val 0 = (cs4 k.val : Int) := by decide +kernel

theorem of_laid {W : World} (h : laidMetH Tryd.prog laidW W) : Tabs W := by
  rw [MakeChecks.laidMetH_plain _ _ _ (by kernel_rfl)] at h
  have g1 : Tryd.prog.globalNamed "emulator/octet.remainders" = some 0 := by kernel_rfl
  have r1 := tab_of_reads (k := .u32) (zs := remTab) (t := 52) (e := 44) (n := 16) g1 (by kernel_rfl) Tryd.underlying52 Tryd.underlying44 (by kernel_rfl) (by kernel_rfl) (Lib.laidMet.reads h (.head _))
  have hc : ∀ k : Nat, k < 16 → W.cell? ⟨0, k, none⟩ = some (.int .u32 (cs4 k : Int)) := fun k hk => by
    have := r1.cell g1 k hk
    rw [remTab_at ⟨k, hk⟩] at this
    exact this
  exact ⟨World.block_lt_of_cell? W _ (hc 0 (by decide)), hc⟩

/-- A slice of integers among the arguments: what it reads as. -/
theorem open_nums {H : Type} {enc : TypeId × Value → H} {P : Program} {W : World} {r : Reach} {b0 : Nat} {t e : TypeId} {k : IntKind} {v : Value} {d : DataW H} {p : List MemPlace}
    (ht : P.underlying t = some (.slice e)) (he : P.underlying e = some (.int k)) (hc : P.cellsOf e = 1) (hv : Value.okWide P W r b0 t v) (h : DataW.Trod enc P W 0 (fun _ => true) true t v d p) :
    ∃ l : List Int, Nums k W v l ∧ (∀ x ∈ l, (Lit.int k x).wf = true) ∧ l.length ≤ maxLen := by
  obtain ⟨a0, len0, cap0, rfl⟩ := okWide_slice ht hv
  obtain ⟨fuel, hf⟩ := h
  rcases open_ints ht he hc hf with ⟨hcs, _⟩ | ⟨a, len, cap, zs, hcs, _, hl, hm, hzl, _, hcell, hw⟩
  · simp [Value.cells] at hcs
    obtain ⟨rfl, rfl, rfl⟩ := hcs
    exact ⟨[], ⟨none, 0, rfl, fun j x hx => by simp at hx⟩, by simp, Nat.zero_le _⟩
  · simp [Value.cells] at hcs
    obtain ⟨rfl, rfl, rfl⟩ := hcs
    have hzl' : zs.length = cap0 := by simpa using hzl
    have hlen : (zs.take len0).length = len0 := by rw [List.length_take]; omega
    refine ⟨zs.take len0, ⟨some a, cap0, by rw [hlen], fun j x hx => ⟨a, rfl, ?_⟩⟩, fun x hx => hw x (List.mem_of_mem_take hx), by rw [hlen]; omega⟩
    have hj : j < len0 := by rw [← hlen]; exact (List.getElem?_eq_some_iff.1 hx).1
    have hz : zs[j]? = some x := by rw [List.getElem?_take] at hx; simpa [hj] using hx
    have h1 := hcell j (by omega)
    have h2 : zs.getD j 0 = x := by rw [List.getD, hz]; rfl
    rw [h2] at h1
    exact ⟨h1, World.block_lt_of_cell? W _ h1⟩

end Go.Proofs.YtbcnehjpondplaaDoor
