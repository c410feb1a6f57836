/-
  Slices of integers and a nested struct among the arguments, opened and shut. No condition.
-/
import Derived.Test.YtjjmgmnhcccjgaaRows
import Derived.Test.YtjjmgmnhcccjgaaNums
import Derived.Test.YtjjmgmnhcccjgaaBits
import Derived.ProofKit
import Derived.LaidMore
import Derived.OpenShut
import Derived.Carry
import Derived.ChangeSame
import Derived.ChangeSlices
namespace Go.Proofs.Ytjjmgmnhcccjgaa
open Go.ChangeShapes Go.WideShapes Go.ChangeAt Go.RowKit

theorem laidOut : laidOutB Try.prog = true := by kernel_rfl
/-- A slice of integers among the arguments: what it reads as. -/
theorem open_nums {H : Type} {enc : TypeId × Value → H} {P : Program} {W : World} {r : Reach} {b0 : Nat} {t e : TypeId} {k : IntKind} {v : Value} {d : DataW H} {p : List MemPlace}
    (ht : P.underlying t = some (.slice e)) (he : P.underlying e = some (.int k)) (hc : P.cellsOf e = 1) (hv : Value.okWide P W r b0 t v) (h : DataW.Trod enc P W 0 (fun _ => true) true t v d p) :
    ∃ l : List Int, Nums k W v l ∧ (∀ x ∈ l, (Lit.int k x).wf = true) ∧ l.length ≤ maxLen := by
  obtain ⟨a0, len0, cap0, rfl⟩ := okWide_slice ht hv
  obtain ⟨fuel, hf⟩ := h
  rcases open_ints ht he hc hf with ⟨hcs, _⟩ | ⟨a, len, cap, zs, hcs, _, hl, hm, hzl, _, hcell, hw⟩
  · simp [Value.cells] at hcs
    obtain ⟨rfl, rfl, rfl⟩ := hcs
    exact ⟨[], ⟨none, 0, rfl, Nat.le_refl _, fun j x hx => by simp at hx⟩, by simp, Nat.zero_le _⟩
  · simp [Value.cells] at hcs
    obtain ⟨rfl, rfl, rfl⟩ := hcs
    have hzl' : zs.length = cap0 := by simpa using hzl
    have hlen : (zs.take len0).length = len0 := by rw [List.length_take]; omega
    refine ⟨zs.take len0, ⟨some a, cap0, by rw [hlen], by omega, fun j x hx => ⟨a, rfl, ?_⟩⟩, fun x hx => hw x (List.mem_of_mem_take hx), by rw [hlen]; omega⟩
    have hj : j < len0 := by rw [← hlen]; exact (List.getElem?_eq_some_iff.1 hx).1
    have hz : zs[j]? = some x := by rw [List.getElem?_take] at hx; simpa [hj] using hx
    have h1 := hcell j (by omega)
    have h2 : zs.getD j 0 = x := by rw [List.getD, hz]; rfl
    rw [h2] at h1
    exact ⟨h1, World.block_lt_of_cell? W _ h1⟩

def twoD {H : Type} (a : Int) (b : Bool) (v o : Int) : DataW H := .agg [.agg [.lit (.int .i64 a), .lit (.bool b), .lit (.int .i64 v)], .lit (.int .i64 o)]
theorem open_two {H : Type} {enc : TypeId × Value → H} {W : World} {r' : Reach} {b0 base : Nat} {sp : Nat → Bool} {held : Bool} {v : Value} {d : DataW H} {pl : List MemPlace}
    (hv : Value.okWide Try.prog W r' b0 47 v) (h : DataW.Trod enc Try.prog W base sp held 47 v d pl) :
    ∃ (a : Int) (b : Bool) (x o : Int), v = .agg #[.int .i64 a, .bool b, .int .i64 x, .int .i64 o] ∧ d = twoD a b x o ∧ pl = [] ∧ ((Lit.int .i64 a).wf = true ∧ (Lit.int .i64 x).wf = true ∧ (Lit.int .i64 o).wf = true) := by
  have cI : Try.prog.cellsOf 3 = 1 := by kernel_rfl
  have cB : Try.prog.cellsOf 4 = 1 := by kernel_rfl
  have cP : Try.prog.cellsOf 30 = 3 := by kernel_rfl
  have cF : Try.prog.cellsOf 47 = 4 := by kernel_rfl
  obtain ⟨cs, rfl, hsz⟩ := okWide_struct Try.underlying47 hv
  obtain ⟨l⟩ := cs
  match l, hsz.trans cF with
  | [c0, c1, c2, c3], _ =>
    obtain ⟨fuel, hf0⟩ := h
    obtain ⟨xs, m', _, hx, _, hl, hf⟩ := DataW.trod_struct Try.underlying47 hf0
    match xs, hl with
    | [x0, x1], _ =>
      have f0 := hf 0 _ rfl
      have f1 := hf 1 _ rfl
      simp [Value.cells, cI, cP] at f0 f1
      obtain ⟨ys, m2, _, rfl, _, hl2, hf2⟩ := DataW.trod_struct Try.underlying30 f0
      obtain ⟨o, e4, rfl, w4⟩ := DataW.trod_int Try.underlying3 f1
      match ys, hl2 with
      | [y0, y1, y2], _ =>
        have g0 := hf2 0 _ rfl
        have g1 := hf2 1 _ rfl
        have g2 := hf2 2 _ rfl
        simp [cI, cB] at g0 g1 g2
        obtain ⟨a, d0, rfl, v0⟩ := DataW.trod_int Try.underlying3 g0
        obtain ⟨b, d1, rfl⟩ := DataW.trod_bool Try.underlying4 g1
        obtain ⟨x, d2, rfl, v2⟩ := DataW.trod_int Try.underlying3 g2
        simp at e4 d0 d1 d2
        subst e4 d0 d1 d2
        simp only [Prod.mk.injEq] at hx
        exact ⟨a, b, x, o, rfl, by simpa [twoD] using hx.1, by simpa using hx.2, v0, v2, w4⟩
theorem shut_two {H : Type} {enc : TypeId × Value → H} (W : World) (base : Nat) (sp : Nat → Bool) (held : Bool) {a : Int} {b : Bool} {x o : Int} (hw : (Lit.int .i64 a).wf = true ∧ (Lit.int .i64 x).wf = true ∧ (Lit.int .i64 o).wf = true) :
    DataW.Trod enc Try.prog W base sp held 47 (.agg #[.int .i64 a, .bool b, .int .i64 x, .int .i64 o]) (twoD a b x o) [] := by
  have cI : Try.prog.cellsOf 3 = 1 := by kernel_rfl
  have cB : Try.prog.cellsOf 4 = 1 := by kernel_rfl
  have cP : Try.prog.cellsOf 30 = 3 := by kernel_rfl
  have cF : Try.prog.cellsOf 47 = 4 := by kernel_rfl
  obtain ⟨v0, v2, w4⟩ := hw
  refine ⟨3, ?_⟩
  simp [DataW.trod, Value.cells, Try.underlying47, Try.underlying30, Try.underlying3, Try.underlying4, cI, cB, cP, cF, v0, v2, w4, List.range, twoD]
end Go.Proofs.Ytjjmgmnhcccjgaa
