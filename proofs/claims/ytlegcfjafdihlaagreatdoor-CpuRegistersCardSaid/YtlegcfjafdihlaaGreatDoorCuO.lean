/-
  Registers among the arguments, opened. No condition.
-/
import Derived.Test.YtlegcfjafdihlaaGreatDoorCuL
namespace Go.Proofs.YtlegcfjafdihlaaGreatDoor
open Go.Deep Go.ChangeShapes Go.WideShapes Go.ChangeAt Go.RowKit
set_option linter.unusedSimpArgs false
set_option linter.unusedVariables false
set_option maxRecDepth 100000
set_option maxHeartbeats 4000000
theorem join_ints18 : ∀ (n : Nat) (cs : List Value), cs.length = n → (∀ k, k < n → ∃ i : Int, (cs.drop k).take 1 = [Value.int .i64 i]) → ∃ l : List Int, cs = l.map (Value.int .i64) ∧ l.length = n
  | 0, cs, h, _ => ⟨[], by rw [List.length_eq_zero_iff.1 h]; rfl, rfl⟩
  | n + 1, [], h, _ => by cases h
  | n + 1, c :: r, h, hk => by
    obtain ⟨i, hi⟩ := hk 0 (by omega)
    obtain ⟨l, h1, h2⟩ := join_ints18 n r (by simpa using h) (fun k q => by
      have := hk (k + 1) (by omega)
      simpa using this)
    simp at hi
    exact ⟨i :: l, by rw [hi, h1]; rfl, by simp [h2]⟩
section
variable {H : Type} {enc : TypeId × Value → H} {w : World} {fuel : Nat} {cs : List Value} {x : DataW H × List MemPlace}
theorem open_a6 (h : DataW.trod enc Tryz.prog w 0 (fun _ => true) true fuel 22 cs = some x) : ∃ l : List Int, cs = l.map (Value.int .i64) ∧ l.length = 6 := by
  have cI : Tryz.prog.cellsOf 3 = 1 := by kernel_rfl
  have cA : Tryz.prog.cellsOf 22 = 6 := by kernel_rfl
  obtain ⟨xs, m, _, _, hc, hl, hel⟩ := DataW.trod_array Tryz.underlying22 h
  rw [cA] at hc
  refine join_ints18 6 cs hc (fun k hk => ?_)
  have e := hel k hk
  rw [cI, List.getElem?_eq_getElem (by omega)] at e
  obtain ⟨i, e0, _, _⟩ := DataW.trod_int Tryz.underlying3 e
  exact ⟨i, by simpa using e0⟩
theorem open_a2 (h : DataW.trod enc Tryz.prog w 0 (fun _ => true) true fuel 23 cs = some x) : ∃ l : List Int, cs = l.map (Value.int .i64) ∧ l.length = 2 := by
  have cI : Tryz.prog.cellsOf 3 = 1 := by kernel_rfl
  have cA : Tryz.prog.cellsOf 23 = 2 := by kernel_rfl
  obtain ⟨xs, m, _, _, hc, hl, hel⟩ := DataW.trod_array Tryz.underlying23 h
  rw [cA] at hc
  refine join_ints18 2 cs hc (fun k hk => ?_)
  have e := hel k hk
  rw [cI, List.getElem?_eq_getElem (by omega)] at e
  obtain ⟨i, e0, _, _⟩ := DataW.trod_int Tryz.underlying3 e
  exact ⟨i, by simpa using e0⟩
theorem open_cpu18 (h : DataW.trod enc Tryz.prog w 0 (fun _ => true) true fuel 25 cs = some x) : ∃ c : List Int, cs = c.map (Value.int .i64) ∧ c.length = 10 := by
  have cI : Tryz.prog.cellsOf 3 = 1 := by kernel_rfl
  have cB : Tryz.prog.cellsOf 4 = 1 := by kernel_rfl
  have cS : Tryz.prog.cellsOf 9 = 1 := by kernel_rfl
  have cSs : Tryz.prog.cellsOf 41 = 1 := by kernel_rfl
  have cIs : Tryz.prog.cellsOf 31 = 1 := by kernel_rfl
  have cDv : Tryz.prog.cellsOf 43 = 2 := by kernel_rfl
  have cA6 : Tryz.prog.cellsOf 22 = 6 := by kernel_rfl
  have cA2 : Tryz.prog.cellsOf 23 = 2 := by kernel_rfl
  have cF : Tryz.prog.cellsOf 25 = 10 := by kernel_rfl
  obtain ⟨xs, m', _, hx, hc, hl, hf⟩ := DataW.trod_struct Tryz.underlying25 h
  match cs, hc.trans cF with
  | [c0, c1, c2, c3, c4, c5, c6, c7, c8, c9], _ =>
    match xs, hl with
    | [x0, x1, x2, x3], _ =>
      have f0 := hf 0 _ rfl
      have f1 := hf 1 _ rfl
      have f2 := hf 2 _ rfl
      have f3 := hf 3 _ rfl
      simp [cI, cB, cS, cSs, cIs, cDv, cA6, cA2] at f0 f1 f2 f3
      obtain ⟨b0, e0, l0⟩ := open_a6 f0
      obtain ⟨b1, e1, l1⟩ := open_a2 f1
      obtain ⟨b2, e2, _, _⟩ := DataW.trod_int Tryz.underlying3 f2
      obtain ⟨b3, e3, _, _⟩ := DataW.trod_int Tryz.underlying3 f3
      simp at e2 e3
      subst e2 e3
      refine ⟨b0 ++ (b1 ++ [b2, b3]), ?_, by simp [l0, l1]⟩
      rw [List.map_append, List.map_append, ← e0, ← e1]
      rfl
end
theorem open_cpu20 {H : Type} {enc : TypeId × Value → H} {W : World} {r : Reach} {b0 : Nat} {v : Value} {d : DataW H} {p : List MemPlace}
    (hv : Value.okWide Tryz.prog W r b0 25 v) (h : DataW.Trod enc Tryz.prog W 0 (fun _ => true) true 25 v d p) : ∃ l : List Int, v = cpuV l ∧ l.length = 10 := by
  obtain ⟨cs, rfl, hsz⟩ := okWide_struct Tryz.underlying25 hv
  obtain ⟨fuel, hf⟩ := h
  obtain ⟨l, e, h1⟩ := open_cpu18 hf
  have e' : cs.toList = l.map (Value.int .i64) := by simpa [Value.cells] using e
  exact ⟨l, by rw [cpuV, ← e'], h1⟩
end Go.Proofs.YtlegcfjafdihlaaGreatDoor
