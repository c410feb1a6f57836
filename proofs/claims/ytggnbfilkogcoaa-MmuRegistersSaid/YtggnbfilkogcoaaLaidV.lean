/-
  A memory management unit, and an access to one, among the arguments, opened. No condition.
-/
import Derived.Test.YtggnbfilkogcoaaRows
import Derived.Test.YtggnbfilkogcoaaLaidU
import Derived.Test.YtggnbfilkogcoaaLw9B
namespace Go.Proofs.Ytggnbfilkogcoaa
open Go.ChangeShapes Go.WideShapes Go.ChangeAt Go.RowKit

theorem laidOut : laidOutB Try.prog = true := by kernel_rfl
theorem open_unitV {H : Type} {enc : TypeId × Value → H} {W : World} {r' : Reach} {b0 base : Nat} {sp : Nat → Bool} {held : Bool} {v : Value} {d : DataW H} {pl : List MemPlace}
    (hv : Value.okWide Try.prog W r' b0 27 v) (h : DataW.Trod enc Try.prog W base sp held 27 v d pl) : ∃ u : Un, v = .agg u.L.toArray ∧ u.wf := by
  obtain ⟨cs, rfl, hsz⟩ := okWide_struct Try.underlying27 hv
  obtain ⟨fuel, hf⟩ := h
  obtain ⟨u, hu, hw⟩ := open_unit hf
  have e : cs.toList = u.L := by simpa [Value.cells] using hu
  exact ⟨u, by rw [← e], hw⟩
theorem open_acc {H : Type} {enc : TypeId × Value → H} {W : World} {r' : Reach} {b0 base : Nat} {sp : Nat → Bool} {held : Bool} {v : Value} {d : DataW H} {pl : List MemPlace}
    (hv : Value.okWide Try.prog W r' b0 31 v) (h : DataW.Trod enc Try.prog W base sp held 31 v d pl) : ∃ (u : Un) (mode addr : Int) (wr : Bool), v = .agg (accL u mode addr wr).toArray ∧ u.wf := by
  have cI : Try.prog.cellsOf 3 = 1 := by kernel_rfl
  have cB : Try.prog.cellsOf 4 = 1 := by kernel_rfl
  have cU : Try.prog.cellsOf 27 = 67 := by kernel_rfl
  have cF : Try.prog.cellsOf 31 = 70 := by kernel_rfl
  obtain ⟨cs, rfl, hsz⟩ := okWide_struct Try.underlying31 hv
  obtain ⟨l⟩ := cs
  have hl70 : l.length = 70 := hsz.trans cF
  obtain ⟨fuel, hf0⟩ := h
  obtain ⟨xs, m', _, hx, _, hl, hf⟩ := DataW.trod_struct Try.underlying31 hf0
  match xs, hl with
  | [x0, x1, x2, x3], _ =>
    have f0 : DataW.trod enc Try.prog W base sp held m' 27 ((l.drop 0).take (Try.prog.cellsOf 27)) = some x0 := hf 0 _ rfl
    have f1 : DataW.trod enc Try.prog W base sp held m' 3 ((l.drop 67).take (Try.prog.cellsOf 3)) = some x1 := hf 1 _ rfl
    have f2 : DataW.trod enc Try.prog W base sp held m' 3 ((l.drop 68).take (Try.prog.cellsOf 3)) = some x2 := hf 2 _ rfl
    have f3 : DataW.trod enc Try.prog W base sp held m' 4 ((l.drop 69).take (Try.prog.cellsOf 4)) = some x3 := hf 3 _ rfl
    rw [cU] at f0
    rw [cI] at f1 f2
    rw [cB] at f3
    obtain ⟨u, hu, hw⟩ := open_unit f0
    obtain ⟨mode, e1, _, _⟩ := DataW.trod_int Try.underlying3 f1
    obtain ⟨addr, e2, _, _⟩ := DataW.trod_int Try.underlying3 f2
    obtain ⟨wr, e3, _⟩ := DataW.trod_bool Try.underlying4 f3
    refine ⟨u, mode, addr, wr, ?_, hw⟩
    have s3 : (l.drop 69).take 1 = l.drop 69 := List.take_of_length_le (by rw [List.length_drop]; omega)
    have s2 : l.drop 68 = (l.drop 68).take 1 ++ l.drop 69 := by
      have := List.take_append_drop 1 (l.drop 68)
      rw [List.drop_drop] at this
      exact this.symm
    have s1 : l.drop 67 = (l.drop 67).take 1 ++ l.drop 68 := by
      have := List.take_append_drop 1 (l.drop 67)
      rw [List.drop_drop] at this
      exact this.symm
    have s0 : l = (l.drop 0).take 67 ++ l.drop 67 := by
      rw [List.drop_zero]; exact (List.take_append_drop 67 l).symm
    rw [e2, ← s3, e3] at s2
    rw [e1, s2] at s1
    rw [hu, s1] at s0
    unfold accL
    rw [s0]
    rfl
end Go.Proofs.Ytggnbfilkogcoaa
