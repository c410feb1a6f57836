/-
  Values among the arguments, opened. No condition.
-/
import Derived.Test.YtpimdbglmoopcaaDoorRows
import Derived.Test.YtpimdbglmoopcaaDoorLaid
import Derived.Test.YtpimdbglmoopcaaDoorAlF
namespace Go.Proofs.YtpimdbglmoopcaaDoor
open Go.ChangeShapes Go.WideShapes Go.ChangeAt Go.RowKit

theorem laidOut : laidOutB Tryd.prog = true := by kernel_rfl
theorem open_vals {H : Type} {enc : TypeId × Value → H} {W : World} {r' : Reach} {b0 base : Nat} {sp : Nat → Bool} {held : Bool} {v : Value} {d : DataW H} {pl : List MemPlace}
    (hv : Value.okWide Tryd.prog W r' b0 23 v) (h : DataW.Trod enc Tryd.prog W base sp held 23 v d pl) :
    ∃ (o : Int) (b : Bool) (x y z f : Int), v = .agg #[.int .i64 o, .bool b, .int .i64 x, .int .i64 y, .int .i64 z, .int .i64 f] := by
  have cI : Tryd.prog.cellsOf 3 = 1 := by kernel_rfl
  have cB : Tryd.prog.cellsOf 4 = 1 := by kernel_rfl
  have cF : Tryd.prog.cellsOf 23 = 6 := by kernel_rfl
  obtain ⟨cs, rfl, hsz⟩ := okWide_struct Tryd.underlying23 hv
  obtain ⟨l⟩ := cs
  match l, hsz.trans cF with
  | [c0, c1, c2, c3, c4, c5], _ =>
    obtain ⟨fuel, hf0⟩ := h
    obtain ⟨xs, m', _, hx, _, hl, hf⟩ := DataW.trod_struct Tryd.underlying23 hf0
    match xs, hl with
    | [x0, x1, x2, x3, x4, x5], _ =>
      have f0 := hf 0 _ rfl
      have f1 := hf 1 _ rfl
      have f2 := hf 2 _ rfl
      have f3 := hf 3 _ rfl
      have f4 := hf 4 _ rfl
      have f5 := hf 5 _ rfl
      simp [Value.cells, cI, cB] at f0 f1 f2 f3 f4 f5
      obtain ⟨o, e0, _, _⟩ := DataW.trod_int Tryd.underlying3 f0
      obtain ⟨b, e1, _⟩ := DataW.trod_bool Tryd.underlying4 f1
      obtain ⟨x, e2, _, _⟩ := DataW.trod_int Tryd.underlying3 f2
      obtain ⟨y, e3, _, _⟩ := DataW.trod_int Tryd.underlying3 f3
      obtain ⟨z, e4, _, _⟩ := DataW.trod_int Tryd.underlying3 f4
      obtain ⟨f, e5, _, _⟩ := DataW.trod_int Tryd.underlying3 f5
      simp at e0 e1 e2 e3 e4 e5
      subst e0 e1 e2 e3 e4 e5
      exact ⟨o, b, x, y, z, f, rfl⟩
end Go.Proofs.YtpimdbglmoopcaaDoor
