/-
  Lines, deeds and slices of deeds among the arguments, opened. No condition.
-/
import Derived.Test.YtbbaflepnjglnaaRows
import Derived.Test.YtbbaflepnjglnaaBits
import Derived.Test.YtbbaflepnjglnaaLnI
import Derived.Test.YtbbaflepnjglnaaOpenRow
import Derived.ProofKit
import Derived.LaidMore
import Derived.OpenShut
import Derived.Carry
import Derived.ChangeSame
import Derived.ChangeSlices
import Derived.Deep.Slices
namespace Go.Proofs.Ytbbaflepnjglnaa
open Go.Deep Go.ChangeShapes Go.WideShapes Go.ChangeAt Go.RowKit
theorem laidOut : laidOutB Try.prog = true := by kernel_rfl
theorem open_ln {H : Type} {enc : TypeId × Value → H} {W : World} {r' : Reach} {b0 base : Nat} {sp : Nat → Bool} {held : Bool} {v : Value} {d : DataW H} {pl : List MemPlace}
    (hv : Value.okWide Try.prog W r' b0 23 v) (h : DataW.Trod enc Try.prog W base sp held 23 v d pl) :
    ∃ x : Ln, v = .agg #[.bool x.a, .bool x.b, .bool x.o, .int .i64 x.d, .bool x.e, .bool x.f, .int .i64 x.t, .int .i64 x.l, .string x.s] := by
  have cI : Try.prog.cellsOf 3 = 1 := by kernel_rfl
  have cB : Try.prog.cellsOf 4 = 1 := by kernel_rfl
  have cS : Try.prog.cellsOf 9 = 1 := by kernel_rfl
  have cF : Try.prog.cellsOf 23 = 9 := by kernel_rfl
  obtain ⟨cs, rfl, hsz⟩ := okWide_struct Try.underlying23 hv
  obtain ⟨l⟩ := cs
  match l, hsz.trans cF with
  | [c0, c1, c2, c3, c4, c5, c6, c7, c8], _ =>
    obtain ⟨fuel, hf0⟩ := h
    obtain ⟨xs, m', _, hx, _, hl, hf⟩ := DataW.trod_struct Try.underlying23 hf0
    match xs, hl with
    | [x0, x1, x2, x3, x4, x5, x6, x7, x8], _ =>
      have f0 := hf 0 _ rfl
      have f1 := hf 1 _ rfl
      have f2 := hf 2 _ rfl
      have f3 := hf 3 _ rfl
      have f4 := hf 4 _ rfl
      have f5 := hf 5 _ rfl
      have f6 := hf 6 _ rfl
      have f7 := hf 7 _ rfl
      have f8 := hf 8 _ rfl
      simp [Value.cells, cI, cB, cS] at f0 f1 f2 f3 f4 f5 f6 f7 f8
      obtain ⟨a, e0, _⟩ := DataW.trod_bool Try.underlying4 f0
      obtain ⟨b, e1, _⟩ := DataW.trod_bool Try.underlying4 f1
      obtain ⟨o, e2, _⟩ := DataW.trod_bool Try.underlying4 f2
      obtain ⟨d, e3, _, _⟩ := DataW.trod_int Try.underlying3 f3
      obtain ⟨e, e4, _⟩ := DataW.trod_bool Try.underlying4 f4
      obtain ⟨f, e5, _⟩ := DataW.trod_bool Try.underlying4 f5
      obtain ⟨t, e6, _, _⟩ := DataW.trod_int Try.underlying3 f6
      obtain ⟨l, e7, _, _⟩ := DataW.trod_int Try.underlying3 f7
      obtain ⟨s, e8, _, _⟩ := DataW.trod_string Try.underlying9 f8
      simp at e0 e1 e2 e3 e4 e5 e6 e7 e8
      subst e0 e1 e2 e3 e4 e5 e6 e7 e8
      exact ⟨⟨a, b, o, d, e, f, t, l, s⟩, rfl⟩
theorem open_deed {H : Type} {enc : TypeId × Value → H} {W : World} {r' : Reach} {b0 base : Nat} {sp : Nat → Bool} {held : Bool} {v : Value} {d : DataW H} {pl : List MemPlace}
    (hv : Value.okWide Try.prog W r' b0 28 v) (h : DataW.Trod enc Try.prog W base sp held 28 v d pl) :
    ∃ k g n : Int, v = .agg #[.int .i64 k, .int .i64 g, .int .i64 n] := by
  have cI : Try.prog.cellsOf 3 = 1 := by kernel_rfl
  have cF : Try.prog.cellsOf 28 = 3 := by kernel_rfl
  obtain ⟨cs, rfl, hsz⟩ := okWide_struct Try.underlying28 hv
  obtain ⟨l⟩ := cs
  match l, hsz.trans cF with
  | [c0, c1, c2], _ =>
    obtain ⟨fuel, hf0⟩ := h
    obtain ⟨xs, m', _, hx, _, hl, hf⟩ := DataW.trod_struct Try.underlying28 hf0
    match xs, hl with
    | [x0, x1, x2], _ =>
      have f0 := hf 0 _ rfl
      have f1 := hf 1 _ rfl
      have f2 := hf 2 _ rfl
      simp [Value.cells, cI] at f0 f1 f2
      obtain ⟨k, e0, _, _⟩ := DataW.trod_int Try.underlying3 f0
      obtain ⟨g, e1, _, _⟩ := DataW.trod_int Try.underlying3 f1
      obtain ⟨n, e2, _, _⟩ := DataW.trod_int Try.underlying3 f2
      simp at e0 e1 e2
      subst e0 e1 e2
      exact ⟨k, g, n, rfl⟩
theorem open_deeds {H : Type} {enc : TypeId × Value → H} {W : World} {r : Reach} {b0 : Nat} {v : Value} {d : DataW H} {p : List MemPlace}
    (hv : Value.okWide Try.prog W r b0 39 v) (h : DataW.Trod enc Try.prog W 0 (fun _ => true) true 39 v d p) : ∃ l : List (Int × Int × Int), Dds W v l :=
  open_rows (fun q : Int × Int × Int => [.int .i64 q.1, .int .i64 q.2.1, .int .i64 q.2.2]) 3 (fun _ => rfl) Try.underlying39 (by kernel_rfl) (fun n cs x hx => by
    have cI : Try.prog.cellsOf 3 = 1 := by kernel_rfl
    have cF : Try.prog.cellsOf 28 = 3 := by kernel_rfl
    obtain ⟨xs, m', _, _, hcl, hl, hf⟩ := DataW.trod_struct Try.underlying28 hx
    rw [cF] at hcl
    match cs, hcl with
    | [c0, c1, c2], _ =>
      match xs, hl with
      | [x0, x1, x2], _ =>
        have f0 := hf 0 _ rfl
        have f1 := hf 1 _ rfl
        have f2 := hf 2 _ rfl
        simp [cI] at f0 f1 f2
        obtain ⟨k, e0, _, _⟩ := DataW.trod_int Try.underlying3 f0
        obtain ⟨g, e1, _, _⟩ := DataW.trod_int Try.underlying3 f1
        obtain ⟨n, e2, _, _⟩ := DataW.trod_int Try.underlying3 f2
        simp at e0 e1 e2
        subst e0 e1 e2
        exact ⟨(k, g, n), rfl⟩) hv h
end Go.Proofs.Ytbbaflepnjglnaa
