/-
  Drives and slices of writes among the arguments, opened. No condition.
-/
import Derived.Test.YtohfniejflibmaaRows
import Derived.Test.YtohfniejflibmaaBits
import Derived.Test.YtohfniejflibmaaDvH
import Derived.Test.YtohfniejflibmaaOpenRz
import Derived.ProofKit
import Derived.LaidMore
import Derived.OpenShut
import Derived.Carry
import Derived.ChangeSame
import Derived.ChangeSlices
import Derived.Deep.Slices
namespace Go.Proofs.Ytohfniejflibmaa
open Go.Deep Go.ChangeShapes Go.WideShapes Go.ChangeAt Go.RowKit
theorem laidOut : laidOutB Try.prog = true := by kernel_rfl
theorem open_dv {H : Type} {enc : TypeId × Value → H} {W : World} {r : Reach} {b0 : Nat} {v : Value} {d : DataW H} {p : List MemPlace}
    (hv : Value.okWide Try.prog W r b0 25 v) (h : DataW.Trod enc Try.prog W 0 (fun _ => true) true 25 v d p) : ∃ (D : Drv) (vs vb : Value), v = .agg #[vs, vb] ∧ Sts W vs D.S ∧ Its W vb D.B := by
  have cI : Try.prog.cellsOf 3 = 1 := by kernel_rfl
  have cS : Try.prog.cellsOf 9 = 1 := by kernel_rfl
  have c1 : Try.prog.cellsOf 22 = 1 := by kernel_rfl
  have c2 : Try.prog.cellsOf 23 = 1 := by kernel_rfl
  have cF : Try.prog.cellsOf 25 = 2 := by kernel_rfl
  obtain ⟨cs, rfl, hsz⟩ := okWide_struct Try.underlying25 hv
  obtain ⟨l⟩ := cs
  match l, hsz.trans cF with
  | [x0, x1], _ =>
    obtain ⟨fuel, hf0⟩ := h
    obtain ⟨xs, m', _, hx, _, hl, hf⟩ := DataW.trod_struct Try.underlying25 hf0
    match xs, hl with
    | [y0, y1], _ =>
      have f0 := hf 0 _ rfl
      have f1 := hf 1 _ rfl
      simp [Value.cells, c1, c2] at f0 f1
      obtain ⟨S, u0, e0, h0, z0⟩ := open_rowsC (fun s : ByteArray => [Value.string s]) 1 (fun _ => rfl) Try.underlying22 cS (fun n cs x hx => by
        obtain ⟨s, e0, _, _⟩ := DataW.trod_string Try.underlying9 hx
        exact ⟨s, by simpa using e0⟩) f0
      obtain ⟨B, u1, e1, h1, z1⟩ := open_rowsC (fun s : Int => [Value.int .i64 s]) 1 (fun _ => rfl) Try.underlying23 cI (fun n cs x hx => by
        obtain ⟨s, e0, _, _⟩ := DataW.trod_int Try.underlying3 hx
        exact ⟨s, by simpa using e0⟩) f1
      simp at e0 e1
      subst e0 e1
      rw [flatMap_one] at h0 h1
      exact ⟨⟨S, B⟩, _, _, rfl, ⟨h0, z0⟩, ⟨h1, z1⟩⟩
theorem open_wts {H : Type} {enc : TypeId × Value → H} {W : World} {r : Reach} {b0 : Nat} {v : Value} {d : DataW H} {p : List MemPlace}
    (hv : Value.okWide Try.prog W r b0 38 v) (h : DataW.Trod enc Try.prog W 0 (fun _ => true) true 38 v d p) : ∃ l : List (Int × ByteArray), Wts W v l := by
  obtain ⟨l, h1, h2⟩ := open_rowsZ (fun q : Int × ByteArray => [.int .i64 q.1, .string q.2]) 2 (fun _ => rfl) Try.underlying38 (by kernel_rfl) (fun n cs x hx => by
    have cI : Try.prog.cellsOf 3 = 1 := by kernel_rfl
    have cS : Try.prog.cellsOf 9 = 1 := by kernel_rfl
    have cF : Try.prog.cellsOf 45 = 2 := by kernel_rfl
    obtain ⟨xs, m', _, _, hcl, hl, hf⟩ := DataW.trod_struct Try.underlying45 hx
    rw [cF] at hcl
    match cs, hcl with
    | [c0, c1], _ =>
      match xs, hl with
      | [x0, x1], _ =>
        have f0 := hf 0 _ rfl
        have f1 := hf 1 _ rfl
        simp [cI, cS] at f0 f1
        obtain ⟨k, e0, _, _⟩ := DataW.trod_int Try.underlying3 f0
        obtain ⟨s, e1, _, _⟩ := DataW.trod_string Try.underlying9 f1
        simp at e0 e1
        subst e0 e1
        exact ⟨(k, s), rfl⟩) hv h
  exact ⟨l, h1, h2⟩
end Go.Proofs.Ytohfniejflibmaa
