import Derived.Test.YtlegcfjafdihlaaGreatDoorRows
import Derived.Test.YtlegcfjafdihlaaGreatDoorZC00
import Derived.Test.YtlegcfjafdihlaaGreatDoorZC01
import Derived.Test.YtlegcfjafdihlaaGreatDoorZC02
import Derived.Test.YtlegcfjafdihlaaGreatDoorZC15
import Derived.Test.YtlegcfjafdihlaaGreatDoorZC12
import Derived.Test.YtlegcfjafdihlaaGreatDoorZC13
import Derived.ProofKit
import Derived.LaidMore
import Derived.OpenShut
import Derived.Carry
import Derived.ChangeSame
import Derived.ChangeSlices
import Derived.Deep.Slices
/-
  Machines and accesses among the arguments, opened. No condition.
-/
namespace Go.Proofs.YtlegcfjafdihlaaGreatDoor
open Go.Deep Go.ChangeShapes Go.WideShapes Go.ChangeAt Go.RowKit
set_option linter.unusedSimpArgs false
set_option linter.unusedVariables false
set_option maxRecDepth 100000
set_option maxHeartbeats 4000000
theorem split18 (cs : List Value) (n k : Nat) : cs.drop n = (cs.drop n).take k ++ cs.drop (n + k) := by
  rw [← List.drop_drop, List.take_append_drop]
theorem join_ints18 : ∀ (n : Nat) (cs : List Value), cs.length = n → (∀ k, k < n → ∃ i : Int, (cs.drop k).take 1 = [Value.int .i64 i]) → ∃ l : List Int, cs = l.map (Value.int .i64) ∧ l.length = n
  | 0, cs, h, _ => ⟨[], by rw [List.length_eq_zero_iff.1 h]; rfl, rfl⟩
  | n + 1, [], h, _ => by cases h
  | n + 1, c :: r, h, hk => by
    obtain ⟨i, hi⟩ := hk 0 (by omega)
    obtain ⟨l, h1, h2⟩ := join_ints18 n r (by simpa using h) (fun k q => by
      have := hk (k + 1) (by omega)
      simpa using this)
    simp at hi
    exact ⟨i :: l, by rw [hi, h1]; rfl, by simp [h2]⟩
section
variable {H : Type} {enc : TypeId × Value → H} {w : World} {fuel : Nat} {cs : List Value} {x : DataW H × List MemPlace}
theorem open_sts18 (h : DataW.trod enc Tryz.prog w 0 (fun _ => true) true fuel 41 cs = some x) : ∃ (l : List ByteArray) (v : Value), cs = [v] ∧ Sts w v l := by
  obtain ⟨S, v, e, h1, h2⟩ := open_rowsC (fun s : ByteArray => [Value.string s]) 1 (fun _ => rfl) Tryz.underlying41 (by kernel_rfl) (fun n cs x hx => by
    obtain ⟨s, e0, _, _⟩ := DataW.trod_string Tryz.underlying9 hx
    exact ⟨s, by simpa using e0⟩) h
  rw [flatMap_one] at h1
  exact ⟨S, v, e, h1, h2⟩
theorem open_its18 (h : DataW.trod enc Tryz.prog w 0 (fun _ => true) true fuel 31 cs = some x) : ∃ (l : List Int) (v : Value), cs = [v] ∧ Its w v l := by
  obtain ⟨S, v, e, h1, h2⟩ := open_rowsC (fun s : Int => [Value.int .i64 s]) 1 (fun _ => rfl) Tryz.underlying31 (by kernel_rfl) (fun n cs x hx => by
    obtain ⟨s, e0, _, _⟩ := DataW.trod_int Tryz.underlying3 hx
    exact ⟨s, by simpa using e0⟩) h
  rw [flatMap_one] at h1
  exact ⟨S, v, e, h1, h2⟩
theorem open_a6 (h : DataW.trod enc Tryz.prog w 0 (fun _ => true) true fuel 22 cs = some x) : ∃ l : List Int, cs = l.map (Value.int .i64) ∧ l.length = 6 := by
  have cI : Tryz.prog.cellsOf 3 = 1 := by kernel_rfl
  have cA : Tryz.prog.cellsOf 22 = 6 := by kernel_rfl
  obtain ⟨xs, m, _, _, hc, hl, hel⟩ := DataW.trod_array Tryz.underlying22 h
  rw [cA] at hc
  refine join_ints18 6 cs hc (fun k hk => ?_)
  have e := hel k hk
  rw [cI, List.getElem?_eq_getElem (by omega)] at e
  obtain ⟨i, e0, _, _⟩ := DataW.trod_int Tryz.underlying3 e
  exact ⟨i, by simpa using e0⟩
theorem open_a2 (h : DataW.trod enc Tryz.prog w 0 (fun _ => true) true fuel 23 cs = some x) : ∃ l : List Int, cs = l.map (Value.int .i64) ∧ l.length = 2 := by
  have cI : Tryz.prog.cellsOf 3 = 1 := by kernel_rfl
  have cA : Tryz.prog.cellsOf 23 = 2 := by kernel_rfl
  obtain ⟨xs, m, _, _, hc, hl, hel⟩ := DataW.trod_array Tryz.underlying23 h
  rw [cA] at hc
  refine join_ints18 2 cs hc (fun k hk => ?_)
  have e := hel k hk
  rw [cI, List.getElem?_eq_getElem (by omega)] at e
  obtain ⟨i, e0, _, _⟩ := DataW.trod_int Tryz.underlying3 e
  exact ⟨i, by simpa using e0⟩
theorem open_cpu18 (h : DataW.trod enc Tryz.prog w 0 (fun _ => true) true fuel 25 cs = some x) : ∃ c : List Int, cs = c.map (Value.int .i64) ∧ c.length = 10 := by
  have cI : Tryz.prog.cellsOf 3 = 1 := by kernel_rfl
  have cB : Tryz.prog.cellsOf 4 = 1 := by kernel_rfl
  have cS : Tryz.prog.cellsOf 9 = 1 := by kernel_rfl
  have cSs : Tryz.prog.cellsOf 41 = 1 := by kernel_rfl
  have cIs : Tryz.prog.cellsOf 31 = 1 := by kernel_rfl
  have cDv : Tryz.prog.cellsOf 43 = 2 := by kernel_rfl
  have cA6 : Tryz.prog.cellsOf 22 = 6 := by kernel_rfl
  have cA2 : Tryz.prog.cellsOf 23 = 2 := by kernel_rfl
  have cF : Tryz.prog.cellsOf 25 = 10 := by kernel_rfl
  obtain ⟨xs, m', _, hx, hc, hl, hf⟩ := DataW.trod_struct Tryz.underlying25 h
  match cs, hc.trans cF with
  | [c0, c1, c2, c3, c4, c5, c6, c7, c8, c9], _ =>
    match xs, hl with
    | [x0, x1, x2, x3], _ =>
      have f0 := hf 0 _ rfl
      have f1 := hf 1 _ rfl
      have f2 := hf 2 _ rfl
      have f3 := hf 3 _ rfl
      simp [cI, cB, cS, cSs, cIs, cDv, cA6, cA2] at f0 f1 f2 f3
      obtain ⟨b0, e0, l0⟩ := open_a6 f0
      obtain ⟨b1, e1, l1⟩ := open_a2 f1
      obtain ⟨b2, e2, _, _⟩ := DataW.trod_int Tryz.underlying3 f2
      obtain ⟨b3, e3, _, _⟩ := DataW.trod_int Tryz.underlying3 f3
      simp at e2 e3
      subst e2 e3
      refine ⟨b0 ++ (b1 ++ [b2, b3]), ?_, by simp [l0, l1]⟩
      rw [List.map_append, List.map_append, ← e0, ← e1]
      rfl
theorem open_clock18 (h : DataW.trod enc Tryz.prog w 0 (fun _ => true) true fuel 39 cs = some x) : ∃ k : Ck, cs = k.L := by
  have cI : Tryz.prog.cellsOf 3 = 1 := by kernel_rfl
  have cB : Tryz.prog.cellsOf 4 = 1 := by kernel_rfl
  have cS : Tryz.prog.cellsOf 9 = 1 := by kernel_rfl
  have cSs : Tryz.prog.cellsOf 41 = 1 := by kernel_rfl
  have cIs : Tryz.prog.cellsOf 31 = 1 := by kernel_rfl
  have cDv : Tryz.prog.cellsOf 43 = 2 := by kernel_rfl
  have cA6 : Tryz.prog.cellsOf 22 = 6 := by kernel_rfl
  have cA2 : Tryz.prog.cellsOf 23 = 2 := by kernel_rfl
  have cF : Tryz.prog.cellsOf 39 = 4 := by kernel_rfl
  obtain ⟨xs, m', _, hx, hc, hl, hf⟩ := DataW.trod_struct Tryz.underlying39 h
  match cs, hc.trans cF with
  | [c0, c1, c2, c3], _ =>
    match xs, hl with
    | [x0, x1, x2, x3], _ =>
      have f0 := hf 0 _ rfl
      have f1 := hf 1 _ rfl
      have f2 := hf 2 _ rfl
      have f3 := hf 3 _ rfl
      simp [cI, cB, cS, cSs, cIs, cDv, cA6, cA2] at f0 f1 f2 f3
      obtain ⟨b0, e0, _⟩ := DataW.trod_bool Tryz.underlying4 f0
      obtain ⟨b1, e1, _⟩ := DataW.trod_bool Tryz.underlying4 f1
      obtain ⟨b2, e2, _, _⟩ := DataW.trod_int Tryz.underlying3 f2
      obtain ⟨b3, e3, _, _⟩ := DataW.trod_int Tryz.underlying3 f3
      simp at e0 e1 e2 e3
      subst e0 e1 e2 e3
      exact ⟨⟨b0, b1, b2, b3⟩, rfl⟩
theorem open_line18 (h : DataW.trod enc Tryz.prog w 0 (fun _ => true) true fuel 83 cs = some x) : ∃ y : Ln, cs = lnL y := by
  have cI : Tryz.prog.cellsOf 3 = 1 := by kernel_rfl
  have cB : Tryz.prog.cellsOf 4 = 1 := by kernel_rfl
  have cS : Tryz.prog.cellsOf 9 = 1 := by kernel_rfl
  have cSs : Tryz.prog.cellsOf 41 = 1 := by kernel_rfl
  have cIs : Tryz.prog.cellsOf 31 = 1 := by kernel_rfl
  have cDv : Tryz.prog.cellsOf 43 = 2 := by kernel_rfl
  have cA6 : Tryz.prog.cellsOf 22 = 6 := by kernel_rfl
  have cA2 : Tryz.prog.cellsOf 23 = 2 := by kernel_rfl
  have cF : Tryz.prog.cellsOf 83 = 9 := by kernel_rfl
  obtain ⟨xs, m', _, hx, hc, hl, hf⟩ := DataW.trod_struct Tryz.underlying83 h
  match cs, hc.trans cF with
  | [c0, c1, c2, c3, c4, c5, c6, c7, c8], _ =>
    match xs, hl with
    | [x0, x1, x2, x3, x4, x5, x6, x7, x8], _ =>
      have f0 := hf 0 _ rfl
      have f1 := hf 1 _ rfl
      have f2 := hf 2 _ rfl
      have f3 := hf 3 _ rfl
      have f4 := hf 4 _ rfl
      have f5 := hf 5 _ rfl
      have f6 := hf 6 _ rfl
      have f7 := hf 7 _ rfl
      have f8 := hf 8 _ rfl
      simp [cI, cB, cS, cSs, cIs, cDv, cA6, cA2] at f0 f1 f2 f3 f4 f5 f6 f7 f8
      obtain ⟨b0, e0, _⟩ := DataW.trod_bool Tryz.underlying4 f0
      obtain ⟨b1, e1, _⟩ := DataW.trod_bool Tryz.underlying4 f1
      obtain ⟨b2, e2, _⟩ := DataW.trod_bool Tryz.underlying4 f2
      obtain ⟨b3, e3, _, _⟩ := DataW.trod_int Tryz.underlying3 f3
      obtain ⟨b4, e4, _⟩ := DataW.trod_bool Tryz.underlying4 f4
      obtain ⟨b5, e5, _⟩ := DataW.trod_bool Tryz.underlying4 f5
      obtain ⟨b6, e6, _, _⟩ := DataW.trod_int Tryz.underlying3 f6
      obtain ⟨b7, e7, _, _⟩ := DataW.trod_int Tryz.underlying3 f7
      obtain ⟨b8, e8, _, _⟩ := DataW.trod_string Tryz.underlying9 f8
      simp at e0 e1 e2 e3 e4 e5 e6 e7 e8
      subst e0 e1 e2 e3 e4 e5 e6 e7 e8
      exact ⟨⟨b0, b1, b2, b3, b4, b5, b6, b7, b8⟩, rfl⟩
theorem open_drv18 (h : DataW.trod enc Tryz.prog w 0 (fun _ => true) true fuel 43 cs = some x) : ∃ (D : Drv) (v u : Value), cs = [v, u] ∧ Sts w v D.S ∧ Its w u D.B := by
  have cI : Tryz.prog.cellsOf 3 = 1 := by kernel_rfl
  have cB : Tryz.prog.cellsOf 4 = 1 := by kernel_rfl
  have cS : Tryz.prog.cellsOf 9 = 1 := by kernel_rfl
  have cSs : Tryz.prog.cellsOf 41 = 1 := by kernel_rfl
  have cIs : Tryz.prog.cellsOf 31 = 1 := by kernel_rfl
  have cDv : Tryz.prog.cellsOf 43 = 2 := by kernel_rfl
  have cA6 : Tryz.prog.cellsOf 22 = 6 := by kernel_rfl
  have cA2 : Tryz.prog.cellsOf 23 = 2 := by kernel_rfl
  have cF : Tryz.prog.cellsOf 43 = 2 := by kernel_rfl
  obtain ⟨xs, m', _, hx, hc, hl, hf⟩ := DataW.trod_struct Tryz.underlying43 h
  match cs, hc.trans cF with
  | [c0, c1], _ =>
    match xs, hl with
    | [x0, x1], _ =>
      have f0 := hf 0 _ rfl
      have f1 := hf 1 _ rfl
      simp [cI, cB, cS, cSs, cIs, cDv, cA6, cA2] at f0 f1
      obtain ⟨b0, v0, e0, k0⟩ := open_sts18 f0
      obtain ⟨b1, v1, e1, k1⟩ := open_its18 f1
      simp at e0 e1
      subst e0 e1
      exact ⟨⟨b0, b1⟩, _, _, rfl, k0, k1⟩
theorem open_disk18 (h : DataW.trod enc Tryz.prog w 0 (fun _ => true) true fuel 45 cs = some x) : ∃ (K : Dk) (v u : Value), cs = dkL v u K ∧ Sts w v K.D.S ∧ Its w u K.D.B := by
  have cI : Tryz.prog.cellsOf 3 = 1 := by kernel_rfl
  have cB : Tryz.prog.cellsOf 4 = 1 := by kernel_rfl
  have cS : Tryz.prog.cellsOf 9 = 1 := by kernel_rfl
  have cSs : Tryz.prog.cellsOf 41 = 1 := by kernel_rfl
  have cIs : Tryz.prog.cellsOf 31 = 1 := by kernel_rfl
  have cDv : Tryz.prog.cellsOf 43 = 2 := by kernel_rfl
  have cA6 : Tryz.prog.cellsOf 22 = 6 := by kernel_rfl
  have cA2 : Tryz.prog.cellsOf 23 = 2 := by kernel_rfl
  have cF : Tryz.prog.cellsOf 45 = 10 := by kernel_rfl
  obtain ⟨xs, m', _, hx, hc, hl, hf⟩ := DataW.trod_struct Tryz.underlying45 h
  match cs, hc.trans cF with
  | [c0, c1, c2, c3, c4, c5, c6, c7, c8, c9], _ =>
    match xs, hl with
    | [x0, x1, x2, x3, x4, x5, x6, x7, x8], _ =>
      have f0 := hf 0 _ rfl
      have f1 := hf 1 _ rfl
      have f2 := hf 2 _ rfl
      have f3 := hf 3 _ rfl
      have f4 := hf 4 _ rfl
      have f5 := hf 5 _ rfl
      have f6 := hf 6 _ rfl
      have f7 := hf 7 _ rfl
      have f8 := hf 8 _ rfl
      simp [cI, cB, cS, cSs, cIs, cDv, cA6, cA2] at f0 f1 f2 f3 f4 f5 f6 f7 f8
      obtain ⟨b0, v0, u0, e0, k0, j0⟩ := open_drv18 f0
      obtain ⟨b1, e1, _⟩ := DataW.trod_bool Tryz.underlying4 f1
      obtain ⟨b2, e2, _⟩ := DataW.trod_bool Tryz.underlying4 f2
      obtain ⟨b3, e3, _⟩ := DataW.trod_bool Tryz.underlying4 f3
      obtain ⟨b4, e4, _, _⟩ := DataW.trod_int Tryz.underlying3 f4
      obtain ⟨b5, e5, _, _⟩ := DataW.trod_int Tryz.underlying3 f5
      obtain ⟨b6, e6, _, _⟩ := DataW.trod_int Tryz.underlying3 f6
      obtain ⟨b7, e7, _, _⟩ := DataW.trod_int Tryz.underlying3 f7
      obtain ⟨b8, e8, _, _⟩ := DataW.trod_int Tryz.underlying3 f8
      simp at e0 e1 e2 e3 e4 e5 e6 e7 e8
      obtain ⟨rfl, rfl⟩ := e0
      subst e1 e2 e3 e4 e5 e6 e7 e8
      exact ⟨⟨b0, b1, b2, b3, b4, b5, b6, b7, b8⟩, _, _, rfl, k0, j0⟩
theorem open_tape18 (h : DataW.trod enc Tryz.prog w 0 (fun _ => true) true fuel 47 cs = some x) : ∃ (K : Tp) (v : Value), cs = tpL v K ∧ Sts w v K.R := by
  have cI : Tryz.prog.cellsOf 3 = 1 := by kernel_rfl
  have cB : Tryz.prog.cellsOf 4 = 1 := by kernel_rfl
  have cS : Tryz.prog.cellsOf 9 = 1 := by kernel_rfl
  have cSs : Tryz.prog.cellsOf 41 = 1 := by kernel_rfl
  have cIs : Tryz.prog.cellsOf 31 = 1 := by kernel_rfl
  have cDv : Tryz.prog.cellsOf 43 = 2 := by kernel_rfl
  have cA6 : Tryz.prog.cellsOf 22 = 6 := by kernel_rfl
  have cA2 : Tryz.prog.cellsOf 23 = 2 := by kernel_rfl
  have cF : Tryz.prog.cellsOf 47 = 11 := by kernel_rfl
  obtain ⟨xs, m', _, hx, hc, hl, hf⟩ := DataW.trod_struct Tryz.underlying47 h
  match cs, hc.trans cF with
  | [c0, c1, c2, c3, c4, c5, c6, c7, c8, c9, c10], _ =>
    match xs, hl with
    | [x0, x1, x2, x3, x4, x5, x6, x7, x8, x9, x10], _ =>
      have f0 := hf 0 _ rfl
      have f1 := hf 1 _ rfl
      have f2 := hf 2 _ rfl
      have f3 := hf 3 _ rfl
      have f4 := hf 4 _ rfl
      have f5 := hf 5 _ rfl
      have f6 := hf 6 _ rfl
      have f7 := hf 7 _ rfl
      have f8 := hf 8 _ rfl
      have f9 := hf 9 _ rfl
      have f10 := hf 10 _ rfl
      simp [cI, cB, cS, cSs, cIs, cDv, cA6, cA2] at f0 f1 f2 f3 f4 f5 f6 f7 f8 f9 f10
      obtain ⟨b0, v0, e0, k0⟩ := open_sts18 f0
      obtain ⟨b1, e1, _, _⟩ := DataW.trod_int Tryz.underlying3 f1
      obtain ⟨b2, e2, _⟩ := DataW.trod_bool Tryz.underlying4 f2
      obtain ⟨b3, e3, _⟩ := DataW.trod_bool Tryz.underlying4 f3
      obtain ⟨b4, e4, _⟩ := DataW.trod_bool Tryz.underlying4 f4
      obtain ⟨b5, e5, _⟩ := DataW.trod_bool Tryz.underlying4 f5
      obtain ⟨b6, e6, _⟩ := DataW.trod_bool Tryz.underlying4 f6
      obtain ⟨b7, e7, _, _⟩ := DataW.trod_int Tryz.underlying3 f7
      obtain ⟨b8, e8, _, _⟩ := DataW.trod_int Tryz.underlying3 f8
      obtain ⟨b9, e9, _, _⟩ := DataW.trod_int Tryz.underlying3 f9
      obtain ⟨b10, e10, _, _⟩ := DataW.trod_int Tryz.underlying3 f10
      simp at e0 e1 e2 e3 e4 e5 e6 e7 e8 e9 e10
      subst e0 e1 e2 e3 e4 e5 e6 e7 e8 e9 e10
      exact ⟨⟨b0, b1, b2, b3, b4, b5, b6, b7, b8, b9, b10⟩, _, rfl, k0⟩
theorem open_lines18 (h : DataW.trod enc Tryz.prog w 0 (fun _ => true) true fuel 40 cs = some x) : ∃ (l : List Ln) (v : Value), cs = [v] ∧ Lns w v l := by
  obtain ⟨S, v, e, h1, h2⟩ := open_rowsC lnL 9 (fun _ => rfl) Tryz.underlying40 (by kernel_rfl) (fun n cs x hx => open_line18 hx) h
  exact ⟨S, v, e, h1, h2⟩
theorem open_mach18 (h : DataW.trod enc Tryz.prog w 0 (fun _ => true) true fuel 49 cs = some x) : ∃ (A : Ma) (c : List Int) (vm vb vl vs vd vt : Value), cs = A.cells vm vb vl vs vd vt ∧ A.ok ∧ A.C = c.map (Value.int .i64) ∧ c.length = 10 ∧ MaNow w A vm vb vl vs vd vt := by
  have cF : Tryz.prog.cellsOf 49 = 110 := by kernel_rfl
  obtain ⟨xs, m', _, hx, hc, hl, hf⟩ := DataW.trod_struct Tryz.underlying49 h
  rw [cF] at hc
  match xs, hl with
  | [x0, x1, x2, x3, x4, x5, x6, x7, x8, x9, x10, x11, x12], _ =>
    have f0 : DataW.trod enc Tryz.prog w 0 (fun _ => true) true m' 25 ((cs.drop 0).take 10) = some x0 := hf 0 _ rfl
    have f1 : DataW.trod enc Tryz.prog w 0 (fun _ => true) true m' 31 ((cs.drop 10).take 1) = some x1 := hf 1 _ rfl
    have f2 : DataW.trod enc Tryz.prog w 0 (fun _ => true) true m' 31 ((cs.drop 11).take 1) = some x2 := hf 2 _ rfl
    have f3 : DataW.trod enc Tryz.prog w 0 (fun _ => true) true m' 37 ((cs.drop 12).take 67) = some x3 := hf 3 _ rfl
    have f4 : DataW.trod enc Tryz.prog w 0 (fun _ => true) true m' 39 ((cs.drop 79).take 4) = some x4 := hf 4 _ rfl
    have f5 : DataW.trod enc Tryz.prog w 0 (fun _ => true) true m' 40 ((cs.drop 83).take 1) = some x5 := hf 5 _ rfl
    have f6 : DataW.trod enc Tryz.prog w 0 (fun _ => true) true m' 45 ((cs.drop 84).take 10) = some x6 := hf 6 _ rfl
    have f7 : DataW.trod enc Tryz.prog w 0 (fun _ => true) true m' 47 ((cs.drop 94).take 11) = some x7 := hf 7 _ rfl
    have f8 : DataW.trod enc Tryz.prog w 0 (fun _ => true) true m' 3 ((cs.drop 105).take 1) = some x8 := hf 8 _ rfl
    have f9 : DataW.trod enc Tryz.prog w 0 (fun _ => true) true m' 4 ((cs.drop 106).take 1) = some x9 := hf 9 _ rfl
    have f10 : DataW.trod enc Tryz.prog w 0 (fun _ => true) true m' 4 ((cs.drop 107).take 1) = some x10 := hf 10 _ rfl
    have f11 : DataW.trod enc Tryz.prog w 0 (fun _ => true) true m' 3 ((cs.drop 108).take 1) = some x11 := hf 11 _ rfl
    have f12 : DataW.trod enc Tryz.prog w 0 (fun _ => true) true m' 4 ((cs.drop 109).take 1) = some x12 := hf 12 _ rfl
    obtain ⟨C, e0, l0⟩ := open_cpu18 f0
    obtain ⟨M, vm, e1, k1⟩ := open_its18 f1
    obtain ⟨B, vb, e2, k2⟩ := open_its18 f2
    obtain ⟨U, e3, w3⟩ := open_unit f3
    obtain ⟨k, e4⟩ := open_clock18 f4
    obtain ⟨L, vl, e5, k5⟩ := open_lines18 f5
    obtain ⟨K, vs, vd, e6, k6, j6⟩ := open_disk18 f6
    obtain ⟨Tt, vt, e7, k7⟩ := open_tape18 f7
    obtain ⟨b8, e8, _, _⟩ := DataW.trod_int Tryz.underlying3 f8
    obtain ⟨b9, e9, _⟩ := DataW.trod_bool Tryz.underlying4 f9
    obtain ⟨b10, e10, _⟩ := DataW.trod_bool Tryz.underlying4 f10
    obtain ⟨b11, e11, _, _⟩ := DataW.trod_int Tryz.underlying3 f11
    obtain ⟨b12, e12, _⟩ := DataW.trod_bool Tryz.underlying4 f12
    clear f0 f1 f2 f3 f4 f5 f6 f7 f8 f9 f10 f11 f12 hf
    have q12 : cs.drop 109 = [.bool b12] := by rw [← e12, List.take_of_length_le (by rw [List.length_drop]; omega)]
    have q11 : cs.drop 108 = [.int .i64 b11] ++ ([.bool b12]) := (split18 cs 108 1).trans (by rw [e11, show 108 + 1 = 109 from rfl, q12])
    have q10 : cs.drop 107 = [.bool b10] ++ ([.int .i64 b11] ++ ([.bool b12])) := (split18 cs 107 1).trans (by rw [e10, show 107 + 1 = 108 from rfl, q11])
    have q9 : cs.drop 106 = [.bool b9] ++ ([.bool b10] ++ ([.int .i64 b11] ++ ([.bool b12]))) := (split18 cs 106 1).trans (by rw [e9, show 106 + 1 = 107 from rfl, q10])
    have q8 : cs.drop 105 = [.int .i64 b8] ++ ([.bool b9] ++ ([.bool b10] ++ ([.int .i64 b11] ++ ([.bool b12])))) := (split18 cs 105 1).trans (by rw [e8, show 105 + 1 = 106 from rfl, q9])
    have q7 : cs.drop 94 = tpL vt Tt ++ ([.int .i64 b8] ++ ([.bool b9] ++ ([.bool b10] ++ ([.int .i64 b11] ++ ([.bool b12]))))) := (split18 cs 94 11).trans (by rw [e7, show 94 + 11 = 105 from rfl, q8])
    have q6 : cs.drop 84 = dkL vs vd K ++ (tpL vt Tt ++ ([.int .i64 b8] ++ ([.bool b9] ++ ([.bool b10] ++ ([.int .i64 b11] ++ ([.bool b12])))))) := (split18 cs 84 10).trans (by rw [e6, show 84 + 10 = 94 from rfl, q7])
    have q5 : cs.drop 83 = [vl] ++ (dkL vs vd K ++ (tpL vt Tt ++ ([.int .i64 b8] ++ ([.bool b9] ++ ([.bool b10] ++ ([.int .i64 b11] ++ ([.bool b12]))))))) := (split18 cs 83 1).trans (by rw [e5, show 83 + 1 = 84 from rfl, q6])
    have q4 : cs.drop 79 = k.L ++ ([vl] ++ (dkL vs vd K ++ (tpL vt Tt ++ ([.int .i64 b8] ++ ([.bool b9] ++ ([.bool b10] ++ ([.int .i64 b11] ++ ([.bool b12])))))))) := (split18 cs 79 4).trans (by rw [e4, show 79 + 4 = 83 from rfl, q5])
    have q3 : cs.drop 12 = U.L ++ (k.L ++ ([vl] ++ (dkL vs vd K ++ (tpL vt Tt ++ ([.int .i64 b8] ++ ([.bool b9] ++ ([.bool b10] ++ ([.int .i64 b11] ++ ([.bool b12]))))))))) := (split18 cs 12 67).trans (by rw [e3, show 12 + 67 = 79 from rfl, q4])
    have q2 : cs.drop 11 = [vb] ++ (U.L ++ (k.L ++ ([vl] ++ (dkL vs vd K ++ (tpL vt Tt ++ ([.int .i64 b8] ++ ([.bool b9] ++ ([.bool b10] ++ ([.int .i64 b11] ++ ([.bool b12])))))))))) := (split18 cs 11 1).trans (by rw [e2, show 11 + 1 = 12 from rfl, q3])
    have q1 : cs.drop 10 = [vm] ++ ([vb] ++ (U.L ++ (k.L ++ ([vl] ++ (dkL vs vd K ++ (tpL vt Tt ++ ([.int .i64 b8] ++ ([.bool b9] ++ ([.bool b10] ++ ([.int .i64 b11] ++ ([.bool b12]))))))))))) := (split18 cs 10 1).trans (by rw [e1, show 10 + 1 = 11 from rfl, q2])
    have q0 : cs.drop 0 = C.map (Value.int .i64) ++ ([vm] ++ ([vb] ++ (U.L ++ (k.L ++ ([vl] ++ (dkL vs vd K ++ (tpL vt Tt ++ ([.int .i64 b8] ++ ([.bool b9] ++ ([.bool b10] ++ ([.int .i64 b11] ++ ([.bool b12])))))))))))) := (split18 cs 0 10).trans (by rw [e0, show 0 + 10 = 10 from rfl, q1])
    rw [List.drop_zero] at q0
    exact ⟨⟨C.map (Value.int .i64), M, B, U, k, L, K, Tt, b8, b9, b10, b11, b12⟩, C, vm, vb, vl, vs, vd, vt, q0, ⟨by rw [List.length_map]; exact l0, fun v hv => (by obtain ⟨i, _, rfl⟩ := List.mem_map.1 hv; rfl), w3.1⟩, rfl, l0, ⟨k1, k2, k5, k6, j6, k7⟩⟩
end
theorem open_machine {H : Type} {enc : TypeId × Value → H} {W : World} {r : Reach} {b0 : Nat} {v : Value} {d : DataW H} {p : List MemPlace}
    (hv : Value.okWide Tryz.prog W r b0 49 v) (h : DataW.Trod enc Tryz.prog W 0 (fun _ => true) true 49 v d p) : ∃ (A : Ma) (c : List Int) (vm vb vl vs vd vt : Value), v = .agg (A.cells vm vb vl vs vd vt).toArray ∧ A.ok ∧ A.C = c.map (Value.int .i64) ∧ c.length = 10 ∧ MaNow W A vm vb vl vs vd vt := by
  obtain ⟨cs, rfl, hsz⟩ := okWide_struct Tryz.underlying49 hv
  obtain ⟨fuel, hf⟩ := h
  obtain ⟨A, c, vm, vb, vl, vs, vd, vt, e, h1, h2, h3, h4⟩ := open_mach18 hf
  have e' : cs.toList = A.cells vm vb vl vs vd vt := by simpa [Value.cells] using e
  exact ⟨A, c, vm, vb, vl, vs, vd, vt, by rw [← e'], h1, h2, h3, h4⟩
end Go.Proofs.YtlegcfjafdihlaaGreatDoor
