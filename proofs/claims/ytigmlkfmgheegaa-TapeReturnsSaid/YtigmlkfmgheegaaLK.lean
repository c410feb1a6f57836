import Derived.Test.YtigmlkfmgheegaaRow
import Derived.ProofKit
import Derived.LaidMore
import Derived.OpenShut
import Derived.Carry
import Derived.ChangeSame
import Derived.ChangeSlices
import Derived.Deep.Slices
import Derived.Test.YtigmlkfmgheegaaRows
import Derived.Test.YtigmlkfmgheegaaBits
import Derived.Test.YtigmlkfmgheegaaTO
/-
  A slice of structs among the arguments, opened: for any struct whose cells are known. General. No condition.
-/
namespace Go.Proofs.Ytigmlkfmgheegaa
open Go.ChangeShapes Go.WideShapes Go.ChangeAt Go.RowKit Go.Deep
set_option linter.unusedVariables false
set_option linter.unusedSimpArgs false

theorem flatMap_at {α : Type} (g : α → List Value) (s : Nat) (hs : ∀ q, (g q).length = s) : ∀ (l : List α) (j : Nat) (u : Value), (l.flatMap g)[j]? = some u → ∃ i q r, l[i]? = some q ∧ r < s ∧ j = i * s + r ∧ (g q)[r]? = some u
  | [], j, u, h => by simp at h
  | q :: l, j, u, h => by
    rw [List.flatMap_cons] at h
    rcases Nat.lt_or_ge j s with k | k
    · rw [List.getElem?_append_left (by rw [hs]; exact k)] at h
      exact ⟨0, q, j, rfl, k, by omega, h⟩
    · rw [List.getElem?_append_right (by rw [hs]; exact k), hs] at h
      obtain ⟨i, q', r, h1, h2, h3, h4⟩ := flatMap_at g s hs l (j - s) u h
      exact ⟨i + 1, q', r, by simpa using h1, h2, by rw [Nat.add_mul, Nat.one_mul]; omega, h4⟩
theorem open_rows {α : Type} {H : Type} {enc : TypeId × Value → H} {P : Program} {W : World} {r : Reach} {b0 : Nat} {t e : TypeId} {v : Value} {d : DataW H} {p : List MemPlace} (g : α → List Value) (s : Nat) (hs : ∀ q, (g q).length = s)
    (ht : P.underlying t = some (.slice e)) (hce : P.cellsOf e = s) (hG : ∀ n cs x, DataW.trod enc P W 0 (fun _ => true) true n e cs = some x → ∃ q, cs = g q)
    (hv : Value.okWide P W r b0 t v) (h : DataW.Trod enc P W 0 (fun _ => true) true t v d p) : ∃ l : List α, Rw W v l.length (l.flatMap g) := by
  obtain ⟨a0, len0, cap0, rfl⟩ := okWide_slice ht hv
  obtain ⟨fuel, hf⟩ := h
  rcases open_slice ht hf with ⟨hcs, _⟩ | ⟨a, len, cap, m, n, D, Pl, hcs, _, hl, _, hm, _, hx⟩
  · simp [Value.cells] at hcs
    obtain ⟨rfl, rfl, rfl⟩ := hcs
    exact ⟨[], ⟨none, 0, rfl, Nat.le_refl _, fun j x hx => by simp at hx⟩⟩
  · simp [Value.cells] at hcs
    obtain ⟨rfl, rfl, rfl⟩ := hcs
    have hmc : m = cap0 := by simpa using hm
    subst hmc
    rw [hce] at hx
    have hq : ∀ i : Fin len0, ∃ q, W.cells? 0 (a.add (i.1 * s)) s = some (g q) := fun i => by
      obtain ⟨cs', h1, h2⟩ := hx i.1 (by have := i.2; omega)
      obtain ⟨q, rfl⟩ := hG _ _ _ h2
      exact ⟨q, h1⟩
    refine ⟨(List.finRange len0).map fun i => (hq i).choose, ⟨some a, m, by simp, by simpa using hl, fun j u hu => ⟨a, rfl, ?_⟩⟩⟩
    obtain ⟨i, q, r', hi, hr, rfl, hju⟩ := flatMap_at g s hs _ j u hu
    rw [List.getElem?_map] at hi
    have hil : i < len0 := by
      rcases Nat.lt_or_ge i len0 with k | k
      · exact k
      · rw [List.getElem?_eq_none (by simpa using k)] at hi; cases hi
    rw [List.getElem?_eq_getElem (by simpa using hil)] at hi
    have hqi : q = (hq ⟨i, hil⟩).choose := by simpa using (Option.some.inj hi).symm
    have hc := (hq ⟨i, hil⟩).choose_spec
    rw [← hqi] at hc
    obtain ⟨_, hcl, hat⟩ := World.cells?_some hc
    have h3 := hat r' hr
    rw [addr_add, hju] at h3
    exact ⟨h3, World.block_lt_of_cell? W _ h3⟩
end Go.Proofs.Ytigmlkfmgheegaa

/-
  A slice of any elements among the arguments, or in a field of a struct among them, opened; without memory only if it is nil. General. No condition.
-/
namespace Go.Proofs.Ytigmlkfmgheegaa
open Go.ChangeShapes Go.WideShapes Go.ChangeAt Go.RowKit Go.Deep
set_option linter.unusedVariables false
set_option linter.unusedSimpArgs false

theorem open_rowsC {α : Type} {H : Type} {enc : TypeId × Value → H} {P : Program} {W : World} {t e : TypeId} {cs : List Value} {fuel : Nat} {x : DataW H × List MemPlace} (g : α → List Value) (s : Nat) (hs : ∀ q, (g q).length = s)
    (ht : P.underlying t = some (.slice e)) (hce : P.cellsOf e = s) (hG : ∀ n cs x, DataW.trod enc P W 0 (fun _ => true) true n e cs = some x → ∃ q, cs = g q)
    (hf : DataW.trod enc P W 0 (fun _ => true) true fuel t cs = some x) : ∃ (l : List α) (v : Value), cs = [v] ∧ Rw W v l.length (l.flatMap g) ∧ ∀ m c, v = .slice none m c → c = 0 := by
  rcases open_slice ht hf with ⟨rfl, _⟩ | ⟨a, len0, cap0, m, n, D, Pl, rfl, _, hl, _, hm, _, hx⟩
  · exact ⟨[], _, rfl, ⟨none, 0, rfl, Nat.le_refl _, fun j x hx => by simp at hx⟩, fun m c h => by cases h; rfl⟩
  · have hmc : m = cap0 := by simpa using hm
    subst hmc
    rw [hce] at hx
    have hq : ∀ i : Fin len0, ∃ q, W.cells? 0 (a.add (i.1 * s)) s = some (g q) := fun i => by
      obtain ⟨cs', h1, h2⟩ := hx i.1 (by have := i.2; omega)
      obtain ⟨q, rfl⟩ := hG _ _ _ h2
      exact ⟨q, h1⟩
    refine ⟨(List.finRange len0).map fun i => (hq i).choose, _, rfl, ⟨some a, m, by simp, by simpa using hl, fun j u hu => ⟨a, rfl, ?_⟩⟩, fun m c h => by cases h⟩
    obtain ⟨i, q, r', hi, hr, rfl, hju⟩ := flatMap_at g s hs _ j u hu
    rw [List.getElem?_map] at hi
    have hil : i < len0 := by
      rcases Nat.lt_or_ge i len0 with k | k
      · exact k
      · rw [List.getElem?_eq_none (by simpa using k)] at hi; cases hi
    rw [List.getElem?_eq_getElem (by simpa using hil)] at hi
    have hqi : q = (hq ⟨i, hil⟩).choose := by simpa using (Option.some.inj hi).symm
    have hc := (hq ⟨i, hil⟩).choose_spec
    rw [← hqi] at hc
    obtain ⟨_, hcl, hat⟩ := World.cells?_some hc
    have h3 := hat r' hr
    rw [addr_add, hju] at h3
    exact ⟨h3, World.block_lt_of_cell? W _ h3⟩
theorem open_rowsZ {α : Type} {H : Type} {enc : TypeId × Value → H} {P : Program} {W : World} {r : Reach} {b0 : Nat} {t e : TypeId} {v : Value} {d : DataW H} {p : List MemPlace} (g : α → List Value) (s : Nat) (hs : ∀ q, (g q).length = s)
    (ht : P.underlying t = some (.slice e)) (hce : P.cellsOf e = s) (hG : ∀ n cs x, DataW.trod enc P W 0 (fun _ => true) true n e cs = some x → ∃ q, cs = g q)
    (hv : Value.okWide P W r b0 t v) (h : DataW.Trod enc P W 0 (fun _ => true) true t v d p) : ∃ l : List α, Rw W v l.length (l.flatMap g) ∧ ∀ m c, v = .slice none m c → c = 0 := by
  obtain ⟨a0, len0, cap0, rfl⟩ := okWide_slice ht hv
  obtain ⟨fuel, hf⟩ := h
  obtain ⟨l, v, e, h1, h2⟩ := open_rowsC g s hs ht hce hG hf
  simp [Value.cells] at e
  subst e
  exact ⟨l, h1, h2⟩
theorem flatMap_one {α β : Type} (f : α → β) (l : List α) : (l.flatMap fun q => [f q]) = l.map f := by
  induction l with
  | nil => rfl
  | cons a l ih => rw [List.flatMap_cons, ih]; rfl
end Go.Proofs.Ytigmlkfmgheegaa

/-
  Tape units, memories, copies, lists among the arguments, opened. No condition.
-/
namespace Go.Proofs.Ytigmlkfmgheegaa
open Go.Deep Go.ChangeShapes Go.WideShapes Go.ChangeAt Go.RowKit
theorem laidOut : laidOutB Try.prog = true := by kernel_rfl
theorem slice_bound {P : Program} {w : World} {r : Reach} {base : Nat} {t e : TypeId} {v : Value} (ht : P.underlying t = some (.slice e)) (h : Value.okWide P w r base t v) : ∀ a n c, v = .slice a n c → (n : Int) ≤ 9223372036854775807 := by
  rintro a n c rfl
  simp only [Value.okWide, ht, Cell.okWide, Cell.ok] at h
  rcases a with _ | a
  · rcases n with _ | n
    · decide
    · rcases c with _ | c <;> exact h.elim
  · have h1 := h.1
    have h2 : (c : Int) ≤ 9223372036854775807 := h.2.1
    omega
theorem open_tape {H : Type} {enc : TypeId × Value → H} {W : World} {r : Reach} {b0 : Nat} {v : Value} {d : DataW H} {p : List MemPlace}
    (hv : Value.okWide Try.prog W r b0 24 v) (h : DataW.Trod enc Try.prog W 0 (fun _ => true) true 24 v d p) : ∃ (K : Tp) (vs : Value), v = .agg #[vs, .int .i64 K.p, .bool K.n, .bool K.r, .bool K.e, .bool K.m, .bool K.d, .int .i64 K.c, .int .i64 K.k, .int .i64 K.a, .int .i64 K.l] ∧ Sts W vs K.R := by
  have cI : Try.prog.cellsOf 3 = 1 := by kernel_rfl
  have cB : Try.prog.cellsOf 4 = 1 := by kernel_rfl
  have cS : Try.prog.cellsOf 9 = 1 := by kernel_rfl
  have c1 : Try.prog.cellsOf 22 = 1 := by kernel_rfl
  have c2 : Try.prog.cellsOf 42 = 1 := by kernel_rfl
  have cF : Try.prog.cellsOf 24 = 11 := by kernel_rfl
  obtain ⟨cs, rfl, hsz⟩ := okWide_struct Try.underlying24 hv
  obtain ⟨l⟩ := cs
  match l, hsz.trans cF with
  | [x0, x1, x2, x3, x4, x5, x6, x7, x8, x9, x10], _ =>
    obtain ⟨fuel, hf0⟩ := h
    obtain ⟨xs, m', _, hx, _, hl, hf⟩ := DataW.trod_struct Try.underlying24 hf0
    match xs, hl with
    | [y0, y1, y2, y3, y4, y5, y6, y7, y8, y9, y10], _ =>
      have f0 := hf 0 _ rfl
      have f1 := hf 1 _ rfl
      have f2 := hf 2 _ rfl
      have f3 := hf 3 _ rfl
      have f4 := hf 4 _ rfl
      have f5 := hf 5 _ rfl
      have f6 := hf 6 _ rfl
      have f7 := hf 7 _ rfl
      have f8 := hf 8 _ rfl
      have f9 := hf 9 _ rfl
      have f10 := hf 10 _ rfl
      simp [Value.cells, cI, cB, c1] at f0 f1 f2 f3 f4 f5 f6 f7 f8 f9 f10
      obtain ⟨S, u0, e0, h0, k0⟩ := open_rowsC (fun s : ByteArray => [Value.string s]) 1 (fun _ => rfl) Try.underlying22 cS (fun n cs x hx => by
        obtain ⟨s, e0, _, _⟩ := DataW.trod_string Try.underlying9 hx
        exact ⟨s, by simpa using e0⟩) f0
      obtain ⟨b1, q1, _, _⟩ := DataW.trod_int Try.underlying3 f1
      obtain ⟨b2, q2, _⟩ := DataW.trod_bool Try.underlying4 f2
      obtain ⟨b3, q3, _⟩ := DataW.trod_bool Try.underlying4 f3
      obtain ⟨b4, q4, _⟩ := DataW.trod_bool Try.underlying4 f4
      obtain ⟨b5, q5, _⟩ := DataW.trod_bool Try.underlying4 f5
      obtain ⟨b6, q6, _⟩ := DataW.trod_bool Try.underlying4 f6
      obtain ⟨b7, q7, _, _⟩ := DataW.trod_int Try.underlying3 f7
      obtain ⟨b8, q8, _, _⟩ := DataW.trod_int Try.underlying3 f8
      obtain ⟨b9, q9, _, _⟩ := DataW.trod_int Try.underlying3 f9
      obtain ⟨b10, q10, _, _⟩ := DataW.trod_int Try.underlying3 f10
      simp at e0 q1 q2 q3 q4 q5 q6 q7 q8 q9 q10
      subst e0 q1 q2 q3 q4 q5 q6 q7 q8 q9 q10
      rw [flatMap_one] at h0
      exact ⟨⟨S, b1, b2, b3, b4, b5, b6, b7, b8, b9, b10⟩, _, rfl, ⟨h0, k0⟩⟩
theorem open_store {H : Type} {enc : TypeId × Value → H} {W : World} {r : Reach} {b0 : Nat} {v : Value} {d : DataW H} {p : List MemPlace}
    (hv : Value.okWide Try.prog W r b0 44 v) (h : DataW.Trod enc Try.prog W 0 (fun _ => true) true 44 v d p) : ∃ (M B : List Int) (vm vb : Value), v = .agg #[vm, vb] ∧ Its W vm M ∧ Its W vb B := by
  have cI : Try.prog.cellsOf 3 = 1 := by kernel_rfl
  have cB : Try.prog.cellsOf 4 = 1 := by kernel_rfl
  have cS : Try.prog.cellsOf 9 = 1 := by kernel_rfl
  have c1 : Try.prog.cellsOf 22 = 1 := by kernel_rfl
  have c2 : Try.prog.cellsOf 42 = 1 := by kernel_rfl
  have cF : Try.prog.cellsOf 44 = 2 := by kernel_rfl
  obtain ⟨cs, rfl, hsz⟩ := okWide_struct Try.underlying44 hv
  obtain ⟨l⟩ := cs
  match l, hsz.trans cF with
  | [x0, x1], _ =>
    obtain ⟨fuel, hf0⟩ := h
    obtain ⟨xs, m', _, hx, _, hl, hf⟩ := DataW.trod_struct Try.underlying44 hf0
    match xs, hl with
    | [y0, y1], _ =>
      have f0 := hf 0 _ rfl
      have f1 := hf 1 _ rfl
      simp [Value.cells, c2] at f0 f1
      obtain ⟨S, u0, e0, h0, k0⟩ := open_rowsC (fun s : Int => [Value.int .i64 s]) 1 (fun _ => rfl) Try.underlying42 cI (fun n cs x hx => by
        obtain ⟨s, e0, _, _⟩ := DataW.trod_int Try.underlying3 hx
        exact ⟨s, by simpa using e0⟩) f0
      obtain ⟨B, u1, e1, h1, k1⟩ := open_rowsC (fun s : Int => [Value.int .i64 s]) 1 (fun _ => rfl) Try.underlying42 cI (fun n cs x hx => by
        obtain ⟨s, e0, _, _⟩ := DataW.trod_int Try.underlying3 hx
        exact ⟨s, by simpa using e0⟩) f1
      simp at e0 e1
      subst e0 e1
      rw [flatMap_one] at h0 h1
      exact ⟨S, B, _, _, rfl, ⟨h0, k0⟩, ⟨h1, k1⟩⟩
theorem open_copy {H : Type} {enc : TypeId × Value → H} {W : World} {r : Reach} {b0 : Nat} {v : Value} {d : DataW H} {p : List MemPlace}
    (hv : Value.okWide Try.prog W r b0 54 v) (h : DataW.Trod enc Try.prog W 0 (fun _ => true) true 54 v d p) : ∃ (c f t : Int), v = .agg #[.int .i64 c, .int .i64 f, .int .i64 t] := by
  have cI : Try.prog.cellsOf 3 = 1 := by kernel_rfl
  have cB : Try.prog.cellsOf 4 = 1 := by kernel_rfl
  have cS : Try.prog.cellsOf 9 = 1 := by kernel_rfl
  have c1 : Try.prog.cellsOf 22 = 1 := by kernel_rfl
  have c2 : Try.prog.cellsOf 42 = 1 := by kernel_rfl
  have cF : Try.prog.cellsOf 54 = 3 := by kernel_rfl
  obtain ⟨cs, rfl, hsz⟩ := okWide_struct Try.underlying54 hv
  obtain ⟨l⟩ := cs
  match l, hsz.trans cF with
  | [x0, x1, x2], _ =>
    obtain ⟨fuel, hf0⟩ := h
    obtain ⟨xs, m', _, hx, _, hl, hf⟩ := DataW.trod_struct Try.underlying54 hf0
    match xs, hl with
    | [y0, y1, y2], _ =>
      have f0 := hf 0 _ rfl
      have f1 := hf 1 _ rfl
      have f2 := hf 2 _ rfl
      simp [Value.cells, cI] at f0 f1 f2
      obtain ⟨b0, q0, _, _⟩ := DataW.trod_int Try.underlying3 f0
      obtain ⟨b1, q1, _, _⟩ := DataW.trod_int Try.underlying3 f1
      obtain ⟨b2, q2, _, _⟩ := DataW.trod_int Try.underlying3 f2
      simp at q0 q1 q2
      subst q0 q1 q2
      exact ⟨b0, b1, b2, rfl⟩
theorem open_its {H : Type} {enc : TypeId × Value → H} {W : World} {r : Reach} {b0 : Nat} {v : Value} {d : DataW H} {p : List MemPlace}
    (hv : Value.okWide Try.prog W r b0 42 v) (h : DataW.Trod enc Try.prog W 0 (fun _ => true) true 42 v d p) : ∃ l : List Int, Its W v l := by
  obtain ⟨l, h1, h2⟩ := open_rowsZ (fun s : Int => [Value.int .i64 s]) 1 (fun _ => rfl) Try.underlying42 (by kernel_rfl) (fun n cs x hx => by
    obtain ⟨s, e0, _, _⟩ := DataW.trod_int Try.underlying3 hx
    exact ⟨s, by simpa using e0⟩) hv h
  rw [flatMap_one] at h1
  exact ⟨l, h1, h2⟩
theorem open_sts {H : Type} {enc : TypeId × Value → H} {W : World} {r : Reach} {b0 : Nat} {v : Value} {d : DataW H} {p : List MemPlace}
    (hv : Value.okWide Try.prog W r b0 22 v) (h : DataW.Trod enc Try.prog W 0 (fun _ => true) true 22 v d p) : ∃ l : List ByteArray, l.length ≤ 9223372036854775807 ∧ Sts W v l := by
  obtain ⟨l, h1, h2⟩ := open_rowsZ (fun s : ByteArray => [Value.string s]) 1 (fun _ => rfl) Try.underlying22 (by kernel_rfl) (fun n cs x hx => by
    obtain ⟨s, e0, _, _⟩ := DataW.trod_string Try.underlying9 hx
    exact ⟨s, by simpa using e0⟩) hv h
  rw [flatMap_one] at h1
  obtain ⟨A, c, e, _⟩ := Sts.form ⟨h1, h2⟩
  exact ⟨l, by have := slice_bound Try.underlying22 hv _ _ _ e; omega, h1, h2⟩
theorem open_deedsT {H : Type} {enc : TypeId × Value → H} {W : World} {r : Reach} {b0 : Nat} {v : Value} {d : DataW H} {p : List MemPlace}
    (hv : Value.okWide Try.prog W r b0 49 v) (h : DataW.Trod enc Try.prog W 0 (fun _ => true) true 49 v d p) : ∃ l : List (Int × Int × Int), Dds W v l := by
  obtain ⟨l, h1, _⟩ := open_rowsZ (fun q : Int × Int × Int => [.int .i64 q.1, .int .i64 q.2.1, .int .i64 q.2.2]) 3 (fun _ => rfl) Try.underlying49 (by kernel_rfl) (fun n cs x hx => by
    have cI : Try.prog.cellsOf 3 = 1 := by kernel_rfl
    have cF : Try.prog.cellsOf 51 = 3 := by kernel_rfl
    obtain ⟨xs, m', _, _, hcl, hl, hf⟩ := DataW.trod_struct Try.underlying51 hx
    rw [cF] at hcl
    match cs, hcl with
    | [c0, c1, c2], _ =>
      match xs, hl with
      | [x0, x1, x2], _ =>
        have f0 := hf 0 _ rfl
        have f1 := hf 1 _ rfl
        have f2 := hf 2 _ rfl
        simp [cI] at f0 f1 f2
        obtain ⟨k, e0, _, _⟩ := DataW.trod_int Try.underlying3 f0
        obtain ⟨g, e1, _, _⟩ := DataW.trod_int Try.underlying3 f1
        obtain ⟨n, e2, _, _⟩ := DataW.trod_int Try.underlying3 f2
        simp at e0 e1 e2
        subst e0 e1 e2
        exact ⟨(k, g, n), rfl⟩) hv h
  exact ⟨l, h1⟩
end Go.Proofs.Ytigmlkfmgheegaa
