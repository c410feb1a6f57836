/-
  A memory management unit among the arguments, opened: its cells are those of sixteen pages. No condition.
-/
import Derived.Test.YtggnbfilkogcoaaProg
import Derived.Test.YtggnbfilkogcoaaMuP
import Derived.ProofKit
import Derived.LaidMore
import Derived.OpenShut
import Derived.Carry
import Derived.ChangeSame
import Derived.ChangeSlices
namespace Go.Proofs.Ytggnbfilkogcoaa
open Go.ChangeShapes Go.WideShapes Go.ChangeAt Go.RowKit
set_option linter.unusedSimpArgs false
set_option linter.unusedVariables false

def Pg.wf (p : Pg) : Prop := (Lit.int .i64 p.b).wf = true ∧ (Lit.int .i64 p.l).wf = true ∧ (Lit.int .i64 p.a).wf = true
theorem join_pages (Q : Pg → Prop) : ∀ (n : Nat) (cs : List Value), cs.length = 4 * n → (∀ k, k < n → ∃ p : Pg, (cs.drop (k * 4)).take 4 = p.L ∧ Q p) → ∃ l : List Pg, l.length = n ∧ cs = l.flatMap Pg.L ∧ ∀ p ∈ l, Q p
  | 0, cs, hl, _ => ⟨[], rfl, by simpa using hl, fun p h => by cases h⟩
  | n + 1, cs, hl, h => by
    obtain ⟨p, hp, hq⟩ := h 0 (by omega)
    obtain ⟨l, h1, h2, h3⟩ := join_pages Q n (cs.drop 4) (by rw [List.length_drop]; omega) (fun k hk => by
      obtain ⟨q, a, b⟩ := h (k + 1) (by omega)
      refine ⟨q, ?_, b⟩
      rw [List.drop_drop, show 4 + k * 4 = (k + 1) * 4 by omega]
      exact a)
    refine ⟨p :: l, by simp [h1], ?_, fun q hq' => ?_⟩
    · rw [List.flatMap_cons, ← h2, ← hp]
      simp
    · rcases List.mem_cons.1 hq' with rfl | e
      · exact hq
      · exact h3 q e
section
variable {H : Type} {enc : TypeId × Value → H} {w : World} {base : Nat} {sp : Nat → Bool} {held : Bool} {fuel : Nat} {cs : List Value} {x : DataW H × List MemPlace}
theorem open_page (h : DataW.trod enc Try.prog w base sp held fuel 23 cs = some x) : ∃ p : Pg, cs = p.L ∧ p.wf := by
  have cI : Try.prog.cellsOf 3 = 1 := by kernel_rfl
  have cB : Try.prog.cellsOf 4 = 1 := by kernel_rfl
  have cP : Try.prog.cellsOf 23 = 4 := by kernel_rfl
  obtain ⟨xs, m', _, hx, hc, hl, hf⟩ := DataW.trod_struct Try.underlying23 h
  match cs, hc.trans cP with
  | [c0, c1, c2, c3], _ =>
    match xs, hl with
    | [x0, x1, x2, x3], _ =>
      have f0 := hf 0 _ rfl
      have f1 := hf 1 _ rfl
      have f2 := hf 2 _ rfl
      have f3 := hf 3 _ rfl
      simp [cI, cB] at f0 f1 f2 f3
      obtain ⟨b, e0, _, w0⟩ := DataW.trod_int Try.underlying3 f0
      obtain ⟨l, e1, _, w1⟩ := DataW.trod_int Try.underlying3 f1
      obtain ⟨a, e2, _, w2⟩ := DataW.trod_int Try.underlying3 f2
      obtain ⟨r, e3, _⟩ := DataW.trod_bool Try.underlying4 f3
      simp at e0 e1 e2 e3
      subst e0 e1 e2 e3
      exact ⟨⟨b, l, a, r⟩, rfl, w0, w1, w2⟩
theorem open_mode (h : DataW.trod enc Try.prog w base sp held fuel 24 cs = some x) : ∃ l : List Pg, l.length = 8 ∧ cs = l.flatMap Pg.L ∧ ∀ p ∈ l, p.wf := by
  have cP : Try.prog.cellsOf 23 = 4 := by kernel_rfl
  have cM : Try.prog.cellsOf 24 = 32 := by kernel_rfl
  obtain ⟨xs, m, _, _, hc, hl, hel⟩ := DataW.trod_array Try.underlying24 h
  rw [cM] at hc
  refine join_pages Pg.wf 8 cs hc (fun k hk => ?_)
  have e := hel k hk
  rw [cP, List.getElem?_eq_getElem (by omega)] at e
  exact open_page e
theorem open_pages (h : DataW.trod enc Try.prog w base sp held fuel 25 cs = some x) : ∃ l : List Pg, l.length = 16 ∧ cs = l.flatMap Pg.L ∧ ∀ p ∈ l, p.wf := by
  have cM : Try.prog.cellsOf 24 = 32 := by kernel_rfl
  have cA : Try.prog.cellsOf 25 = 64 := by kernel_rfl
  obtain ⟨xs, m, _, _, hc, hl, hel⟩ := DataW.trod_array Try.underlying25 h
  rw [cA] at hc
  have e0 := hel 0 (by decide)
  have e1 := hel 1 (by decide)
  rw [cM, List.getElem?_eq_getElem (by omega)] at e0 e1
  obtain ⟨l0, a0, b0, c0⟩ := open_mode e0
  obtain ⟨l1, a1, b1, c1⟩ := open_mode e1
  refine ⟨l0 ++ l1, by rw [List.length_append, a0, a1], ?_, fun p hp => ?_⟩
  · rw [List.flatMap_append, ← b0, ← b1]
    simp only [Nat.zero_mul, List.drop_zero, Nat.one_mul]
    rw [List.take_of_length_le (l := cs.drop 32) (by rw [List.length_drop]; omega), List.take_append_drop]
  · rcases List.mem_append.1 hp with k | k
    · exact c0 p k
    · exact c1 p k
def Un.wf (u : Un) : Prop := u.ok ∧ (∀ p ∈ u.pg, p.wf) ∧ (Lit.int .i64 u.st).wf = true ∧ (Lit.int .i64 u.ad).wf = true
theorem open_unit (h : DataW.trod enc Try.prog w base sp held fuel 27 cs = some x) : ∃ u : Un, cs = u.L ∧ u.wf := by
  have cI : Try.prog.cellsOf 3 = 1 := by kernel_rfl
  have cB : Try.prog.cellsOf 4 = 1 := by kernel_rfl
  have cA : Try.prog.cellsOf 25 = 64 := by kernel_rfl
  have cU : Try.prog.cellsOf 27 = 67 := by kernel_rfl
  obtain ⟨xs, m', _, hx, hc, hl, hf⟩ := DataW.trod_struct Try.underlying27 h
  rw [cU] at hc
  match xs, hl with
  | [x0, x1, x2, x3], _ =>
    have f0 : DataW.trod enc Try.prog w base sp held m' 4 ((cs.drop 0).take (Try.prog.cellsOf 4)) = some x0 := hf 0 _ rfl
    have f1 : DataW.trod enc Try.prog w base sp held m' 25 ((cs.drop 1).take (Try.prog.cellsOf 25)) = some x1 := hf 1 _ rfl
    have f2 : DataW.trod enc Try.prog w base sp held m' 3 ((cs.drop 65).take (Try.prog.cellsOf 3)) = some x2 := hf 2 _ rfl
    have f3 : DataW.trod enc Try.prog w base sp held m' 3 ((cs.drop 66).take (Try.prog.cellsOf 3)) = some x3 := hf 3 _ rfl
    rw [cB] at f0
    rw [cA] at f1
    rw [cI] at f2 f3
    obtain ⟨on, e0, _⟩ := DataW.trod_bool Try.underlying4 f0
    obtain ⟨l, a1, b1, c1⟩ := open_pages f1
    obtain ⟨st, e2, _, w2⟩ := DataW.trod_int Try.underlying3 f2
    obtain ⟨ad, e3, _, w3⟩ := DataW.trod_int Try.underlying3 f3
    refine ⟨⟨on, l, st, ad⟩, ?_, a1, c1, w2, w3⟩
    unfold Un.L
    simp only
    rw [← b1]
    have s3 : (cs.drop 66).take 1 = cs.drop 66 := List.take_of_length_le (by rw [List.length_drop]; omega)
    have s2 : cs.drop 65 = (cs.drop 65).take 1 ++ cs.drop 66 := by
      have := List.take_append_drop 1 (cs.drop 65)
      rw [List.drop_drop] at this
      exact this.symm
    have s1 : cs.drop 1 = (cs.drop 1).take 64 ++ cs.drop 65 := by
      have := List.take_append_drop 64 (cs.drop 1)
      rw [List.drop_drop] at this
      exact this.symm
    have s0 : cs = (cs.drop 0).take 1 ++ cs.drop 1 := by
      rw [List.drop_zero]; exact (List.take_append_drop 1 cs).symm
    rw [e0] at s0
    rw [e2, ← s3, e3] at s2
    rw [s2] at s1
    generalize (cs.drop 1).take 64 = mid at *
    rw [s1] at s0
    exact s0
end
end Go.Proofs.Ytggnbfilkogcoaa
