/-
  Walks over Valid, Length, Ends and Privileged of package inst, and over the first word of an instruction. Condition: the tables read as the program's text lays them.
-/
import Derived.Test.YtipaednpelapgaaDoorInI
namespace Go.Proofs.YtipaednpelapgaaDoor
open Go.RowKit
set_option linter.unusedSimpArgs false
set_option linter.unusedVariables false
set_option maxHeartbeats 40000000
set_option maxRecDepth 100000
attribute [local irreducible] wpQuiet

def lenR (i : In) : Int := if vR i = true then nR i else 0
def endR (i : In) : Bool := vR i && (leR i.o || ccR i)
def prR (i : In) : Bool := decide (50 ≤ i.o ∧ i.o ≤ 52) && vR i
theorem formR_mem {o : Int} {e : Row} (h : formR o = some e) : e ∈ rows := List.mem_of_find?_eq_some h
theorem vR_some {i : In} {e : Row} (h : formR i.o = some e) : vR i = (hoR e i && !fbR i) := by unfold vR; rw [h]
theorem vR_none {i : In} (h : formR i.o = none) : vR i = false := by unfold vR; rw [h]
theorem fo_some {o : Int} {e : Row} (h : formR o = some e) {A : Addr} {c : Nat} (w : World) (W : Frm A c w) : Calls Tryd.prog 46 #[.int .i64 o] w fun e' w' => e' = .returned (.tuple #[.agg #[.int .i64 e.f, .int .i64 e.l, .int .i64 e.d, .int .i64 e.a, .int .i64 e.e0, .int .i64 e.e1, .int .i64 e.e2, .int .i64 e.e3, .int .i64 e.e4, .int .i64 e.e5], .bool true]) ∧ Below w.heap.size w w' := formOf_any o (some e) h w W
theorem fo_none {o : Int} (h : formR o = none) {A : Addr} {c : Nat} (w : World) (W : Frm A c w) : Calls Tryd.prog 46 #[.int .i64 o] w fun e' w' => e' = .returned (.tuple #[.agg #[.int .i64 0, .int .i64 0, .int .i64 0, .int .i64 0, .int .i64 0, .int .i64 0, .int .i64 0, .int .i64 0, .int .i64 0, .int .i64 0], .bool false]) ∧ Below w.heap.size w w' := formOf_any o none h w W
theorem valid_row {e : Row} (o : Int) (b : Bool) (m r x p q y g n : Int) (h : formR o = some e) {A : Addr} {c : Nat} (w : World) (W : Frm A c w) : Calls Tryd.prog 47 #[.agg #[.int .i64 o, .bool b, .int .i64 m, .int .i64 r, .int .i64 x, .int .i64 p, .int .i64 q, .int .i64 y, .int .i64 g, .int .i64 n], .agg #[.int .i64 e.f, .int .i64 e.l, .int .i64 e.d, .int .i64 e.a, .int .i64 e.e0, .int .i64 e.e1, .int .i64 e.e2, .int .i64 e.e3, .int .i64 e.e4, .int .i64 e.e5]] w fun e w' => e = .returned (.bool (vR ⟨o, b, m, r, x, p, q, y, g, n⟩)) ∧ Below w.heap.size w w' := by
  have ok := row_ok (formR_mem h)
  rw [vR_some (i := ⟨o, b, m, r, x, p, q, y, g, n⟩) h]
  exact instvalid_any e.f e.l e.d e.a e.e0 e.e1 e.e2 e.e3 e.e4 e.e5 ok.e3 ok.e4b ok.e5 o b m r x p q y g n w W

theorem Valid_any (o : Int) (b : Bool) (m r x p q y g n : Int) {A : Addr} {c : Nat} (W0 : World) (W : Frm A c W0) : Calls Tryd.prog 27 #[.agg #[.int .i64 o, .bool b, .int .i64 m, .int .i64 r, .int .i64 x, .int .i64 p, .int .i64 q, .int .i64 y, .int .i64 g, .int .i64 n]] W0 fun e w' => e = .returned (.bool (vR ⟨o, b, m, r, x, p, q, y, g, n⟩)) ∧ Below W0.heap.size W0 w' := by
  have hX := (St.start W).put [.int .i64 o, .bool b, .int .i64 m, .int .i64 r, .int .i64 x, .int .i64 p, .int .i64 q, .int .i64 y, .int .i64 g, .int .i64 n] 33
  cases hF : formR o with
  | none =>
    have hf := fun w (k : Frm A c w) => fo_none hF w k
    rw [vR_none (i := ⟨o, b, m, r, x, p, q, y, g, n⟩) hF]
    go_enter Tryd.func27, Tryd.ntmps27
    go_wp2_with fail
    obtain ⟨i0, i1, i2, i3, i4, i5, i6, i7, i8, i9⟩ := hX.ten 0 rfl
    generalize W0.alloc (.cells #[.int .i64 o, .bool b, .int .i64 m, .int .i64 r, .int .i64 x, .int .i64 p, .int .i64 q, .int .i64 y, .int .i64 g, .int .i64 n] 33) = w1 at *
    generalize hBB : W0.heap.size = B at hX i0 i1 i2 i3 i4 i5 i6 i7 i8 i9 ⊢
    go_wp2_with (first | (go_at_call 46; with_reducible refine (hf _ hX.frm).mono ?_; rintro _ w' ⟨rfl, hb⟩; have hX := (hX.step hb).put [.int .i64 0, .int .i64 0, .int .i64 0, .int .i64 0, .int .i64 0, .int .i64 0, .int .i64 0, .int .i64 0, .int .i64 0, .int .i64 0] 71; clear hb; obtain ⟨i0, i1, i2, i3, i4, i5, i6, i7, i8, i9⟩ := hX.ten 1 rfl; obtain ⟨c0, c1, c2, c3, c4, c5, c6, c7, c8, c9⟩ := hX.ten 0 rfl))
    go_ret
    exact ⟨rfl, by first | exact hX.below | exact hBB ▸ hX.below⟩
  | some e =>
    have hf := fun w (k : Frm A c w) => fo_some hF w k
    have hv := fun w (k : Frm A c w) => valid_row (e := e) o b m r x p q y g n hF w k
    generalize vR ⟨o, b, m, r, x, p, q, y, g, n⟩ = VV at *
    go_enter Tryd.func27, Tryd.ntmps27
    go_wp2_with fail
    obtain ⟨i0, i1, i2, i3, i4, i5, i6, i7, i8, i9⟩ := hX.ten 0 rfl
    generalize W0.alloc (.cells #[.int .i64 o, .bool b, .int .i64 m, .int .i64 r, .int .i64 x, .int .i64 p, .int .i64 q, .int .i64 y, .int .i64 g, .int .i64 n] 33) = w1 at *
    generalize hBB : W0.heap.size = B at hX i0 i1 i2 i3 i4 i5 i6 i7 i8 i9 ⊢
    go_wp2_with (first | (go_at_call 46; with_reducible refine (hf _ hX.frm).mono ?_; rintro _ w' ⟨rfl, hb⟩; have hX := (hX.step hb).put [.int .i64 e.f, .int .i64 e.l, .int .i64 e.d, .int .i64 e.a, .int .i64 e.e0, .int .i64 e.e1, .int .i64 e.e2, .int .i64 e.e3, .int .i64 e.e4, .int .i64 e.e5] 71; clear hb; obtain ⟨i0, i1, i2, i3, i4, i5, i6, i7, i8, i9⟩ := hX.ten 1 rfl; obtain ⟨c0, c1, c2, c3, c4, c5, c6, c7, c8, c9⟩ := hX.ten 0 rfl) | (go_at_call 47; with_reducible refine (hv _ hX.frm).mono ?_; rintro _ w' ⟨rfl, hb⟩; have hX := hX.step hb; clear hb))
    go_ret
    exact ⟨rfl, by first | exact hX.below | exact hBB ▸ hX.below⟩

theorem Length_any (o : Int) (b : Bool) (m r x p q y g n : Int) {A : Addr} {c : Nat} (W0 : World) (W : Frm A c W0) : Calls Tryd.prog 68 #[.agg #[.int .i64 o, .bool b, .int .i64 m, .int .i64 r, .int .i64 x, .int .i64 p, .int .i64 q, .int .i64 y, .int .i64 g, .int .i64 n]] W0 fun e w' => e = .returned (.int .i64 (lenR ⟨o, b, m, r, x, p, q, y, g, n⟩)) ∧ Below W0.heap.size W0 w' := by
  have hX := (St.start W).put [.int .i64 o, .bool b, .int .i64 m, .int .i64 r, .int .i64 x, .int .i64 p, .int .i64 q, .int .i64 y, .int .i64 g, .int .i64 n] 33
  have hv := fun w (k : Frm A c w) => Valid_any o b m r x p q y g n w k
  have hw := fun w (k : Frm A c w) => words_any o b m r x p q y g n w k
  unfold lenR
  generalize vR ⟨o, b, m, r, x, p, q, y, g, n⟩ = VV at *
  generalize nR ⟨o, b, m, r, x, p, q, y, g, n⟩ = NN at *
  cases VV
  · rw [if_neg (by decide)]
    go_enter Tryd.func68, Tryd.ntmps68
    go_wp2_with fail
    obtain ⟨i0, i1, i2, i3, i4, i5, i6, i7, i8, i9⟩ := hX.ten 0 rfl
    generalize W0.alloc (.cells #[.int .i64 o, .bool b, .int .i64 m, .int .i64 r, .int .i64 x, .int .i64 p, .int .i64 q, .int .i64 y, .int .i64 g, .int .i64 n] 33) = w1 at *
    generalize hBB : W0.heap.size = B at hX i0 i1 i2 i3 i4 i5 i6 i7 i8 i9 ⊢
    go_wp2_with (first | (go_at_call 27; with_reducible refine (hv _ hX.frm).mono ?_; rintro e w' ⟨rfl, hb⟩; have hX := hX.step hb; obtain ⟨i0, i1, i2, i3, i4, i5, i6, i7, i8, i9⟩ := hX.ten 0 rfl; clear hb))
    go_ret
    exact ⟨rfl, by first | exact hX.below | exact hBB ▸ hX.below⟩
  · rw [if_pos rfl]
    go_enter Tryd.func68, Tryd.ntmps68
    go_wp2_with fail
    obtain ⟨i0, i1, i2, i3, i4, i5, i6, i7, i8, i9⟩ := hX.ten 0 rfl
    generalize W0.alloc (.cells #[.int .i64 o, .bool b, .int .i64 m, .int .i64 r, .int .i64 x, .int .i64 p, .int .i64 q, .int .i64 y, .int .i64 g, .int .i64 n] 33) = w1 at *
    generalize hBB : W0.heap.size = B at hX i0 i1 i2 i3 i4 i5 i6 i7 i8 i9 ⊢
    go_wp2_with (first | (go_at_call 27; with_reducible refine (hv _ hX.frm).mono ?_; rintro e w' ⟨rfl, hb⟩; have hX := hX.step hb; obtain ⟨i0, i1, i2, i3, i4, i5, i6, i7, i8, i9⟩ := hX.ten 0 rfl; clear hb) | (go_at_call 73; with_reducible refine (hw _ hX.frm).mono ?_; rintro e w' ⟨rfl, hb⟩; have hX := hX.step hb; obtain ⟨i0, i1, i2, i3, i4, i5, i6, i7, i8, i9⟩ := hX.ten 0 rfl; clear hb))
    go_ret
    exact ⟨rfl, by first | exact hX.below | exact hBB ▸ hX.below⟩

end Go.Proofs.YtipaednpelapgaaDoor
