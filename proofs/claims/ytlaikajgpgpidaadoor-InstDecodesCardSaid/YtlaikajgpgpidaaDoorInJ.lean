/-
  Walks over Valid, Length, Ends and Privileged of package inst, and over the first word of an instruction. Condition: the tables read as the program's text lays them.
-/
import Derived.Test.YtlaikajgpgpidaaDoorInI
namespace Go.Proofs.YtlaikajgpgpidaaDoor
open Go.RowKit
set_option linter.unusedSimpArgs false
set_option linter.unusedVariables false
set_option maxHeartbeats 1000000
set_option maxRecDepth 100000
attribute [local irreducible] wpQuiet

def lenR (i : In) : Int := if vR i = true then nR i else 0
def endR (i : In) : Bool := vR i && (leR i.o || ccR i)
def prR (i : In) : Bool := decide (50 ≤ i.o ∧ i.o ≤ 52) && vR i
theorem formR_mem {o : Int} {e : Row} (h : formR o = some e) : e ∈ rows := List.mem_of_find?_eq_some h
theorem vR_some {i : In} {e : Row} (h : formR i.o = some e) : vR i = (hoR e i && !fbR i) := by unfold vR; rw [h]
theorem vR_none {i : In} (h : formR i.o = none) : vR i = false := by unfold vR; rw [h]
theorem fo_some {o : Int} {e : Row} (h : formR o = some e) {A : Addr} {c : Nat} (w : World) (W : Frm A c w) : Calls Tryd.prog 31 #[.int .i64 o] w fun e' w' => e' = .returned (.tuple #[.agg #[.int .i64 e.f, .int .i64 e.l, .int .i64 e.d, .int .i64 e.a, .int .i64 e.e0, .int .i64 e.e1, .int .i64 e.e2, .int .i64 e.e3, .int .i64 e.e4, .int .i64 e.e5], .bool true]) ∧ Below w.heap.size w w' := formOf_any o (some e) h w W
theorem fo_none {o : Int} (h : formR o = none) {A : Addr} {c : Nat} (w : World) (W : Frm A c w) : Calls Tryd.prog 31 #[.int .i64 o] w fun e' w' => e' = .returned (.tuple #[.agg #[.int .i64 0, .int .i64 0, .int .i64 0, .int .i64 0, .int .i64 0, .int .i64 0, .int .i64 0, .int .i64 0, .int .i64 0, .int .i64 0], .bool false]) ∧ Below w.heap.size w w' := formOf_any o none h w W
theorem valid_row {e : Row} (o : Int) (b : Bool) (m r x p q y g n : Int) (h : formR o = some e) {A : Addr} {c : Nat} (w : World) (W : Frm A c w) : Calls Tryd.prog 25 #[.agg #[.int .i64 o, .bool b, .int .i64 m, .int .i64 r, .int .i64 x, .int .i64 p, .int .i64 q, .int .i64 y, .int .i64 g, .int .i64 n], .agg #[.int .i64 e.f, .int .i64 e.l, .int .i64 e.d, .int .i64 e.a, .int .i64 e.e0, .int .i64 e.e1, .int .i64 e.e2, .int .i64 e.e3, .int .i64 e.e4, .int .i64 e.e5]] w fun e w' => e = .returned (.bool (vR ⟨o, b, m, r, x, p, q, y, g, n⟩)) ∧ Below w.heap.size w w' := by
  have ok := row_ok (formR_mem h)
  rw [vR_some (i := ⟨o, b, m, r, x, p, q, y, g, n⟩) h]
  exact instvalid_any e.f e.l e.d e.a e.e0 e.e1 e.e2 e.e3 e.e4 e.e5 ok.e3 ok.e4b ok.e5 o b m r x p q y g n w W

theorem Valid_any (o : Int) (b : Bool) (m r x p q y g n : Int) {A : Addr} {c : Nat} (W0 : World) (W : Frm A c W0) : Calls Tryd.prog 14 #[.agg #[.int .i64 o, .bool b, .int .i64 m, .int .i64 r, .int .i64 x, .int .i64 p, .int .i64 q, .int .i64 y, .int .i64 g, .int .i64 n]] W0 fun e w' => e = .returned (.bool (vR ⟨o, b, m, r, x, p, q, y, g, n⟩)) ∧ Below W0.heap.size W0 w' := by
  have hX := (St.start W).put [.int .i64 o, .bool b, .int .i64 m, .int .i64 r, .int .i64 x, .int .i64 p, .int .i64 q, .int .i64 y, .int .i64 g, .int .i64 n] 28
  cases hF : formR o with
  | none =>
    have hf := fun w (k : Frm A c w) => fo_none hF w k
    rw [vR_none (i := ⟨o, b, m, r, x, p, q, y, g, n⟩) hF]
    go_enter Tryd.func14, Tryd.ntmps14
    go_wp2_with fail
    have i0 := hX.c 0 0 rfl rfl; have i1 := hX.c 0 1 rfl rfl; have i2 := hX.c 0 2 rfl rfl; have i3 := hX.c 0 3 rfl rfl; have i4 := hX.c 0 4 rfl rfl; have i5 := hX.c 0 5 rfl rfl; have i6 := hX.c 0 6 rfl rfl; have i7 := hX.c 0 7 rfl rfl; have i8 := hX.c 0 8 rfl rfl; have i9 := hX.c 0 9 rfl rfl
    generalize W0.alloc (.cells #[.int .i64 o, .bool b, .int .i64 m, .int .i64 r, .int .i64 x, .int .i64 p, .int .i64 q, .int .i64 y, .int .i64 g, .int .i64 n] 28) = w1 at *
    generalize hBB : W0.heap.size = B at hX i0 i1 i2 i3 i4 i5 i6 i7 i8 i9 ⊢
    go_wp2_with (first | (go_at_call 31; with_reducible refine (hf _ hX.frm).mono ?_; rintro _ w' ⟨rfl, hb⟩; have hX := (hX.step hb).put [.int .i64 0, .int .i64 0, .int .i64 0, .int .i64 0, .int .i64 0, .int .i64 0, .int .i64 0, .int .i64 0, .int .i64 0, .int .i64 0] 45; clear hb; have i0 := hX.c 1 0 rfl rfl; have i1 := hX.c 1 1 rfl rfl; have i2 := hX.c 1 2 rfl rfl; have i3 := hX.c 1 3 rfl rfl; have i4 := hX.c 1 4 rfl rfl; have i5 := hX.c 1 5 rfl rfl; have i6 := hX.c 1 6 rfl rfl; have i7 := hX.c 1 7 rfl rfl; have i8 := hX.c 1 8 rfl rfl; have i9 := hX.c 1 9 rfl rfl; have c0 := hX.c 0 0 rfl rfl; have c1 := hX.c 0 1 rfl rfl; have c2 := hX.c 0 2 rfl rfl; have c3 := hX.c 0 3 rfl rfl; have c4 := hX.c 0 4 rfl rfl; have c5 := hX.c 0 5 rfl rfl; have c6 := hX.c 0 6 rfl rfl; have c7 := hX.c 0 7 rfl rfl; have c8 := hX.c 0 8 rfl rfl; have c9 := hX.c 0 9 rfl rfl))
    go_ret
    exact ⟨rfl, by first | exact hX.below | exact hBB ▸ hX.below⟩
  | some e =>
    have hf := fun w (k : Frm A c w) => fo_some hF w k
    have hv := fun w (k : Frm A c w) => valid_row (e := e) o b m r x p q y g n hF w k
    generalize vR ⟨o, b, m, r, x, p, q, y, g, n⟩ = VV at *
    go_enter Tryd.func14, Tryd.ntmps14
    go_wp2_with fail
    have i0 := hX.c 0 0 rfl rfl; have i1 := hX.c 0 1 rfl rfl; have i2 := hX.c 0 2 rfl rfl; have i3 := hX.c 0 3 rfl rfl; have i4 := hX.c 0 4 rfl rfl; have i5 := hX.c 0 5 rfl rfl; have i6 := hX.c 0 6 rfl rfl; have i7 := hX.c 0 7 rfl rfl; have i8 := hX.c 0 8 rfl rfl; have i9 := hX.c 0 9 rfl rfl
    generalize W0.alloc (.cells #[.int .i64 o, .bool b, .int .i64 m, .int .i64 r, .int .i64 x, .int .i64 p, .int .i64 q, .int .i64 y, .int .i64 g, .int .i64 n] 28) = w1 at *
    generalize hBB : W0.heap.size = B at hX i0 i1 i2 i3 i4 i5 i6 i7 i8 i9 ⊢
    go_wp2_with (first | (go_at_call 31; with_reducible refine (hf _ hX.frm).mono ?_; rintro _ w' ⟨rfl, hb⟩; have hX := (hX.step hb).put [.int .i64 e.f, .int .i64 e.l, .int .i64 e.d, .int .i64 e.a, .int .i64 e.e0, .int .i64 e.e1, .int .i64 e.e2, .int .i64 e.e3, .int .i64 e.e4, .int .i64 e.e5] 45; clear hb; have i0 := hX.c 1 0 rfl rfl; have i1 := hX.c 1 1 rfl rfl; have i2 := hX.c 1 2 rfl rfl; have i3 := hX.c 1 3 rfl rfl; have i4 := hX.c 1 4 rfl rfl; have i5 := hX.c 1 5 rfl rfl; have i6 := hX.c 1 6 rfl rfl; have i7 := hX.c 1 7 rfl rfl; have i8 := hX.c 1 8 rfl rfl; have i9 := hX.c 1 9 rfl rfl; have c0 := hX.c 0 0 rfl rfl; have c1 := hX.c 0 1 rfl rfl; have c2 := hX.c 0 2 rfl rfl; have c3 := hX.c 0 3 rfl rfl; have c4 := hX.c 0 4 rfl rfl; have c5 := hX.c 0 5 rfl rfl; have c6 := hX.c 0 6 rfl rfl; have c7 := hX.c 0 7 rfl rfl; have c8 := hX.c 0 8 rfl rfl; have c9 := hX.c 0 9 rfl rfl) | (go_at_call 25; with_reducible refine (hv _ hX.frm).mono ?_; rintro _ w' ⟨rfl, hb⟩; have hX := hX.step hb; clear hb))
    go_ret
    exact ⟨rfl, by first | exact hX.below | exact hBB ▸ hX.below⟩

theorem Length_any (o : Int) (b : Bool) (m r x p q y g n : Int) {A : Addr} {c : Nat} (W0 : World) (W : Frm A c W0) : Calls Tryd.prog 16 #[.agg #[.int .i64 o, .bool b, .int .i64 m, .int .i64 r, .int .i64 x, .int .i64 p, .int .i64 q, .int .i64 y, .int .i64 g, .int .i64 n]] W0 fun e w' => e = .returned (.int .i64 (lenR ⟨o, b, m, r, x, p, q, y, g, n⟩)) ∧ Below W0.heap.size W0 w' := by
  have hX := (St.start W).put [.int .i64 o, .bool b, .int .i64 m, .int .i64 r, .int .i64 x, .int .i64 p, .int .i64 q, .int .i64 y, .int .i64 g, .int .i64 n] 28
  have hv := fun w (k : Frm A c w) => Valid_any o b m r x p q y g n w k
  have hw := fun w (k : Frm A c w) => words_any o b m r x p q y g n w k
  unfold lenR
  generalize vR ⟨o, b, m, r, x, p, q, y, g, n⟩ = VV at *
  generalize nR ⟨o, b, m, r, x, p, q, y, g, n⟩ = NN at *
  cases VV
  · rw [if_neg (by decide)]
    go_enter Tryd.func16, Tryd.ntmps16
    go_wp2_with fail
    have i0 := hX.c 0 0 rfl rfl; have i1 := hX.c 0 1 rfl rfl; have i2 := hX.c 0 2 rfl rfl; have i3 := hX.c 0 3 rfl rfl; have i4 := hX.c 0 4 rfl rfl; have i5 := hX.c 0 5 rfl rfl; have i6 := hX.c 0 6 rfl rfl; have i7 := hX.c 0 7 rfl rfl; have i8 := hX.c 0 8 rfl rfl; have i9 := hX.c 0 9 rfl rfl
    generalize W0.alloc (.cells #[.int .i64 o, .bool b, .int .i64 m, .int .i64 r, .int .i64 x, .int .i64 p, .int .i64 q, .int .i64 y, .int .i64 g, .int .i64 n] 28) = w1 at *
    generalize hBB : W0.heap.size = B at hX i0 i1 i2 i3 i4 i5 i6 i7 i8 i9 ⊢
    go_wp2_with (first | (go_at_call 14; with_reducible refine (hv _ hX.frm).mono ?_; rintro e w' ⟨rfl, hb⟩; have hX := hX.step hb; have i0 := hX.c 0 0 rfl rfl; have i1 := hX.c 0 1 rfl rfl; have i2 := hX.c 0 2 rfl rfl; have i3 := hX.c 0 3 rfl rfl; have i4 := hX.c 0 4 rfl rfl; have i5 := hX.c 0 5 rfl rfl; have i6 := hX.c 0 6 rfl rfl; have i7 := hX.c 0 7 rfl rfl; have i8 := hX.c 0 8 rfl rfl; have i9 := hX.c 0 9 rfl rfl; clear hb))
    go_ret
    exact ⟨rfl, by first | exact hX.below | exact hBB ▸ hX.below⟩
  · rw [if_pos rfl]
    go_enter Tryd.func16, Tryd.ntmps16
    go_wp2_with fail
    have i0 := hX.c 0 0 rfl rfl; have i1 := hX.c 0 1 rfl rfl; have i2 := hX.c 0 2 rfl rfl; have i3 := hX.c 0 3 rfl rfl; have i4 := hX.c 0 4 rfl rfl; have i5 := hX.c 0 5 rfl rfl; have i6 := hX.c 0 6 rfl rfl; have i7 := hX.c 0 7 rfl rfl; have i8 := hX.c 0 8 rfl rfl; have i9 := hX.c 0 9 rfl rfl
    generalize W0.alloc (.cells #[.int .i64 o, .bool b, .int .i64 m, .int .i64 r, .int .i64 x, .int .i64 p, .int .i64 q, .int .i64 y, .int .i64 g, .int .i64 n] 28) = w1 at *
    generalize hBB : W0.heap.size = B at hX i0 i1 i2 i3 i4 i5 i6 i7 i8 i9 ⊢
    go_wp2_with (first | (go_at_call 14; with_reducible refine (hv _ hX.frm).mono ?_; rintro e w' ⟨rfl, hb⟩; have hX := hX.step hb; have i0 := hX.c 0 0 rfl rfl; have i1 := hX.c 0 1 rfl rfl; have i2 := hX.c 0 2 rfl rfl; have i3 := hX.c 0 3 rfl rfl; have i4 := hX.c 0 4 rfl rfl; have i5 := hX.c 0 5 rfl rfl; have i6 := hX.c 0 6 rfl rfl; have i7 := hX.c 0 7 rfl rfl; have i8 := hX.c 0 8 rfl rfl; have i9 := hX.c 0 9 rfl rfl; clear hb) | (go_at_call 23; with_reducible refine (hw _ hX.frm).mono ?_; rintro e w' ⟨rfl, hb⟩; have hX := hX.step hb; have i0 := hX.c 0 0 rfl rfl; have i1 := hX.c 0 1 rfl rfl; have i2 := hX.c 0 2 rfl rfl; have i3 := hX.c 0 3 rfl rfl; have i4 := hX.c 0 4 rfl rfl; have i5 := hX.c 0 5 rfl rfl; have i6 := hX.c 0 6 rfl rfl; have i7 := hX.c 0 7 rfl rfl; have i8 := hX.c 0 8 rfl rfl; have i9 := hX.c 0 9 rfl rfl; clear hb))
    go_ret
    exact ⟨rfl, by first | exact hX.below | exact hBB ▸ hX.below⟩

theorem Ends_any (o : Int) (b : Bool) (m r x p q y g n : Int) {A : Addr} {c : Nat} (W0 : World) (W : Frm A c W0) : Calls Tryd.prog 18 #[.agg #[.int .i64 o, .bool b, .int .i64 m, .int .i64 r, .int .i64 x, .int .i64 p, .int .i64 q, .int .i64 y, .int .i64 g, .int .i64 n]] W0 fun e w' => e = .returned (.bool (endR ⟨o, b, m, r, x, p, q, y, g, n⟩)) ∧ Below W0.heap.size W0 w' := by
  have hX := (St.start W).put [.int .i64 o, .bool b, .int .i64 m, .int .i64 r, .int .i64 x, .int .i64 p, .int .i64 q, .int .i64 y, .int .i64 g, .int .i64 n] 28
  have hv := fun w (k : Frm A c w) => Valid_any o b m r x p q y g n w k
  have hl := fun w => leaves_any o w
  have hc := fun w => changes_any o b m r x p q y g n w
  have e : endR ⟨o, b, m, r, x, p, q, y, g, n⟩ = (vR ⟨o, b, m, r, x, p, q, y, g, n⟩ && (leR o || ccR ⟨o, b, m, r, x, p, q, y, g, n⟩)) := rfl
  rw [e]
  clear e
  generalize vR ⟨o, b, m, r, x, p, q, y, g, n⟩ = VV at *
  generalize leR o = LL at *
  generalize ccR ⟨o, b, m, r, x, p, q, y, g, n⟩ = CC at *
  cases VV
  all_goals
    cases LL
  all_goals
    go_enter Tryd.func18, Tryd.ntmps18
    go_wp2_with fail
    have i0 := hX.c 0 0 rfl rfl; have i1 := hX.c 0 1 rfl rfl; have i2 := hX.c 0 2 rfl rfl; have i3 := hX.c 0 3 rfl rfl; have i4 := hX.c 0 4 rfl rfl; have i5 := hX.c 0 5 rfl rfl; have i6 := hX.c 0 6 rfl rfl; have i7 := hX.c 0 7 rfl rfl; have i8 := hX.c 0 8 rfl rfl; have i9 := hX.c 0 9 rfl rfl
    generalize W0.alloc (.cells #[.int .i64 o, .bool b, .int .i64 m, .int .i64 r, .int .i64 x, .int .i64 p, .int .i64 q, .int .i64 y, .int .i64 g, .int .i64 n] 28) = w1 at *
    generalize hBB : W0.heap.size = B at hX i0 i1 i2 i3 i4 i5 i6 i7 i8 i9 ⊢
    go_wp2_with (first | (go_at_call 14; with_reducible refine (hv _ hX.frm).mono ?_; rintro e w' ⟨rfl, hb⟩; have hX := hX.step hb; have i0 := hX.c 0 0 rfl rfl; have i1 := hX.c 0 1 rfl rfl; have i2 := hX.c 0 2 rfl rfl; have i3 := hX.c 0 3 rfl rfl; have i4 := hX.c 0 4 rfl rfl; have i5 := hX.c 0 5 rfl rfl; have i6 := hX.c 0 6 rfl rfl; have i7 := hX.c 0 7 rfl rfl; have i8 := hX.c 0 8 rfl rfl; have i9 := hX.c 0 9 rfl rfl; clear hb) | (go_at_call 40; with_reducible refine (hl _).mono ?_; rintro e w' ⟨rfl, hb⟩; have hX := hX.step hb; have i0 := hX.c 0 0 rfl rfl; have i1 := hX.c 0 1 rfl rfl; have i2 := hX.c 0 2 rfl rfl; have i3 := hX.c 0 3 rfl rfl; have i4 := hX.c 0 4 rfl rfl; have i5 := hX.c 0 5 rfl rfl; have i6 := hX.c 0 6 rfl rfl; have i7 := hX.c 0 7 rfl rfl; have i8 := hX.c 0 8 rfl rfl; have i9 := hX.c 0 9 rfl rfl; clear hb) | (go_at_call 41; with_reducible refine (hc _).mono ?_; rintro e w' ⟨rfl, hb⟩; have hX := hX.step hb; have i0 := hX.c 0 0 rfl rfl; have i1 := hX.c 0 1 rfl rfl; have i2 := hX.c 0 2 rfl rfl; have i3 := hX.c 0 3 rfl rfl; have i4 := hX.c 0 4 rfl rfl; have i5 := hX.c 0 5 rfl rfl; have i6 := hX.c 0 6 rfl rfl; have i7 := hX.c 0 7 rfl rfl; have i8 := hX.c 0 8 rfl rfl; have i9 := hX.c 0 9 rfl rfl; clear hb))
    go_ret
    exact ⟨rfl, by first | exact hX.below | exact hBB ▸ hX.below⟩

theorem Privileged_any (o : Int) (b : Bool) (m r x p q y g n : Int) {A : Addr} {c : Nat} (W0 : World) (W : Frm A c W0) : Calls Tryd.prog 20 #[.agg #[.int .i64 o, .bool b, .int .i64 m, .int .i64 r, .int .i64 x, .int .i64 p, .int .i64 q, .int .i64 y, .int .i64 g, .int .i64 n]] W0 fun e w' => e = .returned (.bool (prR ⟨o, b, m, r, x, p, q, y, g, n⟩)) ∧ Below W0.heap.size W0 w' := by
  have hX := (St.start W).put [.int .i64 o, .bool b, .int .i64 m, .int .i64 r, .int .i64 x, .int .i64 p, .int .i64 q, .int .i64 y, .int .i64 g, .int .i64 n] 28
  have hv := fun w (k : Frm A c w) => Valid_any o b m r x p q y g n w k
  have e : prR ⟨o, b, m, r, x, p, q, y, g, n⟩ = (decide (50 ≤ o ∧ o ≤ 52) && vR ⟨o, b, m, r, x, p, q, y, g, n⟩) := rfl
  rw [e]
  clear e
  generalize vR ⟨o, b, m, r, x, p, q, y, g, n⟩ = VV at *
  by_cases h : 50 ≤ o ∧ o ≤ 52
  · rw [decide_eq_true h, Bool.true_and]
    have h3 : o = 50 ∨ o = 51 ∨ o = 52 := by omega
    clear h
    rcases h3 with rfl | rfl | rfl
    all_goals
      go_enter Tryd.func20, Tryd.ntmps20
      go_wp2_with fail
      have i0 := hX.c 0 0 rfl rfl; have i1 := hX.c 0 1 rfl rfl; have i2 := hX.c 0 2 rfl rfl; have i3 := hX.c 0 3 rfl rfl; have i4 := hX.c 0 4 rfl rfl; have i5 := hX.c 0 5 rfl rfl; have i6 := hX.c 0 6 rfl rfl; have i7 := hX.c 0 7 rfl rfl; have i8 := hX.c 0 8 rfl rfl; have i9 := hX.c 0 9 rfl rfl
      generalize hBB : W0.heap.size = B at hX i0 i1 i2 i3 i4 i5 i6 i7 i8 i9 ⊢
      go_wp2_with (first | (go_at_call 14; with_reducible refine (hv _ hX.frm).mono ?_; rintro e w' ⟨rfl, hb⟩; have hX := hX.step hb; have i0 := hX.c 0 0 rfl rfl; have i1 := hX.c 0 1 rfl rfl; have i2 := hX.c 0 2 rfl rfl; have i3 := hX.c 0 3 rfl rfl; have i4 := hX.c 0 4 rfl rfl; have i5 := hX.c 0 5 rfl rfl; have i6 := hX.c 0 6 rfl rfl; have i7 := hX.c 0 7 rfl rfl; have i8 := hX.c 0 8 rfl rfl; have i9 := hX.c 0 9 rfl rfl; clear hb))
      go_ret
      exact ⟨rfl, by first | exact hX.below | exact hBB ▸ hX.below⟩
  · rw [decide_eq_false h, Bool.false_and]
    have h1 : (o == 50) = false := by simp; omega
    have h2 : (o == 51) = false := by simp; omega
    have h3 : (o == 52) = false := by simp; omega
    go_enter Tryd.func20, Tryd.ntmps20
    go_wp2_with fail
    have i0 := hX.c 0 0 rfl rfl; have i1 := hX.c 0 1 rfl rfl; have i2 := hX.c 0 2 rfl rfl; have i3 := hX.c 0 3 rfl rfl; have i4 := hX.c 0 4 rfl rfl; have i5 := hX.c 0 5 rfl rfl; have i6 := hX.c 0 6 rfl rfl; have i7 := hX.c 0 7 rfl rfl; have i8 := hX.c 0 8 rfl rfl; have i9 := hX.c 0 9 rfl rfl
    generalize W0.alloc (.cells #[.int .i64 o, .bool b, .int .i64 m, .int .i64 r, .int .i64 x, .int .i64 p, .int .i64 q, .int .i64 y, .int .i64 g, .int .i64 n] 28) = w1 at *
    generalize hBB : W0.heap.size = B at hX i0 i1 i2 i3 i4 i5 i6 i7 i8 i9 ⊢
    go_wp2_with fail
    go_ret
    exact ⟨rfl, by first | exact hX.below | exact hBB ▸ hX.below⟩

end Go.Proofs.YtlaikajgpgpidaaDoor
