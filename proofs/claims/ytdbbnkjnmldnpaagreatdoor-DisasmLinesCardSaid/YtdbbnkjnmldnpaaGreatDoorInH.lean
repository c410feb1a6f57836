/-
  Walks over words, leaves, changesCounter and extend. Condition: the tables read as the program's text lays them.
-/
import Derived.Test.YtdbbnkjnmldnpaaGreatDoorInC
namespace Go.Proofs.YtdbbnkjnmldnpaaGreatDoor
open Go.RowKit
set_option linter.unusedSimpArgs false
set_option linter.unusedVariables false
set_option maxHeartbeats 40000000
set_option maxRecDepth 100000
attribute [local irreducible] wpQuiet

def exS (i : In) : Bool := exR (i.m % 8) (i.r % 8)
def exD (i : In) : Bool := exR (i.p % 8) (i.q % 8)
def bi (b : Bool) : Int := if b = true then 1 else 0
def nR (i : In) : Int := 1 + bi (exS i) + bi (exD i)
def leR (o : Int) : Bool := decide ((26 ≤ o ∧ o ≤ 52) ∨ o = 56)
def ccR (i : In) : Bool := if i.o = 8 ∨ i.o = 9 ∨ i.o = 10 then decide (6 ≤ i.g) else if i.o = 2 ∨ i.o = 3 ∨ i.o = 19 then false else decide (i.p = 0 ∧ i.q = 7)

theorem words_any (o : Int) (b : Bool) (m r x p q y g n : Int) {A : Addr} {c : Nat} (W0 : World) (W : Frm A c W0) : Calls Tryz.prog 52 #[.agg #[.int .i64 o, .bool b, .int .i64 m, .int .i64 r, .int .i64 x, .int .i64 p, .int .i64 q, .int .i64 y, .int .i64 g, .int .i64 n]] W0 fun e w' => e = .returned (.int .i64 (nR ⟨o, b, m, r, x, p, q, y, g, n⟩)) ∧ Below W0.heap.size W0 w' := by
  have h1 := fun w => ext_any m r x w
  have h2 := fun w => ext_any p q y w
  have hX := (St.start W).put [.int .i64 o, .bool b, .int .i64 m, .int .i64 r, .int .i64 x, .int .i64 p, .int .i64 q, .int .i64 y, .int .i64 g, .int .i64 n] 36
  have e : nR ⟨o, b, m, r, x, p, q, y, g, n⟩ = 1 + bi (exR (m % 8) (r % 8)) + bi (exR (p % 8) (q % 8)) := rfl
  rw [e]
  clear e
  generalize exR (m % 8) (r % 8) = S at *
  generalize exR (p % 8) (q % 8) = D at *
  cases S <;> cases D
  all_goals
    go_enter Tryz.func52, Tryz.ntmps52
    go_wp2_with fail
    obtain ⟨i0, i1, i2, i3, i4, i5, i6, i7, i8, i9⟩ := hX.ten 0 rfl
    generalize W0.alloc (.cells #[.int .i64 o, .bool b, .int .i64 m, .int .i64 r, .int .i64 x, .int .i64 p, .int .i64 q, .int .i64 y, .int .i64 g, .int .i64 n] 36) = w1 at *
    generalize hBB : W0.heap.size = B at hX i0 i1 i2 i3 i4 i5 i6 i7 i8 i9 ⊢
    go_wp2_with (first | (go_at_call 41; with_reducible refine (h1 _).mono ?_; rintro e w' ⟨rfl, hb⟩; have hX := hX.step hb; obtain ⟨i0, i1, i2, i3, i4, i5, i6, i7, i8, i9⟩ := hX.ten 0 rfl; clear hb) | (go_at_call 41; with_reducible refine (h2 _).mono ?_; rintro e w' ⟨rfl, hb⟩; have hX := hX.step hb; obtain ⟨i0, i1, i2, i3, i4, i5, i6, i7, i8, i9⟩ := hX.ten 0 rfl; clear hb))
    go_ret
    exact ⟨rfl, by first | exact hX.below | exact hBB ▸ hX.below⟩

end Go.Proofs.YtdbbnkjnmldnpaaGreatDoor
