/-
  Walks over words, leaves, changesCounter and extend. Condition: the tables read as the program's text lays them.
-/
import Derived.Test.YtlaikajgpgpidaaDoorInC
namespace Go.Proofs.YtlaikajgpgpidaaDoor
open Go.RowKit
set_option linter.unusedSimpArgs false
set_option linter.unusedVariables false
set_option maxHeartbeats 1000000
set_option maxRecDepth 100000
attribute [local irreducible] wpQuiet

def exS (i : In) : Bool := exR (i.m % 8) (i.r % 8)
def exD (i : In) : Bool := exR (i.p % 8) (i.q % 8)
def bi (b : Bool) : Int := if b = true then 1 else 0
def nR (i : In) : Int := 1 + bi (exS i) + bi (exD i)
def leR (o : Int) : Bool := decide ((26 ≤ o ∧ o ≤ 52) ∨ o = 56)
def ccR (i : In) : Bool := if i.o = 8 ∨ i.o = 9 ∨ i.o = 10 then decide (6 ≤ i.g) else if i.o = 2 ∨ i.o = 3 ∨ i.o = 19 then false else decide (i.p = 0 ∧ i.q = 7)

theorem words_any (o : Int) (b : Bool) (m r x p q y g n : Int) {A : Addr} {c : Nat} (W0 : World) (W : Frm A c W0) : Calls Tryd.prog 23 #[.agg #[.int .i64 o, .bool b, .int .i64 m, .int .i64 r, .int .i64 x, .int .i64 p, .int .i64 q, .int .i64 y, .int .i64 g, .int .i64 n]] W0 fun e w' => e = .returned (.int .i64 (nR ⟨o, b, m, r, x, p, q, y, g, n⟩)) ∧ Below W0.heap.size W0 w' := by
  have h1 := fun w => ext_any m r x w
  have h2 := fun w => ext_any p q y w
  have hX := (St.start W).put [.int .i64 o, .bool b, .int .i64 m, .int .i64 r, .int .i64 x, .int .i64 p, .int .i64 q, .int .i64 y, .int .i64 g, .int .i64 n] 28
  have e : nR ⟨o, b, m, r, x, p, q, y, g, n⟩ = 1 + bi (exR (m % 8) (r % 8)) + bi (exR (p % 8) (q % 8)) := rfl
  rw [e]
  clear e
  generalize exR (m % 8) (r % 8) = S at *
  generalize exR (p % 8) (q % 8) = D at *
  cases S <;> cases D
  all_goals
    go_enter Tryd.func23, Tryd.ntmps23
    go_wp2_with fail
    have i0 := hX.c 0 0 rfl rfl; have i1 := hX.c 0 1 rfl rfl; have i2 := hX.c 0 2 rfl rfl; have i3 := hX.c 0 3 rfl rfl; have i4 := hX.c 0 4 rfl rfl; have i5 := hX.c 0 5 rfl rfl; have i6 := hX.c 0 6 rfl rfl; have i7 := hX.c 0 7 rfl rfl; have i8 := hX.c 0 8 rfl rfl; have i9 := hX.c 0 9 rfl rfl
    generalize W0.alloc (.cells #[.int .i64 o, .bool b, .int .i64 m, .int .i64 r, .int .i64 x, .int .i64 p, .int .i64 q, .int .i64 y, .int .i64 g, .int .i64 n] 28) = w1 at *
    generalize hBB : W0.heap.size = B at hX i0 i1 i2 i3 i4 i5 i6 i7 i8 i9 ⊢
    go_wp2_with (first | (go_at_call 33; with_reducible refine (h1 _).mono ?_; rintro e w' ⟨rfl, hb⟩; have hX := hX.step hb; have i0 := hX.c 0 0 rfl rfl; have i1 := hX.c 0 1 rfl rfl; have i2 := hX.c 0 2 rfl rfl; have i3 := hX.c 0 3 rfl rfl; have i4 := hX.c 0 4 rfl rfl; have i5 := hX.c 0 5 rfl rfl; have i6 := hX.c 0 6 rfl rfl; have i7 := hX.c 0 7 rfl rfl; have i8 := hX.c 0 8 rfl rfl; have i9 := hX.c 0 9 rfl rfl; clear hb) | (go_at_call 33; with_reducible refine (h2 _).mono ?_; rintro e w' ⟨rfl, hb⟩; have hX := hX.step hb; have i0 := hX.c 0 0 rfl rfl; have i1 := hX.c 0 1 rfl rfl; have i2 := hX.c 0 2 rfl rfl; have i3 := hX.c 0 3 rfl rfl; have i4 := hX.c 0 4 rfl rfl; have i5 := hX.c 0 5 rfl rfl; have i6 := hX.c 0 6 rfl rfl; have i7 := hX.c 0 7 rfl rfl; have i8 := hX.c 0 8 rfl rfl; have i9 := hX.c 0 9 rfl rfl; clear hb))
    go_ret
    exact ⟨rfl, by first | exact hX.below | exact hBB ▸ hX.below⟩

theorem leaves_any (o : Int) (w : World) : Calls Tryd.prog 40 #[.int .i64 o] w fun e w' => e = .returned (.bool (leR o)) ∧ Below w.heap.size w w' := by
  have e : ∀ b : Bool, (b = true ↔ ((26 ≤ o ∧ o ≤ 52) ∨ o = 56)) → Ending.returned (.bool b) = .returned (.bool (leR o)) := fun b h => ret_bool (by unfold leR; rw [Bool.eq_iff_iff, decide_eq_true_eq]; exact h)
  go_enter Tryd.func40, Tryd.ntmps40
  go_wp2
  all_goals
    go_ret
    refine ⟨e _ ?_, Below.refl _ _⟩
    clear e
    simp only [beq_iff_eq, beq_eq_false_iff_ne, ne_eq] at *
    first
      | omega
      | (simp only [decide_eq_true_eq]; omega)
      | (simp; omega)
      | simp

theorem changes_any (o : Int) (b : Bool) (m r x p q y g n : Int) (w : World) : Calls Tryd.prog 41 #[.agg #[.int .i64 o, .bool b, .int .i64 m, .int .i64 r, .int .i64 x, .int .i64 p, .int .i64 q, .int .i64 y, .int .i64 g, .int .i64 n]] w fun e w' => e = .returned (.bool (ccR ⟨o, b, m, r, x, p, q, y, g, n⟩)) ∧ Below w.heap.size w w' := by
  have e : ∀ b : Bool, b = ccR ⟨o, b, m, r, x, p, q, y, g, n⟩ → Ending.returned (.bool b) = .returned (.bool (ccR ⟨o, b, m, r, x, p, q, y, g, n⟩)) := fun b h => ret_bool h
  go_enter Tryd.func41, Tryd.ntmps41
  go_wp2
  all_goals
    go_ret
    refine ⟨e _ ?_, (Below.refl _ _).alloc (Nat.le_refl _) _⟩
    clear e
    simp only [beq_iff_eq, beq_eq_false_iff_ne, ne_eq] at *
    unfold ccR
    simp only
    first
      | (rw [if_pos (by omega)])
      | (rw [if_neg (by omega), if_pos (by omega)])
      | (rw [if_neg (by omega), if_neg (by omega)]; first | (simp [*]; done) | (simp [*]; rfl))

end Go.Proofs.YtlaikajgpgpidaaDoor
