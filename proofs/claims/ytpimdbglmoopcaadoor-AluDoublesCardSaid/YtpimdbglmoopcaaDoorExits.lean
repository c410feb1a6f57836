/-
  Switches with fallthrough, which are nested blocks: one exit is followed, the others are passed by. General. No condition.
-/
import Derived.Test.YtpimdbglmoopcaaDoorBagG
namespace Go.Proofs.YtpimdbglmoopcaaDoor
open Go.RowKit

/-- A piece of code is left by one exit, and there S. -/
def Leaves (e0 : Exit) (S : Act → World → Prop) : Exit → Act → World → Prop := fun e a w => e = e0 ∧ S a w
section
variable {P : Program} {a : Act} {w : World} {id j : Nat} {c y : Code} {Q : Exit → Act → World → Prop} {S : Act → World → Prop}
theorem blk_end (h : c.wp P (Leaves (.exit id) (Q .normal)) a w) : (Code.block id c).wp P Q a w :=
  wp_block (wp_mono h fun e a w h => by
    obtain ⟨rfl, h⟩ := h
    show (if id = id then Q .normal a w else _)
    rw [if_pos rfl]; exact h)
theorem blk_ret (h : c.wp P (Leaves .ret (Q .ret)) a w) : (Code.block id c).wp P Q a w :=
  wp_block (wp_mono h fun e a w h => by
    obtain ⟨rfl, h⟩ := h
    exact h)
theorem blk_out (hne : (j == id) = false) (h : c.wp P (Leaves (.exit j) S) a w) : ((Code.block id c).seq y).wp P (Leaves (.exit j) S) a w :=
  wp_seq (wp_block (wp_mono h fun e a w h => by
    obtain ⟨rfl, h⟩ := h
    show (if j = id then _ else _)
    rw [if_neg (by simpa using hne)]; exact ⟨rfl, h⟩))
theorem blk_outr (h : c.wp P (Leaves .ret S) a w) : ((Code.block id c).seq y).wp P (Leaves .ret S) a w :=
  wp_seq (wp_block (wp_mono h fun e a w h => by
    obtain ⟨rfl, h⟩ := h
    exact ⟨rfl, h⟩))
theorem blk_hit (h : c.wp P (Leaves (.exit id) (y.wp P Q)) a w) : ((Code.block id c).seq y).wp P Q a w :=
  wp_seq (wp_block (wp_mono h fun e a w h => by
    obtain ⟨rfl, h⟩ := h
    show (if id = id then _ else _)
    rw [if_pos rfl]; exact h))
theorem blk_thru (h : c.wp P (Leaves .normal (y.wp P Q)) a w) : ((Code.block id c).seq y).wp P Q a w :=
  wp_seq (wp_block (wp_mono h fun e a w h => by
    obtain ⟨rfl, h⟩ := h
    exact h))
end
end Go.Proofs.YtpimdbglmoopcaaDoor
