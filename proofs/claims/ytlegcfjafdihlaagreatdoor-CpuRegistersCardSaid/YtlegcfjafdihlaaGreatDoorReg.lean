/-
  A region that draws its order, whose operations keep a class of worlds. General. No condition.
-/
import Derived.Test.YtlegcfjafdihlaaGreatDoorRow
import Derived.Test.YtlegcfjafdihlaaGreatDoorBagG
import Derived.BigQuiet
namespace Go.Proofs.YtlegcfjafdihlaaGreatDoor
open Go.RowKit
theorem region_class {P : Program} {id : Nat} {Q : Exit → Act → World → Prop} {a : Act} {w : World} {l : List Oper} (C : World → Prop) (hm : P.follows .mixedOrders = true) (hB : Region.lexB .any l.toArray = true) (hC : C w.drew)
    (h : wpQuiet P l.toArray C (fun a' => ∀ w', C w' → Q .normal a' w') l a) : (Code.region id l.toArray true).wp P Q a w :=
  wp_region_quiet hm hB hC (by simpa using h)
section
variable {P : Program} {ops : Array Oper} {Q : Exit → Act → World → Prop} {l : List Oper} {a : Act} {w : World} {T ty : TypeId} {x y : Operand} {dst : Option Tmp} {pos : String} {after : Array Edge} {g : Option (Nat × Bool)}
/-- The goal is a list of operations. -/
theorem at_ops (h : wpList P ops Q l a w) : wpList P ops Q l a w := h
/-- It begins with a store. -/
theorem at_store (h : wpList P ops Q ({ dst := dst, op := .store T x y, type := ty, pos := pos, after := after, guard := g } :: l) a w) : wpList P ops Q ({ dst := dst, op := .store T x y, type := ty, pos := pos, after := after, guard := g } :: l) a w := h
/-- It begins with a load. -/
theorem at_load (h : wpList P ops Q ({ dst := dst, op := .load T x, type := ty, pos := pos, after := after, guard := g } :: l) a w) : wpList P ops Q ({ dst := dst, op := .load T x, type := ty, pos := pos, after := after, guard := g } :: l) a w := h
end
end Go.Proofs.YtlegcfjafdihlaaGreatDoor
