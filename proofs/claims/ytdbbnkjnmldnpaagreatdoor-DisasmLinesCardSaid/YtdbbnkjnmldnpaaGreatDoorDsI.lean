/-
  Plain: the texts of instructions.
-/
import Derived.Test.YtdbbnkjnmldnpaaGreatDoorDsA
import Derived.Test.YtdbbnkjnmldnpaaGreatDoorIJ
namespace Go.Proofs.YtdbbnkjnmldnpaaGreatDoor
set_option maxRecDepth 100000

def srT (i : In) (a : Int) : List UInt8 := opT i.m i.r i.x (a + 4)
def dsT (i : In) (a : Int) : List UInt8 := opT i.p i.q i.y (a + lenR i * 2)
/-- What stands behind the mnemonic. -/
def agT (i : In) (a : Int) : List (List UInt8) :=
  if 1 ≤ i.o ∧ i.o ≤ 7 then [srT i a, dsT i a] else
  if 8 ≤ i.o ∧ i.o ≤ 10 then [srT i a, rgT i.g] else
  if i.o = 11 ∨ i.o = 42 then [rgT i.g, dsT i a] else
  if (12 ≤ i.o ∧ i.o ≤ 25) ∨ i.o = 41 ∨ i.o = 56 then [dsT i a] else
  if i.o = 55 then [srT i a] else
  if i.o = 43 then [rgT i.g] else
  if 26 ≤ i.o ∧ i.o ≤ 40 then [tgT a i.n] else
  if i.o = 44 then [rgT i.g, tgT a (-i.n)] else
  if i.o = 45 ∨ i.o = 46 ∨ i.o = 53 ∨ i.o = 54 then [nuT i.n] else []
def txT (i : In) (a : Int) : List UInt8 := if vR i = true then (match abT i.o i.n with | some s => s | none => nmT i.o i.b ++ tlT (agT i a)) else []

end Go.Proofs.YtdbbnkjnmldnpaaGreatDoor
