/-
  Plain: the texts of numbers, registers, mnemonics and operands.
-/
import Derived.Test.YtdbbnkjnmldnpaaGreatDoorDrA
import Derived.Test.YtdbbnkjnmldnpaaGreatDoorOC
namespace Go.Proofs.YtdbbnkjnmldnpaaGreatDoor
set_option maxRecDepth 100000

/-- The registers' names. -/
def rgs : List (List UInt8) := [[114, 48], [114, 49], [114, 50], [114, 51], [114, 52], [114, 53], [115, 112], [112, 99]]
def rgT (r : Int) : List UInt8 := rgs.getD r.toNat []
/-- The mnemonics. -/
def mns : List (List UInt8) := [[], [109, 111, 118], [99, 109, 112], [98, 105, 116], [98, 105, 99], [98, 105, 115], [97, 100, 100], [115, 117, 98], [109, 117, 108], [100, 105, 118], [97, 115, 104], [120, 111, 114], [99, 108, 114], [99, 111, 109], [105, 110, 99], [100, 101, 99], [110, 101, 103], [97, 100, 99], [115, 98, 99], [116, 115, 116], [114, 111, 114], [114, 111, 108], [97, 115, 114], [97, 115, 108], [115, 119, 97, 98], [115, 120, 116], [98, 114], [98, 110, 101], [98, 101, 113], [98, 103, 101], [98, 108, 116], [98, 103, 116], [98, 108, 101], [98, 112, 108], [98, 109, 105], [98, 104, 105], [98, 108, 111, 115], [98, 118, 99], [98, 118, 115], [98, 99, 99], [98, 99, 115], [106, 109, 112], [106, 115, 114], [114, 116, 115], [115, 111, 98], [101, 109, 116], [116, 114, 97, 112], [98, 112, 116], [105, 111, 116], [114, 116, 105], [104, 97, 108, 116], [119, 97, 105, 116], [114, 101, 115, 101, 116], [99, 99, 99], [115, 99, 99], [109, 102, 112], [109, 116, 112]]
def mnT (o : Int) : List UInt8 := mns.getD o.toNat []
def abv : List (List UInt8 × Int × Int) := [([110, 111, 112], 53, 0), ([99, 108, 99], 53, 1), ([99, 108, 118], 53, 2), ([99, 108, 122], 53, 4), ([99, 108, 110], 53, 8), ([115, 101, 99], 54, 1), ([115, 101, 118], 54, 2), ([115, 101, 122], 54, 4), ([115, 101, 110], 54, 8)]
def byB (o : Int) : Bool := decide ((1 ≤ o ∧ o ≤ 5) ∨ (12 ≤ o ∧ o ≤ 23))
def opB (o : Int) : Bool := decide (1 ≤ o ∧ o ≤ 56)
def nmT (o : Int) (b : Bool) : List UInt8 := if opB o = true then (if b = true then (if byB o = true then mnT o ++ [98] else []) else mnT o) else []
def nuT (n : Int) : List UInt8 := if n % 65536 < 8 then digs 8 (n % 65536).toNat else 48 :: 111 :: digs 8 (n % 65536).toNat
def adT (n : Int) : List UInt8 := pd6 (n % 65536).toNat
/-- An operand without the mark of a deferred one. -/
def diT (m r x nx : Int) : List UInt8 :=
  if m = 1 then 40 :: rgT r ++ [41] else
  if m = 2 ∨ m = 3 then (if r = 7 then 35 :: nuT x else 40 :: rgT r ++ [41, 43]) else
  if m = 4 ∨ m = 5 then 45 :: 40 :: rgT r ++ [41] else
  if m = 6 ∨ m = 7 then (if r = 7 then nuT (x + nx) else nuT x ++ 40 :: rgT r ++ [41]) else rgT r
def opT (m r x nx : Int) : List UInt8 := if vdR m r x = true then (if dfR m = true then 64 :: diT m r x nx else diT m r x nx) else []
def abT (o n : Int) : Option (List UInt8) := (abv.find? fun e => decide (e.2.1 = o ∧ e.2.2 = n)).map (·.1)
def tgT (a n : Int) : List UInt8 := nuT (a + 2 + n * 2)
def joT : List (List UInt8) → List UInt8
  | [] => []
  | [a] => a
  | a :: l => a ++ 44 :: 32 :: joT l
def tlT (l : List (List UInt8)) : List UInt8 := if l.length = 0 then [] else 32 :: joT l
/-- The mnemonics found by their names. -/
def ent (o : Nat) (b : Bool) : List (List UInt8 × Int × Bool) := if nmT (o : Int) b = [] then [] else [(nmT (o : Int) b, (o : Int), b)]
def tabN (k : Nat) : List (List UInt8 × Int × Bool) := (List.range k).flatMap fun o => ent o false ++ ent o true
def tabB : List (List UInt8 × Int × Bool) := abv.map fun e => (e.1, e.2.1, false)
/-- The last entry with a key. -/
def fnd (l : List (List UInt8 × Int × Bool)) (s : List UInt8) : Option (Int × Bool) := (l.reverse.find? fun e => decide (e.1 = s)).map (·.2)
def bnT (s : List UInt8) : Option (Int × Bool) := fnd (tabN 57 ++ tabB) s

end Go.Proofs.YtdbbnkjnmldnpaaGreatDoor
