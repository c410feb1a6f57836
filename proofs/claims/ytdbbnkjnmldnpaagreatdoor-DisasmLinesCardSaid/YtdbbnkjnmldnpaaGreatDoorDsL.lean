/-
  Plain: the texts of lines.
-/
import Derived.Test.YtdbbnkjnmldnpaaGreatDoorDsI
import Derived.Test.YtdbbnkjnmldnpaaGreatDoorInM
namespace Go.Proofs.YtdbbnkjnmldnpaaGreatDoor
set_option maxRecDepth 100000

def fsT (l : List Int) (a : Int) : List UInt8 × Nat := if (dcI l).2 = 0 then ([46, 119, 111, 114, 100, 32, 48, 111] ++ adT (l.getD 0 0), 1) else (txT (dcI l).1 a, (dcI l).2.toNat)
def lnT : Nat → List Int → Int → List (List UInt8)
  | 0, _, _ => []
  | k + 1, l, a => if l.length = 0 then [] else (adT a ++ 32 :: (fsT l a).1) :: lnT k (l.drop (fsT l a).2) (a + 2 * (fsT l a).2)

end Go.Proofs.YtdbbnkjnmldnpaaGreatDoor
