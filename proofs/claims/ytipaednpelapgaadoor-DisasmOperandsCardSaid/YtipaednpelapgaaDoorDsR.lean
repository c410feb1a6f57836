/-
  Plain: the names of ccc and scc with one condition code, by their numbers.
-/
import Derived.Test.YtipaednpelapgaaDoorDsB
namespace Go.Proofs.YtipaednpelapgaaDoor

def clr : List (List UInt8) := [[110, 111, 112], [99, 108, 99], [99, 108, 118], [], [99, 108, 122], [], [], [], [99, 108, 110]]
def sts : List (List UInt8) := [[], [115, 101, 99], [115, 101, 118], [], [115, 101, 122], [], [], [], [115, 101, 110]]

end Go.Proofs.YtipaednpelapgaaDoor
