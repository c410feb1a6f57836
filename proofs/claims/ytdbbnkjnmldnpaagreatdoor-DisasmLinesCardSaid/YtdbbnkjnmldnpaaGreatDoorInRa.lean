/-
  The first word by the reference, as a plain function. No condition.
-/
import Derived.Test.YtdbbnkjnmldnpaaGreatDoorInN
import Derived.Test.YtdbbnkjnmldnpaaGreatDoorJK
namespace Go.Proofs.YtdbbnkjnmldnpaaGreatDoor
open Go.RowKit
set_option linter.unusedSimpArgs false
set_option linter.unusedVariables false
set_option maxHeartbeats 40000000
set_option maxRecDepth 100000
attribute [local irreducible] wpQuiet

def zz (m r x : Int) : Bool := decide (m = 0 ∧ r = 0 ∧ x = 0)
def bad1 (o : Int) (b : Bool) : Bool := decide (o < 1) || (decide (56 < o) || (b && !hbyR o))
def bad2 (o m r x : Int) : Bool := if hsR o = true then !vdR m r x else !zz m r x
def bad3 (o p q y : Int) : Bool := if hdR o = true then !vdR p q y else !zz p q y
def bad4 (o g n : Int) : Bool := decide (g < 0) || (decide (7 < g) || ((!decide (g = 0) && !hrgR o) || (decide (n < loR o) || decide (hiR o < n))))
def bad5 (o g : Int) : Bool := decide (o = 9) && decide (g.tmod 2 = 1)
def good6 (o p : Int) : Bool := (!decide (o = 41) && !decide (o = 42)) || !decide (p = 0)
def rvR (i : In) : Bool := !bad1 i.o i.b && (!bad2 i.o i.m i.r i.x && (!bad3 i.o i.p i.q i.y && (!bad4 i.o i.g i.n && (!bad5 i.o i.g && good6 i.o i.p))))
def rfR (i : In) : Int :=
  if (1 ≤ i.o ∧ i.o ≤ 5) then (if i.b = true then 32768 else 0) + 4096 * (i.o - 1 + 1) + 64 * fdR i.m i.r + fdR i.p i.q else
  if (i.o = 6) then 24576 + 64 * fdR i.m i.r + fdR i.p i.q else
  if (i.o = 7) then 57344 + 64 * fdR i.m i.r + fdR i.p i.q else
  if (8 ≤ i.o ∧ i.o ≤ 10) then 28672 + 512 * (i.o - 8) + 64 * i.g + fdR i.m i.r else
  if (i.o = 11) then 30720 + 64 * i.g + fdR i.p i.q else
  if (12 ≤ i.o ∧ i.o ≤ 19) then (if i.b = true then 32768 else 0) + 2560 + 64 * (i.o - 12) + fdR i.p i.q else
  if (20 ≤ i.o ∧ i.o ≤ 23) then (if i.b = true then 32768 else 0) + 3072 + 64 * (i.o - 20) + fdR i.p i.q else
  if (i.o = 24) then 192 + fdR i.p i.q else
  if (i.o = 25) then 3520 + fdR i.p i.q else
  if (26 ≤ i.o ∧ i.o ≤ 32) then 256 * (i.o - 26 + 1) + (i.n + 256) % 256 else
  if (33 ≤ i.o ∧ i.o ≤ 40) then 32768 + 256 * (i.o - 33) + (i.n + 256) % 256 else
  if (i.o = 41) then 64 + fdR i.p i.q else
  if (i.o = 42) then 2048 + 64 * i.g + fdR i.p i.q else
  if (i.o = 43) then 128 + i.g else
  if (i.o = 44) then 32256 + 64 * i.g + i.n else
  if (i.o = 45) then 34816 + i.n else
  if (i.o = 46) then 35072 + i.n else
  if (i.o = 53) then 160 + i.n else
  if (i.o = 54) then 176 + i.n else
  if (i.o = 55) then 3392 + fdR i.m i.r else
  if (i.o = 56) then 3456 + fdR i.p i.q else
  if (i.o = 50) then 0 else
  if (i.o = 51) then 1 else
  if (i.o = 49) then 2 else
  if (i.o = 47) then 3 else
  if (i.o = 48) then 4 else
  5
theorem fdR_bds (m r : Int) : 0 ≤ fdR m r ∧ fdR m r ≤ 63 := by unfold fdR; omega

end Go.Proofs.YtdbbnkjnmldnpaaGreatDoor
