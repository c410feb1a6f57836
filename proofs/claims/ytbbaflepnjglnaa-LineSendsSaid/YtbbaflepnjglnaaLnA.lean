/-
  A terminal line: plain. No condition.
-/
import Derived.Test.YtbbaflepnjglnaaReg
import Derived.Lib.Strings
namespace Go.Proofs.Ytbbaflepnjglnaa
open Go.RowKit
set_option linter.unusedSimpArgs false
set_option linter.unusedVariables false
set_option maxHeartbeats 4000000
set_option maxRecDepth 100000
attribute [local irreducible] wpQuiet

/-- A terminal line: enabled, ready, overrun, data of the receiver; enabled, ready, data, ticks left of the transmitter; output. -/
structure Ln where
  a : Bool
  b : Bool
  o : Bool
  d : Int
  e : Bool
  f : Bool
  t : Int
  l : Int
  s : ByteArray
def Ln.new : Ln := ⟨false, false, false, 0, false, true, 0, 0, ⟨#[]⟩⟩
/-- Is it valid? -/
def Ln.right (x : Ln) : Bool := decide (0 ≤ x.d) && decide (x.d ≤ 255) && decide (0 ≤ x.t) && decide (x.t ≤ 255) && decide (x.s.size ≤ 4096) && decide (0 ≤ x.l) && decide (x.l ≤ 4) && (x.f == decide (x.l = 0))
def Ln.typ (x : Ln) (n : Int) : Ln := { x with o := x.o || x.b, b := true, d := n % 256 }
def stB (e r : Bool) : Int := (if e = true then 64 else 0) + (if r = true then 128 else 0)
def Ln.rd (x : Ln) (reg : Int) : Ln × Int :=
  if reg = 0 then (x, stB x.a x.b)
  else if reg = 2 then ({ x with b := false, o := false }, x.d + (if x.o = true then 32768 else 0))
  else if reg = 4 then (x, stB x.e x.f)
  else (x, 0)
def Ln.wr (x : Ln) (reg n : Int) : Ln :=
  if reg = 0 then { x with a := decide (n / 64 % 2 = 1) }
  else if reg = 4 then { x with e := decide (n / 64 % 2 = 1) }
  else if reg = 6 then (if x.f = true then { x with t := n % 256, l := 4, f := false } else x)
  else x
/-- The last bytes of an output, at most as many as the limit. -/
def lastO (l : List UInt8) : List UInt8 := l.drop (l.length - 4096)
def Ln.tick (x : Ln) : Ln :=
  if x.l ≤ 0 then x
  else if 1 < x.l then { x with l := x.l - 1 }
  else { x with l := 0, f := true, s := ⟨(lastO (x.s.data.toList ++ [UInt8.ofNat x.t.toNat])).toArray⟩ }
def Ln.req (x : Ln) (n : Int) : List (Int × Int) :=
  if 0 ≤ n ∧ n < 4 then (if x.a = true ∧ x.b = true then [(4, 128 + 8 * n)] else []) ++ (if x.e = true ∧ x.f = true then [(4, 132 + 8 * n)] else []) else []
def Ln.reset (x : Ln) : Ln := { x with a := false, b := false, o := false, e := false, f := true, l := 0 }
end Go.Proofs.Ytbbaflepnjglnaa
