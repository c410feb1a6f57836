/-
  What the calls of package inst and of its reference return, said over the integers: the rows of the table of forms, the fields of an instruction, one set of definitions for both sides. No condition.
-/
import Derived.Test.YtipaednpelapgaaDoorOpA
namespace Go.Proofs.YtipaednpelapgaaDoor
open Go.RowKit

structure Row where
  f : Int
  l : Int
  d : Int
  a : Int
  e0 : Int
  e1 : Int
  e2 : Int
  e3 : Int
  e4 : Int
  e5 : Int
structure In where
  o : Int
  b : Bool
  m : Int
  r : Int
  x : Int
  p : Int
  q : Int
  y : Int
  g : Int
  n : Int
def nil10 : In := ⟨0, false, 0, 0, 0, 0, 0, 0, 0, 0⟩
def rows : List Row := [⟨1, 5, 4096, 12, 32768, 4032, 63, 0, 0, 0⟩, ⟨6, 7, 24576, 15, 0, 4032, 63, 0, 0, 0⟩, ⟨8, 10, 28672, 9, 0, 63, 0, 448, 0, 0⟩, ⟨11, 11, 30720, 0, 0, 0, 63, 448, 0, 0⟩, ⟨12, 19, 2560, 6, 32768, 0, 63, 0, 0, 0⟩, ⟨20, 23, 3072, 6, 32768, 0, 63, 0, 0, 0⟩, ⟨24, 24, 192, 0, 0, 0, 63, 0, 0, 0⟩, ⟨25, 25, 3520, 0, 0, 0, 63, 0, 0, 0⟩, ⟨55, 55, 3392, 0, 0, 63, 0, 0, 0, 0⟩, ⟨56, 56, 3456, 0, 0, 0, 63, 0, 0, 0⟩, ⟨41, 41, 64, 0, 0, 0, 63, 0, 0, 0⟩, ⟨42, 42, 2048, 0, 0, 0, 63, 448, 0, 0⟩, ⟨43, 43, 128, 0, 0, 0, 0, 7, 0, 0⟩, ⟨44, 44, 32256, 0, 0, 0, 0, 448, 63, 0⟩, ⟨26, 32, 256, 8, 0, 0, 0, 0, 255, -128⟩, ⟨33, 40, 32768, 8, 0, 0, 0, 0, 255, -128⟩, ⟨45, 46, 34816, 8, 0, 0, 0, 0, 255, 0⟩, ⟨53, 54, 160, 4, 0, 0, 0, 0, 15, 0⟩, ⟨50, 51, 0, 0, 0, 0, 0, 0, 0, 0⟩, ⟨49, 49, 2, 0, 0, 0, 0, 0, 0, 0⟩, ⟨47, 48, 3, 0, 0, 0, 0, 0, 0, 0⟩, ⟨52, 52, 5, 0, 0, 0, 0, 0, 0, 0⟩]
def IsM (f : Int) : Prop := f = 4032 ∨ f = 448 ∨ f = 63 ∨ f = 7 ∨ f = 255 ∨ f = 15 ∨ f = 0
def tzR (f : Int) : Int := if f = 4032 ∨ f = 448 then 6 else if f = 0 then 64 else 0
def takeR (w f : Int) : Int := if f = 4032 then w / 64 % 64 else if f = 448 then w / 64 % 8 else if f = 63 then w % 64 else if f = 7 then w % 8 else if f = 255 then w % 256 else if f = 15 then w % 16 else 0
def placeR (n f : Int) : Int := if f = 4032 then n % 64 * 64 else if f = 448 then n % 8 * 64 else if f = 63 then n % 64 else if f = 7 then n % 8 else if f = 255 then n % 256 else if f = 15 then n % 16 else 0
def bitsR (e0 e1 e2 e3 e4 : Int) : Int := bits .or .i64 (bits .or .i64 (bits .or .i64 (bits .or .i64 e0 e1) e2) e3) e4
def numR (e4 e5 n : Int) : Int := if e5 + e4 < n then n - e4 - 1 else n
def pwR (a : Int) : Int := if a = 12 then 4096 else if a = 15 then 32768 else if a = 9 then 512 else if a = 6 then 64 else if a = 8 then 256 else if a = 4 then 16 else 1
def restR (w : Int) (e : Row) : Int := bits .andNot .i64 w (bitsR e.e0 e.e1 e.e2 e.e3 e.e4) - e.d
def okR (a t : Int) : Bool := decide (0 ≤ t) && decide (t % pwR a = 0)
def opR (f a t : Int) : Int := if okR a t = true then f + t / pwR a else 0
def hitR (f l a t : Int) : Bool := okR a t && decide (f + t / pwR a ≤ l)
def hoO (m r x f : Int) : Bool := if f = 0 then decide (m = 0 ∧ r = 0 ∧ x = 0) else vdR m r x
def hoR (e : Row) (i : In) : Bool := (!decide (e.e0 = 0) || !i.b) && hoO i.m i.r i.x e.e1 && hoO i.p i.q i.y e.e2 && decide (0 ≤ i.g) && decide (i.g ≤ takeR e.e3 e.e3) && decide (e.e5 ≤ i.n) && decide (i.n ≤ e.e5 + e.e4)
def fbR (i : In) : Bool := if i.o = 9 then !decide (i.g.tmod 2 = 0) else if i.o = 41 ∨ i.o = 42 then decide (i.p = 0) else false
def pf (o : Int) (e : Row) : Bool := decide (e.f ≤ o) && decide (o ≤ e.l)
def pw (w : Int) (e : Row) : Bool := hitR e.f e.l e.a (restR w e)
def formR (o : Int) : Option Row := rows.find? (pf o)
def readR (w : Int) : Option Row := rows.find? (pw w)
def vR (i : In) : Bool := match formR i.o with | some e => hoR e i && !fbR i | none => false
def putR (e : Row) (i : In) : Int := bits .or .i64 (bits .or .i64 (bits .or .i64 (placeR (fdR i.m i.r) e.e1) (placeR (fdR i.p i.q) e.e2)) (placeR i.g e.e3)) (placeR i.n e.e4)
def putB (e : Row) (i : In) : Int := if i.b = true then bits .or .i64 (putR e i) e.e0 else putR e i
def firstP (e : Row) (i : In) : Int := e.d + (i.o - e.f) * pwR e.a + putB e i
def rdR (e : Row) (w : Int) : In := ⟨opR e.f e.a (restR w e), !decide (bits .and .i64 w e.e0 = 0), takeR w e.e1 / 8 % 8, takeR w e.e1 % 8, 0, takeR w e.e2 / 8 % 8, takeR w e.e2 % 8, 0, takeR w e.e3, numR e.e4 e.e5 (takeR w e.e4)⟩

/-! ### Masks -/
theorem a4032 (n : Int) : bits .and .i64 n 4032 = n / 64 % 64 * 64 := i_and (c := 4032) (by decide) (field _ 6 6) (by intro h; omega)
theorem a448 (n : Int) : bits .and .i64 n 448 = n / 64 % 8 * 64 := i_and (c := 448) (by decide) (field _ 6 3) (by intro h; omega)
theorem a4095 (n : Int) : bits .and .i64 n 4095 = n % 4096 := i_and (c := 4095) (by decide) (Nat.and_two_pow_sub_one_eq_mod _ 12) (by intro h; omega)
theorem a32767 (n : Int) : bits .and .i64 n 32767 = n % 32768 := i_and (c := 32767) (by decide) (Nat.and_two_pow_sub_one_eq_mod _ 15) (by intro h; omega)
theorem a511 (n : Int) : bits .and .i64 n 511 = n % 512 := i_and (c := 511) (by decide) (Nat.and_two_pow_sub_one_eq_mod _ 9) (by intro h; omega)
theorem a0 (n : Int) : bits .and .i64 n 0 = 0 := i_and (c := 0) (by decide) (Nat.and_zero _) (by intro h; omega)
theorem takeR_bd (w f : Int) (hf : IsM f) : 0 ≤ takeR w f ∧ takeR w f ≤ 255 := by
  rcases hf with rfl | rfl | rfl | rfl | rfl | rfl | rfl <;> simp [takeR] <;> omega
end Go.Proofs.YtipaednpelapgaaDoor
