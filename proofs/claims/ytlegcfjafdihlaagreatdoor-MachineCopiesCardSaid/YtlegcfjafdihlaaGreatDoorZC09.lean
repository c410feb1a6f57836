import Derived.Test.YtlegcfjafdihlaaGreatDoorZC08
import Derived.Laws.Entries
import Derived.Test.YtlegcfjafdihlaaGreatDoorZC07
import Derived.Test.YtlegcfjafdihlaaGreatDoorZC03
import Derived.Test.YtlegcfjafdihlaaGreatDoorZC04
import Derived.Test.YtlegcfjafdihlaaGreatDoorZC05
import Derived.Test.YtlegcfjafdihlaaGreatDoorProg
import Derived.Test.YtlegcfjafdihlaaGreatDoorZC01
import Derived.WalkKit
import Derived.WalkSpells
import Derived.WalkLawsBesides
import Derived.Deep.RegionHeld3
import Derived.Deep.DeepCutAuto
import Derived.Deep.QuietTactic
import Derived.BigQuiet
import Derived.KernelRfl
/-
  Tick of the reference: plain; without a transfer; ways that fail; check. Conditions: a valid controller and memory.
-/
namespace Go.Proofs.YtlegcfjafdihlaaGreatDoor
open Go.RowKit
set_option linter.unusedSimpArgs false
set_option linter.unusedVariables false
set_option maxHeartbeats 4000000
set_option maxRecDepth 100000
attribute [local irreducible] wpQuiet

def Dk.n64 (K : Dk) : Nat := min K.w.toNat 64
/-- After a sector without an error. -/
def Dk.adv (K : Dk) (D : Drv) : Dk := { D := D, n := K.n, r := decide (K.w - (K.n64 : Int) = 0), e := K.e, c := K.c, w := K.w - (K.n64 : Int), a := (K.a + 2 * (K.n64 : Int)) % 65536, s := (K.s + 1) % 65536, l := if K.w - (K.n64 : Int) = 0 then 0 else 8 }
def Dk.l0 (K : Dk) : Dk := { K with l := 0 }
def putM (m : List Int) (A : Nat) (s : ByteArray) (k : Nat) : List Int := (List.range k).foldl (fun m i => m.set (A + i) (atV s i)) m
def outB (B : List Int) (a : Int) (n : Nat) : List Int := B.filter fun b => decide (b < a) || decide (a + 2 * (n : Int) ≤ b)
def Dk.tick (K : Dk) (m B : List Int) : Dk × List Int × List Int :=
  if K.l = 0 then (K, m, B)
  else if 1 < K.l then ({ K with l := K.l - 1 }, m, B)
  else if 2 * (m.length : Int) < K.a + 2 * (K.n64 : Int) then (K.l0.fail, m, B)
  else if K.c ≠ 2 ∧ (K.D.rd K.s).2 ≠ 0 then (K.l0.fail, m, B)
  else if K.c ≠ 1 ∧ spV B K.a K.n64 = true then (K.l0.fail, m, B)
  else if K.c = 3 ∧ dfW m (K.a / 2).toNat K.n64 (K.D.rd K.s).1 = true then (K.l0.fail, m, B)
  else if K.c = 2 then (if (K.D.wr K.s (secV m (K.a / 2).toNat K.n64)).2 = 0 then (K.adv (K.D.wr K.s (secV m (K.a / 2).toNat K.n64)).1, m, B) else (K.l0.fail, m, B))
  else if K.c = 1 then (K.adv K.D, putM m (K.a / 2).toNat (K.D.rd K.s).1 K.n64, outB B K.a K.n64)
  else (K.adv K.D, m, B)
end Go.Proofs.YtlegcfjafdihlaaGreatDoor
/-
  Package memory, plain: sizes, valid memories, bytes of words, what Read, Write, Spoil, Bytes, Store and Move answer. No condition.
-/
namespace Go.Proofs.YtlegcfjafdihlaaGreatDoor
set_option linter.unusedSimpArgs false

def okS (n : Int) : Bool := decide (256 ≤ n) && (decide (n ≤ 32768) && decide (n % 64 = 0))
def wordsB : List Int → Bool
  | [] => true
  | x :: r => (decide (0 ≤ x) && decide (x ≤ 65535)) && wordsB r
def badB (n : Int) : Int → List Int → Bool
  | _, [] => true
  | low, x :: r => (decide (low ≤ x) && (decide (x % 2 = 0) && decide (x < n))) && badB n (x + 2) r
def rightP (mem bad : List Int) : Bool := okS (2 * (mem.length : Int)) && (wordsB mem && badB (2 * (mem.length : Int)) 0 bad)

def accP (n a : Int) (b : Bool) : Bool := (b || decide (a % 2 = 0)) && (decide (0 ≤ a) && decide (a < n))
/-- The byte at an address. -/
def byteN (l : List Int) (a : Nat) : Int := l.getD (a / 2) 0 / (256 : Int) ^ (a % 2) % 256
/-- A word whose byte r is v. -/
def setW (x : Int) (r : Nat) (v : Int) : Int := if r = 0 then x / 256 * 256 + v % 256 else v % 256 * 256 + x % 256
def setN (l : List Int) (a : Nat) (v : Int) : List Int := l.set (a / 2) (setW (l.getD (a / 2) 0) (a % 2) v)
def evenP (a : Int) : Int := a - a % 2
def readT (n : Int) (bad : List Int) (a : Int) (b : Bool) : Int := if accP n a b = true then (if bad.contains (evenP a) = true then 9 else 0) else 1
def readV (mem bad : List Int) (a : Int) (b : Bool) : Int :=
  if readT (2 * (mem.length : Int)) bad a b = 0 then (if b = true then byteN mem a.toNat else mem.getD (a.toNat / 2) 0) else 0
def writeT (n a : Int) (b : Bool) : Int := if accP n a b = true then 0 else 1
def withoutP (bad : List Int) (x : Int) : List Int := bad.filter (fun y => y != x)
def wordW (mem : List Int) (a : Int) (b : Bool) (v : Int) : List Int := if b = true then setN mem a.toNat v else mem.set (a.toNat / 2) (v % 65536)
def writeM (mem : List Int) (a : Int) (b : Bool) (v : Int) : List Int := if accP (2 * (mem.length : Int)) a b = true then wordW mem a b v else []
def writeB (n : Int) (bad : List Int) (a : Int) (b : Bool) : List Int := if accP n a b = true then withoutP bad (evenP a) else []
def inR (n a k : Int) : Bool := decide (0 ≤ a) && (decide (0 ≤ k) && decide (k ≤ n - a))
def bytesN (l : List Int) (a : Nat) : Nat → List UInt8
  | 0 => []
  | k + 1 => UInt8.ofNat (byteN l a).toNat :: bytesN l (a + 1) k
def storeN (l : List Int) (a : Nat) : List UInt8 → List Int
  | [] => l
  | c :: r => storeN (setN l a (c.toNat : Int)) (a + 1) r
theorem get_set (l : List Int) (j k : Nat) (x : Int) (hk : k < l.length) : (l.set k x).getD j 0 = if j = k then x else l.getD j 0 := by
  rw [List.getD_eq_getElem?_getD, List.getElem?_set, List.getD_eq_getElem?_getD]
  by_cases h : k = j
  · subst h; simp [hk]
  · rw [if_neg h, if_neg (fun e => h e.symm)]
end Go.Proofs.YtlegcfjafdihlaaGreatDoor
/-
  The tape unit: plain. No condition.
-/
namespace Go.Proofs.YtlegcfjafdihlaaGreatDoor
open Go.RowKit
set_option linter.unusedSimpArgs false
set_option linter.unusedVariables false
set_option maxHeartbeats 4000000
set_option maxRecDepth 100000
attribute [local irreducible] wpQuiet

/-- A tape unit: its records; the place of the head; enabled, ready, error, mark, end; command, count, address, ticks left. -/
structure Tp where
  R : List ByteArray
  p : Int
  n : Bool
  r : Bool
  e : Bool
  m : Bool
  d : Bool
  c : Int
  k : Int
  a : Int
  l : Int
def Tp.z : Tp := ⟨[], 0, false, false, false, false, false, 0, 0, 0, 0⟩
def Tp.new (R : List ByteArray) : Tp := ⟨R, 0, false, true, false, false, false, 0, 0, 0, 0⟩
def shortV (R : List ByteArray) : Bool := R.all (fun s => decide (s.size ≤ 512))
def newT (R : List ByteArray) : Tp × Int := if 64 < R.length then (Tp.z, 12) else if shortV R = true then (Tp.new R, 0) else (Tp.z, 7)
def wordV_17 (n : Int) : Bool := decide (0 ≤ n) && decide (n ≤ 65535)
/-- Are its fields valid, but for the records' lengths? -/
def Tp.ok (K : Tp) : Bool := decide (K.R.length ≤ 64) && decide (0 ≤ K.p) && decide (K.p ≤ (K.R.length : Int)) && decide (0 ≤ K.c) && decide (K.c ≤ 6) && wordV_17 K.k && wordV_17 K.a && decide (0 ≤ K.l) && decide (K.l ≤ 16) && (K.r == decide (K.l = 0))
def Tp.right (K : Tp) : Bool := K.ok && shortV K.R
def stT (K : Tp) : Int := 2 * K.c + (if K.n = true then 64 else 0) + (if K.r = true then 128 else 0) + (if K.m = true then 256 else 0) + (if K.d = true then 512 else 0) + (if K.e = true then 32768 else 0)
def Tp.rd (K : Tp) (g : Int) : Int × Bool := if g = 0 then (stT K, true) else if g = 2 then (K.k, true) else if g = 4 then (K.a, true) else (0, false)
/-- A command is started. -/
def Tp.go (K : Tp) (q : Int) : Tp := if q = 0 ∨ q = 7 then { K with c := 0, e := false, m := false, d := false } else { K with c := q, e := false, m := false, d := false, r := false, l := 16 }
def Tp.wr (K : Tp) (g v : Int) : Tp × Bool :=
  if g = 0 then (if K.r = true ∧ v % 2 = 1 then ({ K with n := decide (v / 64 % 2 = 1) }.go (v / 2 % 8), true) else ({ K with n := decide (v / 64 % 2 = 1) }, true))
  else if g = 2 then (if K.r = true then { K with k := v % 65536 } else K, true)
  else if g = 4 then (if K.r = true then { K with a := v % 65536 } else K, true)
  else (K, false)
def Tp.acc (K : Tp) (v : Int) : Tp := if v = 164 then { K with n := false } else K
def Tp.req (K : Tp) : List (Int × Int) := if K.n = true ∧ K.r = true then [(5, 164)] else []
def Tp.reset (K : Tp) : Tp := { K with n := false, e := false, m := false, d := false, c := 0, l := 0, r := true }
/-- A record is appended. -/
def Tp.app (K : Tp) (s : ByteArray) : Tp := if 64 ≤ K.p then { K with e := true, d := true } else { K with R := K.R.take K.p.toNat ++ [s], p := K.p + 1 }
/-- The next record is passed. -/
def recV (K : Tp) (i : Int) : ByteArray := K.R.getD i.toNat ⟨#[]⟩
def Tp.pass (K : Tp) : Tp × Bool := if (K.R.length : Int) ≤ K.p then ({ K with e := true, d := true }, false) else ({ K with m := K.m || decide ((recV K K.p).size = 0), p := K.p + 1 }, true)
def Tp.back (K : Tp) : Tp := if K.p = 0 then { K with d := true } else { K with p := K.p - 1, m := K.m || decide ((recV K (K.p - 1)).size = 0) }
def clrV (B : List Int) (a : Int) : Nat → List Int
  | 0 => B
  | n + 1 => withoutP (clrV B a n) ((a + (n : Int)) / 2 * 2)
def splV (B : List Int) (a : Int) (n : Nat) : Bool := (List.range n).any (fun i => B.contains ((a + (i : Int)) / 2 * 2))
def lenR (K : Tp) : Nat := (recV K K.p).size
def cntR (K : Tp) : Nat := min K.k.toNat (lenR K)
def Tp.read (K : Tp) (M B : List Int) : Tp × List Int × List Int :=
  if (K.R.length : Int) ≤ K.p then (K.pass.1, M, B)
  else if inR (2 * (M.length : Int)) K.a (cntR K) = true then ({ K.pass.1 with e := K.e || decide (K.k < (lenR K : Int)), k := K.k - (cntR K : Int) }, storeN M K.a.toNat ((recV K K.p).data.toList.take (cntR K)), clrV B K.a (cntR K))
  else ({ K.pass.1 with e := true }, M, B)
def strV (l : List UInt8) : ByteArray := ⟨l.toArray⟩
def Tp.write (K : Tp) (M B : List Int) : Tp :=
  if (1 ≤ K.k ∧ K.k ≤ 512) ∧ inR (2 * (M.length : Int)) K.a K.k = true ∧ splV B K.a K.k.toNat = false then K.app (strV (bytesN M K.a.toNat K.k.toNat)) else { K with e := true }
def Tp.done (K : Tp) (M B : List Int) : Tp × List Int × List Int :=
  if K.c = 1 then K.read M B else if K.c = 2 then (K.write M B, M, B) else if K.c = 3 then (K.pass.1, M, B) else if K.c = 4 then (K.back, M, B) else if K.c = 5 then ({ K with p := 0 }, M, B) else if K.c = 6 then (K.app ⟨#[]⟩, M, B) else (K, M, B)
def Tp.tick (K : Tp) (M B : List Int) : Tp × List Int × List Int := if K.l ≤ 0 then (K, M, B) else if 1 < K.l then ({ K with l := K.l - 1 }, M, B) else { K with l := 0, r := true }.done M B
/-- A unit in memory. -/
def TpX (X : Nat → Prop) (w : World) (x : Value) (K : Tp) : Prop := ∃ vs, x = .agg #[vs, .int .i64 K.p, .bool K.n, .bool K.r, .bool K.e, .bool K.m, .bool K.d, .int .i64 K.c, .int .i64 K.k, .int .i64 K.a, .int .i64 K.l] ∧ StsX X w vs K.R
theorem TpX.below {X : Nat → Prop} {w w' : World} {x : Value} {K : Tp} (h : TpX X w x K) (hb : Below w.heap.size w w') : TpX X w' x K := by
  obtain ⟨vs, e, h1⟩ := h
  exact ⟨vs, e, h1.below hb⟩
theorem TpX.z (X : Nat → Prop) (w : World) : TpX X w (.agg #[.slice none 0 0, .int .i64 0, .bool false, .bool false, .bool false, .bool false, .bool false, .int .i64 0, .int .i64 0, .int .i64 0, .int .i64 0]) Tp.z := ⟨_, rfl, Sv.nil X w⟩
theorem aggT (w : World) : (isAgg 47).run Tryz.prog w = .ok true w := by kernel_rfl
theorem sizT (w : World) : (sizeOf 47).run Tryz.prog w = .ok 11 w := by kernel_rfl
theorem two_tp (w : World) (cs ds : List Value) : Bag [(w.heap.size + 1, 47, ds), (w.heap.size, 47, cs)] w ((w.alloc (.cells cs.toArray 47)).alloc (.cells ds.toArray 47)) := by
  have h := ((Bag.nil w).new 47 cs).new 47 ds
  rw [show (w.alloc (.cells cs.toArray 47)).heap.size = w.heap.size + 1 from Array.size_push ..] at h
  exact h
end Go.Proofs.YtlegcfjafdihlaaGreatDoor
/-
  The bus, plain: a machine; what Right, Read, Write, Tick, Requests, Accept and Reset answer. No condition.
-/
namespace Go.Proofs.YtlegcfjafdihlaaGreatDoor
open Go.RowKit
set_option linter.unusedSimpArgs false
set_option linter.unusedVariables false
set_option maxHeartbeats 4000000
set_option maxRecDepth 100000
attribute [local irreducible] wpQuiet

def lnL (x : Ln) : List Value := [.bool x.a, .bool x.b, .bool x.o, .int .i64 x.d, .bool x.e, .bool x.f, .int .i64 x.t, .int .i64 x.l, .string x.s]
def dkL (vs vb : Value) (K : Dk) : List Value := [vs, vb, .bool K.n, .bool K.r, .bool K.e, .int .i64 K.c, .int .i64 K.w, .int .i64 K.a, .int .i64 K.s, .int .i64 K.l]
def tpL (vs : Value) (K : Tp) : List Value := [vs, .int .i64 K.p, .bool K.n, .bool K.r, .bool K.e, .bool K.m, .bool K.d, .int .i64 K.c, .int .i64 K.k, .int .i64 K.a, .int .i64 K.l]
/-- A machine: the processor's cells; memory, bad addresses; the memory management unit; clock, lines, disk, tape; now, halted, waiting, power, the trap of the power. -/
structure Ma where
  C : List Value
  M : List Int
  B : List Int
  U : Un
  k : Ck
  L : List Ln
  K : Dk
  T : Tp
  now : Int
  h : Bool
  a : Bool
  pw : Int
  pt : Bool
def Ma.eL (A : Ma) : List Value := [.int .i64 A.now, .bool A.h, .bool A.a, .int .i64 A.pw, .bool A.pt]
def Ma.cells (A : Ma) (vm vb vl vs vd vt : Value) : List Value := maL A.C vm vb A.U.L A.k.L vl (dkL vs vd A.K) (tpL vt A.T) A.eL
/-- Its processor has ten cells, its unit 16 pages. -/
def Ma.ok (A : Ma) : Prop := A.C.length = 10 ∧ (∀ v ∈ A.C, v.oneCell' = true) ∧ A.U.ok
theorem Ma.len {A : Ma} (h : A.ok) (vs vd vt : Value) : MaLen A.C A.U.L A.k.L (dkL vs vd A.K) (tpL vt A.T) A.eL := ⟨h.1, Un.len h.2.2, rfl, rfl, rfl, rfl⟩
/-- A slice of lines that reads as l. -/
def Lns (w : World) (v : Value) (l : List Ln) : Prop := Rz w v l.length (l.flatMap lnL)
def LnsX (X : Nat → Prop) (w : World) (v : Value) (l : List Ln) : Prop := Sv X w v l.length (l.flatMap lnL)
/-- A machine in memory. -/
def MaX (X : Nat → Prop) (w : World) (x : Value) (A : Ma) : Prop := ∃ vm vb vl vs vd vt, x = .agg (A.cells vm vb vl vs vd vt).toArray ∧ ItsX X w vm A.M ∧ ItsX X w vb A.B ∧ LnsX X w vl A.L ∧ StsX X w vs A.K.D.S ∧ ItsX X w vd A.K.D.B ∧ StsX X w vt A.T.R
theorem MaX.below {X : Nat → Prop} {w w' : World} {x : Value} {A : Ma} (h : MaX X w x A) (hb : Below w.heap.size w w') : MaX X w' x A := by
  obtain ⟨vm, vb, vl, vs, vd, vt, e, h1, h2, h3, h4, h5, h6⟩ := h
  exact ⟨vm, vb, vl, vs, vd, vt, e, h1.below hb, h2.below hb, Sv.below h3 hb, h4.below hb, h5.below hb, h6.below hb⟩
def Ma.right (A : Ma) : Bool := decide (A.L.length ≤ 4) && A.L.all Ln.right && rightP A.M A.B && A.U.right && A.k.right && A.K.right && A.T.right
/-- A physical address, reduced. -/
def physP (p : Int) : Int := p % 262144
def Ma.isL (A : Ma) (off : Int) : Bool := decide (512 ≤ off) && decide (off < 512 + 8 * (A.L.length : Int))
def lnAt (A : Ma) (off : Int) : Ln := A.L.getD ((off - 512) / 8).toNat Ln.new
def Ma.put (A : Ma) (off : Int) (x : Ln) : Ma := { A with L := A.L.set ((off - 512) / 8).toNat x }
/-- The register at an even offset. -/
def Ma.rdR (A : Ma) (off : Int) : Ma × Int × Bool :=
  if A.isL off = true then (A.put off ((lnAt A off).rd ((off - 512) % 8)).1, ((lnAt A off).rd ((off - 512) % 8)).2, true)
  else if off = 256 then (A, A.k.read, true)
  else if 768 ≤ off ∧ off ≤ 774 then (A, (A.K.rd (off - 768)).1, (A.K.rd (off - 768)).2)
  else if 800 ≤ off ∧ off ≤ 804 then (A, (A.T.rd (off - 800)).1, (A.T.rd (off - 800)).2)
  else (A, (A.U.read off).1, (A.U.read off).2)
def Ma.wrR (A : Ma) (off v : Int) : Ma × Bool :=
  if A.isL off = true then (A.put off ((lnAt A off).wr ((off - 512) % 8) v), true)
  else if off = 256 then ({ A with k := A.k.write v }, true)
  else if 768 ≤ off ∧ off ≤ 774 then ({ A with K := (A.K.wr (off - 768) v).1 }, (A.K.wr (off - 768) v).2)
  else if 800 ≤ off ∧ off ≤ 804 then ({ A with T := (A.T.wr (off - 800) v).1 }, (A.T.wr (off - 800) v).2)
  else ({ A with U := (A.U.write off v).1 }, (A.U.write off v).2)
def Ma.read (A : Ma) (p : Int) (b : Bool) : Ma × Int × Int :=
  if physP p < 253952 then (A, readV A.M A.B (physP p) b, readT (2 * (A.M.length : Int)) A.B (physP p) b)
  else if b = false ∧ (physP p - 253952) % 2 = 1 then (A, 0, 1)
  else if (A.rdR ((physP p - 253952) / 2 * 2)).2.2 = false then (A, 0, 1)
  else ((A.rdR ((physP p - 253952) / 2 * 2)).1, (if b = false then (A.rdR ((physP p - 253952) / 2 * 2)).2.1 else if (physP p - 253952) % 2 = 1 then (A.rdR ((physP p - 253952) / 2 * 2)).2.1 / 256 else (A.rdR ((physP p - 253952) / 2 * 2)).2.1 % 256), 0)
def lowV18 (v : Int) (b : Bool) : Int := if b = true then v % 256 else v % 65536
def Ma.write (A : Ma) (p : Int) (b : Bool) (v : Int) : Ma × Int :=
  if physP p < 253952 then (if writeT (2 * (A.M.length : Int)) (physP p) b = 0 then ({ A with M := writeM A.M (physP p) b (lowV18 v b), B := writeB (2 * (A.M.length : Int)) A.B (physP p) b }, 0) else (A, writeT (2 * (A.M.length : Int)) (physP p) b))
  else if (physP p - 253952) % 2 = 1 then (A, 1)
  else if (A.wrR (physP p - 253952) (lowV18 v b)).2 = false then (A, 1)
  else ((A.wrR (physP p - 253952) (lowV18 v b)).1, 0)
def Ma.tick (A : Ma) : Ma :=
  { A with k := A.k.tick, L := A.L.map Ln.tick, K := (A.K.tick A.M A.B).1, T := (A.T.tick (A.K.tick A.M A.B).2.1 (A.K.tick A.M A.B).2.2).1, M := (A.T.tick (A.K.tick A.M A.B).2.1 (A.K.tick A.M A.B).2.2).2.1, B := (A.T.tick (A.K.tick A.M A.B).2.1 (A.K.tick A.M A.B).2.2).2.2 }
def reqL : List Ln → Int → List (Int × Int)
  | [], _ => []
  | x :: l, n => x.req n ++ reqL l (n + 1)
def Ma.req (A : Ma) : List (Int × Int) := A.k.req ++ A.K.req ++ A.T.req ++ reqL A.L 0
def Ma.acc (A : Ma) (v : Int) : Ma := { A with k := A.k.acc v, K := A.K.acc v, T := A.T.acc v }
def Ma.reset (A : Ma) : Ma := { A with k := A.k.reset, L := A.L.map Ln.reset, K := A.K.reset, T := A.T.reset, U := Un.z }
theorem aggM (w : World) : (isAgg 49).run Tryz.prog w = .ok true w := by kernel_rfl
theorem sizM (w : World) : (sizeOf 49).run Tryz.prog w = .ok 110 w := by kernel_rfl
end Go.Proofs.YtlegcfjafdihlaaGreatDoor
/-
  Walks over the calls of package memory and of its reference that only reckon: sizes, addresses, ranges. Condition: lists have at most 2^40 elements.
-/
namespace Go.Proofs.YtlegcfjafdihlaaGreatDoor
open Go.RowKit
set_option linter.unusedSimpArgs false
set_option maxHeartbeats 1000000

theorem ret_bool {a b : Bool} (h : a = b) : Ending.returned (.bool a) = .returned (.bool b) := by rw [h]
attribute [local irreducible] wpQuiet
theorem drewN_below {B : Nat} {a w : World} (h : Below B a w) (q : Nat) : Below B a (w.drewN q) := ⟨h.os, h.tape, h.output, h.size, h.block⟩

end Go.Proofs.YtlegcfjafdihlaaGreatDoor
