import Derived.Test.YthpnddgfgpacpaaGreatRW08
import Derived.Test.YthpnddgfgpacpaaGreatRW12
import Derived.Test.YthpnddgfgpacpaaGreatRW01
import Derived.Test.YthpnddgfgpacpaaGreatRW03
import Derived.Test.YthpnddgfgpacpaaGreatRW06
import Derived.Test.YthpnddgfgpacpaaGreatRW07
/-
  The tape unit: plain. No condition.
-/
namespace Go.Proofs.YthpnddgfgpacpaaGreat
open Go.RowKit
set_option linter.unusedSimpArgs false
set_option linter.unusedVariables false
set_option maxHeartbeats 4000000
set_option maxRecDepth 100000
attribute [local irreducible] wpQuiet

/-- A tape unit: its records; the place of the head; enabled, ready, error, mark, end; command, count, address, ticks left. -/
structure Tp where
  R : List ByteArray
  p : Int
  n : Bool
  r : Bool
  e : Bool
  m : Bool
  d : Bool
  c : Int
  k : Int
  a : Int
  l : Int
def Tp.z : Tp := ⟨[], 0, false, false, false, false, false, 0, 0, 0, 0⟩
def Tp.new (R : List ByteArray) : Tp := ⟨R, 0, false, true, false, false, false, 0, 0, 0, 0⟩
def shortV (R : List ByteArray) : Bool := R.all (fun s => decide (s.size ≤ 512))
def newT (R : List ByteArray) : Tp × Int := if 64 < R.length then (Tp.z, 12) else if shortV R = true then (Tp.new R, 0) else (Tp.z, 7)
def wordV_17 (n : Int) : Bool := decide (0 ≤ n) && decide (n ≤ 65535)
/-- Are its fields valid, but for the records' lengths? -/
def Tp.ok (K : Tp) : Bool := decide (K.R.length ≤ 64) && decide (0 ≤ K.p) && decide (K.p ≤ (K.R.length : Int)) && decide (0 ≤ K.c) && decide (K.c ≤ 6) && wordV_17 K.k && wordV_17 K.a && decide (0 ≤ K.l) && decide (K.l ≤ 16) && (K.r == decide (K.l = 0))
def Tp.right (K : Tp) : Bool := K.ok && shortV K.R
def stT (K : Tp) : Int := 2 * K.c + (if K.n = true then 64 else 0) + (if K.r = true then 128 else 0) + (if K.m = true then 256 else 0) + (if K.d = true then 512 else 0) + (if K.e = true then 32768 else 0)
def Tp.rd (K : Tp) (g : Int) : Int × Bool := if g = 0 then (stT K, true) else if g = 2 then (K.k, true) else if g = 4 then (K.a, true) else (0, false)
/-- A command is started. -/
def Tp.go (K : Tp) (q : Int) : Tp := if q = 0 ∨ q = 7 then { K with c := 0, e := false, m := false, d := false } else { K with c := q, e := false, m := false, d := false, r := false, l := 16 }
def Tp.wr (K : Tp) (g v : Int) : Tp × Bool :=
  if g = 0 then (if K.r = true ∧ v % 2 = 1 then ({ K with n := decide (v / 64 % 2 = 1) }.go (v / 2 % 8), true) else ({ K with n := decide (v / 64 % 2 = 1) }, true))
  else if g = 2 then (if K.r = true then { K with k := v % 65536 } else K, true)
  else if g = 4 then (if K.r = true then { K with a := v % 65536 } else K, true)
  else (K, false)
def Tp.acc (K : Tp) (v : Int) : Tp := if v = 164 then { K with n := false } else K
def Tp.req (K : Tp) : List (Int × Int) := if K.n = true ∧ K.r = true then [(5, 164)] else []
def Tp.reset (K : Tp) : Tp := { K with n := false, e := false, m := false, d := false, c := 0, l := 0, r := true }
/-- A record is appended. -/
def Tp.app (K : Tp) (s : ByteArray) : Tp := if 64 ≤ K.p then { K with e := true, d := true } else { K with R := K.R.take K.p.toNat ++ [s], p := K.p + 1 }
/-- The next record is passed. -/
def recV (K : Tp) (i : Int) : ByteArray := K.R.getD i.toNat ⟨#[]⟩
def Tp.pass (K : Tp) : Tp × Bool := if (K.R.length : Int) ≤ K.p then ({ K with e := true, d := true }, false) else ({ K with m := K.m || decide ((recV K K.p).size = 0), p := K.p + 1 }, true)
def Tp.back (K : Tp) : Tp := if K.p = 0 then { K with d := true } else { K with p := K.p - 1, m := K.m || decide ((recV K (K.p - 1)).size = 0) }
def clrV (B : List Int) (a : Int) : Nat → List Int
  | 0 => B
  | n + 1 => withoutP (clrV B a n) ((a + (n : Int)) / 2 * 2)
def splV (B : List Int) (a : Int) (n : Nat) : Bool := (List.range n).any (fun i => B.contains ((a + (i : Int)) / 2 * 2))
def lenR (K : Tp) : Nat := (recV K K.p).size
def cntR (K : Tp) : Nat := min K.k.toNat (lenR K)
def Tp.read (K : Tp) (M B : List Int) : Tp × List Int × List Int :=
  if (K.R.length : Int) ≤ K.p then (K.pass.1, M, B)
  else if inR (2 * (M.length : Int)) K.a (cntR K) = true then ({ K.pass.1 with e := K.e || decide (K.k < (lenR K : Int)), k := K.k - (cntR K : Int) }, storeN M K.a.toNat ((recV K K.p).data.toList.take (cntR K)), clrV B K.a (cntR K))
  else ({ K.pass.1 with e := true }, M, B)
def strV (l : List UInt8) : ByteArray := ⟨l.toArray⟩
def Tp.write (K : Tp) (M B : List Int) : Tp :=
  if (1 ≤ K.k ∧ K.k ≤ 512) ∧ inR (2 * (M.length : Int)) K.a K.k = true ∧ splV B K.a K.k.toNat = false then K.app (strV (bytesN M K.a.toNat K.k.toNat)) else { K with e := true }
def Tp.done (K : Tp) (M B : List Int) : Tp × List Int × List Int :=
  if K.c = 1 then K.read M B else if K.c = 2 then (K.write M B, M, B) else if K.c = 3 then (K.pass.1, M, B) else if K.c = 4 then (K.back, M, B) else if K.c = 5 then ({ K with p := 0 }, M, B) else if K.c = 6 then (K.app ⟨#[]⟩, M, B) else (K, M, B)
def Tp.tick (K : Tp) (M B : List Int) : Tp × List Int × List Int := if K.l ≤ 0 then (K, M, B) else if 1 < K.l then ({ K with l := K.l - 1 }, M, B) else { K with l := 0, r := true }.done M B
/-- A unit in memory. -/
def TpX (X : Nat → Prop) (w : World) (x : Value) (K : Tp) : Prop := ∃ vs, x = .agg #[vs, .int .i64 K.p, .bool K.n, .bool K.r, .bool K.e, .bool K.m, .bool K.d, .int .i64 K.c, .int .i64 K.k, .int .i64 K.a, .int .i64 K.l] ∧ StsX X w vs K.R
theorem TpX.below {X : Nat → Prop} {w w' : World} {x : Value} {K : Tp} (h : TpX X w x K) (hb : Below w.heap.size w w') : TpX X w' x K := by
  obtain ⟨vs, e, h1⟩ := h
  exact ⟨vs, e, h1.below hb⟩
theorem TpX.z (X : Nat → Prop) (w : World) : TpX X w (.agg #[.slice none 0 0, .int .i64 0, .bool false, .bool false, .bool false, .bool false, .bool false, .int .i64 0, .int .i64 0, .int .i64 0, .int .i64 0]) Tp.z := ⟨_, rfl, Sv.nil X w⟩
theorem wordV_iff_17 (n : Int) : wordV_17 n = true ↔ 0 ≤ n ∧ n ≤ 65535 := by unfold wordV_17; simp
theorem shortV_iff (R : List ByteArray) : shortV R = true ↔ ∀ s ∈ R, s.size ≤ 512 := by unfold shortV; simp
theorem Tp.ok_iff (K : Tp) : K.ok = true ↔ K.R.length ≤ 64 ∧ (0 ≤ K.p ∧ K.p ≤ (K.R.length : Int)) ∧ (0 ≤ K.c ∧ K.c ≤ 6) ∧ wordV_17 K.k = true ∧ wordV_17 K.a = true ∧ (0 ≤ K.l ∧ K.l ≤ 16) ∧ K.r = decide (K.l = 0) := by
  unfold Tp.ok; simp only [Bool.and_eq_true, decide_eq_true_eq, beq_iff_eq]; constructor
  · rintro ⟨⟨⟨⟨⟨⟨⟨⟨⟨h1, h2⟩, h3⟩, h4⟩, h5⟩, h6⟩, h7⟩, h8⟩, h9⟩, h10⟩; exact ⟨h1, ⟨h2, h3⟩, ⟨h4, h5⟩, h6, h7, ⟨h8, h9⟩, h10⟩
  · rintro ⟨h1, ⟨h2, h3⟩, ⟨h4, h5⟩, h6, h7, ⟨h8, h9⟩, h10⟩; exact ⟨⟨⟨⟨⟨⟨⟨⟨⟨h1, h2⟩, h3⟩, h4⟩, h5⟩, h6⟩, h7⟩, h8⟩, h9⟩, h10⟩
theorem aggT (w : World) : (isAgg 42).run Tryz.prog w = .ok true w := by kernel_rfl
theorem sizT (w : World) : (sizeOf 42).run Tryz.prog w = .ok 11 w := by kernel_rfl
theorem two_tp (w : World) (cs ds : List Value) : Bag [(w.heap.size + 1, 42, ds), (w.heap.size, 42, cs)] w ((w.alloc (.cells cs.toArray 42)).alloc (.cells ds.toArray 42)) := by
  have h := ((Bag.nil w).new 42 cs).new 42 ds
  rw [show (w.alloc (.cells cs.toArray 42)).heap.size = w.heap.size + 1 from Array.size_push ..] at h
  exact h
theorem one_tp {vs : Value} (h1 : vs.oneCell' = true) (p : Int) (n r e m d : Bool) (c k a l : Int) : ∀ v ∈ ([vs, .int .i64 p, .bool n, .bool r, .bool e, .bool m, .bool d, .int .i64 c, .int .i64 k, .int .i64 a, .int .i64 l] : List Value), v.oneCell' = true := by
  intro u hu
  simp at hu
  rcases hu with rfl | rfl | rfl | rfl | rfl | rfl | rfl | rfl | rfl | rfl | rfl <;> first | rfl | assumption
end Go.Proofs.YthpnddgfgpacpaaGreat
/-
  The bus, plain: a machine; what Right, Read, Write, Tick, Requests, Accept and Reset answer. No condition.
-/
namespace Go.Proofs.YthpnddgfgpacpaaGreat
open Go.RowKit
set_option linter.unusedSimpArgs false
set_option linter.unusedVariables false
set_option maxHeartbeats 4000000
set_option maxRecDepth 100000
attribute [local irreducible] wpQuiet

def lnL (x : Ln) : List Value := [.bool x.a, .bool x.b, .bool x.o, .int .i64 x.d, .bool x.e, .bool x.f, .int .i64 x.t, .int .i64 x.l, .string x.s]
def dkL (vs vb : Value) (K : Dk) : List Value := [vs, vb, .bool K.n, .bool K.r, .bool K.e, .int .i64 K.c, .int .i64 K.w, .int .i64 K.a, .int .i64 K.s, .int .i64 K.l]
def tpL (vs : Value) (K : Tp) : List Value := [vs, .int .i64 K.p, .bool K.n, .bool K.r, .bool K.e, .bool K.m, .bool K.d, .int .i64 K.c, .int .i64 K.k, .int .i64 K.a, .int .i64 K.l]
/-- A machine: the processor's cells; memory, bad addresses; the memory management unit; clock, lines, disk, tape; now, halted, waiting, power, the trap of the power. -/
structure Ma where
  C : List Value
  M : List Int
  B : List Int
  U : Un
  k : Ck
  L : List Ln
  K : Dk
  T : Tp
  now : Int
  h : Bool
  a : Bool
  pw : Int
  pt : Bool
def Ma.eL (A : Ma) : List Value := [.int .i64 A.now, .bool A.h, .bool A.a, .int .i64 A.pw, .bool A.pt]
def Ma.cells (A : Ma) (vm vb vl vs vd vt : Value) : List Value := maL A.C vm vb A.U.L A.k.L vl (dkL vs vd A.K) (tpL vt A.T) A.eL
/-- Its processor has ten cells, its unit 16 pages. -/
def Ma.ok (A : Ma) : Prop := A.C.length = 10 ∧ (∀ v ∈ A.C, v.oneCell' = true) ∧ A.U.ok
theorem Ma.len {A : Ma} (h : A.ok) (vs vd vt : Value) : MaLen A.C A.U.L A.k.L (dkL vs vd A.K) (tpL vt A.T) A.eL := ⟨h.1, Un.len h.2.2, rfl, rfl, rfl, rfl⟩
/-- A slice of lines that reads as l. -/
def Lns (w : World) (v : Value) (l : List Ln) : Prop := Rz w v l.length (l.flatMap lnL)
def LnsX (X : Nat → Prop) (w : World) (v : Value) (l : List Ln) : Prop := Sv X w v l.length (l.flatMap lnL)
/-- A machine in memory. -/
def MaX (X : Nat → Prop) (w : World) (x : Value) (A : Ma) : Prop := ∃ vm vb vl vs vd vt, x = .agg (A.cells vm vb vl vs vd vt).toArray ∧ ItsX X w vm A.M ∧ ItsX X w vb A.B ∧ LnsX X w vl A.L ∧ StsX X w vs A.K.D.S ∧ ItsX X w vd A.K.D.B ∧ StsX X w vt A.T.R
theorem MaX.below {X : Nat → Prop} {w w' : World} {x : Value} {A : Ma} (h : MaX X w x A) (hb : Below w.heap.size w w') : MaX X w' x A := by
  obtain ⟨vm, vb, vl, vs, vd, vt, e, h1, h2, h3, h4, h5, h6⟩ := h
  exact ⟨vm, vb, vl, vs, vd, vt, e, h1.below hb, h2.below hb, Sv.below h3 hb, h4.below hb, h5.below hb, h6.below hb⟩
def Ma.right (A : Ma) : Bool := decide (A.L.length ≤ 4) && A.L.all Ln.right && rightP A.M A.B && A.U.right && A.k.right && A.K.right && A.T.right
/-- A physical address, reduced. -/
def physP (p : Int) : Int := p % 262144
def Ma.isL (A : Ma) (off : Int) : Bool := decide (512 ≤ off) && decide (off < 512 + 8 * (A.L.length : Int))
def lnAt (A : Ma) (off : Int) : Ln := A.L.getD ((off - 512) / 8).toNat Ln.new
def Ma.put (A : Ma) (off : Int) (x : Ln) : Ma := { A with L := A.L.set ((off - 512) / 8).toNat x }
/-- The register at an even offset. -/
def Ma.rdR (A : Ma) (off : Int) : Ma × Int × Bool :=
  if A.isL off = true then (A.put off ((lnAt A off).rd ((off - 512) % 8)).1, ((lnAt A off).rd ((off - 512) % 8)).2, true)
  else if off = 256 then (A, A.k.read, true)
  else if 768 ≤ off ∧ off ≤ 774 then (A, (A.K.rd (off - 768)).1, (A.K.rd (off - 768)).2)
  else if 800 ≤ off ∧ off ≤ 804 then (A, (A.T.rd (off - 800)).1, (A.T.rd (off - 800)).2)
  else (A, (A.U.read off).1, (A.U.read off).2)
def Ma.wrR (A : Ma) (off v : Int) : Ma × Bool :=
  if A.isL off = true then (A.put off ((lnAt A off).wr ((off - 512) % 8) v), true)
  else if off = 256 then ({ A with k := A.k.write v }, true)
  else if 768 ≤ off ∧ off ≤ 774 then ({ A with K := (A.K.wr (off - 768) v).1 }, (A.K.wr (off - 768) v).2)
  else if 800 ≤ off ∧ off ≤ 804 then ({ A with T := (A.T.wr (off - 800) v).1 }, (A.T.wr (off - 800) v).2)
  else ({ A with U := (A.U.write off v).1 }, (A.U.write off v).2)
def Ma.read (A : Ma) (p : Int) (b : Bool) : Ma × Int × Int :=
  if physP p < 253952 then (A, readV A.M A.B (physP p) b, readT (2 * (A.M.length : Int)) A.B (physP p) b)
  else if b = false ∧ (physP p - 253952) % 2 = 1 then (A, 0, 1)
  else if (A.rdR ((physP p - 253952) / 2 * 2)).2.2 = false then (A, 0, 1)
  else ((A.rdR ((physP p - 253952) / 2 * 2)).1, (if b = false then (A.rdR ((physP p - 253952) / 2 * 2)).2.1 else if (physP p - 253952) % 2 = 1 then (A.rdR ((physP p - 253952) / 2 * 2)).2.1 / 256 else (A.rdR ((physP p - 253952) / 2 * 2)).2.1 % 256), 0)
def lowV18 (v : Int) (b : Bool) : Int := if b = true then v % 256 else v % 65536
def Ma.write (A : Ma) (p : Int) (b : Bool) (v : Int) : Ma × Int :=
  if physP p < 253952 then (if writeT (2 * (A.M.length : Int)) (physP p) b = 0 then ({ A with M := writeM A.M (physP p) b (lowV18 v b), B := writeB (2 * (A.M.length : Int)) A.B (physP p) b }, 0) else (A, writeT (2 * (A.M.length : Int)) (physP p) b))
  else if (physP p - 253952) % 2 = 1 then (A, 1)
  else if (A.wrR (physP p - 253952) (lowV18 v b)).2 = false then (A, 1)
  else ((A.wrR (physP p - 253952) (lowV18 v b)).1, 0)
def Ma.tick (A : Ma) : Ma :=
  { A with k := A.k.tick, L := A.L.map Ln.tick, K := (A.K.tick A.M A.B).1, T := (A.T.tick (A.K.tick A.M A.B).2.1 (A.K.tick A.M A.B).2.2).1, M := (A.T.tick (A.K.tick A.M A.B).2.1 (A.K.tick A.M A.B).2.2).2.1, B := (A.T.tick (A.K.tick A.M A.B).2.1 (A.K.tick A.M A.B).2.2).2.2 }
def reqL : List Ln → Int → List (Int × Int)
  | [], _ => []
  | x :: l, n => x.req n ++ reqL l (n + 1)
def Ma.req (A : Ma) : List (Int × Int) := A.k.req ++ A.K.req ++ A.T.req ++ reqL A.L 0
def Ma.acc (A : Ma) (v : Int) : Ma := { A with k := A.k.acc v, K := A.K.acc v, T := A.T.acc v }
def Ma.reset (A : Ma) : Ma := { A with k := A.k.reset, L := A.L.map Ln.reset, K := A.K.reset, T := A.T.reset, U := Un.z }
theorem aggM (w : World) : (isAgg 44).run Tryz.prog w = .ok true w := by kernel_rfl
theorem sizM (w : World) : (sizeOf 44).run Tryz.prog w = .ok 110 w := by kernel_rfl
end Go.Proofs.YthpnddgfgpacpaaGreat
/-
  The reference of package line. No condition.
-/
namespace Go.Proofs.YthpnddgfgpacpaaGreat
open Go.RowKit
set_option linter.unusedSimpArgs false
set_option linter.unusedVariables false
set_option maxHeartbeats 4000000
set_option maxRecDepth 100000
attribute [local irreducible] wpQuiet

theorem aggL (w : World) : (isAgg 68).run Tryz.prog w = .ok true w := by kernel_rfl
theorem sizL (w : World) : (sizeOf 68).run Tryz.prog w = .ok 9 w := by kernel_rfl
theorem two_newL (w : World) (cs ds : List Value) : Bag [(w.heap.size + 1, 68, ds), (w.heap.size, 68, cs)] w ((w.alloc (.cells cs.toArray 68)).alloc (.cells ds.toArray 68)) := by
  have h := ((Bag.nil w).new 68 cs).new 68 ds
  rw [show (w.alloc (.cells cs.toArray 68)).heap.size = w.heap.size + 1 from Array.size_push ..] at h
  exact h
theorem one_ln (a b o : Bool) (d : Int) (e f : Bool) (t l : Int) (s : ByteArray) : ∀ v ∈ ([.bool a, .bool b, .bool o, .int .i64 d, .bool e, .bool f, .int .i64 t, .int .i64 l, .string s] : List Value), v.oneCell' = true := by
  intro u hu
  simp at hu
  rcases hu with rfl | rfl | rfl | rfl | rfl | rfl | rfl | rfl | rfl <;> rfl
theorem and_64 (n : Int) : (bits .and .i64 n 64 != 0) = decide (n / 64 % 2 = 1) := by
  have h1 : bits .and .i64 n 64 = n / 64 % 2 * 64 := i_and (c := 64) (by decide) (field _ 6 1) (by intro h; omega)
  rw [h1, Bool.eq_iff_iff]; simp; omega
theorem rnewL_any (w : World) : Calls Tryz.prog 71 #[] w fun e' w' => e' = .returned (.agg #[.bool (Ln.new).a, .bool (Ln.new).b, .bool (Ln.new).o, .int .i64 (Ln.new).d, .bool (Ln.new).e, .bool (Ln.new).f, .int .i64 (Ln.new).t, .int .i64 (Ln.new).l, .string (Ln.new).s]) ∧ Below w.heap.size w w' := by
  go_enter Tryz.func71, Tryz.ntmps71
  go_wp2
  exact bodyPost_ret (results_c Tryz.results71 rfl ((((Bag.nil w).new 68 _).all _ _ _ List.mem_cons_self).loadVar rfl aggL sizL)) rfl ⟨rfl, ((Bag.nil w).new 68 _).below⟩
theorem rwr_any (x : Ln) (g n : Int) (w : World) : Calls Tryz.prog 105 #[.agg #[.bool (x).a, .bool (x).b, .bool (x).o, .int .i64 (x).d, .bool (x).e, .bool (x).f, .int .i64 (x).t, .int .i64 (x).l, .string (x).s], .int .i64 g, .int .i64 n] w fun e' w' => e' = .returned (.agg #[.bool (x.wr g n).a, .bool (x.wr g n).b, .bool (x.wr g n).o, .int .i64 (x.wr g n).d, .bool (x.wr g n).e, .bool (x.wr g n).f, .int .i64 (x.wr g n).t, .int .i64 (x.wr g n).l, .string (x.wr g n).s]) ∧ Below w.heap.size w w' := by
  obtain ⟨a, b, o, d, e, f, t, l, s⟩ := x
  have A := a255 n
  have A2 := and_64 n
  unfold Ln.wr
  generalize n % 256 = m at *
  generalize decide (n / 64 % 2 = 1) = q at *
  by_cases g0 : g = 0
  · subst g0
    go_enter Tryz.func105, Tryz.ntmps105
    go_wp2
    exact bodyPost_ret (results_c Tryz.results105 rfl (((two_newL w _ _).all _ _ _ List.mem_cons_self).loadVar rfl aggL sizL)) rfl ⟨rfl, (two_newL w _ _).below⟩
  have e0 : (g == 0) = false := by simpa using g0
  by_cases g4 : g = 4
  · subst g4
    go_enter Tryz.func105, Tryz.ntmps105
    go_wp2
    exact bodyPost_ret (results_c Tryz.results105 rfl (((two_newL w _ _).all _ _ _ List.mem_cons_self).loadVar rfl aggL sizL)) rfl ⟨rfl, (two_newL w _ _).below⟩
  have e4 : (g == 4) = false := by simpa using g4
  by_cases g6 : g = 6
  · subst g6
    cases f
    all_goals
      go_enter Tryz.func105, Tryz.ntmps105
      go_wp2
      exact bodyPost_ret (results_c Tryz.results105 rfl (((two_newL w _ _).all _ _ _ List.mem_cons_self).loadVar rfl aggL sizL)) rfl ⟨rfl, (two_newL w _ _).below⟩
  have e6 : (g == 6) = false := by simpa using g6
  rw [if_neg g0, if_neg g4, if_neg g6]
  go_enter Tryz.func105, Tryz.ntmps105
  go_wp2
  exact bodyPost_ret (results_c Tryz.results105 rfl (((two_newL w _ _).all _ _ _ List.mem_cons_self).loadVar rfl aggL sizL)) rfl ⟨rfl, (two_newL w _ _).below⟩
end Go.Proofs.YthpnddgfgpacpaaGreat
/-
  Right of the reference of package line. No condition.
-/
namespace Go.Proofs.YthpnddgfgpacpaaGreat
open Go.RowKit
set_option linter.unusedSimpArgs false
set_option linter.unusedVariables false
set_option maxHeartbeats 4000000
set_option maxRecDepth 100000
attribute [local irreducible] wpQuiet
theorem rrightL_0 (a b o : Bool) (d : Int) (e f : Bool) (t l : Int) (s : ByteArray) (c0 : d < 0) (w : World) : Calls Tryz.prog 30 #[.agg #[.bool a, .bool b, .bool o, .int .i64 d, .bool e, .bool f, .int .i64 t, .int .i64 l, .string s]] w fun e' w' => e' = .returned (.bool (false)) ∧ Below w.heap.size w w' := by
  have d0 : decide (d < 0) = true := decide_eq_true c0
  go_enter Tryz.func30, Tryz.ntmps30
  go_wp2
  go_ret
  exact ⟨rfl, ((Bag.nil w).new 68 _).below⟩
theorem rrightL_1 (a b o : Bool) (d : Int) (e f : Bool) (t l : Int) (s : ByteArray) (c0 : ¬ d < 0) (c1 : 255 < d) (w : World) : Calls Tryz.prog 30 #[.agg #[.bool a, .bool b, .bool o, .int .i64 d, .bool e, .bool f, .int .i64 t, .int .i64 l, .string s]] w fun e' w' => e' = .returned (.bool (false)) ∧ Below w.heap.size w w' := by
  have d0 : decide (d < 0) = false := decide_eq_false c0
  have d1 : decide (255 < d) = true := decide_eq_true c1
  go_enter Tryz.func30, Tryz.ntmps30
  go_wp2
  go_ret
  exact ⟨rfl, ((Bag.nil w).new 68 _).below⟩
theorem rrightL_2 (a b o : Bool) (d : Int) (e f : Bool) (t l : Int) (s : ByteArray) (c0 : ¬ d < 0) (c1 : ¬ 255 < d) (c2 : t < 0) (w : World) : Calls Tryz.prog 30 #[.agg #[.bool a, .bool b, .bool o, .int .i64 d, .bool e, .bool f, .int .i64 t, .int .i64 l, .string s]] w fun e' w' => e' = .returned (.bool (false)) ∧ Below w.heap.size w w' := by
  have d0 : decide (d < 0) = false := decide_eq_false c0
  have d1 : decide (255 < d) = false := decide_eq_false c1
  have d2 : decide (t < 0) = true := decide_eq_true c2
  go_enter Tryz.func30, Tryz.ntmps30
  go_wp2
  go_ret
  exact ⟨rfl, ((Bag.nil w).new 68 _).below⟩
theorem rrightL_3 (a b o : Bool) (d : Int) (e f : Bool) (t l : Int) (s : ByteArray) (c0 : ¬ d < 0) (c1 : ¬ 255 < d) (c2 : ¬ t < 0) (c3 : 255 < t) (w : World) : Calls Tryz.prog 30 #[.agg #[.bool a, .bool b, .bool o, .int .i64 d, .bool e, .bool f, .int .i64 t, .int .i64 l, .string s]] w fun e' w' => e' = .returned (.bool (false)) ∧ Below w.heap.size w w' := by
  have d0 : decide (d < 0) = false := decide_eq_false c0
  have d1 : decide (255 < d) = false := decide_eq_false c1
  have d2 : decide (t < 0) = false := decide_eq_false c2
  have d3 : decide (255 < t) = true := decide_eq_true c3
  go_enter Tryz.func30, Tryz.ntmps30
  go_wp2
  go_ret
  exact ⟨rfl, ((Bag.nil w).new 68 _).below⟩
theorem rrightL_4 (a b o : Bool) (d : Int) (e f : Bool) (t l : Int) (s : ByteArray) (c0 : ¬ d < 0) (c1 : ¬ 255 < d) (c2 : ¬ t < 0) (c3 : ¬ 255 < t) (c4 : 4096 < (s.size : Int)) (w : World) : Calls Tryz.prog 30 #[.agg #[.bool a, .bool b, .bool o, .int .i64 d, .bool e, .bool f, .int .i64 t, .int .i64 l, .string s]] w fun e' w' => e' = .returned (.bool (false)) ∧ Below w.heap.size w w' := by
  have d0 : decide (d < 0) = false := decide_eq_false c0
  have d1 : decide (255 < d) = false := decide_eq_false c1
  have d2 : decide (t < 0) = false := decide_eq_false c2
  have d3 : decide (255 < t) = false := decide_eq_false c3
  have d4 : decide (4096 < (s.size : Int)) = true := decide_eq_true c4
  go_enter Tryz.func30, Tryz.ntmps30
  go_wp2
  go_ret
  exact ⟨rfl, ((Bag.nil w).new 68 _).below⟩
theorem rrightL_5 (a b o : Bool) (d : Int) (e f : Bool) (t l : Int) (s : ByteArray) (c0 : ¬ d < 0) (c1 : ¬ 255 < d) (c2 : ¬ t < 0) (c3 : ¬ 255 < t) (c4 : ¬ 4096 < (s.size : Int)) (c5 : ¬ 0 ≤ l) (w : World) : Calls Tryz.prog 30 #[.agg #[.bool a, .bool b, .bool o, .int .i64 d, .bool e, .bool f, .int .i64 t, .int .i64 l, .string s]] w fun e' w' => e' = .returned (.bool (false)) ∧ Below w.heap.size w w' := by
  have d0 : decide (d < 0) = false := decide_eq_false c0
  have d1 : decide (255 < d) = false := decide_eq_false c1
  have d2 : decide (t < 0) = false := decide_eq_false c2
  have d3 : decide (255 < t) = false := decide_eq_false c3
  have d4 : decide (4096 < (s.size : Int)) = false := decide_eq_false c4
  have d5 : decide (0 ≤ l) = false := decide_eq_false c5
  go_enter Tryz.func30, Tryz.ntmps30
  go_wp2
  go_ret
  exact ⟨rfl, ((Bag.nil w).new 68 _).below⟩
theorem rrightL_6 (a b o : Bool) (d : Int) (e f : Bool) (t l : Int) (s : ByteArray) (c0 : ¬ d < 0) (c1 : ¬ 255 < d) (c2 : ¬ t < 0) (c3 : ¬ 255 < t) (c4 : ¬ 4096 < (s.size : Int)) (c5 : 0 ≤ l) (c6 : ¬ l ≤ 4) (w : World) : Calls Tryz.prog 30 #[.agg #[.bool a, .bool b, .bool o, .int .i64 d, .bool e, .bool f, .int .i64 t, .int .i64 l, .string s]] w fun e' w' => e' = .returned (.bool (false)) ∧ Below w.heap.size w w' := by
  have d0 : decide (d < 0) = false := decide_eq_false c0
  have d1 : decide (255 < d) = false := decide_eq_false c1
  have d2 : decide (t < 0) = false := decide_eq_false c2
  have d3 : decide (255 < t) = false := decide_eq_false c3
  have d4 : decide (4096 < (s.size : Int)) = false := decide_eq_false c4
  have d5 : decide (0 ≤ l) = true := decide_eq_true c5
  have d6 : decide (l ≤ 4) = false := decide_eq_false c6
  go_enter Tryz.func30, Tryz.ntmps30
  go_wp2
  go_ret
  exact ⟨rfl, ((Bag.nil w).new 68 _).below⟩
theorem rrightL_7 (a b o : Bool) (d : Int) (e f : Bool) (t l : Int) (s : ByteArray) (c0 : ¬ d < 0) (c1 : ¬ 255 < d) (c2 : ¬ t < 0) (c3 : ¬ 255 < t) (c4 : ¬ 4096 < (s.size : Int)) (c5 : 0 ≤ l) (c6 : l ≤ 4) (w : World) : Calls Tryz.prog 30 #[.agg #[.bool a, .bool b, .bool o, .int .i64 d, .bool e, .bool f, .int .i64 t, .int .i64 l, .string s]] w fun e' w' => e' = .returned (.bool (f == (l == 0))) ∧ Below w.heap.size w w' := by
  have d0 : decide (d < 0) = false := decide_eq_false c0
  have d1 : decide (255 < d) = false := decide_eq_false c1
  have d2 : decide (t < 0) = false := decide_eq_false c2
  have d3 : decide (255 < t) = false := decide_eq_false c3
  have d4 : decide (4096 < (s.size : Int)) = false := decide_eq_false c4
  have d5 : decide (0 ≤ l) = true := decide_eq_true c5
  have d6 : decide (l ≤ 4) = true := decide_eq_true c6
  go_enter Tryz.func30, Tryz.ntmps30
  go_wp2
  go_ret
  exact ⟨rfl, ((Bag.nil w).new 68 _).below⟩
theorem rrightL_any (x : Ln) (w : World) : Calls Tryz.prog 30 #[.agg #[.bool (x).a, .bool (x).b, .bool (x).o, .int .i64 (x).d, .bool (x).e, .bool (x).f, .int .i64 (x).t, .int .i64 (x).l, .string (x).s]] w fun e' w' => e' = .returned (.bool x.right) ∧ Below w.heap.size w w' := by
  obtain ⟨a, b, o, d, e, f, t, l, s⟩ := x
  by_cases c0 : d < 0
  · rw [show Ln.right ⟨a, b, o, d, e, f, t, l, s⟩ = false from by unfold Ln.right; simp; omega]
    exact rrightL_0 a b o d e f t l s c0 w
  by_cases c1 : 255 < d
  · rw [show Ln.right ⟨a, b, o, d, e, f, t, l, s⟩ = false from by unfold Ln.right; simp; omega]
    exact rrightL_1 a b o d e f t l s c0 c1 w
  by_cases c2 : t < 0
  · rw [show Ln.right ⟨a, b, o, d, e, f, t, l, s⟩ = false from by unfold Ln.right; simp; omega]
    exact rrightL_2 a b o d e f t l s c0 c1 c2 w
  by_cases c3 : 255 < t
  · rw [show Ln.right ⟨a, b, o, d, e, f, t, l, s⟩ = false from by unfold Ln.right; simp; omega]
    exact rrightL_3 a b o d e f t l s c0 c1 c2 c3 w
  by_cases c4 : 4096 < (s.size : Int)
  · rw [show Ln.right ⟨a, b, o, d, e, f, t, l, s⟩ = false from by unfold Ln.right; simp; omega]
    exact rrightL_4 a b o d e f t l s c0 c1 c2 c3 c4 w
  by_cases c5 : ¬ 0 ≤ l
  · rw [show Ln.right ⟨a, b, o, d, e, f, t, l, s⟩ = false from by unfold Ln.right; simp; omega]
    exact rrightL_5 a b o d e f t l s c0 c1 c2 c3 c4 c5 w
  replace c5 : 0 ≤ l := by omega
  by_cases c6 : ¬ l ≤ 4
  · rw [show Ln.right ⟨a, b, o, d, e, f, t, l, s⟩ = false from by unfold Ln.right; simp; omega]
    exact rrightL_6 a b o d e f t l s c0 c1 c2 c3 c4 c5 c6 w
  replace c6 : l ≤ 4 := by omega
  rw [show Ln.right ⟨a, b, o, d, e, f, t, l, s⟩ = (f == (l == 0)) from by
    unfold Ln.right
    have h0 : decide (l = 0) = (l == 0) := by rw [Bool.eq_iff_iff]; simp
    simp only [h0]
    rw [decide_eq_true (show 0 ≤ d by omega), decide_eq_true (show d ≤ 255 by omega), decide_eq_true (show 0 ≤ t by omega), decide_eq_true (show t ≤ 255 by omega), decide_eq_true (show s.size ≤ 4096 by omega), decide_eq_true c5, decide_eq_true c6]; rfl]
  exact rrightL_7 a b o d e f t l s c0 c1 c2 c3 c4 c5 c6 w
end Go.Proofs.YthpnddgfgpacpaaGreat
