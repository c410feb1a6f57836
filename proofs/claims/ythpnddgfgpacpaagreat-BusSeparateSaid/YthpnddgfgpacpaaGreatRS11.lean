import Derived.Test.YthpnddgfgpacpaaGreatRS01
import Derived.Test.YthpnddgfgpacpaaGreatRS02
import Derived.Test.YthpnddgfgpacpaaGreatRS05
import Derived.Test.YthpnddgfgpacpaaGreatRS10
import Derived.Test.YthpnddgfgpacpaaGreatRS06
/-
  The bus, plain: a machine; what Right, Read, Write, Tick, Requests, Accept and Reset answer. No condition.
-/
namespace Go.Proofs.YthpnddgfgpacpaaGreat
open Go.RowKit
set_option linter.unusedSimpArgs false
set_option linter.unusedVariables false
set_option maxHeartbeats 4000000
set_option maxRecDepth 100000
attribute [local irreducible] wpQuiet

def lnL (x : Ln) : List Value := [.bool x.a, .bool x.b, .bool x.o, .int .i64 x.d, .bool x.e, .bool x.f, .int .i64 x.t, .int .i64 x.l, .string x.s]
def dkL (vs vb : Value) (K : Dk) : List Value := [vs, vb, .bool K.n, .bool K.r, .bool K.e, .int .i64 K.c, .int .i64 K.w, .int .i64 K.a, .int .i64 K.s, .int .i64 K.l]
def tpL (vs : Value) (K : Tp) : List Value := [vs, .int .i64 K.p, .bool K.n, .bool K.r, .bool K.e, .bool K.m, .bool K.d, .int .i64 K.c, .int .i64 K.k, .int .i64 K.a, .int .i64 K.l]
/-- A machine: the processor's cells; memory, bad addresses; the memory management unit; clock, lines, disk, tape; now, halted, waiting, power, the trap of the power. -/
structure Ma where
  C : List Value
  M : List Int
  B : List Int
  U : Un
  k : Ck
  L : List Ln
  K : Dk
  T : Tp
  now : Int
  h : Bool
  a : Bool
  pw : Int
  pt : Bool
def Ma.eL (A : Ma) : List Value := [.int .i64 A.now, .bool A.h, .bool A.a, .int .i64 A.pw, .bool A.pt]
def Ma.cells (A : Ma) (vm vb vl vs vd vt : Value) : List Value := maL A.C vm vb A.U.L A.k.L vl (dkL vs vd A.K) (tpL vt A.T) A.eL
/-- Its processor has ten cells, its unit 16 pages. -/
def Ma.ok (A : Ma) : Prop := A.C.length = 10 ∧ (∀ v ∈ A.C, v.oneCell' = true) ∧ A.U.ok
theorem Ma.len {A : Ma} (h : A.ok) (vs vd vt : Value) : MaLen A.C A.U.L A.k.L (dkL vs vd A.K) (tpL vt A.T) A.eL := ⟨h.1, Un.len h.2.2, rfl, rfl, rfl, rfl⟩
/-- A slice of lines that reads as l. -/
def Lns (w : World) (v : Value) (l : List Ln) : Prop := Rz w v l.length (l.flatMap lnL)
def LnsX (X : Nat → Prop) (w : World) (v : Value) (l : List Ln) : Prop := Sv X w v l.length (l.flatMap lnL)
/-- A machine in memory. -/
def MaX (X : Nat → Prop) (w : World) (x : Value) (A : Ma) : Prop := ∃ vm vb vl vs vd vt, x = .agg (A.cells vm vb vl vs vd vt).toArray ∧ ItsX X w vm A.M ∧ ItsX X w vb A.B ∧ LnsX X w vl A.L ∧ StsX X w vs A.K.D.S ∧ ItsX X w vd A.K.D.B ∧ StsX X w vt A.T.R
theorem MaX.below {X : Nat → Prop} {w w' : World} {x : Value} {A : Ma} (h : MaX X w x A) (hb : Below w.heap.size w w') : MaX X w' x A := by
  obtain ⟨vm, vb, vl, vs, vd, vt, e, h1, h2, h3, h4, h5, h6⟩ := h
  exact ⟨vm, vb, vl, vs, vd, vt, e, h1.below hb, h2.below hb, Sv.below h3 hb, h4.below hb, h5.below hb, h6.below hb⟩
def Ma.right (A : Ma) : Bool := decide (A.L.length ≤ 4) && A.L.all Ln.right && rightP A.M A.B && A.U.right && A.k.right && A.K.right && A.T.right
/-- A physical address, reduced. -/
def physP (p : Int) : Int := p % 262144
def Ma.isL (A : Ma) (off : Int) : Bool := decide (512 ≤ off) && decide (off < 512 + 8 * (A.L.length : Int))
def lnAt (A : Ma) (off : Int) : Ln := A.L.getD ((off - 512) / 8).toNat Ln.new
def Ma.put (A : Ma) (off : Int) (x : Ln) : Ma := { A with L := A.L.set ((off - 512) / 8).toNat x }
/-- The register at an even offset. -/
def Ma.rdR (A : Ma) (off : Int) : Ma × Int × Bool :=
  if A.isL off = true then (A.put off ((lnAt A off).rd ((off - 512) % 8)).1, ((lnAt A off).rd ((off - 512) % 8)).2, true)
  else if off = 256 then (A, A.k.read, true)
  else if 768 ≤ off ∧ off ≤ 774 then (A, (A.K.rd (off - 768)).1, (A.K.rd (off - 768)).2)
  else if 800 ≤ off ∧ off ≤ 804 then (A, (A.T.rd (off - 800)).1, (A.T.rd (off - 800)).2)
  else (A, (A.U.read off).1, (A.U.read off).2)
def Ma.wrR (A : Ma) (off v : Int) : Ma × Bool :=
  if A.isL off = true then (A.put off ((lnAt A off).wr ((off - 512) % 8) v), true)
  else if off = 256 then ({ A with k := A.k.write v }, true)
  else if 768 ≤ off ∧ off ≤ 774 then ({ A with K := (A.K.wr (off - 768) v).1 }, (A.K.wr (off - 768) v).2)
  else if 800 ≤ off ∧ off ≤ 804 then ({ A with T := (A.T.wr (off - 800) v).1 }, (A.T.wr (off - 800) v).2)
  else ({ A with U := (A.U.write off v).1 }, (A.U.write off v).2)
def Ma.read (A : Ma) (p : Int) (b : Bool) : Ma × Int × Int :=
  if physP p < 253952 then (A, readV A.M A.B (physP p) b, readT (2 * (A.M.length : Int)) A.B (physP p) b)
  else if b = false ∧ (physP p - 253952) % 2 = 1 then (A, 0, 1)
  else if (A.rdR ((physP p - 253952) / 2 * 2)).2.2 = false then (A, 0, 1)
  else ((A.rdR ((physP p - 253952) / 2 * 2)).1, (if b = false then (A.rdR ((physP p - 253952) / 2 * 2)).2.1 else if (physP p - 253952) % 2 = 1 then (A.rdR ((physP p - 253952) / 2 * 2)).2.1 / 256 else (A.rdR ((physP p - 253952) / 2 * 2)).2.1 % 256), 0)
def lowV18 (v : Int) (b : Bool) : Int := if b = true then v % 256 else v % 65536
def Ma.write (A : Ma) (p : Int) (b : Bool) (v : Int) : Ma × Int :=
  if physP p < 253952 then (if writeT (2 * (A.M.length : Int)) (physP p) b = 0 then ({ A with M := writeM A.M (physP p) b (lowV18 v b), B := writeB (2 * (A.M.length : Int)) A.B (physP p) b }, 0) else (A, writeT (2 * (A.M.length : Int)) (physP p) b))
  else if (physP p - 253952) % 2 = 1 then (A, 1)
  else if (A.wrR (physP p - 253952) (lowV18 v b)).2 = false then (A, 1)
  else ((A.wrR (physP p - 253952) (lowV18 v b)).1, 0)
def Ma.tick (A : Ma) : Ma :=
  { A with k := A.k.tick, L := A.L.map Ln.tick, K := (A.K.tick A.M A.B).1, T := (A.T.tick (A.K.tick A.M A.B).2.1 (A.K.tick A.M A.B).2.2).1, M := (A.T.tick (A.K.tick A.M A.B).2.1 (A.K.tick A.M A.B).2.2).2.1, B := (A.T.tick (A.K.tick A.M A.B).2.1 (A.K.tick A.M A.B).2.2).2.2 }
def reqL : List Ln → Int → List (Int × Int)
  | [], _ => []
  | x :: l, n => x.req n ++ reqL l (n + 1)
def Ma.req (A : Ma) : List (Int × Int) := A.k.req ++ A.K.req ++ A.T.req ++ reqL A.L 0
def Ma.acc (A : Ma) (v : Int) : Ma := { A with k := A.k.acc v, K := A.K.acc v, T := A.T.acc v }
def Ma.reset (A : Ma) : Ma := { A with k := A.k.reset, L := A.L.map Ln.reset, K := A.K.reset, T := A.T.reset, U := Un.z }
theorem aggM (w : World) : (isAgg 44).run Tryz.prog w = .ok true w := by kernel_rfl
theorem sizM (w : World) : (sizeOf 44).run Tryz.prog w = .ok 110 w := by kernel_rfl
end Go.Proofs.YthpnddgfgpacpaaGreat
/-
  The reference of package line. No condition.
-/
namespace Go.Proofs.YthpnddgfgpacpaaGreat
open Go.RowKit
set_option linter.unusedSimpArgs false
set_option linter.unusedVariables false
set_option maxHeartbeats 4000000
set_option maxRecDepth 100000
attribute [local irreducible] wpQuiet

theorem aggL (w : World) : (isAgg 68).run Tryz.prog w = .ok true w := by kernel_rfl
theorem sizL (w : World) : (sizeOf 68).run Tryz.prog w = .ok 9 w := by kernel_rfl
theorem two_newL (w : World) (cs ds : List Value) : Bag [(w.heap.size + 1, 68, ds), (w.heap.size, 68, cs)] w ((w.alloc (.cells cs.toArray 68)).alloc (.cells ds.toArray 68)) := by
  have h := ((Bag.nil w).new 68 cs).new 68 ds
  rw [show (w.alloc (.cells cs.toArray 68)).heap.size = w.heap.size + 1 from Array.size_push ..] at h
  exact h
theorem one_ln (a b o : Bool) (d : Int) (e f : Bool) (t l : Int) (s : ByteArray) : ∀ v ∈ ([.bool a, .bool b, .bool o, .int .i64 d, .bool e, .bool f, .int .i64 t, .int .i64 l, .string s] : List Value), v.oneCell' = true := by
  intro u hu
  simp at hu
  rcases hu with rfl | rfl | rfl | rfl | rfl | rfl | rfl | rfl | rfl <;> rfl
theorem and_64 (n : Int) : (bits .and .i64 n 64 != 0) = decide (n / 64 % 2 = 1) := by
  have h1 : bits .and .i64 n 64 = n / 64 % 2 * 64 := i_and (c := 64) (by decide) (field _ 6 1) (by intro h; omega)
  rw [h1, Bool.eq_iff_iff]; simp; omega
theorem rnewL_any (w : World) : Calls Tryz.prog 71 #[] w fun e' w' => e' = .returned (.agg #[.bool (Ln.new).a, .bool (Ln.new).b, .bool (Ln.new).o, .int .i64 (Ln.new).d, .bool (Ln.new).e, .bool (Ln.new).f, .int .i64 (Ln.new).t, .int .i64 (Ln.new).l, .string (Ln.new).s]) ∧ Below w.heap.size w w' := by
  go_enter Tryz.func71, Tryz.ntmps71
  go_wp2
  exact bodyPost_ret (results_c Tryz.results71 rfl ((((Bag.nil w).new 68 _).all _ _ _ List.mem_cons_self).loadVar rfl aggL sizL)) rfl ⟨rfl, ((Bag.nil w).new 68 _).below⟩
theorem rresetL_any (x : Ln) (w : World) : Calls Tryz.prog 65 #[.agg #[.bool (x).a, .bool (x).b, .bool (x).o, .int .i64 (x).d, .bool (x).e, .bool (x).f, .int .i64 (x).t, .int .i64 (x).l, .string (x).s]] w fun e' w' => e' = .returned (.agg #[.bool (x.reset).a, .bool (x.reset).b, .bool (x.reset).o, .int .i64 (x.reset).d, .bool (x.reset).e, .bool (x.reset).f, .int .i64 (x.reset).t, .int .i64 (x.reset).l, .string (x.reset).s]) ∧ Below w.heap.size w w' := by
  obtain ⟨a, b, o, d, e, f, t, l, s⟩ := x
  simp only [Ln.reset]
  go_enter Tryz.func65, Tryz.ntmps65
  go_wp2
  exact bodyPost_ret (results_c Tryz.results65 rfl (((two_newL w _ _).all _ _ _ List.mem_cons_self).loadVar rfl aggL sizL)) rfl ⟨rfl, (two_newL w _ _).below⟩
end Go.Proofs.YthpnddgfgpacpaaGreat
/-
  Right of the reference of package line. No condition.
-/
namespace Go.Proofs.YthpnddgfgpacpaaGreat
open Go.RowKit
set_option linter.unusedSimpArgs false
set_option linter.unusedVariables false
set_option maxHeartbeats 4000000
set_option maxRecDepth 100000
attribute [local irreducible] wpQuiet
theorem rrightL_0 (a b o : Bool) (d : Int) (e f : Bool) (t l : Int) (s : ByteArray) (c0 : d < 0) (w : World) : Calls Tryz.prog 30 #[.agg #[.bool a, .bool b, .bool o, .int .i64 d, .bool e, .bool f, .int .i64 t, .int .i64 l, .string s]] w fun e' w' => e' = .returned (.bool (false)) ∧ Below w.heap.size w w' := by
  have d0 : decide (d < 0) = true := decide_eq_true c0
  go_enter Tryz.func30, Tryz.ntmps30
  go_wp2
  go_ret
  exact ⟨rfl, ((Bag.nil w).new 68 _).below⟩
theorem rrightL_1 (a b o : Bool) (d : Int) (e f : Bool) (t l : Int) (s : ByteArray) (c0 : ¬ d < 0) (c1 : 255 < d) (w : World) : Calls Tryz.prog 30 #[.agg #[.bool a, .bool b, .bool o, .int .i64 d, .bool e, .bool f, .int .i64 t, .int .i64 l, .string s]] w fun e' w' => e' = .returned (.bool (false)) ∧ Below w.heap.size w w' := by
  have d0 : decide (d < 0) = false := decide_eq_false c0
  have d1 : decide (255 < d) = true := decide_eq_true c1
  go_enter Tryz.func30, Tryz.ntmps30
  go_wp2
  go_ret
  exact ⟨rfl, ((Bag.nil w).new 68 _).below⟩
theorem rrightL_2 (a b o : Bool) (d : Int) (e f : Bool) (t l : Int) (s : ByteArray) (c0 : ¬ d < 0) (c1 : ¬ 255 < d) (c2 : t < 0) (w : World) : Calls Tryz.prog 30 #[.agg #[.bool a, .bool b, .bool o, .int .i64 d, .bool e, .bool f, .int .i64 t, .int .i64 l, .string s]] w fun e' w' => e' = .returned (.bool (false)) ∧ Below w.heap.size w w' := by
  have d0 : decide (d < 0) = false := decide_eq_false c0
  have d1 : decide (255 < d) = false := decide_eq_false c1
  have d2 : decide (t < 0) = true := decide_eq_true c2
  go_enter Tryz.func30, Tryz.ntmps30
  go_wp2
  go_ret
  exact ⟨rfl, ((Bag.nil w).new 68 _).below⟩
theorem rrightL_3 (a b o : Bool) (d : Int) (e f : Bool) (t l : Int) (s : ByteArray) (c0 : ¬ d < 0) (c1 : ¬ 255 < d) (c2 : ¬ t < 0) (c3 : 255 < t) (w : World) : Calls Tryz.prog 30 #[.agg #[.bool a, .bool b, .bool o, .int .i64 d, .bool e, .bool f, .int .i64 t, .int .i64 l, .string s]] w fun e' w' => e' = .returned (.bool (false)) ∧ Below w.heap.size w w' := by
  have d0 : decide (d < 0) = false := decide_eq_false c0
  have d1 : decide (255 < d) = false := decide_eq_false c1
  have d2 : decide (t < 0) = false := decide_eq_false c2
  have d3 : decide (255 < t) = true := decide_eq_true c3
  go_enter Tryz.func30, Tryz.ntmps30
  go_wp2
  go_ret
  exact ⟨rfl, ((Bag.nil w).new 68 _).below⟩
theorem rrightL_4 (a b o : Bool) (d : Int) (e f : Bool) (t l : Int) (s : ByteArray) (c0 : ¬ d < 0) (c1 : ¬ 255 < d) (c2 : ¬ t < 0) (c3 : ¬ 255 < t) (c4 : 4096 < (s.size : Int)) (w : World) : Calls Tryz.prog 30 #[.agg #[.bool a, .bool b, .bool o, .int .i64 d, .bool e, .bool f, .int .i64 t, .int .i64 l, .string s]] w fun e' w' => e' = .returned (.bool (false)) ∧ Below w.heap.size w w' := by
  have d0 : decide (d < 0) = false := decide_eq_false c0
  have d1 : decide (255 < d) = false := decide_eq_false c1
  have d2 : decide (t < 0) = false := decide_eq_false c2
  have d3 : decide (255 < t) = false := decide_eq_false c3
  have d4 : decide (4096 < (s.size : Int)) = true := decide_eq_true c4
  go_enter Tryz.func30, Tryz.ntmps30
  go_wp2
  go_ret
  exact ⟨rfl, ((Bag.nil w).new 68 _).below⟩
theorem rrightL_5 (a b o : Bool) (d : Int) (e f : Bool) (t l : Int) (s : ByteArray) (c0 : ¬ d < 0) (c1 : ¬ 255 < d) (c2 : ¬ t < 0) (c3 : ¬ 255 < t) (c4 : ¬ 4096 < (s.size : Int)) (c5 : ¬ 0 ≤ l) (w : World) : Calls Tryz.prog 30 #[.agg #[.bool a, .bool b, .bool o, .int .i64 d, .bool e, .bool f, .int .i64 t, .int .i64 l, .string s]] w fun e' w' => e' = .returned (.bool (false)) ∧ Below w.heap.size w w' := by
  have d0 : decide (d < 0) = false := decide_eq_false c0
  have d1 : decide (255 < d) = false := decide_eq_false c1
  have d2 : decide (t < 0) = false := decide_eq_false c2
  have d3 : decide (255 < t) = false := decide_eq_false c3
  have d4 : decide (4096 < (s.size : Int)) = false := decide_eq_false c4
  have d5 : decide (0 ≤ l) = false := decide_eq_false c5
  go_enter Tryz.func30, Tryz.ntmps30
  go_wp2
  go_ret
  exact ⟨rfl, ((Bag.nil w).new 68 _).below⟩
theorem rrightL_6 (a b o : Bool) (d : Int) (e f : Bool) (t l : Int) (s : ByteArray) (c0 : ¬ d < 0) (c1 : ¬ 255 < d) (c2 : ¬ t < 0) (c3 : ¬ 255 < t) (c4 : ¬ 4096 < (s.size : Int)) (c5 : 0 ≤ l) (c6 : ¬ l ≤ 4) (w : World) : Calls Tryz.prog 30 #[.agg #[.bool a, .bool b, .bool o, .int .i64 d, .bool e, .bool f, .int .i64 t, .int .i64 l, .string s]] w fun e' w' => e' = .returned (.bool (false)) ∧ Below w.heap.size w w' := by
  have d0 : decide (d < 0) = false := decide_eq_false c0
  have d1 : decide (255 < d) = false := decide_eq_false c1
  have d2 : decide (t < 0) = false := decide_eq_false c2
  have d3 : decide (255 < t) = false := decide_eq_false c3
  have d4 : decide (4096 < (s.size : Int)) = false := decide_eq_false c4
  have d5 : decide (0 ≤ l) = true := decide_eq_true c5
  have d6 : decide (l ≤ 4) = false := decide_eq_false c6
  go_enter Tryz.func30, Tryz.ntmps30
  go_wp2
  go_ret
  exact ⟨rfl, ((Bag.nil w).new 68 _).below⟩
theorem rrightL_7 (a b o : Bool) (d : Int) (e f : Bool) (t l : Int) (s : ByteArray) (c0 : ¬ d < 0) (c1 : ¬ 255 < d) (c2 : ¬ t < 0) (c3 : ¬ 255 < t) (c4 : ¬ 4096 < (s.size : Int)) (c5 : 0 ≤ l) (c6 : l ≤ 4) (w : World) : Calls Tryz.prog 30 #[.agg #[.bool a, .bool b, .bool o, .int .i64 d, .bool e, .bool f, .int .i64 t, .int .i64 l, .string s]] w fun e' w' => e' = .returned (.bool (f == (l == 0))) ∧ Below w.heap.size w w' := by
  have d0 : decide (d < 0) = false := decide_eq_false c0
  have d1 : decide (255 < d) = false := decide_eq_false c1
  have d2 : decide (t < 0) = false := decide_eq_false c2
  have d3 : decide (255 < t) = false := decide_eq_false c3
  have d4 : decide (4096 < (s.size : Int)) = false := decide_eq_false c4
  have d5 : decide (0 ≤ l) = true := decide_eq_true c5
  have d6 : decide (l ≤ 4) = true := decide_eq_true c6
  go_enter Tryz.func30, Tryz.ntmps30
  go_wp2
  go_ret
  exact ⟨rfl, ((Bag.nil w).new 68 _).below⟩
theorem rrightL_any (x : Ln) (w : World) : Calls Tryz.prog 30 #[.agg #[.bool (x).a, .bool (x).b, .bool (x).o, .int .i64 (x).d, .bool (x).e, .bool (x).f, .int .i64 (x).t, .int .i64 (x).l, .string (x).s]] w fun e' w' => e' = .returned (.bool x.right) ∧ Below w.heap.size w w' := by
  obtain ⟨a, b, o, d, e, f, t, l, s⟩ := x
  by_cases c0 : d < 0
  · rw [show Ln.right ⟨a, b, o, d, e, f, t, l, s⟩ = false from by unfold Ln.right; simp; omega]
    exact rrightL_0 a b o d e f t l s c0 w
  by_cases c1 : 255 < d
  · rw [show Ln.right ⟨a, b, o, d, e, f, t, l, s⟩ = false from by unfold Ln.right; simp; omega]
    exact rrightL_1 a b o d e f t l s c0 c1 w
  by_cases c2 : t < 0
  · rw [show Ln.right ⟨a, b, o, d, e, f, t, l, s⟩ = false from by unfold Ln.right; simp; omega]
    exact rrightL_2 a b o d e f t l s c0 c1 c2 w
  by_cases c3 : 255 < t
  · rw [show Ln.right ⟨a, b, o, d, e, f, t, l, s⟩ = false from by unfold Ln.right; simp; omega]
    exact rrightL_3 a b o d e f t l s c0 c1 c2 c3 w
  by_cases c4 : 4096 < (s.size : Int)
  · rw [show Ln.right ⟨a, b, o, d, e, f, t, l, s⟩ = false from by unfold Ln.right; simp; omega]
    exact rrightL_4 a b o d e f t l s c0 c1 c2 c3 c4 w
  by_cases c5 : ¬ 0 ≤ l
  · rw [show Ln.right ⟨a, b, o, d, e, f, t, l, s⟩ = false from by unfold Ln.right; simp; omega]
    exact rrightL_5 a b o d e f t l s c0 c1 c2 c3 c4 c5 w
  replace c5 : 0 ≤ l := by omega
  by_cases c6 : ¬ l ≤ 4
  · rw [show Ln.right ⟨a, b, o, d, e, f, t, l, s⟩ = false from by unfold Ln.right; simp; omega]
    exact rrightL_6 a b o d e f t l s c0 c1 c2 c3 c4 c5 c6 w
  replace c6 : l ≤ 4 := by omega
  rw [show Ln.right ⟨a, b, o, d, e, f, t, l, s⟩ = (f == (l == 0)) from by
    unfold Ln.right
    have h0 : decide (l = 0) = (l == 0) := by rw [Bool.eq_iff_iff]; simp
    simp only [h0]
    rw [decide_eq_true (show 0 ≤ d by omega), decide_eq_true (show d ≤ 255 by omega), decide_eq_true (show 0 ≤ t by omega), decide_eq_true (show t ≤ 255 by omega), decide_eq_true (show s.size ≤ 4096 by omega), decide_eq_true c5, decide_eq_true c6]; rfl]
  exact rrightL_7 a b o d e f t l s c0 c1 c2 c3 c4 c5 c6 w
end Go.Proofs.YthpnddgfgpacpaaGreat
/-
  The reference of package clock. Condition: where said, the clock is valid.
-/
namespace Go.Proofs.YthpnddgfgpacpaaGreat
open Go.RowKit
set_option linter.unusedSimpArgs false
set_option linter.unusedVariables false
set_option maxHeartbeats 4000000
set_option maxRecDepth 100000
attribute [local irreducible] wpQuiet
theorem rright_0 (e r : Bool) (p l : Int)  (c0 : ¬ 1 ≤ p) (w : World) : Calls Tryz.prog 33 #[.agg #[.bool e, .bool r, .int .i64 p, .int .i64 l]] w fun e' w' => e' = .returned (.bool false) ∧ Below w.heap.size w w' := by
  have d0 : decide (1 ≤ p) = false := decide_eq_false c0
  go_enter Tryz.func33, Tryz.ntmps33
  go_wp2
  go_ret
  exact ⟨rfl, ((Bag.nil w).new 34 _).below⟩
theorem rright_1 (e r : Bool) (p l : Int) (c0 : 1 ≤ p) (c1 : ¬ p ≤ 65535) (w : World) : Calls Tryz.prog 33 #[.agg #[.bool e, .bool r, .int .i64 p, .int .i64 l]] w fun e' w' => e' = .returned (.bool false) ∧ Below w.heap.size w w' := by
  have d0 : decide (1 ≤ p) = true := decide_eq_true c0
  have d1 : decide (p ≤ 65535) = false := decide_eq_false c1
  go_enter Tryz.func33, Tryz.ntmps33
  go_wp2
  go_ret
  exact ⟨rfl, ((Bag.nil w).new 34 _).below⟩
theorem rright_2 (e r : Bool) (p l : Int) (c0 : 1 ≤ p) (c1 : p ≤ 65535) (c2 : ¬ 1 ≤ l) (w : World) : Calls Tryz.prog 33 #[.agg #[.bool e, .bool r, .int .i64 p, .int .i64 l]] w fun e' w' => e' = .returned (.bool false) ∧ Below w.heap.size w w' := by
  have d0 : decide (1 ≤ p) = true := decide_eq_true c0
  have d1 : decide (p ≤ 65535) = true := decide_eq_true c1
  have d2 : decide (1 ≤ l) = false := decide_eq_false c2
  go_enter Tryz.func33, Tryz.ntmps33
  go_wp2
  go_ret
  exact ⟨rfl, ((Bag.nil w).new 34 _).below⟩
theorem rright_3 (e r : Bool) (p l : Int) (c0 : 1 ≤ p) (c1 : p ≤ 65535) (c2 : 1 ≤ l) (c3 : ¬ l ≤ p) (w : World) : Calls Tryz.prog 33 #[.agg #[.bool e, .bool r, .int .i64 p, .int .i64 l]] w fun e' w' => e' = .returned (.bool false) ∧ Below w.heap.size w w' := by
  have d0 : decide (1 ≤ p) = true := decide_eq_true c0
  have d1 : decide (p ≤ 65535) = true := decide_eq_true c1
  have d2 : decide (1 ≤ l) = true := decide_eq_true c2
  have d3 : decide (l ≤ p) = false := decide_eq_false c3
  go_enter Tryz.func33, Tryz.ntmps33
  go_wp2
  go_ret
  exact ⟨rfl, ((Bag.nil w).new 34 _).below⟩
theorem rright_4 (e r : Bool) (p l : Int) (c0 : 1 ≤ p) (c1 : p ≤ 65535) (c2 : 1 ≤ l) (c3 : l ≤ p) (w : World) : Calls Tryz.prog 33 #[.agg #[.bool e, .bool r, .int .i64 p, .int .i64 l]] w fun e' w' => e' = .returned (.bool true) ∧ Below w.heap.size w w' := by
  have d0 : decide (1 ≤ p) = true := decide_eq_true c0
  have d1 : decide (p ≤ 65535) = true := decide_eq_true c1
  have d2 : decide (1 ≤ l) = true := decide_eq_true c2
  have d3 : decide (l ≤ p) = true := decide_eq_true c3
  go_enter Tryz.func33, Tryz.ntmps33
  go_wp2
  go_ret
  exact ⟨rfl, ((Bag.nil w).new 34 _).below⟩
theorem rright_any_13 (c : Ck) (w : World) : Calls Tryz.prog 33 #[.agg #[.bool c.e, .bool c.r, .int .i64 c.p, .int .i64 c.l]] w fun e' w' => e' = .returned (.bool c.right) ∧ Below w.heap.size w w' := by
  obtain ⟨e, r, p, l⟩ := c
  unfold Ck.right
  by_cases c0 : ¬ 1 ≤ p
  · have := rright_0 e r p l c0 w
    simpa [c0] using this
  replace c0 : 1 ≤ p := by omega
  by_cases c1 : ¬ p ≤ 65535
  · have := rright_1 e r p l c0 c1 w
    simpa [c0, c1] using this
  replace c1 : p ≤ 65535 := by omega
  by_cases c2 : ¬ 1 ≤ l
  · have := rright_2 e r p l c0 c1 c2 w
    simpa [c0, c1, c2] using this
  replace c2 : 1 ≤ l := by omega
  by_cases c3 : ¬ l ≤ p
  · have := rright_3 e r p l c0 c1 c2 c3 w
    simpa [c0, c1, c2, c3] using this
  replace c3 : l ≤ p := by omega
  have := rright_4 e r p l c0 c1 c2 c3 w
  simpa [c0, c1, c2, c3] using this
theorem rreset_any (c : Ck) (w : World) : Calls Tryz.prog 61 #[.agg #[.bool c.e, .bool c.r, .int .i64 c.p, .int .i64 c.l]] w fun e' w' => e' = .returned (.agg #[.bool (c.reset).e, .bool (c.reset).r, .int .i64 (c.reset).p, .int .i64 (c.reset).l]) ∧ Below w.heap.size w w' := by
  obtain ⟨e, r, p, l⟩ := c
  simp only [Ck.reset]
  go_enter Tryz.func61, Tryz.ntmps61
  go_wp2
  exact bodyPost_ret (results_c Tryz.results61 rfl (((two_new w _ _).all _ _ _ List.mem_cons_self).loadVar rfl aggK_13 sizK_13)) rfl ⟨rfl, (two_new w _ _).below⟩
theorem racc_any_13 (c : Ck) (v : Int) (w : World) : Calls Tryz.prog 57 #[.agg #[.bool c.e, .bool c.r, .int .i64 c.p, .int .i64 c.l], .int .i64 v] w fun e' w' => e' = .returned (.agg #[.bool (c.acc v).e, .bool (c.acc v).r, .int .i64 (c.acc v).p, .int .i64 (c.acc v).l]) ∧ Below w.heap.size w w' := by
  obtain ⟨e, r, p, l⟩ := c
  unfold Ck.acc
  by_cases hv : v = 64
  · subst hv
    go_enter Tryz.func57, Tryz.ntmps57
    go_wp2
    exact bodyPost_ret (results_c Tryz.results57 rfl (((two_new w _ _).all _ _ _ List.mem_cons_self).loadVar rfl aggK_13 sizK_13)) rfl ⟨rfl, (two_new w _ _).below⟩
  · rw [if_neg hv]
    have he : (v == 64) = false := by simpa using hv
    go_enter Tryz.func57, Tryz.ntmps57
    go_wp2
    exact bodyPost_ret (results_c Tryz.results57 rfl (((two_new w _ _).all _ _ _ List.mem_cons_self).loadVar rfl aggK_13 sizK_13)) rfl ⟨rfl, (two_new w _ _).below⟩
theorem and_bits (v : Int) : (bits .and .i64 v 64 != 0) = decide (v / 64 % 2 = 1) ∧ (bits .and .i64 v 128 != 0) = decide (v / 128 % 2 = 1) := by
  have h1 : bits .and .i64 v 64 = v / 64 % 2 * 64 := i_and (c := 64) (by decide) (field _ 6 1) (by intro h; omega)
  have h2 : bits .and .i64 v 128 = v / 128 % 2 * 128 := i_and (c := 128) (by decide) (field _ 7 1) (by intro h; omega)
  constructor
  · rw [h1, Bool.eq_iff_iff]; simp; omega
  · rw [h2, Bool.eq_iff_iff]; simp; omega
theorem rnew_any_13 (n : Int) (w : World) : Calls Tryz.prog 69 #[.int .i64 n] w fun e' w' => e' = .returned (.tuple #[.agg #[.bool ((newK n).1).e, .bool ((newK n).1).r, .int .i64 ((newK n).1).p, .int .i64 ((newK n).1).l], .int .i64 (newK n).2]) ∧ Below w.heap.size w w' := by
  unfold newK
  have hX := (Bag.nil w).new 34 [.bool false, .bool false, .int .i64 0, .int .i64 0]
  by_cases h1 : n < 1
  · have d1 : decide (n < 1) = true := decide_eq_true h1
    rw [if_neg (by omega)]
    go_enter Tryz.func69, Tryz.ntmps69
    go_wp2
    exact bodyPost_ret (results_ct Tryz.results69 rfl ((((Bag.nil w).new 34 _).all _ _ _ List.mem_cons_self).loadVar rfl aggK_13 sizK_13)) rfl ⟨rfl, ((Bag.nil w).new 34 _).below⟩
  · have d1 : decide (n < 1) = false := decide_eq_false h1
    by_cases h2 : 65535 < n
    · have d2 : decide (65535 < n) = true := decide_eq_true h2
      rw [if_neg (by omega)]
      go_enter Tryz.func69, Tryz.ntmps69
      go_wp2
      exact bodyPost_ret (results_ct Tryz.results69 rfl ((((Bag.nil w).new 34 _).all _ _ _ List.mem_cons_self).loadVar rfl aggK_13 sizK_13)) rfl ⟨rfl, ((Bag.nil w).new 34 _).below⟩
    · have d2 : decide (65535 < n) = false := decide_eq_false h2
      rw [if_pos (by omega)]
      go_enter Tryz.func69, Tryz.ntmps69
      go_wp2
      exact bodyPost_ret (results_ct Tryz.results69 rfl ((((Bag.nil w).new 34 _).all _ _ _ List.mem_cons_self).loadVar rfl aggK_13 sizK_13)) rfl ⟨rfl, ((Bag.nil w).new 34 _).below⟩
theorem rreq_any (c : Ck) (w : World) : Calls Tryz.prog 53 #[.agg #[.bool c.e, .bool c.r, .int .i64 c.p, .int .i64 c.l]] w fun e' w' => ∃ v, e' = .returned v ∧ Rqs w' v c.req ∧ Below w.heap.size w w' := by
  obtain ⟨e, r, p, l⟩ := c
  cases e <;> cases r
  · go_enter Tryz.func53, Tryz.ntmps53
    go_wp2
    go_ret
    exact ⟨_, rfl, Rw.nil _, ((Bag.nil w).new 34 _).below⟩
  · go_enter Tryz.func53, Tryz.ntmps53
    go_wp2
    go_ret
    exact ⟨_, rfl, Rw.nil _, ((Bag.nil w).new 34 _).below⟩
  · go_enter Tryz.func53, Tryz.ntmps53
    go_wp2
    go_ret
    exact ⟨_, rfl, Rw.nil _, ((Bag.nil w).new 34 _).below⟩
  · go_enter Tryz.func53, Tryz.ntmps53
    go_wp2
    go_ret
    exact ⟨_, rfl, rqs_two w _ [(6, 64)] 1 rfl, (((Bag.nil w).new 34 _).new 105 _).below⟩
end Go.Proofs.YthpnddgfgpacpaaGreat
/-
  word, bit, Reset, Accept, Requests, Mount, Read of the reference. No condition.
-/
namespace Go.Proofs.YthpnddgfgpacpaaGreat
open Go.RowKit
set_option linter.unusedSimpArgs false
set_option linter.unusedVariables false
set_option maxHeartbeats 4000000
set_option maxRecDepth 100000
attribute [local irreducible] wpQuiet

theorem rwordT_any (n : Int) (w : World) : Calls Tryz.prog 79 #[.int .i64 n] w fun e' w' => e' = .returned (.bool (wordV_17 n)) ∧ Below w.heap.size w w' := by
  have hB := Below.refl w.heap.size w
  unfold wordV_17
  by_cases h1 : 0 ≤ n
  · have d1 : decide (0 ≤ n) = true := decide_eq_true h1
    go_enter Tryz.func79, Tryz.ntmps79
    go_wp2
    go_ret
    exact ⟨by simp [h1], hB⟩
  · have d1 : decide (0 ≤ n) = false := decide_eq_false h1
    go_enter Tryz.func79, Tryz.ntmps79
    go_wp2
    go_ret
    exact ⟨by simp, hB⟩
theorem rresetT_any (K : Tp) (A1 : Option Addr) (n1 c1 : Nat) (w : World) : Calls Tryz.prog 63 #[.agg #[(.slice A1 n1 c1), .int .i64 (K).p, .bool (K).n, .bool (K).r, .bool (K).e, .bool (K).m, .bool (K).d, .int .i64 (K).c, .int .i64 (K).k, .int .i64 (K).a, .int .i64 (K).l]] w fun e' w' => e' = .returned (.agg #[(.slice A1 n1 c1), .int .i64 (K.reset).p, .bool (K.reset).n, .bool (K.reset).r, .bool (K.reset).e, .bool (K.reset).m, .bool (K.reset).d, .int .i64 (K.reset).c, .int .i64 (K.reset).k, .int .i64 (K.reset).a, .int .i64 (K.reset).l]) ∧ Below w.heap.size w w' := by
  obtain ⟨R, p, n, r, e, m, d, c, k, a, l⟩ := K
  unfold Tp.reset
  go_enter Tryz.func63, Tryz.ntmps63
  go_wp2
  exact bodyPost_ret (results_c Tryz.results63 rfl (((two_tp w _ _).all _ _ _ List.mem_cons_self).loadVar rfl aggT sizT)) rfl ⟨rfl, (two_tp w _ _).below⟩
theorem raccT_any (K : Tp) (v : Int) (A1 : Option Addr) (n1 c1 : Nat) (w : World) : Calls Tryz.prog 59 #[.agg #[(.slice A1 n1 c1), .int .i64 (K).p, .bool (K).n, .bool (K).r, .bool (K).e, .bool (K).m, .bool (K).d, .int .i64 (K).c, .int .i64 (K).k, .int .i64 (K).a, .int .i64 (K).l], .int .i64 v] w fun e' w' => e' = .returned (.agg #[(.slice A1 n1 c1), .int .i64 (K.acc v).p, .bool (K.acc v).n, .bool (K.acc v).r, .bool (K.acc v).e, .bool (K.acc v).m, .bool (K.acc v).d, .int .i64 (K.acc v).c, .int .i64 (K.acc v).k, .int .i64 (K.acc v).a, .int .i64 (K.acc v).l]) ∧ Below w.heap.size w w' := by
  obtain ⟨R, p, n, r, e, m, d, c, k, a, l⟩ := K
  unfold Tp.acc
  by_cases h : v = 164
  · subst h
    rw [if_pos rfl]
    go_enter Tryz.func59, Tryz.ntmps59
    go_wp2
    exact bodyPost_ret (results_c Tryz.results59 rfl (((two_tp w _ _).all _ _ _ List.mem_cons_self).loadVar rfl aggT sizT)) rfl ⟨rfl, (two_tp w _ _).below⟩
  · have hv : (v == 164) = false := by simpa using h
    rw [if_neg h]
    go_enter Tryz.func59, Tryz.ntmps59
    go_wp2
    exact bodyPost_ret (results_c Tryz.results59 rfl (((two_tp w _ _).all _ _ _ List.mem_cons_self).loadVar rfl aggT sizT)) rfl ⟨rfl, (two_tp w _ _).below⟩
theorem rreqT_any (K : Tp) (A1 : Option Addr) (n1 c1 : Nat) (w : World) : Calls Tryz.prog 55 #[.agg #[(.slice A1 n1 c1), .int .i64 (K).p, .bool (K).n, .bool (K).r, .bool (K).e, .bool (K).m, .bool (K).d, .int .i64 (K).c, .int .i64 (K).k, .int .i64 (K).a, .int .i64 (K).l]] w fun e' w' => ∃ v, e' = .returned v ∧ Rqs w' v K.req ∧ Below w.heap.size w w' := by
  obtain ⟨R, p, n, r, e, m, d, c, k, a, l⟩ := K
  have hX := (Bag.nil w).new 42 [(.slice A1 n1 c1), .int .i64 p, .bool n, .bool r, .bool e, .bool m, .bool d, .int .i64 c, .int .i64 k, .int .i64 a, .int .i64 l]
  cases n
  · go_enter Tryz.func55, Tryz.ntmps55
    go_wp2
    go_ret
    exact ⟨_, rfl, Rw.nil _, hX.below⟩
  · cases r
    · go_enter Tryz.func55, Tryz.ntmps55
      go_wp2
      go_ret
      exact ⟨_, rfl, Rw.nil _, hX.below⟩
    · go_enter Tryz.func55, Tryz.ntmps55
      go_wp2
      go_ret
      have hr := rqs_new (w.alloc (.cells ([(.slice A1 n1 c1), .int .i64 p, .bool true, .bool true, .bool e, .bool m, .bool d, .int .i64 c, .int .i64 k, .int .i64 a, .int .i64 l] : List Value).toArray 42)) [(5, 164)] 1 rfl
      rw [show (w.alloc (.cells ([(.slice A1 n1 c1), .int .i64 p, .bool true, .bool true, .bool e, .bool m, .bool d, .int .i64 c, .int .i64 k, .int .i64 a, .int .i64 l] : List Value).toArray 42)).heap.size = w.heap.size + 1 from Array.size_push ..] at hr
      exact ⟨_, rfl, hr, hX.below.alloc hX.below.size _⟩
end Go.Proofs.YthpnddgfgpacpaaGreat
