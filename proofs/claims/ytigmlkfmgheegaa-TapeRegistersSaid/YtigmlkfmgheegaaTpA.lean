/-
  The tape unit: plain. No condition.
-/
import Derived.Test.YtigmlkfmgheegaaDvH
import Derived.Test.YtigmlkfmgheegaaMeA
namespace Go.Proofs.Ytigmlkfmgheegaa
open Go.RowKit
set_option linter.unusedSimpArgs false
set_option linter.unusedVariables false
set_option maxHeartbeats 4000000
set_option maxRecDepth 100000
attribute [local irreducible] wpQuiet

/-- A tape unit: its records; the place of the head; enabled, ready, error, mark, end; command, count, address, ticks left. -/
structure Tp where
  R : List ByteArray
  p : Int
  n : Bool
  r : Bool
  e : Bool
  m : Bool
  d : Bool
  c : Int
  k : Int
  a : Int
  l : Int
def Tp.z : Tp := ⟨[], 0, false, false, false, false, false, 0, 0, 0, 0⟩
def Tp.new (R : List ByteArray) : Tp := ⟨R, 0, false, true, false, false, false, 0, 0, 0, 0⟩
def shortV (R : List ByteArray) : Bool := R.all (fun s => decide (s.size ≤ 512))
def newT (R : List ByteArray) : Tp × Int := if 64 < R.length then (Tp.z, 12) else if shortV R = true then (Tp.new R, 0) else (Tp.z, 7)
def wordV (n : Int) : Bool := decide (0 ≤ n) && decide (n ≤ 65535)
/-- Are its fields valid, but for the records' lengths? -/
def Tp.ok (K : Tp) : Bool := decide (K.R.length ≤ 64) && decide (0 ≤ K.p) && decide (K.p ≤ (K.R.length : Int)) && decide (0 ≤ K.c) && decide (K.c ≤ 6) && wordV K.k && wordV K.a && decide (0 ≤ K.l) && decide (K.l ≤ 16) && (K.r == decide (K.l = 0))
def Tp.right (K : Tp) : Bool := K.ok && shortV K.R
def stT (K : Tp) : Int := 2 * K.c + (if K.n = true then 64 else 0) + (if K.r = true then 128 else 0) + (if K.m = true then 256 else 0) + (if K.d = true then 512 else 0) + (if K.e = true then 32768 else 0)
def Tp.rd (K : Tp) (g : Int) : Int × Bool := if g = 0 then (stT K, true) else if g = 2 then (K.k, true) else if g = 4 then (K.a, true) else (0, false)
/-- A command is started. -/
def Tp.go (K : Tp) (q : Int) : Tp := if q = 0 ∨ q = 7 then { K with c := 0, e := false, m := false, d := false } else { K with c := q, e := false, m := false, d := false, r := false, l := 16 }
def Tp.wr (K : Tp) (g v : Int) : Tp × Bool :=
  if g = 0 then (if K.r = true ∧ v % 2 = 1 then ({ K with n := decide (v / 64 % 2 = 1) }.go (v / 2 % 8), true) else ({ K with n := decide (v / 64 % 2 = 1) }, true))
  else if g = 2 then (if K.r = true then { K with k := v % 65536 } else K, true)
  else if g = 4 then (if K.r = true then { K with a := v % 65536 } else K, true)
  else (K, false)
def Tp.acc (K : Tp) (v : Int) : Tp := if v = 164 then { K with n := false } else K
def Tp.req (K : Tp) : List (Int × Int) := if K.n = true ∧ K.r = true then [(5, 164)] else []
def Tp.reset (K : Tp) : Tp := { K with n := false, e := false, m := false, d := false, c := 0, l := 0, r := true }
def Tp.mount (K : Tp) : Tp := if K.l = 0 then { K with p := 0 } else { K with p := 0, l := 0, r := true, e := true }
/-- A record is appended. -/
def Tp.app (K : Tp) (s : ByteArray) : Tp := if 64 ≤ K.p then { K with e := true, d := true } else { K with R := K.R.take K.p.toNat ++ [s], p := K.p + 1 }
/-- The next record is passed. -/
def recV (K : Tp) (i : Int) : ByteArray := K.R.getD i.toNat ⟨#[]⟩
def Tp.pass (K : Tp) : Tp × Bool := if (K.R.length : Int) ≤ K.p then ({ K with e := true, d := true }, false) else ({ K with m := K.m || decide ((recV K K.p).size = 0), p := K.p + 1 }, true)
def Tp.back (K : Tp) : Tp := if K.p = 0 then { K with d := true } else { K with p := K.p - 1, m := K.m || decide ((recV K (K.p - 1)).size = 0) }
def clrV (B : List Int) (a : Int) : Nat → List Int
  | 0 => B
  | n + 1 => withoutP (clrV B a n) ((a + (n : Int)) / 2 * 2)
def splV (B : List Int) (a : Int) (n : Nat) : Bool := (List.range n).any (fun i => B.contains ((a + (i : Int)) / 2 * 2))
def cutV (s : ByteArray) (k : Nat) : ByteArray := ⟨(s.data.toList.take k).toArray⟩
def lenR (K : Tp) : Nat := (recV K K.p).size
def cntR (K : Tp) : Nat := min K.k.toNat (lenR K)
def Tp.read (K : Tp) (M B : List Int) : Tp × List Int × List Int :=
  if (K.R.length : Int) ≤ K.p then (K.pass.1, M, B)
  else if inR (2 * (M.length : Int)) K.a (cntR K) = true then ({ K.pass.1 with e := K.e || decide (K.k < (lenR K : Int)), k := K.k - (cntR K : Int) }, storeN M K.a.toNat ((recV K K.p).data.toList.take (cntR K)), clrV B K.a (cntR K))
  else ({ K.pass.1 with e := true }, M, B)
def strV (l : List UInt8) : ByteArray := ⟨l.toArray⟩
def Tp.write (K : Tp) (M B : List Int) : Tp :=
  if (1 ≤ K.k ∧ K.k ≤ 512) ∧ inR (2 * (M.length : Int)) K.a K.k = true ∧ splV B K.a K.k.toNat = false then K.app (strV (bytesN M K.a.toNat K.k.toNat)) else { K with e := true }
def Tp.done (K : Tp) (M B : List Int) : Tp × List Int × List Int :=
  if K.c = 1 then K.read M B else if K.c = 2 then (K.write M B, M, B) else if K.c = 3 then (K.pass.1, M, B) else if K.c = 4 then (K.back, M, B) else if K.c = 5 then ({ K with p := 0 }, M, B) else if K.c = 6 then (K.app ⟨#[]⟩, M, B) else (K, M, B)
def Tp.tick (K : Tp) (M B : List Int) : Tp × List Int × List Int := if K.l ≤ 0 then (K, M, B) else if 1 < K.l then ({ K with l := K.l - 1 }, M, B) else { K with l := 0, r := true }.done M B
/-- A unit in memory. -/
def TpX (X : Nat → Prop) (w : World) (x : Value) (K : Tp) : Prop := ∃ vs, x = .agg #[vs, .int .i64 K.p, .bool K.n, .bool K.r, .bool K.e, .bool K.m, .bool K.d, .int .i64 K.c, .int .i64 K.k, .int .i64 K.a, .int .i64 K.l] ∧ StsX X w vs K.R
theorem TpX.below {X : Nat → Prop} {w w' : World} {x : Value} {K : Tp} (h : TpX X w x K) (hb : Below w.heap.size w w') : TpX X w' x K := by
  obtain ⟨vs, e, h1⟩ := h
  exact ⟨vs, e, h1.below hb⟩
theorem TpX.z (X : Nat → Prop) (w : World) : TpX X w (.agg #[.slice none 0 0, .int .i64 0, .bool false, .bool false, .bool false, .bool false, .bool false, .int .i64 0, .int .i64 0, .int .i64 0, .int .i64 0]) Tp.z := ⟨_, rfl, Sv.nil X w⟩
theorem wordV_iff (n : Int) : wordV n = true ↔ 0 ≤ n ∧ n ≤ 65535 := by unfold wordV; simp
theorem shortV_iff (R : List ByteArray) : shortV R = true ↔ ∀ s ∈ R, s.size ≤ 512 := by unfold shortV; simp
theorem Tp.ok_iff (K : Tp) : K.ok = true ↔ K.R.length ≤ 64 ∧ (0 ≤ K.p ∧ K.p ≤ (K.R.length : Int)) ∧ (0 ≤ K.c ∧ K.c ≤ 6) ∧ wordV K.k = true ∧ wordV K.a = true ∧ (0 ≤ K.l ∧ K.l ≤ 16) ∧ K.r = decide (K.l = 0) := by
  unfold Tp.ok; simp only [Bool.and_eq_true, decide_eq_true_eq, beq_iff_eq]; constructor
  · rintro ⟨⟨⟨⟨⟨⟨⟨⟨⟨h1, h2⟩, h3⟩, h4⟩, h5⟩, h6⟩, h7⟩, h8⟩, h9⟩, h10⟩; exact ⟨h1, ⟨h2, h3⟩, ⟨h4, h5⟩, h6, h7, ⟨h8, h9⟩, h10⟩
  · rintro ⟨h1, ⟨h2, h3⟩, ⟨h4, h5⟩, h6, h7, ⟨h8, h9⟩, h10⟩; exact ⟨⟨⟨⟨⟨⟨⟨⟨⟨h1, h2⟩, h3⟩, h4⟩, h5⟩, h6⟩, h7⟩, h8⟩, h9⟩, h10⟩
theorem aggT (w : World) : (isAgg 24).run Try.prog w = .ok true w := by kernel_rfl
theorem sizT (w : World) : (sizeOf 24).run Try.prog w = .ok 11 w := by kernel_rfl
theorem two_tp (w : World) (cs ds : List Value) : Bag [(w.heap.size + 1, 24, ds), (w.heap.size, 24, cs)] w ((w.alloc (.cells cs.toArray 24)).alloc (.cells ds.toArray 24)) := by
  have h := ((Bag.nil w).new 24 cs).new 24 ds
  rw [show (w.alloc (.cells cs.toArray 24)).heap.size = w.heap.size + 1 from Array.size_push ..] at h
  exact h
theorem one_tp {vs : Value} (h1 : vs.oneCell' = true) (p : Int) (n r e m d : Bool) (c k a l : Int) : ∀ v ∈ ([vs, .int .i64 p, .bool n, .bool r, .bool e, .bool m, .bool d, .int .i64 c, .int .i64 k, .int .i64 a, .int .i64 l] : List Value), v.oneCell' = true := by
  intro u hu
  simp at hu
  rcases hu with rfl | rfl | rfl | rfl | rfl | rfl | rfl | rfl | rfl | rfl | rfl <;> first | rfl | assumption
end Go.Proofs.Ytigmlkfmgheegaa
