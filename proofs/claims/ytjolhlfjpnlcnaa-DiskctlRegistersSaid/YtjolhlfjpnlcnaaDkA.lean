/-
  The disk controller: plain. No condition.
-/
import Derived.Test.YtjolhlfjpnlcnaaDvF
namespace Go.Proofs.Ytjolhlfjpnlcnaa
open Go.RowKit
set_option linter.unusedSimpArgs false
set_option linter.unusedVariables false
set_option maxHeartbeats 4000000
set_option maxRecDepth 100000
attribute [local irreducible] wpQuiet

/-- A disk controller: its drive; enabled, ready, error; command, words, address, sector, ticks left. -/
structure Dk where
  D : Drv
  n : Bool
  r : Bool
  e : Bool
  c : Int
  w : Int
  a : Int
  s : Int
  l : Int
def Dk.z : Dk := ⟨Drv.z, false, false, false, 0, 0, 0, 0, 0⟩
def Dk.new (D : Drv) : Dk := ⟨D, false, true, false, 0, 0, 0, 0, 0⟩
def wordV (n : Int) : Bool := decide (0 ≤ n) && decide (n ≤ 65535)
/-- Are its fields valid? -/
def Dk.ok (K : Dk) : Bool := decide (0 ≤ K.c) && decide (K.c ≤ 3) && wordV K.w && wordV K.a && wordV K.s && decide (K.a % 2 = 0) && decide (0 ≤ K.l) && decide (K.l ≤ 8) && (K.r == decide (K.l = 0)) && (decide (K.l = 0) || (decide (K.c ≠ 0) && decide (K.w ≠ 0)))
def Dk.right (K : Dk) : Bool := K.ok && K.D.right
def Dk.reset (K : Dk) : Dk := { K with n := false, e := false, c := 0, l := 0, r := true }
def stK (K : Dk) : Int := 2 * K.c + (if K.n = true then 64 else 0) + (if K.r = true then 128 else 0) + (if K.e = true then 32768 else 0)
def Dk.rd (K : Dk) (g : Int) : Int × Bool := if g = 2 then (K.w, true) else if g = 4 then (K.a, true) else if g = 6 then (K.s, true) else if g = 0 then (stK K, true) else (0, false)
def Dk.cmd (K : Dk) (v : Int) : Dk := if K.r = true ∧ v % 2 = 1 then (if v / 2 % 4 ≠ 0 ∧ K.w ≠ 0 then { K with c := v / 2 % 4, e := false, r := false, l := 8 } else { K with c := v / 2 % 4, e := false }) else K
def Dk.wr (K : Dk) (g v : Int) : Dk × Bool :=
  if g = 0 then ({ K with n := decide (v / 64 % 2 = 1) }.cmd v, true)
  else if g = 2 then (if K.r = true then { K with w := v % 65536 } else K, true)
  else if g = 4 then (if K.r = true then { K with a := v / 2 % 32768 * 2 } else K, true)
  else if g = 6 then (if K.r = true then { K with s := v % 65536 } else K, true)
  else (Dk.z, false)
def Dk.fail (K : Dk) : Dk := { K with e := true, r := true }
def Dk.acc (K : Dk) (v : Int) : Dk := if v = 160 then { K with n := false } else K
def Dk.req (K : Dk) : List (Int × Int) := if K.n = true ∧ K.r = true then [(5, 160)] else []
/-- A controller in memory. -/
def DkX (X : Nat → Prop) (w : World) (x : Value) (K : Dk) : Prop := ∃ vs vb, x = .agg #[vs, vb, .bool K.n, .bool K.r, .bool K.e, .int .i64 K.c, .int .i64 K.w, .int .i64 K.a, .int .i64 K.s, .int .i64 K.l] ∧ StsX X w vs K.D.S ∧ ItsX X w vb K.D.B
theorem DkX.below {X : Nat → Prop} {w w' : World} {x : Value} {K : Dk} (h : DkX X w x K) (hb : Below w.heap.size w w') : DkX X w' x K := by
  obtain ⟨vs, vb, e, h1, h2⟩ := h
  exact ⟨vs, vb, e, h1.below hb, h2.below hb⟩
theorem Dk.ok_iff (K : Dk) : K.ok = true ↔ (0 ≤ K.c ∧ K.c ≤ 3) ∧ wordV K.w = true ∧ wordV K.a = true ∧ wordV K.s = true ∧ K.a % 2 = 0 ∧ (0 ≤ K.l ∧ K.l ≤ 8) ∧ K.r = decide (K.l = 0) ∧ (K.l = 0 ∨ (K.c ≠ 0 ∧ K.w ≠ 0)) := by
  unfold Dk.ok; simp only [Bool.and_eq_true, Bool.or_eq_true, decide_eq_true_eq, beq_iff_eq]; constructor
  · rintro ⟨⟨⟨⟨⟨⟨⟨⟨⟨h1, h2⟩, h3⟩, h4⟩, h5⟩, h6⟩, h7⟩, h8⟩, h9⟩, h10⟩; exact ⟨⟨h1, h2⟩, h3, h4, h5, h6, ⟨h7, h8⟩, h9, h10⟩
  · rintro ⟨⟨h1, h2⟩, h3, h4, h5, h6, ⟨h7, h8⟩, h9, h10⟩; exact ⟨⟨⟨⟨⟨⟨⟨⟨⟨h1, h2⟩, h3⟩, h4⟩, h5⟩, h6⟩, h7⟩, h8⟩, h9⟩, h10⟩
theorem wordV_iff (n : Int) : wordV n = true ↔ 0 ≤ n ∧ n ≤ 65535 := by unfold wordV; simp
theorem aggK (w : World) : (isAgg 27).run Try.prog w = .ok true w := by kernel_rfl
theorem sizK (w : World) : (sizeOf 27).run Try.prog w = .ok 10 w := by kernel_rfl
theorem two_dk (w : World) (cs ds : List Value) : Bag [(w.heap.size + 1, 27, ds), (w.heap.size, 27, cs)] w ((w.alloc (.cells cs.toArray 27)).alloc (.cells ds.toArray 27)) := by
  have h := ((Bag.nil w).new 27 cs).new 27 ds
  rw [show (w.alloc (.cells cs.toArray 27)).heap.size = w.heap.size + 1 from Array.size_push ..] at h
  exact h
theorem one_dk {vs vb : Value} (h1 : vs.oneCell' = true) (h2 : vb.oneCell' = true) (n r e : Bool) (c w a s l : Int) : ∀ v ∈ ([vs, vb, .bool n, .bool r, .bool e, .int .i64 c, .int .i64 w, .int .i64 a, .int .i64 s, .int .i64 l] : List Value), v.oneCell' = true := by
  intro u hu
  simp at hu
  rcases hu with rfl | rfl | rfl | rfl | rfl | rfl | rfl | rfl | rfl | rfl <;> first | rfl | assumption
end Go.Proofs.Ytjolhlfjpnlcnaa
