import Derived.Test.YtlegcfjafdihlaaGreatDoorZR11
import Derived.Test.YtlegcfjafdihlaaGreatDoorZR14
import Derived.Test.YtlegcfjafdihlaaGreatDoorZR06
import Derived.Test.YtlegcfjafdihlaaGreatDoorZR10
import Derived.Test.YtlegcfjafdihlaaGreatDoorZR04
import Derived.Test.YtlegcfjafdihlaaGreatDoorZR08
/-
  cleared, spoilt, write of the reference. Condition: addresses are words; the head is on the tape.
-/
namespace Go.Proofs.YtlegcfjafdihlaaGreatDoor
open Go.RowKit
set_option linter.unusedSimpArgs false
set_option linter.unusedVariables false
set_option maxHeartbeats 4000000
set_option maxRecDepth 100000
attribute [local irreducible] wpQuiet

theorem bag_lt {B : Nat} {t : TypeId} {cs : List Value} {l : List (Nat × TypeId × List Value)} {w0 w : World} (h : Bag ((B, t, cs) :: l) w0 w) : B < w.heap.size := (h.all _ _ _ (.head _)).lt
end Go.Proofs.YtlegcfjafdihlaaGreatDoor
/-
  Results of a unit are valid, and the memory stays so: plain. The contracts of package tape over a world. No condition.
-/
namespace Go.Proofs.YtlegcfjafdihlaaGreatDoor
open Go.RowKit
set_option linter.unusedSimpArgs false
set_option linter.unusedVariables false
set_option maxHeartbeats 4000000
set_option maxRecDepth 100000
attribute [local irreducible] wpQuiet

theorem Tp.right_iff (K : Tp) : K.right = true ↔ (K.R.length ≤ 64 ∧ (0 ≤ K.p ∧ K.p ≤ (K.R.length : Int)) ∧ (0 ≤ K.c ∧ K.c ≤ 6) ∧ (0 ≤ K.k ∧ K.k ≤ 65535) ∧ (0 ≤ K.a ∧ K.a ≤ 65535) ∧ (0 ≤ K.l ∧ K.l ≤ 16) ∧ K.r = decide (K.l = 0)) ∧ ∀ s ∈ K.R, s.size ≤ 512 := by
  unfold Tp.right; rw [Bool.and_eq_true, Tp.ok_iff, shortV_iff, wordV_iff_17, wordV_iff_17]
/-- What a tick keeps. -/
structure KeptT (K : Tp) (m B : List Int) (T : Tp × List Int × List Int) : Prop where
  right : T.1.right = true
  mem : rightP T.2.1 T.2.2 = true
  ml : T.2.1.length = m.length
  bl : T.2.2.length ≤ B.length
theorem KeptT.refl {K K2 : Tp} {m B : List Int} (h : K2.right = true) (hm : rightP m B = true) : KeptT K m B (K2, m, B) := ⟨h, hm, rfl, Nat.le_refl _⟩
end Go.Proofs.YtlegcfjafdihlaaGreatDoor
/-
  Diff, Same of the reference of package save, of equal machines. Condition: at most 2^40 elements.
-/
namespace Go.Proofs.YtlegcfjafdihlaaGreatDoor
open Go.RowKit
set_option linter.unusedSimpArgs false
set_option linter.unusedVariables false
set_option maxHeartbeats 4000000
set_option maxRecDepth 100000
attribute [local irreducible] wpQuiet

theorem aggC18 (w : World) : (isAgg 25).run Tryz.prog w = .ok true w := by kernel_rfl
theorem sizC18 (w : World) : (sizeOf 25).run Tryz.prog w = .ok 10 w := by kernel_rfl
/-- At most 2^40 elements everywhere. -/
structure Ma.small (A : Ma) : Prop where
  m : A.M.length ≤ 1099511627776
  b : A.B.length ≤ 1099511627776
  l : A.L.length ≤ 1099511627776
  s : A.K.D.S.length ≤ 1099511627776
  d : A.K.D.B.length ≤ 1099511627776
  t : A.T.R.length ≤ 1099511627776
section
variable {A : Ma} {vm vb vl vs vd vt : Value} {w : World} {B : Nat} (hA : A.ok) (h : Blk 49 w B (A.cells vm vb vl vs vd vt))
include hA h
end
end Go.Proofs.YtlegcfjafdihlaaGreatDoor
/-
  What the laws ask of the bus, over a world: one definition for each function. Nothing is proved of the program here.
-/
namespace Go.Proofs.YtlegcfjafdihlaaGreatDoor
open Go.RowKit
set_option linter.unusedSimpArgs false
set_option linter.unusedVariables false
set_option maxHeartbeats 4000000
set_option maxRecDepth 100000
abbrev BuRight (W0 : World) : Prop := ∀ (A : Ma) (vm vb vl vs vd vt : Value) (w : World), Below W0.heap.size W0 w → A.ok → A.few → MaNow w A vm vb vl vs vd vt → Calls Tryz.prog 50 #[.agg (A.cells vm vb vl vs vd vt).toArray] w fun e' w' => e' = .returned (.bool A.right) ∧ Below w.heap.size w w'
abbrev BuRead (W0 : World) : Prop := ∀ (A : Ma) (vm vb vl vs vd vt : Value) (p : Int) (b : Bool) (X : Nat → Prop) (w : World), Below W0.heap.size W0 w → A.ok → A.right = true → (∀ b, X b → b < w.heap.size) → MaV X w A vm vb vl vs vd vt → Calls Tryz.prog 136 #[.agg (A.cells vm vb vl vs vd vt).toArray, .int .i64 p, .bool b] w fun e' w' => ∃ x, e' = .returned (.tuple #[x, .int .i64 (A.read p b).2.1, .int .i64 (A.read p b).2.2]) ∧ MaX X w' x (A.read p b).1 ∧ Below w.heap.size w w'
abbrev BuWrite (W0 : World) : Prop := ∀ (A : Ma) (vm vb vl vs vd vt : Value) (p : Int) (b : Bool) (v : Int) (X : Nat → Prop) (w : World), Below W0.heap.size W0 w → A.ok → A.right = true → (∀ b, X b → b < w.heap.size) → MaV X w A vm vb vl vs vd vt → Calls Tryz.prog 219 #[.agg (A.cells vm vb vl vs vd vt).toArray, .int .i64 p, .bool b, .int .i64 v] w fun e' w' => ∃ x, e' = .returned (.tuple #[x, .int .i64 (A.write p b v).2]) ∧ MaX X w' x (A.write p b v).1 ∧ Below w.heap.size w w'
abbrev BuTick (W0 : World) : Prop := ∀ (A : Ma) (vm vb vl vs vd vt : Value) (X : Nat → Prop) (w : World), Below W0.heap.size W0 w → A.ok → A.right = true → (∀ b, X b → b < w.heap.size) → MaV X w A vm vb vl vs vd vt → Calls Tryz.prog 124 #[.agg (A.cells vm vb vl vs vd vt).toArray] w fun e' w' => ∃ x, e' = .returned x ∧ MaX X w' x A.tick ∧ Below w.heap.size w w'
abbrev BuAcc (W0 : World) : Prop := ∀ (A : Ma) (vm vb vl vs vd vt : Value) (v : Int) (X : Nat → Prop) (w : World), Below W0.heap.size W0 w → A.ok → A.right = true → (∀ b, X b → b < w.heap.size) → MaV X w A vm vb vl vs vd vt → Calls Tryz.prog 81 #[.agg (A.cells vm vb vl vs vd vt).toArray, .int .i64 v] w fun e' w' => ∃ x, e' = .returned x ∧ MaX X w' x (A.acc v) ∧ Below w.heap.size w w'
abbrev BuReset (W0 : World) : Prop := ∀ (A : Ma) (vm vb vl vs vd vt : Value) (X : Nat → Prop) (w : World), Below W0.heap.size W0 w → A.ok → A.right = true → (∀ b, X b → b < w.heap.size) → MaV X w A vm vb vl vs vd vt → Calls Tryz.prog 158 #[.agg (A.cells vm vb vl vs vd vt).toArray] w fun e' w' => ∃ x, e' = .returned x ∧ MaX X w' x A.reset ∧ Below w.heap.size w w'
abbrev BuReq (W0 : World) : Prop := ∀ (A : Ma) (vm vb vl vs vd vt : Value) (X : Nat → Prop) (w : World), Below W0.heap.size W0 w → A.ok → A.right = true → (∀ b, X b → b < w.heap.size) → MaV X w A vm vb vl vs vd vt → Calls Tryz.prog 86 #[.agg (A.cells vm vb vl vs vd vt).toArray] w fun e' w' => ∃ v, e' = .returned v ∧ Rqs w' v A.req ∧ Below w.heap.size w w'
theorem BuRight.step {W0 w : World} (H : BuRight W0) (h : Below W0.heap.size W0 w) : BuRight w := fun A vm vb vl vs vd vt  w' hb => H A vm vb vl vs vd vt  w' (h.trans (hb.mono h.size))
theorem BuRead.step {W0 w : World} (H : BuRead W0) (h : Below W0.heap.size W0 w) : BuRead w := fun A vm vb vl vs vd vt p b X w' hb => H A vm vb vl vs vd vt p b X w' (h.trans (hb.mono h.size))
theorem BuWrite.step {W0 w : World} (H : BuWrite W0) (h : Below W0.heap.size W0 w) : BuWrite w := fun A vm vb vl vs vd vt p b v X w' hb => H A vm vb vl vs vd vt p b v X w' (h.trans (hb.mono h.size))
theorem BuTick.step {W0 w : World} (H : BuTick W0) (h : Below W0.heap.size W0 w) : BuTick w := fun A vm vb vl vs vd vt X w' hb => H A vm vb vl vs vd vt X w' (h.trans (hb.mono h.size))
theorem BuAcc.step {W0 w : World} (H : BuAcc W0) (h : Below W0.heap.size W0 w) : BuAcc w := fun A vm vb vl vs vd vt v X w' hb => H A vm vb vl vs vd vt v X w' (h.trans (hb.mono h.size))
theorem BuReset.step {W0 w : World} (H : BuReset W0) (h : Below W0.heap.size W0 w) : BuReset w := fun A vm vb vl vs vd vt X w' hb => H A vm vb vl vs vd vt X w' (h.trans (hb.mono h.size))
theorem BuReq.step {W0 w : World} (H : BuReq W0) (h : Below W0.heap.size W0 w) : BuReq w := fun A vm vb vl vs vd vt X w' hb => H A vm vb vl vs vd vt X w' (h.trans (hb.mono h.size))
end Go.Proofs.YtlegcfjafdihlaaGreatDoor
/-
  A machine stays valid: read, write, tick, accept, reset. Plain. No condition.
-/
namespace Go.Proofs.YtlegcfjafdihlaaGreatDoor
open Go.RowKit
set_option linter.unusedSimpArgs false
set_option linter.unusedVariables false
set_option maxHeartbeats 4000000
set_option maxRecDepth 100000
theorem Ma.mk_right {A : Ma} (h1 : A.L.length ≤ 4) (h2 : ∀ x ∈ A.L, x.right = true) (h3 : rightP A.M A.B = true) (h4 : A.U.right = true) (h5 : A.k.right = true) (h6 : A.K.right = true) (h7 : A.T.right = true) : A.right = true := by
  unfold Ma.right
  simp only [Bool.and_eq_true, decide_eq_true_eq, List.all_eq_true]
  exact ⟨⟨⟨⟨⟨⟨h1, h2⟩, h3⟩, h4⟩, h5⟩, h6⟩, h7⟩
end Go.Proofs.YtlegcfjafdihlaaGreatDoor
