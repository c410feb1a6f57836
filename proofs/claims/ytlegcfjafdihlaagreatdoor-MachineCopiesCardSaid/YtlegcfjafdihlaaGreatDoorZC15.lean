import Derived.Test.YtlegcfjafdihlaaGreatDoorZC14
/-
  What the laws ask of the bus, over a world: one definition for each function. Nothing is proved of the program here.
-/
namespace Go.Proofs.YtlegcfjafdihlaaGreatDoor
open Go.RowKit
set_option linter.unusedSimpArgs false
set_option linter.unusedVariables false
set_option maxHeartbeats 4000000
set_option maxRecDepth 100000
abbrev BuRight (W0 : World) : Prop := ∀ (A : Ma) (vm vb vl vs vd vt : Value) (w : World), Below W0.heap.size W0 w → A.ok → A.few → MaNow w A vm vb vl vs vd vt → Calls Tryz.prog 50 #[.agg (A.cells vm vb vl vs vd vt).toArray] w fun e' w' => e' = .returned (.bool A.right) ∧ Below w.heap.size w w'
abbrev BuRead (W0 : World) : Prop := ∀ (A : Ma) (vm vb vl vs vd vt : Value) (p : Int) (b : Bool) (X : Nat → Prop) (w : World), Below W0.heap.size W0 w → A.ok → A.right = true → (∀ b, X b → b < w.heap.size) → MaV X w A vm vb vl vs vd vt → Calls Tryz.prog 136 #[.agg (A.cells vm vb vl vs vd vt).toArray, .int .i64 p, .bool b] w fun e' w' => ∃ x, e' = .returned (.tuple #[x, .int .i64 (A.read p b).2.1, .int .i64 (A.read p b).2.2]) ∧ MaX X w' x (A.read p b).1 ∧ Below w.heap.size w w'
abbrev BuWrite (W0 : World) : Prop := ∀ (A : Ma) (vm vb vl vs vd vt : Value) (p : Int) (b : Bool) (v : Int) (X : Nat → Prop) (w : World), Below W0.heap.size W0 w → A.ok → A.right = true → (∀ b, X b → b < w.heap.size) → MaV X w A vm vb vl vs vd vt → Calls Tryz.prog 219 #[.agg (A.cells vm vb vl vs vd vt).toArray, .int .i64 p, .bool b, .int .i64 v] w fun e' w' => ∃ x, e' = .returned (.tuple #[x, .int .i64 (A.write p b v).2]) ∧ MaX X w' x (A.write p b v).1 ∧ Below w.heap.size w w'
abbrev BuTick (W0 : World) : Prop := ∀ (A : Ma) (vm vb vl vs vd vt : Value) (X : Nat → Prop) (w : World), Below W0.heap.size W0 w → A.ok → A.right = true → (∀ b, X b → b < w.heap.size) → MaV X w A vm vb vl vs vd vt → Calls Tryz.prog 124 #[.agg (A.cells vm vb vl vs vd vt).toArray] w fun e' w' => ∃ x, e' = .returned x ∧ MaX X w' x A.tick ∧ Below w.heap.size w w'
abbrev BuAcc (W0 : World) : Prop := ∀ (A : Ma) (vm vb vl vs vd vt : Value) (v : Int) (X : Nat → Prop) (w : World), Below W0.heap.size W0 w → A.ok → A.right = true → (∀ b, X b → b < w.heap.size) → MaV X w A vm vb vl vs vd vt → Calls Tryz.prog 81 #[.agg (A.cells vm vb vl vs vd vt).toArray, .int .i64 v] w fun e' w' => ∃ x, e' = .returned x ∧ MaX X w' x (A.acc v) ∧ Below w.heap.size w w'
abbrev BuReset (W0 : World) : Prop := ∀ (A : Ma) (vm vb vl vs vd vt : Value) (X : Nat → Prop) (w : World), Below W0.heap.size W0 w → A.ok → A.right = true → (∀ b, X b → b < w.heap.size) → MaV X w A vm vb vl vs vd vt → Calls Tryz.prog 158 #[.agg (A.cells vm vb vl vs vd vt).toArray] w fun e' w' => ∃ x, e' = .returned x ∧ MaX X w' x A.reset ∧ Below w.heap.size w w'
abbrev BuReq (W0 : World) : Prop := ∀ (A : Ma) (vm vb vl vs vd vt : Value) (X : Nat → Prop) (w : World), Below W0.heap.size W0 w → A.ok → A.right = true → (∀ b, X b → b < w.heap.size) → MaV X w A vm vb vl vs vd vt → Calls Tryz.prog 86 #[.agg (A.cells vm vb vl vs vd vt).toArray] w fun e' w' => ∃ v, e' = .returned v ∧ Rqs w' v A.req ∧ Below w.heap.size w w'
theorem BuRight.step {W0 w : World} (H : BuRight W0) (h : Below W0.heap.size W0 w) : BuRight w := fun A vm vb vl vs vd vt  w' hb => H A vm vb vl vs vd vt  w' (h.trans (hb.mono h.size))
theorem BuRead.step {W0 w : World} (H : BuRead W0) (h : Below W0.heap.size W0 w) : BuRead w := fun A vm vb vl vs vd vt p b X w' hb => H A vm vb vl vs vd vt p b X w' (h.trans (hb.mono h.size))
theorem BuWrite.step {W0 w : World} (H : BuWrite W0) (h : Below W0.heap.size W0 w) : BuWrite w := fun A vm vb vl vs vd vt p b v X w' hb => H A vm vb vl vs vd vt p b v X w' (h.trans (hb.mono h.size))
theorem BuTick.step {W0 w : World} (H : BuTick W0) (h : Below W0.heap.size W0 w) : BuTick w := fun A vm vb vl vs vd vt X w' hb => H A vm vb vl vs vd vt X w' (h.trans (hb.mono h.size))
theorem BuAcc.step {W0 w : World} (H : BuAcc W0) (h : Below W0.heap.size W0 w) : BuAcc w := fun A vm vb vl vs vd vt v X w' hb => H A vm vb vl vs vd vt v X w' (h.trans (hb.mono h.size))
theorem BuReset.step {W0 w : World} (H : BuReset W0) (h : Below W0.heap.size W0 w) : BuReset w := fun A vm vb vl vs vd vt X w' hb => H A vm vb vl vs vd vt X w' (h.trans (hb.mono h.size))
theorem BuReq.step {W0 w : World} (H : BuReq W0) (h : Below W0.heap.size W0 w) : BuReq w := fun A vm vb vl vs vd vt X w' hb => H A vm vb vl vs vd vt X w' (h.trans (hb.mono h.size))
end Go.Proofs.YtlegcfjafdihlaaGreatDoor
