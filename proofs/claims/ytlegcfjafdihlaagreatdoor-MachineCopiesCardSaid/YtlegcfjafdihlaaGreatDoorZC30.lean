import Derived.Test.YtlegcfjafdihlaaGreatDoorZC29
/-
  A call at the chapter's examples: number 1.
-/
namespace Go.Proofs.YtlegcfjafdihlaaGreatDoor
open Go Go.RowKit
set_option maxRecDepth 100000
theorem k1_ok : K1.okB = true ∧ K1.says callK := ⟨by kernel_rfl, fun l => by kernel_rfl⟩
end Go.Proofs.YtlegcfjafdihlaaGreatDoor

/-
  A call at the chapter's examples: number 2.
-/
namespace Go.Proofs.YtlegcfjafdihlaaGreatDoor
open Go Go.RowKit
set_option maxRecDepth 100000
theorem k2_ok : K2.okB = true ∧ K2.says callK := ⟨by kernel_rfl, fun l => by kernel_rfl⟩
end Go.Proofs.YtlegcfjafdihlaaGreatDoor

/-
  A call at the chapter's examples: number 3.
-/
namespace Go.Proofs.YtlegcfjafdihlaaGreatDoor
open Go Go.RowKit
set_option maxRecDepth 100000
theorem k3_ok : K3.okB = true ∧ K3.says callK := ⟨by kernel_rfl, fun l => by kernel_rfl⟩
end Go.Proofs.YtlegcfjafdihlaaGreatDoor

/-
  A call at the chapter's examples: number 4.
-/
namespace Go.Proofs.YtlegcfjafdihlaaGreatDoor
open Go Go.RowKit
set_option maxRecDepth 100000
theorem k4_ok : K4.okB = true ∧ K4.says callK := ⟨by kernel_rfl, fun l => by kernel_rfl⟩
end Go.Proofs.YtlegcfjafdihlaaGreatDoor
