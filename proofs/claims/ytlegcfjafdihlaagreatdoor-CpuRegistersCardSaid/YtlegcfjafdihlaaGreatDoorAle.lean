/-
  The examples' function, evaluated by the kernel.
-/
import Derived.Test.YtlegcfjafdihlaaGreatDoorTab
import Derived.Test.YtlegcfjafdihlaaGreatDoorEvV
namespace Go.Proofs.YtlegcfjafdihlaaGreatDoor
open Go Go.RowKit
open Ev (Hp Tri AB dep hp Env Loc R RL)
set_option linter.unusedVariables false
set_option linter.unusedSimpArgs false
set_option maxRecDepth 100000

noncomputable def H0 : Hp := Tri.set dep (Tri.set dep (Tri.set dep (Tri.set dep (Tri.set dep .e 0 (some (.ro widL))) 1 (some (.ro [.slice (some ⟨11, 0, none⟩) 22 22]))) 2 (some (.ro kinL))) 4 (some (.ro brL))) 11 (some (.ro frmL))
def ran : List Nat := [9, 10, 12, 15, 27, 28, 29, 30, 32, 40, 41, 42, 43, 44, 55, 56, 57, 58, 59, 60, 61, 62, 63, 64, 65, 66, 78, 79, 99, 100, 101, 102, 103, 104, 105, 107, 108, 109, 110, 111, 116, 117, 118, 119, 123, 129, 130, 135, 136, 137, 138, 139, 140, 141, 142, 143, 144, 145, 152, 153, 163, 167, 168, 169, 171, 172, 173, 174, 175, 176, 177, 179, 180, 181, 183, 184, 185, 186, 196, 202, 204, 205, 206, 207, 210, 211, 212, 213, 214, 215, 216, 217, 218, 220, 221, 231, 233]
theorem codes : Ev.fnsB Tryz.prog 31 ran = true := by kernel_rfl
/-- What the kernel is asked: the call answers true, and writes into no block that stood before. -/
noncomputable def asked : Bool := match Ev.evCall0 Tryz.prog (Ev.tabF Tryz.prog (Ev.maskOf ran)) (fun _ _ _ => none) 3000 9 H0 64 with
  | some (.bool true, W) => Nat.beq (Nat.land W (2 ^ 64 - 1)) 0
  | _ => false
theorem asked_true : asked = true := by kernel_rfl
end Go.Proofs.YtlegcfjafdihlaaGreatDoor
