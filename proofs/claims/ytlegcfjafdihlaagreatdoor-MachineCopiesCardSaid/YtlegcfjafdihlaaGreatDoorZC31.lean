import Derived.Test.YtlegcfjafdihlaaGreatDoorZC30
import Derived.Test.YtlegcfjafdihlaaGreatDoorZC20
import Derived.Test.YtlegcfjafdihlaaGreatDoorZC05
/-
  The examples' function of the machine, evaluated by the kernel: what is asked.
-/
namespace Go.Proofs.YtlegcfjafdihlaaGreatDoor
open Go Go.RowKit
open Ev (Hp Tri AB AH dep hp Env CallOk Rs Aid lget nfrc)
set_option linter.unusedVariables false
set_option linter.unusedSimpArgs false
set_option maxRecDepth 100000

noncomputable def orAll : FuncId → List Value → Hp → Nat → Rs := Ev.callOr K1.or (Ev.callOr K2.or (Ev.callOr K3.or (Ev.callOr K4.or orStep)))
noncomputable def aidM : Aid := ⟨itD, orAll⟩
def ranM : List Nat := [10, 12, 14, 16, 21, 27, 28, 29, 30, 32, 34, 35, 36, 37, 38, 39, 46, 47, 48, 53, 55, 56, 57, 58, 59, 60, 61, 62, 63, 64, 65, 66, 67, 68, 69, 70, 71, 72, 73, 75, 77, 80, 81, 82, 83, 85, 86, 92, 99, 100, 101, 102, 103, 104, 105, 107, 111, 117, 118, 119, 120, 121, 122, 123, 124, 126, 127, 129, 130, 131, 135, 136, 137, 138, 139, 140, 141, 149, 153, 159, 161, 162, 163, 164, 166, 167, 168, 169, 171, 172, 173, 174, 175, 182, 196, 198, 202, 204, 205, 206, 210, 211, 212, 214, 219, 233, 234, 236, 237, 239, 256, 258, 261, 276, 278, 281, 283, 285, 287, 289, 291, 294, 296, 298, 301, 324, 326, 329, 331, 333, 336]
theorem codesM : Ev.fnsB Tryz.prog 31 ranM = true := by kernel_rfl
noncomputable def askedM : Bool := match Ev.evCall0 Tryz.prog (Ev.tabF Tryz.prog (Ev.maskOf ranM)) aidM 3000 16 H0 64 with
  | some (.bool true, W) => Nat.beq (Nat.land W (2 ^ 64 - 1)) 0
  | _ => false
theorem askedM_true : askedM = true := by kernel_rfl
end Go.Proofs.YtlegcfjafdihlaaGreatDoor

/-
  The examples of the machine's chapter: the statements' own function answers true, whatever lies in memory beside the listed tables.
-/
namespace Go.Proofs.YtlegcfjafdihlaaGreatDoor
open Go Go.RowKit
open Ev (Hp Tri AB AH dep hp Env CallOk Rs Aid)
set_option linter.unusedVariables false
set_option linter.unusedSimpArgs false
set_option maxRecDepth 100000

theorem mixed : (Tryz.prog).follows .mixedOrders = true := by kernel_rfl
theorem orAll_ok (A : Addr) (c : Nat) : CallOk Tryz.prog (Gn A c) orAll := by
  have hS : CallOk Tryz.prog (Gn A c) callS := call_ok (gs := 31) Gn_glob mixed codesS ⟨itD_ok _, no_ok _ _⟩ 3000
  have hW := orStep_ok hS
  have hK : CallOk Tryz.prog (Gn A c) callK := call_ok (gs := 31) Gn_glob mixed codesK ⟨itD_ok _, hW⟩ 3000
  exact Ev.callOr_ok (Kn.or_ok k1_ok.1 hK k1_ok.2) (Ev.callOr_ok (Kn.or_ok k2_ok.1 hK k2_ok.2) (Ev.callOr_ok (Kn.or_ok k3_ok.1 hK k3_ok.2) (Ev.callOr_ok (Kn.or_ok k4_ok.1 hK k4_ok.2) hW)))
theorem aliveM_any {A : Addr} {c : Nat} {w : World} (W : Tab A c w) : Calls Tryz.prog 16 #[] w fun e w' => e = .returned (.bool true) ∧ Below w.heap.size w w' := by
  have h := askedM_true
  unfold askedM at h
  split at h
  case h_2 => cases h
  rename_i Wm hrun
  have hl : Nat.land Wm (2 ^ 64 - 1) = 0 := Nat.eq_of_beq_eq_true h
  refine Ev.call0_ok (gs := 31) Gn_glob mixed codesM ⟨itD_ok _, orAll_ok A c⟩ hrun rfl rfl (fun n hn => ?_) (fun n hn => ?_) w (good0 W)
  · exact Gn_hi n hn
  · rcases hh : hp H0 n with _ | b
    · rfl
    · have hlt : n < 64 := (hp0_lt hh).2.1
      have : (Nat.land Wm (2 ^ 64 - 1)).testBit n = true := by
        have e : Nat.land Wm (2 ^ 64 - 1) = Wm &&& (2 ^ 64 - 1) := rfl
        rw [e, Nat.testBit_and, hn, Nat.testBit_two_pow_sub_one]; simp [hlt]
      rw [hl] at this; simp at this
end Go.Proofs.YtlegcfjafdihlaaGreatDoor
/-
  MachineRight: what the law answers. No condition.
-/
namespace Go.Proofs.YtlegcfjafdihlaaGreatDoor
open Go.RowKit
set_option linter.unusedSimpArgs false
set_option linter.unusedVariables false
set_option maxHeartbeats 4000000
set_option maxRecDepth 100000
attribute [local irreducible] wpQuiet

theorem MaNow.ones {w : World} {A : Ma} {vm vb vl vs vd vt : Value} (h : MaNow w A vm vb vl vs vd vt) : vm.oneCell' = true ∧ vb.oneCell' = true ∧ vl.oneCell' = true ∧ vs.oneCell' = true ∧ vd.oneCell' = true ∧ vt.oneCell' = true := by
  have k : ∀ {v : Value} {n : Nat} {cs : List Value}, Rz w v n cs → v.oneCell' = true := fun h => by
    obtain ⟨A, c, rfl, _⟩ := h.1
    rfl
  exact ⟨k h.m, k h.b, k h.l, k h.s, k h.d, k h.t⟩
end Go.Proofs.YtlegcfjafdihlaaGreatDoor
