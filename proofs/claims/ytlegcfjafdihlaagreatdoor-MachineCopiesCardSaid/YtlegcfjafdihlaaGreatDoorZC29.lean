import Derived.Test.YtlegcfjafdihlaaGreatDoorZC27
import Derived.Test.YtlegcfjafdihlaaGreatDoorZC28
/-
  Steps and runs of machines at the chapter's examples, known beforehand: what is asked.
-/
namespace Go.Proofs.YtlegcfjafdihlaaGreatDoor
open Go Go.RowKit
open Ev (Hp Tri AB AH dep hp Env CallOk Rs Aid lget nfrc)
set_option linter.unusedVariables false
set_option linter.unusedSimpArgs false
set_option maxRecDepth 100000

theorem st_any (k : Nat) (h : k < 99) : (KS k).okB = true ∧ (KS k).says callS := by
  match k, h with
  | 0, _ => exact st_0
  | 1, _ => exact st_1
  | 2, _ => exact st_2
  | 3, _ => exact st_3
  | 4, _ => exact st_4
  | 5, _ => exact st_5
  | 6, _ => exact st_6
  | 7, _ => exact st_7
  | 8, _ => exact st_8
  | 9, _ => exact st_9
  | 10, _ => exact st_10
  | 11, _ => exact st_11
  | 12, _ => exact st_12
  | 13, _ => exact st_13
  | 14, _ => exact st_14
  | 15, _ => exact st_15
  | 16, _ => exact st_16
  | 17, _ => exact st_17
  | 18, _ => exact st_18
  | 19, _ => exact st_19
  | 20, _ => exact st_20
  | 21, _ => exact st_21
  | 22, _ => exact st_22
  | 23, _ => exact st_23
  | 24, _ => exact st_24
  | 25, _ => exact st_25
  | 26, _ => exact st_26
  | 27, _ => exact st_27
  | 28, _ => exact st_28
  | 29, _ => exact st_29
  | 30, _ => exact st_30
  | 31, _ => exact st_31
  | 32, _ => exact st_32
  | 33, _ => exact st_33
  | 34, _ => exact st_34
  | 35, _ => exact st_35
  | 36, _ => exact st_36
  | 37, _ => exact st_37
  | 38, _ => exact st_38
  | 39, _ => exact st_39
  | 40, _ => exact st_40
  | 41, _ => exact st_41
  | 42, _ => exact st_42
  | 43, _ => exact st_43
  | 44, _ => exact st_44
  | 45, _ => exact st_45
  | 46, _ => exact st_46
  | 47, _ => exact st_47
  | 48, _ => exact st_48
  | 49, _ => exact st_49
  | 50, _ => exact st_50
  | 51, _ => exact st_51
  | 52, _ => exact st_52
  | 53, _ => exact st_53
  | 54, _ => exact st_54
  | 55, _ => exact st_55
  | 56, _ => exact st_56
  | 57, _ => exact st_57
  | 58, _ => exact st_58
  | 59, _ => exact st_59
  | 60, _ => exact st_60
  | 61, _ => exact st_61
  | 62, _ => exact st_62
  | 63, _ => exact st_63
  | 64, _ => exact st_64
  | 65, _ => exact st_65
  | 66, _ => exact st_66
  | 67, _ => exact st_67
  | 68, _ => exact st_68
  | 69, _ => exact st_69
  | 70, _ => exact st_70
  | 71, _ => exact st_71
  | 72, _ => exact st_72
  | 73, _ => exact st_73
  | 74, _ => exact st_74
  | 75, _ => exact st_75
  | 76, _ => exact st_76
  | 77, _ => exact st_77
  | 78, _ => exact st_78
  | 79, _ => exact st_79
  | 80, _ => exact st_80
  | 81, _ => exact st_81
  | 82, _ => exact st_82
  | 83, _ => exact st_83
  | 84, _ => exact st_84
  | 85, _ => exact st_85
  | 86, _ => exact st_86
  | 87, _ => exact st_87
  | 88, _ => exact st_88
  | 89, _ => exact st_89
  | 90, _ => exact st_90
  | 91, _ => exact st_91
  | 92, _ => exact st_92
  | 93, _ => exact st_93
  | 94, _ => exact st_94
  | 95, _ => exact st_95
  | 96, _ => exact st_96
  | 97, _ => exact st_97
  | 98, _ => exact st_98
  | k + 99, h => exact absurd h (by omega)
/-- A step of a machine that waits. -/
noncomputable def orStep (f : FuncId) (args : List Value) (H : Hp) (nx : Nat) : Rs := match args with
  | [.agg ⟨cs⟩] => match lget cs 105 with
    | some (.int _ (.ofNat nw)) => match Nat.blt 0 nw && Nat.blt nw 100 with
      | true => nfrc (Nat.sub nw 1) fun k => (KS k).or f args H nx
      | false => .no
    | _ => .no
  | _ => .no
theorem orStep_ok {A : Addr} {c : Nat} (hS : CallOk Tryz.prog (Gn A c) callS) : CallOk Tryz.prog (Gn A c) orStep := by
  intro f args H nx v H' nx' S W hp h
  unfold orStep at h
  split at h
  case h_2 => cases h
  split at h
  case h_2 => cases h
  rename_i nw _
  split at h
  case h_2 => cases h
  rename_i hb
  rw [Bool.and_eq_true, Nat.blt_eq, Nat.blt_eq] at hb
  rw [Ev.nfrc_eq] at h
  have hk : Nat.sub nw 1 < 99 := by show nw - 1 < 99; omega
  obtain ⟨h1, h2⟩ := st_any _ hk
  exact Kn.or_ok h1 hS h2 f _ H nx v H' nx' S W hp h
def gA (sp pc : Nat) : List Value := [z0, z0, z0, z0, z0, z0, .int .i64 (.ofNat sp), z0, .int .i64 (.ofNat pc), z0]
def gB (e r : Bool) (left : Nat) : List Value := .slice none 0 0 :: (u0 ++ [.bool e, .bool r, .int .i64 100, .int .i64 (.ofNat left)])
def gC (now : Nat) (h a : Bool) : List Value := [.slice none 0 0, .bool false, .bool true, .bool false, z0, z0, z0, z0, z0, .slice none 0 0, z0, .bool false, .bool true, .bool false, .bool false, .bool false, z0, z0, z0, z0, .int .i64 (.ofNat now), .bool h, .bool a, z0, .bool false]
def m5 : List Value := .int .i64 511 :: List.replicate 127 z0
def mz : List Value := List.replicate 128 z0
def K1 : Kn := ⟨46, [.int .i64 3], gA 0 0, gB false false 100, gC 0 false false, m5, gA 0 0, gB false false 97, gC 3 false false, m5, 1515, 1472, 1497, 1520⟩
def K2 : Kn := ⟨47, [], gA 0 0, gB false false 100, gC 0 false false, mz, gA 0 2, gB false false 99, gC 1 true false, mz, 563, 520, 545, 568⟩
noncomputable def K3 : Kn := ⟨47, [], gA 256 0, gB true false 100, gC 0 false false, mL, wA, wB 0, wC 0, mL, 563, 520, 545, 568⟩
noncomputable def K4 : Kn := ⟨46, [.int .i64 99], wA, wB 0, wC 0, mL, wA, wB 99, wC 99, mL, 479, 480, 481, 482⟩
def ranK : List Nat := [12, 21, 27, 28, 30, 32, 46, 47, 48, 53, 55, 56, 57, 58, 59, 60, 61, 62, 63, 64, 65, 66, 75, 77, 82, 83, 85, 86, 92, 99, 100, 101, 102, 103, 104, 105, 107, 117, 118, 119, 123, 124, 126, 129, 130, 131, 135, 136, 137, 138, 139, 140, 141, 153, 159, 163, 167, 168, 169, 171, 172, 173, 174, 175, 198, 202, 204, 205, 206, 210, 211, 212, 214, 233, 258, 261, 278, 281, 285, 287, 291, 294, 298, 301, 326, 329, 333, 336]
theorem codesK : Ev.fnsB Tryz.prog 31 ranK = true := by kernel_rfl
noncomputable def aidK : Aid := ⟨itD, orStep⟩
noncomputable def callK : FuncId → List Value → Hp → Nat → Rs := Ev.callWith Tryz.prog (Ev.tabF Tryz.prog (Ev.maskOf ranK)) (Ev.evCode Tryz.prog (Ev.tabF Tryz.prog (Ev.maskOf ranK)) aidK 3000)
end Go.Proofs.YtlegcfjafdihlaaGreatDoor
