import Derived.Test.YtlegcfjafdihlaaGreatDoorZC26
/-
  Steps of a machine that waits for its clock: part 2.
-/
namespace Go.Proofs.YtlegcfjafdihlaaGreatDoor
open Go Go.RowKit
set_option maxRecDepth 100000
theorem st_50 : (KS 50).okB = true ∧ (KS 50).says callS := ⟨by kernel_rfl, fun l => by kernel_rfl⟩
theorem st_51 : (KS 51).okB = true ∧ (KS 51).says callS := ⟨by kernel_rfl, fun l => by kernel_rfl⟩
theorem st_52 : (KS 52).okB = true ∧ (KS 52).says callS := ⟨by kernel_rfl, fun l => by kernel_rfl⟩
theorem st_53 : (KS 53).okB = true ∧ (KS 53).says callS := ⟨by kernel_rfl, fun l => by kernel_rfl⟩
theorem st_54 : (KS 54).okB = true ∧ (KS 54).says callS := ⟨by kernel_rfl, fun l => by kernel_rfl⟩
theorem st_55 : (KS 55).okB = true ∧ (KS 55).says callS := ⟨by kernel_rfl, fun l => by kernel_rfl⟩
theorem st_56 : (KS 56).okB = true ∧ (KS 56).says callS := ⟨by kernel_rfl, fun l => by kernel_rfl⟩
theorem st_57 : (KS 57).okB = true ∧ (KS 57).says callS := ⟨by kernel_rfl, fun l => by kernel_rfl⟩
theorem st_58 : (KS 58).okB = true ∧ (KS 58).says callS := ⟨by kernel_rfl, fun l => by kernel_rfl⟩
theorem st_59 : (KS 59).okB = true ∧ (KS 59).says callS := ⟨by kernel_rfl, fun l => by kernel_rfl⟩
theorem st_60 : (KS 60).okB = true ∧ (KS 60).says callS := ⟨by kernel_rfl, fun l => by kernel_rfl⟩
theorem st_61 : (KS 61).okB = true ∧ (KS 61).says callS := ⟨by kernel_rfl, fun l => by kernel_rfl⟩
theorem st_62 : (KS 62).okB = true ∧ (KS 62).says callS := ⟨by kernel_rfl, fun l => by kernel_rfl⟩
theorem st_63 : (KS 63).okB = true ∧ (KS 63).says callS := ⟨by kernel_rfl, fun l => by kernel_rfl⟩
theorem st_64 : (KS 64).okB = true ∧ (KS 64).says callS := ⟨by kernel_rfl, fun l => by kernel_rfl⟩
theorem st_65 : (KS 65).okB = true ∧ (KS 65).says callS := ⟨by kernel_rfl, fun l => by kernel_rfl⟩
theorem st_66 : (KS 66).okB = true ∧ (KS 66).says callS := ⟨by kernel_rfl, fun l => by kernel_rfl⟩
theorem st_67 : (KS 67).okB = true ∧ (KS 67).says callS := ⟨by kernel_rfl, fun l => by kernel_rfl⟩
theorem st_68 : (KS 68).okB = true ∧ (KS 68).says callS := ⟨by kernel_rfl, fun l => by kernel_rfl⟩
theorem st_69 : (KS 69).okB = true ∧ (KS 69).says callS := ⟨by kernel_rfl, fun l => by kernel_rfl⟩
theorem st_70 : (KS 70).okB = true ∧ (KS 70).says callS := ⟨by kernel_rfl, fun l => by kernel_rfl⟩
theorem st_71 : (KS 71).okB = true ∧ (KS 71).says callS := ⟨by kernel_rfl, fun l => by kernel_rfl⟩
theorem st_72 : (KS 72).okB = true ∧ (KS 72).says callS := ⟨by kernel_rfl, fun l => by kernel_rfl⟩
theorem st_73 : (KS 73).okB = true ∧ (KS 73).says callS := ⟨by kernel_rfl, fun l => by kernel_rfl⟩
theorem st_74 : (KS 74).okB = true ∧ (KS 74).says callS := ⟨by kernel_rfl, fun l => by kernel_rfl⟩
end Go.Proofs.YtlegcfjafdihlaaGreatDoor

/-
  Steps of a machine that waits for its clock: part 3.
-/
namespace Go.Proofs.YtlegcfjafdihlaaGreatDoor
open Go Go.RowKit
set_option maxRecDepth 100000
theorem st_75 : (KS 75).okB = true ∧ (KS 75).says callS := ⟨by kernel_rfl, fun l => by kernel_rfl⟩
theorem st_76 : (KS 76).okB = true ∧ (KS 76).says callS := ⟨by kernel_rfl, fun l => by kernel_rfl⟩
theorem st_77 : (KS 77).okB = true ∧ (KS 77).says callS := ⟨by kernel_rfl, fun l => by kernel_rfl⟩
theorem st_78 : (KS 78).okB = true ∧ (KS 78).says callS := ⟨by kernel_rfl, fun l => by kernel_rfl⟩
theorem st_79 : (KS 79).okB = true ∧ (KS 79).says callS := ⟨by kernel_rfl, fun l => by kernel_rfl⟩
theorem st_80 : (KS 80).okB = true ∧ (KS 80).says callS := ⟨by kernel_rfl, fun l => by kernel_rfl⟩
theorem st_81 : (KS 81).okB = true ∧ (KS 81).says callS := ⟨by kernel_rfl, fun l => by kernel_rfl⟩
theorem st_82 : (KS 82).okB = true ∧ (KS 82).says callS := ⟨by kernel_rfl, fun l => by kernel_rfl⟩
theorem st_83 : (KS 83).okB = true ∧ (KS 83).says callS := ⟨by kernel_rfl, fun l => by kernel_rfl⟩
theorem st_84 : (KS 84).okB = true ∧ (KS 84).says callS := ⟨by kernel_rfl, fun l => by kernel_rfl⟩
theorem st_85 : (KS 85).okB = true ∧ (KS 85).says callS := ⟨by kernel_rfl, fun l => by kernel_rfl⟩
theorem st_86 : (KS 86).okB = true ∧ (KS 86).says callS := ⟨by kernel_rfl, fun l => by kernel_rfl⟩
theorem st_87 : (KS 87).okB = true ∧ (KS 87).says callS := ⟨by kernel_rfl, fun l => by kernel_rfl⟩
theorem st_88 : (KS 88).okB = true ∧ (KS 88).says callS := ⟨by kernel_rfl, fun l => by kernel_rfl⟩
theorem st_89 : (KS 89).okB = true ∧ (KS 89).says callS := ⟨by kernel_rfl, fun l => by kernel_rfl⟩
theorem st_90 : (KS 90).okB = true ∧ (KS 90).says callS := ⟨by kernel_rfl, fun l => by kernel_rfl⟩
theorem st_91 : (KS 91).okB = true ∧ (KS 91).says callS := ⟨by kernel_rfl, fun l => by kernel_rfl⟩
theorem st_92 : (KS 92).okB = true ∧ (KS 92).says callS := ⟨by kernel_rfl, fun l => by kernel_rfl⟩
theorem st_93 : (KS 93).okB = true ∧ (KS 93).says callS := ⟨by kernel_rfl, fun l => by kernel_rfl⟩
theorem st_94 : (KS 94).okB = true ∧ (KS 94).says callS := ⟨by kernel_rfl, fun l => by kernel_rfl⟩
theorem st_95 : (KS 95).okB = true ∧ (KS 95).says callS := ⟨by kernel_rfl, fun l => by kernel_rfl⟩
theorem st_96 : (KS 96).okB = true ∧ (KS 96).says callS := ⟨by kernel_rfl, fun l => by kernel_rfl⟩
theorem st_97 : (KS 97).okB = true ∧ (KS 97).says callS := ⟨by kernel_rfl, fun l => by kernel_rfl⟩
theorem st_98 : (KS 98).okB = true ∧ (KS 98).says callS := ⟨by kernel_rfl, fun l => by kernel_rfl⟩
end Go.Proofs.YtlegcfjafdihlaaGreatDoor
