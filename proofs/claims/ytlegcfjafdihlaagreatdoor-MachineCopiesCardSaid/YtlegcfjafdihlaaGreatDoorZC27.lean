import Derived.Test.YtlegcfjafdihlaaGreatDoorZC26
/-
  Steps of a machine that waits for its clock: part 0.
-/
namespace Go.Proofs.YtlegcfjafdihlaaGreatDoor
open Go Go.RowKit
set_option maxRecDepth 100000
theorem st_0 : (KS 0).okB = true ∧ (KS 0).says callS := ⟨by kernel_rfl, fun l => by kernel_rfl⟩
theorem st_1 : (KS 1).okB = true ∧ (KS 1).says callS := ⟨by kernel_rfl, fun l => by kernel_rfl⟩
theorem st_2 : (KS 2).okB = true ∧ (KS 2).says callS := ⟨by kernel_rfl, fun l => by kernel_rfl⟩
theorem st_3 : (KS 3).okB = true ∧ (KS 3).says callS := ⟨by kernel_rfl, fun l => by kernel_rfl⟩
theorem st_4 : (KS 4).okB = true ∧ (KS 4).says callS := ⟨by kernel_rfl, fun l => by kernel_rfl⟩
theorem st_5 : (KS 5).okB = true ∧ (KS 5).says callS := ⟨by kernel_rfl, fun l => by kernel_rfl⟩
theorem st_6 : (KS 6).okB = true ∧ (KS 6).says callS := ⟨by kernel_rfl, fun l => by kernel_rfl⟩
theorem st_7 : (KS 7).okB = true ∧ (KS 7).says callS := ⟨by kernel_rfl, fun l => by kernel_rfl⟩
theorem st_8 : (KS 8).okB = true ∧ (KS 8).says callS := ⟨by kernel_rfl, fun l => by kernel_rfl⟩
theorem st_9 : (KS 9).okB = true ∧ (KS 9).says callS := ⟨by kernel_rfl, fun l => by kernel_rfl⟩
theorem st_10 : (KS 10).okB = true ∧ (KS 10).says callS := ⟨by kernel_rfl, fun l => by kernel_rfl⟩
theorem st_11 : (KS 11).okB = true ∧ (KS 11).says callS := ⟨by kernel_rfl, fun l => by kernel_rfl⟩
theorem st_12 : (KS 12).okB = true ∧ (KS 12).says callS := ⟨by kernel_rfl, fun l => by kernel_rfl⟩
theorem st_13 : (KS 13).okB = true ∧ (KS 13).says callS := ⟨by kernel_rfl, fun l => by kernel_rfl⟩
theorem st_14 : (KS 14).okB = true ∧ (KS 14).says callS := ⟨by kernel_rfl, fun l => by kernel_rfl⟩
theorem st_15 : (KS 15).okB = true ∧ (KS 15).says callS := ⟨by kernel_rfl, fun l => by kernel_rfl⟩
theorem st_16 : (KS 16).okB = true ∧ (KS 16).says callS := ⟨by kernel_rfl, fun l => by kernel_rfl⟩
theorem st_17 : (KS 17).okB = true ∧ (KS 17).says callS := ⟨by kernel_rfl, fun l => by kernel_rfl⟩
theorem st_18 : (KS 18).okB = true ∧ (KS 18).says callS := ⟨by kernel_rfl, fun l => by kernel_rfl⟩
theorem st_19 : (KS 19).okB = true ∧ (KS 19).says callS := ⟨by kernel_rfl, fun l => by kernel_rfl⟩
theorem st_20 : (KS 20).okB = true ∧ (KS 20).says callS := ⟨by kernel_rfl, fun l => by kernel_rfl⟩
theorem st_21 : (KS 21).okB = true ∧ (KS 21).says callS := ⟨by kernel_rfl, fun l => by kernel_rfl⟩
theorem st_22 : (KS 22).okB = true ∧ (KS 22).says callS := ⟨by kernel_rfl, fun l => by kernel_rfl⟩
theorem st_23 : (KS 23).okB = true ∧ (KS 23).says callS := ⟨by kernel_rfl, fun l => by kernel_rfl⟩
theorem st_24 : (KS 24).okB = true ∧ (KS 24).says callS := ⟨by kernel_rfl, fun l => by kernel_rfl⟩
end Go.Proofs.YtlegcfjafdihlaaGreatDoor

/-
  Steps of a machine that waits for its clock: part 1.
-/
namespace Go.Proofs.YtlegcfjafdihlaaGreatDoor
open Go Go.RowKit
set_option maxRecDepth 100000
theorem st_25 : (KS 25).okB = true ∧ (KS 25).says callS := ⟨by kernel_rfl, fun l => by kernel_rfl⟩
theorem st_26 : (KS 26).okB = true ∧ (KS 26).says callS := ⟨by kernel_rfl, fun l => by kernel_rfl⟩
theorem st_27 : (KS 27).okB = true ∧ (KS 27).says callS := ⟨by kernel_rfl, fun l => by kernel_rfl⟩
theorem st_28 : (KS 28).okB = true ∧ (KS 28).says callS := ⟨by kernel_rfl, fun l => by kernel_rfl⟩
theorem st_29 : (KS 29).okB = true ∧ (KS 29).says callS := ⟨by kernel_rfl, fun l => by kernel_rfl⟩
theorem st_30 : (KS 30).okB = true ∧ (KS 30).says callS := ⟨by kernel_rfl, fun l => by kernel_rfl⟩
theorem st_31 : (KS 31).okB = true ∧ (KS 31).says callS := ⟨by kernel_rfl, fun l => by kernel_rfl⟩
theorem st_32 : (KS 32).okB = true ∧ (KS 32).says callS := ⟨by kernel_rfl, fun l => by kernel_rfl⟩
theorem st_33 : (KS 33).okB = true ∧ (KS 33).says callS := ⟨by kernel_rfl, fun l => by kernel_rfl⟩
theorem st_34 : (KS 34).okB = true ∧ (KS 34).says callS := ⟨by kernel_rfl, fun l => by kernel_rfl⟩
theorem st_35 : (KS 35).okB = true ∧ (KS 35).says callS := ⟨by kernel_rfl, fun l => by kernel_rfl⟩
theorem st_36 : (KS 36).okB = true ∧ (KS 36).says callS := ⟨by kernel_rfl, fun l => by kernel_rfl⟩
theorem st_37 : (KS 37).okB = true ∧ (KS 37).says callS := ⟨by kernel_rfl, fun l => by kernel_rfl⟩
theorem st_38 : (KS 38).okB = true ∧ (KS 38).says callS := ⟨by kernel_rfl, fun l => by kernel_rfl⟩
theorem st_39 : (KS 39).okB = true ∧ (KS 39).says callS := ⟨by kernel_rfl, fun l => by kernel_rfl⟩
theorem st_40 : (KS 40).okB = true ∧ (KS 40).says callS := ⟨by kernel_rfl, fun l => by kernel_rfl⟩
theorem st_41 : (KS 41).okB = true ∧ (KS 41).says callS := ⟨by kernel_rfl, fun l => by kernel_rfl⟩
theorem st_42 : (KS 42).okB = true ∧ (KS 42).says callS := ⟨by kernel_rfl, fun l => by kernel_rfl⟩
theorem st_43 : (KS 43).okB = true ∧ (KS 43).says callS := ⟨by kernel_rfl, fun l => by kernel_rfl⟩
theorem st_44 : (KS 44).okB = true ∧ (KS 44).says callS := ⟨by kernel_rfl, fun l => by kernel_rfl⟩
theorem st_45 : (KS 45).okB = true ∧ (KS 45).says callS := ⟨by kernel_rfl, fun l => by kernel_rfl⟩
theorem st_46 : (KS 46).okB = true ∧ (KS 46).says callS := ⟨by kernel_rfl, fun l => by kernel_rfl⟩
theorem st_47 : (KS 47).okB = true ∧ (KS 47).says callS := ⟨by kernel_rfl, fun l => by kernel_rfl⟩
theorem st_48 : (KS 48).okB = true ∧ (KS 48).says callS := ⟨by kernel_rfl, fun l => by kernel_rfl⟩
theorem st_49 : (KS 49).okB = true ∧ (KS 49).says callS := ⟨by kernel_rfl, fun l => by kernel_rfl⟩
end Go.Proofs.YtlegcfjafdihlaaGreatDoor
