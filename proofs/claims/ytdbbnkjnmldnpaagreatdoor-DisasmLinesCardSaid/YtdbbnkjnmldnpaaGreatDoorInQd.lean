/-
  Walk over shape of the reference of package inst: every word. Condition: the tables read as the program's text lays them (asked by the boxes alone).
-/
import Derived.Test.YtdbbnkjnmldnpaaGreatDoorInQ
import Derived.Test.YtdbbnkjnmldnpaaGreatDoorInQb
import Derived.Test.YtdbbnkjnmldnpaaGreatDoorInQc
namespace Go.Proofs.YtdbbnkjnmldnpaaGreatDoor
open Go.RowKit
set_option linter.unusedSimpArgs false
set_option linter.unusedVariables false
set_option maxHeartbeats 40000000
set_option maxRecDepth 100000
attribute [local irreducible] wpQuiet

theorem shape_any (w : Int) (h0 : 0 ≤ w) (h1 : w ≤ 65535) {A : Addr} {c : Nat} (W0 : World) (W : Frm A c W0) : Calls Tryz.prog 28 #[.int .i64 w] W0 fun e w' => e = .returned (inV0 (shR w)) ∧ Below W0.heap.size W0 w' := by
  by_cases k0 : w ≤ 0
  · exact shape_0 w (by omega) k0 W0 W
  by_cases k1 : w ≤ 1
  · exact shape_1 w (by omega) k1 W0 W
  by_cases k2 : w ≤ 2
  · exact shape_2 w (by omega) k2 W0 W
  by_cases k3 : w ≤ 3
  · exact shape_3 w (by omega) k3 W0 W
  by_cases k4 : w ≤ 4
  · exact shape_4 w (by omega) k4 W0 W
  by_cases k5 : w ≤ 5
  · exact shape_5 w (by omega) k5 W0 W
  by_cases k6 : w ≤ 63
  · exact shape_6 w (by omega) k6 W0 W
  by_cases k7 : w ≤ 127
  · exact shape_7 w (by omega) k7 W0 W
  by_cases k8 : w ≤ 135
  · exact shape_8 w (by omega) k8 W0 W
  by_cases k9 : w ≤ 159
  · exact shape_9 w (by omega) k9 W0 W
  by_cases k10 : w ≤ 175
  · exact shape_10 w (by omega) k10 W0 W
  by_cases k11 : w ≤ 191
  · exact shape_11 w (by omega) k11 W0 W
  by_cases k12 : w ≤ 255
  · exact shape_12 w (by omega) k12 W0 W
  by_cases k13 : w ≤ 2047
  · exact shape_13 w (by omega) k13 W0 W
  by_cases k14 : w ≤ 2559
  · exact shape_14 w (by omega) k14 W0 W
  by_cases k15 : w ≤ 3071
  · exact shape_15 w (by omega) k15 W0 W
  by_cases k16 : w ≤ 3327
  · exact shape_16 w (by omega) k16 W0 W
  by_cases k17 : w ≤ 3391
  · exact shape_17 w (by omega) k17 W0 W
  by_cases k18 : w ≤ 3455
  · exact shape_18 w (by omega) k18 W0 W
  by_cases k19 : w ≤ 3519
  · exact shape_19 w (by omega) k19 W0 W
  by_cases k20 : w ≤ 3583
  · exact shape_20 w (by omega) k20 W0 W
  by_cases k21 : w ≤ 4095
  · exact shape_21 w (by omega) k21 W0 W
  by_cases k22 : w ≤ 24575
  · exact shape_22 w (by omega) k22 W0 W
  by_cases k23 : w ≤ 28671
  · exact shape_23 w (by omega) k23 W0 W
  by_cases k24 : w ≤ 30207
  · exact shape_24 w (by omega) k24 W0 W
  by_cases k25 : w ≤ 30719
  · exact shape_25 w (by omega) k25 W0 W
  by_cases k26 : w ≤ 31231
  · exact shape_26 w (by omega) k26 W0 W
  by_cases k27 : w ≤ 32255
  · exact shape_27 w (by omega) k27 W0 W
  by_cases k28 : w ≤ 32767
  · exact shape_28 w (by omega) k28 W0 W
  by_cases k29 : w ≤ 34815
  · exact shape_29 w (by omega) k29 W0 W
  by_cases k30 : w ≤ 35071
  · exact shape_30 w (by omega) k30 W0 W
  by_cases k31 : w ≤ 35327
  · exact shape_31 w (by omega) k31 W0 W
  by_cases k32 : w ≤ 35839
  · exact shape_32 w (by omega) k32 W0 W
  by_cases k33 : w ≤ 36095
  · exact shape_33 w (by omega) k33 W0 W
  by_cases k34 : w ≤ 36863
  · exact shape_34 w (by omega) k34 W0 W
  by_cases k35 : w ≤ 57343
  · exact shape_35 w (by omega) k35 W0 W
  by_cases k36 : w ≤ 61439
  · exact shape_36 w (by omega) k36 W0 W
  exact shape_37 w (by omega) h1 W0 W

end Go.Proofs.YtdbbnkjnmldnpaaGreatDoor
