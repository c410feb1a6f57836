/-
  Walks over first of the reference of package inst, one for each class of operations. Condition: the tables read as the program's text lays them (asked by the boxes alone).
-/
import Derived.Test.YtlaikajgpgpidaaDoorInR
import Derived.Test.YtlaikajgpgpidaaDoorInRb
namespace Go.Proofs.YtlaikajgpgpidaaDoor
open Go.RowKit
set_option linter.unusedSimpArgs false
set_option linter.unusedVariables false
set_option maxHeartbeats 4000000
set_option maxRecDepth 100000
attribute [local irreducible] wpQuiet

theorem first_any (o : Int) (b : Bool) (m r x p q y g n : Int) (ho : 1 ≤ o ∧ o ≤ 56) (hg : 0 ≤ g ∧ g ≤ 7) (hn : -128 ≤ n ∧ n ≤ 255) {A : Addr} {c : Nat} (W0 : World) (W : Frm A c W0) :
    Calls Tryd.prog 34 #[.agg #[.int .i64 o, .bool b, .int .i64 m, .int .i64 r, .int .i64 x, .int .i64 p, .int .i64 q, .int .i64 y, .int .i64 g, .int .i64 n]] W0 fun e w' => e = .returned (.int .i64 (rfR ⟨o, b, m, r, x, p, q, y, g, n⟩)) ∧ Below W0.heap.size W0 w' := by
  by_cases k0 : 1 ≤ o ∧ o ≤ 5
  · exact first_0 o b m r x p q y g n k0 hg hn W0 W
  by_cases k1 : o = 6
  · subst k1; exact first_1 b m r x p q y g n hg hn W0 W
  by_cases k2 : o = 7
  · subst k2; exact first_2 b m r x p q y g n hg hn W0 W
  by_cases k3 : 8 ≤ o ∧ o ≤ 10
  · exact first_3 o b m r x p q y g n k3 hg hn W0 W
  by_cases k4 : o = 11
  · subst k4; exact first_4 b m r x p q y g n hg hn W0 W
  by_cases k5 : 12 ≤ o ∧ o ≤ 19
  · exact first_5 o b m r x p q y g n k5 hg hn W0 W
  by_cases k6 : 20 ≤ o ∧ o ≤ 23
  · exact first_6 o b m r x p q y g n k6 hg hn W0 W
  by_cases k7 : o = 24
  · subst k7; exact first_7 b m r x p q y g n hg hn W0 W
  by_cases k8 : o = 25
  · subst k8; exact first_8 b m r x p q y g n hg hn W0 W
  by_cases k9 : 26 ≤ o ∧ o ≤ 32
  · exact first_9 o b m r x p q y g n k9 hg hn W0 W
  by_cases k10 : 33 ≤ o ∧ o ≤ 40
  · exact first_10 o b m r x p q y g n k10 hg hn W0 W
  by_cases k11 : o = 41
  · subst k11; exact first_11 b m r x p q y g n hg hn W0 W
  by_cases k12 : o = 42
  · subst k12; exact first_12 b m r x p q y g n hg hn W0 W
  by_cases k13 : o = 43
  · subst k13; exact first_13 b m r x p q y g n hg hn W0 W
  by_cases k14 : o = 44
  · subst k14; exact first_14 b m r x p q y g n hg hn W0 W
  by_cases k15 : o = 45
  · subst k15; exact first_15 b m r x p q y g n hg hn W0 W
  by_cases k16 : o = 46
  · subst k16; exact first_16 b m r x p q y g n hg hn W0 W
  by_cases k17 : o = 53
  · subst k17; exact first_17 b m r x p q y g n hg hn W0 W
  by_cases k18 : o = 54
  · subst k18; exact first_18 b m r x p q y g n hg hn W0 W
  by_cases k19 : o = 55
  · subst k19; exact first_19 b m r x p q y g n hg hn W0 W
  by_cases k20 : o = 56
  · subst k20; exact first_20 b m r x p q y g n hg hn W0 W
  by_cases k21 : o = 50
  · subst k21; exact first_21 b m r x p q y g n hg hn W0 W
  by_cases k22 : o = 51
  · subst k22; exact first_22 b m r x p q y g n hg hn W0 W
  by_cases k23 : o = 49
  · subst k23; exact first_23 b m r x p q y g n hg hn W0 W
  by_cases k24 : o = 47
  · subst k24; exact first_24 b m r x p q y g n hg hn W0 W
  by_cases k25 : o = 48
  · subst k25; exact first_25 b m r x p q y g n hg hn W0 W
  by_cases k26 : o = 52
  · subst k26; exact first_26 b m r x p q y g n hg hn W0 W
  exfalso; omega

end Go.Proofs.YtlaikajgpgpidaaDoor
