/-
  What a valid instruction is by the reference; Valid of the reference. Condition: the tables read as the program's text lays them (asked by the boxes alone).
-/
import Derived.Test.YtdbbnkjnmldnpaaGreatDoorInU
import Derived.Test.YtdbbnkjnmldnpaaGreatDoorInM
import Derived.Test.YtdbbnkjnmldnpaaGreatDoorInO
namespace Go.Proofs.YtdbbnkjnmldnpaaGreatDoor
open Go.RowKit
set_option linter.unusedSimpArgs false
set_option linter.unusedVariables false
set_option maxHeartbeats 40000000
set_option maxRecDepth 100000
attribute [local irreducible] wpQuiet

theorem rv_parts {o : Int} {b : Bool} {m r x p q y g n : Int} (hv : vR ⟨o, b, m, r, x, p, q, y, g, n⟩ = true) : bad1 o b = false ∧ bad2 o m r x = false ∧ bad3 o p q y = false ∧ bad4 o g n = false := by
  rw [← rv_eq] at hv
  unfold rvR at hv
  simp only [Bool.and_eq_true, Bool.not_eq_true'] at hv
  exact ⟨hv.1, hv.2.1, hv.2.2.1, hv.2.2.2.1⟩
theorem hs_zero {o : Int} {b : Bool} {m r x p q y g n : Int} (hv : vR ⟨o, b, m, r, x, p, q, y, g, n⟩ = true) (h : hsR o = false) : m = 0 ∧ r = 0 ∧ x = 0 := by
  have k := (rv_parts hv).2.1
  unfold bad2 zz at k
  rw [h, if_neg (by decide)] at k
  simpa using k
theorem hd_zero {o : Int} {b : Bool} {m r x p q y g n : Int} (hv : vR ⟨o, b, m, r, x, p, q, y, g, n⟩ = true) (h : hdR o = false) : p = 0 ∧ q = 0 ∧ y = 0 := by
  have k := (rv_parts hv).2.2.1
  unfold bad3 zz at k
  rw [h, if_neg (by decide)] at k
  simpa using k
theorem v_rng {o : Int} {b : Bool} {m r x p q y g n : Int} (hv : vR ⟨o, b, m, r, x, p, q, y, g, n⟩ = true) : (1 ≤ o ∧ o ≤ 56) ∧ (0 ≤ g ∧ g ≤ 7) ∧ (-128 ≤ n ∧ n ≤ 255) := by
  obtain ⟨k1, _, _, k4⟩ := rv_parts hv
  unfold bad1 at k1
  unfold bad4 at k4
  simp only [Bool.or_eq_false_iff, decide_eq_false_iff_not] at k1 k4
  have hl : -128 ≤ loR o := by unfold loR; split <;> omega
  have hh : hiR o ≤ 255 := by unfold hiR; repeat' split
                              all_goals omega
  obtain ⟨k41, k42, _, k43, k44⟩ := k4
  obtain ⟨k11, k12, _⟩ := k1
  exact ⟨⟨by omega, by omega⟩, ⟨by omega, by omega⟩, ⟨by omega, by omega⟩⟩
theorem ex00 : exR ((0 : Int) % 8) ((0 : Int) % 8) = false := by decide
theorem rV_any (o : Int) (b : Bool) (m r x p q y g n : Int) {A : Addr} {c : Nat} (W0 : World) (W : Frm A c W0) : Calls Tryz.prog 32 #[.agg #[.int .i64 o, .bool b, .int .i64 m, .int .i64 r, .int .i64 x, .int .i64 p, .int .i64 q, .int .i64 y, .int .i64 g, .int .i64 n]] W0 fun e w' => e = .returned (.bool (vR ⟨o, b, m, r, x, p, q, y, g, n⟩)) ∧ Below W0.heap.size W0 w' := by
  rw [← rv_eq]; exact rValid_any o b m r x p q y g n W0 W

end Go.Proofs.YtdbbnkjnmldnpaaGreatDoor
