/-
  Walk over the statement DisasmInverse: whatever the input, it answers true. Condition: the tables read as the program's text lays them.
-/
import Derived.Test.YtipaednpelapgaaDoorLw7G
import Derived.Test.YtipaednpelapgaaDoorLw7H
namespace Go.Proofs.YtipaednpelapgaaDoor
open Go.RowKit
set_option linter.unusedSimpArgs false
set_option linter.unusedVariables false
set_option maxHeartbeats 40000000
set_option maxRecDepth 100000
attribute [local irreducible] wpQuiet

theorem split3 (i j : In) (a : Int) : vR i = false ∨ (vR i = true ∧ i = j) ∨ (vR i = true ∧ txT i a ≠ txT j a) := by
  cases h : vR i with
  | false => exact Or.inl rfl
  | true =>
    right
    by_cases e : txT i a = txT j a
    · left
      refine ⟨rfl, tx_inj a h ?_ e⟩
      have h1 := tx_em i a
      have h2 := tx_em j a
      rw [e, h2, h] at h1
      simpa using h1
    · exact Or.inr ⟨rfl, e⟩
theorem inverse_law (o1 : Int) (b1 : Bool) (o : Int) (b : Bool) (m r x p q y g n : Int) (o2 : Int) (b2 : Bool) (m2 r2 x2 p2 q2 y2 g2 n2 : Int) (a : Int) {A : Addr} {c : Nat} (W0 : World) (W : Dis A c W0) :
    Calls Tryd.prog 6 #[.int .i64 o1, .bool b1, .agg #[.int .i64 o, .bool b, .int .i64 m, .int .i64 r, .int .i64 x, .int .i64 p, .int .i64 q, .int .i64 y, .int .i64 g, .int .i64 n], .agg #[.int .i64 o2, .bool b2, .int .i64 m2, .int .i64 r2, .int .i64 x2, .int .i64 p2, .int .i64 q2, .int .i64 y2, .int .i64 g2, .int .i64 n2], .int .i64 a] W0 fun e w' => e = .returned (.bool true) ∧ Below W0.heap.size W0 w' := by
  have hc : o1 < 1 ∨ 56 < o1 ∨ (b1 = true ∧ 5 < o1 ∧ o1 < 12) ∨ (b1 = true ∧ 23 < o1 ∧ o1 ≤ 56) ∨ (b1 = false ∧ 1 ≤ o1 ∧ o1 ≤ 56) ∨ (b1 = true ∧ 1 ≤ o1 ∧ o1 ≤ 5) ∨ (b1 = true ∧ 12 ≤ o1 ∧ o1 ≤ 23) := by
    cases b1
    · simp; omega
    · simp; omega
  rcases split3 ⟨o, b, m, r, x, p, q, y, g, n⟩ ⟨o2, b2, m2, r2, x2, p2, q2, y2, g2, n2⟩ a with h | ⟨h, e⟩ | ⟨h, k⟩
  · rcases hc with k1 | k1 | ⟨kb, k1, k2⟩ | ⟨kb, k1, k2⟩ | ⟨kb, k1, k2⟩ | ⟨kb, k1, k2⟩ | ⟨kb, k1, k2⟩
    · exact inv_A1F o1 b1 o b m r x p q y g n o2 b2 m2 r2 x2 p2 q2 y2 g2 n2 a k1 h W0 W
    · exact inv_A2F o1 b1 o b m r x p q y g n o2 b2 m2 r2 x2 p2 q2 y2 g2 n2 a k1 h W0 W
    · exact inv_A3F o1 b1 o b m r x p q y g n o2 b2 m2 r2 x2 p2 q2 y2 g2 n2 a kb k1 k2 h W0 W
    · exact inv_A4F o1 b1 o b m r x p q y g n o2 b2 m2 r2 x2 p2 q2 y2 g2 n2 a kb k1 k2 h W0 W
    · exact inv_B1F o1 b1 o b m r x p q y g n o2 b2 m2 r2 x2 p2 q2 y2 g2 n2 a kb k1 k2 h W0 W
    · exact inv_B2F o1 b1 o b m r x p q y g n o2 b2 m2 r2 x2 p2 q2 y2 g2 n2 a kb k1 k2 h W0 W
    · exact inv_B3F o1 b1 o b m r x p q y g n o2 b2 m2 r2 x2 p2 q2 y2 g2 n2 a kb k1 k2 h W0 W
  · simp only [In.mk.injEq] at e
    obtain ⟨rfl, rfl, rfl, rfl, rfl, rfl, rfl, rfl, rfl, rfl⟩ := e
    rcases hc with k1 | k1 | ⟨kb, k1, k2⟩ | ⟨kb, k1, k2⟩ | ⟨kb, k1, k2⟩ | ⟨kb, k1, k2⟩ | ⟨kb, k1, k2⟩
    · exact inv_A1E o1 b1 o b m r x p q y g n a k1 h W0 W
    · exact inv_A2E o1 b1 o b m r x p q y g n a k1 h W0 W
    · exact inv_A3E o1 b1 o b m r x p q y g n a kb k1 k2 h W0 W
    · exact inv_A4E o1 b1 o b m r x p q y g n a kb k1 k2 h W0 W
    · exact inv_B1E o1 b1 o b m r x p q y g n a kb k1 k2 h W0 W
    · exact inv_B2E o1 b1 o b m r x p q y g n a kb k1 k2 h W0 W
    · exact inv_B3E o1 b1 o b m r x p q y g n a kb k1 k2 h W0 W
  · rcases hc with k1 | k1 | ⟨kb, k1, k2⟩ | ⟨kb, k1, k2⟩ | ⟨kb, k1, k2⟩ | ⟨kb, k1, k2⟩ | ⟨kb, k1, k2⟩
    · exact inv_A1N o1 b1 o b m r x p q y g n o2 b2 m2 r2 x2 p2 q2 y2 g2 n2 a k1 h k W0 W
    · exact inv_A2N o1 b1 o b m r x p q y g n o2 b2 m2 r2 x2 p2 q2 y2 g2 n2 a k1 h k W0 W
    · exact inv_A3N o1 b1 o b m r x p q y g n o2 b2 m2 r2 x2 p2 q2 y2 g2 n2 a kb k1 k2 h k W0 W
    · exact inv_A4N o1 b1 o b m r x p q y g n o2 b2 m2 r2 x2 p2 q2 y2 g2 n2 a kb k1 k2 h k W0 W
    · exact inv_B1N o1 b1 o b m r x p q y g n o2 b2 m2 r2 x2 p2 q2 y2 g2 n2 a kb k1 k2 h k W0 W
    · exact inv_B2N o1 b1 o b m r x p q y g n o2 b2 m2 r2 x2 p2 q2 y2 g2 n2 a kb k1 k2 h k W0 W
    · exact inv_B3N o1 b1 o b m r x p q y g n o2 b2 m2 r2 x2 p2 q2 y2 g2 n2 a kb k1 k2 h k W0 W

end Go.Proofs.YtipaednpelapgaaDoor
