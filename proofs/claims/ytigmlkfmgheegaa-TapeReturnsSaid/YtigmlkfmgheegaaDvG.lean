/-
  Spoil of the reference. Condition: at most 2^40 sectors, the bad ones ascend.
-/
import Derived.Test.YtigmlkfmgheegaaDvF
namespace Go.Proofs.Ytigmlkfmgheegaa
open Go.RowKit
set_option linter.unusedSimpArgs false
set_option linter.unusedVariables false
set_option maxHeartbeats 4000000
set_option maxRecDepth 100000
attribute [local irreducible] wpQuiet

theorem insB_split (s : Int) : ∀ (P Q : List Int), (∀ b ∈ P, b < s) → (∀ b ∈ Q, s < b) → insB s (P ++ Q) = P ++ s :: Q
  | [], [], _, _ => rfl
  | [], b :: r, _, h => by
    have := h b List.mem_cons_self
    show (if b < s then _ else _) = _
    rw [if_neg (by omega)]; rfl
  | p :: P, Q, hp, hq => by
    have := hp p List.mem_cons_self
    show (if p < s then p :: insB s (P ++ Q) else _) = _
    rw [if_pos this, insB_split s P Q (fun b hb => hp b (List.mem_cons_of_mem _ hb)) hq]; rfl
theorem insB_at {s : Int} {B : List Int} {k : Nat} (hs : B.Pairwise (· < ·)) (hk : k ≤ B.length) (h1 : ∀ j b, k ≤ j → B[j]? = some b → s < b) (h2 : ∀ b, k ≠ 0 → B[k - 1]? = some b → b < s) : insB s B = B.take k ++ [s] ++ B.drop k := by
  have e : B = B.take k ++ B.drop k := (List.take_append_drop k B).symm
  conv => lhs; rw [e]
  rw [insB_split s (B.take k) (B.drop k)]
  · simp
  · intro b hb
    obtain ⟨j, hj⟩ := List.mem_iff_getElem?.1 hb
    rw [List.getElem?_take] at hj
    have hjk : j < k := by
      rcases Nat.lt_or_ge j k with h | h
      · exact h
      · rw [if_neg (by omega)] at hj; cases hj
    rw [if_pos hjk] at hj
    have hl : k - 1 < B.length := by omega
    have hb1 := h2 B[k - 1] (by omega) (List.getElem?_eq_getElem hl)
    rcases (by omega : j = k - 1 ∨ j < k - 1) with rfl | hlt
    · rw [List.getElem?_eq_getElem hl] at hj; cases hj; exact hb1
    · have hjl : j < B.length := by omega
      rw [List.getElem?_eq_getElem hjl] at hj
      cases hj
      have := (List.pairwise_iff_getElem.1 hs) j (k - 1) hjl hl hlt
      omega
  · intro b hb
    obtain ⟨j, hj⟩ := List.mem_iff_getElem?.1 hb
    rw [List.getElem?_drop] at hj
    exact h1 (k + j) b (by omega) hj
end Go.Proofs.Ytigmlkfmgheegaa
