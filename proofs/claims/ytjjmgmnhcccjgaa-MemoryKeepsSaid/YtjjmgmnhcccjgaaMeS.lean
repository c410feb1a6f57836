/-
  Where a search in an ascending list ends, plain. No condition.
-/
import Derived.Test.YtjjmgmnhcccjgaaMeA
namespace Go.Proofs.Ytjjmgmnhcccjgaa
set_option linter.unusedSimpArgs false
set_option linter.unusedVariables false

/-- How many elements are less. -/
def lowN (l : List Int) (x : Int) : Nat := l.countP (fun y => decide (y < x))
theorem low_lt {a x : Int} {r : List Int} (h : a < x) : lowN (a :: r) x = lowN r x + 1 := by
  unfold lowN; rw [List.countP_cons, if_pos (by simpa using h)]
theorem low_ge {a x : Int} {r : List Int} (hs : (a :: r).Pairwise (· < ·)) (h : ¬ a < x) : lowN (a :: r) x = 0 := by
  unfold lowN
  rw [List.countP_eq_zero]
  intro y hy
  rw [List.pairwise_cons] at hs
  rcases List.mem_cons.1 hy with rfl | hy
  · simpa using h
  · have := hs.1 y hy
    simp; omega
theorem low_le (x : Int) (l : List Int) : lowN l x ≤ l.length := List.countP_le_length
theorem low_iff {x : Int} : ∀ (l : List Int), l.Pairwise (· < ·) → ∀ (m : Nat) (y : Int), l[m]? = some y → (y < x ↔ m < lowN l x)
  | [], _, m, y, h => by simp at h
  | a :: r, hs, 0, y, h => by
    obtain rfl : a = y := by simpa using h
    by_cases hax : a < x
    · rw [low_lt hax]; simp [hax]
    · rw [low_ge hs hax]; simp [hax]
  | a :: r, hs, m + 1, y, h => by
    have hs' := List.pairwise_cons.1 hs
    have h' : r[m]? = some y := by simpa using h
    by_cases hax : a < x
    · rw [low_lt hax, low_iff r hs'.2 m y h']; omega
    · have := hs'.1 y (List.mem_of_getElem? h')
      rw [low_ge hs hax]; omega
theorem low_some {x y : Int} : ∀ (l : List Int), l.Pairwise (· < ·) → l[lowN l x]? = some y → l.contains x = decide (y = x)
  | [], _, h => by simp at h
  | a :: r, hs, h => by
    have hs' := List.pairwise_cons.1 hs
    rw [List.contains_cons]
    by_cases hax : a < x
    · rw [low_lt hax] at h
      have hne : (x == a) = false := by simp; omega
      rw [hne, Bool.false_or]
      exact low_some r hs'.2 (by simpa using h)
    · rw [low_ge hs hax] at h
      obtain rfl : a = y := by simpa using h
      by_cases e : a = x
      · simp [e]
      · have hr : r.contains x = false := by
          cases q : r.contains x
          · rfl
          · have := hs'.1 x (List.contains_iff_mem.1 q); omega
        rw [hr, decide_eq_false e]
        simp
        omega
theorem low_none {x : Int} : ∀ (l : List Int), l.Pairwise (· < ·) → l.length ≤ lowN l x → l.contains x = false
  | [], _, _ => rfl
  | a :: r, hs, h => by
    have hs' := List.pairwise_cons.1 hs
    by_cases hax : a < x
    · rw [low_lt hax] at h
      have hne : (x == a) = false := by simp; omega
      rw [List.contains_cons, hne, Bool.false_or]
      exact low_none r hs'.2 (by simpa using h)
    · rw [low_ge hs hax] at h
      simp at h
end Go.Proofs.Ytjjmgmnhcccjgaa
