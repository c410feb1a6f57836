/-
  Lists that ascend, plain: where a search ends; an element taken out, put in. No condition.
-/
import Derived.Test.YtjjmgmnhcccjgaaMeC
import Derived.Laws.CopyOwn
namespace Go.Proofs.Ytjjmgmnhcccjgaa
set_option linter.unusedSimpArgs false
set_option linter.unusedVariables false

theorem no_mem {x : Int} {l : List Int} (h : l.contains x = false) : ∀ y ∈ l, y ≠ x := by
  intro y hy e
  subst e
  rw [List.contains_iff_mem.2 hy] at h
  cases h
theorem without_no {x : Int} {l : List Int} (h : l.contains x = false) : withoutP l x = l := by
  unfold withoutP
  rw [List.filter_eq_self]
  intro y hy
  simpa using no_mem h y hy
theorem ge_no {x : Int} {r : List Int} (h : ∀ y ∈ r, x < y) : r.filter (fun y => y != x) = r := by
  rw [List.filter_eq_self]
  intro y hy
  have := h y hy
  simp; omega
theorem without_low (x : Int) : ∀ (l : List Int), l.Pairwise (· < ·) → l.contains x = true → withoutP l x = l.take (lowN l x) ++ l.drop (lowN l x + 1) ∧ lowN l x < l.length
  | [], _, h => by simp at h
  | a :: r, hs, h => by
    have hs' := List.pairwise_cons.1 hs
    by_cases hax : a < x
    · have hr : r.contains x = true := by
        rw [List.contains_cons] at h
        have : (x == a) = false := by simp; omega
        rw [this] at h; exact h
      obtain ⟨h1, h2⟩ := without_low x r hs'.2 hr
      rw [low_lt hax]
      refine ⟨?_, by simp; omega⟩
      unfold withoutP at h1 ⊢
      rw [List.filter_cons_of_pos (by simp; omega), h1]
      rfl
    · have hxa : x = a := by
        rcases List.mem_cons.1 (List.contains_iff_mem.1 h) with e | e
        · exact e
        · have := hs'.1 x e; omega
      subst hxa
      rw [low_ge hs hax]
      refine ⟨?_, by simp⟩
      unfold withoutP
      rw [List.filter_cons_of_neg (by simp), ge_no hs'.1]
      rfl
theorem ins_low (x : Int) : ∀ (l : List Int), l.Pairwise (· < ·) → l.contains x = false → insP x l = l.take (lowN l x) ++ x :: l.drop (lowN l x)
  | [], _, _ => rfl
  | a :: r, hs, h => by
    have hs' := List.pairwise_cons.1 hs
    have hn := no_mem h
    by_cases hax : a < x
    · have hr : r.contains x = false := by
        cases e : r.contains x
        · rfl
        · exact absurd rfl (hn x (List.mem_cons_of_mem _ (List.contains_iff_mem.1 e)))
      rw [low_lt hax, insP, if_pos hax, ins_low x r hs'.2 hr]
      rfl
    · rw [low_ge hs hax, insP, if_neg hax]
      have e := without_no h
      unfold withoutP at e
      rw [e]
      rfl
theorem ins_has (x : Int) : ∀ (l : List Int), l.Pairwise (· < ·) → l.contains x = true → insP x l = l
  | [], _, h => by simp at h
  | a :: r, hs, h => by
    have hs' := List.pairwise_cons.1 hs
    by_cases hax : a < x
    · have hr : r.contains x = true := by
        rw [List.contains_cons] at h
        have : (x == a) = false := by simp; omega
        rw [this] at h; exact h
      rw [insP, if_pos hax, ins_has x r hs'.2 hr]
    · have hxa : x = a := by
        rcases List.mem_cons.1 (List.contains_iff_mem.1 h) with e | e
        · exact e
        · have := hs'.1 x e; omega
      subst hxa
      rw [insP, if_neg hax, List.filter_cons_of_neg (by simp), ge_no hs'.1]
/-- Nothing of a list but what is put in. -/
theorem ins_mem (x y : Int) : ∀ (l : List Int), y ∈ insP x l ↔ y = x ∨ y ∈ l
  | [] => by simp [insP]
  | a :: r => by
    unfold insP
    split
    · rw [List.mem_cons, ins_mem x y r, List.mem_cons]
      constructor
      · rintro (h | h | h)
        · exact .inr (.inl h)
        · exact .inl h
        · exact .inr (.inr h)
      · rintro (h | h | h)
        · exact .inr (.inl h)
        · exact .inl h
        · exact .inr (.inr h)
    · rw [List.mem_cons, List.mem_filter]
      constructor
      · rintro (h | h)
        · exact .inl h
        · exact .inr h.1
      · rintro (h | h)
        · exact .inl h
        · by_cases e : y = x
          · exact .inl e
          · exact .inr ⟨h, by simpa using e⟩
theorem ins_sorted (x : Int) : ∀ (l : List Int), l.Pairwise (· < ·) → (insP x l).Pairwise (· < ·)
  | [], _ => by simp [insP]
  | a :: r, hs => by
    have hs' := List.pairwise_cons.1 hs
    unfold insP
    split
    · next h =>
      rw [List.pairwise_cons]
      refine ⟨fun y hy => ?_, ins_sorted x r hs'.2⟩
      rcases (ins_mem x y r).1 hy with rfl | e
      · exact h
      · exact hs'.1 y e
    · next h =>
      rw [List.pairwise_cons]
      refine ⟨fun y hy => ?_, hs.filter _⟩
      obtain ⟨h1, h2⟩ := List.mem_filter.1 hy
      have h2 : y ≠ x := by simpa using h2
      rcases List.mem_cons.1 h1 with rfl | e
      · omega
      · have := hs'.1 y e; omega
theorem without_sorted {l : List Int} (x : Int) (hs : l.Pairwise (· < ·)) : (withoutP l x).Pairwise (· < ·) := hs.filter _
theorem ins_contains (x : Int) (l : List Int) : (insP x l).contains x = true := List.contains_iff_mem.2 ((ins_mem x x l).2 (.inl rfl))
theorem without_ins (x : Int) : ∀ (l : List Int), l.contains x = false → withoutP (insP x l) x = l
  | [], _ => by simp [insP, withoutP]
  | a :: r, h => by
    have hn := no_mem h
    have hr : r.contains x = false := by
      cases e : r.contains x
      · rfl
      · exact absurd rfl (hn x (List.mem_cons_of_mem _ (List.contains_iff_mem.1 e)))
    have hax := hn a List.mem_cons_self
    unfold insP
    split
    · have e := without_ins x r hr
      unfold withoutP at e ⊢
      rw [List.filter_cons_of_pos (by simpa using hax), e]
    · have e := without_no h
      unfold withoutP at e ⊢
      rw [List.filter_cons_of_neg (by simp), e, e]
theorem without_contains (x : Int) (l : List Int) : (withoutP l x).contains x = false := by
  cases e : (withoutP l x).contains x
  · rfl
  · have := (List.mem_filter.1 (List.contains_iff_mem.1 e)).2
    simp at this
theorem without_other {x y : Int} (l : List Int) (h : y ≠ x) : (withoutP l x).contains y = l.contains y := by
  rw [Bool.eq_iff_iff, List.contains_iff_mem, List.contains_iff_mem]
  unfold withoutP
  rw [List.mem_filter]
  exact ⟨fun k => k.1, fun k => ⟨k, by simpa using h⟩⟩

/-! ### Rows -/
theorem splice_two {α : Type} (Z X Y : List α) (h : Z.length = X.length + Y.length) : splice (splice Z 0 X) X.length Y = X ++ Y := by
  have e1 : splice Z 0 X = X ++ Z.drop X.length := by simp [splice]
  rw [e1]
  unfold splice
  rw [List.take_left, List.drop_eq_nil_of_le (by simp; omega), List.append_nil]
theorem splice_mid {α : Type} (Z X Y : List α) (z : α) (h : Z.length = X.length + 1 + Y.length) : splice ((splice Z 0 X).set X.length z) (X.length + 1) Y = X ++ z :: Y := by
  have e1 : splice Z 0 X = X ++ Z.drop X.length := by simp [splice]
  rw [e1]
  have hd : Z.drop X.length = Z[X.length]'(by omega) :: Z.drop (X.length + 1) := List.drop_eq_getElem_cons (by omega)
  rw [hd, List.set_append_right _ _ (by omega), Nat.sub_self, List.set_cons_zero]
  unfold splice
  rw [show X ++ z :: Z.drop (X.length + 1) = (X ++ [z]) ++ Z.drop (X.length + 1) by simp, List.take_left' (by simp), List.drop_eq_nil_of_le (by simp; omega)]
  simp
end Go.Proofs.Ytjjmgmnhcccjgaa
