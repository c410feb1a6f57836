/-
  The best of some requests, found one by one; an order by two comparisons: plain. No condition.
-/
import Derived.Test.YtglneeeeogkljaaArA
namespace Go.Proofs.Ytglneeeeogkljaa
open Go.RowKit
set_option linter.unusedSimpArgs false
set_option linter.unusedVariables false

/-- The program's place of a vector. -/
def rk (v : Int) : Int := if v = 64 then 1 else if v = 160 then 2 else if v = 164 then 3 else v
/-- cmp.Compare. -/
def cmpI (x y : Int) : Int := if x < y then -1 else if y < x then 1 else 0
/-- cmp.Or of two. -/
def or2 (x y : Int) : Int := if x = 0 then y else x
/-- The program's comparison. -/
def cf (a b : Rq) : Int := or2 (cmpI b.1 a.1) (cmpI (rk a.2) (rk b.2))
theorem cmpI_neg {x y : Int} : cmpI x y < 0 ↔ x < y := by
  unfold cmpI
  split
  · omega
  split <;> omega
theorem cmpI_zero {x y : Int} : cmpI x y = 0 ↔ x = y := by
  unfold cmpI
  split
  · omega
  split <;> omega
theorem cf_neg (a b : Rq) : cf a b < 0 ↔ b.1 < a.1 ∨ (b.1 = a.1 ∧ rk a.2 < rk b.2) := by
  unfold cf or2
  have h1 := @cmpI_neg b.1 a.1
  have h2 := @cmpI_zero b.1 a.1
  have h3 := @cmpI_neg (rk a.2) (rk b.2)
  split <;> rename_i h <;> omega
theorem rk_lt {u v : Int} (hu : 4 ≤ u) (hv : 4 ≤ v) : rk u < rk v ↔ rnk u < rnk v := by
  unfold rk rnk
  repeat (split <;> try omega)
theorem cf_key {a b : Rq} (ha : okQ a = true) (hb : okQ b = true) : cf a b < 0 ↔ key a < key b := by
  have hk := bef_key ha hb
  rw [okQ_iff] at ha hb
  rw [cf_neg, rk_lt (by omega) (by omega)]
  unfold bef at hk
  by_cases c : a.1 = b.1
  · rw [if_pos c] at hk
    have := decide_eq_decide.1 hk
    omega
  · rw [if_neg c] at hk
    have := decide_eq_decide.1 hk
    omega

theorem bst_char {l : List Rq} {q : Rq} (hq : q ∈ l) (hok : okQ q = true) (hmin : ∀ x ∈ l, okQ x = true → key q ≤ key x) : bst l = (q, true) := by
  have hm : ∀ x, x ∈ srt l ↔ x ∈ l ∧ okQ x = true := fun x => by rw [(srt_perm l).mem_iff, List.mem_filter]
  have ho := srt_ord l
  unfold bst
  cases h : srt l with
  | nil => exact absurd ((hm q).2 ⟨hq, hok⟩) (by rw [h]; exact List.not_mem_nil)
  | cons y r =>
    rw [h] at hm ho
    have hy := (hm y).1 List.mem_cons_self
    have h1 := hmin y hy.1 hy.2
    have h2 : key y ≤ key q := by
      rcases List.mem_cons.1 ((hm q).2 ⟨hq, hok⟩) with e | e
      · rw [e]; exact Int.le_refl _
      · exact (List.pairwise_cons.1 ho.2).1 q e
    have e := key_inj hy.2 hok (by omega)
    rw [e]
theorem bst_none {l : List Rq} (h : ∀ x ∈ l, okQ x = false) : bst l = ((0, 0), false) := by
  unfold bst
  cases hs : srt l with
  | nil => rfl
  | cons y r =>
    have : y ∈ srt l := by rw [hs]; exact List.mem_cons_self
    rw [(srt_perm l).mem_iff, List.mem_filter] at this
    rw [h y this.1] at this
    cases this.2
theorem bst_spec (l : List Rq) : (bst l = ((0, 0), false) ∧ ∀ x ∈ l, okQ x = false) ∨ ∃ q, bst l = (q, true) ∧ q ∈ l ∧ okQ q = true ∧ ∀ x ∈ l, okQ x = true → key q ≤ key x := by
  have hm : ∀ x, x ∈ srt l ↔ x ∈ l ∧ okQ x = true := fun x => by rw [(srt_perm l).mem_iff, List.mem_filter]
  have ho := srt_ord l
  unfold bst
  cases h : srt l with
  | nil =>
    refine .inl ⟨rfl, fun x hx => ?_⟩
    cases e : okQ x with
    | false => rfl
    | true => exact absurd ((hm x).2 ⟨hx, e⟩) (by rw [h]; exact List.not_mem_nil)
  | cons y r =>
    rw [h] at hm ho
    have hy := (hm y).1 List.mem_cons_self
    refine .inr ⟨y, rfl, hy.1, hy.2, fun x hx hok => ?_⟩
    rcases List.mem_cons.1 ((hm x).2 ⟨hx, hok⟩) with e | e
    · rw [e]; exact Int.le_refl _
    · exact (List.pairwise_cons.1 ho.2).1 x e
theorem take_one {l : List Rq} {k : Nat} {x : Rq} (h : l[k]? = some x) : l.take (k + 1) = l.take k ++ [x] := by
  have hk : k < l.length := (List.getElem?_eq_some_iff.1 h).1
  rw [List.take_succ_eq_append_getElem hk, (List.getElem?_eq_some_iff.1 h).2]
/-- One that is not valid changes nothing. -/
theorem bst_no {l : List Rq} {x : Rq} (h : okQ x = false) : bst (l ++ [x]) = bst l := by
  rcases bst_spec l with ⟨e, hn⟩ | ⟨q, e, hq, hok, hmin⟩
  · rw [e]
    refine bst_none fun y hy => ?_
    rcases List.mem_append.1 hy with hy | hy
    · exact hn y hy
    · rw [List.mem_singleton.1 hy]; exact h
  · rw [e]
    refine bst_char (List.mem_append_left _ hq) hok fun y hy hoy => ?_
    rcases List.mem_append.1 hy with hy | hy
    · exact hmin y hy hoy
    · rw [List.mem_singleton.1 hy, h] at hoy; cases hoy
/-- The first valid one. -/
theorem bst_first {l : List Rq} {x : Rq} (h : okQ x = true) (hb : (bst l).2 = false) : bst (l ++ [x]) = (x, true) := by
  rcases bst_spec l with ⟨e, hn⟩ | ⟨q, e, _⟩
  · refine bst_char (List.mem_append_right _ (List.mem_singleton.2 rfl)) h fun y hy hoy => ?_
    rcases List.mem_append.1 hy with hy | hy
    · rw [hn y hy] at hoy; cases hoy
    · rw [List.mem_singleton.1 hy]; exact Int.le_refl _
  · rw [e] at hb; cases hb
/-- A valid one beside the best one so far. -/
theorem bst_next {l : List Rq} {x : Rq} (h : okQ x = true) (hb : (bst l).2 = true) : bst (l ++ [x]) = if cf x (bst l).1 < 0 then (x, true) else bst l := by
  rcases bst_spec l with ⟨e, _⟩ | ⟨q, e, hq, hok, hmin⟩
  · rw [e] at hb; cases hb
  · rw [e]
    have hc := cf_key h hok
    simp only
    split
    · rename_i c
      have := hc.1 c
      refine bst_char (List.mem_append_right _ (List.mem_singleton.2 rfl)) h fun y hy hoy => ?_
      rcases List.mem_append.1 hy with hy | hy
      · have := hmin y hy hoy; omega
      · rw [List.mem_singleton.1 hy]; exact Int.le_refl _
    · rename_i c
      refine bst_char (List.mem_append_left _ hq) hok fun y hy hoy => ?_
      rcases List.mem_append.1 hy with hy | hy
      · exact hmin y hy hoy
      · rw [List.mem_singleton.1 hy]; omega
end Go.Proofs.Ytglneeeeogkljaa
