/-
  Requests of interrupts: valid ones, their order, the sorted list: plain. No condition.
-/
import Derived.Test.YtigmlkfmgheegaaBits
namespace Go.Proofs.Ytigmlkfmgheegaa
open Go.RowKit
set_option linter.unusedSimpArgs false
set_option linter.unusedVariables false

/-- A request: priority and vector. -/
abbrev Rq := Int × Int
/-- Is it valid? -/
def okQ (q : Rq) : Bool := decide (1 ≤ q.1) && decide (q.1 ≤ 7) && decide (4 ≤ q.2) && decide (q.2 ≤ 252) && decide (q.2 % 4 = 0)
/-- The place of a vector. -/
def rnk (v : Int) : Int := if v = 64 then 0 else if v = 160 then 1 else if v = 164 then 2 else 3 + v
/-- Is it served before? -/
def bef (a b : Rq) : Bool := if a.1 = b.1 then decide (rnk a.2 < rnk b.2) else decide (b.1 < a.1)
/-- Its place among all. -/
def key (q : Rq) : Int := (7 - q.1) * 1000 + rnk q.2
theorem okQ_iff (q : Rq) : okQ q = true ↔ 1 ≤ q.1 ∧ q.1 ≤ 7 ∧ 4 ≤ q.2 ∧ q.2 ≤ 252 ∧ q.2 % 4 = 0 := by
  unfold okQ
  simp only [Bool.and_eq_true, decide_eq_true_eq]
  omega
theorem rnk_bd {v : Int} (h : 4 ≤ v ∧ v ≤ 252) : 0 ≤ rnk v ∧ rnk v ≤ 255 := by
  unfold rnk
  split
  · omega
  split
  · omega
  split <;> omega
theorem bef_key {a b : Rq} (ha : okQ a = true) (hb : okQ b = true) : bef a b = decide (key a < key b) := by
  rw [okQ_iff] at ha hb
  have h1 := rnk_bd (v := a.2) (by omega)
  have h2 := rnk_bd (v := b.2) (by omega)
  unfold bef key
  split
  · rw [decide_eq_decide]; omega
  · rw [decide_eq_decide]; omega
theorem key_inj {a b : Rq} (ha : okQ a = true) (hb : okQ b = true) (h : key a = key b) : a = b := by
  rw [okQ_iff] at ha hb
  have h1 := rnk_bd (v := a.2) (by omega)
  have h2 := rnk_bd (v := b.2) (by omega)
  obtain ⟨p, v⟩ := a
  obtain ⟨q, u⟩ := b
  simp only [key] at *
  have e1 : p = q := by omega
  have e2 : rnk v = rnk u := by omega
  have e3 : v = u := by
    unfold rnk at e2
    split at e2 <;> split at e2 <;> (try split at e2) <;> (try split at e2) <;> (try split at e2) <;> (try split at e2) <;> omega
  rw [e1, e3]

/-- Where x goes among the first k. -/
def pos (x : Rq) (l : List Rq) : Nat → Nat
  | 0 => 0
  | k + 1 => if bef x (l.getD k (0, 0)) = true then pos x l k else k + 1
theorem pos_le (x : Rq) (l : List Rq) (k : Nat) : pos x l k ≤ k := by
  induction k with
  | zero => exact Nat.le_refl _
  | succ k ih => unfold pos; split <;> omega
theorem pos_end (x : Rq) (l : List Rq) (k : Nat) (h : pos x l k ≠ 0) : bef x (l.getD (pos x l k - 1) (0, 0)) = false := by
  induction k with
  | zero => exact absurd rfl h
  | succ k ih =>
    unfold pos at h ⊢
    split
    · rename_i hb
      rw [if_pos hb] at h
      exact ih h
    · rename_i hb
      exact Bool.not_eq_true _ ▸ hb
theorem pos_ge (x : Rq) (l : List Rq) (k j : Nat) (h1 : pos x l k ≤ j) (h2 : j < k) : bef x (l.getD j (0, 0)) = true := by
  induction k with
  | zero => omega
  | succ k ih =>
    unfold pos at h1
    split at h1
    · rename_i hb
      rcases (by omega : j = k ∨ j < k) with rfl | hj
      · exact hb
      · exact ih h1 hj
    · omega
/-- With x laid in. -/
def ins (x : Rq) (l : List Rq) : List Rq := l.take (pos x l l.length) ++ x :: l.drop (pos x l l.length)
def stp (l : List Rq) (q : Rq) : List Rq := if okQ q = true then ins q l else l
/-- The valid ones in order. -/
def srt (l : List Rq) : List Rq := l.foldl stp []
/-- All valid, in order. -/
def Ord (l : List Rq) : Prop := (∀ q ∈ l, okQ q = true) ∧ l.Pairwise fun a b => key a ≤ key b
theorem ins_perm (x : Rq) (l : List Rq) : (ins x l).Perm (x :: l) := by
  unfold ins
  refine List.perm_middle.trans (List.Perm.cons _ ?_)
  rw [List.take_append_drop]
theorem ins_ord {x : Rq} {l : List Rq} (hx : okQ x = true) (h : Ord l) : Ord (ins x l) := by
  obtain ⟨hv, hp⟩ := h
  have hk := pos_le x l l.length
  have hg : ∀ j (hj : j < l.length), l.getD j (0, 0) = l[j] := fun j hj => by simp [hj]
  have hpw := List.pairwise_iff_getElem.1 hp
  have hA : ∀ a ∈ l.take (pos x l l.length), key a ≤ key x := by
    intro a ha
    obtain ⟨j, hj, rfl⟩ := List.getElem_of_mem ha
    rw [List.length_take] at hj
    have hj1 : j < pos x l l.length := by omega
    have hj2 : j < l.length := by omega
    rw [List.getElem_take]
    have h1 := pos_end x l l.length (by omega)
    have hq : pos x l l.length - 1 < l.length := by omega
    rw [hg _ hq, bef_key hx (hv _ (List.getElem_mem hq)), decide_eq_false_iff_not] at h1
    rcases (by omega : j = pos x l l.length - 1 ∨ j < pos x l l.length - 1) with e | e
    · have e' : l[j] = l[pos x l l.length - 1] := by simp only [e]
      rw [e']; omega
    · have := hpw j _ hj2 hq e
      omega
  have hB : ∀ a ∈ l.drop (pos x l l.length), key x ≤ key a := by
    intro a ha
    obtain ⟨j, hj, rfl⟩ := List.getElem_of_mem ha
    rw [List.length_drop] at hj
    rw [List.getElem_drop]
    have hj2 : pos x l l.length + j < l.length := by omega
    have h1 := pos_ge x l l.length (pos x l l.length + j) (by omega) hj2
    rw [hg _ hj2, bef_key hx (hv _ (List.getElem_mem hj2)), decide_eq_true_iff] at h1
    omega
  refine ⟨fun q hq => ?_, ?_⟩
  · rcases List.mem_cons.1 ((ins_perm x l).mem_iff.1 hq) with rfl | h
    · exact hx
    · exact hv _ h
  · unfold ins
    rw [List.pairwise_append]
    refine ⟨hp.sublist (List.take_sublist _ _), List.pairwise_cons.2 ⟨hB, hp.sublist (List.drop_sublist _ _)⟩, fun a ha b hb => ?_⟩
    rcases List.mem_cons.1 hb with rfl | hb
    · exact hA a ha
    · exact Int.le_trans (hA a ha) (hB b hb)
theorem fold_perm (l acc : List Rq) : (l.foldl stp acc).Perm (l.filter okQ ++ acc) := by
  induction l generalizing acc with
  | nil => exact List.Perm.refl _
  | cons q l ih =>
    rw [List.foldl_cons]
    refine (ih _).trans ?_
    unfold stp
    by_cases h : okQ q = true
    · rw [if_pos h, List.filter_cons_of_pos h]
      refine (List.Perm.append_left _ (ins_perm q acc)).trans ?_
      exact List.perm_middle
    · rw [if_neg h, List.filter_cons_of_neg h]
theorem fold_ord (l acc : List Rq) (h : Ord acc) : Ord (l.foldl stp acc) := by
  induction l generalizing acc with
  | nil => exact h
  | cons q l ih =>
    rw [List.foldl_cons]
    refine ih _ ?_
    unfold stp
    split
    · rename_i hq; exact ins_ord hq h
    · exact h
theorem srt_perm (l : List Rq) : (srt l).Perm (l.filter okQ) := by
  have := fold_perm l []
  rwa [List.append_nil] at this
theorem srt_ord (l : List Rq) : Ord (srt l) := fold_ord l [] ⟨fun q h => (by cases h), List.Pairwise.nil⟩
theorem ord_eq {a b : List Rq} (ha : Ord a) (hb : Ord b) (h : a.Perm b) : a = b :=
  List.Perm.eq_of_pairwise (fun x y hx hy h1 h2 => key_inj (ha.1 x hx) (hb.1 y hy) (by omega)) ha.2 hb.2 h
/-- What is in order, and has the valid ones, is the sorted list. -/
theorem srt_eq {a l : List Rq} (ha : Ord a) (h : a.Perm (l.filter okQ)) : a = srt l := ord_eq ha (srt_ord l) (h.trans (srt_perm l).symm)
theorem srt_reverse (l : List Rq) : srt l.reverse = srt l := by
  refine (srt_eq (srt_ord _) ((srt_perm _).trans ?_))
  rw [List.filter_reverse]
  exact List.reverse_perm _
theorem srt_srt (l : List Rq) : srt (srt l) = srt l := by
  refine (srt_eq (srt_ord _) ((srt_perm _).trans ?_))
  exact ((srt_perm l).filter _).trans (by rw [List.filter_filter]; simp)
theorem srt_length (l : List Rq) : (srt l).length = l.countP okQ := by rw [(srt_perm l).length_eq, List.countP_eq_length_filter]
theorem srt_ok {l : List Rq} {q : Rq} (h : q ∈ srt l) : okQ q = true := (srt_ord l).1 q h
/-- The best one. -/
def bst (l : List Rq) : Rq × Bool := match srt l with | [] => ((0, 0), false) | q :: _ => (q, true)
theorem bst_ok {l : List Rq} (h : (bst l).2 = true) : okQ (bst l).1 = true := by
  unfold bst at h ⊢
  split
  · rename_i e; rw [e] at h; cases h
  · rename_i q r e; exact srt_ok (l := l) (by rw [e]; exact List.mem_cons_self)
theorem bst_len (l : List Rq) : (bst l).2 = decide (0 < l.countP okQ) := by
  rw [← srt_length]
  unfold bst
  split
  · rename_i e; rw [e]; rfl
  · rename_i q r e; rw [e]; simp
/-- The one that interrupts at a priority p. -/
def grt (l : List Rq) (p : Int) : Rq × Bool := if (bst l).2 = true ∧ p < (bst l).1.1 then ((bst l).1, true) else ((0, 0), false)
end Go.Proofs.Ytigmlkfmgheegaa
