/-
  Plain facts of the fields of a line: the longest parts without blanks and tabs; that the spans which are read rune by rune give the same; that fields joined by blanks are the same. Nothing of the program stands here.
-/
import Derived.Lib.FieldsP
import Derived.KernelRfl
namespace Go.Proofs.YtfhpmabejodpbaaDoor

def blk (c : UInt8) : Bool := c.toNat == 32 || c.toNat == 9
/-- The same of a rune. -/
def blkR (r : Nat) : Bool := r == 32 || r == 9

/-- The fields, one of them begun with cur. -/
def fgo : List UInt8 → List UInt8 → List (List UInt8)
  | [], cur => if cur = [] then [] else [cur]
  | c :: r, cur => if blk c then (if cur = [] then fgo r [] else cur :: fgo r []) else fgo r (cur ++ [c])
def flds (l : List UInt8) : List (List UInt8) := fgo l []

theorem fgo_app : ∀ (x r cur : List UInt8), (∀ c ∈ x, blk c = false) → fgo (x ++ r) cur = fgo r (cur ++ x)
  | [], r, cur, _ => by simp
  | c :: x, r, cur, h => by
    rw [List.cons_append, fgo, if_neg (by rw [h c (by simp)]; decide), fgo_app x r _ (fun d hd => h d (by simp [hd])), List.append_assoc]; rfl

/-- Every field has a character and no blank. -/
theorem fgo_mem : ∀ (l cur : List UInt8), (∀ c ∈ cur, blk c = false) → ∀ f ∈ fgo l cur, f ≠ [] ∧ ∀ c ∈ f, blk c = false
  | [], cur, h, f, hf => by
    rw [fgo] at hf
    split at hf
    · simp at hf
    · next hn => simp at hf; subst hf; exact ⟨hn, h⟩
  | c :: r, cur, h, f, hf => by
    rw [fgo] at hf
    split at hf
    · split at hf
      · exact fgo_mem r [] (by simp) f hf
      · next hn =>
        simp at hf
        rcases hf with rfl | hf
        · exact ⟨hn, h⟩
        · exact fgo_mem r [] (by simp) f hf
    · next hb => exact fgo_mem r (cur ++ [c]) (fun d hd => by
        simp at hd
        rcases hd with hd | rfl
        · exact h d hd
        · simpa using hb) f hf

/-- Fields joined by blanks. -/
def jn (l : List (List UInt8)) : List UInt8 := l.flatMap fun f => 32 :: f
theorem fgo_jn : ∀ (l : List (List UInt8)) (cur : List UInt8), (∀ f ∈ l, f ≠ [] ∧ ∀ c ∈ f, blk c = false) → fgo (jn l) cur = if cur = [] then l else cur :: l
  | [], cur, _ => by simp [jn, fgo]
  | f :: l, cur, h => by
    have hf := h f (by simp)
    have hl := fgo_jn l f (fun g hg => h g (by simp [hg]))
    have e : jn (f :: l) = 32 :: (f ++ jn l) := by simp [jn]
    rw [e, fgo, if_pos (by decide), fgo_app f (jn l) [] hf.2, List.nil_append, hl, if_neg hf.1]
theorem flds_jn (l : List UInt8) : flds (jn (flds l)) = flds l := by
  have h := fgo_jn (flds l) [] (fgo_mem l [] (by simp))
  rw [if_pos rfl] at h
  exact h
theorem jn_snoc (l : List (List UInt8)) (f : List UInt8) : jn (l ++ [f]) = jn l ++ 32 :: f := by simp [jn]

/-- How long all fields are together, with a blank each. -/
theorem fgo_len : ∀ (l cur : List UInt8), (jn (fgo l cur)).length ≤ l.length + cur.length + 1
  | [], cur => by rw [fgo]; split <;> simp [jn]
  | c :: r, cur => by
    rw [fgo]
    split
    · split
      · have := fgo_len r []; simp at this ⊢; omega
      · have := fgo_len r []; simp [jn] at this ⊢; omega
    · have := fgo_len r (cur ++ [c]); simp at this ⊢; omega
theorem fgo_cnt : ∀ (l cur : List UInt8), (fgo l cur).length ≤ l.length + 1
  | [], cur => by rw [fgo]; split <;> simp
  | c :: r, cur => by
    rw [fgo]
    split
    · split
      · have := fgo_cnt r []; simp; omega
      · have := fgo_cnt r []; simp; omega
    · have := fgo_cnt r (cur ++ [c]); simp; omega

/-! ### Rune by rune -/
theorem decodeN_bytes (n b0 b1 b2 b3 : Nat) (h0 : b0 < 256) (h1 : b1 < 256) (h2 : b2 < 256) (h3 : b3 < 256) (hn : 1 ≤ n) :
    (b0 < 128 ∧ Lib.decodeN n b0 b1 b2 b3 = (b0, 1)) ∨
    (128 ≤ b0 ∧ 128 ≤ (Lib.decodeN n b0 b1 b2 b3).1 ∧ 1 ≤ (Lib.decodeN n b0 b1 b2 b3).2 ∧ (Lib.decodeN n b0 b1 b2 b3).2 ≤ n ∧
      (1 < (Lib.decodeN n b0 b1 b2 b3).2 → 128 ≤ b1) ∧ (2 < (Lib.decodeN n b0 b1 b2 b3).2 → 128 ≤ b2) ∧ (3 < (Lib.decodeN n b0 b1 b2 b3).2 → 128 ≤ b3) ∧ (Lib.decodeN n b0 b1 b2 b3).2 ≤ 4) := by
  by_cases hb : b0 < 128
  · exact Or.inl ⟨hb, Lib.decodeN_ascii _ _ _ _ _ hb⟩
  · refine Or.inr ⟨by omega, ?_⟩
    unfold Lib.decodeN
    repeat' split
    all_goals (try (exfalso; omega))
    all_goals (simp only; refine ⟨?_, ?_, ?_, ?_, ?_, ?_, ?_⟩ <;> omega)

theorem blk_high {c : UInt8} (h : 128 ≤ c.toNat) : blk c = false := by
  simp only [blk, Bool.or_eq_false_iff, beq_eq_false_iff_ne]; omega
theorem blkR_high {r : Nat} (h : 128 ≤ r) : blkR r = false := by
  simp only [blkR, Bool.or_eq_false_iff, beq_eq_false_iff_ne]; omega

theorem getD_at (l : List UInt8) (i : Nat) (h : i < l.length) : l.getD i 0 = l[i] := by simp [List.getD, h]

/-- What the rune at pos is made of. -/
theorem rune_at (s : ByteArray) (pos : Nat) (h : pos < s.size) :
    ∃ x : List UInt8, x.length = (Utf8.decode s pos).2 ∧ s.data.toList.drop pos = x ++ s.data.toList.drop (pos + (Utf8.decode s pos).2) ∧ 1 ≤ (Utf8.decode s pos).2 ∧ pos + (Utf8.decode s pos).2 ≤ s.size ∧
      ((x = [s.data.toList.getD pos 0] ∧ blkR (Utf8.decode s pos).1 = blk (s.data.toList.getD pos 0)) ∨ ((∀ c ∈ x, blk c = false) ∧ blkR (Utf8.decode s pos).1 = false)) := by
  have hsz : s.data.toList.length = s.size := rfl
  rw [Lib.decode_N]
  have hl : pos < s.data.toList.length := h
  rcases decodeN_bytes (s.data.toList.length - pos) _ _ _ _ (UInt8.toNat_lt (s.data.toList.getD pos 0)) (UInt8.toNat_lt (s.data.toList.getD (pos + 1) 0)) (UInt8.toNat_lt (s.data.toList.getD (pos + 2) 0)) (UInt8.toNat_lt (s.data.toList.getD (pos + 3) 0)) (by omega) with ⟨hb, he⟩ | ⟨hb, hr, hp, hn, h1, h2, h3, h4⟩
  · rw [he]
    refine ⟨[s.data.toList.getD pos 0], rfl, ?_, by simp, by simp; omega, Or.inl ⟨rfl, rfl⟩⟩
    rw [List.drop_eq_getElem_cons hl, getD_at _ _ hl]; rfl
  · generalize Lib.decodeN (s.data.toList.length - pos) _ _ _ _ = D at *
    refine ⟨(s.data.toList.drop pos).take D.2, ?_, ?_, hp, by omega, Or.inr ⟨?_, blkR_high hr⟩⟩
    · rw [List.length_take, List.length_drop]; omega
    · rw [← List.drop_drop, List.take_append_drop]
    · intro c hc
      obtain ⟨i, hi, rfl⟩ := List.mem_iff_getElem.1 hc
      have hi' : i < D.2 := by rw [List.length_take] at hi; omega
      have hpi : pos + i < s.data.toList.length := by omega
      refine blk_high ?_
      rw [List.getElem_take, List.getElem_drop]
      have hg : ∀ j, (hj : pos + j < s.data.toList.length) → s.data.toList.getD (pos + j) 0 = s.data.toList[pos + j] := fun j hj => getD_at _ _ hj
      match i, hi', hpi with
      | 0, _, hpi => have := hg 0 hpi; simp only [Nat.add_zero] at this; simp only [Nat.add_zero, ← this]; exact hb
      | 1, hi', hpi => rw [← hg 1 hpi]; exact h1 hi'
      | 2, hi', hpi => rw [← hg 2 hpi]; exact h2 hi'
      | 3, hi', hpi => rw [← hg 3 hpi]; exact h3 hi'
      | k + 4, hi', _ => exfalso; omega

/-- The begun field. -/
def opn (l : List UInt8) (st : Option Nat) (pos : Nat) : List UInt8 := Lib.openPiece l st pos
theorem extract_piece (s : ByteArray) (a b : Nat) (_ : b ≤ s.size) : (s.extract a b).data.toList = Lib.pieceU s.data.toList a b := by
  have hd : (s.extract a b).data = s.data.extract a b := ByteArray.data_extract
  rw [hd, Array.toList_extract, Lib.pieceU]

theorem spans_step (s : ByteArray) (f pos : Nat) (st : Option Nat) (acc : List (Nat × Nat)) : Lib.spansFromP blkR s (f + 1) pos st acc =
    if pos < s.size then
      (if blkR (Utf8.decode s pos).1 then
        (match st with
         | some a => Lib.spansFromP blkR s f (pos + (Utf8.decode s pos).2) none (acc ++ [(a, pos)])
         | none => Lib.spansFromP blkR s f (pos + (Utf8.decode s pos).2) none acc)
       else
        (match st with
         | some a => Lib.spansFromP blkR s f (pos + (Utf8.decode s pos).2) (some a) acc
         | none => Lib.spansFromP blkR s f (pos + (Utf8.decode s pos).2) (some pos) acc))
    else (acc, st) := by cases st <;> rfl

theorem spans_end (s : ByteArray) (f pos : Nat) (st : Option Nat) (acc : List (Nat × Nat)) (h : ¬ pos < s.size) (hp : pos ≤ s.size) (ha : ∀ a, st = some a → a < pos) :
    (Lib.closeSpans s (Lib.spansFromP blkR s f pos st acc)).map (fun x => (s.extract x.1 x.2).data.toList) =
      acc.map (fun x => (s.extract x.1 x.2).data.toList) ++ fgo (s.data.toList.drop pos) (Lib.openPiece s.data.toList st pos) := by
  have hsz : s.data.toList.length = s.size := rfl
  rw [Lib.spansFromP_end _ _ _ _ _ _ h, List.drop_eq_nil_of_le (by omega), fgo]
  have hpe : pos = s.size := by omega
  cases st with
  | none => simp [Lib.closeSpans, Lib.openPiece]
  | some a =>
    have hne : Lib.openPiece s.data.toList (some a) pos ≠ [] := Lib.pieceU_ne _ _ _ (ha a rfl) (by omega)
    rw [if_neg hne]
    simp only [Lib.closeSpans, List.map_append, List.map_cons, List.map_nil]
    rw [extract_piece s a _ (Nat.le_refl _), ← hpe]; rfl

theorem spans_eq (s : ByteArray) : ∀ (f pos : Nat) (st : Option Nat) (acc : List (Nat × Nat)), s.size ≤ pos + f → pos ≤ s.size → (∀ a, st = some a → a < pos) →
    (Lib.closeSpans s (Lib.spansFromP blkR s f pos st acc)).map (fun x => (s.extract x.1 x.2).data.toList) =
      acc.map (fun x => (s.extract x.1 x.2).data.toList) ++ fgo (s.data.toList.drop pos) (Lib.openPiece s.data.toList st pos) := by
  intro f
  induction f with
  | zero =>
    intro pos st acc hf hp ha
    exact spans_end s 0 pos st acc (by omega) hp ha
  | succ f ih =>
    intro pos st acc hf hp ha
    have hsz : s.data.toList.length = s.size := rfl
    by_cases h : pos < s.size
    · obtain ⟨x, hx, hd, h1, hle, hcase⟩ := rune_at s pos h
      have IH := fun st acc hst => ih (pos + (Utf8.decode s pos).2) st acc (by omega) hle hst
      have htake : (s.data.toList.drop pos).take (Utf8.decode s pos).2 = x := by rw [hd, ← hx, List.take_left]
      rw [hd, spans_step, if_pos h]
      by_cases hb : blkR (Utf8.decode s pos).1 = true
      · rw [if_pos hb]
        rcases hcase with ⟨hxe, hbe⟩ | ⟨_, hbe⟩
        · have hblk : blk (s.data.toList.getD pos 0) = true := by rw [← hbe]; exact hb
          rw [hxe, List.cons_append, List.nil_append, fgo, if_pos hblk]
          cases st with
          | some a =>
            have hne : Lib.openPiece s.data.toList (some a) pos ≠ [] := Lib.pieceU_ne _ _ _ (ha a rfl) (by omega)
            rw [if_neg hne]
            simp only
            rw [IH none (acc ++ [(a, pos)]) (by simp), List.map_append, List.append_assoc]
            simp only [List.map_cons, List.map_nil, List.cons_append, List.nil_append]
            rw [extract_piece s a pos hp]; rfl
          | none =>
            have he : Lib.openPiece s.data.toList none pos = [] := rfl
            rw [he, if_pos rfl]
            exact IH none acc (by simp)
        · rw [hbe] at hb; cases hb
      · have hxb : ∀ c ∈ x, blk c = false := by
          rcases hcase with ⟨hxe, hbe⟩ | ⟨hxb, _⟩
          · intro c hc
            rw [hxe] at hc
            simp only [List.mem_singleton] at hc
            rw [hc, ← hbe]; simpa using hb
          · exact hxb
        rw [if_neg hb, fgo_app x _ _ hxb]
        cases st with
        | some a =>
          simp only
          rw [IH (some a) acc (by intro b hb; cases hb; have := ha a rfl; omega)]
          congr 2
          show Lib.pieceU _ _ _ = Lib.pieceU _ _ _ ++ x
          rw [← htake, Lib.pieceU_grow _ _ _ _ (by have := ha a rfl; omega)]
        | none =>
          simp only
          rw [IH (some pos) acc (by intro b hb; cases hb; omega)]
          congr 2
          show Lib.pieceU _ _ _ = [] ++ x
          rw [← htake, Lib.pieceU, Nat.add_sub_cancel_left]; rfl
    · exact spans_end s _ pos st acc h hp ha

theorem goFields_flds (s : ByteArray) : (Lib.goFieldsP blkR s).map (·.data.toList) = flds s.data.toList := by
  have h := spans_eq s s.size 0 none [] (by omega) (by omega) (by simp)
  unfold Lib.goFieldsP Lib.spansOfP
  rw [List.map_map]
  exact h

end Go.Proofs.YtfhpmabejodpbaaDoor
