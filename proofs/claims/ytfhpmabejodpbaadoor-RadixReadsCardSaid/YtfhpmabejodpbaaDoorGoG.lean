/-
  Walks over the elements of a quoted string, of package radix and of its reference. Condition: the text is not empty and no longer than an int says.
-/
import Derived.Test.YtfhpmabejodpbaaDoorGoB
namespace Go.Proofs.YtfhpmabejodpbaaDoor
open Go.RowKit
set_option linter.unusedSimpArgs false

theorem prs_range (l : List UInt8) (b : Int) : 0 ≤ (prs l b).1 ∧ (prs l b).1 ≤ 65535 ∧ 0 ≤ (prs l b).2 ∧ (prs l b).2 ≤ 3 := by
  unfold prs
  split
  · simp
  · split
    · simp
    · split
      · simp
      · split
        · simp
        · simp only; omega

/-- An element of three octal digits at the head of a text. -/
def oct (l : List UInt8) : UInt8 × Nat :=
  if l.length < 4 then (0, 0) else if (prs ((l.drop 1).take 3) 8).2 ≠ 0 ∨ 255 < (prs ((l.drop 1).take 3) 8).1 then (0, 0) else (UInt8.ofNat (prs ((l.drop 1).take 3) 8).1.toNat, 4)

def elm3 (d : UInt8) (r : List UInt8) : UInt8 × Nat :=
  match r with
  | x :: y :: _ => if (prs [d, x, y] 8).2 ≠ 0 ∨ 255 < (prs [d, x, y] 8).1 then (0, 0) else (UInt8.ofNat (prs [d, x, y] 8).1.toNat, 4)
  | _ => (0, 0)
theorem elm_c1 (c : UInt8) : elm [c] = if pln c = true then (c, 1) else if c ≠ 92 then (0, 0) else (0, 0) := rfl
theorem elm_c2 (c d : UInt8) (r : List UInt8) : elm (c :: d :: r) = if pln c = true then (c, 1) else if c ≠ 92 then (0, 0) else if d = 34 ∨ d = 92 then (d, 2) else if d = 110 then (10, 2) else elm3 d r := rfl
theorem elm_pln {l : List UInt8} (h0 : 0 < l.length) (h : pln (l.getD 0 0) = true) : elm l = (l.getD 0 0, 1) := by
  match l, h0, h with
  | [c], _, h => exact (elm_c1 c).trans (if_pos h)
  | c :: d :: r, _, h => exact (elm_c2 c d r).trans (if_pos h)
theorem elm_bad {l : List UInt8} (h0 : 0 < l.length) (h : pln (l.getD 0 0) = false) (h1 : ¬ (l.getD 0 0).toNat = 92 ∨ l.length < 2) : elm l = (0, 0) := by
  match l, h0, h, h1 with
  | [c], _, h, _ =>
    have h : pln c = false := h
    rw [elm_c1, if_neg (by simp [h])]
    split <;> rfl
  | c :: d :: r, _, h, h1 =>
    have h : pln c = false := h
    have h1 : ¬ c.toNat = 92 ∨ (c :: d :: r).length < 2 := h1
    have h2 : c ≠ 92 := by rintro rfl; simp at h1; omega
    rw [elm_c2, if_neg (by simp [h]), if_pos h2]
theorem elm_two {l : List UInt8} (h0 : 2 ≤ l.length) (h : pln (l.getD 0 0) = false) (h1 : (l.getD 0 0).toNat = 92) (h2 : (l.getD 1 0).toNat = 34 ∨ (l.getD 1 0).toNat = 92) : elm l = (l.getD 1 0, 2) := by
  match l, h0, h, h1, h2 with
  | c :: d :: r, _, h, h1, h2 =>
    have h : pln c = false := h
    have hc : c = 92 := UInt8.toNat_inj.1 h1
    have h2 : d.toNat = 34 ∨ d.toNat = 92 := h2
    have hd : d = 34 ∨ d = 92 := by
      rcases h2 with h2 | h2
      · exact Or.inl (UInt8.toNat_inj.1 h2)
      · exact Or.inr (UInt8.toNat_inj.1 h2)
    show elm (c :: d :: r) = (d, 2)
    rw [elm_c2, if_neg (by simp [h]), if_neg (by simp [hc]), if_pos hd]
theorem elm_ten {l : List UInt8} (h0 : 2 ≤ l.length) (h : pln (l.getD 0 0) = false) (h1 : (l.getD 0 0).toNat = 92) (h2 : (l.getD 1 0).toNat = 110) : elm l = (10, 2) := by
  match l, h0, h, h1, h2 with
  | c :: d :: r, _, h, h1, h2 =>
    have h : pln c = false := h
    have hc : c = 92 := UInt8.toNat_inj.1 h1
    have hd : d = 110 := UInt8.toNat_inj.1 h2
    subst hd
    rw [elm_c2, if_neg (by rw [hc]; decide), if_neg (by simp [hc]), if_neg (by decide), if_pos rfl]
theorem elm_oct {l : List UInt8} (h0 : 2 ≤ l.length) (h : pln (l.getD 0 0) = false) (h1 : (l.getD 0 0).toNat = 92) (h2 : ¬ ((l.getD 1 0).toNat = 34 ∨ (l.getD 1 0).toNat = 92)) (h3 : ¬ (l.getD 1 0).toNat = 110) : elm l = oct l := by
  match l, h0, h, h1, h2, h3 with
  | c :: d :: r, _, h, h1, h2, h3 =>
    have h : pln c = false := h
    have hc : c = 92 := UInt8.toNat_inj.1 h1
    have h2 : ¬ (d.toNat = 34 ∨ d.toNat = 92) := h2
    have h3 : ¬ d.toNat = 110 := h3
    have hd : ¬ (d = 34 ∨ d = 92) := by rintro (rfl | rfl) <;> simp at h2
    have hd3 : ¬ d = 110 := by rintro rfl; simp at h3
    rw [elm_c2, if_neg (by simp [h]), if_neg (by simp [hc]), if_neg hd, if_neg hd3]
    match r with
    | [] => rfl
    | [x] => rfl
    | x :: y :: z => rw [oct, if_neg (by simp)]; rfl

/-- The element as the code returns it. -/
def eV (x : UInt8 × Nat) : Value := .tuple #[.int .u8 (x.1.toNat : Int), .int .i64 (x.2 : Int)]

theorem cut3 (s : ByteArray) : (s.extract 1 4).data.toList = (s.data.toList.drop 1).take 3 := by
  rw [ByteArray.data_extract, Array.toList_extract]
theorem oct_bad {l : List UInt8} {n e : Int} (h : ¬ l.length < 4) (hn : (prs ((l.drop 1).take 3) 8).1 = n) (he : (prs ((l.drop 1).take 3) 8).2 = e) (h1 : e ≠ 0 ∨ 255 < n) : eV (oct l) = .tuple #[.int .u8 0, .int .i64 0] := by
  rw [oct, if_neg h, hn, he, if_pos h1]; rfl
theorem oct_ok {l : List UInt8} {n e : Int} (h : ¬ l.length < 4) (hn : (prs ((l.drop 1).take 3) 8).1 = n) (he : (prs ((l.drop 1).take 3) 8).2 = e) (h1 : ¬ (e ≠ 0 ∨ 255 < n)) (h0 : 0 ≤ n) : eV (oct l) = .tuple #[.int .u8 n, .int .i64 4] := by
  rw [oct, if_neg h, hn, he, if_neg h1, eV]
  have : (UInt8.ofNat n.toNat).toNat = n.toNat := by rw [UInt8.toNat_ofNat']; omega
  simp only
  rw [this, show ((n.toNat : Nat) : Int) = n by omega]; rfl

set_option maxHeartbeats 400000 in
theorem octal_any (s : ByteArray) (hs : s.size ≤ 9223372036854775807) (w : World) :
    Calls Tryd.prog 44 #[.string s] w fun e w' => e = .returned (eV (oct s.data.toList)) ∧ w = w' := by
  by_cases h4 : s.size < 4
  · have ho : eV (oct s.data.toList) = .tuple #[.int .u8 0, .int .i64 0] := by rw [oct, if_pos (by rw [size_len]; exact h4)]; rfl
    rw [ho]
    go_enter Tryd.func44, Tryd.ntmps44
    go_wp2
    go_ret2
    exact ⟨rfl, rfl⟩
  · have hcs : (s.extract 1 4).size = 3 := by rw [← size_len, cut3, List.length_take, List.length_drop, size_len]; omega
    have hpar := fun w => parse_any (s.extract 1 4) 8 (by omega) w
    have hr := prs_range ((s.data.toList.drop 1).take 3) 8
    have hB := @oct_bad s.data.toList _ _ (by rw [size_len]; exact h4) rfl rfl
    have hO := @oct_ok s.data.toList _ _ (by rw [size_len]; exact h4) rfl rfl
    simp only [cut3, prsV] at hpar
    generalize (prs ((s.data.toList.drop 1).take 3) 8).1 = n at *
    generalize (prs ((s.data.toList.drop 1).take 3) 8).2 = er at *
    generalize oct s.data.toList = R at *
    go_enter Tryd.func44, Tryd.ntmps44
    go_wp2_with (first | (go_at_call 13; with_reducible refine (hpar _).mono ?_; rintro e w' ⟨rfl, rfl⟩))
    all_goals go_ret2
    · exact ⟨by rw [hB (Or.inr (by assumption))]; rfl, rfl⟩
    · exact ⟨by rw [hO (by omega) hr.1]; rfl, rfl⟩
    · exact ⟨by rw [hB (Or.inl (by assumption))]; rfl, rfl⟩

end Go.Proofs.YtfhpmabejodpbaaDoor
