/-
  Plain facts of quoted strings: what Quote writes, what Unquote reads, and that the second reads what the first writes, whatever follows. Nothing of the program stands here.
-/
import Derived.Test.YtfhpmabejodpbaaDoorNumA
namespace Go.Proofs.YtfhpmabejodpbaaDoor

/-- Does a byte stand for itself? -/
def pln (c : UInt8) : Bool := 32 ≤ c.toNat && c.toNat ≤ 126 && c.toNat != 34 && c.toNat != 92

/-- What a byte is written as. -/
def qel (c : UInt8) : List UInt8 :=
  if pln c then [c] else if c = 34 ∨ c = 92 then [92, c] else if c = 10 then [92, 110] else 92 :: pad c.toNat 8 3
def quo (l : List UInt8) : List UInt8 := 34 :: (l.flatMap qel ++ [34])

/-- The element at the head of a text: its byte and its length; 0: there is none. -/
def elm : List UInt8 → UInt8 × Nat
  | [] => (0, 0)
  | c :: r =>
    if pln c then (c, 1) else if c ≠ 92 then (0, 0) else
      match r with
      | [] => (0, 0)
      | d :: r2 =>
        if d = 34 ∨ d = 92 then (d, 2) else if d = 110 then (10, 2) else
          match r2 with
          | x :: y :: _ => if (prs [d, x, y] 8).2 ≠ 0 ∨ 255 < (prs [d, x, y] 8).1 then (0, 0) else (UInt8.ofNat (prs [d, x, y] 8).1.toNat, 4)
          | _ => (0, 0)

/-- The elements up to the next quotation mark, which stands at i + ..; none: there is no such. -/
def unqGo (l : List UInt8) (out : List UInt8) (i : Nat) : Option (List UInt8 × Nat) :=
  if _h : l = [] then none else if l.head? = some 34 then some (out, i + 1) else
    if _h0 : (elm l).2 = 0 then none else unqGo (l.drop (elm l).2) (out ++ [(elm l).1]) (i + (elm l).2)
termination_by l.length
decreasing_by
  have : 0 < l.length := List.length_pos_iff.2 _h
  simp only [List.length_drop]
  omega

theorem unqGo_nil (out : List UInt8) (i : Nat) : unqGo [] out i = none := by rw [unqGo]; simp
theorem unqGo_end (r out : List UInt8) (i : Nat) : unqGo (34 :: r) out i = some (out, i + 1) := by rw [unqGo]; simp
theorem unqGo_none {l : List UInt8} (out : List UInt8) (i : Nat) (h : l.head? ≠ some 34) (h0 : (elm l).2 = 0) : unqGo l out i = none := by
  rw [unqGo]
  split
  · rfl
  · rfl
theorem unqGo_step {l : List UInt8} (out : List UInt8) (i : Nat) (h : l.head? ≠ some 34) (h0 : (elm l).2 ≠ 0) : unqGo l out i = unqGo (l.drop (elm l).2) (out ++ [(elm l).1]) (i + (elm l).2) := by
  rw [unqGo, dif_neg (by rintro rfl; simp [elm] at h0), if_neg h, dif_neg h0]

/-- What Unquote returns: the bytes, the length, the error. -/
def unq (l : List UInt8) : List UInt8 × Int × Int :=
  if l.head? ≠ some 34 then ([], 0, 3) else
    match unqGo l.tail [] 1 with
    | none => ([], 0, 3)
    | some x => (x.1, x.2, 0)

/-! ### Three octal digits -/
theorem pad3 (c : Nat) (hc : c < 256) : pad c 8 3 = [dg (c / 64), dg (c / 8 % 8), dg (c % 8)] := by
  have hw : wid 3 = 3 := by decide
  have hf : fmt c 8 = digs 8 c := by
    rw [fmt_is (by decide), fmtL, if_neg (by omega)]; rfl
  have h0 : dg 0 = 48 := by decide
  rw [pad_is (by simp [isB]), hf, hw]
  by_cases h1 : c < 8
  · rw [digs_small h1, show c / 64 = 0 by omega, show c / 8 % 8 = 0 by omega, show c % 8 = c by omega, h0]; rfl
  · by_cases h2 : c < 64
    · rw [digs_big (by decide) (by omega), digs_small (by omega), show c / 64 = 0 by omega, show c / 8 % 8 = c / 8 by omega, h0]; rfl
    · rw [digs_big (by decide) (by omega), digs_big (by decide) (by omega), digs_small (by omega), show c / 8 / 8 = c / 64 by omega]; rfl

theorem prs3 {a b c : Nat} (ha : a < 8) (hb : b < 8) (hc : c < 8) : prs [dg a, dg b, dg c] 8 = ((((a * 8 + b) * 8 + c : Nat) : Int), 0) := by
  have e8 : (8 : Int).toNat = 8 := rfl
  rw [prs, show isB 8 = true by decide, if_neg (by decide), if_neg (by simp), e8, rd_dg ha (by decide), rd_dg hb (by decide), rd_dg hc (by decide), rd]
  simp only
  rw [if_neg (by omega), show min ((min ((min (0 * 8 + a) 65536) * 8 + b) 65536) * 8 + c) 65536 = (a * 8 + b) * 8 + c by omega]

theorem dg_ne : ∀ d : Fin 16, dg d.val ≠ 34 ∧ dg d.val ≠ 92 ∧ dg d.val ≠ 110 := by decide
theorem pln_92 : pln 92 = false := by decide
theorem pln_34 : pln 34 = false := by decide

theorem elm_qel (c : UInt8) (r : List UInt8) : elm (qel c ++ r) = (c, (qel c).length) := by
  unfold qel
  by_cases hp : pln c = true
  · rw [if_pos hp]; simp [elm, hp]
  · rw [if_neg hp]
    by_cases h1 : c = 34 ∨ c = 92
    · rw [if_pos h1]; simp [elm, pln_92, h1]
    · rw [if_neg h1]
      by_cases h2 : c = 10
      · subst h2; simp [elm, pln_92]
      · rw [if_neg h2, pad3 c.toNat (UInt8.toNat_lt c)]
        have hlt := UInt8.toNat_lt c
        have hd := dg_ne ⟨c.toNat / 64, by omega⟩
        have hq := prs3 (a := c.toNat / 64) (b := c.toNat / 8 % 8) (c := c.toNat % 8) (by omega) (by omega) (by omega)
        have he : (c.toNat / 64 * 8 + c.toNat / 8 % 8) * 8 + c.toNat % 8 = c.toNat := by omega
        rw [he] at hq
        simp only at hd
        simp only [elm, List.cons_append, List.nil_append, pln_92, hd.1, hd.2.1, hd.2.2, hq]
        have hn : ¬ (255 : Int) < (c.toNat : Int) := by omega
        simp [hn]
theorem qel_pos (c : UInt8) : 0 < (qel c).length := by
  unfold qel
  repeat' split
  all_goals simp
theorem qel_le (c : UInt8) : (qel c).length ≤ 4 := by
  unfold qel
  repeat' split
  all_goals first | (simp; done) | skip
  rw [pad3 c.toNat (UInt8.toNat_lt c)]; simp
theorem qel_head (c : UInt8) (r : List UInt8) : (qel c ++ r).head? ≠ some 34 := by
  unfold qel
  by_cases hp : pln c = true
  · rw [if_pos hp]
    rintro h
    simp at h
    subst h
    exact absurd hp (by decide)
  · rw [if_neg hp]
    by_cases h1 : c = 34 ∨ c = 92
    · rw [if_pos h1]; simp
    · rw [if_neg h1]; split <;> simp
theorem flat_le (l : List UInt8) : (l.flatMap qel).length ≤ 4 * l.length := by
  induction l with
  | nil => simp
  | cons c l ih => have := qel_le c; simp only [List.flatMap_cons, List.length_append, List.length_cons]; omega
theorem unqGo_flat (r : List UInt8) : ∀ (l out : List UInt8) (i : Nat), unqGo (l.flatMap qel ++ 34 :: r) out i = some (out ++ l, i + (l.flatMap qel).length + 1)
  | [], out, i => by simp [unqGo_end]
  | c :: l, out, i => by
    have he := elm_qel c (l.flatMap qel ++ 34 :: r)
    have hp := qel_pos c
    rw [List.flatMap_cons, List.append_assoc, unqGo_step out i (qel_head c _) (by rw [he]; simp only; omega), he]
    simp only [List.drop_left]
    rw [unqGo_flat r l]
    simp only [List.append_assoc, List.cons_append, List.nil_append, List.length_append]
    congr 2
    omega
theorem unq_quo (l r : List UInt8) : unq (quo l ++ r) = (l, ((quo l).length : Int), 0) := by
  unfold unq quo
  simp only [List.cons_append, List.head?_cons, List.tail_cons, List.append_assoc, List.nil_append]
  rw [if_neg (by simp), unqGo_flat]
  simp only [List.nil_append, List.length_cons, List.length_append, List.length_nil]
  congr 2
  omega
theorem quo_len (l : List UInt8) : (quo l).length ≤ 4 * l.length + 2 := by
  have := flat_le l
  simp only [quo, List.length_cons, List.length_append, List.length_nil]; omega

end Go.Proofs.YtfhpmabejodpbaaDoor
