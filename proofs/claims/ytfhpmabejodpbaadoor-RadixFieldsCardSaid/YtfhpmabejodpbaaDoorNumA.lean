/-
  Plain facts of numbers as text: the digits of a number in a base, padding with zeros, reading a number; what is printed is read as the same. Nothing of the program stands here.
-/
import Derived.Lib.ItoaNum
import Derived.KernelRfl
namespace Go.Proofs.YtfhpmabejodpbaaDoor

/-- The digit's character. -/
def dg (d : Nat) : UInt8 := if d < 10 then UInt8.ofNat (48 + d) else UInt8.ofNat (87 + d)

/-- The digits of u in base b, the first ahead; one digit for 0. -/
def digs (b u : Nat) : List UInt8 :=
  if _h : u < b ∨ b < 2 then [dg u] else digs b (u / b) ++ [dg (u % b)]
termination_by u
decreasing_by
  exact Nat.div_lt_self (by omega) (by omega)

theorem digs_small {b u : Nat} (h : u < b) : digs b u = [dg u] := by rw [digs, dif_pos (Or.inl h)]
theorem digs_big {b u : Nat} (hb : 2 ≤ b) (h : b ≤ u) : digs b u = digs b (u / b) ++ [dg (u % b)] := by
  rw [digs, dif_neg (by omega)]

theorem digs_ten (u : Nat) : digs 10 u = Lib.decDigits u := by
  induction u using Nat.strongRecOn with
  | _ u ih =>
    by_cases h : u < 10
    · rw [digs_small h, Lib.decDigits, dif_pos h, dg, if_pos h]
    · rw [digs_big (by decide) (by omega), Lib.decDigits, dif_neg h, ih (u / 10) (by omega), dg, if_pos (by omega)]

theorem digs_pos (b u : Nat) : 1 ≤ (digs b u).length := by
  rw [digs]
  split <;> simp

theorem digs_len {b : Nat} (hb : 2 ≤ b) : ∀ (k u : Nat), u < b ^ (k + 1) → (digs b u).length ≤ k + 1
  | 0, u, h => by rw [digs_small (by simpa using h)]; simp
  | k + 1, u, h => by
    by_cases hu : u < b
    · rw [digs_small hu]; simp
    · rw [digs_big hb (by omega), List.length_append]
      have := digs_len hb k (u / b) (Nat.div_lt_of_lt_mul (by rw [Nat.pow_succ, Nat.mul_comm] at h; exact h))
      simp only [List.length_cons, List.length_nil]
      omega

/-- No digit for 0. -/
def digz (b u : Nat) : List UInt8 := if u = 0 then [] else digs b u
theorem digs_digz {b : Nat} (hb : 2 ≤ b) (u : Nat) : digs b u = digz b (u / b) ++ [dg (u % b)] := by
  by_cases h : u < b
  · rw [digs_small h, Nat.div_eq_of_lt h, Nat.mod_eq_of_lt h, digz, if_pos rfl]; rfl
  · have : 0 < u / b := Nat.div_pos (by omega) (by omega)
    rw [digs_big hb (by omega), digz, if_neg (by omega)]
theorem digz_pos {b u : Nat} (h : u ≠ 0) : digz b u = digs b u := if_neg h

def isB (b : Int) : Bool := b == 8 || b == 10 || b == 16
theorem isB_cases {b : Int} (h : isB b = true) : b = 8 ∨ b = 10 ∨ b = 16 := by
  simp only [isB, Bool.or_eq_true, beq_iff_eq] at h
  omega

/-- The number as text, whatever its sign. -/
def fmtL (n : Int) (b : Nat) : List UInt8 := if n < 0 then 45 :: digs b n.natAbs else digs b n.toNat
theorem fmtL_ten (n : Int) : fmtL n 10 = Lib.itoa n := by unfold fmtL Lib.itoa; rw [digs_ten, digs_ten]
/-- .. the empty text where there is no such base. -/
def fmt (n b : Int) : List UInt8 := if isB b then fmtL n b.toNat else []
theorem fmt_not {n b : Int} (h : isB b = false) : fmt n b = [] := by simp [fmt, h]
theorem fmt_is {n b : Int} (h : isB b = true) : fmt n b = fmtL n b.toNat := by simp [fmt, h]

theorem fmtL_len (n : Int) (h0 : -9223372036854775808 ≤ n) (h1 : n ≤ 9223372036854775807) (b : Nat) (hb : 8 ≤ b) : (fmtL n b).length ≤ 23 := by
  have hp : 8 ^ 22 ≤ b ^ 22 := Nat.pow_le_pow_left hb 22
  have h8 : 9223372036854775808 < 8 ^ (21 + 1) := by decide
  unfold fmtL
  split
  · have := digs_len (by omega) 21 n.natAbs (Nat.lt_of_lt_of_le (Nat.lt_of_le_of_lt (by omega) h8) hp)
    simp only [List.length_cons]; omega
  · have := digs_len (by omega) 21 n.toNat (Nat.lt_of_lt_of_le (Nat.lt_of_le_of_lt (by omega) h8) hp)
    omega
theorem fmt_len (n b : Int) (h0 : -9223372036854775808 ≤ n) (h1 : n ≤ 9223372036854775807) : (fmt n b).length ≤ 23 := by
  unfold fmt
  split
  · next h => exact fmtL_len n h0 h1 _ (by have := isB_cases h; omega)
  · simp

/-- How many digits a width asks. -/
def wid (w : Int) : Nat := (max 0 (min w 64)).toNat
theorem wid_le (w : Int) : wid w ≤ 64 := by unfold wid; omega
/-- A number with leading zeros. -/
def pad (n b w : Int) : List UInt8 := if n < 0 ∨ isB b = false then [] else List.replicate (wid w - (fmt n b).length) 48 ++ fmt n b
theorem pad_not {n b w : Int} (h : n < 0 ∨ isB b = false) : pad n b w = [] := if_pos h
theorem pad_is {n b w : Int} (h : ¬ (n < 0 ∨ isB b = false)) : pad n b w = List.replicate (wid w - (fmt n b).length) 48 ++ fmt n b := if_neg h

/-- The value of a digit of base 16; 16 for other characters. -/
def dv (c : UInt8) : Nat :=
  if 48 ≤ c.toNat ∧ c.toNat ≤ 57 then c.toNat - 48 else if 97 ≤ c.toNat ∧ c.toNat ≤ 102 then c.toNat - 87 else if 65 ≤ c.toNat ∧ c.toNat ≤ 70 then c.toNat - 55 else 16
theorem dv_le (c : UInt8) : dv c ≤ 16 := by unfold dv; repeat' split
                                            all_goals omega

/-- The number that digits continue; none where a character is no digit. It stays at 65536. -/
def rd (b : Nat) : List UInt8 → Nat → Option Nat
  | [], n => some n
  | c :: r, n => if b ≤ dv c then none else rd b r (min (n * b + dv c) 65536)
theorem rd_append (b : Nat) : ∀ (l r : List UInt8) (n : Nat), rd b (l ++ r) n = (rd b l n).bind (rd b r)
  | [], r, n => rfl
  | c :: l, r, n => by
    simp only [List.cons_append, rd]
    split
    · rfl
    · exact rd_append b l r _

/-- The number that a text denotes and the error. -/
def prs (l : List UInt8) (b : Int) : Int × Int :=
  if isB b = false then (0, 1) else if l = [] then (0, 3) else
    match rd b.toNat l 0 with
    | none => (0, 3)
    | some n => if 65535 < n then (0, 2) else (n, 0)

/-! ### What is printed is read as the same -/
theorem dv_dg : ∀ d : Fin 16, dv (dg d.val) = d.val := by decide
theorem rd_dg {b d n : Nat} (hd : d < b) (hb : b ≤ 16) (r : List UInt8) : rd b (dg d :: r) n = rd b r (min (n * b + d) 65536) := by
  have : dv (dg d) = d := dv_dg ⟨d, by omega⟩
  rw [rd, this, if_neg (by omega)]
theorem rd_digs {b : Nat} (hb : 2 ≤ b) (hb' : b ≤ 16) (u : Nat) (hu : u ≤ 65535) (r : List UInt8) : rd b (digs b u ++ r) 0 = rd b r u := by
  induction u using Nat.strongRecOn generalizing r with
  | _ u ih =>
    by_cases h : u < b
    · rw [digs_small h, List.cons_append, List.nil_append, rd_dg h hb', show min (0 * b + u) 65536 = u by omega]
    · have hlt : u / b < u := Nat.div_lt_self (by omega) (by omega)
      have hm : u % b < b := Nat.mod_lt _ (by omega)
      have hdm : u / b * b + u % b = u := Nat.div_add_mod' u b
      rw [digs_big hb (by omega), List.append_assoc, ih _ hlt (by omega), List.cons_append, List.nil_append, rd_dg hm hb', hdm, show min u 65536 = u by omega]
theorem rd_zeros {b : Nat} (hb : 2 ≤ b) (r : List UInt8) : ∀ k, rd b (List.replicate k 48 ++ r) 0 = rd b r 0
  | 0 => rfl
  | k + 1 => by
    rw [List.replicate_succ, List.cons_append, rd, show dv 48 = 0 by decide, if_neg (by omega), show min (0 * b + 0) 65536 = 0 by omega]
    exact rd_zeros hb r k
theorem prs_fmt {n b : Int} (h0 : 0 ≤ n) (h1 : n ≤ 65535) (hb : isB b = true) : prs (fmt n b) b = (n, 0) := by
  have hc := isB_cases hb
  have hne : fmt n b ≠ [] := by
    rw [fmt_is hb, fmtL, if_neg (by omega)]
    intro h; have := digs_pos b.toNat n.toNat; rw [h] at this; simp at this
  rw [prs, hb, if_neg (by decide), if_neg hne, fmt_is hb, fmtL, if_neg (by omega), ← List.append_nil (digs _ _), rd_digs (by omega) (by omega) _ (by omega)]
  simp only [rd]
  rw [if_neg (by omega), show ((n.toNat : Nat) : Int) = n by omega]
theorem prs_pad {n b w : Int} (h0 : 0 ≤ n) (h1 : n ≤ 65535) (hb : isB b = true) : prs (pad n b w) b = (n, 0) := by
  have hc := isB_cases hb
  have hn : ¬ (n < 0 ∨ isB b = false) := by rw [hb]; simp; omega
  have hp := prs_fmt h0 h1 hb
  have hne : fmt n b ≠ [] := by
    rw [fmt_is hb, fmtL, if_neg (by omega)]
    intro h; have := digs_pos b.toNat n.toNat; rw [h] at this; simp at this
  rw [pad_is hn]
  rw [prs, hb, if_neg (by decide), if_neg (by simp [hne]), rd_zeros (by omega)]
  rw [prs, hb, if_neg (by decide), if_neg hne] at hp
  exact hp

end Go.Proofs.YtfhpmabejodpbaaDoor
