/-
  Plain facts: the checksum by half bytes, and what each call of the layer returns, as lists of bytes and integers. Nothing of the program stands here.
-/
import Derived.Test.YtbcnehjpondplaaDoorOctA
namespace Go.Proofs.YtbcnehjpondplaaDoor

/-! ### Half bytes -/
def cs4 (c : Nat) : Nat := cs1 (cs1 (cs1 (cs1 c)))
theorem cs8_cs4 (c : Nat) : cs8 c = cs4 (cs4 c) := rfl
theorem cs4_lt {c : Nat} (h : c < 4294967296) : cs4 c < 4294967296 := cs1_lt (cs1_lt (cs1_lt (cs1_lt h)))
theorem cs4_xor (a b : Nat) : cs4 (a ^^^ b) = cs4 a ^^^ cs4 b := by unfold cs4; simp only [cs1_xor]
theorem cs4_high (n : Nat) : cs4 (16 * n) = n := by
  have h : ∀ m, cs1 (2 * m) = m := fun m => by unfold cs1; rw [if_neg (by omega)]; omega
  unfold cs4
  rw [show 16 * n = 2 * (2 * (2 * (2 * n))) by omega]
  simp only [h]
/-- Half a byte by the table. -/
theorem cs4_table (c : Nat) : cs4 c = (c / 16) ^^^ cs4 (c % 16) := by
  have e : c = (c % 16) ^^^ (16 * (c / 16)) := by
    have h2 := Nat.two_pow_add_eq_or_of_lt (i := 4) (b := c % 16) (by omega) (c / 16)
    have h3 : (2 ^ 4 * (c / 16)) ||| (c % 16) = (c % 16) ^^^ (16 * (c / 16)) := by
      apply Nat.eq_of_testBit_eq
      intro i
      rw [Nat.testBit_or, Nat.testBit_xor, show (16 : Nat) = 2 ^ 4 from rfl, Nat.testBit_two_pow_mul, Nat.testBit_mod_two_pow]
      by_cases hi : 4 ≤ i
      · simp [hi, show ¬ i < 4 by omega]
      · simp [hi]
    rw [← h3, ← h2]; omega
  conv => lhs; rw [e]
  rw [cs4_xor, cs4_high, Nat.xor_comm]
def tab : List Nat := [0, 498536548, 997073096, 651767980, 1994146192, 1802195444, 1303535960, 1342533948, 3988292384, 4027552580, 3604390888, 3412177804, 2607071920, 2262029012, 2685067896, 3183342108]
theorem tab_at : ∀ k : Fin 16, tab.getD k.val 0 = cs4 k.val := by decide +kernel
theorem tab_get (k : Nat) (h : k < 16) : tab.getD k 0 = cs4 k := tab_at ⟨k, h⟩
theorem xor_all (x : Nat) (h : x < 4294967296) : x ^^^ 4294967295 = 4294967295 - x := by
  have h1 := congrArg BitVec.toNat (BitVec.xor_allOnes (x := BitVec.ofNat 32 x))
  rw [BitVec.toNat_xor, BitVec.toNat_not, BitVec.toNat_ofNat, BitVec.toNat_allOnes, Nat.mod_eq_of_lt (by simpa using h)] at h1
  simpa using h1

/-! ### Numbers -/
theorem getN_snoc : ∀ (l : List UInt8) (c : UInt8), getN (l ++ [c]) = getN l + c.toNat * 256 ^ l.length
  | [], c => by simp [getN]
  | b :: l, c => by
    have e : 256 * (c.toNat * 256 ^ l.length) = c.toNat * (256 ^ l.length * 256) := by rw [Nat.mul_left_comm, Nat.mul_comm 256]
    rw [List.cons_append, getN, getN_snoc l c, getN, List.length_cons, Nat.pow_succ, Nat.mul_add, e, Nat.add_assoc]
theorem putN_snoc : ∀ (w n : Nat), putN n (w + 1) = putN n w ++ [UInt8.ofNat (n / 256 ^ w % 256)]
  | 0, n => by simp [putN]
  | w + 1, n => by
    rw [putN, putN_snoc w, putN, List.cons_append, Nat.pow_succ, Nat.mul_comm (256 ^ w), Nat.div_div_eq_div_mul]
/-- One byte more, as an or. -/
theorem getN_or (l : List UInt8) (c : UInt8) : getN l ||| c.toNat * 2 ^ (8 * l.length) = getN (l ++ [c]) := by
  have h := getN_lt l
  rw [show (256 : Nat) = 2 ^ 8 from rfl, ← Nat.pow_mul] at h
  have h2 := Nat.two_pow_add_eq_or_of_lt (i := 8 * l.length) h c.toNat
  rw [getN_snoc, show (256 : Nat) = 2 ^ 8 from rfl, ← Nat.pow_mul, Nat.or_comm, Nat.mul_comm c.toNat, ← h2, Nat.add_comm]

/-! ### What the calls return -/
def nn (n : Int) : Nat := n.toNat
def wd (w : Int) : Nat := (min w 8).toNat
theorem wd_le (w : Int) : wd w ≤ 8 := by unfold wd; omega
def putI (n w : Int) : List UInt8 := putN (nn n) (wd w)
theorem putI_length (n w : Int) : (putI n w).length = wd w := putN_length _ _
def getI (l : List UInt8) (a w : Int) : Int × Int × Int :=
  if w < 1 ∨ 7 < w ∨ a < 0 ∨ (l.length : Int) < a then (0, 0, 1)
  else if (l.length : Int) - a < w then (0, 0, 8)
  else ((getN ((l.drop a.toNat).take w.toNat) : Int), a + w, 0)
def ptxt (l : List UInt8) : List UInt8 := putN (min l.length 65535) 2 ++ l.take 65535
def gtxt (l : List UInt8) (a : Int) : List UInt8 × Int × Int :=
  if (getI l a 2).2.2 ≠ 0 then ([], 0, (getI l a 2).2.2)
  else if (l.length : Int) - (getI l a 2).2.1 < (getI l a 2).1 then ([], 0, 8)
  else ((l.drop (getI l a 2).2.1.toNat).take (getI l a 2).1.toNat, (getI l a 2).2.1 + (getI l a 2).1, 0)
/-- A word of any integer. -/
def wrd (n : Int) : Nat := (n % 65536).toNat
def pwds (l : List Int) : List UInt8 := putW (l.map wrd)
/-- What is opened of any text. -/
def opn (l : List UInt8) : List UInt8 × Int :=
  if l.length < 4 then ([], 8) else match opened l with
  | none => ([], 10)
  | some r => (r, 0)
theorem opn_sealed (l : List UInt8) : opn (sealed l) = (l, 0) := by
  unfold opn; rw [if_neg (by rw [sealed_length]; omega), opened_sealed]
theorem opn_changed (l : List UInt8) (k : Nat) (hk : k < l.length + 4) (y : UInt8) (hy : (sealed l).getD k 0 ≠ y) : opn ((sealed l).set k y) = ([], 10) := by
  unfold opn; rw [if_neg (by rw [List.length_set, sealed_length]; omega), opened_changed l k hk y hy]
theorem last_eq (l : List UInt8) (h : 4 ≤ l.length) : (getN (l.drop (l.length - 4)) = crc (l.take (l.length - 4))) ↔ putN (crc (l.take (l.length - 4))) 4 = l.drop (l.length - 4) := by
  have hl : (l.drop (l.length - 4)).length = 4 := by rw [List.length_drop]; omega
  constructor
  · intro h1
    rw [← h1]
    have := putN_getN (l.drop (l.length - 4))
    rwa [hl] at this
  · intro h1
    rw [← h1, getN_put (Nat.lt_of_lt_of_le (crc_lt _) (by decide))]

end Go.Proofs.YtbcnehjpondplaaDoor
