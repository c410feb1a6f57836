/-
  Plain facts of integers, lists of words and checksums as bytes: what is put is got back; a sum of which one byte is changed is another sum. Nothing of the program stands here.
-/
import Derived.KernelRfl
namespace Go.Proofs.YtbcnehjpondplaaDoor

/-- The lowest w bytes of n, the least significant first. -/
def putN (n : Nat) : Nat → List UInt8
  | 0 => []
  | w + 1 => UInt8.ofNat (n % 256) :: putN (n / 256) w
theorem putN_length : ∀ (w n : Nat), (putN n w).length = w
  | 0, _ => rfl
  | w + 1, n => by rw [putN, List.length_cons, putN_length w]
/-- The number whose bytes stand so. -/
def getN : List UInt8 → Nat
  | [] => 0
  | c :: r => c.toNat + 256 * getN r
theorem getN_lt : ∀ l : List UInt8, getN l < 256 ^ l.length
  | [] => by simp [getN]
  | c :: r => by
    have h := getN_lt r
    have hc := UInt8.toNat_lt c
    rw [getN, List.length_cons, Nat.pow_succ]
    omega
theorem u8_mod (n : Nat) : (UInt8.ofNat (n % 256)).toNat = n % 256 := by rw [UInt8.toNat_ofNat']; omega
theorem getN_putN : ∀ (w n : Nat), getN (putN n w) = n % 256 ^ w
  | 0, n => by simp [putN, getN, Nat.mod_one]
  | w + 1, n => by
    rw [putN, getN, getN_putN w, u8_mod, Nat.pow_succ, Nat.mul_comm (256 ^ w) 256, Nat.mod_mul]
theorem getN_put {w n : Nat} (h : n < 256 ^ w) : getN (putN n w) = n := by rw [getN_putN, Nat.mod_eq_of_lt h]
theorem putN_inj {w a b : Nat} (ha : a < 256 ^ w) (hb : b < 256 ^ w) (h : putN a w = putN b w) : a = b := by
  have := congrArg getN h
  rwa [getN_put ha, getN_put hb] at this
theorem putN_getN : ∀ l : List UInt8, putN (getN l) l.length = l
  | [] => rfl
  | c :: r => by
    have hc := UInt8.toNat_lt c
    rw [List.length_cons, putN, getN, show (c.toNat + 256 * getN r) % 256 = c.toNat by omega, show (c.toNat + 256 * getN r) / 256 = getN r by omega, putN_getN r]
    simp

/-! ### Words -/
def putW : List Nat → List UInt8
  | [] => []
  | n :: r => putN n 2 ++ putW r
def getW : List UInt8 → List Nat
  | [] => []
  | [_] => []
  | a :: b :: r => (a.toNat + 256 * b.toNat) :: getW r
theorem putW_length : ∀ l : List Nat, (putW l).length = 2 * l.length
  | [] => rfl
  | n :: r => by rw [putW, List.length_append, putN_length, putW_length r, List.length_cons]; omega
theorem getW_putW : ∀ l : List Nat, (∀ n ∈ l, n < 65536) → getW (putW l) = l
  | [], _ => rfl
  | n :: r, h => by
    have hn := h n (by simp)
    have e : putW (n :: r) = UInt8.ofNat (n % 256) :: UInt8.ofNat (n / 256 % 256) :: putW r := rfl
    rw [e, getW, u8_mod, u8_mod, getW_putW r (fun m hm => h m (by simp [hm]))]
    congr 1
    omega

/-! ### The checksum -/
theorem xor_r {a b c : Nat} (h : a ^^^ c = b ^^^ c) : a = b := by
  have := congrArg (· ^^^ c) h
  simpa [Nat.xor_assoc] using this
theorem xor_l {a b c : Nat} (h : c ^^^ a = c ^^^ b) : a = b := by
  rw [Nat.xor_comm c a, Nat.xor_comm c b] at h; exact xor_r h
theorem xor_lc (a b c : Nat) : a ^^^ (b ^^^ c) = b ^^^ (a ^^^ c) := by rw [← Nat.xor_assoc, Nat.xor_comm a b, Nat.xor_assoc]
def poly : Nat := 3988292384
/-- One bit. -/
def cs1 (c : Nat) : Nat := if c % 2 = 1 then (c / 2) ^^^ poly else c / 2
def cs8 (c : Nat) : Nat := cs1 (cs1 (cs1 (cs1 (cs1 (cs1 (cs1 (cs1 c)))))))
/-- One byte. -/
def csB (c : Nat) (b : UInt8) : Nat := cs8 (c ^^^ b.toNat)
def csL (c : Nat) (l : List UInt8) : Nat := l.foldl csB c
def crc (l : List UInt8) : Nat := csL 4294967295 l ^^^ 4294967295

theorem cs1_lt {c : Nat} (h : c < 4294967296) : cs1 c < 4294967296 := by
  unfold cs1
  split
  · exact Nat.xor_lt_two_pow (n := 32) (by omega) (by decide)
  · omega
theorem poly_top : poly.testBit 31 = true := by decide
theorem half_top {c : Nat} (h : c < 4294967296) : (c / 2).testBit 31 = false := Nat.testBit_lt_two_pow (by omega)
theorem cs1_inj {a b : Nat} (ha : a < 4294967296) (hb : b < 4294967296) (h : cs1 a = cs1 b) : a = b := by
  have h31 := congrArg (fun n => n.testBit 31) h
  unfold cs1 at h h31
  by_cases pa : a % 2 = 1 <;> by_cases pb : b % 2 = 1
  · rw [if_pos pa, if_pos pb] at h
    have := xor_r h
    omega
  · simp only [if_pos pa, if_neg pb, Nat.testBit_xor, poly_top, half_top ha, half_top hb] at h31
    cases h31
  · simp only [if_neg pa, if_pos pb, Nat.testBit_xor, poly_top, half_top ha, half_top hb] at h31
    cases h31
  · rw [if_neg pa, if_neg pb] at h
    omega
theorem cs8_lt {c : Nat} (h : c < 4294967296) : cs8 c < 4294967296 := cs1_lt (cs1_lt (cs1_lt (cs1_lt (cs1_lt (cs1_lt (cs1_lt (cs1_lt h)))))))
theorem cs8_inj {a b : Nat} (ha : a < 4294967296) (hb : b < 4294967296) (h : cs8 a = cs8 b) : a = b := by
  have a1 := cs1_lt ha; have a2 := cs1_lt a1; have a3 := cs1_lt a2; have a4 := cs1_lt a3; have a5 := cs1_lt a4; have a6 := cs1_lt a5; have a7 := cs1_lt a6
  have b1 := cs1_lt hb; have b2 := cs1_lt b1; have b3 := cs1_lt b2; have b4 := cs1_lt b3; have b5 := cs1_lt b4; have b6 := cs1_lt b5; have b7 := cs1_lt b6
  exact cs1_inj ha hb (cs1_inj a1 b1 (cs1_inj a2 b2 (cs1_inj a3 b3 (cs1_inj a4 b4 (cs1_inj a5 b5 (cs1_inj a6 b6 (cs1_inj a7 b7 h)))))))
theorem in_lt {c : Nat} (h : c < 4294967296) (b : UInt8) : c ^^^ b.toNat < 4294967296 :=
  Nat.xor_lt_two_pow (n := 32) (by omega) (by have := UInt8.toNat_lt b; omega)
theorem csB_lt {c : Nat} (h : c < 4294967296) (b : UInt8) : csB c b < 4294967296 := cs8_lt (in_lt h b)
theorem csL_lt : ∀ (l : List UInt8) {c : Nat}, c < 4294967296 → csL c l < 4294967296
  | [], _, h => h
  | b :: l, _, h => csL_lt l (csB_lt h b)
theorem csL_inj : ∀ (l : List UInt8) {a b : Nat}, a < 4294967296 → b < 4294967296 → csL a l = csL b l → a = b
  | [], _, _, _, _, h => h
  | x :: l, a, b, ha, hb, h => by
    have h1 := csL_inj l (csB_lt ha x) (csB_lt hb x) h
    exact xor_r (cs8_inj (in_lt ha x) (in_lt hb x) h1)
theorem csB_byte {c : Nat} (h : c < 4294967296) {x y : UInt8} (hxy : csB c x = csB c y) : x = y := by
  have h1 := cs8_inj (in_lt h x) (in_lt h y) hxy
  exact UInt8.toNat_inj.1 (xor_l h1)
theorem crc_lt (l : List UInt8) : crc l < 4294967296 := Nat.xor_lt_two_pow (n := 32) (csL_lt l (by decide)) (by decide)
/-- A text of which one byte is changed has another sum. -/
theorem crc_changed (p r : List UInt8) {x y : UInt8} (hxy : x ≠ y) : crc (p ++ x :: r) ≠ crc (p ++ y :: r) := by
  intro h
  have h1 : csL 4294967295 (p ++ x :: r) = csL 4294967295 (p ++ y :: r) := xor_r h
  unfold csL at h1
  rw [List.foldl_append, List.foldl_append, List.foldl_cons, List.foldl_cons] at h1
  have hp : List.foldl csB 4294967295 p < 4294967296 := csL_lt p (by decide)
  exact hxy (csB_byte hp (csL_inj r (csB_lt hp x) (csB_lt hp y) h1))

/-- A sealed text. -/
def sealed (l : List UInt8) : List UInt8 := l ++ putN (crc l) 4
/-- What is opened; none: the sum is another. -/
def opened (l : List UInt8) : Option (List UInt8) := if putN (crc (l.take (l.length - 4))) 4 = l.drop (l.length - 4) then some (l.take (l.length - 4)) else none
theorem sealed_length (l : List UInt8) : (sealed l).length = l.length + 4 := by rw [sealed, List.length_append, putN_length]
theorem opened_sealed (l : List UInt8) : opened (sealed l) = some l := by
  have e : l.length + 4 - 4 = l.length := by omega
  unfold opened
  rw [sealed_length, e, sealed, List.take_left, List.drop_left, if_pos rfl]
/-- A sealed text of which one byte is changed is not opened. -/
theorem opened_changed (l : List UInt8) (k : Nat) (hk : k < l.length + 4) (y : UInt8) (hy : (sealed l).getD k 0 ≠ y) : opened ((sealed l).set k y) = none := by
  have hlen := sealed_length l
  unfold opened
  rw [List.length_set, hlen, show l.length + 4 - 4 = l.length by omega]
  refine if_neg fun h => ?_
  by_cases hkl : k < l.length
  · have hset : (sealed l).set k y = l.set k y ++ putN (crc l) 4 := by rw [sealed, List.set_append_left _ _ hkl]
    have hx : (sealed l).getD k 0 = l[k] := by rw [sealed, List.getD, List.getElem?_append_left hkl, List.getElem?_eq_getElem hkl]; rfl
    have hll : (l.set k y).length = l.length := by simp
    rw [hset, ← hll, List.take_left, List.drop_left] at h
    have h1 := putN_inj (Nat.lt_of_lt_of_le (crc_lt _) (by decide)) (Nat.lt_of_lt_of_le (crc_lt _) (by decide)) h
    have e1 : l = l.take k ++ l[k] :: l.drop (k + 1) := by rw [List.getElem_cons_drop, List.take_append_drop]
    have e2 : l.set k y = l.take k ++ y :: l.drop (k + 1) := List.set_eq_take_append_cons_drop.trans (if_pos hkl)
    rw [e2] at h1
    have h2 := crc_changed (l.take k) (l.drop (k + 1)) (x := l[k]) (y := y) (by rw [← hx]; exact hy)
    rw [← e1] at h2
    exact h2 h1.symm
  · have hset : (sealed l).set k y = l ++ (putN (crc l) 4).set (k - l.length) y := by rw [sealed, List.set_append_right _ _ (by omega)]
    rw [hset, List.take_left, List.drop_left] at h
    have hx : (sealed l).getD k 0 = (putN (crc l) 4).getD (k - l.length) 0 := by
      rw [sealed, List.getD, List.getElem?_append_right (by omega)]; rfl
    rw [h] at hx
    apply hy
    rw [hx]
    have hq : k - l.length < (putN (crc l) 4).length := by rw [putN_length]; omega
    simp [List.getD, hq]

/-! ### The sum by a table: what one byte does is linear -/
theorem cs1_xor (a b : Nat) : cs1 (a ^^^ b) = cs1 a ^^^ cs1 b := by
  have hm : (a ^^^ b) % 2 = (a % 2) ^^^ (b % 2) := by
    have := Nat.xor_mod_two_pow (a := a) (b := b) (n := 1)
    simpa using this
  have hd : (a ^^^ b) / 2 = (a / 2) ^^^ (b / 2) := by
    have := Nat.xor_div_two_pow (a := a) (b := b) (n := 1)
    simpa using this
  unfold cs1
  rw [hm, hd]
  have ha : a % 2 = 0 ∨ a % 2 = 1 := by omega
  have hb : b % 2 = 0 ∨ b % 2 = 1 := by omega
  rcases ha with ha | ha <;> rcases hb with hb | hb <;> rw [ha, hb]
  · rfl
  · rw [if_pos (by decide), if_neg (by decide), if_pos rfl, Nat.xor_assoc]
  · rw [if_pos (by decide), if_pos rfl, if_neg (by decide), Nat.xor_assoc, Nat.xor_assoc, Nat.xor_comm poly]
  · rw [if_neg (by decide), if_pos rfl, if_pos rfl, Nat.xor_assoc, xor_lc poly, Nat.xor_self, Nat.xor_zero]
theorem cs8_xor (a b : Nat) : cs8 (a ^^^ b) = cs8 a ^^^ cs8 b := by unfold cs8; simp only [cs1_xor]
theorem cs8_high (n : Nat) : cs8 (256 * n) = n := by
  have h : ∀ m, cs1 (2 * m) = m := fun m => by unfold cs1; rw [if_neg (by omega)]; omega
  unfold cs8
  rw [show 256 * n = 2 * (2 * (2 * (2 * (2 * (2 * (2 * (2 * n))))))) by omega]
  simp only [h]
/-- One byte by the table: what the lowest byte alone gives, and the others moved down. -/
theorem cs8_table (c : Nat) : cs8 c = cs8 (c % 256) ^^^ (c / 256) := by
  have e : c = (c % 256) ^^^ (256 * (c / 256)) := by
    have h1 : 256 * (c / 256) + c % 256 = c := by omega
    have h2 := Nat.two_pow_add_eq_or_of_lt (i := 8) (b := c % 256) (by omega) (c / 256)
    have h3 : (2 ^ 8 * (c / 256)) ||| (c % 256) = (c % 256) ^^^ (256 * (c / 256)) := by
      apply Nat.eq_of_testBit_eq
      intro i
      rw [Nat.testBit_or, Nat.testBit_xor, show (256 : Nat) = 2 ^ 8 from rfl, Nat.testBit_two_pow_mul, Nat.testBit_mod_two_pow]
      by_cases hi : 8 ≤ i
      · simp [hi, show ¬ i < 8 by omega]
      · simp [hi]
    rw [← h3, ← h2]; omega
  conv => lhs; rw [e]
  rw [cs8_xor, cs8_high]

end Go.Proofs.YtbcnehjpondplaaDoor
