/-
  Package memory, plain: sizes, valid memories, bytes of words, what Read, Write, Spoil, Bytes, Store and Move answer. No condition.
-/
import Derived.Laws.Entries
namespace Go.Proofs.Ytigmlkfmgheegaa
set_option linter.unusedSimpArgs false

def okS (n : Int) : Bool := decide (256 ≤ n) && (decide (n ≤ 32768) && decide (n % 64 = 0))
def newL (n : Int) : List Int := if okS n = true then List.replicate (n / 2).toNat 0 else []
def newE (n : Int) : Int := if okS n = true then 0 else 1
def wordsB : List Int → Bool
  | [] => true
  | x :: r => (decide (0 ≤ x) && decide (x ≤ 65535)) && wordsB r
def badB (n : Int) : Int → List Int → Bool
  | _, [] => true
  | low, x :: r => (decide (low ≤ x) && (decide (x % 2 = 0) && decide (x < n))) && badB n (x + 2) r
def rightP (mem bad : List Int) : Bool := okS (2 * (mem.length : Int)) && (wordsB mem && badB (2 * (mem.length : Int)) 0 bad)

def accP (n a : Int) (b : Bool) : Bool := (b || decide (a % 2 = 0)) && (decide (0 ≤ a) && decide (a < n))
/-- The byte at an address. -/
def byteN (l : List Int) (a : Nat) : Int := l.getD (a / 2) 0 / (256 : Int) ^ (a % 2) % 256
/-- A word whose byte r is v. -/
def setW (x : Int) (r : Nat) (v : Int) : Int := if r = 0 then x / 256 * 256 + v % 256 else v % 256 * 256 + x % 256
def setN (l : List Int) (a : Nat) (v : Int) : List Int := l.set (a / 2) (setW (l.getD (a / 2) 0) (a % 2) v)
def evenP (a : Int) : Int := a - a % 2
def readT (n : Int) (bad : List Int) (a : Int) (b : Bool) : Int := if accP n a b = true then (if bad.contains (evenP a) = true then 9 else 0) else 1
def readV (mem bad : List Int) (a : Int) (b : Bool) : Int :=
  if readT (2 * (mem.length : Int)) bad a b = 0 then (if b = true then byteN mem a.toNat else mem.getD (a.toNat / 2) 0) else 0
def writeT (n a : Int) (b : Bool) : Int := if accP n a b = true then 0 else 1
def withoutP (bad : List Int) (x : Int) : List Int := bad.filter (fun y => y != x)
def wordW (mem : List Int) (a : Int) (b : Bool) (v : Int) : List Int := if b = true then setN mem a.toNat v else mem.set (a.toNat / 2) (v % 65536)
def writeM (mem : List Int) (a : Int) (b : Bool) (v : Int) : List Int := if accP (2 * (mem.length : Int)) a b = true then wordW mem a b v else []
def writeB (n : Int) (bad : List Int) (a : Int) (b : Bool) : List Int := if accP n a b = true then withoutP bad (evenP a) else []
def insP (x : Int) : List Int → List Int
  | [] => [x]
  | a :: r => if a < x then a :: insP x r else x :: (a :: r).filter (fun y => y != x)
def spoilE (n a : Int) : Int := if a % 2 = 0 then (if 0 ≤ a ∧ a < n then 0 else 2) else 1
def spoilL (n : Int) (bad : List Int) (a : Int) : List Int := if spoilE n a = 0 then insP a bad else []
def inR (n a k : Int) : Bool := decide (0 ≤ a) && (decide (0 ≤ k) && decide (k ≤ n - a))
def bytesN (l : List Int) (a : Nat) : Nat → List UInt8
  | 0 => []
  | k + 1 => UInt8.ofNat (byteN l a).toNat :: bytesN l (a + 1) k
def bytesE (n a k : Int) : Int := if inR n a k = true then 0 else 2
def bytesS (l : List Int) (a k : Int) : List UInt8 := if inR (2 * (l.length : Int)) a k = true then bytesN l a.toNat k.toNat else []
def storeN (l : List Int) (a : Nat) : List UInt8 → List Int
  | [] => l
  | c :: r => storeN (setN l a (c.toNat : Int)) (a + 1) r
def storeL (l : List Int) (a : Int) (s : List UInt8) : List Int := if inR (2 * (l.length : Int)) a (s.length : Int) = true then storeN l a.toNat s else []
def moveE (n to fr k : Int) : Int := if inR n fr k = true then bytesE n to k else 2
def moveL (l : List Int) (to fr k : Int) : List Int := if inR (2 * (l.length : Int)) fr k = true then storeL l to (bytesS l fr k) else []

/-! ### Lengths, bounds -/
theorem setN_length (l : List Int) (a : Nat) (v : Int) : (setN l a v).length = l.length := by simp [setN]
theorem storeN_length : ∀ (s : List UInt8) (l : List Int) (a : Nat), (storeN l a s).length = l.length
  | [], l, a => rfl
  | c :: r, l, a => by rw [storeN, storeN_length r, setN_length]
theorem bytesN_length (l : List Int) : ∀ (k a : Nat), (bytesN l a k).length = k
  | 0, a => rfl
  | k + 1, a => by simp [bytesN, bytesN_length l k]
theorem byteN_bd (l : List Int) (a : Nat) : 0 ≤ byteN l a ∧ byteN l a < 256 := by unfold byteN; omega
theorem wordsB_iff : ∀ (l : List Int), wordsB l = true ↔ ∀ x ∈ l, 0 ≤ x ∧ x ≤ 65535
  | [] => by simp [wordsB]
  | a :: r => by simp [wordsB, wordsB_iff r]
theorem badB_iff (n : Int) : ∀ (l : List Int) (low : Int), badB n low l = true ↔ (∀ x ∈ l, low ≤ x ∧ x % 2 = 0 ∧ x < n) ∧ l.Pairwise (· < ·)
  | [], low => by simp [badB]
  | a :: r, low => by
    simp only [badB, Bool.and_eq_true, decide_eq_true_eq, badB_iff n r, List.forall_mem_cons, List.pairwise_cons]
    constructor
    · rintro ⟨⟨h1, h2, h3⟩, h4, h5⟩
      exact ⟨⟨⟨h1, h2, h3⟩, fun x hx => by have := h4 x hx; exact ⟨by omega, this.2⟩⟩, fun x hx => by have := h4 x hx; omega, h5⟩
    · rintro ⟨⟨⟨h1, h2, h3⟩, h4⟩, h5, h6⟩
      exact ⟨⟨h1, h2, h3⟩, fun x hx => by have := h4 x hx; have := h5 x hx; omega, h6⟩
theorem setW_bd {x v : Int} {r : Nat} (h : 0 ≤ x ∧ x ≤ 65535) : 0 ≤ setW x r v ∧ setW x r v ≤ 65535 := by unfold setW; split <;> omega
theorem getD_bd {l : List Int} (h : wordsB l = true) (k : Nat) : 0 ≤ l.getD k 0 ∧ l.getD k 0 ≤ 65535 := by
  rw [List.getD_eq_getElem?_getD]
  rcases Nat.lt_or_ge k l.length with hk | hk
  · rw [List.getElem?_eq_getElem hk]; exact (wordsB_iff l).1 h _ (List.getElem_mem hk)
  · rw [List.getElem?_eq_none hk]; simp
theorem set_words {l : List Int} (h : wordsB l = true) (k : Nat) {x : Int} (hx : 0 ≤ x ∧ x ≤ 65535) : wordsB (l.set k x) = true := by
  rw [wordsB_iff] at h ⊢
  intro y hy
  rcases List.mem_or_eq_of_mem_set hy with h1 | h1
  · exact h y h1
  · subst h1; exact hx
theorem setN_words {l : List Int} (h : wordsB l = true) (a : Nat) (v : Int) : wordsB (setN l a v) = true := set_words h _ (setW_bd (getD_bd h _))
theorem storeN_words : ∀ (s : List UInt8) {l : List Int} (a : Nat), wordsB l = true → wordsB (storeN l a s) = true
  | [], _, _, h => h
  | _ :: r, _, a, h => storeN_words r (a + 1) (setN_words h a _)
theorem wordW_words {l : List Int} (h : wordsB l = true) (a : Int) (b : Bool) (v : Int) : wordsB (wordW l a b v) = true := by
  unfold wordW; split
  · exact setN_words h _ _
  · exact set_words h _ (by omega)
theorem wordW_length (l : List Int) (a : Int) (b : Bool) (v : Int) : (wordW l a b v).length = l.length := by
  unfold wordW; split
  · exact setN_length _ _ _
  · exact List.length_set

/-! ### Bytes -/
theorem byte_set (l : List Int) (a b : Nat) (v : Int) (ha : a < 2 * l.length) : byteN (setN l a v) b = if b = a then v % 256 else byteN l b := by
  have hk : a / 2 < l.length := by omega
  unfold byteN setN
  rw [List.getD_eq_getElem?_getD, List.getElem?_set, List.getD_eq_getElem?_getD]
  by_cases he : a / 2 = b / 2
  · rw [if_pos he, if_pos hk, ← he]
    simp only [Option.getD_some, ← List.getD_eq_getElem?_getD]
    generalize l.getD (a / 2) 0 = x
    unfold setW
    rcases Nat.mod_two_eq_zero_or_one a with ea | ea <;> rcases Nat.mod_two_eq_zero_or_one b with eb | eb <;> rw [ea, eb]
    · rw [if_pos rfl, if_pos (by omega)]; simp <;> omega
    · rw [if_pos rfl, if_neg (by omega)]; simp <;> omega
    · rw [if_neg (by decide), if_neg (by omega)]; simp <;> omega
    · rw [if_neg (by decide), if_pos (by omega)]; simp <;> omega
  · rw [if_neg he, if_neg (fun e => he (by rw [e])), List.getD_eq_getElem?_getD]
theorem bytesN_get (l : List Int) : ∀ (k a j : Nat), j < k → (bytesN l a k)[j]? = some (UInt8.ofNat (byteN l (a + j)).toNat)
  | 0, a, j, h => by omega
  | k + 1, a, 0, h => by simp [bytesN]
  | k + 1, a, j + 1, h => by simp only [bytesN, List.getElem?_cons_succ]; rw [bytesN_get l k (a + 1) j (by omega)]; congr 4; omega
theorem ofNat_mod (c : UInt8) : UInt8.ofNat ((c.toNat : Int) % 256).toNat = c := by
  have h : ((c.toNat : Int) % 256).toNat = c.toNat := by have := c.toNat_lt; omega
  rw [h]; simp
theorem byte_store : ∀ (s : List UInt8) (l : List Int) (a b : Nat), a + s.length ≤ 2 * l.length →
    UInt8.ofNat (byteN (storeN l a s) b).toNat = if h : a ≤ b ∧ b - a < s.length then s[b - a]'h.2 else UInt8.ofNat (byteN l b).toNat
  | [], l, a, b, _ => by simp [storeN]
  | c :: r, l, a, b, h => by
    simp only [List.length_cons] at h
    rw [storeN, byte_store r _ (a + 1) b (by rw [setN_length]; omega), byte_set _ _ _ _ (by omega)]
    by_cases e : b = a
    · subst e
      rw [dif_neg (by omega), if_pos rfl, dif_pos (by simp)]
      simp only [Nat.sub_self, List.getElem_cons_zero]
      exact ofNat_mod c
    · by_cases e2 : a + 1 ≤ b ∧ b - (a + 1) < r.length
      · rw [dif_pos e2, dif_pos (by simp only [List.length_cons]; omega)]
        have e3 : b - a = (b - (a + 1)) + 1 := by omega
        simp only [e3, List.getElem_cons_succ]
      · rw [dif_neg e2, if_neg e, dif_neg (by simp only [List.length_cons]; omega)]
theorem bytes_store (s : List UInt8) (l : List Int) (a : Nat) (h : a + s.length ≤ 2 * l.length) : bytesN (storeN l a s) a s.length = s := by
  apply List.ext_getElem?
  intro j
  rcases Nat.lt_or_ge j s.length with hj | hj
  · rw [bytesN_get _ _ _ _ hj, byte_store s l a _ h, dif_pos (by omega), List.getElem?_eq_getElem hj]
    simp only [Nat.add_sub_cancel_left]
  · rw [List.getElem?_eq_none (by rw [bytesN_length]; exact hj), List.getElem?_eq_none hj]
theorem bytes_around (s : List UInt8) (l : List Int) (a n : Nat) (h : a + s.length ≤ n) (hn : n = 2 * l.length) :
    bytesN (storeN l a s) 0 n = (bytesN l 0 n).take a ++ s ++ (bytesN l 0 n).drop (a + s.length) := by
  have hl := bytesN_length l n 0
  apply List.ext_getElem?
  intro j
  rcases Nat.lt_or_ge j n with hj | hj
  · rw [bytesN_get _ _ _ _ hj, byte_store s l a _ (by omega), Nat.zero_add]
    by_cases h1 : j < a
    · rw [dif_neg (by omega), List.append_assoc, List.getElem?_append_left (by rw [List.length_take, hl]; omega), List.getElem?_take_of_lt h1, bytesN_get _ _ _ _ hj, Nat.zero_add]
    · rw [List.append_assoc, List.getElem?_append_right (by rw [List.length_take, hl]; omega), List.length_take, hl, Nat.min_eq_left (by omega)]
      by_cases h2 : j - a < s.length
      · rw [dif_pos (by omega), List.getElem?_append_left h2, List.getElem?_eq_getElem h2]
      · rw [dif_neg (by omega), List.getElem?_append_right (by omega), List.getElem?_drop, show a + s.length + (j - a - s.length) = j by omega, bytesN_get _ _ _ _ hj, Nat.zero_add]
  · rw [List.getElem?_eq_none (by rw [bytesN_length]; exact hj), List.getElem?_eq_none (by simp only [List.length_append, List.length_take, List.length_drop, hl]; omega)]
theorem get_set (l : List Int) (j k : Nat) (x : Int) (hk : k < l.length) : (l.set k x).getD j 0 = if j = k then x else l.getD j 0 := by
  rw [List.getD_eq_getElem?_getD, List.getElem?_set, List.getD_eq_getElem?_getD]
  by_cases h : k = j
  · subst h; simp [hk]
  · rw [if_neg h, if_neg (fun e => h e.symm)]
theorem set_twice (l : List Int) (a : Nat) (v : Int) (ha : a < 2 * l.length) : setN (setN l a v) a v = setN l a v := by
  have hk : a / 2 < l.length := by omega
  unfold setN
  rw [get_set _ _ _ _ hk, if_pos rfl, List.set_set]
  congr 1
  unfold setW
  split <;> omega
theorem word_twice (l : List Int) (a : Int) (b : Bool) (v : Int) (h0 : 0 ≤ a) (h1 : a < 2 * (l.length : Int)) : wordW (wordW l a b v) a b v = wordW l a b v := by
  unfold wordW
  cases b
  · simp
  · simp only [if_true]; exact set_twice _ _ _ (by omega)
end Go.Proofs.Ytigmlkfmgheegaa
