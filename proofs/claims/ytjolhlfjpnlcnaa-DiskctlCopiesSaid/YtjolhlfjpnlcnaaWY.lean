import Derived.Test.YtjolhlfjpnlcnaaDkV
/-
  Words that are written to sectors, checked and read back: plain. No condition.
-/
namespace Go.Proofs.Ytjolhlfjpnlcnaa
open Go.RowKit
set_option linter.unusedSimpArgs false
set_option linter.unusedVariables false
set_option maxHeartbeats 4000000
set_option maxRecDepth 100000

theorem gA {α : Type} (a b : List α) (k : Nat) (d : α) (h : k < a.length) : (a ++ b).getD k d = a.getD k d := by
  rw [List.getD_eq_getElem?_getD, List.getD_eq_getElem?_getD, List.getElem?_append_left h]
theorem gR {α : Type} (a b : List α) (k : Nat) (d : α) (h : a.length ≤ k) : (a ++ b).getD k d = b.getD (k - a.length) d := by
  rw [List.getD_eq_getElem?_getD, List.getD_eq_getElem?_getD, List.getElem?_append_right h]
theorem byt_app {s t : ByteArray} {k : Nat} (h : k < s.size) : byt (s ++ t) k = byt s k := by
  unfold byt
  have h' : k < s.data.size := h
  rw [ByteArray.data_append, Array.getD_eq_getD_getElem?, Array.getD_eq_getD_getElem?, Array.getElem?_append_left h']
theorem byt_list (l : List UInt8) (k : Nat) : byt ⟨l.toArray⟩ k = ((l.getD k 0).toNat : Int) := by
  unfold byt
  rw [List.getD_eq_getElem?_getD, Array.getD_eq_getD_getElem?]
  simp
theorem secL_get (m : List Int) (A : Nat) : ∀ (k i : Nat), i < k → (secL m A k).getD (2 * i) 0 = UInt8.ofNat (m.getD (A + i) 0 % 256).toNat ∧ (secL m A k).getD (2 * i + 1) 0 = UInt8.ofNat (m.getD (A + i) 0 / 256).toNat
  | 0, i, h => absurd h (Nat.not_lt_zero i)
  | k + 1, i, h => by
    rw [secL_step]
    have hl := secL_len m A k
    by_cases hik : i < k
    · have h1 := secL_get m A k i hik
      rw [gA _ _ _ _ (by omega), gA _ _ _ _ (by omega)]
      exact h1
    · obtain rfl : i = k := by omega
      rw [gR _ _ _ _ (by omega), gR _ _ _ _ (by omega), hl]
      rw [show 2 * i - 2 * i = 0 from by omega, show 2 * i + 1 - 2 * i = 1 from by omega]
      exact ⟨rfl, rfl⟩
/-- A sector that was made of words has them. -/
theorem at_sec (m : List Int) (A n i : Nat) (t : ByteArray) (hi : i < n) (hn : n ≤ 64) (hw : 0 ≤ m.getD (A + i) 0 ∧ m.getD (A + i) 0 ≤ 65535) : atV (secV m A n ++ t) i = m.getD (A + i) 0 := by
  have hs := secV_size m A n hn
  unfold atV
  rw [byt_app (by omega), byt_app (by omega)]
  unfold secV
  have hl := secL_len m A n
  rw [byt_list, byt_list, gA _ _ _ _ (by omega), gA _ _ _ _ (by omega)]
  obtain ⟨h1, h2⟩ := secL_get m A n i hi
  rw [h1, h2, u8_of _ (by omega), u8_of _ (by omega)]
  omega
theorem putM_getD (m : List Int) (A : Nat) (s : ByteArray) (i : Nat) : ∀ k, A + k ≤ m.length → (putM m A s k).getD i 0 = if A ≤ i ∧ i < A + k then atV s (i - A) else m.getD i 0
  | 0, _ => by rw [if_neg (by omega)]; rfl
  | k + 1, h => by
    have hl := putM_len m A s k
    rw [putM_step, List.getD_eq_getElem?_getD]
    by_cases hik : i = A + k
    · subst hik
      rw [List.getElem?_set_self (by omega), if_pos (by omega), show A + k - A = k from by omega]; rfl
    · rw [List.getElem?_set_ne (by omega), ← List.getD_eq_getElem?_getD, putM_getD m A s i k (by omega)]
      by_cases h1 : A ≤ i ∧ i < A + k
      · rw [if_pos h1, if_pos (by omega)]
      · rw [if_neg h1, if_neg (by omega)]
/-- The number of sectors of n words. -/
def qS (n : Nat) : Nat := (n + 63) / 64
/-- The words of sector k. -/
def nW (n k : Nat) : Nat := min 64 (n - 64 * k)
/-- The memory behind the reading of N words. -/
def mOut (m : List Int) (W : List Int) (Y N : Nat) : List Int := (List.range m.length).map fun i => if Y ≤ i ∧ i < Y + N then W.getD (i - Y) 0 else m.getD i 0
theorem mOut_len (m W : List Int) (Y N : Nat) : (mOut m W Y N).length = m.length := by unfold mOut; simp
theorem mOut_getD (m W : List Int) (Y N i : Nat) (h : i < m.length) : (mOut m W Y N).getD i 0 = if Y ≤ i ∧ i < Y + N then W.getD (i - Y) 0 else m.getD i 0 := by
  unfold mOut
  rw [List.getD_eq_getElem?_getD, List.getElem?_map, List.getElem?_range h]; rfl
theorem mOut_zero (m W : List Int) (Y : Nat) : mOut m W Y 0 = m := by
  refine List.ext_getElem? fun i => ?_
  by_cases h : i < m.length
  · have h1 := mOut_getD m W Y 0 i h
    rw [if_neg (by omega), List.getD_eq_getElem?_getD, List.getD_eq_getElem?_getD, List.getElem?_eq_getElem h, List.getElem?_eq_getElem (by rw [mOut_len]; exact h)] at h1
    rw [List.getElem?_eq_getElem h, List.getElem?_eq_getElem (by rw [mOut_len]; exact h)]
    exact congrArg some h1
  · rw [List.getElem?_eq_none (by rw [mOut_len]; omega), List.getElem?_eq_none (by omega)]
theorem mOut_step (m W : List Int) (Y N n : Nat) (s : ByteArray) (hY : Y + N + n ≤ m.length) (hs : ∀ i, i < n → atV s i = W.getD (N + i) 0) : putM (mOut m W Y N) (Y + N) s n = mOut m W Y (N + n) := by
  refine List.ext_getElem? fun i => ?_
  have hl1 : (putM (mOut m W Y N) (Y + N) s n).length = m.length := by rw [putM_len, mOut_len]
  have hl2 := mOut_len m W Y (N + n)
  by_cases h : i < m.length
  · have h1 := putM_getD (mOut m W Y N) (Y + N) s i n (by rw [mOut_len]; omega)
    have h2 := mOut_getD m W Y N i h
    have h3 := mOut_getD m W Y (N + n) i h
    rw [List.getElem?_eq_getElem (by omega), List.getElem?_eq_getElem (by omega)]
    rw [List.getD_eq_getElem?_getD, List.getElem?_eq_getElem (by omega)] at h1 h3
    refine congrArg some ((show _ = _ from h1).trans (Eq.trans ?_ (show _ = _ from h3).symm))
    by_cases a : Y + N ≤ i ∧ i < Y + N + n
    · rw [if_pos a, if_pos (by omega), hs _ (by omega)]
      congr 1; omega
    · rw [if_neg a, h2]
      by_cases b : Y ≤ i ∧ i < Y + N
      · rw [if_pos b, if_pos (by omega)]
      · rw [if_neg b, if_neg (by omega)]
  · rw [List.getElem?_eq_none (by omega), List.getElem?_eq_none (by omega)]
/-- Sector k of the words from X on. -/
def sK (m : List Int) (X n k : Nat) : ByteArray := secV m (X + 64 * k) (nW n k) ++ zB (128 - (secV m (X + 64 * k) (nW n k)).size)
theorem nW_le (n k : Nat) : nW n k ≤ 64 := Nat.min_le_left ..
theorem sK_at (m : List Int) (X n k i : Nat) (hw : ∀ x ∈ m, 0 ≤ x ∧ x ≤ 65535) (hl : X + n ≤ m.length) (hi : i < nW n k) : atV (sK m X n k) i = m.getD (X + 64 * k + i) 0 := by
  refine at_sec m _ _ i _ hi (nW_le n k) (hw _ ?_)
  have : X + 64 * k + i < m.length := by unfold nW at hi; omega
  rw [List.getD_eq_getElem?_getD, List.getElem?_eq_getElem this]
  exact List.getElem_mem this
structure StD (m : List Int) (X n f : Nat) (D : Drv) (j : Nat) : Prop where
  right : D.right = true
  len : D.S.length = 8
  bad : D.B = []
  sec : ∀ k, k < j → D.S[f + k]? = some (sK m X n k)
/-- The controller after t ticks of a transfer of n words from the word A on, and from sector f on. -/
def Ph (c : Int) (n f A t : Nat) (K : Dk) : Prop := K.n = false ∧ K.e = false ∧ K.c = c ∧ K.s = (f : Int) + ((t / 8 : Nat) : Int) ∧
  (if t < 8 * qS n then K.r = false ∧ K.l = 8 - ((t % 8 : Nat) : Int) ∧ K.w = (n : Int) - 64 * ((t / 8 : Nat) : Int) ∧ K.a = 2 * ((A : Int) + 64 * ((t / 8 : Nat) : Int))
   else K.r = true ∧ K.l = 0 ∧ K.w = 0 ∧ K.a = 2 * ((A : Int) + (n : Int)))
/-- What the drive and the memory hold then. -/
def Cn (mW W : List Int) (X Y n f : Nat) (c : Int) (t : Nat) (D : Drv) (m : List Int) : Prop :=
  StD mW X n f D (if c = 2 then t / 8 else qS n) ∧ m = (if c = 1 then mOut mW W Y (min n (64 * (t / 8))) else mW)
structure Hyp (mW W : List Int) (X Y n f : Nat) : Prop where
  n1 : 1 ≤ n
  n2 : n ≤ 200
  x : X ≤ 255
  y : 512 ≤ Y ∧ Y ≤ 767
  f : f ≤ 3
  ml : mW.length = 1024
  mw : ∀ x ∈ mW, 0 ≤ x ∧ x ≤ 65535
  w : ∀ i, i < n → W.getD i 0 = mW.getD (X + i) 0
theorem ph_step {mW W : List Int} {X Y n f : Nat} (H : Hyp mW W X Y n f) {c : Int} (hc : c = 1 ∨ c = 2 ∨ c = 3) {t A : Nat} (hA : A = if c = 1 then Y else X) (ht : t < 8 * qS n) {K : Dk} {m : List Int}
    (h : Ph c n f A t K) (h2 : Cn mW W X Y n f c t K.D m) : Ph c n f A (t + 1) (K.tick m []).1 ∧ Cn mW W X Y n f c (t + 1) (K.tick m []).1.D (K.tick m []).2.1 ∧ (K.tick m []).2.2 = [] := by
  obtain ⟨p1, p2, p3, p4, p5⟩ := h
  rw [if_pos ht] at p5
  obtain ⟨p5, p6, p7, p8⟩ := p5
  obtain ⟨hS, hm⟩ := h2
  have hq : qS n = (n + 63) / 64 := rfl
  have hn1 := H.n1
  have hn2 := H.n2
  by_cases hi : t % 8 < 7
  · have hl : 1 < K.l := by rw [p6]; omega
    have e : K.tick m [] = ({ K with l := K.l - 1 }, m, []) := by unfold Dk.tick; rw [if_neg (by omega), if_pos hl]
    rw [e]
    have e1 : (t + 1) / 8 = t / 8 := by omega
    refine ⟨⟨p1, p2, p3, by rw [e1]; exact p4, ?_⟩, ?_, rfl⟩
    · rw [if_pos (by omega), e1]
      refine ⟨p5, ?_, p7, p8⟩
      show K.l - 1 = _
      rw [p6]; omega
    · unfold Cn; rw [e1]; exact ⟨hS, hm⟩
  · have hl : K.l = 1 := by rw [p6]; omega
    have e1 : (t + 1) / 8 = t / 8 + 1 := by omega
    have e2 : (t + 1) % 8 = 0 := by omega
    generalize ht8 : t / 8 = j at *
    have hj : j < qS n := by omega
    have h64 : K.n64 = nW n j := by unfold Dk.n64 nW; rw [p7]; omega
    have hnw : nW n j = min 64 (n - 64 * j) := rfl
    have hmS : m.length = 1024 := by rw [hm]; split <;> first | rw [mOut_len, H.ml] | exact H.ml
    have hx := H.x
    have hy := H.y
    have hf := H.f
    have hA2 : A ≤ 767 := by rw [hA]; split <;> omega
    have ha2 : (K.a / 2).toNat = A + 64 * j := by rw [p8]; omega
    have hsk : K.s.toNat = f + j := by rw [p4]; omega
    have hs8 : f + j < K.D.S.length := by rw [hS.len]; omega
    have hrd : K.D.rd K.s = (K.D.S.getD (f + j) ⟨#[]⟩, 0) := by
      unfold Drv.rd
      rw [if_pos (by rw [p4, hS.len]; omega), if_neg (by rw [hS.bad]; simp), hsk]
    have hfar : ¬ 2 * (m.length : Int) < K.a + 2 * (K.n64 : Int) := by rw [hmS, p8, h64]; omega
    have hsp : spV [] K.a K.n64 = false := rfl
    -- behind the sector
    have adv : ∀ D : Drv, Ph c n f A (t + 1) (K.adv D) := fun D => by
      refine ⟨p1, p2, p3, ?_, ?_⟩
      · show (K.s + 1) % 65536 = _
        rw [e1, p4]; omega
      · by_cases hend : n ≤ 64 * (j + 1)
        · rw [if_neg (by omega)]
          have hz : K.w - (K.n64 : Int) = 0 := by rw [p7, h64]; omega
          refine ⟨decide_eq_true hz, if_pos hz, hz, ?_⟩
          show (K.a + 2 * (K.n64 : Int)) % 65536 = _
          rw [p8, h64]; omega
        · rw [if_pos (by omega)]
          have hz : ¬ K.w - (K.n64 : Int) = 0 := by rw [p7, h64]; omega
          refine ⟨decide_eq_false hz, ?_, ?_, ?_⟩
          · show (if K.w - (K.n64 : Int) = 0 then (0 : Int) else 8) = _
            rw [if_neg hz, e2]; rfl
          · show K.w - (K.n64 : Int) = _
            rw [p7, h64, e1]; omega
          · show (K.a + 2 * (K.n64 : Int)) % 65536 = _
            rw [p8, h64, e1]; omega
    have sec : c ≠ 2 → K.D.S.getD (f + j) ⟨#[]⟩ = sK mW X n j := fun hc2 => by
      have := hS.sec j (by rw [if_neg hc2]; exact hj)
      rw [List.getD_eq_getElem?_getD, this]; rfl
    rw [tick_at K m [] hl, if_neg hfar, hrd, if_neg (by simp), if_neg (by rw [hsp]; simp)]
    rcases hc with rfl | rfl | rfl
    · -- read
      rw [if_neg (fun h => absurd (p3.symm.trans h.1) (by decide)), if_neg (by rw [p3]; decide), if_pos p3]
      refine ⟨adv _, ⟨?_, ?_⟩, rfl⟩
      · rw [if_neg (by decide)]; rw [if_neg (by decide)] at hS; exact hS
      · rw [if_pos rfl] at hm hA ⊢
        show putM m (K.a / 2).toNat (K.D.S.getD (f + j) ⟨#[]⟩) K.n64 = _
        rw [ha2, h64, sec (by decide), hm, e1]
        have hmin : min n (64 * j) = 64 * j := by omega
        have hmin2 : min n (64 * (j + 1)) = 64 * j + nW n j := by omega
        rw [hmin, hmin2, hA]
        refine mOut_step mW W Y (64 * j) (nW n j) _ (by rw [H.ml]; omega) (fun i hi => ?_)
        rw [sK_at mW X n j i H.mw (by rw [H.ml]; omega) hi, H.w _ (by omega)]
        congr 1; omega
    · -- write
      rw [if_neg (fun h => absurd (p3.symm.trans h.1) (by decide)), if_pos p3]
      have hm' : m = mW := by rw [hm, if_neg (by decide)]
      have hA' : A = X := by rw [hA, if_neg (by decide)]
      have hsz := secV_size m (A + 64 * j) (nW n j) (nW_le n j)
      have hwr : K.D.wr K.s (secV m (A + 64 * j) (nW n j)) = (⟨K.D.S.set (f + j) (sK mW X n j), K.D.B⟩, 0) := by
        unfold Drv.wr
        rw [if_pos (by rw [p4, hS.len]; omega), if_neg (by rw [hsz]; omega), if_neg (by rw [hS.bad]; simp), hsk, hm', hA']; rfl
      rw [ha2, h64, hwr, if_pos rfl]
      refine ⟨adv _, ⟨?_, ?_⟩, rfl⟩
      · rw [if_pos rfl] at hS ⊢
        rw [e1]
        have hr := wr_rightK hS.right (k := K.s) (s := secV m (A + 64 * j) (nW n j)) (by rw [hwr])
        rw [hwr] at hr
        refine ⟨hr, by show (K.D.S.set _ _).length = 8; rw [List.length_set, hS.len], hS.bad, fun k hk => ?_⟩
        show (K.D.S.set (f + j) (sK mW X n j))[f + k]? = _
        by_cases hkj : k = j
        · subst hkj; rw [List.getElem?_set_self hs8]
        · rw [List.getElem?_set_ne (by omega)]; exact hS.sec k (by omega)
      · rw [if_neg (by decide)]; exact hm'
    · -- check
      have hm' : m = mW := by rw [hm, if_neg (by decide)]
      have hA' : A = X := by rw [hA, if_neg (by decide)]
      have hdf : dfW m (K.a / 2).toNat K.n64 (K.D.S.getD (f + j) ⟨#[]⟩) = false := by
        rw [ha2, h64, sec (by decide), hm', hA']
        unfold dfW
        rw [List.any_eq_false]
        intro i hi
        rw [List.mem_range] at hi
        have := sK_at mW X n j i H.mw (by rw [H.ml]; omega) hi
        simp [this]
      rw [if_neg (by rw [hdf]; simp), if_neg (by rw [p3]; decide), if_neg (by rw [p3]; decide)]
      refine ⟨adv _, ⟨?_, ?_⟩, rfl⟩
      · rw [if_neg (by decide)]; rw [if_neg (by decide)] at hS; exact hS
      · rw [if_neg (by decide)]; exact hm'
theorem qS_pos {n : Nat} (h : 1 ≤ n) : 1 ≤ qS n := by unfold qS; omega
theorem start_ph {K : Dk} (hr : K.r = true) {c : Int} (hc : c = 1 ∨ c = 2 ∨ c = 3) {n A f : Nat} (hn : 1 ≤ n ∧ n ≤ 200) (hA : A ≤ 767) (hf : f ≤ 3) : Ph c n f A 0 (startV K c n (2 * (A : Int)) f) ∧ (startV K c n (2 * (A : Int)) f).D = K.D := by
  have hq := qS_pos hn.1
  obtain ⟨D, en, r, e, c0, w, a, s, l⟩ := K
  obtain rfl : r = true := hr
  have h1 : ((Dk.mk D en true e c0 w a s l).wr 2 n).1 = Dk.mk D en true e c0 (n : Int) a s l := by
    unfold Dk.wr; simp; omega
  have h2 : ((Dk.mk D en true e c0 (n : Int) a s l).wr 4 (2 * (A : Int))).1 = Dk.mk D en true e c0 (n : Int) (2 * (A : Int)) s l := by
    unfold Dk.wr; simp; omega
  have h3 : ((Dk.mk D en true e c0 (n : Int) (2 * (A : Int)) s l).wr 6 (f : Int)).1 = Dk.mk D en true e c0 (n : Int) (2 * (A : Int)) (f : Int) l := by
    unfold Dk.wr; simp; omega
  have h4 : ((Dk.mk D en true e c0 (n : Int) (2 * (A : Int)) (f : Int) l).wr 0 (1 + 2 * c)).1 = Dk.mk D false false false c (n : Int) (2 * (A : Int)) (f : Int) 8 := by
    have g1 : decide ((1 + 2 * c) / 64 % 2 = 1) = false := decide_eq_false (by omega)
    have g2 : (1 + 2 * c) % 2 = 1 := by omega
    have g3 : (1 + 2 * c) / 2 % 4 = c := by omega
    unfold Dk.wr
    rw [if_pos rfl]
    show Dk.cmd _ _ = _
    unfold Dk.cmd
    rw [if_pos ⟨rfl, g2⟩, g3, if_pos ⟨by omega, by show (n : Int) ≠ 0; omega⟩, g1]
  unfold startV
  rw [h1, h2, h3, h4]
  refine ⟨⟨rfl, rfl, rfl, by simp, ?_⟩, rfl⟩
  rw [if_pos (by omega)]
  exact ⟨rfl, rfl, by simp, by simp⟩
theorem mOut_set (m W : List Int) (Y k : Nat) (h : Y + k < m.length) : (mOut m W Y k).set (Y + k) (W.getD k 0) = mOut m W Y (k + 1) := by
  refine List.ext_getElem? fun i => ?_
  by_cases hi : i < m.length
  · have h2 := mOut_getD m W Y k i hi
    have h3 := mOut_getD m W Y (k + 1) i hi
    have hl := mOut_len m W Y k
    have hl2 := mOut_len m W Y (k + 1)
    rw [List.getElem?_eq_getElem (show i < (mOut m W Y (k + 1)).length by rw [hl2]; exact hi)]
    rw [List.getD_eq_getElem?_getD, List.getElem?_eq_getElem (by rw [hl2]; exact hi)] at h3
    rw [List.getD_eq_getElem?_getD, List.getElem?_eq_getElem (by rw [hl]; exact hi)] at h2
    by_cases hik : i = Y + k
    · subst hik
      rw [List.getElem?_set_self (by rw [hl]; exact hi)]
      refine congrArg some (Eq.trans ?_ (show _ = _ from h3).symm)
      rw [if_pos (by omega), show Y + k - Y = k from by omega]
    · rw [List.getElem?_set_ne (by omega), List.getElem?_eq_getElem (by rw [hl]; exact hi)]
      refine congrArg some ((show _ = _ from h2).trans (Eq.trans ?_ (show _ = _ from h3).symm))
      by_cases a : Y ≤ i ∧ i < Y + k
      · rw [if_pos a, if_pos (by omega)]
      · rw [if_neg a, if_neg (by omega)]
  · rw [List.getElem?_eq_none (by rw [List.length_set, mOut_len]; omega), List.getElem?_eq_none (by rw [mOut_len]; omega)]
theorem mOut_words (m W : List Int) (Y N : Nat) (hm : ∀ x ∈ m, 0 ≤ x ∧ x ≤ 65535) (hW : ∀ i, 0 ≤ W.getD i 0 ∧ W.getD i 0 ≤ 65535) : ∀ x ∈ mOut m W Y N, 0 ≤ x ∧ x ≤ 65535 := by
  intro x hx
  unfold mOut at hx
  rw [List.mem_map] at hx
  obtain ⟨i, hi, rfl⟩ := hx
  rw [List.mem_range] at hi
  split
  · exact hW _
  · rw [List.getD_eq_getElem?_getD, List.getElem?_eq_getElem hi]
    exact hm _ (List.getElem_mem hi)
def zM : List Int := List.replicate 1024 0
def s7 : List Int := (List.range 1024).map fun i : Nat => 7 * (i : Int)
def memB : List Int := mOut zM s7 0 1024
/-- The words, and the memory that has them. -/
def wL (l : List Int) : List Int := l.map fun x => x % 65536
def mL (l : List Int) (X k : Nat) : List Int := mOut memB (wL l) X k
theorem s7_getD (i : Nat) (h : i < 1024) : s7.getD i 0 = 7 * (i : Int) := by
  unfold s7; rw [List.getD_eq_getElem?_getD, List.getElem?_map, List.getElem?_range h]; rfl
theorem zM_len : zM.length = 1024 := List.length_replicate ..
theorem memB_len : memB.length = 1024 := by unfold memB; rw [mOut_len, zM_len]
theorem mL_len (l : List Int) (X k : Nat) : (mL l X k).length = 1024 := by unfold mL; rw [mOut_len, memB_len]
theorem wL_getD (l : List Int) (i : Nat) : (wL l).getD i 0 = l.getD i 0 % 65536 := by
  unfold wL
  rw [List.getD_eq_getElem?_getD, List.getD_eq_getElem?_getD, List.getElem?_map]
  cases l[i]? <;> rfl
theorem copy_hyp (l : List Int) (X Y f : Nat) (h1 : 1 ≤ l.length) (h2 : l.length ≤ 200) (hX : X ≤ 255) (hY : 512 ≤ Y ∧ Y ≤ 767) (hf : f ≤ 3) : Hyp (mL l X l.length) (wL l) X Y l.length f := by
  refine ⟨h1, h2, hX, hY, hf, mL_len .., ?_, fun i hi => ?_⟩
  · refine mOut_words _ _ _ _ (mOut_words _ _ _ _ (fun x hx => ?_) (fun i => ?_)) (fun i => ?_)
    · have := List.eq_of_mem_replicate hx; omega
    · by_cases h : i < 1024
      · rw [s7_getD i h]; omega
      · rw [List.getD_eq_getElem?_getD, List.getElem?_eq_none (by unfold s7; simp; omega)]; decide
    · rw [wL_getD]; omega
  · show _ = (mOut memB (wL l) X l.length).getD (X + i) 0
    rw [mOut_getD _ _ _ _ _ (by rw [memB_len]; omega), if_pos (by omega), show X + i - X = i from by omega]
end Go.Proofs.Ytjolhlfjpnlcnaa

/-
  DiskctlCopies. Condition: the contracts.
-/
namespace Go.Proofs.Ytjolhlfjpnlcnaa
open Go.RowKit
set_option linter.unusedSimpArgs false
set_option linter.unusedVariables false
set_option maxHeartbeats 4000000
set_option maxRecDepth 100000
attribute [local irreducible] wpQuiet

theorem aggA (w : World) : (isAgg 51).run Try.prog w = .ok true w := by kernel_rfl
theorem sizA (w : World) : (sizeOf 51).run Try.prog w = .ok 2 w := by kernel_rfl
theorem made_one (x : Value) (n : Nat) : madeCells #[x] n = (List.replicate n x).toArray := by
  unfold madeCells
  refine Array.ext (by simp) fun i h1 h2 => ?_
  simp [Nat.mod_one]
theorem made1024 : madeCells #[Value.int .i64 0] 1024 = ((zM).map (Value.int .i64)).toArray := by
  rw [made_one, zM, List.map_replicate]
theorem DiskctlCopies_law (W0 : World) (H : DkC W0) (l : List Int) (X T F : Nat) (hX8 : X ≤ 255) (hT8 : T ≤ 255) (hF8 : F ≤ 255) (vl : Value) (hl : Its W0 vl l) : Calls Try.prog 6 #[vl, .int .u8 X, .int .u8 T, .int .u8 F] W0 fun e' w' => e' = .returned (.bool true) ∧ Below W0.heap.size W0 w' := by
  have hX := Bag.nil W0
  have cN := fun vs vb w (h1 : Below W0.heap.size W0 w) h2 h3 => H.new smpD vs vb (fun _ => False) w h1 (by decide) (by decide) (fun _ h => h.elim) h2 h3
  obtain ⟨A, c, rfl, _, hA⟩ := hl.form
  by_cases h0 : l.length = 0
  · have e0 : ((l.length : Int) == 0) = true := by simp [h0]
    go_enter Try.func6, Try.ntmps6
    go_wp2_with (first | (go_at_call 8; (with_reducible refine (alive_true _ (H.step hX.below)).mono ?_); rintro e' wL ⟨rfl, hbb⟩; replace hX := hX.step hbb; clear hbb))
    go_ret
    exact ⟨rfl, hX.below⟩
  have e0 : ((l.length : Int) == 0) = false := by rw [beq_eq_false_iff_ne]; omega
  by_cases h200 : 200 < l.length
  · have d0 : decide (200 < (l.length : Int)) = true := decide_eq_true (by omega)
    go_enter Try.func6, Try.ntmps6
    go_wp2_with (first | (go_at_call 8; (with_reducible refine (alive_true _ (H.step hX.below)).mono ?_); rintro e' wL ⟨rfl, hbb⟩; replace hX := hX.step hbb; clear hbb))
    go_ret
    exact ⟨rfl, hX.below⟩
  have d0 : decide (200 < (l.length : Int)) = false := decide_eq_false (by omega)
  have hmk : ∀ w, (Instr.makeSlice 23 (.int .i64 1024) (.int .i64 1024)).run Try.prog w = .ok (.slice (some ⟨w.heap.size, 0, none⟩) 1024 1024) (w.alloc (.cells ((zM).map (Value.int .i64)).toArray 3)) := fun w => by
    rw [← made1024]
    exact run_make_row' (P := Try.prog) 23 3 (.int .i64 0) 8 Try.underlying23 infI rfl .i64 .i64 1024 (by omega) (by omega) w
  obtain ⟨Z, hZ⟩ : ∃ Z, (zM).map (Value.int .i64) = Z := ⟨_, rfl⟩
  rw [hZ] at hmk
  replace hX := hX.new 3 Z
  go_enter Try.func6, Try.ntmps6
  go_wp2
  have hX0 : Bag [(W0.heap.size, 3, (mOut zM s7 0 0).map (Value.int .i64))] W0 (W0.alloc (.cells Z.toArray 3)) := by rw [mOut_zero, hZ]; exact hX
  clear hZ hmk
  go_loopw [38, 11] (fun iv _ wr => ∃ k : Nat, k ≤ 1024 ∧ iv = .int .i64 k ∧ Bag [(W0.heap.size, 3, (mOut zM s7 0 k).map (Value.int .i64))] W0 wr) (fun iv _ _ => 1024 - (intOf iv).toNat)
  case atStart => exact ⟨0, Nat.zero_le _, rfl, hX0⟩
  case round =>
    clear hX hX0
    obtain ⟨k, hk, rfl, hX⟩ := hrel
    by_cases hkn : k < 1024
    · have hki : (k : Int) < 1024 := by omega
      have w7 : IntKind.i64.wrap (7 * (k : Int)) = 7 * (k : Int) := by rw [wrap_i64]; unfold wrap64; omega
      have a7 : bits .and .i64 (7 * (k : Int)) 65535 = 7 * (k : Int) := by rw [and16]; omega
      go_wp2_with (first | ((with_reducible refine at_store ?_); refine wpList_bag_putV (z := .int .i64 (7 * (k : Int))) hX siz_int _ _ rfl rfl rfl rfl rfl rfl (by rw [List.length_map, mOut_len, zM_len]; omega) rfl rfl ?_; clear hX; intro wz hX hkz hsz; clear hkz hsz))
      rw [← List.map_set, show 7 * (k : Int) = s7.getD k 0 from (s7_getD k hkn).symm] at hX
      have e := mOut_set zM s7 0 k (by rw [zM_len]; omega)
      rw [Nat.zero_add] at e
      rw [e] at hX
      exact ⟨⟨k + 1, by omega, by go_num, hX⟩, by simp [intOf]; omega⟩
    obtain rfl : k = 1024 := by omega
    have hki : ¬ ((1024 : Nat) : Int) < 1024 := by omega
    replace hX : Bag [(W0.heap.size, 3, (mL l X 0).map (Value.int .i64))] W0 wr := by unfold mL; rw [mOut_zero]; exact hX
    obtain ⟨f, hf, hf3⟩ : ∃ f : Nat, (F : Int).tmod 4 = (f : Int) ∧ f ≤ 3 := ⟨F % 4, by rw [Int.tmod_eq_emod_of_nonneg (by omega)]; omega, by omega⟩
    obtain ⟨Y, hY⟩ : ∃ Y : Nat, (512 : Int) + (T : Int) = (Y : Int) := ⟨512 + T, by omega⟩
    have hY2 : 512 ≤ Y ∧ Y ≤ 767 := by omega
    have hfw : IntKind.i64.wrap (f : Int) = (f : Int) := by rw [wrap_i64]; unfold wrap64; omega
    have hYw : IntKind.i64.wrap (Y : Int) = (Y : Int) := by rw [wrap_i64]; unfold wrap64; omega
    have hXw : IntKind.i64.wrap (X : Int) = (X : Int) := by rw [wrap_i64]; unfold wrap64; omega
    have hTw : IntKind.i64.wrap (T : Int) = (T : Int) := by rw [wrap_i64]; unfold wrap64; omega
    have hFw : IntKind.i64.wrap (F : Int) = (F : Int) := by rw [wrap_i64]; unfold wrap64; omega
    go_wp2
    go_loopw [58, 15, 16] (fun iv _ _ wr => ∃ k : Nat, k ≤ l.length ∧ iv = .int .i64 k ∧ Bag [(W0.heap.size, 3, (mL l X k).map (Value.int .i64))] W0 wr) (fun iv _ _ _ => l.length - (intOf iv).toNat)
    case atStart => exact ⟨0, Nat.zero_le _, rfl, hX⟩
    case round =>
      clear hX
      obtain ⟨k, hk, rfl, hX⟩ := hrel
      by_cases hkn : k < l.length
      · have hki : (k : Int) < (l.length : Int) := by omega
        obtain ⟨x, hx⟩ : ∃ x, l[k]? = some x := ⟨_, List.getElem?_eq_getElem hkn⟩
        obtain ⟨a, rfl, hL⟩ := hA k x hx
        have hxm := and16 x
        have hxw : (wL l).getD k 0 = x % 65536 := by rw [wL_getD, List.getD_eq_getElem?_getD, hx]; rfl
        generalize hq : x % 65536 = q at *
        obtain ⟨i, hi⟩ : ∃ i : Nat, (X : Int) + (k : Int) = (i : Int) := ⟨X + k, by omega⟩
        have hii : i = X + k := by omega
        have hiw : IntKind.i64.wrap (i : Int) = (i : Int) := by rw [wrap_i64]; unfold wrap64; omega
        have hi1 : (i : Int) < 1024 := by omega
        replace hii := hid hii
        clear hA hx hq
        go_wp2_with (first | ((with_reducible refine at_load ?_); refine wpList_loadW rfl 3 _ _ _ rfl rfl (hL _ hX.below) ?_) | ((with_reducible refine at_store ?_); refine wpList_bag_putV (z := .int .i64 q) hX siz_int _ _ rfl rfl rfl rfl rfl rfl (by rw [List.length_map, mL_len]; omega) rfl rfl ?_; clear hX; intro wz hX hkz hsz; clear hkz hsz))
        rw [← List.map_set, ← hxw, show i = X + k from hii] at hX
        rw [show (mL l X k).set (X + k) ((wL l).getD k 0) = mL l X (k + 1) from mOut_set memB (wL l) X k (by rw [memB_len]; omega)] at hX
        exact ⟨⟨k + 1, by omega, by go_num, hX⟩, by simp [intOf]; omega⟩
      obtain rfl : k = l.length := by omega
      have hki : ¬ (l.length : Int) < (l.length : Int) := by omega
      have hyp := hid (copy_hyp l X Y f (by omega) (by omega) hX8 hY2 hf3)
      generalize hmW : mL l X l.length = mW at *
      go_wp2_with (first | (go_at_call 29; (with_reducible refine (sample_any _ (fun _ => False) (fun _ h => h.elim)).mono ?_); rintro e' wA ⟨x, rfl, ⟨vs0, vb0, rfl, hs0, hb0⟩, hbb⟩; replace hX := hX.step hbb; clear hbb) | (go_at_call 12; (with_reducible refine (cN vs0 vb0 _ hX.below hs0.now hb0.now).mono ?_); rintro e' wB ⟨x, rfl, ⟨vs1, vb1, rfl, hs1, hb1⟩, hbb⟩; replace hX := hX.step hbb; clear hbb hs0 hb0) | ((with_reducible refine at_store ?_); refine wpList_bag_overV (cs' := [vs1, vb1, .bool ((Dk.new smpD)).n, .bool ((Dk.new smpD)).r, .bool ((Dk.new smpD)).e, .int .i64 ((Dk.new smpD)).c, .int .i64 ((Dk.new smpD)).w, .int .i64 ((Dk.new smpD)).a, .int .i64 ((Dk.new smpD)).s, .int .i64 ((Dk.new smpD)).l]) (hX.new 27 [.slice none 0 0, .slice none 0 0, .bool false, .bool false, .bool false, .int .i64 0, .int .i64 0, .int .i64 0, .int .i64 0, .int .i64 0]) aggK sizK _ _ rfl rfl rfl rfl rfl rfl rfl rfl (one_dk (sts_one hs1.now) (its_one hb1.now) _ _ _ _ _ _ _ _) ?_; clear hX; intro wC hX hkz; replace hs1 := ((hs1.weak ((Below.refl _ _).alloc (Nat.le_refl _) (.cells ([.slice none 0 0, .slice none 0 0, .bool false, .bool false, .bool false, .int .i64 0, .int .i64 0, .int .i64 0, .int .i64 0, .int .i64 0] : List Value).toArray 27)) xb_new : StsX (XB wB.heap.size) _ _ _)).over hkz rfl; replace hb1 := ((hb1.weak ((Below.refl _ _).alloc (Nat.le_refl _) (.cells ([.slice none 0 0, .slice none 0 0, .bool false, .bool false, .bool false, .int .i64 0, .int .i64 0, .int .i64 0, .int .i64 0, .int .i64 0] : List Value).toArray 27)) xb_new : ItsX (XB wB.heap.size) _ _ _)).over hkz rfl; clear hkz))
      have hb3 : Below wC.heap.size wC (wC.alloc (.cells ([.int .i64 2, .int .i64 X, .int .i64 3, .int .i64 X, .int .i64 1, .int .i64 Y] : List Value).toArray 51)) := (Below.refl _ _).alloc (Nat.le_refl _) _
      replace hX := (hX.new 51 [.int .i64 2, .int .i64 X, .int .i64 3, .int .i64 X, .int .i64 1, .int .i64 Y]).swap
      replace hs1 := hs1.below hb3
      replace hb1 := hb1.below hb3
      clear hb3
      have hn1 : 1 ≤ l.length := by omega
      have hn2 : l.length ≤ 200 := by omega
      obtain ⟨q, hq⟩ : ∃ q, q = qS l.length := ⟨_, rfl⟩
      have hq1 : (l.length + 63) / 64 = q := hq.symm
      have hqq : ((l.length : Int) + 63).tdiv 64 = (q : Int) := by rw [Int.tdiv_eq_ediv_of_nonneg (by omega)]; omega
      have hq4 : 1 ≤ q ∧ q ≤ 4 := by omega
      have wq1 : IntKind.i64.wrap ((l.length : Int) + 63) = (l.length : Int) + 63 := by rw [wrap_i64]; unfold wrap64; omega
      have wq2 : IntKind.i64.wrap (q : Int) = (q : Int) := by rw [wrap_i64]; unfold wrap64; omega
      obtain ⟨E, hE⟩ : ∃ E : Nat, 8 * (q : Int) = (E : Int) := ⟨8 * q, by omega⟩
      have hEq : E = 8 * q := by omega
      have wq3 : IntKind.i64.wrap (E : Int) = (E : Int) := by rw [wrap_i64]; unfold wrap64; omega
      obtain ⟨bK, hbK⟩ : ∃ b, wB.heap.size = b := ⟨_, rfl⟩
      obtain ⟨bR, hbR⟩ : ∃ b, wC.heap.size = b := ⟨_, rfl⟩
      rw [hbK] at hs1 hb1
      rw [hbK, hbR] at hX
      rw [hbK, hbR]
      clear hbK hbR
      replace hq1 := hid hq1
      replace hEq := hid hEq
      replace hq := hid hq
      go_loopw [81] (fun iv wr => ∃ (r : Nat) (K : Dk) (vs vb : Value), r ≤ 3 ∧ iv = .int .i64 r ∧ Hid (K.right = true) ∧ Hid (K.r = true) ∧ Hid (StD mW X l.length f K.D (if r = 0 then 0 else q)) ∧ StsX (XB bK) wr vs K.D.S ∧ ItsX (XB bK) wr vb K.D.B ∧ Bag [(bK, 27, [vs, vb, .bool (K).n, .bool (K).r, .bool (K).e, .int .i64 (K).c, .int .i64 (K).w, .int .i64 (K).a, .int .i64 (K).s, .int .i64 (K).l]), (bR, 51, [.int .i64 2, .int .i64 X, .int .i64 3, .int .i64 X, .int .i64 1, .int .i64 Y]), (W0.heap.size, 3, (mW).map (Value.int .i64))] W0 wr) (fun iv _ => 3 - (intOf iv).toNat)
      case atStart => exact ⟨0, Dk.new smpD, _, _, Nat.zero_le _, rfl, hid (new_rightK smpD_right), hid rfl, hid ⟨smpD_right, by decide, rfl, fun k hk => absurd hk (Nat.not_lt_zero k)⟩, hs1, hb1, hX⟩
      case round =>
        clear hX hs1 hb1
        obtain ⟨r, K, vs1, vb1, hr3, rfl, hKR, hKr, hKD, hs1, hb1, hX⟩ := hrel
        by_cases hr : r < 3
        · have hri : (r : Int) < 3 := by omega
          obtain ⟨wR, rfl⟩ : ∃ x, x = wr := ⟨_, rfl⟩
          obtain ⟨c, B, hc, hB, hc2, hrow⟩ : ∃ (c : Int) (B : Nat), (c = 1 ∨ c = 2 ∨ c = 3) ∧ B = (if c = 1 then Y else X) ∧ (c = 2 ↔ r = 0) ∧ ∀ j v, ([.int .i64 c, .int .i64 B] : List Value)[j]? = some v → ([.int .i64 2, .int .i64 X, .int .i64 3, .int .i64 X, .int .i64 1, .int .i64 Y] : List Value)[r * 2 + j]? = some v := by
            rcases (by omega : r = 0 ∨ r = 1 ∨ r = 2) with rfl | rfl | rfl
            · exact ⟨2, X, by decide, (if_neg (by decide)).symm, by decide, fun j v h => by rcases j with _ | _ | j <;> first | exact h | (simp at h)⟩
            · exact ⟨3, X, by decide, (if_neg (by decide)).symm, by decide, fun j v h => by rcases j with _ | _ | j <;> first | exact h | (simp at h)⟩
            · exact ⟨1, Y, by decide, (if_pos rfl).symm, by decide, fun j v h => by rcases j with _ | _ | j <;> first | exact h | (simp at h)⟩
          have hB7 : B ≤ 767 := by rw [hB]; split <;> omega
          have w2B : IntKind.i64.wrap (2 * (B : Int)) = 2 * (B : Int) := by rw [wrap_i64]; unfold wrap64; omega
          have hst := fun vs vb w (h1 : Below W0.heap.size W0 w) X h2 h3 h4 => start_any W0 H K c (l.length : Int) (2 * (B : Int)) (f : Int) hKR (by omega) vs vb w h1 X h2 h3 h4
          obtain ⟨hph0, hD0⟩ := start_ph (K := K) hKr hc ⟨hn1, hn2⟩ hB7 hf3
          have hSR := start_rightK hKR c (l.length : Int) (2 * (B : Int)) (f : Int)
          have hcn0 : Cn mW (wL l) X Y l.length f c 0 (startV K c (l.length : Int) (2 * (B : Int)) (f : Int)).D mW := by
            refine ⟨?_, ?_⟩
            · rw [hD0]
              have hKD' : StD mW X l.length f K.D (if r = 0 then 0 else q) := hKD
              by_cases h2 : c = 2
              · rw [if_pos (hc2.1 h2)] at hKD'; rw [if_pos h2]; exact hKD'
              · rw [if_neg (fun h => h2 (hc2.2 h))] at hKD'; rw [if_neg h2, ← show q = _ from hq]; exact hKD'
            · by_cases h1 : c = 1
              · rw [if_pos h1, show min l.length (64 * (0 / 8)) = 0 from by omega, mOut_zero]
              · rw [if_neg h1]
          generalize startV K c (l.length : Int) (2 * (B : Int)) (f : Int) = K1 at *
          replace hph0 := hid hph0
          replace hcn0 := hid hcn0
          replace hSR := hid hSR
          replace hB := hid hB
          replace hc := hid hc
          replace hc2 := hid hc2
          clear hD0 hKD hKR hKr
          go_wp2_with (first | ((with_reducible refine at_load ?_); refine wpList_bag_part (ds := [.int .i64 c, .int .i64 B]) hX aggA sizA _ rfl rfl rfl rfl (by first | exact .head _ | exact .tail _ (.head _) | exact .tail _ (.tail _ (.head _)) | exact .tail _ (.tail _ (.tail _ (.head _)))) hrow rfl ?_) | ((with_reducible refine at_store ?_); refine wpList_bag_overV (cs' := [.int .i64 c, .int .i64 B]) (hX.new 51 [.int .i64 0, .int .i64 0]) aggA sizA _ _ rfl rfl rfl rfl rfl rfl rfl rfl (by intro u hu; simp at hu; rcases hu with rfl | rfl <;> rfl) ?_; clear hX; intro wx hX hkz; replace hX := hX.swap; replace hs1 := hs1.off (new_keep hkz) (fun _ _ h => h); replace hb1 := hb1.off (new_keep hkz) (fun _ _ h => h); clear hkz) | ((with_reducible refine at_load ?_); refine wpList_bag_part (k := 0) hX aggK sizK _ rfl rfl rfl rfl (by first | exact .head _ | exact .tail _ (.head _) | exact .tail _ (.tail _ (.head _)) | exact .tail _ (.tail _ (.tail _ (.head _)))) (fun jz vz hz => (congrArg (fun n => ([_, _, _, _, _, _, _, _, _, _] : List Value)[n]?) (Nat.zero_add jz)).trans hz) rfl ?_) | ((with_reducible refine at_load ?_); refine wpList_bag_cell hX int_cell _ rfl rfl rfl rfl (by first | exact .head _ | exact .tail _ (.head _) | exact .tail _ (.tail _ (.head _)) | exact .tail _ (.tail _ (.tail _ (.head _)))) rfl ?_) | ((with_reducible refine at_load ?_); refine wpList_bag_cell hX bool_cell _ rfl rfl rfl rfl (by first | exact .head _ | exact .tail _ (.head _) | exact .tail _ (.tail _ (.head _)) | exact .tail _ (.tail _ (.tail _ (.head _)))) rfl ?_) | (go_at_call 30; (with_reducible refine (hst vs1 vb1 _ hX.below _ (xb_lt hX) hs1 hb1).mono ?_); rintro e' wS ⟨x, rfl, ⟨vs2, vb2, rfl, hs2, hb2⟩, hbb⟩; replace hX := hX.step hbb; clear hbb hs1 hb1) | ((with_reducible refine at_store ?_); refine wpList_bag_overV (cs' := [vs2, vb2, .bool (K1).n, .bool (K1).r, .bool (K1).e, .int .i64 (K1).c, .int .i64 (K1).w, .int .i64 (K1).a, .int .i64 (K1).s, .int .i64 (K1).l]) hX aggK sizK _ _ rfl rfl rfl rfl rfl rfl rfl rfl (one_dk (sts_one hs2.now) (its_one hb2.now) _ _ _ _ _ _ _ _) ?_; clear hX; intro wy hX hkz; replace hs2 := hs2.over hkz rfl; replace hb2 := hb2.over hkz rfl; clear hkz))
          have hbM := hX.lo _ (.tail _ (.tail _ (.tail _ (.head _))))
          have hne : ¬ XB bK W0.heap.size := fun h => by
            have h5 := hX.dis
            unfold XB at h
            simp [h] at h5
          have hm := its_blkX (X := XB bK) (hX.all _ _ _ (.tail _ (.tail _ (.tail _ (.head _))))) rfl (Hyp.ml (show Hyp mW (wL l) X Y l.length f from hyp)) hne
          have hz : ItsX (XB bK) wy (.slice none 0 0) [] := Sv.nil _ _
          have hM0 : Hid (rightP mW [] = true) := hid (by rw [rightP_iff]; exact ⟨by rw [Hyp.ml (show Hyp mW (wL l) X Y l.length f from hyp)]; decide, Hyp.mw (show Hyp mW (wL l) X Y l.length f from hyp), rfl⟩)
          clear hbM
          go_loopw [100, 20, 21] (fun iv vm vz wr => ∃ (t : Nat) (K : Dk) (m : List Int) (vs vb : Value), t ≤ E ∧ iv = .int .i64 t ∧ Hid (K.right = true) ∧ Hid (rightP m [] = true) ∧ Hid (Ph c l.length f B t K) ∧ Hid (Cn mW (wL l) X Y l.length f c t K.D m) ∧ StsX (XB bK) wr vs K.D.S ∧ ItsX (XB bK) wr vb K.D.B ∧ ItsX (XB bK) wr vm m ∧ ItsX (XB bK) wr vz [] ∧ Bag [(bK, 27, [vs, vb, .bool (K).n, .bool (K).r, .bool (K).e, .int .i64 (K).c, .int .i64 (K).w, .int .i64 (K).a, .int .i64 (K).s, .int .i64 (K).l]), (wR.heap.size, 51, [.int .i64 c, .int .i64 B]), (bR, 51, [.int .i64 2, .int .i64 X, .int .i64 3, .int .i64 X, .int .i64 1, .int .i64 Y]), (W0.heap.size, 3, (mW).map (Value.int .i64))] W0 wr) (fun iv _ _ _ => E - (intOf iv).toNat)
          case atStart => exact ⟨0, K1, mW, _, _, Nat.zero_le _, rfl, hSR, hM0, hph0, hcn0, hs2, hb2, hm, hz, hX⟩
          case round =>
            clear hX hs2 hb2 hm hz hSR hM0 hph0 hcn0
            obtain ⟨t, K, m, vs1, vb1, htE, rfl, hKR, hMR, hph, hcn, hs1, hb1, hm, hz, hX⟩ := hrel
            have hph' : Ph c l.length f B t K := hph
            have hcn' : Cn mW (wL l) X Y l.length f c t K.D m := hcn
            by_cases htl : t < E
            · have hti : (t : Int) < (E : Int) := by omega
              have hE8 : E = 8 * qS l.length := by rw [show E = 8 * q from hEq, show q = _ from hq]
              obtain ⟨n1, n2, n3⟩ := ph_step (show Hyp mW (wL l) X Y l.length f from hyp) (show c = 1 ∨ c = 2 ∨ c = 3 from hc) (show B = _ from hB) (by omega) hph' hcn'
              have hkp := tick_kept (show K.right = true from hKR) (show rightP m [] = true from hMR)
              obtain ⟨_, _, _, _, p5⟩ := hph'
              rw [if_pos (by omega)] at p5
              obtain ⟨hKr, hKl, _, _⟩ := p5
              have hl0 : (K.l == 0) = false := by rw [beq_eq_false_iff_ne, hKl]; omega
              have hT := fun vs vb vm vz w (h1 : Below W0.heap.size W0 w) => H.tick K m [] vs vb vm vz (XB bK) w h1 hKR hMR
              unfold TickSays at hT
              have hnext : t + 1 < E → (K.tick m []).1.r = false := fun h => by
                obtain ⟨_, _, _, _, p5⟩ := n1
                rw [if_pos (by omega)] at p5
                exact p5.1
              have hKR2 := hid hkp.right
              have hMR2 := hkp.mem
              rw [n3] at hT hMR2
              replace n1 := hid n1
              replace n2 := hid n2
              replace hMR2 := hid hMR2
              clear hcn' hkp n3 hKl hph hcn hKR hMR hE8
              generalize (K.tick m []).1 = K2 at *
              generalize (K.tick m []).2.1 = m2 at *
              have wE1 : IntKind.i64.wrap ((E : Int) - 1) = (E : Int) - 1 := by rw [wrap_i64]; unfold wrap64; have := show E = 8 * q from hEq; omega
              obtain ⟨D, en, rd, er, c', w', a', s', l'⟩ := K
              obtain rfl : rd = false := hKr
              dsimp only at hl0 hT hs1 hb1 hX
              by_cases hte : t + 1 < E
              · have htd : decide ((t : Int) < (E : Int) - 1) = true := decide_eq_true (by omega)
                have hK2 := hid (hnext hte)
                clear hnext
                go_wp2_with (first | ((with_reducible refine at_load ?_); refine wpList_bag_part (k := 0) hX aggK sizK _ rfl rfl rfl rfl (by first | exact .head _ | exact .tail _ (.head _) | exact .tail _ (.tail _ (.head _)) | exact .tail _ (.tail _ (.tail _ (.head _)))) (fun jz vz hz => (congrArg (fun n => ([_, _, _, _, _, _, _, _, _, _] : List Value)[n]?) (Nat.zero_add jz)).trans hz) rfl ?_) | ((with_reducible refine at_load ?_); refine wpList_bag_cell hX bool_cell _ rfl rfl rfl rfl (.head _) (show _ = some (Value.bool false) from congrArg (fun b => some (Value.bool b)) (show K2.r = false from hK2)) ?_) | ((with_reducible refine at_load ?_); refine wpList_bag_cell hX int_cell _ rfl rfl rfl rfl (by first | exact .head _ | exact .tail _ (.head _) | exact .tail _ (.tail _ (.head _)) | exact .tail _ (.tail _ (.tail _ (.head _)))) rfl ?_) | ((with_reducible refine at_load ?_); refine wpList_bag_cell hX bool_cell _ rfl rfl rfl rfl (by first | exact .head _ | exact .tail _ (.head _) | exact .tail _ (.tail _ (.head _)) | exact .tail _ (.tail _ (.tail _ (.head _)))) rfl ?_) | (go_at_call 26; (with_reducible refine (hT vs1 vb1 u20 u21 _ hX.below (xb_lt hX) hs1 hb1 hm hz).mono ?_); rintro e' wT ⟨x, y, z, rfl, ⟨vs3, vb3, rfl, hs3, hb3⟩, hm3, hz3, hbb⟩; replace hX := hX.step hbb; clear hbb hs1 hb1 hm hz) | ((with_reducible refine at_store ?_); refine wpList_bag_overV (cs' := [vs3, vb3, .bool (K2).n, .bool (K2).r, .bool (K2).e, .int .i64 (K2).c, .int .i64 (K2).w, .int .i64 (K2).a, .int .i64 (K2).s, .int .i64 (K2).l]) hX aggK sizK _ _ rfl rfl rfl rfl rfl rfl rfl rfl (one_dk (sts_one hs3.now) (its_one hb3.now) _ _ _ _ _ _ _ _) ?_; clear hX; intro wy hX hkz; replace hs3 := hs3.over hkz rfl; replace hb3 := hb3.over hkz rfl; replace hm3 := hm3.over hkz rfl; replace hz3 := hz3.over hkz rfl; clear hkz))
                exact ⟨⟨t + 1, K2, m2, _, _, by omega, by go_num, hKR2, hMR2, n1, n2, hs3, hb3, hm3, hz3, hX⟩, by simp [intOf]; omega⟩
              · have htd : decide ((t : Int) < (E : Int) - 1) = false := decide_eq_false (by omega)
                go_wp2_with (first | ((with_reducible refine at_load ?_); refine wpList_bag_part (k := 0) hX aggK sizK _ rfl rfl rfl rfl (by first | exact .head _ | exact .tail _ (.head _) | exact .tail _ (.tail _ (.head _)) | exact .tail _ (.tail _ (.tail _ (.head _)))) (fun jz vz hz => (congrArg (fun n => ([_, _, _, _, _, _, _, _, _, _] : List Value)[n]?) (Nat.zero_add jz)).trans hz) rfl ?_) | ((with_reducible refine at_load ?_); refine wpList_bag_cell hX bool_cell _ rfl rfl rfl rfl (.head _) (show _ = some (Value.bool false) from congrArg (fun b => some (Value.bool b)) (show K2.r = false from hK2)) ?_) | ((with_reducible refine at_load ?_); refine wpList_bag_cell hX int_cell _ rfl rfl rfl rfl (by first | exact .head _ | exact .tail _ (.head _) | exact .tail _ (.tail _ (.head _)) | exact .tail _ (.tail _ (.tail _ (.head _)))) rfl ?_) | ((with_reducible refine at_load ?_); refine wpList_bag_cell hX bool_cell _ rfl rfl rfl rfl (by first | exact .head _ | exact .tail _ (.head _) | exact .tail _ (.tail _ (.head _)) | exact .tail _ (.tail _ (.tail _ (.head _)))) rfl ?_) | (go_at_call 26; (with_reducible refine (hT vs1 vb1 u20 u21 _ hX.below (xb_lt hX) hs1 hb1 hm hz).mono ?_); rintro e' wT ⟨x, y, z, rfl, ⟨vs3, vb3, rfl, hs3, hb3⟩, hm3, hz3, hbb⟩; replace hX := hX.step hbb; clear hbb hs1 hb1 hm hz) | ((with_reducible refine at_store ?_); refine wpList_bag_overV (cs' := [vs3, vb3, .bool (K2).n, .bool (K2).r, .bool (K2).e, .int .i64 (K2).c, .int .i64 (K2).w, .int .i64 (K2).a, .int .i64 (K2).s, .int .i64 (K2).l]) hX aggK sizK _ _ rfl rfl rfl rfl rfl rfl rfl rfl (one_dk (sts_one hs3.now) (its_one hb3.now) _ _ _ _ _ _ _ _) ?_; clear hX; intro wy hX hkz; replace hs3 := hs3.over hkz rfl; replace hb3 := hb3.over hkz rfl; replace hm3 := hm3.over hkz rfl; replace hz3 := hz3.over hkz rfl; clear hkz))
                exact ⟨⟨t + 1, K2, m2, _, _, by omega, by go_num, hKR2, hMR2, n1, n2, hs3, hb3, hm3, hz3, hX⟩, by simp [intOf]; omega⟩
            obtain rfl : t = E := by omega
            have hti : ¬ (t : Int) < (t : Int) := by omega
            have hE8 : t = 8 * qS l.length := by rw [show t = 8 * q from hEq, show q = _ from hq]
            obtain ⟨_, p2, _, p4, p5⟩ := hph'
            rw [if_neg (by omega)] at p5
            obtain ⟨p5, _, p7, p8⟩ := p5
            obtain ⟨hSt, hmm⟩ := hcn'
            have ht8 : t / 8 = q := by have := show t = 8 * q from hEq; omega
            rw [ht8] at p4 hSt hmm
            have hq2 : (if c = 2 then q else qS l.length) = q := by rw [← show q = _ from hq]; exact ite_self _
            rw [hq2] at hSt
            have hmin : min l.length (64 * q) = l.length := by have := show q = (l.length + 63) / 64 from hq; omega
            rw [hmin] at hmm
            have hml : m.length = 1024 := by rw [hmm]; split <;> first | rw [mOut_len, Hyp.ml (show Hyp mW (wL l) X Y l.length f from hyp)] | exact Hyp.ml (show Hyp mW (wL l) X Y l.length f from hyp)
            have g7 : (K.w != 0) = false := by rw [p7]; rfl
            have wa1 : IntKind.i64.wrap ((B : Int) + (l.length : Int)) = (B : Int) + (l.length : Int) := by rw [wrap_i64]; unfold wrap64; omega
            have wa2 : IntKind.i64.wrap (2 * ((B : Int) + (l.length : Int))) = 2 * ((B : Int) + (l.length : Int)) := by rw [wrap_i64]; unfold wrap64; omega
            have wa3 : IntKind.i64.wrap ((f : Int) + (q : Int)) = (f : Int) + (q : Int) := by rw [wrap_i64]; unfold wrap64; omega
            have g8 : (K.a != 2 * ((B : Int) + (l.length : Int))) = false := by rw [p8]; simp
            have g9 : (K.s != (f : Int) + (q : Int)) = false := by rw [p4]; simp
            clear hph hcn p4 p7 p8 hmin hq2
            obtain ⟨A1, c1, rfl, _, hA1⟩ := hm.now.form
            obtain ⟨A2, c2, e2, _, _⟩ := hz.now.form
            subst e2
            rw [hml] at hm
            have hSt := hid hSt
            replace hmm := hid hmm
            obtain ⟨D, en, rd, er, c', w', a', s', l'⟩ := K
            dsimp only at p2 p5 g7 g8 g9 hs1 hb1 hX hKR hSt
            subst p5
            subst p2
            have hwf : Below wr.heap.size wr wr := Below.refl _ _
            go_wp2_with (first | ((with_reducible refine at_load ?_); refine wpList_bag_cell hX int_cell _ rfl rfl rfl rfl (by first | exact .head _ | exact .tail _ (.head _) | exact .tail _ (.tail _ (.head _)) | exact .tail _ (.tail _ (.tail _ (.head _)))) rfl ?_) | ((with_reducible refine at_load ?_); refine wpList_bag_cell hX bool_cell _ rfl rfl rfl rfl (by first | exact .head _ | exact .tail _ (.head _) | exact .tail _ (.tail _ (.head _)) | exact .tail _ (.tail _ (.tail _ (.head _)))) rfl ?_))
            obtain ⟨wE, rfl⟩ : ∃ x, x = wr := ⟨_, rfl⟩
            go_loopw [171, 24, 25] (fun iv _ _ wr => ∃ i : Nat, i ≤ 1024 ∧ iv = .int .i64 i ∧ Bag [(bK, 27, [vs1, vb1, .bool en, .bool true, .bool false, .int .i64 c', .int .i64 w', .int .i64 a', .int .i64 s', .int .i64 l']), (wR.heap.size, 51, [.int .i64 c, .int .i64 B]), (bR, 51, [.int .i64 2, .int .i64 X, .int .i64 3, .int .i64 X, .int .i64 1, .int .i64 Y]), (W0.heap.size, 3, (mW).map (Value.int .i64))] W0 wr ∧ Below wE.heap.size wE wr) (fun iv _ _ _ => 1024 - (intOf iv).toNat)
            case atStart => exact ⟨0, Nat.zero_le _, rfl, hX, Below.refl _ _⟩
            case round =>
              clear hX
              obtain ⟨i, hi, rfl, hX, hB5⟩ := hrel
              by_cases hin : i < 1024
              · have hii : (i : Int) < 1024 := by omega
                have hml2 : mW.length = 1024 := Hyp.ml (show Hyp mW (wL l) X Y l.length f from hyp)
                obtain ⟨x1, hx1⟩ : ∃ x, mW[i]? = some x := ⟨_, List.getElem?_eq_getElem (by omega)⟩
                obtain ⟨x2, hx2⟩ : ∃ x, m[i]? = some x := ⟨_, List.getElem?_eq_getElem (by omega)⟩
                have hy1 : ((mW).map (Value.int .i64))[i]? = some (.int .i64 x1) := by rw [List.getElem?_map, hx1]; rfl
                obtain ⟨a1, rfl, hL1⟩ := hA1 i x2 hx2
                have g1 : m.getD i 0 = x2 := by rw [List.getD_eq_getElem?_getD, hx2]; rfl
                have g2 : mW.getD i 0 = x1 := by rw [List.getD_eq_getElem?_getD, hx1]; rfl
                have wy1 : IntKind.i64.wrap ((Y : Int) + (l.length : Int)) = (Y : Int) + (l.length : Int) := by rw [wrap_i64]; unfold wrap64; omega
                have hmm' : m = if c = 1 then mOut mW (wL l) Y l.length else mW := hmm
                by_cases hr5 : c = 1 ∧ Y ≤ i ∧ i < Y + l.length
                · obtain ⟨h1, h2, h3⟩ := hr5
                  obtain ⟨d, hd⟩ : ∃ d : Nat, (i : Int) - (Y : Int) = (d : Int) := ⟨i - Y, by omega⟩
                  obtain ⟨x, hx⟩ : ∃ x, l[d]? = some x := ⟨_, List.getElem?_eq_getElem (by omega)⟩
                  obtain ⟨a, rfl, hL⟩ := hA d x hx
                  have hdw : IntKind.i64.wrap (d : Int) = (d : Int) := by rw [wrap_i64]; unfold wrap64; omega
                  have hdl : (d : Int) < (l.length : Int) := by omega
                  have hx16 := and16 x
                  have hxx : x2 = x % 65536 := by
                    rw [← g1, hmm', if_pos h1, mOut_getD _ _ _ _ _ (by omega), if_pos (by omega), show i - Y = d from by omega, wL_getD, List.getD_eq_getElem?_getD, hx]; rfl
                  rw [← hxx] at hx16
                  have e1 : (c == 1) = true := by simp [h1]
                  have e2 : decide ((Y : Int) ≤ (i : Int)) = true := decide_eq_true (by omega)
                  have e2n : Y ≤ i := h2
                  have e3 : decide ((i : Int) < (Y : Int) + (l.length : Int)) = true := decide_eq_true (by omega)
                  subst h1
                  clear hA hA1 hx hx1 hx2 hxx hmm' g1 g2 h2 h3
                  go_wp2_with (first | ((with_reducible refine at_load ?_); refine wpList_bag_cell hX int_cell _ rfl rfl rfl rfl (.tail _ (.tail _ (.tail _ (.head _)))) hy1 ?_) | ((with_reducible refine at_load ?_); refine wpList_loadW rfl 3 _ _ _ rfl rfl (hL1 _ hB5) ?_) | ((with_reducible refine at_load ?_); refine wpList_loadW rfl 3 _ _ _ rfl rfl (hL _ hX.below) ?_) | ((with_reducible refine at_load ?_); refine wpList_bag_cell hX int_cell _ rfl rfl rfl rfl (by first | exact .head _ | exact .tail _ (.head _) | exact .tail _ (.tail _ (.head _)) | exact .tail _ (.tail _ (.tail _ (.head _)))) rfl ?_) | ((with_reducible refine at_load ?_); refine wpList_bag_cell hX bool_cell _ rfl rfl rfl rfl (by first | exact .head _ | exact .tail _ (.head _) | exact .tail _ (.tail _ (.head _)) | exact .tail _ (.tail _ (.tail _ (.head _)))) rfl ?_))
                  exact ⟨⟨i + 1, by omega, by go_num, hX, hB5⟩, by simp [intOf]; omega⟩
                · have hxx : x2 = x1 := by
                    rw [← g1, ← g2, hmm']
                    by_cases h1 : c = 1
                    · rw [if_pos h1, mOut_getD _ _ _ _ _ (by omega), if_neg (fun h => hr5 ⟨h1, h.1, h.2⟩)]
                    · rw [if_neg h1]
                  subst hxx
                  have hor : (c == 1) = false ∨ ((c == 1) = true ∧ decide (Y ≤ i) = false) ∨ ((c == 1) = true ∧ decide (Y ≤ i) = true ∧ decide ((i : Int) < (Y : Int) + (l.length : Int)) = false) := by
                    by_cases h1 : c = 1
                    · by_cases h2 : Y ≤ i
                      · exact .inr (.inr ⟨by simp [h1], decide_eq_true (by omega), decide_eq_false (fun h => hr5 ⟨h1, h2, by omega⟩)⟩)
                      · exact .inr (.inl ⟨by simp [h1], decide_eq_false (by omega)⟩)
                    · exact .inl (by simpa using h1)
                  clear hA hA1 hx1 hx2 hmm' g1 g2 hr5
                  rcases hor with e1 | ⟨e1, e2⟩ | ⟨e1, e2, e3⟩
                  all_goals
                    go_wp2_with (first | ((with_reducible refine at_load ?_); refine wpList_bag_cell hX int_cell _ rfl rfl rfl rfl (.tail _ (.tail _ (.tail _ (.head _)))) hy1 ?_) | ((with_reducible refine at_load ?_); refine wpList_loadW rfl 3 _ _ _ rfl rfl (hL1 _ hB5) ?_) | ((with_reducible refine at_load ?_); refine wpList_bag_cell hX int_cell _ rfl rfl rfl rfl (by first | exact .head _ | exact .tail _ (.head _) | exact .tail _ (.tail _ (.head _)) | exact .tail _ (.tail _ (.tail _ (.head _)))) rfl ?_) | ((with_reducible refine at_load ?_); refine wpList_bag_cell hX bool_cell _ rfl rfl rfl rfl (by first | exact .head _ | exact .tail _ (.head _) | exact .tail _ (.tail _ (.head _)) | exact .tail _ (.tail _ (.tail _ (.head _)))) rfl ?_))
                    exact ⟨⟨i + 1, by omega, by go_num, hX, hB5⟩, by simp [intOf]; omega⟩
              have hii : ¬ (i : Int) < 1024 := by omega
              go_wp2
              exact ⟨⟨r + 1, ⟨D, en, true, false, c', w', a', s', l'⟩, _, _, by omega, by go_num, hKR, hid rfl, hid (by rw [if_neg (by omega)]; exact hSt), hs1.below hB5, hb1.below hB5, hX.sub (.cons_cons _ (.cons _ (.refl _)))⟩, by simp [intOf]; omega⟩
        have hri : ¬ (r : Int) < 3 := by omega
        go_wp2_with (first | (go_at_call 8; (with_reducible refine (alive_true _ (H.step hX.below)).mono ?_); rintro e' wL ⟨rfl, hbb⟩; replace hX := hX.step hbb; clear hbb))
        go_ret
        exact ⟨rfl, hX.below⟩
theorem DiskctlCopies_int (W0 : World) (H : DkC W0) (l : List Int) (x t f : Int) (hx : 0 ≤ x ∧ x ≤ 255) (ht : 0 ≤ t ∧ t ≤ 255) (hf : 0 ≤ f ∧ f ≤ 255) (vl : Value) (hl : Its W0 vl l) : Calls Try.prog 6 #[vl, .int .u8 x, .int .u8 t, .int .u8 f] W0 fun e' w' => e' = .returned (.bool true) ∧ Below W0.heap.size W0 w' := by
  obtain ⟨x, rfl⟩ : ∃ k : Nat, x = k := ⟨x.toNat, by omega⟩
  obtain ⟨t, rfl⟩ : ∃ k : Nat, t = k := ⟨t.toNat, by omega⟩
  obtain ⟨f, rfl⟩ : ∃ k : Nat, f = k := ⟨f.toNat, by omega⟩
  exact DiskctlCopies_law W0 H l x t f (by omega) (by omega) (by omega) vl hl
end Go.Proofs.Ytjolhlfjpnlcnaa
