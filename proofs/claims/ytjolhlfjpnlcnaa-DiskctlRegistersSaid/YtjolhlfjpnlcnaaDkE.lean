/-
  at, spoilt, differs, sector of the reference. Conditions: the bytes and words are there; the words are words.
-/
import Derived.Test.YtjolhlfjpnlcnaaDkD
import Derived.Test.YtjolhlfjpnlcnaaStrQ
namespace Go.Proofs.Ytjolhlfjpnlcnaa
open Go.RowKit
set_option linter.unusedSimpArgs false
set_option linter.unusedVariables false
set_option maxHeartbeats 4000000
set_option maxRecDepth 100000
attribute [local irreducible] wpQuiet

theorem bT {w w' w2 : World} (h : Below w.heap.size w w') (h2 : Below w'.heap.size w' w2) : Below w.heap.size w w2 := h.trans (h2.mono h.size)
def byt (s : ByteArray) (k : Nat) : Int := ((s.data.getD k 0).toNat : Int)
theorem byt_get {s : ByteArray} {k : Nat} (h : k < s.size) : s.data[k]? = some (s.data.getD k 0) := by
  have h' : k < s.data.size := h
  rw [Array.getD_eq_getD_getElem?, Array.getElem?_eq_getElem h']; rfl
theorem byt_lo (s : ByteArray) (k : Nat) : 0 ≤ byt s k ∧ byt s k < 256 := by
  unfold byt
  have := (s.data.getD k 0).toNat_lt
  omega
/-- The word i of a sector. -/
def atV (s : ByteArray) (i : Nat) : Int := byt s (2 * i) + 256 * byt s (2 * i + 1)
theorem rat_any (s : ByteArray) (i : Nat) (h : 2 * i + 1 < s.size) (hi : i ≤ 1099511627776) (w : World) : Calls Try.prog 51 #[.string s, .int .i64 (i : Int)] w fun e' w' => e' = .returned (.int .i64 (atV s i)) ∧ Below w.heap.size w w' := by
  have hB := Below.refl w.heap.size w
  unfold atV
  have h1 := fun w => idx_run (byt_get (show 2 * i < s.size by omega)) w
  have h2 := fun w => idx_run (byt_get (show 2 * i + 1 < s.size by omega)) w
  have b1 := byt_lo s (2 * i)
  have b2 := byt_lo s (2 * i + 1)
  simp only [show ∀ k, ((s.data.getD k 0).toNat : Int) = byt s k from fun _ => rfl] at h1 h2
  generalize byt s (2 * i) = y1 at *
  generalize byt s (2 * i + 1) = y2 at *
  rw [show ((2 * i : Nat) : Int) = 2 * (i : Int) by omega] at h1
  rw [show ((2 * i + 1 : Nat) : Int) = 2 * (i : Int) + 1 by omega] at h2
  have w1 : IntKind.i64.wrap (2 * (i : Int)) = 2 * (i : Int) := by rw [wrap_i64]; unfold wrap64; omega
  have w2 : IntKind.i64.wrap (2 * (i : Int) + 1) = 2 * (i : Int) + 1 := by rw [wrap_i64]; unfold wrap64; omega
  have w3 : IntKind.i64.wrap (y1) = y1 := by rw [wrap_i64]; unfold wrap64; omega
  have w4 : IntKind.i64.wrap (y2) = y2 := by rw [wrap_i64]; unfold wrap64; omega
  have w5 : IntKind.i64.wrap (256 * y2) = 256 * y2 := by rw [wrap_i64]; unfold wrap64; omega
  have w6 : IntKind.i64.wrap (y1 + 256 * y2) = y1 + 256 * y2 := by rw [wrap_i64]; unfold wrap64; omega
  clear h b1 b2 hi
  go_enter Try.func51, Try.ntmps51
  go_wp2
  refine region_class (fun w' => Below w.heap.size w w') (by kernel_rfl) (by kernel_rfl) hB.drew ?_
  repeat
    first
      | (refine BigFrame.wpQuiet_skip (by rfl) ?_
         simp only [Act.put, List.setIfInBounds_toArray, List.set_cons_zero, List.set_cons_succ])
      | (refine BigFrame.wpQuiet_want (by rfl) (fun K hK => ?_)
         apply Exists.intro
         refine ⟨fun wq hq => ?_, hK _ ?_⟩
         · first
             | (refine quiet_index 9 _ _ _ _ _ rfl rfl rfl (h1 _))
             | (refine quiet_index 9 _ _ _ _ _ rfl rfl rfl (h2 _))
             | (unfold Oper.quietAt
                go_simp
                first
                  | with_reducible rfl
               )
         clear hK K
         simp only [Act.put, List.setIfInBounds_toArray, List.set_cons_zero, List.set_cons_succ])
  refine wpQuiet_nil ?_
  intro w7 hB
  go_wp2
  go_ret
  exact ⟨rfl, hB⟩
/-- Has one of n words from a on wrong parity? -/
def spV (B : List Int) (a : Int) (n : Nat) : Bool := B.any fun b => decide (a ≤ b) && decide (b < a + 2 * (n : Int))
theorem rspoilt_any (B : List Int) (a : Int) (n : Nat) (v : Value) (w : World) (hl : B.length ≤ 1099511627776) (ha : 0 ≤ a ∧ a ≤ 65535) (hn : n ≤ 65535) (hv : Its w v B) : Calls Try.prog 47 #[v, .int .i64 a, .int .i64 (n : Int)] w fun e' w' => e' = .returned (.bool (spV B a n)) ∧ Below w.heap.size w w' := by
  obtain ⟨A, c, rfl, _, hc⟩ := hv.form
  have hB := Below.refl w.heap.size w
  have hri : spV B a n = true ↔ ∃ b ∈ B, a ≤ b ∧ b < a + 2 * (n : Int) := by unfold spV; simp
  generalize spV B a n = r at *
  have w1 : IntKind.i64.wrap (2 * (n : Int)) = 2 * (n : Int) := by rw [wrap_i64]; unfold wrap64; omega
  have w2 : IntKind.i64.wrap (a + 2 * (n : Int)) = a + 2 * (n : Int) := by rw [wrap_i64]; unfold wrap64; omega
  clear hv ha hn
  go_enter Try.func47, Try.ntmps47
  go_wp2
  go_loopw [7] (fun iv wr => ∃ k : Nat, k ≤ B.length ∧ iv = .int .i64 k ∧ Hid (∀ (j : Nat) b, j < k → B[j]? = some b → ¬ (a ≤ b ∧ b < a + 2 * (n : Int))) ∧ Below w.heap.size w wr) (fun iv _ => match iv with | .int _ q => B.length - q.toNat | _ => 0)
  case atStart => exact ⟨0, Nat.zero_le _, rfl, fun j s hj => absurd hj (Nat.not_lt_zero j), hB⟩
  case round =>
    clear hB
    obtain ⟨k, hk, rfl, hN, hB⟩ := hrel
    by_cases hkn : k < B.length
    · have hki : (k : Int) < (B.length : Int) := by omega
      have hx := List.getElem?_eq_getElem hkn
      have hm := List.getElem_mem hkn
      generalize B[k] = x at *
      obtain ⟨ad, rfl, hL⟩ := hc k x hx
      by_cases h1 : a ≤ x
      · have d1 : decide (a ≤ x) = true := decide_eq_true h1
        by_cases h2 : x < a + 2 * (n : Int)
        · have d2 : decide (x < a + 2 * (n : Int)) = true := decide_eq_true h2
          have hr : r = true := hri.2 ⟨x, hm, h1, h2⟩
          subst hr
          clear hN hx h1 h2 hc hri hm
          go_wp2_with (first | ((with_reducible refine at_load ?_); refine wpList_loadW rfl 3 _ _ _ rfl rfl (hL _ hB) ?_))
          go_ret
          exact ⟨rfl, hB⟩
        · have d2 : decide (x < a + 2 * (n : Int)) = false := decide_eq_false h2
          have hN2 : Hid (∀ (j : Nat) b, j < k + 1 → B[j]? = some b → ¬ (a ≤ b ∧ b < a + 2 * (n : Int))) := fun j q hj hs => by
            rcases (by omega : j < k ∨ j = k) with h | rfl
            · exact (show ∀ (j : Nat) b, j < k → B[j]? = some b → ¬ (a ≤ b ∧ b < a + 2 * (n : Int)) from hN) j q h hs
            · rw [hx] at hs; cases hs; exact fun h => h2 h.2
          clear hN hx h1 h2 hc hri hm
          go_wp2_with (first | ((with_reducible refine at_load ?_); refine wpList_loadW rfl 3 _ _ _ rfl rfl (hL _ hB) ?_))
          exact ⟨⟨k + 1, by omega, by go_num, hN2, hB⟩, by simp only; omega⟩
      · have d1 : decide (a ≤ x) = false := decide_eq_false h1
        have hN2 : Hid (∀ (j : Nat) b, j < k + 1 → B[j]? = some b → ¬ (a ≤ b ∧ b < a + 2 * (n : Int))) := fun j q hj hs => by
          rcases (by omega : j < k ∨ j = k) with h | rfl
          · exact (show ∀ (j : Nat) b, j < k → B[j]? = some b → ¬ (a ≤ b ∧ b < a + 2 * (n : Int)) from hN) j q h hs
          · rw [hx] at hs; cases hs; exact fun h => h1 h.1
        clear hN hx h1 hc hri hm
        go_wp2_with (first | ((with_reducible refine at_load ?_); refine wpList_loadW rfl 3 _ _ _ rfl rfl (hL _ hB) ?_))
        exact ⟨⟨k + 1, by omega, by go_num, hN2, hB⟩, by simp only; omega⟩
    · have hki : ¬ (k : Int) < (B.length : Int) := by omega
      have hr : r = false := by
        cases r
        · rfl
        · obtain ⟨b, hb, h⟩ := hri.1 rfl
          obtain ⟨j, hj⟩ := List.mem_iff_getElem?.1 hb
          have hjl : j < B.length := (List.getElem?_eq_some_iff.1 hj).1
          exact absurd h ((show ∀ (j : Nat) b, j < k → B[j]? = some b → ¬ (a ≤ b ∧ b < a + 2 * (n : Int)) from hN) j b (by omega) hj)
      subst hr
      clear hri hN hc
      go_wp2
      go_ret
      exact ⟨rfl, hB⟩
/-- Do n words from A on differ from a sector? -/
def dfW (m : List Int) (A n : Nat) (s : ByteArray) : Bool := (List.range n).any fun i => decide (m.getD (A + i) 0 ≠ atV s i)
theorem half (A : Nat) : (2 * (A : Int)).tdiv 2 = (A : Int) := by
  rw [Int.tdiv_eq_ediv_of_nonneg (by omega)]; omega
theorem rdiffers_any (m : List Int) (A n : Nat) (s : ByteArray) (v : Value) (w : World) (hA : A + n ≤ m.length) (hm : m.length ≤ 1099511627776) (hs : 2 * n ≤ s.size) (hv : Its w v m) : Calls Try.prog 48 #[v, .int .i64 (2 * (A : Int)), .int .i64 (n : Int), .string s] w fun e' w' => e' = .returned (.bool (dfW m A n s)) ∧ Below w.heap.size w w' := by
  obtain ⟨G, c, rfl, _, hc⟩ := hv.form
  have hB := Below.refl w.heap.size w
  have hri : dfW m A n s = true ↔ ∃ i, i < n ∧ m.getD (A + i) 0 ≠ atV s i := by unfold dfW; simp
  generalize dfW m A n s = r at *
  have w1 := half A
  have w2 : IntKind.i64.wrap ((A : Int)) = (A : Int) := by rw [wrap_i64]; unfold wrap64; omega
  clear hv
  go_enter Try.func48, Try.ntmps48
  go_wp2
  go_loopw [9] (fun iv wr => ∃ k : Nat, k ≤ n ∧ iv = .int .i64 k ∧ Hid (∀ j : Nat, j < k → m.getD (A + j) 0 = atV s j) ∧ Below w.heap.size w wr) (fun iv _ => match iv with | .int _ q => n - q.toNat | _ => 0)
  case atStart => exact ⟨0, Nat.zero_le _, rfl, fun j hj => absurd hj (Nat.not_lt_zero j), hB⟩
  case round =>
    clear hB
    obtain ⟨k, hk, rfl, hN, hB⟩ := hrel
    by_cases hkn : k < n
    · have hki : (k : Int) < (n : Int) := by omega
      have hAk : A + k < m.length := by omega
      have hx := List.getElem?_eq_getElem hAk
      have hgx : m.getD (A + k) 0 = m[A + k] := by rw [List.getD_eq_getElem?_getD, hx]; rfl
      generalize m[A + k] = x at *
      obtain ⟨ad, rfl, hL⟩ := hc (A + k) x hx
      have hat := fun w' => rat_any s k (by omega) (by omega) w'
      have w3 : IntKind.i64.wrap ((A : Int) + (k : Int)) = (A : Int) + (k : Int) := by rw [wrap_i64]; unfold wrap64; omega
      have k1 : (A : Int) + (k : Int) < (m.length : Int) := by omega
      have k2 : (0 : Int) ≤ (A : Int) + (k : Int) := by omega
      have k3 : ((A : Int) + (k : Int)).toNat = A + k := by omega
      by_cases hxe : x = atV s k
      · have he : (x != atV s k) = false := by simpa using hxe
        have hN2 : Hid (∀ j : Nat, j < k + 1 → m.getD (A + j) 0 = atV s j) := fun j hj => by
          rcases (by omega : j < k ∨ j = k) with h | rfl
          · exact (show ∀ j : Nat, j < k → m.getD (A + j) 0 = atV s j from hN) j h
          · rw [hgx, hxe]
        generalize atV s k = y at *
        clear hN hx hgx hxe hc hri
        go_wp2
        refine region_class (fun w' => Below w.heap.size w w') (by kernel_rfl) (by kernel_rfl) hB.drew ?_
        repeat
          first
            | (refine BigFrame.wpQuiet_skip (by rfl) ?_
               simp only [Act.put, List.setIfInBounds_toArray, List.set_cons_zero, List.set_cons_succ])
            | (refine BigFrame.wpQuiet_want (by rfl) (fun K hK => ?_)
               apply Exists.intro
               refine ⟨fun wq hq => ?_, hK _ ?_⟩
               · first
                   | (refine quiet_load 3 _ _ _ rfl rfl (hL _ hq))
                   | (unfold Oper.quietAt
                      go_simp
                      first
                        | with_reducible rfl
                        | ((go_at_call 51); with_reducible refine (hat _).mono ?_; exact fun e w' ⟨he, hw⟩ => ⟨he, bT hq hw⟩)
                     )
               clear hK K
               simp only [Act.put, List.setIfInBounds_toArray, List.set_cons_zero, List.set_cons_succ])
        refine wpQuiet_nil ?_
        intro w4 hB
        go_wp2
        exact ⟨⟨k + 1, by omega, by go_num, hN2, hB⟩, by simp only; omega⟩
      · have he : (x != atV s k) = true := by simpa using hxe
        have hr : r = true := hri.2 ⟨k, hkn, by rw [hgx]; exact hxe⟩
        subst hr
        generalize atV s k = y at *
        clear hN hx hgx hxe hc hri
        go_wp2
        refine region_class (fun w' => Below w.heap.size w w') (by kernel_rfl) (by kernel_rfl) hB.drew ?_
        repeat
          first
            | (refine BigFrame.wpQuiet_skip (by rfl) ?_
               simp only [Act.put, List.setIfInBounds_toArray, List.set_cons_zero, List.set_cons_succ])
            | (refine BigFrame.wpQuiet_want (by rfl) (fun K hK => ?_)
               apply Exists.intro
               refine ⟨fun wq hq => ?_, hK _ ?_⟩
               · first
                   | (refine quiet_load 3 _ _ _ rfl rfl (hL _ hq))
                   | (unfold Oper.quietAt
                      go_simp
                      first
                        | with_reducible rfl
                        | ((go_at_call 51); with_reducible refine (hat _).mono ?_; exact fun e w' ⟨he, hw⟩ => ⟨he, bT hq hw⟩)
                     )
               clear hK K
               simp only [Act.put, List.setIfInBounds_toArray, List.set_cons_zero, List.set_cons_succ])
        refine wpQuiet_nil ?_
        intro w4 hB
        go_wp2
        go_ret
        exact ⟨rfl, hB⟩
    · have hki : ¬ (k : Int) < (n : Int) := by omega
      have hr : r = false := by
        cases r
        · rfl
        · obtain ⟨i, hi, h⟩ := hri.1 rfl
          exact absurd ((show ∀ j : Nat, j < k → m.getD (A + j) 0 = atV s j from hN) i (by omega)) h
      subst hr
      clear hri hN hc
      go_wp2
      go_ret
      exact ⟨rfl, hB⟩
end Go.Proofs.Ytjolhlfjpnlcnaa
