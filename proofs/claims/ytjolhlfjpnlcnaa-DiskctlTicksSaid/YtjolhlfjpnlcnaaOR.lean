import Derived.Test.YtjolhlfjpnlcnaaMN
import Derived.Test.YtjolhlfjpnlcnaaMeA
import Derived.Test.YtjolhlfjpnlcnaaArC
import Derived.Deep.RegionHeld3
/-
  Results of a controller are valid, and the memory stays so: plain. same of the laws of package diskctl. No condition.
-/
namespace Go.Proofs.Ytjolhlfjpnlcnaa
open Go.RowKit
set_option linter.unusedSimpArgs false
set_option linter.unusedVariables false
set_option maxHeartbeats 4000000
set_option maxRecDepth 100000
attribute [local irreducible] wpQuiet

theorem wr_okK {D : Drv} {k : Int} {s : ByteArray} (h : (D.wr k s).2 = 0) : ∃ j : Nat, k = (j : Int) ∧ j < D.S.length ∧ s.size ≤ 128 ∧ D.B.contains k = false ∧ (D.wr k s).1 = ⟨D.S.set j (s ++ zB (128 - s.size)), D.B⟩ := by
  unfold Drv.wr at *
  split at h
  · rename_i h0
    rw [if_pos h0]
    split at h
    · cases h
    · rename_i h1
      rw [if_neg h1]
      split at h
      · cases h
      · rename_i h2
        rw [if_neg h2]
        refine ⟨k.toNat, by omega, by omega, by omega, by simpa using h2, rfl⟩
  · cases h
theorem zB_sizeK (n : Nat) : (zB n).size = n := by unfold zB; show (List.replicate n (0 : UInt8)).toArray.size = n; simp
theorem wr_rightK {D : Drv} {k : Int} {s : ByteArray} (hD : D.right = true) (h : (D.wr k s).2 = 0) : (D.wr k s).1.right = true := by
  obtain ⟨j, _, hj, hs, _, e⟩ := wr_okK h
  rw [e]
  obtain ⟨h1, h2, h3, h4⟩ := (right_iff D).1 hD
  refine (right_iff _).2 ⟨by simpa using h1, by simpa using h2, fun u hu => ?_, by simpa using h4⟩
  rcases List.mem_or_eq_of_mem_set hu with h5 | h5
  · exact h3 u h5
  · rw [h5, ByteArray.size_append, zB_sizeK]; omega
theorem words_iff : ∀ l : List Int, wordsB l = true ↔ ∀ x ∈ l, 0 ≤ x ∧ x ≤ 65535
  | [] => by simp [wordsB]
  | x :: r => by
    simp only [wordsB, Bool.and_eq_true, decide_eq_true_eq, List.mem_cons, forall_eq_or_imp, words_iff r]
theorem badB_low (n : Int) : ∀ (l : List Int) (a b : Int), a ≤ b → badB n b l = true → badB n a l = true
  | [], _, _, _, _ => rfl
  | x :: r, a, b, h, h1 => by
    simp only [badB, Bool.and_eq_true, decide_eq_true_eq] at h1 ⊢
    exact ⟨⟨by omega, h1.1.2⟩, h1.2⟩
theorem badB_filter (n : Int) (p : Int → Bool) : ∀ (l : List Int) (a : Int), badB n a l = true → badB n a (l.filter p) = true
  | [], _, _ => rfl
  | x :: r, a, h1 => by
    simp only [badB, Bool.and_eq_true, decide_eq_true_eq] at h1
    have ih := badB_filter n p r (x + 2) h1.2
    rw [List.filter_cons]
    split
    · simp only [badB, Bool.and_eq_true, decide_eq_true_eq]
      exact ⟨h1.1, ih⟩
    · exact badB_low n _ a (x + 2) (by omega) ih
theorem atV_word (s : ByteArray) (i : Nat) : 0 ≤ atV s i ∧ atV s i ≤ 65535 := by
  unfold atV
  have h1 := byt_lo s (2 * i)
  have h2 := byt_lo s (2 * i + 1)
  omega
theorem putM_words (m : List Int) (A : Nat) (s : ByteArray) (hm : ∀ x ∈ m, 0 ≤ x ∧ x ≤ 65535) : ∀ k, ∀ x ∈ putM m A s k, 0 ≤ x ∧ x ≤ 65535
  | 0 => hm
  | k + 1 => fun x hx => by
    rw [putM_step] at hx
    rcases List.mem_or_eq_of_mem_set hx with h | h
    · exact putM_words m A s hm k x h
    · rw [h]; exact atV_word s k
/-- What a tick keeps. -/
structure Kept (K : Dk) (m B : List Int) (K2 : Dk) (m2 B2 : List Int) : Prop where
  right : K2.right = true
  mem : rightP m2 B2 = true
  ml : m2.length = m.length
  bl : B2.length ≤ B.length
  sl : K2.D.S.length = K.D.S.length
  db : K2.D.B = K.D.B
theorem Kept.refl {K : Dk} {m B : List Int} (h : K.right = true) (hm : rightP m B = true) : Kept K m B K m B := ⟨h, hm, rfl, Nat.le_refl _, rfl, rfl⟩
theorem Kept.trans {K1 K2 K3 : Dk} {m1 m2 m3 B1 B2 B3 : List Int} (h : Kept K1 m1 B1 K2 m2 B2) (h2 : Kept K2 m2 B2 K3 m3 B3) : Kept K1 m1 B1 K3 m3 B3 :=
  ⟨h2.right, h2.mem, h2.ml.trans h.ml, Nat.le_trans h2.bl h.bl, h2.sl.trans h.sl, h2.db.trans h.db⟩
theorem rightP_iff (m B : List Int) : rightP m B = true ↔ okS (2 * (m.length : Int)) = true ∧ (∀ x ∈ m, 0 ≤ x ∧ x ≤ 65535) ∧ badB (2 * (m.length : Int)) 0 B = true := by
  unfold rightP; simp only [Bool.and_eq_true, words_iff]
theorem tick_kept {K : Dk} {m B : List Int} (h : K.right = true) (hm : rightP m B = true) : Kept K m B (K.tick m B).1 (K.tick m B).2.1 (K.tick m B).2.2 := by
  have h0 := h
  unfold Dk.right at h
  rw [Bool.and_eq_true] at h
  obtain ⟨hok, hD⟩ := h
  obtain ⟨⟨hc0, hc3⟩, hw1, ha1, hs1, ha2, ⟨hl0, hl8⟩, hrl, hcw⟩ := (Dk.ok_iff K).1 hok
  obtain ⟨hm1, hm2, hm3⟩ := (rightP_iff m B).1 hm
  obtain ⟨D, n, r, e, c, w, a, s, l⟩ := K
  dsimp only at *
  have mk : ∀ (D' : Drv) (n r e : Bool) (c w a s l : Int), D'.right = true → (0 ≤ c ∧ c ≤ 3) → (0 ≤ w ∧ w ≤ 65535) → (0 ≤ a ∧ a ≤ 65535) → (0 ≤ s ∧ s ≤ 65535) → a % 2 = 0 → (0 ≤ l ∧ l ≤ 8) → r = decide (l = 0) → (l = 0 ∨ (c ≠ 0 ∧ w ≠ 0)) → (Dk.mk D' n r e c w a s l).right = true := fun D' n r e c w a s l h0 h1 h2 h3 h4 h5 h6 h7 h8 => by
    unfold Dk.right
    rw [Bool.and_eq_true]
    exact ⟨(Dk.ok_iff _).2 ⟨h1, (wordV_iff _).2 h2, (wordV_iff _).2 h3, (wordV_iff _).2 h4, h5, h6, h7, h8⟩, h0⟩
  rw [wordV_iff] at hw1 ha1 hs1
  unfold Dk.tick
  by_cases l0 : l = 0
  · rw [if_pos l0]; exact .refl h0 hm
  rw [if_neg l0]
  by_cases l1 : 1 < l
  · rw [if_pos l1]
    refine ⟨mk _ _ _ _ _ _ _ _ _ hD ⟨hc0, hc3⟩ hw1 ha1 hs1 ha2 (show 0 ≤ l - 1 ∧ l - 1 ≤ 8 by omega) ?_ (.inr (hcw.resolve_left l0)), hm, rfl, Nat.le_refl _, rfl, rfl⟩
    rw [hrl, decide_eq_false l0]
    exact (decide_eq_false (show ¬ l - 1 = 0 by omega)).symm
  rw [if_neg l1]
  have hcw' := hcw.resolve_left l0
  have fl : Kept ⟨D, n, r, e, c, w, a, s, l⟩ m B ((Dk.mk D n r e c w a s l).l0.fail) m B :=
    ⟨mk _ _ _ _ _ _ _ _ _ hD ⟨hc0, hc3⟩ hw1 ha1 hs1 ha2 (show (0 : Int) ≤ 0 ∧ (0 : Int) ≤ 8 by decide) rfl (.inl rfl), hm, rfl, Nat.le_refl _, rfl, rfl⟩
  have hn : ((Dk.mk D n r e c w a s l).n64 : Int) ≤ w ∧ 1 ≤ ((Dk.mk D n r e c w a s l).n64 : Int) := by
    unfold Dk.n64; dsimp only; omega
  have ad : ∀ (D' : Drv) (m2 B2 : List Int), D'.right = true → D'.S.length = D.S.length → D'.B = D.B → rightP m2 B2 = true → m2.length = m.length → B2.length ≤ B.length → Kept ⟨D, n, r, e, c, w, a, s, l⟩ m B ((Dk.mk D n r e c w a s l).adv D') m2 B2 := fun D' m2 B2 g1 g2 g3 g4 g5 g6 => by
    refine ⟨mk _ _ _ _ _ _ _ _ _ g1 ⟨hc0, hc3⟩ (by dsimp only; omega) (by dsimp only; omega) (by dsimp only; omega) (by dsimp only; omega) (by dsimp only; split <;> omega) ?_ ?_, g4, g5, g6, g2, g3⟩
    · dsimp only
      by_cases hz : w - ((Dk.mk D n r e c w a s l).n64 : Int) = 0
      · rw [if_pos hz, decide_eq_true hz]; rfl
      · rw [if_neg hz, decide_eq_false hz]; rfl
    · dsimp only
      by_cases hz : w - ((Dk.mk D n r e c w a s l).n64 : Int) = 0
      · exact .inl (if_pos hz)
      · exact .inr ⟨hcw'.1, hz⟩
  dsimp only
  split
  · exact fl
  split
  · exact fl
  split
  · exact fl
  split
  · exact fl
  split
  · split
    · rename_i hf
      obtain ⟨j, _, hj, _, _, ee⟩ := wr_okK hf
      exact ad _ _ _ (wr_rightK hD hf) (by rw [ee]; simp) (by rw [ee]) hm rfl (Nat.le_refl _)
    · exact fl
  split
  · refine ad _ _ _ hD rfl rfl ?_ (putM_len ..) (List.length_filter_le ..)
    rw [rightP_iff, putM_len]
    exact ⟨hm1, putM_words _ _ _ hm2 _, badB_filter _ _ _ _ hm3⟩
  · exact ad _ _ _ hD rfl rfl hm rfl (Nat.le_refl _)
theorem accK_right {K : Dk} (h : K.right = true) (v : Int) : (K.acc v).right = true := by
  unfold Dk.acc
  split
  · unfold Dk.right at *; exact h
  · exact h
theorem resetK_right {K : Dk} (h : K.right = true) : K.reset.right = true := by
  unfold Dk.right at *
  rw [Bool.and_eq_true] at *
  obtain ⟨hok, hD⟩ := h
  obtain ⟨⟨hc0, hc3⟩, hw1, ha1, hs1, ha2, ⟨hl0, hl8⟩, hrl, hcw⟩ := (Dk.ok_iff K).1 hok
  exact ⟨(Dk.ok_iff _).2 ⟨(show (0 : Int) ≤ 0 ∧ (0 : Int) ≤ 3 by decide), hw1, ha1, hs1, ha2, (show (0 : Int) ≤ 0 ∧ (0 : Int) ≤ 8 by decide), rfl, .inl rfl⟩, hD⟩
theorem fewV_iff (K : Dk) (m B : List Int) : fewV K m B = true ↔ K.D.S.length ≤ 64 ∧ K.D.B.length ≤ 64 ∧ m.length ≤ 2048 ∧ B.length ≤ 60 ∧ K.right = true ∧ rightP m B = true := by
  unfold fewV; simp only [Bool.and_eq_true, decide_eq_true_eq]

theorem take_eq_of {α : Type} {a b : List α} (h : a.length = b.length) (h2 : a.take a.length = b.take a.length) : a = b := by
  rw [List.take_length, h, List.take_length] at h2; exact h2
theorem take_snoc {α : Type} {a : List α} {k : Nat} {x : α} (h : a[k]? = some x) : a.take (k + 1) = a.take k ++ [x] := by
  have hk : k < a.length := (List.getElem?_eq_some_iff.1 h).1
  rw [List.take_succ_eq_append_getElem hk, (List.getElem?_eq_some_iff.1 h).2]
theorem csameK_any (u v : Value) (a b : List Rq) (ha : a.length ≤ 1099511627776) (hb : b.length ≤ 1099511627776) (w : World) (hu : Rqs w u a) (hv : Rqs w v b) :
    Calls Try.prog 20 #[u, v] w fun e w' => e = .returned (.bool (decide (a = b))) ∧ Below w.heap.size w w' := by
  have hu0 := hu
  have hv0 := hv
  obtain ⟨A, c, rfl, _, hc⟩ := hu
  obtain ⟨B, d, rfl, _, hd⟩ := hv
  by_cases hl : a.length = b.length
  · have hlb : ((a.length : Int) != (b.length : Int)) = false := by rw [hl]; simp
    replace hl := hid hl
    go_enter Try.func20, Try.ntmps20
    go_wp2
    go_loopw [13] (fun i wr => ∃ k : Nat, k ≤ a.length ∧ i = .int .i64 k ∧ Hid (a.take k = b.take k) ∧ Below w.heap.size w wr) (fun i _ => match i with | .int _ q => a.length - q.toNat | _ => 0)
    case atStart => exact ⟨0, Nat.zero_le _, rfl, rfl, Below.refl _ _⟩
    case round =>
      obtain ⟨k, hk, rfl, hP, hB⟩ := hrel
      by_cases hka : k < a.length
      · have hx := List.getElem?_eq_getElem hka
        have hy := List.getElem?_eq_getElem (show k < b.length by have := (show a.length = b.length from hl); omega)
        have hkb : k < b.length := by have := (show a.length = b.length from hl); omega
        generalize a[k] = x at *
        generalize b[k] = y at *
        obtain ⟨ad, rfl, _⟩ := hc (k * 2) (.int .i64 x.1) (flat_get hx 0 _ rfl)
        obtain ⟨bd, rfl, _⟩ := hd (k * 2) (.int .i64 y.1) (flat_get hy 0 _ rfl)
        have hX1 : ∀ w', Below w.heap.size w w' → (Instr.loadAt 65 (.pointer (some (ad.add (k * 2))))).run Try.prog w' = .ok (.agg #[.int .i64 x.1, .int .i64 x.2]) w' := fun w' h => Rqs.load (Rw.below hu0 h) rfl hx
        have hY1 : ∀ w', Below w.heap.size w w' → (Instr.loadAt 65 (.pointer (some (bd.add (k * 2))))).run Try.prog w' = .ok (.agg #[.int .i64 y.1, .int .i64 y.2]) w' := fun w' h => Rqs.load (Rw.below hv0 h) rfl hy
        clear hc hd hu0 hv0
        obtain ⟨p, m⟩ := x
        obtain ⟨q, n⟩ := y
        simp only at hX1 hY1
        by_cases hpq : p = q
        · subst hpq
          by_cases hmn : m = n
          · subst hmn
            have hP2 : Hid (a.take (k + 1) = b.take (k + 1)) := by show _ = _; rw [take_snoc hx, take_snoc hy, show a.take k = b.take k from hP]
            clear hx hy
            go_wp2
            refine region_class (fun wz => Below w.heap.size w wz) (by kernel_rfl) (by kernel_rfl) hB.drew ?_
            repeat
              first
                | (refine BigFrame.wpQuiet_skip (by rfl) ?_
                   simp only [Act.put, List.setIfInBounds_toArray, List.set_cons_zero, List.set_cons_succ])
                | (refine BigFrame.wpQuiet_want (by rfl) (fun K hK => ?_)
                   apply Exists.intro
                   refine ⟨fun wq hq => ?_, hK _ ?_⟩
                   · first
                       | (refine quiet_load 65 _ _ _ rfl rfl (hX1 _ hq))
                       | (refine quiet_load 65 _ _ _ rfl rfl (hY1 _ hq))
                       | (unfold Oper.quietAt
                          go_simp
                          first
                            | with_reducible rfl
                         )
                   clear hK K
                   simp only [Act.put, List.setIfInBounds_toArray, List.set_cons_zero, List.set_cons_succ])
            refine wpQuiet_nil ?_
            intro w4 hB4
            go_wp2
            exact ⟨⟨k + 1, by omega, by go_num, hP2, hB4⟩, by simp only; omega⟩
          · have hne : Hid (decide (a = b) = false) := by
              show _ = _
              rw [decide_eq_false_iff_not]; intro h; rw [h, hy] at hx; simp at hx; exact hmn hx.symm
            clear hx hy
            go_wp2
            refine region_class (fun wz => Below w.heap.size w wz) (by kernel_rfl) (by kernel_rfl) hB.drew ?_
            repeat
              first
                | (refine BigFrame.wpQuiet_skip (by rfl) ?_
                   simp only [Act.put, List.setIfInBounds_toArray, List.set_cons_zero, List.set_cons_succ])
                | (refine BigFrame.wpQuiet_want (by rfl) (fun K hK => ?_)
                   apply Exists.intro
                   refine ⟨fun wq hq => ?_, hK _ ?_⟩
                   · first
                       | (refine quiet_load 65 _ _ _ rfl rfl (hX1 _ hq))
                       | (refine quiet_load 65 _ _ _ rfl rfl (hY1 _ hq))
                       | (unfold Oper.quietAt
                          go_simp
                          first
                            | with_reducible rfl
                         )
                   clear hK K
                   simp only [Act.put, List.setIfInBounds_toArray, List.set_cons_zero, List.set_cons_succ])
            refine wpQuiet_nil ?_
            intro w4 hB4
            go_wp2
            go_ret
            exact ⟨by rw [show decide (a = b) = false from hne]; rfl, hB4⟩
        · have hne : Hid (decide (a = b) = false) := by
            show _ = _
            rw [decide_eq_false_iff_not]; intro h; rw [h, hy] at hx; simp at hx; exact hpq hx.1.symm
          clear hx hy
          go_wp2
          refine region_class (fun wz => Below w.heap.size w wz) (by kernel_rfl) (by kernel_rfl) hB.drew ?_
          repeat
            first
              | (refine BigFrame.wpQuiet_skip (by rfl) ?_
                 simp only [Act.put, List.setIfInBounds_toArray, List.set_cons_zero, List.set_cons_succ])
              | (refine BigFrame.wpQuiet_want (by rfl) (fun K hK => ?_)
                 apply Exists.intro
                 refine ⟨fun wq hq => ?_, hK _ ?_⟩
                 · first
                     | (refine quiet_load 65 _ _ _ rfl rfl (hX1 _ hq))
                     | (refine quiet_load 65 _ _ _ rfl rfl (hY1 _ hq))
                     | (unfold Oper.quietAt
                        go_simp
                        first
                          | with_reducible rfl
                       )
                 clear hK K
                 simp only [Act.put, List.setIfInBounds_toArray, List.set_cons_zero, List.set_cons_succ])
          refine wpQuiet_nil ?_
          intro w4 hB4
          go_wp2
          go_ret
          exact ⟨by rw [show decide (a = b) = false from hne]; rfl, hB4⟩
      · have hkn : k = a.length := by omega
        have hab : Hid (decide (a = b) = true) := by
          show _ = _
          rw [decide_eq_true_iff]
          refine take_eq_of (show a.length = b.length from hl) ?_
          rw [← hkn]; exact hP
        subst hkn
        clear hc hd hu0 hv0 hP
        go_wp2
        go_ret
        exact ⟨by rw [show decide (a = b) = true from hab]; rfl, hB⟩
  · have hn : ¬ (a.length : Int) = (b.length : Int) := by omega
    have hn2 : ((a.length : Int) != (b.length : Int)) = true := by simpa using hn
    have hne : Hid (decide (a = b) = false) := by
      show _ = _
      rw [decide_eq_false_iff_not]; intro h; exact hl (by rw [h])
    clear hc hd hu0 hv0 hl
    go_enter Try.func20, Try.ntmps20
    go_wp2
    go_ret
    exact ⟨by rw [show decide (a = b) = false from hne]; rfl, Below.refl _ _⟩
end Go.Proofs.Ytjolhlfjpnlcnaa

/-
  alive. Condition: the contracts.
-/
namespace Go.Proofs.Ytjolhlfjpnlcnaa
open Go.RowKit
set_option linter.unusedSimpArgs false
set_option linter.unusedVariables false
set_option maxHeartbeats 4000000
set_option maxRecDepth 100000
attribute [local irreducible] wpQuiet

/-- So many ticks. -/
def tn (K : Dk) (m B : List Int) : Nat → Dk × List Int × List Int
  | 0 => (K, m, B)
  | k + 1 => (tn K m B k).1.tick (tn K m B k).2.1 (tn K m B k).2.2
theorem tn_kept {K : Dk} {m B : List Int} (h : K.right = true) (hm : rightP m B = true) : ∀ k, Kept K m B (tn K m B k).1 (tn K m B k).2.1 (tn K m B k).2.2
  | 0 => .refl h hm
  | k + 1 => (tn_kept h hm k).trans (tick_kept (tn_kept h hm k).right (tn_kept h hm k).mem)
def aK0 : Dk := startV (Dk.new smpD) 1 1 512 3
def aM : List Int := List.replicate 512 0
def aT (k : Nat) : Dk × List Int × List Int := tn aK0 aM [512] k
def aK1 : Dk := startV (aT 8).1 1 1 512 200
def aU (k : Nat) : Dk × List Int × List Int := tn aK1 (aT 8).2.1 (aT 8).2.2 k
theorem new_rightK {D : Drv} (h : D.right = true) : (Dk.new D).right = true := by
  unfold Dk.right
  rw [Bool.and_eq_true]
  exact ⟨rfl, h⟩
theorem start_rightK {K : Dk} (h : K.right = true) (c n a s : Int) : (startV K c n a s).right = true :=
  wrK_right (wrK_right (wrK_right (wrK_right h 2 n (wrK_two _ _ _ (by simp))) 4 a (wrK_two _ _ _ (by simp))) 6 s (wrK_two _ _ _ (by simp))) 0 _ (wrK_two _ _ _ (by simp))
theorem smpD_right : smpD.right = true := by decide +kernel
theorem a_r0 : rightP aM [512] = true := by decide +kernel
theorem a_right : aK0.right = true := start_rightK (new_rightK smpD_right) ..
theorem a_kept (k : Nat) : Kept aK0 aM [512] (aT k).1 (aT k).2.1 (aT k).2.2 := tn_kept a_right a_r0 k
theorem a_right1 : aK1.right = true := start_rightK (a_kept 8).right ..
theorem u_kept (k : Nat) : Kept aK1 (aT 8).2.1 (aT 8).2.2 (aU k).1 (aU k).2.1 (aU k).2.2 := tn_kept a_right1 (a_kept 8).mem k
theorem a_f0 : aK0.rd 0 = (2, true) := by decide +kernel
theorem a_f1 : (aT 8).1.rd 0 = (130, true) := by decide +kernel
theorem a_f2 : (aT 8).1.rd 4 = (514, true) := by decide +kernel
theorem a_f3 : (aU 8).1.rd 0 = (32898, true) := by decide +kernel
theorem a_f4 : (aU 8).1.w = 1 := by decide +kernel
theorem a_f5 : (aU 8).2.1[256]? = some 513 := by decide +kernel
theorem a_f6 : (aU 8).2.2 = [] := by decide +kernel
theorem a_f7 : (aU 8).2.1.length = 512 := by decide +kernel

/-- One own box. -/
def XB (N b : Nat) : Prop := b = N
theorem xb_new {X : Nat → Prop} {N : Nat} : ∀ b, b < N → XB N b → X b := fun b h h2 => by unfold XB at h2; omega
theorem xb_lt {t : TypeId} {cs : List Value} {w w' : World} {N : Nat} {l : List (Nat × TypeId × List Value)} (h : Bag ((N, t, cs) :: l) w w') : ∀ b, XB N b → b < w'.heap.size := fun b hb => by
  have := (h.all _ _ _ (.head _)).lt
  unfold XB at hb; omega
theorem made512 : madeCells #[Value.int .i64 0] 512 = (aM.map (Value.int .i64)).toArray := by kernel_rfl
theorem its_blk {w : World} {B n : Nat} {l : List Int} (h : Blk 3 w B (l.map (Value.int .i64))) (hn : l.length = n) : Its w (.slice (some ⟨B, 0, none⟩) n n) l := by
  subst hn
  refine ⟨⟨_, _, rfl, Nat.le_refl _, fun j x hx => ⟨_, rfl, ?_⟩⟩, fun _ _ e => by cases e⟩
  have e1 : (⟨B, 0, none⟩ : Addr).add j = ⟨B, j, none⟩ := by unfold Addr.add; split <;> simp_all
  rw [e1]
  exact ⟨h.cell hx, h.lt⟩
theorem its_blkX {X : Nat → Prop} {w : World} {B n : Nat} {l : List Int} {cs : List Value} (h : Blk 3 w B cs) (hc : cs = l.map (Value.int .i64)) (hn : l.length = n) (hx : ¬ X B) : ItsX X w (.slice (some ⟨B, 0, none⟩) n n) l := fun w' hk => its_blk (hc ▸ (hk B h.lt hx).trans h) hn
theorem alive_true (W0 : World) (H : DkC W0) : Calls Try.prog 8 #[] W0 fun e' w' => e' = .returned (.bool true) ∧ Below W0.heap.size W0 w' := by
  have hX := Bag.nil W0
  have cN := fun vs vb w (h1 : Below W0.heap.size W0 w) h2 h3 => H.new smpD vs vb (fun _ => False) w h1 (by decide) (by decide) (fun _ h => h.elim) h2 h3
  have c0 := fun vs vb w (h1 : Below W0.heap.size W0 w) h2 h3 h4 => start_any W0 H (Dk.new smpD) 1 1 512 3 (new_rightK smpD_right) (by decide) vs vb w h1 (fun _ => False) h2 h3 h4
  have c1 := fun vs vb w (h1 : Below W0.heap.size W0 w) X h2 h3 h4 => start_any W0 H (aT 8).1 1 1 512 200 (a_kept 8).right (by decide) vs vb w h1 X h2 h3 h4
  rw [show startV (Dk.new smpD) 1 1 512 3 = (aT 0).1 from rfl] at c0
  rw [show startV (aT 8).1 1 1 512 200 = (aU 0).1 from rfl] at c1
  have q0 : ∀ vs vb w, Below W0.heap.size W0 w → Sts w vs (aT 0).1.D.S → Its w vb (aT 0).1.D.B → Calls Try.prog 14 #[.agg #[vs, vb, .bool ((aT 0).1).n, .bool ((aT 0).1).r, .bool ((aT 0).1).e, .int .i64 ((aT 0).1).c, .int .i64 ((aT 0).1).w, .int .i64 ((aT 0).1).a, .int .i64 ((aT 0).1).s, .int .i64 ((aT 0).1).l], .int .i64 0] w fun e' w' => e' = .returned (.tuple #[.int .i64 2, .bool true]) ∧ Below w.heap.size w w' := fun vs vb w h1 h2 h3 => by
    have := H.read (aT 0).1 0 vs vb w h1 (a_kept 0).right h2 h3
    rw [(show (aT 0).1.rd 0 = (2, true) from a_f0)] at this
    exact this
  have q1 : ∀ vs vb w, Below W0.heap.size W0 w → Sts w vs (aT 8).1.D.S → Its w vb (aT 8).1.D.B → Calls Try.prog 14 #[.agg #[vs, vb, .bool ((aT 8).1).n, .bool ((aT 8).1).r, .bool ((aT 8).1).e, .int .i64 ((aT 8).1).c, .int .i64 ((aT 8).1).w, .int .i64 ((aT 8).1).a, .int .i64 ((aT 8).1).s, .int .i64 ((aT 8).1).l], .int .i64 0] w fun e' w' => e' = .returned (.tuple #[.int .i64 130, .bool true]) ∧ Below w.heap.size w w' := fun vs vb w h1 h2 h3 => by
    have := H.read (aT 8).1 0 vs vb w h1 (a_kept 8).right h2 h3
    rw [a_f1] at this
    exact this
  have q2 : ∀ vs vb w, Below W0.heap.size W0 w → Sts w vs (aT 8).1.D.S → Its w vb (aT 8).1.D.B → Calls Try.prog 14 #[.agg #[vs, vb, .bool ((aT 8).1).n, .bool ((aT 8).1).r, .bool ((aT 8).1).e, .int .i64 ((aT 8).1).c, .int .i64 ((aT 8).1).w, .int .i64 ((aT 8).1).a, .int .i64 ((aT 8).1).s, .int .i64 ((aT 8).1).l], .int .i64 4] w fun e' w' => e' = .returned (.tuple #[.int .i64 514, .bool true]) ∧ Below w.heap.size w w' := fun vs vb w h1 h2 h3 => by
    have := H.read (aT 8).1 4 vs vb w h1 (a_kept 8).right h2 h3
    rw [a_f2] at this
    exact this
  have q3 : ∀ vs vb w, Below W0.heap.size W0 w → Sts w vs (aU 8).1.D.S → Its w vb (aU 8).1.D.B → Calls Try.prog 14 #[.agg #[vs, vb, .bool ((aU 8).1).n, .bool ((aU 8).1).r, .bool ((aU 8).1).e, .int .i64 ((aU 8).1).c, .int .i64 ((aU 8).1).w, .int .i64 ((aU 8).1).a, .int .i64 ((aU 8).1).s, .int .i64 ((aU 8).1).l], .int .i64 0] w fun e' w' => e' = .returned (.tuple #[.int .i64 32898, .bool true]) ∧ Below w.heap.size w w' := fun vs vb w h1 h2 h3 => by
    have := H.read (aU 8).1 0 vs vb w h1 (u_kept 8).right h2 h3
    rw [a_f3] at this
    exact this
  have t0 : ∀ (k : Nat) vs vb vm vz (X : Nat → Prop) w, Below W0.heap.size W0 w → (∀ b, X b → b < w.heap.size) → StsX X w vs (aT k).1.D.S → ItsX X w vb (aT k).1.D.B → ItsX X w vm (aT k).2.1 → ItsX X w vz (aT k).2.2 → Calls Try.prog 26 #[.agg #[vs, vb, .bool ((aT k).1).n, .bool ((aT k).1).r, .bool ((aT k).1).e, .int .i64 ((aT k).1).c, .int .i64 ((aT k).1).w, .int .i64 ((aT k).1).a, .int .i64 ((aT k).1).s, .int .i64 ((aT k).1).l], vm, vz] w fun e' w' => ∃ x y z, e' = .returned (.tuple #[x, y, z]) ∧ DkX X w' x (aT (k + 1)).1 ∧ ItsX X w' y (aT (k + 1)).2.1 ∧ ItsX X w' z (aT (k + 1)).2.2 ∧ Below w.heap.size w w' := fun k vs vb vm vz X w h1 h2 h3 h4 h5 h6 => H.tick (aT k).1 (aT k).2.1 (aT k).2.2 vs vb vm vz X w h1 (a_kept k).right (a_kept k).mem h2 h3 h4 h5 h6
  have t1 : ∀ (k : Nat) vs vb vm vz (X : Nat → Prop) w, Below W0.heap.size W0 w → (∀ b, X b → b < w.heap.size) → StsX X w vs (aU k).1.D.S → ItsX X w vb (aU k).1.D.B → ItsX X w vm (aU k).2.1 → ItsX X w vz (aU k).2.2 → Calls Try.prog 26 #[.agg #[vs, vb, .bool ((aU k).1).n, .bool ((aU k).1).r, .bool ((aU k).1).e, .int .i64 ((aU k).1).c, .int .i64 ((aU k).1).w, .int .i64 ((aU k).1).a, .int .i64 ((aU k).1).s, .int .i64 ((aU k).1).l], vm, vz] w fun e' w' => ∃ x y z, e' = .returned (.tuple #[x, y, z]) ∧ DkX X w' x (aU (k + 1)).1 ∧ ItsX X w' y (aU (k + 1)).2.1 ∧ ItsX X w' z (aU (k + 1)).2.2 ∧ Below w.heap.size w w' := fun k vs vb vm vz X w h1 h2 h3 h4 h5 h6 => H.tick (aU k).1 (aU k).2.1 (aU k).2.2 vs vb vm vz X w h1 (u_kept k).right (u_kept k).mem h2 h3 h4 h5 h6
  have hmk : ∀ w, (Instr.makeSlice 23 (.int .i64 512) (.int .i64 512)).run Try.prog w = .ok (.slice (some ⟨w.heap.size, 0, none⟩) 512 512) (w.alloc (.cells (aM.map (Value.int .i64)).toArray 3)) := fun w => by
    rw [← made512]
    exact run_make_row' (P := Try.prog) 23 3 (.int .i64 0) 8 Try.underlying23 infI rfl .i64 .i64 512 (by omega) (by omega) w
  obtain ⟨Z, hZ⟩ : ∃ Z, aM.map (Value.int .i64) = Z := ⟨_, rfl⟩
  rw [hZ] at hmk
  have f4 := a_f4
  go_enter Try.func8, Try.ntmps8
  go_wp2_with (first | (go_at_call 29; (with_reducible refine (sample_any _ (fun _ => False) (fun _ h => h.elim)).mono ?_); rintro e' wA ⟨x, rfl, ⟨vs0, vb0, rfl, hs0, hb0⟩, hbb⟩; replace hX := hX.step hbb; clear hbb) | (go_at_call 12; (with_reducible refine (cN vs0 vb0 _ hX.below hs0.now hb0.now).mono ?_); rintro e' wB ⟨x, rfl, ⟨vs1, vb1, rfl, hs1, hb1⟩, hbb⟩; replace hX := hX.step hbb; clear hbb hs0 hb0) | (go_at_call 30; (with_reducible refine (c0 vs1 vb1 _ hX.below (fun _ h => h.elim) hs1 hb1).mono ?_); rintro e' wC ⟨x, rfl, ⟨vs2, vb2, rfl, hs2, hb2⟩, hbb⟩; replace hX := (hX.step hbb).new 27 [.slice none 0 0, .slice none 0 0, .bool false, .bool false, .bool false, .int .i64 0, .int .i64 0, .int .i64 0, .int .i64 0, .int .i64 0]; replace hs2 : StsX (XB wC.heap.size) _ vs2 _ := hs2.weak ((Below.refl _ _).alloc (Nat.le_refl _) (.cells ([.slice none 0 0, .slice none 0 0, .bool false, .bool false, .bool false, .int .i64 0, .int .i64 0, .int .i64 0, .int .i64 0, .int .i64 0] : List Value).toArray 27)) xb_new; replace hb2 : ItsX (XB wC.heap.size) _ vb2 _ := hb2.weak ((Below.refl _ _).alloc (Nat.le_refl _) (.cells ([.slice none 0 0, .slice none 0 0, .bool false, .bool false, .bool false, .int .i64 0, .int .i64 0, .int .i64 0, .int .i64 0, .int .i64 0] : List Value).toArray 27)) xb_new; clear hbb) | ((with_reducible refine at_store ?_); refine wpList_bag_overV (cs' := [vs2, vb2, .bool ((aT 0).1).n, .bool ((aT 0).1).r, .bool ((aT 0).1).e, .int .i64 ((aT 0).1).c, .int .i64 ((aT 0).1).w, .int .i64 ((aT 0).1).a, .int .i64 ((aT 0).1).s, .int .i64 ((aT 0).1).l]) hX aggK sizK _ _ rfl rfl rfl rfl rfl rfl rfl rfl (one_dk (sts_one hs2.now) (its_one hb2.now) _ _ _ _ _ _ _ _) ?_; clear hX; intro wz hX hkz; replace hs2 := hs2.over hkz rfl; replace hb2 := hb2.over hkz rfl; clear hkz) | ((with_reducible refine at_load ?_); refine wpList_bag_part (k := 0) hX aggK sizK _ rfl rfl rfl rfl (by first | exact .head _) (fun jz vz hz => (congrArg (fun n => ([_, _, _, _, _, _, _, _, _, _] : List Value)[n]?) (Nat.zero_add jz)).trans hz) rfl ?_) | (go_at_call 14; (with_reducible refine (q0 vs2 vb2 _ hX.below hs2.now hb2.now).mono ?_); rintro e' wR ⟨rfl, hbb⟩; replace hX := hX.step hbb; replace hs2 := hs2.below hbb; replace hb2 := hb2.below hbb; clear hbb))
  have hB1 := xb_lt hX
  have hb512 : Below wR.heap.size wR ((wR.alloc (.cells Z.toArray 3)).alloc (.cells #[.int .i64 512] 3)) := ((Below.refl _ _).alloc (Nat.le_refl _) _).alloc (by simp) _
  have hm : ItsX (XB wC.heap.size) ((wR.alloc (.cells Z.toArray 3)).alloc (.cells #[.int .i64 512] 3)) (.slice (some ⟨wR.heap.size, 0, none⟩) 512 512) (aT 0).2.1 := its_blkX ((Blk.new 3 wR Z).alloc (.cells #[.int .i64 512] 3)) hZ.symm (show aM.length = 512 by decide +kernel) (fun h => by have := hB1 _ h; omega)
  have hz : ItsX (XB wC.heap.size) ((wR.alloc (.cells Z.toArray 3)).alloc (.cells #[.int .i64 512] 3)) (.slice (some ⟨wR.heap.size + 1, 0, none⟩) 1 1) (aT 0).2.2 := by
    have h := Blk.new 3 (wR.alloc (.cells Z.toArray 3)) [.int .i64 512]
    rw [show (wR.alloc (.cells Z.toArray 3)).heap.size = wR.heap.size + 1 from Array.size_push ..] at h
    exact its_blkX h (l := [512]) rfl rfl (fun h => by have := hB1 _ h; omega)
  replace hX := hX.step hb512
  replace hs2 := hs2.below hb512
  replace hb2 := hb2.below hb512
  clear hb512 hB1 hmk
  go_loopw [23, 4, 5] (fun iv vm vz wr => ∃ (k : Nat) (vs vb : Value), k ≤ 8 ∧ iv = .int .i64 k ∧ StsX (XB wC.heap.size) wr vs (aT k).1.D.S ∧ ItsX (XB wC.heap.size) wr vb (aT k).1.D.B ∧ ItsX (XB wC.heap.size) wr vm (aT k).2.1 ∧ ItsX (XB wC.heap.size) wr vz (aT k).2.2 ∧ Bag [(wC.heap.size, 27, [vs, vb, .bool ((aT k).1).n, .bool ((aT k).1).r, .bool ((aT k).1).e, .int .i64 ((aT k).1).c, .int .i64 ((aT k).1).w, .int .i64 ((aT k).1).a, .int .i64 ((aT k).1).s, .int .i64 ((aT k).1).l])] W0 wr) (fun iv _ _ _ => match iv with | .int _ q => 8 - q.toNat | _ => 0)
  case atStart => exact ⟨0, _, _, Nat.zero_le _, rfl, hs2, hb2, hm, hz, hX⟩
  case round =>
    clear hX hs2 hb2 hm hz
    obtain ⟨k, vs2, vb2, hk, rfl, hs2, hb2, hm, hz, hX⟩ := hrel
    by_cases hk8 : k < 8
    · have hki : (k : Int) < 8 := by omega
      go_wp2_with (first | (go_at_call 26; (with_reducible refine (t0 k vs2 vb2 u4 u5 _ _ hX.below (xb_lt hX) hs2 hb2 hm hz).mono ?_); rintro e' wT ⟨x, y, z, rfl, ⟨vs3, vb3, rfl, hs3, hb3⟩, hm3, hz3, hbb⟩; replace hX := hX.step hbb; clear hbb hs2 hb2 hm hz) | ((with_reducible refine at_store ?_); refine wpList_bag_overV (cs' := [vs3, vb3, .bool ((aT (k + 1)).1).n, .bool ((aT (k + 1)).1).r, .bool ((aT (k + 1)).1).e, .int .i64 ((aT (k + 1)).1).c, .int .i64 ((aT (k + 1)).1).w, .int .i64 ((aT (k + 1)).1).a, .int .i64 ((aT (k + 1)).1).s, .int .i64 ((aT (k + 1)).1).l]) hX aggK sizK _ _ rfl rfl rfl rfl rfl rfl rfl rfl (one_dk (sts_one hs3.now) (its_one hb3.now) _ _ _ _ _ _ _ _) ?_; clear hX; intro wz hX hkz; replace hs3 := hs3.over hkz rfl; replace hb3 := hb3.over hkz rfl; replace hm3 := hm3.over hkz rfl; replace hz3 := hz3.over hkz rfl; clear hkz) | ((with_reducible refine at_load ?_); refine wpList_bag_part (k := 0) hX aggK sizK _ rfl rfl rfl rfl (by first | exact .head _) (fun jz vz hz => (congrArg (fun n => ([_, _, _, _, _, _, _, _, _, _] : List Value)[n]?) (Nat.zero_add jz)).trans hz) rfl ?_))
      exact ⟨⟨k + 1, _, _, by omega, by go_num, hs3, hb3, hm3, hz3, hX⟩, by simp only; omega⟩
    obtain rfl : k = 8 := by omega
    have hki : ¬ ((8 : Nat) : Int) < 8 := by omega
    have hB1 := xb_lt hX
    go_wp2_with (first | (go_at_call 14; (with_reducible refine (q1 vs2 vb2 _ hX.below hs2.now hb2.now).mono ?_); rintro e' wR ⟨rfl, hbb⟩; replace hX := hX.step hbb; replace hs2 := hs2.below hbb; replace hb2 := hb2.below hbb; replace hm := hm.below hbb; replace hz := hz.below hbb; clear hbb) | (go_at_call 14; (with_reducible refine (q2 vs2 vb2 _ hX.below hs2.now hb2.now).mono ?_); rintro e' wR ⟨rfl, hbb⟩; replace hX := hX.step hbb; replace hs2 := hs2.below hbb; replace hb2 := hb2.below hbb; replace hm := hm.below hbb; replace hz := hz.below hbb; clear hbb) | (go_at_call 30; (with_reducible refine (c1 vs2 vb2 _ hX.below _ (xb_lt hX) hs2 hb2).mono ?_); rintro e' wD ⟨x, rfl, ⟨vs4, vb4, rfl, hs4, hb4⟩, hbb⟩; replace hX := (hX.step hbb).new 27 [.slice none 0 0, .slice none 0 0, .bool false, .bool false, .bool false, .int .i64 0, .int .i64 0, .int .i64 0, .int .i64 0, .int .i64 0]; replace hs4 : StsX (XB wD.heap.size) _ vs4 _ := hs4.weak ((Below.refl _ _).alloc (Nat.le_refl _) (.cells ([.slice none 0 0, .slice none 0 0, .bool false, .bool false, .bool false, .int .i64 0, .int .i64 0, .int .i64 0, .int .i64 0, .int .i64 0] : List Value).toArray 27)) xb_new; replace hb4 : ItsX (XB wD.heap.size) _ vb4 _ := hb4.weak ((Below.refl _ _).alloc (Nat.le_refl _) (.cells ([.slice none 0 0, .slice none 0 0, .bool false, .bool false, .bool false, .int .i64 0, .int .i64 0, .int .i64 0, .int .i64 0, .int .i64 0] : List Value).toArray 27)) xb_new; replace hm : ItsX (XB wD.heap.size) _ u4 _ := (hm.below hbb).weak ((Below.refl _ _).alloc (Nat.le_refl _) (.cells ([.slice none 0 0, .slice none 0 0, .bool false, .bool false, .bool false, .int .i64 0, .int .i64 0, .int .i64 0, .int .i64 0, .int .i64 0] : List Value).toArray 27)) xb_new; replace hz : ItsX (XB wD.heap.size) _ u5 _ := (hz.below hbb).weak ((Below.refl _ _).alloc (Nat.le_refl _) (.cells ([.slice none 0 0, .slice none 0 0, .bool false, .bool false, .bool false, .int .i64 0, .int .i64 0, .int .i64 0, .int .i64 0, .int .i64 0] : List Value).toArray 27)) xb_new; clear hs2 hb2; clear hbb) | ((with_reducible refine at_store ?_); refine wpList_bag_overV (cs' := [vs4, vb4, .bool ((aU 0).1).n, .bool ((aU 0).1).r, .bool ((aU 0).1).e, .int .i64 ((aU 0).1).c, .int .i64 ((aU 0).1).w, .int .i64 ((aU 0).1).a, .int .i64 ((aU 0).1).s, .int .i64 ((aU 0).1).l]) hX aggK sizK _ _ rfl rfl rfl rfl rfl rfl rfl rfl (one_dk (sts_one hs4.now) (its_one hb4.now) _ _ _ _ _ _ _ _) ?_; clear hX; intro wz hX hkz; replace hs4 := hs4.over hkz rfl; replace hb4 := hb4.over hkz rfl; replace hm := hm.over hkz rfl; replace hz := hz.over hkz rfl; clear hkz) | ((with_reducible refine at_load ?_); refine wpList_bag_part (k := 0) hX aggK sizK _ rfl rfl rfl rfl (by first | exact .head _) (fun jz vz hz => (congrArg (fun n => ([_, _, _, _, _, _, _, _, _, _] : List Value)[n]?) (Nat.zero_add jz)).trans hz) rfl ?_))
    go_loopw [46, 4, 5] (fun iv vm vz wr => ∃ (k : Nat) (vs vb : Value), k ≤ 8 ∧ iv = .int .i64 k ∧ StsX (XB wD.heap.size) wr vs (aU k).1.D.S ∧ ItsX (XB wD.heap.size) wr vb (aU k).1.D.B ∧ ItsX (XB wD.heap.size) wr vm (aU k).2.1 ∧ ItsX (XB wD.heap.size) wr vz (aU k).2.2 ∧ Bag [(wD.heap.size, 27, [vs, vb, .bool ((aU k).1).n, .bool ((aU k).1).r, .bool ((aU k).1).e, .int .i64 ((aU k).1).c, .int .i64 ((aU k).1).w, .int .i64 ((aU k).1).a, .int .i64 ((aU k).1).s, .int .i64 ((aU k).1).l]), (wC.heap.size, 27, [vs2, vb2, .bool ((aT 8).1).n, .bool ((aT 8).1).r, .bool ((aT 8).1).e, .int .i64 ((aT 8).1).c, .int .i64 ((aT 8).1).w, .int .i64 ((aT 8).1).a, .int .i64 ((aT 8).1).s, .int .i64 ((aT 8).1).l])] W0 wr) (fun iv _ _ _ => match iv with | .int _ q => 8 - q.toNat | _ => 0)
    case atStart => exact ⟨0, _, _, Nat.zero_le _, rfl, hs4, hb4, hm, hz, hX⟩
    case round =>
      clear hX hs4 hb4 hm hz
      obtain ⟨k, vs5, vb5, hk, rfl, hs5, hb5, hm, hz, hX⟩ := hrel
      by_cases hk8 : k < 8
      · have hki : (k : Int) < 8 := by omega
        go_wp2_with (first | (go_at_call 26; (with_reducible refine (t1 k vs5 vb5 u4 u5 _ _ hX.below (xb_lt hX) hs5 hb5 hm hz).mono ?_); rintro e' wT ⟨x, y, z, rfl, ⟨vs3, vb3, rfl, hs3, hb3⟩, hm3, hz3, hbb⟩; replace hX := hX.step hbb; clear hbb hs5 hb5 hm hz) | ((with_reducible refine at_store ?_); refine wpList_bag_overV (cs' := [vs3, vb3, .bool ((aU (k + 1)).1).n, .bool ((aU (k + 1)).1).r, .bool ((aU (k + 1)).1).e, .int .i64 ((aU (k + 1)).1).c, .int .i64 ((aU (k + 1)).1).w, .int .i64 ((aU (k + 1)).1).a, .int .i64 ((aU (k + 1)).1).s, .int .i64 ((aU (k + 1)).1).l]) hX aggK sizK _ _ rfl rfl rfl rfl rfl rfl rfl rfl (one_dk (sts_one hs3.now) (its_one hb3.now) _ _ _ _ _ _ _ _) ?_; clear hX; intro wz hX hkz; replace hs3 := hs3.over hkz rfl; replace hb3 := hb3.over hkz rfl; replace hm3 := hm3.over hkz rfl; replace hz3 := hz3.over hkz rfl; clear hkz) | ((with_reducible refine at_load ?_); refine wpList_bag_part (k := 0) hX aggK sizK _ rfl rfl rfl rfl (by first | exact .head _ | exact .tail _ (.head _)) (fun jz vz hz => (congrArg (fun n => ([_, _, _, _, _, _, _, _, _, _] : List Value)[n]?) (Nat.zero_add jz)).trans hz) rfl ?_))
        exact ⟨⟨k + 1, _, _, by omega, by go_num, hs3, hb3, hm3, hz3, hX⟩, by simp only; omega⟩
      obtain rfl : k = 8 := by omega
      have hki : ¬ ((8 : Nat) : Int) < 8 := by omega
      obtain ⟨A, c, rfl, hc, hA⟩ := hm.now.form
      obtain ⟨A2, c2, rfl, hc2, hA2⟩ := hz.now.form
      obtain ⟨a, rfl, hld⟩ := hA 256 513 a_f5
      have f7 := a_f7
      have f6 : (aU 8).2.2.length = 0 := by rw [a_f6]; rfl
      clear hA hA2 hc hc2
      simp only [a_f4] at q3
      rw [a_f4] at hX
      go_wp2_with (first | (go_at_call 14; (with_reducible refine (q3 vs5 vb5 _ hX.below hs5.now hb5.now).mono ?_); rintro e' wR ⟨rfl, hbb⟩; replace hX := hX.step hbb; replace hs5 := hs5.below hbb; replace hb5 := hb5.below hbb; have hB := hbb; clear hbb hs5 hb5 hm hz) | ((with_reducible refine at_load ?_); refine wpList_bag_part (k := 0) hX aggK sizK _ rfl rfl rfl rfl (by first | exact .head _ | exact .tail _ (.head _)) (fun jz vz hz => (congrArg (fun n => ([_, _, _, _, _, _, _, _, _, _] : List Value)[n]?) (Nat.zero_add jz)).trans hz) rfl ?_) | ((with_reducible refine at_load ?_); refine wpList_loadW rfl 3 _ _ _ rfl rfl (hld _ hB) ?_) | ((with_reducible refine at_load ?_); refine wpList_bag_cell hX int_cell _ rfl rfl rfl rfl (by first | exact .head _ | exact .tail _ (.head _)) rfl ?_) | ((with_reducible refine at_load ?_); refine wpList_bag_cell hX bool_cell _ rfl rfl rfl rfl (by first | exact .head _ | exact .tail _ (.head _)) rfl ?_))
      go_ret
      exact ⟨rfl, hX.below⟩



end Go.Proofs.Ytjolhlfjpnlcnaa
