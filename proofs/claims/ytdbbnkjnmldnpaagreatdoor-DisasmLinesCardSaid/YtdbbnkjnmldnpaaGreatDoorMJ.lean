import Derived.Test.YtdbbnkjnmldnpaaGreatDoorDH
import Derived.Test.YtdbbnkjnmldnpaaGreatDoorDsL
import Derived.Deep.AppendLies
/-
  Walks over strings.Join at the texts behind a mnemonic, and over Text of package disasm. Condition: the tables read as the program's text lays them.
-/
namespace Go.Proofs.YtdbbnkjnmldnpaaGreatDoor
open Go.RowKit
set_option linter.unusedSimpArgs false
set_option linter.unusedVariables false
set_option maxHeartbeats 8000000
set_option maxRecDepth 100000

theorem vR_rng {o : Int} {b : Bool} {m r x p q y g n : Int} (hv : vR ⟨o, b, m, r, x, p, q, y, g, n⟩ = true) : (1 ≤ o ∧ o ≤ 56) ∧ (0 ≤ g ∧ g ≤ 7) := by
  cases hf : formR o with
  | none => rw [vR_none (i := ⟨o, b, m, r, x, p, q, y, g, n⟩) hf] at hv; cases hv
  | some e =>
    rw [vR_some (i := ⟨o, b, m, r, x, p, q, y, g, n⟩) hf] at hv
    have hin : 1 ≤ o ∧ o ≤ 56 := by
      by_cases h : o < 1 ∨ 56 < o
      · rw [form_none h] at hf; cases hf
      · omega
    refine ⟨hin, ?_⟩
    simp only [Bool.and_eq_true] at hv
    have h1 := hv.1
    unfold hoR at h1
    simp only [Bool.and_eq_true, decide_eq_true_eq] at h1
    have hmem : e ∈ rows := List.mem_of_find?_eq_some hf
    have h3 : ∀ e ∈ rows, takeR e.e3 e.e3 ≤ 7 := by decide
    have := h3 e hmem
    omega

theorem darg_any (o : Int) (b : Bool) (m r x p q y g n a : Int) (hv : vR ⟨o, b, m, r, x, p, q, y, g, n⟩ = true) {A : Addr} {c : Nat} (W0 : World) (W : Dis A c W0) :
    Calls Tryz.prog 23 #[.agg #[.int .i64 o, .bool b, .int .i64 m, .int .i64 r, .int .i64 x, .int .i64 p, .int .i64 q, .int .i64 y, .int .i64 g, .int .i64 n], .int .i64 a] W0 fun e w' => ∃ v, e = .returned v ∧ Strs w' v (agT ⟨o, b, m, r, x, p, q, y, g, n⟩ a) ∧ Below W0.heap.size W0 w' := by
  obtain ⟨ho, hg⟩ := vR_rng hv
  have hc : ((1 ≤ o ∧ o ≤ 7)) ∨ ((8 ≤ o ∧ o ≤ 10)) ∨ (o = 11 ∨ o = 42) ∨ (o = 44) ∨ ((12 ≤ o ∧ o ≤ 25) ∨ o = 41 ∨ o = 56) ∨ (o = 55) ∨ (o = 43) ∨ ((26 ≤ o ∧ o ≤ 40)) ∨ ((45 ≤ o ∧ o ≤ 46) ∨ (53 ≤ o ∧ o ≤ 54)) ∨ ((47 ≤ o ∧ o ≤ 52)) := by omega
  rcases hc with h | h | h | h | h | h | h | h | h | h
  · exact darg_a o b m r x p q y g n a (by omega) hg W0 W
  · exact darg_b o b m r x p q y g n a (by omega) hg W0 W
  · exact darg_c o b m r x p q y g n a (by omega) hg W0 W
  · exact darg_h o b m r x p q y g n a (by omega) hg W0 W
  · exact darg_d o b m r x p q y g n a (by omega) hg W0 W
  · exact darg_e o b m r x p q y g n a (by omega) hg W0 W
  · exact darg_f o b m r x p q y g n a (by omega) hg W0 W
  · exact darg_g o b m r x p q y g n a (by omega) hg W0 W
  · exact darg_i o b m r x p q y g n a (by omega) hg W0 W
  · exact darg_j o b m r x p q y g n a (by omega) hg W0 W

theorem agT_len (i : In) (a : Int) : (agT i a).length ≤ 2 := by
  unfold agT
  repeat' split
  all_goals simp
theorem agT_each (i : In) (a : Int) : ∀ s ∈ agT i a, s.length ≤ 13 := by
  have h1 := opT_len i.m i.r i.x (a + 4)
  have h2 := opT_len i.p i.q i.y (a + lenR i * 2)
  have h3 := rgT_len i.g
  have h4 := tgT_len a i.n
  have h5 := tgT_len a (-i.n)
  have h6 := nuT_len i.n
  unfold agT srT dsT
  intro s
  repeat' split
  all_goals (simp only [List.mem_cons, List.not_mem_nil, or_false, false_imp_iff])
  all_goals (first | (rintro (rfl | rfl) <;> omega) | (rintro rfl; omega) | skip)
theorem joT_len : ∀ l : List (List UInt8), l.length ≤ 2 → (∀ s ∈ l, s.length ≤ 13) → (joT l).length ≤ 28
  | [], _, _ => by simp [joT]
  | [a], _, h => by have := h a (by simp); simp only [joT]; omega
  | [a, b], _, h => by
    have h1 := h a (by simp)
    have h2 := h b (by simp)
    simp only [joT, List.length_append, List.length_cons]; omega
  | a :: b :: c :: l, h, _ => by simp at h
theorem join_joT : ∀ l : List (List UInt8), Lib.join l [44, 32] = joT l
  | [] => rfl
  | [a] => by rw [Lib.join_one]; rfl
  | a :: b :: l => by
    have ih := join_joT (b :: l)
    have e : joT (a :: b :: l) = a ++ 44 :: 32 :: joT (b :: l) := rfl
    rw [e, ← ih]
    simp [Lib.join, List.intercalate, List.intersperse]
theorem djoin_any (l : List (List UInt8)) (v : Value) (w : World) (hv : Strs w v l) (hl : l.length ≤ 2) (hs : ∀ s ∈ l, s.length ≤ 13) (hne : l ≠ []) :
    Calls Tryz.prog 24 #[v, .string ⟨#[44, 32]⟩] w fun e w' => e = .returned (.string ⟨(joT l).toArray⟩) ∧ Below w.heap.size w w' := by
  rcases hv with ⟨h, _⟩ | ⟨bk, c, rfl, hc, hcell, hlt⟩
  · exact absurd h hne
  · have hm : (l.map fun s => (⟨s.toArray⟩ : ByteArray)).map (·.data.toList) = l := by
      rw [List.map_map]
      conv => rhs; rw [← List.map_id l]
      exact List.map_congr_left fun s _ => by simp
    have h := Tryz.strings_Join bk 0 c (l.map fun s => (⟨s.toArray⟩ : ByteArray)) ⟨#[44, 32]⟩ w (fun j x hx => by
      rw [List.getElem?_map] at hx
      obtain ⟨s, hs1, rfl⟩ := Option.map_eq_some_iff.1 hx
      rw [Nat.zero_add]
      exact hcell j s hs1) hlt (by simp; omega) (by simpa using hc) (by rw [hm]; show (Lib.join l [44, 32]).length ≤ _; rw [join_joT]; have := joT_len l hl hs; omega)
    rw [hm] at h
    simp only [List.length_map] at h
    refine h.mono ?_
    rintro e w' ⟨rfl, hb⟩
    exact ⟨by rw [← join_joT], hb⟩

theorem strs_len {w : World} {v : Value} {l : List (List UInt8)} (h : Strs w v l) : ∃ A c, v = .slice A l.length c := by
  rcases h with ⟨rfl, rfl⟩ | ⟨bk, c, rfl, _⟩
  · exact ⟨_, _, rfl⟩
  · exact ⟨_, _, rfl⟩
theorem strs_some {w : World} {v : Value} {l : List (List UInt8)} (h : Strs w v l) (hne : l ≠ []) : ∃ bk c, v = .slice (some ⟨bk, 0, none⟩) l.length c ∧ l.length ≤ c := by
  rcases h with ⟨h, _⟩ | ⟨bk, c, rfl, h, _⟩
  · exact absurd h hne
  · exact ⟨_, _, rfl, h⟩
theorem dtext_any (o : Int) (b : Bool) (m r x p q y g n a : Int) {A : Addr} {c : Nat} (W0 : World) (W : Dis A c W0) :
    Calls Tryz.prog 10 #[.agg #[.int .i64 o, .bool b, .int .i64 m, .int .i64 r, .int .i64 x, .int .i64 p, .int .i64 q, .int .i64 y, .int .i64 g, .int .i64 n], .int .i64 a] W0 fun e w' => e = .returned (.string ⟨(txT ⟨o, b, m, r, x, p, q, y, g, n⟩ a).toArray⟩) ∧ Below W0.heap.size W0 w' := by
  have hX := (St.start W.frm).put [.int .i64 o, .bool b, .int .i64 m, .int .i64 r, .int .i64 x, .int .i64 p, .int .i64 q, .int .i64 y, .int .i64 g, .int .i64 n] 36
  have hv := fun w (k : Frm A c w) => Valid_any o b m r x p q y g n w k
  obtain ⟨i0, i1, i2, i3, i4, i5, i6, i7, i8, i9⟩ := hX.ten 0 rfl
  cases hV : vR ⟨o, b, m, r, x, p, q, y, g, n⟩ with
  | false =>
    have e : txT ⟨o, b, m, r, x, p, q, y, g, n⟩ a = [] := by unfold txT; rw [hV]; rfl
    rw [e]
    rw [hV] at hv
    clear e hV
    go_enter Tryz.func10, Tryz.ntmps10
    go_wp2_with (first | (go_at_call 21; with_reducible refine (hv _ hX.frm).mono ?_; rintro e w' ⟨rfl, hb⟩; have hX := hX.step hb; clear hb))
    go_ret
    exact ⟨rfl, hX.below⟩
  | true =>
    have hab := fun w D => dabb_any o b m r x p q y g n (A := A) (c := c) w D
    have hnm := fun w D => dnam_any o b (A := A) (c := c) w D
    have har := fun w D => darg_any o b m r x p q y g n a hV (A := A) (c := c) w D
    have e : txT ⟨o, b, m, r, x, p, q, y, g, n⟩ a = (match abT o n with | some s => s | none => nmT o b ++ tlT (agT ⟨o, b, m, r, x, p, q, y, g, n⟩ a)) := by unfold txT; rw [hV]; rfl
    rw [e]
    rw [hV] at hv
    have l1 := nmT_len o b
    have s1 := tx_size (nmT o b)
    have l2 := agT_len ⟨o, b, m, r, x, p, q, y, g, n⟩ a
    have l3 := agT_each ⟨o, b, m, r, x, p, q, y, g, n⟩ a
    have l4 := joT_len _ l2 l3
    have s4 := tx_size (joT (agT ⟨o, b, m, r, x, p, q, y, g, n⟩ a))
    clear e hV
    cases hA : abT o n with
    | some s =>
      rw [hA] at hab
      simp only [Option.getD_some, Option.isSome_some] at hab
      clear l2 l3 l4 s4 l1 s1 har hnm hA
      go_enter Tryz.func10, Tryz.ntmps10
      go_wp2_with (first | (go_at_call 21; with_reducible refine (hv _ hX.frm).mono ?_; rintro e w' ⟨rfl, hb⟩; have hX := hX.step hb; clear hb; obtain ⟨i0, i1, i2, i3, i4, i5, i6, i7, i8, i9⟩ := hX.ten 0 rfl) | (go_at_call 22; with_reducible refine (hab _ (hX.dis W)).mono ?_; rintro e w' ⟨rfl, hb⟩; have hX := hX.step hb; clear hb))
      go_ret
      exact ⟨rfl, hX.below⟩
    | none =>
      rw [hA] at hab
      simp only [Option.getD_none, Option.isSome_none] at hab
      clear hA
      have hjo := fun v w h hne => djoin_any (agT ⟨o, b, m, r, x, p, q, y, g, n⟩ a) v w h l2 l3 hne
      generalize agT ⟨o, b, m, r, x, p, q, y, g, n⟩ a = L at *
      generalize nmT o b = M at *
      simp only
      by_cases hL : L = []
      · subst hL
        have e : tlT [] = [] := rfl
        rw [e, List.append_nil]
        clear e hjo l2 l3 l4 s4
        go_enter Tryz.func10, Tryz.ntmps10
        go_wp2_with (first | (go_at_call 21; with_reducible refine (hv _ hX.frm).mono ?_; rintro e w' ⟨rfl, hb⟩; have hX := hX.step hb; clear hb; obtain ⟨i0, i1, i2, i3, i4, i5, i6, i7, i8, i9⟩ := hX.ten 0 rfl) | (go_at_call 22; with_reducible refine (hab _ (hX.dis W)).mono ?_; rintro e w' ⟨rfl, hb⟩; have hX := hX.step hb; clear hb; obtain ⟨i0, i1, i2, i3, i4, i5, i6, i7, i8, i9⟩ := hX.ten 0 rfl) | (go_at_call 8; with_reducible refine (hnm _ (hX.dis W)).mono ?_; rintro e w' ⟨rfl, hb⟩; have hX := hX.step hb; clear hb; obtain ⟨i0, i1, i2, i3, i4, i5, i6, i7, i8, i9⟩ := hX.ten 0 rfl) | (go_at_call 23; with_reducible refine (har _ (hX.dis W)).mono ?_; rintro e w' ⟨v, rfl, hS, hb⟩; have hX := hX.step hb; clear hb; obtain ⟨A0, c0, rfl⟩ := strs_len hS))
        go_ret
        exact ⟨rfl, hX.below⟩
      · have e : tlT L = 32 :: joT L := if_neg (by simpa using hL)
        rw [e]
        clear e l2 l3
        have hLp : 0 < L.length := List.length_pos_iff.2 hL
        have hLi : (0 : Int) < (L.length : Int) := by omega
        have hjo := fun v w h => hjo v w h hL
        generalize joT L = J at *
        go_enter Tryz.func10, Tryz.ntmps10
        go_wp2_with (first | (go_at_call 21; with_reducible refine (hv _ hX.frm).mono ?_; rintro e w' ⟨rfl, hb⟩; have hX := hX.step hb; clear hb; obtain ⟨i0, i1, i2, i3, i4, i5, i6, i7, i8, i9⟩ := hX.ten 0 rfl) | (go_at_call 22; with_reducible refine (hab _ (hX.dis W)).mono ?_; rintro e w' ⟨rfl, hb⟩; have hX := hX.step hb; clear hb; obtain ⟨i0, i1, i2, i3, i4, i5, i6, i7, i8, i9⟩ := hX.ten 0 rfl) | (go_at_call 8; with_reducible refine (hnm _ (hX.dis W)).mono ?_; rintro e w' ⟨rfl, hb⟩; have hX := hX.step hb; clear hb; obtain ⟨i0, i1, i2, i3, i4, i5, i6, i7, i8, i9⟩ := hX.ten 0 rfl) | (go_at_call 23; with_reducible refine (har _ (hX.dis W)).mono ?_; rintro e w' ⟨v, rfl, hS, hb⟩; have hX := hX.step hb; clear hb; have hS2 := hS; obtain ⟨bk, cc, rfl, hcc⟩ := strs_some hS2 hL) | (go_at_call 24; with_reducible refine (hjo _ _ hS).mono ?_; rintro e w' ⟨rfl, hb⟩; have hX := hX.step hb; clear hb))
        go_ret
        refine ⟨?_, hX.below⟩
        simp [ba_app]

end Go.Proofs.YtdbbnkjnmldnpaaGreatDoor

/-
  Walks over first and Lines of package disasm. Conditions: the tables read as the program's text lays them; the list has at most 2^40 elements.
-/
namespace Go.Proofs.YtdbbnkjnmldnpaaGreatDoor
open Go.RowKit
set_option linter.unusedSimpArgs false
set_option linter.unusedVariables false
set_option maxHeartbeats 8000000
set_option maxRecDepth 100000

theorem txT_mod (i : In) {a b : Int} (h : a % 65536 = b % 65536) : txT i a = txT i b := by
  have e1 : srT i a = srT i b := opT_mod _ _ _ (by omega)
  have e2 : dsT i a = dsT i b := opT_mod _ _ _ (by omega)
  have e3 : tgT a i.n = tgT b i.n := nuT_mod (by omega)
  have e4 : tgT a (-i.n) = tgT b (-i.n) := nuT_mod (by omega)
  have e : agT i a = agT i b := by unfold agT; rw [e1, e2, e3, e4]
  unfold txT
  rw [e]
theorem adT_mod {a b : Int} (h : a % 65536 = b % 65536) : adT a = adT b := by unfold adT; rw [h]
theorem fsT_mod (l : List Int) {a b : Int} (h : a % 65536 = b % 65536) : fsT l a = fsT l b := by unfold fsT; rw [txT_mod _ h]
theorem lnT_mod : ∀ (k : Nat) (l : List Int) {a b : Int}, a % 65536 = b % 65536 → lnT k l a = lnT k l b
  | 0, _, _, _, _ => rfl
  | k + 1, l, a, b, h => by
    unfold lnT
    rw [fsT_mod l h, adT_mod h, lnT_mod k _ (a := a + 2 * (fsT l b).2) (b := b + 2 * (fsT l b).2) (by omega)]
theorem dc_rng (l : List Int) : (dcI l).2 = 0 ∨ (1 ≤ (dcI l).2 ∧ (dcI l).2 ≤ 3 ∧ (dcI l).2 ≤ (l.length : Int)) := by
  have hn : ∀ i, 1 ≤ nR i ∧ nR i ≤ 3 := fun i => by
    unfold nR bi
    repeat' split
    all_goals omega
  cases l with
  | nil => exact Or.inl rfl
  | cons w t =>
    show (if 0 ≤ w ∧ w ≤ 65535 then dcW w t else (nil10, 0)).2 = 0 ∨ _
    have e : dcI (w :: t) = if 0 ≤ w ∧ w ≤ 65535 then dcW w t else (nil10, 0) := rfl
    rw [e]
    split
    · unfold dcW
      split
      · exact Or.inl rfl
      · split
        · next h => exact Or.inr ⟨(hn _).1, (hn _).2, by simp only [List.length_cons]; omega⟩
        · exact Or.inl rfl
    · exact Or.inl rfl
theorem fsT_rng (l : List Int) (a : Int) (hne : 0 < l.length) : 1 ≤ (fsT l a).2 ∧ (fsT l a).2 ≤ 3 ∧ (fsT l a).2 ≤ l.length := by
  unfold fsT
  rcases dc_rng l with h | ⟨h1, h2, h3⟩
  · rw [if_pos h]; simp only; omega
  · rw [if_neg (by omega)]; simp only; omega
theorem adT_len (n : Int) : (adT n).length = 6 := by
  have h := digs_6 (n % 65536).toNat (by omega)
  unfold adT pd6
  rw [List.length_append, List.length_replicate]; omega
theorem abT_len (o n : Int) (s : List UInt8) (h : abT o n = some s) : s.length ≤ 3 := by
  unfold abT at h
  obtain ⟨e, he, rfl⟩ := Option.map_eq_some_iff.1 h
  have h3 : ∀ e ∈ abv, e.1.length ≤ 3 := by decide
  exact h3 e (List.mem_of_find?_eq_some he)
theorem txT_len (i : In) (a : Int) : (txT i a).length ≤ 35 := by
  have h1 := nmT_len i.o i.b
  have h2 := joT_len _ (agT_len i a) (agT_each i a)
  unfold txT
  split
  · split
    · next s hs => have := abT_len _ _ s hs; omega
    · unfold tlT
      split
      · simp; omega
      · simp only [List.length_append, List.length_cons]; omega
  · simp
theorem fsT_len (l : List Int) (a : Int) : (fsT l a).1.length ≤ 35 := by
  unfold fsT
  split
  · have := adT_len (l.getD 0 0)
    simp only [List.length_append, List.length_cons, List.length_nil]; omega
  · exact txT_len _ _
theorem lnT_fuel : ∀ (k : Nat) (l : List Int) (a : Int), l.length ≤ k → lnT k l a = lnT l.length l a
  | 0, l, a, h => by rw [List.length_eq_zero_iff.1 (Nat.le_zero.1 h)]; rfl
  | k + 1, l, a, h => by
    cases hl : l.length with
    | zero => unfold lnT; rw [if_pos hl]
    | succ m =>
      have hr := fsT_rng l a (by omega)
      have hd : (l.drop (fsT l a).2).length ≤ m := by rw [List.length_drop]; omega
      unfold lnT
      rw [if_neg (by omega), if_neg (by omega), lnT_fuel k _ _ (by omega), lnT_fuel m _ _ hd]
theorem lnT_step (l : List Int) (a : Int) (h : 0 < l.length) : lnT l.length l a = (adT a ++ 32 :: (fsT l a).1) :: lnT (l.drop (fsT l a).2).length (l.drop (fsT l a).2) (wrap64 (a + (fsT l a).2 * 2)) := by
  obtain ⟨m, hm⟩ : ∃ m, l.length = m + 1 := ⟨l.length - 1, by omega⟩
  have hr := fsT_rng l a h
  rw [hm]
  conv => lhs; unfold lnT
  rw [if_neg (by omega), lnT_fuel m _ _ (by rw [List.length_drop]; omega), lnT_mod _ _ (a := a + 2 * ((fsT l a).2 : Int)) (b := wrap64 (a + (fsT l a).2 * 2)) (by unfold wrap64; omega)]

theorem dfirst_any (l : List Int) (v : Value) (a : Int) (hl : l.length ≤ 1099511627776) (hne : 0 < l.length) {A : Addr} {c : Nat} (W0 : World) (W : Dis A c W0) (hv : Nums .i64 W0 v l) :
    Calls Tryz.prog 11 #[v, .int .i64 a] W0 fun e w' => e = .returned (.tuple #[.string ⟨(fsT l a).1.toArray⟩, .int .i64 ((fsT l a).2 : Int)]) ∧ Below W0.heap.size W0 w' := by
  have hD := Decode_any l v hl W0 W.frm hv
  have hrg := dc_rng l
  obtain ⟨x, t, rfl⟩ : ∃ x t, l = x :: t := by cases l with
    | nil => simp at hne
    | cons x t => exact ⟨x, t, rfl⟩
  obtain ⟨A1, cp, rfl, hcp, hcell⟩ := hv
  obtain ⟨a1, rfl, hx, hxl⟩ := hcell 0 x rfl
  have hl0 : (0 : Int) < ((x :: t).length : Int) := by simp only [List.length_cons]; omega
  have ef : fsT (x :: t) a = if (dcI (x :: t)).2 = 0 then ([46, 119, 111, 114, 100, 32, 48, 111] ++ adT x, 1) else (txT (dcI (x :: t)).1 a, (dcI (x :: t)).2.toNat) := rfl
  rw [ef]
  clear ef
  rcases hdc : dcI (x :: t) with ⟨⟨o, b, m, r, x2, p, q, y, g, n⟩, N⟩
  rw [hdc] at hD hrg
  simp only at hrg
  replace hD : Calls Tryz.prog 25 #[.slice (some a1) (x :: t).length cp] W0 fun e w' => e = .returned (.tuple #[.agg #[.int .i64 o, .bool b, .int .i64 m, .int .i64 r, .int .i64 x2, .int .i64 p, .int .i64 q, .int .i64 y, .int .i64 g, .int .i64 n], .int .i64 N]) ∧ Below W0.heap.size W0 w' := hD
  clear hdc hcell hcp
  rw [show a1.add 0 = a1 from rfl] at hx hxl
  generalize hLL : (x :: t).length = LL at *
  by_cases hN : N = 0
  · subst hN
    have hd := fun w D => ddig_any x w D
    have l1 := adT_len x
    have s1 := tx_size (adT x)
    rw [if_pos rfl]
    generalize adT x = X at *
    go_enter Tryz.func11, Tryz.ntmps11
    go_wp2_with (first | (go_at_call 25; with_reducible refine hD.mono ?_; rintro _ w' ⟨rfl, hb⟩; have hx := (hb.cell hxl).trans hx; have hlt := Nat.lt_of_lt_of_le hxl hb.size; have hbb := hb.trans (((Below.refl w'.heap.size w').alloc (Nat.le_refl _) (.cells #[.int .i64 o, .bool b, .int .i64 m, .int .i64 r, .int .i64 x2, .int .i64 p, .int .i64 q, .int .i64 y, .int .i64 g, .int .i64 n] 36)).mono hb.size); clear hb) | (go_at_call 12; with_reducible refine (hd _ (W.step hbb).tb).mono ?_; rintro e w'' ⟨rfl, hb⟩; have hbb := hbb.trans (hb.mono hbb.size); clear hb))
    go_ret2
    refine ⟨?_, hbb⟩
    simp [ba_app]
  · have hN1 : 1 ≤ N := by omega
    obtain ⟨K, rfl⟩ : ∃ K : Nat, N = (K : Int) := ⟨N.toNat, by omega⟩
    have ht := fun w D => dtext_any o b m r x2 p q y g n a (A := A) (c := c) w D
    rw [if_neg hN]
    have hKn : ((K : Int) == 0) = false := beq_eq_false_iff_ne.2 hN
    simp only [Int.toNat_natCast]
    generalize txT ⟨o, b, m, r, x2, p, q, y, g, n⟩ a = X at *
    go_enter Tryz.func11, Tryz.ntmps11
    go_wp2_with (first | (go_at_call 25; with_reducible refine hD.mono ?_; rintro _ w' ⟨rfl, hb⟩; have hX := (St.start (W.frm.step hb)).put [.int .i64 o, .bool b, .int .i64 m, .int .i64 r, .int .i64 x2, .int .i64 p, .int .i64 q, .int .i64 y, .int .i64 g, .int .i64 n] 36; obtain ⟨i0, i1, i2, i3, i4, i5, i6, i7, i8, i9⟩ := hX.ten 0 rfl) | (go_at_call 10; with_reducible refine (ht _ (hX.dis (W.step hb))).mono ?_; rintro e w'' ⟨rfl, hb2⟩; have hX := hX.step hb2))
    go_ret2
    exact ⟨rfl, hb.trans (hX.below.mono hb.size)⟩

end Go.Proofs.YtdbbnkjnmldnpaaGreatDoor
