/-
  Walks over strings.Join at the texts behind a mnemonic, and over Text of package disasm. Condition: the tables read as the program's text lays them.
-/
import Derived.Test.YtipaednpelapgaaDoorDwH
import Derived.Test.YtipaednpelapgaaDoorDwI
namespace Go.Proofs.YtipaednpelapgaaDoor
open Go.RowKit
set_option linter.unusedSimpArgs false
set_option linter.unusedVariables false
set_option maxHeartbeats 8000000
set_option maxRecDepth 100000

theorem vR_rng {o : Int} {b : Bool} {m r x p q y g n : Int} (hv : vR ⟨o, b, m, r, x, p, q, y, g, n⟩ = true) : (1 ≤ o ∧ o ≤ 56) ∧ (0 ≤ g ∧ g ≤ 7) := by
  cases hf : formR o with
  | none => rw [vR_none (i := ⟨o, b, m, r, x, p, q, y, g, n⟩) hf] at hv; cases hv
  | some e =>
    rw [vR_some (i := ⟨o, b, m, r, x, p, q, y, g, n⟩) hf] at hv
    have hin : 1 ≤ o ∧ o ≤ 56 := by
      by_cases h : o < 1 ∨ 56 < o
      · rw [form_none h] at hf; cases hf
      · omega
    refine ⟨hin, ?_⟩
    simp only [Bool.and_eq_true] at hv
    have h1 := hv.1
    unfold hoR at h1
    simp only [Bool.and_eq_true, decide_eq_true_eq] at h1
    have hmem : e ∈ rows := List.mem_of_find?_eq_some hf
    have h3 : ∀ e ∈ rows, takeR e.e3 e.e3 ≤ 7 := by decide
    have := h3 e hmem
    omega

theorem darg_any (o : Int) (b : Bool) (m r x p q y g n a : Int) (hv : vR ⟨o, b, m, r, x, p, q, y, g, n⟩ = true) {A : Addr} {c : Nat} (W0 : World) (W : Dis A c W0) :
    Calls Tryd.prog 29 #[.agg #[.int .i64 o, .bool b, .int .i64 m, .int .i64 r, .int .i64 x, .int .i64 p, .int .i64 q, .int .i64 y, .int .i64 g, .int .i64 n], .int .i64 a] W0 fun e w' => ∃ v, e = .returned v ∧ Strs w' v (agT ⟨o, b, m, r, x, p, q, y, g, n⟩ a) ∧ Below W0.heap.size W0 w' := by
  obtain ⟨ho, hg⟩ := vR_rng hv
  have hc : ((1 ≤ o ∧ o ≤ 7)) ∨ ((8 ≤ o ∧ o ≤ 10)) ∨ (o = 11 ∨ o = 42) ∨ (o = 44) ∨ ((12 ≤ o ∧ o ≤ 25) ∨ o = 41 ∨ o = 56) ∨ (o = 55) ∨ (o = 43) ∨ ((26 ≤ o ∧ o ≤ 40)) ∨ ((45 ≤ o ∧ o ≤ 46) ∨ (53 ≤ o ∧ o ≤ 54)) ∨ ((47 ≤ o ∧ o ≤ 52)) := by omega
  rcases hc with h | h | h | h | h | h | h | h | h | h
  · exact darg_a o b m r x p q y g n a (by omega) hg W0 W
  · exact darg_b o b m r x p q y g n a (by omega) hg W0 W
  · exact darg_c o b m r x p q y g n a (by omega) hg W0 W
  · exact darg_h o b m r x p q y g n a (by omega) hg W0 W
  · exact darg_d o b m r x p q y g n a (by omega) hg W0 W
  · exact darg_e o b m r x p q y g n a (by omega) hg W0 W
  · exact darg_f o b m r x p q y g n a (by omega) hg W0 W
  · exact darg_g o b m r x p q y g n a (by omega) hg W0 W
  · exact darg_i o b m r x p q y g n a (by omega) hg W0 W
  · exact darg_j o b m r x p q y g n a (by omega) hg W0 W

theorem agT_len (i : In) (a : Int) : (agT i a).length ≤ 2 := by
  unfold agT
  repeat' split
  all_goals simp
theorem agT_each (i : In) (a : Int) : ∀ s ∈ agT i a, s.length ≤ 13 := by
  have h1 := opT_len i.m i.r i.x (a + 4)
  have h2 := opT_len i.p i.q i.y (a + lenR i * 2)
  have h3 := rgT_len i.g
  have h4 := tgT_len a i.n
  have h5 := tgT_len a (-i.n)
  have h6 := nuT_len i.n
  unfold agT srT dsT
  intro s
  repeat' split
  all_goals (simp only [List.mem_cons, List.not_mem_nil, or_false, false_imp_iff])
  all_goals (first | (rintro (rfl | rfl) <;> omega) | (rintro rfl; omega) | skip)
theorem joT_len : ∀ l : List (List UInt8), l.length ≤ 2 → (∀ s ∈ l, s.length ≤ 13) → (joT l).length ≤ 28
  | [], _, _ => by simp [joT]
  | [a], _, h => by have := h a (by simp); simp only [joT]; omega
  | [a, b], _, h => by
    have h1 := h a (by simp)
    have h2 := h b (by simp)
    simp only [joT, List.length_append, List.length_cons]; omega
  | a :: b :: c :: l, h, _ => by simp at h
theorem join_joT : ∀ l : List (List UInt8), Lib.join l [44, 32] = joT l
  | [] => rfl
  | [a] => by rw [Lib.join_one]; rfl
  | a :: b :: l => by
    have ih := join_joT (b :: l)
    have e : joT (a :: b :: l) = a ++ 44 :: 32 :: joT (b :: l) := rfl
    rw [e, ← ih]
    simp [Lib.join, List.intercalate, List.intersperse]
theorem djoin_any (l : List (List UInt8)) (v : Value) (w : World) (hv : Strs w v l) (hl : l.length ≤ 2) (hs : ∀ s ∈ l, s.length ≤ 13) (hne : l ≠ []) :
    Calls Tryd.prog 30 #[v, .string ⟨#[44, 32]⟩] w fun e w' => e = .returned (.string ⟨(joT l).toArray⟩) ∧ Below w.heap.size w w' := by
  rcases hv with ⟨h, _⟩ | ⟨bk, c, rfl, hc, hcell, hlt⟩
  · exact absurd h hne
  · have hm : (l.map fun s => (⟨s.toArray⟩ : ByteArray)).map (·.data.toList) = l := by
      rw [List.map_map]
      conv => rhs; rw [← List.map_id l]
      exact List.map_congr_left fun s _ => by simp
    have h := Tryd.strings_Join bk 0 c (l.map fun s => (⟨s.toArray⟩ : ByteArray)) ⟨#[44, 32]⟩ w (fun j x hx => by
      rw [List.getElem?_map] at hx
      obtain ⟨s, hs1, rfl⟩ := Option.map_eq_some_iff.1 hx
      rw [Nat.zero_add]
      exact hcell j s hs1) hlt (by simp; omega) (by simpa using hc) (by rw [hm]; show (Lib.join l [44, 32]).length ≤ _; rw [join_joT]; have := joT_len l hl hs; omega)
    rw [hm] at h
    simp only [List.length_map] at h
    refine h.mono ?_
    rintro e w' ⟨rfl, hb⟩
    exact ⟨by rw [← join_joT], hb⟩

theorem strs_len {w : World} {v : Value} {l : List (List UInt8)} (h : Strs w v l) : ∃ A c, v = .slice A l.length c := by
  rcases h with ⟨rfl, rfl⟩ | ⟨bk, c, rfl, _⟩
  · exact ⟨_, _, rfl⟩
  · exact ⟨_, _, rfl⟩
theorem strs_some {w : World} {v : Value} {l : List (List UInt8)} (h : Strs w v l) (hne : l ≠ []) : ∃ bk c, v = .slice (some ⟨bk, 0, none⟩) l.length c ∧ l.length ≤ c := by
  rcases h with ⟨h, _⟩ | ⟨bk, c, rfl, h, _⟩
  · exact absurd h hne
  · exact ⟨_, _, rfl, h⟩
theorem dtext_any (o : Int) (b : Bool) (m r x p q y g n a : Int) {A : Addr} {c : Nat} (W0 : World) (W : Dis A c W0) :
    Calls Tryd.prog 15 #[.agg #[.int .i64 o, .bool b, .int .i64 m, .int .i64 r, .int .i64 x, .int .i64 p, .int .i64 q, .int .i64 y, .int .i64 g, .int .i64 n], .int .i64 a] W0 fun e w' => e = .returned (.string ⟨(txT ⟨o, b, m, r, x, p, q, y, g, n⟩ a).toArray⟩) ∧ Below W0.heap.size W0 w' := by
  have hX := (St.start W.frm).put [.int .i64 o, .bool b, .int .i64 m, .int .i64 r, .int .i64 x, .int .i64 p, .int .i64 q, .int .i64 y, .int .i64 g, .int .i64 n] 33
  have hv := fun w (k : Frm A c w) => Valid_any o b m r x p q y g n w k
  obtain ⟨i0, i1, i2, i3, i4, i5, i6, i7, i8, i9⟩ := hX.ten 0 rfl
  cases hV : vR ⟨o, b, m, r, x, p, q, y, g, n⟩ with
  | false =>
    have e : txT ⟨o, b, m, r, x, p, q, y, g, n⟩ a = [] := by unfold txT; rw [hV]; rfl
    rw [e]
    rw [hV] at hv
    clear e hV
    go_enter Tryd.func15, Tryd.ntmps15
    go_wp2_with (first | (go_at_call 27; with_reducible refine (hv _ hX.frm).mono ?_; rintro e w' ⟨rfl, hb⟩; have hX := hX.step hb; clear hb))
    go_ret
    exact ⟨rfl, hX.below⟩
  | true =>
    have hab := fun w D => dabb_any o b m r x p q y g n (A := A) (c := c) w D
    have hnm := fun w D => dnam_any o b (A := A) (c := c) w D
    have har := fun w D => darg_any o b m r x p q y g n a hV (A := A) (c := c) w D
    have e : txT ⟨o, b, m, r, x, p, q, y, g, n⟩ a = (match abT o n with | some s => s | none => nmT o b ++ tlT (agT ⟨o, b, m, r, x, p, q, y, g, n⟩ a)) := by unfold txT; rw [hV]; rfl
    rw [e]
    rw [hV] at hv
    have l1 := nmT_len o b
    have s1 := tx_size (nmT o b)
    have l2 := agT_len ⟨o, b, m, r, x, p, q, y, g, n⟩ a
    have l3 := agT_each ⟨o, b, m, r, x, p, q, y, g, n⟩ a
    have l4 := joT_len _ l2 l3
    have s4 := tx_size (joT (agT ⟨o, b, m, r, x, p, q, y, g, n⟩ a))
    clear e hV
    cases hA : abT o n with
    | some s =>
      rw [hA] at hab
      simp only [Option.getD_some, Option.isSome_some] at hab
      clear l2 l3 l4 s4 l1 s1 har hnm hA
      go_enter Tryd.func15, Tryd.ntmps15
      go_wp2_with (first | (go_at_call 27; with_reducible refine (hv _ hX.frm).mono ?_; rintro e w' ⟨rfl, hb⟩; have hX := hX.step hb; clear hb; obtain ⟨i0, i1, i2, i3, i4, i5, i6, i7, i8, i9⟩ := hX.ten 0 rfl) | (go_at_call 28; with_reducible refine (hab _ (hX.dis W)).mono ?_; rintro e w' ⟨rfl, hb⟩; have hX := hX.step hb; clear hb))
      go_ret
      exact ⟨rfl, hX.below⟩
    | none =>
      rw [hA] at hab
      simp only [Option.getD_none, Option.isSome_none] at hab
      clear hA
      have hjo := fun v w h hne => djoin_any (agT ⟨o, b, m, r, x, p, q, y, g, n⟩ a) v w h l2 l3 hne
      generalize agT ⟨o, b, m, r, x, p, q, y, g, n⟩ a = L at *
      generalize nmT o b = M at *
      simp only
      by_cases hL : L = []
      · subst hL
        have e : tlT [] = [] := rfl
        rw [e, List.append_nil]
        clear e hjo l2 l3 l4 s4
        go_enter Tryd.func15, Tryd.ntmps15
        go_wp2_with (first | (go_at_call 27; with_reducible refine (hv _ hX.frm).mono ?_; rintro e w' ⟨rfl, hb⟩; have hX := hX.step hb; clear hb; obtain ⟨i0, i1, i2, i3, i4, i5, i6, i7, i8, i9⟩ := hX.ten 0 rfl) | (go_at_call 28; with_reducible refine (hab _ (hX.dis W)).mono ?_; rintro e w' ⟨rfl, hb⟩; have hX := hX.step hb; clear hb; obtain ⟨i0, i1, i2, i3, i4, i5, i6, i7, i8, i9⟩ := hX.ten 0 rfl) | (go_at_call 11; with_reducible refine (hnm _ (hX.dis W)).mono ?_; rintro e w' ⟨rfl, hb⟩; have hX := hX.step hb; clear hb; obtain ⟨i0, i1, i2, i3, i4, i5, i6, i7, i8, i9⟩ := hX.ten 0 rfl) | (go_at_call 29; with_reducible refine (har _ (hX.dis W)).mono ?_; rintro e w' ⟨v, rfl, hS, hb⟩; have hX := hX.step hb; clear hb; obtain ⟨A0, c0, rfl⟩ := strs_len hS))
        go_ret
        exact ⟨rfl, hX.below⟩
      · have e : tlT L = 32 :: joT L := if_neg (by simpa using hL)
        rw [e]
        clear e l2 l3
        have hLp : 0 < L.length := List.length_pos_iff.2 hL
        have hLi : (0 : Int) < (L.length : Int) := by omega
        have hjo := fun v w h => hjo v w h hL
        generalize joT L = J at *
        go_enter Tryd.func15, Tryd.ntmps15
        go_wp2_with (first | (go_at_call 27; with_reducible refine (hv _ hX.frm).mono ?_; rintro e w' ⟨rfl, hb⟩; have hX := hX.step hb; clear hb; obtain ⟨i0, i1, i2, i3, i4, i5, i6, i7, i8, i9⟩ := hX.ten 0 rfl) | (go_at_call 28; with_reducible refine (hab _ (hX.dis W)).mono ?_; rintro e w' ⟨rfl, hb⟩; have hX := hX.step hb; clear hb; obtain ⟨i0, i1, i2, i3, i4, i5, i6, i7, i8, i9⟩ := hX.ten 0 rfl) | (go_at_call 11; with_reducible refine (hnm _ (hX.dis W)).mono ?_; rintro e w' ⟨rfl, hb⟩; have hX := hX.step hb; clear hb; obtain ⟨i0, i1, i2, i3, i4, i5, i6, i7, i8, i9⟩ := hX.ten 0 rfl) | (go_at_call 29; with_reducible refine (har _ (hX.dis W)).mono ?_; rintro e w' ⟨v, rfl, hS, hb⟩; have hX := hX.step hb; clear hb; have hS2 := hS; obtain ⟨bk, cc, rfl, hcc⟩ := strs_some hS2 hL) | (go_at_call 30; with_reducible refine (hjo _ _ hS).mono ?_; rintro e w' ⟨rfl, hb⟩; have hX := hX.step hb; clear hb))
        go_ret
        refine ⟨?_, hX.below⟩
        simp [ba_app]

end Go.Proofs.YtipaednpelapgaaDoor
