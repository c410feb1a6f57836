/-
  Walks over first and Lines of package disasm. Conditions: the tables read as the program's text lays them; the list has at most 2^40 elements.
-/
import Derived.Test.YtipaednpelapgaaDoorDwJ
import Derived.Test.YtipaednpelapgaaDoorDsL
import Derived.Deep.AppendLies
namespace Go.Proofs.YtipaednpelapgaaDoor
open Go.RowKit
set_option linter.unusedSimpArgs false
set_option linter.unusedVariables false
set_option maxHeartbeats 8000000
set_option maxRecDepth 100000

theorem txT_mod (i : In) {a b : Int} (h : a % 65536 = b % 65536) : txT i a = txT i b := by
  have e1 : srT i a = srT i b := opT_mod _ _ _ (by omega)
  have e2 : dsT i a = dsT i b := opT_mod _ _ _ (by omega)
  have e3 : tgT a i.n = tgT b i.n := nuT_mod (by omega)
  have e4 : tgT a (-i.n) = tgT b (-i.n) := nuT_mod (by omega)
  have e : agT i a = agT i b := by unfold agT; rw [e1, e2, e3, e4]
  unfold txT
  rw [e]
theorem adT_mod {a b : Int} (h : a % 65536 = b % 65536) : adT a = adT b := by unfold adT; rw [h]
theorem fsT_mod (l : List Int) {a b : Int} (h : a % 65536 = b % 65536) : fsT l a = fsT l b := by unfold fsT; rw [txT_mod _ h]
theorem lnT_mod : ∀ (k : Nat) (l : List Int) {a b : Int}, a % 65536 = b % 65536 → lnT k l a = lnT k l b
  | 0, _, _, _, _ => rfl
  | k + 1, l, a, b, h => by
    unfold lnT
    rw [fsT_mod l h, adT_mod h, lnT_mod k _ (a := a + 2 * (fsT l b).2) (b := b + 2 * (fsT l b).2) (by omega)]
theorem dc_rng (l : List Int) : (dcI l).2 = 0 ∨ (1 ≤ (dcI l).2 ∧ (dcI l).2 ≤ 3 ∧ (dcI l).2 ≤ (l.length : Int)) := by
  have hn : ∀ i, 1 ≤ nR i ∧ nR i ≤ 3 := fun i => by
    unfold nR bi
    repeat' split
    all_goals omega
  cases l with
  | nil => exact Or.inl rfl
  | cons w t =>
    show (if 0 ≤ w ∧ w ≤ 65535 then dcW w t else (nil10, 0)).2 = 0 ∨ _
    have e : dcI (w :: t) = if 0 ≤ w ∧ w ≤ 65535 then dcW w t else (nil10, 0) := rfl
    rw [e]
    split
    · unfold dcW
      split
      · exact Or.inl rfl
      · split
        · next h => exact Or.inr ⟨(hn _).1, (hn _).2, by simp only [List.length_cons]; omega⟩
        · exact Or.inl rfl
    · exact Or.inl rfl
theorem fsT_rng (l : List Int) (a : Int) (hne : 0 < l.length) : 1 ≤ (fsT l a).2 ∧ (fsT l a).2 ≤ 3 ∧ (fsT l a).2 ≤ l.length := by
  unfold fsT
  rcases dc_rng l with h | ⟨h1, h2, h3⟩
  · rw [if_pos h]; simp only; omega
  · rw [if_neg (by omega)]; simp only; omega
theorem adT_len (n : Int) : (adT n).length = 6 := by
  have h := digs_6 (n % 65536).toNat (by omega)
  unfold adT pd6
  rw [List.length_append, List.length_replicate]; omega
theorem abT_len (o n : Int) (s : List UInt8) (h : abT o n = some s) : s.length ≤ 3 := by
  unfold abT at h
  obtain ⟨e, he, rfl⟩ := Option.map_eq_some_iff.1 h
  have h3 : ∀ e ∈ abv, e.1.length ≤ 3 := by decide
  exact h3 e (List.mem_of_find?_eq_some he)
theorem txT_len (i : In) (a : Int) : (txT i a).length ≤ 35 := by
  have h1 := nmT_len i.o i.b
  have h2 := joT_len _ (agT_len i a) (agT_each i a)
  unfold txT
  split
  · split
    · next s hs => have := abT_len _ _ s hs; omega
    · unfold tlT
      split
      · simp; omega
      · simp only [List.length_append, List.length_cons]; omega
  · simp
theorem fsT_len (l : List Int) (a : Int) : (fsT l a).1.length ≤ 35 := by
  unfold fsT
  split
  · have := adT_len (l.getD 0 0)
    simp only [List.length_append, List.length_cons, List.length_nil]; omega
  · exact txT_len _ _
theorem lnT_fuel : ∀ (k : Nat) (l : List Int) (a : Int), l.length ≤ k → lnT k l a = lnT l.length l a
  | 0, l, a, h => by rw [List.length_eq_zero_iff.1 (Nat.le_zero.1 h)]; rfl
  | k + 1, l, a, h => by
    cases hl : l.length with
    | zero => unfold lnT; rw [if_pos hl]
    | succ m =>
      have hr := fsT_rng l a (by omega)
      have hd : (l.drop (fsT l a).2).length ≤ m := by rw [List.length_drop]; omega
      unfold lnT
      rw [if_neg (by omega), if_neg (by omega), lnT_fuel k _ _ (by omega), lnT_fuel m _ _ hd]
theorem lnT_step (l : List Int) (a : Int) (h : 0 < l.length) : lnT l.length l a = (adT a ++ 32 :: (fsT l a).1) :: lnT (l.drop (fsT l a).2).length (l.drop (fsT l a).2) (wrap64 (a + (fsT l a).2 * 2)) := by
  obtain ⟨m, hm⟩ : ∃ m, l.length = m + 1 := ⟨l.length - 1, by omega⟩
  have hr := fsT_rng l a h
  rw [hm]
  conv => lhs; unfold lnT
  rw [if_neg (by omega), lnT_fuel m _ _ (by rw [List.length_drop]; omega), lnT_mod _ _ (a := a + 2 * ((fsT l a).2 : Int)) (b := wrap64 (a + (fsT l a).2 * 2)) (by unfold wrap64; omega)]

theorem dfirst_any (l : List Int) (v : Value) (a : Int) (hl : l.length ≤ 1099511627776) (hne : 0 < l.length) {A : Addr} {c : Nat} (W0 : World) (W : Dis A c W0) (hv : Nums .i64 W0 v l) :
    Calls Tryd.prog 39 #[v, .int .i64 a] W0 fun e w' => e = .returned (.tuple #[.string ⟨(fsT l a).1.toArray⟩, .int .i64 ((fsT l a).2 : Int)]) ∧ Below W0.heap.size W0 w' := by
  have hD := Decode_any l v hl W0 W.frm hv
  have hrg := dc_rng l
  obtain ⟨x, t, rfl⟩ : ∃ x t, l = x :: t := by cases l with
    | nil => simp at hne
    | cons x t => exact ⟨x, t, rfl⟩
  obtain ⟨A1, cp, rfl, hcp, hcell⟩ := hv
  obtain ⟨a1, rfl, hx, hxl⟩ := hcell 0 x rfl
  have hl0 : (0 : Int) < ((x :: t).length : Int) := by simp only [List.length_cons]; omega
  have ef : fsT (x :: t) a = if (dcI (x :: t)).2 = 0 then ([46, 119, 111, 114, 100, 32, 48, 111] ++ adT x, 1) else (txT (dcI (x :: t)).1 a, (dcI (x :: t)).2.toNat) := rfl
  rw [ef]
  clear ef
  rcases hdc : dcI (x :: t) with ⟨⟨o, b, m, r, x2, p, q, y, g, n⟩, N⟩
  rw [hdc] at hD hrg
  simp only at hrg
  replace hD : Calls Tryd.prog 61 #[.slice (some a1) (x :: t).length cp] W0 fun e w' => e = .returned (.tuple #[.agg #[.int .i64 o, .bool b, .int .i64 m, .int .i64 r, .int .i64 x2, .int .i64 p, .int .i64 q, .int .i64 y, .int .i64 g, .int .i64 n], .int .i64 N]) ∧ Below W0.heap.size W0 w' := hD
  clear hdc hcell hcp
  rw [show a1.add 0 = a1 from rfl] at hx hxl
  generalize hLL : (x :: t).length = LL at *
  by_cases hN : N = 0
  · subst hN
    have hd := fun w D => ddig_any x w D
    have l1 := adT_len x
    have s1 := tx_size (adT x)
    rw [if_pos rfl]
    generalize adT x = X at *
    go_enter Tryd.func39, Tryd.ntmps39
    go_wp2_with (first | (go_at_call 61; with_reducible refine hD.mono ?_; rintro _ w' ⟨rfl, hb⟩; have hx := (hb.cell hxl).trans hx; have hlt := Nat.lt_of_lt_of_le hxl hb.size; have hbb := hb.trans (((Below.refl w'.heap.size w').alloc (Nat.le_refl _) (.cells #[.int .i64 o, .bool b, .int .i64 m, .int .i64 r, .int .i64 x2, .int .i64 p, .int .i64 q, .int .i64 y, .int .i64 g, .int .i64 n] 33)).mono hb.size); clear hb) | (go_at_call 40; with_reducible refine (hd _ (W.step hbb).tb).mono ?_; rintro e w'' ⟨rfl, hb⟩; have hbb := hbb.trans (hb.mono hbb.size); clear hb))
    go_ret2
    refine ⟨?_, hbb⟩
    simp [ba_app]
  · have hN1 : 1 ≤ N := by omega
    obtain ⟨K, rfl⟩ : ∃ K : Nat, N = (K : Int) := ⟨N.toNat, by omega⟩
    have ht := fun w D => dtext_any o b m r x2 p q y g n a (A := A) (c := c) w D
    rw [if_neg hN]
    have hKn : ((K : Int) == 0) = false := beq_eq_false_iff_ne.2 hN
    simp only [Int.toNat_natCast]
    generalize txT ⟨o, b, m, r, x2, p, q, y, g, n⟩ a = X at *
    go_enter Tryd.func39, Tryd.ntmps39
    go_wp2_with (first | (go_at_call 61; with_reducible refine hD.mono ?_; rintro _ w' ⟨rfl, hb⟩; have hX := (St.start (W.frm.step hb)).put [.int .i64 o, .bool b, .int .i64 m, .int .i64 r, .int .i64 x2, .int .i64 p, .int .i64 q, .int .i64 y, .int .i64 g, .int .i64 n] 33; obtain ⟨i0, i1, i2, i3, i4, i5, i6, i7, i8, i9⟩ := hX.ten 0 rfl) | (go_at_call 15; with_reducible refine (ht _ (hX.dis (W.step hb))).mono ?_; rintro e w'' ⟨rfl, hb2⟩; have hX := hX.step hb2))
    go_ret2
    exact ⟨rfl, hb.trans (hX.below.mono hb.size)⟩

end Go.Proofs.YtipaednpelapgaaDoor
