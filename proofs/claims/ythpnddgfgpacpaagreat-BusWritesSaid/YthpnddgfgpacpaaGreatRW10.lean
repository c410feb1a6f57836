import Derived.Test.YthpnddgfgpacpaaGreatRW07
import Derived.Test.YthpnddgfgpacpaaGreatRW09
/-
  Write, New, Right, SameInts, SameDisk of the reference. Conditions: at most 2^40 sectors and bad ones; the words of a drive valid where told.
-/
namespace Go.Proofs.YthpnddgfgpacpaaGreat
open Go.RowKit
set_option linter.unusedSimpArgs false
set_option linter.unusedVariables false
set_option maxHeartbeats 4000000
set_option maxRecDepth 100000
attribute [local irreducible] wpQuiet

theorem and64 (n : Int) : (bits .and .i64 n 64 != 0) = decide (n / 64 % 2 = 1) := by
  have h1 : bits .and .i64 n 64 = n / 64 % 2 * 64 := i_and (c := 64) (by decide) (field _ 6 1) (by intro h; omega)
  rw [h1, Bool.eq_iff_iff]; simp; omega
theorem and1 (n : Int) : (bits .and .i64 n 1 != 0) = decide (n % 2 = 1) := by
  have h1 : bits .and .i64 n 1 = n % 2 := i_and (c := 1) (by decide) (field _ 0 1) (by intro h; omega)
  rw [h1, Bool.eq_iff_iff]; simp; omega
theorem and3 (n : Int) : bits .and .i64 n 3 = n % 4 := i_and (c := 3) (by decide) (field _ 0 2) (by intro h; omega)
theorem and16 (n : Int) : bits .and .i64 n 65535 = n % 65536 := i_and (c := 65535) (by decide) (field _ 0 16) (by intro h; omega)
theorem and15 (n : Int) : bits .and .i64 n 65534 = n / 2 % 32768 * 2 := i_and (c := 65534) (by decide) (field _ 1 15) (by intro h; omega)
theorem rwrK_bad (K : Dk) (g v : Int) (h0 : g ≠ 0) (h2 : g ≠ 2) (h4 : g ≠ 4) (h6 : g ≠ 6) (A1 : Option Addr) (n1 c1 : Nat) (A2 : Option Addr) (n2 c2 : Nat) (w : World) : Calls Tryz.prog 107 #[.agg #[(.slice A1 n1 c1), (.slice A2 n2 c2), .bool (K).n, .bool (K).r, .bool (K).e, .int .i64 (K).c, .int .i64 (K).w, .int .i64 (K).a, .int .i64 (K).s, .int .i64 (K).l], .int .i64 g, .int .i64 v] w fun e' w' => e' = .returned (.tuple #[.agg #[.slice none 0 0, .slice none 0 0, .bool false, .bool false, .bool false, .int .i64 0, .int .i64 0, .int .i64 0, .int .i64 0, .int .i64 0], .bool false]) ∧ Below w.heap.size w w' := by
  obtain ⟨D, n, r, e, c, w1, a, s, l⟩ := K
  have d0 : (g != 0) = true := by simpa using h0
  have d2 : (g != 2) = true := by simpa using h2
  have d4 : (g != 4) = true := by simpa using h4
  have d6 : (g != 6) = true := by simpa using h6
  go_enter Tryz.func107, Tryz.ntmps107
  go_wp2
  exact bodyPost_ret (results_ct Tryz.results107 rfl (((two_dk w _ _).all _ _ _ List.mem_cons_self).loadVar rfl aggK sizK)) rfl ⟨rfl, (two_dk w _ _).below⟩
theorem rwrK_2 (K : Dk) (v : Int) (A1 : Option Addr) (n1 c1 : Nat) (A2 : Option Addr) (n2 c2 : Nat) (w : World) : Calls Tryz.prog 107 #[.agg #[(.slice A1 n1 c1), (.slice A2 n2 c2), .bool (K).n, .bool (K).r, .bool (K).e, .int .i64 (K).c, .int .i64 (K).w, .int .i64 (K).a, .int .i64 (K).s, .int .i64 (K).l], .int .i64 2, .int .i64 v] w fun e' w' => e' = .returned (.tuple #[.agg #[(.slice A1 n1 c1), (.slice A2 n2 c2), .bool ((K.wr 2 v).1).n, .bool ((K.wr 2 v).1).r, .bool ((K.wr 2 v).1).e, .int .i64 ((K.wr 2 v).1).c, .int .i64 ((K.wr 2 v).1).w, .int .i64 ((K.wr 2 v).1).a, .int .i64 ((K.wr 2 v).1).s, .int .i64 ((K.wr 2 v).1).l], .bool true]) ∧ Below w.heap.size w w' := by
  obtain ⟨D, n, r, e, c, w1, a, s, l⟩ := K
  have hv := and16 v
  cases r
  · go_enter Tryz.func107, Tryz.ntmps107
    go_wp2
    exact bodyPost_ret (results_ct Tryz.results107 rfl (((two_dk w _ _).all _ _ _ List.mem_cons_self).loadVar rfl aggK sizK)) rfl ⟨rfl, (two_dk w _ _).below⟩
  · show Calls _ _ _ _ fun e' w' => e' = .returned (.tuple #[.agg #[(.slice A1 n1 c1), (.slice A2 n2 c2), .bool n, .bool true, .bool e, .int .i64 c, .int .i64 (v % 65536), .int .i64 a, .int .i64 s, .int .i64 l], .bool true]) ∧ _
    go_enter Tryz.func107, Tryz.ntmps107
    go_wp2
    exact bodyPost_ret (results_ct Tryz.results107 rfl (((two_dk w _ _).all _ _ _ List.mem_cons_self).loadVar rfl aggK sizK)) rfl ⟨rfl, (two_dk w _ _).below⟩
theorem rwrK_4 (K : Dk) (v : Int) (A1 : Option Addr) (n1 c1 : Nat) (A2 : Option Addr) (n2 c2 : Nat) (w : World) : Calls Tryz.prog 107 #[.agg #[(.slice A1 n1 c1), (.slice A2 n2 c2), .bool (K).n, .bool (K).r, .bool (K).e, .int .i64 (K).c, .int .i64 (K).w, .int .i64 (K).a, .int .i64 (K).s, .int .i64 (K).l], .int .i64 4, .int .i64 v] w fun e' w' => e' = .returned (.tuple #[.agg #[(.slice A1 n1 c1), (.slice A2 n2 c2), .bool ((K.wr 4 v).1).n, .bool ((K.wr 4 v).1).r, .bool ((K.wr 4 v).1).e, .int .i64 ((K.wr 4 v).1).c, .int .i64 ((K.wr 4 v).1).w, .int .i64 ((K.wr 4 v).1).a, .int .i64 ((K.wr 4 v).1).s, .int .i64 ((K.wr 4 v).1).l], .bool true]) ∧ Below w.heap.size w w' := by
  obtain ⟨D, n, r, e, c, w1, a, s, l⟩ := K
  have hv := and15 v
  cases r
  · go_enter Tryz.func107, Tryz.ntmps107
    go_wp2
    exact bodyPost_ret (results_ct Tryz.results107 rfl (((two_dk w _ _).all _ _ _ List.mem_cons_self).loadVar rfl aggK sizK)) rfl ⟨rfl, (two_dk w _ _).below⟩
  · show Calls _ _ _ _ fun e' w' => e' = .returned (.tuple #[.agg #[(.slice A1 n1 c1), (.slice A2 n2 c2), .bool n, .bool true, .bool e, .int .i64 c, .int .i64 w1, .int .i64 (v / 2 % 32768 * 2), .int .i64 s, .int .i64 l], .bool true]) ∧ _
    go_enter Tryz.func107, Tryz.ntmps107
    go_wp2
    exact bodyPost_ret (results_ct Tryz.results107 rfl (((two_dk w _ _).all _ _ _ List.mem_cons_self).loadVar rfl aggK sizK)) rfl ⟨rfl, (two_dk w _ _).below⟩
theorem rwrK_6 (K : Dk) (v : Int) (A1 : Option Addr) (n1 c1 : Nat) (A2 : Option Addr) (n2 c2 : Nat) (w : World) : Calls Tryz.prog 107 #[.agg #[(.slice A1 n1 c1), (.slice A2 n2 c2), .bool (K).n, .bool (K).r, .bool (K).e, .int .i64 (K).c, .int .i64 (K).w, .int .i64 (K).a, .int .i64 (K).s, .int .i64 (K).l], .int .i64 6, .int .i64 v] w fun e' w' => e' = .returned (.tuple #[.agg #[(.slice A1 n1 c1), (.slice A2 n2 c2), .bool ((K.wr 6 v).1).n, .bool ((K.wr 6 v).1).r, .bool ((K.wr 6 v).1).e, .int .i64 ((K.wr 6 v).1).c, .int .i64 ((K.wr 6 v).1).w, .int .i64 ((K.wr 6 v).1).a, .int .i64 ((K.wr 6 v).1).s, .int .i64 ((K.wr 6 v).1).l], .bool true]) ∧ Below w.heap.size w w' := by
  obtain ⟨D, n, r, e, c, w1, a, s, l⟩ := K
  have hv := and16 v
  cases r
  · go_enter Tryz.func107, Tryz.ntmps107
    go_wp2
    exact bodyPost_ret (results_ct Tryz.results107 rfl (((two_dk w _ _).all _ _ _ List.mem_cons_self).loadVar rfl aggK sizK)) rfl ⟨rfl, (two_dk w _ _).below⟩
  · show Calls _ _ _ _ fun e' w' => e' = .returned (.tuple #[.agg #[(.slice A1 n1 c1), (.slice A2 n2 c2), .bool n, .bool true, .bool e, .int .i64 c, .int .i64 w1, .int .i64 a, .int .i64 (v % 65536), .int .i64 l], .bool true]) ∧ _
    go_enter Tryz.func107, Tryz.ntmps107
    go_wp2
    exact bodyPost_ret (results_ct Tryz.results107 rfl (((two_dk w _ _).all _ _ _ List.mem_cons_self).loadVar rfl aggK sizK)) rfl ⟨rfl, (two_dk w _ _).below⟩
theorem rwrK_0 (K : Dk) (v : Int) (A1 : Option Addr) (n1 c1 : Nat) (A2 : Option Addr) (n2 c2 : Nat) (w : World) : Calls Tryz.prog 107 #[.agg #[(.slice A1 n1 c1), (.slice A2 n2 c2), .bool (K).n, .bool (K).r, .bool (K).e, .int .i64 (K).c, .int .i64 (K).w, .int .i64 (K).a, .int .i64 (K).s, .int .i64 (K).l], .int .i64 0, .int .i64 v] w fun e' w' => e' = .returned (.tuple #[.agg #[(.slice A1 n1 c1), (.slice A2 n2 c2), .bool ((K.wr 0 v).1).n, .bool ((K.wr 0 v).1).r, .bool ((K.wr 0 v).1).e, .int .i64 ((K.wr 0 v).1).c, .int .i64 ((K.wr 0 v).1).w, .int .i64 ((K.wr 0 v).1).a, .int .i64 ((K.wr 0 v).1).s, .int .i64 ((K.wr 0 v).1).l], .bool true]) ∧ Below w.heap.size w w' := by
  obtain ⟨D, n, r, e, c, w1, a, s, l⟩ := K
  have h64 := and64 v
  have h1 := and1 v
  have h3 := and3 (v / 2)
  show Calls _ _ _ _ fun e' w' => e' = .returned (.tuple #[.agg #[(.slice A1 n1 c1), (.slice A2 n2 c2), .bool ((Dk.mk D (decide (v / 64 % 2 = 1)) r e c w1 a s l).cmd v).n, .bool ((Dk.mk D (decide (v / 64 % 2 = 1)) r e c w1 a s l).cmd v).r, .bool ((Dk.mk D (decide (v / 64 % 2 = 1)) r e c w1 a s l).cmd v).e, .int .i64 ((Dk.mk D (decide (v / 64 % 2 = 1)) r e c w1 a s l).cmd v).c, .int .i64 ((Dk.mk D (decide (v / 64 % 2 = 1)) r e c w1 a s l).cmd v).w, .int .i64 ((Dk.mk D (decide (v / 64 % 2 = 1)) r e c w1 a s l).cmd v).a, .int .i64 ((Dk.mk D (decide (v / 64 % 2 = 1)) r e c w1 a s l).cmd v).s, .int .i64 ((Dk.mk D (decide (v / 64 % 2 = 1)) r e c w1 a s l).cmd v).l], .bool true]) ∧ _
  unfold Dk.cmd
  dsimp only
  generalize decide (v / 64 % 2 = 1) = b1 at *
  cases r
  · rw [if_neg (by simp)]
    go_enter Tryz.func107, Tryz.ntmps107
    go_wp2
    exact bodyPost_ret (results_ct Tryz.results107 rfl (((two_dk w _ _).all _ _ _ List.mem_cons_self).loadVar rfl aggK sizK)) rfl ⟨rfl, (two_dk w _ _).below⟩
  · by_cases hv : v % 2 = 1
    · rw [decide_eq_true hv] at h1
      by_cases hq : v / 2 % 4 = 0
      · rw [if_pos ⟨rfl, hv⟩, if_neg (by intro h; exact h.1 hq)]
        dsimp only
        rw [hq] at h3 ⊢
        go_enter Tryz.func107, Tryz.ntmps107
        go_wp2
        exact bodyPost_ret (results_ct Tryz.results107 rfl (((two_dk w _ _).all _ _ _ List.mem_cons_self).loadVar rfl aggK sizK)) rfl ⟨rfl, (two_dk w _ _).below⟩
      · by_cases hw : w1 = 0
        · rw [if_pos ⟨rfl, hv⟩, if_neg (by intro h; exact h.2 hw)]
          subst hw
          have hq2 : (v / 2 % 4 != 0) = true := by simpa using hq
          go_enter Tryz.func107, Tryz.ntmps107
          go_wp2
          exact bodyPost_ret (results_ct Tryz.results107 rfl (((two_dk w _ _).all _ _ _ List.mem_cons_self).loadVar rfl aggK sizK)) rfl ⟨rfl, (two_dk w _ _).below⟩
        · rw [if_pos ⟨rfl, hv⟩, if_pos ⟨hq, hw⟩]
          have hq2 : (v / 2 % 4 != 0) = true := by simpa using hq
          have hw2 : (w1 != 0) = true := by simpa using hw
          go_enter Tryz.func107, Tryz.ntmps107
          go_wp2
          exact bodyPost_ret (results_ct Tryz.results107 rfl (((two_dk w _ _).all _ _ _ List.mem_cons_self).loadVar rfl aggK sizK)) rfl ⟨rfl, (two_dk w _ _).below⟩
    · rw [decide_eq_false hv] at h1
      rw [if_neg (by intro h; exact hv h.2)]
      go_enter Tryz.func107, Tryz.ntmps107
      go_wp2
      exact bodyPost_ret (results_ct Tryz.results107 rfl (((two_dk w _ _).all _ _ _ List.mem_cons_self).loadVar rfl aggK sizK)) rfl ⟨rfl, (two_dk w _ _).below⟩
theorem rwriteK_any (K : Dk) (g v : Int) (vs vb : Value) (w : World) (X : Nat → Prop) (hs : StsX X w vs K.D.S) (hb : ItsX X w vb K.D.B) : Calls Tryz.prog 107 #[.agg #[vs, vb, .bool (K).n, .bool (K).r, .bool (K).e, .int .i64 (K).c, .int .i64 (K).w, .int .i64 (K).a, .int .i64 (K).s, .int .i64 (K).l], .int .i64 g, .int .i64 v] w fun e' w' => ∃ x, e' = .returned (.tuple #[x, .bool (K.wr g v).2]) ∧ DkX X w' x (K.wr g v).1 ∧ Below w.heap.size w w' := by
  obtain ⟨A1, c1, rfl, _⟩ := hs.now.form
  obtain ⟨A2, c2, rfl, _⟩ := hb.now.form
  have hD : ∀ g, (K.wr g v).2 = true → (K.wr g v).1.D = K.D := fun g h => by
    unfold Dk.wr Dk.cmd at *
    repeat' split
    all_goals first | rfl | simp_all
  have fin : ∀ K2 : Dk, K2.D = K.D → ∀ w', Below w.heap.size w w' → DkX X w' (.agg #[(.slice A1 K.D.S.length c1), (.slice A2 K.D.B.length c2), .bool (K2).n, .bool (K2).r, .bool (K2).e, .int .i64 (K2).c, .int .i64 (K2).w, .int .i64 (K2).a, .int .i64 (K2).s, .int .i64 (K2).l]) K2 := fun K2 h w' hb' => ⟨_, _, rfl, by rw [h]; exact hs.below hb', by rw [h]; exact hb.below hb'⟩
  by_cases h0 : g = 0
  · subst h0
    exact (rwrK_0 K v A1 _ c1 A2 _ c2 w).mono fun e' w' ⟨h1, h2⟩ => ⟨_, h1, fin _ (hD 0 rfl) _ h2, h2⟩
  by_cases h2 : g = 2
  · subst h2
    exact (rwrK_2 K v A1 _ c1 A2 _ c2 w).mono fun e' w' ⟨h1, h2⟩ => ⟨_, h1, fin _ (hD 2 rfl) _ h2, h2⟩
  by_cases h4 : g = 4
  · subst h4
    exact (rwrK_4 K v A1 _ c1 A2 _ c2 w).mono fun e' w' ⟨h1, h2⟩ => ⟨_, h1, fin _ (hD 4 rfl) _ h2, h2⟩
  by_cases h6 : g = 6
  · subst h6
    exact (rwrK_6 K v A1 _ c1 A2 _ c2 w).mono fun e' w' ⟨h1, h2⟩ => ⟨_, h1, fin _ (hD 6 rfl) _ h2, h2⟩
  have hz : K.wr g v = (Dk.z, false) := by unfold Dk.wr; rw [if_neg h0, if_neg h2, if_neg h4, if_neg h6]
  rw [hz]
  exact (rwrK_bad K g v h0 h2 h4 h6 A1 _ c1 A2 _ c2 w).mono fun e' w' ⟨h1, h2⟩ => ⟨_, h1, ⟨_, _, rfl, Sv.nil X _, Sv.nil X _⟩, h2⟩
end Go.Proofs.YthpnddgfgpacpaaGreat
