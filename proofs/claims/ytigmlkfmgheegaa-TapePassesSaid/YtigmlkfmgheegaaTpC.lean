/-
  start, Write of the reference. No condition.
-/
import Derived.Test.YtigmlkfmgheegaaTpB
namespace Go.Proofs.Ytigmlkfmgheegaa
open Go.RowKit
set_option linter.unusedSimpArgs false
set_option linter.unusedVariables false
set_option maxHeartbeats 4000000
set_option maxRecDepth 100000
attribute [local irreducible] wpQuiet

theorem siz_int (w : World) : (sizeOf 3).run Try.prog w = .ok 1 w := by kernel_rfl
theorem siz_bool (w : World) : (sizeOf 4).run Try.prog w = .ok 1 w := by kernel_rfl
theorem andT64 (n : Int) : (bits .and .i64 n 64 != 0) = decide (n / 64 % 2 = 1) := by
  have h1 : bits .and .i64 n 64 = n / 64 % 2 * 64 := i_and (c := 64) (by decide) (field _ 6 1) (by intro h; omega)
  rw [h1, Bool.eq_iff_iff]; simp; omega
theorem andT1 (n : Int) : (bits .and .i64 n 1 != 0) = decide (n % 2 = 1) := by
  have h1 : bits .and .i64 n 1 = n % 2 := i_and (c := 1) (by decide) (field _ 0 1) (by intro h; omega)
  rw [h1, Bool.eq_iff_iff]; simp; omega
theorem andT7 (n : Int) : bits .and .i64 n 7 = n % 8 := i_and (c := 7) (by decide) (field _ 0 3) (by intro h; omega)
theorem andT16 (n : Int) : bits .and .i64 n 65535 = n % 65536 := i_and (c := 65535) (by decide) (field _ 0 16) (by intro h; omega)
theorem rgoT_any (K : Tp) (q : Int) (A1 : Option Addr) (n1 c1 : Nat) (w : World) : Calls Try.prog 47 #[.agg #[(.slice A1 n1 c1), .int .i64 (K).p, .bool (K).n, .bool (K).r, .bool (K).e, .bool (K).m, .bool (K).d, .int .i64 (K).c, .int .i64 (K).k, .int .i64 (K).a, .int .i64 (K).l], .int .i64 q] w fun e' w' => e' = .returned (.agg #[(.slice A1 n1 c1), .int .i64 (K.go q).p, .bool (K.go q).n, .bool (K.go q).r, .bool (K.go q).e, .bool (K.go q).m, .bool (K.go q).d, .int .i64 (K.go q).c, .int .i64 (K.go q).k, .int .i64 (K.go q).a, .int .i64 (K.go q).l]) ∧ Below w.heap.size w w' := by
  obtain ⟨R, p, n, r, e, m, d, c, k, a, l⟩ := K
  unfold Tp.go
  by_cases h0 : q = 0
  · subst h0
    rw [if_pos (.inl rfl)]
    go_enter Try.func47, Try.ntmps47
    go_wp2
    exact bodyPost_ret (results_c Try.results47 rfl (((two_tp w _ _).all _ _ _ List.mem_cons_self).loadVar rfl aggT sizT)) rfl ⟨rfl, (two_tp w _ _).below⟩
  by_cases h7 : q = 7
  · subst h7
    rw [if_pos (.inr rfl)]
    go_enter Try.func47, Try.ntmps47
    go_wp2
    exact bodyPost_ret (results_c Try.results47 rfl (((two_tp w _ _).all _ _ _ List.mem_cons_self).loadVar rfl aggT sizT)) rfl ⟨rfl, (two_tp w _ _).below⟩
  have e0 : (q != 0) = true := by simpa using h0
  have e7 : (q == 7) = false := by simpa using h7
  rw [if_neg (fun h => by rcases h with h | h; exact h0 h; exact h7 h)]
  go_enter Try.func47, Try.ntmps47
  go_wp2
  exact bodyPost_ret (results_c Try.results47 rfl (((two_tp w _ _).all _ _ _ List.mem_cons_self).loadVar rfl aggT sizT)) rfl ⟨rfl, (two_tp w _ _).below⟩
theorem rwrT_2 (K : Tp) (v : Int) (A1 : Option Addr) (n1 c1 : Nat) (w : World) : Calls Try.prog 18 #[.agg #[(.slice A1 n1 c1), .int .i64 (K).p, .bool (K).n, .bool (K).r, .bool (K).e, .bool (K).m, .bool (K).d, .int .i64 (K).c, .int .i64 (K).k, .int .i64 (K).a, .int .i64 (K).l], .int .i64 2, .int .i64 v] w fun e' w' => e' = .returned (.tuple #[.agg #[(.slice A1 n1 c1), .int .i64 ((K.wr 2 v).1).p, .bool ((K.wr 2 v).1).n, .bool ((K.wr 2 v).1).r, .bool ((K.wr 2 v).1).e, .bool ((K.wr 2 v).1).m, .bool ((K.wr 2 v).1).d, .int .i64 ((K.wr 2 v).1).c, .int .i64 ((K.wr 2 v).1).k, .int .i64 ((K.wr 2 v).1).a, .int .i64 ((K.wr 2 v).1).l], .bool true]) ∧ Below w.heap.size w w' := by
  obtain ⟨R, p, n, r, e, m, d, c, k, a, l⟩ := K
  have hv := andT16 v
  cases r
  · go_enter Try.func18, Try.ntmps18
    go_wp2
    exact bodyPost_ret (results_ct Try.results18 rfl (((two_tp w _ _).all _ _ _ List.mem_cons_self).loadVar rfl aggT sizT)) rfl ⟨rfl, (two_tp w _ _).below⟩
  · show Calls _ _ _ _ fun e' w' => e' = .returned (.tuple #[.agg #[(.slice A1 n1 c1), .int .i64 p, .bool n, .bool true, .bool e, .bool m, .bool d, .int .i64 c, .int .i64 (v % 65536), .int .i64 a, .int .i64 l], .bool true]) ∧ _
    go_enter Try.func18, Try.ntmps18
    go_wp2
    exact bodyPost_ret (results_ct Try.results18 rfl (((two_tp w _ _).all _ _ _ List.mem_cons_self).loadVar rfl aggT sizT)) rfl ⟨rfl, (two_tp w _ _).below⟩
theorem rwrT_4 (K : Tp) (v : Int) (A1 : Option Addr) (n1 c1 : Nat) (w : World) : Calls Try.prog 18 #[.agg #[(.slice A1 n1 c1), .int .i64 (K).p, .bool (K).n, .bool (K).r, .bool (K).e, .bool (K).m, .bool (K).d, .int .i64 (K).c, .int .i64 (K).k, .int .i64 (K).a, .int .i64 (K).l], .int .i64 4, .int .i64 v] w fun e' w' => e' = .returned (.tuple #[.agg #[(.slice A1 n1 c1), .int .i64 ((K.wr 4 v).1).p, .bool ((K.wr 4 v).1).n, .bool ((K.wr 4 v).1).r, .bool ((K.wr 4 v).1).e, .bool ((K.wr 4 v).1).m, .bool ((K.wr 4 v).1).d, .int .i64 ((K.wr 4 v).1).c, .int .i64 ((K.wr 4 v).1).k, .int .i64 ((K.wr 4 v).1).a, .int .i64 ((K.wr 4 v).1).l], .bool true]) ∧ Below w.heap.size w w' := by
  obtain ⟨R, p, n, r, e, m, d, c, k, a, l⟩ := K
  have hv := andT16 v
  cases r
  · go_enter Try.func18, Try.ntmps18
    go_wp2
    exact bodyPost_ret (results_ct Try.results18 rfl (((two_tp w _ _).all _ _ _ List.mem_cons_self).loadVar rfl aggT sizT)) rfl ⟨rfl, (two_tp w _ _).below⟩
  · show Calls _ _ _ _ fun e' w' => e' = .returned (.tuple #[.agg #[(.slice A1 n1 c1), .int .i64 p, .bool n, .bool true, .bool e, .bool m, .bool d, .int .i64 c, .int .i64 k, .int .i64 (v % 65536), .int .i64 l], .bool true]) ∧ _
    go_enter Try.func18, Try.ntmps18
    go_wp2
    exact bodyPost_ret (results_ct Try.results18 rfl (((two_tp w _ _).all _ _ _ List.mem_cons_self).loadVar rfl aggT sizT)) rfl ⟨rfl, (two_tp w _ _).below⟩
theorem rwrT_no (K : Tp) (g v : Int) (h0 : g ≠ 0) (h2 : g ≠ 2) (h4 : g ≠ 4) (A1 : Option Addr) (n1 c1 : Nat) (w : World) : Calls Try.prog 18 #[.agg #[(.slice A1 n1 c1), .int .i64 (K).p, .bool (K).n, .bool (K).r, .bool (K).e, .bool (K).m, .bool (K).d, .int .i64 (K).c, .int .i64 (K).k, .int .i64 (K).a, .int .i64 (K).l], .int .i64 g, .int .i64 v] w fun e' w' => e' = .returned (.tuple #[.agg #[(.slice A1 n1 c1), .int .i64 (K).p, .bool (K).n, .bool (K).r, .bool (K).e, .bool (K).m, .bool (K).d, .int .i64 (K).c, .int .i64 (K).k, .int .i64 (K).a, .int .i64 (K).l], .bool false]) ∧ Below w.heap.size w w' := by
  obtain ⟨R, p, n, r, e, m, d, c, k, a, l⟩ := K
  have d0 : (g == 0) = false := by simpa using h0
  have d2 : (g == 2) = false := by simpa using h2
  have d4 : (g == 4) = false := by simpa using h4
  go_enter Try.func18, Try.ntmps18
  go_wp2
  exact bodyPost_ret (results_ct Try.results18 rfl (((two_tp w _ _).all _ _ _ List.mem_cons_self).loadVar rfl aggT sizT)) rfl ⟨rfl, (two_tp w _ _).below⟩
theorem rwrT_0 (K : Tp) (v : Int) (A1 : Option Addr) (n1 c1 : Nat) (w : World) : Calls Try.prog 18 #[.agg #[(.slice A1 n1 c1), .int .i64 (K).p, .bool (K).n, .bool (K).r, .bool (K).e, .bool (K).m, .bool (K).d, .int .i64 (K).c, .int .i64 (K).k, .int .i64 (K).a, .int .i64 (K).l], .int .i64 0, .int .i64 v] w fun e' w' => e' = .returned (.tuple #[.agg #[(.slice A1 n1 c1), .int .i64 ((K.wr 0 v).1).p, .bool ((K.wr 0 v).1).n, .bool ((K.wr 0 v).1).r, .bool ((K.wr 0 v).1).e, .bool ((K.wr 0 v).1).m, .bool ((K.wr 0 v).1).d, .int .i64 ((K.wr 0 v).1).c, .int .i64 ((K.wr 0 v).1).k, .int .i64 ((K.wr 0 v).1).a, .int .i64 ((K.wr 0 v).1).l], .bool true]) ∧ Below w.heap.size w w' := by
  have h64 := andT64 v
  have h1 := andT1 v
  have h7 := andT7 (v / 2)
  have hw : K.wr 0 v = (if K.r = true ∧ v % 2 = 1 then ({ K with n := decide (v / 64 % 2 = 1) }.go (v / 2 % 8), true) else ({ K with n := decide (v / 64 % 2 = 1) }, true)) := rfl
  rw [hw]
  clear hw
  have hst := fun w => rgoT_any { K with n := decide (v / 64 % 2 = 1) } (v / 2 % 8) A1 n1 c1 w
  obtain ⟨R, p, n, r, e, m, d, c, k, a, l⟩ := K
  dsimp only at hst ⊢
  generalize decide (v / 64 % 2 = 1) = b1 at *
  cases r
  · rw [if_neg (by simp)]
    clear hst
    go_enter Try.func18, Try.ntmps18
    go_wp2
    exact bodyPost_ret (results_ct Try.results18 rfl (((two_tp w _ _).all _ _ _ List.mem_cons_self).loadVar rfl aggT sizT)) rfl ⟨rfl, (two_tp w _ _).below⟩
  · by_cases hv : v % 2 = 1
    · rw [decide_eq_true hv] at h1
      rw [if_pos ⟨rfl, hv⟩]
      clear hv
      dsimp only
      generalize Tp.go _ _ = K2 at *
      generalize v / 2 % 8 = q at *
      have hX := two_tp w [(.slice A1 n1 c1), .int .i64 p, .bool n, .bool true, .bool e, .bool m, .bool d, .int .i64 c, .int .i64 k, .int .i64 a, .int .i64 l] [.slice none 0 0, .int .i64 0, .bool false, .bool false, .bool false, .bool false, .bool false, .int .i64 0, .int .i64 0, .int .i64 0, .int .i64 0]
      go_enter Try.func18, Try.ntmps18
      go_wp2_with (first | ((with_reducible refine at_load ?_); refine wpList_bag_cell hX int_cell _ rfl rfl rfl rfl (by first | exact .head _ | exact .tail _ (.head _)) rfl ?_) | ((with_reducible refine at_load ?_); refine wpList_bag_cell hX bool_cell _ rfl rfl rfl rfl (by first | exact .head _ | exact .tail _ (.head _)) rfl ?_) | ((with_reducible refine at_load ?_); refine wpList_bag_cell hX slS_cell _ rfl rfl rfl rfl (by first | exact .head _ | exact .tail _ (.head _)) rfl ?_) | ((with_reducible refine at_load ?_); refine wpList_bag_part (k := 0) hX aggT sizT _ rfl rfl rfl rfl (by first | exact .head _ | exact .tail _ (.head _)) (fun jz vz hz => (congrArg (fun n => ([_, _, _, _, _, _, _, _, _, _, _] : List Value)[n]?) (Nat.zero_add jz)).trans hz) rfl ?_) | ((with_reducible refine at_store ?_); first | (refine wpList_bag_putV (z := .bool _) hX.swap siz_bool _ _ rfl rfl rfl rfl rfl rfl (by simp) rfl rfl ?_; intro wp hX3 hk3 hz3; clear hz3; clear hX; have hX := hX3; clear hk3 hX3; simp only [List.set_cons_zero, List.set_cons_succ] at hX) | (refine wpList_bag_putV (z := .bool _) hX siz_bool _ _ rfl rfl rfl rfl rfl rfl (by simp) rfl rfl ?_; intro wp hX3 hk3 hz3; clear hz3; clear hX; have hX := hX3; clear hk3 hX3; simp only [List.set_cons_zero, List.set_cons_succ] at hX)) | (go_at_call 47; (with_reducible refine (hst _).mono ?_); rintro e' ws ⟨rfl, hbb⟩; replace hX := hX.step hbb; clear hbb) | ((with_reducible refine at_store ?_); refine wpList_bag_overV (cs' := [(.slice A1 n1 c1), .int .i64 (K2).p, .bool (K2).n, .bool (K2).r, .bool (K2).e, .bool (K2).m, .bool (K2).d, .int .i64 (K2).c, .int .i64 (K2).k, .int .i64 (K2).a, .int .i64 (K2).l]) hX.swap aggT sizT _ _ rfl rfl rfl rfl rfl rfl rfl rfl (one_tp rfl _ _ _ _ _ _ _ _ _ _) ?_; clear hX; intro wz hX hkz; clear hkz) | ((with_reducible refine at_store ?_); refine wpList_bag_overV (cs' := [(.slice A1 n1 c1), .int .i64 (K2).p, .bool (K2).n, .bool (K2).r, .bool (K2).e, .bool (K2).m, .bool (K2).d, .int .i64 (K2).c, .int .i64 (K2).k, .int .i64 (K2).a, .int .i64 (K2).l]) hX aggT sizT _ _ rfl rfl rfl rfl rfl rfl rfl rfl (one_tp rfl _ _ _ _ _ _ _ _ _ _) ?_; clear hX; intro wz hX hkz; clear hkz))
      first | exact bodyPost_ret (results_ct Try.results18 rfl ((hX.all _ _ _ (.head _)).loadVar rfl aggT sizT)) rfl ⟨rfl, hX.below⟩ | exact bodyPost_ret (results_ct Try.results18 rfl ((hX.all _ _ _ (.tail _ (.head _))).loadVar rfl aggT sizT)) rfl ⟨rfl, hX.below⟩
    · rw [decide_eq_false hv] at h1
      rw [if_neg (by intro h; exact hv h.2)]
      clear hst
      go_enter Try.func18, Try.ntmps18
      go_wp2
      exact bodyPost_ret (results_ct Try.results18 rfl (((two_tp w _ _).all _ _ _ List.mem_cons_self).loadVar rfl aggT sizT)) rfl ⟨rfl, (two_tp w _ _).below⟩
theorem rwriteT_any (K : Tp) (g v : Int) (vs : Value) (w : World) (X : Nat → Prop) (hs : StsX X w vs K.R) : Calls Try.prog 18 #[.agg #[vs, .int .i64 (K).p, .bool (K).n, .bool (K).r, .bool (K).e, .bool (K).m, .bool (K).d, .int .i64 (K).c, .int .i64 (K).k, .int .i64 (K).a, .int .i64 (K).l], .int .i64 g, .int .i64 v] w fun e' w' => ∃ x, e' = .returned (.tuple #[x, .bool (K.wr g v).2]) ∧ TpX X w' x (K.wr g v).1 ∧ Below w.heap.size w w' := by
  obtain ⟨A1, c1, rfl, _⟩ := hs.now.form
  have hR : (K.wr g v).1.R = K.R := by
    unfold Tp.wr Tp.go
    repeat' split
    all_goals rfl
  have fin : ∀ K2 : Tp, K2.R = K.R → ∀ w', Below w.heap.size w w' → TpX X w' (.agg #[(.slice A1 K.R.length c1), .int .i64 (K2).p, .bool (K2).n, .bool (K2).r, .bool (K2).e, .bool (K2).m, .bool (K2).d, .int .i64 (K2).c, .int .i64 (K2).k, .int .i64 (K2).a, .int .i64 (K2).l]) K2 := fun K2 h w' hb' => ⟨_, rfl, by rw [h]; exact hs.below hb'⟩
  by_cases h0 : g = 0
  · subst h0
    have h2 : (K.wr 0 v).2 = true := by unfold Tp.wr; rw [if_pos rfl]; split <;> rfl
    rw [h2]
    exact (rwrT_0 K v A1 _ c1 w).mono fun e' w' ⟨h1, h2⟩ => ⟨_, h1, fin _ hR _ h2, h2⟩
  by_cases h2 : g = 2
  · subst h2
    exact (rwrT_2 K v A1 _ c1 w).mono fun e' w' ⟨h1, h2⟩ => ⟨_, h1, fin _ hR _ h2, h2⟩
  by_cases h4 : g = 4
  · subst h4
    exact (rwrT_4 K v A1 _ c1 w).mono fun e' w' ⟨h1, h2⟩ => ⟨_, h1, fin _ hR _ h2, h2⟩
  have hz : K.wr g v = (K, false) := by unfold Tp.wr; rw [if_neg h0, if_neg h2, if_neg h4]
  rw [hz]
  exact (rwrT_no K g v h0 h2 h4 A1 _ c1 w).mono fun e' w' ⟨h1, h2⟩ => ⟨_, h1, fin _ rfl _ h2, h2⟩
end Go.Proofs.Ytigmlkfmgheegaa
