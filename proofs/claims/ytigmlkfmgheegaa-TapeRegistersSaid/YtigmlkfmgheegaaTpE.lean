/-
  SameTexts, Same, passed, back, appended of the reference. Condition: at most 2^40 records; the head is on the tape.
-/
import Derived.Test.YtigmlkfmgheegaaTpD
namespace Go.Proofs.Ytigmlkfmgheegaa
open Go.RowKit
set_option linter.unusedSimpArgs false
set_option linter.unusedVariables false
set_option maxHeartbeats 4000000
set_option maxRecDepth 100000
attribute [local irreducible] wpQuiet

theorem rsameS_any (L : List ByteArray) (hl : L.length ≤ 1099511627776) (v v2 : Value) (w : World) (h1 : Sts w v L) (h2 : Sts w v2 L) : Calls Try.prog 40 #[v, v2] w fun e' w' => e' = .returned (.bool true) ∧ Below w.heap.size w w' := by
  obtain ⟨A, c, rfl, _, hc⟩ := h1.form
  obtain ⟨A2, c2, rfl, _, hc2⟩ := h2.form
  have hB := Below.refl w.heap.size w
  clear h1 h2
  go_enter Try.func40, Try.ntmps40
  go_wp2
  go_loopw [5] (fun iv wr => ∃ i : Nat, i ≤ L.length ∧ iv = .int .i64 i ∧ Below w.heap.size w wr) (fun i _ => match i with | .int _ q => L.length - q.toNat | _ => 0)
  case atStart => exact ⟨0, Nat.zero_le _, rfl, hB⟩
  case round =>
    clear hB
    obtain ⟨i, hi, rfl, hB⟩ := hrel
    by_cases hin : i < L.length
    · have hii : (i : Int) < (L.length : Int) := by omega
      have hx := List.getElem?_eq_getElem hin
      generalize L[i] = x at *
      obtain ⟨a, rfl, hL⟩ := hc i x hx
      obtain ⟨a2, rfl, hL2⟩ := hc2 i x hx
      clear hx hc hc2
      go_wp2
      refine region_class (fun w' => Below w.heap.size w w') (by kernel_rfl) (by kernel_rfl) hB.drew ?_
      repeat
        first
          | (refine BigFrame.wpQuiet_skip (by rfl) ?_
             simp only [Act.put, List.setIfInBounds_toArray, List.set_cons_zero, List.set_cons_succ])
          | (refine BigFrame.wpQuiet_want (by rfl) (fun K hK => ?_)
             apply Exists.intro
             refine ⟨fun wq hq => ?_, hK _ ?_⟩
             · first
                 | (refine quiet_load 9 _ _ _ rfl rfl (hL _ hq))
                 | (refine quiet_load 9 _ _ _ rfl rfl (hL2 _ hq))
                 | (unfold Oper.quietAt
                    go_simp
                    first
                      | with_reducible rfl
                   )
             clear hK K
             simp only [Act.put, List.setIfInBounds_toArray, List.set_cons_zero, List.set_cons_succ])
      refine wpQuiet_nil ?_
      intro w4 hB
      go_wp2
      exact ⟨⟨i + 1, by omega, by go_num, hB⟩, by simp only; omega⟩
    · have hii : ¬ (i : Int) < (L.length : Int) := by omega
      clear hc hc2
      go_wp2
      go_ret
      exact ⟨rfl, hB⟩
theorem rsameT_any (K : Tp) (hl : K.R.length ≤ 1099511627776) (v v2 : Value) (w : World) (h1 : Sts w v K.R) (h2 : Sts w v2 K.R) : Calls Try.prog 11 #[.agg #[v, .int .i64 (K).p, .bool (K).n, .bool (K).r, .bool (K).e, .bool (K).m, .bool (K).d, .int .i64 (K).c, .int .i64 (K).k, .int .i64 (K).a, .int .i64 (K).l], .agg #[v2, .int .i64 (K).p, .bool (K).n, .bool (K).r, .bool (K).e, .bool (K).m, .bool (K).d, .int .i64 (K).c, .int .i64 (K).k, .int .i64 (K).a, .int .i64 (K).l]] w fun e' w' => e' = .returned (.bool true) ∧ Below w.heap.size w w' := by
  have hst := fun w' (h : Below w.heap.size w w') => rsameS_any K.R hl v v2 w' (Rz.below h1 h) (Rz.below h2 h)
  obtain ⟨A, c1, rfl, _⟩ := h1.form
  obtain ⟨A2, c2, rfl, _⟩ := h2.form
  obtain ⟨R, p, n, r, e, m, d, c, k, a, l⟩ := K
  dsimp only at *
  have hX := two_tp w [(.slice A R.length c1), .int .i64 p, .bool n, .bool r, .bool e, .bool m, .bool d, .int .i64 c, .int .i64 k, .int .i64 a, .int .i64 l] [(.slice A2 R.length c2), .int .i64 p, .bool n, .bool r, .bool e, .bool m, .bool d, .int .i64 c, .int .i64 k, .int .i64 a, .int .i64 l]
  clear h1 h2
  go_enter Try.func11, Try.ntmps11
  go_wp2_with (first | ((with_reducible refine at_load ?_); refine wpList_bag_cell hX int_cell _ rfl rfl rfl rfl (by first | exact .head _ | exact .tail _ (.head _)) rfl ?_) | ((with_reducible refine at_load ?_); refine wpList_bag_cell hX bool_cell _ rfl rfl rfl rfl (by first | exact .head _ | exact .tail _ (.head _)) rfl ?_) | ((with_reducible refine at_load ?_); refine wpList_bag_cell hX slS_cell _ rfl rfl rfl rfl (by first | exact .head _ | exact .tail _ (.head _)) rfl ?_) | (go_at_call 40; (with_reducible refine (hst _ hX.below).mono ?_); rintro e' w' ⟨rfl, hbb⟩; replace hX := hX.step hbb; clear hbb))
  go_ret
  exact ⟨by simp, hX.below⟩
theorem str_empty (x : ByteArray) : (x.toList == []) = decide (x.size = 0) := by
  rw [Lib.toList_data, Bool.eq_iff_iff]
  have : x.size = x.data.toList.length := Lib.size_eq x
  cases h : x.data.toList <;> simp [h, this]
theorem rpassT_any (K : Tp) (hl : K.R.length ≤ 1099511627776) (hp : 0 ≤ K.p) (A1 : Option Addr) (c1 : Nat) (w : World) (hs : Sts w (.slice A1 K.R.length c1) K.R) : Calls Try.prog 53 #[.agg #[(.slice A1 K.R.length c1), .int .i64 (K).p, .bool (K).n, .bool (K).r, .bool (K).e, .bool (K).m, .bool (K).d, .int .i64 (K).c, .int .i64 (K).k, .int .i64 (K).a, .int .i64 (K).l]] w fun e' w' => e' = .returned (.tuple #[.agg #[(.slice A1 K.R.length c1), .int .i64 (K.pass.1).p, .bool (K.pass.1).n, .bool (K.pass.1).r, .bool (K.pass.1).e, .bool (K.pass.1).m, .bool (K.pass.1).d, .int .i64 (K.pass.1).c, .int .i64 (K.pass.1).k, .int .i64 (K.pass.1).a, .int .i64 (K.pass.1).l], .bool K.pass.2]) ∧ Below w.heap.size w w' := by
  obtain ⟨A, c', hv, _, hc⟩ := hs.form
  cases hv
  obtain ⟨R, p, n, r, e, m, d, c, k, a, l⟩ := K
  dsimp only at hl hp hc ⊢
  clear hs
  have hX := two_tp w [(.slice A1 R.length c1), .int .i64 p, .bool n, .bool r, .bool e, .bool m, .bool d, .int .i64 c, .int .i64 k, .int .i64 a, .int .i64 l] [.slice none 0 0, .int .i64 0, .bool false, .bool false, .bool false, .bool false, .bool false, .int .i64 0, .int .i64 0, .int .i64 0, .int .i64 0]
  by_cases h : (R.length : Int) ≤ p
  · have hK : ∀ n r e m d c k a l, (Tp.mk R p n r e m d c k a l).pass = ({ (Tp.mk R p n r e m d c k a l) with e := true, d := true }, false) := fun n r e m d c k a l => by unfold Tp.pass; rw [if_pos h]
    rw [hK]
    clear hK hc
    go_enter Try.func53, Try.ntmps53
    go_wp2_with (first | ((with_reducible refine at_load ?_); refine wpList_bag_cell hX int_cell _ rfl rfl rfl rfl (by first | exact .head _ | exact .tail _ (.head _)) rfl ?_) | ((with_reducible refine at_load ?_); refine wpList_bag_cell hX bool_cell _ rfl rfl rfl rfl (by first | exact .head _ | exact .tail _ (.head _)) rfl ?_) | ((with_reducible refine at_load ?_); refine wpList_bag_cell hX slS_cell _ rfl rfl rfl rfl (by first | exact .head _ | exact .tail _ (.head _)) rfl ?_) | ((with_reducible refine at_load ?_); refine wpList_bag_part (k := 0) hX aggT sizT _ rfl rfl rfl rfl (by first | exact .head _ | exact .tail _ (.head _)) (fun jz vz hz => (congrArg (fun n => ([_, _, _, _, _, _, _, _, _, _, _] : List Value)[n]?) (Nat.zero_add jz)).trans hz) rfl ?_) | ((with_reducible refine at_store ?_); first | (refine wpList_bag_putV (z := .bool _) hX.swap siz_bool _ _ rfl rfl rfl rfl rfl rfl (by simp) rfl rfl ?_; intro wp hX3 hk3 hz3; clear hz3; clear hX; have hX := hX3; clear hk3 hX3; simp only [List.set_cons_zero, List.set_cons_succ] at hX) | (refine wpList_bag_putV (z := .bool _) hX siz_bool _ _ rfl rfl rfl rfl rfl rfl (by simp) rfl rfl ?_; intro wp hX3 hk3 hz3; clear hz3; clear hX; have hX := hX3; clear hk3 hX3; simp only [List.set_cons_zero, List.set_cons_succ] at hX)) | ((with_reducible refine at_store ?_); first | (refine wpList_bag_putV (z := .int .i64 _) hX.swap siz_int _ _ rfl rfl rfl rfl rfl rfl (by simp) rfl rfl ?_; intro wp hX3 hk3 hz3; clear hz3; clear hX; have hX := hX3; clear hk3 hX3; simp only [List.set_cons_zero, List.set_cons_succ] at hX) | (refine wpList_bag_putV (z := .int .i64 _) hX siz_int _ _ rfl rfl rfl rfl rfl rfl (by simp) rfl rfl ?_; intro wp hX3 hk3 hz3; clear hz3; clear hX; have hX := hX3; clear hk3 hX3; simp only [List.set_cons_zero, List.set_cons_succ] at hX)) | ((with_reducible refine at_store ?_); refine wpList_bag_overV (cs' := [(.slice A1 R.length c1), .int .i64 p, .bool n, .bool r, .bool true, .bool m, .bool true, .int .i64 c, .int .i64 k, .int .i64 a, .int .i64 l]) hX.swap aggT sizT _ _ rfl rfl rfl rfl rfl rfl rfl rfl (one_tp rfl _ _ _ _ _ _ _ _ _ _) ?_; clear hX; intro wz hX hkz; clear hkz) | ((with_reducible refine at_store ?_); refine wpList_bag_overV (cs' := [(.slice A1 R.length c1), .int .i64 p, .bool n, .bool r, .bool true, .bool m, .bool true, .int .i64 c, .int .i64 k, .int .i64 a, .int .i64 l]) hX aggT sizT _ _ rfl rfl rfl rfl rfl rfl rfl rfl (one_tp rfl _ _ _ _ _ _ _ _ _ _) ?_; clear hX; intro wz hX hkz; clear hkz))
    first | exact bodyPost_ret (results_ct Try.results53 rfl ((hX.all _ _ _ (.head _)).loadVar rfl aggT sizT)) rfl ⟨rfl, hX.below⟩ | exact bodyPost_ret (results_ct Try.results53 rfl ((hX.all _ _ _ (.tail _ (.head _))).loadVar rfl aggT sizT)) rfl ⟨rfl, hX.below⟩
  obtain ⟨j, rfl⟩ : ∃ j : Nat, p = (j : Int) := ⟨p.toNat, by omega⟩
  have hjl : j < R.length := by omega
  have hji : (j : Int) < (R.length : Int) := by omega
  have hx := List.getElem?_eq_getElem hjl
  have hrec : ∀ n r e m d c k a l, recV (Tp.mk R (j : Int) n r e m d c k a l) (j : Int) = R[j] := fun n r e m d c k a l => by show R.getD ((j : Int).toNat) ⟨#[]⟩ = _; rw [Int.toNat_natCast, List.getD_eq_getElem?_getD, hx]; rfl
  have hK : ∀ n r e m d c k a l, (Tp.mk R (j : Int) n r e m d c k a l).pass = ({ (Tp.mk R (j : Int) n r e m d c k a l) with m := m || decide ((R[j]).size = 0), p := (j : Int) + 1 }, true) := fun n r e m d c k a l => by unfold Tp.pass; rw [if_neg h]; dsimp only; rw [hrec]
  rw [hK]
  clear hK hrec h
  generalize R[j] = x at *
  obtain ⟨a', rfl, hL⟩ := hc j x hx
  have hemp : (x.toList == []) = decide (x.size = 0) := str_empty x
  have hemp2 : (x.toList == (⟨#[]⟩ : ByteArray).toList) = decide (x.size = 0) := by rw [show (⟨#[]⟩ : ByteArray).toList = [] from Lib.toList_data _]; exact str_empty x
  generalize decide (x.size = 0) = q at *
  have hw : IntKind.i64.wrap ((j : Int) + 1) = (j : Int) + 1 := by rw [wrap_i64]; unfold wrap64; omega
  clear hc hx hp
  cases m
  all_goals
    go_enter Try.func53, Try.ntmps53
    go_wp2_with (first | ((with_reducible refine at_load ?_); refine wpList_bag_cell hX int_cell _ rfl rfl rfl rfl (by first | exact .head _ | exact .tail _ (.head _)) rfl ?_) | ((with_reducible refine at_load ?_); refine wpList_bag_cell hX bool_cell _ rfl rfl rfl rfl (by first | exact .head _ | exact .tail _ (.head _)) rfl ?_) | ((with_reducible refine at_load ?_); refine wpList_bag_cell hX slS_cell _ rfl rfl rfl rfl (by first | exact .head _ | exact .tail _ (.head _)) rfl ?_) | ((with_reducible refine at_load ?_); refine wpList_loadW rfl 9 _ _ _ rfl rfl (hL _ hX.below) ?_) | ((with_reducible refine at_load ?_); refine wpList_bag_part (k := 0) hX aggT sizT _ rfl rfl rfl rfl (by first | exact .head _ | exact .tail _ (.head _)) (fun jz vz hz => (congrArg (fun n => ([_, _, _, _, _, _, _, _, _, _, _] : List Value)[n]?) (Nat.zero_add jz)).trans hz) rfl ?_) | ((with_reducible refine at_store ?_); first | (refine wpList_bag_putV (z := .bool _) hX.swap siz_bool _ _ rfl rfl rfl rfl rfl rfl (by simp) rfl rfl ?_; intro wp hX3 hk3 hz3; clear hz3; clear hX; have hX := hX3; clear hk3 hX3; simp only [List.set_cons_zero, List.set_cons_succ] at hX) | (refine wpList_bag_putV (z := .bool _) hX siz_bool _ _ rfl rfl rfl rfl rfl rfl (by simp) rfl rfl ?_; intro wp hX3 hk3 hz3; clear hz3; clear hX; have hX := hX3; clear hk3 hX3; simp only [List.set_cons_zero, List.set_cons_succ] at hX)) | ((with_reducible refine at_store ?_); first | (refine wpList_bag_putV (z := .int .i64 _) hX.swap siz_int _ _ rfl rfl rfl rfl rfl rfl (by simp) rfl rfl ?_; intro wp hX3 hk3 hz3; clear hz3; clear hX; have hX := hX3; clear hk3 hX3; simp only [List.set_cons_zero, List.set_cons_succ] at hX) | (refine wpList_bag_putV (z := .int .i64 _) hX siz_int _ _ rfl rfl rfl rfl rfl rfl (by simp) rfl rfl ?_; intro wp hX3 hk3 hz3; clear hz3; clear hX; have hX := hX3; clear hk3 hX3; simp only [List.set_cons_zero, List.set_cons_succ] at hX)) | ((with_reducible refine at_store ?_); refine wpList_bag_overV (cs' := [(.slice (some a') R.length c1), .int .i64 ((j : Int) + 1), .bool n, .bool r, .bool e, .bool _, .bool d, .int .i64 c, .int .i64 k, .int .i64 a, .int .i64 l]) hX.swap aggT sizT _ _ rfl rfl rfl rfl rfl rfl rfl rfl (one_tp rfl _ _ _ _ _ _ _ _ _ _) ?_; clear hX; intro wz hX hkz; clear hkz) | ((with_reducible refine at_store ?_); refine wpList_bag_overV (cs' := [(.slice (some a') R.length c1), .int .i64 ((j : Int) + 1), .bool n, .bool r, .bool e, .bool _, .bool d, .int .i64 c, .int .i64 k, .int .i64 a, .int .i64 l]) hX aggT sizT _ _ rfl rfl rfl rfl rfl rfl rfl rfl (one_tp rfl _ _ _ _ _ _ _ _ _ _) ?_; clear hX; intro wz hX hkz; clear hkz))
    first | exact bodyPost_ret (results_ct Try.results53 rfl ((hX.all _ _ _ (.head _)).loadVar rfl aggT sizT)) rfl ⟨rfl, hX.below⟩ | exact bodyPost_ret (results_ct Try.results53 rfl ((hX.all _ _ _ (.tail _ (.head _))).loadVar rfl aggT sizT)) rfl ⟨rfl, hX.below⟩
theorem rbackT_any (K : Tp) (hl : K.R.length ≤ 1099511627776) (hp : 0 ≤ K.p ∧ K.p ≤ (K.R.length : Int)) (A1 : Option Addr) (c1 : Nat) (w : World) (hs : Sts w (.slice A1 K.R.length c1) K.R) : Calls Try.prog 54 #[.agg #[(.slice A1 K.R.length c1), .int .i64 (K).p, .bool (K).n, .bool (K).r, .bool (K).e, .bool (K).m, .bool (K).d, .int .i64 (K).c, .int .i64 (K).k, .int .i64 (K).a, .int .i64 (K).l]] w fun e' w' => e' = .returned (.agg #[(.slice A1 K.R.length c1), .int .i64 (K.back).p, .bool (K.back).n, .bool (K.back).r, .bool (K.back).e, .bool (K.back).m, .bool (K.back).d, .int .i64 (K.back).c, .int .i64 (K.back).k, .int .i64 (K.back).a, .int .i64 (K.back).l]) ∧ Below w.heap.size w w' := by
  obtain ⟨A, c', hv, _, hc⟩ := hs.form
  cases hv
  obtain ⟨R, p, n, r, e, m, d, c, k, a, l⟩ := K
  dsimp only at hl hp hc ⊢
  clear hs
  have hX := two_tp w [(.slice A1 R.length c1), .int .i64 p, .bool n, .bool r, .bool e, .bool m, .bool d, .int .i64 c, .int .i64 k, .int .i64 a, .int .i64 l] [.slice none 0 0, .int .i64 0, .bool false, .bool false, .bool false, .bool false, .bool false, .int .i64 0, .int .i64 0, .int .i64 0, .int .i64 0]
  by_cases h : p = 0
  · subst h
    have hK : ∀ n r e m d c k a l, (Tp.mk R 0 n r e m d c k a l).back = { (Tp.mk R 0 n r e m d c k a l) with d := true } := fun n r e m d c k a l => by unfold Tp.back; rw [if_pos rfl]
    rw [hK]
    clear hK hc
    go_enter Try.func54, Try.ntmps54
    go_wp2_with (first | ((with_reducible refine at_load ?_); refine wpList_bag_cell hX int_cell _ rfl rfl rfl rfl (by first | exact .head _ | exact .tail _ (.head _)) rfl ?_) | ((with_reducible refine at_load ?_); refine wpList_bag_cell hX bool_cell _ rfl rfl rfl rfl (by first | exact .head _ | exact .tail _ (.head _)) rfl ?_) | ((with_reducible refine at_load ?_); refine wpList_bag_cell hX slS_cell _ rfl rfl rfl rfl (by first | exact .head _ | exact .tail _ (.head _)) rfl ?_) | ((with_reducible refine at_load ?_); refine wpList_bag_part (k := 0) hX aggT sizT _ rfl rfl rfl rfl (by first | exact .head _ | exact .tail _ (.head _)) (fun jz vz hz => (congrArg (fun n => ([_, _, _, _, _, _, _, _, _, _, _] : List Value)[n]?) (Nat.zero_add jz)).trans hz) rfl ?_) | ((with_reducible refine at_store ?_); first | (refine wpList_bag_putV (z := .bool _) hX.swap siz_bool _ _ rfl rfl rfl rfl rfl rfl (by simp) rfl rfl ?_; intro wp hX3 hk3 hz3; clear hz3; clear hX; have hX := hX3; clear hk3 hX3; simp only [List.set_cons_zero, List.set_cons_succ] at hX) | (refine wpList_bag_putV (z := .bool _) hX siz_bool _ _ rfl rfl rfl rfl rfl rfl (by simp) rfl rfl ?_; intro wp hX3 hk3 hz3; clear hz3; clear hX; have hX := hX3; clear hk3 hX3; simp only [List.set_cons_zero, List.set_cons_succ] at hX)) | ((with_reducible refine at_store ?_); first | (refine wpList_bag_putV (z := .int .i64 _) hX.swap siz_int _ _ rfl rfl rfl rfl rfl rfl (by simp) rfl rfl ?_; intro wp hX3 hk3 hz3; clear hz3; clear hX; have hX := hX3; clear hk3 hX3; simp only [List.set_cons_zero, List.set_cons_succ] at hX) | (refine wpList_bag_putV (z := .int .i64 _) hX siz_int _ _ rfl rfl rfl rfl rfl rfl (by simp) rfl rfl ?_; intro wp hX3 hk3 hz3; clear hz3; clear hX; have hX := hX3; clear hk3 hX3; simp only [List.set_cons_zero, List.set_cons_succ] at hX)) | ((with_reducible refine at_store ?_); refine wpList_bag_overV (cs' := [(.slice A1 R.length c1), .int .i64 0, .bool n, .bool r, .bool e, .bool m, .bool true, .int .i64 c, .int .i64 k, .int .i64 a, .int .i64 l]) hX.swap aggT sizT _ _ rfl rfl rfl rfl rfl rfl rfl rfl (one_tp rfl _ _ _ _ _ _ _ _ _ _) ?_; clear hX; intro wz hX hkz; clear hkz) | ((with_reducible refine at_store ?_); refine wpList_bag_overV (cs' := [(.slice A1 R.length c1), .int .i64 0, .bool n, .bool r, .bool e, .bool m, .bool true, .int .i64 c, .int .i64 k, .int .i64 a, .int .i64 l]) hX aggT sizT _ _ rfl rfl rfl rfl rfl rfl rfl rfl (one_tp rfl _ _ _ _ _ _ _ _ _ _) ?_; clear hX; intro wz hX hkz; clear hkz))
    first | exact bodyPost_ret (results_c Try.results54 rfl ((hX.all _ _ _ (.head _)).loadVar rfl aggT sizT)) rfl ⟨rfl, hX.below⟩ | exact bodyPost_ret (results_c Try.results54 rfl ((hX.all _ _ _ (.tail _ (.head _))).loadVar rfl aggT sizT)) rfl ⟨rfl, hX.below⟩
  obtain ⟨j, rfl⟩ : ∃ j : Nat, p = (j : Int) + 1 := ⟨p.toNat - 1, by omega⟩
  have hjl : j < R.length := by omega
  have hji : (j : Int) < (R.length : Int) := by omega
  have hx := List.getElem?_eq_getElem hjl
  have hrec : ∀ n r e m d c k a l, recV (Tp.mk R ((j : Int) + 1) n r e m d c k a l) ((j : Int) + 1 - 1) = R[j] := fun n r e m d c k a l => by show R.getD (((j : Int) + 1 - 1).toNat) ⟨#[]⟩ = _; rw [Int.add_sub_cancel, Int.toNat_natCast, List.getD_eq_getElem?_getD, hx]; rfl
  have hK : ∀ n r e m d c k a l, (Tp.mk R ((j : Int) + 1) n r e m d c k a l).back = { (Tp.mk R ((j : Int) + 1) n r e m d c k a l) with m := m || decide ((R[j]).size = 0), p := (j : Int) } := fun n r e m d c k a l => by unfold Tp.back; rw [if_neg h]; dsimp only; rw [hrec, Int.add_sub_cancel]
  rw [hK]
  clear hK hrec
  generalize R[j] = x at *
  obtain ⟨a', rfl, hL⟩ := hc j x hx
  have hemp : (x.toList == []) = decide (x.size = 0) := str_empty x
  have hemp2 : (x.toList == (⟨#[]⟩ : ByteArray).toList) = decide (x.size = 0) := by rw [show (⟨#[]⟩ : ByteArray).toList = [] from Lib.toList_data _]; exact str_empty x
  generalize decide (x.size = 0) = q at *
  have he : ((j : Int) + 1 == 0) = false := by simp; omega
  have hw0 : (j : Int) + 1 - 1 = (j : Int) := by omega
  have hw : IntKind.i64.wrap (j : Int) = (j : Int) := by rw [wrap_i64]; unfold wrap64; omega
  clear hc hx hp h
  cases m
  all_goals
    go_enter Try.func54, Try.ntmps54
    go_wp2_with (first | ((with_reducible refine at_load ?_); refine wpList_bag_cell hX int_cell _ rfl rfl rfl rfl (by first | exact .head _ | exact .tail _ (.head _)) rfl ?_) | ((with_reducible refine at_load ?_); refine wpList_bag_cell hX bool_cell _ rfl rfl rfl rfl (by first | exact .head _ | exact .tail _ (.head _)) rfl ?_) | ((with_reducible refine at_load ?_); refine wpList_bag_cell hX slS_cell _ rfl rfl rfl rfl (by first | exact .head _ | exact .tail _ (.head _)) rfl ?_) | ((with_reducible refine at_load ?_); refine wpList_loadW rfl 9 _ _ _ rfl rfl (hL _ hX.below) ?_) | ((with_reducible refine at_load ?_); refine wpList_bag_part (k := 0) hX aggT sizT _ rfl rfl rfl rfl (by first | exact .head _ | exact .tail _ (.head _)) (fun jz vz hz => (congrArg (fun n => ([_, _, _, _, _, _, _, _, _, _, _] : List Value)[n]?) (Nat.zero_add jz)).trans hz) rfl ?_) | ((with_reducible refine at_store ?_); first | (refine wpList_bag_putV (z := .bool _) hX.swap siz_bool _ _ rfl rfl rfl rfl rfl rfl (by simp) rfl rfl ?_; intro wp hX3 hk3 hz3; clear hz3; clear hX; have hX := hX3; clear hk3 hX3; simp only [List.set_cons_zero, List.set_cons_succ] at hX) | (refine wpList_bag_putV (z := .bool _) hX siz_bool _ _ rfl rfl rfl rfl rfl rfl (by simp) rfl rfl ?_; intro wp hX3 hk3 hz3; clear hz3; clear hX; have hX := hX3; clear hk3 hX3; simp only [List.set_cons_zero, List.set_cons_succ] at hX)) | ((with_reducible refine at_store ?_); first | (refine wpList_bag_putV (z := .int .i64 _) hX.swap siz_int _ _ rfl rfl rfl rfl rfl rfl (by simp) rfl rfl ?_; intro wp hX3 hk3 hz3; clear hz3; clear hX; have hX := hX3; clear hk3 hX3; simp only [List.set_cons_zero, List.set_cons_succ] at hX) | (refine wpList_bag_putV (z := .int .i64 _) hX siz_int _ _ rfl rfl rfl rfl rfl rfl (by simp) rfl rfl ?_; intro wp hX3 hk3 hz3; clear hz3; clear hX; have hX := hX3; clear hk3 hX3; simp only [List.set_cons_zero, List.set_cons_succ] at hX)) | ((with_reducible refine at_store ?_); refine wpList_bag_overV (cs' := [(.slice (some a') R.length c1), .int .i64 (j : Int), .bool n, .bool r, .bool e, .bool _, .bool d, .int .i64 c, .int .i64 k, .int .i64 a, .int .i64 l]) hX.swap aggT sizT _ _ rfl rfl rfl rfl rfl rfl rfl rfl (one_tp rfl _ _ _ _ _ _ _ _ _ _) ?_; clear hX; intro wz hX hkz; clear hkz) | ((with_reducible refine at_store ?_); refine wpList_bag_overV (cs' := [(.slice (some a') R.length c1), .int .i64 (j : Int), .bool n, .bool r, .bool e, .bool _, .bool d, .int .i64 c, .int .i64 k, .int .i64 a, .int .i64 l]) hX aggT sizT _ _ rfl rfl rfl rfl rfl rfl rfl rfl (one_tp rfl _ _ _ _ _ _ _ _ _ _) ?_; clear hX; intro wz hX hkz; clear hkz))
    first | exact bodyPost_ret (results_c Try.results54 rfl ((hX.all _ _ _ (.head _)).loadVar rfl aggT sizT)) rfl ⟨rfl, hX.below⟩ | exact bodyPost_ret (results_c Try.results54 rfl ((hX.all _ _ _ (.tail _ (.head _))).loadVar rfl aggT sizT)) rfl ⟨rfl, hX.below⟩
end Go.Proofs.Ytigmlkfmgheegaa
