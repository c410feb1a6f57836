/-
  spaceForward, spaceBack, appendRecord of the program. Conditions: at most 2^40 records; the head is on the tape; the records are a row of the call's own (appendRecord).
-/
import Derived.Test.YtigmlkfmgheegaaTpYc
import Derived.Test.YtigmlkfmgheegaaTpF
import Derived.Test.YtigmlkfmgheegaaTpI
namespace Go.Proofs.Ytigmlkfmgheegaa
open Go.RowKit
set_option linter.unusedSimpArgs false
set_option linter.unusedVariables false
set_option maxHeartbeats 4000000
set_option maxRecDepth 100000
attribute [local irreducible] wpQuiet

theorem pfwdT_any (K : Tp) (hl : K.R.length ≤ 1099511627776) (hp : 0 ≤ K.p ∧ K.p ≤ (K.R.length : Int)) (A1 : Option Addr) (c1 : Nat) (w : World) (hs : Sts w (.slice A1 K.R.length c1) K.R) : Calls Try.prog 68 #[.agg #[(.slice A1 K.R.length c1), .int .i64 (K).p, .bool (K).n, .bool (K).r, .bool (K).e, .bool (K).m, .bool (K).d, .int .i64 (K).c, .int .i64 (K).k, .int .i64 (K).a, .int .i64 (K).l]] w fun e' w' => e' = .returned (.tuple #[.agg #[(.slice A1 K.R.length c1), .int .i64 (K.pass.1).p, .bool (K.pass.1).n, .bool (K.pass.1).r, .bool (K.pass.1).e, .bool (K.pass.1).m, .bool (K.pass.1).d, .int .i64 (K.pass.1).c, .int .i64 (K.pass.1).k, .int .i64 (K.pass.1).a, .int .i64 (K.pass.1).l], .bool K.pass.2]) ∧ Below w.heap.size w w' := by
  obtain ⟨A, c', hv, _, hc⟩ := hs.form
  cases hv
  obtain ⟨R, p, n, r, e, m, d, c, k, a, l⟩ := K
  dsimp only at hl hp hc ⊢
  clear hs
  have hX := two_tp w [(.slice A1 R.length c1), .int .i64 p, .bool n, .bool r, .bool e, .bool m, .bool d, .int .i64 c, .int .i64 k, .int .i64 a, .int .i64 l] [.slice none 0 0, .int .i64 0, .bool false, .bool false, .bool false, .bool false, .bool false, .int .i64 0, .int .i64 0, .int .i64 0, .int .i64 0]
  by_cases h : (R.length : Int) ≤ p
  · have hK : ∀ n r e m d c k a l, (Tp.mk R p n r e m d c k a l).pass = ({ (Tp.mk R p n r e m d c k a l) with e := true, d := true }, false) := fun n r e m d c k a l => by unfold Tp.pass; rw [if_pos h]
    rw [hK]
    have d1 : (p == (R.length : Int)) = true := by simp; omega
    clear hK hc
    go_enter Try.func68, Try.ntmps68
    go_wp2_with (first | ((with_reducible refine at_load ?_); refine wpList_bag_cell hX int_cell _ rfl rfl rfl rfl (by first | exact .head _ | exact .tail _ (.head _)) rfl ?_) | ((with_reducible refine at_load ?_); refine wpList_bag_cell hX bool_cell _ rfl rfl rfl rfl (by first | exact .head _ | exact .tail _ (.head _)) rfl ?_) | ((with_reducible refine at_load ?_); refine wpList_bag_cell hX slS_cell _ rfl rfl rfl rfl (by first | exact .head _ | exact .tail _ (.head _)) rfl ?_) | ((with_reducible refine at_load ?_); refine wpList_bag_part (k := 0) hX aggT sizT _ rfl rfl rfl rfl (by first | exact .head _ | exact .tail _ (.head _)) (fun jz vz hz => (congrArg (fun n => ([_, _, _, _, _, _, _, _, _, _, _] : List Value)[n]?) (Nat.zero_add jz)).trans hz) rfl ?_) | (go_at_call 81; (with_reducible refine (pfailT_any (Tp.mk R p n r e m d c k a l) A1 R.length c1 _).mono ?_); rintro e' wp ⟨rfl, hbb⟩; replace hX := hX.step hbb; clear hbb) | ((with_reducible refine at_store ?_); refine wpList_bag_overV (cs' := [(.slice A1 R.length c1), .int .i64 p, .bool n, .bool r, .bool true, .bool m, .bool true, .int .i64 c, .int .i64 k, .int .i64 a, .int .i64 l]) hX.swap aggT sizT _ _ rfl rfl rfl rfl rfl rfl rfl rfl (one_tp rfl _ _ _ _ _ _ _ _ _ _) ?_; clear hX; intro wz hX hkz; clear hkz) | ((with_reducible refine at_store ?_); refine wpList_bag_overV (cs' := [(.slice A1 R.length c1), .int .i64 p, .bool n, .bool r, .bool true, .bool m, .bool true, .int .i64 c, .int .i64 k, .int .i64 a, .int .i64 l]) hX aggT sizT _ _ rfl rfl rfl rfl rfl rfl rfl rfl (one_tp rfl _ _ _ _ _ _ _ _ _ _) ?_; clear hX; intro wz hX hkz; clear hkz))
    first | exact bodyPost_ret (results_ct Try.results68 rfl ((hX.all _ _ _ (.head _)).loadVar rfl aggT sizT)) rfl ⟨rfl, hX.below⟩ | exact bodyPost_ret (results_ct Try.results68 rfl ((hX.all _ _ _ (.tail _ (.head _))).loadVar rfl aggT sizT)) rfl ⟨rfl, hX.below⟩
  obtain ⟨j, rfl⟩ : ∃ j : Nat, p = (j : Int) := ⟨p.toNat, by omega⟩
  have hjl : j < R.length := by omega
  have hji : (j : Int) < (R.length : Int) := by omega
  have d1 : ((j : Int) == (R.length : Int)) = false := by simp; omega
  have hx := List.getElem?_eq_getElem hjl
  have hrec : ∀ n r e m d c k a l, recV (Tp.mk R (j : Int) n r e m d c k a l) (j : Int) = R[j] := fun n r e m d c k a l => by show R.getD ((j : Int).toNat) ⟨#[]⟩ = _; rw [Int.toNat_natCast, List.getD_eq_getElem?_getD, hx]; rfl
  have hK : ∀ n r e m d c k a l, (Tp.mk R (j : Int) n r e m d c k a l).pass = ({ (Tp.mk R (j : Int) n r e m d c k a l) with m := m || decide ((R[j]).size = 0), p := (j : Int) + 1 }, true) := fun n r e m d c k a l => by unfold Tp.pass; rw [if_neg h]; dsimp only; rw [hrec]
  rw [hK]
  clear hK hrec h
  generalize R[j] = x at *
  obtain ⟨a', rfl, hL⟩ := hc j x hx
  have hemp : (x.toList == []) = decide (x.size = 0) := str_empty x
  have hemp2 : (x.toList == (⟨#[]⟩ : ByteArray).toList) = decide (x.size = 0) := by rw [show (⟨#[]⟩ : ByteArray).toList = [] from Lib.toList_data _]; exact str_empty x
  generalize decide (x.size = 0) = q at *
  have hw : IntKind.i64.wrap ((j : Int) + 1) = (j : Int) + 1 := by rw [wrap_i64]; unfold wrap64; omega
  clear hc hx hp
  cases m
  all_goals
    go_enter Try.func68, Try.ntmps68
    go_wp2_with (first | ((with_reducible refine at_load ?_); refine wpList_bag_cell hX int_cell _ rfl rfl rfl rfl (by first | exact .head _ | exact .tail _ (.head _)) rfl ?_) | ((with_reducible refine at_load ?_); refine wpList_bag_cell hX bool_cell _ rfl rfl rfl rfl (by first | exact .head _ | exact .tail _ (.head _)) rfl ?_) | ((with_reducible refine at_load ?_); refine wpList_bag_cell hX slS_cell _ rfl rfl rfl rfl (by first | exact .head _ | exact .tail _ (.head _)) rfl ?_) | ((with_reducible refine at_load ?_); refine wpList_loadW rfl 9 _ _ _ rfl rfl (hL _ hX.below) ?_) | ((with_reducible refine at_load ?_); refine wpList_bag_part (k := 0) hX aggT sizT _ rfl rfl rfl rfl (by first | exact .head _ | exact .tail _ (.head _)) (fun jz vz hz => (congrArg (fun n => ([_, _, _, _, _, _, _, _, _, _, _] : List Value)[n]?) (Nat.zero_add jz)).trans hz) rfl ?_) | ((with_reducible refine at_store ?_); first | (refine wpList_bag_putV (z := .bool _) hX.swap siz_bool _ _ rfl rfl rfl rfl rfl rfl (by simp) rfl rfl ?_; intro wp hX3 hk3 hz3; clear hz3; clear hX; have hX := hX3; clear hk3 hX3; simp only [List.set_cons_zero, List.set_cons_succ] at hX) | (refine wpList_bag_putV (z := .bool _) hX siz_bool _ _ rfl rfl rfl rfl rfl rfl (by simp) rfl rfl ?_; intro wp hX3 hk3 hz3; clear hz3; clear hX; have hX := hX3; clear hk3 hX3; simp only [List.set_cons_zero, List.set_cons_succ] at hX)) | ((with_reducible refine at_store ?_); first | (refine wpList_bag_putV (z := .int .i64 _) hX.swap siz_int _ _ rfl rfl rfl rfl rfl rfl (by simp) rfl rfl ?_; intro wp hX3 hk3 hz3; clear hz3; clear hX; have hX := hX3; clear hk3 hX3; simp only [List.set_cons_zero, List.set_cons_succ] at hX) | (refine wpList_bag_putV (z := .int .i64 _) hX siz_int _ _ rfl rfl rfl rfl rfl rfl (by simp) rfl rfl ?_; intro wp hX3 hk3 hz3; clear hz3; clear hX; have hX := hX3; clear hk3 hX3; simp only [List.set_cons_zero, List.set_cons_succ] at hX)) | ((with_reducible refine at_store ?_); refine wpList_bag_overV (cs' := [(.slice (some a') R.length c1), .int .i64 ((j : Int) + 1), .bool n, .bool r, .bool e, .bool _, .bool d, .int .i64 c, .int .i64 k, .int .i64 a, .int .i64 l]) hX.swap aggT sizT _ _ rfl rfl rfl rfl rfl rfl rfl rfl (one_tp rfl _ _ _ _ _ _ _ _ _ _) ?_; clear hX; intro wz hX hkz; clear hkz) | ((with_reducible refine at_store ?_); refine wpList_bag_overV (cs' := [(.slice (some a') R.length c1), .int .i64 ((j : Int) + 1), .bool n, .bool r, .bool e, .bool _, .bool d, .int .i64 c, .int .i64 k, .int .i64 a, .int .i64 l]) hX aggT sizT _ _ rfl rfl rfl rfl rfl rfl rfl rfl (one_tp rfl _ _ _ _ _ _ _ _ _ _) ?_; clear hX; intro wz hX hkz; clear hkz))
    first | exact bodyPost_ret (results_ct Try.results68 rfl ((hX.all _ _ _ (.head _)).loadVar rfl aggT sizT)) rfl ⟨rfl, hX.below⟩ | exact bodyPost_ret (results_ct Try.results68 rfl ((hX.all _ _ _ (.tail _ (.head _))).loadVar rfl aggT sizT)) rfl ⟨rfl, hX.below⟩
theorem pbackT_any (K : Tp) (hl : K.R.length ≤ 1099511627776) (hp : 0 ≤ K.p ∧ K.p ≤ (K.R.length : Int)) (A1 : Option Addr) (c1 : Nat) (w : World) (hs : Sts w (.slice A1 K.R.length c1) K.R) : Calls Try.prog 69 #[.agg #[(.slice A1 K.R.length c1), .int .i64 (K).p, .bool (K).n, .bool (K).r, .bool (K).e, .bool (K).m, .bool (K).d, .int .i64 (K).c, .int .i64 (K).k, .int .i64 (K).a, .int .i64 (K).l]] w fun e' w' => e' = .returned (.agg #[(.slice A1 K.R.length c1), .int .i64 (K.back).p, .bool (K.back).n, .bool (K.back).r, .bool (K.back).e, .bool (K.back).m, .bool (K.back).d, .int .i64 (K.back).c, .int .i64 (K.back).k, .int .i64 (K.back).a, .int .i64 (K.back).l]) ∧ Below w.heap.size w w' := by
  obtain ⟨A, c', hv, _, hc⟩ := hs.form
  cases hv
  obtain ⟨R, p, n, r, e, m, d, c, k, a, l⟩ := K
  dsimp only at hl hp hc ⊢
  clear hs
  have hX := two_tp w [(.slice A1 R.length c1), .int .i64 p, .bool n, .bool r, .bool e, .bool m, .bool d, .int .i64 c, .int .i64 k, .int .i64 a, .int .i64 l] [.slice none 0 0, .int .i64 0, .bool false, .bool false, .bool false, .bool false, .bool false, .int .i64 0, .int .i64 0, .int .i64 0, .int .i64 0]
  by_cases h : p = 0
  · subst h
    have hK : ∀ n r e m d c k a l, (Tp.mk R 0 n r e m d c k a l).back = { (Tp.mk R 0 n r e m d c k a l) with d := true } := fun n r e m d c k a l => by unfold Tp.back; rw [if_pos rfl]
    rw [hK]
    clear hK hc
    go_enter Try.func69, Try.ntmps69
    go_wp2_with (first | ((with_reducible refine at_load ?_); refine wpList_bag_cell hX int_cell _ rfl rfl rfl rfl (by first | exact .head _ | exact .tail _ (.head _)) rfl ?_) | ((with_reducible refine at_load ?_); refine wpList_bag_cell hX bool_cell _ rfl rfl rfl rfl (by first | exact .head _ | exact .tail _ (.head _)) rfl ?_) | ((with_reducible refine at_load ?_); refine wpList_bag_cell hX slS_cell _ rfl rfl rfl rfl (by first | exact .head _ | exact .tail _ (.head _)) rfl ?_) | ((with_reducible refine at_load ?_); refine wpList_bag_part (k := 0) hX aggT sizT _ rfl rfl rfl rfl (by first | exact .head _ | exact .tail _ (.head _)) (fun jz vz hz => (congrArg (fun n => ([_, _, _, _, _, _, _, _, _, _, _] : List Value)[n]?) (Nat.zero_add jz)).trans hz) rfl ?_) | ((with_reducible refine at_store ?_); first | (refine wpList_bag_putV (z := .bool _) hX.swap siz_bool _ _ rfl rfl rfl rfl rfl rfl (by simp) rfl rfl ?_; intro wp hX3 hk3 hz3; clear hz3; clear hX; have hX := hX3; clear hk3 hX3; simp only [List.set_cons_zero, List.set_cons_succ] at hX) | (refine wpList_bag_putV (z := .bool _) hX siz_bool _ _ rfl rfl rfl rfl rfl rfl (by simp) rfl rfl ?_; intro wp hX3 hk3 hz3; clear hz3; clear hX; have hX := hX3; clear hk3 hX3; simp only [List.set_cons_zero, List.set_cons_succ] at hX)) | ((with_reducible refine at_store ?_); first | (refine wpList_bag_putV (z := .int .i64 _) hX.swap siz_int _ _ rfl rfl rfl rfl rfl rfl (by simp) rfl rfl ?_; intro wp hX3 hk3 hz3; clear hz3; clear hX; have hX := hX3; clear hk3 hX3; simp only [List.set_cons_zero, List.set_cons_succ] at hX) | (refine wpList_bag_putV (z := .int .i64 _) hX siz_int _ _ rfl rfl rfl rfl rfl rfl (by simp) rfl rfl ?_; intro wp hX3 hk3 hz3; clear hz3; clear hX; have hX := hX3; clear hk3 hX3; simp only [List.set_cons_zero, List.set_cons_succ] at hX)) | ((with_reducible refine at_store ?_); refine wpList_bag_overV (cs' := [(.slice A1 R.length c1), .int .i64 0, .bool n, .bool r, .bool e, .bool m, .bool true, .int .i64 c, .int .i64 k, .int .i64 a, .int .i64 l]) hX.swap aggT sizT _ _ rfl rfl rfl rfl rfl rfl rfl rfl (one_tp rfl _ _ _ _ _ _ _ _ _ _) ?_; clear hX; intro wz hX hkz; clear hkz) | ((with_reducible refine at_store ?_); refine wpList_bag_overV (cs' := [(.slice A1 R.length c1), .int .i64 0, .bool n, .bool r, .bool e, .bool m, .bool true, .int .i64 c, .int .i64 k, .int .i64 a, .int .i64 l]) hX aggT sizT _ _ rfl rfl rfl rfl rfl rfl rfl rfl (one_tp rfl _ _ _ _ _ _ _ _ _ _) ?_; clear hX; intro wz hX hkz; clear hkz))
    first | exact bodyPost_ret (results_c Try.results69 rfl ((hX.all _ _ _ (.head _)).loadVar rfl aggT sizT)) rfl ⟨rfl, hX.below⟩ | exact bodyPost_ret (results_c Try.results69 rfl ((hX.all _ _ _ (.tail _ (.head _))).loadVar rfl aggT sizT)) rfl ⟨rfl, hX.below⟩
  obtain ⟨j, rfl⟩ : ∃ j : Nat, p = (j : Int) + 1 := ⟨p.toNat - 1, by omega⟩
  have hjl : j < R.length := by omega
  have hji : (j : Int) < (R.length : Int) := by omega
  have hx := List.getElem?_eq_getElem hjl
  have hrec : ∀ n r e m d c k a l, recV (Tp.mk R ((j : Int) + 1) n r e m d c k a l) ((j : Int) + 1 - 1) = R[j] := fun n r e m d c k a l => by show R.getD (((j : Int) + 1 - 1).toNat) ⟨#[]⟩ = _; rw [Int.add_sub_cancel, Int.toNat_natCast, List.getD_eq_getElem?_getD, hx]; rfl
  have hK : ∀ n r e m d c k a l, (Tp.mk R ((j : Int) + 1) n r e m d c k a l).back = { (Tp.mk R ((j : Int) + 1) n r e m d c k a l) with m := m || decide ((R[j]).size = 0), p := (j : Int) } := fun n r e m d c k a l => by unfold Tp.back; rw [if_neg h]; dsimp only; rw [hrec, Int.add_sub_cancel]
  rw [hK]
  clear hK hrec
  generalize R[j] = x at *
  obtain ⟨a', rfl, hL⟩ := hc j x hx
  have hemp : (x.toList == []) = decide (x.size = 0) := str_empty x
  have hemp2 : (x.toList == (⟨#[]⟩ : ByteArray).toList) = decide (x.size = 0) := by rw [show (⟨#[]⟩ : ByteArray).toList = [] from Lib.toList_data _]; exact str_empty x
  generalize decide (x.size = 0) = q at *
  have he : ((j : Int) + 1 == 0) = false := by simp; omega
  have hw0 : (j : Int) + 1 - 1 = (j : Int) := by omega
  have hw : IntKind.i64.wrap (j : Int) = (j : Int) := by rw [wrap_i64]; unfold wrap64; omega
  clear hc hx hp h
  cases m
  all_goals
    go_enter Try.func69, Try.ntmps69
    go_wp2_with (first | ((with_reducible refine at_load ?_); refine wpList_bag_cell hX int_cell _ rfl rfl rfl rfl (by first | exact .head _ | exact .tail _ (.head _)) rfl ?_) | ((with_reducible refine at_load ?_); refine wpList_bag_cell hX bool_cell _ rfl rfl rfl rfl (by first | exact .head _ | exact .tail _ (.head _)) rfl ?_) | ((with_reducible refine at_load ?_); refine wpList_bag_cell hX slS_cell _ rfl rfl rfl rfl (by first | exact .head _ | exact .tail _ (.head _)) rfl ?_) | ((with_reducible refine at_load ?_); refine wpList_loadW rfl 9 _ _ _ rfl rfl (hL _ hX.below) ?_) | ((with_reducible refine at_load ?_); refine wpList_bag_part (k := 0) hX aggT sizT _ rfl rfl rfl rfl (by first | exact .head _ | exact .tail _ (.head _)) (fun jz vz hz => (congrArg (fun n => ([_, _, _, _, _, _, _, _, _, _, _] : List Value)[n]?) (Nat.zero_add jz)).trans hz) rfl ?_) | ((with_reducible refine at_store ?_); first | (refine wpList_bag_putV (z := .bool _) hX.swap siz_bool _ _ rfl rfl rfl rfl rfl rfl (by simp) rfl rfl ?_; intro wp hX3 hk3 hz3; clear hz3; clear hX; have hX := hX3; clear hk3 hX3; simp only [List.set_cons_zero, List.set_cons_succ] at hX) | (refine wpList_bag_putV (z := .bool _) hX siz_bool _ _ rfl rfl rfl rfl rfl rfl (by simp) rfl rfl ?_; intro wp hX3 hk3 hz3; clear hz3; clear hX; have hX := hX3; clear hk3 hX3; simp only [List.set_cons_zero, List.set_cons_succ] at hX)) | ((with_reducible refine at_store ?_); first | (refine wpList_bag_putV (z := .int .i64 _) hX.swap siz_int _ _ rfl rfl rfl rfl rfl rfl (by simp) rfl rfl ?_; intro wp hX3 hk3 hz3; clear hz3; clear hX; have hX := hX3; clear hk3 hX3; simp only [List.set_cons_zero, List.set_cons_succ] at hX) | (refine wpList_bag_putV (z := .int .i64 _) hX siz_int _ _ rfl rfl rfl rfl rfl rfl (by simp) rfl rfl ?_; intro wp hX3 hk3 hz3; clear hz3; clear hX; have hX := hX3; clear hk3 hX3; simp only [List.set_cons_zero, List.set_cons_succ] at hX)) | ((with_reducible refine at_store ?_); refine wpList_bag_overV (cs' := [(.slice (some a') R.length c1), .int .i64 (j : Int), .bool n, .bool r, .bool e, .bool _, .bool d, .int .i64 c, .int .i64 k, .int .i64 a, .int .i64 l]) hX.swap aggT sizT _ _ rfl rfl rfl rfl rfl rfl rfl rfl (one_tp rfl _ _ _ _ _ _ _ _ _ _) ?_; clear hX; intro wz hX hkz; clear hkz) | ((with_reducible refine at_store ?_); refine wpList_bag_overV (cs' := [(.slice (some a') R.length c1), .int .i64 (j : Int), .bool n, .bool r, .bool e, .bool _, .bool d, .int .i64 c, .int .i64 k, .int .i64 a, .int .i64 l]) hX aggT sizT _ _ rfl rfl rfl rfl rfl rfl rfl rfl (one_tp rfl _ _ _ _ _ _ _ _ _ _) ?_; clear hX; intro wz hX hkz; clear hkz))
    first | exact bodyPost_ret (results_c Try.results69 rfl ((hX.all _ _ _ (.head _)).loadVar rfl aggT sizT)) rfl ⟨rfl, hX.below⟩ | exact bodyPost_ret (results_c Try.results69 rfl ((hX.all _ _ _ (.tail _ (.head _))).loadVar rfl aggT sizT)) rfl ⟨rfl, hX.below⟩
/-- A unit whose records are a row of the call's own. -/
def TpO (N : Nat) (w : World) (x : Value) (K : Tp) : Prop := ∃ A c, x = .agg #[(.slice A K.R.length c), .int .i64 (K).p, .bool (K).n, .bool (K).r, .bool (K).e, .bool (K).m, .bool (K).d, .int .i64 (K).c, .int .i64 (K).k, .int .i64 (K).a, .int .i64 (K).l] ∧ w.ownsRow N 9 1 (.slice A K.R.length c) K.R.length (K.R.map Value.string)
theorem tpo_mk {N : Nat} {w : World} {R : List ByteArray} {p : Int} {n r e m d : Bool} {c k a l : Int} (A : Option Addr) (c0 : Nat) {j : Nat} {xs : List Value} (hl : R.length = j) (hx : xs = R.map Value.string) (ho : w.ownsRow N 9 1 (.slice A j c0) j xs) : TpO N w (.agg #[(.slice A j c0), .int .i64 p, .bool n, .bool r, .bool e, .bool m, .bool d, .int .i64 c, .int .i64 k, .int .i64 a, .int .i64 l]) (Tp.mk R p n r e m d c k a l) := by
  subst hl hx
  exact ⟨_, _, rfl, ho⟩
/-- The world without the blocks from N on. -/
def cutT (w : World) (N : Nat) : World := { w with heap := w.heap.extract 0 N }
theorem cutT_size {w : World} {N : Nat} (h : N ≤ w.heap.size) : (cutT w N).heap.size = N := by
  show (w.heap.extract 0 N).size = N
  simp; omega
theorem cutT_get {w : World} {N b : Nat} (h : b < N) : (cutT w N).heap[b]? = w.heap[b]? := by
  show (w.heap.extract 0 N)[b]? = w.heap[b]?
  simp [Array.getElem?_extract, h]
  intro h2
  omega
theorem cutT_below {w : World} {N : Nat} (h : N ≤ w.heap.size) : Below (cutT w N).heap.size (cutT w N) w :=
  ⟨rfl, rfl, rfl, by rw [cutT_size h]; exact h, fun j hj => (cutT_get (by rw [cutT_size h] at hj; exact hj)).symm⟩
theorem Bag.baseT {l : List (Nat × TypeId × List Value)} {w00 w0 w : World} (h : Bag l w0 w) (hb : Below w00.heap.size w00 w0) : Bag l w00 w := ⟨h.all, hb.trans (h.below.mono hb.size), fun b hm => Nat.le_trans hb.size (h.lo b hm), h.dis⟩
theorem grown_overT {l l2 : List (Nat × TypeId × List Value)} {w w0 w1 w2 : World} {B : Nat} {t : TypeId} {cs : List Value} {r : Option Nat} (hG : w.grownBy w1 r) (h1 : Bag l w0 w1) (h2 : Bag ((B, t, cs) :: l2) w0 w2) (hk : ∀ k, k ≠ B → w2.heap[k]? = w1.heap[k]?) (hB : w.heap.size ≤ B) : w.grownBy w2 r :=
  ⟨h2.below.os.trans (h1.below.os.symm.trans hG.os), h2.below.tape.trans (h1.below.tape.symm.trans hG.tape), h2.below.output.trans (h1.below.output.symm.trans hG.output), Nat.le_trans hB (Nat.le_of_lt (h2.all _ _ _ (.head _)).lt), fun i hi hr => (hk i (by omega)).trans (hG.block i hi hr)⟩
theorem grown_below {w w' : World} {r : Option Nat} (h : Below w.heap.size w w') : w.grownBy w' r := ⟨h.os, h.tape, h.output, h.size, fun i hi _ => h.block i hi⟩
theorem wpList_appSG {w : World} {ops : Array Oper} {rest : List Oper} {o : Oper} {a : Act} {Q : Exit → Act → World → Prop} (hgd : o.guard = none) (s x : Operand)
    (ho : o.op = .call { callee := .builtin .append, args := #[s, x], argTypes := #[22, 22] }) (N : Nat) (v : Value) (n : Nat) (xs : List Value) (hs : a.eval s = v) (hown : w.ownsRow N 9 1 v n xs)
    (ad : Addr) (m c : Nat) (news : List Value) (hx : a.eval x = .slice (some ad) m c) (hl : news.length = m) (hnews : ∀ j u, news[j]? = some u → w.cell? (ad.add j) = some u) (h1 : ∀ u ∈ news, u.oneCell' = true)
    (hb : n + m ≤ 2199023255554) (hN : N ≤ w.heap.size)
    (h : ∀ v' w', w'.ownsRow N 9 1 v' (n + m) (xs ++ news) → w.grownBy w' v.ownBlock → wpList Try.prog ops Q rest (a.put o.dst v') w') : wpList Try.prog ops Q (o :: rest) a w := by
  obtain ⟨i, hi, hz, hsz, hby⟩ := infS_parts
  refine wpList_append_own _ hgd s x 22 ho N 9 i (.string ⟨#[]⟩) 1 16 Try.underlying22 hi hz hsz hby rfl (by decide) v n xs hs hown ad m c news hx (by omega) hnews h1 (by unfold maxLen; omega) (by omega) hN ?_
  intro v' w' ho' hg hnil
  exact h v' w' ho' hg
/-- The first elements of a row of the call's own. -/
theorem own_takeT {w : World} {N g n c s j : Nat} {t : TypeId} {xs : List Value} (h : w.ownsRow N t s (.slice (some ⟨g, 0, none⟩) n c) n xs) (hs : s = 1) (hj : j ≤ n) : w.ownsRow N t s (.slice (some ⟨g, 0, none⟩) j c) j (xs.take j) := by
  subst hs
  obtain ⟨h1, h2⟩ := h
  rcases h2 with ⟨h3, _⟩ | ⟨g', cap, cur, he, hg, hh, hn, hm, hc, ht⟩
  · cases h3
  · cases he
    refine ⟨by rw [List.length_take]; omega, .inr ⟨g, c, cur, rfl, hg, hh, by omega, hm, hc, ?_⟩⟩
    rw [← ht, List.take_take]
    congr 1
    omega
theorem pappT_any (K : Tp) (s : ByteArray) (N : Nat) (h64 : K.R.length ≤ 64) (hp : 0 ≤ K.p ∧ K.p ≤ (K.R.length : Int)) (A1 : Option Addr) (c1 : Nat) (w : World) (hN : N ≤ w.heap.size) (ho : w.ownsRow N 9 1 (.slice A1 K.R.length c1) K.R.length (K.R.map Value.string)) : Calls Try.prog 70 #[.agg #[(.slice A1 K.R.length c1), .int .i64 (K).p, .bool (K).n, .bool (K).r, .bool (K).e, .bool (K).m, .bool (K).d, .int .i64 (K).c, .int .i64 (K).k, .int .i64 (K).a, .int .i64 (K).l], .string s] w fun e' w' => ∃ x, e' = .returned x ∧ TpO N w' x (K.app s) ∧ w.grownBy w' ((.slice A1 K.R.length c1) : Value).ownBlock := by
  obtain ⟨R, p, n, r, e, m, d, c, k, a, l⟩ := K
  dsimp only at *
  unfold Tp.app
  dsimp only
  by_cases h : 64 ≤ p
  · rw [if_pos h]
    have hX := two_tp w [(.slice A1 R.length c1), .int .i64 p, .bool n, .bool r, .bool e, .bool m, .bool d, .int .i64 c, .int .i64 k, .int .i64 a, .int .i64 l] [.slice none 0 0, .int .i64 0, .bool false, .bool false, .bool false, .bool false, .bool false, .int .i64 0, .int .i64 0, .int .i64 0, .int .i64 0]
    have d1 : (p == 64) = true := by simp; omega
    clear h hp
    go_enter Try.func70, Try.ntmps70
    go_wp2_with (first | ((with_reducible refine at_load ?_); refine wpList_bag_cell hX int_cell _ rfl rfl rfl rfl (by first | exact .head _ | exact .tail _ (.head _)) rfl ?_) | ((with_reducible refine at_load ?_); refine wpList_bag_cell hX bool_cell _ rfl rfl rfl rfl (by first | exact .head _ | exact .tail _ (.head _)) rfl ?_) | ((with_reducible refine at_load ?_); refine wpList_bag_cell hX slS_cell _ rfl rfl rfl rfl (by first | exact .head _ | exact .tail _ (.head _)) rfl ?_) | ((with_reducible refine at_load ?_); refine wpList_bag_part (k := 0) hX aggT sizT _ rfl rfl rfl rfl (by first | exact .head _ | exact .tail _ (.head _)) (fun jz vz hz => (congrArg (fun n => ([_, _, _, _, _, _, _, _, _, _, _] : List Value)[n]?) (Nat.zero_add jz)).trans hz) rfl ?_) | (go_at_call 81; (with_reducible refine (pfailT_any (Tp.mk R p n r e m d c k a l) A1 R.length c1 _).mono ?_); rintro e' wp ⟨rfl, hbb⟩; replace hX := hX.step hbb; clear hbb) | ((with_reducible refine at_store ?_); refine wpList_bag_overV (cs' := [(.slice A1 R.length c1), .int .i64 p, .bool n, .bool r, .bool true, .bool m, .bool true, .int .i64 c, .int .i64 k, .int .i64 a, .int .i64 l]) hX.swap aggT sizT _ _ rfl rfl rfl rfl rfl rfl rfl rfl (one_tp rfl _ _ _ _ _ _ _ _ _ _) ?_; clear hX; intro wz hX hkz; clear hkz) | ((with_reducible refine at_store ?_); refine wpList_bag_overV (cs' := [(.slice A1 R.length c1), .int .i64 p, .bool n, .bool r, .bool true, .bool m, .bool true, .int .i64 c, .int .i64 k, .int .i64 a, .int .i64 l]) hX aggT sizT _ _ rfl rfl rfl rfl rfl rfl rfl rfl (one_tp rfl _ _ _ _ _ _ _ _ _ _) ?_; clear hX; intro wz hX hkz; clear hkz))
    first | exact bodyPost_ret (results_c Try.results70 rfl ((hX.all _ _ _ (.head _)).loadVar rfl aggT sizT)) rfl ⟨_, rfl, ⟨_, _, rfl, own_step ho hX.below⟩, grown_below hX.below⟩ | exact bodyPost_ret (results_c Try.results70 rfl ((hX.all _ _ _ (.tail _ (.head _))).loadVar rfl aggT sizT)) rfl ⟨_, rfl, ⟨_, _, rfl, own_step ho hX.below⟩, grown_below hX.below⟩
  rw [if_neg h]
  have d1 : (p == 64) = false := by simp; omega
  obtain ⟨j, rfl⟩ : ∃ j : Nat, p = (j : Int) := ⟨p.toNat, by omega⟩
  simp only [Int.toNat_natCast]
  have hj64 : (j : Int) < 64 := by omega
  have hw : IntKind.i64.wrap ((j : Int) + 1) = (j : Int) + 1 := by rw [wrap_i64]; unfold wrap64; omega
  have hjl : j ≤ R.length := by omega
  rcases ho.2 with ⟨h2, h0⟩ | ⟨g, cap, cur, h2, hg, hh, hnc, hm', hcs, htk⟩
  · obtain rfl : R = [] := List.eq_nil_of_length_eq_zero h0
    cases h2
    obtain rfl : j = 0 := by simp at hjl; exact hjl
    have hfin : (([] : List Value) ++ [.string s] = (List.take 0 ([] : List ByteArray) ++ [s]).map Value.string) := rfl
    have hln : ((List.take 0 ([] : List ByteArray) ++ [s]).length = 0 + 1) := rfl
    replace hfin := hid hfin
    replace hln := hid hln
    clear ho hjl h hp h64
    obtain ⟨WW, hWW⟩ : ∃ WW, (w.alloc (.cells #[(.slice none 0 0), .int .i64 0, .bool n, .bool r, .bool e, .bool m, .bool d, .int .i64 c, .int .i64 k, .int .i64 a, .int .i64 l] 24)).alloc (.cells #[.slice none 0 0, .int .i64 0, .bool false, .bool false, .bool false, .bool false, .bool false, .int .i64 0, .int .i64 0, .int .i64 0, .int .i64 0] 24) = WW := ⟨_, rfl⟩
    have hX : Bag [(w.heap.size + 1, 24, [.slice none 0 0, .int .i64 0, .bool false, .bool false, .bool false, .bool false, .bool false, .int .i64 0, .int .i64 0, .int .i64 0, .int .i64 0]), (w.heap.size, 24, [(.slice none 0 0), .int .i64 0, .bool n, .bool r, .bool e, .bool m, .bool d, .int .i64 c, .int .i64 k, .int .i64 a, .int .i64 l])] (cutT w N) WW := hWW ▸ (two_tp w [(.slice none 0 0), .int .i64 0, .bool n, .bool r, .bool e, .bool m, .bool d, .int .i64 c, .int .i64 k, .int .i64 a, .int .i64 l] [.slice none 0 0, .int .i64 0, .bool false, .bool false, .bool false, .bool false, .bool false, .int .i64 0, .int .i64 0, .int .i64 0, .int .i64 0]).baseT (cutT_below hN)
    have hoW : WW.ownsRow N 9 1 (.slice none 0 0) 0 [] := hWW ▸ World.ownsRow.alloc (World.ownsRow.alloc (World.ownsRow_nil w N 9 1) _) _
    have hGW : w.grownBy WW none := hWW ▸ (World.grownBy_alloc w _ _).trans (World.grownBy_alloc _ _ _)
    have hNW : N ≤ WW.heap.size := Nat.le_trans hN hGW.size
    go_enter Try.func70, Try.ntmps70
    go_wp2_with (first | ((with_reducible refine at_load ?_); refine wpList_bag_cell hX int_cell _ rfl rfl rfl rfl (by first | exact .head _ | exact .tail _ (.head _)) rfl ?_) | ((with_reducible refine at_load ?_); refine wpList_bag_cell hX bool_cell _ rfl rfl rfl rfl (by first | exact .head _ | exact .tail _ (.head _)) rfl ?_) | ((with_reducible refine at_load ?_); refine wpList_bag_cell hX slS_cell _ rfl rfl rfl rfl (by first | exact .head _ | exact .tail _ (.head _)) rfl ?_) | ((with_reducible refine at_load ?_); refine wpList_bag_part (k := 0) hX aggT sizT _ rfl rfl rfl rfl (by first | exact .head _ | exact .tail _ (.head _)) (fun jz vz hz => (congrArg (fun n => ([_, _, _, _, _, _, _, _, _, _, _] : List Value)[n]?) (Nat.zero_add jz)).trans hz) rfl ?_) | (at_builtin; refine wpList_appSG rfl (.tmp 14) (.tmp 16) rfl N _ _ _ rfl (World.ownsRow.alloc hoW _) ⟨WW.heap.size, 0, none⟩ 1 1 [.string s] rfl rfl cell_one (fun x hx => by simp at hx; subst hx; rfl) (by omega) (by simp; omega) ?_; intro v3 w3 ho3 hg3; have hG : w.grownBy w3 none := hGW.trans ((World.grownBy_alloc _ _ _).trans hg3); replace hX := bag_grown (hX.step ((Below.refl _ _).alloc (Nat.le_refl _) (.cells #[.string s] 9))) (World.ownsRow.alloc hoW (.cells #[.string s] 9)) (by intro q hq; simp only [List.mem_cons, List.not_mem_nil, or_false] at hq; rcases hq with rfl | rfl <;> simp) hg3 (by simp; omega) (Nat.le_of_eq (cutT_size hN)); clear hg3; obtain ⟨A3, c3, rfl, _, _⟩ := Rw.of_own ho3) | ((with_reducible refine at_store ?_); first | (refine wpList_bag_putV (z := .slice A3 (0 + 1) c3) hX.swap siz_S _ _ rfl rfl rfl rfl rfl rfl (by simp) rfl rfl ?_; intro wp hX3 hk3 hz3; clear hz3; replace ho3 := own_over hX.swap ho3 (by decide) hk3; replace hG := grown_overT hG hX.swap hX3 hk3 (by first | exact Nat.le_refl _ | exact Nat.le_succ _); clear hX; have hX := hX3; clear hk3 hX3; simp only [List.set_cons_zero, List.set_cons_succ] at hX) | (refine wpList_bag_putV (z := .slice A3 (0 + 1) c3) hX siz_S _ _ rfl rfl rfl rfl rfl rfl (by simp) rfl rfl ?_; intro wp hX3 hk3 hz3; clear hz3; replace ho3 := own_over hX ho3 (by decide) hk3; replace hG := grown_overT hG hX hX3 hk3 (by first | exact Nat.le_refl _ | exact Nat.le_succ _); clear hX; have hX := hX3; clear hk3 hX3; simp only [List.set_cons_zero, List.set_cons_succ] at hX)) | ((with_reducible refine at_store ?_); first | (refine wpList_bag_putV (z := .int .i64 _) hX.swap siz_int _ _ rfl rfl rfl rfl rfl rfl (by simp) rfl rfl ?_; intro wp hX3 hk3 hz3; clear hz3; replace ho3 := own_over hX.swap ho3 (by decide) hk3; replace hG := grown_overT hG hX.swap hX3 hk3 (by first | exact Nat.le_refl _ | exact Nat.le_succ _); clear hX; have hX := hX3; clear hk3 hX3; simp only [List.set_cons_zero, List.set_cons_succ] at hX) | (refine wpList_bag_putV (z := .int .i64 _) hX siz_int _ _ rfl rfl rfl rfl rfl rfl (by simp) rfl rfl ?_; intro wp hX3 hk3 hz3; clear hz3; replace ho3 := own_over hX ho3 (by decide) hk3; replace hG := grown_overT hG hX hX3 hk3 (by first | exact Nat.le_refl _ | exact Nat.le_succ _); clear hX; have hX := hX3; clear hk3 hX3; simp only [List.set_cons_zero, List.set_cons_succ] at hX)) | ((with_reducible refine at_store ?_); refine wpList_bag_overV (cs' := [(.slice A3 (0 + 1) c3), .int .i64 1, .bool n, .bool r, .bool e, .bool m, .bool d, .int .i64 c, .int .i64 k, .int .i64 a, .int .i64 l]) hX.swap aggT sizT _ _ rfl rfl rfl rfl rfl rfl rfl rfl (one_tp rfl _ _ _ _ _ _ _ _ _ _) ?_; intro wz hXn hkz; replace ho3 := own_over hX.swap ho3 (by decide) hkz; replace hG := grown_overT hG hX.swap hXn hkz (by first | exact Nat.le_refl _ | exact Nat.le_succ _); clear hX; have hX := hXn; clear hXn hkz) | ((with_reducible refine at_store ?_); refine wpList_bag_overV (cs' := [(.slice A3 (0 + 1) c3), .int .i64 1, .bool n, .bool r, .bool e, .bool m, .bool d, .int .i64 c, .int .i64 k, .int .i64 a, .int .i64 l]) hX aggT sizT _ _ rfl rfl rfl rfl rfl rfl rfl rfl (one_tp rfl _ _ _ _ _ _ _ _ _ _) ?_; intro wz hXn hkz; replace ho3 := own_over hX ho3 (by decide) hkz; replace hG := grown_overT hG hX hXn hkz (by first | exact Nat.le_refl _ | exact Nat.le_succ _); clear hX; have hX := hXn; clear hXn hkz))
    first | exact bodyPost_ret (results_c Try.results70 rfl ((hX.all _ _ _ (.head _)).loadVar rfl aggT sizT)) rfl ⟨_, rfl, tpo_mk A3 c3 hln hfin ho3, hG⟩ | exact bodyPost_ret (results_c Try.results70 rfl ((hX.all _ _ _ (.tail _ (.head _))).loadVar rfl aggT sizT)) rfl ⟨_, rfl, tpo_mk A3 c3 hln hfin ho3, hG⟩
  · cases h2
    have hot := own_takeT ho rfl hjl
    have hfin : ((R.map Value.string).take j ++ [.string s] = (R.take j ++ [s]).map Value.string) := by rw [List.map_append, List.map_take]; rfl
    have hln : ((R.take j ++ [s]).length = j + 1) := by rw [List.length_append, List.length_take]; simp; omega
    replace hfin := hid hfin
    replace hln := hid hln
    have hjl1 : (j : Int) ≤ (R.length : Int) := by omega
    have hjc : (j : Int) ≤ (c1 : Int) := by omega
    have hj0 : (0 : Int) ≤ (j : Int) := by omega
    have hjc2 : j ≤ c1 := by omega
    have hjx : j ≤ 64 := by omega
    generalize (R.map Value.string).take j = X1 at *
    clear ho h hp h64 hh hcs htk hnc
    obtain ⟨WW, hWW⟩ : ∃ WW, (w.alloc (.cells #[(.slice (some ⟨g, 0, none⟩) R.length c1), .int .i64 (j : Int), .bool n, .bool r, .bool e, .bool m, .bool d, .int .i64 c, .int .i64 k, .int .i64 a, .int .i64 l] 24)).alloc (.cells #[.slice none 0 0, .int .i64 0, .bool false, .bool false, .bool false, .bool false, .bool false, .int .i64 0, .int .i64 0, .int .i64 0, .int .i64 0] 24) = WW := ⟨_, rfl⟩
    have hX : Bag [(w.heap.size + 1, 24, [.slice none 0 0, .int .i64 0, .bool false, .bool false, .bool false, .bool false, .bool false, .int .i64 0, .int .i64 0, .int .i64 0, .int .i64 0]), (w.heap.size, 24, [(.slice (some ⟨g, 0, none⟩) R.length c1), .int .i64 (j : Int), .bool n, .bool r, .bool e, .bool m, .bool d, .int .i64 c, .int .i64 k, .int .i64 a, .int .i64 l])] (cutT w N) WW := hWW ▸ (two_tp w [(.slice (some ⟨g, 0, none⟩) R.length c1), .int .i64 (j : Int), .bool n, .bool r, .bool e, .bool m, .bool d, .int .i64 c, .int .i64 k, .int .i64 a, .int .i64 l] [.slice none 0 0, .int .i64 0, .bool false, .bool false, .bool false, .bool false, .bool false, .int .i64 0, .int .i64 0, .int .i64 0, .int .i64 0]).baseT (cutT_below hN)
    have hoW : WW.ownsRow N 9 1 (.slice (some ⟨g, 0, none⟩) j c1) j X1 := hWW ▸ World.ownsRow.alloc (World.ownsRow.alloc hot _) _
    have hGW : w.grownBy WW (some g) := hWW ▸ (World.grownBy_alloc w _ _).trans (World.grownBy_alloc _ _ _)
    have hNW : N ≤ WW.heap.size := Nat.le_trans hN hGW.size
    go_enter Try.func70, Try.ntmps70
    go_wp2_with (first | ((with_reducible refine at_load ?_); refine wpList_bag_cell hX int_cell _ rfl rfl rfl rfl (by first | exact .head _ | exact .tail _ (.head _)) rfl ?_) | ((with_reducible refine at_load ?_); refine wpList_bag_cell hX bool_cell _ rfl rfl rfl rfl (by first | exact .head _ | exact .tail _ (.head _)) rfl ?_) | ((with_reducible refine at_load ?_); refine wpList_bag_cell hX slS_cell _ rfl rfl rfl rfl (by first | exact .head _ | exact .tail _ (.head _)) rfl ?_) | ((with_reducible refine at_load ?_); refine wpList_bag_part (k := 0) hX aggT sizT _ rfl rfl rfl rfl (by first | exact .head _ | exact .tail _ (.head _)) (fun jz vz hz => (congrArg (fun n => ([_, _, _, _, _, _, _, _, _, _, _] : List Value)[n]?) (Nat.zero_add jz)).trans hz) rfl ?_) | (at_builtin; refine wpList_appSG rfl (.tmp 14) (.tmp 16) rfl N _ _ _ rfl (World.ownsRow.alloc hoW _) ⟨WW.heap.size, 0, none⟩ 1 1 [.string s] rfl rfl cell_one (fun x hx => by simp at hx; subst hx; rfl) (by omega) (by simp; omega) ?_; intro v3 w3 ho3 hg3; have hG : w.grownBy w3 (some g) := hGW.trans ((World.grownBy_alloc _ _ _).trans hg3); replace hX := bag_grown (hX.step ((Below.refl _ _).alloc (Nat.le_refl _) (.cells #[.string s] 9))) (World.ownsRow.alloc hoW (.cells #[.string s] 9)) (by intro q hq; simp only [List.mem_cons, List.not_mem_nil, or_false] at hq; rcases hq with rfl | rfl <;> simp) hg3 (by simp; omega) (Nat.le_of_eq (cutT_size hN)); clear hg3; obtain ⟨A3, c3, rfl, _, _⟩ := Rw.of_own ho3) | ((with_reducible refine at_store ?_); first | (refine wpList_bag_putV (z := .slice A3 (j + 1) c3) hX.swap siz_S _ _ rfl rfl rfl rfl rfl rfl (by simp) rfl rfl ?_; intro wp hX3 hk3 hz3; clear hz3; replace ho3 := own_over hX.swap ho3 (by decide) hk3; replace hG := grown_overT hG hX.swap hX3 hk3 (by first | exact Nat.le_refl _ | exact Nat.le_succ _); clear hX; have hX := hX3; clear hk3 hX3; simp only [List.set_cons_zero, List.set_cons_succ] at hX) | (refine wpList_bag_putV (z := .slice A3 (j + 1) c3) hX siz_S _ _ rfl rfl rfl rfl rfl rfl (by simp) rfl rfl ?_; intro wp hX3 hk3 hz3; clear hz3; replace ho3 := own_over hX ho3 (by decide) hk3; replace hG := grown_overT hG hX hX3 hk3 (by first | exact Nat.le_refl _ | exact Nat.le_succ _); clear hX; have hX := hX3; clear hk3 hX3; simp only [List.set_cons_zero, List.set_cons_succ] at hX)) | ((with_reducible refine at_store ?_); first | (refine wpList_bag_putV (z := .int .i64 _) hX.swap siz_int _ _ rfl rfl rfl rfl rfl rfl (by simp) rfl rfl ?_; intro wp hX3 hk3 hz3; clear hz3; replace ho3 := own_over hX.swap ho3 (by decide) hk3; replace hG := grown_overT hG hX.swap hX3 hk3 (by first | exact Nat.le_refl _ | exact Nat.le_succ _); clear hX; have hX := hX3; clear hk3 hX3; simp only [List.set_cons_zero, List.set_cons_succ] at hX) | (refine wpList_bag_putV (z := .int .i64 _) hX siz_int _ _ rfl rfl rfl rfl rfl rfl (by simp) rfl rfl ?_; intro wp hX3 hk3 hz3; clear hz3; replace ho3 := own_over hX ho3 (by decide) hk3; replace hG := grown_overT hG hX hX3 hk3 (by first | exact Nat.le_refl _ | exact Nat.le_succ _); clear hX; have hX := hX3; clear hk3 hX3; simp only [List.set_cons_zero, List.set_cons_succ] at hX)) | ((with_reducible refine at_store ?_); refine wpList_bag_overV (cs' := [(.slice A3 (j + 1) c3), .int .i64 ((j : Int) + 1), .bool n, .bool r, .bool e, .bool m, .bool d, .int .i64 c, .int .i64 k, .int .i64 a, .int .i64 l]) hX.swap aggT sizT _ _ rfl rfl rfl rfl rfl rfl rfl rfl (one_tp rfl _ _ _ _ _ _ _ _ _ _) ?_; intro wz hXn hkz; replace ho3 := own_over hX.swap ho3 (by decide) hkz; replace hG := grown_overT hG hX.swap hXn hkz (by first | exact Nat.le_refl _ | exact Nat.le_succ _); clear hX; have hX := hXn; clear hXn hkz) | ((with_reducible refine at_store ?_); refine wpList_bag_overV (cs' := [(.slice A3 (j + 1) c3), .int .i64 ((j : Int) + 1), .bool n, .bool r, .bool e, .bool m, .bool d, .int .i64 c, .int .i64 k, .int .i64 a, .int .i64 l]) hX aggT sizT _ _ rfl rfl rfl rfl rfl rfl rfl rfl (one_tp rfl _ _ _ _ _ _ _ _ _ _) ?_; intro wz hXn hkz; replace ho3 := own_over hX ho3 (by decide) hkz; replace hG := grown_overT hG hX hXn hkz (by first | exact Nat.le_refl _ | exact Nat.le_succ _); clear hX; have hX := hXn; clear hXn hkz))
    first | exact bodyPost_ret (results_c Try.results70 rfl ((hX.all _ _ _ (.head _)).loadVar rfl aggT sizT)) rfl ⟨_, rfl, tpo_mk A3 c3 hln hfin ho3, hG⟩ | exact bodyPost_ret (results_c Try.results70 rfl ((hX.all _ _ _ (.tail _ (.head _))).loadVar rfl aggT sizT)) rfl ⟨_, rfl, tpo_mk A3 c3 hln hfin ho3, hG⟩
end Go.Proofs.Ytigmlkfmgheegaa
