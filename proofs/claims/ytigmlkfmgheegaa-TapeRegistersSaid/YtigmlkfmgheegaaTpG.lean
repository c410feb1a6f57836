/-
  cleared, spoilt, write of the reference. Condition: addresses are words; the head is on the tape.
-/
import Derived.Test.YtigmlkfmgheegaaTpF
import Derived.Test.YtigmlkfmgheegaaMH
namespace Go.Proofs.Ytigmlkfmgheegaa
open Go.RowKit
set_option linter.unusedSimpArgs false
set_option linter.unusedVariables false
set_option maxHeartbeats 4000000
set_option maxRecDepth 100000
attribute [local irreducible] wpQuiet

theorem Its.nums {w : World} {v : Value} {l : List Int} (h : Its w v l) : Nums .i64 w v l := by
  obtain ⟨⟨A, c, rfl, hk, hc⟩, _⟩ := h
  refine ⟨A, c, rfl, hk, fun j x hx => ?_⟩
  obtain ⟨a, ha, h1, h2⟩ := hc j (.int .i64 x) (by rw [List.getElem?_map, hx]; rfl)
  exact ⟨a, ha, h1, by have := World.block_lt_of_cell? w _ h1; exact this⟩
theorem its_own {X : Nat → Prop} {w : World} {N : Nat} {v : Value} {l : List Int} (hX : ∀ b, X b → b < N) (h : Own N w v l) : ItsX X w v l := itsX_of hX (hid rfl) (hid rfl) (show w.ownsRow N 3 1 v l.length (l.map (Value.int .i64)) from h)
theorem bag_lt {B : Nat} {t : TypeId} {cs : List Value} {l : List (Nat × TypeId × List Value)} {w0 w : World} (h : Bag ((B, t, cs) :: l) w0 w) : B < w.heap.size := (h.all _ _ _ (.head _)).lt
theorem ownT_lt {X : Nat → Prop} {N n : Nat} (h : ∀ b, X b → b < N) (hn : N + 2 ≤ n) : ∀ b, OwnA X N b → b < n := fun b hb => by
  rcases hb with hb | hb | hb
  · have := h b hb; omega
  · omega
  · omega
theorem ownT_weak {X : Nat → Prop} {N : Nat} : ∀ b, b < N → OwnA X N b → X b := fun b hb h => by
  rcases h with h | h | h
  · exact h
  · omega
  · omega
theorem clrV_le (B : List Int) (a : Int) : ∀ n, (clrV B a n).length ≤ B.length
  | 0 => Nat.le_refl _
  | n + 1 => Nat.le_trans (List.length_filter_le _ _) (clrV_le B a n)
theorem rclrT_any (B : List Int) (hl : B.length ≤ 1099511627776) (a : Int) (ha : 0 ≤ a ∧ a ≤ 65535) (n : Nat) (hn : n ≤ 1099511627776) (vz : Value) (w : World) (X : Nat → Prop) (hXl : ∀ b, X b → b < w.heap.size) (hz : ItsX X w vz B) : Calls Try.prog 72 #[vz, .int .i64 a, .int .i64 (n : Int)] w fun e' w' => ∃ v, e' = .returned v ∧ ItsX X w' v (clrV B a n) ∧ Below w.heap.size w w' := by
  go_enter Try.func72, Try.ntmps72
  go_wp2
  go_loopw [0, 7] (fun v iv wr => ∃ (i : Nat) (v' : Value), i ≤ n ∧ v' = v ∧ iv = .int .i64 i ∧ ItsX X wr v' (clrV B a i) ∧ Below w.heap.size w wr) (fun _ iv _ => match iv with | .int _ q => n - q.toNat | _ => 0)
  case atStart => exact ⟨0, _, Nat.zero_le _, rfl, rfl, hz, Below.refl _ _⟩
  case round =>
    clear hz
    obtain ⟨i, v, hi, rfl, rfl, hz, hB⟩ := hrel
    by_cases hin : i < n
    · have hii : (i : Int) < (n : Int) := by omega
      have hwo := fun x w (hv : Nums .i64 w v (clrV B a i)) => rwithout_any v (clrV B a i) (by have := clrV_le B a i; omega) x w hv
      have hst := hid (show clrV B a (i + 1) = withoutP (clrV B a i) ((a + (i : Int)) / 2 * 2) from rfl)
      have t1 : IntKind.i64.wrap (a + (i : Int)) = a + (i : Int) := by rw [wrap_i64]; unfold wrap64; omega
      have t2 : (a + (i : Int)).tdiv 2 = (a + (i : Int)) / 2 := Int.tdiv_eq_ediv_of_nonneg (by omega)
      have t3 : IntKind.i64.wrap ((a + (i : Int)) / 2) = (a + (i : Int)) / 2 := by rw [wrap_i64]; unfold wrap64; omega
      have t4 : IntKind.i64.wrap ((a + (i : Int)) / 2 * 2) = (a + (i : Int)) / 2 * 2 := by rw [wrap_i64]; unfold wrap64; omega
      generalize clrV B a i = C at *
      go_wp2_with (first | (go_at_call 84; (with_reducible refine (hwo _ _ (Its.nums hz.now)).mono ?_); rintro e' w2 ⟨v2, rfl, ho2, hb2⟩))
      exact ⟨⟨i + 1, v2, by omega, rfl, by go_num, by rw [show clrV B a (i + 1) = _ from hst]; exact its_own (fun b hb => by have := hXl b hb; have := hB.size; omega) ho2, hB.trans (hb2.mono hB.size)⟩, by simp only; omega⟩
    · obtain rfl : i = n := by omega
      have hii : ¬ (i : Int) < (i : Int) := by omega
      go_wp2
      go_ret
      exact ⟨_, rfl, hz, hB⟩
theorem splV_succ (B : List Int) (a : Int) (n : Nat) : splV B a (n + 1) = (splV B a n || B.contains ((a + (n : Int)) / 2 * 2)) := by
  unfold splV; rw [List.range_succ, List.any_append]; simp
theorem splV_mono (B : List Int) (a : Int) {i n : Nat} (h : splV B a i = true) (hi : i ≤ n) : splV B a n = true := by
  unfold splV at *
  rw [List.any_eq_true] at *
  obtain ⟨x, hx, h⟩ := h
  exact ⟨x, List.mem_range.2 (by have := List.mem_range.1 hx; omega), h⟩
theorem rsplT_any (B : List Int) (hl : B.length ≤ 1099511627776) (a : Int) (ha : 0 ≤ a ∧ a ≤ 65535) (n : Nat) (hn : n ≤ 1099511627776) (vz : Value) (w : World) (hz : Its w vz B) : Calls Try.prog 74 #[vz, .int .i64 a, .int .i64 (n : Int)] w fun e' w' => e' = .returned (.bool (splV B a n)) ∧ Below w.heap.size w w' := by
  have hB0 := Below.refl w.heap.size w
  have hha : ∀ (x : Int) (w' : World), Below w.heap.size w w' → Calls Try.prog 86 #[vz, .int .i64 x] w' fun e w2 => e = .returned (.bool (B.contains x)) ∧ w' = w2 := fun x w' h => has_any vz B hl x w' (Its.nums (Rz.below hz h))
  obtain ⟨RR, hRR⟩ : ∃ RR, splV B a n = RR := ⟨_, rfl⟩
  rw [hRR]
  replace hRR := hid hRR
  go_enter Try.func74, Try.ntmps74
  go_wp2
  go_loopw [7] (fun iv wr => ∃ i : Nat, i ≤ n ∧ iv = .int .i64 i ∧ Hid (splV B a i = false) ∧ Below w.heap.size w wr) (fun iv _ => match iv with | .int _ q => n - q.toNat | _ => 0)
  case atStart => exact ⟨0, Nat.zero_le _, rfl, rfl, hB0⟩
  case round =>
    clear hB0
    obtain ⟨i, hi, rfl, hS, hB⟩ := hrel
    by_cases hin : i < n
    · have hii : (i : Int) < (n : Int) := by omega
      have hst := splV_succ B a i
      rw [show splV B a i = false from hS, Bool.false_or] at hst
      have hmo := fun h => splV_mono B a (i := i + 1) (n := n) h (by omega)
      have t1 : IntKind.i64.wrap (a + (i : Int)) = a + (i : Int) := by rw [wrap_i64]; unfold wrap64; omega
      have t2 : (a + (i : Int)).tdiv 2 = (a + (i : Int)) / 2 := Int.tdiv_eq_ediv_of_nonneg (by omega)
      have t3 : IntKind.i64.wrap ((a + (i : Int)) / 2) = (a + (i : Int)) / 2 := by rw [wrap_i64]; unfold wrap64; omega
      have t4 : IntKind.i64.wrap ((a + (i : Int)) / 2 * 2) = (a + (i : Int)) / 2 * 2 := by rw [wrap_i64]; unfold wrap64; omega
      replace hha := hha ((a + (i : Int)) / 2 * 2)
      cases hc : B.contains ((a + (i : Int)) / 2 * 2)
      · rw [hc] at hst hha
        replace hst := hid hst
        clear hc hmo hS
        go_wp2_with (first | (go_at_call 86; (with_reducible refine (hha _ hB).mono ?_); rintro e' w2 ⟨rfl, rfl⟩))
        exact ⟨⟨i + 1, by omega, by go_num, hst, hB⟩, by simp only; omega⟩
      · rw [hc] at hst hha
        obtain rfl : true = RR := (hmo hst).symm.trans hRR
        clear hc hmo hS hst
        go_wp2_with (first | (go_at_call 86; (with_reducible refine (hha _ hB).mono ?_); rintro e' w2 ⟨rfl, rfl⟩))
        go_ret
        exact ⟨rfl, hB⟩
    · obtain rfl : i = n := by omega
      have hii : ¬ (i : Int) < (i : Int) := by omega
      obtain rfl : false = RR := (show splV B a i = false from hS).symm.trans hRR
      clear hha hS
      go_wp2
      go_ret
      exact ⟨rfl, hB⟩
theorem rwriteM_any (K : Tp) (M B : List Int) (hlM : M.length ≤ 1099511627776) (hlB : B.length ≤ 1099511627776) (hl : K.R.length ≤ 1099511627776) (hp : 0 ≤ K.p ∧ K.p ≤ (K.R.length : Int)) (hk : 0 ≤ K.k ∧ K.k ≤ 65535) (ha : 0 ≤ K.a ∧ K.a ≤ 65535) (vs vm vz : Value) (w : World) (X : Nat → Prop) (hXl : ∀ b, X b → b < w.heap.size) (hs : StsX X w vs K.R) (hm : Its w vm M) (hz : Its w vz B) : Calls Try.prog 52 #[.agg #[vs, .int .i64 (K).p, .bool (K).n, .bool (K).r, .bool (K).e, .bool (K).m, .bool (K).d, .int .i64 (K).c, .int .i64 (K).k, .int .i64 (K).a, .int .i64 (K).l], vm, vz] w fun e' w' => ∃ x, e' = .returned x ∧ TpX X w' x (K.write M B) ∧ Below w.heap.size w w' := by
  have hby : ∀ w', Below w.heap.size w w' → _ := fun w' h => rbytes_any vm M hlM K.a K.k (by omega) w' (Its.nums (Rz.below hm h))
  have hsp : ∀ w', Below w.heap.size w w' → _ := fun w' h => rsplT_any B hlB K.a ha K.k.toNat (by omega) vz w' (Rz.below hz h)
  have hap : ∀ w', Below w.heap.size w w' → w.heap.size + 2 ≤ w'.heap.size → _ := fun w' h h2 => rappT_any K (strV (bytesN M K.a.toNat K.k.toNat)) hl hp vs w' (OwnA X w.heap.size) (ownT_lt hXl h2) (hs.weak h ownT_weak)
  rw [Int.toNat_of_nonneg hk.1] at hsp
  obtain ⟨A, c', hv, _, _⟩ := hs.now.form
  subst hv
  obtain ⟨KW, hKW⟩ : ∃ KW, K.write M B = KW := ⟨_, rfl⟩
  rw [hKW]
  unfold Tp.write at hKW
  unfold bytesE at hby
  unfold bytesS at hby
  generalize hAP : K.app (strV (bytesN M K.a.toNat K.k.toNat)) = K2 at *
  obtain ⟨R, p, n, r, e, m, d, c, k, a, l⟩ := K
  dsimp only at *
  have hX := two_tp w [(.slice A R.length c'), .int .i64 p, .bool n, .bool r, .bool e, .bool m, .bool d, .int .i64 c, .int .i64 k, .int .i64 a, .int .i64 l] [.slice none 0 0, .int .i64 0, .bool false, .bool false, .bool false, .bool false, .bool false, .int .i64 0, .int .i64 0, .int .i64 0, .int .i64 0]
  clear hm hz hAP
  by_cases k1 : k < 1
  · rw [if_neg (by omega)] at hKW
    subst hKW
    have d1 : decide (k < 1) = true := decide_eq_true k1
    clear hap
    generalize bytesN M _ _ = bs at *
    generalize inR _ _ _ = ir at *
    generalize splV _ _ _ = sp at *
    clear hk ha k1
    cases ir
    all_goals
      simp only [Bool.false_eq_true, if_false, if_true] at hby
      go_enter Try.func52, Try.ntmps52
      go_wp2_with (first | ((with_reducible refine at_load ?_); refine wpList_bag_cell hX int_cell _ rfl rfl rfl rfl (by first | exact .head _ | exact .tail _ (.head _)) rfl ?_) | ((with_reducible refine at_load ?_); refine wpList_bag_cell hX bool_cell _ rfl rfl rfl rfl (by first | exact .head _ | exact .tail _ (.head _)) rfl ?_) | ((with_reducible refine at_load ?_); refine wpList_bag_cell hX slS_cell _ rfl rfl rfl rfl (by first | exact .head _ | exact .tail _ (.head _)) rfl ?_) | ((with_reducible refine at_load ?_); refine wpList_bag_part (k := 0) hX aggT sizT _ rfl rfl rfl rfl (by first | exact .head _ | exact .tail _ (.head _)) (fun jz vz hz => (congrArg (fun n => ([_, _, _, _, _, _, _, _, _, _, _] : List Value)[n]?) (Nat.zero_add jz)).trans hz) rfl ?_) | (go_at_call 73; (with_reducible refine (hby _ hX.below).mono ?_); rintro e' wb ⟨rfl, hbb⟩; replace hX := hX.step hbb; clear hbb) | (go_at_call 74; (with_reducible refine (hsp _ hX.below).mono ?_); rintro e' wb ⟨rfl, hbb⟩; replace hX := hX.step hbb; clear hbb) | ((with_reducible refine at_store ?_); first | (refine wpList_bag_putV (z := .bool _) hX.swap siz_bool _ _ rfl rfl rfl rfl rfl rfl (by simp) rfl rfl ?_; intro wp hX3 hk3 hz3; clear hz3; clear hX; have hX := hX3; clear hk3 hX3; simp only [List.set_cons_zero, List.set_cons_succ] at hX) | (refine wpList_bag_putV (z := .bool _) hX siz_bool _ _ rfl rfl rfl rfl rfl rfl (by simp) rfl rfl ?_; intro wp hX3 hk3 hz3; clear hz3; clear hX; have hX := hX3; clear hk3 hX3; simp only [List.set_cons_zero, List.set_cons_succ] at hX)) | ((with_reducible refine at_store ?_); refine wpList_bag_overV (cs' := [(.slice A R.length c'), .int .i64 p, .bool n, .bool r, .bool true, .bool m, .bool d, .int .i64 c, .int .i64 k, .int .i64 a, .int .i64 l]) hX.swap aggT sizT _ _ rfl rfl rfl rfl rfl rfl rfl rfl (one_tp rfl _ _ _ _ _ _ _ _ _ _) ?_; clear hX; intro wz hX hkz; clear hkz) | ((with_reducible refine at_store ?_); refine wpList_bag_overV (cs' := [(.slice A R.length c'), .int .i64 p, .bool n, .bool r, .bool true, .bool m, .bool d, .int .i64 c, .int .i64 k, .int .i64 a, .int .i64 l]) hX aggT sizT _ _ rfl rfl rfl rfl rfl rfl rfl rfl (one_tp rfl _ _ _ _ _ _ _ _ _ _) ?_; clear hX; intro wz hX hkz; clear hkz))
      first | exact bodyPost_ret (results_c Try.results52 rfl ((hX.all _ _ _ (.head _)).loadVar rfl aggT sizT)) rfl ⟨_, rfl, ⟨_, rfl, hs.below hX.below⟩, hX.below⟩ | exact bodyPost_ret (results_c Try.results52 rfl ((hX.all _ _ _ (.tail _ (.head _))).loadVar rfl aggT sizT)) rfl ⟨_, rfl, ⟨_, rfl, hs.below hX.below⟩, hX.below⟩
  have d1 : decide (k < 1) = false := decide_eq_false k1
  by_cases k2 : 512 < k
  · rw [if_neg (by omega)] at hKW
    subst hKW
    have d2 : decide (512 < k) = true := decide_eq_true k2
    clear hap
    generalize bytesN M _ _ = bs at *
    generalize inR _ _ _ = ir at *
    generalize splV _ _ _ = sp at *
    clear hk ha k1 k2
    cases ir
    all_goals
      simp only [Bool.false_eq_true, if_false, if_true] at hby
      go_enter Try.func52, Try.ntmps52
      go_wp2_with (first | ((with_reducible refine at_load ?_); refine wpList_bag_cell hX int_cell _ rfl rfl rfl rfl (by first | exact .head _ | exact .tail _ (.head _)) rfl ?_) | ((with_reducible refine at_load ?_); refine wpList_bag_cell hX bool_cell _ rfl rfl rfl rfl (by first | exact .head _ | exact .tail _ (.head _)) rfl ?_) | ((with_reducible refine at_load ?_); refine wpList_bag_cell hX slS_cell _ rfl rfl rfl rfl (by first | exact .head _ | exact .tail _ (.head _)) rfl ?_) | ((with_reducible refine at_load ?_); refine wpList_bag_part (k := 0) hX aggT sizT _ rfl rfl rfl rfl (by first | exact .head _ | exact .tail _ (.head _)) (fun jz vz hz => (congrArg (fun n => ([_, _, _, _, _, _, _, _, _, _, _] : List Value)[n]?) (Nat.zero_add jz)).trans hz) rfl ?_) | (go_at_call 73; (with_reducible refine (hby _ hX.below).mono ?_); rintro e' wb ⟨rfl, hbb⟩; replace hX := hX.step hbb; clear hbb) | (go_at_call 74; (with_reducible refine (hsp _ hX.below).mono ?_); rintro e' wb ⟨rfl, hbb⟩; replace hX := hX.step hbb; clear hbb) | ((with_reducible refine at_store ?_); first | (refine wpList_bag_putV (z := .bool _) hX.swap siz_bool _ _ rfl rfl rfl rfl rfl rfl (by simp) rfl rfl ?_; intro wp hX3 hk3 hz3; clear hz3; clear hX; have hX := hX3; clear hk3 hX3; simp only [List.set_cons_zero, List.set_cons_succ] at hX) | (refine wpList_bag_putV (z := .bool _) hX siz_bool _ _ rfl rfl rfl rfl rfl rfl (by simp) rfl rfl ?_; intro wp hX3 hk3 hz3; clear hz3; clear hX; have hX := hX3; clear hk3 hX3; simp only [List.set_cons_zero, List.set_cons_succ] at hX)) | ((with_reducible refine at_store ?_); refine wpList_bag_overV (cs' := [(.slice A R.length c'), .int .i64 p, .bool n, .bool r, .bool true, .bool m, .bool d, .int .i64 c, .int .i64 k, .int .i64 a, .int .i64 l]) hX.swap aggT sizT _ _ rfl rfl rfl rfl rfl rfl rfl rfl (one_tp rfl _ _ _ _ _ _ _ _ _ _) ?_; clear hX; intro wz hX hkz; clear hkz) | ((with_reducible refine at_store ?_); refine wpList_bag_overV (cs' := [(.slice A R.length c'), .int .i64 p, .bool n, .bool r, .bool true, .bool m, .bool d, .int .i64 c, .int .i64 k, .int .i64 a, .int .i64 l]) hX aggT sizT _ _ rfl rfl rfl rfl rfl rfl rfl rfl (one_tp rfl _ _ _ _ _ _ _ _ _ _) ?_; clear hX; intro wz hX hkz; clear hkz))
      first | exact bodyPost_ret (results_c Try.results52 rfl ((hX.all _ _ _ (.head _)).loadVar rfl aggT sizT)) rfl ⟨_, rfl, ⟨_, rfl, hs.below hX.below⟩, hX.below⟩ | exact bodyPost_ret (results_c Try.results52 rfl ((hX.all _ _ _ (.tail _ (.head _))).loadVar rfl aggT sizT)) rfl ⟨_, rfl, ⟨_, rfl, hs.below hX.below⟩, hX.below⟩
  have d2 : decide (512 < k) = false := decide_eq_false k2
  have hk12 : 1 ≤ k ∧ k ≤ 512 := by omega
  cases hir : inR (2 * (M.length : Int)) a k
  · rw [hir] at hby hKW
    rw [if_neg (fun h => by cases h.2.1)] at hKW
    subst hKW
    simp only [Bool.false_eq_true, if_false] at hby
    clear hap hk ha k1 k2 hir hk12
    generalize splV _ _ _ = sp at *
    go_enter Try.func52, Try.ntmps52
    go_wp2_with (first | ((with_reducible refine at_load ?_); refine wpList_bag_cell hX int_cell _ rfl rfl rfl rfl (by first | exact .head _ | exact .tail _ (.head _)) rfl ?_) | ((with_reducible refine at_load ?_); refine wpList_bag_cell hX bool_cell _ rfl rfl rfl rfl (by first | exact .head _ | exact .tail _ (.head _)) rfl ?_) | ((with_reducible refine at_load ?_); refine wpList_bag_cell hX slS_cell _ rfl rfl rfl rfl (by first | exact .head _ | exact .tail _ (.head _)) rfl ?_) | ((with_reducible refine at_load ?_); refine wpList_bag_part (k := 0) hX aggT sizT _ rfl rfl rfl rfl (by first | exact .head _ | exact .tail _ (.head _)) (fun jz vz hz => (congrArg (fun n => ([_, _, _, _, _, _, _, _, _, _, _] : List Value)[n]?) (Nat.zero_add jz)).trans hz) rfl ?_) | (go_at_call 73; (with_reducible refine (hby _ hX.below).mono ?_); rintro e' wb ⟨rfl, hbb⟩; replace hX := hX.step hbb; clear hbb) | (go_at_call 74; (with_reducible refine (hsp _ hX.below).mono ?_); rintro e' wb ⟨rfl, hbb⟩; replace hX := hX.step hbb; clear hbb) | ((with_reducible refine at_store ?_); first | (refine wpList_bag_putV (z := .bool _) hX.swap siz_bool _ _ rfl rfl rfl rfl rfl rfl (by simp) rfl rfl ?_; intro wp hX3 hk3 hz3; clear hz3; clear hX; have hX := hX3; clear hk3 hX3; simp only [List.set_cons_zero, List.set_cons_succ] at hX) | (refine wpList_bag_putV (z := .bool _) hX siz_bool _ _ rfl rfl rfl rfl rfl rfl (by simp) rfl rfl ?_; intro wp hX3 hk3 hz3; clear hz3; clear hX; have hX := hX3; clear hk3 hX3; simp only [List.set_cons_zero, List.set_cons_succ] at hX)) | ((with_reducible refine at_store ?_); refine wpList_bag_overV (cs' := [(.slice A R.length c'), .int .i64 p, .bool n, .bool r, .bool true, .bool m, .bool d, .int .i64 c, .int .i64 k, .int .i64 a, .int .i64 l]) hX.swap aggT sizT _ _ rfl rfl rfl rfl rfl rfl rfl rfl (one_tp rfl _ _ _ _ _ _ _ _ _ _) ?_; clear hX; intro wz hX hkz; clear hkz) | ((with_reducible refine at_store ?_); refine wpList_bag_overV (cs' := [(.slice A R.length c'), .int .i64 p, .bool n, .bool r, .bool true, .bool m, .bool d, .int .i64 c, .int .i64 k, .int .i64 a, .int .i64 l]) hX aggT sizT _ _ rfl rfl rfl rfl rfl rfl rfl rfl (one_tp rfl _ _ _ _ _ _ _ _ _ _) ?_; clear hX; intro wz hX hkz; clear hkz))
    first | exact bodyPost_ret (results_c Try.results52 rfl ((hX.all _ _ _ (.head _)).loadVar rfl aggT sizT)) rfl ⟨_, rfl, ⟨_, rfl, hs.below hX.below⟩, hX.below⟩ | exact bodyPost_ret (results_c Try.results52 rfl ((hX.all _ _ _ (.tail _ (.head _))).loadVar rfl aggT sizT)) rfl ⟨_, rfl, ⟨_, rfl, hs.below hX.below⟩, hX.below⟩
  rw [hir] at hby hKW
  simp only [if_true] at hby
  cases hspv : splV B a k.toNat
  · rw [hspv] at hsp hKW
    rw [if_pos ⟨hk12, rfl, rfl⟩] at hKW
    subst hKW
    unfold strV at hap
    generalize bytesN M _ _ = bs at *
    clear hk ha k1 k2 hir hk12 hspv
    go_enter Try.func52, Try.ntmps52
    go_wp2_with (first | ((with_reducible refine at_load ?_); refine wpList_bag_cell hX int_cell _ rfl rfl rfl rfl (by first | exact .head _ | exact .tail _ (.head _)) rfl ?_) | ((with_reducible refine at_load ?_); refine wpList_bag_cell hX bool_cell _ rfl rfl rfl rfl (by first | exact .head _ | exact .tail _ (.head _)) rfl ?_) | ((with_reducible refine at_load ?_); refine wpList_bag_cell hX slS_cell _ rfl rfl rfl rfl (by first | exact .head _ | exact .tail _ (.head _)) rfl ?_) | ((with_reducible refine at_load ?_); refine wpList_bag_part (k := 0) hX aggT sizT _ rfl rfl rfl rfl (by first | exact .head _ | exact .tail _ (.head _)) (fun jz vz hz => (congrArg (fun n => ([_, _, _, _, _, _, _, _, _, _, _] : List Value)[n]?) (Nat.zero_add jz)).trans hz) rfl ?_) | (go_at_call 73; (with_reducible refine (hby _ hX.below).mono ?_); rintro e' wb ⟨rfl, hbb⟩; replace hX := hX.step hbb; clear hbb) | (go_at_call 74; (with_reducible refine (hsp _ hX.below).mono ?_); rintro e' wb ⟨rfl, hbb⟩; replace hX := hX.step hbb; clear hbb) | (go_at_call 55; (with_reducible refine (hap _ hX.below (by have hlt := bag_lt hX; omega)).mono ?_); rintro e' wa ⟨x, rfl, ⟨v3, rfl, hs3⟩, hbb⟩; replace hX := hX.step hbb; obtain ⟨A3, c3, rfl, _⟩ := hs3.now.form; clear hbb) | ((with_reducible refine at_store ?_); refine wpList_bag_overV (cs' := [(.slice A3 K2.R.length c3), .int .i64 (K2).p, .bool (K2).n, .bool (K2).r, .bool (K2).e, .bool (K2).m, .bool (K2).d, .int .i64 (K2).c, .int .i64 (K2).k, .int .i64 (K2).a, .int .i64 (K2).l]) hX.swap aggT sizT _ _ rfl rfl rfl rfl rfl rfl rfl rfl (one_tp rfl _ _ _ _ _ _ _ _ _ _) ?_; clear hX; intro wz hX hkz; replace hs3 := hs3.over hkz (by first | exact .inr (.inr rfl) | exact .inr (.inl rfl)); clear hkz) | ((with_reducible refine at_store ?_); refine wpList_bag_overV (cs' := [(.slice A3 K2.R.length c3), .int .i64 (K2).p, .bool (K2).n, .bool (K2).r, .bool (K2).e, .bool (K2).m, .bool (K2).d, .int .i64 (K2).c, .int .i64 (K2).k, .int .i64 (K2).a, .int .i64 (K2).l]) hX aggT sizT _ _ rfl rfl rfl rfl rfl rfl rfl rfl (one_tp rfl _ _ _ _ _ _ _ _ _ _) ?_; clear hX; intro wz hX hkz; replace hs3 := hs3.over hkz (by first | exact .inr (.inr rfl) | exact .inr (.inl rfl)); clear hkz))
    first | exact bodyPost_ret (results_c Try.results52 rfl ((hX.all _ _ _ (.head _)).loadVar rfl aggT sizT)) rfl ⟨_, rfl, ⟨_, rfl, hs3.less (fun _ h => .inl h)⟩, hX.below⟩ | exact bodyPost_ret (results_c Try.results52 rfl ((hX.all _ _ _ (.tail _ (.head _))).loadVar rfl aggT sizT)) rfl ⟨_, rfl, ⟨_, rfl, hs3.less (fun _ h => .inl h)⟩, hX.below⟩
  · rw [hspv] at hsp hKW
    rw [if_neg (fun h => by cases h.2.2)] at hKW
    subst hKW
    clear hap hk ha k1 k2 hir hk12 hspv
    go_enter Try.func52, Try.ntmps52
    go_wp2_with (first | ((with_reducible refine at_load ?_); refine wpList_bag_cell hX int_cell _ rfl rfl rfl rfl (by first | exact .head _ | exact .tail _ (.head _)) rfl ?_) | ((with_reducible refine at_load ?_); refine wpList_bag_cell hX bool_cell _ rfl rfl rfl rfl (by first | exact .head _ | exact .tail _ (.head _)) rfl ?_) | ((with_reducible refine at_load ?_); refine wpList_bag_cell hX slS_cell _ rfl rfl rfl rfl (by first | exact .head _ | exact .tail _ (.head _)) rfl ?_) | ((with_reducible refine at_load ?_); refine wpList_bag_part (k := 0) hX aggT sizT _ rfl rfl rfl rfl (by first | exact .head _ | exact .tail _ (.head _)) (fun jz vz hz => (congrArg (fun n => ([_, _, _, _, _, _, _, _, _, _, _] : List Value)[n]?) (Nat.zero_add jz)).trans hz) rfl ?_) | (go_at_call 73; (with_reducible refine (hby _ hX.below).mono ?_); rintro e' wb ⟨rfl, hbb⟩; replace hX := hX.step hbb; clear hbb) | (go_at_call 74; (with_reducible refine (hsp _ hX.below).mono ?_); rintro e' wb ⟨rfl, hbb⟩; replace hX := hX.step hbb; clear hbb) | ((with_reducible refine at_store ?_); first | (refine wpList_bag_putV (z := .bool _) hX.swap siz_bool _ _ rfl rfl rfl rfl rfl rfl (by simp) rfl rfl ?_; intro wp hX3 hk3 hz3; clear hz3; clear hX; have hX := hX3; clear hk3 hX3; simp only [List.set_cons_zero, List.set_cons_succ] at hX) | (refine wpList_bag_putV (z := .bool _) hX siz_bool _ _ rfl rfl rfl rfl rfl rfl (by simp) rfl rfl ?_; intro wp hX3 hk3 hz3; clear hz3; clear hX; have hX := hX3; clear hk3 hX3; simp only [List.set_cons_zero, List.set_cons_succ] at hX)) | ((with_reducible refine at_store ?_); refine wpList_bag_overV (cs' := [(.slice A R.length c'), .int .i64 p, .bool n, .bool r, .bool true, .bool m, .bool d, .int .i64 c, .int .i64 k, .int .i64 a, .int .i64 l]) hX.swap aggT sizT _ _ rfl rfl rfl rfl rfl rfl rfl rfl (one_tp rfl _ _ _ _ _ _ _ _ _ _) ?_; clear hX; intro wz hX hkz; clear hkz) | ((with_reducible refine at_store ?_); refine wpList_bag_overV (cs' := [(.slice A R.length c'), .int .i64 p, .bool n, .bool r, .bool true, .bool m, .bool d, .int .i64 c, .int .i64 k, .int .i64 a, .int .i64 l]) hX aggT sizT _ _ rfl rfl rfl rfl rfl rfl rfl rfl (one_tp rfl _ _ _ _ _ _ _ _ _ _) ?_; clear hX; intro wz hX hkz; clear hkz))
    first | exact bodyPost_ret (results_c Try.results52 rfl ((hX.all _ _ _ (.head _)).loadVar rfl aggT sizT)) rfl ⟨_, rfl, ⟨_, rfl, hs.below hX.below⟩, hX.below⟩ | exact bodyPost_ret (results_c Try.results52 rfl ((hX.all _ _ _ (.tail _ (.head _))).loadVar rfl aggT sizT)) rfl ⟨_, rfl, ⟨_, rfl, hs.below hX.below⟩, hX.below⟩
end Go.Proofs.Ytigmlkfmgheegaa
