import Derived.Test.YthpnddgfgpacpaaGreatRS11
import Derived.Test.YthpnddgfgpacpaaGreatRS02
import Derived.Test.YthpnddgfgpacpaaGreatRS09
import Derived.Test.YthpnddgfgpacpaaGreatRS12
import Derived.Test.YthpnddgfgpacpaaGreatRS14
import Derived.Test.YthpnddgfgpacpaaGreatRS06
import Derived.Test.YthpnddgfgpacpaaGreatRS08
import Derived.Test.YthpnddgfgpacpaaGreatRS07
/-
  Rows of lines; Right of the reference. Conditions: at most 2^40 elements in each list.
-/
namespace Go.Proofs.YthpnddgfgpacpaaGreat
open Go.RowKit
set_option linter.unusedSimpArgs false
set_option linter.unusedVariables false
set_option maxHeartbeats 4000000
set_option maxRecDepth 100000
attribute [local irreducible] wpQuiet

theorem flatM_get {α : Type} {g : α → List Value} {s : Nat} (hs : ∀ x, (g x).length = s) : ∀ (l : List α) (k : Nat) (x : α), l[k]? = some x → ∀ j v, (g x)[j]? = some v → (l.flatMap g)[k * s + j]? = some v
  | [], k, x, h, _, _, _ => by simp at h
  | y :: r, 0, x, h, j, v, hv => by
    obtain rfl : y = x := by simpa using h
    rw [List.flatMap_cons, Nat.zero_mul, Nat.zero_add, List.getElem?_append_left (List.getElem?_eq_some_iff.1 hv).1]
    exact hv
  | y :: r, k + 1, x, h, j, v, hv => by
    rw [List.flatMap_cons, List.getElem?_append_right (by rw [hs, Nat.succ_mul]; omega), hs, show (k + 1) * s + j - s = k * s + j by rw [Nat.succ_mul]; omega]
    exact flatM_get hs r k x (by simpa using h) j v hv
theorem Its.nums18 {w : World} {v : Value} {l : List Int} (h : Its w v l) : Nums .i64 w v l := by
  obtain ⟨⟨A, c, rfl, hk, hc⟩, _⟩ := h
  refine ⟨A, c, rfl, hk, fun j x hx => ?_⟩
  obtain ⟨a, ha, h1, h2⟩ := hc j (.int .i64 x) (by rw [List.getElem?_map, hx]; rfl)
  exact ⟨a, ha, h1, by have := World.block_lt_of_cell? w _ h1; exact this⟩
theorem aggLn (w : World) : (isAgg 68).run Tryz.prog w = .ok true w := by kernel_rfl
theorem sizLn (w : World) : (sizeOf 68).run Tryz.prog w = .ok 9 w := by kernel_rfl
theorem slL_cell (w : World) : (isAgg 35).run Tryz.prog w = .ok false w := by kernel_rfl
theorem lns_form {w : World} {v : Value} {l : List Ln} (h : Lns w v l) : ∃ A c, v = .slice A l.length c ∧ l.length ≤ c ∧ ∀ (k : Nat) x, l[k]? = some x → ∃ a, A = some a ∧ ∀ w', Below w.heap.size w w' → (Instr.loadAt 68 (.pointer (some (a.add (k * 9))))).run Tryz.prog w' = .ok (.agg (lnL x).toArray) w' := by
  have h0 := h.1
  obtain ⟨A, c, rfl, hk, hc⟩ := h.1
  refine ⟨A, c, rfl, hk, fun k x hx => ?_⟩
  have hg := fun j v hv => flatM_get (g := lnL) (s := 9) (fun _ => rfl) l k x hx j v hv
  obtain ⟨a, rfl, _⟩ := hc (k * 9 + 0) _ (hg 0 _ rfl)
  exact ⟨a, rfl, fun w' hb => Rw.loadAt (k := k) (s := 9) (Rw.below h0 hb) (fun j v hv => hg j v hv) rfl aggLn sizLn⟩
/-- What lies behind the words of a machine. -/
structure MaNow (w : World) (A : Ma) (vm vb vl vs vd vt : Value) : Prop where
  m : Its w vm A.M
  b : Its w vb A.B
  l : Lns w vl A.L
  s : Sts w vs A.K.D.S
  d : Its w vd A.K.D.B
  t : Sts w vt A.T.R
theorem MaNow.step {w w' : World} {A : Ma} {vm vb vl vs vd vt : Value} (h : MaNow w A vm vb vl vs vd vt) (hb : Below w.heap.size w w') : MaNow w' A vm vb vl vs vd vt := ⟨Rz.below h.m hb, Rz.below h.b hb, Rz.below h.l hb, Rz.below h.s hb, Rz.below h.d hb, Rz.below h.t hb⟩
def Ma.few (A : Ma) : Prop := A.M.length ≤ 1099511627776 ∧ A.B.length ≤ 1099511627776 ∧ A.K.D.S.length ≤ 1099511627776 ∧ A.K.D.B.length ≤ 1099511627776 ∧ A.T.R.length ≤ 1099511627776
theorem rbRight_any (A : Ma) (hA : A.ok) (hF : A.few) (vm vb vl vs vd vt : Value) (w : World) (hN : MaNow w A vm vb vl vs vd vt) : Calls Tryz.prog 12 #[.agg (A.cells vm vb vl vs vd vt).toArray] w fun e' w' => e' = .returned (.bool A.right) ∧ Below w.heap.size w w' := by
  have hL := Ma.len hA vs vd vt
  obtain ⟨f1, f2, f3, f4, f5⟩ := hF
  have hX := (Bag.nil w).new 44 (A.cells vm vb vl vs vd vt)
  obtain ⟨aL, cL, rfl, hcl, hld⟩ := lns_form hN.l
  have hri : A.right = (decide (A.L.length ≤ 4) && A.L.all Ln.right && rightP A.M A.B && A.U.right && A.k.right && A.K.right && A.T.right) := rfl
  have hm := fun wz (h : Below w.heap.size w wz) => rright_any vm vb A.M A.B f1 f2 wz (Its.nums18 (Rz.below hN.m h)) (Its.nums18 (Rz.below hN.b h))
  have hu := fun wz => rright_any_9 A.U hA.2.2 wz
  have hk : ∀ wz, Calls Tryz.prog 33 #[.agg A.k.L.toArray] wz fun e' w' => e' = .returned (.bool A.k.right) ∧ Below wz.heap.size wz w' := fun wz => rright_any_13 A.k wz
  have hd : ∀ wz, Below w.heap.size w wz → Calls Tryz.prog 34 #[.agg (dkL vs vd A.K).toArray] wz fun e' w' => e' = .returned (.bool A.K.right) ∧ Below wz.heap.size wz w' := fun wz h => rrightK_any A.K f4 f3 vs vd wz (Rz.below hN.s h) (Rz.below hN.d h)
  have ht : ∀ wz, Below w.heap.size w wz → Calls Tryz.prog 35 #[.agg (tpL vt A.T).toArray] wz fun e' w' => e' = .returned (.bool A.T.right) ∧ Below wz.heap.size wz w' := fun wz h => rrightT_any A.T f5 vt wz (Rz.below hN.t h)
  have hn : ∀ (x : Ln) wz, Calls Tryz.prog 30 #[.agg (lnL x).toArray] wz fun e' w' => e' = .returned (.bool x.right) ∧ Below wz.heap.size wz w' := fun x wz => rrightL_any x wz
  obtain ⟨Q, hQ⟩ : ∃ Q, Q = A.right := ⟨_, rfl⟩
  rw [← hQ]
  rw [hri] at hQ
  clear hri
  by_cases h4 : 4 < A.L.length
  · have d4 : decide (4 < (A.L.length : Int)) = true := decide_eq_true (by omega)
    have hr : Q = false := by rw [hQ, decide_eq_false (by omega)]; simp
    clear hQ
    subst hr
    have h4i : (4 : Int) < (A.L.length : Int) := by omega
    go_enter Tryz.func12, Tryz.ntmps12
    go_wp2_with (first | ((with_reducible refine at_load ?_); refine wpList_bag_cell hX slL_cell _ rfl rfl rfl rfl (.head _) (get_l hL) ?_))
    go_ret
    exact ⟨rfl, hX.below⟩
  have d4 : decide (4 < (A.L.length : Int)) = false := decide_eq_false (by omega)
  rw [decide_eq_true (by omega)] at hQ
  replace hQ := hid hQ
  go_enter Tryz.func12, Tryz.ntmps12
  go_wp2_with (first | ((with_reducible refine at_load ?_); refine wpList_bag_cell hX slL_cell _ rfl rfl rfl rfl (.head _) (get_l hL) ?_))
  go_loopw [3] (fun iv wr => ∃ i : Nat, i ≤ A.L.length ∧ iv = .int .i64 i ∧ Hid (∀ (j : Nat) x, j < i → A.L[j]? = some x → x.right = true) ∧ Bag [(w.heap.size, 44, A.cells vm vb (.slice aL A.L.length cL) vs vd vt)] w wr) (fun iv _ => match iv with | .int _ q => A.L.length - q.toNat | _ => 0)
  case atStart => exact ⟨0, Nat.zero_le _, rfl, fun j x h => absurd h (Nat.not_lt_zero _), hX⟩
  case round =>
    clear hX
    obtain ⟨i, hi, rfl, hall, hX⟩ := hrel
    by_cases hlt : i < A.L.length
    · obtain ⟨x, hx⟩ : ∃ x, A.L[i]? = some x := ⟨_, List.getElem?_eq_getElem hlt⟩
      obtain ⟨ad, rfl, hld2⟩ := hld i x hx
      have i0 : (0 : Int) ≤ (i : Int) := by omega
      have i1 : (i : Int) < (A.L.length : Int) := by omega
      have hnx := hn x
      cases hq : x.right
      · rw [hq] at hnx
        have hr : Q = false := by
          rw [show Q = _ from hQ]
          have : A.L.all Ln.right = false := by
            rw [List.all_eq_false]
            exact ⟨x, List.mem_of_getElem? hx, by rw [hq]; decide⟩
          rw [this]; simp
        clear hQ hall hm hu hk hd ht hn
        subst hr
        replace hx := hid hx
        go_wp2_with (first | ((with_reducible refine at_load ?_); refine wpList_bag_cell hX slL_cell _ rfl rfl rfl rfl (.head _) (get_l hL) ?_) | ((with_reducible refine at_load ?_); refine wpList_loadW rfl 68 _ _ _ rfl rfl (hld2 _ hX.below) ?_) | (go_at_call 30; (with_reducible refine (hnx _).mono ?_); rintro e' wc ⟨rfl, hbb⟩; replace hX := hX.step hbb; clear hbb))
        go_ret
        exact ⟨rfl, hX.below⟩
      · rw [hq] at hnx
        have hN2 : Hid (∀ (j : Nat) x, j < i + 1 → A.L[j]? = some x → x.right = true) := fun j y hj hy => by
          rcases (by omega : j < i ∨ j = i) with h | rfl
          · exact (show ∀ (j : Nat) x, j < i → A.L[j]? = some x → x.right = true from hall) j y h hy
          · rw [hx] at hy; cases hy; exact hq
        clear hall hx hq hm hu hk hd ht hn
        go_wp2_with (first | ((with_reducible refine at_load ?_); refine wpList_bag_cell hX slL_cell _ rfl rfl rfl rfl (.head _) (get_l hL) ?_) | ((with_reducible refine at_load ?_); refine wpList_loadW rfl 68 _ _ _ rfl rfl (hld2 _ hX.below) ?_) | (go_at_call 30; (with_reducible refine (hnx _).mono ?_); rintro e' wc ⟨rfl, hbb⟩; replace hX := hX.step hbb; clear hbb))
        exact ⟨⟨i + 1, by omega, by go_num, hN2, hX⟩, by simp only; omega⟩
    · have hl : A.L.all Ln.right = true := by
        rw [List.all_eq_true]
        intro x hx
        obtain ⟨j, hj⟩ := List.mem_iff_getElem?.1 hx
        exact (show ∀ (j : Nat) x, j < i → A.L[j]? = some x → x.right = true from hall) j x (by have := (List.getElem?_eq_some_iff.1 hj).1; omega) hj
      have i1 : ¬ (i : Int) < (A.L.length : Int) := by omega
      have hr2 : Q = (rightP A.M A.B && A.U.right && A.k.right && A.K.right && A.T.right) := by rw [show Q = _ from hQ, hl]; simp
      clear hQ hl hld hall hn
      cases g1 : rightP A.M A.B
      · rw [g1] at hm hr2
        simp only [Bool.false_and] at hr2
        subst hr2
        go_wp2_with (first | ((with_reducible refine at_load ?_); refine wpList_bag_cell hX slL_cell _ rfl rfl rfl rfl (.head _) (get_l hL) ?_) | ((with_reducible refine at_load ?_); refine wpList_bag_cell hX slI_cell _ rfl rfl rfl rfl (.head _) (get_m hL) ?_) | ((with_reducible refine at_load ?_); refine wpList_bag_cell hX slI_cell _ rfl rfl rfl rfl (.head _) (get_b hL) ?_) | ((with_reducible refine at_load ?_); refine wpList_bag_part hX agg_unit size_unit _ rfl rfl rfl rfl (.head _) (get_u hL) (by first | rfl | exact Un.len hA.2.2) ?_) | ((with_reducible refine at_load ?_); refine wpList_bag_part hX aggK_13 sizK_13 _ rfl rfl rfl rfl (.head _) (get_k hL) (by first | rfl | exact Un.len hA.2.2) ?_) | ((with_reducible refine at_load ?_); refine wpList_bag_part hX aggK sizK _ rfl rfl rfl rfl (.head _) (get_d hL) (by first | rfl | exact Un.len hA.2.2) ?_) | ((with_reducible refine at_load ?_); refine wpList_bag_part hX aggT sizT _ rfl rfl rfl rfl (.head _) (get_t hL) (by first | rfl | exact Un.len hA.2.2) ?_) | (go_at_call 31; (with_reducible refine (hm _ hX.below).mono ?_); rintro e' wc ⟨rfl, hbb⟩; replace hX := hX.step hbb; clear hbb) | (go_at_call 32; (with_reducible refine (hu _).mono ?_); rintro e' wc ⟨rfl, hbb⟩; replace hX := hX.step hbb; clear hbb) | (go_at_call 33; (with_reducible refine (hk _).mono ?_); rintro e' wc ⟨rfl, hbb⟩; replace hX := hX.step hbb; clear hbb) | (go_at_call 34; (with_reducible refine (hd _ hX.below).mono ?_); rintro e' wc ⟨rfl, hbb⟩; replace hX := hX.step hbb; clear hbb) | (go_at_call 35; (with_reducible refine (ht _ hX.below).mono ?_); rintro e' wc ⟨rfl, hbb⟩; replace hX := hX.step hbb; clear hbb))
        go_ret
        exact ⟨rfl, hX.below⟩
      cases g2 : A.U.right
      · rw [g1] at hm hr2
        rw [g2] at hu hr2
        simp only [Bool.false_and, Bool.true_and, Bool.and_false] at hr2
        subst hr2
        go_wp2_with (first | ((with_reducible refine at_load ?_); refine wpList_bag_cell hX slL_cell _ rfl rfl rfl rfl (.head _) (get_l hL) ?_) | ((with_reducible refine at_load ?_); refine wpList_bag_cell hX slI_cell _ rfl rfl rfl rfl (.head _) (get_m hL) ?_) | ((with_reducible refine at_load ?_); refine wpList_bag_cell hX slI_cell _ rfl rfl rfl rfl (.head _) (get_b hL) ?_) | ((with_reducible refine at_load ?_); refine wpList_bag_part hX agg_unit size_unit _ rfl rfl rfl rfl (.head _) (get_u hL) (by first | rfl | exact Un.len hA.2.2) ?_) | ((with_reducible refine at_load ?_); refine wpList_bag_part hX aggK_13 sizK_13 _ rfl rfl rfl rfl (.head _) (get_k hL) (by first | rfl | exact Un.len hA.2.2) ?_) | ((with_reducible refine at_load ?_); refine wpList_bag_part hX aggK sizK _ rfl rfl rfl rfl (.head _) (get_d hL) (by first | rfl | exact Un.len hA.2.2) ?_) | ((with_reducible refine at_load ?_); refine wpList_bag_part hX aggT sizT _ rfl rfl rfl rfl (.head _) (get_t hL) (by first | rfl | exact Un.len hA.2.2) ?_) | (go_at_call 31; (with_reducible refine (hm _ hX.below).mono ?_); rintro e' wc ⟨rfl, hbb⟩; replace hX := hX.step hbb; clear hbb) | (go_at_call 32; (with_reducible refine (hu _).mono ?_); rintro e' wc ⟨rfl, hbb⟩; replace hX := hX.step hbb; clear hbb) | (go_at_call 33; (with_reducible refine (hk _).mono ?_); rintro e' wc ⟨rfl, hbb⟩; replace hX := hX.step hbb; clear hbb) | (go_at_call 34; (with_reducible refine (hd _ hX.below).mono ?_); rintro e' wc ⟨rfl, hbb⟩; replace hX := hX.step hbb; clear hbb) | (go_at_call 35; (with_reducible refine (ht _ hX.below).mono ?_); rintro e' wc ⟨rfl, hbb⟩; replace hX := hX.step hbb; clear hbb))
        go_ret
        exact ⟨rfl, hX.below⟩
      cases g3 : A.k.right
      · rw [g1] at hm hr2
        rw [g2] at hu hr2
        rw [g3] at hk hr2
        simp only [Bool.false_and, Bool.true_and, Bool.and_false] at hr2
        subst hr2
        go_wp2_with (first | ((with_reducible refine at_load ?_); refine wpList_bag_cell hX slL_cell _ rfl rfl rfl rfl (.head _) (get_l hL) ?_) | ((with_reducible refine at_load ?_); refine wpList_bag_cell hX slI_cell _ rfl rfl rfl rfl (.head _) (get_m hL) ?_) | ((with_reducible refine at_load ?_); refine wpList_bag_cell hX slI_cell _ rfl rfl rfl rfl (.head _) (get_b hL) ?_) | ((with_reducible refine at_load ?_); refine wpList_bag_part hX agg_unit size_unit _ rfl rfl rfl rfl (.head _) (get_u hL) (by first | rfl | exact Un.len hA.2.2) ?_) | ((with_reducible refine at_load ?_); refine wpList_bag_part hX aggK_13 sizK_13 _ rfl rfl rfl rfl (.head _) (get_k hL) (by first | rfl | exact Un.len hA.2.2) ?_) | ((with_reducible refine at_load ?_); refine wpList_bag_part hX aggK sizK _ rfl rfl rfl rfl (.head _) (get_d hL) (by first | rfl | exact Un.len hA.2.2) ?_) | ((with_reducible refine at_load ?_); refine wpList_bag_part hX aggT sizT _ rfl rfl rfl rfl (.head _) (get_t hL) (by first | rfl | exact Un.len hA.2.2) ?_) | (go_at_call 31; (with_reducible refine (hm _ hX.below).mono ?_); rintro e' wc ⟨rfl, hbb⟩; replace hX := hX.step hbb; clear hbb) | (go_at_call 32; (with_reducible refine (hu _).mono ?_); rintro e' wc ⟨rfl, hbb⟩; replace hX := hX.step hbb; clear hbb) | (go_at_call 33; (with_reducible refine (hk _).mono ?_); rintro e' wc ⟨rfl, hbb⟩; replace hX := hX.step hbb; clear hbb) | (go_at_call 34; (with_reducible refine (hd _ hX.below).mono ?_); rintro e' wc ⟨rfl, hbb⟩; replace hX := hX.step hbb; clear hbb) | (go_at_call 35; (with_reducible refine (ht _ hX.below).mono ?_); rintro e' wc ⟨rfl, hbb⟩; replace hX := hX.step hbb; clear hbb))
        go_ret
        exact ⟨rfl, hX.below⟩
      cases g4 : A.K.right
      · rw [g1] at hm hr2
        rw [g2] at hu hr2
        rw [g3] at hk hr2
        rw [g4] at hd hr2
        simp only [Bool.false_and, Bool.true_and, Bool.and_false] at hr2
        subst hr2
        go_wp2_with (first | ((with_reducible refine at_load ?_); refine wpList_bag_cell hX slL_cell _ rfl rfl rfl rfl (.head _) (get_l hL) ?_) | ((with_reducible refine at_load ?_); refine wpList_bag_cell hX slI_cell _ rfl rfl rfl rfl (.head _) (get_m hL) ?_) | ((with_reducible refine at_load ?_); refine wpList_bag_cell hX slI_cell _ rfl rfl rfl rfl (.head _) (get_b hL) ?_) | ((with_reducible refine at_load ?_); refine wpList_bag_part hX agg_unit size_unit _ rfl rfl rfl rfl (.head _) (get_u hL) (by first | rfl | exact Un.len hA.2.2) ?_) | ((with_reducible refine at_load ?_); refine wpList_bag_part hX aggK_13 sizK_13 _ rfl rfl rfl rfl (.head _) (get_k hL) (by first | rfl | exact Un.len hA.2.2) ?_) | ((with_reducible refine at_load ?_); refine wpList_bag_part hX aggK sizK _ rfl rfl rfl rfl (.head _) (get_d hL) (by first | rfl | exact Un.len hA.2.2) ?_) | ((with_reducible refine at_load ?_); refine wpList_bag_part hX aggT sizT _ rfl rfl rfl rfl (.head _) (get_t hL) (by first | rfl | exact Un.len hA.2.2) ?_) | (go_at_call 31; (with_reducible refine (hm _ hX.below).mono ?_); rintro e' wc ⟨rfl, hbb⟩; replace hX := hX.step hbb; clear hbb) | (go_at_call 32; (with_reducible refine (hu _).mono ?_); rintro e' wc ⟨rfl, hbb⟩; replace hX := hX.step hbb; clear hbb) | (go_at_call 33; (with_reducible refine (hk _).mono ?_); rintro e' wc ⟨rfl, hbb⟩; replace hX := hX.step hbb; clear hbb) | (go_at_call 34; (with_reducible refine (hd _ hX.below).mono ?_); rintro e' wc ⟨rfl, hbb⟩; replace hX := hX.step hbb; clear hbb) | (go_at_call 35; (with_reducible refine (ht _ hX.below).mono ?_); rintro e' wc ⟨rfl, hbb⟩; replace hX := hX.step hbb; clear hbb))
        go_ret
        exact ⟨rfl, hX.below⟩
      rw [g1] at hm hr2
      rw [g2] at hu hr2
      rw [g3] at hk hr2
      rw [g4] at hd hr2
      simp only [Bool.true_and] at hr2
      subst hr2
      go_wp2_with (first | ((with_reducible refine at_load ?_); refine wpList_bag_cell hX slL_cell _ rfl rfl rfl rfl (.head _) (get_l hL) ?_) | ((with_reducible refine at_load ?_); refine wpList_bag_cell hX slI_cell _ rfl rfl rfl rfl (.head _) (get_m hL) ?_) | ((with_reducible refine at_load ?_); refine wpList_bag_cell hX slI_cell _ rfl rfl rfl rfl (.head _) (get_b hL) ?_) | ((with_reducible refine at_load ?_); refine wpList_bag_part hX agg_unit size_unit _ rfl rfl rfl rfl (.head _) (get_u hL) (by first | rfl | exact Un.len hA.2.2) ?_) | ((with_reducible refine at_load ?_); refine wpList_bag_part hX aggK_13 sizK_13 _ rfl rfl rfl rfl (.head _) (get_k hL) (by first | rfl | exact Un.len hA.2.2) ?_) | ((with_reducible refine at_load ?_); refine wpList_bag_part hX aggK sizK _ rfl rfl rfl rfl (.head _) (get_d hL) (by first | rfl | exact Un.len hA.2.2) ?_) | ((with_reducible refine at_load ?_); refine wpList_bag_part hX aggT sizT _ rfl rfl rfl rfl (.head _) (get_t hL) (by first | rfl | exact Un.len hA.2.2) ?_) | (go_at_call 31; (with_reducible refine (hm _ hX.below).mono ?_); rintro e' wc ⟨rfl, hbb⟩; replace hX := hX.step hbb; clear hbb) | (go_at_call 32; (with_reducible refine (hu _).mono ?_); rintro e' wc ⟨rfl, hbb⟩; replace hX := hX.step hbb; clear hbb) | (go_at_call 33; (with_reducible refine (hk _).mono ?_); rintro e' wc ⟨rfl, hbb⟩; replace hX := hX.step hbb; clear hbb) | (go_at_call 34; (with_reducible refine (hd _ hX.below).mono ?_); rintro e' wc ⟨rfl, hbb⟩; replace hX := hX.step hbb; clear hbb) | (go_at_call 35; (with_reducible refine (ht _ hX.below).mono ?_); rintro e' wc ⟨rfl, hbb⟩; replace hX := hX.step hbb; clear hbb))
      go_ret
      exact ⟨rfl, hX.below⟩
end Go.Proofs.YthpnddgfgpacpaaGreat
/-
  Physical, isLine, low of the reference; a copy of a row of lines. Conditions: at most 2^40 lines.
-/
namespace Go.Proofs.YthpnddgfgpacpaaGreat
open Go.RowKit
set_option linter.unusedSimpArgs false
set_option linter.unusedVariables false
set_option maxHeartbeats 4000000
set_option maxRecDepth 100000
attribute [local irreducible] wpQuiet

theorem infLn : (Tryz.prog.info? 68).map (fun i => (i.zero, i.size, i.bytes)) = some (some (.agg (lnL ⟨false, false, false, 0, false, false, 0, 0, ⟨#[]⟩⟩).toArray), 9, 56) := by kernel_rfl
theorem infLn_parts : ∃ i : TypeInfo, Tryz.prog.info? 68 = some i ∧ i.zero = some (.agg (lnL ⟨false, false, false, 0, false, false, 0, 0, ⟨#[]⟩⟩).toArray) ∧ i.size = 9 ∧ i.bytes = 56 := by
  have h := infLn
  cases hi : Tryz.prog.info? 68 with
  | none => rw [hi] at h; cases h
  | some i =>
    rw [hi] at h
    simp only [Option.map_some, Option.some.injEq, Prod.mk.injEq] at h
    exact ⟨i, rfl, h.1, h.2.1, h.2.2⟩
theorem own_emptyS (w : World) (t : TypeId) (s : Nat) : (w.alloc (.cells #[] t)).ownsRow w.heap.size t s (.slice (some ⟨w.heap.size, 0, none⟩) 0 0) 0 [] :=
  ⟨(Nat.zero_mul s).symm, .inr ⟨w.heap.size, 0, #[], rfl, Nat.le_refl _, heap_alloc_new w _, Nat.le_refl _, Nat.zero_le _, (Nat.zero_mul s).symm, by rw [Nat.zero_mul]; rfl⟩⟩
theorem flat9_len (l : List Ln) : (l.flatMap lnL).length = l.length * 9 := by
  induction l with
  | nil => rfl
  | cons x r ih => rw [List.flatMap_cons, List.length_append, ih, List.length_cons]; show 9 + _ = _; omega
theorem one_lns (l : List Ln) : ∀ u ∈ l.flatMap lnL, u.oneCell' = true := by
  intro u hu
  obtain ⟨x, _, hx⟩ := List.mem_flatMap.1 hu
  simp only [lnL, List.mem_cons, List.not_mem_nil, or_false] at hx
  rcases hx with rfl | rfl | rfl | rfl | rfl | rfl | rfl | rfl | rfl <;> rfl
theorem wpList_appLn {w : World} {ops : Array Oper} {rest : List Oper} {o : Oper} {a : Act} {Q : Exit → Act → World → Prop} (hgd : o.guard = none) (s x : Operand)
    (ho : o.op = .call { callee := .builtin .append, args := #[s, x], argTypes := #[35, 35] }) (N : Nat) (v : Value) (n : Nat) (xs : List Value) (hs : a.eval s = v) (hown : w.ownsRow N 68 9 v n xs)
    (ad : Addr) (m c : Nat) (news : List Value) (hx : a.eval x = .slice (some ad) m c) (hl : news.length = m * 9) (hnews : ∀ j u, news[j]? = some u → w.cell? (ad.add j) = some u) (h1 : ∀ u ∈ news, u.oneCell' = true)
    (hb : n + m ≤ 1099511627776) (hN : N ≤ w.heap.size)
    (h : ∀ v' w', w'.ownsRow N 68 9 v' (n + m) (xs ++ news) → Below N w w' → wpList Tryz.prog ops Q rest (a.put o.dst v') w') : wpList Tryz.prog ops Q (o :: rest) a w := by
  obtain ⟨i, hi, hz, hsz, hby⟩ := infLn_parts
  refine wpList_append_own _ hgd s x 35 ho N 68 i (.agg (lnL ⟨false, false, false, 0, false, false, 0, 0, ⟨#[]⟩⟩).toArray) 9 56 Tryz.underlying35 hi hz hsz hby rfl (by decide) v n xs hs hown ad m c news hx hl hnews h1 (by unfold maxLen; omega) (by omega) hN ?_
  intro v' w' ho' hg _
  exact h v' w' ho' ((Below.refl N w).grown hg hN (fun j hj => (World.ownsRow.lt hown j hj).1))
/-- A row is appended to a new empty one: a copy of the call's own. -/
theorem wpList_cpLn {w w0 : World} {ops : Array Oper} {rest : List Oper} {o : Oper} {a : Act} {Q : Exit → Act → World → Prop} (hgd : o.guard = none) (s x : Operand) (ho : o.op = .call { callee := .builtin .append, args := #[s, x], argTypes := #[35, 35] }) (hw : w = w0.alloc (.cells #[] 68)) (hs : a.eval s = .slice (some ⟨w0.heap.size, 0, none⟩) 0 0) (v : Value) (l : List Ln) (hx : a.eval x = v) (hv : Lns w0 v l) (hl : l.length ≤ 1099511627776)
    (h : ∀ v' w', w'.ownsRow w0.heap.size 68 9 v' l.length (l.flatMap lnL) → Below w0.heap.size w0 w' → wpList Tryz.prog ops Q rest (a.put o.dst v') w') : wpList Tryz.prog ops Q (o :: rest) a w := by
  subst hw
  have hb0 : Below w0.heap.size w0 (w0.alloc (.cells #[] 68)) := (Below.refl _ _).alloc (Nat.le_refl _) _
  rcases Rz.form hv with ⟨rfl, h1, _⟩ | ⟨ad, c, rfl, _⟩
  · obtain rfl : l = [] := List.eq_nil_of_length_eq_zero h1
    obtain ⟨i, hi, hz, hsz, hby⟩ := infLn_parts
    exact wpList_append_own_none hgd s x 35 ho w0.heap.size 68 i 9 Tryz.underlying35 hi _ 0 [] hs (own_emptyS w0 68 9) hx (h _ _ (own_emptyS w0 68 9) hb0)
  · refine wpList_appLn hgd s x ho w0.heap.size _ 0 [] hs (own_emptyS w0 68 9) ad l.length c (l.flatMap lnL) hx (flat9_len l) (fun jz u hu => Rz.cell (Rz.below hv hb0) jz u hu) (one_lns l) (by omega) (by simp) fun v' w' ho' hb' => ?_
    rw [Nat.zero_add, List.nil_append] at ho'
    exact h v' w' ho' (hb0.trans hb')
end Go.Proofs.YthpnddgfgpacpaaGreat
/-
  Loads and stores of boxes of a bag: short forms. General. No condition.
-/
namespace Go.Proofs.YthpnddgfgpacpaaGreat
open Go.RowKit
set_option linter.unusedSimpArgs false
set_option linter.unusedVariables false
set_option maxHeartbeats 4000000
set_option maxRecDepth 100000
attribute [local irreducible] wpQuiet

section
variable {ops : Array Oper} {rest : List Oper} {o : Oper} {a : Act} {w w0 w1 : World} {Q : Exit → Act → World → Prop} {l : List (Nat × TypeId × List Value)} {b : Nat × TypeId × List Value} {B k n : Nat} {t T : TypeId} {cs ds : List Value} {v z : Value} {x y : Operand}
theorem ldc (hX : Bag l w0 w) (hagg : ∀ w, (isAgg T).run Tryz.prog w = .ok false w)
    (h : wpList Tryz.prog ops Q rest (a.put o.dst v) w) (hop : o.op = Op.load T x := by rfl) (hal : w1 = w := by rfl) (hx : a.eval x = .pointer (some ⟨B, k, none⟩) := by rfl) (hw : Region.wanted o (yielded ops a.tmps) = true := by rfl) (hm : (B, t, cs) ∈ l := by first | exact .head _ | exact .tail _ (.head _) | exact .tail _ (.tail _ (.head _))) (hk : cs[k]? = some v := by rfl) : wpList Tryz.prog ops Q (o :: rest) a w1 :=
  wpList_bag_cell hX hagg x hop hal hx hw hm hk h
theorem ldw (hX : Bag l w0 w) (hagg : ∀ w, (isAgg T).run Tryz.prog w = .ok true w) (hsz : ∀ w, (sizeOf T).run Tryz.prog w = .ok n w)
    (h : wpList Tryz.prog ops Q rest (a.put o.dst (.agg cs.toArray)) w) (hop : o.op = Op.load T x := by rfl) (hal : w1 = w := by rfl) (hx : a.eval x = .pointer (some ⟨B, 0, none⟩) := by rfl) (hw : Region.wanted o (yielded ops a.tmps) = true := by rfl) (hm : (B, t, cs) ∈ l := by first | exact .head _ | exact .tail _ (.head _) | exact .tail _ (.tail _ (.head _))) (hn : cs.length = n := by rfl) : wpList Tryz.prog ops Q (o :: rest) a w1 :=
  wpList_bag_part (k := 0) hX hagg hsz x hop hal hx hw hm (fun j v hz => by rw [Nat.zero_add]; exact hz) hn h
/-- A part at k. -/
theorem ldp (hX : Bag l w0 w) (hagg : ∀ w, (isAgg T).run Tryz.prog w = .ok true w) (hsz : ∀ w, (sizeOf T).run Tryz.prog w = .ok n w) (hc : ∀ j v, ds[j]? = some v → cs[k + j]? = some v) (hn : ds.length = n)
    (h : wpList Tryz.prog ops Q rest (a.put o.dst (.agg ds.toArray)) w) (hop : o.op = Op.load T x := by rfl) (hal : w1 = w := by rfl) (hx : a.eval x = .pointer (some ⟨B, k, none⟩) := by rfl) (hw : Region.wanted o (yielded ops a.tmps) = true := by rfl) (hm : (B, t, cs) ∈ l := by first | exact .head _ | exact .tail _ (.head _) | exact .tail _ (.tail _ (.head _))) : wpList Tryz.prog ops Q (o :: rest) a w1 :=
  wpList_bag_part hX hagg hsz x hop hal hx hw hm hc hn h
theorem stc (hX : Bag ((B, t, cs) :: l) w0 w) (hsz : ∀ w, (sizeOf T).run Tryz.prog w = .ok 1 w)
    (h : ∀ w2, Bag ((B, t, cs.set k z) :: l) w0 w2 → (∀ j, j ≠ B → w2.heap[j]? = w.heap[j]?) → wpList Tryz.prog ops Q rest a w2) (hop : o.op = Op.store T x y := by rfl) (hal : w1 = w := by rfl) (hx : a.eval x = .pointer (some ⟨B, k, none⟩) := by rfl) (hy : a.eval y = z := by rfl) (hdst : o.dst = none := by rfl) (hw : Region.wanted o (yielded ops a.tmps) = true := by rfl) (hk : k < cs.length := by simp) (hz : z.cells = #[z] := by rfl) (h1 : z.oneCell' = true := by rfl) : wpList Tryz.prog ops Q (o :: rest) a w1 :=
  wpList_bag_putV hX hsz x y hop hal hx hy hdst hw hk hz h1 fun w2 a b _ => h w2 a b
theorem stc2 (hX : Bag (b :: (B, t, cs) :: l) w0 w) (hsz : ∀ w, (sizeOf T).run Tryz.prog w = .ok 1 w)
    (h : ∀ w2, Bag (b :: (B, t, cs.set k z) :: l) w0 w2 → (∀ j, j ≠ B → w2.heap[j]? = w.heap[j]?) → wpList Tryz.prog ops Q rest a w2) (hop : o.op = Op.store T x y := by rfl) (hal : w1 = w := by rfl) (hx : a.eval x = .pointer (some ⟨B, k, none⟩) := by rfl) (hy : a.eval y = z := by rfl) (hdst : o.dst = none := by rfl) (hw : Region.wanted o (yielded ops a.tmps) = true := by rfl) (hk : k < cs.length := by simp) (hz : z.cells = #[z] := by rfl) (h1 : z.oneCell' = true := by rfl) : wpList Tryz.prog ops Q (o :: rest) a w1 :=
  wpList_bag_putV hX.swap hsz x y hop hal hx hy hdst hw hk hz h1 fun w2 a b _ => h w2 a.swap b
theorem stw (hX : Bag ((B, t, cs) :: l) w0 w) (hagg : ∀ w, (isAgg T).run Tryz.prog w = .ok true w) (hsz : ∀ w, (sizeOf T).run Tryz.prog w = .ok n w) (h1 : ∀ v ∈ ds, v.oneCell' = true)
    (h : ∀ w2, Bag ((B, t, ds) :: l) w0 w2 → (∀ j, j ≠ B → w2.heap[j]? = w.heap[j]?) → wpList Tryz.prog ops Q rest a w2) (hop : o.op = Op.store T x y := by rfl) (hal : w1 = w := by rfl) (hx : a.eval x = .pointer (some ⟨B, 0, none⟩) := by rfl) (hy : a.eval y = .agg ds.toArray := by rfl) (hdst : o.dst = none := by rfl) (hw : Region.wanted o (yielded ops a.tmps) = true := by rfl) (hn : ds.length = n := by rfl) (hc : cs.length = n := by rfl) : wpList Tryz.prog ops Q (o :: rest) a w1 :=
  wpList_bag_overV hX hagg hsz x y hop hal hx hy hdst hw hn hc h1 h
theorem stw2 (hX : Bag (b :: (B, t, cs) :: l) w0 w) (hagg : ∀ w, (isAgg T).run Tryz.prog w = .ok true w) (hsz : ∀ w, (sizeOf T).run Tryz.prog w = .ok n w) (h1 : ∀ v ∈ ds, v.oneCell' = true)
    (h : ∀ w2, Bag (b :: (B, t, ds) :: l) w0 w2 → (∀ j, j ≠ B → w2.heap[j]? = w.heap[j]?) → wpList Tryz.prog ops Q rest a w2) (hop : o.op = Op.store T x y := by rfl) (hal : w1 = w := by rfl) (hx : a.eval x = .pointer (some ⟨B, 0, none⟩) := by rfl) (hy : a.eval y = .agg ds.toArray := by rfl) (hdst : o.dst = none := by rfl) (hw : Region.wanted o (yielded ops a.tmps) = true := by rfl) (hn : ds.length = n := by rfl) (hc : cs.length = n := by rfl) : wpList Tryz.prog ops Q (o :: rest) a w1 :=
  wpList_bag_overV hX.swap hagg hsz x y hop hal hx hy hdst hw hn hc h1 fun w2 a b => h w2 a.swap b
/-- The same with what the cells are behind it. -/
theorem stk2 {cs' : List Value} (hX : Bag (b :: (B, t, cs) :: l) w0 w) (hsz : ∀ w, (sizeOf T).run Tryz.prog w = .ok 1 w) (he : cs.set k z = cs') (hk : k < cs.length) (h1 : z.oneCell' = true)
    (h : ∀ w2, Bag (b :: (B, t, cs') :: l) w0 w2 → (∀ j, j ≠ B → w2.heap[j]? = w.heap[j]?) → wpList Tryz.prog ops Q rest a w2) (hop : o.op = Op.store T x y := by rfl) (hal : w1 = w := by rfl) (hx : a.eval x = .pointer (some ⟨B, k, none⟩) := by rfl) (hy : a.eval y = z := by rfl) (hdst : o.dst = none := by rfl) (hw : Region.wanted o (yielded ops a.tmps) = true := by rfl) (hz : z.cells = #[z] := by rfl) : wpList Tryz.prog ops Q (o :: rest) a w1 :=
  stc2 hX hsz (fun w2 a b => h w2 (he ▸ a) b) hop hal hx hy hdst hw hk hz h1
theorem stp2 {cs' : List Value} (hX : Bag (b :: (B, t, cs) :: l) w0 w) (hagg : ∀ w, (isAgg T).run Tryz.prog w = .ok true w) (hsz : ∀ w, (sizeOf T).run Tryz.prog w = .ok n w) (he : cs.take k ++ ds ++ cs.drop (k + n) = cs') (hn : ds.length = n) (hk : k + n ≤ cs.length) (h1 : ∀ v ∈ ds, v.oneCell' = true)
    (h : ∀ w2, Bag (b :: (B, t, cs') :: l) w0 w2 → (∀ j, j ≠ B → w2.heap[j]? = w.heap[j]?) → wpList Tryz.prog ops Q rest a w2) (hop : o.op = Op.store T x y := by rfl) (hal : w1 = w := by rfl) (hx : a.eval x = .pointer (some ⟨B, k, none⟩) := by rfl) (hy : a.eval y = .agg ds.toArray := by rfl) (hdst : o.dst = none := by rfl) (hw : Region.wanted o (yielded ops a.tmps) = true := by rfl) : wpList Tryz.prog ops Q (o :: rest) a w1 := by
  subst hal he
  have hb := hX.swap.all _ _ _ List.mem_cons_self
  have e := run_storeCells_at Tryz.prog B k t ds 0 cs.toArray w1 hb (by simp; omega) h1
  have e2 : (cs.toArray.toList.take (k + 0) ++ ds ++ cs.toArray.toList.drop (k + 0 + ds.length)).toArray = (cs.take k ++ ds ++ cs.drop (k + n)).toArray := by rw [Nat.add_zero, hn]
  rw [e2] at e
  exact wpList_store_run hw hdst T x y _ _ hop hx hy hagg (by rw [hn]; exact hsz) e (h _ (hX.swap.over _).swap (fun j hj => setRow_other w1 B j _ hj))
/-- A box that has just been made is stored into. -/
theorem stn {zs : List Value} (hX : Bag l w0 w) (hagg : ∀ w, (isAgg T).run Tryz.prog w = .ok true w) (hsz : ∀ w, (sizeOf T).run Tryz.prog w = .ok n w) (h1 : ∀ v ∈ ds, v.oneCell' = true)
    (h : ∀ w2, Bag ((w.heap.size, t, ds) :: l) w0 w2 → Below w.heap.size w w2 → wpList Tryz.prog ops Q rest a w2) (hop : o.op = Op.store T x y := by rfl) (hal : w1 = w.alloc (.cells zs.toArray t) := by rfl) (hx : a.eval x = .pointer (some ⟨w.heap.size, 0, none⟩) := by rfl) (hy : a.eval y = .agg ds.toArray := by rfl) (hdst : o.dst = none := by rfl) (hw : Region.wanted o (yielded ops a.tmps) = true := by rfl) (hn : ds.length = n := by rfl) (hm : zs.length = n := by rfl) : wpList Tryz.prog ops Q (o :: rest) a w1 := by
  subst hal
  exact wpList_store_run hw hdst T x y _ _ hop hx hy hagg (by rw [hn]; exact hsz) (run_store_new w zs ds (by rw [hn, hm]) h1) (h _ (hX.new _ _) ((Below.refl _ _).alloc (Nat.le_refl _) _))
end
end Go.Proofs.YthpnddgfgpacpaaGreat
