import Derived.Test.YthpnddgfgpacpaaGreatRW13
import Derived.Test.YthpnddgfgpacpaaGreatRW14
import Derived.Test.YthpnddgfgpacpaaGreatRW03
import Derived.Test.YthpnddgfgpacpaaGreatRW11
import Derived.Test.YthpnddgfgpacpaaGreatRW15
import Derived.Test.YthpnddgfgpacpaaGreatRW17
import Derived.Test.YthpnddgfgpacpaaGreatRW07
import Derived.Test.YthpnddgfgpacpaaGreatRW10
import Derived.Test.YthpnddgfgpacpaaGreatRW08
/-
  Rows of lines; Right of the reference. Conditions: at most 2^40 elements in each list.
-/
namespace Go.Proofs.YthpnddgfgpacpaaGreat
open Go.RowKit
set_option linter.unusedSimpArgs false
set_option linter.unusedVariables false
set_option maxHeartbeats 4000000
set_option maxRecDepth 100000
attribute [local irreducible] wpQuiet

theorem flatM_get {α : Type} {g : α → List Value} {s : Nat} (hs : ∀ x, (g x).length = s) : ∀ (l : List α) (k : Nat) (x : α), l[k]? = some x → ∀ j v, (g x)[j]? = some v → (l.flatMap g)[k * s + j]? = some v
  | [], k, x, h, _, _, _ => by simp at h
  | y :: r, 0, x, h, j, v, hv => by
    obtain rfl : y = x := by simpa using h
    rw [List.flatMap_cons, Nat.zero_mul, Nat.zero_add, List.getElem?_append_left (List.getElem?_eq_some_iff.1 hv).1]
    exact hv
  | y :: r, k + 1, x, h, j, v, hv => by
    rw [List.flatMap_cons, List.getElem?_append_right (by rw [hs, Nat.succ_mul]; omega), hs, show (k + 1) * s + j - s = k * s + j by rw [Nat.succ_mul]; omega]
    exact flatM_get hs r k x (by simpa using h) j v hv
theorem Its.nums18 {w : World} {v : Value} {l : List Int} (h : Its w v l) : Nums .i64 w v l := by
  obtain ⟨⟨A, c, rfl, hk, hc⟩, _⟩ := h
  refine ⟨A, c, rfl, hk, fun j x hx => ?_⟩
  obtain ⟨a, ha, h1, h2⟩ := hc j (.int .i64 x) (by rw [List.getElem?_map, hx]; rfl)
  exact ⟨a, ha, h1, by have := World.block_lt_of_cell? w _ h1; exact this⟩
theorem aggLn (w : World) : (isAgg 68).run Tryz.prog w = .ok true w := by kernel_rfl
theorem sizLn (w : World) : (sizeOf 68).run Tryz.prog w = .ok 9 w := by kernel_rfl
theorem slL_cell (w : World) : (isAgg 35).run Tryz.prog w = .ok false w := by kernel_rfl
theorem lns_form {w : World} {v : Value} {l : List Ln} (h : Lns w v l) : ∃ A c, v = .slice A l.length c ∧ l.length ≤ c ∧ ∀ (k : Nat) x, l[k]? = some x → ∃ a, A = some a ∧ ∀ w', Below w.heap.size w w' → (Instr.loadAt 68 (.pointer (some (a.add (k * 9))))).run Tryz.prog w' = .ok (.agg (lnL x).toArray) w' := by
  have h0 := h.1
  obtain ⟨A, c, rfl, hk, hc⟩ := h.1
  refine ⟨A, c, rfl, hk, fun k x hx => ?_⟩
  have hg := fun j v hv => flatM_get (g := lnL) (s := 9) (fun _ => rfl) l k x hx j v hv
  obtain ⟨a, rfl, _⟩ := hc (k * 9 + 0) _ (hg 0 _ rfl)
  exact ⟨a, rfl, fun w' hb => Rw.loadAt (k := k) (s := 9) (Rw.below h0 hb) (fun j v hv => hg j v hv) rfl aggLn sizLn⟩
/-- What lies behind the words of a machine. -/
structure MaNow (w : World) (A : Ma) (vm vb vl vs vd vt : Value) : Prop where
  m : Its w vm A.M
  b : Its w vb A.B
  l : Lns w vl A.L
  s : Sts w vs A.K.D.S
  d : Its w vd A.K.D.B
  t : Sts w vt A.T.R
theorem MaNow.step {w w' : World} {A : Ma} {vm vb vl vs vd vt : Value} (h : MaNow w A vm vb vl vs vd vt) (hb : Below w.heap.size w w') : MaNow w' A vm vb vl vs vd vt := ⟨Rz.below h.m hb, Rz.below h.b hb, Rz.below h.l hb, Rz.below h.s hb, Rz.below h.d hb, Rz.below h.t hb⟩
def Ma.few (A : Ma) : Prop := A.M.length ≤ 1099511627776 ∧ A.B.length ≤ 1099511627776 ∧ A.K.D.S.length ≤ 1099511627776 ∧ A.K.D.B.length ≤ 1099511627776 ∧ A.T.R.length ≤ 1099511627776
theorem rbRight_any (A : Ma) (hA : A.ok) (hF : A.few) (vm vb vl vs vd vt : Value) (w : World) (hN : MaNow w A vm vb vl vs vd vt) : Calls Tryz.prog 12 #[.agg (A.cells vm vb vl vs vd vt).toArray] w fun e' w' => e' = .returned (.bool A.right) ∧ Below w.heap.size w w' := by
  have hL := Ma.len hA vs vd vt
  obtain ⟨f1, f2, f3, f4, f5⟩ := hF
  have hX := (Bag.nil w).new 44 (A.cells vm vb vl vs vd vt)
  obtain ⟨aL, cL, rfl, hcl, hld⟩ := lns_form hN.l
  have hri : A.right = (decide (A.L.length ≤ 4) && A.L.all Ln.right && rightP A.M A.B && A.U.right && A.k.right && A.K.right && A.T.right) := rfl
  have hm := fun wz (h : Below w.heap.size w wz) => rright_any vm vb A.M A.B f1 f2 wz (Its.nums18 (Rz.below hN.m h)) (Its.nums18 (Rz.below hN.b h))
  have hu := fun wz => rright_any_9 A.U hA.2.2 wz
  have hk : ∀ wz, Calls Tryz.prog 33 #[.agg A.k.L.toArray] wz fun e' w' => e' = .returned (.bool A.k.right) ∧ Below wz.heap.size wz w' := fun wz => rright_any_13 A.k wz
  have hd : ∀ wz, Below w.heap.size w wz → Calls Tryz.prog 34 #[.agg (dkL vs vd A.K).toArray] wz fun e' w' => e' = .returned (.bool A.K.right) ∧ Below wz.heap.size wz w' := fun wz h => rrightK_any A.K f4 f3 vs vd wz (Rz.below hN.s h) (Rz.below hN.d h)
  have ht : ∀ wz, Below w.heap.size w wz → Calls Tryz.prog 35 #[.agg (tpL vt A.T).toArray] wz fun e' w' => e' = .returned (.bool A.T.right) ∧ Below wz.heap.size wz w' := fun wz h => rrightT_any A.T f5 vt wz (Rz.below hN.t h)
  have hn : ∀ (x : Ln) wz, Calls Tryz.prog 30 #[.agg (lnL x).toArray] wz fun e' w' => e' = .returned (.bool x.right) ∧ Below wz.heap.size wz w' := fun x wz => rrightL_any x wz
  obtain ⟨Q, hQ⟩ : ∃ Q, Q = A.right := ⟨_, rfl⟩
  rw [← hQ]
  rw [hri] at hQ
  clear hri
  by_cases h4 : 4 < A.L.length
  · have d4 : decide (4 < (A.L.length : Int)) = true := decide_eq_true (by omega)
    have hr : Q = false := by rw [hQ, decide_eq_false (by omega)]; simp
    clear hQ
    subst hr
    have h4i : (4 : Int) < (A.L.length : Int) := by omega
    go_enter Tryz.func12, Tryz.ntmps12
    go_wp2_with (first | ((with_reducible refine at_load ?_); refine wpList_bag_cell hX slL_cell _ rfl rfl rfl rfl (.head _) (get_l hL) ?_))
    go_ret
    exact ⟨rfl, hX.below⟩
  have d4 : decide (4 < (A.L.length : Int)) = false := decide_eq_false (by omega)
  rw [decide_eq_true (by omega)] at hQ
  replace hQ := hid hQ
  go_enter Tryz.func12, Tryz.ntmps12
  go_wp2_with (first | ((with_reducible refine at_load ?_); refine wpList_bag_cell hX slL_cell _ rfl rfl rfl rfl (.head _) (get_l hL) ?_))
  go_loopw [3] (fun iv wr => ∃ i : Nat, i ≤ A.L.length ∧ iv = .int .i64 i ∧ Hid (∀ (j : Nat) x, j < i → A.L[j]? = some x → x.right = true) ∧ Bag [(w.heap.size, 44, A.cells vm vb (.slice aL A.L.length cL) vs vd vt)] w wr) (fun iv _ => match iv with | .int _ q => A.L.length - q.toNat | _ => 0)
  case atStart => exact ⟨0, Nat.zero_le _, rfl, fun j x h => absurd h (Nat.not_lt_zero _), hX⟩
  case round =>
    clear hX
    obtain ⟨i, hi, rfl, hall, hX⟩ := hrel
    by_cases hlt : i < A.L.length
    · obtain ⟨x, hx⟩ : ∃ x, A.L[i]? = some x := ⟨_, List.getElem?_eq_getElem hlt⟩
      obtain ⟨ad, rfl, hld2⟩ := hld i x hx
      have i0 : (0 : Int) ≤ (i : Int) := by omega
      have i1 : (i : Int) < (A.L.length : Int) := by omega
      have hnx := hn x
      cases hq : x.right
      · rw [hq] at hnx
        have hr : Q = false := by
          rw [show Q = _ from hQ]
          have : A.L.all Ln.right = false := by
            rw [List.all_eq_false]
            exact ⟨x, List.mem_of_getElem? hx, by rw [hq]; decide⟩
          rw [this]; simp
        clear hQ hall hm hu hk hd ht hn
        subst hr
        replace hx := hid hx
        go_wp2_with (first | ((with_reducible refine at_load ?_); refine wpList_bag_cell hX slL_cell _ rfl rfl rfl rfl (.head _) (get_l hL) ?_) | ((with_reducible refine at_load ?_); refine wpList_loadW rfl 68 _ _ _ rfl rfl (hld2 _ hX.below) ?_) | (go_at_call 30; (with_reducible refine (hnx _).mono ?_); rintro e' wc ⟨rfl, hbb⟩; replace hX := hX.step hbb; clear hbb))
        go_ret
        exact ⟨rfl, hX.below⟩
      · rw [hq] at hnx
        have hN2 : Hid (∀ (j : Nat) x, j < i + 1 → A.L[j]? = some x → x.right = true) := fun j y hj hy => by
          rcases (by omega : j < i ∨ j = i) with h | rfl
          · exact (show ∀ (j : Nat) x, j < i → A.L[j]? = some x → x.right = true from hall) j y h hy
          · rw [hx] at hy; cases hy; exact hq
        clear hall hx hq hm hu hk hd ht hn
        go_wp2_with (first | ((with_reducible refine at_load ?_); refine wpList_bag_cell hX slL_cell _ rfl rfl rfl rfl (.head _) (get_l hL) ?_) | ((with_reducible refine at_load ?_); refine wpList_loadW rfl 68 _ _ _ rfl rfl (hld2 _ hX.below) ?_) | (go_at_call 30; (with_reducible refine (hnx _).mono ?_); rintro e' wc ⟨rfl, hbb⟩; replace hX := hX.step hbb; clear hbb))
        exact ⟨⟨i + 1, by omega, by go_num, hN2, hX⟩, by simp only; omega⟩
    · have hl : A.L.all Ln.right = true := by
        rw [List.all_eq_true]
        intro x hx
        obtain ⟨j, hj⟩ := List.mem_iff_getElem?.1 hx
        exact (show ∀ (j : Nat) x, j < i → A.L[j]? = some x → x.right = true from hall) j x (by have := (List.getElem?_eq_some_iff.1 hj).1; omega) hj
      have i1 : ¬ (i : Int) < (A.L.length : Int) := by omega
      have hr2 : Q = (rightP A.M A.B && A.U.right && A.k.right && A.K.right && A.T.right) := by rw [show Q = _ from hQ, hl]; simp
      clear hQ hl hld hall hn
      cases g1 : rightP A.M A.B
      · rw [g1] at hm hr2
        simp only [Bool.false_and] at hr2
        subst hr2
        go_wp2_with (first | ((with_reducible refine at_load ?_); refine wpList_bag_cell hX slL_cell _ rfl rfl rfl rfl (.head _) (get_l hL) ?_) | ((with_reducible refine at_load ?_); refine wpList_bag_cell hX slI_cell _ rfl rfl rfl rfl (.head _) (get_m hL) ?_) | ((with_reducible refine at_load ?_); refine wpList_bag_cell hX slI_cell _ rfl rfl rfl rfl (.head _) (get_b hL) ?_) | ((with_reducible refine at_load ?_); refine wpList_bag_part hX agg_unit size_unit _ rfl rfl rfl rfl (.head _) (get_u hL) (by first | rfl | exact Un.len hA.2.2) ?_) | ((with_reducible refine at_load ?_); refine wpList_bag_part hX aggK_13 sizK_13 _ rfl rfl rfl rfl (.head _) (get_k hL) (by first | rfl | exact Un.len hA.2.2) ?_) | ((with_reducible refine at_load ?_); refine wpList_bag_part hX aggK sizK _ rfl rfl rfl rfl (.head _) (get_d hL) (by first | rfl | exact Un.len hA.2.2) ?_) | ((with_reducible refine at_load ?_); refine wpList_bag_part hX aggT sizT _ rfl rfl rfl rfl (.head _) (get_t hL) (by first | rfl | exact Un.len hA.2.2) ?_) | (go_at_call 31; (with_reducible refine (hm _ hX.below).mono ?_); rintro e' wc ⟨rfl, hbb⟩; replace hX := hX.step hbb; clear hbb) | (go_at_call 32; (with_reducible refine (hu _).mono ?_); rintro e' wc ⟨rfl, hbb⟩; replace hX := hX.step hbb; clear hbb) | (go_at_call 33; (with_reducible refine (hk _).mono ?_); rintro e' wc ⟨rfl, hbb⟩; replace hX := hX.step hbb; clear hbb) | (go_at_call 34; (with_reducible refine (hd _ hX.below).mono ?_); rintro e' wc ⟨rfl, hbb⟩; replace hX := hX.step hbb; clear hbb) | (go_at_call 35; (with_reducible refine (ht _ hX.below).mono ?_); rintro e' wc ⟨rfl, hbb⟩; replace hX := hX.step hbb; clear hbb))
        go_ret
        exact ⟨rfl, hX.below⟩
      cases g2 : A.U.right
      · rw [g1] at hm hr2
        rw [g2] at hu hr2
        simp only [Bool.false_and, Bool.true_and, Bool.and_false] at hr2
        subst hr2
        go_wp2_with (first | ((with_reducible refine at_load ?_); refine wpList_bag_cell hX slL_cell _ rfl rfl rfl rfl (.head _) (get_l hL) ?_) | ((with_reducible refine at_load ?_); refine wpList_bag_cell hX slI_cell _ rfl rfl rfl rfl (.head _) (get_m hL) ?_) | ((with_reducible refine at_load ?_); refine wpList_bag_cell hX slI_cell _ rfl rfl rfl rfl (.head _) (get_b hL) ?_) | ((with_reducible refine at_load ?_); refine wpList_bag_part hX agg_unit size_unit _ rfl rfl rfl rfl (.head _) (get_u hL) (by first | rfl | exact Un.len hA.2.2) ?_) | ((with_reducible refine at_load ?_); refine wpList_bag_part hX aggK_13 sizK_13 _ rfl rfl rfl rfl (.head _) (get_k hL) (by first | rfl | exact Un.len hA.2.2) ?_) | ((with_reducible refine at_load ?_); refine wpList_bag_part hX aggK sizK _ rfl rfl rfl rfl (.head _) (get_d hL) (by first | rfl | exact Un.len hA.2.2) ?_) | ((with_reducible refine at_load ?_); refine wpList_bag_part hX aggT sizT _ rfl rfl rfl rfl (.head _) (get_t hL) (by first | rfl | exact Un.len hA.2.2) ?_) | (go_at_call 31; (with_reducible refine (hm _ hX.below).mono ?_); rintro e' wc ⟨rfl, hbb⟩; replace hX := hX.step hbb; clear hbb) | (go_at_call 32; (with_reducible refine (hu _).mono ?_); rintro e' wc ⟨rfl, hbb⟩; replace hX := hX.step hbb; clear hbb) | (go_at_call 33; (with_reducible refine (hk _).mono ?_); rintro e' wc ⟨rfl, hbb⟩; replace hX := hX.step hbb; clear hbb) | (go_at_call 34; (with_reducible refine (hd _ hX.below).mono ?_); rintro e' wc ⟨rfl, hbb⟩; replace hX := hX.step hbb; clear hbb) | (go_at_call 35; (with_reducible refine (ht _ hX.below).mono ?_); rintro e' wc ⟨rfl, hbb⟩; replace hX := hX.step hbb; clear hbb))
        go_ret
        exact ⟨rfl, hX.below⟩
      cases g3 : A.k.right
      · rw [g1] at hm hr2
        rw [g2] at hu hr2
        rw [g3] at hk hr2
        simp only [Bool.false_and, Bool.true_and, Bool.and_false] at hr2
        subst hr2
        go_wp2_with (first | ((with_reducible refine at_load ?_); refine wpList_bag_cell hX slL_cell _ rfl rfl rfl rfl (.head _) (get_l hL) ?_) | ((with_reducible refine at_load ?_); refine wpList_bag_cell hX slI_cell _ rfl rfl rfl rfl (.head _) (get_m hL) ?_) | ((with_reducible refine at_load ?_); refine wpList_bag_cell hX slI_cell _ rfl rfl rfl rfl (.head _) (get_b hL) ?_) | ((with_reducible refine at_load ?_); refine wpList_bag_part hX agg_unit size_unit _ rfl rfl rfl rfl (.head _) (get_u hL) (by first | rfl | exact Un.len hA.2.2) ?_) | ((with_reducible refine at_load ?_); refine wpList_bag_part hX aggK_13 sizK_13 _ rfl rfl rfl rfl (.head _) (get_k hL) (by first | rfl | exact Un.len hA.2.2) ?_) | ((with_reducible refine at_load ?_); refine wpList_bag_part hX aggK sizK _ rfl rfl rfl rfl (.head _) (get_d hL) (by first | rfl | exact Un.len hA.2.2) ?_) | ((with_reducible refine at_load ?_); refine wpList_bag_part hX aggT sizT _ rfl rfl rfl rfl (.head _) (get_t hL) (by first | rfl | exact Un.len hA.2.2) ?_) | (go_at_call 31; (with_reducible refine (hm _ hX.below).mono ?_); rintro e' wc ⟨rfl, hbb⟩; replace hX := hX.step hbb; clear hbb) | (go_at_call 32; (with_reducible refine (hu _).mono ?_); rintro e' wc ⟨rfl, hbb⟩; replace hX := hX.step hbb; clear hbb) | (go_at_call 33; (with_reducible refine (hk _).mono ?_); rintro e' wc ⟨rfl, hbb⟩; replace hX := hX.step hbb; clear hbb) | (go_at_call 34; (with_reducible refine (hd _ hX.below).mono ?_); rintro e' wc ⟨rfl, hbb⟩; replace hX := hX.step hbb; clear hbb) | (go_at_call 35; (with_reducible refine (ht _ hX.below).mono ?_); rintro e' wc ⟨rfl, hbb⟩; replace hX := hX.step hbb; clear hbb))
        go_ret
        exact ⟨rfl, hX.below⟩
      cases g4 : A.K.right
      · rw [g1] at hm hr2
        rw [g2] at hu hr2
        rw [g3] at hk hr2
        rw [g4] at hd hr2
        simp only [Bool.false_and, Bool.true_and, Bool.and_false] at hr2
        subst hr2
        go_wp2_with (first | ((with_reducible refine at_load ?_); refine wpList_bag_cell hX slL_cell _ rfl rfl rfl rfl (.head _) (get_l hL) ?_) | ((with_reducible refine at_load ?_); refine wpList_bag_cell hX slI_cell _ rfl rfl rfl rfl (.head _) (get_m hL) ?_) | ((with_reducible refine at_load ?_); refine wpList_bag_cell hX slI_cell _ rfl rfl rfl rfl (.head _) (get_b hL) ?_) | ((with_reducible refine at_load ?_); refine wpList_bag_part hX agg_unit size_unit _ rfl rfl rfl rfl (.head _) (get_u hL) (by first | rfl | exact Un.len hA.2.2) ?_) | ((with_reducible refine at_load ?_); refine wpList_bag_part hX aggK_13 sizK_13 _ rfl rfl rfl rfl (.head _) (get_k hL) (by first | rfl | exact Un.len hA.2.2) ?_) | ((with_reducible refine at_load ?_); refine wpList_bag_part hX aggK sizK _ rfl rfl rfl rfl (.head _) (get_d hL) (by first | rfl | exact Un.len hA.2.2) ?_) | ((with_reducible refine at_load ?_); refine wpList_bag_part hX aggT sizT _ rfl rfl rfl rfl (.head _) (get_t hL) (by first | rfl | exact Un.len hA.2.2) ?_) | (go_at_call 31; (with_reducible refine (hm _ hX.below).mono ?_); rintro e' wc ⟨rfl, hbb⟩; replace hX := hX.step hbb; clear hbb) | (go_at_call 32; (with_reducible refine (hu _).mono ?_); rintro e' wc ⟨rfl, hbb⟩; replace hX := hX.step hbb; clear hbb) | (go_at_call 33; (with_reducible refine (hk _).mono ?_); rintro e' wc ⟨rfl, hbb⟩; replace hX := hX.step hbb; clear hbb) | (go_at_call 34; (with_reducible refine (hd _ hX.below).mono ?_); rintro e' wc ⟨rfl, hbb⟩; replace hX := hX.step hbb; clear hbb) | (go_at_call 35; (with_reducible refine (ht _ hX.below).mono ?_); rintro e' wc ⟨rfl, hbb⟩; replace hX := hX.step hbb; clear hbb))
        go_ret
        exact ⟨rfl, hX.below⟩
      rw [g1] at hm hr2
      rw [g2] at hu hr2
      rw [g3] at hk hr2
      rw [g4] at hd hr2
      simp only [Bool.true_and] at hr2
      subst hr2
      go_wp2_with (first | ((with_reducible refine at_load ?_); refine wpList_bag_cell hX slL_cell _ rfl rfl rfl rfl (.head _) (get_l hL) ?_) | ((with_reducible refine at_load ?_); refine wpList_bag_cell hX slI_cell _ rfl rfl rfl rfl (.head _) (get_m hL) ?_) | ((with_reducible refine at_load ?_); refine wpList_bag_cell hX slI_cell _ rfl rfl rfl rfl (.head _) (get_b hL) ?_) | ((with_reducible refine at_load ?_); refine wpList_bag_part hX agg_unit size_unit _ rfl rfl rfl rfl (.head _) (get_u hL) (by first | rfl | exact Un.len hA.2.2) ?_) | ((with_reducible refine at_load ?_); refine wpList_bag_part hX aggK_13 sizK_13 _ rfl rfl rfl rfl (.head _) (get_k hL) (by first | rfl | exact Un.len hA.2.2) ?_) | ((with_reducible refine at_load ?_); refine wpList_bag_part hX aggK sizK _ rfl rfl rfl rfl (.head _) (get_d hL) (by first | rfl | exact Un.len hA.2.2) ?_) | ((with_reducible refine at_load ?_); refine wpList_bag_part hX aggT sizT _ rfl rfl rfl rfl (.head _) (get_t hL) (by first | rfl | exact Un.len hA.2.2) ?_) | (go_at_call 31; (with_reducible refine (hm _ hX.below).mono ?_); rintro e' wc ⟨rfl, hbb⟩; replace hX := hX.step hbb; clear hbb) | (go_at_call 32; (with_reducible refine (hu _).mono ?_); rintro e' wc ⟨rfl, hbb⟩; replace hX := hX.step hbb; clear hbb) | (go_at_call 33; (with_reducible refine (hk _).mono ?_); rintro e' wc ⟨rfl, hbb⟩; replace hX := hX.step hbb; clear hbb) | (go_at_call 34; (with_reducible refine (hd _ hX.below).mono ?_); rintro e' wc ⟨rfl, hbb⟩; replace hX := hX.step hbb; clear hbb) | (go_at_call 35; (with_reducible refine (ht _ hX.below).mono ?_); rintro e' wc ⟨rfl, hbb⟩; replace hX := hX.step hbb; clear hbb))
      go_ret
      exact ⟨rfl, hX.below⟩
end Go.Proofs.YthpnddgfgpacpaaGreat
/-
  Physical, isLine, low of the reference; a copy of a row of lines. Conditions: at most 2^40 lines.
-/
namespace Go.Proofs.YthpnddgfgpacpaaGreat
open Go.RowKit
set_option linter.unusedSimpArgs false
set_option linter.unusedVariables false
set_option maxHeartbeats 4000000
set_option maxRecDepth 100000
attribute [local irreducible] wpQuiet

theorem tmod_neg {p m : Int} (hp : p < 0) (hm : 0 < m) : p.tmod m = -((-p) % m) := by
  have h1 : (-p).tmod m = (-p) % m := Int.tmod_eq_emod_of_nonneg (by omega)
  rw [Int.neg_tmod] at h1
  omega
theorem rphys_any (p : Int) (w : World) : Calls Tryz.prog 39 #[.int .i64 p] w fun e' w' => e' = .returned (.int .i64 (physP p)) ∧ Below w.heap.size w w' := by
  have hB := Below.refl w.heap.size w
  unfold physP
  by_cases hp : p < 0
  · have t1 := tmod_neg hp (m := 262144) (by decide)
    by_cases hz : (-p) % 262144 = 0
    · rw [hz] at t1
      have t2 : p.tmod 262144 = 0 := by omega
      have e : p % 262144 = 0 := by omega
      have w1 : IntKind.i64.wrap 0 = 0 := by decide
      rw [e]
      clear t1 hz hp e
      go_enter Tryz.func39, Tryz.ntmps39
      go_wp2
      go_ret
      exact ⟨rfl, hB⟩
    · generalize hq : (-p) % 262144 = q at *
      have h1 : 0 < q := by omega
      have h2 : q < 262144 := by omega
      have w1 : IntKind.i64.wrap (-q) = -q := by rw [wrap_i64]; unfold wrap64; omega
      have w2 : IntKind.i64.wrap (-q + 262144) = -q + 262144 := by rw [wrap_i64]; unfold wrap64; omega
      have e : p % 262144 = -q + 262144 := by omega
      have d1 : decide (-q < 0) = true := decide_eq_true (by omega)
      have d1i : -q < 0 := by omega
      rw [e]
      clear hq hz hp e
      go_enter Tryz.func39, Tryz.ntmps39
      go_wp2
      go_ret
      exact ⟨rfl, hB⟩
  · have t1 : p.tmod 262144 = p % 262144 := Int.tmod_eq_emod_of_nonneg (by omega)
    have w1 : IntKind.i64.wrap (p % 262144) = p % 262144 := by rw [wrap_i64]; unfold wrap64; omega
    have d1 : decide (p % 262144 < 0) = false := decide_eq_false (by omega)
    generalize p % 262144 = q at *
    clear hp
    go_enter Tryz.func39, Tryz.ntmps39
    go_wp2
    go_ret
    exact ⟨rfl, hB⟩
theorem rline_any (A : Ma) (hA : A.ok) (hl : A.L.length ≤ 4) (off : Int) (vm vb vs vd vt : Value) (aL : Option Addr) (cL : Nat) (w : World) : Calls Tryz.prog 91 #[.agg (A.cells vm vb (.slice aL A.L.length cL) vs vd vt).toArray, .int .i64 off] w fun e' w' => e' = .returned (.bool (A.isL off)) ∧ Below w.heap.size w w' := by
  have hL := Ma.len hA vs vd vt
  have hX := (Bag.nil w).new 44 (A.cells vm vb (.slice aL A.L.length cL) vs vd vt)
  unfold Ma.isL
  have w1 : IntKind.i64.wrap (8 * (A.L.length : Int)) = 8 * (A.L.length : Int) := by rw [wrap_i64]; unfold wrap64; omega
  have w2 : IntKind.i64.wrap (512 + 8 * (A.L.length : Int)) = 512 + 8 * (A.L.length : Int) := by rw [wrap_i64]; unfold wrap64; omega
  by_cases h : 512 ≤ off
  · have d1 : decide (512 ≤ off) = true := decide_eq_true h
    go_enter Tryz.func91, Tryz.ntmps91
    go_wp2_with (first | ((with_reducible refine at_load ?_); refine wpList_bag_cell hX slL_cell _ rfl rfl rfl rfl (.head _) (get_l hL) ?_))
    go_ret
    exact ⟨by simp [d1], hX.below⟩
  · have d1 : decide (512 ≤ off) = false := decide_eq_false h
    go_enter Tryz.func91, Tryz.ntmps91
    go_wp2_with (first | ((with_reducible refine at_load ?_); refine wpList_bag_cell hX slL_cell _ rfl rfl rfl rfl (.head _) (get_l hL) ?_))
    go_ret
    exact ⟨by simp [d1], hX.below⟩
theorem infLn : (Tryz.prog.info? 68).map (fun i => (i.zero, i.size, i.bytes)) = some (some (.agg (lnL ⟨false, false, false, 0, false, false, 0, 0, ⟨#[]⟩⟩).toArray), 9, 56) := by kernel_rfl
theorem infLn_parts : ∃ i : TypeInfo, Tryz.prog.info? 68 = some i ∧ i.zero = some (.agg (lnL ⟨false, false, false, 0, false, false, 0, 0, ⟨#[]⟩⟩).toArray) ∧ i.size = 9 ∧ i.bytes = 56 := by
  have h := infLn
  cases hi : Tryz.prog.info? 68 with
  | none => rw [hi] at h; cases h
  | some i =>
    rw [hi] at h
    simp only [Option.map_some, Option.some.injEq, Prod.mk.injEq] at h
    exact ⟨i, rfl, h.1, h.2.1, h.2.2⟩
theorem own_emptyS (w : World) (t : TypeId) (s : Nat) : (w.alloc (.cells #[] t)).ownsRow w.heap.size t s (.slice (some ⟨w.heap.size, 0, none⟩) 0 0) 0 [] :=
  ⟨(Nat.zero_mul s).symm, .inr ⟨w.heap.size, 0, #[], rfl, Nat.le_refl _, heap_alloc_new w _, Nat.le_refl _, Nat.zero_le _, (Nat.zero_mul s).symm, by rw [Nat.zero_mul]; rfl⟩⟩
theorem flat9_len (l : List Ln) : (l.flatMap lnL).length = l.length * 9 := by
  induction l with
  | nil => rfl
  | cons x r ih => rw [List.flatMap_cons, List.length_append, ih, List.length_cons]; show 9 + _ = _; omega
theorem one_lns (l : List Ln) : ∀ u ∈ l.flatMap lnL, u.oneCell' = true := by
  intro u hu
  obtain ⟨x, _, hx⟩ := List.mem_flatMap.1 hu
  simp only [lnL, List.mem_cons, List.not_mem_nil, or_false] at hx
  rcases hx with rfl | rfl | rfl | rfl | rfl | rfl | rfl | rfl | rfl <;> rfl
theorem wpList_appLn {w : World} {ops : Array Oper} {rest : List Oper} {o : Oper} {a : Act} {Q : Exit → Act → World → Prop} (hgd : o.guard = none) (s x : Operand)
    (ho : o.op = .call { callee := .builtin .append, args := #[s, x], argTypes := #[35, 35] }) (N : Nat) (v : Value) (n : Nat) (xs : List Value) (hs : a.eval s = v) (hown : w.ownsRow N 68 9 v n xs)
    (ad : Addr) (m c : Nat) (news : List Value) (hx : a.eval x = .slice (some ad) m c) (hl : news.length = m * 9) (hnews : ∀ j u, news[j]? = some u → w.cell? (ad.add j) = some u) (h1 : ∀ u ∈ news, u.oneCell' = true)
    (hb : n + m ≤ 1099511627776) (hN : N ≤ w.heap.size)
    (h : ∀ v' w', w'.ownsRow N 68 9 v' (n + m) (xs ++ news) → Below N w w' → wpList Tryz.prog ops Q rest (a.put o.dst v') w') : wpList Tryz.prog ops Q (o :: rest) a w := by
  obtain ⟨i, hi, hz, hsz, hby⟩ := infLn_parts
  refine wpList_append_own _ hgd s x 35 ho N 68 i (.agg (lnL ⟨false, false, false, 0, false, false, 0, 0, ⟨#[]⟩⟩).toArray) 9 56 Tryz.underlying35 hi hz hsz hby rfl (by decide) v n xs hs hown ad m c news hx hl hnews h1 (by unfold maxLen; omega) (by omega) hN ?_
  intro v' w' ho' hg _
  exact h v' w' ho' ((Below.refl N w).grown hg hN (fun j hj => (World.ownsRow.lt hown j hj).1))
/-- A row is appended to a new empty one: a copy of the call's own. -/
theorem wpList_cpLn {w w0 : World} {ops : Array Oper} {rest : List Oper} {o : Oper} {a : Act} {Q : Exit → Act → World → Prop} (hgd : o.guard = none) (s x : Operand) (ho : o.op = .call { callee := .builtin .append, args := #[s, x], argTypes := #[35, 35] }) (hw : w = w0.alloc (.cells #[] 68)) (hs : a.eval s = .slice (some ⟨w0.heap.size, 0, none⟩) 0 0) (v : Value) (l : List Ln) (hx : a.eval x = v) (hv : Lns w0 v l) (hl : l.length ≤ 1099511627776)
    (h : ∀ v' w', w'.ownsRow w0.heap.size 68 9 v' l.length (l.flatMap lnL) → Below w0.heap.size w0 w' → wpList Tryz.prog ops Q rest (a.put o.dst v') w') : wpList Tryz.prog ops Q (o :: rest) a w := by
  subst hw
  have hb0 : Below w0.heap.size w0 (w0.alloc (.cells #[] 68)) := (Below.refl _ _).alloc (Nat.le_refl _) _
  rcases Rz.form hv with ⟨rfl, h1, _⟩ | ⟨ad, c, rfl, _⟩
  · obtain rfl : l = [] := List.eq_nil_of_length_eq_zero h1
    obtain ⟨i, hi, hz, hsz, hby⟩ := infLn_parts
    exact wpList_append_own_none hgd s x 35 ho w0.heap.size 68 i 9 Tryz.underlying35 hi _ 0 [] hs (own_emptyS w0 68 9) hx (h _ _ (own_emptyS w0 68 9) hb0)
  · refine wpList_appLn hgd s x ho w0.heap.size _ 0 [] hs (own_emptyS w0 68 9) ad l.length c (l.flatMap lnL) hx (flat9_len l) (fun jz u hu => Rz.cell (Rz.below hv hb0) jz u hu) (one_lns l) (by omega) (by simp) fun v' w' ho' hb' => ?_
    rw [Nat.zero_add, List.nil_append] at ho'
    exact h v' w' ho' (hb0.trans hb')
end Go.Proofs.YthpnddgfgpacpaaGreat
/-
  A line is put into a row; a new machine made; withLine of the reference. Condition: the row has the line.
-/
namespace Go.Proofs.YthpnddgfgpacpaaGreat
open Go.RowKit
set_option linter.unusedSimpArgs false
set_option linter.unusedVariables false
set_option maxHeartbeats 4000000
set_option maxRecDepth 100000
attribute [local irreducible] wpQuiet

theorem take_put {c ds : List Value} {a d n : Nat} (hd : ds.length = d) (h1 : a + d ≤ n) (h2 : n ≤ c.length) : (c.take a ++ ds ++ c.drop (a + d)).take n = (c.take n).take a ++ ds ++ (c.take n).drop (a + d) := by
  have hl : (c.take a ++ ds).length = a + d := by rw [List.length_append, List.length_take, hd]; omega
  rw [List.take_append, List.take_of_length_le (by omega), hl, List.take_take, Nat.min_eq_left (by omega), List.drop_take]
theorem flat9_set : ∀ (l : List Ln) (k : Nat) (x : Ln), k < l.length → (l.flatMap lnL).take (k * 9) ++ lnL x ++ (l.flatMap lnL).drop (k * 9 + 9) = (l.set k x).flatMap lnL
  | [], k, x, h => absurd h (Nat.not_lt_zero _)
  | y :: r, 0, x, _ => by
    rw [List.set_cons_zero, List.flatMap_cons, List.flatMap_cons, Nat.zero_mul, List.take_zero, Nat.zero_add, List.nil_append, List.drop_append, List.drop_eq_nil_of_le (show (lnL y).length ≤ 9 from Nat.le_refl _), show 9 - (lnL y).length = 0 from rfl, List.drop_zero, List.nil_append]
  | y :: r, k + 1, x, h => by
    have ih := flat9_set r k x (by simpa using h)
    have hy : (lnL y).length = 9 := rfl
    rw [List.set_cons_succ, List.flatMap_cons, List.flatMap_cons, List.take_append, List.take_of_length_le (by omega), List.drop_append, List.drop_eq_nil_of_le (by omega), hy, show (k + 1) * 9 - 9 = k * 9 by omega, show (k + 1) * 9 + 9 - 9 = k * 9 + 9 by omega, List.nil_append, ← ih]
    simp only [List.append_assoc]
section
variable {ops : Array Oper} {rest : List Oper} {o : Oper} {a : Act} {w w1 : World} {Q : Exit → Act → World → Prop}
/-- A line is stored into a row of the call's own. -/
theorem wpList_own_putLn {N g n cap k : Nat} {l : List Ln} {x : Ln} (hown : w.ownsRow N 68 9 (.slice (some ⟨g, 0, none⟩) n cap) n (l.flatMap lnL)) (hn : n = l.length) (hk : k < l.length) (xo yo : Operand) (hop : o.op = Op.store 68 xo yo) (hal : w1 = w) (hx : a.eval xo = .pointer (some ⟨g, k * 9, none⟩)) (hy : a.eval yo = .agg (lnL x).toArray) (hdst : o.dst = none) (hw : Region.wanted o (yielded ops a.tmps) = true)
    (h : ∀ w2, w2.ownsRow N 68 9 (.slice (some ⟨g, 0, none⟩) n cap) n ((l.set k x).flatMap lnL) → (∀ j, j ≠ g → w2.heap[j]? = w.heap[j]?) → Below N w w2 → wpList Tryz.prog ops Q rest a w2) : wpList Tryz.prog ops Q (o :: rest) a w1 := by
  subst hal hn
  rcases hown.2 with ⟨hv, _⟩ | ⟨g', cap', cur, hv, hg, hh, hnc, hm, hcs, htk⟩
  · cases hv
  · cases hv
    have hb : Blk 68 w1 g cur.toList := by unfold Blk; rw [Array.toArray_toList]; exact hh
    have hc9 : cur.size = cap * 9 := hcs
    have hbd : k * 9 + 9 ≤ cur.size := by rw [hc9]; omega
    have e := run_storeCells_at Tryz.prog g (k * 9) 68 (lnL x) 0 cur.toList.toArray w1 hb (by simp [lnL]; omega) (by intro u hu; exact one_lns [x] u (by simpa using hu))
    refine wpList_store_run hw hdst 68 xo yo _ _ hop hx hy aggLn sizLn e (h _ ?_ (fun j hj => setRow_other w1 g j _ hj) (below_setRow (Below.refl _ _) hg _))
    refine ⟨flat9_len _ |>.trans (by rw [List.length_set]), .inr ⟨g, cap, _, rfl, hg, setRow_heap w1 g _ _ 68 _ hb, hnc, hm, ?_, ?_⟩⟩
    · simp [lnL]; omega
    · simp only [Nat.add_zero, Array.toArray_toList]
      rw [← flat9_set l k x hk, ← htk]
      have hl9 : (lnL x).length = 9 := rfl
      have hcl : cur.toList.length = cap * 9 := by simpa using hc9
      exact take_put hl9 (by omega) (by omega)
end
end Go.Proofs.YthpnddgfgpacpaaGreat
