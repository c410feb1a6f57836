import Derived.Test.YtlegcfjafdihlaaGreatDoorZR09
import Derived.Test.YtlegcfjafdihlaaGreatDoorZR10
import Derived.Test.YtlegcfjafdihlaaGreatDoorZR03
import Derived.Test.YtlegcfjafdihlaaGreatDoorZR08
import Derived.Test.YtlegcfjafdihlaaGreatDoorZR11
import Derived.Test.YtlegcfjafdihlaaGreatDoorZR12
import Derived.Test.YtlegcfjafdihlaaGreatDoorZR05
import Derived.Test.YtlegcfjafdihlaaGreatDoorZR06
/-
  Rows of lines; Right of the reference. Conditions: at most 2^40 elements in each list.
-/
namespace Go.Proofs.YtlegcfjafdihlaaGreatDoor
open Go.RowKit
set_option linter.unusedSimpArgs false
set_option linter.unusedVariables false
set_option maxHeartbeats 4000000
set_option maxRecDepth 100000
attribute [local irreducible] wpQuiet

theorem flatM_get {α : Type} {g : α → List Value} {s : Nat} (hs : ∀ x, (g x).length = s) : ∀ (l : List α) (k : Nat) (x : α), l[k]? = some x → ∀ j v, (g x)[j]? = some v → (l.flatMap g)[k * s + j]? = some v
  | [], k, x, h, _, _, _ => by simp at h
  | y :: r, 0, x, h, j, v, hv => by
    obtain rfl : y = x := by simpa using h
    rw [List.flatMap_cons, Nat.zero_mul, Nat.zero_add, List.getElem?_append_left (List.getElem?_eq_some_iff.1 hv).1]
    exact hv
  | y :: r, k + 1, x, h, j, v, hv => by
    rw [List.flatMap_cons, List.getElem?_append_right (by rw [hs, Nat.succ_mul]; omega), hs, show (k + 1) * s + j - s = k * s + j by rw [Nat.succ_mul]; omega]
    exact flatM_get hs r k x (by simpa using h) j v hv
theorem Its.nums18 {w : World} {v : Value} {l : List Int} (h : Its w v l) : Nums .i64 w v l := by
  obtain ⟨⟨A, c, rfl, hk, hc⟩, _⟩ := h
  refine ⟨A, c, rfl, hk, fun j x hx => ?_⟩
  obtain ⟨a, ha, h1, h2⟩ := hc j (.int .i64 x) (by rw [List.getElem?_map, hx]; rfl)
  exact ⟨a, ha, h1, by have := World.block_lt_of_cell? w _ h1; exact this⟩
theorem aggLn (w : World) : (isAgg 83).run Tryz.prog w = .ok true w := by kernel_rfl
theorem sizLn (w : World) : (sizeOf 83).run Tryz.prog w = .ok 9 w := by kernel_rfl
theorem slL_cell (w : World) : (isAgg 40).run Tryz.prog w = .ok false w := by kernel_rfl
theorem lns_form {w : World} {v : Value} {l : List Ln} (h : Lns w v l) : ∃ A c, v = .slice A l.length c ∧ l.length ≤ c ∧ ∀ (k : Nat) x, l[k]? = some x → ∃ a, A = some a ∧ ∀ w', Below w.heap.size w w' → (Instr.loadAt 83 (.pointer (some (a.add (k * 9))))).run Tryz.prog w' = .ok (.agg (lnL x).toArray) w' := by
  have h0 := h.1
  obtain ⟨A, c, rfl, hk, hc⟩ := h.1
  refine ⟨A, c, rfl, hk, fun k x hx => ?_⟩
  have hg := fun j v hv => flatM_get (g := lnL) (s := 9) (fun _ => rfl) l k x hx j v hv
  obtain ⟨a, rfl, _⟩ := hc (k * 9 + 0) _ (hg 0 _ rfl)
  exact ⟨a, rfl, fun w' hb => Rw.loadAt (k := k) (s := 9) (Rw.below h0 hb) (fun j v hv => hg j v hv) rfl aggLn sizLn⟩
/-- What lies behind the words of a machine. -/
structure MaNow (w : World) (A : Ma) (vm vb vl vs vd vt : Value) : Prop where
  m : Its w vm A.M
  b : Its w vb A.B
  l : Lns w vl A.L
  s : Sts w vs A.K.D.S
  d : Its w vd A.K.D.B
  t : Sts w vt A.T.R
theorem MaNow.step {w w' : World} {A : Ma} {vm vb vl vs vd vt : Value} (h : MaNow w A vm vb vl vs vd vt) (hb : Below w.heap.size w w') : MaNow w' A vm vb vl vs vd vt := ⟨Rz.below h.m hb, Rz.below h.b hb, Rz.below h.l hb, Rz.below h.s hb, Rz.below h.d hb, Rz.below h.t hb⟩
def Ma.few (A : Ma) : Prop := A.M.length ≤ 1099511627776 ∧ A.B.length ≤ 1099511627776 ∧ A.K.D.S.length ≤ 1099511627776 ∧ A.K.D.B.length ≤ 1099511627776 ∧ A.T.R.length ≤ 1099511627776
theorem rbRight_any (A : Ma) (hA : A.ok) (hF : A.few) (vm vb vl vs vd vt : Value) (w : World) (hN : MaNow w A vm vb vl vs vd vt) : Calls Tryz.prog 54 #[.agg (A.cells vm vb vl vs vd vt).toArray] w fun e' w' => e' = .returned (.bool A.right) ∧ Below w.heap.size w w' := by
  have hL := Ma.len hA vs vd vt
  obtain ⟨f1, f2, f3, f4, f5⟩ := hF
  have hX := (Bag.nil w).new 49 (A.cells vm vb vl vs vd vt)
  obtain ⟨aL, cL, rfl, hcl, hld⟩ := lns_form hN.l
  have hri : A.right = (decide (A.L.length ≤ 4) && A.L.all Ln.right && rightP A.M A.B && A.U.right && A.k.right && A.K.right && A.T.right) := rfl
  have hm := fun wz (h : Below w.heap.size w wz) => rright_any vm vb A.M A.B f1 f2 wz (Its.nums18 (Rz.below hN.m h)) (Its.nums18 (Rz.below hN.b h))
  have hu := fun wz => rright_any_9 A.U hA.2.2 wz
  have hk : ∀ wz, Calls Tryz.prog 96 #[.agg A.k.L.toArray] wz fun e' w' => e' = .returned (.bool A.k.right) ∧ Below wz.heap.size wz w' := fun wz => rright_any_13 A.k wz
  have hd : ∀ wz, Below w.heap.size w wz → Calls Tryz.prog 97 #[.agg (dkL vs vd A.K).toArray] wz fun e' w' => e' = .returned (.bool A.K.right) ∧ Below wz.heap.size wz w' := fun wz h => rrightK_any A.K f4 f3 vs vd wz (Rz.below hN.s h) (Rz.below hN.d h)
  have ht : ∀ wz, Below w.heap.size w wz → Calls Tryz.prog 98 #[.agg (tpL vt A.T).toArray] wz fun e' w' => e' = .returned (.bool A.T.right) ∧ Below wz.heap.size wz w' := fun wz h => rrightT_any A.T f5 vt wz (Rz.below hN.t h)
  have hn : ∀ (x : Ln) wz, Calls Tryz.prog 93 #[.agg (lnL x).toArray] wz fun e' w' => e' = .returned (.bool x.right) ∧ Below wz.heap.size wz w' := fun x wz => rrightL_any x wz
  obtain ⟨Q, hQ⟩ : ∃ Q, Q = A.right := ⟨_, rfl⟩
  rw [← hQ]
  rw [hri] at hQ
  clear hri
  by_cases h4 : 4 < A.L.length
  · have d4 : decide (4 < (A.L.length : Int)) = true := decide_eq_true (by omega)
    have hr : Q = false := by rw [hQ, decide_eq_false (by omega)]; simp
    clear hQ
    subst hr
    have h4i : (4 : Int) < (A.L.length : Int) := by omega
    go_enter Tryz.func54, Tryz.ntmps54
    go_wp2_with (first | ((with_reducible refine at_load ?_); refine wpList_bag_cell hX slL_cell _ rfl rfl rfl rfl (.head _) (get_l hL) ?_))
    go_ret
    exact ⟨rfl, hX.below⟩
  have d4 : decide (4 < (A.L.length : Int)) = false := decide_eq_false (by omega)
  rw [decide_eq_true (by omega)] at hQ
  replace hQ := hid hQ
  go_enter Tryz.func54, Tryz.ntmps54
  go_wp2_with (first | ((with_reducible refine at_load ?_); refine wpList_bag_cell hX slL_cell _ rfl rfl rfl rfl (.head _) (get_l hL) ?_))
  go_loopw [3] (fun iv wr => ∃ i : Nat, i ≤ A.L.length ∧ iv = .int .i64 i ∧ Hid (∀ (j : Nat) x, j < i → A.L[j]? = some x → x.right = true) ∧ Bag [(w.heap.size, 49, A.cells vm vb (.slice aL A.L.length cL) vs vd vt)] w wr) (fun iv _ => match iv with | .int _ q => A.L.length - q.toNat | _ => 0)
  case atStart => exact ⟨0, Nat.zero_le _, rfl, fun j x h => absurd h (Nat.not_lt_zero _), hX⟩
  case round =>
    clear hX
    obtain ⟨i, hi, rfl, hall, hX⟩ := hrel
    by_cases hlt : i < A.L.length
    · obtain ⟨x, hx⟩ : ∃ x, A.L[i]? = some x := ⟨_, List.getElem?_eq_getElem hlt⟩
      obtain ⟨ad, rfl, hld2⟩ := hld i x hx
      have i0 : (0 : Int) ≤ (i : Int) := by omega
      have i1 : (i : Int) < (A.L.length : Int) := by omega
      have hnx := hn x
      cases hq : x.right
      · rw [hq] at hnx
        have hr : Q = false := by
          rw [show Q = _ from hQ]
          have : A.L.all Ln.right = false := by
            rw [List.all_eq_false]
            exact ⟨x, List.mem_of_getElem? hx, by rw [hq]; decide⟩
          rw [this]; simp
        clear hQ hall hm hu hk hd ht hn
        subst hr
        replace hx := hid hx
        go_wp2_with (first | ((with_reducible refine at_load ?_); refine wpList_bag_cell hX slL_cell _ rfl rfl rfl rfl (.head _) (get_l hL) ?_) | ((with_reducible refine at_load ?_); refine wpList_loadW rfl 83 _ _ _ rfl rfl (hld2 _ hX.below) ?_) | (go_at_call 93; (with_reducible refine (hnx _).mono ?_); rintro e' wc ⟨rfl, hbb⟩; replace hX := hX.step hbb; clear hbb))
        go_ret
        exact ⟨rfl, hX.below⟩
      · rw [hq] at hnx
        have hN2 : Hid (∀ (j : Nat) x, j < i + 1 → A.L[j]? = some x → x.right = true) := fun j y hj hy => by
          rcases (by omega : j < i ∨ j = i) with h | rfl
          · exact (show ∀ (j : Nat) x, j < i → A.L[j]? = some x → x.right = true from hall) j y h hy
          · rw [hx] at hy; cases hy; exact hq
        clear hall hx hq hm hu hk hd ht hn
        go_wp2_with (first | ((with_reducible refine at_load ?_); refine wpList_bag_cell hX slL_cell _ rfl rfl rfl rfl (.head _) (get_l hL) ?_) | ((with_reducible refine at_load ?_); refine wpList_loadW rfl 83 _ _ _ rfl rfl (hld2 _ hX.below) ?_) | (go_at_call 93; (with_reducible refine (hnx _).mono ?_); rintro e' wc ⟨rfl, hbb⟩; replace hX := hX.step hbb; clear hbb))
        exact ⟨⟨i + 1, by omega, by go_num, hN2, hX⟩, by simp only; omega⟩
    · have hl : A.L.all Ln.right = true := by
        rw [List.all_eq_true]
        intro x hx
        obtain ⟨j, hj⟩ := List.mem_iff_getElem?.1 hx
        exact (show ∀ (j : Nat) x, j < i → A.L[j]? = some x → x.right = true from hall) j x (by have := (List.getElem?_eq_some_iff.1 hj).1; omega) hj
      have i1 : ¬ (i : Int) < (A.L.length : Int) := by omega
      have hr2 : Q = (rightP A.M A.B && A.U.right && A.k.right && A.K.right && A.T.right) := by rw [show Q = _ from hQ, hl]; simp
      clear hQ hl hld hall hn
      cases g1 : rightP A.M A.B
      · rw [g1] at hm hr2
        simp only [Bool.false_and] at hr2
        subst hr2
        go_wp2_with (first | ((with_reducible refine at_load ?_); refine wpList_bag_cell hX slL_cell _ rfl rfl rfl rfl (.head _) (get_l hL) ?_) | ((with_reducible refine at_load ?_); refine wpList_bag_cell hX slI_cell _ rfl rfl rfl rfl (.head _) (get_m hL) ?_) | ((with_reducible refine at_load ?_); refine wpList_bag_cell hX slI_cell _ rfl rfl rfl rfl (.head _) (get_b hL) ?_) | ((with_reducible refine at_load ?_); refine wpList_bag_part hX agg_unit size_unit _ rfl rfl rfl rfl (.head _) (get_u hL) (by first | rfl | exact Un.len hA.2.2) ?_) | ((with_reducible refine at_load ?_); refine wpList_bag_part hX aggK_13 sizK_13 _ rfl rfl rfl rfl (.head _) (get_k hL) (by first | rfl | exact Un.len hA.2.2) ?_) | ((with_reducible refine at_load ?_); refine wpList_bag_part hX aggK sizK _ rfl rfl rfl rfl (.head _) (get_d hL) (by first | rfl | exact Un.len hA.2.2) ?_) | ((with_reducible refine at_load ?_); refine wpList_bag_part hX aggT sizT _ rfl rfl rfl rfl (.head _) (get_t hL) (by first | rfl | exact Un.len hA.2.2) ?_) | (go_at_call 94; (with_reducible refine (hm _ hX.below).mono ?_); rintro e' wc ⟨rfl, hbb⟩; replace hX := hX.step hbb; clear hbb) | (go_at_call 95; (with_reducible refine (hu _).mono ?_); rintro e' wc ⟨rfl, hbb⟩; replace hX := hX.step hbb; clear hbb) | (go_at_call 96; (with_reducible refine (hk _).mono ?_); rintro e' wc ⟨rfl, hbb⟩; replace hX := hX.step hbb; clear hbb) | (go_at_call 97; (with_reducible refine (hd _ hX.below).mono ?_); rintro e' wc ⟨rfl, hbb⟩; replace hX := hX.step hbb; clear hbb) | (go_at_call 98; (with_reducible refine (ht _ hX.below).mono ?_); rintro e' wc ⟨rfl, hbb⟩; replace hX := hX.step hbb; clear hbb))
        go_ret
        exact ⟨rfl, hX.below⟩
      cases g2 : A.U.right
      · rw [g1] at hm hr2
        rw [g2] at hu hr2
        simp only [Bool.false_and, Bool.true_and, Bool.and_false] at hr2
        subst hr2
        go_wp2_with (first | ((with_reducible refine at_load ?_); refine wpList_bag_cell hX slL_cell _ rfl rfl rfl rfl (.head _) (get_l hL) ?_) | ((with_reducible refine at_load ?_); refine wpList_bag_cell hX slI_cell _ rfl rfl rfl rfl (.head _) (get_m hL) ?_) | ((with_reducible refine at_load ?_); refine wpList_bag_cell hX slI_cell _ rfl rfl rfl rfl (.head _) (get_b hL) ?_) | ((with_reducible refine at_load ?_); refine wpList_bag_part hX agg_unit size_unit _ rfl rfl rfl rfl (.head _) (get_u hL) (by first | rfl | exact Un.len hA.2.2) ?_) | ((with_reducible refine at_load ?_); refine wpList_bag_part hX aggK_13 sizK_13 _ rfl rfl rfl rfl (.head _) (get_k hL) (by first | rfl | exact Un.len hA.2.2) ?_) | ((with_reducible refine at_load ?_); refine wpList_bag_part hX aggK sizK _ rfl rfl rfl rfl (.head _) (get_d hL) (by first | rfl | exact Un.len hA.2.2) ?_) | ((with_reducible refine at_load ?_); refine wpList_bag_part hX aggT sizT _ rfl rfl rfl rfl (.head _) (get_t hL) (by first | rfl | exact Un.len hA.2.2) ?_) | (go_at_call 94; (with_reducible refine (hm _ hX.below).mono ?_); rintro e' wc ⟨rfl, hbb⟩; replace hX := hX.step hbb; clear hbb) | (go_at_call 95; (with_reducible refine (hu _).mono ?_); rintro e' wc ⟨rfl, hbb⟩; replace hX := hX.step hbb; clear hbb) | (go_at_call 96; (with_reducible refine (hk _).mono ?_); rintro e' wc ⟨rfl, hbb⟩; replace hX := hX.step hbb; clear hbb) | (go_at_call 97; (with_reducible refine (hd _ hX.below).mono ?_); rintro e' wc ⟨rfl, hbb⟩; replace hX := hX.step hbb; clear hbb) | (go_at_call 98; (with_reducible refine (ht _ hX.below).mono ?_); rintro e' wc ⟨rfl, hbb⟩; replace hX := hX.step hbb; clear hbb))
        go_ret
        exact ⟨rfl, hX.below⟩
      cases g3 : A.k.right
      · rw [g1] at hm hr2
        rw [g2] at hu hr2
        rw [g3] at hk hr2
        simp only [Bool.false_and, Bool.true_and, Bool.and_false] at hr2
        subst hr2
        go_wp2_with (first | ((with_reducible refine at_load ?_); refine wpList_bag_cell hX slL_cell _ rfl rfl rfl rfl (.head _) (get_l hL) ?_) | ((with_reducible refine at_load ?_); refine wpList_bag_cell hX slI_cell _ rfl rfl rfl rfl (.head _) (get_m hL) ?_) | ((with_reducible refine at_load ?_); refine wpList_bag_cell hX slI_cell _ rfl rfl rfl rfl (.head _) (get_b hL) ?_) | ((with_reducible refine at_load ?_); refine wpList_bag_part hX agg_unit size_unit _ rfl rfl rfl rfl (.head _) (get_u hL) (by first | rfl | exact Un.len hA.2.2) ?_) | ((with_reducible refine at_load ?_); refine wpList_bag_part hX aggK_13 sizK_13 _ rfl rfl rfl rfl (.head _) (get_k hL) (by first | rfl | exact Un.len hA.2.2) ?_) | ((with_reducible refine at_load ?_); refine wpList_bag_part hX aggK sizK _ rfl rfl rfl rfl (.head _) (get_d hL) (by first | rfl | exact Un.len hA.2.2) ?_) | ((with_reducible refine at_load ?_); refine wpList_bag_part hX aggT sizT _ rfl rfl rfl rfl (.head _) (get_t hL) (by first | rfl | exact Un.len hA.2.2) ?_) | (go_at_call 94; (with_reducible refine (hm _ hX.below).mono ?_); rintro e' wc ⟨rfl, hbb⟩; replace hX := hX.step hbb; clear hbb) | (go_at_call 95; (with_reducible refine (hu _).mono ?_); rintro e' wc ⟨rfl, hbb⟩; replace hX := hX.step hbb; clear hbb) | (go_at_call 96; (with_reducible refine (hk _).mono ?_); rintro e' wc ⟨rfl, hbb⟩; replace hX := hX.step hbb; clear hbb) | (go_at_call 97; (with_reducible refine (hd _ hX.below).mono ?_); rintro e' wc ⟨rfl, hbb⟩; replace hX := hX.step hbb; clear hbb) | (go_at_call 98; (with_reducible refine (ht _ hX.below).mono ?_); rintro e' wc ⟨rfl, hbb⟩; replace hX := hX.step hbb; clear hbb))
        go_ret
        exact ⟨rfl, hX.below⟩
      cases g4 : A.K.right
      · rw [g1] at hm hr2
        rw [g2] at hu hr2
        rw [g3] at hk hr2
        rw [g4] at hd hr2
        simp only [Bool.false_and, Bool.true_and, Bool.and_false] at hr2
        subst hr2
        go_wp2_with (first | ((with_reducible refine at_load ?_); refine wpList_bag_cell hX slL_cell _ rfl rfl rfl rfl (.head _) (get_l hL) ?_) | ((with_reducible refine at_load ?_); refine wpList_bag_cell hX slI_cell _ rfl rfl rfl rfl (.head _) (get_m hL) ?_) | ((with_reducible refine at_load ?_); refine wpList_bag_cell hX slI_cell _ rfl rfl rfl rfl (.head _) (get_b hL) ?_) | ((with_reducible refine at_load ?_); refine wpList_bag_part hX agg_unit size_unit _ rfl rfl rfl rfl (.head _) (get_u hL) (by first | rfl | exact Un.len hA.2.2) ?_) | ((with_reducible refine at_load ?_); refine wpList_bag_part hX aggK_13 sizK_13 _ rfl rfl rfl rfl (.head _) (get_k hL) (by first | rfl | exact Un.len hA.2.2) ?_) | ((with_reducible refine at_load ?_); refine wpList_bag_part hX aggK sizK _ rfl rfl rfl rfl (.head _) (get_d hL) (by first | rfl | exact Un.len hA.2.2) ?_) | ((with_reducible refine at_load ?_); refine wpList_bag_part hX aggT sizT _ rfl rfl rfl rfl (.head _) (get_t hL) (by first | rfl | exact Un.len hA.2.2) ?_) | (go_at_call 94; (with_reducible refine (hm _ hX.below).mono ?_); rintro e' wc ⟨rfl, hbb⟩; replace hX := hX.step hbb; clear hbb) | (go_at_call 95; (with_reducible refine (hu _).mono ?_); rintro e' wc ⟨rfl, hbb⟩; replace hX := hX.step hbb; clear hbb) | (go_at_call 96; (with_reducible refine (hk _).mono ?_); rintro e' wc ⟨rfl, hbb⟩; replace hX := hX.step hbb; clear hbb) | (go_at_call 97; (with_reducible refine (hd _ hX.below).mono ?_); rintro e' wc ⟨rfl, hbb⟩; replace hX := hX.step hbb; clear hbb) | (go_at_call 98; (with_reducible refine (ht _ hX.below).mono ?_); rintro e' wc ⟨rfl, hbb⟩; replace hX := hX.step hbb; clear hbb))
        go_ret
        exact ⟨rfl, hX.below⟩
      rw [g1] at hm hr2
      rw [g2] at hu hr2
      rw [g3] at hk hr2
      rw [g4] at hd hr2
      simp only [Bool.true_and] at hr2
      subst hr2
      go_wp2_with (first | ((with_reducible refine at_load ?_); refine wpList_bag_cell hX slL_cell _ rfl rfl rfl rfl (.head _) (get_l hL) ?_) | ((with_reducible refine at_load ?_); refine wpList_bag_cell hX slI_cell _ rfl rfl rfl rfl (.head _) (get_m hL) ?_) | ((with_reducible refine at_load ?_); refine wpList_bag_cell hX slI_cell _ rfl rfl rfl rfl (.head _) (get_b hL) ?_) | ((with_reducible refine at_load ?_); refine wpList_bag_part hX agg_unit size_unit _ rfl rfl rfl rfl (.head _) (get_u hL) (by first | rfl | exact Un.len hA.2.2) ?_) | ((with_reducible refine at_load ?_); refine wpList_bag_part hX aggK_13 sizK_13 _ rfl rfl rfl rfl (.head _) (get_k hL) (by first | rfl | exact Un.len hA.2.2) ?_) | ((with_reducible refine at_load ?_); refine wpList_bag_part hX aggK sizK _ rfl rfl rfl rfl (.head _) (get_d hL) (by first | rfl | exact Un.len hA.2.2) ?_) | ((with_reducible refine at_load ?_); refine wpList_bag_part hX aggT sizT _ rfl rfl rfl rfl (.head _) (get_t hL) (by first | rfl | exact Un.len hA.2.2) ?_) | (go_at_call 94; (with_reducible refine (hm _ hX.below).mono ?_); rintro e' wc ⟨rfl, hbb⟩; replace hX := hX.step hbb; clear hbb) | (go_at_call 95; (with_reducible refine (hu _).mono ?_); rintro e' wc ⟨rfl, hbb⟩; replace hX := hX.step hbb; clear hbb) | (go_at_call 96; (with_reducible refine (hk _).mono ?_); rintro e' wc ⟨rfl, hbb⟩; replace hX := hX.step hbb; clear hbb) | (go_at_call 97; (with_reducible refine (hd _ hX.below).mono ?_); rintro e' wc ⟨rfl, hbb⟩; replace hX := hX.step hbb; clear hbb) | (go_at_call 98; (with_reducible refine (ht _ hX.below).mono ?_); rintro e' wc ⟨rfl, hbb⟩; replace hX := hX.step hbb; clear hbb))
      go_ret
      exact ⟨rfl, hX.below⟩
end Go.Proofs.YtlegcfjafdihlaaGreatDoor
/-
  Loads and stores of boxes of a bag: short forms. General. No condition.
-/
namespace Go.Proofs.YtlegcfjafdihlaaGreatDoor
open Go.RowKit
set_option linter.unusedSimpArgs false
set_option linter.unusedVariables false
set_option maxHeartbeats 4000000
set_option maxRecDepth 100000
attribute [local irreducible] wpQuiet

section
variable {ops : Array Oper} {rest : List Oper} {o : Oper} {a : Act} {w w0 w1 : World} {Q : Exit → Act → World → Prop} {l : List (Nat × TypeId × List Value)} {b : Nat × TypeId × List Value} {B k n : Nat} {t T : TypeId} {cs ds : List Value} {v z : Value} {x y : Operand}
theorem ldc (hX : Bag l w0 w) (hagg : ∀ w, (isAgg T).run Tryz.prog w = .ok false w)
    (h : wpList Tryz.prog ops Q rest (a.put o.dst v) w) (hop : o.op = Op.load T x := by rfl) (hal : w1 = w := by rfl) (hx : a.eval x = .pointer (some ⟨B, k, none⟩) := by rfl) (hw : Region.wanted o (yielded ops a.tmps) = true := by rfl) (hm : (B, t, cs) ∈ l := by first | exact .head _ | exact .tail _ (.head _) | exact .tail _ (.tail _ (.head _))) (hk : cs[k]? = some v := by rfl) : wpList Tryz.prog ops Q (o :: rest) a w1 :=
  wpList_bag_cell hX hagg x hop hal hx hw hm hk h
theorem ldw (hX : Bag l w0 w) (hagg : ∀ w, (isAgg T).run Tryz.prog w = .ok true w) (hsz : ∀ w, (sizeOf T).run Tryz.prog w = .ok n w)
    (h : wpList Tryz.prog ops Q rest (a.put o.dst (.agg cs.toArray)) w) (hop : o.op = Op.load T x := by rfl) (hal : w1 = w := by rfl) (hx : a.eval x = .pointer (some ⟨B, 0, none⟩) := by rfl) (hw : Region.wanted o (yielded ops a.tmps) = true := by rfl) (hm : (B, t, cs) ∈ l := by first | exact .head _ | exact .tail _ (.head _) | exact .tail _ (.tail _ (.head _))) (hn : cs.length = n := by rfl) : wpList Tryz.prog ops Q (o :: rest) a w1 :=
  wpList_bag_part (k := 0) hX hagg hsz x hop hal hx hw hm (fun j v hz => by rw [Nat.zero_add]; exact hz) hn h
/-- A part at k. -/
theorem ldp (hX : Bag l w0 w) (hagg : ∀ w, (isAgg T).run Tryz.prog w = .ok true w) (hsz : ∀ w, (sizeOf T).run Tryz.prog w = .ok n w) (hc : ∀ j v, ds[j]? = some v → cs[k + j]? = some v) (hn : ds.length = n)
    (h : wpList Tryz.prog ops Q rest (a.put o.dst (.agg ds.toArray)) w) (hop : o.op = Op.load T x := by rfl) (hal : w1 = w := by rfl) (hx : a.eval x = .pointer (some ⟨B, k, none⟩) := by rfl) (hw : Region.wanted o (yielded ops a.tmps) = true := by rfl) (hm : (B, t, cs) ∈ l := by first | exact .head _ | exact .tail _ (.head _) | exact .tail _ (.tail _ (.head _))) : wpList Tryz.prog ops Q (o :: rest) a w1 :=
  wpList_bag_part hX hagg hsz x hop hal hx hw hm hc hn h
theorem stc (hX : Bag ((B, t, cs) :: l) w0 w) (hsz : ∀ w, (sizeOf T).run Tryz.prog w = .ok 1 w)
    (h : ∀ w2, Bag ((B, t, cs.set k z) :: l) w0 w2 → (∀ j, j ≠ B → w2.heap[j]? = w.heap[j]?) → wpList Tryz.prog ops Q rest a w2) (hop : o.op = Op.store T x y := by rfl) (hal : w1 = w := by rfl) (hx : a.eval x = .pointer (some ⟨B, k, none⟩) := by rfl) (hy : a.eval y = z := by rfl) (hdst : o.dst = none := by rfl) (hw : Region.wanted o (yielded ops a.tmps) = true := by rfl) (hk : k < cs.length := by simp) (hz : z.cells = #[z] := by rfl) (h1 : z.oneCell' = true := by rfl) : wpList Tryz.prog ops Q (o :: rest) a w1 :=
  wpList_bag_putV hX hsz x y hop hal hx hy hdst hw hk hz h1 fun w2 a b _ => h w2 a b
theorem stw2 (hX : Bag (b :: (B, t, cs) :: l) w0 w) (hagg : ∀ w, (isAgg T).run Tryz.prog w = .ok true w) (hsz : ∀ w, (sizeOf T).run Tryz.prog w = .ok n w) (h1 : ∀ v ∈ ds, v.oneCell' = true)
    (h : ∀ w2, Bag (b :: (B, t, ds) :: l) w0 w2 → (∀ j, j ≠ B → w2.heap[j]? = w.heap[j]?) → wpList Tryz.prog ops Q rest a w2) (hop : o.op = Op.store T x y := by rfl) (hal : w1 = w := by rfl) (hx : a.eval x = .pointer (some ⟨B, 0, none⟩) := by rfl) (hy : a.eval y = .agg ds.toArray := by rfl) (hdst : o.dst = none := by rfl) (hw : Region.wanted o (yielded ops a.tmps) = true := by rfl) (hn : ds.length = n := by rfl) (hc : cs.length = n := by rfl) : wpList Tryz.prog ops Q (o :: rest) a w1 :=
  wpList_bag_overV hX.swap hagg hsz x y hop hal hx hy hdst hw hn hc h1 fun w2 a b => h w2 a.swap b
end
end Go.Proofs.YtlegcfjafdihlaaGreatDoor
