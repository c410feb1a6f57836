/-
  Diff of the reference; SameDrive; good, small. Condition: at most 2^40 sectors and bad ones.
-/
import Derived.Test.YtjolhlfjpnlcnaaDvH
import Derived.Test.YtjolhlfjpnlcnaaDvD
namespace Go.Proofs.Ytjolhlfjpnlcnaa
open Go.RowKit
set_option linter.unusedSimpArgs false
set_option linter.unusedVariables false
set_option maxHeartbeats 4000000
set_option maxRecDepth 100000
attribute [local irreducible] wpQuiet

theorem str_eq {a b : ByteArray} (h : a = b) : (a.toList == b.toList) = true := by rw [h]; simp
theorem str_ne {a b : ByteArray} (h : ¬ a = b) : (a.toList == b.toList) = false := by
  rw [Lib.toList_data, Lib.toList_data]
  exact beq_eq_false_iff_ne.2 fun e => h (by
    cases a; cases b
    simp only [ByteArray.mk.injEq]
    exact Array.toList_inj.1 e)
/-- The sectors below k that differ. -/
def dk (a b : List ByteArray) (k : Nat) : List Int := ((List.range k).filter (fun k => decide (a[k]? ≠ b[k]?))).map Int.ofNat
theorem dk_zero (a b : List ByteArray) : dk a b 0 = [] := rfl
theorem dk_eq {a b : List ByteArray} {k : Nat} (h : a[k]? = b[k]?) : dk a b (k + 1) = dk a b k := by
  unfold dk; rw [List.range_succ, List.filter_append, List.map_append]; simp [h]
theorem dk_ne {a b : List ByteArray} {k : Nat} (h : a[k]? ≠ b[k]?) : dk a b (k + 1) = dk a b k ++ [(k : Int)] := by
  unfold dk; rw [List.range_succ, List.filter_append, List.map_append]; simp [h]
theorem dk_le (a b : List ByteArray) (k : Nat) : (dk a b k).length ≤ k := by
  unfold dk; rw [List.length_map]; exact Nat.le_trans (List.length_filter_le _ _) (by rw [List.length_range]; exact Nat.le_refl _)
theorem df_dk (a b : List ByteArray) : dfV a b = dk a b (max a.length b.length) := rfl
theorem dfV_self (a : List ByteArray) : dfV a a = [] := by unfold dfV; simp
theorem dk_map {l m : List Int} {k : Int} (h : m = l ++ [k]) : m.map (Value.int .i64) = l.map (Value.int .i64) ++ [.int .i64 k] := by rw [h, List.map_append]; rfl
theorem rdiff_any (D E : Drv) (hl : D.S.length ≤ 1099511627776) (hl2 : E.S.length ≤ 1099511627776) (vs vb vs2 vb2 : Value) (w : World) (X : Nat → Prop) (hXl : ∀ b, X b → b < w.heap.size) (hs : Sts w vs D.S) (hs2 : Sts w vs2 E.S) : Calls Try.prog 54 #[.agg #[vs, vb], .agg #[vs2, vb2]] w fun e w' => ∃ v, e = .returned v ∧ ItsX X w' v (dfV D.S E.S) ∧ Below w.heap.size w w' := by
  obtain ⟨A, c, rfl, _, hc⟩ := hs.form
  obtain ⟨A2, c2, rfl, _, hc2⟩ := hs2.form
  have hX := two_dv w [.slice A D.S.length c, vb] [.slice A2 E.S.length c2, vb2]
  clear hs hs2
  rw [df_dk]
  go_enter Try.func54, Try.ntmps54
  go_wp2
  go_loopw [5, 6] (fun v iv wr => ∃ (k : Nat) (v' : Value), k ≤ max D.S.length E.S.length ∧ v' = v ∧ iv = .int .i64 k ∧ wr.ownsRow (w.heap.size + 2) 3 1 v' (dk D.S E.S k).length ((dk D.S E.S k).map (Value.int .i64)) ∧ Bag [(w.heap.size + 1, 25, [.slice A2 E.S.length c2, vb2]), (w.heap.size, 25, [.slice A D.S.length c, vb])] w wr) (fun _ iv _ => match iv with | .int _ q => max D.S.length E.S.length - q.toNat | _ => 0)
  case atStart => exact ⟨0, _, Nat.zero_le _, rfl, rfl, World.ownsRow_nil _ _ _ _, hX⟩
  case round =>
    clear hX
    obtain ⟨k, v, hk, rfl, rfl, hown, hX⟩ := hrel
    by_cases hka : k < D.S.length
    · have ai : (k : Int) < (D.S.length : Int) := by omega
      have ad : decide ((k : Int) < (D.S.length : Int)) = true := decide_eq_true ai
      have an : decide (k < D.S.length) = true := decide_eq_true (by omega)
      have ag : decide ((D.S.length : Int) ≤ (k : Int)) = false := decide_eq_false (by omega)
      have ah : decide (D.S.length ≤ k) = false := decide_eq_false (by omega)
      have hx := List.getElem?_eq_getElem hka
      generalize D.S[k] = x at *
      obtain ⟨a, rfl, hL⟩ := hc k x hx
      by_cases hkb : k < E.S.length
      · have bi : (k : Int) < (E.S.length : Int) := by omega
        have bd : decide ((k : Int) < (E.S.length : Int)) = true := decide_eq_true bi
        have bn : decide (k < E.S.length) = true := decide_eq_true (by omega)
        have bg : decide ((E.S.length : Int) ≤ (k : Int)) = false := decide_eq_false (by omega)
        have bh : decide (E.S.length ≤ k) = false := decide_eq_false (by omega)
        have hy := List.getElem?_eq_getElem hkb
        generalize E.S[k] = y at *
        obtain ⟨a2, rfl, hL2⟩ := hc2 k y hy
        by_cases hxy : x = y
        · have hdk : D.S[k]? = E.S[k]? := by rw [hx, hy, hxy]
          have hne : (x.toList == y.toList) = true := str_eq hxy
          have hne2 : (!(x.toList == y.toList)) = false := by rw [hne]; rfl
          have hk1 := hid (dk_eq hdk)
          clear hdk hx hy hc hc2
          go_wp2_with (first | ((with_reducible refine at_load ?_); refine wpList_bag_cell hX slS_cell _ rfl rfl rfl rfl (by first | exact .head _ | exact .tail _ (.head _)) rfl ?_) | ((with_reducible refine at_load ?_); refine wpList_bag_cell hX slI_cell _ rfl rfl rfl rfl (by first | exact .head _ | exact .tail _ (.head _)) rfl ?_))
          refine region_class (fun w' => Bag [(w.heap.size + 1, 25, [.slice (some a2) E.S.length c2, vb2]), (w.heap.size, 25, [.slice (some a) D.S.length c, vb])] w w' ∧ w'.ownsRow (w.heap.size + 2) 3 1 v (dk D.S E.S k).length ((dk D.S E.S k).map (Value.int .i64))) (by kernel_rfl) (by kernel_rfl) ⟨hX.drew, World.ownsRow.drew hown⟩ ?_
          repeat
            first
              | (refine BigFrame.wpQuiet_skip (by rfl) ?_
                 simp only [Act.put, List.setIfInBounds_toArray, List.set_cons_zero, List.set_cons_succ])
              | (refine BigFrame.wpQuiet_want (by rfl) (fun K hK => ?_)
                 apply Exists.intro
                 refine ⟨fun wq hq => ?_, hK _ ?_⟩
                 · first
                     | (refine quiet_load 22 _ _ _ rfl rfl ((hq.1.all _ _ _ (.head _)).loadCell rfl slS_cell))
                     | (refine quiet_load 22 _ _ _ rfl rfl ((hq.1.all _ _ _ (.tail _ (.head _))).loadCell rfl slS_cell))
                     | (refine quiet_load 9 _ _ _ rfl rfl (hL _ hq.1.below))
                     | (refine quiet_load 9 _ _ _ rfl rfl (hL2 _ hq.1.below))
                     | (unfold Oper.quietAt
                        go_simp
                        first
                          | with_reducible rfl
                       )
                 clear hK K
                 simp only [Act.put, List.setIfInBounds_toArray, List.set_cons_zero, List.set_cons_succ])
          refine wpQuiet_nil ?_
          intro w4 ⟨hX, hown⟩
          go_wp2
          exact ⟨⟨k + 1, v, by omega, rfl, by go_num, by rw [show dk D.S E.S (k + 1) = _ from hk1]; exact hown, hX⟩, by simp only; omega⟩
        · have hdk : D.S[k]? ≠ E.S[k]? := by rw [hx, hy]; intro h; exact hxy (Option.some.inj h)
          have hne : (x.toList == y.toList) = false := str_ne hxy
          have hne2 : (!(x.toList == y.toList)) = true := by rw [hne]; rfl
          have hk1 := hid (dk_ne hdk)
          clear hdk hx hy hxy hc hc2
          go_wp2_with (first | ((with_reducible refine at_load ?_); refine wpList_bag_cell hX slS_cell _ rfl rfl rfl rfl (by first | exact .head _ | exact .tail _ (.head _)) rfl ?_) | ((with_reducible refine at_load ?_); refine wpList_bag_cell hX slI_cell _ rfl rfl rfl rfl (by first | exact .head _ | exact .tail _ (.head _)) rfl ?_))
          refine region_class (fun w' => Bag [(w.heap.size + 1, 25, [.slice (some a2) E.S.length c2, vb2]), (w.heap.size, 25, [.slice (some a) D.S.length c, vb])] w w' ∧ w'.ownsRow (w.heap.size + 2) 3 1 v (dk D.S E.S k).length ((dk D.S E.S k).map (Value.int .i64))) (by kernel_rfl) (by kernel_rfl) ⟨hX.drew, World.ownsRow.drew hown⟩ ?_
          repeat
            first
              | (refine BigFrame.wpQuiet_skip (by rfl) ?_
                 simp only [Act.put, List.setIfInBounds_toArray, List.set_cons_zero, List.set_cons_succ])
              | (refine BigFrame.wpQuiet_want (by rfl) (fun K hK => ?_)
                 apply Exists.intro
                 refine ⟨fun wq hq => ?_, hK _ ?_⟩
                 · first
                     | (refine quiet_load 22 _ _ _ rfl rfl ((hq.1.all _ _ _ (.head _)).loadCell rfl slS_cell))
                     | (refine quiet_load 22 _ _ _ rfl rfl ((hq.1.all _ _ _ (.tail _ (.head _))).loadCell rfl slS_cell))
                     | (refine quiet_load 9 _ _ _ rfl rfl (hL _ hq.1.below))
                     | (refine quiet_load 9 _ _ _ rfl rfl (hL2 _ hq.1.below))
                     | (unfold Oper.quietAt
                        go_simp
                        first
                          | with_reducible rfl
                       )
                 clear hK K
                 simp only [Act.put, List.setIfInBounds_toArray, List.set_cons_zero, List.set_cons_succ])
          refine wpQuiet_nil ?_
          intro w4 ⟨hX, hown⟩
          have hsz0 : w.heap.size + 1 < w4.heap.size := (hX.all _ _ _ (.head _)).lt
          go_wp2_with (first | (at_builtin; refine wpList_appI rfl (.tmp 46) (.tmp 48) rfl (w.heap.size + 2) _ _ _ rfl (World.ownsRow.alloc hown _) ⟨w4.heap.size, 0, none⟩ 1 1 [.int .i64 k] rfl rfl cell_one (fun x hx => by simp at hx; subst hx; rfl) (by have := dk_le D.S E.S k; omega) (by simp <;> omega) ?_; intro v2 w2 ho2 hb2 _; replace hX := (Bag.step hX ((Below.refl _ _).alloc (Nat.le_refl _) (.cells #[.int .i64 k] 3))).stepN hb2 (fun b hb => by simp at hb; rcases hb with rfl | rfl <;> simp) (by omega); clear hb2))
          exact ⟨⟨k + 1, v2, by omega, rfl, by go_num, by rw [show dk D.S E.S (k + 1) = _ from hk1, List.length_append, List.map_append]; exact ho2, hX⟩, by simp only; omega⟩
      · have bi : ¬ (k : Int) < (E.S.length : Int) := by omega
        have bd : decide ((k : Int) < (E.S.length : Int)) = false := decide_eq_false bi
        have bn : decide (k < E.S.length) = false := decide_eq_false (by omega)
        have bg : decide ((E.S.length : Int) ≤ (k : Int)) = true := decide_eq_true (by omega)
        have bh : decide (E.S.length ≤ k) = true := decide_eq_true (by omega)
        have hdk : D.S[k]? ≠ E.S[k]? := by rw [hx, List.getElem?_eq_none (by omega)]; intro h; cases h
        have hk1 := hid (dk_ne hdk)
        clear hdk hx hc hc2
        go_wp2_with (first | ((with_reducible refine at_load ?_); refine wpList_bag_cell hX slS_cell _ rfl rfl rfl rfl (by first | exact .head _ | exact .tail _ (.head _)) rfl ?_) | ((with_reducible refine at_load ?_); refine wpList_bag_cell hX slI_cell _ rfl rfl rfl rfl (by first | exact .head _ | exact .tail _ (.head _)) rfl ?_))
        refine region_class (fun w' => Bag [(w.heap.size + 1, 25, [.slice A2 E.S.length c2, vb2]), (w.heap.size, 25, [.slice (some a) D.S.length c, vb])] w w' ∧ w'.ownsRow (w.heap.size + 2) 3 1 v (dk D.S E.S k).length ((dk D.S E.S k).map (Value.int .i64))) (by kernel_rfl) (by kernel_rfl) ⟨hX.drew, World.ownsRow.drew hown⟩ ?_
        repeat
          first
            | (refine BigFrame.wpQuiet_skip (by rfl) ?_
               simp only [Act.put, List.setIfInBounds_toArray, List.set_cons_zero, List.set_cons_succ])
            | (refine BigFrame.wpQuiet_want (by rfl) (fun K hK => ?_)
               apply Exists.intro
               refine ⟨fun wq hq => ?_, hK _ ?_⟩
               · first
                   | (refine quiet_load 22 _ _ _ rfl rfl ((hq.1.all _ _ _ (.head _)).loadCell rfl slS_cell))
                   | (refine quiet_load 22 _ _ _ rfl rfl ((hq.1.all _ _ _ (.tail _ (.head _))).loadCell rfl slS_cell))
                   | (refine quiet_load 9 _ _ _ rfl rfl (hL _ hq.1.below))
                   | (unfold Oper.quietAt
                      go_simp
                      first
                        | with_reducible rfl
                     )
               clear hK K
               simp only [Act.put, List.setIfInBounds_toArray, List.set_cons_zero, List.set_cons_succ])
        refine wpQuiet_nil ?_
        intro w4 ⟨hX, hown⟩
        have hsz0 : w.heap.size + 1 < w4.heap.size := (hX.all _ _ _ (.head _)).lt
        go_wp2_with (first | (at_builtin; refine wpList_appI rfl (.tmp 46) (.tmp 48) rfl (w.heap.size + 2) _ _ _ rfl (World.ownsRow.alloc hown _) ⟨w4.heap.size, 0, none⟩ 1 1 [.int .i64 k] rfl rfl cell_one (fun x hx => by simp at hx; subst hx; rfl) (by have := dk_le D.S E.S k; omega) (by simp <;> omega) ?_; intro v2 w2 ho2 hb2 _; replace hX := (Bag.step hX ((Below.refl _ _).alloc (Nat.le_refl _) (.cells #[.int .i64 k] 3))).stepN hb2 (fun b hb => by simp at hb; rcases hb with rfl | rfl <;> simp) (by omega); clear hb2))
        exact ⟨⟨k + 1, v2, by omega, rfl, by go_num, by rw [show dk D.S E.S (k + 1) = _ from hk1, List.length_append, List.map_append]; exact ho2, hX⟩, by simp only; omega⟩
    · have ai : ¬ (k : Int) < (D.S.length : Int) := by omega
      have ad : decide ((k : Int) < (D.S.length : Int)) = false := decide_eq_false ai
      have an : decide (k < D.S.length) = false := decide_eq_false (by omega)
      have ag : decide ((D.S.length : Int) ≤ (k : Int)) = true := decide_eq_true (by omega)
      have ah : decide (D.S.length ≤ k) = true := decide_eq_true (by omega)
      by_cases hkb : k < E.S.length
      · have bi : (k : Int) < (E.S.length : Int) := by omega
        have bd : decide ((k : Int) < (E.S.length : Int)) = true := decide_eq_true bi
        have bn : decide (k < E.S.length) = true := decide_eq_true (by omega)
        have bg : decide ((E.S.length : Int) ≤ (k : Int)) = false := decide_eq_false (by omega)
        have bh : decide (E.S.length ≤ k) = false := decide_eq_false (by omega)
        have hdk : D.S[k]? ≠ E.S[k]? := by rw [List.getElem?_eq_getElem hkb, List.getElem?_eq_none (by omega)]; intro h; cases h
        have hk1 := hid (dk_ne hdk)
        clear hdk  hc hc2
        go_wp2_with (first | ((with_reducible refine at_load ?_); refine wpList_bag_cell hX slS_cell _ rfl rfl rfl rfl (by first | exact .head _ | exact .tail _ (.head _)) rfl ?_) | ((with_reducible refine at_load ?_); refine wpList_bag_cell hX slI_cell _ rfl rfl rfl rfl (by first | exact .head _ | exact .tail _ (.head _)) rfl ?_))
        refine region_class (fun w' => Bag [(w.heap.size + 1, 25, [.slice A2 E.S.length c2, vb2]), (w.heap.size, 25, [.slice A D.S.length c, vb])] w w' ∧ w'.ownsRow (w.heap.size + 2) 3 1 v (dk D.S E.S k).length ((dk D.S E.S k).map (Value.int .i64))) (by kernel_rfl) (by kernel_rfl) ⟨hX.drew, World.ownsRow.drew hown⟩ ?_
        repeat
          first
            | (refine BigFrame.wpQuiet_skip (by rfl) ?_
               simp only [Act.put, List.setIfInBounds_toArray, List.set_cons_zero, List.set_cons_succ])
            | (refine BigFrame.wpQuiet_want (by rfl) (fun K hK => ?_)
               apply Exists.intro
               refine ⟨fun wq hq => ?_, hK _ ?_⟩
               · first
                   | (refine quiet_load 22 _ _ _ rfl rfl ((hq.1.all _ _ _ (.head _)).loadCell rfl slS_cell))
                   | (refine quiet_load 22 _ _ _ rfl rfl ((hq.1.all _ _ _ (.tail _ (.head _))).loadCell rfl slS_cell))
                   | (unfold Oper.quietAt
                      go_simp
                      first
                        | with_reducible rfl
                     )
               clear hK K
               simp only [Act.put, List.setIfInBounds_toArray, List.set_cons_zero, List.set_cons_succ])
        refine wpQuiet_nil ?_
        intro w4 ⟨hX, hown⟩
        have hsz0 : w.heap.size + 1 < w4.heap.size := (hX.all _ _ _ (.head _)).lt
        go_wp2_with (first | (at_builtin; refine wpList_appI rfl (.tmp 46) (.tmp 48) rfl (w.heap.size + 2) _ _ _ rfl (World.ownsRow.alloc hown _) ⟨w4.heap.size, 0, none⟩ 1 1 [.int .i64 k] rfl rfl cell_one (fun x hx => by simp at hx; subst hx; rfl) (by have := dk_le D.S E.S k; omega) (by simp <;> omega) ?_; intro v2 w2 ho2 hb2 _; replace hX := (Bag.step hX ((Below.refl _ _).alloc (Nat.le_refl _) (.cells #[.int .i64 k] 3))).stepN hb2 (fun b hb => by simp at hb; rcases hb with rfl | rfl <;> simp) (by omega); clear hb2))
        exact ⟨⟨k + 1, v2, by omega, rfl, by go_num, by rw [show dk D.S E.S (k + 1) = _ from hk1, List.length_append, List.map_append]; exact ho2, hX⟩, by simp only; omega⟩
      · have bi : ¬ (k : Int) < (E.S.length : Int) := by omega
        have bd : decide ((k : Int) < (E.S.length : Int)) = false := decide_eq_false bi
        have bn : decide (k < E.S.length) = false := decide_eq_false (by omega)
        have bg : decide ((E.S.length : Int) ≤ (k : Int)) = true := decide_eq_true (by omega)
        have bh : decide (E.S.length ≤ k) = true := decide_eq_true (by omega)
        obtain rfl : k = max D.S.length E.S.length := by omega
        clear hc hc2
        go_wp2_with (first | ((with_reducible refine at_load ?_); refine wpList_bag_cell hX slS_cell _ rfl rfl rfl rfl (by first | exact .head _ | exact .tail _ (.head _)) rfl ?_) | ((with_reducible refine at_load ?_); refine wpList_bag_cell hX slI_cell _ rfl rfl rfl rfl (by first | exact .head _ | exact .tail _ (.head _)) rfl ?_))
        go_ret
        exact ⟨_, rfl, itsX_of (fun b hb => by have := hXl b hb; omega) (hid rfl) (hid rfl) hown, hX.below⟩
theorem rsame_any (D : Drv) (hl : D.B.length ≤ 1099511627776) (hl2 : D.S.length ≤ 1099511627776) (x y : Value) (w : World) (hx : Dv w x D) (hy : Dv w y D) : Calls Try.prog 36 #[x, y] w fun e w' => e = .returned (.bool true) ∧ Below w.heap.size w w' := by
  obtain ⟨vs, vb, rfl, hs, hb⟩ := hx
  obtain ⟨vs2, vb2, rfl, hs2, hb2⟩ := hy
  obtain ⟨A, c, rfl, _, _⟩ := hs.form
  obtain ⟨A2, c2, rfl, _, hc⟩ := hb.form
  obtain ⟨A3, c3, rfl, _, _⟩ := hs2.form
  obtain ⟨A4, c4, rfl, _, hc2⟩ := hb2.form
  have hdf := fun w' (h : Below w.heap.size w w') => rdiff_any D D hl2 hl2 (.slice A D.S.length c) (.slice A2 D.B.length c2) (.slice A3 D.S.length c3) (.slice A4 D.B.length c4) w' (fun _ => False) (fun _ h => h.elim) (hs.below h) (hs2.below h)
  have hX := two_dv w [.slice A D.S.length c, .slice A2 D.B.length c2] [.slice A3 D.S.length c3, .slice A4 D.B.length c4]
  clear hs hs2 hb hb2
  go_enter Try.func36, Try.ntmps36
  go_wp2_with (first | ((with_reducible refine at_load ?_); refine wpList_bag_cell hX slS_cell _ rfl rfl rfl rfl (by first | exact .head _ | exact .tail _ (.head _)) rfl ?_) | ((with_reducible refine at_load ?_); refine wpList_bag_cell hX slI_cell _ rfl rfl rfl rfl (by first | exact .head _ | exact .tail _ (.head _)) rfl ?_))
  go_loopw [5] (fun iv wr => ∃ k : Nat, k ≤ D.B.length ∧ iv = .int .i64 k ∧ Bag [(w.heap.size + 1, 25, [.slice A3 D.S.length c3, .slice A4 D.B.length c4]), (w.heap.size, 25, [.slice A D.S.length c, .slice A2 D.B.length c2])] w wr) (fun iv _ => match iv with | .int _ q => D.B.length - q.toNat | _ => 0)
  case atStart => exact ⟨0, Nat.zero_le _, rfl, hX⟩
  case round =>
    clear hX
    obtain ⟨k, hk, rfl, hX⟩ := hrel
    by_cases hkb : k < D.B.length
    · have hki : (k : Int) < (D.B.length : Int) := by omega
      have hz := List.getElem?_eq_getElem hkb
      generalize D.B[k] = z at *
      obtain ⟨a, rfl, hL⟩ := hc k z hz
      obtain ⟨a2, rfl, hL2⟩ := hc2 k z hz
      clear hz hc hc2 hdf
      go_wp2_with (first | ((with_reducible refine at_load ?_); refine wpList_bag_cell hX slS_cell _ rfl rfl rfl rfl (by first | exact .head _ | exact .tail _ (.head _)) rfl ?_) | ((with_reducible refine at_load ?_); refine wpList_bag_cell hX slI_cell _ rfl rfl rfl rfl (by first | exact .head _ | exact .tail _ (.head _)) rfl ?_))
      refine region_class (fun w' => Bag [(w.heap.size + 1, 25, [.slice A3 D.S.length c3, .slice (some a2) D.B.length c4]), (w.heap.size, 25, [.slice A D.S.length c, .slice (some a) D.B.length c2])] w w') (by kernel_rfl) (by kernel_rfl) hX.drew ?_
      repeat
        first
          | (refine BigFrame.wpQuiet_skip (by rfl) ?_
             simp only [Act.put, List.setIfInBounds_toArray, List.set_cons_zero, List.set_cons_succ])
          | (refine BigFrame.wpQuiet_want (by rfl) (fun K hK => ?_)
             apply Exists.intro
             refine ⟨fun wq hq => ?_, hK _ ?_⟩
             · first
                 | (refine quiet_load 23 _ _ _ rfl rfl ((hq.all _ _ _ (.head _)).loadCell rfl slI_cell))
                 | (refine quiet_load 23 _ _ _ rfl rfl ((hq.all _ _ _ (.tail _ (.head _))).loadCell rfl slI_cell))
                 | (refine quiet_load 3 _ _ _ rfl rfl (hL _ hq.below))
                 | (refine quiet_load 3 _ _ _ rfl rfl (hL2 _ hq.below))
                 | (unfold Oper.quietAt
                    go_simp
                    first
                      | with_reducible rfl
                   )
             clear hK K
             simp only [Act.put, List.setIfInBounds_toArray, List.set_cons_zero, List.set_cons_succ])
      refine wpQuiet_nil ?_
      intro w4 hX
      go_wp2
      exact ⟨⟨k + 1, by omega, by go_num, hX⟩, by simp only; omega⟩
    · have hki : ¬ (k : Int) < (D.B.length : Int) := by omega
      clear hc hc2
      go_wp2_with (first | ((with_reducible refine at_load ?_); refine wpList_bag_cell hX slS_cell _ rfl rfl rfl rfl (by first | exact .head _ | exact .tail _ (.head _)) rfl ?_) | ((with_reducible refine at_load ?_); refine wpList_bag_cell hX slI_cell _ rfl rfl rfl rfl (by first | exact .head _ | exact .tail _ (.head _)) rfl ?_) | ((with_reducible refine at_load ?_); refine wpList_bag_part (k := 0) hX aggD sizD _ rfl rfl rfl rfl (by first | exact .head _ | exact .tail _ (.head _)) (fun jz vz hz => (congrArg (fun n => ([_, _] : List Value)[n]?) (Nat.zero_add jz)).trans hz) rfl ?_) | (go_at_call 54; (with_reducible refine (hdf _ hX.below).mono ?_); rintro e wd ⟨vd, rfl, hvd, hbb⟩; replace hvd := hvd.now; rw [dfV_self] at hvd; obtain ⟨Ad, cd, rfl, _, _⟩ := hvd.form; replace hX := hX.step hbb; clear hbb hvd))
      go_ret
      exact ⟨rfl, hX.below⟩
/-- Are there few, short ones? -/
def smallV (l : List (Int × ByteArray)) : Bool := decide (l.length ≤ 60) && l.all (fun q => decide (q.2.size ≤ 200))
end Go.Proofs.Ytjolhlfjpnlcnaa
