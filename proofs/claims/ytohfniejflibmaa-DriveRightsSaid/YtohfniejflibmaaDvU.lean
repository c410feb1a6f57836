/-
  slices.Sort of a row of the call's own; Spoil of the program. Condition: the drive is valid.
-/
import Derived.Test.YtohfniejflibmaaDvT
import Derived.Test.YtohfniejflibmaaDvL
namespace Go.Proofs.Ytohfniejflibmaa
open Go.RowKit
set_option linter.unusedSimpArgs false
set_option linter.unusedVariables false
set_option maxHeartbeats 4000000
set_option maxRecDepth 100000
attribute [local irreducible] wpQuiet

theorem own_lt {w : World} {base n s : Nat} {t : TypeId} {v : Value} {xs : List Value} (h : w.ownsRow base t s v n xs) (h0 : 0 < n) : base ≤ w.heap.size := by
  obtain ⟨g, cap, _, _, _, h1, h2, _⟩ := own_at h h0
  omega
theorem own_ofne {w w' : World} {base n s : Nat} {t : TypeId} {v : Value} {xs : List Value} (h : w.ownsRow base t s v n xs) (hk : ∀ (g : Nat) (cur : Array Value), w.heap[g]? = some (Obj.cells cur t (0, 0)) → w'.heap[g]? = w.heap[g]?) : w'.ownsRow base t s v n xs := by
  refine ⟨h.1, ?_⟩
  rcases h.2 with h0 | ⟨g, cap, cur, hv, hg, hh, r⟩
  · exact .inl h0
  · exact .inr ⟨g, cap, cur, hv, hg, (hk g cur hh).trans hh, r⟩
theorem grown_ne {w w' : World} {base n s : Nat} {e t : TypeId} {u : Value} {ys : List Value} (ho : w.ownsRow base e s u n ys) (ht : t ≠ e) (hg : w.grownBy w' u.ownBlock) {g : Nat} {cur : Array Value} (h : w.heap[g]? = some (.cells cur t (0, 0))) : w'.heap[g]? = w.heap[g]? := by
  refine hg.block g (Array.getElem?_eq_some_iff.1 h).1 (fun e1 => ?_)
  rcases ho.2 with ⟨h0, _⟩ | ⟨g2, cap, cur2, hv, _, hh, r⟩
  · rw [h0] at e1; cases e1
  · rw [hv] at e1
    cases e1
    rw [h] at hh
    cases hh
    exact ht rfl
theorem own_grown {w w' : World} {base b2 n m s s2 : Nat} {e t : TypeId} {v u : Value} {xs ys : List Value} (h : w.ownsRow base t s v n xs) (ho : w.ownsRow b2 e s2 u m ys) (ht : t ≠ e) (hg : w.grownBy w' u.ownBlock) : w'.ownsRow base t s v n xs :=
  own_ofne h (fun g cur hh => grown_ne ho ht hg hh)
theorem bag_grown {l : List (Nat × TypeId × List Value)} {w0 w w' : World} {base m s : Nat} {e : TypeId} {u : Value} {ys : List Value} (hX : Bag l w0 w) (ho : w.ownsRow base e s u m ys) (ht : ∀ q ∈ l, q.2.1 ≠ e) (hg : w.grownBy w' u.ownBlock) (hN : base ≤ w.heap.size) (hw : w0.heap.size ≤ base) : Bag l w0 w' :=
  hX.same (fun q hq => grown_ne ho (ht q hq) hg (hX.all q.1 q.2.1 q.2.2 hq)) (hX.below.trans (((Below.refl base w).grown hg hN (fun j hj => (World.ownsRow.lt ho j hj).1)).mono hw))
theorem own_over {l : List (Nat × TypeId × List Value)} {w0 w w' : World} {B base n s : Nat} {e t : TypeId} {v : Value} {xs cs : List Value} (hX : Bag ((B, t, cs) :: l) w0 w) (h : w.ownsRow base e s v n xs) (ht : t ≠ e) (hk : ∀ k, k ≠ B → w'.heap[k]? = w.heap[k]?) : w'.ownsRow base e s v n xs :=
  own_ofne h (fun g cur hh => hk g (fun e1 => by
    have h1 := hX.all _ _ _ (.head _)
    unfold Blk at h1
    rw [← e1, hh] at h1
    cases h1
    exact ht rfl))
/-! ### the sort -/
theorem insB_perm (k : Int) : ∀ B : List Int, (insB k B).Perm (k :: B)
  | [] => List.Perm.refl _
  | b :: r => by
    unfold insB
    split
    · exact ((insB_perm k r).cons b).trans (List.Perm.swap k b r)
    · exact List.Perm.refl _
theorem insB_asc (k : Int) : ∀ B : List Int, B.Pairwise (· ≤ ·) → (insB k B).Pairwise (· ≤ ·)
  | [], _ => List.pairwise_singleton _ _
  | b :: r, h => by
    have h1 := List.pairwise_cons.1 h
    unfold insB
    split
    · rename_i hlt
      refine List.pairwise_cons.2 ⟨fun x hx => ?_, insB_asc k r h1.2⟩
      rcases List.mem_cons.1 ((insB_perm k r).mem_iff.1 hx) with rfl | hx
      · omega
      · exact h1.1 x hx
    · rename_i hge
      refine List.pairwise_cons.2 ⟨fun x hx => ?_, h⟩
      rcases List.mem_cons.1 hx with rfl | hx
      · omega
      · have := h1.1 x hx; omega
theorem sort_ins (k : Int) (B : List Int) (h : B.Pairwise (· < ·)) : (B ++ [k]).mergeSort (fun x y => decide (x ≤ y)) = insB k B := by
  refine List.Perm.eq_of_pairwise (le := fun x y : Int => x ≤ y) (fun a b _ _ h1 h2 => by omega) ?_ (insB_asc k B (h.imp (fun h => by omega))) ?_
  · exact (List.pairwise_mergeSort (le := fun x y : Int => decide (x ≤ y)) (fun a b c h1 h2 => by simp at *; omega) (fun a b => by simp; omega) (B ++ [k])).imp (fun h => of_decide_eq_true h)
  · exact (List.mergeSort_perm _ _).trans ((List.perm_append_singleton k B).trans (insB_perm k B).symm)
theorem psort_own (L : List Int) (n N c : Nat) (A : Option Addr) (w : World) (hown : w.ownsRow N 3 1 (.slice A n c) n (L.map (Value.int .i64))) (hn : n = L.length) (h0 : 0 < n) (hm : n ≤ 1099511627776) :
    Calls Try.prog 38 #[.slice A n c] w fun e w' => e = .returned (.tuple #[]) ∧ w'.ownsRow N 3 1 (.slice A n c) n ((L.mergeSort fun x y => decide (x ≤ y)).map (Value.int .i64)) ∧ w.grownBy w' (Value.slice A n c).ownBlock := by
  subst hn
  rcases hown.2 with ⟨_, h1⟩ | ⟨g, cap, cur, hv, hg, hh, hnc, hm', hcs, htk⟩
  · omega
  · cases hv
    rw [Nat.mul_one] at htk
    have hH := holds_of_block_i (ss := L) hh htk
    refine (Try.slices_Sort_int g 0 c L w hH (Array.getElem?_eq_some_iff.1 hh).1 (by omega)).mono ?_
    rintro e w' ⟨rfl, n', os, rfl⟩
    exact ⟨rfl, ownsRow_sorted_i (ts := L.mergeSort fun x y => decide (x ≤ y)) (List.length_mergeSort _) hg hh hnc hm' hcs, grownBy_sorted_i _⟩
section
variable {ops : Array Oper} {rest : List Oper} {o : Oper} {a : Act} {w : World} {Q : Exit → Act → World → Prop}
theorem wpList_appIK (hgd : o.guard = none) (s x : Operand) (ho : o.op = .call { callee := .builtin .append, args := #[s, x], argTypes := #[23, 23] }) (N : Nat) (v : Value) (n : Nat) (xs : List Value) (hs : a.eval s = v) (hown : w.ownsRow N 3 1 v n xs)
    (ad : Addr) (m c : Nat) (news : List Value) (hx : a.eval x = .slice (some ad) m c) (hl : news.length = m) (hnews : ∀ j u, news[j]? = some u → w.cell? (ad.add j) = some u) (h1 : ∀ u ∈ news, u.oneCell' = true)
    (hb : n + m ≤ 2199023255554) (hN : N ≤ w.heap.size)
    (h : ∀ v' w', w'.ownsRow N 3 1 v' (n + m) (xs ++ news) → w.grownBy w' v.ownBlock → wpList Try.prog ops Q rest (a.put o.dst v') w') : wpList Try.prog ops Q (o :: rest) a w := by
  obtain ⟨i, hi, hz, hsz, hby⟩ := infI_parts
  refine wpList_append_own _ hgd s x 23 ho N 3 i (.int .i64 0) 1 8 Try.underlying23 hi hz hsz hby rfl (by decide) v n xs hs hown ad m c news hx (by omega) hnews h1 (by unfold maxLen; omega) (by omega) hN ?_
  intro v' w' ho' hg hnil
  exact h v' w' ho' hg
end
theorem sp_no {D : Drv} {k : Int} (h : hasV D.S.length k = false) : D.sp k = (Drv.z, 2) := by
  unfold Drv.sp; rw [if_neg]; intro h'; rw [(hasV_iff _ _).2 h'] at h; cases h
theorem sp_bad {D : Drv} {k : Int} (h : hasV D.S.length k = true) (h3 : D.B.contains k = true) : D.sp k = (D, 0) := by
  unfold Drv.sp; rw [if_pos ((hasV_iff _ _).1 h), if_pos h3]
theorem sp_ok {D : Drv} {k : Int} (h : hasV D.S.length k = true) (h3 : D.B.contains k = false) : D.sp k = (⟨D.S, insB k D.B⟩, 0) := by
  unfold Drv.sp; rw [if_pos ((hasV_iff _ _).1 h), if_neg (by rw [h3]; decide)]
theorem pspoil_any (D : Drv) (k : Int) (hr : D.right = true) (vs vb : Value) (X : Nat → Prop) (w : World) (hXl : ∀ b, X b → b < w.heap.size) (hs : Sts w vs D.S) (hb : Its w vb D.B) : Calls Try.prog 22 #[.agg #[vs, vb], .int .i64 k] w fun e w' => ∃ x, e = .returned (.tuple #[x, .int .i64 (D.sp k).2]) ∧ DvX X w' x (D.sp k).1 ∧ Below w.heap.size w w' := by
  have hlB : D.B.length ≤ 1099511627775 := by have := right_len hr; omega
  have hl : D.B.length ≤ 1099511627776 := by omega
  have hl3 : D.B.length < 1099511627776 := by omega
  have hBr := right_bad hr
  have hsort := hid (sort_ins k D.B (right_asc hr))
  have hl2 : D.S.length ≤ 1099511627776 := by have := ((right_iff D).1 hr).2.1; omega
  have hlS : D.S.length ≤ 256 := ((right_iff D).1 hr).2.1
  have hsW : ∀ w', Below w.heap.size w w' → Sts w' vs D.S := fun w' h => hs.below h
  have hbW : ∀ w', Below w.heap.size w w' → Its w' vb D.B := fun w' h => hb.below h
  have o1 := sts_one hs
  have o2 := its_one hb
  have hX := two_dv w [vs, vb] [.slice none 0 0, .slice none 0 0]
  have hmap := hid (show (D.B ++ [k]).map (Value.int .i64) = D.B.map (Value.int .i64) ++ [.int .i64 k] by rw [List.map_append]; rfl)
  have hil := hid (show (insB k D.B).length = D.B.length + 1 from (insB_perm k D.B).length_eq)
  have hha : ∀ w0 : World, Calls Try.prog 33 #[.agg #[vs, vb], .int .i64 k] w0 fun e w' => e = .returned (.bool (hasV D.S.length k)) ∧ Below w0.heap.size w0 w' := fun w0 => by
    obtain ⟨A, c, rfl, _, _⟩ := hs.form
    exact phas_any A D.S.length c vb k w0
  clear hs hb hr
  cases hv : hasV D.S.length k
  · rw [sp_no hv]
    rw [hv] at hha
    clear hv
    go_enter Try.func22, Try.ntmps22
    go_wp2_with (first | ((with_reducible refine at_load ?_); refine wpList_bag_part (k := 0) hX aggD sizD _ rfl rfl rfl rfl (by first | exact .head _ | exact .tail _ (.head _) | exact .tail _ (.tail _ (.head _))) (fun jz vz hz => (congrArg (fun n => ([_, _] : List Value)[n]?) (Nat.zero_add jz)).trans hz) rfl ?_) | (go_at_call 33; (with_reducible refine (hha _).mono ?_); rintro e wh ⟨rfl, hbb⟩; replace hX := hX.step hbb; clear hbb) | ((with_reducible refine at_store ?_); refine wpList_bag_overV (cs' := [.slice none 0 0, .slice none 0 0]) hX aggD sizD _ _ rfl rfl rfl rfl rfl rfl rfl rfl (two_one rfl rfl) ?_; clear hX; intro wz hX hkz))
    exact bodyPost_ret (results_ct Try.results22 rfl ((hX.all _ _ _ (.head _)).loadVar rfl aggD sizD)) rfl ⟨_, rfl, ⟨_, _, rfl, Sv.nil _ _, Sv.nil _ _⟩, hX.below⟩
  have hkr : 0 ≤ k ∧ k < 9223372036854775808 := by have := (hasV_iff _ _).1 hv; omega
  cases h3 : D.B.contains k
  · rw [sp_ok hv h3]
    rw [hv] at hha
    clear hv
    go_enter Try.func22, Try.ntmps22
    go_wp2_with (first | ((with_reducible refine at_load ?_); refine wpList_bag_part (k := 0) hX aggD sizD _ rfl rfl rfl rfl (by first | exact .head _ | exact .tail _ (.head _) | exact .tail _ (.tail _ (.head _))) (fun jz vz hz => (congrArg (fun n => ([_, _] : List Value)[n]?) (Nat.zero_add jz)).trans hz) rfl ?_) | ((with_reducible refine at_load ?_); refine wpList_bag_cell hX slS_cell _ rfl rfl rfl rfl (by first | exact .head _ | exact .tail _ (.head _) | exact .tail _ (.tail _ (.head _))) rfl ?_) | ((with_reducible refine at_load ?_); refine wpList_bag_cell hX slI_cell _ rfl rfl rfl rfl (by first | exact .head _ | exact .tail _ (.head _) | exact .tail _ (.tail _ (.head _))) rfl ?_) | (go_at_call 33; (with_reducible refine (hha _).mono ?_); rintro e wh ⟨rfl, hbb⟩; replace hX := hX.step hbb; clear hbb) | (go_at_call 36; (with_reducible refine (pcop_any D hl hl2 _ _ _ (hsW _ hX.below) (hbW _ hX.below)).mono ?_); rintro e wc ⟨A1, c1, A2, c2, N, rfl, ho1, hA1, ho2, hNg, hNl, hbb⟩; have hlt0 := (hX.all _ _ _ (.head _)).lt; replace ho1 := own_base ho1 (show w.heap.size + 2 ≤ _ from hlt0); replace hNg : w.heap.size + 2 ≤ N := Nat.le_trans hlt0 hNg; clear hlt0; replace hX := hX.step hbb; clear hbb) | ((with_reducible refine at_store ?_); refine wpList_bag_storeB (zs := [.slice none 0 0, .slice none 0 0]) (cs := [.slice A1 D.S.length c1, .slice A2 D.B.length c2]) hX aggD sizD _ _ rfl rfl rfl rfl rfl rfl rfl rfl (two_one rfl rfl) ?_; clear hX; intro w8 hX hb8; replace ho1 := own_step ho1 hb8; replace ho2 := own_step ho2 hb8; have hN8 : N ≤ w8.heap.size := Nat.le_trans hNl hb8.size; have hc8 : w.heap.size + 2 ≤ wc.heap.size := Nat.le_trans hNg hNl; clear hb8) | (go_at_call 34; (with_reducible refine (pbad_any D hlB hBr _ _ _ (hbW _ hX.below)).mono ?_); rintro e wb ⟨b, rfl, hM, hge, hbb⟩; replace ho1 := own_step ho1 hbb; replace ho2 := own_step ho2 hbb; replace hN8 := Nat.le_trans hN8 hbb.size; replace hX := hX.step hbb; clear hbb) | (at_lookup; refine wpList_look hM hkr rfl _ _ rfl rfl rfl ?_; rw [h3]) | (at_builtin; refine wpList_appIK rfl (.tmp 20) (.tmp 22) rfl N _ _ _ rfl (World.ownsRow.alloc ho2 _) ⟨wb.heap.size, 0, none⟩ 1 1 [.int .i64 k] rfl rfl cell_one (fun x hx => by simp at hx; subst hx; rfl) (by omega) (by simp; omega) ?_; intro v3 w3 ho3 hg3; rw [← show (D.B ++ [k]).map (Value.int .i64) = _ from hmap] at ho3; replace hX := bag_grown (hX.step ((Below.refl _ _).alloc (Nat.le_refl _) (.cells #[.int .i64 k] 3))) (World.ownsRow.alloc ho2 _) (fun q hq => by simp at hq; rcases hq with rfl | rfl | rfl <;> (dsimp only; decide)) hg3 (by simp; omega) (by omega); replace ho1 := own_grown (World.ownsRow.alloc ho1 _) (World.ownsRow.alloc ho2 _) (by decide) hg3; replace hN8 : N ≤ w3.heap.size := Nat.le_trans (Nat.le_trans hN8 (by simp)) hg3.size; clear ho2 hg3; obtain ⟨A3, c3, rfl, _, _⟩ := Rw.of_own ho3) | ((with_reducible refine at_store ?_); refine wpList_bag_putV (z := .slice A3 (D.B.length + 1) c3) hX siz_I _ _ rfl rfl rfl rfl rfl rfl (by simp) rfl rfl ?_; intro w4 hX4 hk4 hsz4; replace ho1 := own_over hX ho1 (by decide) hk4; replace ho3 := own_over hX ho3 (by decide) hk4; replace hX := hX4; replace hN8 : N ≤ w4.heap.size := (by omega); clear hX4 hk4 hsz4; simp only [List.set_cons_zero, List.set_cons_succ] at hX) | (go_at_call 38; (with_reducible refine (psort_own (D.B ++ [k]) (D.B.length + 1) N c3 A3 _ ho3 (by simp) (by omega) (by omega)).mono ?_); rintro e ws ⟨rfl, ho4, hg4⟩; replace hX := bag_grown hX ho3 (fun q hq => by simp at hq; rcases hq with rfl | rfl | rfl <;> (dsimp only; decide)) hg4 hN8 (by omega); replace ho1 := own_grown ho1 ho3 (by decide) hg4; clear hg4 ho3; rw [show _ = insB k D.B from hsort] at ho4) | ((with_reducible refine at_store ?_); refine wpList_bag_overV (cs' := [.slice A1 D.S.length c1, .slice A3 (D.B.length + 1) c3]) hX.swap aggD sizD _ _ rfl rfl rfl rfl rfl rfl rfl rfl (two_one rfl rfl) ?_; intro wz hXz hkz; replace ho1 := own_over (hX.swap) ho1 (by decide) hkz; replace ho4 := own_over (hX.swap) ho4 (by decide) hkz; replace hX := hXz; clear hkz hXz))
    exact bodyPost_ret (results_ct Try.results22 rfl ((hX.all _ _ _ (.head _)).loadVar rfl aggD sizD)) rfl ⟨_, rfl, ⟨_, _, rfl, stsX_of (fun b hb => by have := hXl b hb; omega) (hid rfl) (hid rfl) ho1, itsX_of (fun b hb => by have := hXl b hb; omega) (hid rfl) hil ho4⟩, hX.below⟩
  · rw [sp_bad hv h3]
    rw [hv] at hha
    clear hv
    go_enter Try.func22, Try.ntmps22
    go_wp2_with (first | ((with_reducible refine at_load ?_); refine wpList_bag_part (k := 0) hX aggD sizD _ rfl rfl rfl rfl (by first | exact .head _ | exact .tail _ (.head _) | exact .tail _ (.tail _ (.head _))) (fun jz vz hz => (congrArg (fun n => ([_, _] : List Value)[n]?) (Nat.zero_add jz)).trans hz) rfl ?_) | ((with_reducible refine at_load ?_); refine wpList_bag_cell hX slS_cell _ rfl rfl rfl rfl (by first | exact .head _ | exact .tail _ (.head _) | exact .tail _ (.tail _ (.head _))) rfl ?_) | ((with_reducible refine at_load ?_); refine wpList_bag_cell hX slI_cell _ rfl rfl rfl rfl (by first | exact .head _ | exact .tail _ (.head _) | exact .tail _ (.tail _ (.head _))) rfl ?_) | (go_at_call 33; (with_reducible refine (hha _).mono ?_); rintro e wh ⟨rfl, hbb⟩; replace hX := hX.step hbb; clear hbb) | (go_at_call 36; (with_reducible refine (pcop_any D hl hl2 _ _ _ (hsW _ hX.below) (hbW _ hX.below)).mono ?_); rintro e wc ⟨A1, c1, A2, c2, N, rfl, ho1, hA1, ho2, hNg, hNl, hbb⟩; have hlt0 := (hX.all _ _ _ (.head _)).lt; replace ho1 := own_base ho1 (show w.heap.size + 2 ≤ _ from hlt0); replace hNg : w.heap.size + 2 ≤ N := Nat.le_trans hlt0 hNg; clear hlt0; replace hX := hX.step hbb; clear hbb) | ((with_reducible refine at_store ?_); refine wpList_bag_storeB (zs := [.slice none 0 0, .slice none 0 0]) (cs := [.slice A1 D.S.length c1, .slice A2 D.B.length c2]) hX aggD sizD _ _ rfl rfl rfl rfl rfl rfl rfl rfl (two_one rfl rfl) ?_; clear hX; intro w8 hX hb8; replace ho1 := own_step ho1 hb8; replace ho2 := own_step ho2 hb8; have hN8 : N ≤ w8.heap.size := Nat.le_trans hNl hb8.size; have hc8 : w.heap.size + 2 ≤ wc.heap.size := Nat.le_trans hNg hNl; clear hb8) | (go_at_call 34; (with_reducible refine (pbad_any D hlB hBr _ _ _ (hbW _ hX.below)).mono ?_); rintro e wb ⟨b, rfl, hM, hge, hbb⟩; replace ho1 := own_step ho1 hbb; replace ho2 := own_step ho2 hbb; replace hN8 := Nat.le_trans hN8 hbb.size; replace hX := hX.step hbb; clear hbb) | (at_lookup; refine wpList_look hM hkr rfl _ _ rfl rfl rfl ?_; rw [h3]) | ((with_reducible refine at_store ?_); refine wpList_bag_overV (cs' := [.slice A1 D.S.length c1, .slice A2 D.B.length c2]) hX.swap aggD sizD _ _ rfl rfl rfl rfl rfl rfl rfl rfl (two_one rfl rfl) ?_; clear hX; intro wz hX hkz; replace ho1 := own_other ho1 (fun k hk => hkz k (by omega)); replace ho2 := own_other ho2 (fun k hk => hkz k (by omega)); clear hkz))
    exact bodyPost_ret (results_ct Try.results22 rfl ((hX.all _ _ _ (.head _)).loadVar rfl aggD sizD)) rfl ⟨_, rfl, ⟨_, _, rfl, stsX_of (fun b hb => by have := hXl b hb; omega) (hid rfl) (hid rfl) ho1, itsX_of (fun b hb => by have := hXl b hb; omega) (hid rfl) (hid rfl) ho2⟩, hX.below⟩
end Go.Proofs.Ytohfniejflibmaa
