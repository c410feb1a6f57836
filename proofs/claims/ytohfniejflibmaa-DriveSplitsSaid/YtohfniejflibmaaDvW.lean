/-
  Apply of the program. Condition: the drive is valid, at most 4096 writes.
-/
import Derived.Test.YtohfniejflibmaaDvU
import Derived.Test.YtohfniejflibmaaHt
namespace Go.Proofs.Ytohfniejflibmaa
open Go.RowKit
set_option linter.unusedSimpArgs false
set_option linter.unusedVariables false
set_option maxHeartbeats 4000000
set_option maxRecDepth 100000
attribute [local irreducible] wpQuiet

section
variable {P : Program} {S : World → Prop}
theorem fOne_alloc {i : Nat} {lo : List Oper} {f : Act → World → Prop} {a : Act} {w : World} {o : Oper} {t : TypeId} {zs : List Value} (ho : lo[i]? = some o) (hg : o.guard = none) (hop : o.op = .alloc t) (hrun : ∀ w, (Instr.alloc t true (.tuple #[])).run P w = .ok (ptrAt w.heap.size) (w.alloc (.cells zs.toArray t)))
    (h : ∀ B w', B = w.heap.size → w' = w.alloc (.cells zs.toArray t) → S w' ∧ f (a.put o.dst (.pointer (some ⟨B, 0, none⟩))) w') : fOne P lo.toArray S i f a w := by
  refine ⟨o, by rw [List.getElem?_toArray]; exact ho, hg, ?_⟩
  unfold Oper.oneAt
  rw [run_alloc_op hop hrun]
  exact h _ _ rfl rfl
end
theorem below_new {w w' : World} {o : Obj} (h : w' = w.alloc o) : Below w.heap.size w w' := by rw [h]; exact (Below.refl _ _).alloc (Nat.le_refl _) _
theorem wts_row {w : World} {v : Value} {l : List (Int × ByteArray)} (h : Wts w v l) : ∃ A c, v = .slice A l.length c ∧ ∀ (k : Nat) q, l[k]? = some q → ∃ a : Addr, A = some a ∧ ∀ w', Below w.heap.size w w' → (Instr.loadAt 45 (.pointer (some (a.add (k * 2))))).run Try.prog w' = .ok (.agg [.int .i64 q.1, .string q.2].toArray) w' := by
  have h0 := h.1
  obtain ⟨⟨A, c, rfl, hk, hc⟩, _⟩ := h
  refine ⟨A, c, rfl, fun k q hq => ?_⟩
  obtain ⟨a, rfl, _⟩ := hc _ _ (flatW_get hq 0 _ rfl)
  exact ⟨a, rfl, fun w' hb => Rw.loadAt (k := k) (s := 2) (Rw.below h0 hb) (flatW_get hq) rfl aggWr sizWr⟩
theorem pput_n (D : Drv) (k : Int) (s : ByteArray) (n : Nat) (hn : D.S.length = n) (hsl : n ≤ 4096) (A : Option Addr) (c : Nat) (v2 : Value) (b N : Nat) (w : World) (hown : w.ownsRow N 9 1 (.slice A n c) n (D.S.map Value.string)) (hN : N ≤ w.heap.size) (hM : OwnM w b D.B) :
    Calls Try.prog 37 #[.agg #[.slice A n c, v2], .map (some b), .agg #[.int .i64 k, .string s]] w fun e w' => e = .returned (.int .i64 (D.wr k s).2) ∧ w'.ownsRow N 9 1 (.slice A n c) n ((putS D k s).map Value.string) ∧ w.grownBy w' (Value.slice A n c).ownBlock := by
  subst hn
  refine (pput_any D k s hsl (.slice A D.S.length c) v2 b N w hown hN hM).mono ?_
  rintro e w' ⟨rfl, h1, h2, h3⟩
  refine ⟨rfl, h1, ⟨h2.os, h2.tape, h2.output, h2.size, fun i hi hne => h3 i hi (fun a m c' h e => hne ?_)⟩⟩
  cases h
  show some i = some a.block
  rw [e]
theorem map_grown {w w' : World} {b base n s : Nat} {B : List Int} {e : TypeId} {u : Value} {ys : List Value} (h : OwnM w b B) (ho : w.ownsRow base e s u n ys) (hg : w.grownBy w' u.ownBlock) : OwnM w' b B := by
  refine h.same (hg.block b h.lt (fun e1 => ?_))
  obtain ⟨n, es, clock, hb, _⟩ := h
  rcases ho.2 with ⟨h0, _⟩ | ⟨g2, cap, cur2, hv, _, hh, r⟩
  · rw [h0] at e1; cases e1
  · rw [hv] at e1
    cases e1
    rw [hb] at hh
    cases hh
theorem map_over {l : List (Nat × TypeId × List Value)} {w0 w w' : World} {C b : Nat} {t : TypeId} {cs : List Value} {B : List Int} (hX : Bag ((C, t, cs) :: l) w0 w) (h : OwnM w b B) (hk : ∀ k, k ≠ C → w'.heap[k]? = w.heap[k]?) : OwnM w' b B := by
  refine h.same (hk b (fun e1 => ?_))
  obtain ⟨n, es, clock, hb, _⟩ := h
  have h1 := hX.all _ _ _ (.head _)
  unfold Blk at h1
  rw [← e1, hb] at h1
  cases h1
theorem putS_err {D : Drv} {k : Int} {s : ByteArray} (h : (D.wr k s).2 ≠ 0) : putS D k s = D.S := by unfold putS; rw [if_neg h]
theorem papply_any (D : Drv) (q : List (Int × ByteArray)) (fz : Int) (hr : D.right = true) (hq : q.length ≤ 4096) (vs vb v : Value) (X : Nat → Prop) (w : World) (hXl : ∀ b, X b → b < w.heap.size) (hs : Sts w vs D.S) (hb : Its w vb D.B) (hv : Wts w v q) :
    Calls Try.prog 25 #[.agg #[vs, vb], v, .int .i64 fz] w fun e w' => ∃ x, e = .returned (.tuple #[x, .int .i64 (D.ap q 0 fz).2.1, .int .i64 (D.ap q 0 fz).2.2]) ∧ DvX X w' x (D.ap q 0 fz).1 ∧ Below w.heap.size w w' := by
  obtain ⟨A, c, rfl, hc⟩ := wts_row hv
  have hlB : D.B.length ≤ 1099511627775 := by have := right_len hr; omega
  have hl : D.B.length ≤ 1099511627776 := by omega
  have hBr := right_bad hr
  have hlS4 : D.S.length ≤ 4096 := by have := ((right_iff D).1 hr).2.1; omega
  have hl2 : D.S.length ≤ 1099511627776 := by omega
  have hsW : ∀ w', Below w.heap.size w w' → Sts w' vs D.S := fun w' h => hs.below h
  have hbW : ∀ w', Below w.heap.size w w' → Its w' vb D.B := fun w' h => hb.below h
  have o1 := sts_one hs
  have o2 := its_one hb
  have hX := two_dv w [vs, vb] [.slice none 0 0, .slice none 0 0]
  obtain ⟨RR, hRR⟩ : ∃ RR, D.ap q 0 fz = RR := ⟨_, rfl⟩
  rw [hRR]
  replace hRR := hid hRR
  clear hs hb hr hv
  go_enter Try.func25, Try.ntmps25
  go_wp2
  replace hX := hX.drew
  refine region_tree (fun w' => Bag [(w.heap.size + 1, 25, [.slice none 0 0, .slice none 0 0]), (w.heap.size, 25, [vs, vb])] w w') 5 (by kernel_rfl) (hol_quiet (by kernel_rfl) (fun _ _ dd _ _ h => by cases dd <;> exact h) 0 (hol_quiet (by kernel_rfl) (fun _ _ dd _ _ h => by cases dd <;> exact h) 2 (hol_two 1 4 (hol_two 3 4 (hol_one 4 hol_leaf) (hol_one 3 hol_leaf)) (hol_one 1 (hol_one 3 hol_leaf))))) (by kernel_rfl) (by decide) hX ?_
  refine fQ_intro rfl rfl (fun KK hKK => ?_)
  apply Exists.intro
  refine ⟨fun wq hq => ?_, hKK _ ?_⟩
  · try dsimp only at hq
    first
      | exact run_load_op 25 _ _ rfl rfl ((hq.all _ _ _ (.tail _ (.head _))).loadAt rfl aggD sizD)
      | (unfold execOp; go_simp; done)
      | (unfold execOp; go_simp; with_reducible rfl)
  clear hKK KK
  simp only [Act.put, List.setIfInBounds_toArray, List.set_cons_zero, List.set_cons_succ]
  refine fQ_intro rfl rfl (fun KK hKK => ?_)
  apply Exists.intro
  refine ⟨fun wq hq => ?_, hKK _ ?_⟩
  · try dsimp only at hq
    first
      | exact run_load_op 25 _ _ rfl rfl ((hq.all _ _ _ (.tail _ (.head _))).loadAt rfl aggD sizD)
      | (unfold execOp; go_simp; done)
      | (unfold execOp; go_simp; with_reducible rfl)
  clear hKK KK
  simp only [Act.put, List.setIfInBounds_toArray, List.set_cons_zero, List.set_cons_succ]
  refine ⟨?ta2, ?tb2⟩
  case' tb2 =>
    refine fOne_alloc rfl rfl rfl alloc_dv (fun B9 w9 hB9 hw9 => ?_)
    refine ⟨by rw [hw9]; exact hX.step ((Below.refl _ _).alloc (Nat.le_refl _) _), ?_⟩
    have hb9 := below_new hw9
    replace hX : Bag ((B9, 25, [.slice none 0 0, .slice none 0 0]) :: [(w.heap.size + 1, 25, [.slice none 0 0, .slice none 0 0]), (w.heap.size, 25, [vs, vb])]) w w9 := by rw [hB9, hw9]; exact hX.new _ _
    clear hb9 hB9 hw9
    simp only [Act.put, List.setIfInBounds_toArray, List.set_cons_zero, List.set_cons_succ]
    refine fOne_intro rfl rfl (fun KK hKK => ?_)
    unfold Oper.oneAt
    go_simp
    simp only [oneUpon]
    refine ⟨trivial, ?_⟩
    refine (pcop_any D hl hl2 _ _ _ (hsW _ hX.below) (hbW _ hX.below)).mono ?_
    rintro e' wc ⟨A1, c1, A2, c2, N, rfl, ho1, hA1, ho2, hNg, hNl, hbb⟩
    refine ⟨_, rfl, hKK _ _ ((hX.sub (.cons _ (.refl _))).step hbb) ?_⟩
    clear hKK KK
    have hlt0 := ((hX.sub (.cons _ (.refl _))).all _ _ _ (.head _)).lt
    replace ho1 := own_base ho1 (show w.heap.size + 2 ≤ _ from hlt0)
    replace hNg : w.heap.size + 2 ≤ N := Nat.le_trans hlt0 hNg
    clear hlt0
    replace hX := hX.step hbb
    have hN8 := hNl
    clear hbb hNl
    simp only [Act.put, List.setIfInBounds_toArray, List.set_cons_zero, List.set_cons_succ]
    refine fOne_intro rfl rfl (fun KK hKK => ?_)
    unfold Oper.oneAt
    go_simp
    simp only [oneUpon]
    refine ⟨trivial, ?_⟩
    refine (pbad_any D hlB hBr _ _ _ (hbW _ hX.below)).mono ?_
    rintro e' wb ⟨b, rfl, hM, hge, hbb⟩
    refine ⟨_, rfl, hKK _ _ ((hX.sub (.cons _ (.refl _))).step hbb) ?_⟩
    clear hKK KK
    replace hX := hX.step hbb
    replace ho1 := own_step ho1 hbb
    replace ho2 := own_step ho2 hbb
    replace hN8 := Nat.le_trans hN8 hbb.size
    clear hbb hge
    simp only [Act.put, List.setIfInBounds_toArray, List.set_cons_zero, List.set_cons_succ]
    simp only [List.drop_succ_cons, List.drop_zero]
  case' ta2 =>
    refine fOne_intro rfl rfl (fun KK hKK => ?_)
    unfold Oper.oneAt
    go_simp
    simp only [oneUpon]
    refine ⟨trivial, ?_⟩
    refine (pcop_any D hl hl2 _ _ _ (hsW _ hX.below) (hbW _ hX.below)).mono ?_
    rintro e' wc ⟨A1, c1, A2, c2, N, rfl, ho1, hA1, ho2, hNg, hNl, hbb⟩
    refine ⟨_, rfl, hKK _ _ (hX.step hbb) ?_⟩
    clear hKK KK
    have hlt0 := (hX.all _ _ _ (.head _)).lt
    replace ho1 := own_base ho1 (show w.heap.size + 2 ≤ _ from hlt0)
    replace hNg : w.heap.size + 2 ≤ N := Nat.le_trans hlt0 hNg
    clear hlt0
    replace hX := hX.step hbb
    have hN8 := hNl
    clear hbb hNl
    simp only [Act.put, List.setIfInBounds_toArray, List.set_cons_zero, List.set_cons_succ]
    refine ⟨?ta1, ?tb1⟩
    case' tb1 =>
      refine fOne_alloc rfl rfl rfl alloc_dv (fun B9 w9 hB9 hw9 => ?_)
      refine ⟨by rw [hw9]; exact hX.step ((Below.refl _ _).alloc (Nat.le_refl _) _), ?_⟩
      have hb9 := below_new hw9
      replace hX : Bag ((B9, 25, [.slice none 0 0, .slice none 0 0]) :: [(w.heap.size + 1, 25, [.slice none 0 0, .slice none 0 0]), (w.heap.size, 25, [vs, vb])]) w w9 := by rw [hB9, hw9]; exact hX.new _ _
      replace ho1 := own_step ho1 hb9
      replace ho2 := own_step ho2 hb9
      replace hN8 := Nat.le_trans hN8 hb9.size
      clear hb9 hB9 hw9
      simp only [Act.put, List.setIfInBounds_toArray, List.set_cons_zero, List.set_cons_succ]
      refine fOne_intro rfl rfl (fun KK hKK => ?_)
      unfold Oper.oneAt
      go_simp
      simp only [oneUpon]
      refine ⟨trivial, ?_⟩
      refine (pbad_any D hlB hBr _ _ _ (hbW _ hX.below)).mono ?_
      rintro e' wb ⟨b, rfl, hM, hge, hbb⟩
      refine ⟨_, rfl, hKK _ _ ((hX.sub (.cons _ (.refl _))).step hbb) ?_⟩
      clear hKK KK
      replace hX := hX.step hbb
      replace ho1 := own_step ho1 hbb
      replace ho2 := own_step ho2 hbb
      replace hN8 := Nat.le_trans hN8 hbb.size
      clear hbb hge
      simp only [Act.put, List.setIfInBounds_toArray, List.set_cons_zero, List.set_cons_succ]
      simp only [List.drop_succ_cons, List.drop_zero]
    case' ta1 =>
      refine fOne_intro rfl rfl (fun KK hKK => ?_)
      unfold Oper.oneAt
      go_simp
      simp only [oneUpon]
      refine ⟨trivial, ?_⟩
      refine (pbad_any D hlB hBr _ _ _ (hbW _ hX.below)).mono ?_
      rintro e' wb ⟨b, rfl, hM, hge, hbb⟩
      refine ⟨_, rfl, hKK _ _ (hX.step hbb) ?_⟩
      clear hKK KK
      replace hX := hX.step hbb
      replace ho1 := own_step ho1 hbb
      replace ho2 := own_step ho2 hbb
      replace hN8 := Nat.le_trans hN8 hbb.size
      clear hbb hge
      simp only [Act.put, List.setIfInBounds_toArray, List.set_cons_zero, List.set_cons_succ]
      refine fOne_alloc rfl rfl rfl alloc_dv (fun B9 w9 hB9 hw9 => ?_)
      refine ⟨by rw [hw9]; exact hX.step ((Below.refl _ _).alloc (Nat.le_refl _) _), ?_⟩
      have hb9 := below_new hw9
      replace hX : Bag ((B9, 25, [.slice none 0 0, .slice none 0 0]) :: [(w.heap.size + 1, 25, [.slice none 0 0, .slice none 0 0]), (w.heap.size, 25, [vs, vb])]) w w9 := by rw [hB9, hw9]; exact hX.new _ _
      replace ho1 := own_step ho1 hb9
      replace ho2 := own_step ho2 hb9
      replace hN8 := Nat.le_trans hN8 hb9.size
      replace hM := hM.step hb9
      clear hb9 hB9 hw9
      simp only [Act.put, List.setIfInBounds_toArray, List.set_cons_zero, List.set_cons_succ]
      simp only [List.drop_succ_cons, List.drop_zero]
  all_goals
    clear hsW hbW
    go_wp2_with (first | ((with_reducible refine at_store ?_); refine wpList_bag_overV (cs' := [.slice A1 D.S.length c1, .slice A2 D.B.length c2]) (hX) aggD sizD _ _ rfl rfl rfl rfl rfl rfl rfl rfl (two_one rfl rfl) ?_; intro wz hXz hkz; replace ho1 := own_over (hX) ho1 (by decide) hkz; replace ho2 := own_over (hX) ho2 (by decide) hkz; replace hM := map_over (hX) hM hkz; replace hN8 := Nat.le_trans hN8 (size_over hkz (hXz.all _ _ _ (.head _)).lt); clear hX; have hX := hXz; clear hXz hkz))
    go_loopw [20] (fun iv wr => ∃ (k : Nat) (S1 : List ByteArray), k ≤ q.length ∧ iv = .int .i64 k ∧ Hid ((Drv.mk S1 D.B).ap (q.drop k) k fz = RR) ∧ Hid (S1.length = D.S.length) ∧ wr.ownsRow (w.heap.size + 2) 9 1 (.slice A1 D.S.length c1) D.S.length (S1.map Value.string) ∧ wr.ownsRow N 3 1 (.slice A2 D.B.length c2) D.B.length (D.B.map (Value.int .i64)) ∧ OwnM wr b D.B ∧ N ≤ wr.heap.size ∧ Bag [(B9, 25, [.slice A1 D.S.length c1, .slice A2 D.B.length c2]), (w.heap.size + 1, 25, [.slice none 0 0, .slice none 0 0]), (w.heap.size, 25, [vs, vb])] w wr) (fun iv _ => match iv with | .int _ z => q.length - z.toNat | _ => 0)
    case atStart => exact ⟨0, D.S, Nat.zero_le _, rfl, hRR, rfl, ho1, ho2, hM, hN8, hX⟩
    case round =>
      clear hX hRR ho1 ho2 hM hN8
      obtain ⟨k, S1, hk, rfl, hR, hlS, ho1, ho2, hM, hN8, hX⟩ := hrel
      by_cases hkq : k < q.length
      · have hki : (k : Int) < (q.length : Int) := by omega
        have hu := List.getElem?_eq_getElem hkq
        generalize q[k] = u at *
        obtain ⟨a, rfl, hL⟩ := hc k u hu
        have hst := ap_step (D := Drv.mk S1 D.B) hu fz
        rw [show (Drv.mk S1 D.B).ap (q.drop k) k fz = RR from hR] at hst
        obtain ⟨u1, u2⟩ := u
        dsimp only at hL hst
        by_cases hkf : (k : Int) = fz
        · rw [if_pos hkf] at hst
          subst hst
          have he : ((k : Int) == fz) = true := by simpa using hkf
          clear hc hu hR hkf
          go_wp2_with (first | ((with_reducible refine at_load ?_); refine wpList_bag_part (k := 0) hX aggD sizD _ rfl rfl rfl rfl (by first | exact .head _ | exact .tail _ (.head _) | exact .tail _ (.tail _ (.head _)) | exact .tail _ (.tail _ (.tail _ (.head _)))) (fun jz vz hz => (congrArg (fun n => ([_, _] : List Value)[n]?) (Nat.zero_add jz)).trans hz) rfl ?_) | ((with_reducible refine at_load ?_); refine wpList_loadW rfl 45 _ _ _ rfl rfl (hL _ hX.below) ?_) | ((with_reducible refine at_store ?_); refine wpList_bag_storeB (zs := [.int .i64 0, .string ⟨#[]⟩]) (cs := [.int .i64 u1, .string u2]) hX aggWr sizWr _ _ rfl rfl rfl rfl rfl rfl rfl rfl (two_one rfl rfl) ?_; clear hX; intro w8 hX hbb; replace ho1 := own_step ho1 hbb; replace ho2 := own_step ho2 hbb; replace hM := hM.step hbb; replace hN8 := Nat.le_trans hN8 hbb.size; clear hbb) | ((with_reducible refine at_load ?_); refine wpList_bag_part (k := 0) hX aggWr sizWr _ rfl rfl rfl rfl (by first | exact .head _ | exact .tail _ (.head _) | exact .tail _ (.tail _ (.head _)) | exact .tail _ (.tail _ (.tail _ (.head _)))) (fun jz vz hz => (congrArg (fun n => ([_, _] : List Value)[n]?) (Nat.zero_add jz)).trans hz) rfl ?_) | ((with_reducible refine at_store ?_); refine wpList_bag_overV (cs' := [.slice A1 D.S.length c1, .slice A2 D.B.length c2]) (hX.perm (List.perm_middle (l₁ := [_, _]))) aggD sizD _ _ rfl rfl rfl rfl rfl rfl rfl rfl (two_one rfl rfl) ?_; intro wz hXz hkz; replace ho1 := own_over (hX.perm (List.perm_middle (l₁ := [_, _]))) ho1 (by decide) hkz; replace ho2 := own_over (hX.perm (List.perm_middle (l₁ := [_, _]))) ho2 (by decide) hkz; replace hM := map_over (hX.perm (List.perm_middle (l₁ := [_, _]))) hM hkz; replace hN8 := Nat.le_trans hN8 (size_over hkz (hXz.all _ _ _ (.head _)).lt); clear hX; have hX := hXz; clear hXz hkz))
          exact bodyPost_ret (results_ctt Try.results25 rfl ((hX.all _ _ _ (.head _)).loadVar rfl aggD sizD)) rfl ⟨_, rfl, ⟨_, _, rfl, stsX_of (fun b hb => by have := hXl b hb; omega) (hid rfl) hlS ho1, itsX_of (fun b hb => by have := hXl b hb; omega) (hid rfl) (hid rfl) ho2⟩, hX.below⟩
        have he : ((k : Int) == fz) = false := by simpa using hkf
        rw [if_neg hkf] at hst
        have hput := fun A c v2 b N w h1 h2 h3 => pput_n (Drv.mk S1 D.B) u1 u2 D.S.length hlS hlS4 A c v2 b N w h1 h2 h3
        have hwf := wr_form (Drv.mk S1 D.B) u1 u2
        have hpl := putS_length (Drv.mk S1 D.B) u1 u2
        have hpe := fun h => putS_err (D := Drv.mk S1 D.B) (k := u1) (s := u2) h
        generalize putS (Drv.mk S1 D.B) u1 u2 = S2 at *
        generalize (Drv.mk S1 D.B).wr u1 u2 = WW at *
        obtain ⟨D2, err⟩ := WW
        dsimp only at hput hwf hpl hpe hst
        clear hc hu hR hkf
        by_cases hez : err = 0
        · subst hez
          rw [if_pos rfl, hwf.1 rfl] at hst
          replace hst := hid hst.symm
          replace hlS : Hid (S2.length = D.S.length) := hpl.trans hlS
          clear hwf hpl hpe
          have hkq1 := hid hkq
          clear hkq
          go_wp2_with (first | ((with_reducible refine at_load ?_); refine wpList_bag_part (k := 0) hX aggD sizD _ rfl rfl rfl rfl (by first | exact .head _ | exact .tail _ (.head _) | exact .tail _ (.tail _ (.head _)) | exact .tail _ (.tail _ (.tail _ (.head _)))) (fun jz vz hz => (congrArg (fun n => ([_, _] : List Value)[n]?) (Nat.zero_add jz)).trans hz) rfl ?_) | ((with_reducible refine at_load ?_); refine wpList_loadW rfl 45 _ _ _ rfl rfl (hL _ hX.below) ?_) | ((with_reducible refine at_store ?_); refine wpList_bag_storeB (zs := [.int .i64 0, .string ⟨#[]⟩]) (cs := [.int .i64 u1, .string u2]) hX aggWr sizWr _ _ rfl rfl rfl rfl rfl rfl rfl rfl (two_one rfl rfl) ?_; clear hX; intro w8 hX hbb; replace ho1 := own_step ho1 hbb; replace ho2 := own_step ho2 hbb; replace hM := hM.step hbb; replace hN8 := Nat.le_trans hN8 hbb.size; clear hbb) | ((with_reducible refine at_load ?_); refine wpList_bag_part (k := 0) hX aggWr sizWr _ rfl rfl rfl rfl (by first | exact .head _ | exact .tail _ (.head _) | exact .tail _ (.tail _ (.head _)) | exact .tail _ (.tail _ (.tail _ (.head _)))) (fun jz vz hz => (congrArg (fun n => ([_, _] : List Value)[n]?) (Nat.zero_add jz)).trans hz) rfl ?_) | (go_at_call 37; (with_reducible refine (hput A1 c1 _ b (w.heap.size + 2) _ ho1 (Nat.le_trans hNg hN8) hM).mono ?_); rintro e wp ⟨rfl, ho5, hg5⟩; replace hX := bag_grown hX ho1 (fun q hq => by simp at hq; rcases hq with rfl | rfl | rfl | rfl <;> (dsimp only; decide)) hg5 (Nat.le_trans hNg hN8) (Nat.le_add_right _ 2); replace ho2 := own_grown ho2 ho1 (by decide) hg5; replace hM := map_grown hM ho1 hg5; replace hN8 := Nat.le_trans hN8 hg5.size; replace ho1 := ho5; clear ho5 hg5))
          exact ⟨⟨k + 1, S2, (show k < q.length from hkq1), by go_num, hst, hlS, ho1, ho2, hM, hN8, hX.sub (.cons _ (.refl _))⟩, by have hq1 := (show k < q.length from hkq1); simp only; omega⟩
        · rw [if_neg hez] at hst
          subst hst
          obtain rfl := hpe hez
          have hen : (err != 0) = true := by simpa using hez
          clear hwf hpl hpe hez
          go_wp2_with (first | ((with_reducible refine at_load ?_); refine wpList_bag_part (k := 0) hX aggD sizD _ rfl rfl rfl rfl (by first | exact .head _ | exact .tail _ (.head _) | exact .tail _ (.tail _ (.head _)) | exact .tail _ (.tail _ (.tail _ (.head _)))) (fun jz vz hz => (congrArg (fun n => ([_, _] : List Value)[n]?) (Nat.zero_add jz)).trans hz) rfl ?_) | ((with_reducible refine at_load ?_); refine wpList_loadW rfl 45 _ _ _ rfl rfl (hL _ hX.below) ?_) | ((with_reducible refine at_store ?_); refine wpList_bag_storeB (zs := [.int .i64 0, .string ⟨#[]⟩]) (cs := [.int .i64 u1, .string u2]) hX aggWr sizWr _ _ rfl rfl rfl rfl rfl rfl rfl rfl (two_one rfl rfl) ?_; clear hX; intro w8 hX hbb; replace ho1 := own_step ho1 hbb; replace ho2 := own_step ho2 hbb; replace hM := hM.step hbb; replace hN8 := Nat.le_trans hN8 hbb.size; clear hbb) | ((with_reducible refine at_load ?_); refine wpList_bag_part (k := 0) hX aggWr sizWr _ rfl rfl rfl rfl (by first | exact .head _ | exact .tail _ (.head _) | exact .tail _ (.tail _ (.head _)) | exact .tail _ (.tail _ (.tail _ (.head _)))) (fun jz vz hz => (congrArg (fun n => ([_, _] : List Value)[n]?) (Nat.zero_add jz)).trans hz) rfl ?_) | (go_at_call 37; (with_reducible refine (hput A1 c1 _ b (w.heap.size + 2) _ ho1 (Nat.le_trans hNg hN8) hM).mono ?_); rintro e wp ⟨rfl, ho5, hg5⟩; replace hX := bag_grown hX ho1 (fun q hq => by simp at hq; rcases hq with rfl | rfl | rfl | rfl <;> (dsimp only; decide)) hg5 (Nat.le_trans hNg hN8) (Nat.le_add_right _ 2); replace ho2 := own_grown ho2 ho1 (by decide) hg5; replace hM := map_grown hM ho1 hg5; replace hN8 := Nat.le_trans hN8 hg5.size; replace ho1 := ho5; clear ho5 hg5) | ((with_reducible refine at_store ?_); refine wpList_bag_overV (cs' := [.slice A1 D.S.length c1, .slice A2 D.B.length c2]) (hX.perm (List.perm_middle (l₁ := [_, _]))) aggD sizD _ _ rfl rfl rfl rfl rfl rfl rfl rfl (two_one rfl rfl) ?_; intro wz hXz hkz; replace ho1 := own_over (hX.perm (List.perm_middle (l₁ := [_, _]))) ho1 (by decide) hkz; replace ho2 := own_over (hX.perm (List.perm_middle (l₁ := [_, _]))) ho2 (by decide) hkz; replace hM := map_over (hX.perm (List.perm_middle (l₁ := [_, _]))) hM hkz; replace hN8 := Nat.le_trans hN8 (size_over hkz (hXz.all _ _ _ (.head _)).lt); clear hX; have hX := hXz; clear hXz hkz))
          exact bodyPost_ret (results_ctt Try.results25 rfl ((hX.all _ _ _ (.head _)).loadVar rfl aggD sizD)) rfl ⟨_, rfl, ⟨_, _, rfl, stsX_of (fun b hb => by have := hXl b hb; omega) (hid rfl) hlS ho1, itsX_of (fun b hb => by have := hXl b hb; omega) (hid rfl) (hid rfl) ho2⟩, hX.below⟩
      · obtain rfl : k = q.length := by omega
        have hki : ¬ (q.length : Int) < (q.length : Int) := by omega
        have hst : (Drv.mk S1 D.B, q.length, 0) = RR := by rw [← show _ = RR from hR, List.drop_length]; rfl
        subst hst
        clear hc hR
        go_wp2_with (first | ((with_reducible refine at_load ?_); refine wpList_bag_part (k := 0) hX aggD sizD _ rfl rfl rfl rfl (by first | exact .head _ | exact .tail _ (.head _) | exact .tail _ (.tail _ (.head _))) (fun jz vz hz => (congrArg (fun n => ([_, _] : List Value)[n]?) (Nat.zero_add jz)).trans hz) rfl ?_) | ((with_reducible refine at_store ?_); refine wpList_bag_overV (cs' := [.slice A1 D.S.length c1, .slice A2 D.B.length c2]) (hX.swap) aggD sizD _ _ rfl rfl rfl rfl rfl rfl rfl rfl (two_one rfl rfl) ?_; intro wz hXz hkz; replace ho1 := own_over (hX.swap) ho1 (by decide) hkz; replace ho2 := own_over (hX.swap) ho2 (by decide) hkz; replace hM := map_over (hX.swap) hM hkz; replace hN8 := Nat.le_trans hN8 (size_over hkz (hXz.all _ _ _ (.head _)).lt); clear hX; have hX := hXz; clear hXz hkz))
        exact bodyPost_ret (results_ctt Try.results25 rfl ((hX.all _ _ _ (.head _)).loadVar rfl aggD sizD)) rfl ⟨_, rfl, ⟨_, _, rfl, stsX_of (fun b hb => by have := hXl b hb; omega) (hid rfl) hlS ho1, itsX_of (fun b hb => by have := hXl b hb; omega) (hid rfl) (hid rfl) ho2⟩, hX.below⟩
end Go.Proofs.Ytohfniejflibmaa
