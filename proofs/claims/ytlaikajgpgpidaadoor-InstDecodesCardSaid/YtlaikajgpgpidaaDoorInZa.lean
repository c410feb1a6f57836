/-
  Decode of Encode and Encode of Decode, said over lists; the comparison of two lists of integers. Condition: the lists have at most 2^40 elements.
-/
import Derived.Test.YtlaikajgpgpidaaDoorInW
namespace Go.Proofs.YtlaikajgpgpidaaDoor
open Go.RowKit
set_option linter.unusedSimpArgs false
set_option linter.unusedVariables false
set_option maxHeartbeats 1000000
set_option maxRecDepth 100000
attribute [local irreducible] wpQuiet

theorem extI_fit {i : In} (E : Enc i) (rest : List Int) : extI ⟨i.o, i.b, i.m, i.r, 0, i.p, i.q, 0, i.g, i.n⟩ (((if exS i = true then [i.x] else []) ++ (if exD i = true then [i.y] else [])) ++ rest) = i := by
  have hx := E.x
  have hy := E.y
  have e1 : exS ⟨i.o, i.b, i.m, i.r, 0, i.p, i.q, 0, i.g, i.n⟩ = exS i := rfl
  have e2 : exD ⟨i.o, i.b, i.m, i.r, 0, i.p, i.q, 0, i.g, i.n⟩ = exD i := rfl
  unfold extI
  rw [e1, e2]
  cases i
  simp only at *
  cases hS : exS _ <;> cases hD : exD _
  all_goals
    first | rw [hS] at hx | skip
    first | rw [hD] at hy | skip
    simp_all
theorem nR_sh (i : In) : nR ⟨i.o, i.b, i.m, i.r, 0, i.p, i.q, 0, i.g, i.n⟩ = nR i := rfl
theorem dec_enc {i : In} (hv : vR i = true) (rest : List Int) : dcI (wdR i ++ rest) = (i, nR i) := by
  have E : Enc i := enc_all hv
  obtain ⟨h0, h1⟩ := E.word
  have e0 := E.eq
  have hs := E.sh
  unfold wdR
  rw [e0]
  generalize rfR i = w at *
  rcases shape_cases h0 h1 with ⟨e, T⟩ | ⟨hn, hz⟩
  · have hx := extI_fit E rest
    rw [← hs] at hx
    have hl : nR (shR w) ≤ (((((if exS i = true then [i.x] else []) ++ (if exD i = true then [i.y] else [])) ++ rest).length : Nat) : Int) + 1 := by
      rw [hs, nR_sh]
      unfold nR
      cases exS i <;> cases exD i <;> simp [bi] <;> omega
    have k := dcI_in (w := w) (t := ((if exS i = true then [i.x] else []) ++ (if exD i = true then [i.y] else [])) ++ rest) h0 h1 T.read hl (by rw [hx]; exact hv)
    rw [hx] at k
    rw [List.cons_append, k, hs, nR_sh]
  · exfalso
    have k : (shR w).o = i.o := by rw [hs]
    rw [hz] at k
    have k2 : i.o = 0 := k.symm
    rw [vR_none (form_none (by omega))] at hv
    cases hv
theorem len_w (i : In) : ((wdR i).length : Int) = nR i := by
  unfold wdR nR
  cases exS i <;> cases exD i <;> rfl
theorem dec_short {i : In} (hv : vR i = true) : (dcI ((wdR i).take ((wdR i).length - 1))).2 = 0 := by
  have E : Enc i := enc_all hv
  obtain ⟨h0, h1⟩ := E.word
  have e0 := E.eq
  have hs := E.sh
  have hl := len_w i
  unfold wdR at *
  rw [e0] at *
  generalize rfR i = w at *
  cases hS : exS i <;> cases hD : exD i
  · simp [hS, hD, dcI]
  all_goals
    simp only [hS, hD, if_true, if_false, Bool.false_eq_true, List.nil_append, List.append_nil, List.length_cons, List.length_nil, List.cons_append, List.take_succ_cons, List.take_zero, Nat.add_one_sub_one, List.take_nil]
    rcases shape_cases h0 h1 with ⟨e, T⟩ | ⟨hn, hz⟩
    · rw [dcI_short h0 h1 T.read (by rw [hs, nR_sh]; unfold nR; rw [hS, hD]; simp [bi])]
    · rw [dcI_none h0 h1 hn]
theorem enc_dec {l : List Int} {i : In} {n : Int} (h : dcI l = (i, n)) (hn : n ≠ 0) : vR i = true ∧ wdR i = l.take n.toNat ∧ nR i = n ∧ n ≤ (l.length : Int) ∧ 1 ≤ n ∧ n ≤ 3 := by
  cases l with
  | nil => simp [dcI] at h; exact absurd h.2.symm hn
  | cons w t =>
    by_cases hw : 0 ≤ w ∧ w ≤ 65535
    · obtain ⟨h0, h1⟩ := hw
      rcases shape_cases h0 h1 with ⟨e, T⟩ | ⟨hnn, hz⟩
      · by_cases hl : nR (shR w) ≤ (t.length : Int) + 1
        · cases hV : vR (extI (shR w) t)
          · rw [dcI_out h0 h1 T.read hV] at h
            exact absurd (congrArg Prod.snd h).symm hn
          · rw [dcI_in h0 h1 T.read hl hV] at h
            have e1 : extI (shR w) t = i := congrArg Prod.fst h
            have e2 : nR (shR w) = n := congrArg Prod.snd h
            have E : Enc i := by rw [← e1]; exact enc_all hV
            have ew : fstR i = w := by
              rw [E.eq, ← e1]
              exact dec_all h0 h1 T _ _
            have hnr : nR i = n := by rw [← e2, ← e1]; rfl
            have h3 : 1 ≤ nR i ∧ nR i ≤ 3 := by unfold nR; cases exS i <;> cases exD i <;> decide
            refine ⟨by rw [← e1]; exact hV, ?_, hnr, by rw [← e2]; simpa using hl, by omega, by omega⟩
            unfold wdR
            rw [ew, ← hnr]
            have ex : i.x = if exS i = true then t.getD 0 0 else 0 := by rw [← e1]; rfl
            have ey : i.y = if exD i = true then t.getD (if exS i = true then 1 else 0) 0 else 0 := by rw [← e1]; rfl
            have hlt : nR i ≤ (t.length : Int) + 1 := by rw [hnr, ← e2]; exact hl
            unfold nR at hlt ⊢
            rw [ex, ey]
            revert hlt
            cases exS i <;> cases exD i <;> intro hlt
            · simp [bi]
            · cases t with
              | nil => simp [bi] at hlt
              | cons x t => simp [bi]
            · cases t with
              | nil => simp [bi] at hlt
              | cons x t => simp [bi]
            · cases t with
              | nil => simp [bi] at hlt
              | cons x t =>
                cases t with
                | nil => simp [bi] at hlt
                | cons y t => simp [bi]
        · rw [dcI_short h0 h1 T.read hl] at h
          exact absurd (congrArg Prod.snd h).symm hn
      · rw [dcI_none h0 h1 hnn] at h
        exact absurd (congrArg Prod.snd h).symm hn
    · rw [dcI_bad hw] at h
      exact absurd (congrArg Prod.snd h).symm hn
theorem dc_zero {l : List Int} {i : In} (h : dcI l = (i, 0)) : i = nil10 := by
  cases l with
  | nil => exact (congrArg Prod.fst h).symm
  | cons w t =>
    by_cases hw : 0 ≤ w ∧ w ≤ 65535
    · obtain ⟨h0, h1⟩ := hw
      cases hr : readR w with
      | none => rw [dcI_none h0 h1 hr] at h; exact (congrArg Prod.fst h).symm
      | some e =>
        by_cases hl : nR (shR w) ≤ (t.length : Int) + 1
        · cases hV : vR (extI (shR w) t)
          · rw [dcI_out h0 h1 hr hV] at h; exact (congrArg Prod.fst h).symm
          · rw [dcI_in h0 h1 hr hl hV] at h
            have e2 : nR (shR w) = 0 := congrArg Prod.snd h
            exfalso
            unfold nR at e2
            revert e2
            cases exS (shR w) <;> cases exD (shR w) <;> decide
        · rw [dcI_short h0 h1 hr hl] at h; exact (congrArg Prod.fst h).symm
    · rw [dcI_bad hw] at h; exact (congrArg Prod.fst h).symm
theorem uniq {i j : In} (hi : vR i = true) (hj : vR j = true) : wdR i = wdR j ↔ i = j := by
  refine ⟨fun h => ?_, fun h => by rw [h]⟩
  have h1 := dec_enc hi []
  have h2 := dec_enc hj []
  rw [h, h2] at h1
  exact (congrArg Prod.fst h1).symm

theorem drewN_below {B : Nat} {a w : World} (h : Below B a w) (q : Nat) : Below B a (w.drewN q) := ⟨h.os, h.tape, h.output, h.size, h.block⟩
theorem same_lists (la lb : List Int) (va vb : Value) (hl : la.length ≤ 1099511627776) (w : World) (ha : Nums .i64 w va la) (hb : Nums .i64 w vb lb) :
    Calls Tryd.prog 13 #[va, vb] w fun e w' => e = .returned (.bool (decide (la = lb))) ∧ Below w.heap.size w w' := by
  obtain ⟨A, ca, rfl, _, hca⟩ := ha
  obtain ⟨B, cb, rfl, _, hcb⟩ := hb
  by_cases hL : la.length = lb.length
  · rw [← hL]
    go_enter Tryd.func13, Tryd.ntmps13
    go_wp2
    go_loopw [5] (fun i wr => ∃ k : Nat, k ≤ la.length ∧ i = .int .i64 k ∧ Below w.heap.size w wr ∧ Hid (∀ j, j < k → la[j]? = lb[j]?))
      (fun i _ => match i with | .int _ q => la.length - q.toNat | _ => 0)
    case atStart => exact ⟨0, Nat.zero_le _, rfl, Below.refl _ _, fun j h => by omega⟩
    case round =>
      obtain ⟨k, hk, rfl, hbr, hall⟩ := hrel
      by_cases hkl : k < la.length
      · have hx := List.getElem?_eq_getElem hkl
        have hy := List.getElem?_eq_getElem (show k < lb.length by omega)
        generalize la[k] = x at *
        generalize lb[k] = y at *
        obtain ⟨a, rfl, ha1, ha2⟩ := hca k x hx
        obtain ⟨b, rfl, hb1, hb2⟩ := hcb k y hy
        have hcx := (hbr.cell ha2).trans ha1
        have hcy := (hbr.cell hb2).trans hb1
        clear hca hcb ha1 hb1 ha2 hb2
        have b0 : (0 : Int) ≤ (k : Int) := by omega
        have b1 : (k : Int) < (la.length : Int) := by omega
        by_cases hxy : x = y
        · subst hxy
          have hx := hid hx
          have hy := hid hy
          go_wp2
          go_quiet (fail)
          go_wp2
          refine ⟨⟨k + 1, by omega, by go_num, drewN_below hbr nq, fun j hj => ?_⟩, ?_⟩
          · rcases Nat.lt_or_ge j k with h | h
            · exact hall j h
            · obtain rfl : j = k := by omega
              exact Eq.trans hx (Eq.symm hy)
          · simp only; omega
        · have hne : decide (la = lb) = false := decide_eq_false (fun h => by rw [h, hy] at hx; exact hxy (Option.some.inj hx).symm)
          have hxb : (x != y) = true := by simpa using hxy
          have hne2 := hid hne
          clear hne hx hy
          go_wp2
          go_quiet (fail)
          go_wp2
          go_ret
          exact ⟨ret_bool (Eq.symm hne2), drewN_below hbr nq⟩
      · have he : la = lb := by
          apply List.ext_getElem?
          intro j
          rcases Nat.lt_or_ge j la.length with h | h
          · exact hall j (by omega)
          · rw [List.getElem?_eq_none h, List.getElem?_eq_none (by omega)]
        clear hca hcb
        go_wp2
        go_ret
        exact ⟨ret_bool (by rw [decide_eq_true he]), hbr⟩
  · have hne : decide (la = lb) = false := decide_eq_false (fun h => hL (by rw [h]))
    have hLi : ((la.length : Int) != (lb.length : Int)) = true := by simp; omega
    rw [hne]
    clear hne hca hcb
    go_enter Tryd.func13, Tryd.ntmps13
    go_wp2
    go_ret
    exact ⟨rfl, Below.refl _ _⟩

theorem same_eq (l : List Int) (va vb : Value) (hl : l.length ≤ 1099511627776) (w : World) (ha : Nums .i64 w va l) (hb : Nums .i64 w vb l) : Calls Tryd.prog 13 #[va, vb] w fun e w' => e = .returned (.bool true) ∧ Below w.heap.size w w' := by
  have k := same_lists l l va vb hl w ha hb
  rw [decide_eq_true rfl] at k
  exact k
theorem enc_len (i : In) : (encL i).length ≤ 1099511627776 := by
  unfold encL wdR
  split
  · cases exS i <;> cases exD i <;> simp
  · simp

end Go.Proofs.YtlaikajgpgpidaaDoor
