import Derived.Test.YthpnddgfgpacpaaGreatRW36
import Derived.Test.YthpnddgfgpacpaaGreatRW26
import Derived.Test.YthpnddgfgpacpaaGreatRW19
import Derived.Test.YthpnddgfgpacpaaGreatRW20
import Derived.Test.YthpnddgfgpacpaaGreatRW37
import Derived.Test.YthpnddgfgpacpaaGreatRW05
import Derived.Test.YthpnddgfgpacpaaGreatRW31
import Derived.RangeFuncCalls
import Derived.TacticsIn
/-
  The contracts of package tape. No condition.
-/
namespace Go.Proofs.YthpnddgfgpacpaaGreat
open Go.RowKit
set_option linter.unusedSimpArgs false
set_option linter.unusedVariables false
set_option maxHeartbeats 4000000
set_option maxRecDepth 100000
attribute [local irreducible] wpQuiet

theorem tp_len {K : Tp} (h : K.right = true) : K.R.length ≤ 1099511627776 := by have := ((Tp.right_iff K).1 h).1.1; omega
end Go.Proofs.YthpnddgfgpacpaaGreat
/-
  The devices but the lines: write, accept, reset; the tick of the clock. Condition: a valid machine.
-/
namespace Go.Proofs.YthpnddgfgpacpaaGreat
open Go.RowKit
set_option linter.unusedSimpArgs false
set_option linter.unusedVariables false
set_option maxHeartbeats 4000000
set_option maxRecDepth 100000
attribute [local irreducible] wpQuiet

theorem Kpt.one {B g : Nat} {w w' : World} (h : Kpt B B w w') : Kpt B g w w' := ⟨h.size, fun k hk h1 _ => h.same k hk h1 h1⟩
theorem Bag.drop1 {l : List (Nat × TypeId × List Value)} {w0 w : World} {a : Nat × TypeId × List Value} (h : Bag (a :: l) w0 w) : Bag l w0 w :=
  ⟨fun B t cs hm => h.all B t cs (List.mem_cons_of_mem _ hm), h.below, fun x hx => h.lo x (List.mem_cons_of_mem _ hx), (List.nodup_cons.1 h.dis).2⟩
theorem DSt.dev {X : Nat → Prop} {w0 w w' : World} {B g : Nat} {A A' : Ma} {vm vb vl vs vd vt vm' vb' vs' vd' vt' : Value} (h : DSt X w0 B g w A vm vb vl vs vd vt) (hK : Kpt B B w w') (hX : Bag [(B, 44, A'.cells vm' vb' vl vs' vd' vt')] w0 w') (hl : A'.L = A.L) (hm : ItsX (XY X B g) w' vm' A'.M) (hb : ItsX (XY X B g) w' vb' A'.B) (hs : StsX (XY X B g) w' vs' A'.K.D.S) (hd : ItsX (XY X B g) w' vd' A'.K.D.B) (ht : StsX (XY X B g) w' vt' A'.T.R) : DSt X w0 B g w' A' vm' vb' vl vs' vd' vt' := by
  refine ⟨hX, hm, hb, hs, hd, ht, ?_, fun b q => Nat.lt_of_lt_of_le (h.xl b q) hK.size⟩
  rw [hl]
  rcases h.row with h | ⟨h1, h2, h3, c, J, h4, h5, h6⟩
  · exact .inl h
  · exact .inr ⟨h1, h2, Nat.lt_of_lt_of_le h3 hK.size, c, J, h4, h5, (hK.same g h3 h1 h1).trans h6⟩
theorem md_write_0 (A : Ma) (hA : A.ok) (hR : A.right = true) (q v : Int) (vm vb vl vs vd vt : Value) (X : Nat → Prop) (w0 w : World) (B g : Nat) (hS : DSt X w0 B g w A vm vb vl vs vd vt) : Calls Tryz.prog 165 #[.agg #[], .pointer (some ⟨B, 0, none⟩), .int .i64 q, .int .i64 v] w (DevS X w0 B g w (A.dWrite q v 0).1 (.bool (A.dWrite q v 0).2)) := by
  have hL := Ma.len hA vs vd vt
  have hX := hS.bag.step ((Below.refl w.heap.size w).alloc (Nat.le_refl _) (.cells #[] 133))
  have hK := (Kpt.refl B B w).step ((Below.refl w.heap.size w).alloc (Nat.le_refl _) (.cells #[] 133))
  have o1 := hS.o1
  have o2 := hS.o2
  have o4 := hS.o4
  have o5 := hS.o5
  have o6 := hS.o6
  have hz := zero_unit
  have hu2 := un_wr_ok hA.2.2 q v
  have hc : ∀ wz, w.heap.size ≤ wz.heap.size → Kpt B B w wz → Calls Tryz.prog 169 #[.agg A.U.L.toArray, .int .i64 q, .int .i64 v] wz fun e' w' => e' = .returned (.tuple #[.agg (A.U.write q v).1.L.toArray, .bool (A.U.write q v).2]) ∧ Below wz.heap.size wz w' := fun wz _ _ => write_any_9 A.U hA.2.2 q v wz
  have e : A.dWrite q v 0 = (if (A.U.write q v).2 = true then ({ A with U := (A.U.write q v).1 }, true) else (A, false)) := rfl
  rw [e]
  clear e
  by_cases hw : (A.U.write q v).2 = true
  · rw [if_pos hw]
    rw [hw] at hc
    generalize (A.U.write q v).1 = R2 at *
    clear hw
    go_enter Tryz.func165, Tryz.ntmps165
    go_wp2_with (first | ((with_reducible refine at_ld 32 ?_); refine ldp hX agg_unit size_unit (get_u hL) (Un.len hA.2.2) ?_) | (go_at_call 169; (with_reducible refine (hc _ hK.size hK).mono ?_); rintro e' wc ⟨rfl, hbb⟩; replace hX := hX.step hbb; replace hK := hK.step hbb; clear hbb) | ((with_reducible refine at_st 32 ?_); refine stn hX agg_unit size_unit (un_one _) (hn := (Un.len hu2)) (hm := (Un.len (u := Un.z) rfl)) ?_; intro wS hY hbS; replace hX := hY; replace hK := hK.step hbS; clear hY hbS) | ((with_reducible refine at_ld 32 ?_); refine ldw (hn := (Un.len hu2)) hX agg_unit size_unit ?_) | ((with_reducible refine at_st 32 ?_); refine stp2 hX agg_unit size_unit (Ma.put_u (A := A) hA) (Un.len hu2) (by rw [Ma.clen (A := A) hA]; decide) (un_one _) ?_; intro wS hY hkS; replace hK := hK.put hkS (hY.all _ _ _ (.tail _ (.head _))); replace hX := hY; clear hY hkS))
    exact bodyPost_ret (results_tmp (by rfl) _ _ _) rfl ⟨rfl, ⟨_, _, _, _, _, _, DSt.dev hS hK hX.drop1 rfl (Sv.kb hS.m hK.one) (Sv.kb hS.b hK.one) (Sv.kb hS.s hK.one) (Sv.kb hS.d hK.one) (Sv.kb hS.t hK.one)⟩, hK.one⟩
  · rw [if_neg hw]
    have hw : (A.U.write q v).2 = false := by simpa using hw
    rw [hw] at hc
    generalize (A.U.write q v).1 = R2 at *
    clear hw
    go_enter Tryz.func165, Tryz.ntmps165
    go_wp2_with (first | ((with_reducible refine at_ld 32 ?_); refine ldp hX agg_unit size_unit (get_u hL) (Un.len hA.2.2) ?_) | (go_at_call 169; (with_reducible refine (hc _ hK.size hK).mono ?_); rintro e' wc ⟨rfl, hbb⟩; replace hX := hX.step hbb; replace hK := hK.step hbb; clear hbb) | ((with_reducible refine at_st 32 ?_); refine stn hX agg_unit size_unit (un_one _) (hn := (Un.len hu2)) (hm := (Un.len (u := Un.z) rfl)) ?_; intro wS hY hbS; replace hX := hY; replace hK := hK.step hbS; clear hY hbS))
    exact bodyPost_ret (results_tmp (by rfl) _ _ _) rfl ⟨rfl, ⟨_, _, _, _, _, _, DSt.dev hS hK hX.drop1 rfl (Sv.kb hS.m hK.one) (Sv.kb hS.b hK.one) (Sv.kb hS.s hK.one) (Sv.kb hS.d hK.one) (Sv.kb hS.t hK.one)⟩, hK.one⟩
theorem md_write_2 (A : Ma) (hA : A.ok) (hR : A.right = true) (q v : Int) (vm vb vl vs vd vt : Value) (X : Nat → Prop) (w0 w : World) (B g : Nat) (hS : DSt X w0 B g w A vm vb vl vs vd vt) : Calls Tryz.prog 200 #[.agg #[], .pointer (some ⟨B, 0, none⟩), .int .i64 q, .int .i64 v] w (DevS X w0 B g w (A.dWrite q v 2).1 (.bool (A.dWrite q v 2).2)) := by
  have hL := Ma.len hA vs vd vt
  have hX := hS.bag.step ((Below.refl w.heap.size w).alloc (Nat.le_refl _) (.cells #[] 135))
  have hK := (Kpt.refl B B w).step ((Below.refl w.heap.size w).alloc (Nat.le_refl _) (.cells #[] 135))
  have o1 := hS.o1
  have o2 := hS.o2
  have o4 := hS.o4
  have o5 := hS.o5
  have o6 := hS.o6
  have hr := (Ma.parts hR).2.2.2.2.2.1
  have hc : ∀ wz, w.heap.size ≤ wz.heap.size → Kpt B B w wz → Calls Tryz.prog 207 #[.agg (dkL vs vd A.K).toArray, .int .i64 q, .int .i64 v] wz fun e' w' => ∃ v1 v2, e' = .returned (.tuple #[.agg (dkL v1 v2 (A.K.wr q v).1).toArray, .bool (A.K.wr q v).2]) ∧ StsX (XY X B g) w' v1 (A.K.wr q v).1.D.S ∧ ItsX (XY X B g) w' v2 (A.K.wr q v).1.D.B ∧ Below wz.heap.size wz w' := fun wz hq hk => (pwriteK_any A.K (dk_lens hr).2 (dk_lens hr).1 q v vs vd (XY X B g) wz (fun b q => Nat.lt_of_lt_of_le (hS.xl b q) hq) (Sv.kb hS.s hk.one).now (Sv.kb hS.d hk.one).now).mono (by rintro e' w' ⟨x, he, ⟨v1, v2, rfl, h1, h2⟩, hb⟩; exact ⟨v1, v2, he, h1, h2, hb⟩)
  have e : A.dWrite q v 2 = (if (A.K.wr q v).2 = true then ({ A with K := (A.K.wr q v).1 }, true) else (A, false)) := rfl
  rw [e]
  clear e
  by_cases hw : (A.K.wr q v).2 = true
  · rw [if_pos hw]
    rw [hw] at hc
    generalize (A.K.wr q v).1 = R2 at *
    clear hw
    go_enter Tryz.func200, Tryz.ntmps200
    go_wp2_with (first | ((with_reducible refine at_ld 40 ?_); refine ldp hX aggK sizK (get_d hL) rfl ?_) | (go_at_call 207; (with_reducible refine (hc _ hK.size hK).mono ?_); rintro e' wc ⟨v1, v2, rfl, h1, h2, hbb⟩; replace hX := hX.step hbb; replace hK := hK.step hbb; have p1 := rz_one h1.now; have p2 := rz_one h2.now; clear hbb) | ((with_reducible refine at_st 40 ?_); refine stn hX aggK sizK (dk_one p1 p2) (hn := rfl) (hm := rfl) ?_; intro wS hY hbS; replace hX := hY; replace hK := hK.step hbS; replace h1 := Sv.below h1 hbS; replace h2 := Sv.below h2 hbS; clear hY hbS) | ((with_reducible refine at_ld 40 ?_); refine ldw (hn := rfl) hX aggK sizK ?_) | ((with_reducible refine at_st 40 ?_); refine stp2 hX aggK sizK (Ma.put_d (A := A) hA) rfl (by rw [Ma.clen (A := A) hA]; decide) (dk_one p1 p2) ?_; intro wS hY hkS; replace hK := hK.put hkS (hY.all _ _ _ (.tail _ (.head _))); replace h1 := Sv.over18 h1 hkS (.inr (.inl rfl)); replace h2 := Sv.over18 h2 hkS (.inr (.inl rfl)); replace hX := hY; clear hY hkS))
    exact bodyPost_ret (results_tmp (by rfl) _ _ _) rfl ⟨rfl, ⟨_, _, _, _, _, _, DSt.dev hS hK hX.drop1 rfl (Sv.kb hS.m hK.one) (Sv.kb hS.b hK.one) h1 h2 (Sv.kb hS.t hK.one)⟩, hK.one⟩
  · rw [if_neg hw]
    have hw : (A.K.wr q v).2 = false := by simpa using hw
    rw [hw] at hc
    generalize (A.K.wr q v).1 = R2 at *
    clear hw
    go_enter Tryz.func200, Tryz.ntmps200
    go_wp2_with (first | ((with_reducible refine at_ld 40 ?_); refine ldp hX aggK sizK (get_d hL) rfl ?_) | (go_at_call 207; (with_reducible refine (hc _ hK.size hK).mono ?_); rintro e' wc ⟨v1, v2, rfl, h1, h2, hbb⟩; replace hX := hX.step hbb; replace hK := hK.step hbb; have p1 := rz_one h1.now; have p2 := rz_one h2.now; clear hbb) | ((with_reducible refine at_st 40 ?_); refine stn hX aggK sizK (dk_one p1 p2) (hn := rfl) (hm := rfl) ?_; intro wS hY hbS; replace hX := hY; replace hK := hK.step hbS; replace h1 := Sv.below h1 hbS; replace h2 := Sv.below h2 hbS; clear hY hbS))
    exact bodyPost_ret (results_tmp (by rfl) _ _ _) rfl ⟨rfl, ⟨_, _, _, _, _, _, DSt.dev hS hK hX.drop1 rfl (Sv.kb hS.m hK.one) (Sv.kb hS.b hK.one) (Sv.kb hS.s hK.one) (Sv.kb hS.d hK.one) (Sv.kb hS.t hK.one)⟩, hK.one⟩
theorem md_write_3 (A : Ma) (hA : A.ok) (hR : A.right = true) (q v : Int) (vm vb vl vs vd vt : Value) (X : Nat → Prop) (w0 w : World) (B g : Nat) (hS : DSt X w0 B g w A vm vb vl vs vd vt) : Calls Tryz.prog 238 #[.agg #[], .pointer (some ⟨B, 0, none⟩), .int .i64 q, .int .i64 v] w (DevS X w0 B g w (A.dWrite q v 3).1 (.bool (A.dWrite q v 3).2)) := by
  have hL := Ma.len hA vs vd vt
  have hX := hS.bag.step ((Below.refl w.heap.size w).alloc (Nat.le_refl _) (.cells #[] 136))
  have hK := (Kpt.refl B B w).step ((Below.refl w.heap.size w).alloc (Nat.le_refl _) (.cells #[] 136))
  have o1 := hS.o1
  have o2 := hS.o2
  have o4 := hS.o4
  have o5 := hS.o5
  have o6 := hS.o6
  have hr := (Ma.parts hR).2.2.2.2.2.2
  have hc : ∀ wz, w.heap.size ≤ wz.heap.size → Kpt B B w wz → Calls Tryz.prog 245 #[.agg (tpL vt A.T).toArray, .int .i64 q, .int .i64 v] wz fun e' w' => ∃ v1, e' = .returned (.tuple #[.agg (tpL v1 (A.T.wr q v).1).toArray, .bool (A.T.wr q v).2]) ∧ StsX (XY X B g) w' v1 (A.T.wr q v).1.R ∧ Below wz.heap.size wz w' := fun wz hq hk => (pwriteT_any A.T (tp_len hr) q v vt (XY X B g) wz (fun b q => Nat.lt_of_lt_of_le (hS.xl b q) hq) (Sv.kb hS.t hk.one).now).mono (by rintro e' w' ⟨x, he, ⟨v1, rfl, h1⟩, hb⟩; exact ⟨v1, he, h1, hb⟩)
  have e : A.dWrite q v 3 = (if (A.T.wr q v).2 = true then ({ A with T := (A.T.wr q v).1 }, true) else (A, false)) := rfl
  rw [e]
  clear e
  by_cases hw : (A.T.wr q v).2 = true
  · rw [if_pos hw]
    rw [hw] at hc
    generalize (A.T.wr q v).1 = R2 at *
    clear hw
    go_enter Tryz.func238, Tryz.ntmps238
    go_wp2_with (first | ((with_reducible refine at_ld 42 ?_); refine ldp hX aggT sizT (get_t hL) rfl ?_) | (go_at_call 245; (with_reducible refine (hc _ hK.size hK).mono ?_); rintro e' wc ⟨v1, rfl, h1, hbb⟩; replace hX := hX.step hbb; replace hK := hK.step hbb; have p1 := rz_one h1.now; clear hbb) | ((with_reducible refine at_st 42 ?_); refine stn hX aggT sizT (tpL_one p1) (hn := rfl) (hm := rfl) ?_; intro wS hY hbS; replace hX := hY; replace hK := hK.step hbS; replace h1 := Sv.below h1 hbS; clear hY hbS) | ((with_reducible refine at_ld 42 ?_); refine ldw (hn := rfl) hX aggT sizT ?_) | ((with_reducible refine at_st 42 ?_); refine stp2 hX aggT sizT (Ma.put_t (A := A) hA) rfl (by rw [Ma.clen (A := A) hA]; decide) (tpL_one p1) ?_; intro wS hY hkS; replace hK := hK.put hkS (hY.all _ _ _ (.tail _ (.head _))); replace h1 := Sv.over18 h1 hkS (.inr (.inl rfl)); replace hX := hY; clear hY hkS))
    exact bodyPost_ret (results_tmp (by rfl) _ _ _) rfl ⟨rfl, ⟨_, _, _, _, _, _, DSt.dev hS hK hX.drop1 rfl (Sv.kb hS.m hK.one) (Sv.kb hS.b hK.one) (Sv.kb hS.s hK.one) (Sv.kb hS.d hK.one) h1⟩, hK.one⟩
  · rw [if_neg hw]
    have hw : (A.T.wr q v).2 = false := by simpa using hw
    rw [hw] at hc
    generalize (A.T.wr q v).1 = R2 at *
    clear hw
    go_enter Tryz.func238, Tryz.ntmps238
    go_wp2_with (first | ((with_reducible refine at_ld 42 ?_); refine ldp hX aggT sizT (get_t hL) rfl ?_) | (go_at_call 245; (with_reducible refine (hc _ hK.size hK).mono ?_); rintro e' wc ⟨v1, rfl, h1, hbb⟩; replace hX := hX.step hbb; replace hK := hK.step hbb; have p1 := rz_one h1.now; clear hbb) | ((with_reducible refine at_st 42 ?_); refine stn hX aggT sizT (tpL_one p1) (hn := rfl) (hm := rfl) ?_; intro wS hY hbS; replace hX := hY; replace hK := hK.step hbS; replace h1 := Sv.below h1 hbS; clear hY hbS))
    exact bodyPost_ret (results_tmp (by rfl) _ _ _) rfl ⟨rfl, ⟨_, _, _, _, _, _, DSt.dev hS hK hX.drop1 rfl (Sv.kb hS.m hK.one) (Sv.kb hS.b hK.one) (Sv.kb hS.s hK.one) (Sv.kb hS.d hK.one) (Sv.kb hS.t hK.one)⟩, hK.one⟩
theorem md_write_1 (A : Ma) (hA : A.ok) (q v : Int) (vm vb vl vs vd vt : Value) (X : Nat → Prop) (w0 w : World) (B g : Nat) (hS : DSt X w0 B g w A vm vb vl vs vd vt) : Calls Tryz.prog 185 #[.agg #[], .pointer (some ⟨B, 0, none⟩), .int .i64 q, .int .i64 v] w (DevS X w0 B g w (A.dWrite q v 1).1 (.bool (A.dWrite q v 1).2)) := by
  have hL := Ma.len hA vs vd vt
  have hX := hS.bag.step ((Below.refl w.heap.size w).alloc (Nat.le_refl _) (.cells #[] 134))
  have hK := (Kpt.refl B B w).step ((Below.refl w.heap.size w).alloc (Nat.le_refl _) (.cells #[] 134))
  have o1 := hS.o1
  have o2 := hS.o2
  have o4 := hS.o4
  have o5 := hS.o5
  have o6 := hS.o6
  have hc : ∀ wz, Calls Tryz.prog 192 #[.agg A.k.L.toArray, .int .i64 v] wz fun e' w' => e' = .returned (.agg (A.k.write v).L.toArray) ∧ Below wz.heap.size wz w' := fun wz => pwrite_any_13 A.k v wz
  have e : A.dWrite q v 1 = (if q = 0 then ({ A with k := A.k.write v }, true) else (A, false)) := rfl
  rw [e]
  clear e
  by_cases hw : q = 0
  · rw [if_pos hw]
    subst hw
    go_enter Tryz.func185, Tryz.ntmps185
    go_wp2_with (first | ((with_reducible refine at_ld 34 ?_); refine ldp hX aggK_13 sizK_13 (get_k hL) rfl ?_) | (go_at_call 192; (with_reducible refine (hc _).mono ?_); rintro e' wc ⟨rfl, hbb⟩; replace hX := hX.step hbb; replace hK := hK.step hbb; clear hbb) | ((with_reducible refine at_st 34 ?_); refine stp1 hX aggK_13 sizK_13 (Ma.put_k (A := A) hA) rfl (by rw [Ma.clen (A := A) hA]; decide) (ck_one _) ?_; intro wS hY hkS; replace hK := hK.put hkS (hY.all _ _ _ (.head _)); replace hX := hY; clear hY hkS))
    exact bodyPost_ret (results_tmp (by rfl) _ _ _) rfl ⟨rfl, ⟨_, _, _, _, _, _, DSt.dev hS hK hX rfl (Sv.kb hS.m hK.one) (Sv.kb hS.b hK.one) (Sv.kb hS.s hK.one) (Sv.kb hS.d hK.one) (Sv.kb hS.t hK.one)⟩, hK.one⟩
  · rw [if_neg hw]
    have e0 : (q != 0) = true := by simpa using hw
    go_enter Tryz.func185, Tryz.ntmps185
    go_wp2
    exact bodyPost_ret (results_tmp (by rfl) _ _ _) rfl ⟨rfl, ⟨_, _, _, _, _, _, DSt.dev hS hK hX rfl (Sv.kb hS.m hK.one) (Sv.kb hS.b hK.one) (Sv.kb hS.s hK.one) (Sv.kb hS.d hK.one) (Sv.kb hS.t hK.one)⟩, hK.one⟩
end Go.Proofs.YthpnddgfgpacpaaGreat
/-
  XHoS's region where the class of worlds holds up to one operation alone (a store into the box that was loaded): what yields in the class must be waited for by that operation; what yields in every world may come up at any time. General. No condition.
-/
namespace Go.Proofs.YthpnddgfgpacpaaGreat
open Go Go.RowKit
set_option linter.unusedVariables false
set_option linter.unusedSimpArgs false

section
variable {P : Program} {ops : Array Oper} {md : Region.Mode} {Q : Exit → Act → World → Prop} {S : World → Prop}
theorem wpOp_list {i : Nat} {o : Oper} {K : Act → World → Prop} {a : Act} {w : World} (hi : ops[i]? = some o) (h : wpList P ops (Exit.then K Q) [o] a w) : wpOp P ops Q i K a w := by
  unfold wpOp
  simp only [hi]
  exact h
theorem wpList_end {a : Act} {w : World} {K : Act → World → Prop} (h : K a w) : wpList P ops (Exit.then K Q) [] a w := h
end
end Go.Proofs.YthpnddgfgpacpaaGreat
/-
  Loops over the devices: what they carry. No condition.
-/
namespace Go.Proofs.YthpnddgfgpacpaaGreat
open Go.RowKit Go.Shelf
set_option linter.unusedSimpArgs false
set_option linter.unusedVariables false
set_option maxHeartbeats 4000000
set_option maxRecDepth 100000
attribute [local irreducible] wpQuiet

theorem Sv.of_own2 {X : Nat → Prop} {w : World} {base s n : Nat} {t : TypeId} {v : Value} {xs : List Value} (h : w.ownsRow base t s v n xs) (hX : ∀ b, X b → base ≤ b → ∀ cur, w.heap[b]? = some (.cells cur t (0, 0)) → False) : Sv X w v n xs := fun w' hk => by
  refine Rz.of_own (w := w') (base := base) (s := s) (t := t) ⟨h.1, ?_⟩
  rcases h.2 with h0 | ⟨g, cap, cur, hv, hg, hh, r⟩
  · exact .inl h0
  · exact .inr ⟨g, cap, cur, hv, hg, (hk g (Array.getElem?_eq_some_iff.1 hh).1 (fun hx => hX g hx hg cur hh)).trans hh, r⟩
/-- A machine whose row of lines the call has made. -/
theorem DSt.fresh {X : Nat → Prop} {w0 w : World} {B N : Nat} {A : Ma} {vm vb vl vs vd vt : Value} (hXl : ∀ b, X b → b < N) (hNl : N ≤ w.heap.size) (hX : Bag [(B, 44, A.cells vm vb vl vs vd vt)] w0 w) (hBN : B < N) (hN : w0.heap.size ≤ N) (hm : ∀ g, (g = B ∨ N ≤ g ∧ ∃ cur, w.heap[g]? = some (.cells cur 68 (0, 0))) → ItsX (XY X B g) w vm A.M ∧ ItsX (XY X B g) w vb A.B ∧ StsX (XY X B g) w vs A.K.D.S ∧ ItsX (XY X B g) w vd A.K.D.B ∧ StsX (XY X B g) w vt A.T.R) (ql : w.ownsRow N 68 9 vl A.L.length (A.L.flatMap lnL)) : ∃ g, DSt X w0 B g w A vm vb vl vs vd vt ∧ (g = B ∨ N ≤ g ∧ ∃ cur, w.heap[g]? = some (.cells cur 68 (0, 0))) := by
  have hBl := (hX.all _ _ _ (.head _)).lt
  have hBh := hX.all _ _ _ (.head _)
  rcases ql.2 with ⟨rfl, h0⟩ | ⟨g, cap, cur, rfl, hg, hh, hnc, hm9, hcs, hxs⟩
  · obtain ⟨h1, h2, h3, h4, h5⟩ := hm B (.inl rfl)
    refine ⟨B, ⟨hX, h1, h2, h3, h4, h5, .inl ⟨List.eq_nil_of_length_eq_zero h0, rfl⟩, fun b q => ?_⟩, .inl rfl⟩
    rcases q with q | rfl | rfl
    · exact Nat.lt_of_lt_of_le (hXl b q) hNl
    · exact hBl
    · exact hBl
  · have hgl := (Array.getElem?_eq_some_iff.1 hh).1
    obtain ⟨h1, h2, h3, h4, h5⟩ := hm g (.inr ⟨hg, cur, hh⟩)
    refine ⟨g, ⟨hX, h1, h2, h3, h4, h5, .inr ⟨by omega, by omega, hgl, cap, cur.toList.drop (A.L.length * 9), rfl, hnc, ?_⟩, fun b q => ?_⟩, .inr ⟨hg, cur, hh⟩⟩
    · show w.heap[g]? = some _
      rw [hh, ← hxs, List.take_append_drop]
    · rcases q with q | rfl | rfl
      · exact Nat.lt_of_lt_of_le (hXl b q) hNl
      · exact hBl
      · exact hgl
/-- A row of the call's own, of another type, is read whatever becomes of the machine and its lines. -/
theorem Sv.fresh {X : Nat → Prop} {w : World} {N B g s n : Nat} {t : TypeId} {v : Value} {xs : List Value} (h : w.ownsRow N t s v n xs) (hX : ∀ b, X b → b < N) (hB : B < N) (ht : t ≠ 68) (hg : g = B ∨ N ≤ g ∧ ∃ cur, w.heap[g]? = some (.cells cur 68 (0, 0))) : Sv (XY X B g) w v n xs :=
  Sv.of_own2 h fun b q hb cur e => by
    rcases q with q | rfl | rfl
    · have := hX b q; omega
    · omega
    · rcases hg with rfl | ⟨_, c2, h2⟩
      · omega
      · rw [e] at h2; cases h2; exact ht rfl
theorem DSt.copied {X : Nat → Prop} {w0 w : World} {B N : Nat} {A : Ma} {vm vb vl vs vd vt : Value} (hXl : ∀ b, X b → b < N) (hNl : N ≤ w.heap.size) (hX : Bag [(B, 44, A.cells vm vb vl vs vd vt)] w0 w) (hBN : B < N) (hN : w0.heap.size ≤ N) (qm : w.ownsRow N 3 1 vm A.M.length (A.M.map (Value.int .i64))) (qb : w.ownsRow N 3 1 vb A.B.length (A.B.map (Value.int .i64))) (hF : FrD N w A vl vs vd vt) : ∃ g, DSt X w0 B g w A vm vb vl vs vd vt ∧ (g = B ∨ N ≤ g ∧ ∃ cur, w.heap[g]? = some (.cells cur 68 (0, 0))) :=
  DSt.fresh hXl hNl hX hBN hN (fun g hg => ⟨Sv.fresh qm hXl hBN (by decide) hg, Sv.fresh qb hXl hBN (by decide) hg, Sv.fresh hF.s hXl hBN (by decide) hg, Sv.fresh hF.d hXl hBN (by decide) hg, Sv.fresh hF.t hXl hBN (by decide) hg⟩) hF.l
/-- Other boxes of the call's own. -/
theorem Bag.kpt {R : List (Nat × TypeId × List Value)} {w0 w w' : World} {B g : Nat} (h : Bag R w0 w) (hK : Kpt B g w w') (hR : ∀ b ∈ R, b.1 ≠ B ∧ b.1 ≠ g) (hb : Below w0.heap.size w0 w') : Bag R w0 w' :=
  ⟨fun b t cs hm => (hK.same b (h.all b t cs hm).lt (hR _ hm).1 (hR _ hm).2).trans (h.all b t cs hm), hb, h.lo, h.dis⟩
/-- What a loop carries: the machine as the devices so far have left it; other boxes. -/
def LpI (R : List (Nat × TypeId × List Value)) (X : Nat → Prop) (w0 : World) (B g N : Nat) (A : Ma) (W : World) : Prop := (∃ vm vb vl vs vd vt, DSt X w0 B g W A vm vb vl vs vd vt) ∧ Bag R w0 W ∧ N ≤ W.heap.size
theorem LpI.own {β : Type} {N : Nat} {R : List (Nat × TypeId × List Value)} {X : Nat → Prop} {w0 : World} {B g : Nat} (f : β → Ma) (hN : w0.heap.size ≤ N) : OwnFrom N (fun (s : β) W => LpI R X w0 B g N (f s) W) :=
  fun s W W' row hs hg hr => by
    obtain ⟨⟨vm, vb, vl, vs, vd, vt, hS⟩, hB, hz⟩ := hs
    have hr' : ∀ r, row = some r → w0.heap.size ≤ r ∧ NoCells W r := fun r e => ⟨Nat.le_trans hN (hr r e).1, (hr r e).2⟩
    exact ⟨⟨_, _, _, _, _, _, hS.grown hg hr'⟩, hB.grown hg hr', Nat.le_trans hz hg.size⟩
theorem Kpt.from {B g N : Nat} {W W' : World} (h : Kpt B g W W') (hB : B < N) (hg : g < N) : KeepsFrom N W W' :=
  ⟨h.size, fun k o hk ho _ => (h.same k (Array.getElem?_eq_some_iff.1 ho).1 (by omega) (by omega)).trans ho⟩
theorem Bag.two {a b : Nat × TypeId × List Value} {w0 w : World} (ha : Bag [a] w0 w) (hb : Bag [b] w0 w) (hne : a.1 ≠ b.1) : Bag [a, b] w0 w := by
  refine ⟨fun B t cs hm => ?_, ha.below, fun x hx => ?_, ?_⟩
  · rcases List.mem_cons.1 hm with e | e
    · exact ha.all B t cs (by rw [← e]; exact .head _)
    · exact hb.all B t cs e
  · rcases List.mem_cons.1 hx with e | e
    · rw [e]; exact ha.lo a (.head _)
    · exact hb.lo x e
  · simp only [List.map_cons, List.map_nil, List.nodup_cons, List.mem_cons, List.not_mem_nil, or_false, not_false_eq_true, List.nodup_nil, and_true]
    exact hne
/-- X, and the box of the result. -/
def XR (X : Nat → Prop) (r b : Nat) : Prop := X b ∨ b = r
/-- The result lies in another box: what has been reached is what is returned. -/
theorem MaV.to {X Y : Nat → Prop} {w w' : World} {A : Ma} {vm vb vl vs vd vt : Value} (h : MaV X w A vm vb vl vs vd vt) (hk : ∀ b, b < w.heap.size → ¬ X b → w'.heap[b]? = w.heap[b]?) (hY : ∀ b, Y b → X b) : MaV Y w' A vm vb vl vs vd vt := ⟨Sv.off h.m hk fun b _ q => hY b q, Sv.off h.b hk fun b _ q => hY b q, Sv.off h.l hk fun b _ q => hY b q, Sv.off h.s hk fun b _ q => hY b q, Sv.off h.d hk fun b _ q => hY b q, Sv.off h.t hk fun b _ q => hY b q⟩
theorem MaV.grown {X : Nat → Prop} {w w' : World} {A : Ma} {vm vb vl vs vd vt : Value} {row : Option Nat} (h : MaV X w A vm vb vl vs vd vt) (hg : w.grownBy w' row) (hr : ∀ r, row = some r → NoCells w r) : MaV X w' A vm vb vl vs vd vt := ⟨Sv.grown h.m hg hr, Sv.grown h.b hg hr, Sv.grown h.l hg hr, Sv.grown h.s hg hr, Sv.grown h.d hg hr, Sv.grown h.t hg hr⟩
theorem kpB_put {B : Nat} {w : World} (hB : B < w.heap.size) (W : World) (l : Nat) (o o' : Obj) (hl : w.heap.size ≤ l) (_ : W.heap[l]? = some o) (_ : o.isCells = false) (_ : o.isWalk = false) : KpB B W (W.putObj l o') := World.putObj_heap_other (by omega)
theorem Blk.loadVarC {P : Program} {t T : TypeId} {w : World} {B k : Nat} {cs : List Value} {v : Value} (h : Blk t w B cs) (hk : cs[k]? = some v) (hagg : ∀ w, (isAgg T).run P w = .ok false w) : (Go.loadVar T ⟨B, k, none⟩).run P w = .ok v w := by
  simp only [Go.loadVar, Sem.run_bind, hagg, Result.andThen_ok, Bool.false_eq_true, if_false]
  show (Sem.load _ _ _).run P w = _
  simp only [Sem.run, h.cell hk]
theorem fewM_of {A : Ma} (hR : A.right = true) : A.fewM := by
  obtain ⟨h1, _, h3, _, _, h6, h7⟩ := Ma.parts hR
  have h8 := dk_lens h6
  have h9 := mem_lens h3
  have h10 := tp_len h7
  exact ⟨⟨by omega, h8.1, h8.2, h10⟩, h9.1, h9.2⟩
end Go.Proofs.YthpnddgfgpacpaaGreat
/-
  XHoS's region in a round of a range over a function, at the fence that asks nothing. General. No condition.
-/
namespace Go.Proofs.YthpnddgfgpacpaaGreat
open Go Go.RowKit
set_option linter.unusedVariables false
set_option linter.unusedSimpArgs false

section
variable {P : Program} {ops : Array Oper} {Q : Exit → Act → World → Prop}
theorem wpHp_op {S : World → Prop} {F : Act → World → Prop} {i : Nat} {lo : List Oper} {l : List (Nat × Bool)} {a : Act} {w : World} {o : Oper} (ho : lo[i]? = some o)
    (h : ∀ K : Act → World → Prop, (∀ a' w', S w' → wpHp P lo.toArray Q S F l a' w' → K a' w') → wpList P lo.toArray (Exit.then K Q) [o] a w) : wpHp P lo.toArray Q S F ((i, true) :: l) a w :=
  wpOp_list (by rw [List.getElem?_toArray]; exact ho) (h _ fun _ _ h1 h2 => ⟨h1, h2⟩)
end
end Go.Proofs.YthpnddgfgpacpaaGreat
