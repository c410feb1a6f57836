import Derived.Test.YthpnddgfgpacpaaGreatRS32
import Derived.Test.YthpnddgfgpacpaaGreatRS04
import Derived.Test.YthpnddgfgpacpaaGreatRS26
import Derived.Test.YthpnddgfgpacpaaGreatRS33
import Derived.Test.YthpnddgfgpacpaaGreatRS16
/-
  The devices but the lines: write, accept, reset; the tick of the clock. Condition: a valid machine.
-/
namespace Go.Proofs.YthpnddgfgpacpaaGreat
open Go.RowKit
set_option linter.unusedSimpArgs false
set_option linter.unusedVariables false
set_option maxHeartbeats 4000000
set_option maxRecDepth 100000
attribute [local irreducible] wpQuiet

theorem Kpt.one {B g : Nat} {w w' : World} (h : Kpt B B w w') : Kpt B g w w' := ⟨h.size, fun k hk h1 _ => h.same k hk h1 h1⟩
theorem Bag.drop1 {l : List (Nat × TypeId × List Value)} {w0 w : World} {a : Nat × TypeId × List Value} (h : Bag (a :: l) w0 w) : Bag l w0 w :=
  ⟨fun B t cs hm => h.all B t cs (List.mem_cons_of_mem _ hm), h.below, fun x hx => h.lo x (List.mem_cons_of_mem _ hx), (List.nodup_cons.1 h.dis).2⟩
theorem DSt.dev {X : Nat → Prop} {w0 w w' : World} {B g : Nat} {A A' : Ma} {vm vb vl vs vd vt vm' vb' vs' vd' vt' : Value} (h : DSt X w0 B g w A vm vb vl vs vd vt) (hK : Kpt B B w w') (hX : Bag [(B, 44, A'.cells vm' vb' vl vs' vd' vt')] w0 w') (hl : A'.L = A.L) (hm : ItsX (XY X B g) w' vm' A'.M) (hb : ItsX (XY X B g) w' vb' A'.B) (hs : StsX (XY X B g) w' vs' A'.K.D.S) (hd : ItsX (XY X B g) w' vd' A'.K.D.B) (ht : StsX (XY X B g) w' vt' A'.T.R) : DSt X w0 B g w' A' vm' vb' vl vs' vd' vt' := by
  refine ⟨hX, hm, hb, hs, hd, ht, ?_, fun b q => Nat.lt_of_lt_of_le (h.xl b q) hK.size⟩
  rw [hl]
  rcases h.row with h | ⟨h1, h2, h3, c, J, h4, h5, h6⟩
  · exact .inl h
  · exact .inr ⟨h1, h2, Nat.lt_of_lt_of_le h3 hK.size, c, J, h4, h5, (hK.same g h3 h1 h1).trans h6⟩
theorem md_accept_1 (A : Ma) (hA : A.ok) (hR : A.right = true) (v : Int) (vm vb vl vs vd vt : Value) (X : Nat → Prop) (w0 w : World) (B g : Nat) (hS : DSt X w0 B g w A vm vb vl vs vd vt) : Calls Tryz.prog 179 #[.agg #[], .pointer (some ⟨B, 0, none⟩), .int .i64 v] w (DevS X w0 B g w (A.dAcc v 1) (.tuple #[])) := by
  have hL := Ma.len hA vs vd vt
  have hX := hS.bag.step ((Below.refl w.heap.size w).alloc (Nat.le_refl _) (.cells #[] 134))
  have hK := (Kpt.refl B B w).step ((Below.refl w.heap.size w).alloc (Nat.le_refl _) (.cells #[] 134))
  have o1 := hS.o1
  have o2 := hS.o2
  have o4 := hS.o4
  have o5 := hS.o5
  have o6 := hS.o6
  have hc : ∀ wz, Calls Tryz.prog 186 #[.agg A.k.L.toArray, .int .i64 v] wz fun e' w' => e' = .returned (.agg (A.k.acc v).L.toArray) ∧ Below wz.heap.size wz w' := fun wz => pacc_any A.k v wz
  go_enter Tryz.func179, Tryz.ntmps179
  go_wp2_with (first | ((with_reducible refine at_ld 34 ?_); refine ldp hX aggK_13 sizK_13 (get_k hL) rfl ?_) | (go_at_call 186; (with_reducible refine (hc _).mono ?_); rintro e' wc ⟨rfl, hbb⟩; replace hX := hX.step hbb; replace hK := hK.step hbb; clear hbb) | ((with_reducible refine at_st 34 ?_); refine stp1 hX aggK_13 sizK_13 (Ma.put_k (A := A) hA) rfl (by rw [Ma.clen (A := A) hA]; decide) (ck_one _) ?_; intro wS hY hkS; replace hK := hK.put hkS (hY.all _ _ _ (.head _)); replace hX := hY; clear hY hkS))
  exact bodyPost_end (results_none rfl _ _ _) rfl ⟨rfl, ⟨_, _, _, _, _, _, DSt.dev hS hK hX rfl (Sv.kb hS.m hK.one) (Sv.kb hS.b hK.one) (Sv.kb hS.s hK.one) (Sv.kb hS.d hK.one) (Sv.kb hS.t hK.one)⟩, hK.one⟩
theorem md_reset_1 (A : Ma) (hA : A.ok) (hR : A.right = true) (vm vb vl vs vd vt : Value) (X : Nat → Prop) (w0 w : World) (B g : Nat) (hS : DSt X w0 B g w A vm vb vl vs vd vt) : Calls Tryz.prog 182 #[.agg #[], .pointer (some ⟨B, 0, none⟩)] w (DevS X w0 B g w (A.dReset 1) (.tuple #[])) := by
  have hL := Ma.len hA vs vd vt
  have hX := hS.bag.step ((Below.refl w.heap.size w).alloc (Nat.le_refl _) (.cells #[] 134))
  have hK := (Kpt.refl B B w).step ((Below.refl w.heap.size w).alloc (Nat.le_refl _) (.cells #[] 134))
  have o1 := hS.o1
  have o2 := hS.o2
  have o4 := hS.o4
  have o5 := hS.o5
  have o6 := hS.o6
  have hc : ∀ wz, Calls Tryz.prog 189 #[.agg A.k.L.toArray] wz fun e' w' => e' = .returned (.agg (A.k.reset).L.toArray) ∧ Below wz.heap.size wz w' := fun wz => preset_any A.k wz
  go_enter Tryz.func182, Tryz.ntmps182
  go_wp2_with (first | ((with_reducible refine at_ld 34 ?_); refine ldp hX aggK_13 sizK_13 (get_k hL) rfl ?_) | (go_at_call 189; (with_reducible refine (hc _).mono ?_); rintro e' wc ⟨rfl, hbb⟩; replace hX := hX.step hbb; replace hK := hK.step hbb; clear hbb) | ((with_reducible refine at_st 34 ?_); refine stp1 hX aggK_13 sizK_13 (Ma.put_k (A := A) hA) rfl (by rw [Ma.clen (A := A) hA]; decide) (ck_one _) ?_; intro wS hY hkS; replace hK := hK.put hkS (hY.all _ _ _ (.head _)); replace hX := hY; clear hY hkS))
  exact bodyPost_end (results_none rfl _ _ _) rfl ⟨rfl, ⟨_, _, _, _, _, _, DSt.dev hS hK hX rfl (Sv.kb hS.m hK.one) (Sv.kb hS.b hK.one) (Sv.kb hS.s hK.one) (Sv.kb hS.d hK.one) (Sv.kb hS.t hK.one)⟩, hK.one⟩
theorem md_reset_0 (A : Ma) (hA : A.ok) (hR : A.right = true) (vm vb vl vs vd vt : Value) (X : Nat → Prop) (w0 w : World) (B g : Nat) (hS : DSt X w0 B g w A vm vb vl vs vd vt) : Calls Tryz.prog 162 #[.agg #[], .pointer (some ⟨B, 0, none⟩)] w (DevS X w0 B g w (A.dReset 0) (.tuple #[])) := by
  have hL := Ma.len hA vs vd vt
  have hX := hS.bag.step ((Below.refl w.heap.size w).alloc (Nat.le_refl _) (.cells #[] 133))
  have hK := (Kpt.refl B B w).step ((Below.refl w.heap.size w).alloc (Nat.le_refl _) (.cells #[] 133))
  have o1 := hS.o1
  have o2 := hS.o2
  have o4 := hS.o4
  have o5 := hS.o5
  have o6 := hS.o6
  have hc : ∀ wz, Calls Tryz.prog 167 #[.agg A.U.L.toArray] wz fun e' w' => e' = .returned (.agg Un.z.L.toArray) ∧ Below wz.heap.size wz w' := fun wz => reset_any A.U hA.2.2 wz
  go_enter Tryz.func162, Tryz.ntmps162
  go_wp2_with (first | ((with_reducible refine at_ld 32 ?_); refine ldp hX agg_unit size_unit (get_u hL) (Un.len hA.2.2) ?_) | (go_at_call 167; (with_reducible refine (hc _).mono ?_); rintro e' wc ⟨rfl, hbb⟩; replace hX := hX.step hbb; replace hK := hK.step hbb; clear hbb) | ((with_reducible refine at_st 32 ?_); refine stp1 hX agg_unit size_unit (Ma.put_u (A := A) hA) (Un.len (u := Un.z) rfl) (by rw [Ma.clen (A := A) hA]; decide) (un_one _) ?_; intro wS hY hkS; replace hK := hK.put hkS (hY.all _ _ _ (.head _)); replace hX := hY; clear hY hkS))
  exact bodyPost_end (results_none rfl _ _ _) rfl ⟨rfl, ⟨_, _, _, _, _, _, DSt.dev hS hK hX rfl (Sv.kb hS.m hK.one) (Sv.kb hS.b hK.one) (Sv.kb hS.s hK.one) (Sv.kb hS.d hK.one) (Sv.kb hS.t hK.one)⟩, hK.one⟩
theorem md_accept_0 (A : Ma) (v : Int) (vm vb vl vs vd vt : Value) (X : Nat → Prop) (w0 w : World) (B g : Nat) (hS : DSt X w0 B g w A vm vb vl vs vd vt) : Calls Tryz.prog 159 #[.agg #[], .pointer (some ⟨B, 0, none⟩), .int .i64 v] w (DevS X w0 B g w A (.tuple #[])) := by
  have hb := (Below.refl w.heap.size w).alloc (Nat.le_refl _) (.cells #[] 133)
  go_enter Tryz.func159, Tryz.ntmps159
  go_wp2
  exact bodyPost_end (results_none rfl _ _ _) rfl ⟨rfl, ⟨_, _, _, _, _, _, hS.step hb⟩, (Kpt.refl B g w).step hb⟩
theorem md_accept_2 (A : Ma) (hA : A.ok) (hR : A.right = true) (v : Int) (vm vb vl vs vd vt : Value) (X : Nat → Prop) (w0 w : World) (B g : Nat) (hS : DSt X w0 B g w A vm vb vl vs vd vt) : Calls Tryz.prog 194 #[.agg #[], .pointer (some ⟨B, 0, none⟩), .int .i64 v] w (DevS X w0 B g w (A.dAcc v 2) (.tuple #[])) := by
  have hL := Ma.len hA vs vd vt
  have hX := hS.bag.step ((Below.refl w.heap.size w).alloc (Nat.le_refl _) (.cells #[] 135))
  have hK := (Kpt.refl B B w).step ((Below.refl w.heap.size w).alloc (Nat.le_refl _) (.cells #[] 135))
  have o1 := hS.o1
  have o2 := hS.o2
  have o4 := hS.o4
  have o5 := hS.o5
  have o6 := hS.o6
  have hr := (Ma.parts hR).2.2.2.2.2.1
  have hc : ∀ wz, w.heap.size ≤ wz.heap.size → Kpt B B w wz → Calls Tryz.prog 201 #[.agg (dkL vs vd A.K).toArray, .int .i64 v] wz fun e' w' => ∃ v1 v2, e' = .returned (.agg (dkL v1 v2 (A.K.acc v)).toArray) ∧ StsX (XY X B g) w' v1 (A.K.acc v).D.S ∧ ItsX (XY X B g) w' v2 (A.K.acc v).D.B ∧ Below wz.heap.size wz w' := fun wz hq hk => (paccK_any A.K (dk_lens hr).2 (dk_lens hr).1 v vs vd (XY X B g) wz (fun b q => Nat.lt_of_lt_of_le (hS.xl b q) hq) (Sv.kb hS.s hk.one).now (Sv.kb hS.d hk.one).now).mono (by rintro e' w' ⟨x, he, ⟨v1, v2, rfl, h1, h2⟩, hb⟩; exact ⟨v1, v2, he, h1, h2, hb⟩)
  go_enter Tryz.func194, Tryz.ntmps194
  go_wp2_with (first | ((with_reducible refine at_ld 40 ?_); refine ldp hX aggK sizK (get_d hL) rfl ?_) | (go_at_call 201; (with_reducible refine (hc _ hK.size hK).mono ?_); rintro e' wc ⟨v1, v2, rfl, h1, h2, hbb⟩; replace hX := hX.step hbb; replace hK := hK.step hbb; have p1 := rz_one h1.now; have p2 := rz_one h2.now; clear hbb) | ((with_reducible refine at_st 40 ?_); refine stp1 hX aggK sizK (Ma.put_d (A := A) hA) rfl (by rw [Ma.clen (A := A) hA]; decide) (dk_one p1 p2) ?_; intro wS hY hkS; replace hK := hK.put hkS (hY.all _ _ _ (.head _)); replace h1 := Sv.over18 h1 hkS (.inr (.inl rfl)); replace h2 := Sv.over18 h2 hkS (.inr (.inl rfl)); replace hX := hY; clear hY hkS))
  exact bodyPost_end (results_none rfl _ _ _) rfl ⟨rfl, ⟨_, _, _, _, _, _, DSt.dev hS hK hX rfl (Sv.kb hS.m hK.one) (Sv.kb hS.b hK.one) h1 h2 (Sv.kb hS.t hK.one)⟩, hK.one⟩
theorem md_reset_2 (A : Ma) (hA : A.ok) (hR : A.right = true) (vm vb vl vs vd vt : Value) (X : Nat → Prop) (w0 w : World) (B g : Nat) (hS : DSt X w0 B g w A vm vb vl vs vd vt) : Calls Tryz.prog 197 #[.agg #[], .pointer (some ⟨B, 0, none⟩)] w (DevS X w0 B g w (A.dReset 2) (.tuple #[])) := by
  have hL := Ma.len hA vs vd vt
  have hX := hS.bag.step ((Below.refl w.heap.size w).alloc (Nat.le_refl _) (.cells #[] 135))
  have hK := (Kpt.refl B B w).step ((Below.refl w.heap.size w).alloc (Nat.le_refl _) (.cells #[] 135))
  have o1 := hS.o1
  have o2 := hS.o2
  have o4 := hS.o4
  have o5 := hS.o5
  have o6 := hS.o6
  have hr := (Ma.parts hR).2.2.2.2.2.1
  have hc : ∀ wz, w.heap.size ≤ wz.heap.size → Kpt B B w wz → Calls Tryz.prog 204 #[.agg (dkL vs vd A.K).toArray] wz fun e' w' => ∃ v1 v2, e' = .returned (.agg (dkL v1 v2 (A.K.reset)).toArray) ∧ StsX (XY X B g) w' v1 (A.K.reset).D.S ∧ ItsX (XY X B g) w' v2 (A.K.reset).D.B ∧ Below wz.heap.size wz w' := fun wz hq hk => (presetK_any A.K (dk_lens hr).2 (dk_lens hr).1 vs vd (XY X B g) wz (fun b q => Nat.lt_of_lt_of_le (hS.xl b q) hq) (Sv.kb hS.s hk.one).now (Sv.kb hS.d hk.one).now).mono (by rintro e' w' ⟨x, he, ⟨v1, v2, rfl, h1, h2⟩, hb⟩; exact ⟨v1, v2, he, h1, h2, hb⟩)
  go_enter Tryz.func197, Tryz.ntmps197
  go_wp2_with (first | ((with_reducible refine at_ld 40 ?_); refine ldp hX aggK sizK (get_d hL) rfl ?_) | (go_at_call 204; (with_reducible refine (hc _ hK.size hK).mono ?_); rintro e' wc ⟨v1, v2, rfl, h1, h2, hbb⟩; replace hX := hX.step hbb; replace hK := hK.step hbb; have p1 := rz_one h1.now; have p2 := rz_one h2.now; clear hbb) | ((with_reducible refine at_st 40 ?_); refine stp1 hX aggK sizK (Ma.put_d (A := A) hA) rfl (by rw [Ma.clen (A := A) hA]; decide) (dk_one p1 p2) ?_; intro wS hY hkS; replace hK := hK.put hkS (hY.all _ _ _ (.head _)); replace h1 := Sv.over18 h1 hkS (.inr (.inl rfl)); replace h2 := Sv.over18 h2 hkS (.inr (.inl rfl)); replace hX := hY; clear hY hkS))
  exact bodyPost_end (results_none rfl _ _ _) rfl ⟨rfl, ⟨_, _, _, _, _, _, DSt.dev hS hK hX rfl (Sv.kb hS.m hK.one) (Sv.kb hS.b hK.one) h1 h2 (Sv.kb hS.t hK.one)⟩, hK.one⟩
theorem md_accept_3 (A : Ma) (hA : A.ok) (hR : A.right = true) (v : Int) (vm vb vl vs vd vt : Value) (X : Nat → Prop) (w0 w : World) (B g : Nat) (hS : DSt X w0 B g w A vm vb vl vs vd vt) : Calls Tryz.prog 232 #[.agg #[], .pointer (some ⟨B, 0, none⟩), .int .i64 v] w (DevS X w0 B g w (A.dAcc v 3) (.tuple #[])) := by
  have hL := Ma.len hA vs vd vt
  have hX := hS.bag.step ((Below.refl w.heap.size w).alloc (Nat.le_refl _) (.cells #[] 136))
  have hK := (Kpt.refl B B w).step ((Below.refl w.heap.size w).alloc (Nat.le_refl _) (.cells #[] 136))
  have o1 := hS.o1
  have o2 := hS.o2
  have o4 := hS.o4
  have o5 := hS.o5
  have o6 := hS.o6
  have hr := (Ma.parts hR).2.2.2.2.2.2
  have hc : ∀ wz, w.heap.size ≤ wz.heap.size → Kpt B B w wz → Calls Tryz.prog 239 #[.agg (tpL vt A.T).toArray, .int .i64 v] wz fun e' w' => ∃ v1, e' = .returned (.agg (tpL v1 (A.T.acc v)).toArray) ∧ StsX (XY X B g) w' v1 (A.T.acc v).R ∧ Below wz.heap.size wz w' := fun wz hq hk => (paccT_any A.T (tp_len hr) v vt (XY X B g) wz (fun b q => Nat.lt_of_lt_of_le (hS.xl b q) hq) (Sv.kb hS.t hk.one).now).mono (by rintro e' w' ⟨x, he, ⟨v1, rfl, h1⟩, hb⟩; exact ⟨v1, he, h1, hb⟩)
  go_enter Tryz.func232, Tryz.ntmps232
  go_wp2_with (first | ((with_reducible refine at_ld 42 ?_); refine ldp hX aggT sizT (get_t hL) rfl ?_) | (go_at_call 239; (with_reducible refine (hc _ hK.size hK).mono ?_); rintro e' wc ⟨v1, rfl, h1, hbb⟩; replace hX := hX.step hbb; replace hK := hK.step hbb; have p1 := rz_one h1.now; clear hbb) | ((with_reducible refine at_st 42 ?_); refine stp1 hX aggT sizT (Ma.put_t (A := A) hA) rfl (by rw [Ma.clen (A := A) hA]; decide) (tpL_one p1) ?_; intro wS hY hkS; replace hK := hK.put hkS (hY.all _ _ _ (.head _)); replace h1 := Sv.over18 h1 hkS (.inr (.inl rfl)); replace hX := hY; clear hY hkS))
  exact bodyPost_end (results_none rfl _ _ _) rfl ⟨rfl, ⟨_, _, _, _, _, _, DSt.dev hS hK hX rfl (Sv.kb hS.m hK.one) (Sv.kb hS.b hK.one) (Sv.kb hS.s hK.one) (Sv.kb hS.d hK.one) h1⟩, hK.one⟩
theorem md_reset_3 (A : Ma) (hA : A.ok) (hR : A.right = true) (vm vb vl vs vd vt : Value) (X : Nat → Prop) (w0 w : World) (B g : Nat) (hS : DSt X w0 B g w A vm vb vl vs vd vt) : Calls Tryz.prog 235 #[.agg #[], .pointer (some ⟨B, 0, none⟩)] w (DevS X w0 B g w (A.dReset 3) (.tuple #[])) := by
  have hL := Ma.len hA vs vd vt
  have hX := hS.bag.step ((Below.refl w.heap.size w).alloc (Nat.le_refl _) (.cells #[] 136))
  have hK := (Kpt.refl B B w).step ((Below.refl w.heap.size w).alloc (Nat.le_refl _) (.cells #[] 136))
  have o1 := hS.o1
  have o2 := hS.o2
  have o4 := hS.o4
  have o5 := hS.o5
  have o6 := hS.o6
  have hr := (Ma.parts hR).2.2.2.2.2.2
  have hc : ∀ wz, w.heap.size ≤ wz.heap.size → Kpt B B w wz → Calls Tryz.prog 242 #[.agg (tpL vt A.T).toArray] wz fun e' w' => ∃ v1, e' = .returned (.agg (tpL v1 (A.T.reset)).toArray) ∧ StsX (XY X B g) w' v1 (A.T.reset).R ∧ Below wz.heap.size wz w' := fun wz hq hk => (presetT_any A.T (tp_len hr) vt (XY X B g) wz (fun b q => Nat.lt_of_lt_of_le (hS.xl b q) hq) (Sv.kb hS.t hk.one).now).mono (by rintro e' w' ⟨x, he, ⟨v1, rfl, h1⟩, hb⟩; exact ⟨v1, he, h1, hb⟩)
  go_enter Tryz.func235, Tryz.ntmps235
  go_wp2_with (first | ((with_reducible refine at_ld 42 ?_); refine ldp hX aggT sizT (get_t hL) rfl ?_) | (go_at_call 242; (with_reducible refine (hc _ hK.size hK).mono ?_); rintro e' wc ⟨v1, rfl, h1, hbb⟩; replace hX := hX.step hbb; replace hK := hK.step hbb; have p1 := rz_one h1.now; clear hbb) | ((with_reducible refine at_st 42 ?_); refine stp1 hX aggT sizT (Ma.put_t (A := A) hA) rfl (by rw [Ma.clen (A := A) hA]; decide) (tpL_one p1) ?_; intro wS hY hkS; replace hK := hK.put hkS (hY.all _ _ _ (.head _)); replace h1 := Sv.over18 h1 hkS (.inr (.inl rfl)); replace hX := hY; clear hY hkS))
  exact bodyPost_end (results_none rfl _ _ _) rfl ⟨rfl, ⟨_, _, _, _, _, _, DSt.dev hS hK hX rfl (Sv.kb hS.m hK.one) (Sv.kb hS.b hK.one) (Sv.kb hS.s hK.one) (Sv.kb hS.d hK.one) h1⟩, hK.one⟩
theorem md_write_0 (A : Ma) (hA : A.ok) (hR : A.right = true) (q v : Int) (vm vb vl vs vd vt : Value) (X : Nat → Prop) (w0 w : World) (B g : Nat) (hS : DSt X w0 B g w A vm vb vl vs vd vt) : Calls Tryz.prog 165 #[.agg #[], .pointer (some ⟨B, 0, none⟩), .int .i64 q, .int .i64 v] w (DevS X w0 B g w (A.dWrite q v 0).1 (.bool (A.dWrite q v 0).2)) := by
  have hL := Ma.len hA vs vd vt
  have hX := hS.bag.step ((Below.refl w.heap.size w).alloc (Nat.le_refl _) (.cells #[] 133))
  have hK := (Kpt.refl B B w).step ((Below.refl w.heap.size w).alloc (Nat.le_refl _) (.cells #[] 133))
  have o1 := hS.o1
  have o2 := hS.o2
  have o4 := hS.o4
  have o5 := hS.o5
  have o6 := hS.o6
  have hz := zero_unit
  have hu2 := un_wr_ok hA.2.2 q v
  have hc : ∀ wz, w.heap.size ≤ wz.heap.size → Kpt B B w wz → Calls Tryz.prog 169 #[.agg A.U.L.toArray, .int .i64 q, .int .i64 v] wz fun e' w' => e' = .returned (.tuple #[.agg (A.U.write q v).1.L.toArray, .bool (A.U.write q v).2]) ∧ Below wz.heap.size wz w' := fun wz _ _ => write_any_9 A.U hA.2.2 q v wz
  have e : A.dWrite q v 0 = (if (A.U.write q v).2 = true then ({ A with U := (A.U.write q v).1 }, true) else (A, false)) := rfl
  rw [e]
  clear e
  by_cases hw : (A.U.write q v).2 = true
  · rw [if_pos hw]
    rw [hw] at hc
    generalize (A.U.write q v).1 = R2 at *
    clear hw
    go_enter Tryz.func165, Tryz.ntmps165
    go_wp2_with (first | ((with_reducible refine at_ld 32 ?_); refine ldp hX agg_unit size_unit (get_u hL) (Un.len hA.2.2) ?_) | (go_at_call 169; (with_reducible refine (hc _ hK.size hK).mono ?_); rintro e' wc ⟨rfl, hbb⟩; replace hX := hX.step hbb; replace hK := hK.step hbb; clear hbb) | ((with_reducible refine at_st 32 ?_); refine stn hX agg_unit size_unit (un_one _) (hn := (Un.len hu2)) (hm := (Un.len (u := Un.z) rfl)) ?_; intro wS hY hbS; replace hX := hY; replace hK := hK.step hbS; clear hY hbS) | ((with_reducible refine at_ld 32 ?_); refine ldw (hn := (Un.len hu2)) hX agg_unit size_unit ?_) | ((with_reducible refine at_st 32 ?_); refine stp2 hX agg_unit size_unit (Ma.put_u (A := A) hA) (Un.len hu2) (by rw [Ma.clen (A := A) hA]; decide) (un_one _) ?_; intro wS hY hkS; replace hK := hK.put hkS (hY.all _ _ _ (.tail _ (.head _))); replace hX := hY; clear hY hkS))
    exact bodyPost_ret (results_tmp (by rfl) _ _ _) rfl ⟨rfl, ⟨_, _, _, _, _, _, DSt.dev hS hK hX.drop1 rfl (Sv.kb hS.m hK.one) (Sv.kb hS.b hK.one) (Sv.kb hS.s hK.one) (Sv.kb hS.d hK.one) (Sv.kb hS.t hK.one)⟩, hK.one⟩
  · rw [if_neg hw]
    have hw : (A.U.write q v).2 = false := by simpa using hw
    rw [hw] at hc
    generalize (A.U.write q v).1 = R2 at *
    clear hw
    go_enter Tryz.func165, Tryz.ntmps165
    go_wp2_with (first | ((with_reducible refine at_ld 32 ?_); refine ldp hX agg_unit size_unit (get_u hL) (Un.len hA.2.2) ?_) | (go_at_call 169; (with_reducible refine (hc _ hK.size hK).mono ?_); rintro e' wc ⟨rfl, hbb⟩; replace hX := hX.step hbb; replace hK := hK.step hbb; clear hbb) | ((with_reducible refine at_st 32 ?_); refine stn hX agg_unit size_unit (un_one _) (hn := (Un.len hu2)) (hm := (Un.len (u := Un.z) rfl)) ?_; intro wS hY hbS; replace hX := hY; replace hK := hK.step hbS; clear hY hbS))
    exact bodyPost_ret (results_tmp (by rfl) _ _ _) rfl ⟨rfl, ⟨_, _, _, _, _, _, DSt.dev hS hK hX.drop1 rfl (Sv.kb hS.m hK.one) (Sv.kb hS.b hK.one) (Sv.kb hS.s hK.one) (Sv.kb hS.d hK.one) (Sv.kb hS.t hK.one)⟩, hK.one⟩
theorem md_write_2 (A : Ma) (hA : A.ok) (hR : A.right = true) (q v : Int) (vm vb vl vs vd vt : Value) (X : Nat → Prop) (w0 w : World) (B g : Nat) (hS : DSt X w0 B g w A vm vb vl vs vd vt) : Calls Tryz.prog 200 #[.agg #[], .pointer (some ⟨B, 0, none⟩), .int .i64 q, .int .i64 v] w (DevS X w0 B g w (A.dWrite q v 2).1 (.bool (A.dWrite q v 2).2)) := by
  have hL := Ma.len hA vs vd vt
  have hX := hS.bag.step ((Below.refl w.heap.size w).alloc (Nat.le_refl _) (.cells #[] 135))
  have hK := (Kpt.refl B B w).step ((Below.refl w.heap.size w).alloc (Nat.le_refl _) (.cells #[] 135))
  have o1 := hS.o1
  have o2 := hS.o2
  have o4 := hS.o4
  have o5 := hS.o5
  have o6 := hS.o6
  have hr := (Ma.parts hR).2.2.2.2.2.1
  have hc : ∀ wz, w.heap.size ≤ wz.heap.size → Kpt B B w wz → Calls Tryz.prog 207 #[.agg (dkL vs vd A.K).toArray, .int .i64 q, .int .i64 v] wz fun e' w' => ∃ v1 v2, e' = .returned (.tuple #[.agg (dkL v1 v2 (A.K.wr q v).1).toArray, .bool (A.K.wr q v).2]) ∧ StsX (XY X B g) w' v1 (A.K.wr q v).1.D.S ∧ ItsX (XY X B g) w' v2 (A.K.wr q v).1.D.B ∧ Below wz.heap.size wz w' := fun wz hq hk => (pwriteK_any A.K (dk_lens hr).2 (dk_lens hr).1 q v vs vd (XY X B g) wz (fun b q => Nat.lt_of_lt_of_le (hS.xl b q) hq) (Sv.kb hS.s hk.one).now (Sv.kb hS.d hk.one).now).mono (by rintro e' w' ⟨x, he, ⟨v1, v2, rfl, h1, h2⟩, hb⟩; exact ⟨v1, v2, he, h1, h2, hb⟩)
  have e : A.dWrite q v 2 = (if (A.K.wr q v).2 = true then ({ A with K := (A.K.wr q v).1 }, true) else (A, false)) := rfl
  rw [e]
  clear e
  by_cases hw : (A.K.wr q v).2 = true
  · rw [if_pos hw]
    rw [hw] at hc
    generalize (A.K.wr q v).1 = R2 at *
    clear hw
    go_enter Tryz.func200, Tryz.ntmps200
    go_wp2_with (first | ((with_reducible refine at_ld 40 ?_); refine ldp hX aggK sizK (get_d hL) rfl ?_) | (go_at_call 207; (with_reducible refine (hc _ hK.size hK).mono ?_); rintro e' wc ⟨v1, v2, rfl, h1, h2, hbb⟩; replace hX := hX.step hbb; replace hK := hK.step hbb; have p1 := rz_one h1.now; have p2 := rz_one h2.now; clear hbb) | ((with_reducible refine at_st 40 ?_); refine stn hX aggK sizK (dk_one p1 p2) (hn := rfl) (hm := rfl) ?_; intro wS hY hbS; replace hX := hY; replace hK := hK.step hbS; replace h1 := Sv.below h1 hbS; replace h2 := Sv.below h2 hbS; clear hY hbS) | ((with_reducible refine at_ld 40 ?_); refine ldw (hn := rfl) hX aggK sizK ?_) | ((with_reducible refine at_st 40 ?_); refine stp2 hX aggK sizK (Ma.put_d (A := A) hA) rfl (by rw [Ma.clen (A := A) hA]; decide) (dk_one p1 p2) ?_; intro wS hY hkS; replace hK := hK.put hkS (hY.all _ _ _ (.tail _ (.head _))); replace h1 := Sv.over18 h1 hkS (.inr (.inl rfl)); replace h2 := Sv.over18 h2 hkS (.inr (.inl rfl)); replace hX := hY; clear hY hkS))
    exact bodyPost_ret (results_tmp (by rfl) _ _ _) rfl ⟨rfl, ⟨_, _, _, _, _, _, DSt.dev hS hK hX.drop1 rfl (Sv.kb hS.m hK.one) (Sv.kb hS.b hK.one) h1 h2 (Sv.kb hS.t hK.one)⟩, hK.one⟩
  · rw [if_neg hw]
    have hw : (A.K.wr q v).2 = false := by simpa using hw
    rw [hw] at hc
    generalize (A.K.wr q v).1 = R2 at *
    clear hw
    go_enter Tryz.func200, Tryz.ntmps200
    go_wp2_with (first | ((with_reducible refine at_ld 40 ?_); refine ldp hX aggK sizK (get_d hL) rfl ?_) | (go_at_call 207; (with_reducible refine (hc _ hK.size hK).mono ?_); rintro e' wc ⟨v1, v2, rfl, h1, h2, hbb⟩; replace hX := hX.step hbb; replace hK := hK.step hbb; have p1 := rz_one h1.now; have p2 := rz_one h2.now; clear hbb) | ((with_reducible refine at_st 40 ?_); refine stn hX aggK sizK (dk_one p1 p2) (hn := rfl) (hm := rfl) ?_; intro wS hY hbS; replace hX := hY; replace hK := hK.step hbS; replace h1 := Sv.below h1 hbS; replace h2 := Sv.below h2 hbS; clear hY hbS))
    exact bodyPost_ret (results_tmp (by rfl) _ _ _) rfl ⟨rfl, ⟨_, _, _, _, _, _, DSt.dev hS hK hX.drop1 rfl (Sv.kb hS.m hK.one) (Sv.kb hS.b hK.one) (Sv.kb hS.s hK.one) (Sv.kb hS.d hK.one) (Sv.kb hS.t hK.one)⟩, hK.one⟩
theorem md_write_3 (A : Ma) (hA : A.ok) (hR : A.right = true) (q v : Int) (vm vb vl vs vd vt : Value) (X : Nat → Prop) (w0 w : World) (B g : Nat) (hS : DSt X w0 B g w A vm vb vl vs vd vt) : Calls Tryz.prog 238 #[.agg #[], .pointer (some ⟨B, 0, none⟩), .int .i64 q, .int .i64 v] w (DevS X w0 B g w (A.dWrite q v 3).1 (.bool (A.dWrite q v 3).2)) := by
  have hL := Ma.len hA vs vd vt
  have hX := hS.bag.step ((Below.refl w.heap.size w).alloc (Nat.le_refl _) (.cells #[] 136))
  have hK := (Kpt.refl B B w).step ((Below.refl w.heap.size w).alloc (Nat.le_refl _) (.cells #[] 136))
  have o1 := hS.o1
  have o2 := hS.o2
  have o4 := hS.o4
  have o5 := hS.o5
  have o6 := hS.o6
  have hr := (Ma.parts hR).2.2.2.2.2.2
  have hc : ∀ wz, w.heap.size ≤ wz.heap.size → Kpt B B w wz → Calls Tryz.prog 245 #[.agg (tpL vt A.T).toArray, .int .i64 q, .int .i64 v] wz fun e' w' => ∃ v1, e' = .returned (.tuple #[.agg (tpL v1 (A.T.wr q v).1).toArray, .bool (A.T.wr q v).2]) ∧ StsX (XY X B g) w' v1 (A.T.wr q v).1.R ∧ Below wz.heap.size wz w' := fun wz hq hk => (pwriteT_any A.T (tp_len hr) q v vt (XY X B g) wz (fun b q => Nat.lt_of_lt_of_le (hS.xl b q) hq) (Sv.kb hS.t hk.one).now).mono (by rintro e' w' ⟨x, he, ⟨v1, rfl, h1⟩, hb⟩; exact ⟨v1, he, h1, hb⟩)
  have e : A.dWrite q v 3 = (if (A.T.wr q v).2 = true then ({ A with T := (A.T.wr q v).1 }, true) else (A, false)) := rfl
  rw [e]
  clear e
  by_cases hw : (A.T.wr q v).2 = true
  · rw [if_pos hw]
    rw [hw] at hc
    generalize (A.T.wr q v).1 = R2 at *
    clear hw
    go_enter Tryz.func238, Tryz.ntmps238
    go_wp2_with (first | ((with_reducible refine at_ld 42 ?_); refine ldp hX aggT sizT (get_t hL) rfl ?_) | (go_at_call 245; (with_reducible refine (hc _ hK.size hK).mono ?_); rintro e' wc ⟨v1, rfl, h1, hbb⟩; replace hX := hX.step hbb; replace hK := hK.step hbb; have p1 := rz_one h1.now; clear hbb) | ((with_reducible refine at_st 42 ?_); refine stn hX aggT sizT (tpL_one p1) (hn := rfl) (hm := rfl) ?_; intro wS hY hbS; replace hX := hY; replace hK := hK.step hbS; replace h1 := Sv.below h1 hbS; clear hY hbS) | ((with_reducible refine at_ld 42 ?_); refine ldw (hn := rfl) hX aggT sizT ?_) | ((with_reducible refine at_st 42 ?_); refine stp2 hX aggT sizT (Ma.put_t (A := A) hA) rfl (by rw [Ma.clen (A := A) hA]; decide) (tpL_one p1) ?_; intro wS hY hkS; replace hK := hK.put hkS (hY.all _ _ _ (.tail _ (.head _))); replace h1 := Sv.over18 h1 hkS (.inr (.inl rfl)); replace hX := hY; clear hY hkS))
    exact bodyPost_ret (results_tmp (by rfl) _ _ _) rfl ⟨rfl, ⟨_, _, _, _, _, _, DSt.dev hS hK hX.drop1 rfl (Sv.kb hS.m hK.one) (Sv.kb hS.b hK.one) (Sv.kb hS.s hK.one) (Sv.kb hS.d hK.one) h1⟩, hK.one⟩
  · rw [if_neg hw]
    have hw : (A.T.wr q v).2 = false := by simpa using hw
    rw [hw] at hc
    generalize (A.T.wr q v).1 = R2 at *
    clear hw
    go_enter Tryz.func238, Tryz.ntmps238
    go_wp2_with (first | ((with_reducible refine at_ld 42 ?_); refine ldp hX aggT sizT (get_t hL) rfl ?_) | (go_at_call 245; (with_reducible refine (hc _ hK.size hK).mono ?_); rintro e' wc ⟨v1, rfl, h1, hbb⟩; replace hX := hX.step hbb; replace hK := hK.step hbb; have p1 := rz_one h1.now; clear hbb) | ((with_reducible refine at_st 42 ?_); refine stn hX aggT sizT (tpL_one p1) (hn := rfl) (hm := rfl) ?_; intro wS hY hbS; replace hX := hY; replace hK := hK.step hbS; replace h1 := Sv.below h1 hbS; clear hY hbS))
    exact bodyPost_ret (results_tmp (by rfl) _ _ _) rfl ⟨rfl, ⟨_, _, _, _, _, _, DSt.dev hS hK hX.drop1 rfl (Sv.kb hS.m hK.one) (Sv.kb hS.b hK.one) (Sv.kb hS.s hK.one) (Sv.kb hS.d hK.one) (Sv.kb hS.t hK.one)⟩, hK.one⟩
theorem md_write_1 (A : Ma) (hA : A.ok) (q v : Int) (vm vb vl vs vd vt : Value) (X : Nat → Prop) (w0 w : World) (B g : Nat) (hS : DSt X w0 B g w A vm vb vl vs vd vt) : Calls Tryz.prog 185 #[.agg #[], .pointer (some ⟨B, 0, none⟩), .int .i64 q, .int .i64 v] w (DevS X w0 B g w (A.dWrite q v 1).1 (.bool (A.dWrite q v 1).2)) := by
  have hL := Ma.len hA vs vd vt
  have hX := hS.bag.step ((Below.refl w.heap.size w).alloc (Nat.le_refl _) (.cells #[] 134))
  have hK := (Kpt.refl B B w).step ((Below.refl w.heap.size w).alloc (Nat.le_refl _) (.cells #[] 134))
  have o1 := hS.o1
  have o2 := hS.o2
  have o4 := hS.o4
  have o5 := hS.o5
  have o6 := hS.o6
  have hc : ∀ wz, Calls Tryz.prog 192 #[.agg A.k.L.toArray, .int .i64 v] wz fun e' w' => e' = .returned (.agg (A.k.write v).L.toArray) ∧ Below wz.heap.size wz w' := fun wz => pwrite_any_13 A.k v wz
  have e : A.dWrite q v 1 = (if q = 0 then ({ A with k := A.k.write v }, true) else (A, false)) := rfl
  rw [e]
  clear e
  by_cases hw : q = 0
  · rw [if_pos hw]
    subst hw
    go_enter Tryz.func185, Tryz.ntmps185
    go_wp2_with (first | ((with_reducible refine at_ld 34 ?_); refine ldp hX aggK_13 sizK_13 (get_k hL) rfl ?_) | (go_at_call 192; (with_reducible refine (hc _).mono ?_); rintro e' wc ⟨rfl, hbb⟩; replace hX := hX.step hbb; replace hK := hK.step hbb; clear hbb) | ((with_reducible refine at_st 34 ?_); refine stp1 hX aggK_13 sizK_13 (Ma.put_k (A := A) hA) rfl (by rw [Ma.clen (A := A) hA]; decide) (ck_one _) ?_; intro wS hY hkS; replace hK := hK.put hkS (hY.all _ _ _ (.head _)); replace hX := hY; clear hY hkS))
    exact bodyPost_ret (results_tmp (by rfl) _ _ _) rfl ⟨rfl, ⟨_, _, _, _, _, _, DSt.dev hS hK hX rfl (Sv.kb hS.m hK.one) (Sv.kb hS.b hK.one) (Sv.kb hS.s hK.one) (Sv.kb hS.d hK.one) (Sv.kb hS.t hK.one)⟩, hK.one⟩
  · rw [if_neg hw]
    have e0 : (q != 0) = true := by simpa using hw
    go_enter Tryz.func185, Tryz.ntmps185
    go_wp2
    exact bodyPost_ret (results_tmp (by rfl) _ _ _) rfl ⟨rfl, ⟨_, _, _, _, _, _, DSt.dev hS hK hX rfl (Sv.kb hS.m hK.one) (Sv.kb hS.b hK.one) (Sv.kb hS.s hK.one) (Sv.kb hS.d hK.one) (Sv.kb hS.t hK.one)⟩, hK.one⟩
end Go.Proofs.YthpnddgfgpacpaaGreat
/-
  XHoS's region where the class of worlds holds up to one operation alone (a store into the box that was loaded): what yields in the class must be waited for by that operation; what yields in every world may come up at any time. General. No condition.
-/
namespace Go.Proofs.YthpnddgfgpacpaaGreat
open Go Go.RowKit
set_option linter.unusedVariables false
set_option linter.unusedSimpArgs false

section
variable {P : Program} {ops : Array Oper} {md : Region.Mode} {Q : Exit → Act → World → Prop} {S : World → Prop}
theorem wpOp_list {i : Nat} {o : Oper} {K : Act → World → Prop} {a : Act} {w : World} (hi : ops[i]? = some o) (h : wpList P ops (Exit.then K Q) [o] a w) : wpOp P ops Q i K a w := by
  unfold wpOp
  simp only [hi]
  exact h
theorem wpList_end {a : Act} {w : World} {K : Act → World → Prop} (h : K a w) : wpList P ops (Exit.then K Q) [] a w := h
end
end Go.Proofs.YthpnddgfgpacpaaGreat
