import Derived.Test.YthpnddgfgpacpaaGreatRS18
import Derived.Test.YthpnddgfgpacpaaGreatRS16
import Derived.Test.YthpnddgfgpacpaaGreatRS10
import Derived.Test.YthpnddgfgpacpaaGreatRS12
import Derived.Laws.DeepStrings4
import Derived.Lib.Strings
import Derived.Lib.IndexBytes
import Derived.Lib.UnsafeStr
import Derived.Laws.IdiomStrings
/-
  Accept, Reset of the reference. Condition: a valid machine.
-/
namespace Go.Proofs.YthpnddgfgpacpaaGreat
open Go.RowKit
set_option linter.unusedSimpArgs false
set_option linter.unusedVariables false
set_option maxHeartbeats 4000000
set_option maxRecDepth 100000
attribute [local irreducible] wpQuiet

theorem add018 (B j : Nat) : (⟨B, 0, none⟩ : Addr).add j = ⟨B, j, none⟩ := by unfold Addr.add; split <;> simp_all
section
variable {ops : Array Oper} {rest : List Oper} {o : Oper} {a : Act} {w w1 : World} {Q : Exit → Act → World → Prop}
theorem at_bslice18 {P : Program} {l : List Oper} {T ty : TypeId} {n : Nat} {xs : Array (Nat × Operand)} {dst : Option Tmp} {pos : String} {after : Array Edge} {g : Option (Nat × Bool)} (h : wpList P ops Q ({ dst := dst, op := .buildSlice T n xs, type := ty, pos := pos, after := after, guard := g } :: l) a w) : wpList P ops Q ({ dst := dst, op := .buildSlice T n xs, type := ty, pos := pos, after := after, guard := g } :: l) a w := h
/-- A slice of one line is made. -/
theorem wpList_sliceLn {y : Ln} (hg : o.guard = none) (x : Operand) (hop : o.op = Op.buildSlice 35 1 #[(0, x)]) (hx : a.eval x = .agg (lnL y).toArray) (hal : w1 = w)
    (h : ∀ w2, Below w.heap.size w w2 → (∀ j u, (lnL y)[j]? = some u → w2.cell? ((⟨w.heap.size, 0, none⟩ : Addr).add j) = some u) → wpList Tryz.prog ops Q rest (a.put o.dst (.slice (some ⟨w.heap.size, 0, none⟩) 1 1)) w2) : wpList Tryz.prog ops Q (o :: rest) a w1 := by
  subst hal
  refine wpList_plain hg fun K hK => ?_
  have h1 := h (w1.alloc (.cells (lnL y).toArray 68)) ((Below.refl _ _).alloc (Nat.le_refl _) _) (fun j u hu => by rw [add018]; exact (Blk.new _ _ _).cell hu)
  unfold Oper.wp execOp
  simp only [hop]
  generalize a.eval = E at hx ⊢
  have hl : lnL y = [.bool y.a, .bool y.b, .bool y.o, .int .i64 y.d, .bool y.e, .bool y.f, .int .i64 y.t, .int .i64 y.l, .string y.s] := rfl
  rw [hl] at hx h1
  go_simp
  exact hK _ _ h1
end
theorem at_st {P : Program} {ops : Array Oper} {Q : Exit → Act → World → Prop} {a : Act} {w : World} {l : List Oper} (T : TypeId) {ty : TypeId} {x y : Operand} {dst : Option Tmp} {pos : String} {after : Array Edge} {g : Option (Nat × Bool)} (h : wpList P ops Q ({ dst := dst, op := .store T x y, type := ty, pos := pos, after := after, guard := g } :: l) a w) : wpList P ops Q ({ dst := dst, op := .store T x y, type := ty, pos := pos, after := after, guard := g } :: l) a w := h
theorem at_ld {P : Program} {ops : Array Oper} {Q : Exit → Act → World → Prop} {a : Act} {w : World} {l : List Oper} (T : TypeId) {ty : TypeId} {x : Operand} {dst : Option Tmp} {pos : String} {after : Array Edge} {g : Option (Nat × Bool)} (h : wpList P ops Q ({ dst := dst, op := .load T x, type := ty, pos := pos, after := after, guard := g } :: l) a w) : wpList P ops Q ({ dst := dst, op := .load T x, type := ty, pos := pos, after := after, guard := g } :: l) a w := h
theorem flat_snoc18 {A : List Ln} {i : Nat} {x : Ln} (F : Ln → Ln) (hx : A[i]? = some x) : ((A.take i).map F).flatMap lnL ++ lnL (F x) = ((A.take (i + 1)).map F).flatMap lnL := by
  rw [List.take_add_one, hx]
  simp
theorem raccL18 (x : Ln) (n v : Int) (w : World) : Calls Tryz.prog 60 #[.agg (lnL x).toArray, .int .i64 n, .int .i64 v] w fun e' w' => e' = .returned (.agg (lnL x).toArray) ∧ Below w.heap.size w w' := by
  show Calls Tryz.prog 60 #[.agg #[.bool x.a, .bool x.b, .bool x.o, .int .i64 x.d, .bool x.e, .bool x.f, .int .i64 x.t, .int .i64 x.l, .string x.s], .int .i64 n, .int .i64 v] w fun e' w' => e' = .returned (.agg #[.bool x.a, .bool x.b, .bool x.o, .int .i64 x.d, .bool x.e, .bool x.f, .int .i64 x.t, .int .i64 x.l, .string x.s]) ∧ Below w.heap.size w w'
  have hX := two_bag w 68 68 (lnL x) [.bool false, .bool false, .bool false, .int .i64 0, .bool false, .bool false, .int .i64 0, .int .i64 0, .string ⟨#[]⟩]
  go_enter Tryz.func60, Tryz.ntmps60
  go_wp2
  exact bodyPost_ret (results_c Tryz.results60 rfl (((two_bag w 68 68 (lnL x) (lnL x)).all _ _ _ (.head _)).loadVar rfl aggLn sizLn)) rfl ⟨rfl, (two_bag w 68 68 (lnL x) (lnL x)).below⟩
theorem rresetL18 (x : Ln) (w : World) : Calls Tryz.prog 65 #[.agg (lnL x).toArray] w fun e' w' => e' = .returned (.agg (lnL x.reset).toArray) ∧ Below w.heap.size w w' := rresetL_any x w
theorem rreset_09 (u : Un) (hu : u.ok) (w : World) : Calls Tryz.prog 64 #[.agg u.L.toArray] w fun e' w' => e' = .returned (.agg Un.z.L.toArray) ∧ Below w.heap.size w w' := by
  have hz := zero_unit
  have hX := two_bag w 32 32 u.L Un.z.L
  go_enter Tryz.func64, Tryz.ntmps64
  go_wp2_with (first | ((with_reducible refine at_store ?_); refine stw hX agg_unit size_unit (un_one _) (hn := Un.len (u := Un.z) rfl) (hc := Un.len (u := Un.z) rfl) ?_; intro wS hY hkS; replace hX := hY; clear hY hkS))
  exact bodyPost_ret (results_c Tryz.results64 rfl ((hX.all _ _ _ (.head _)).loadVar (Un.len (u := Un.z) rfl) agg_unit size_unit)) rfl ⟨rfl, hX.below⟩
theorem acc_s {X : Nat → Prop} {w w' : World} {vs : Value} {K : Dk} {v : Int} (h : StsX X w vs K.D.S) (hb : Below w.heap.size w w') : StsX X w' vs (K.acc v).D.S := by
  have e : (K.acc v).D = K.D := by unfold Dk.acc; split <;> rfl
  rw [e]; exact Sv.below h hb
theorem acc_d {X : Nat → Prop} {w w' : World} {vd : Value} {K : Dk} {v : Int} (h : ItsX X w vd K.D.B) (hb : Below w.heap.size w w') : ItsX X w' vd (K.acc v).D.B := by
  have e : (K.acc v).D = K.D := by unfold Dk.acc; split <;> rfl
  rw [e]; exact Sv.below h hb
theorem acc_t {X : Nat → Prop} {w w' : World} {vt : Value} {K : Tp} {v : Int} (h : StsX X w vt K.R) (hb : Below w.heap.size w w') : StsX X w' vt (K.acc v).R := by
  have e : (K.acc v).R = K.R := by unfold Tp.acc; split <;> rfl
  rw [e]; exact Sv.below h hb
theorem rbAccept_any (A : Ma) (hA : A.ok) (hR : A.right = true) (vm vb vl vs vd vt : Value) (X : Nat → Prop) (w : World) (hXl : ∀ b, X b → b < w.heap.size) (hV : MaV X w A vm vb vl vs vd vt) (v : Int) : Calls Tryz.prog 25 #[.agg (A.cells vm vb vl vs vd vt).toArray, .int .i64 v] w fun e' w' => ∃ x, e' = .returned x ∧ MaX X w' x (A.acc v) ∧ Below w.heap.size w w' := by
  have hL := Ma.len hA vs vd vt
  obtain ⟨hl4, hln, _, hUr, _, hKr, hTr⟩ := Ma.parts hR
  have hX := two_ma w (A.cells vm vb vl vs vd vt)
  have o1 := hV.o1
  have o2 := hV.o2
  have o4 := hV.o4
  have o5 := hV.o5
  have o6 := hV.o6
  have hk : ∀ wz, Calls Tryz.prog 57 #[.agg A.k.L.toArray, .int .i64 v] wz fun e' w' => e' = .returned (.agg (A.k.acc v).L.toArray) ∧ Below wz.heap.size wz w' := fun wz => racc_any_13 A.k v wz
  have hd : ∀ wz, Calls Tryz.prog 58 #[.agg (dkL vs vd A.K).toArray, .int .i64 v] wz fun e' w' => e' = .returned (.agg (dkL vs vd (A.K.acc v)).toArray) ∧ Below wz.heap.size wz w' := by
    obtain ⟨A1, c1, rfl, _⟩ := hV.s.now.form
    obtain ⟨A2, c2, rfl, _⟩ := hV.d.now.form
    exact fun wz => raccK_any A.K v A1 _ c1 A2 _ c2 wz
  have ht : ∀ wz, Calls Tryz.prog 59 #[.agg (tpL vt A.T).toArray, .int .i64 v] wz fun e' w' => e' = .returned (.agg (tpL vt (A.T.acc v)).toArray) ∧ Below wz.heap.size wz w' := by
    obtain ⟨A1, c1, rfl, _⟩ := hV.t.now.form
    exact fun wz => raccT_any A.T v A1 _ c1 wz
  go_enter Tryz.func25, Tryz.ntmps25
  go_upto_region 1 with (first | ((with_reducible refine at_alloc18 ?_); refine wpList_allocM rfl rfl ?_))
  generalize ((w.alloc (Obj.cells (A.cells vm vb vl vs vd vt).toArray 44)).alloc (Obj.cells mzL.toArray 44)) = wQ at hX ⊢
  go_wp2_with (first | ((with_reducible refine at_ld 34 ?_); refine ldp hX aggK_13 sizK_13 (get_k (Ma.len (A := A) hA vs vd vt)) rfl ?_) | (go_at_call 57; (with_reducible refine (hk _).mono ?_); rintro e' wc ⟨rfl, hbb⟩; replace hX := hX.step hbb; clear hbb) | ((with_reducible refine at_st 34 ?_); refine stp2 hX aggK_13 sizK_13 (Ma.put_k (A := A) hA) rfl (by rw [Ma.clen (A := A) hA]; decide) (ck_one _) ?_; intro wS hY hkS; replace hX := hY; clear hY hkS) | ((with_reducible refine at_ld 40 ?_); refine ldp hX aggK sizK (get_d (Ma.len (A := ({ A with k := A.k.acc v } : Ma)) hA vs vd vt)) rfl ?_) | (go_at_call 58; (with_reducible refine (hd _).mono ?_); rintro e' wc ⟨rfl, hbb⟩; replace hX := hX.step hbb; clear hbb) | ((with_reducible refine at_st 40 ?_); refine stp2 hX aggK sizK (Ma.put_d (A := ({ A with k := A.k.acc v } : Ma)) hA) rfl (by rw [Ma.clen (A := ({ A with k := A.k.acc v } : Ma)) hA]; decide) (dk_one o4 o5) ?_; intro wS hY hkS; replace hX := hY; clear hY hkS) | ((with_reducible refine at_ld 42 ?_); refine ldp hX aggT sizT (get_t (Ma.len (A := ({ A with k := A.k.acc v, K := A.K.acc v } : Ma)) hA vs vd vt)) rfl ?_) | (go_at_call 59; (with_reducible refine (ht _).mono ?_); rintro e' wc ⟨rfl, hbb⟩; replace hX := hX.step hbb; clear hbb) | ((with_reducible refine at_st 42 ?_); refine stp2 hX aggT sizT (Ma.put_t (A := ({ A with k := A.k.acc v, K := A.K.acc v } : Ma)) hA) rfl (by rw [Ma.clen (A := ({ A with k := A.k.acc v, K := A.K.acc v } : Ma)) hA]; decide) (tpL_one o6) ?_; intro wS hY hkS; replace hX := hY; clear hY hkS))
  have hL3 := Ma.len (A := ({ A with k := A.k.acc v, K := A.K.acc v, T := A.T.acc v } : Ma)) hA vs vd vt
  go_loopw [5, 6] (fun rv iv wr => ∃ (i : Nat) (v' : Value), i ≤ A.L.length ∧ v' = rv ∧ iv = .int .i64 i ∧ wr.ownsRow (w.heap.size + 2) 68 9 v' i (((A.L.take i).map (fun x => x)).flatMap lnL) ∧ Bag [(w.heap.size + 1, 44, mzL), (w.heap.size, 44, (({ A with k := A.k.acc v, K := A.K.acc v, T := A.T.acc v } : Ma)).cells vm vb vl vs vd vt)] w wr) (fun _ iv _ => match iv with | .int _ q => A.L.length - q.toNat | _ => 0)
  case atStart => exact ⟨0, _, Nat.zero_le _, rfl, rfl, World.ownsRow_nil _ _ _ _, hX⟩
  case round =>
    clear hX
    obtain ⟨i, rv, hi, rfl, rfl, ho, hX⟩ := hrel
    obtain ⟨aL, cL, rfl, hcl, hld⟩ := lns_form hV.l.now
    by_cases hlt : i < A.L.length
    · obtain ⟨x, hx⟩ : ∃ x, A.L[i]? = some x := ⟨_, List.getElem?_eq_getElem hlt⟩
      obtain ⟨ad, rfl, hld2⟩ := hld i x hx
      have i0 : (0 : Int) ≤ (i : Int) := by omega
      have i1 : (i : Int) < (A.L.length : Int) := by omega
      have i2 : IntKind.i64.wrap ((i : Int) + 1) = (i : Int) + 1 := by rw [wrap_i64]; unfold wrap64; omega
      have hfl := flat_snoc18 (fun x => x) hx
      have hnx := fun (wz : World) => raccL18 x (i : Int) v wz
      replace hx := hid hx
      replace hfl := hid hfl
      clear hld hR
      go_wp2_with (first | ((with_reducible refine at_load ?_); refine ldc (hk := get_l hL3) hX slL_cell ?_) | ((with_reducible refine at_load ?_); refine wpList_loadW rfl 68 _ _ _ rfl rfl (hld2 _ hX.below) ?_) | (go_at_call 60; (with_reducible refine (hnx _).mono ?_); rintro e' wc ⟨rfl, hbb⟩; replace ho := own_step ho hbb; replace hX := hX.step hbb; clear hbb) | ((with_reducible refine at_bslice18 ?_); refine wpList_sliceLn rfl _ rfl rfl rfl ?_; intro wl hbl hcel; replace ho := own_step ho hbl; replace hX := hX.step hbl; clear hbl) | (at_builtin; refine wpList_appLn rfl (.tmp 29) (.tmp 38) rfl (w.heap.size + 2) _ i _ rfl ho _ 1 1 (lnL ((fun x => x) x)) rfl rfl hcel (lnL_one _) (by omega) (show w.heap.size + 2 ≤ _ from (hX.all _ _ _ (.head _)).lt) ?_; intro v2 w2 ho3 hb2; replace hX := hX.stepN hb2 (by intro q hq; simp only [List.mem_cons, List.not_mem_nil, or_false] at hq; rcases hq with rfl | rfl <;> simp) (Nat.le_add_right _ _); clear hb2 hcel))
      exact ⟨⟨i + 1, v2, by omega, rfl, by go_num, by rw [show _ = _ from hfl] at ho3; exact ho3, hX⟩, by simp only; omega⟩
    · obtain rfl : i = A.L.length := by omega
      have i1 : ¬ (A.L.length : Int) < (A.L.length : Int) := by omega
      rw [List.take_length] at ho
      obtain ⟨A9, c9, rfl, _, _⟩ := Rw.of_own ho
      have hlm : (A.L.map (fun x => x)).length = A.L.length := List.length_map ..
      clear hld hR
      go_wp2_with (first | ((with_reducible refine at_load ?_); refine ldc (hk := get_l hL3) hX slL_cell ?_) | ((with_reducible refine at_store ?_); refine stk2 hX siz_sL18 (Ma.set_l (A := ({ A with k := A.k.acc v, K := A.K.acc v, T := A.T.acc v } : Ma)) hA (A.L.map (fun x => x)) _) (by rw [Ma.clen (A := ({ A with k := A.k.acc v, K := A.K.acc v, T := A.T.acc v } : Ma)) hA]; decide) rfl ?_; intro wS hY hkS; replace ho := own_over hX.swap ho (by decide) hkS; replace hX := hY; clear hY hkS) | ((with_reducible refine at_load ?_); refine ldw (hn := Ma.clen (A := ({ A with k := A.k.acc v, K := A.K.acc v, T := A.T.acc v, L := A.L.map (fun x => x) } : Ma)) hA) hX aggM sizM ?_) | ((with_reducible refine at_store ?_); refine stw hX aggM sizM (Ma.cone (A := ({ A with k := A.k.acc v, K := A.K.acc v, T := A.T.acc v, L := A.L.map (fun x => x) } : Ma)) hA o1 o2 rfl o4 o5 o6) (hn := Ma.clen (A := ({ A with k := A.k.acc v, K := A.K.acc v, T := A.T.acc v, L := A.L.map (fun x => x) } : Ma)) hA) (hc := mzL_len) ?_; intro wS hY hkS; replace ho := own_over hX ho (by decide) hkS; replace hX := hY; clear hY hkS))
      exact bodyPost_ret (results_c Tryz.results25 rfl ((hX.all _ _ _ (.head _)).loadVar (Ma.clen (A := ({ A with k := A.k.acc v, K := A.K.acc v, T := A.T.acc v, L := A.L.map (fun x => x) } : Ma)) hA) aggM sizM)) rfl ⟨_, rfl, by rw [show A.acc v = { A with k := A.k.acc v, K := A.K.acc v, T := A.T.acc v, L := A.L.map fun x => x } by unfold Ma.acc; rw [List.map_id']]; exact ⟨_, _, _, _, _, _, rfl, Sv.below hV.m hX.below, Sv.below hV.b hX.below, by unfold LnsX; rw [hlm]; exact Sv.of_own ho (fun b hb => by have := hXl b hb; omega), acc_s hV.s hX.below, acc_d hV.d hX.below, acc_t hV.t hX.below⟩, hX.below⟩
theorem rbReset_any (A : Ma) (hA : A.ok) (hR : A.right = true) (vm vb vl vs vd vt : Value) (X : Nat → Prop) (w : World) (hXl : ∀ b, X b → b < w.heap.size) (hV : MaV X w A vm vb vl vs vd vt) : Calls Tryz.prog 26 #[.agg (A.cells vm vb vl vs vd vt).toArray] w fun e' w' => ∃ x, e' = .returned x ∧ MaX X w' x (A.reset) ∧ Below w.heap.size w w' := by
  have hL := Ma.len hA vs vd vt
  obtain ⟨hl4, hln, _, hUr, _, hKr, hTr⟩ := Ma.parts hR
  have hX := two_ma w (A.cells vm vb vl vs vd vt)
  have o1 := hV.o1
  have o2 := hV.o2
  have o4 := hV.o4
  have o5 := hV.o5
  have o6 := hV.o6
  have hk : ∀ wz, Calls Tryz.prog 61 #[.agg A.k.L.toArray] wz fun e' w' => e' = .returned (.agg (A.k.reset).L.toArray) ∧ Below wz.heap.size wz w' := fun wz => rreset_any A.k wz
  have hd : ∀ wz, Calls Tryz.prog 62 #[.agg (dkL vs vd A.K).toArray] wz fun e' w' => e' = .returned (.agg (dkL vs vd (A.K.reset)).toArray) ∧ Below wz.heap.size wz w' := by
    obtain ⟨A1, c1, rfl, _⟩ := hV.s.now.form
    obtain ⟨A2, c2, rfl, _⟩ := hV.d.now.form
    exact fun wz => rresetK_any A.K A1 _ c1 A2 _ c2 wz
  have ht : ∀ wz, Calls Tryz.prog 63 #[.agg (tpL vt A.T).toArray] wz fun e' w' => e' = .returned (.agg (tpL vt (A.T.reset)).toArray) ∧ Below wz.heap.size wz w' := by
    obtain ⟨A1, c1, rfl, _⟩ := hV.t.now.form
    exact fun wz => rresetT_any A.T A1 _ c1 wz
  have hu := fun wz => rreset_09 A.U hA.2.2 wz
  go_enter Tryz.func26, Tryz.ntmps26
  go_upto_region 1 with (first | ((with_reducible refine at_alloc18 ?_); refine wpList_allocM rfl rfl ?_))
  generalize ((w.alloc (Obj.cells (A.cells vm vb vl vs vd vt).toArray 44)).alloc (Obj.cells mzL.toArray 44)) = wQ at hX ⊢
  go_wp2_with (first | ((with_reducible refine at_ld 34 ?_); refine ldp hX aggK_13 sizK_13 (get_k (Ma.len (A := A) hA vs vd vt)) rfl ?_) | (go_at_call 61; (with_reducible refine (hk _).mono ?_); rintro e' wc ⟨rfl, hbb⟩; replace hX := hX.step hbb; clear hbb) | ((with_reducible refine at_st 34 ?_); refine stp2 hX aggK_13 sizK_13 (Ma.put_k (A := A) hA) rfl (by rw [Ma.clen (A := A) hA]; decide) (ck_one _) ?_; intro wS hY hkS; replace hX := hY; clear hY hkS) | ((with_reducible refine at_ld 40 ?_); refine ldp hX aggK sizK (get_d (Ma.len (A := ({ A with k := A.k.reset } : Ma)) hA vs vd vt)) rfl ?_) | (go_at_call 62; (with_reducible refine (hd _).mono ?_); rintro e' wc ⟨rfl, hbb⟩; replace hX := hX.step hbb; clear hbb) | ((with_reducible refine at_st 40 ?_); refine stp2 hX aggK sizK (Ma.put_d (A := ({ A with k := A.k.reset } : Ma)) hA) rfl (by rw [Ma.clen (A := ({ A with k := A.k.reset } : Ma)) hA]; decide) (dk_one o4 o5) ?_; intro wS hY hkS; replace hX := hY; clear hY hkS) | ((with_reducible refine at_ld 42 ?_); refine ldp hX aggT sizT (get_t (Ma.len (A := ({ A with k := A.k.reset, K := A.K.reset } : Ma)) hA vs vd vt)) rfl ?_) | (go_at_call 63; (with_reducible refine (ht _).mono ?_); rintro e' wc ⟨rfl, hbb⟩; replace hX := hX.step hbb; clear hbb) | ((with_reducible refine at_st 42 ?_); refine stp2 hX aggT sizT (Ma.put_t (A := ({ A with k := A.k.reset, K := A.K.reset } : Ma)) hA) rfl (by rw [Ma.clen (A := ({ A with k := A.k.reset, K := A.K.reset } : Ma)) hA]; decide) (tpL_one o6) ?_; intro wS hY hkS; replace hX := hY; clear hY hkS) | ((with_reducible refine at_ld 32 ?_); refine ldp hX agg_unit size_unit (get_u (Ma.len (A := ({ A with k := A.k.reset, K := A.K.reset, T := A.T.reset } : Ma)) hA vs vd vt)) (Un.len hA.2.2) ?_) | (go_at_call 64; (with_reducible refine (hu _).mono ?_); rintro e' wc ⟨rfl, hbb⟩; replace hX := hX.step hbb; clear hbb) | ((with_reducible refine at_st 32 ?_); refine stp2 hX agg_unit size_unit (Ma.put_u (A := ({ A with k := A.k.reset, K := A.K.reset, T := A.T.reset } : Ma)) hA) (Un.len (u := Un.z) rfl) (by rw [Ma.clen (A := ({ A with k := A.k.reset, K := A.K.reset, T := A.T.reset } : Ma)) hA]; decide) (un_one _) ?_; intro wS hY hkS; replace hX := hY; clear hY hkS))
  have hL3 := Ma.len (A := ({ A with k := A.k.reset, K := A.K.reset, T := A.T.reset, U := Un.z } : Ma)) ⟨hA.1, hA.2.1, rfl⟩ vs vd vt
  go_loopw [3, 4] (fun rv iv wr => ∃ (i : Nat) (v' : Value), i ≤ A.L.length ∧ v' = rv ∧ iv = .int .i64 i ∧ wr.ownsRow (w.heap.size + 2) 68 9 v' i (((A.L.take i).map Ln.reset).flatMap lnL) ∧ Bag [(w.heap.size + 1, 44, mzL), (w.heap.size, 44, (({ A with k := A.k.reset, K := A.K.reset, T := A.T.reset, U := Un.z } : Ma)).cells vm vb vl vs vd vt)] w wr) (fun _ iv _ => match iv with | .int _ q => A.L.length - q.toNat | _ => 0)
  case atStart => exact ⟨0, _, Nat.zero_le _, rfl, rfl, World.ownsRow_nil _ _ _ _, hX⟩
  case round =>
    clear hX
    obtain ⟨i, rv, hi, rfl, rfl, ho, hX⟩ := hrel
    obtain ⟨aL, cL, rfl, hcl, hld⟩ := lns_form hV.l.now
    by_cases hlt : i < A.L.length
    · obtain ⟨x, hx⟩ : ∃ x, A.L[i]? = some x := ⟨_, List.getElem?_eq_getElem hlt⟩
      obtain ⟨ad, rfl, hld2⟩ := hld i x hx
      have i0 : (0 : Int) ≤ (i : Int) := by omega
      have i1 : (i : Int) < (A.L.length : Int) := by omega
      have i2 : IntKind.i64.wrap ((i : Int) + 1) = (i : Int) + 1 := by rw [wrap_i64]; unfold wrap64; omega
      have hfl := flat_snoc18 Ln.reset hx
      have hnx := fun (wz : World) => rresetL18 x wz
      replace hx := hid hx
      replace hfl := hid hfl
      clear hld hR
      go_wp2_with (first | ((with_reducible refine at_load ?_); refine ldc (hk := get_l hL3) hX slL_cell ?_) | ((with_reducible refine at_load ?_); refine wpList_loadW rfl 68 _ _ _ rfl rfl (hld2 _ hX.below) ?_) | (go_at_call 65; (with_reducible refine (hnx _).mono ?_); rintro e' wc ⟨rfl, hbb⟩; replace ho := own_step ho hbb; replace hX := hX.step hbb; clear hbb) | ((with_reducible refine at_bslice18 ?_); refine wpList_sliceLn rfl _ rfl rfl rfl ?_; intro wl hbl hcel; replace ho := own_step ho hbl; replace hX := hX.step hbl; clear hbl) | (at_builtin; refine wpList_appLn rfl (.tmp 28) (.tmp 35) rfl (w.heap.size + 2) _ i _ rfl ho _ 1 1 (lnL (Ln.reset x)) rfl rfl hcel (lnL_one _) (by omega) (show w.heap.size + 2 ≤ _ from (hX.all _ _ _ (.head _)).lt) ?_; intro v2 w2 ho3 hb2; replace hX := hX.stepN hb2 (by intro q hq; simp only [List.mem_cons, List.not_mem_nil, or_false] at hq; rcases hq with rfl | rfl <;> simp) (Nat.le_add_right _ _); clear hb2 hcel))
      exact ⟨⟨i + 1, v2, by omega, rfl, by go_num, by rw [show _ = _ from hfl] at ho3; exact ho3, hX⟩, by simp only; omega⟩
    · obtain rfl : i = A.L.length := by omega
      have i1 : ¬ (A.L.length : Int) < (A.L.length : Int) := by omega
      rw [List.take_length] at ho
      obtain ⟨A9, c9, rfl, _, _⟩ := Rw.of_own ho
      have hlm : (A.L.map Ln.reset).length = A.L.length := List.length_map ..
      clear hld hR
      go_wp2_with (first | ((with_reducible refine at_load ?_); refine ldc (hk := get_l hL3) hX slL_cell ?_) | ((with_reducible refine at_store ?_); refine stk2 hX siz_sL18 (Ma.set_l (A := ({ A with k := A.k.reset, K := A.K.reset, T := A.T.reset, U := Un.z } : Ma)) ⟨hA.1, hA.2.1, rfl⟩ (A.L.map Ln.reset) _) (by rw [Ma.clen (A := ({ A with k := A.k.reset, K := A.K.reset, T := A.T.reset, U := Un.z } : Ma)) ⟨hA.1, hA.2.1, rfl⟩]; decide) rfl ?_; intro wS hY hkS; replace ho := own_over hX.swap ho (by decide) hkS; replace hX := hY; clear hY hkS) | ((with_reducible refine at_load ?_); refine ldw (hn := Ma.clen (A := ({ A with k := A.k.reset, K := A.K.reset, T := A.T.reset, U := Un.z, L := A.L.map Ln.reset } : Ma)) ⟨hA.1, hA.2.1, rfl⟩) hX aggM sizM ?_) | ((with_reducible refine at_store ?_); refine stw hX aggM sizM (Ma.cone (A := ({ A with k := A.k.reset, K := A.K.reset, T := A.T.reset, U := Un.z, L := A.L.map Ln.reset } : Ma)) ⟨hA.1, hA.2.1, rfl⟩ o1 o2 rfl o4 o5 o6) (hn := Ma.clen (A := ({ A with k := A.k.reset, K := A.K.reset, T := A.T.reset, U := Un.z, L := A.L.map Ln.reset } : Ma)) ⟨hA.1, hA.2.1, rfl⟩) (hc := mzL_len) ?_; intro wS hY hkS; replace ho := own_over hX ho (by decide) hkS; replace hX := hY; clear hY hkS))
      exact bodyPost_ret (results_c Tryz.results26 rfl ((hX.all _ _ _ (.head _)).loadVar (Ma.clen (A := ({ A with k := A.k.reset, K := A.K.reset, T := A.T.reset, U := Un.z, L := A.L.map Ln.reset } : Ma)) ⟨hA.1, hA.2.1, rfl⟩) aggM sizM)) rfl ⟨_, rfl, ⟨_, _, _, _, _, _, rfl, Sv.below hV.m hX.below, Sv.below hV.b hX.below, by unfold LnsX; show Sv _ _ _ (A.L.map Ln.reset).length _; rw [hlm]; exact Sv.of_own ho (fun b hb => by have := hXl b hb; omega), Sv.below hV.s hX.below, Sv.below hV.d hX.below, Sv.below hV.t hX.below⟩, hX.below⟩
end Go.Proofs.YthpnddgfgpacpaaGreat
/-
  Results of a controller are valid: plain (out of stage 16's own text). No condition.
-/
namespace Go.Proofs.YthpnddgfgpacpaaGreat
open Go.RowKit
set_option linter.unusedSimpArgs false
set_option linter.unusedVariables false
set_option maxHeartbeats 4000000
set_option maxRecDepth 100000
attribute [local irreducible] wpQuiet

theorem words_iff : ∀ l : List Int, wordsB l = true ↔ ∀ x ∈ l, 0 ≤ x ∧ x ≤ 65535
  | [] => by simp [wordsB]
  | x :: r => by
    simp only [wordsB, Bool.and_eq_true, decide_eq_true_eq, List.mem_cons, forall_eq_or_imp, words_iff r]
theorem badB_low (n : Int) : ∀ (l : List Int) (a b : Int), a ≤ b → badB n b l = true → badB n a l = true
  | [], _, _, _, _ => rfl
  | x :: r, a, b, h, h1 => by
    simp only [badB, Bool.and_eq_true, decide_eq_true_eq] at h1 ⊢
    exact ⟨⟨by omega, h1.1.2⟩, h1.2⟩
theorem badB_filter (n : Int) (p : Int → Bool) : ∀ (l : List Int) (a : Int), badB n a l = true → badB n a (l.filter p) = true
  | [], _, _ => rfl
  | x :: r, a, h1 => by
    simp only [badB, Bool.and_eq_true, decide_eq_true_eq] at h1
    have ih := badB_filter n p r (x + 2) h1.2
    rw [List.filter_cons]
    split
    · simp only [badB, Bool.and_eq_true, decide_eq_true_eq]
      exact ⟨h1.1, ih⟩
    · exact badB_low n _ a (x + 2) (by omega) ih
/-- What a tick keeps. -/
structure Kept (K : Dk) (m B : List Int) (K2 : Dk) (m2 B2 : List Int) : Prop where
  right : K2.right = true
  mem : rightP m2 B2 = true
  ml : m2.length = m.length
  bl : B2.length ≤ B.length
  sl : K2.D.S.length = K.D.S.length
  db : K2.D.B = K.D.B
theorem Kept.refl {K : Dk} {m B : List Int} (h : K.right = true) (hm : rightP m B = true) : Kept K m B K m B := ⟨h, hm, rfl, Nat.le_refl _, rfl, rfl⟩
theorem Kept.trans {K1 K2 K3 : Dk} {m1 m2 m3 B1 B2 B3 : List Int} (h : Kept K1 m1 B1 K2 m2 B2) (h2 : Kept K2 m2 B2 K3 m3 B3) : Kept K1 m1 B1 K3 m3 B3 :=
  ⟨h2.right, h2.mem, h2.ml.trans h.ml, Nat.le_trans h2.bl h.bl, h2.sl.trans h.sl, h2.db.trans h.db⟩
theorem rightP_iff (m B : List Int) : rightP m B = true ↔ okS (2 * (m.length : Int)) = true ∧ (∀ x ∈ m, 0 ≤ x ∧ x ≤ 65535) ∧ badB (2 * (m.length : Int)) 0 B = true := by
  unfold rightP; simp only [Bool.and_eq_true, words_iff]
theorem accK_right {K : Dk} (h : K.right = true) (v : Int) : (K.acc v).right = true := by
  unfold Dk.acc
  split
  · unfold Dk.right at *; exact h
  · exact h
theorem resetK_right {K : Dk} (h : K.right = true) : K.reset.right = true := by
  unfold Dk.right at *
  rw [Bool.and_eq_true] at *
  obtain ⟨hok, hD⟩ := h
  obtain ⟨⟨hc0, hc3⟩, hw1, ha1, hs1, ha2, ⟨hl0, hl8⟩, hrl, hcw⟩ := (Dk.ok_iff K).1 hok
  exact ⟨(Dk.ok_iff _).2 ⟨(show (0 : Int) ≤ 0 ∧ (0 : Int) ≤ 3 by decide), hw1, ha1, hs1, ha2, (show (0 : Int) ≤ 0 ∧ (0 : Int) ≤ 8 by decide), rfl, .inl rfl⟩, hD⟩
end Go.Proofs.YthpnddgfgpacpaaGreat
/-
  SameTexts, Same, passed, back, appended of the reference. Condition: at most 2^40 records; the head is on the tape.
-/
namespace Go.Proofs.YthpnddgfgpacpaaGreat
open Go.RowKit
set_option linter.unusedSimpArgs false
set_option linter.unusedVariables false
set_option maxHeartbeats 4000000
set_option maxRecDepth 100000
attribute [local irreducible] wpQuiet

theorem rsameS_any (L : List ByteArray) (hl : L.length ≤ 1099511627776) (v v2 : Value) (w : World) (h1 : Sts w v L) (h2 : Sts w v2 L) : Calls Tryz.prog 131 #[v, v2] w fun e' w' => e' = .returned (.bool true) ∧ Below w.heap.size w w' := by
  obtain ⟨A, c, rfl, _, hc⟩ := h1.form
  obtain ⟨A2, c2, rfl, _, hc2⟩ := h2.form
  have hB := Below.refl w.heap.size w
  clear h1 h2
  go_enter Tryz.func131, Tryz.ntmps131
  go_wp2
  go_loopw [5] (fun iv wr => ∃ i : Nat, i ≤ L.length ∧ iv = .int .i64 i ∧ Below w.heap.size w wr) (fun i _ => match i with | .int _ q => L.length - q.toNat | _ => 0)
  case atStart => exact ⟨0, Nat.zero_le _, rfl, hB⟩
  case round =>
    clear hB
    obtain ⟨i, hi, rfl, hB⟩ := hrel
    by_cases hin : i < L.length
    · have hii : (i : Int) < (L.length : Int) := by omega
      have hx := List.getElem?_eq_getElem hin
      generalize L[i] = x at *
      obtain ⟨a, rfl, hL⟩ := hc i x hx
      obtain ⟨a2, rfl, hL2⟩ := hc2 i x hx
      clear hx hc hc2
      go_wp2
      refine region_class (fun w' => Below w.heap.size w w') (by kernel_rfl) (by kernel_rfl) hB.drew ?_
      repeat
        first
          | (refine BigFrame.wpQuiet_skip (by rfl) ?_
             simp only [Act.put, List.setIfInBounds_toArray, List.set_cons_zero, List.set_cons_succ])
          | (refine BigFrame.wpQuiet_want (by rfl) (fun K hK => ?_)
             apply Exists.intro
             refine ⟨fun wq hq => ?_, hK _ ?_⟩
             · first
                 | (refine quiet_load 9 _ _ _ rfl rfl (hL _ hq))
                 | (refine quiet_load 9 _ _ _ rfl rfl (hL2 _ hq))
                 | (unfold Oper.quietAt
                    go_simp
                    first
                      | with_reducible rfl
                   )
             clear hK K
             simp only [Act.put, List.setIfInBounds_toArray, List.set_cons_zero, List.set_cons_succ])
      refine wpQuiet_nil ?_
      intro w4 hB
      go_wp2
      exact ⟨⟨i + 1, by omega, by go_num, hB⟩, by simp only; omega⟩
    · have hii : ¬ (i : Int) < (L.length : Int) := by omega
      clear hc hc2
      go_wp2
      go_ret
      exact ⟨rfl, hB⟩
theorem rsameT_any (K : Tp) (hl : K.R.length ≤ 1099511627776) (v v2 : Value) (w : World) (h1 : Sts w v K.R) (h2 : Sts w v2 K.R) : Calls Tryz.prog 101 #[.agg #[v, .int .i64 (K).p, .bool (K).n, .bool (K).r, .bool (K).e, .bool (K).m, .bool (K).d, .int .i64 (K).c, .int .i64 (K).k, .int .i64 (K).a, .int .i64 (K).l], .agg #[v2, .int .i64 (K).p, .bool (K).n, .bool (K).r, .bool (K).e, .bool (K).m, .bool (K).d, .int .i64 (K).c, .int .i64 (K).k, .int .i64 (K).a, .int .i64 (K).l]] w fun e' w' => e' = .returned (.bool true) ∧ Below w.heap.size w w' := by
  have hst := fun w' (h : Below w.heap.size w w') => rsameS_any K.R hl v v2 w' (Rz.below h1 h) (Rz.below h2 h)
  obtain ⟨A, c1, rfl, _⟩ := h1.form
  obtain ⟨A2, c2, rfl, _⟩ := h2.form
  obtain ⟨R, p, n, r, e, m, d, c, k, a, l⟩ := K
  dsimp only at *
  have hX := two_tp w [(.slice A R.length c1), .int .i64 p, .bool n, .bool r, .bool e, .bool m, .bool d, .int .i64 c, .int .i64 k, .int .i64 a, .int .i64 l] [(.slice A2 R.length c2), .int .i64 p, .bool n, .bool r, .bool e, .bool m, .bool d, .int .i64 c, .int .i64 k, .int .i64 a, .int .i64 l]
  clear h1 h2
  go_enter Tryz.func101, Tryz.ntmps101
  go_wp2_with (first | ((with_reducible refine at_load ?_); refine wpList_bag_cell hX int_cell _ rfl rfl rfl rfl (by first | exact .head _ | exact .tail _ (.head _)) rfl ?_) | ((with_reducible refine at_load ?_); refine wpList_bag_cell hX bool_cell _ rfl rfl rfl rfl (by first | exact .head _ | exact .tail _ (.head _)) rfl ?_) | ((with_reducible refine at_load ?_); refine wpList_bag_cell hX slS_cell _ rfl rfl rfl rfl (by first | exact .head _ | exact .tail _ (.head _)) rfl ?_) | (go_at_call 131; (with_reducible refine (hst _ hX.below).mono ?_); rintro e' w' ⟨rfl, hbb⟩; replace hX := hX.step hbb; clear hbb))
  go_ret
  exact ⟨by simp, hX.below⟩
end Go.Proofs.YthpnddgfgpacpaaGreat
/-
  Walks over Bytes of package memory and of its reference. Condition: lists have at most 2^40 elements.
-/
namespace Go.Proofs.YthpnddgfgpacpaaGreat
open Go.RowKit
set_option maxRecDepth 100000
set_option linter.unusedSimpArgs false
set_option linter.unusedVariables false
set_option maxHeartbeats 1000000
attribute [local irreducible] wpQuiet

/-- Byte j, as a cell. -/
def b8 (l : List Int) (a j : Nat) : Value := .int .u8 (byteN l (a + j))
end Go.Proofs.YthpnddgfgpacpaaGreat
/-
  cleared, spoilt, write of the reference. Condition: addresses are words; the head is on the tape.
-/
namespace Go.Proofs.YthpnddgfgpacpaaGreat
open Go.RowKit
set_option linter.unusedSimpArgs false
set_option linter.unusedVariables false
set_option maxHeartbeats 4000000
set_option maxRecDepth 100000
attribute [local irreducible] wpQuiet

theorem bag_lt {B : Nat} {t : TypeId} {cs : List Value} {l : List (Nat × TypeId × List Value)} {w0 w : World} (h : Bag ((B, t, cs) :: l) w0 w) : B < w.heap.size := (h.all _ _ _ (.head _)).lt
end Go.Proofs.YthpnddgfgpacpaaGreat
