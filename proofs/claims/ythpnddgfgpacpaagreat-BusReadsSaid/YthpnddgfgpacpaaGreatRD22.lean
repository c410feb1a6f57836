import Derived.Test.YthpnddgfgpacpaaGreatRD21
import Derived.Test.YthpnddgfgpacpaaGreatRD16
import Derived.Test.YthpnddgfgpacpaaGreatRD03
import Derived.Test.YthpnddgfgpacpaaGreatRD08
/-
  Read of the reference. Condition: a valid machine.
-/
namespace Go.Proofs.YthpnddgfgpacpaaGreat
open Go.RowKit
set_option linter.unusedSimpArgs false
set_option linter.unusedVariables false
set_option maxHeartbeats 4000000
set_option maxRecDepth 100000
attribute [local irreducible] wpQuiet

theorem ownW18 {X : Nat → Prop} {N : Nat} : ∀ b, b < N → OwnA X N b → X b := fun b hb h => by
  rcases h with h | h | h
  · exact h
  · omega
  · omega
/-- What Read returns. -/
def RdS (X : Nat → Prop) (w : World) (vm vb vs vd vt : Value) (T : Ma × Int × Int) (e' : Ending) (w' : World) : Prop := ∃ vl', e' = .returned (.tuple #[.agg (T.1.cells vm vb vl' vs vd vt).toArray, .int .i64 T.2.1, .int .i64 T.2.2]) ∧ vl'.oneCell' = true ∧ LnsX X w' vl' T.1.L ∧ Below w.heap.size w w'
theorem rdR_ok {A : Ma} (h : A.ok) (off : Int) : (A.rdR off).1.ok := by
  unfold Ma.rdR
  repeat' split
  all_goals exact h
theorem stB_lo (a b : Bool) : 0 ≤ stB a b ∧ stB a b ≤ 192 := by cases a <;> cases b <;> decide
theorem line_lo {A : Ma} (h : A.right = true) {off : Int} (hq : A.isL off = true) : (lnAt A off).right = true := by
  unfold Ma.isL at hq
  simp only [Bool.and_eq_true, decide_eq_true_eq] at hq
  have hl : ((off - 512) / 8).toNat < A.L.length := by omega
  have hx : lnAt A off = A.L[((off - 512) / 8).toNat] := by unfold lnAt; rw [List.getD_eq_getElem?_getD, List.getElem?_eq_getElem hl]; rfl
  rw [hx]
  exact (Ma.parts h).2.1 _ (List.getElem_mem hl)
theorem rdR_lo {A : Ma} (hA : A.ok) (h : A.right = true) (off : Int) : 0 ≤ (A.rdR off).2.1 ∧ (A.rdR off).2.1 ≤ 65535 := by
  obtain ⟨hl4, hln, _, hUr, _, hKr, hTr⟩ := Ma.parts h
  unfold Ma.rdR
  split
  · rename_i hq
    have hd := ln_d (line_lo h hq)
    unfold Ln.rd
    dsimp only
    have h1 := stB_lo (lnAt A off).a (lnAt A off).b
    have h2 := stB_lo (lnAt A off).e (lnAt A off).f
    repeat' split
    all_goals dsimp only
    all_goals omega
  split
  · dsimp only
    unfold Ck.read
    cases A.k.e <;> cases A.k.r <;> decide
  split
  · dsimp only
    unfold Dk.right at hKr
    rw [Bool.and_eq_true] at hKr
    obtain ⟨hc, hw1, ha1, hs1, _⟩ := (Dk.ok_iff A.K).1 hKr.1
    rw [wordV_iff] at hw1 ha1 hs1
    unfold Dk.rd stK
    repeat' split
    all_goals dsimp only
    all_goals omega
  split
  · dsimp only
    unfold Tp.right at hTr
    rw [Bool.and_eq_true] at hTr
    obtain ⟨_, _, hc, hk, ha, _⟩ := (Tp.ok_iff A.T).1 hTr.1
    rw [wordV_iff_17] at hk ha
    unfold Tp.rd stT
    repeat' split
    all_goals dsimp only
    all_goals omega
  · dsimp only
    unfold Un.right at hUr
    rw [Bool.and_eq_true, List.all_eq_true] at hUr
    obtain ⟨hp, ht⟩ := hUr
    unfold Un.tail at ht
    simp only [Bool.and_eq_true, decide_eq_true_eq] at ht
    unfold Un.read
    split
    · dsimp only
      unfold statV
      split <;> omega
    split
    · dsimp only; omega
    split
    · rename_i hr
      have hg := Pg.good_all (hp _ (List.mem_of_getElem? (Un.pgAt_some hA.2.2 (regK_lt hr))))
      split
      · dsimp only
        unfold descV
        split <;> omega
      · dsimp only; omega
    · dsimp only; omega
theorem badB_len18 (n : Int) : ∀ (l : List Int) (low : Int), badB n low l = true → (l.length : Int) ≤ max 0 (n - low)
  | [], low, _ => by simp; omega
  | x :: r, low, h => by
    unfold badB at h
    simp only [Bool.and_eq_true, decide_eq_true_eq] at h
    have := badB_len18 n r (x + 2) h.2
    rw [List.length_cons]
    omega
theorem mem_lens {M B : List Int} (h : rightP M B = true) : M.length ≤ 1099511627776 ∧ B.length ≤ 1099511627776 := by
  unfold rightP at h
  simp only [Bool.and_eq_true] at h
  have h1 := badB_len18 _ _ _ h.2.2
  have h2 : M.length ≤ 16384 := by have := h.1; unfold okS at this; simp at this; omega
  omega
theorem rbRead_mem (A : Ma) (hA : A.ok) (hR : A.right = true) (vm vb vl vs vd vt : Value) (o1 : vm.oneCell' = true) (o2 : vb.oneCell' = true) (o3 : vl.oneCell' = true) (o4 : vs.oneCell' = true) (o5 : vd.oneCell' = true) (o6 : vt.oneCell' = true) (X : Nat → Prop) (w : World) (hXl : ∀ b, X b → b < w.heap.size) (hN : MaNow w A vm vb vl vs vd vt) (hl : LnsX X w vl A.L) (p : Int) (b : Bool) (hp : physP p < 253952) : Calls Tryz.prog 14 #[.agg (A.cells vm vb vl vs vd vt).toArray, .int .i64 p, .bool b] w (RdS X w vm vb vs vd vt (A.read p b)) := by
  have hL := Ma.len hA vs vd vt
  have hX := two_ma w (A.cells vm vb vl vs vd vt)
  have hM := (Ma.parts hR).2.2.1
  have hr : A.read p b = (A, readV A.M A.B (physP p) b, readT (2 * (A.M.length : Int)) A.B (physP p) b) := by unfold Ma.read; rw [if_pos hp]
  rw [hr]
  have hph := fun wz => rphys_any p wz
  have hle := mem_lens hM
  have hrm := fun (wz : World) (hb : Below w.heap.size w wz) => rreadM8_any vm vb A.M A.B hle.1 hle.2 (physP p) b wz (Its.nums18 (Rz.below hN.m hb)) (Its.nums18 (Rz.below hN.b hb))
  generalize physP p = P at *
  clear hr hM hle
  go_enter Tryz.func14, Tryz.ntmps14
  go_upto_region 1 with (first | ((with_reducible refine at_alloc18 ?_); refine wpList_allocM rfl rfl ?_))
  generalize ((w.alloc (Obj.cells (A.cells vm vb vl vs vd vt).toArray 44)).alloc (Obj.cells mzL.toArray 44)) = wQ at hX ⊢
  go_wp2_with (first | ((with_reducible refine at_load ?_); refine ldw (hn := Ma.clen hA) hX aggM sizM ?_) | (go_at_call 39; (with_reducible refine (hph _).mono ?_); rintro e' wc ⟨rfl, hbb⟩; replace hX := hX.step hbb; clear hbb) | ((with_reducible refine at_load ?_); refine ldc (hk := get_m hL) hX slI_cell ?_) | ((with_reducible refine at_load ?_); refine ldc (hk := get_b hL) hX slI_cell ?_) | (go_at_call 40; (with_reducible refine (hrm _ hX.below).mono ?_); rintro e' wc ⟨rfl, hbb⟩; replace hX := hX.step hbb; clear hbb) | ((with_reducible refine at_store ?_); refine stw hX aggM sizM (Ma.cone hA o1 o2 o3 o4 o5 o6) (hn := Ma.clen hA) (hc := mzL_len) ?_; intro wS hY hkS; replace hX := hY; clear hY hkS))
  exact bodyPost_ret (results_ctt18 Tryz.results14 rfl ((hX.all _ _ _ (.head _)).loadVar (Ma.clen hA) aggM sizM)) rfl ⟨_, rfl, o3, Sv.below hl hX.below, hX.below⟩
theorem rbRead_odd (A : Ma) (hA : A.ok) (hR : A.right = true) (vm vb vl vs vd vt : Value) (o1 : vm.oneCell' = true) (o2 : vb.oneCell' = true) (o3 : vl.oneCell' = true) (o4 : vs.oneCell' = true) (o5 : vd.oneCell' = true) (o6 : vt.oneCell' = true) (X : Nat → Prop) (w : World) (hXl : ∀ b, X b → b < w.heap.size) (hN : MaNow w A vm vb vl vs vd vt) (hl : LnsX X w vl A.L) (p : Int) (hp : ¬ physP p < 253952) (ho : (physP p - 253952) % 2 = 1) : Calls Tryz.prog 14 #[.agg (A.cells vm vb vl vs vd vt).toArray, .int .i64 p, .bool false] w (RdS X w vm vb vs vd vt (A.read p false)) := by
  have hX := two_ma w (A.cells vm vb vl vs vd vt)
  have hr : A.read p false = (A, 0, 1) := by unfold Ma.read; rw [if_neg hp, if_pos ⟨rfl, ho⟩]
  rw [hr]
  have hph := fun wz => rphys_any p wz
  have h9 : physP p < 262144 := by unfold physP; omega
  generalize physP p = P at *
  have w1 : IntKind.i64.wrap (P - 253952) = P - 253952 := by rw [wrap_i64]; unfold wrap64; omega
  have t1 : (P - 253952).tmod 2 = 1 := by rw [Int.tmod_eq_emod_of_nonneg (by omega)]; exact ho
  have w2 : IntKind.i64.wrap 1 = 1 := by decide
  clear hr ho h9
  go_enter Tryz.func14, Tryz.ntmps14
  go_upto_region 1 with (first | ((with_reducible refine at_alloc18 ?_); refine wpList_allocM rfl rfl ?_))
  generalize ((w.alloc (Obj.cells (A.cells vm vb vl vs vd vt).toArray 44)).alloc (Obj.cells mzL.toArray 44)) = wQ at hX ⊢
  go_wp2_with (first | ((with_reducible refine at_load ?_); refine ldw (hn := Ma.clen hA) hX aggM sizM ?_) | (go_at_call 39; (with_reducible refine (hph _).mono ?_); rintro e' wc ⟨rfl, hbb⟩; replace hX := hX.step hbb; clear hbb) | ((with_reducible refine at_store ?_); refine stw hX aggM sizM (Ma.cone hA o1 o2 o3 o4 o5 o6) (hn := Ma.clen hA) (hc := mzL_len) ?_; intro wS hY hkS; replace hX := hY; clear hY hkS))
  exact bodyPost_ret (results_ctt18 Tryz.results14 rfl ((hX.all _ _ _ (.head _)).loadVar (Ma.clen hA) aggM sizM)) rfl ⟨_, rfl, o3, Sv.below hl hX.below, hX.below⟩
theorem rbRead_reg (A : Ma) (hA : A.ok) (hR : A.right = true) (vm vb vl vs vd vt : Value) (o1 : vm.oneCell' = true) (o2 : vb.oneCell' = true) (o3 : vl.oneCell' = true) (o4 : vs.oneCell' = true) (o5 : vd.oneCell' = true) (o6 : vt.oneCell' = true) (X : Nat → Prop) (w : World) (hXl : ∀ b, X b → b < w.heap.size) (hN : MaNow w A vm vb vl vs vd vt) (hl : LnsX X w vl A.L) (p : Int) (b : Bool) (hp : ¬ physP p < 253952) (ho : ¬ (b = false ∧ (physP p - 253952) % 2 = 1)) : Calls Tryz.prog 14 #[.agg (A.cells vm vb vl vs vd vt).toArray, .int .i64 p, .bool b] w (RdS X w vm vb vs vd vt (A.read p b)) := by
  have hX := two_ma w (A.cells vm vb vl vs vd vt)
  have hph := fun wz => rphys_any p wz
  have h9 : physP p < 262144 := by unfold physP; omega
  unfold Ma.read
  rw [if_neg hp, if_neg ho]
  generalize physP p = P at *
  obtain ⟨o, hoP⟩ : ∃ o, P - 253952 = o := ⟨_, rfl⟩
  have w1 : IntKind.i64.wrap (P - 253952) = o := by rw [hoP, wrap_i64]; unfold wrap64; omega
  rw [hoP] at ho ⊢
  have h0 : 0 ≤ o ∧ o < 8192 := by omega
  obtain ⟨g, hg⟩ : ∃ g, o % 2 = g := ⟨_, rfl⟩
  obtain ⟨e, he⟩ : ∃ e, o / 2 * 2 = e := ⟨_, rfl⟩
  have t1 : o.tmod 2 = g := by rw [Int.tmod_eq_emod_of_nonneg h0.1]; exact hg
  have w2 : IntKind.i64.wrap g = g := by rw [wrap_i64]; unfold wrap64; omega
  have w3 : IntKind.i64.wrap (o - g) = e := by rw [show o - g = e by omega, wrap_i64]; unfold wrap64; omega
  have hrg := fun (wz : World) (hb : Below w.heap.size w wz) (h2 : w.heap.size + 2 ≤ wz.heap.size) => rreadReg_any A hA hR vm vb vl vs vd vt o1 o2 o3 o4 o5 o6 (OwnA X w.heap.size) wz (ownA18 hXl h2) (hN.step hb) (Sv.weak hl hb ownW18) e (by omega)
  have hA2 := rdR_ok hA e
  have hv := rdR_lo hA hR e
  rw [hg] at ho ⊢
  rw [he]
  have hgg : g = 0 ∨ g = 1 := by omega
  generalize A.rdR e = Q3 at *
  obtain ⟨A2, v, ok⟩ := Q3
  dsimp only at hv hA2 ⊢
  have t2 : v.tdiv 256 = v / 256 := Int.tdiv_eq_ediv_of_nonneg hv.1
  have t3 : v.tmod 256 = v % 256 := Int.tmod_eq_emod_of_nonneg hv.1
  have w4 : IntKind.i64.wrap (v / 256) = v / 256 := by rw [wrap_i64]; unfold wrap64; omega
  have w5 : IntKind.i64.wrap (v % 256) = v % 256 := by rw [wrap_i64]; unfold wrap64; omega
  clear hoP h0 hg he h9 hv hR
  cases ok
  · rw [if_pos rfl]
    have hc : (b = false ∧ g = 0) ∨ (b = true ∧ (g = 0 ∨ g = 1)) := by cases b <;> simp_all
    clear ho hgg
    rcases hc with ⟨rfl, rfl⟩ | ⟨rfl, rfl | rfl⟩
    all_goals
      try rw [Int.sub_zero] at w3
      go_enter Tryz.func14, Tryz.ntmps14
      go_upto_region 1 with (first | ((with_reducible refine at_alloc18 ?_); refine wpList_allocM rfl rfl ?_))
      generalize ((w.alloc (Obj.cells (A.cells vm vb vl vs vd vt).toArray 44)).alloc (Obj.cells mzL.toArray 44)) = wQ at hX ⊢
      go_wp2_with (first | ((with_reducible refine at_load ?_); refine ldw (hn := Ma.clen hA) hX aggM sizM ?_) | (go_at_call 39; (with_reducible refine (hph _).mono ?_); rintro e' wc ⟨rfl, hbb⟩; replace hX := hX.step hbb; clear hbb) | (go_at_call 41; have hLT : w.heap.size + 2 ≤ _ := (hX.all _ _ _ (.head _)).lt; (with_reducible refine (hrg _ hX.below hLT).mono ?_); rintro e' wc ⟨vl', rfl, ov, hls, hbb⟩; replace hX := hX.step hbb; clear hbb hLT) | ((with_reducible refine at_alloc18 ?_); refine wpList_allocM rfl rfl ?_) | ((with_reducible refine at_store ?_); refine stn hX aggM sizM (Ma.cone (A := A2) hA2 o1 o2 ov o4 o5 o6) (hn := Ma.clen (A := A2) hA2) (hm := mzL_len) ?_; intro wS hY hbS; replace hls := Sv.below hls hbS; replace hX := hY; clear hY hbS) | ((with_reducible refine at_store ?_); refine stw2 hX aggM sizM (Ma.cone hA o1 o2 o3 o4 o5 o6) (hn := Ma.clen hA) (hc := mzL_len) ?_; intro wS hY hkS; replace hX := hY; clear hY hkS))
      exact bodyPost_ret (results_ctt18 Tryz.results14 rfl ((hX.all _ _ _ (.tail _ (.head _))).loadVar (Ma.clen hA) aggM sizM)) rfl ⟨_, rfl, o3, Sv.below hl hX.below, hX.below⟩
  · rw [if_neg (by decide)]
    cases b
    · obtain rfl : g = 0 := by rcases hgg with h | h; exact h; exact absurd ⟨rfl, h⟩ ho
      clear ho hgg
      rw [if_pos rfl]
      rw [Int.sub_zero] at w3
      go_enter Tryz.func14, Tryz.ntmps14
      go_upto_region 1 with (first | ((with_reducible refine at_alloc18 ?_); refine wpList_allocM rfl rfl ?_))
      generalize ((w.alloc (Obj.cells (A.cells vm vb vl vs vd vt).toArray 44)).alloc (Obj.cells mzL.toArray 44)) = wQ at hX ⊢
      go_wp2_with (first | ((with_reducible refine at_load ?_); refine ldw (hn := Ma.clen hA) hX aggM sizM ?_) | (go_at_call 39; (with_reducible refine (hph _).mono ?_); rintro e' wc ⟨rfl, hbb⟩; replace hX := hX.step hbb; clear hbb) | (go_at_call 41; have hLT : w.heap.size + 2 ≤ _ := (hX.all _ _ _ (.head _)).lt; (with_reducible refine (hrg _ hX.below hLT).mono ?_); rintro e' wc ⟨vl', rfl, ov, hls, hbb⟩; replace hX := hX.step hbb; clear hbb hLT) | ((with_reducible refine at_alloc18 ?_); refine wpList_allocM rfl rfl ?_) | ((with_reducible refine at_store ?_); refine stn hX aggM sizM (Ma.cone (A := A2) hA2 o1 o2 ov o4 o5 o6) (hn := Ma.clen (A := A2) hA2) (hm := mzL_len) ?_; intro wS hY hbS; replace hls := Sv.below hls hbS; replace hX := hY; clear hY hbS) | ((with_reducible refine at_load ?_); refine ldw (hn := Ma.clen (A := A2) hA2) hX aggM sizM ?_) | ((with_reducible refine at_store ?_); refine stw2 hX aggM sizM (Ma.cone (A := A2) hA2 o1 o2 ov o4 o5 o6) (hn := Ma.clen (A := A2) hA2) (hc := mzL_len) ?_; intro wS hY hkS; replace hls := Sv.off hls (fun b _ hb => hkS b (fun e => hb (.inr (.inr e)))) (fun _ _ h => h); replace hX := hY; clear hY hkS))
      exact bodyPost_ret (results_ctt18 Tryz.results14 rfl ((hX.all _ _ _ (.tail _ (.head _))).loadVar (Ma.clen (A := A2) hA2) aggM sizM)) rfl ⟨_, rfl, ov, Sv.off hls (fun _ _ _ => rfl) (fun b _ h => .inl h), hX.below⟩
    · rw [if_neg (by decide)]
      clear ho
      rcases hgg with rfl | rfl
      · rw [if_neg (by decide)]
        rw [Int.sub_zero] at w3
        go_enter Tryz.func14, Tryz.ntmps14
        go_upto_region 1 with (first | ((with_reducible refine at_alloc18 ?_); refine wpList_allocM rfl rfl ?_))
        generalize ((w.alloc (Obj.cells (A.cells vm vb vl vs vd vt).toArray 44)).alloc (Obj.cells mzL.toArray 44)) = wQ at hX ⊢
        go_wp2_with (first | ((with_reducible refine at_load ?_); refine ldw (hn := Ma.clen hA) hX aggM sizM ?_) | (go_at_call 39; (with_reducible refine (hph _).mono ?_); rintro e' wc ⟨rfl, hbb⟩; replace hX := hX.step hbb; clear hbb) | (go_at_call 41; have hLT : w.heap.size + 2 ≤ _ := (hX.all _ _ _ (.head _)).lt; (with_reducible refine (hrg _ hX.below hLT).mono ?_); rintro e' wc ⟨vl', rfl, ov, hls, hbb⟩; replace hX := hX.step hbb; clear hbb hLT) | ((with_reducible refine at_alloc18 ?_); refine wpList_allocM rfl rfl ?_) | ((with_reducible refine at_store ?_); refine stn hX aggM sizM (Ma.cone (A := A2) hA2 o1 o2 ov o4 o5 o6) (hn := Ma.clen (A := A2) hA2) (hm := mzL_len) ?_; intro wS hY hbS; replace hls := Sv.below hls hbS; replace hX := hY; clear hY hbS) | ((with_reducible refine at_load ?_); refine ldw (hn := Ma.clen (A := A2) hA2) hX aggM sizM ?_) | ((with_reducible refine at_store ?_); refine stw2 hX aggM sizM (Ma.cone (A := A2) hA2 o1 o2 ov o4 o5 o6) (hn := Ma.clen (A := A2) hA2) (hc := mzL_len) ?_; intro wS hY hkS; replace hls := Sv.off hls (fun b _ hb => hkS b (fun e => hb (.inr (.inr e)))) (fun _ _ h => h); replace hX := hY; clear hY hkS))
        exact bodyPost_ret (results_ctt18 Tryz.results14 rfl ((hX.all _ _ _ (.tail _ (.head _))).loadVar (Ma.clen (A := A2) hA2) aggM sizM)) rfl ⟨_, rfl, ov, Sv.off hls (fun _ _ _ => rfl) (fun b _ h => .inl h), hX.below⟩
      · rw [if_pos rfl]
        go_enter Tryz.func14, Tryz.ntmps14
        go_upto_region 1 with (first | ((with_reducible refine at_alloc18 ?_); refine wpList_allocM rfl rfl ?_))
        generalize ((w.alloc (Obj.cells (A.cells vm vb vl vs vd vt).toArray 44)).alloc (Obj.cells mzL.toArray 44)) = wQ at hX ⊢
        go_wp2_with (first | ((with_reducible refine at_load ?_); refine ldw (hn := Ma.clen hA) hX aggM sizM ?_) | (go_at_call 39; (with_reducible refine (hph _).mono ?_); rintro e' wc ⟨rfl, hbb⟩; replace hX := hX.step hbb; clear hbb) | (go_at_call 41; have hLT : w.heap.size + 2 ≤ _ := (hX.all _ _ _ (.head _)).lt; (with_reducible refine (hrg _ hX.below hLT).mono ?_); rintro e' wc ⟨vl', rfl, ov, hls, hbb⟩; replace hX := hX.step hbb; clear hbb hLT) | ((with_reducible refine at_alloc18 ?_); refine wpList_allocM rfl rfl ?_) | ((with_reducible refine at_store ?_); refine stn hX aggM sizM (Ma.cone (A := A2) hA2 o1 o2 ov o4 o5 o6) (hn := Ma.clen (A := A2) hA2) (hm := mzL_len) ?_; intro wS hY hbS; replace hls := Sv.below hls hbS; replace hX := hY; clear hY hbS) | ((with_reducible refine at_load ?_); refine ldw (hn := Ma.clen (A := A2) hA2) hX aggM sizM ?_) | ((with_reducible refine at_store ?_); refine stw2 hX aggM sizM (Ma.cone (A := A2) hA2 o1 o2 ov o4 o5 o6) (hn := Ma.clen (A := A2) hA2) (hc := mzL_len) ?_; intro wS hY hkS; replace hls := Sv.off hls (fun b _ hb => hkS b (fun e => hb (.inr (.inr e)))) (fun _ _ h => h); replace hX := hY; clear hY hkS))
        exact bodyPost_ret (results_ctt18 Tryz.results14 rfl ((hX.all _ _ _ (.tail _ (.head _))).loadVar (Ma.clen (A := A2) hA2) aggM sizM)) rfl ⟨_, rfl, ov, Sv.off hls (fun _ _ _ => rfl) (fun b _ h => .inl h), hX.below⟩
theorem rbRead_any (A : Ma) (hA : A.ok) (hR : A.right = true) (vm vb vl vs vd vt : Value) (o1 : vm.oneCell' = true) (o2 : vb.oneCell' = true) (o3 : vl.oneCell' = true) (o4 : vs.oneCell' = true) (o5 : vd.oneCell' = true) (o6 : vt.oneCell' = true) (X : Nat → Prop) (w : World) (hXl : ∀ b, X b → b < w.heap.size) (hN : MaNow w A vm vb vl vs vd vt) (hl : LnsX X w vl A.L) (p : Int) (b : Bool) : Calls Tryz.prog 14 #[.agg (A.cells vm vb vl vs vd vt).toArray, .int .i64 p, .bool b] w (RdS X w vm vb vs vd vt (A.read p b)) := by
  by_cases hp : physP p < 253952
  · exact rbRead_mem A hA hR vm vb vl vs vd vt o1 o2 o3 o4 o5 o6 X w hXl hN hl p b hp
  by_cases ho : b = false ∧ (physP p - 253952) % 2 = 1
  · obtain ⟨rfl, ho⟩ := ho
    exact rbRead_odd A hA hR vm vb vl vs vd vt o1 o2 o3 o4 o5 o6 X w hXl hN hl p hp ho
  · exact rbRead_reg A hA hR vm vb vl vs vd vt o1 o2 o3 o4 o5 o6 X w hXl hN hl p b hp ho
end Go.Proofs.YthpnddgfgpacpaaGreat
/-
  writeReg of the reference. Conditions: a valid machine; an offset of a register.
-/
namespace Go.Proofs.YthpnddgfgpacpaaGreat
open Go.RowKit
set_option linter.unusedSimpArgs false
set_option linter.unusedVariables false
set_option maxHeartbeats 4000000
set_option maxRecDepth 100000
attribute [local irreducible] wpQuiet

/-- What the words of a machine read as. -/
structure MaV (X : Nat → Prop) (w : World) (A : Ma) (vm vb vl vs vd vt : Value) : Prop where
  m : ItsX X w vm A.M
  b : ItsX X w vb A.B
  l : LnsX X w vl A.L
  s : StsX X w vs A.K.D.S
  d : ItsX X w vd A.K.D.B
  t : StsX X w vt A.T.R
theorem LnsX.now {X : Nat → Prop} {w : World} {v : Value} {l : List Ln} (h : LnsX X w v l) : Lns w v l := Sv.now h
theorem rz_one {w : World} {v : Value} {n : Nat} {cs : List Value} (h : Rz w v n cs) : v.oneCell' = true := by
  obtain ⟨⟨A, c, rfl, _⟩, _⟩ := h
  rfl
section
variable {X : Nat → Prop} {w : World} {A : Ma} {vm vb vl vs vd vt : Value} (h : MaV X w A vm vb vl vs vd vt)
include h
theorem MaV.now : MaNow w A vm vb vl vs vd vt := ⟨h.m.now, h.b.now, h.l.now, h.s.now, h.d.now, h.t.now⟩
theorem MaV.below {w' : World} (hb : Below w.heap.size w w') : MaV X w' A vm vb vl vs vd vt := ⟨Sv.below h.m hb, Sv.below h.b hb, Sv.below h.l hb, Sv.below h.s hb, Sv.below h.d hb, Sv.below h.t hb⟩
theorem MaV.weak {Y : Nat → Prop} {w' : World} (hb : Below w.heap.size w w') (hY : ∀ b, b < w.heap.size → Y b → X b) : MaV Y w' A vm vb vl vs vd vt := ⟨Sv.weak h.m hb hY, Sv.weak h.b hb hY, Sv.weak h.l hb hY, Sv.weak h.s hb hY, Sv.weak h.d hb hY, Sv.weak h.t hb hY⟩
theorem MaV.x : MaX X w (.agg (A.cells vm vb vl vs vd vt).toArray) A := ⟨_, _, _, _, _, _, rfl, h.m, h.b, h.l, h.s, h.d, h.t⟩
theorem MaV.o1 : vm.oneCell' = true := rz_one h.m.now
theorem MaV.o2 : vb.oneCell' = true := rz_one h.b.now
theorem MaV.o3 : vl.oneCell' = true := rz_one h.l.now
theorem MaV.o4 : vs.oneCell' = true := rz_one h.s.now
theorem MaV.o5 : vd.oneCell' = true := rz_one h.d.now
theorem MaV.o6 : vt.oneCell' = true := rz_one h.t.now
end
theorem ck_one (c : Ck) : ∀ v ∈ c.L, v.oneCell' = true := by
  intro v hv
  unfold Ck.L at hv
  simp only [List.mem_cons, List.not_mem_nil, or_false] at hv
  rcases hv with rfl | rfl | rfl | rfl <;> rfl
theorem dk_one {K : Dk} {vs vb : Value} (h1 : vs.oneCell' = true) (h2 : vb.oneCell' = true) : ∀ v ∈ dkL vs vb K, v.oneCell' = true := by
  intro v hv
  unfold dkL at hv
  simp only [List.mem_cons, List.not_mem_nil, or_false] at hv
  rcases hv with rfl | rfl | rfl | rfl | rfl | rfl | rfl | rfl | rfl | rfl <;> first | rfl | assumption
theorem tpL_one {K : Tp} {vs : Value} (h1 : vs.oneCell' = true) : ∀ v ∈ tpL vs K, v.oneCell' = true := by
  intro v hv
  unfold tpL at hv
  simp only [List.mem_cons, List.not_mem_nil, or_false] at hv
  rcases hv with rfl | rfl | rfl | rfl | rfl | rfl | rfl | rfl | rfl | rfl | rfl <;> first | rfl | assumption
theorem un_one (u : Un) : ∀ v ∈ u.L, v.oneCell' = true := by
  intro v hv
  unfold Un.L at hv
  simp only [List.mem_cons, List.mem_append, List.mem_flatMap, List.not_mem_nil, or_false] at hv
  rcases hv with rfl | ⟨p, _, hp⟩ | rfl | rfl
  · rfl
  · unfold Pg.L at hp
    simp only [List.mem_cons, List.not_mem_nil, or_false] at hp
    rcases hp with rfl | rfl | rfl | rfl <;> rfl
  · rfl
  · rfl
theorem Sv.over18 {X : Nat → Prop} {B : Nat} {w w' : World} {v : Value} {n : Nat} {cs : List Value} (h : Sv X w v n cs) (hk : ∀ k, k ≠ B → w'.heap[k]? = w.heap[k]?) (hB : X B) : Sv X w' v n cs := h.off (fun b _ hx => hk b (fun e => hx (e ▸ hB))) (fun _ _ h => h)
theorem Sv.less18 {X Y : Nat → Prop} {w : World} {v : Value} {n : Nat} {cs : List Value} (h : Sv X w v n cs) (hY : ∀ b, Y b → X b) : Sv Y w v n cs := h.off (fun _ _ _ => rfl) (fun b _ h => hY b h)
theorem un_wr_ok {u : Un} (h : u.ok) (n v : Int) : (u.write n v).1.ok := by
  unfold Un.write
  repeat' split
  all_goals first
    | exact h
    | (unfold Un.ok Un.withP at *; simpa using h)
end Go.Proofs.YthpnddgfgpacpaaGreat
