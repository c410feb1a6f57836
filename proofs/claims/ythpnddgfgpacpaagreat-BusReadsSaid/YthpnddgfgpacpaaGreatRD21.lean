import Derived.Test.YthpnddgfgpacpaaGreatRD19
import Derived.Test.YthpnddgfgpacpaaGreatRD03
import Derived.Test.YthpnddgfgpacpaaGreatRD12
import Derived.Test.YthpnddgfgpacpaaGreatRD06
import Derived.Test.YthpnddgfgpacpaaGreatRD20
/-
  readReg of the reference. Conditions: a valid machine; an offset of a register.
-/
namespace Go.Proofs.YthpnddgfgpacpaaGreat
open Go.RowKit
set_option linter.unusedSimpArgs false
set_option linter.unusedVariables false
set_option maxHeartbeats 4000000
set_option maxRecDepth 100000
attribute [local irreducible] wpQuiet

theorem Ma.parts {A : Ma} (h : A.right = true) : A.L.length ≤ 4 ∧ (∀ x ∈ A.L, x.right = true) ∧ rightP A.M A.B = true ∧ A.U.right = true ∧ A.k.right = true ∧ A.K.right = true ∧ A.T.right = true := by
  unfold Ma.right at h
  simp only [Bool.and_eq_true, decide_eq_true_eq, List.all_eq_true] at h
  obtain ⟨⟨⟨⟨⟨⟨h1, h2⟩, h3⟩, h4⟩, h5⟩, h6⟩, h7⟩ := h
  exact ⟨h1, h2, h3, h4, h5, h6, h7⟩
theorem ln_d {x : Ln} (h : x.right = true) : 0 ≤ x.d ∧ x.d ≤ 255 := by
  unfold Ln.right at h
  simp only [Bool.and_eq_true, decide_eq_true_eq] at h
  exact ⟨h.1.1.1.1.1.1.1, h.1.1.1.1.1.1.2⟩
theorem dk_c18 {K : Dk} (h : K.right = true) : 0 ≤ K.c ∧ K.c ≤ 3 := by
  unfold Dk.right at h
  rw [Bool.and_eq_true] at h
  exact ((Dk.ok_iff K).1 h.1).1
theorem tp_c18 {K : Tp} (h : K.right = true) : 0 ≤ K.c ∧ K.c ≤ 6 := by
  unfold Tp.right at h
  rw [Bool.and_eq_true] at h
  exact ((Tp.ok_iff K).1 h.1).2.2.1
theorem results_ctt18 {P : Program} {fn : Func} {tmps : Array Value} {w : World} {j k m : Tmp} {T : TypeId} {a : Addr} {v : Value} (hr : fn.results = #[.cell j T, .tmp k, .tmp m]) (ha : tmps.getD j undef = .pointer (some a)) (hl : (Go.loadVar T a).run P w = .ok v w) :
    (results fn tmps).run P w = .ok (.tuple #[v, tmps.getD k undef, tmps.getD m undef]) w := by
  unfold results
  rw [hr]
  have ha' := ha
  rw [Array.getD_eq_getD_getElem?] at ha'
  simp [ha', asAddr, hl]
/-- What readReg and the like return. -/
def RegS (X : Nat → Prop) (w : World) (vm vb vs vd vt : Value) (T : Ma × Int × Bool) (e' : Ending) (w' : World) : Prop := ∃ vl', e' = .returned (.tuple #[.agg (T.1.cells vm vb vl' vs vd vt).toArray, .int .i64 T.2.1, .bool T.2.2]) ∧ vl'.oneCell' = true ∧ LnsX X w' vl' T.1.L ∧ Below w.heap.size w w'
theorem rline18 (A : Ma) (hA : A.ok) (hl4 : A.L.length ≤ 4) (off : Int) (vm vb vl vs vd vt : Value) (w : World) (h : Lns w vl A.L) : Calls Tryz.prog 91 #[.agg (A.cells vm vb vl vs vd vt).toArray, .int .i64 off] w fun e' w' => e' = .returned (.bool (A.isL off)) ∧ Below w.heap.size w w' := by
  obtain ⟨aL, cL, rfl, _, _⟩ := lns_form h
  exact rline_any A hA hl4 off vm vb vs vd vt aL cL w
theorem ownA18 {X : Nat → Prop} {N n : Nat} (h : ∀ b, X b → b < N) (hn : N + 2 ≤ n) : ∀ b, OwnA X N b → b < n := fun b hb => by
  rcases hb with hb | hb | hb
  · have := h b hb; omega
  · omega
  · omega
theorem rreg_line (A : Ma) (hA : A.ok) (hR : A.right = true) (vm vb vl vs vd vt : Value) (o1 : vm.oneCell' = true) (o2 : vb.oneCell' = true) (o3 : vl.oneCell' = true) (o4 : vs.oneCell' = true) (o5 : vd.oneCell' = true) (o6 : vt.oneCell' = true) (X : Nat → Prop) (w : World) (hXl : ∀ b, X b → b < w.heap.size) (hN : MaNow w A vm vb vl vs vd vt) (hl : LnsX X w vl A.L) (off : Int) (hoff : 0 ≤ off ∧ off < 8192) (hq : A.isL off = true) : Calls Tryz.prog 41 #[.agg (A.cells vm vb vl vs vd vt).toArray, .int .i64 off] w (RegS X w vm vb vs vd vt (A.rdR off)) := by
  have hL := Ma.len hA vs vd vt
  obtain ⟨hl4, hln, _⟩ := Ma.parts hR
  have hX := two_ma w (A.cells vm vb vl vs vd vt)
  have hr : A.rdR off = (A.put off ((lnAt A off).rd ((off - 512) % 8)).1, ((lnAt A off).rd ((off - 512) % 8)).2, true) := by unfold Ma.rdR; rw [if_pos hq]
  rw [hr]
  clear hr
  have hq2 := hq
  unfold Ma.isL at hq2
  simp only [Bool.and_eq_true, decide_eq_true_eq] at hq2
  obtain ⟨n, hn⟩ : ∃ n : Nat, (off - 512) / 8 = (n : Int) := ⟨((off - 512) / 8).toNat, by omega⟩
  have hnl : n < A.L.length := by omega
  obtain ⟨g, hg⟩ : ∃ g, (off - 512) % 8 = g := ⟨_, rfl⟩
  obtain ⟨x, hx⟩ : ∃ x, A.L[n]? = some x := ⟨_, List.getElem?_eq_getElem hnl⟩
  have hat : lnAt A off = x := by unfold lnAt; rw [hn, Int.toNat_natCast, List.getD_eq_getElem?_getD, hx]; rfl
  have hput : ∀ y, A.put off y = { A with L := A.L.set n y } := fun y => by unfold Ma.put; rw [hn, Int.toNat_natCast]
  have hil := fun (wz : World) (hb : Below w.heap.size w wz) => rline18 A hA hl4 off vm vb vl vs vd vt wz (Rz.below hN.l hb)
  rw [hq] at hil
  have hrd : ∀ wz, Calls Tryz.prog 92 #[.agg (lnL x).toArray, .int .i64 g] wz fun e' w' => e' = .returned (.tuple #[.agg (lnL (x.rd g).1).toArray, .int .i64 (x.rd g).2]) ∧ Below wz.heap.size wz w' := fun wz => rrd_any x (ln_d (hln x (List.mem_of_getElem? hx))) g wz
  rw [hat, hput, hg]
  generalize x.rd g = Q3 at *
  obtain ⟨y, v⟩ := Q3
  dsimp only at hrd ⊢
  have hwl : ∀ wz : World, Below w.heap.size w wz → w.heap.size + 2 ≤ wz.heap.size → _ := fun wz hb h2 => rwith_any A hA n hnl hl4 y vm vb vl vs vd vt o1 o2 o4 o5 o6 (OwnA X w.heap.size) wz (ownA18 hXl h2) (Rz.below hN.l hb)
  obtain ⟨aL, cL, rfl, hcl, hld⟩ := lns_form hN.l
  obtain ⟨ad, rfl, hld2⟩ := hld n x hx
  have w1 : IntKind.i64.wrap (off - 512) = off - 512 := by rw [wrap_i64]; unfold wrap64; omega
  have t1 : (off - 512).tdiv 8 = (n : Int) := by rw [Int.tdiv_eq_ediv_of_nonneg (by omega)]; exact hn
  have t2 : (off - 512).tmod 8 = g := by rw [Int.tmod_eq_emod_of_nonneg (by omega)]; exact hg
  have w2 : IntKind.i64.wrap (n : Int) = (n : Int) := by rw [wrap_i64]; unfold wrap64; omega
  have w3 : IntKind.i64.wrap g = g := by rw [wrap_i64]; unfold wrap64; omega
  have i0 : (0 : Int) ≤ (n : Int) := by omega
  have i1 : (n : Int) < (A.L.length : Int) := by omega
  clear hn hg hat hput hld hq hq2 hoff hln hl hx hR
  go_enter Tryz.func41, Tryz.ntmps41
  go_upto_region 1 with (first | ((with_reducible refine at_alloc18 ?_); refine wpList_allocM rfl rfl ?_))
  generalize ((w.alloc (Obj.cells (A.cells vm vb (.slice (some ad) A.L.length cL) vs vd vt).toArray 44)).alloc (Obj.cells mzL.toArray 44)) = wQ at hX ⊢
  go_wp2_with (first | ((with_reducible refine at_load ?_); refine ldw (hn := Ma.clen hA) hX aggM sizM ?_) | (go_at_call 91; (with_reducible refine (hil _ hX.below).mono ?_); rintro e' wc ⟨rfl, hbb⟩; replace hX := hX.step hbb; clear hbb) | ((with_reducible refine at_load ?_); refine ldc (hk := get_l hL) hX slL_cell ?_) | ((with_reducible refine at_load ?_); refine wpList_loadW rfl 68 _ _ _ rfl rfl (hld2 _ hX.below) ?_) | (go_at_call 92; (with_reducible refine (hrd _).mono ?_); rintro e' wc ⟨rfl, hbb⟩; replace hX := hX.step hbb; clear hbb) | ((with_reducible refine at_store ?_); refine stn hX aggLn sizLn (lnL_one y) ?_; intro wS hY hbS; replace hX := hY; clear hY hbS) | ((with_reducible refine at_load ?_); refine ldw hX aggLn sizLn ?_) | (go_at_call 93; have hLT : w.heap.size + 2 ≤ _ := (hX.all _ _ _ (.tail _ (.head _))).lt; (with_reducible refine (hwl _ hX.below hLT).mono ?_); rintro e' wc ⟨vl', rfl, ov, hls, hbb⟩; replace hX := hX.step hbb; clear hbb hLT) | ((with_reducible refine at_store ?_); refine stw2 hX aggM sizM (Ma.cone (A := { A with L := A.L.set n y }) hA o1 o2 ov o4 o5 o6) (hn := Ma.clen (A := { A with L := A.L.set n y }) hA) (hc := mzL_len) ?_; intro wS hY hkS; replace hls := Sv.off hls (fun b _ hb => hkS b (fun e => hb (.inr (.inr e)))) (fun _ _ h => h); replace hX := hY; clear hY hkS))
  exact bodyPost_ret (results_ctt18 Tryz.results41 rfl ((hX.all _ _ _ (.tail _ (.head _))).loadVar (Ma.clen (A := { A with L := A.L.set n y }) hA) aggM sizM)) rfl ⟨_, rfl, ov, Sv.off hls (fun _ _ _ => rfl) (fun b _ h => .inl h), hX.below⟩
theorem rreg_clock (A : Ma) (hA : A.ok) (hR : A.right = true) (vm vb vl vs vd vt : Value) (o1 : vm.oneCell' = true) (o2 : vb.oneCell' = true) (o3 : vl.oneCell' = true) (o4 : vs.oneCell' = true) (o5 : vd.oneCell' = true) (o6 : vt.oneCell' = true) (X : Nat → Prop) (w : World) (hXl : ∀ b, X b → b < w.heap.size) (hN : MaNow w A vm vb vl vs vd vt) (hl : LnsX X w vl A.L) : Calls Tryz.prog 41 #[.agg (A.cells vm vb vl vs vd vt).toArray, .int .i64 256] w (RegS X w vm vb vs vd vt (A.rdR 256)) := by
  obtain ⟨off, hoff⟩ : ∃ off : Int, off = 256 := ⟨_, rfl⟩
  have hL := Ma.len hA vs vd vt
  obtain ⟨hl4, hln, _, hUr, _, hKr, hTr⟩ := Ma.parts hR
  have hX := two_ma w (A.cells vm vb vl vs vd vt)
  have hq : A.isL off = false := by unfold Ma.isL; rw [decide_eq_false (by omega)]; rfl
  have hil := fun (wz : World) (hb : Below w.heap.size w wz) => rline18 A hA hl4 off vm vb vl vs vd vt wz (Rz.below hN.l hb)
  rw [hq] at hil
  subst hoff
  have hr : A.rdR 256 = (A, A.k.read, true) := by unfold Ma.rdR; rw [hq, if_neg (by decide), if_pos rfl]
  rw [hr]
  have hk : ∀ wz, Calls Tryz.prog 94 #[.agg A.k.L.toArray] wz fun e' w' => e' = .returned (.int .i64 A.k.read) ∧ Below wz.heap.size wz w' := fun wz => rread_any_13 A.k wz
  clear hr hq hln
  go_enter Tryz.func41, Tryz.ntmps41
  go_upto_region 1 with (first | ((with_reducible refine at_alloc18 ?_); refine wpList_allocM rfl rfl ?_))
  generalize ((w.alloc (Obj.cells (A.cells vm vb vl vs vd vt).toArray 44)).alloc (Obj.cells mzL.toArray 44)) = wQ at hX ⊢
  go_wp2_with (first | ((with_reducible refine at_load ?_); refine ldw (hn := Ma.clen hA) hX aggM sizM ?_) | (go_at_call 91; (with_reducible refine (hil _ hX.below).mono ?_); rintro e' wc ⟨rfl, hbb⟩; replace hX := hX.step hbb; clear hbb))
  refine region_hoistS (fun w' => Bag [(w.heap.size, 44, A.cells vm vb vl vs vd vt)] w w') 6 [(0, false), (1, false), (2, false), (3, true), (4, true), (5, false)] (by kernel_rfl) (by kernel_rfl) (fun _ _ dd _ _ h => by cases dd <;> exact h) hX.restS.drew ?_
  refine wpHp_q' rfl rfl (fun KK hKK => ?_)
  apply Exists.intro
  refine ⟨fun wq hq => ?_, hKK _ ?_⟩
  · try dsimp only at hq
    first
      | exact run_load_op 44 _ _ rfl rfl ((hq.all _ _ _ (.head _)).loadAt (Ma.clen hA) aggM sizM)
      | exact run_load_op 34 _ _ rfl rfl ((hq.all _ _ _ (.head _)).loadAtSub (get_k hL) rfl aggK_13 sizK_13)
      | (unfold execOp; go_simp; done)
      | (unfold execOp; go_simp; with_reducible rfl)
  clear hKK KK
  simp only [Act.put, List.setIfInBounds_toArray, List.set_cons_zero, List.set_cons_succ]
  refine wpHp_q' rfl rfl (fun KK hKK => ?_)
  apply Exists.intro
  refine ⟨fun wq hq => ?_, hKK _ ?_⟩
  · try dsimp only at hq
    first
      | exact run_load_op 44 _ _ rfl rfl ((hq.all _ _ _ (.head _)).loadAt (Ma.clen hA) aggM sizM)
      | exact run_load_op 34 _ _ rfl rfl ((hq.all _ _ _ (.head _)).loadAtSub (get_k hL) rfl aggK_13 sizK_13)
      | (unfold execOp; go_simp; done)
      | (unfold execOp; go_simp; with_reducible rfl)
  clear hKK KK
  simp only [Act.put, List.setIfInBounds_toArray, List.set_cons_zero, List.set_cons_succ]
  refine wpHp_q' rfl rfl (fun KK hKK => ?_)
  apply Exists.intro
  refine ⟨fun wq hq => ?_, hKK _ ?_⟩
  · try dsimp only at hq
    first
      | exact run_load_op 44 _ _ rfl rfl ((hq.all _ _ _ (.head _)).loadAt (Ma.clen hA) aggM sizM)
      | exact run_load_op 34 _ _ rfl rfl ((hq.all _ _ _ (.head _)).loadAtSub (get_k hL) rfl aggK_13 sizK_13)
      | (unfold execOp; go_simp; done)
      | (unfold execOp; go_simp; with_reducible rfl)
  clear hKK KK
  simp only [Act.put, List.setIfInBounds_toArray, List.set_cons_zero, List.set_cons_succ]
  refine wpHp_call rfl rfl (fun KK hKK => ?_)
  unfold Oper.semiAt
  go_simp
  simp only [semiUpon]
  refine ⟨trivial, ?_⟩
  refine (hk _).mono ?_
  rintro e' wc ⟨rfl, hbb⟩
  refine ⟨_, rfl, hKK _ _ (hX.restS.drew.step hbb) ?_⟩
  clear hKK KK
  replace hX := hX.drew.step hbb
  clear hbb
  simp only [Act.put, List.setIfInBounds_toArray, List.set_cons_zero, List.set_cons_succ]
  refine wpHp_over (cs' := A.cells vm vb vl vs vd vt) rfl rfl hX aggM sizM _ _ rfl rfl rfl rfl (Ma.clen hA) mzL_len (Ma.cone hA o1 o2 o3 o4 o5 o6) (fun w7 hX7 hk7 => ⟨hX7.restS, ?_⟩)
  replace hX := hX7
  clear hX7 hk7
  simp only [Act.put, List.setIfInBounds_toArray, List.set_cons_zero, List.set_cons_succ]
  refine wpHp_q' rfl rfl (fun KK hKK => ?_)
  apply Exists.intro
  refine ⟨fun wq hq => ?_, hKK _ ?_⟩
  · try dsimp only at hq
    first
      | exact run_load_op 44 _ _ rfl rfl ((hq.all _ _ _ (.head _)).loadAt (Ma.clen hA) aggM sizM)
      | exact run_load_op 34 _ _ rfl rfl ((hq.all _ _ _ (.head _)).loadAtSub (get_k hL) rfl aggK_13 sizK_13)
      | (unfold execOp; go_simp; done)
      | (unfold execOp; go_simp; with_reducible rfl)
  clear hKK KK
  simp only [Act.put, List.setIfInBounds_toArray, List.set_cons_zero, List.set_cons_succ]
  refine wpHp_nil ?_
  simp only [List.drop_succ_cons, List.drop_zero]
  go_wp2
  exact bodyPost_ret (results_ctt18 Tryz.results41 rfl ((hX.all _ _ _ (.head _)).loadVar (Ma.clen hA) aggM sizM)) rfl ⟨_, rfl, o3, Sv.below hl hX.below, hX.below⟩
theorem rreg_disk (A : Ma) (hA : A.ok) (hR : A.right = true) (vm vb vl vs vd vt : Value) (o1 : vm.oneCell' = true) (o2 : vb.oneCell' = true) (o3 : vl.oneCell' = true) (o4 : vs.oneCell' = true) (o5 : vd.oneCell' = true) (o6 : vt.oneCell' = true) (X : Nat → Prop) (w : World) (hXl : ∀ b, X b → b < w.heap.size) (hN : MaNow w A vm vb vl vs vd vt) (hl : LnsX X w vl A.L) (off : Int) (h1 : 768 ≤ off) (h2 : off ≤ 774) : Calls Tryz.prog 41 #[.agg (A.cells vm vb vl vs vd vt).toArray, .int .i64 off] w (RegS X w vm vb vs vd vt (A.rdR off)) := by
  have hL := Ma.len hA vs vd vt
  obtain ⟨hl4, hln, _, hUr, _, hKr, hTr⟩ := Ma.parts hR
  have hX := two_ma w (A.cells vm vb vl vs vd vt)
  have hq : A.isL off = false := by unfold Ma.isL; have : 8 * (A.L.length : Int) ≤ 32 := (by have := (Ma.parts hR).1; omega); rw [decide_eq_false (p := off < 512 + 8 * (A.L.length : Int)) (by omega)]; simp
  have hil := fun (wz : World) (hb : Below w.heap.size w wz) => rline18 A hA hl4 off vm vb vl vs vd vt wz (Rz.below hN.l hb)
  rw [hq] at hil
  have hr : A.rdR off = (A, (A.K.rd (off - 768)).1, (A.K.rd (off - 768)).2) := by unfold Ma.rdR; rw [hq, if_neg (by decide), if_neg (by omega), if_pos ⟨h1, h2⟩]
  rw [hr]
  have hd : ∀ wz, Calls Tryz.prog 95 #[.agg (dkL vs vd A.K).toArray, .int .i64 (off - 768)] wz fun e' w' => e' = .returned (.tuple #[.int .i64 (A.K.rd (off - 768)).1, .bool (A.K.rd (off - 768)).2]) ∧ Below wz.heap.size wz w' := by
    obtain ⟨A1, c1, rfl, _⟩ := hN.s.form
    obtain ⟨A2, c2, rfl, _⟩ := hN.d.form
    exact fun wz => rreadK_any A.K (off - 768) (dk_c18 hKr).1 (dk_c18 hKr).2 A1 _ c1 A2 _ c2 wz
  have w1 : IntKind.i64.wrap (off - 768) = off - 768 := by rw [wrap_i64]; unfold wrap64; omega
  have d1 : (off == 256) = false := by simp; omega
  have d2 : (768 : Int) ≤ off := by omega
  clear hr hq hln
  go_enter Tryz.func41, Tryz.ntmps41
  go_upto_region 1 with (first | ((with_reducible refine at_alloc18 ?_); refine wpList_allocM rfl rfl ?_))
  generalize ((w.alloc (Obj.cells (A.cells vm vb vl vs vd vt).toArray 44)).alloc (Obj.cells mzL.toArray 44)) = wQ at hX ⊢
  go_wp2_with (first | ((with_reducible refine at_load ?_); refine ldw (hn := Ma.clen hA) hX aggM sizM ?_) | (go_at_call 91; (with_reducible refine (hil _ hX.below).mono ?_); rintro e' wc ⟨rfl, hbb⟩; replace hX := hX.step hbb; clear hbb) | ((with_reducible refine at_load ?_); refine ldp hX aggK sizK (get_d hL) rfl ?_) | (go_at_call 95; (with_reducible refine (hd _).mono ?_); rintro e' wc ⟨rfl, hbb⟩; replace hX := hX.step hbb; clear hbb) | ((with_reducible refine at_store ?_); refine stw hX aggM sizM (Ma.cone hA o1 o2 o3 o4 o5 o6) (hn := Ma.clen hA) (hc := mzL_len) ?_; intro wS hY hkS; replace hX := hY; clear hY hkS))
  exact bodyPost_ret (results_ctt18 Tryz.results41 rfl ((hX.all _ _ _ (.head _)).loadVar (Ma.clen hA) aggM sizM)) rfl ⟨_, rfl, o3, Sv.below hl hX.below, hX.below⟩
theorem rreg_tape (A : Ma) (hA : A.ok) (hR : A.right = true) (vm vb vl vs vd vt : Value) (o1 : vm.oneCell' = true) (o2 : vb.oneCell' = true) (o3 : vl.oneCell' = true) (o4 : vs.oneCell' = true) (o5 : vd.oneCell' = true) (o6 : vt.oneCell' = true) (X : Nat → Prop) (w : World) (hXl : ∀ b, X b → b < w.heap.size) (hN : MaNow w A vm vb vl vs vd vt) (hl : LnsX X w vl A.L) (off : Int) (h1 : 800 ≤ off) (h2 : off ≤ 804) : Calls Tryz.prog 41 #[.agg (A.cells vm vb vl vs vd vt).toArray, .int .i64 off] w (RegS X w vm vb vs vd vt (A.rdR off)) := by
  have hL := Ma.len hA vs vd vt
  obtain ⟨hl4, hln, _, hUr, _, hKr, hTr⟩ := Ma.parts hR
  have hX := two_ma w (A.cells vm vb vl vs vd vt)
  have hq : A.isL off = false := by unfold Ma.isL; have : 8 * (A.L.length : Int) ≤ 32 := (by have := (Ma.parts hR).1; omega); rw [decide_eq_false (p := off < 512 + 8 * (A.L.length : Int)) (by omega)]; simp
  have hil := fun (wz : World) (hb : Below w.heap.size w wz) => rline18 A hA hl4 off vm vb vl vs vd vt wz (Rz.below hN.l hb)
  rw [hq] at hil
  have hr : A.rdR off = (A, (A.T.rd (off - 800)).1, (A.T.rd (off - 800)).2) := by unfold Ma.rdR; rw [hq, if_neg (by decide), if_neg (by omega), if_neg (by omega), if_pos ⟨h1, h2⟩]
  rw [hr]
  have hd : ∀ wz, Calls Tryz.prog 96 #[.agg (tpL vt A.T).toArray, .int .i64 (off - 800)] wz fun e' w' => e' = .returned (.tuple #[.int .i64 (A.T.rd (off - 800)).1, .bool (A.T.rd (off - 800)).2]) ∧ Below wz.heap.size wz w' := by
    obtain ⟨A1, c1, rfl, _⟩ := hN.t.form
    exact fun wz => rreadT_any A.T (off - 800) (tp_c18 hTr).1 (tp_c18 hTr).2 A1 _ c1 wz
  have w1 : IntKind.i64.wrap (off - 800) = off - 800 := by rw [wrap_i64]; unfold wrap64; omega
  have d1 : (off == 256) = false := by simp; omega
  have d2 : (768 : Int) ≤ off := by omega
  have d3 : ¬ off ≤ 774 := by omega
  clear hr hq hln
  go_enter Tryz.func41, Tryz.ntmps41
  go_upto_region 1 with (first | ((with_reducible refine at_alloc18 ?_); refine wpList_allocM rfl rfl ?_))
  generalize ((w.alloc (Obj.cells (A.cells vm vb vl vs vd vt).toArray 44)).alloc (Obj.cells mzL.toArray 44)) = wQ at hX ⊢
  go_wp2_with (first | ((with_reducible refine at_load ?_); refine ldw (hn := Ma.clen hA) hX aggM sizM ?_) | (go_at_call 91; (with_reducible refine (hil _ hX.below).mono ?_); rintro e' wc ⟨rfl, hbb⟩; replace hX := hX.step hbb; clear hbb) | ((with_reducible refine at_load ?_); refine ldp hX aggT sizT (get_t hL) rfl ?_) | (go_at_call 96; (with_reducible refine (hd _).mono ?_); rintro e' wc ⟨rfl, hbb⟩; replace hX := hX.step hbb; clear hbb) | ((with_reducible refine at_store ?_); refine stw hX aggM sizM (Ma.cone hA o1 o2 o3 o4 o5 o6) (hn := Ma.clen hA) (hc := mzL_len) ?_; intro wS hY hkS; replace hX := hY; clear hY hkS))
  exact bodyPost_ret (results_ctt18 Tryz.results41 rfl ((hX.all _ _ _ (.head _)).loadVar (Ma.clen hA) aggM sizM)) rfl ⟨_, rfl, o3, Sv.below hl hX.below, hX.below⟩
theorem rreg_unit (A : Ma) (hA : A.ok) (hR : A.right = true) (vm vb vl vs vd vt : Value) (o1 : vm.oneCell' = true) (o2 : vb.oneCell' = true) (o3 : vl.oneCell' = true) (o4 : vs.oneCell' = true) (o5 : vd.oneCell' = true) (o6 : vt.oneCell' = true) (X : Nat → Prop) (w : World) (hXl : ∀ b, X b → b < w.heap.size) (hN : MaNow w A vm vb vl vs vd vt) (hl : LnsX X w vl A.L) (off : Int) (hq : A.isL off = false) (h1 : off ≠ 256) (h2 : ¬ (768 ≤ off ∧ off ≤ 774)) (h3 : ¬ (800 ≤ off ∧ off ≤ 804)) : Calls Tryz.prog 41 #[.agg (A.cells vm vb vl vs vd vt).toArray, .int .i64 off] w (RegS X w vm vb vs vd vt (A.rdR off)) := by
  have hL := Ma.len hA vs vd vt
  obtain ⟨hl4, hln, _, hUr, _, hKr, hTr⟩ := Ma.parts hR
  have hX := two_ma w (A.cells vm vb vl vs vd vt)
  have hil := fun (wz : World) (hb : Below w.heap.size w wz) => rline18 A hA hl4 off vm vb vl vs vd vt wz (Rz.below hN.l hb)
  rw [hq] at hil
  have hr : A.rdR off = (A, (A.U.read off).1, (A.U.read off).2) := by unfold Ma.rdR; rw [hq, if_neg (by decide), if_neg h1, if_neg h2, if_neg h3]
  rw [hr]
  have hd : ∀ wz, Calls Tryz.prog 97 #[.agg A.U.L.toArray, .int .i64 off] wz fun e' w' => e' = .returned (.tuple #[.int .i64 (A.U.read off).1, .bool (A.U.read off).2]) ∧ Below wz.heap.size wz w' := fun wz => rread_any_9 A.U hA.2.2 hUr off wz
  have d1 : (off == 256) = false := by simpa using h1
  have hc : (¬ 768 ≤ off ∧ ¬ 800 ≤ off) ∨ (768 ≤ off ∧ ¬ off ≤ 774 ∧ ¬ 800 ≤ off) ∨ (768 ≤ off ∧ ¬ off ≤ 774 ∧ 800 ≤ off ∧ ¬ off ≤ 804) := by omega
  clear hr hq hln h1 h2 h3
  rcases hc with ⟨h1, h2⟩ | ⟨h1, h2, h3⟩ | ⟨h1, h2, h3, h4⟩
  all_goals
    go_enter Tryz.func41, Tryz.ntmps41
    go_upto_region 1 with (first | ((with_reducible refine at_alloc18 ?_); refine wpList_allocM rfl rfl ?_))
    generalize ((w.alloc (Obj.cells (A.cells vm vb vl vs vd vt).toArray 44)).alloc (Obj.cells mzL.toArray 44)) = wQ at hX ⊢
    go_wp2_with (first | ((with_reducible refine at_load ?_); refine ldw (hn := Ma.clen hA) hX aggM sizM ?_) | (go_at_call 91; (with_reducible refine (hil _ hX.below).mono ?_); rintro e' wc ⟨rfl, hbb⟩; replace hX := hX.step hbb; clear hbb) | ((with_reducible refine at_load ?_); refine ldp hX agg_unit size_unit (get_u hL) (Un.len hA.2.2) ?_) | (go_at_call 97; (with_reducible refine (hd _).mono ?_); rintro e' wc ⟨rfl, hbb⟩; replace hX := hX.step hbb; clear hbb) | ((with_reducible refine at_store ?_); refine stw hX aggM sizM (Ma.cone hA o1 o2 o3 o4 o5 o6) (hn := Ma.clen hA) (hc := mzL_len) ?_; intro wS hY hkS; replace hX := hY; clear hY hkS))
    exact bodyPost_ret (results_ctt18 Tryz.results41 rfl ((hX.all _ _ _ (.head _)).loadVar (Ma.clen hA) aggM sizM)) rfl ⟨_, rfl, o3, Sv.below hl hX.below, hX.below⟩
theorem rreadReg_any (A : Ma) (hA : A.ok) (hR : A.right = true) (vm vb vl vs vd vt : Value) (o1 : vm.oneCell' = true) (o2 : vb.oneCell' = true) (o3 : vl.oneCell' = true) (o4 : vs.oneCell' = true) (o5 : vd.oneCell' = true) (o6 : vt.oneCell' = true) (X : Nat → Prop) (w : World) (hXl : ∀ b, X b → b < w.heap.size) (hN : MaNow w A vm vb vl vs vd vt) (hl : LnsX X w vl A.L) (off : Int) (hoff : 0 ≤ off ∧ off < 8192) : Calls Tryz.prog 41 #[.agg (A.cells vm vb vl vs vd vt).toArray, .int .i64 off] w (RegS X w vm vb vs vd vt (A.rdR off)) := by
  cases hq : A.isL off
  · by_cases h1 : off = 256
    · subst h1
      exact rreg_clock A hA hR vm vb vl vs vd vt o1 o2 o3 o4 o5 o6 X w hXl hN hl
    by_cases h2 : 768 ≤ off ∧ off ≤ 774
    · exact rreg_disk A hA hR vm vb vl vs vd vt o1 o2 o3 o4 o5 o6 X w hXl hN hl off h2.1 h2.2
    by_cases h3 : 800 ≤ off ∧ off ≤ 804
    · exact rreg_tape A hA hR vm vb vl vs vd vt o1 o2 o3 o4 o5 o6 X w hXl hN hl off h3.1 h3.2
    exact rreg_unit A hA hR vm vb vl vs vd vt o1 o2 o3 o4 o5 o6 X w hXl hN hl off hq h1 h2 h3
  · exact rreg_line A hA hR vm vb vl vs vd vt o1 o2 o3 o4 o5 o6 X w hXl hN hl off hoff hq
end Go.Proofs.YthpnddgfgpacpaaGreat
