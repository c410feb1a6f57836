import Derived.Test.YthpnddgfgpacpaaGreatRS43
/-
  BusSeparate.
-/
namespace Go.Proofs.YthpnddgfgpacpaaGreat
open Go.RowKit
set_option linter.unusedSimpArgs false
set_option linter.unusedVariables false
set_option maxHeartbeats 4000000
set_option maxRecDepth 100000
attribute [local irreducible] wpQuiet

theorem sep_write (A : Ma) (p v : Int) (h0 : 0 ≤ p) (h1 : p < 262144) : (A.write p true v).1.M.length = A.M.length ∧ ∀ i : Nat, (i : Int) ≠ p / 2 → (A.write p true v).1.M[i]? = A.M[i]? := by
  have hp : physP p = p := by unfold physP; omega
  by_cases h : physP p < 253952
  · rw [write_mem true v h, hp]
    unfold Ma.wm
    split
    · rename_i hw
      show (writeM A.M p true v).length = _ ∧ ∀ i : Nat, (i : Int) ≠ p / 2 → (writeM A.M p true v)[i]? = _
      unfold writeM
      rw [if_pos (by unfold writeT at hw; by_cases q : accP (2 * (A.M.length : Int)) p true = true; exact q; rw [if_neg q] at hw; cases hw)]
      show (setN A.M p.toNat v).length = _ ∧ ∀ i : Nat, (i : Int) ≠ p / 2 → (setN A.M p.toNat v)[i]? = _
      unfold setN
      exact ⟨by simp, fun i hi => List.getElem?_set_ne (by omega)⟩
    · exact ⟨rfl, fun _ _ => rfl⟩
  · rw [write_reg true v h]
    have e : (A.regW (physP p - 253952) true v).1.M = A.M := by
      unfold Ma.regW Ma.wrR Ma.put
      repeat' split
      all_goals rfl
    rw [e]
    exact ⟨rfl, fun _ _ => rfl⟩
theorem sep_read (A : Ma) (p : Int) (b : Bool) (h0 : 0 ≤ p) (h1 : p < 253952) : (A.read p b).1 = A := by
  unfold Ma.read
  rw [if_pos (by unfold physP; omega)]
theorem BusSeparate_law (A : Ma) (hA : A.ok) (c : List Int) (hc : A.C = c.map (Value.int .i64)) (hc10 : c.length = 10) (vm vb vl vs vd vt : Value) (w : World) (hN : MaNow w A vm vb vl vs vd vt) (p v : Int) : Calls Tryz.prog 8 #[.agg (A.cells vm vb vl vs vd vt).toArray, .int .i64 p, .int .i64 v] w fun e' w' => e' = .returned (.bool true) ∧ Below w.heap.size w w' := by
  have hV := hN.sv18
  have hsm := fun wz (hb : Below w.heap.size w wz) => small_any A hA vm vb vl vs vd vt wz (hN.step hb)
  have hrr := fun wz (hb : Below w.heap.size w wz) (hl : A.little) => rbRight_any A hA (Ma.little_few hl) vm vb vl vs vd vt wz (hN.step hb)
  have hXm := (Bag.nil w).new 44 (A.cells vm vb vl vs vd vt)
  cases hR : A.right
  · rw [hR] at hrr
    go_enter Tryz.func8, Tryz.ntmps8
    go_upto_region 1 with fail
    replace hV := hV.below hXm.below
    generalize (w.alloc (Obj.cells (A.cells vm vb vl vs vd vt).toArray 44)) = wQ at hXm hV ⊢
    go_wp2_with (first | ((with_reducible refine at_ld 44 ?_); refine ldw (hn := Ma.clen hA) hXm aggM sizM ?_) | (go_at_call 10; (with_reducible refine (hsm _ hXm.below).mono ?_); rintro e' wr ⟨bb, rfl, hlt, hbb⟩; (try replace hXm := hXm.step hbb); (try replace hXx := hXx.step hbb); (try replace hXy := hXy.step hbb); (try replace hV := hV.below hbb); (try replace hVx := hVx.below hbb); (try replace hVy := hVy.below hbb); clear hbb; cases bb) | (go_at_call 12; have hcc := hrr _ hXm.below (hlt (by first | exact rfl | trivial)); (with_reducible refine hcc.mono ?_); clear hcc; rintro e' wr ⟨rfl, hbb⟩; (try replace hXm := hXm.step hbb); (try replace hXx := hXx.step hbb); (try replace hXy := hXy.step hbb); (try replace hV := hV.below hbb); (try replace hVx := hVx.below hbb); (try replace hVy := hVy.below hbb); clear hbb) | (go_at_call 9; (with_reducible refine (alive_any _).mono ?_); rintro e' wr ⟨rfl, hbb⟩; (try replace hXm := hXm.step hbb); (try replace hXx := hXx.step hbb); (try replace hXy := hXy.step hbb); (try replace hV := hV.below hbb); (try replace hVx := hVx.below hbb); (try replace hVy := hVy.below hbb); clear hbb))
    all_goals exact bodyPost_ret (results_tmp (by rfl) _ _ _) rfl ⟨rfl, hXm.below⟩
  have hR0 := hR
  rw [hR] at hrr
  by_cases h0 : p < 0
  · have d0 : decide (p < 0) = true := decide_eq_true h0
    go_enter Tryz.func8, Tryz.ntmps8
    go_upto_region 1 with fail
    replace hV := hV.below hXm.below
    generalize (w.alloc (Obj.cells (A.cells vm vb vl vs vd vt).toArray 44)) = wQ at hXm hV ⊢
    go_wp2_with (first | ((with_reducible refine at_ld 44 ?_); refine ldw (hn := Ma.clen hA) hXm aggM sizM ?_) | (go_at_call 10; (with_reducible refine (hsm _ hXm.below).mono ?_); rintro e' wr ⟨bb, rfl, hlt, hbb⟩; (try replace hXm := hXm.step hbb); (try replace hXx := hXx.step hbb); (try replace hXy := hXy.step hbb); (try replace hV := hV.below hbb); (try replace hVx := hVx.below hbb); (try replace hVy := hVy.below hbb); clear hbb; cases bb) | (go_at_call 12; have hcc := hrr _ hXm.below (hlt (by first | exact rfl | trivial)); (with_reducible refine hcc.mono ?_); clear hcc; rintro e' wr ⟨rfl, hbb⟩; (try replace hXm := hXm.step hbb); (try replace hXx := hXx.step hbb); (try replace hXy := hXy.step hbb); (try replace hV := hV.below hbb); (try replace hVx := hVx.below hbb); (try replace hVy := hVy.below hbb); clear hbb) | (go_at_call 9; (with_reducible refine (alive_any _).mono ?_); rintro e' wr ⟨rfl, hbb⟩; (try replace hXm := hXm.step hbb); (try replace hXx := hXx.step hbb); (try replace hXy := hXy.step hbb); (try replace hV := hV.below hbb); (try replace hVx := hVx.below hbb); (try replace hVy := hVy.below hbb); clear hbb))
    all_goals exact bodyPost_ret (results_tmp (by rfl) _ _ _) rfl ⟨rfl, hXm.below⟩
  have d0 : decide (p < 0) = false := decide_eq_false h0
  have h0' : 0 ≤ p := by omega
  by_cases h2 : 262144 ≤ p
  · have d2 : decide (262144 ≤ p) = true := decide_eq_true h2
    go_enter Tryz.func8, Tryz.ntmps8
    go_upto_region 1 with fail
    replace hV := hV.below hXm.below
    generalize (w.alloc (Obj.cells (A.cells vm vb vl vs vd vt).toArray 44)) = wQ at hXm hV ⊢
    go_wp2_with (first | ((with_reducible refine at_ld 44 ?_); refine ldw (hn := Ma.clen hA) hXm aggM sizM ?_) | (go_at_call 10; (with_reducible refine (hsm _ hXm.below).mono ?_); rintro e' wr ⟨bb, rfl, hlt, hbb⟩; (try replace hXm := hXm.step hbb); (try replace hXx := hXx.step hbb); (try replace hXy := hXy.step hbb); (try replace hV := hV.below hbb); (try replace hVx := hVx.below hbb); (try replace hVy := hVy.below hbb); clear hbb; cases bb) | (go_at_call 12; have hcc := hrr _ hXm.below (hlt (by first | exact rfl | trivial)); (with_reducible refine hcc.mono ?_); clear hcc; rintro e' wr ⟨rfl, hbb⟩; (try replace hXm := hXm.step hbb); (try replace hXx := hXx.step hbb); (try replace hXy := hXy.step hbb); (try replace hV := hV.below hbb); (try replace hVx := hVx.below hbb); (try replace hVy := hVy.below hbb); clear hbb) | (go_at_call 9; (with_reducible refine (alive_any _).mono ?_); rintro e' wr ⟨rfl, hbb⟩; (try replace hXm := hXm.step hbb); (try replace hXx := hXx.step hbb); (try replace hXy := hXy.step hbb); (try replace hV := hV.below hbb); (try replace hVx := hVx.below hbb); (try replace hVy := hVy.below hbb); clear hbb))
    all_goals exact bodyPost_ret (results_tmp (by rfl) _ _ _) rfl ⟨rfl, hXm.below⟩
  have d2 : decide (262144 ≤ p) = false := decide_eq_false h2
  have h2' : p < 262144 := by omega
  have hxM := (read_kept A p true).1
  have hxA := fun q => sep_read A p true h0' q
  obtain ⟨hyl, hyM⟩ := sep_write A p v h0' h2'
  have hX2 := Ma.read_ok hA p true
  have hY2 := Ma.write_ok hA p v true
  have hrd := fun wz (hV : MaV noB wz A vm vb vl vs vd vt) => bpRead wz A vm vb vl vs vd vt p true noB wz (Below.refl _ _) hA hR0 (fun _ q => q.elim) hV
  have hwr := fun wz (hV : MaV noB wz A vm vb vl vs vd vt) => bpWrite wz A vm vb vl vs vd vt p true v noB wz (Below.refl _ _) hA hR0 (fun _ q => q.elim) hV
  generalize A.read p true = RX at *
  obtain ⟨X2, xv, xt⟩ := RX
  generalize A.write p true v = RY at *
  obtain ⟨Y2, yt⟩ := RY
  dsimp only at hX2 hY2 hrd hwr hxM hxA hyl hyM
  have hwp : IntKind.i64.wrap (p / 2) = p / 2 := by rw [wrap_i64]; unfold wrap64; omega
  have hquo : p.tdiv 2 = p / 2 := Int.tdiv_eq_ediv_of_nonneg h0'
  clear hN
  go_enter Tryz.func8, Tryz.ntmps8
  go_upto_region 1 with fail
  replace hV := hV.below hXm.below
  generalize (w.alloc (Obj.cells (A.cells vm vb vl vs vd vt).toArray 44)) = wQ at hXm hV ⊢
  go_wp2_with (first | ((with_reducible refine at_ld 44 ?_); refine ldw (hn := Ma.clen hA) hXm aggM sizM ?_) | (go_at_call 10; (with_reducible refine (hsm _ hXm.below).mono ?_); rintro e' wr ⟨bb, rfl, hlt, hbb⟩; (try replace hXm := hXm.step hbb); (try replace hXx := hXx.step hbb); (try replace hXy := hXy.step hbb); (try replace hV := hV.below hbb); (try replace hVx := hVx.below hbb); (try replace hVy := hVy.below hbb); clear hbb; cases bb) | (go_at_call 12; have hcc := hrr _ hXm.below (hlt (by first | exact rfl | trivial)); (with_reducible refine hcc.mono ?_); clear hcc; rintro e' wr ⟨rfl, hbb⟩; (try replace hXm := hXm.step hbb); (try replace hXx := hXx.step hbb); (try replace hXy := hXy.step hbb); (try replace hV := hV.below hbb); (try replace hVx := hVx.below hbb); (try replace hVy := hVy.below hbb); clear hbb) | (go_at_call 9; (with_reducible refine (alive_any _).mono ?_); rintro e' wr ⟨rfl, hbb⟩; (try replace hXm := hXm.step hbb); (try replace hXx := hXx.step hbb); (try replace hXy := hXy.step hbb); (try replace hV := hV.below hbb); (try replace hVx := hVx.below hbb); (try replace hVy := hVy.below hbb); clear hbb) | ((with_reducible refine at_alloc18 ?_); refine wpList_allocM rfl rfl ?_) | ((with_reducible refine at_st 44 ?_); first | (refine stn hXm aggM sizM (hVy.cone hY2) ?_ (hn := Ma.clen hY2) (hm := mzL_len); intro w3 hY hbb; have hXy := Bag.top hY; (try replace hXm := hXm.step hbb); (try replace hXx := hXx.step hbb); (try replace hV := hV.below hbb); (try replace hVx := hVx.below hbb); (try replace hVy := hVy.below hbb); clear hY hbb; obtain ⟨Ax, cx, rfl, _, hcx⟩ := (show Its w3 _ A.M from hxM ▸ hVx.m.now).form; obtain ⟨Ay, cy, hyv, _, hcy⟩ := hVy.m.now.form; rw [hyl] at hyv; subst hyv; obtain ⟨Am, cm, rfl, _, hcm⟩ := hV.m.now.form) | (refine stn hXm aggM sizM (hVx.cone hX2) ?_ (hn := Ma.clen hX2) (hm := mzL_len); intro w3 hY hbb; have hXx := Bag.top hY; (try replace hXm := hXm.step hbb); (try replace hXy := hXy.step hbb); (try replace hV := hV.below hbb); (try replace hVx := hVx.below hbb); (try replace hVy := hVy.below hbb); clear hY hbb)) | (go_at_call 13; have hcc := hrd _ hV; (with_reducible refine hcc.mono ?_); clear hcc; rintro e' wr ⟨x, rfl, ⟨rm, rb, rl, rs, rd, rt, rfl, r1, r2, r3, r4, r5, r6⟩, hbb⟩; (try replace hXm := hXm.step hbb); (try replace hXx := hXx.step hbb); (try replace hXy := hXy.step hbb); (try replace hV := hV.below hbb); (try replace hVx := hVx.below hbb); (try replace hVy := hVy.below hbb); have hVx : MaV noB wr _ rm rb rl rs rd rt := ⟨r1, r2, r3, r4, r5, r6⟩; clear hbb r1 r2 r3 r4 r5 r6) | (go_at_call 16; have hcc := hwr _ hV; (with_reducible refine hcc.mono ?_); clear hcc; rintro e' wr ⟨x, rfl, ⟨rm, rb, rl, rs, rd, rt, rfl, r1, r2, r3, r4, r5, r6⟩, hbb⟩; (try replace hXm := hXm.step hbb); (try replace hXx := hXx.step hbb); (try replace hXy := hXy.step hbb); (try replace hV := hV.below hbb); (try replace hVx := hVx.below hbb); (try replace hVy := hVy.below hbb); have hVy : MaV noB wr _ rm rb rl rs rd rt := ⟨r1, r2, r3, r4, r5, r6⟩; clear hbb r1 r2 r3 r4 r5 r6) | ((with_reducible refine at_ld 26 ?_); first | refine ldc (v := .slice _ A.M.length cx) (hk := get_m (Ma.len hX2 _ _ _)) hXx slI_cell ?_ | refine ldc (v := .slice _ A.M.length cy) (hk := get_m (Ma.len hY2 _ _ _)) hXy slI_cell ?_ | refine ldc (v := .slice _ A.M.length cm) (hk := get_m (Ma.len hA _ _ _)) hXm slI_cell ?_))
  · exact bodyPost_ret (results_tmp (by rfl) _ _ _) rfl ⟨rfl, hXm.below⟩
  go_loopw [12] (fun iv wz => ∃ i : Nat, i ≤ A.M.length ∧ iv = .int .i64 i ∧ Below w3.heap.size w3 wz) (fun iv _ => match iv with | .int _ q => A.M.length - q.toNat | _ => 0)
  case atStart => exact ⟨0, by omega, rfl, Below.refl _ _⟩
  case round =>
    obtain ⟨i, hi, rfl, hbz⟩ := hrel
    by_cases h1 : i < A.M.length
    · have h1i : (i : Int) < (A.M.length : Int) := by omega
      have hml : A.M.length ≤ 1099511627776 := (mem_lens (Ma.parts hR0).2.2.1).1
      have hii : i + 1 ≤ A.M.length := h1
      have hms : A.M.length - (i + 1) < A.M.length - i := by omega
      have hlen : A.M[i]? = some A.M[i] := List.getElem?_eq_getElem h1
      generalize A.M[i] = q at hlen
      obtain ⟨ax, rfl, hLx⟩ := hcx i q hlen
      obtain ⟨am, rfl, hLm⟩ := hcm i q hlen
      by_cases hpi : (i : Int) = p / 2
      · have dp : ((i : Int) != p / 2) = false := by simp [hpi]
        clear hpi
        go_wp2_with (first | ((with_reducible refine at_ld 26 ?_); first | refine ldc (v := .slice _ A.M.length cx) (hk := get_m (Ma.len hX2 _ _ _)) (hXx.step hbz) slI_cell ?_ | refine ldc (v := .slice _ A.M.length cy) (hk := get_m (Ma.len hY2 _ _ _)) (hXy.step hbz) slI_cell ?_ | refine ldc (v := .slice _ A.M.length cm) (hk := get_m (Ma.len hA _ _ _)) (hXm.step hbz) slI_cell ?_))
        refine region_class (fun w' => Below w3.heap.size w3 w') (by kernel_rfl) (by kernel_rfl) hbz.drew ?_
        repeat
          first
            | (refine BigFrame.wpQuiet_skip (by rfl) ?_
               simp only [Act.put, List.setIfInBounds_toArray, List.set_cons_zero, List.set_cons_succ])
            | (refine BigFrame.wpQuiet_want (by rfl) (fun K hK => ?_)
               apply Exists.intro
               refine ⟨fun wq hq => ?_, hK _ ?_⟩
               · first
                   | (refine quiet_load 26 _ _ _ rfl rfl ((((hXx.step hq).all _ _ _ (.head _)).loadCell (get_m (Ma.len hX2 _ _ _)) slI_cell)))
                   | (refine quiet_load 26 _ _ _ rfl rfl ((((hXy.step hq).all _ _ _ (.head _)).loadCell (get_m (Ma.len hY2 _ _ _)) slI_cell)))
                   | (refine quiet_load 26 _ _ _ rfl rfl ((((hXm.step hq).all _ _ _ (.head _)).loadCell (get_m (Ma.len hA _ _ _)) slI_cell)))
                   | (refine quiet_load 3 _ _ _ rfl rfl (hLx _ hq))
                   | (refine quiet_load 3 _ _ _ rfl rfl (hLy _ hq))
                   | (refine quiet_load 3 _ _ _ rfl rfl (hLm _ hq))
                   | (unfold Oper.quietAt
                      go_simp
                      first
                        | with_reducible rfl
                     )
               clear hK K
               simp only [Act.put, List.setIfInBounds_toArray, List.set_cons_zero, List.set_cons_succ])
        refine wpQuiet_nil ?_
        intro w9 hX9
        go_wp2
        exact ⟨⟨i + 1, hii, by go_num, hX9⟩, by first | exact hms | (simp only; exact hms) | (simp only; omega)⟩
      · obtain ⟨ay, rfl, hLy⟩ := hcy i q ((hyM i hpi).trans hlen)
        have dp : ((i : Int) != p / 2) = true := by simp [hpi]
        clear hpi
        go_wp2_with (first | ((with_reducible refine at_ld 26 ?_); first | refine ldc (v := .slice _ A.M.length cx) (hk := get_m (Ma.len hX2 _ _ _)) (hXx.step hbz) slI_cell ?_ | refine ldc (v := .slice _ A.M.length cy) (hk := get_m (Ma.len hY2 _ _ _)) (hXy.step hbz) slI_cell ?_ | refine ldc (v := .slice _ A.M.length cm) (hk := get_m (Ma.len hA _ _ _)) (hXm.step hbz) slI_cell ?_))
        refine region_class (fun w' => Below w3.heap.size w3 w') (by kernel_rfl) (by kernel_rfl) hbz.drew ?_
        repeat
          first
            | (refine BigFrame.wpQuiet_skip (by rfl) ?_
               simp only [Act.put, List.setIfInBounds_toArray, List.set_cons_zero, List.set_cons_succ])
            | (refine BigFrame.wpQuiet_want (by rfl) (fun K hK => ?_)
               apply Exists.intro
               refine ⟨fun wq hq => ?_, hK _ ?_⟩
               · first
                   | (refine quiet_load 26 _ _ _ rfl rfl ((((hXx.step hq).all _ _ _ (.head _)).loadCell (get_m (Ma.len hX2 _ _ _)) slI_cell)))
                   | (refine quiet_load 26 _ _ _ rfl rfl ((((hXy.step hq).all _ _ _ (.head _)).loadCell (get_m (Ma.len hY2 _ _ _)) slI_cell)))
                   | (refine quiet_load 26 _ _ _ rfl rfl ((((hXm.step hq).all _ _ _ (.head _)).loadCell (get_m (Ma.len hA _ _ _)) slI_cell)))
                   | (refine quiet_load 3 _ _ _ rfl rfl (hLx _ hq))
                   | (refine quiet_load 3 _ _ _ rfl rfl (hLy _ hq))
                   | (refine quiet_load 3 _ _ _ rfl rfl (hLm _ hq))
                   | (unfold Oper.quietAt
                      go_simp
                      first
                        | with_reducible rfl
                     )
               clear hK K
               simp only [Act.put, List.setIfInBounds_toArray, List.set_cons_zero, List.set_cons_succ])
        refine wpQuiet_nil ?_
        intro w9 hX9
        go_wp2
        exact ⟨⟨i + 1, hii, by go_num, hX9⟩, by first | exact hms | (simp only; exact hms) | (simp only; omega)⟩
    · have h1i : ¬ (i : Int) < (A.M.length : Int) := by omega
      by_cases hio : 253952 ≤ p
      · have dio : decide (253952 ≤ p) = true := decide_eq_true hio
        replace hXm := hXm.step hbz
        replace hXx := hXx.step hbz
        replace hXy := hXy.step hbz
        replace hV := hV.below hbz
        replace hVx := hVx.below hbz
        go_wp2_with (first | ((with_reducible refine at_ld 26 ?_); first | refine ldc (v := .slice _ A.M.length cx) (hk := get_m (Ma.len hX2 _ _ _)) hXx slI_cell ?_ | refine ldc (v := .slice _ A.M.length cy) (hk := get_m (Ma.len hY2 _ _ _)) hXy slI_cell ?_ | refine ldc (v := .slice _ A.M.length cm) (hk := get_m (Ma.len hA _ _ _)) hXm slI_cell ?_) | (go_at_call 9; (with_reducible refine (alive_any _).mono ?_); rintro e' wr ⟨rfl, hbb⟩; (try replace hXm := hXm.step hbb); (try replace hXx := hXx.step hbb); (try replace hXy := hXy.step hbb); (try replace hV := hV.below hbb); (try replace hVx := hVx.below hbb); (try replace hVy := hVy.below hbb); clear hbb) | ((with_reducible refine at_ld 44 ?_); first | refine ldw (hn := Ma.clen hA) hXm aggM sizM ?_ | refine ldw (hn := Ma.clen hX2) hXx aggM sizM ?_) | (go_at_call 15; have hcc := rsameMa_any hA (Ma.right_small hR0) c hc hc10 _ hVx.now hV.now; (with_reducible refine hcc.mono ?_); clear hcc; rintro e' wr ⟨rfl, hbb⟩; (try replace hXm := hXm.step hbb); (try replace hXx := hXx.step hbb); (try replace hXy := hXy.step hbb); (try replace hV := hV.below hbb); (try replace hVx := hVx.below hbb); (try replace hVy := hVy.below hbb); clear hbb))
        exact bodyPost_ret (results_tmp (by rfl) _ _ _) rfl ⟨rfl, hXm.below⟩
      · have dio : decide (253952 ≤ p) = false := decide_eq_false hio
        obtain rfl : A = X2 := (hxA (by omega)).symm
        replace hXm := hXm.step hbz
        replace hXx := hXx.step hbz
        replace hXy := hXy.step hbz
        replace hV := hV.below hbz
        replace hVx := hVx.below hbz
        go_wp2_with (first | ((with_reducible refine at_ld 26 ?_); first | refine ldc (v := .slice _ A.M.length cx) (hk := get_m (Ma.len hX2 _ _ _)) hXx slI_cell ?_ | refine ldc (v := .slice _ A.M.length cy) (hk := get_m (Ma.len hY2 _ _ _)) hXy slI_cell ?_ | refine ldc (v := .slice _ A.M.length cm) (hk := get_m (Ma.len hA _ _ _)) hXm slI_cell ?_) | (go_at_call 9; (with_reducible refine (alive_any _).mono ?_); rintro e' wr ⟨rfl, hbb⟩; (try replace hXm := hXm.step hbb); (try replace hXx := hXx.step hbb); (try replace hXy := hXy.step hbb); (try replace hV := hV.below hbb); (try replace hVx := hVx.below hbb); (try replace hVy := hVy.below hbb); clear hbb) | ((with_reducible refine at_ld 44 ?_); first | refine ldw (hn := Ma.clen hA) hXm aggM sizM ?_ | refine ldw (hn := Ma.clen hX2) hXx aggM sizM ?_) | (go_at_call 15; have hcc := rsameMa_any hA (Ma.right_small hR0) c hc hc10 _ hVx.now hV.now; (with_reducible refine hcc.mono ?_); clear hcc; rintro e' wr ⟨rfl, hbb⟩; (try replace hXm := hXm.step hbb); (try replace hXx := hXx.step hbb); (try replace hXy := hXy.step hbb); (try replace hV := hV.below hbb); (try replace hVx := hVx.below hbb); (try replace hVy := hVy.below hbb); clear hbb))
        exact bodyPost_ret (results_tmp (by rfl) _ _ _) rfl ⟨rfl, hXm.below⟩
end Go.Proofs.YthpnddgfgpacpaaGreat
