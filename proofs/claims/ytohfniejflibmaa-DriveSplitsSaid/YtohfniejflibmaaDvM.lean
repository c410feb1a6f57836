/-
  DriveDiffs, DriveBack. Condition: the contracts of package drive.
-/
import Derived.Test.YtohfniejflibmaaDvL
import Derived.Deep.RegionHeld3
namespace Go.Proofs.Ytohfniejflibmaa
open Go.RowKit
set_option linter.unusedSimpArgs false
set_option linter.unusedVariables false
set_option maxHeartbeats 4000000
set_option maxRecDepth 100000
attribute [local irreducible] wpQuiet

theorem bag_cells4 {W0 w2 : World} {vs vb vs2 vb2 : Value} (hX : Bag [(W0.heap.size + 1, 25, [vs2, vb2]), (W0.heap.size, 25, [vs, vb])] W0 w2) : w2.cell? ⟨W0.heap.size, 0, none⟩ = some vs ∧ w2.cell? ⟨W0.heap.size, 1, none⟩ = some vb ∧ w2.cell? ⟨W0.heap.size + 1, 0, none⟩ = some vs2 ∧ w2.cell? ⟨W0.heap.size + 1, 1, none⟩ = some vb2 ∧ Bag [(W0.heap.size + 1, 25, [vs2, vb2]), (W0.heap.size, 25, [vs, vb])] W0 w2 :=
  ⟨(hX.all _ _ _ (.tail _ (.head _))).cell (k := 0) rfl, (hX.all _ _ _ (.tail _ (.head _))).cell (k := 1) rfl, (hX.all _ _ _ (.head _)).cell (k := 0) rfl, (hX.all _ _ _ (.head _)).cell (k := 1) rfl, hX⟩
theorem DriveDiffs_true (D E : Drv) (vs vb vs2 vb2 : Value) (W0 : World) (H : DvC W0) (hs : Sts W0 vs D.S) (hb : Its W0 vb D.B) (hs2 : Sts W0 vs2 E.S) (hb2 : Its W0 vb2 E.B) : Calls Try.prog 7 #[.agg #[vs, vb], .agg #[vs2, vb2]] W0 fun e' w' => e' = .returned (.bool true) ∧ Below W0.heap.size W0 w' := by
  have hg1 := fun w' (h : Below W0.heap.size W0 w') => rfair_any D vs vb w' (hs.below h) (hb.below h)
  have hg2 := fun w' (h : Below W0.heap.size W0 w') => rfair_any E vs2 vb2 w' (hs2.below h) (hb2.below h)
  have hX := two_dv W0 [vs, vb] [vs2, vb2]
  cases hD : D.fair
  · rw [hD] at hg1
    clear hg2
    go_enter Try.func7, Try.ntmps7
    go_wp2_with (first | ((with_reducible refine at_load ?_); refine wpList_bag_part (k := 0) hX aggD sizD _ rfl rfl rfl rfl (by first | exact .head _ | exact .tail _ (.head _)) (fun jz vz hz => (congrArg (fun n => ([_, _] : List Value)[n]?) (Nat.zero_add jz)).trans hz) rfl ?_) | (go_at_call 14; first | ((with_reducible refine (hg1 _ hX.below).mono ?_); rintro e' w0 ⟨rfl, hbb⟩; replace hX := hX.step hbb; clear hbb)) | (go_at_call 13; (with_reducible refine (alive_true _ (H.step hX.below)).mono ?_); rintro e' w9 ⟨rfl, hbb⟩; replace hX := hX.step hbb; clear hbb))
    go_ret
    exact ⟨rfl, hX.below⟩
  rw [hD] at hg1
  cases hE : E.fair
  · rw [hE] at hg2
    go_enter Try.func7, Try.ntmps7
    go_wp2_with (first | ((with_reducible refine at_load ?_); refine wpList_bag_part (k := 0) hX aggD sizD _ rfl rfl rfl rfl (by first | exact .head _ | exact .tail _ (.head _)) (fun jz vz hz => (congrArg (fun n => ([_, _] : List Value)[n]?) (Nat.zero_add jz)).trans hz) rfl ?_) | (go_at_call 14; first | ((with_reducible refine (hg1 _ hX.below).mono ?_); rintro e' w0 ⟨rfl, hbb⟩; replace hX := hX.step hbb; clear hbb) | ((with_reducible refine (hg2 _ hX.below).mono ?_); rintro e' w0 ⟨rfl, hbb⟩; replace hX := hX.step hbb; clear hbb)) | (go_at_call 13; (with_reducible refine (alive_true _ (H.step hX.below)).mono ?_); rintro e' w9 ⟨rfl, hbb⟩; replace hX := hX.step hbb; clear hbb))
    go_ret
    exact ⟨rfl, hX.below⟩
  rw [hE] at hg2
  obtain ⟨k1, k2, _⟩ := (fair_iff D).1 hD
  obtain ⟨k3, k4, _⟩ := (fair_iff E).1 hE
  have d1 := fun w (h : Below W0.heap.size W0 w) => H.diff D E vs vb vs2 vb2 (fun _ : Nat => False) w h (by omega) (by omega) (fun _ h => False.elim h) (hs.below h) (hb.below h) (hs2.below h) (hb2.below h)
  have d2 := fun w (h : Below W0.heap.size W0 w) => rdiff_any D E (by omega) (by omega) vs vb vs2 vb2 w (fun _ : Nat => False) (fun _ h => False.elim h) (hs.below h) (hs2.below h)
  have d3 := fun w (h : Below W0.heap.size W0 w) => H.diff D D vs vb vs vb (fun _ : Nat => False) w h (by omega) (by omega) (fun _ h => False.elim h) (hs.below h) (hb.below h) (hs.below h) (hb.below h)
  rw [dfV_self] at d3
  have hll : (dfV D.S E.S).length ≤ 4096 := by rw [df_dk]; have := dk_le D.S E.S (max D.S.length E.S.length); omega
  generalize dfV D.S E.S = l at *
  clear hD hE hs hb hs2 hb2 k1 k2 k3 k4
  go_enter Try.func7, Try.ntmps7
  go_wp2_with (first | ((with_reducible refine at_load ?_); refine wpList_bag_part (k := 0) hX aggD sizD _ rfl rfl rfl rfl (by first | exact .head _ | exact .tail _ (.head _)) (fun jz vz hz => (congrArg (fun n => ([_, _] : List Value)[n]?) (Nat.zero_add jz)).trans hz) rfl ?_) | (go_at_call 14; first | ((with_reducible refine (hg1 _ hX.below).mono ?_); rintro e' w0 ⟨rfl, hbb⟩; replace hX := hX.step hbb; clear hbb) | ((with_reducible refine (hg2 _ hX.below).mono ?_); rintro e' w0 ⟨rfl, hbb⟩; replace hX := hX.step hbb; clear hbb)))
  go_region_held3 (fun w2 => w2.cell? ⟨W0.heap.size, 0, none⟩ = some vs ∧ w2.cell? ⟨W0.heap.size, 1, none⟩ = some vb ∧ w2.cell? ⟨W0.heap.size + 1, 0, none⟩ = some vs2 ∧ w2.cell? ⟨W0.heap.size + 1, 1, none⟩ = some vb2 ∧ Bag [(W0.heap.size + 1, 25, [vs2, vb2]), (W0.heap.size, 25, [vs, vb])] W0 w2) (first | exact bag_cells4 hX | exact bag_cells4 hX.drew) (first | (go_at_call 27; first | ((with_reducible refine (d1 _ hX.below).mono ?_); rintro e' wB ⟨x, rfl, hx, hbb⟩; (first | (replace hX := hX.step hbb) | (replace hX := hX.drew.step hbb)); clear hbb) | ((with_reducible refine (d1 _ hX.drew.below).mono ?_); rintro e' wB ⟨x, rfl, hx, hbb⟩; (first | (replace hX := hX.step hbb) | (replace hX := hX.drew.step hbb)); clear hbb)) | (go_at_call 28; first | ((with_reducible refine (d2 _ hX.below).mono ?_); rintro e' wA ⟨y, rfl, hy, hbb⟩; (first | (replace hX := hX.step hbb) | (replace hX := hX.drew.step hbb)); replace hx := hx.below hbb; clear hbb) | ((with_reducible refine (d2 _ hX.drew.below).mono ?_); rintro e' wA ⟨y, rfl, hy, hbb⟩; (first | (replace hX := hX.step hbb) | (replace hX := hX.drew.step hbb)); replace hx := hx.below hbb; clear hbb)))
  have hBw := Below.refl wA.heap.size wA
  obtain ⟨A1, c1, rfl, _, hc1⟩ := hx.now.form
  obtain ⟨A2, c2, rfl, _, hc2⟩ := hy.now.form
  clear hx hy d1 d2 hg1 hg2
  go_wp2
  go_loopw [7] (fun iv wr => ∃ k : Nat, k ≤ l.length ∧ iv = .int .i64 k ∧ Bag [(W0.heap.size + 1, 25, [vs2, vb2]), (W0.heap.size, 25, [vs, vb])] W0 wr ∧ Below wA.heap.size wA wr) (fun iv _ => match iv with | .int _ q => l.length - q.toNat | _ => 0)
  case atStart => exact ⟨0, Nat.zero_le _, rfl, hX, hBw⟩
  case round =>
    clear hX hBw
    obtain ⟨k, hk, rfl, hX, hBw⟩ := hrel
    by_cases hkl : k < l.length
    · have hki : (k : Int) < (l.length : Int) := by omega
      have hz := List.getElem?_eq_getElem hkl
      generalize l[k] = z at *
      obtain ⟨a, rfl, hL⟩ := hc1 k z hz
      obtain ⟨a2, rfl, hL2⟩ := hc2 k z hz
      clear hz hc1 hc2
      go_wp2
      refine region_class (fun w' => Bag [(W0.heap.size + 1, 25, [vs2, vb2]), (W0.heap.size, 25, [vs, vb])] W0 w' ∧ Below wA.heap.size wA w') (by kernel_rfl) (by kernel_rfl) ⟨hX.drew, hBw.drew⟩ ?_
      repeat
        first
          | (refine BigFrame.wpQuiet_skip (by rfl) ?_
             simp only [Act.put, List.setIfInBounds_toArray, List.set_cons_zero, List.set_cons_succ])
          | (refine BigFrame.wpQuiet_want (by rfl) (fun K hK => ?_)
             apply Exists.intro
             refine ⟨fun wq hq => ?_, hK _ ?_⟩
             · first
                 | (refine quiet_load 3 _ _ _ rfl rfl (hL _ hq.2))
                 | (refine quiet_load 3 _ _ _ rfl rfl (hL2 _ hq.2))
                 | (unfold Oper.quietAt
                    go_simp
                    first
                      | with_reducible rfl
                   )
             clear hK K
             simp only [Act.put, List.setIfInBounds_toArray, List.set_cons_zero, List.set_cons_succ])
      refine wpQuiet_nil ?_
      intro w4 ⟨hX, hBw⟩
      go_wp2
      exact ⟨⟨k + 1, by omega, by go_num, hX, hBw⟩, by simp only; omega⟩
    · have hki : ¬ (k : Int) < (l.length : Int) := by omega
      clear hc1 hc2
      go_wp2_with (first | ((with_reducible refine at_load ?_); refine wpList_bag_part (k := 0) hX aggD sizD _ rfl rfl rfl rfl (by first | exact .head _ | exact .tail _ (.head _)) (fun jz vz hz => (congrArg (fun n => ([_, _] : List Value)[n]?) (Nat.zero_add jz)).trans hz) rfl ?_) | (go_at_call 27; (with_reducible refine (d3 _ hX.below).mono ?_); rintro e' w' ⟨z, rfl, hz, hbb⟩; replace hX := hX.step hbb; obtain ⟨A3, c3, rfl, _, _⟩ := hz.now.form; clear hbb hz) | (go_at_call 13; (with_reducible refine (alive_true _ (H.step hX.below)).mono ?_); rintro e' w9 ⟨rfl, hbb⟩; replace hX := hX.step hbb; clear hbb))
      go_ret
      exact ⟨rfl, hX.below⟩

theorem wr_ok {D : Drv} {k : Int} {s : ByteArray} (h : (D.wr k s).2 = 0) : ∃ j : Nat, k = (j : Int) ∧ j < D.S.length ∧ s.size ≤ 128 ∧ D.B.contains k = false ∧ (D.wr k s).1 = ⟨D.S.set j (s ++ zB (128 - s.size)), D.B⟩ := by
  unfold Drv.wr at *
  split at h
  · rename_i h0
    rw [if_pos h0]
    split at h
    · cases h
    · rename_i h1
      rw [if_neg h1]
      split at h
      · cases h
      · rename_i h2
        rw [if_neg h2]
        refine ⟨k.toNat, by omega, by omega, by omega, by simpa using h2, rfl⟩
  · cases h
theorem wr_bad {D : Drv} {k : Int} {s : ByteArray} (h : (D.wr k s).2 ≠ 0) : (D.wr k s).1 = Drv.z := by
  unfold Drv.wr at *
  repeat' split
  all_goals first | rfl | (exfalso; simp_all)
theorem zB_pad (s : ByteArray) (h : s.size ≤ 128) : (s ++ zB (128 - s.size)).size = 128 := by
  rw [ByteArray.size_append, zB_size]; omega
theorem wr_right {D : Drv} {k : Int} {s : ByteArray} (hD : D.right = true) (h : (D.wr k s).2 = 0) : (D.wr k s).1.right = true := by
  obtain ⟨j, _, hj, hs, _, e⟩ := wr_ok h
  rw [e]
  obtain ⟨h1, h2, h3, h4⟩ := (right_iff D).1 hD
  refine (right_iff _).2 ⟨by simpa using h1, by simpa using h2, fun u hu => ?_, by simpa using h4⟩
  rcases List.mem_or_eq_of_mem_set hu with h5 | h5
  · exact h3 u h5
  · rw [h5]; exact zB_pad s hs
theorem wr_rd {D : Drv} {k : Int} {s : ByteArray} (h : (D.wr k s).2 = 0) : (D.wr k s).1.rd k = (s ++ zB (128 - s.size), 0) := by
  obtain ⟨j, rfl, hj, hs, hb, e⟩ := wr_ok h
  rw [e]
  unfold Drv.rd
  rw [if_pos (by simpa using hj)]
  dsimp only
  rw [if_neg (by rw [hb]; simp), Int.toNat_natCast, List.getD_eq_getElem?_getD, List.getElem?_set_self hj]; rfl
theorem dk_set (S : List ByteArray) (j : Nat) (x : ByteArray) : ∀ k, dk S (S.set j x) k = if j < k ∧ S[j]? ≠ (S.set j x)[j]? then [(j : Int)] else []
  | 0 => by rw [if_neg (by omega)]; rfl
  | k + 1 => by
    have ih := dk_set S j x k
    by_cases hjk : j = k
    · subst hjk
      by_cases hd : S[j]? = (S.set j x)[j]?
      · rw [dk_eq hd, ih, if_neg (by omega), if_neg (by intro h; exact h.2 hd)]
      · rw [dk_ne hd, ih, if_neg (by omega), if_pos ⟨by omega, hd⟩]; rfl
    · rw [dk_eq (by rw [List.getElem?_set_ne hjk]), ih]
      by_cases hc : j < k ∧ S[j]? ≠ (S.set j x)[j]?
      · rw [if_pos hc, if_pos ⟨by omega, hc.2⟩]
      · rw [if_neg hc, if_neg (by intro h; exact hc ⟨by omega, h.2⟩)]
theorem wr_df {D : Drv} {k : Int} {s : ByteArray} (h : (D.wr k s).2 = 0) : dfV D.S (D.wr k s).1.S = [] ∨ dfV D.S (D.wr k s).1.S = [k] := by
  obtain ⟨j, rfl, hj, hs, hb, e⟩ := wr_ok h
  rw [e, df_dk]
  dsimp only
  rw [dk_set]
  split
  · exact .inr rfl
  · exact .inl rfl
theorem wr_B {D : Drv} {k : Int} {s : ByteArray} (h : (D.wr k s).2 = 0) : (D.wr k s).1.B = D.B := by
  obtain ⟨j, rfl, hj, hs, hb, e⟩ := wr_ok h
  rw [e]
theorem pad_two (s : ByteArray) (m : Nat) : (s ++ zB m).extract 0 s.size = s := by
  apply ByteArray.ext
  apply Array.toList_inj.1
  rw [ByteArray.data_extract, ByteArray.data_append, Array.toList_extract, Array.toList_append, List.extract_eq_take_drop]
  simp
theorem zB_get (m i : Nat) (h : i < (zB m).size) : (zB m)[i]'h = 0 := by
  show (List.replicate m (0 : UInt8)).toArray[i]'(by simpa [zB_size] using h) = 0
  simp
theorem pad_zero (s : ByteArray) (m : Nat) (i : Nat) (h : i < (s ++ zB m).size) (hi : s.size ≤ i) : (s ++ zB m)[i]'h = 0 := by
  rw [ByteArray.getElem_append_right hi]
  exact zB_get m _ _
theorem add_none (a : Addr) : a.add 0 = a := by unfold Addr.add; split <;> simp_all
theorem DriveBack_true (D : Drv) (vs vb : Value) (k : Int) (s : ByteArray) (W0 : World) (H : DvC W0) (hs : Sts W0 vs D.S) (hb : Its W0 vb D.B) : Calls Try.prog 8 #[.agg #[vs, vb], .int .i64 k, .string s] W0 fun e' w' => e' = .returned (.bool true) ∧ Below W0.heap.size W0 w' := by
  obtain ⟨A, c, rfl, _, _⟩ := hs.form
  obtain ⟨A0, c0, rfl, _, _⟩ := hb.form
  have hg := fun w' (h : Below W0.heap.size W0 w') => good_any D (.slice A D.S.length c) (.slice A0 D.B.length c0) w' (hs.below h) (hb.below h)
  have hX := (Bag.nil W0).new 25 [.slice A D.S.length c, .slice A0 D.B.length c0]
  cases hD : D.fair && D.right
  · rw [hD] at hg
    go_enter Try.func8, Try.ntmps8
    go_wp2_with (first | ((with_reducible refine at_load ?_); refine wpList_bag_part (k := 0) hX aggD sizD _ rfl rfl rfl rfl (by first | exact .head _) (fun jz vz hz => (congrArg (fun n => ([_, _] : List Value)[n]?) (Nat.zero_add jz)).trans hz) rfl ?_) | (go_at_call 17; first | ((with_reducible refine (hg _ hX.below).mono ?_); rintro e' w0 ⟨rfl, hbb⟩; replace hX := hX.step hbb; clear hbb)) | (go_at_call 13; (with_reducible refine (alive_true _ (H.step hX.below)).mono ?_); rintro e' w9 ⟨rfl, hbb⟩; replace hX := hX.step hbb; clear hbb))
    go_ret
    exact ⟨rfl, hX.below⟩
  rw [hD] at hg
  by_cases hz : 200 < s.size
  · have hz1 : (200 : Int) < (s.size : Int) := by omega
    have hz2 : decide ((200 : Int) < (s.size : Int)) = true := decide_eq_true hz1
    go_enter Try.func8, Try.ntmps8
    go_wp2_with (first | ((with_reducible refine at_load ?_); refine wpList_bag_part (k := 0) hX aggD sizD _ rfl rfl rfl rfl (by first | exact .head _) (fun jz vz hz => (congrArg (fun n => ([_, _] : List Value)[n]?) (Nat.zero_add jz)).trans hz) rfl ?_) | (go_at_call 17; first | ((with_reducible refine (hg _ hX.below).mono ?_); rintro e' w0 ⟨rfl, hbb⟩; replace hX := hX.step hbb; clear hbb)) | (go_at_call 13; (with_reducible refine (alive_true _ (H.step hX.below)).mono ?_); rintro e' w9 ⟨rfl, hbb⟩; replace hX := hX.step hbb; clear hbb))
    go_ret
    exact ⟨rfl, hX.below⟩
  have hz1 : ¬ (200 : Int) < (s.size : Int) := by omega
  have hz2 : decide ((200 : Int) < (s.size : Int)) = false := decide_eq_false hz1
  rw [Bool.and_eq_true] at hD
  obtain ⟨k1, k2, _⟩ := (fair_iff D).1 hD.1
  have hr := hD.2
  have q3 := fun w (h : Below W0.heap.size W0 w) => H.write D k s (.slice A D.S.length c) (.slice A0 D.B.length c0) (fun _ : Nat => False) w h hr (fun _ h => False.elim h) (hs.sv.below h) (hb.sv.below h)
  by_cases he : (D.wr k s).2 = 0
  · obtain ⟨j, hkj, hj, hs128, _, _⟩ := wr_ok he
    have hDr := wr_right hr he
    have hrd := wr_rd he
    have hdf := wr_df he
    have hDB := wr_B he
    have hlen := (wr_len D k s).1
    have q4 := fun vs1 vb1 w (h : Below W0.heap.size W0 w) h1 h2 => H.read (D.wr k s).1 k vs1 vb1 w h hDr h1 h2
    have q5 := fun vs1 vb1 w (h : Below W0.heap.size W0 w) h1 h2 => H.right (D.wr k s).1 vs1 vb1 w h (by omega) (by rw [hDB]; omega) h1 h2
    have q6 := fun vs1 vb1 w (h : Below W0.heap.size W0 w) h1 h2 => H.diff D (D.wr k s).1 (.slice A D.S.length c) (.slice A0 D.B.length c0) vs1 vb1 (fun _ : Nat => False) w h (by omega) (by omega) (fun _ h => False.elim h) (hs.below h) (hb.below h) h1 h2
    rw [hrd] at q4
    rw [hDr] at q5
    have g1 := zB_pad s hs128
    have g2 := pad_two s (128 - s.size)
    have g3 := pad_zero s (128 - s.size)
    rw [he] at q3
    generalize (D.wr k s).1 = DW at *
    generalize s ++ zB (128 - s.size) = g at *
    generalize hll : dfV D.S DW.S = l at *
    obtain ⟨DS, DB⟩ := DW
    dsimp only at hDB
    subst hDB
    (try dsimp only at q3)
    (try dsimp only at q4)
    (try dsimp only at q5)
    (try dsimp only at q6)
    clear hll hD hr he hkj hj hDr hrd hs hb k1 k2 hlen
    go_enter Try.func8, Try.ntmps8
    go_wp2_with (first | ((with_reducible refine at_load ?_); refine wpList_bag_part (k := 0) hX aggD sizD _ rfl rfl rfl rfl (by first | exact .head _ | exact .tail _ (.head _)) (fun jz vz hz => (congrArg (fun n => ([_, _] : List Value)[n]?) (Nat.zero_add jz)).trans hz) rfl ?_) | ((with_reducible refine at_load ?_); refine wpList_bag_cell hX slS_cell _ rfl rfl rfl rfl (by first | exact .head _ | exact .tail _ (.head _)) rfl ?_) | ((with_reducible refine at_load ?_); refine wpList_bag_cell hX slI_cell _ rfl rfl rfl rfl (by first | exact .head _ | exact .tail _ (.head _)) rfl ?_) | (go_at_call 17; first | ((with_reducible refine (hg _ hX.below).mono ?_); rintro e' w0 ⟨rfl, hbb⟩; replace hX := hX.step hbb; clear hbb)) | (go_at_call 20; (with_reducible refine (q3 _ hX.below).mono ?_); rintro e' w1 ⟨x, rfl, ⟨vs1, vb1, rfl, hs1, hb1⟩, hbb⟩; replace hX := hX.step hbb; clear hbb; obtain ⟨A1, c1, rfl, _, _⟩ := hs1.now.form; obtain ⟨A2, c2, rfl, _, _⟩ := hb1.now.form) | ((with_reducible refine at_store ?_); refine wpList_bag_storeB (zs := [.slice none 0 0, .slice none 0 0]) hX aggD sizD _ _ rfl rfl rfl rfl rfl rfl rfl rfl (by first | exact two_one (sts_one hs1.now) (its_one hb1.now)) ?_; clear hX; intro wz hX hbb; (try replace hs1 := hs1.below hbb); (try replace hb1 := hb1.below hbb); clear hbb) | (go_at_call 18; (with_reducible refine (q4 _ _ _ hX.below hs1.now hb1.now).mono ?_); rintro e' w4 ⟨rfl, hbb⟩; (try replace hs1 := hs1.below hbb); (try replace hb1 := hb1.below hbb); replace hX := hX.step hbb; clear hbb) | (go_at_call 15; (with_reducible refine (q5 _ _ _ hX.below hs1.now hb1.now).mono ?_); rintro e' w4 ⟨rfl, hbb⟩; (try replace hs1 := hs1.below hbb); (try replace hb1 := hb1.below hbb); replace hX := hX.step hbb; clear hbb))
    have hBw := Below.refl w4.heap.size w4
    go_loopw [11] (fun iv wr => ∃ i : Nat, s.size ≤ i ∧ i ≤ 128 ∧ iv = .int .i64 i ∧ Bag [(w1.heap.size, 25, [.slice A1 DS.length c1, .slice A2 D.B.length c2]), (W0.heap.size, 25, [.slice A D.S.length c, .slice A0 D.B.length c0])] W0 wr ∧ Below w4.heap.size w4 wr) (fun iv _ => match iv with | .int _ q => 128 - q.toNat | _ => 0)
    case atStart => exact ⟨s.size, Nat.le_refl _, hs128, rfl, hX, hBw⟩
    case round =>
      clear hX hBw
      obtain ⟨i, his, hi, rfl, hX, hBw⟩ := hrel
      by_cases hil : i < 128
      · have hig : i < g.size := by omega
        have hii : (i : Int) < (g.size : Int) := by omega
        have hij : (i : Int) < 128 := by omega
        have hix : ∀ h : i < g.size, g[i]'h = 0 := fun h => g3 i h his
        have his1 := hid his
        clear g3 hdf g2 his
        go_wp2
        exact ⟨⟨i + 1, by have := (show s.size ≤ i from his1); omega, by omega, by go_num, hX, hBw⟩, by simp only; omega⟩
      · obtain rfl : i = 128 := by omega
        replace hs1 := hs1.below hBw
        replace hb1 := hb1.below hBw
        have hii : ¬ (128 : Int) < (g.size : Int) := by omega
        clear g3 g2 his hil hi hBw
        rcases hdf with rfl | rfl
        · go_wp2_with (first | ((with_reducible refine at_load ?_); refine wpList_bag_part (k := 0) hX aggD sizD _ rfl rfl rfl rfl (by first | exact .head _ | exact .tail _ (.head _)) (fun jz vz hz => (congrArg (fun n => ([_, _] : List Value)[n]?) (Nat.zero_add jz)).trans hz) rfl ?_) | ((with_reducible refine at_load ?_); refine wpList_bag_cell hX slS_cell _ rfl rfl rfl rfl (by first | exact .head _ | exact .tail _ (.head _)) rfl ?_) | ((with_reducible refine at_load ?_); refine wpList_bag_cell hX slI_cell _ rfl rfl rfl rfl (by first | exact .head _ | exact .tail _ (.head _)) rfl ?_) | (go_at_call 27; (with_reducible refine (q6 _ _ _ hX.below hs1.now hb1.now).mono ?_); rintro e' w5 ⟨z, rfl, hz, hbb⟩; (try replace hs1 := hs1.below hbb); (try replace hb1 := hb1.below hbb); replace hX := hX.step hbb; obtain ⟨A3, c3, rfl, _, hc3⟩ := hz.now.form; clear hbb hz; skip) | (go_at_call 13; (with_reducible refine (alive_true _ (H.step hX.below)).mono ?_); rintro e' w9 ⟨rfl, hbb⟩; replace hX := hX.step hbb; clear hbb))
          go_ret
          exact ⟨rfl, hX.below⟩
        · go_wp2_with (first | ((with_reducible refine at_load ?_); refine wpList_bag_part (k := 0) hX aggD sizD _ rfl rfl rfl rfl (by first | exact .head _ | exact .tail _ (.head _)) (fun jz vz hz => (congrArg (fun n => ([_, _] : List Value)[n]?) (Nat.zero_add jz)).trans hz) rfl ?_) | ((with_reducible refine at_load ?_); refine wpList_bag_cell hX slS_cell _ rfl rfl rfl rfl (by first | exact .head _ | exact .tail _ (.head _)) rfl ?_) | ((with_reducible refine at_load ?_); refine wpList_bag_cell hX slI_cell _ rfl rfl rfl rfl (by first | exact .head _ | exact .tail _ (.head _)) rfl ?_) | (go_at_call 27; (with_reducible refine (q6 _ _ _ hX.below hs1.now hb1.now).mono ?_); rintro e' w5 ⟨z, rfl, hz, hbb⟩; (try replace hs1 := hs1.below hbb); (try replace hb1 := hb1.below hbb); replace hX := hX.step hbb; obtain ⟨A3, c3, rfl, _, hc3⟩ := hz.now.form; clear hbb hz; obtain ⟨a3, rfl, hL3⟩ := hc3 0 k rfl; rw [add_none] at hL3; clear hc3; have hB5 := Below.refl w5.heap.size w5) | ((with_reducible refine at_load ?_); refine wpList_loadW rfl 3 _ _ _ rfl rfl (hL3 _ hB5) ?_) | (go_at_call 13; (with_reducible refine (alive_true _ (H.step hX.below)).mono ?_); rintro e' w9 ⟨rfl, hbb⟩; replace hX := hX.step hbb; clear hbb))
          go_ret
          exact ⟨rfl, hX.below⟩
  · have hz := wr_bad he
    rw [hz] at q3
    generalize (D.wr k s).2 = er at *
    have he1 : (er != 0) = true := by simpa using he
    have he2 : (er == 0) = false := by simpa using he
    (try dsimp only at q3)
    clear hD hr hs hb k1 k2
    go_enter Try.func8, Try.ntmps8
    go_wp2_with (first | ((with_reducible refine at_load ?_); refine wpList_bag_part (k := 0) hX aggD sizD _ rfl rfl rfl rfl (by first | exact .head _ | exact .tail _ (.head _)) (fun jz vz hz => (congrArg (fun n => ([_, _] : List Value)[n]?) (Nat.zero_add jz)).trans hz) rfl ?_) | ((with_reducible refine at_load ?_); refine wpList_bag_cell hX slS_cell _ rfl rfl rfl rfl (by first | exact .head _ | exact .tail _ (.head _)) rfl ?_) | ((with_reducible refine at_load ?_); refine wpList_bag_cell hX slI_cell _ rfl rfl rfl rfl (by first | exact .head _ | exact .tail _ (.head _)) rfl ?_) | (go_at_call 17; first | ((with_reducible refine (hg _ hX.below).mono ?_); rintro e' w0 ⟨rfl, hbb⟩; replace hX := hX.step hbb; clear hbb)) | (go_at_call 20; (with_reducible refine (q3 _ hX.below).mono ?_); rintro e' w1 ⟨x, rfl, ⟨vs1, vb1, rfl, hs1, hb1⟩, hbb⟩; replace hX := hX.step hbb; clear hbb; obtain ⟨A1, c1, rfl, _, _⟩ := hs1.now.form; obtain ⟨A2, c2, rfl, _, _⟩ := hb1.now.form) | ((with_reducible refine at_store ?_); refine wpList_bag_storeB (zs := [.slice none 0 0, .slice none 0 0]) hX aggD sizD _ _ rfl rfl rfl rfl rfl rfl rfl rfl (by first | exact two_one (sts_one hs1.now) (its_one hb1.now)) ?_; clear hX; intro wz hX hbb; (try replace hs1 := hs1.below hbb); (try replace hb1 := hb1.below hbb); clear hbb) | (go_at_call 13; (with_reducible refine (alive_true _ (H.step hX.below)).mono ?_); rintro e' w9 ⟨rfl, hbb⟩; replace hX := hX.step hbb; clear hbb))
    go_ret
    exact ⟨rfl, hX.below⟩
end Go.Proofs.Ytohfniejflibmaa
