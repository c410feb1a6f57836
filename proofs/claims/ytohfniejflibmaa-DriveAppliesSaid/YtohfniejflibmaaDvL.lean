/-
  DriveNews, DriveRights, DriveAccesses, DriveApplies. Condition: the contracts of package drive.
-/
import Derived.Test.YtohfniejflibmaaDvK
namespace Go.Proofs.Ytohfniejflibmaa
open Go.RowKit
set_option linter.unusedSimpArgs false
set_option linter.unusedVariables false
set_option maxHeartbeats 4000000
set_option maxRecDepth 100000
attribute [local irreducible] wpQuiet

theorem Dv.of {w : World} {vs vb : Value} {D : Drv} (h : Sts w vs D.S) (h2 : Its w vb D.B) : Dv w (.agg #[vs, vb]) D := ⟨_, _, rfl, h, h2⟩
theorem new_len (n : Int) : (newV n).1.S.length ≤ 1099511627776 ∧ (newV n).1.B.length ≤ 1099511627776 := by
  unfold newV; split
  · constructor
    · show (List.replicate n.toNat (zB 128)).length ≤ _; rw [List.length_replicate]; omega
    · exact Nat.zero_le _
  · exact ⟨Nat.zero_le _, Nat.zero_le _⟩
theorem DriveNews_true (n : Int) (W0 : World) (H : DvC W0) : Calls Try.prog 3 #[.int .i64 n] W0 fun e' w' => e' = .returned (.bool true) ∧ Below W0.heap.size W0 w' := by
  have n1 : ∀ w, Below W0.heap.size W0 w → _ := fun w hb => H.new n (fun _ : Nat => False) w hb (fun _ h => False.elim h)
  have n2 := fun w => rnewD_any n w (fun _ : Nat => False) (fun _ h => False.elim h)
  have hln := (new_len n).1
  have hlb := (new_len n).2
  generalize newV n = N at *
  obtain ⟨N, er⟩ := N
  dsimp only at n1 n2 hln hlb
  have hX := Bag.nil W0
  go_enter Try.func3, Try.ntmps3
  go_wp2_with (first | (go_at_call 10; first | ((with_reducible refine (n1 _ hX.below).mono ?_); rintro e' w1 ⟨x, rfl, ⟨vs1, vb1, rfl, hs1, hb1⟩, hbb⟩; (try replace hs1 := hs1.below hbb); (try replace hb1 := hb1.below hbb); replace hX := hX.step hbb; clear hbb)) | (go_at_call 11; first | ((with_reducible refine (n2 _).mono ?_); rintro e' w2 ⟨x, rfl, ⟨vs2, vb2, rfl, hs2, hb2⟩, hbb⟩; (try replace hs1 := hs1.below hbb); (try replace hb1 := hb1.below hbb); replace hX := hX.step hbb; clear hbb)) | ((with_reducible refine at_store ?_); refine wpList_bag_storeB (zs := [.slice none 0 0, .slice none 0 0]) hX aggD sizD _ _ rfl rfl rfl rfl rfl rfl rfl rfl (by first | exact two_one (sts_one hs2.now) (its_one hb2.now) | exact two_one (sts_one hs1.now) (its_one hb1.now)) ?_; clear hX; intro wz hX hbb; (try replace hs1 := hs1.below hbb); (try replace hb1 := hb1.below hbb); (try replace hs2 := hs2.below hbb); (try replace hb2 := hb2.below hbb); clear hbb) | ((with_reducible refine at_load ?_); refine wpList_bag_part (k := 0) hX aggD sizD _ rfl rfl rfl rfl (by first | exact .head _ | exact .tail _ (.head _)) (fun jz vz hz => (congrArg (fun n => ([_, _] : List Value)[n]?) (Nat.zero_add jz)).trans hz) rfl ?_) | (go_at_call 12; first | ((with_reducible refine (rsame_any N hlb hln _ _ _ (Dv.of hs1.now hb1.now) (Dv.of hs2.now hb2.now)).mono ?_); rintro e' w0 ⟨rfl, hbb⟩; replace hX := hX.step hbb; clear hbb)) | (go_at_call 13; (with_reducible refine (alive_true _ (H.step hX.below)).mono ?_); rintro e' w9 ⟨rfl, hbb⟩; replace hX := hX.step hbb; clear hbb))
  go_ret
  exact ⟨rfl, hX.below⟩
theorem asc_of {B : List Int} (h : ∀ k, k < B.length → k = 0 ∨ B.getD (k - 1) 0 < B.getD k 0) : B.Pairwise (· < ·) := by
  rw [List.pairwise_iff_getElem]
  intro i j hi hj hij
  induction j with
  | zero => omega
  | succ j ih =>
    have h1 := h (j + 1) hj
    rw [List.getD_eq_getElem?_getD, List.getD_eq_getElem?_getD, List.getElem?_eq_getElem hj, show j + 1 - 1 = j from rfl, List.getElem?_eq_getElem (show j < B.length by omega)] at h1
    simp only [Option.getD_some] at h1
    rcases (by omega : i = j ∨ i < j) with rfl | h2
    · omega
    · have := ih (by omega) h2; omega
theorem right_asc {D : Drv} (h : D.right = true) : D.B.Pairwise (· < ·) := asc_of fun k hk => ((okAt_iff _ _ _).1 ((okB_iff _ _).1 ((right_iff D).1 h).2.2.2 k hk)).2.2
theorem insB_len (s : Int) : ∀ B : List Int, (insB s B).length = B.length + 1
  | [] => rfl
  | b :: r => by
    show (if b < s then b :: insB s r else s :: b :: r).length = _
    split
    · rw [List.length_cons, insB_len s r]; rfl
    · rfl
theorem wr_len (D : Drv) (k : Int) (s : ByteArray) : (D.wr k s).1.S.length ≤ D.S.length ∧ (D.wr k s).1.B.length ≤ D.B.length := by
  unfold Drv.wr; repeat' split
  all_goals first | exact ⟨Nat.zero_le _, Nat.zero_le _⟩ | exact ⟨Nat.le_of_eq List.length_set, Nat.le_refl _⟩
theorem sp_len (D : Drv) (k : Int) : (D.sp k).1.S.length ≤ D.S.length ∧ (D.sp k).1.B.length ≤ D.B.length + 1 := by
  unfold Drv.sp; repeat' split
  all_goals first | exact ⟨Nat.zero_le _, Nat.zero_le _⟩ | exact ⟨Nat.le_refl _, Nat.le_succ _⟩ | exact ⟨Nat.le_refl _, Nat.le_of_eq (insB_len _ _)⟩
theorem ap_len : ∀ (l : List (Int × ByteArray)) (D : Drv) (i : Nat) (f : Int), (D.ap l i f).1.S.length = D.S.length ∧ (D.ap l i f).1.B = D.B
  | [], D, i, f => ⟨rfl, rfl⟩
  | q :: r, D, i, f => by
    show (if (i : Int) = f then (D, i, 0) else if (D.wr q.1 q.2).2 = 0 then (D.wr q.1 q.2).1.ap r (i + 1) f else (D, i, (D.wr q.1 q.2).2)).1.S.length = _ ∧ (if (i : Int) = f then (D, i, 0) else if (D.wr q.1 q.2).2 = 0 then (D.wr q.1 q.2).1.ap r (i + 1) f else (D, i, (D.wr q.1 q.2).2)).1.B = _
    split
    · exact ⟨rfl, rfl⟩
    · split
      · rename_i h
        have h1 := wr_keep D q.1 q.2 h
        have h2 := ap_len r (D.wr q.1 q.2).1 (i + 1) f
        exact ⟨h2.1.trans h1.1, h2.2.trans h1.2⟩
      · exact ⟨rfl, rfl⟩
theorem DriveRights_true (D : Drv) (vs vb : Value) (W0 : World) (H : DvC W0) (hs : Sts W0 vs D.S) (hb : Its W0 vb D.B) : Calls Try.prog 4 #[.agg #[vs, vb]] W0 fun e' w' => e' = .returned (.bool true) ∧ Below W0.heap.size W0 w' := by
  have hg := fun w' (h : Below W0.heap.size W0 w') => rfair_any D vs vb w' (hs.below h) (hb.below h)
  have hX := (Bag.nil W0).new 25 [vs, vb]
  cases hD : D.fair
  · rw [hD] at hg
    go_enter Try.func4, Try.ntmps4
    go_wp2_with (first | ((with_reducible refine at_load ?_); refine wpList_bag_part (k := 0) hX aggD sizD _ rfl rfl rfl rfl (by first | exact .head _) (fun jz vz hz => (congrArg (fun n => ([_, _] : List Value)[n]?) (Nat.zero_add jz)).trans hz) rfl ?_) | (go_at_call 14; first | ((with_reducible refine (hg _ hX.below).mono ?_); rintro e' w0 ⟨rfl, hbb⟩; replace hX := hX.step hbb; clear hbb)) | (go_at_call 13; (with_reducible refine (alive_true _ (H.step hX.below)).mono ?_); rintro e' w9 ⟨rfl, hbb⟩; replace hX := hX.step hbb; clear hbb))
    go_ret
    exact ⟨rfl, hX.below⟩
  · rw [hD] at hg
    obtain ⟨k1, k2, _⟩ := (fair_iff D).1 hD
    have q1 := fun w' (h : Below W0.heap.size W0 w') => H.right D vs vb w' h (by omega) (by omega) (hs.below h) (hb.below h)
    have q2 := fun w' (h : Below W0.heap.size W0 w') => rrightD_any D (by omega) (by omega) vs vb w' (hs.below h) (hb.below h)
    have q3 := fun w' (h : Below W0.heap.size W0 w') => alive_true w' (H.step h)
    generalize D.right = r at *
    clear hD k1 k2
    go_enter Try.func4, Try.ntmps4
    go_wp2_with (first | ((with_reducible refine at_load ?_); refine wpList_bag_part (k := 0) hX aggD sizD _ rfl rfl rfl rfl (by first | exact .head _) (fun jz vz hz => (congrArg (fun n => ([_, _] : List Value)[n]?) (Nat.zero_add jz)).trans hz) rfl ?_) | (go_at_call 14; first | ((with_reducible refine (hg _ hX.below).mono ?_); rintro e' w0 ⟨rfl, hbb⟩; replace hX := hX.step hbb; clear hbb)))
    refine region_class (fun w' => Bag [(W0.heap.size, 25, [vs, vb])] W0 w') (by kernel_rfl) (by kernel_rfl) hX.drew ?_
    repeat
      first
        | (refine BigFrame.wpQuiet_skip (by rfl) ?_
           simp only [Act.put, List.setIfInBounds_toArray, List.set_cons_zero, List.set_cons_succ])
        | (refine BigFrame.wpQuiet_want (by rfl) (fun K hK => ?_)
           apply Exists.intro
           refine ⟨fun wq hq => ?_, hK _ ?_⟩
           · first
               | (refine quiet_load 25 _ _ _ rfl rfl ((hq.all _ _ _ (.head _)).loadVar rfl aggD sizD))
               | (unfold Oper.quietAt
                  go_simp
                  first
                    | with_reducible rfl
                    | ((go_at_call 15); with_reducible refine (q1 _ hq.below).mono ?_; exact fun e w' ⟨he, hw⟩ => ⟨he, Bag.step hq hw⟩)
                    | ((go_at_call 16); with_reducible refine (q2 _ hq.below).mono ?_; exact fun e w' ⟨he, hw⟩ => ⟨he, Bag.step hq hw⟩)
                    | ((go_at_call 13); with_reducible refine (q3 _ hq.below).mono ?_; exact fun e w' ⟨he, hw⟩ => ⟨he, Bag.step hq hw⟩)
                 )
           clear hK K
           simp only [Act.put, List.setIfInBounds_toArray, List.set_cons_zero, List.set_cons_succ])
    refine wpQuiet_nil ?_
    intro w4 hX
    go_wp2
    go_ret
    exact ⟨rfl, hX.below⟩
theorem DriveAccesses_true (D : Drv) (vs vb : Value) (k : Int) (s : ByteArray) (W0 : World) (H : DvC W0) (hs : Sts W0 vs D.S) (hb : Its W0 vb D.B) : Calls Try.prog 5 #[.agg #[vs, vb], .int .i64 k, .string s] W0 fun e' w' => e' = .returned (.bool true) ∧ Below W0.heap.size W0 w' := by
  have hg := fun w' (h : Below W0.heap.size W0 w') => good_any D vs vb w' (hs.below h) (hb.below h)
  have hX := (Bag.nil W0).new 25 [vs, vb]
  cases hD : D.fair && D.right
  · rw [hD] at hg
    go_enter Try.func5, Try.ntmps5
    go_wp2_with (first | ((with_reducible refine at_load ?_); refine wpList_bag_part (k := 0) hX aggD sizD _ rfl rfl rfl rfl (by first | exact .head _) (fun jz vz hz => (congrArg (fun n => ([_, _] : List Value)[n]?) (Nat.zero_add jz)).trans hz) rfl ?_) | (go_at_call 17; first | ((with_reducible refine (hg _ hX.below).mono ?_); rintro e' w0 ⟨rfl, hbb⟩; replace hX := hX.step hbb; clear hbb)) | (go_at_call 13; (with_reducible refine (alive_true _ (H.step hX.below)).mono ?_); rintro e' w9 ⟨rfl, hbb⟩; replace hX := hX.step hbb; clear hbb))
    go_ret
    exact ⟨rfl, hX.below⟩
  rw [hD] at hg
  by_cases hz : 200 < s.size
  · have hz1 : (200 : Int) < (s.size : Int) := by omega
    have hz2 : decide ((200 : Int) < (s.size : Int)) = true := decide_eq_true hz1
    go_enter Try.func5, Try.ntmps5
    go_wp2_with (first | ((with_reducible refine at_load ?_); refine wpList_bag_part (k := 0) hX aggD sizD _ rfl rfl rfl rfl (by first | exact .head _) (fun jz vz hz => (congrArg (fun n => ([_, _] : List Value)[n]?) (Nat.zero_add jz)).trans hz) rfl ?_) | (go_at_call 17; first | ((with_reducible refine (hg _ hX.below).mono ?_); rintro e' w0 ⟨rfl, hbb⟩; replace hX := hX.step hbb; clear hbb)) | (go_at_call 13; (with_reducible refine (alive_true _ (H.step hX.below)).mono ?_); rintro e' w9 ⟨rfl, hbb⟩; replace hX := hX.step hbb; clear hbb))
    go_ret
    exact ⟨rfl, hX.below⟩
  have hz1 : ¬ (200 : Int) < (s.size : Int) := by omega
  have hz2 : decide ((200 : Int) < (s.size : Int)) = false := decide_eq_false hz1
  rw [Bool.and_eq_true] at hD
  obtain ⟨k1, k2, _⟩ := (fair_iff D).1 hD.1
  have hr := hD.2
  have hsX := hs.sv
  have hbX := hb.sv
  have q1 := fun w (h : Below W0.heap.size W0 w) => H.read D k vs vb w h hr (hs.below h) (hb.below h)
  have q2 := fun w (h : Below W0.heap.size W0 w) => rread_any D k (by omega) (by omega) vs vb w (hs.below h) (hb.below h)
  have q3 := fun w (h : Below W0.heap.size W0 w) => H.write D k s vs vb (fun _ : Nat => False) w h hr (fun _ h => False.elim h) (hsX.below h) (hbX.below h)
  have q4 := fun w (h : Below W0.heap.size W0 w) => rwrite_any D k s (by omega) (by omega) vs vb w (fun _ : Nat => False) (fun _ h => False.elim h) (hsX.below h) (hbX.below h)
  have q5 := fun w (h : Below W0.heap.size W0 w) => H.spoil D k vs vb (fun _ : Nat => False) w h hr (fun _ h => False.elim h) (hsX.below h) (hbX.below h)
  have q6 := fun w (h : Below W0.heap.size W0 w) => rspoil_any D k (by omega) (by omega) (right_asc hr) vs vb w (fun _ : Nat => False) (fun _ h => False.elim h) (hsX.below h) (hbX.below h)
  have y1 : (D.wr k s).1.S.length ≤ 1099511627776 := by have := (wr_len D k s).1; omega
  have y2 : (D.wr k s).1.B.length ≤ 1099511627776 := by have := (wr_len D k s).2; omega
  have y3 : (D.sp k).1.S.length ≤ 1099511627776 := by have := (sp_len D k).1; omega
  have y4 : (D.sp k).1.B.length ≤ 1099511627776 := by have := (sp_len D k).2; omega
  generalize D.rd k = RR at *
  generalize D.wr k s = RW at *
  generalize D.sp k = RS at *
  obtain ⟨r1, r2⟩ := RR
  obtain ⟨DW, r4⟩ := RW
  obtain ⟨DS, r6⟩ := RS
  dsimp only at q1 q2 q3 q4 q5 q6 y1 y2 y3 y4
  clear hD hr hs hb hsX hbX k1 k2
  go_enter Try.func5, Try.ntmps5
  go_wp2_with (first | ((with_reducible refine at_load ?_); refine wpList_bag_part (k := 0) hX aggD sizD _ rfl rfl rfl rfl (by first | exact .head _ | exact .tail _ (.head _) | exact .tail _ (.tail _ (.head _)) | exact .tail _ (.tail _ (.tail _ (.head _))) | exact .tail _ (.tail _ (.tail _ (.tail _ (.head _))))) (fun jz vz hz => (congrArg (fun n => ([_, _] : List Value)[n]?) (Nat.zero_add jz)).trans hz) rfl ?_) | (go_at_call 17; first | ((with_reducible refine (hg _ hX.below).mono ?_); rintro e' w0 ⟨rfl, hbb⟩; replace hX := hX.step hbb; clear hbb)) | (go_at_call 18; first | ((with_reducible refine (q1 _ hX.below).mono ?_); rintro e' w0 ⟨rfl, hbb⟩; replace hX := hX.step hbb; clear hbb)) | (go_at_call 19; first | ((with_reducible refine (q2 _ hX.below).mono ?_); rintro e' w0 ⟨rfl, hbb⟩; replace hX := hX.step hbb; clear hbb)) | (go_at_call 20; first | ((with_reducible refine (q3 _ hX.below).mono ?_); rintro e' w1 ⟨x, rfl, ⟨vs1, vb1, rfl, hs1, hb1⟩, hbb⟩; replace hX := hX.step hbb; clear hbb)) | (go_at_call 21; first | ((with_reducible refine (q4 _ hX.below).mono ?_); rintro e' w2 ⟨x, rfl, ⟨vs2, vb2, rfl, hs2, hb2⟩, hbb⟩; (try replace hs1 := hs1.below hbb); (try replace hb1 := hb1.below hbb); replace hX := hX.step hbb; clear hbb)) | (go_at_call 22; first | ((with_reducible refine (q5 _ hX.below).mono ?_); rintro e' w3 ⟨x, rfl, ⟨vs3, vb3, rfl, hs3, hb3⟩, hbb⟩; (try replace hs1 := hs1.below hbb); (try replace hb1 := hb1.below hbb); (try replace hs2 := hs2.below hbb); (try replace hb2 := hb2.below hbb); replace hX := hX.step hbb; clear hbb)) | (go_at_call 23; first | ((with_reducible refine (q6 _ hX.below).mono ?_); rintro e' w4 ⟨x, rfl, ⟨vs4, vb4, rfl, hs4, hb4⟩, hbb⟩; (try replace hs1 := hs1.below hbb); (try replace hb1 := hb1.below hbb); (try replace hs2 := hs2.below hbb); (try replace hb2 := hb2.below hbb); (try replace hs3 := hs3.below hbb); (try replace hb3 := hb3.below hbb); replace hX := hX.step hbb; clear hbb)) | ((with_reducible refine at_store ?_); refine wpList_bag_storeB (zs := [.slice none 0 0, .slice none 0 0]) hX aggD sizD _ _ rfl rfl rfl rfl rfl rfl rfl rfl (by first | exact two_one (sts_one hs4.now) (its_one hb4.now) | exact two_one (sts_one hs3.now) (its_one hb3.now) | exact two_one (sts_one hs2.now) (its_one hb2.now) | exact two_one (sts_one hs1.now) (its_one hb1.now)) ?_; clear hX; intro wz hX hbb; (try replace hs1 := hs1.below hbb); (try replace hb1 := hb1.below hbb); (try replace hs2 := hs2.below hbb); (try replace hb2 := hb2.below hbb); (try replace hs3 := hs3.below hbb); (try replace hb3 := hb3.below hbb); (try replace hs4 := hs4.below hbb); (try replace hb4 := hb4.below hbb); clear hbb) | (go_at_call 12; first | ((with_reducible refine (rsame_any DW y2 y1 _ _ _ (Dv.of hs1.now hb1.now) (Dv.of hs2.now hb2.now)).mono ?_); rintro e' w0 ⟨rfl, hbb⟩; (try replace hs1 := hs1.below hbb); (try replace hb1 := hb1.below hbb); (try replace hs2 := hs2.below hbb); (try replace hb2 := hb2.below hbb); (try replace hs3 := hs3.below hbb); (try replace hb3 := hb3.below hbb); (try replace hs4 := hs4.below hbb); (try replace hb4 := hb4.below hbb); replace hX := hX.step hbb; clear hbb) | ((with_reducible refine (rsame_any DS y4 y3 _ _ _ (Dv.of hs3.now hb3.now) (Dv.of hs4.now hb4.now)).mono ?_); rintro e' w0 ⟨rfl, hbb⟩; (try replace hs1 := hs1.below hbb); (try replace hb1 := hb1.below hbb); (try replace hs2 := hs2.below hbb); (try replace hb2 := hb2.below hbb); (try replace hs3 := hs3.below hbb); (try replace hb3 := hb3.below hbb); (try replace hs4 := hs4.below hbb); (try replace hb4 := hb4.below hbb); replace hX := hX.step hbb; clear hbb)) | (go_at_call 13; (with_reducible refine (alive_true _ (H.step hX.below)).mono ?_); rintro e' w9 ⟨rfl, hbb⟩; replace hX := hX.step hbb; clear hbb))
  go_ret
  exact ⟨rfl, hX.below⟩
theorem DriveApplies_true (D : Drv) (vs vb : Value) (q : List (Int × ByteArray)) (v : Value) (fz : Int) (W0 : World) (H : DvC W0) (hs : Sts W0 vs D.S) (hb : Its W0 vb D.B) (hv : Wts W0 v q) : Calls Try.prog 6 #[.agg #[vs, vb], v, .int .i64 fz] W0 fun e' w' => e' = .returned (.bool true) ∧ Below W0.heap.size W0 w' := by
  have hg := fun w' (h : Below W0.heap.size W0 w') => good_any D vs vb w' (hs.below h) (hb.below h)
  have hX := (Bag.nil W0).new 25 [vs, vb]
  have hsm := fun w (h : Below W0.heap.size W0 w) => small_any q v w (Rz.below hv h)
  cases hD : D.fair && D.right
  · rw [hD] at hg
    go_enter Try.func6, Try.ntmps6
    go_wp2_with (first | ((with_reducible refine at_load ?_); refine wpList_bag_part (k := 0) hX aggD sizD _ rfl rfl rfl rfl (by first | exact .head _) (fun jz vz hz => (congrArg (fun n => ([_, _] : List Value)[n]?) (Nat.zero_add jz)).trans hz) rfl ?_) | (go_at_call 17; first | ((with_reducible refine (hg _ hX.below).mono ?_); rintro e' w0 ⟨rfl, hbb⟩; replace hX := hX.step hbb; clear hbb)) | (go_at_call 13; (with_reducible refine (alive_true _ (H.step hX.below)).mono ?_); rintro e' w9 ⟨rfl, hbb⟩; replace hX := hX.step hbb; clear hbb))
    go_ret
    exact ⟨rfl, hX.below⟩
  rw [hD] at hg
  cases hq : smallV q
  · rw [hq] at hsm
    go_enter Try.func6, Try.ntmps6
    go_wp2_with (first | ((with_reducible refine at_load ?_); refine wpList_bag_part (k := 0) hX aggD sizD _ rfl rfl rfl rfl (by first | exact .head _) (fun jz vz hz => (congrArg (fun n => ([_, _] : List Value)[n]?) (Nat.zero_add jz)).trans hz) rfl ?_) | (go_at_call 17; first | ((with_reducible refine (hg _ hX.below).mono ?_); rintro e' w0 ⟨rfl, hbb⟩; replace hX := hX.step hbb; clear hbb)) | (go_at_call 24; first | ((with_reducible refine (hsm _ hX.below).mono ?_); rintro e' w0 ⟨rfl, hbb⟩; replace hX := hX.step hbb; clear hbb)) | (go_at_call 13; (with_reducible refine (alive_true _ (H.step hX.below)).mono ?_); rintro e' w9 ⟨rfl, hbb⟩; replace hX := hX.step hbb; clear hbb))
    go_ret
    exact ⟨rfl, hX.below⟩
  rw [hq] at hsm
  rw [Bool.and_eq_true] at hD
  obtain ⟨k1, k2, _⟩ := (fair_iff D).1 hD.1
  have k3 : q.length ≤ 60 := by unfold smallV at hq; simp at hq; exact hq.1
  have hr := hD.2
  have hsX := hs.sv
  have hbX := hb.sv
  have q3 := fun w (h : Below W0.heap.size W0 w) => H.apply D q fz vs vb v (fun _ : Nat => False) w h hr (by omega) (fun _ h => False.elim h) (hsX.below h) (hbX.below h) (Rz.below hv h)
  have q4 := fun w (h : Below W0.heap.size W0 w) => rapply_any D q fz (by omega) (by omega) (by omega) vs vb v w (fun _ : Nat => False) (fun _ h => False.elim h) (hsX.below h) (hbX.below h) (Rz.below hv h)
  have y1 : (D.ap q 0 fz).1.S.length ≤ 1099511627776 := by have := (ap_len q D 0 fz).1; omega
  have y2 : (D.ap q 0 fz).1.B.length ≤ 1099511627776 := by rw [(ap_len q D 0 fz).2]; omega
  generalize D.ap q 0 fz = RW at *
  obtain ⟨DW, n, er⟩ := RW
  dsimp only at q3 q4 y1 y2
  clear hD hr hs hb hsX hbX k1 k2 k3 hv hq
  go_enter Try.func6, Try.ntmps6
  go_wp2_with (first | ((with_reducible refine at_load ?_); refine wpList_bag_part (k := 0) hX aggD sizD _ rfl rfl rfl rfl (by first | exact .head _ | exact .tail _ (.head _) | exact .tail _ (.tail _ (.head _))) (fun jz vz hz => (congrArg (fun n => ([_, _] : List Value)[n]?) (Nat.zero_add jz)).trans hz) rfl ?_) | (go_at_call 17; first | ((with_reducible refine (hg _ hX.below).mono ?_); rintro e' w0 ⟨rfl, hbb⟩; replace hX := hX.step hbb; clear hbb)) | (go_at_call 24; first | ((with_reducible refine (hsm _ hX.below).mono ?_); rintro e' w0 ⟨rfl, hbb⟩; replace hX := hX.step hbb; clear hbb)) | (go_at_call 25; first | ((with_reducible refine (q3 _ hX.below).mono ?_); rintro e' w1 ⟨x, rfl, ⟨vs1, vb1, rfl, hs1, hb1⟩, hbb⟩; replace hX := hX.step hbb; clear hbb)) | (go_at_call 26; first | ((with_reducible refine (q4 _ hX.below).mono ?_); rintro e' w2 ⟨x, rfl, ⟨vs2, vb2, rfl, hs2, hb2⟩, hbb⟩; (try replace hs1 := hs1.below hbb); (try replace hb1 := hb1.below hbb); replace hX := hX.step hbb; clear hbb)) | ((with_reducible refine at_store ?_); refine wpList_bag_storeB (zs := [.slice none 0 0, .slice none 0 0]) hX aggD sizD _ _ rfl rfl rfl rfl rfl rfl rfl rfl (by first | exact two_one (sts_one hs2.now) (its_one hb2.now) | exact two_one (sts_one hs1.now) (its_one hb1.now)) ?_; clear hX; intro wz hX hbb; (try replace hs1 := hs1.below hbb); (try replace hb1 := hb1.below hbb); (try replace hs2 := hs2.below hbb); (try replace hb2 := hb2.below hbb); clear hbb) | (go_at_call 12; first | ((with_reducible refine (rsame_any DW y2 y1 _ _ _ (Dv.of hs1.now hb1.now) (Dv.of hs2.now hb2.now)).mono ?_); rintro e' w0 ⟨rfl, hbb⟩; (try replace hs1 := hs1.below hbb); (try replace hb1 := hb1.below hbb); (try replace hs2 := hs2.below hbb); (try replace hb2 := hb2.below hbb); replace hX := hX.step hbb; clear hbb)) | (go_at_call 13; (with_reducible refine (alive_true _ (H.step hX.below)).mono ?_); rintro e' w9 ⟨rfl, hbb⟩; replace hX := hX.step hbb; clear hbb))
  go_ret
  exact ⟨rfl, hX.below⟩
end Go.Proofs.Ytohfniejflibmaa
