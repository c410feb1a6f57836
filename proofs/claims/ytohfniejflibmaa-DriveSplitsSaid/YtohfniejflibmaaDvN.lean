/-
  DriveSplits. Condition: the contracts of package drive.
-/
import Derived.Test.YtohfniejflibmaaDvM
namespace Go.Proofs.Ytohfniejflibmaa
open Go.RowKit
set_option linter.unusedSimpArgs false
set_option linter.unusedVariables false
set_option maxHeartbeats 4000000
set_option maxRecDepth 100000
attribute [local irreducible] wpQuiet wpQF

theorem ap_cons (D : Drv) (q : Int × ByteArray) (r : List (Int × ByteArray)) (i : Nat) (f : Int) : D.ap (q :: r) i f = if (i : Int) = f then (D, i, 0) else if (D.wr q.1 q.2).2 = 0 then (D.wr q.1 q.2).1.ap r (i + 1) f else (D, i, (D.wr q.1 q.2).2) := rfl
theorem ap_ok_len : ∀ (l : List (Int × ByteArray)) (D : Drv) (i : Nat), (D.ap l i (-1)).2.2 = 0 → (D.ap l i (-1)).2.1 = i + l.length
  | [], D, i, _ => rfl
  | q :: r, D, i, h => by
    rw [ap_cons, if_neg (by omega)] at h ⊢
    split at h
    · rename_i h1
      rw [if_pos h1, ap_ok_len r _ _ h, List.length_cons]; omega
    · rename_i h1; exact absurd h h1
theorem ap_err_len : ∀ (l : List (Int × ByteArray)) (D : Drv) (i : Nat), (D.ap l i (-1)).2.2 ≠ 0 → (D.ap l i (-1)).2.1 < i + l.length
  | [], D, i, h => absurd rfl h
  | q :: r, D, i, h => by
    rw [ap_cons, if_neg (by omega)] at h ⊢
    split at h
    · rename_i h1
      rw [if_pos h1]
      have := ap_err_len r _ _ h
      rw [List.length_cons]; omega
    · rename_i h1
      rw [if_neg h1, List.length_cons]
      show i < _
      omega
theorem ap_two : ∀ (l : List (Int × ByteArray)) (D : Drv) (i j : Nat), (D.ap l i (-1)).1 = (D.ap l j (-1)).1 ∧ (D.ap l i (-1)).2.2 = (D.ap l j (-1)).2.2
  | [], D, i, j => ⟨rfl, rfl⟩
  | q :: r, D, i, j => by
    rw [ap_cons D q r i, if_neg (show ¬ ((i : Int) = -1) by omega), ap_cons D q r j, if_neg (show ¬ ((j : Int) = -1) by omega)]
    split
    · exact ap_two r _ _ _
    · exact ⟨rfl, rfl⟩
theorem ap_cut : ∀ (l : List (Int × ByteArray)) (D : Drv) (i K : Nat), (D.ap l i (-1)).2.2 = 0 → ∃ A, D.ap l i ((i + K : Nat) : Int) = (A, i + min K l.length, 0) ∧ ∀ j, (A.ap (l.drop (min K l.length)) j (-1)).1 = (D.ap l i (-1)).1 ∧ (A.ap (l.drop (min K l.length)) j (-1)).2.2 = 0
  | [], D, i, K, _ => ⟨D, by rw [List.length_nil, Nat.min_zero]; rfl, fun j => by rw [List.drop_nil]; exact ⟨rfl, rfl⟩⟩
  | q :: r, D, i, 0, h => ⟨D, by rw [Nat.add_zero, ap_cons, if_pos rfl, Nat.zero_min]; rfl, fun j => by
      rw [Nat.zero_min, List.drop_zero]
      have := ap_two (q :: r) D j i
      exact ⟨this.1, this.2.trans h⟩⟩
  | q :: r, D, i, K + 1, h => by
    have h0 := h
    rw [ap_cons, if_neg (by omega)] at h0
    split at h0
    · rename_i h1
      obtain ⟨A, e1, e2⟩ := ap_cut r _ (i + 1) K h0
      refine ⟨A, ?_, fun j => ?_⟩
      · rw [ap_cons, if_neg (by omega), if_pos h1, show i + (K + 1) = i + 1 + K by omega, e1, List.length_cons, Nat.succ_min_succ]
        rw [show i + 1 + min K r.length = i + (min K r.length + 1) by omega]
      · rw [List.length_cons, Nat.succ_min_succ, List.drop_succ_cons]
        have := e2 j
        rw [this.1]
        refine ⟨?_, this.2⟩
        rw [ap_cons D q r i, if_neg (by omega), if_pos h1]
    · rename_i h1; exact absurd h0 h1
theorem ap_right : ∀ (l : List (Int × ByteArray)) (D : Drv) (i : Nat) (f : Int), D.right = true → (D.ap l i f).1.right = true
  | [], D, i, f, h => h
  | q :: r, D, i, f, h => by
    rw [ap_cons]
    split
    · exact h
    · split
      · rename_i h1; exact ap_right r _ _ _ (wr_right h h1)
      · exact h
theorem ap_df : ∀ (l : List (Int × ByteArray)) (D : Drv) (i : Nat) (f : Int) (k : Nat), D.S[k]? ≠ (D.ap l i f).1.S[k]? → ∃ q ∈ l, q.1 = (k : Int)
  | [], D, i, f, k, h => absurd rfl h
  | q :: r, D, i, f, k, h => by
    rw [ap_cons] at h
    split at h
    · exact absurd rfl h
    · split at h
      · rename_i h1
        by_cases hk : q.1 = (k : Int)
        · exact ⟨q, List.mem_cons_self, hk⟩
        · have e : D.S[k]? = (D.wr q.1 q.2).1.S[k]? := by
            obtain ⟨j, hj, _, _, _, e⟩ := wr_ok h1
            rw [e]
            dsimp only
            rw [List.getElem?_set_ne (by intro e; rw [e] at hj; exact hk hj)]
          rw [e] at h
          obtain ⟨p, hp, he⟩ := ap_df r _ _ _ k h
          exact ⟨p, List.mem_cons_of_mem _ hp, he⟩
      · exact absurd rfl h
theorem df_mem {a b : List ByteArray} {d : Int} (h : d ∈ dfV a b) : ∃ k : Nat, d = (k : Int) ∧ a[k]? ≠ b[k]? := by
  unfold dfV at h
  obtain ⟨k, hk, rfl⟩ := List.mem_map.1 h
  exact ⟨k, rfl, of_decide_eq_true (List.mem_filter.1 hk).2⟩
def fnd (q : List (Int × ByteArray)) (d : Int) (j : Nat) : Bool := (q.take j).any (fun x => x.1 == d)
theorem fnd_step {q : List (Int × ByteArray)} {d : Int} {j : Nat} {x : Int × ByteArray} (h : q[j]? = some x) : fnd q d (j + 1) = (fnd q d j || (x.1 == d)) := by
  unfold fnd; rw [List.take_add_one, h, List.any_append]; simp
theorem fnd_all {q : List (Int × ByteArray)} {d : Int} (h : ∃ x ∈ q, x.1 = d) : fnd q d q.length = true := by
  unfold fnd; rw [List.take_length, List.any_eq_true]
  obtain ⟨x, hx, he⟩ := h
  exact ⟨x, hx, by simpa using he⟩
theorem leaf {K : Act → World → Prop} {Q : Exit → Act → World → Prop} {a : Act} {w' : World} (C : World → Prop) (hC : C w') (h : ∀ w, C w → Exit.then K Q .normal a w) : Exit.then K Q .normal a w' := h w' hC
theorem one_lt (w : World) (cs : List Value) (t : TypeId) : ∀ b, b = w.heap.size → b < ((w.alloc (.cells cs.toArray t)).drew).heap.size := fun b hb => by
  rw [hb]; exact (((Bag.nil w).new t cs).drew.all _ _ _ (.head _)).lt
theorem one_weak (w : World) : ∀ b, b < w.heap.size → b = w.heap.size → False := fun b h1 h2 => by omega
theorem quiet_slice {P : Program} {w : World} {o : Oper} {a : Act} {C : World → Prop} (t : TypeId) (x : Operand) (lo hi mx : Option Operand) (v : Value) (hop : o.op = Op.slice t x lo hi mx) (hrun : (Instr.sliceAt t (a.eval x) (lo.map a.eval) (hi.map a.eval) (mx.map a.eval)).run P w = .ok v w) : Oper.quietAt P o a C w v := by
  unfold Oper.quietAt execOp
  simp only [hop, hrun, Sem.run_bind, Sem.run_pure, Result.andThen_ok]
  exact ⟨rfl, rfl⟩
theorem KB.lo {t : TypeId} {zs : List Value} {w0 w : World} {s : Option Nat} (h : KB t zs [] w0 s w) : ∀ b, s = some b → w0.heap.size ≤ b := by
  intro b hb; subst hb
  exact (show Bag _ _ _ from h).lo (b, t, zs) (.head _)
theorem Bag.join {l l2 : List (Nat × TypeId × List Value)} {w0 w w2 : World} (h : Bag l w0 w) (h2 : Bag l2 w w2) : Bag (l2 ++ l) w0 w2 := by
  refine ⟨fun B t cs hm => ?_, bT h.below h2.below, fun b hb => ?_, ?_⟩
  · rcases List.mem_append.1 hm with e | e
    · exact h2.all B t cs e
    · exact (h.all B t cs e).step h2.below
  · rcases List.mem_append.1 hb with e | e
    · exact Nat.le_trans h.below.size (h2.lo b e)
    · exact h.lo b e
  · rw [List.map_append, List.nodup_append]
    refine ⟨h2.dis, h.dis, fun a ha b hb e => ?_⟩
    obtain ⟨x, hx, rfl⟩ := List.mem_map.1 ha
    obtain ⟨⟨B, t, cs⟩, hy, rfl⟩ := List.mem_map.1 hb
    have h3 := (h.all B t cs hy).lt
    have h4 := h2.lo x hx
    simp only at e
    omega
theorem wts_tail {w : World} {A : Option Addr} {c m : Nat} {q : List (Int × ByteArray)} (h : Wts w (.slice A q.length c) q) (hm : m ≤ q.length) : Wts w (.slice (if c = m then A else A.map (·.add (m * 2))) (q.length - m) (c - m)) (q.drop m) := by
  have h0 := h
  obtain ⟨⟨A', c', e, hk, hc⟩, h2⟩ := h
  cases e
  refine ⟨⟨_, _, by rw [List.length_drop], by rw [List.length_drop]; omega, fun j u hu => ?_⟩, fun x y e => ?_⟩
  · have hf : (flatW q)[m * 2 + j]? = some u := by
      have e1 : flatW q = flatW (q.take m) ++ flatW (q.drop m) := by rw [← flatW_append, List.take_append_drop]
      have e2 : (flatW (q.take m)).length = m * 2 := by rw [flatW_length, List.length_take, Nat.min_eq_left hm]
      rw [e1, List.getElem?_append_right (by omega), e2, show m * 2 + j - m * 2 = j by omega]; exact hu
    obtain ⟨a, rfl, h3, h4⟩ := hc _ _ hf
    by_cases hcm : c = m
    · exfalso
      have : (flatW (q.drop m)).length = 0 := by rw [flatW_length, List.length_drop]; omega
      rw [List.eq_nil_of_length_eq_zero this] at hu; simp at hu
    · rw [if_neg hcm]
      exact ⟨a.add (m * 2), rfl, by rw [addr_add]; exact h3, by rw [← addr_add] at h4; exact h4⟩
  · injection e with e1 e2 e3
    by_cases hcm : c = m
    · omega
    · rw [if_neg hcm] at e1
      cases A with
      | none => have := h2 _ _ rfl; omega
      | some a => cases e1
theorem siz_W (w : World) : (sizeOf 45).run Try.prog w = .ok 2 w := by kernel_rfl
theorem run_tail (w : World) (A : Option Addr) (n c m : Nat) (h1 : m ≤ n) (h2 : n ≤ c) : (Instr.sliceAt 38 (.slice A n c) (some (.int .i64 m)) none none).run Try.prog w = .ok (.slice (if c = m then A else A.map (·.add (m * 2))) (n - m) (c - m)) w := by
  have he : Try.prog.elem 38 = 45 := by kernel_rfl
  have hu : Try.prog.underlying 38 = some (.slice (Try.prog.elem 38)) := by rw [he]; exact Try.underlying38
  have hs : (sizeOf 45).run Try.prog w = .ok 2 w := siz_W w
  rw [run_sliceAt_slice w 38 _ _ _ _ hu, run_slice_any w 38 A n c hu]
  have hb : (Instr.sliceBounds true n c (some (.int .i64 (m : Int))) none none).run Try.prog w = .ok (m, n, c) w := by
    simp only [Instr.sliceBounds, Option.isSome, Sem.run_bind, Sem.run_pure, Result.andThen_ok, run_sliceBound w .i64 (m : Int) n _ (by omega) (by omega), Int.toNat_natCast]
  rw [hb, he]
  simp only [Result.andThen_ok, hs, sliced]
theorem DriveSplits_true (D : Drv) (vs vb : Value) (q : List (Int × ByteArray)) (v : Value) (k : Int) (hk0 : 0 ≤ k) (hk1 : k ≤ 255) (W0 : World) (H : DvC W0) (hs : Sts W0 vs D.S) (hb : Its W0 vb D.B) (hv : Wts W0 v q) : Calls Try.prog 9 #[.agg #[vs, vb], v, .int .u8 k] W0 fun e' w' => e' = .returned (.bool true) ∧ Below W0.heap.size W0 w' := by
  have hg := fun w' (h : Below W0.heap.size W0 w') => good_any D vs vb w' (hs.below h) (hb.below h)
  have hsm := fun w (h : Below W0.heap.size W0 w) => small_any q v w (Rz.below hv h)
  have hX := (Bag.nil W0).new 25 [vs, vb]
  cases hD : D.fair && D.right
  · rw [hD] at hg
    go_enter Try.func9, Try.ntmps9
    go_wp2_with (first | ((with_reducible refine at_load ?_); refine wpList_bag_part (k := 0) hX aggD sizD _ rfl rfl rfl rfl (by first | exact .head _) (fun jz vz hz => (congrArg (fun n => ([_, _] : List Value)[n]?) (Nat.zero_add jz)).trans hz) rfl ?_) | (go_at_call 17; first | ((with_reducible refine (hg _ hX.below).mono ?_); rintro e' w0 ⟨rfl, hbb⟩; replace hX := hX.step hbb; clear hbb)) | (go_at_call 13; (with_reducible refine (alive_true _ (H.step hX.below)).mono ?_); rintro e' w9 ⟨rfl, hbb⟩; replace hX := hX.step hbb; clear hbb))
    go_ret
    exact ⟨rfl, hX.below⟩
  rw [hD] at hg
  cases hq : smallV q
  · rw [hq] at hsm
    go_enter Try.func9, Try.ntmps9
    go_wp2_with (first | ((with_reducible refine at_load ?_); refine wpList_bag_part (k := 0) hX aggD sizD _ rfl rfl rfl rfl (by first | exact .head _) (fun jz vz hz => (congrArg (fun n => ([_, _] : List Value)[n]?) (Nat.zero_add jz)).trans hz) rfl ?_) | (go_at_call 17; first | ((with_reducible refine (hg _ hX.below).mono ?_); rintro e' w0 ⟨rfl, hbb⟩; replace hX := hX.step hbb; clear hbb)) | (go_at_call 24; first | ((with_reducible refine (hsm _ hX.below).mono ?_); rintro e' w0 ⟨rfl, hbb⟩; replace hX := hX.step hbb; clear hbb)) | (go_at_call 13; (with_reducible refine (alive_true _ (H.step hX.below)).mono ?_); rintro e' w9 ⟨rfl, hbb⟩; replace hX := hX.step hbb; clear hbb))
    go_ret
    exact ⟨rfl, hX.below⟩
  rw [hq] at hsm
  rw [Bool.and_eq_true] at hD
  obtain ⟨k1, k2, _⟩ := (fair_iff D).1 hD.1
  have k3 : q.length ≤ 60 := by unfold smallV at hq; simp at hq; exact hq.1
  have hr := hD.2
  have hsX := hs.sv
  have hbX := hb.sv
  have q1 := fun w (h : Below W0.heap.size W0 w) => H.apply D q (-1) vs vb v (fun _ : Nat => False) w h hr (by omega) (fun _ h => False.elim h) (hsX.below h) (hbX.below h) (Rz.below hv h)
  by_cases he : (D.ap q 0 (-1)).2.2 = 0
  · have hn := ap_ok_len q D 0 he
    rw [Nat.zero_add] at hn
    obtain ⟨A, hA, hcut⟩ := ap_cut q D 0 k.toNat he
    rw [Nat.zero_add, Nat.zero_add, show ((k.toNat : Nat) : Int) = k by omega] at hA
    have q2 := fun w (h : Below W0.heap.size W0 w) => H.apply D q k vs vb v (fun _ : Nat => False) w h hr (by omega) (fun _ h => False.elim h) (hsX.below h) (hbX.below h) (Rz.below hv h)
    have hAr := ap_right q D 0 k hr
    have hLr := ap_right q D 0 (-1) hr
    have hLl := (ap_len q D 0 (-1)).1
    have hLb := (ap_len q D 0 (-1)).2
    have hmem : ∀ d ∈ dfV D.S (D.ap q 0 (-1)).1.S, ∃ x ∈ q, x.1 = d := fun d hd => by
      obtain ⟨j, rfl, hj⟩ := df_mem hd
      exact ap_df q D 0 (-1) j hj
    rw [hA] at q2 hAr
    rw [he, hn] at q1
    generalize (D.ap q 0 (-1)).1 = Z at *
    obtain ⟨m, hm⟩ : ∃ m, min k.toNat q.length = m := ⟨_, rfl⟩
    rw [hm] at q2 hcut
    have hmq : m ≤ q.length := by omega
    dsimp only at q1 q2 hAr
    obtain ⟨Aq, cq, rfl, hcq, hcw⟩ := hv.form
    have hsl := fun w => run_tail w Aq q.length cq m hmq hcq
    have hwt := fun w (h : Below W0.heap.size W0 w) => wts_tail (Rz.below hv h) hmq
    generalize Value.slice (if cq = m then Aq else Aq.map (·.add (m * 2))) (q.length - m) (cq - m) = vt at *
    have q3 := fun (X : Nat → Prop) vs1 vb1 w (h : Below W0.heap.size W0 w) hX h1 h2 => H.apply A (q.drop m) (-1) vs1 vb1 vt X w h hAr (by rw [List.length_drop]; omega) hX h1 h2 (hwt w h)
    rw [(hcut 0).1, (hcut 0).2] at q3
    generalize (A.ap (q.drop m) 0 (-1)).2.1 = n3 at *
    have d1 := fun vs1 vb1 w (h : Below W0.heap.size W0 w) h1 h2 => H.diff D Z vs vb vs1 vb1 (fun _ : Nat => False) w h (by omega) (by omega) (fun _ h => False.elim h) (hs.below h) (hb.below h) h1 h2
    have d2 := fun vs1 vb1 vs2 vb2 w (h : Below W0.heap.size W0 w) h1 h2 h3 h4 => H.diff Z Z vs1 vb1 vs2 vb2 (fun _ : Nat => False) w h (by omega) (by omega) (fun _ h => False.elim h) h1 h2 h3 h4
    rw [dfV_self] at d2
    have r1 := fun vs1 vb1 w (h : Below W0.heap.size W0 w) h1 h2 => H.right Z vs1 vb1 w h (by omega) (by rw [hLb]; omega) h1 h2
    rw [hLr] at r1
    have hll : (dfV D.S Z.S).length ≤ 4096 := by rw [df_dk]; have := dk_le D.S Z.S (max D.S.length Z.S.length); omega
    generalize dfV D.S Z.S = l at *
    have hwk : IntKind.i64.wrap k = k := by rw [wrap_i64]; unfold wrap64; omega
    have hcase : k = (m : Int) ∨ ((q.length : Int) < k ∧ m = q.length) := by omega
    clear hD hr hs hb hsX hbX k1 k2 hq hn he hA hcut hAr hLr hLl hLb hm hwt hv
    rcases hcase with rfl | ⟨hlk, rfl⟩
    · have hml : (m : Int) ≤ (q.length : Int) := by omega
      go_enter Try.func9, Try.ntmps9
      go_wp2_with (first | ((with_reducible refine at_load ?_); refine wpList_bag_part (k := 0) hX aggD sizD _ rfl rfl rfl rfl (by first | exact .head _ | exact .tail _ (.head _) | exact .tail _ (.tail _ (.head _))) (fun jz vz hz => (congrArg (fun n => ([_, _] : List Value)[n]?) (Nat.zero_add jz)).trans hz) rfl ?_) | (go_at_call 17; first | ((with_reducible refine (hg _ hX.below).mono ?_); rintro e' w0 ⟨rfl, hbb⟩; replace hX := hX.step hbb; clear hbb)) | (go_at_call 24; first | ((with_reducible refine (hsm _ hX.below).mono ?_); rintro e' w0 ⟨rfl, hbb⟩; replace hX := hX.step hbb; clear hbb)) | (go_at_call 25; first | ((with_reducible refine (q1 _ hX.below).mono ?_); rintro e' w1 ⟨x, rfl, ⟨vs1, vb1, rfl, hs1, hb1⟩, hbb⟩; (try replace hs1 := hs1.below hbb); (try replace hb1 := hb1.below hbb); replace hX := hX.step hbb; clear hbb) | ((with_reducible refine (q2 _ hX.below).mono ?_); rintro e' w2 ⟨x, rfl, ⟨vs2, vb2, rfl, hs2, hb2⟩, hbb⟩; (try replace hs1 := hs1.below hbb); (try replace hb1 := hb1.below hbb); replace hX := hX.step hbb; clear hbb)) | ((with_reducible refine at_store ?_); refine wpList_bag_storeB (zs := [.slice none 0 0, .slice none 0 0]) hX aggD sizD _ _ rfl rfl rfl rfl rfl rfl rfl rfl (by first | exact two_one (sts_one hs2.now) (its_one hb2.now) | exact two_one (sts_one hs1.now) (its_one hb1.now)) ?_; clear hX; intro wz hX hbb; (try replace hs1 := hs1.below hbb); (try replace hb1 := hb1.below hbb); (try replace hs2 := hs2.below hbb); (try replace hb2 := hb2.below hbb); clear hbb))
      have kp : ∀ W, Below wz.heap.size wz W → (fun w2' => Below wz.heap.size wz w2' ∧ w2'.cell? ⟨w2.heap.size, 0, none⟩ = some vs2 ∧ w2'.frozen? ⟨w2.heap.size, 0, none⟩ = false ∧ w2'.cell? ⟨w2.heap.size, 1, none⟩ = some vb2 ∧ w2'.frozen? ⟨w2.heap.size, 1, none⟩ = false) W := fun W hW => by
        have hb := (Bag.step hX hW).all _ _ _ (.head _)
        exact ⟨hW, hb.cell (k := 0) rfl, hb.frozen 0, hb.cell (k := 1) rfl, hb.frozen 1⟩
      go_region_held (fun w2' => Below wz.heap.size wz w2' ∧ w2'.cell? ⟨w2.heap.size, 0, none⟩ = some vs2 ∧ w2'.frozen? ⟨w2.heap.size, 0, none⟩ = false ∧ w2'.cell? ⟨w2.heap.size, 1, none⟩ = some vb2 ∧ w2'.frozen? ⟨w2.heap.size, 1, none⟩ = false) (first | exact kp _ (Below.drew (Below.refl _ _)) | exact kp _ (Below.drew (bA (Below.refl _ _) _)) | exact kp _ hb5 | exact kp _ (bA hb5 _) | exact kp _ ((hb5.setCell (by simp) _).setCell (by simp) _) | exact kp _ (hb5.setCell (by simp) _)) (first | (go_at_call 25; first | ((with_reducible refine (q3 (fun _ : Nat => False) _ _ (wz.drew) (bT hX.below (Below.drew (Below.refl _ _))) (fun _ h => False.elim h) (hs2.below (Below.drew (Below.refl _ _))) (hb2.below (Below.drew (Below.refl _ _)))).mono ?_); rintro e' w5 ⟨x, rfl, ⟨y1, y2, rfl, hs3, hb3⟩, hbb⟩; have hb5 := bT (Below.drew (Below.refl _ _)) hbb; obtain ⟨A5, c5, rfl, _, _⟩ := hs3.now.form; obtain ⟨A6, c6, rfl, _, _⟩ := hb3.now.form) | ((with_reducible refine (q3 (fun b => b = wz.heap.size) _ _ ((wz.alloc (.cells ([.slice none 0 0, .slice none 0 0] : List Value).toArray 25)).drew) (bT hX.below (Below.drew (bA (Below.refl _ _) _))) (one_lt wz _ _) (hs2.weak (Below.drew (bA (Below.refl _ _) _)) (one_weak wz)) (hb2.weak (Below.drew (bA (Below.refl _ _) _)) (one_weak wz))).mono ?_); rintro e' w5 ⟨x, rfl, ⟨y1, y2, rfl, hs3, hb3⟩, hbb⟩; have hb5 := bT (Below.drew (bA (Below.refl _ _) _)) hbb; have hkb := ((Bag.nil wz).new 25 [.slice none 0 0, .slice none 0 0]).drew.step hbb; have hkk := hkb.all _ _ _ (.head _); obtain ⟨A5, c5, rfl, _, _⟩ := hs3.now.form; obtain ⟨A6, c6, rfl, _, _⟩ := hb3.now.form; have hc0 := hkk.cell (k := 0) rfl; have hc1 := hkk.cell (k := 1) rfl; have hf0 := hkk.frozen 0; have hf1 := hkk.frozen 1)))
      all_goals
        clear hg hsm hsl q1 q2 q3 kp
        first
          | (have hkb2 := hkb
             have hJ : Bag [(wz.heap.size, 25, [(.slice A5 Z.S.length c5), (.slice A6 Z.B.length c6)])] wz ((w5.setCell ⟨wz.heap.size, 0, none⟩ (.slice A5 Z.S.length c5)).setCell ⟨wz.heap.size, 1, none⟩ (.slice A6 Z.B.length c6)) := (hkb.set 0 (.slice A5 Z.S.length c5)).set 1 (.slice A6 Z.B.length c6)
             have hJ2 : Bag ((wz.heap.size, 25, [(.slice A5 Z.S.length c5), (.slice A6 Z.B.length c6)]) :: [(w2.heap.size, 25, [vs2, vb2]), (w1.heap.size, 25, [vs1, vb1]), (W0.heap.size, 25, [vs, vb])]) W0 ((w5.setCell ⟨wz.heap.size, 0, none⟩ (.slice A5 Z.S.length c5)).setCell ⟨wz.heap.size, 1, none⟩ (.slice A6 Z.B.length c6)) := hX.join hJ
             have hkz : ∀ k, k ≠ wz.heap.size → ((w5.setCell ⟨wz.heap.size, 0, none⟩ (.slice A5 Z.S.length c5)).setCell ⟨wz.heap.size, 1, none⟩ (.slice A6 Z.B.length c6)).heap[k]? = w5.heap[k]? := fun k hk => (heap_setCell_other _ _ k _ hk).trans (heap_setCell_other _ _ k _ hk)
             have hJ3 : StsX (fun _ : Nat => False) ((w5.setCell ⟨wz.heap.size, 0, none⟩ (.slice A5 Z.S.length c5)).setCell ⟨wz.heap.size, 1, none⟩ (.slice A6 Z.B.length c6)) (.slice A5 Z.S.length c5) Z.S := (hs3.over hkz rfl).less (fun _ h => False.elim h)
             have hJ4 : ItsX (fun _ : Nat => False) ((w5.setCell ⟨wz.heap.size, 0, none⟩ (.slice A5 Z.S.length c5)).setCell ⟨wz.heap.size, 1, none⟩ (.slice A6 Z.B.length c6)) (.slice A6 Z.B.length c6) Z.B := (hb3.over hkz rfl).less (fun _ h => False.elim h)
             have hJ5 : Below wz.heap.size wz ((w5.setCell ⟨wz.heap.size, 0, none⟩ (.slice A5 Z.S.length c5)).setCell ⟨wz.heap.size, 1, none⟩ (.slice A6 Z.B.length c6)) := hJ.below
             clear hX hs3 hb3 hkb hkb2 hkk hc0 hc1 hf0 hf1 hkz hJ hb5 hbb
             refine leaf (fun w => Bag ((wz.heap.size, 25, [.slice A5 Z.S.length c5, .slice A6 Z.B.length c6]) :: [(w2.heap.size, 25, [vs2, vb2]), (w1.heap.size, 25, [vs1, vb1]), (W0.heap.size, 25, [vs, vb])]) W0 w ∧ StsX (fun _ : Nat => False) w (.slice A5 Z.S.length c5) Z.S ∧ ItsX (fun _ : Nat => False) w (.slice A6 Z.B.length c6) Z.B ∧ Below wz.heap.size wz w) ⟨hJ2, hJ3, hJ4, hJ5⟩ ?_
             clear hJ2 hJ3 hJ4 hJ5
             intro w4 ⟨hXz, hs4, hb4, hb9⟩
             generalize wz.heap.size = B at hXz ⊢)
          | (have hJ2 : Bag ((w5.heap.size, 25, [(.slice A5 Z.S.length c5), (.slice A6 Z.B.length c6)]) :: [(w2.heap.size, 25, [vs2, vb2]), (w1.heap.size, 25, [vs1, vb1]), (W0.heap.size, 25, [vs, vb])]) W0 (w5.alloc (.cells ([(.slice A5 Z.S.length c5), (.slice A6 Z.B.length c6)] : List Value).toArray 25)) := (hX.step hb5).join ((Bag.nil w5).new 25 [(.slice A5 Z.S.length c5), (.slice A6 Z.B.length c6)])
             have hJ3 : StsX (fun _ : Nat => False) (w5.alloc (.cells ([(.slice A5 Z.S.length c5), (.slice A6 Z.B.length c6)] : List Value).toArray 25)) (.slice A5 Z.S.length c5) Z.S := hs3.below (bA (Below.refl _ _) _)
             have hJ4 : ItsX (fun _ : Nat => False) (w5.alloc (.cells ([(.slice A5 Z.S.length c5), (.slice A6 Z.B.length c6)] : List Value).toArray 25)) (.slice A6 Z.B.length c6) Z.B := hb3.below (bA (Below.refl _ _) _)
             have hJ5 : Below wz.heap.size wz (w5.alloc (.cells ([(.slice A5 Z.S.length c5), (.slice A6 Z.B.length c6)] : List Value).toArray 25)) := bA hb5 _
             clear hX hs3 hb3 hb5 hbb
             refine leaf (fun w => Bag ((w5.heap.size, 25, [.slice A5 Z.S.length c5, .slice A6 Z.B.length c6]) :: [(w2.heap.size, 25, [vs2, vb2]), (w1.heap.size, 25, [vs1, vb1]), (W0.heap.size, 25, [vs, vb])]) W0 w ∧ StsX (fun _ : Nat => False) w (.slice A5 Z.S.length c5) Z.S ∧ ItsX (fun _ : Nat => False) w (.slice A6 Z.B.length c6) Z.B ∧ Below wz.heap.size wz w) ⟨hJ2, hJ3, hJ4, hJ5⟩ ?_
             clear hJ2 hJ3 hJ4 hJ5
             intro w4 ⟨hXz, hs4, hb4, hb9⟩
             generalize w5.heap.size = B at hXz ⊢)
        have hX := hXz
        have hs3 := hs4
        have hb3 := hb4
        replace hs1 := hs1.below hb9
        replace hb1 := hb1.below hb9
        clear hXz hs4 hb4 hb9
        clear hs2 hb2
        go_wp2_with (first | ((with_reducible refine at_load ?_); refine wpList_bag_part (k := 0) hX aggD sizD _ rfl rfl rfl rfl (by first | exact .head _ | exact .tail _ (.head _) | exact .tail _ (.tail _ (.head _)) | exact .tail _ (.tail _ (.tail _ (.head _)))) (fun jz vz hz => (congrArg (fun n => ([_, _] : List Value)[n]?) (Nat.zero_add jz)).trans hz) rfl ?_) | (go_at_call 27; (with_reducible refine (d1 _ _ _ hX.below hs1.now hb1.now).mono ?_); rintro e' wd ⟨vl, rfl, hl, hbb⟩; (try replace hs1 := hs1.below hbb); (try replace hb1 := hb1.below hbb); (try replace hs3 := hs3.below hbb); (try replace hb3 := hb3.below hbb); replace hX := hX.step hbb; clear hbb))
        have hBw := Below.refl wd.heap.size wd
        obtain ⟨Al, cl, rfl, _, hcl⟩ := hl.now.form
        clear hl
        go_loopw [17, 18, 19] (fun iv fv jv wr => ∃ i : Nat, i ≤ l.length ∧ iv = .int .i64 i ∧ Bag [(B, 25, [.slice A5 Z.S.length c5, .slice A6 Z.B.length c6]), (w2.heap.size, 25, [vs2, vb2]), (w1.heap.size, 25, [vs1, vb1]), (W0.heap.size, 25, [vs, vb])] W0 wr ∧ Below wd.heap.size wd wr) (fun iv _ _ _ => l.length - (intOf iv).toNat)
        case atStart => exact ⟨0, Nat.zero_le _, rfl, hX, hBw⟩
        case round =>
          clear hX hBw
          obtain ⟨i, hi, rfl, hX, hBw⟩ := hrel
          by_cases hil : i < l.length
          · have hii : (i : Int) < (l.length : Int) := by omega
            have hz := List.getElem?_eq_getElem hil
            have hzm := List.getElem_mem hil
            generalize l[i] = d at *
            obtain ⟨al, rfl, hL⟩ := hcl i d hz
            have hfa := fnd_all (hmem d hzm)
            clear hz hzm hcl hmem
            go_wp2
            go_loopw [18, 19] (fun fv jv wr => ∃ j : Nat, j ≤ q.length ∧ jv = .int .i64 j ∧ fv = .bool (fnd q d j) ∧ Bag [(B, 25, [.slice A5 Z.S.length c5, .slice A6 Z.B.length c6]), (w2.heap.size, 25, [vs2, vb2]), (w1.heap.size, 25, [vs1, vb1]), (W0.heap.size, 25, [vs, vb])] W0 wr ∧ Below wd.heap.size wd wr) (fun _ jv _ => q.length - (intOf jv).toNat)
            case atStart => exact ⟨0, Nat.zero_le _, rfl, rfl, hX, hBw⟩
            case round =>
              clear hX hBw
              obtain ⟨j, hj, rfl, rfl, hX, hBw⟩ := hrel
              by_cases hjl : j < q.length
              · have hji : (j : Int) < (q.length : Int) := by omega
                have hx := List.getElem?_eq_getElem hjl
                generalize q[j] = x at *
                obtain ⟨aq, rfl, hQ⟩ := hcw j x hx
                have hst := hid (fnd_step (d := d) hx)
                obtain ⟨f, hf⟩ : ∃ f, fnd q d j = f := ⟨_, rfl⟩
                rw [hf] at hst ⊢
                replace hQ := fun w' h => (hQ w' h).1
                clear hf hfa hx hcw
                cases f
                · go_wp2
                  refine region_class (fun w' => Bag [(B, 25, [.slice A5 Z.S.length c5, .slice A6 Z.B.length c6]), (w2.heap.size, 25, [vs2, vb2]), (w1.heap.size, 25, [vs1, vb1]), (W0.heap.size, 25, [vs, vb])] W0 w' ∧ Below wd.heap.size wd w') (by kernel_rfl) (by kernel_rfl) ⟨hX.drew, hBw.drew⟩ ?_
                  repeat
                    first
                      | (refine BigFrame.wpQuiet_skip (by rfl) ?_
                         simp only [Act.put, List.setIfInBounds_toArray, List.set_cons_zero, List.set_cons_succ])
                      | (refine BigFrame.wpQuiet_want (by rfl) (fun K hK => ?_)
                         apply Exists.intro
                         refine ⟨fun wq hq => ?_, hK _ ?_⟩
                         · first
                             | (refine quiet_load 3 _ _ _ rfl rfl (hL _ hq.2))
                             | (refine quiet_load 3 _ _ _ rfl rfl (hQ _ hq.1.below))
                             | (unfold Oper.quietAt
                                go_simp
                                first
                                  | with_reducible rfl
                               )
                         clear hK K
                         simp only [Act.put, List.setIfInBounds_toArray, List.set_cons_zero, List.set_cons_succ])
                  refine wpQuiet_nil ?_
                  intro w5 ⟨hX, hBw⟩
                  go_wp2
                  exact ⟨⟨j + 1, by omega, by go_num, by rw [show fnd q d (j + 1) = _ from hst]; rfl, hX, hBw⟩, by simp only [intOf]; omega⟩
                · go_wp2
                  refine region_class (fun w' => Bag [(B, 25, [.slice A5 Z.S.length c5, .slice A6 Z.B.length c6]), (w2.heap.size, 25, [vs2, vb2]), (w1.heap.size, 25, [vs1, vb1]), (W0.heap.size, 25, [vs, vb])] W0 w' ∧ Below wd.heap.size wd w') (by kernel_rfl) (by kernel_rfl) ⟨hX.drew, hBw.drew⟩ ?_
                  repeat
                    first
                      | (refine BigFrame.wpQuiet_skip (by rfl) ?_
                         simp only [Act.put, List.setIfInBounds_toArray, List.set_cons_zero, List.set_cons_succ])
                      | (refine BigFrame.wpQuiet_want (by rfl) (fun K hK => ?_)
                         apply Exists.intro
                         refine ⟨fun wq hq => ?_, hK _ ?_⟩
                         · first
                             | (unfold Oper.quietAt
                                go_simp
                                first
                                  | with_reducible rfl
                               )
                         clear hK K
                         simp only [Act.put, List.setIfInBounds_toArray, List.set_cons_zero, List.set_cons_succ])
                  refine wpQuiet_nil ?_
                  intro w5 ⟨hX, hBw⟩
                  go_wp2
                  exact ⟨⟨j + 1, by omega, by go_num, by rw [show fnd q d (j + 1) = _ from hst]; rfl, hX, hBw⟩, by simp only [intOf]; omega⟩
              · obtain rfl : j = q.length := by omega
                have hji : ¬ (q.length : Int) < (q.length : Int) := by omega
                rw [hfa]
                clear hfa hcw
                go_wp2
                go_round
                case rel => exact ⟨i + 1, by omega, by go_num, hX, hBw⟩
                case measure => simp [intOf]; omega
          · obtain rfl : i = l.length := by omega
            have hii : ¬ (l.length : Int) < (l.length : Int) := by omega
            replace hs1 := hs1.below hBw
            replace hb1 := hb1.below hBw
            replace hs3 := hs3.below hBw
            replace hb3 := hb3.below hBw
            clear hcl hmem hcw
            go_wp2_with (first | ((with_reducible refine at_load ?_); refine wpList_bag_part (k := 0) hX aggD sizD _ rfl rfl rfl rfl (by first | exact .head _ | exact .tail _ (.head _) | exact .tail _ (.tail _ (.head _)) | exact .tail _ (.tail _ (.tail _ (.head _)))) (fun jz vz hz => (congrArg (fun n => ([_, _] : List Value)[n]?) (Nat.zero_add jz)).trans hz) rfl ?_) | (go_at_call 27; (with_reducible refine (d2 _ _ _ _ _ hX.below hs3.now hb3.now hs1.now hb1.now).mono ?_); rintro e' we ⟨ve, rfl, hl, hbb⟩; (try replace hs1 := hs1.below hbb); (try replace hb1 := hb1.below hbb); (try replace hs3 := hs3.below hbb); (try replace hb3 := hb3.below hbb); replace hX := hX.step hbb; obtain ⟨A5, c5, rfl, _, _⟩ := hl.now.form; clear hl hbb) | (go_at_call 15; (with_reducible refine (r1 _ _ _ hX.below hs1.now hb1.now).mono ?_); rintro e' wf ⟨rfl, hbb⟩; (try replace hs1 := hs1.below hbb); (try replace hb1 := hb1.below hbb); (try replace hs3 := hs3.below hbb); (try replace hb3 := hb3.below hbb); replace hX := hX.step hbb; clear hbb) | (go_at_call 13; (with_reducible refine (alive_true _ (H.step hX.below)).mono ?_); rintro e' w9 ⟨rfl, hbb⟩; replace hX := hX.step hbb; clear hbb))
            go_ret
            exact ⟨rfl, hX.below⟩
    · have hml : ¬ k ≤ (q.length : Int) := by omega
      go_enter Try.func9, Try.ntmps9
      go_wp2_with (first | ((with_reducible refine at_load ?_); refine wpList_bag_part (k := 0) hX aggD sizD _ rfl rfl rfl rfl (by first | exact .head _ | exact .tail _ (.head _) | exact .tail _ (.tail _ (.head _))) (fun jz vz hz => (congrArg (fun n => ([_, _] : List Value)[n]?) (Nat.zero_add jz)).trans hz) rfl ?_) | (go_at_call 17; first | ((with_reducible refine (hg _ hX.below).mono ?_); rintro e' w0 ⟨rfl, hbb⟩; replace hX := hX.step hbb; clear hbb)) | (go_at_call 24; first | ((with_reducible refine (hsm _ hX.below).mono ?_); rintro e' w0 ⟨rfl, hbb⟩; replace hX := hX.step hbb; clear hbb)) | (go_at_call 25; first | ((with_reducible refine (q1 _ hX.below).mono ?_); rintro e' w1 ⟨x, rfl, ⟨vs1, vb1, rfl, hs1, hb1⟩, hbb⟩; (try replace hs1 := hs1.below hbb); (try replace hb1 := hb1.below hbb); replace hX := hX.step hbb; clear hbb) | ((with_reducible refine (q2 _ hX.below).mono ?_); rintro e' w2 ⟨x, rfl, ⟨vs2, vb2, rfl, hs2, hb2⟩, hbb⟩; (try replace hs1 := hs1.below hbb); (try replace hb1 := hb1.below hbb); replace hX := hX.step hbb; clear hbb)) | ((with_reducible refine at_store ?_); refine wpList_bag_storeB (zs := [.slice none 0 0, .slice none 0 0]) hX aggD sizD _ _ rfl rfl rfl rfl rfl rfl rfl rfl (by first | exact two_one (sts_one hs2.now) (its_one hb2.now) | exact two_one (sts_one hs1.now) (its_one hb1.now)) ?_; clear hX; intro wz hX hbb; (try replace hs1 := hs1.below hbb); (try replace hb1 := hb1.below hbb); (try replace hs2 := hs2.below hbb); (try replace hb2 := hb2.below hbb); clear hbb))
      have kp : ∀ W, Below wz.heap.size wz W → (fun w2' => Below wz.heap.size wz w2' ∧ w2'.cell? ⟨w2.heap.size, 0, none⟩ = some vs2 ∧ w2'.frozen? ⟨w2.heap.size, 0, none⟩ = false ∧ w2'.cell? ⟨w2.heap.size, 1, none⟩ = some vb2 ∧ w2'.frozen? ⟨w2.heap.size, 1, none⟩ = false) W := fun W hW => by
        have hb := (Bag.step hX hW).all _ _ _ (.head _)
        exact ⟨hW, hb.cell (k := 0) rfl, hb.frozen 0, hb.cell (k := 1) rfl, hb.frozen 1⟩
      go_region_held (fun w2' => Below wz.heap.size wz w2' ∧ w2'.cell? ⟨w2.heap.size, 0, none⟩ = some vs2 ∧ w2'.frozen? ⟨w2.heap.size, 0, none⟩ = false ∧ w2'.cell? ⟨w2.heap.size, 1, none⟩ = some vb2 ∧ w2'.frozen? ⟨w2.heap.size, 1, none⟩ = false) (first | exact kp _ (Below.drew (Below.refl _ _)) | exact kp _ (Below.drew (bA (Below.refl _ _) _)) | exact kp _ hb5 | exact kp _ (bA hb5 _) | exact kp _ ((hb5.setCell (by simp) _).setCell (by simp) _) | exact kp _ (hb5.setCell (by simp) _)) (first | (go_at_call 25; first | ((with_reducible refine (q3 (fun _ : Nat => False) _ _ (wz.drew) (bT hX.below (Below.drew (Below.refl _ _))) (fun _ h => False.elim h) (hs2.below (Below.drew (Below.refl _ _))) (hb2.below (Below.drew (Below.refl _ _)))).mono ?_); rintro e' w5 ⟨x, rfl, ⟨y1, y2, rfl, hs3, hb3⟩, hbb⟩; have hb5 := bT (Below.drew (Below.refl _ _)) hbb; obtain ⟨A5, c5, rfl, _, _⟩ := hs3.now.form; obtain ⟨A6, c6, rfl, _, _⟩ := hb3.now.form) | ((with_reducible refine (q3 (fun b => b = wz.heap.size) _ _ ((wz.alloc (.cells ([.slice none 0 0, .slice none 0 0] : List Value).toArray 25)).drew) (bT hX.below (Below.drew (bA (Below.refl _ _) _))) (one_lt wz _ _) (hs2.weak (Below.drew (bA (Below.refl _ _) _)) (one_weak wz)) (hb2.weak (Below.drew (bA (Below.refl _ _) _)) (one_weak wz))).mono ?_); rintro e' w5 ⟨x, rfl, ⟨y1, y2, rfl, hs3, hb3⟩, hbb⟩; have hb5 := bT (Below.drew (bA (Below.refl _ _) _)) hbb; have hkb := ((Bag.nil wz).new 25 [.slice none 0 0, .slice none 0 0]).drew.step hbb; have hkk := hkb.all _ _ _ (.head _); obtain ⟨A5, c5, rfl, _, _⟩ := hs3.now.form; obtain ⟨A6, c6, rfl, _, _⟩ := hb3.now.form; have hc0 := hkk.cell (k := 0) rfl; have hc1 := hkk.cell (k := 1) rfl; have hf0 := hkk.frozen 0; have hf1 := hkk.frozen 1)))
      all_goals
        clear hg hsm hsl q1 q2 q3 kp
        first
          | (have hkb2 := hkb
             have hJ : Bag [(wz.heap.size, 25, [(.slice A5 Z.S.length c5), (.slice A6 Z.B.length c6)])] wz ((w5.setCell ⟨wz.heap.size, 0, none⟩ (.slice A5 Z.S.length c5)).setCell ⟨wz.heap.size, 1, none⟩ (.slice A6 Z.B.length c6)) := (hkb.set 0 (.slice A5 Z.S.length c5)).set 1 (.slice A6 Z.B.length c6)
             have hJ2 : Bag ((wz.heap.size, 25, [(.slice A5 Z.S.length c5), (.slice A6 Z.B.length c6)]) :: [(w2.heap.size, 25, [vs2, vb2]), (w1.heap.size, 25, [vs1, vb1]), (W0.heap.size, 25, [vs, vb])]) W0 ((w5.setCell ⟨wz.heap.size, 0, none⟩ (.slice A5 Z.S.length c5)).setCell ⟨wz.heap.size, 1, none⟩ (.slice A6 Z.B.length c6)) := hX.join hJ
             have hkz : ∀ k, k ≠ wz.heap.size → ((w5.setCell ⟨wz.heap.size, 0, none⟩ (.slice A5 Z.S.length c5)).setCell ⟨wz.heap.size, 1, none⟩ (.slice A6 Z.B.length c6)).heap[k]? = w5.heap[k]? := fun k hk => (heap_setCell_other _ _ k _ hk).trans (heap_setCell_other _ _ k _ hk)
             have hJ3 : StsX (fun _ : Nat => False) ((w5.setCell ⟨wz.heap.size, 0, none⟩ (.slice A5 Z.S.length c5)).setCell ⟨wz.heap.size, 1, none⟩ (.slice A6 Z.B.length c6)) (.slice A5 Z.S.length c5) Z.S := (hs3.over hkz rfl).less (fun _ h => False.elim h)
             have hJ4 : ItsX (fun _ : Nat => False) ((w5.setCell ⟨wz.heap.size, 0, none⟩ (.slice A5 Z.S.length c5)).setCell ⟨wz.heap.size, 1, none⟩ (.slice A6 Z.B.length c6)) (.slice A6 Z.B.length c6) Z.B := (hb3.over hkz rfl).less (fun _ h => False.elim h)
             have hJ5 : Below wz.heap.size wz ((w5.setCell ⟨wz.heap.size, 0, none⟩ (.slice A5 Z.S.length c5)).setCell ⟨wz.heap.size, 1, none⟩ (.slice A6 Z.B.length c6)) := hJ.below
             clear hX hs3 hb3 hkb hkb2 hkk hc0 hc1 hf0 hf1 hkz hJ hb5 hbb
             refine leaf (fun w => Bag ((wz.heap.size, 25, [.slice A5 Z.S.length c5, .slice A6 Z.B.length c6]) :: [(w2.heap.size, 25, [vs2, vb2]), (w1.heap.size, 25, [vs1, vb1]), (W0.heap.size, 25, [vs, vb])]) W0 w ∧ StsX (fun _ : Nat => False) w (.slice A5 Z.S.length c5) Z.S ∧ ItsX (fun _ : Nat => False) w (.slice A6 Z.B.length c6) Z.B ∧ Below wz.heap.size wz w) ⟨hJ2, hJ3, hJ4, hJ5⟩ ?_
             clear hJ2 hJ3 hJ4 hJ5
             intro w4 ⟨hXz, hs4, hb4, hb9⟩
             generalize wz.heap.size = B at hXz ⊢)
          | (have hJ2 : Bag ((w5.heap.size, 25, [(.slice A5 Z.S.length c5), (.slice A6 Z.B.length c6)]) :: [(w2.heap.size, 25, [vs2, vb2]), (w1.heap.size, 25, [vs1, vb1]), (W0.heap.size, 25, [vs, vb])]) W0 (w5.alloc (.cells ([(.slice A5 Z.S.length c5), (.slice A6 Z.B.length c6)] : List Value).toArray 25)) := (hX.step hb5).join ((Bag.nil w5).new 25 [(.slice A5 Z.S.length c5), (.slice A6 Z.B.length c6)])
             have hJ3 : StsX (fun _ : Nat => False) (w5.alloc (.cells ([(.slice A5 Z.S.length c5), (.slice A6 Z.B.length c6)] : List Value).toArray 25)) (.slice A5 Z.S.length c5) Z.S := hs3.below (bA (Below.refl _ _) _)
             have hJ4 : ItsX (fun _ : Nat => False) (w5.alloc (.cells ([(.slice A5 Z.S.length c5), (.slice A6 Z.B.length c6)] : List Value).toArray 25)) (.slice A6 Z.B.length c6) Z.B := hb3.below (bA (Below.refl _ _) _)
             have hJ5 : Below wz.heap.size wz (w5.alloc (.cells ([(.slice A5 Z.S.length c5), (.slice A6 Z.B.length c6)] : List Value).toArray 25)) := bA hb5 _
             clear hX hs3 hb3 hb5 hbb
             refine leaf (fun w => Bag ((w5.heap.size, 25, [.slice A5 Z.S.length c5, .slice A6 Z.B.length c6]) :: [(w2.heap.size, 25, [vs2, vb2]), (w1.heap.size, 25, [vs1, vb1]), (W0.heap.size, 25, [vs, vb])]) W0 w ∧ StsX (fun _ : Nat => False) w (.slice A5 Z.S.length c5) Z.S ∧ ItsX (fun _ : Nat => False) w (.slice A6 Z.B.length c6) Z.B ∧ Below wz.heap.size wz w) ⟨hJ2, hJ3, hJ4, hJ5⟩ ?_
             clear hJ2 hJ3 hJ4 hJ5
             intro w4 ⟨hXz, hs4, hb4, hb9⟩
             generalize w5.heap.size = B at hXz ⊢)
        have hX := hXz
        have hs3 := hs4
        have hb3 := hb4
        replace hs1 := hs1.below hb9
        replace hb1 := hb1.below hb9
        clear hXz hs4 hb4 hb9
        clear hs2 hb2
        go_wp2_with (first | ((with_reducible refine at_load ?_); refine wpList_bag_part (k := 0) hX aggD sizD _ rfl rfl rfl rfl (by first | exact .head _ | exact .tail _ (.head _) | exact .tail _ (.tail _ (.head _)) | exact .tail _ (.tail _ (.tail _ (.head _)))) (fun jz vz hz => (congrArg (fun n => ([_, _] : List Value)[n]?) (Nat.zero_add jz)).trans hz) rfl ?_) | (go_at_call 27; (with_reducible refine (d1 _ _ _ hX.below hs1.now hb1.now).mono ?_); rintro e' wd ⟨vl, rfl, hl, hbb⟩; (try replace hs1 := hs1.below hbb); (try replace hb1 := hb1.below hbb); (try replace hs3 := hs3.below hbb); (try replace hb3 := hb3.below hbb); replace hX := hX.step hbb; clear hbb))
        have hBw := Below.refl wd.heap.size wd
        obtain ⟨Al, cl, rfl, _, hcl⟩ := hl.now.form
        clear hl
        go_loopw [17, 18, 19] (fun iv fv jv wr => ∃ i : Nat, i ≤ l.length ∧ iv = .int .i64 i ∧ Bag [(B, 25, [.slice A5 Z.S.length c5, .slice A6 Z.B.length c6]), (w2.heap.size, 25, [vs2, vb2]), (w1.heap.size, 25, [vs1, vb1]), (W0.heap.size, 25, [vs, vb])] W0 wr ∧ Below wd.heap.size wd wr) (fun iv _ _ _ => l.length - (intOf iv).toNat)
        case atStart => exact ⟨0, Nat.zero_le _, rfl, hX, hBw⟩
        case round =>
          clear hX hBw
          obtain ⟨i, hi, rfl, hX, hBw⟩ := hrel
          by_cases hil : i < l.length
          · have hii : (i : Int) < (l.length : Int) := by omega
            have hz := List.getElem?_eq_getElem hil
            have hzm := List.getElem_mem hil
            generalize l[i] = d at *
            obtain ⟨al, rfl, hL⟩ := hcl i d hz
            have hfa := fnd_all (hmem d hzm)
            clear hz hzm hcl hmem
            go_wp2
            go_loopw [18, 19] (fun fv jv wr => ∃ j : Nat, j ≤ q.length ∧ jv = .int .i64 j ∧ fv = .bool (fnd q d j) ∧ Bag [(B, 25, [.slice A5 Z.S.length c5, .slice A6 Z.B.length c6]), (w2.heap.size, 25, [vs2, vb2]), (w1.heap.size, 25, [vs1, vb1]), (W0.heap.size, 25, [vs, vb])] W0 wr ∧ Below wd.heap.size wd wr) (fun _ jv _ => q.length - (intOf jv).toNat)
            case atStart => exact ⟨0, Nat.zero_le _, rfl, rfl, hX, hBw⟩
            case round =>
              clear hX hBw
              obtain ⟨j, hj, rfl, rfl, hX, hBw⟩ := hrel
              by_cases hjl : j < q.length
              · have hji : (j : Int) < (q.length : Int) := by omega
                have hx := List.getElem?_eq_getElem hjl
                generalize q[j] = x at *
                obtain ⟨aq, rfl, hQ⟩ := hcw j x hx
                have hst := hid (fnd_step (d := d) hx)
                obtain ⟨f, hf⟩ : ∃ f, fnd q d j = f := ⟨_, rfl⟩
                rw [hf] at hst ⊢
                replace hQ := fun w' h => (hQ w' h).1
                clear hf hfa hx hcw
                cases f
                · go_wp2
                  refine region_class (fun w' => Bag [(B, 25, [.slice A5 Z.S.length c5, .slice A6 Z.B.length c6]), (w2.heap.size, 25, [vs2, vb2]), (w1.heap.size, 25, [vs1, vb1]), (W0.heap.size, 25, [vs, vb])] W0 w' ∧ Below wd.heap.size wd w') (by kernel_rfl) (by kernel_rfl) ⟨hX.drew, hBw.drew⟩ ?_
                  repeat
                    first
                      | (refine BigFrame.wpQuiet_skip (by rfl) ?_
                         simp only [Act.put, List.setIfInBounds_toArray, List.set_cons_zero, List.set_cons_succ])
                      | (refine BigFrame.wpQuiet_want (by rfl) (fun K hK => ?_)
                         apply Exists.intro
                         refine ⟨fun wq hq => ?_, hK _ ?_⟩
                         · first
                             | (refine quiet_load 3 _ _ _ rfl rfl (hL _ hq.2))
                             | (refine quiet_load 3 _ _ _ rfl rfl (hQ _ hq.1.below))
                             | (unfold Oper.quietAt
                                go_simp
                                first
                                  | with_reducible rfl
                               )
                         clear hK K
                         simp only [Act.put, List.setIfInBounds_toArray, List.set_cons_zero, List.set_cons_succ])
                  refine wpQuiet_nil ?_
                  intro w5 ⟨hX, hBw⟩
                  go_wp2
                  exact ⟨⟨j + 1, by omega, by go_num, by rw [show fnd q d (j + 1) = _ from hst]; rfl, hX, hBw⟩, by simp only [intOf]; omega⟩
                · go_wp2
                  refine region_class (fun w' => Bag [(B, 25, [.slice A5 Z.S.length c5, .slice A6 Z.B.length c6]), (w2.heap.size, 25, [vs2, vb2]), (w1.heap.size, 25, [vs1, vb1]), (W0.heap.size, 25, [vs, vb])] W0 w' ∧ Below wd.heap.size wd w') (by kernel_rfl) (by kernel_rfl) ⟨hX.drew, hBw.drew⟩ ?_
                  repeat
                    first
                      | (refine BigFrame.wpQuiet_skip (by rfl) ?_
                         simp only [Act.put, List.setIfInBounds_toArray, List.set_cons_zero, List.set_cons_succ])
                      | (refine BigFrame.wpQuiet_want (by rfl) (fun K hK => ?_)
                         apply Exists.intro
                         refine ⟨fun wq hq => ?_, hK _ ?_⟩
                         · first
                             | (unfold Oper.quietAt
                                go_simp
                                first
                                  | with_reducible rfl
                               )
                         clear hK K
                         simp only [Act.put, List.setIfInBounds_toArray, List.set_cons_zero, List.set_cons_succ])
                  refine wpQuiet_nil ?_
                  intro w5 ⟨hX, hBw⟩
                  go_wp2
                  exact ⟨⟨j + 1, by omega, by go_num, by rw [show fnd q d (j + 1) = _ from hst]; rfl, hX, hBw⟩, by simp only [intOf]; omega⟩
              · obtain rfl : j = q.length := by omega
                have hji : ¬ (q.length : Int) < (q.length : Int) := by omega
                rw [hfa]
                clear hfa hcw
                go_wp2
                go_round
                case rel => exact ⟨i + 1, by omega, by go_num, hX, hBw⟩
                case measure => simp [intOf]; omega
          · obtain rfl : i = l.length := by omega
            have hii : ¬ (l.length : Int) < (l.length : Int) := by omega
            replace hs1 := hs1.below hBw
            replace hb1 := hb1.below hBw
            replace hs3 := hs3.below hBw
            replace hb3 := hb3.below hBw
            clear hcl hmem hcw
            go_wp2_with (first | ((with_reducible refine at_load ?_); refine wpList_bag_part (k := 0) hX aggD sizD _ rfl rfl rfl rfl (by first | exact .head _ | exact .tail _ (.head _) | exact .tail _ (.tail _ (.head _)) | exact .tail _ (.tail _ (.tail _ (.head _)))) (fun jz vz hz => (congrArg (fun n => ([_, _] : List Value)[n]?) (Nat.zero_add jz)).trans hz) rfl ?_) | (go_at_call 27; (with_reducible refine (d2 _ _ _ _ _ hX.below hs3.now hb3.now hs1.now hb1.now).mono ?_); rintro e' we ⟨ve, rfl, hl, hbb⟩; (try replace hs1 := hs1.below hbb); (try replace hb1 := hb1.below hbb); (try replace hs3 := hs3.below hbb); (try replace hb3 := hb3.below hbb); replace hX := hX.step hbb; obtain ⟨A5, c5, rfl, _, _⟩ := hl.now.form; clear hl hbb) | (go_at_call 15; (with_reducible refine (r1 _ _ _ hX.below hs1.now hb1.now).mono ?_); rintro e' wf ⟨rfl, hbb⟩; (try replace hs1 := hs1.below hbb); (try replace hb1 := hb1.below hbb); (try replace hs3 := hs3.below hbb); (try replace hb3 := hb3.below hbb); replace hX := hX.step hbb; clear hbb) | (go_at_call 13; (with_reducible refine (alive_true _ (H.step hX.below)).mono ?_); rintro e' w9 ⟨rfl, hbb⟩; replace hX := hX.step hbb; clear hbb))
            go_ret
            exact ⟨rfl, hX.below⟩
  · have hn := ap_err_len q D 0 he
    rw [Nat.zero_add] at hn
    have hn1 : ((D.ap q 0 (-1)).2.1 : Int) < (q.length : Int) := by omega
    generalize D.ap q 0 (-1) = RR at *
    obtain ⟨Z, n, er⟩ := RR
    dsimp only at q1 he hn hn1
    have he1 : (er != 0) = true := by simpa using he
    obtain ⟨Aq, cq, rfl, _⟩ := hv.form
    clear hD hr hs hb hsX hbX k1 k2 hq
    go_enter Try.func9, Try.ntmps9
    go_wp2_with (first | ((with_reducible refine at_load ?_); refine wpList_bag_part (k := 0) hX aggD sizD _ rfl rfl rfl rfl (by first | exact .head _ | exact .tail _ (.head _) | exact .tail _ (.tail _ (.head _))) (fun jz vz hz => (congrArg (fun n => ([_, _] : List Value)[n]?) (Nat.zero_add jz)).trans hz) rfl ?_) | (go_at_call 17; first | ((with_reducible refine (hg _ hX.below).mono ?_); rintro e' w0 ⟨rfl, hbb⟩; replace hX := hX.step hbb; clear hbb)) | (go_at_call 24; first | ((with_reducible refine (hsm _ hX.below).mono ?_); rintro e' w0 ⟨rfl, hbb⟩; replace hX := hX.step hbb; clear hbb)) | (go_at_call 25; first | ((with_reducible refine (q1 _ hX.below).mono ?_); rintro e' w1 ⟨x, rfl, ⟨vs1, vb1, rfl, hs1, hb1⟩, hbb⟩; replace hX := hX.step hbb; clear hbb)) | ((with_reducible refine at_store ?_); refine wpList_bag_storeB (zs := [.slice none 0 0, .slice none 0 0]) hX aggD sizD _ _ rfl rfl rfl rfl rfl rfl rfl rfl (by first | exact two_one (sts_one hs1.now) (its_one hb1.now)) ?_; clear hX; intro wz hX hbb; (try replace hs1 := hs1.below hbb); (try replace hb1 := hb1.below hbb); clear hbb) | (go_at_call 13; (with_reducible refine (alive_true _ (H.step hX.below)).mono ?_); rintro e' w9 ⟨rfl, hbb⟩; replace hX := hX.step hbb; clear hbb))
    go_ret
    exact ⟨rfl, hX.below⟩
end Go.Proofs.Ytohfniejflibmaa
