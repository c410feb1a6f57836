/-
  Spoil of the reference. Condition: at most 2^40 sectors, the bad ones ascend.
-/
import Derived.Test.YtohfniejflibmaaDvF
namespace Go.Proofs.Ytohfniejflibmaa
open Go.RowKit
set_option linter.unusedSimpArgs false
set_option linter.unusedVariables false
set_option maxHeartbeats 4000000
set_option maxRecDepth 100000
attribute [local irreducible] wpQuiet

theorem insB_split (s : Int) : ∀ (P Q : List Int), (∀ b ∈ P, b < s) → (∀ b ∈ Q, s < b) → insB s (P ++ Q) = P ++ s :: Q
  | [], [], _, _ => rfl
  | [], b :: r, _, h => by
    have := h b List.mem_cons_self
    show (if b < s then _ else _) = _
    rw [if_neg (by omega)]; rfl
  | p :: P, Q, hp, hq => by
    have := hp p List.mem_cons_self
    show (if p < s then p :: insB s (P ++ Q) else _) = _
    rw [if_pos this, insB_split s P Q (fun b hb => hp b (List.mem_cons_of_mem _ hb)) hq]; rfl
theorem insB_at {s : Int} {B : List Int} {k : Nat} (hs : B.Pairwise (· < ·)) (hk : k ≤ B.length) (h1 : ∀ j b, k ≤ j → B[j]? = some b → s < b) (h2 : ∀ b, k ≠ 0 → B[k - 1]? = some b → b < s) : insB s B = B.take k ++ [s] ++ B.drop k := by
  have e : B = B.take k ++ B.drop k := (List.take_append_drop k B).symm
  conv => lhs; rw [e]
  rw [insB_split s (B.take k) (B.drop k)]
  · simp
  · intro b hb
    obtain ⟨j, hj⟩ := List.mem_iff_getElem?.1 hb
    rw [List.getElem?_take] at hj
    have hjk : j < k := by
      rcases Nat.lt_or_ge j k with h | h
      · exact h
      · rw [if_neg (by omega)] at hj; cases hj
    rw [if_pos hjk] at hj
    have hl : k - 1 < B.length := by omega
    have hb1 := h2 B[k - 1] (by omega) (List.getElem?_eq_getElem hl)
    rcases (by omega : j = k - 1 ∨ j < k - 1) with rfl | hlt
    · rw [List.getElem?_eq_getElem hl] at hj; cases hj; exact hb1
    · have hjl : j < B.length := by omega
      rw [List.getElem?_eq_getElem hjl] at hj
      cases hj
      have := (List.pairwise_iff_getElem.1 hs) j (k - 1) hjl hl hlt
      omega
  · intro b hb
    obtain ⟨j, hj⟩ := List.mem_iff_getElem?.1 hb
    rw [List.getElem?_drop] at hj
    exact h1 (k + j) b (by omega) hj
theorem rspoil_any (D : Drv) (k : Int) (hl : D.B.length ≤ 1099511627776) (hl2 : D.S.length ≤ 1099511627776) (hasc : D.B.Pairwise (· < ·)) (vs vb : Value) (w : World) (X : Nat → Prop) (hXl : ∀ b, X b → b < w.heap.size) (hsX : StsX X w vs D.S) (hbX : ItsX X w vb D.B) : Calls Try.prog 23 #[.agg #[vs, vb], .int .i64 k] w fun e w' => ∃ x, e = .returned (.tuple #[x, .int .i64 (D.sp k).2]) ∧ DvX X w' x (D.sp k).1 ∧ Below w.heap.size w w' := by
  have hs := hsX.now
  have hb := hbX.now
  obtain ⟨A1, c1, rfl, _, _⟩ := hs.form
  have hbf := Rz.form hb
  obtain ⟨A2, c2, rfl, hc2, hc⟩ := hb.form
  have hib := fun w' (h : Below w.heap.size w w') => risbad_any D k hl (.slice A1 D.S.length c1) (.slice A2 D.B.length c2) w' (hs.below h) (hb.below h)
  have hX := two_dv w [.slice A1 D.S.length c1, .slice A2 D.B.length c2] [.slice none 0 0, .slice none 0 0]
  unfold Drv.sp
  obtain ⟨S, B⟩ := D
  dsimp only at hib hc hX hl hl2 hs hb hasc hc2 hbf hsX hbX ⊢
  by_cases h0 : k < 0
  · have d0 : decide (k < 0) = true := decide_eq_true h0
    rw [if_neg (by omega)]
    clear hs hb hc
    go_enter Try.func23, Try.ntmps23
    go_wp2_with (first | ((with_reducible refine at_load ?_); refine wpList_bag_cell hX slS_cell _ rfl rfl rfl rfl (by first | exact .head _ | exact .tail _ (.head _)) rfl ?_) | ((with_reducible refine at_load ?_); refine wpList_bag_cell hX slI_cell _ rfl rfl rfl rfl (by first | exact .head _ | exact .tail _ (.head _)) rfl ?_) | ((with_reducible refine at_load ?_); refine wpList_bag_part (k := 0) hX aggD sizD _ rfl rfl rfl rfl (by first | exact .head _ | exact .tail _ (.head _)) (fun jz vz hz => (congrArg (fun n => ([_, _] : List Value)[n]?) (Nat.zero_add jz)).trans hz) rfl ?_) | (go_at_call 35; (with_reducible refine (hib _ hX.below).mono ?_); rintro e wI ⟨rfl, hbb⟩; replace hX := hX.step hbb; clear hbb) | ((with_reducible refine at_store ?_); refine wpList_bag_overV hX aggD sizD _ _ rfl rfl rfl rfl rfl rfl rfl rfl (by intro u hu; simp at hu; rcases hu with rfl | rfl <;> rfl) ?_; clear hX; intro wz hX hkz; clear hkz) | ((with_reducible refine at_store ?_); refine wpList_bag_overV hX.swap aggD sizD _ _ rfl rfl rfl rfl rfl rfl rfl rfl (by intro u hu; simp at hu; rcases hu with rfl | rfl <;> rfl) ?_; clear hX; intro wz hX hkz; clear hkz))
    first | exact bodyPost_ret (results_ct Try.results23 rfl ((hX.all _ _ _ (.head _)).loadVar rfl aggD sizD)) rfl ⟨_, rfl, DvX.z X _, hX.below⟩ | exact bodyPost_ret (results_ct Try.results23 rfl ((hX.all _ _ _ (.tail _ (.head _))).loadVar rfl aggD sizD)) rfl ⟨_, rfl, DvX.z X _, hX.below⟩
  have d0 : decide (k < 0) = false := decide_eq_false h0
  by_cases h1 : (S.length : Int) ≤ k
  · have d1 : decide ((S.length : Int) ≤ k) = true := decide_eq_true h1
    rw [if_neg (by omega)]
    clear hs hb hc
    go_enter Try.func23, Try.ntmps23
    go_wp2_with (first | ((with_reducible refine at_load ?_); refine wpList_bag_cell hX slS_cell _ rfl rfl rfl rfl (by first | exact .head _ | exact .tail _ (.head _)) rfl ?_) | ((with_reducible refine at_load ?_); refine wpList_bag_cell hX slI_cell _ rfl rfl rfl rfl (by first | exact .head _ | exact .tail _ (.head _)) rfl ?_) | ((with_reducible refine at_load ?_); refine wpList_bag_part (k := 0) hX aggD sizD _ rfl rfl rfl rfl (by first | exact .head _ | exact .tail _ (.head _)) (fun jz vz hz => (congrArg (fun n => ([_, _] : List Value)[n]?) (Nat.zero_add jz)).trans hz) rfl ?_) | (go_at_call 35; (with_reducible refine (hib _ hX.below).mono ?_); rintro e wI ⟨rfl, hbb⟩; replace hX := hX.step hbb; clear hbb) | ((with_reducible refine at_store ?_); refine wpList_bag_overV hX aggD sizD _ _ rfl rfl rfl rfl rfl rfl rfl rfl (by intro u hu; simp at hu; rcases hu with rfl | rfl <;> rfl) ?_; clear hX; intro wz hX hkz; clear hkz) | ((with_reducible refine at_store ?_); refine wpList_bag_overV hX.swap aggD sizD _ _ rfl rfl rfl rfl rfl rfl rfl rfl (by intro u hu; simp at hu; rcases hu with rfl | rfl <;> rfl) ?_; clear hX; intro wz hX hkz; clear hkz))
    first | exact bodyPost_ret (results_ct Try.results23 rfl ((hX.all _ _ _ (.head _)).loadVar rfl aggD sizD)) rfl ⟨_, rfl, DvX.z X _, hX.below⟩ | exact bodyPost_ret (results_ct Try.results23 rfl ((hX.all _ _ _ (.tail _ (.head _))).loadVar rfl aggD sizD)) rfl ⟨_, rfl, DvX.z X _, hX.below⟩
  have d1 : decide ((S.length : Int) ≤ k) = false := decide_eq_false h1
  rw [if_pos (by omega)]
  cases hbd : B.contains k
  · rw [hbd] at hib
    simp only [Bool.false_eq_true, if_false]
    have hnm : ∀ j : Nat, B[j]? ≠ some k := fun j hj => by
      have : B.contains k = true := List.contains_iff_mem.2 (List.mem_of_getElem? hj)
      rw [hbd] at this; cases this
    clear hbd h0 h1
    rcases hbf with ⟨e1, e2, e3⟩ | ⟨a2, c2', e1, e2⟩
    · obtain rfl : B = [] := List.map_eq_nil_iff.1 e3
      simp only [List.length_nil] at e1 hX hib hb
      cases e1
      have hfin : Hid ([] ++ [.int .i64 k] = (insB k []).map (Value.int .i64)) := rfl
      have hln : Hid ((insB k []).length = 0 + 1) := rfl
      clear hc hnm hasc e2 e3 hc2
      go_enter Try.func23, Try.ntmps23
      go_wp2_with (first | ((with_reducible refine at_load ?_); refine wpList_bag_cell hX slS_cell _ rfl rfl rfl rfl (by first | exact .head _ | exact .tail _ (.head _)) rfl ?_) | ((with_reducible refine at_load ?_); refine wpList_bag_cell hX slI_cell _ rfl rfl rfl rfl (by first | exact .head _ | exact .tail _ (.head _)) rfl ?_) | ((with_reducible refine at_load ?_); refine wpList_bag_part (k := 0) hX aggD sizD _ rfl rfl rfl rfl (by first | exact .head _ | exact .tail _ (.head _)) (fun jz vz hz => (congrArg (fun n => ([_, _] : List Value)[n]?) (Nat.zero_add jz)).trans hz) rfl ?_) | (go_at_call 35; (with_reducible refine (hib _ hX.below).mono ?_); rintro e wI ⟨rfl, hbb⟩; replace hX := hX.step hbb; clear hbb))
      go_loopw [6] (fun iv wr => iv = .int .i64 0 ∧ Bag [(w.heap.size + 1, 25, [.slice none 0 0, .slice none 0 0]), (w.heap.size, 25, [.slice A1 S.length c1, .slice none 0 0])] w wr) (fun iv _ => 0)
      case atStart => exact ⟨rfl, hX⟩
      case round =>
        clear hX
        obtain ⟨rfl, hX⟩ := hrel
        have hsz0 : w.heap.size + 2 ≤ wr.heap.size := (hX.all _ _ _ (.head _)).lt
        have hle0 : wr.heap.size ≤ wr.heap.size := Nat.le_refl _
        go_wp2_with (first | ((with_reducible refine at_load ?_); refine wpList_bag_cell hX slS_cell _ rfl rfl rfl rfl (by first | exact .head _ | exact .tail _ (.head _)) rfl ?_) | ((with_reducible refine at_load ?_); refine wpList_bag_cell hX slI_cell _ rfl rfl rfl rfl (by first | exact .head _ | exact .tail _ (.head _)) rfl ?_) | ((with_reducible refine at_load ?_); refine wpList_bag_part (k := 0) hX aggD sizD _ rfl rfl rfl rfl (by first | exact .head _ | exact .tail _ (.head _)) (fun jz vz hz => (congrArg (fun n => ([_, _] : List Value)[n]?) (Nat.zero_add jz)).trans hz) rfl ?_) | (at_builtin; refine wpList_appI0 rfl (.tmp 39) (.tmp 43) rfl wr.heap.size _ 0 [] rfl (World.ownsRow_nil _ _ _ _) rfl ?_; have hown : wr.ownsRow wr.heap.size 3 1 (.slice none 0 0) 0 [] := World.ownsRow_nil _ _ _ _) | (at_builtin; refine wpList_appI rfl (.tmp 45) (.tmp 47) rfl wr.heap.size _ _ _ rfl (World.ownsRow.alloc hown _) ⟨wr.heap.size, 0, none⟩ 1 1 [.int .i64 k] rfl rfl cell_one (fun x hx => by simp at hx; subst hx; rfl) (by omega) (by simp <;> omega) ?_; intro v2 w2 ho2 hb1 _; have hle2 := hb1.size; simp only [World.alloc, Array.size_push] at hle2; replace hX := ((Bag.step hX ((Below.refl _ _).alloc (Nat.le_refl _) (.cells #[.int .i64 k] 3)))).stepN hb1 (fun b hb => by simp at hb; rcases hb with rfl | rfl <;> simp <;> omega) (by omega); replace hown := ho2; clear ho2 hb1) | (at_builtin; refine wpList_appI0 rfl (.tmp 49) (.tmp 53) rfl wr.heap.size _ _ _ rfl hown rfl ?_; have hr2 := Rw.of_own hown; obtain ⟨A3, c3, rfl, _, _⟩ := hr2) | ((with_reducible refine at_store ?_); refine wpList_bag_putV (z := .slice A3 _ c3) hX.swap siz_I _ _ rfl rfl rfl rfl rfl rfl (by simp) rfl rfl ?_; intro w4 hX3 hk3 _; replace hX := hX3; replace hown := own_other hown (fun k hk => hk3 k (by omega)); clear hk3 hX3; simp only [List.set_cons_zero, List.set_cons_succ] at hX) | ((with_reducible refine at_store ?_); refine wpList_bag_overV hX.swap aggD sizD _ _ rfl rfl rfl rfl rfl rfl rfl rfl (by intro u hu; simp at hu; rcases hu with rfl | rfl <;> rfl) ?_; clear hX; intro wz hX hkz; replace hown := own_other hown (fun k hk => hkz k (by omega)); clear hkz) | ((with_reducible refine at_store ?_); refine wpList_bag_overV hX aggD sizD _ _ rfl rfl rfl rfl rfl rfl rfl rfl (by intro u hu; simp at hu; rcases hu with rfl | rfl <;> rfl) ?_; clear hX; intro wz hX hkz; replace hown := own_other hown (fun k hk => hkz k (by omega)); clear hkz))
        have hI := itsX_of (fun b hb => by have := hXl b hb; omega) hfin hln hown
        first | exact bodyPost_ret (results_ct Try.results23 rfl ((hX.all _ _ _ (.head _)).loadVar rfl aggD sizD)) rfl ⟨_, rfl, ⟨_, _, rfl, hsX.below hX.below, hI⟩, hX.below⟩ | exact bodyPost_ret (results_ct Try.results23 rfl ((hX.all _ _ _ (.tail _ (.head _))).loadVar rfl aggD sizD)) rfl ⟨_, rfl, ⟨_, _, rfl, hsX.below hX.below, hI⟩, hX.below⟩
    · cases e1
      go_enter Try.func23, Try.ntmps23
      go_wp2_with (first | ((with_reducible refine at_load ?_); refine wpList_bag_cell hX slS_cell _ rfl rfl rfl rfl (by first | exact .head _ | exact .tail _ (.head _)) rfl ?_) | ((with_reducible refine at_load ?_); refine wpList_bag_cell hX slI_cell _ rfl rfl rfl rfl (by first | exact .head _ | exact .tail _ (.head _)) rfl ?_) | ((with_reducible refine at_load ?_); refine wpList_bag_part (k := 0) hX aggD sizD _ rfl rfl rfl rfl (by first | exact .head _ | exact .tail _ (.head _)) (fun jz vz hz => (congrArg (fun n => ([_, _] : List Value)[n]?) (Nat.zero_add jz)).trans hz) rfl ?_) | (go_at_call 35; (with_reducible refine (hib _ hX.below).mono ?_); rintro e wI ⟨rfl, hbb⟩; replace hX := hX.step hbb; clear hbb))
      go_loopw [6] (fun iv wr => ∃ kk : Nat, kk ≤ B.length ∧ iv = .int .i64 kk ∧ Hid (∀ j b, kk ≤ j → B[j]? = some b → k < b) ∧ Bag [(w.heap.size + 1, 25, [.slice none 0 0, .slice none 0 0]), (w.heap.size, 25, [.slice A1 S.length c1, .slice (some a2) B.length c2])] w wr) (fun iv _ => match iv with | .int _ q => q.toNat | _ => 0)
      case atStart => exact ⟨B.length, Nat.le_refl _, rfl, (fun j b hj hb => by rw [List.getElem?_eq_none hj] at hb; cases hb), hX⟩
      case round =>
        clear hX
        obtain ⟨kk, hkk, rfl, hN, hX⟩ := hrel
        have hsz0 : w.heap.size + 2 ≤ wr.heap.size := (hX.all _ _ _ (.head _)).lt
        have hkI : (kk : Int) ≤ (B.length : Int) := by omega
        have hkC : (kk : Int) ≤ (c2 : Int) := by omega
        by_cases hz : kk = 0
        · have hfin0 := insB_at (s := k) hasc hkk (show ∀ j b, kk ≤ j → B[j]? = some b → k < b from hN) (fun b h => absurd hz h)
          have hdz : decide ((0 : Int) < (kk : Int)) = false := decide_eq_false (by omega)
          have hdzn : decide (0 < kk) = false := decide_eq_false (by omega)
          have hfin : Hid ((B.take kk).map (Value.int .i64) ++ [.int .i64 k] ++ (B.drop kk).map (Value.int .i64) = (insB k B).map (Value.int .i64)) := by show _ = _; rw [hfin0]; simp
          have hln : Hid ((insB k B).length = kk + 1 + (B.length - kk)) := by show _ = _; rw [hfin0]; simp; omega
          clear hfin0 hN hc hnm hasc hz
          by_cases hcap : c2 = kk
          · obtain rfl : kk = c2 := hcap.symm
            have hBk : B.length = kk := by omega
            have hfin2 : Hid ((B.take kk).map (Value.int .i64) ++ [.int .i64 k] ++ [] = (insB k B).map (Value.int .i64)) := by show _ = _; rw [← show _ = _ from hfin, List.drop_eq_nil_of_le (by omega)]; rfl
            have hln2 : Hid ((insB k B).length = kk + 1 + 0) := by show _ = _; rw [show _ = _ from hln]; omega
            clear hfin hln hBk
            go_wp2_with (first | ((with_reducible refine at_load ?_); refine wpList_bag_cell hX slS_cell _ rfl rfl rfl rfl (by first | exact .head _ | exact .tail _ (.head _)) rfl ?_) | ((with_reducible refine at_load ?_); refine wpList_bag_cell hX slI_cell _ rfl rfl rfl rfl (by first | exact .head _ | exact .tail _ (.head _)) rfl ?_) | ((with_reducible refine at_load ?_); refine wpList_bag_part (k := 0) hX aggD sizD _ rfl rfl rfl rfl (by first | exact .head _ | exact .tail _ (.head _)) (fun jz vz hz => (congrArg (fun n => ([_, _] : List Value)[n]?) (Nat.zero_add jz)).trans hz) rfl ?_) | (at_builtin; refine wpList_appI rfl (.tmp 39) (.tmp 43) rfl wr.heap.size _ 0 [] rfl (World.ownsRow_nil _ _ _ _) a2 kk kk ((B.take kk).map (Value.int .i64)) rfl (by simp <;> omega) (fun jz u h => Rz.cell (Rz.below hb hX.below) jz u (by rw [List.map_take, List.getElem?_take] at h; split at h; exact h; cases h)) (one_int _) (by omega) (Nat.le_refl _) ?_; intro v1 w1 ho1 hb1 _; rw [Nat.zero_add, List.nil_append] at ho1; have hown := ho1; replace hX := (hX).stepN hb1 (fun b hb => by simp at hb; rcases hb with rfl | rfl <;> simp <;> omega) (by omega); have hle1 := hb1.size; clear ho1 hb1) | (at_builtin; refine wpList_appI rfl (.tmp 45) (.tmp 47) rfl wr.heap.size _ _ _ rfl (World.ownsRow.alloc hown _) ⟨w1.heap.size, 0, none⟩ 1 1 [.int .i64 k] rfl rfl cell_one (fun x hx => by simp at hx; subst hx; rfl) (by omega) (by simp <;> omega) ?_; intro v2 w2 ho2 hb1 _; have hle2 := hb1.size; simp only [World.alloc, Array.size_push] at hle2; replace hX := ((Bag.step hX ((Below.refl _ _).alloc (Nat.le_refl _) (.cells #[.int .i64 k] 3)))).stepN hb1 (fun b hb => by simp at hb; rcases hb with rfl | rfl <;> simp <;> omega) (by omega); replace hown := ho2; clear ho2 hb1) | (at_builtin; refine wpList_appI rfl (.tmp 49) (.tmp 53) rfl wr.heap.size _ _ _ rfl hown a2 0 0 [] rfl rfl (fun jz u h => by simp at h) (fun u h => by simp at h) (by omega) (by omega) ?_; intro v3 w3 ho3 hb1 _; replace hX := (hX).stepN hb1 (fun b hb => by simp at hb; rcases hb with rfl | rfl <;> simp <;> omega) (by omega); have hown := ho3; have hr2 := Rw.of_own hown; obtain ⟨A3, c3, rfl, _, _⟩ := hr2; clear ho3 hb1) | ((with_reducible refine at_store ?_); refine wpList_bag_putV (z := .slice A3 _ c3) hX.swap siz_I _ _ rfl rfl rfl rfl rfl rfl (by simp) rfl rfl ?_; intro w4 hX3 hk3 _; replace hX := hX3; replace hown := own_other hown (fun k hk => hk3 k (by omega)); clear hk3 hX3; simp only [List.set_cons_zero, List.set_cons_succ] at hX) | ((with_reducible refine at_store ?_); refine wpList_bag_overV hX.swap aggD sizD _ _ rfl rfl rfl rfl rfl rfl rfl rfl (by intro u hu; simp at hu; rcases hu with rfl | rfl <;> rfl) ?_; clear hX; intro wz hX hkz; replace hown := own_other hown (fun k hk => hkz k (by omega)); clear hkz) | ((with_reducible refine at_store ?_); refine wpList_bag_overV hX aggD sizD _ _ rfl rfl rfl rfl rfl rfl rfl rfl (by intro u hu; simp at hu; rcases hu with rfl | rfl <;> rfl) ?_; clear hX; intro wz hX hkz; replace hown := own_other hown (fun k hk => hkz k (by omega)); clear hkz))
            have hI := itsX_of (fun b hb => by have := hXl b hb; omega) hfin2 hln2 hown
            first | exact bodyPost_ret (results_ct Try.results23 rfl ((hX.all _ _ _ (.head _)).loadVar rfl aggD sizD)) rfl ⟨_, rfl, ⟨_, _, rfl, hsX.below hX.below, hI⟩, hX.below⟩ | exact bodyPost_ret (results_ct Try.results23 rfl ((hX.all _ _ _ (.tail _ (.head _))).loadVar rfl aggD sizD)) rfl ⟨_, rfl, ⟨_, _, rfl, hsX.below hX.below, hI⟩, hX.below⟩
          · have hcap2 : ¬ kk = c2 := fun h => hcap h.symm
            go_wp2_with (first | ((with_reducible refine at_load ?_); refine wpList_bag_cell hX slS_cell _ rfl rfl rfl rfl (by first | exact .head _ | exact .tail _ (.head _)) rfl ?_) | ((with_reducible refine at_load ?_); refine wpList_bag_cell hX slI_cell _ rfl rfl rfl rfl (by first | exact .head _ | exact .tail _ (.head _)) rfl ?_) | ((with_reducible refine at_load ?_); refine wpList_bag_part (k := 0) hX aggD sizD _ rfl rfl rfl rfl (by first | exact .head _ | exact .tail _ (.head _)) (fun jz vz hz => (congrArg (fun n => ([_, _] : List Value)[n]?) (Nat.zero_add jz)).trans hz) rfl ?_) | (at_builtin; refine wpList_appI rfl (.tmp 39) (.tmp 43) rfl wr.heap.size _ 0 [] rfl (World.ownsRow_nil _ _ _ _) a2 kk c2 ((B.take kk).map (Value.int .i64)) rfl (by simp <;> omega) (fun jz u h => Rz.cell (Rz.below hb hX.below) jz u (by rw [List.map_take, List.getElem?_take] at h; split at h; exact h; cases h)) (one_int _) (by omega) (Nat.le_refl _) ?_; intro v1 w1 ho1 hb1 _; rw [Nat.zero_add, List.nil_append] at ho1; have hown := ho1; replace hX := (hX).stepN hb1 (fun b hb => by simp at hb; rcases hb with rfl | rfl <;> simp <;> omega) (by omega); have hle1 := hb1.size; clear ho1 hb1) | (at_builtin; refine wpList_appI rfl (.tmp 45) (.tmp 47) rfl wr.heap.size _ _ _ rfl (World.ownsRow.alloc hown _) ⟨w1.heap.size, 0, none⟩ 1 1 [.int .i64 k] rfl rfl cell_one (fun x hx => by simp at hx; subst hx; rfl) (by omega) (by simp <;> omega) ?_; intro v2 w2 ho2 hb1 _; have hle2 := hb1.size; simp only [World.alloc, Array.size_push] at hle2; replace hX := ((Bag.step hX ((Below.refl _ _).alloc (Nat.le_refl _) (.cells #[.int .i64 k] 3)))).stepN hb1 (fun b hb => by simp at hb; rcases hb with rfl | rfl <;> simp <;> omega) (by omega); replace hown := ho2; clear ho2 hb1) | (at_builtin; refine wpList_appI rfl (.tmp 49) (.tmp 53) rfl wr.heap.size _ _ _ rfl hown _ (B.length - kk) _ ((B.drop kk).map (Value.int .i64)) rfl (by simp) (fun jz u h => by rw [List.map_drop, List.getElem?_drop] at h; first | (rw [addr_add]; exact Rz.cell (Rz.below hb hX.below) _ u h) | (have h' := (List.getElem?_eq_some_iff.1 h).1; simp at h'; omega)) (one_int _) (by omega) (by omega) ?_; intro v3 w3 ho3 hb1 _; replace hX := (hX).stepN hb1 (fun b hb => by simp at hb; rcases hb with rfl | rfl <;> simp <;> omega) (by omega); have hown := ho3; have hr2 := Rw.of_own hown; obtain ⟨A3, c3, rfl, _, _⟩ := hr2; clear ho3 hb1) | ((with_reducible refine at_store ?_); refine wpList_bag_putV (z := .slice A3 _ c3) hX.swap siz_I _ _ rfl rfl rfl rfl rfl rfl (by simp) rfl rfl ?_; intro w4 hX3 hk3 _; replace hX := hX3; replace hown := own_other hown (fun k hk => hk3 k (by omega)); clear hk3 hX3; simp only [List.set_cons_zero, List.set_cons_succ] at hX) | ((with_reducible refine at_store ?_); refine wpList_bag_overV hX.swap aggD sizD _ _ rfl rfl rfl rfl rfl rfl rfl rfl (by intro u hu; simp at hu; rcases hu with rfl | rfl <;> rfl) ?_; clear hX; intro wz hX hkz; replace hown := own_other hown (fun k hk => hkz k (by omega)); clear hkz) | ((with_reducible refine at_store ?_); refine wpList_bag_overV hX aggD sizD _ _ rfl rfl rfl rfl rfl rfl rfl rfl (by intro u hu; simp at hu; rcases hu with rfl | rfl <;> rfl) ?_; clear hX; intro wz hX hkz; replace hown := own_other hown (fun k hk => hkz k (by omega)); clear hkz))
            have hI := itsX_of (fun b hb => by have := hXl b hb; omega) hfin hln hown
            first | exact bodyPost_ret (results_ct Try.results23 rfl ((hX.all _ _ _ (.head _)).loadVar rfl aggD sizD)) rfl ⟨_, rfl, ⟨_, _, rfl, hsX.below hX.below, hI⟩, hX.below⟩ | exact bodyPost_ret (results_ct Try.results23 rfl ((hX.all _ _ _ (.tail _ (.head _))).loadVar rfl aggD sizD)) rfl ⟨_, rfl, ⟨_, _, rfl, hsX.below hX.below, hI⟩, hX.below⟩
        obtain ⟨j, hj⟩ : ∃ j, kk = j + 1 := ⟨kk - 1, by omega⟩
        have hjj := hid hj
        have hdz : decide ((0 : Int) < (kk : Int)) = true := decide_eq_true (by omega)
        have hdzn : decide (0 < kk) = true := decide_eq_true (by omega)
        have hw1 : wrap64 ((kk : Int) - 1) = (j : Int) := by unfold wrap64; omega
        have hw3 : (kk : Int) - 1 = (j : Int) := by omega
        have hw2 : IntKind.i64.wrap ((kk : Int) - 1) = (j : Int) := by rw [wrap_i64]; exact hw1
        have hjl : j < B.length := by omega
        have hji : (j : Int) < (B.length : Int) := by omega
        have hy := List.getElem?_eq_getElem hjl
        generalize B[j] = y at *
        obtain ⟨a2', ha', hL⟩ := hc j y hy
        obtain rfl : a2 = a2' := Option.some.inj ha'
        by_cases hlt : k < y
        · have hlb : decide (k < y) = true := decide_eq_true hlt
          have hN2 : Hid (∀ i b, j ≤ i → B[i]? = some b → k < b) := fun i b hi hb => by
            rcases (by omega : i = j ∨ kk ≤ i) with rfl | h
            · rw [hy] at hb; cases hb; exact hlt
            · exact (show ∀ j b, kk ≤ j → B[j]? = some b → k < b from hN) i b h hb
          clear hN hc hnm hasc hlt hy hj hz
          go_wp2_with (first | ((with_reducible refine at_load ?_); refine wpList_bag_cell hX slS_cell _ rfl rfl rfl rfl (by first | exact .head _ | exact .tail _ (.head _)) rfl ?_) | ((with_reducible refine at_load ?_); refine wpList_bag_cell hX slI_cell _ rfl rfl rfl rfl (by first | exact .head _ | exact .tail _ (.head _)) rfl ?_) | ((with_reducible refine at_load ?_); refine wpList_loadW rfl 3 _ _ _ rfl rfl (hL _ hX.below) ?_))
          exact ⟨⟨j, by omega, by first | rfl | go_num, hN2, hX⟩, by have hj := (show kk = j + 1 from hjj); simp only; omega⟩
        · have hlb : decide (k < y) = false := decide_eq_false hlt
          have hyk : y < k := by
            rcases Int.lt_trichotomy y k with h | h | h
            · exact h
            · exact absurd (h ▸ hy) (hnm j)
            · exact absurd h hlt
          have hkj : kk - 1 = j := by omega
          have hfin0 := insB_at (s := k) hasc hkk (show ∀ j b, kk ≤ j → B[j]? = some b → k < b from hN) (fun b _ h => by rw [hkj, hy] at h; cases h; exact hyk)
          have hfin : Hid ((B.take kk).map (Value.int .i64) ++ [.int .i64 k] ++ (B.drop kk).map (Value.int .i64) = (insB k B).map (Value.int .i64)) := by show _ = _; rw [hfin0]; simp
          have hln : Hid ((insB k B).length = kk + 1 + (B.length - kk)) := by show _ = _; rw [hfin0]; simp; omega
          clear hfin0 hN hc hnm hasc hz hlt hy hkj hyk hj
          by_cases hcap : c2 = kk
          · obtain rfl : kk = c2 := hcap.symm
            have hBk : B.length = kk := by omega
            have hfin2 : Hid ((B.take kk).map (Value.int .i64) ++ [.int .i64 k] ++ [] = (insB k B).map (Value.int .i64)) := by show _ = _; rw [← show _ = _ from hfin, List.drop_eq_nil_of_le (by omega)]; rfl
            have hln2 : Hid ((insB k B).length = kk + 1 + 0) := by show _ = _; rw [show _ = _ from hln]; omega
            clear hfin hln hBk
            go_wp2_with (first | ((with_reducible refine at_load ?_); refine wpList_bag_cell hX slS_cell _ rfl rfl rfl rfl (by first | exact .head _ | exact .tail _ (.head _)) rfl ?_) | ((with_reducible refine at_load ?_); refine wpList_bag_cell hX slI_cell _ rfl rfl rfl rfl (by first | exact .head _ | exact .tail _ (.head _)) rfl ?_) | ((with_reducible refine at_load ?_); refine wpList_bag_part (k := 0) hX aggD sizD _ rfl rfl rfl rfl (by first | exact .head _ | exact .tail _ (.head _)) (fun jz vz hz => (congrArg (fun n => ([_, _] : List Value)[n]?) (Nat.zero_add jz)).trans hz) rfl ?_) | ((with_reducible refine at_load ?_); refine wpList_loadW rfl 3 _ _ _ rfl rfl (hL _ hX.below) ?_) | (at_builtin; refine wpList_appI rfl (.tmp 39) (.tmp 43) rfl wr.heap.size _ 0 [] rfl (World.ownsRow_nil _ _ _ _) a2 kk kk ((B.take kk).map (Value.int .i64)) rfl (by simp <;> omega) (fun jz u h => Rz.cell (Rz.below hb hX.below) jz u (by rw [List.map_take, List.getElem?_take] at h; split at h; exact h; cases h)) (one_int _) (by omega) (Nat.le_refl _) ?_; intro v1 w1 ho1 hb1 _; rw [Nat.zero_add, List.nil_append] at ho1; have hown := ho1; replace hX := (hX).stepN hb1 (fun b hb => by simp at hb; rcases hb with rfl | rfl <;> simp <;> omega) (by omega); have hle1 := hb1.size; clear ho1 hb1) | (at_builtin; refine wpList_appI rfl (.tmp 45) (.tmp 47) rfl wr.heap.size _ _ _ rfl (World.ownsRow.alloc hown _) ⟨w1.heap.size, 0, none⟩ 1 1 [.int .i64 k] rfl rfl cell_one (fun x hx => by simp at hx; subst hx; rfl) (by omega) (by simp <;> omega) ?_; intro v2 w2 ho2 hb1 _; have hle2 := hb1.size; simp only [World.alloc, Array.size_push] at hle2; replace hX := ((Bag.step hX ((Below.refl _ _).alloc (Nat.le_refl _) (.cells #[.int .i64 k] 3)))).stepN hb1 (fun b hb => by simp at hb; rcases hb with rfl | rfl <;> simp <;> omega) (by omega); replace hown := ho2; clear ho2 hb1) | (at_builtin; refine wpList_appI rfl (.tmp 49) (.tmp 53) rfl wr.heap.size _ _ _ rfl hown a2 0 0 [] rfl rfl (fun jz u h => by simp at h) (fun u h => by simp at h) (by omega) (by omega) ?_; intro v3 w3 ho3 hb1 _; replace hX := (hX).stepN hb1 (fun b hb => by simp at hb; rcases hb with rfl | rfl <;> simp <;> omega) (by omega); have hown := ho3; have hr2 := Rw.of_own hown; obtain ⟨A3, c3, rfl, _, _⟩ := hr2; clear ho3 hb1) | ((with_reducible refine at_store ?_); refine wpList_bag_putV (z := .slice A3 _ c3) hX.swap siz_I _ _ rfl rfl rfl rfl rfl rfl (by simp) rfl rfl ?_; intro w4 hX3 hk3 _; replace hX := hX3; replace hown := own_other hown (fun k hk => hk3 k (by omega)); clear hk3 hX3; simp only [List.set_cons_zero, List.set_cons_succ] at hX) | ((with_reducible refine at_store ?_); refine wpList_bag_overV hX.swap aggD sizD _ _ rfl rfl rfl rfl rfl rfl rfl rfl (by intro u hu; simp at hu; rcases hu with rfl | rfl <;> rfl) ?_; clear hX; intro wz hX hkz; replace hown := own_other hown (fun k hk => hkz k (by omega)); clear hkz) | ((with_reducible refine at_store ?_); refine wpList_bag_overV hX aggD sizD _ _ rfl rfl rfl rfl rfl rfl rfl rfl (by intro u hu; simp at hu; rcases hu with rfl | rfl <;> rfl) ?_; clear hX; intro wz hX hkz; replace hown := own_other hown (fun k hk => hkz k (by omega)); clear hkz))
            have hI := itsX_of (fun b hb => by have := hXl b hb; omega) hfin2 hln2 hown
            first | exact bodyPost_ret (results_ct Try.results23 rfl ((hX.all _ _ _ (.head _)).loadVar rfl aggD sizD)) rfl ⟨_, rfl, ⟨_, _, rfl, hsX.below hX.below, hI⟩, hX.below⟩ | exact bodyPost_ret (results_ct Try.results23 rfl ((hX.all _ _ _ (.tail _ (.head _))).loadVar rfl aggD sizD)) rfl ⟨_, rfl, ⟨_, _, rfl, hsX.below hX.below, hI⟩, hX.below⟩
          · have hcap2 : ¬ kk = c2 := fun h => hcap h.symm
            go_wp2_with (first | ((with_reducible refine at_load ?_); refine wpList_bag_cell hX slS_cell _ rfl rfl rfl rfl (by first | exact .head _ | exact .tail _ (.head _)) rfl ?_) | ((with_reducible refine at_load ?_); refine wpList_bag_cell hX slI_cell _ rfl rfl rfl rfl (by first | exact .head _ | exact .tail _ (.head _)) rfl ?_) | ((with_reducible refine at_load ?_); refine wpList_bag_part (k := 0) hX aggD sizD _ rfl rfl rfl rfl (by first | exact .head _ | exact .tail _ (.head _)) (fun jz vz hz => (congrArg (fun n => ([_, _] : List Value)[n]?) (Nat.zero_add jz)).trans hz) rfl ?_) | ((with_reducible refine at_load ?_); refine wpList_loadW rfl 3 _ _ _ rfl rfl (hL _ hX.below) ?_) | (at_builtin; refine wpList_appI rfl (.tmp 39) (.tmp 43) rfl wr.heap.size _ 0 [] rfl (World.ownsRow_nil _ _ _ _) a2 kk c2 ((B.take kk).map (Value.int .i64)) rfl (by simp <;> omega) (fun jz u h => Rz.cell (Rz.below hb hX.below) jz u (by rw [List.map_take, List.getElem?_take] at h; split at h; exact h; cases h)) (one_int _) (by omega) (Nat.le_refl _) ?_; intro v1 w1 ho1 hb1 _; rw [Nat.zero_add, List.nil_append] at ho1; have hown := ho1; replace hX := (hX).stepN hb1 (fun b hb => by simp at hb; rcases hb with rfl | rfl <;> simp <;> omega) (by omega); have hle1 := hb1.size; clear ho1 hb1) | (at_builtin; refine wpList_appI rfl (.tmp 45) (.tmp 47) rfl wr.heap.size _ _ _ rfl (World.ownsRow.alloc hown _) ⟨w1.heap.size, 0, none⟩ 1 1 [.int .i64 k] rfl rfl cell_one (fun x hx => by simp at hx; subst hx; rfl) (by omega) (by simp <;> omega) ?_; intro v2 w2 ho2 hb1 _; have hle2 := hb1.size; simp only [World.alloc, Array.size_push] at hle2; replace hX := ((Bag.step hX ((Below.refl _ _).alloc (Nat.le_refl _) (.cells #[.int .i64 k] 3)))).stepN hb1 (fun b hb => by simp at hb; rcases hb with rfl | rfl <;> simp <;> omega) (by omega); replace hown := ho2; clear ho2 hb1) | (at_builtin; refine wpList_appI rfl (.tmp 49) (.tmp 53) rfl wr.heap.size _ _ _ rfl hown _ (B.length - kk) _ ((B.drop kk).map (Value.int .i64)) rfl (by simp) (fun jz u h => by rw [List.map_drop, List.getElem?_drop] at h; first | (rw [addr_add]; exact Rz.cell (Rz.below hb hX.below) _ u h) | (have h' := (List.getElem?_eq_some_iff.1 h).1; simp at h'; omega)) (one_int _) (by omega) (by omega) ?_; intro v3 w3 ho3 hb1 _; replace hX := (hX).stepN hb1 (fun b hb => by simp at hb; rcases hb with rfl | rfl <;> simp <;> omega) (by omega); have hown := ho3; have hr2 := Rw.of_own hown; obtain ⟨A3, c3, rfl, _, _⟩ := hr2; clear ho3 hb1) | ((with_reducible refine at_store ?_); refine wpList_bag_putV (z := .slice A3 _ c3) hX.swap siz_I _ _ rfl rfl rfl rfl rfl rfl (by simp) rfl rfl ?_; intro w4 hX3 hk3 _; replace hX := hX3; replace hown := own_other hown (fun k hk => hk3 k (by omega)); clear hk3 hX3; simp only [List.set_cons_zero, List.set_cons_succ] at hX) | ((with_reducible refine at_store ?_); refine wpList_bag_overV hX.swap aggD sizD _ _ rfl rfl rfl rfl rfl rfl rfl rfl (by intro u hu; simp at hu; rcases hu with rfl | rfl <;> rfl) ?_; clear hX; intro wz hX hkz; replace hown := own_other hown (fun k hk => hkz k (by omega)); clear hkz) | ((with_reducible refine at_store ?_); refine wpList_bag_overV hX aggD sizD _ _ rfl rfl rfl rfl rfl rfl rfl rfl (by intro u hu; simp at hu; rcases hu with rfl | rfl <;> rfl) ?_; clear hX; intro wz hX hkz; replace hown := own_other hown (fun k hk => hkz k (by omega)); clear hkz))
            have hI := itsX_of (fun b hb => by have := hXl b hb; omega) hfin hln hown
            first | exact bodyPost_ret (results_ct Try.results23 rfl ((hX.all _ _ _ (.head _)).loadVar rfl aggD sizD)) rfl ⟨_, rfl, ⟨_, _, rfl, hsX.below hX.below, hI⟩, hX.below⟩ | exact bodyPost_ret (results_ct Try.results23 rfl ((hX.all _ _ _ (.tail _ (.head _))).loadVar rfl aggD sizD)) rfl ⟨_, rfl, ⟨_, _, rfl, hsX.below hX.below, hI⟩, hX.below⟩
  · rw [hbd] at hib
    simp only [if_true]
    clear hbd hc hasc hbf
    go_enter Try.func23, Try.ntmps23
    go_wp2_with (first | ((with_reducible refine at_load ?_); refine wpList_bag_cell hX slS_cell _ rfl rfl rfl rfl (by first | exact .head _ | exact .tail _ (.head _)) rfl ?_) | ((with_reducible refine at_load ?_); refine wpList_bag_cell hX slI_cell _ rfl rfl rfl rfl (by first | exact .head _ | exact .tail _ (.head _)) rfl ?_) | ((with_reducible refine at_load ?_); refine wpList_bag_part (k := 0) hX aggD sizD _ rfl rfl rfl rfl (by first | exact .head _ | exact .tail _ (.head _)) (fun jz vz hz => (congrArg (fun n => ([_, _] : List Value)[n]?) (Nat.zero_add jz)).trans hz) rfl ?_) | (go_at_call 35; (with_reducible refine (hib _ hX.below).mono ?_); rintro e wI ⟨rfl, hbb⟩; replace hX := hX.step hbb; clear hbb) | ((with_reducible refine at_store ?_); refine wpList_bag_overV hX aggD sizD _ _ rfl rfl rfl rfl rfl rfl rfl rfl (by intro u hu; simp at hu; rcases hu with rfl | rfl <;> rfl) ?_; clear hX; intro wz hX hkz; clear hkz) | ((with_reducible refine at_store ?_); refine wpList_bag_overV hX.swap aggD sizD _ _ rfl rfl rfl rfl rfl rfl rfl rfl (by intro u hu; simp at hu; rcases hu with rfl | rfl <;> rfl) ?_; clear hX; intro wz hX hkz; clear hkz))
    first | exact bodyPost_ret (results_ct Try.results23 rfl ((hX.all _ _ _ (.head _)).loadVar rfl aggD sizD)) rfl ⟨_, rfl, ⟨_, _, rfl, hsX.below hX.below, hbX.below hX.below⟩, hX.below⟩ | exact bodyPost_ret (results_ct Try.results23 rfl ((hX.all _ _ _ (.tail _ (.head _))).loadVar rfl aggD sizD)) rfl ⟨_, rfl, ⟨_, _, rfl, hsX.below hX.below, hbX.below hX.below⟩, hX.below⟩
end Go.Proofs.Ytohfniejflibmaa
