/-
  Write of the reference. Condition: at most 2^40 sectors and bad ones.
-/
import Derived.Test.YtjolhlfjpnlcnaaDvE
namespace Go.Proofs.Ytjolhlfjpnlcnaa
open Go.RowKit
set_option linter.unusedSimpArgs false
set_option linter.unusedVariables false
set_option maxHeartbeats 4000000
set_option maxRecDepth 100000
attribute [local irreducible] wpQuiet

theorem rwrite_any (D : Drv) (k : Int) (s : ByteArray) (hl : D.B.length ≤ 1099511627776) (hl2 : D.S.length ≤ 1099511627776) (vs vb : Value) (w : World) (X : Nat → Prop) (hXl : ∀ b, X b → b < w.heap.size) (hsX : StsX X w vs D.S) (hbX : ItsX X w vb D.B) : Calls Try.prog 49 #[.agg #[vs, vb], .int .i64 k, .string s] w fun e w' => ∃ x, e = .returned (.tuple #[x, .int .i64 (D.wr k s).2]) ∧ DvX X w' x (D.wr k s).1 ∧ Below w.heap.size w w' := by
  have hs := hsX.now
  have hb := hbX.now
  obtain ⟨A, c, rfl, _, hc⟩ := hs.form
  obtain ⟨A2, c2, rfl, _⟩ := hb.form
  have hib := fun w' (h : Below w.heap.size w w') => risbad_any D k hl (.slice A D.S.length c) (.slice A2 D.B.length c2) w' (hs.below h) (hb.below h)
  have hX := two_dv w [.slice A D.S.length c, .slice A2 D.B.length c2] [.slice none 0 0, .slice none 0 0]
  unfold Drv.wr
  obtain ⟨S, B⟩ := D
  dsimp only at hib hc hX hl hl2 hs hb hsX hbX ⊢
  by_cases h0 : k < 0
  · have d0 : decide (k < 0) = true := decide_eq_true h0
    rw [if_neg (by omega)]
    clear hs hb hc
    go_enter Try.func49, Try.ntmps49
    go_wp2_with (first | ((with_reducible refine at_load ?_); refine wpList_bag_cell hX slS_cell _ rfl rfl rfl rfl (by first | exact .head _ | exact .tail _ (.head _)) rfl ?_) | ((with_reducible refine at_load ?_); refine wpList_bag_cell hX slI_cell _ rfl rfl rfl rfl (by first | exact .head _ | exact .tail _ (.head _)) rfl ?_) | ((with_reducible refine at_load ?_); refine wpList_bag_part (k := 0) hX aggD sizD _ rfl rfl rfl rfl (by first | exact .head _ | exact .tail _ (.head _)) (fun jz vz hz => (congrArg (fun n => ([_, _] : List Value)[n]?) (Nat.zero_add jz)).trans hz) rfl ?_) | (go_at_call 64; (with_reducible refine (hib _ hX.below).mono ?_); rintro e wI ⟨rfl, hbb⟩; replace hX := hX.step hbb; clear hbb) | ((with_reducible refine at_store ?_); refine wpList_bag_overV hX aggD sizD _ _ rfl rfl rfl rfl rfl rfl rfl rfl (by intro u hu; simp at hu; rcases hu with rfl | rfl <;> rfl) ?_; clear hX; intro wz hX hkz; clear hkz))
    first | exact bodyPost_ret (results_ct Try.results49 rfl ((hX.all _ _ _ (.head _)).loadVar rfl aggD sizD)) rfl ⟨_, rfl, DvX.z X _, hX.below⟩ | exact bodyPost_ret (results_ct Try.results49 rfl ((hX.all _ _ _ (.tail _ (.head _))).loadVar rfl aggD sizD)) rfl ⟨_, rfl, DvX.z X _, hX.below⟩
  have d0 : decide (k < 0) = false := decide_eq_false h0
  by_cases h1 : (S.length : Int) ≤ k
  · have d1 : decide ((S.length : Int) ≤ k) = true := decide_eq_true h1
    rw [if_neg (by omega)]
    clear hs hb hc
    go_enter Try.func49, Try.ntmps49
    go_wp2_with (first | ((with_reducible refine at_load ?_); refine wpList_bag_cell hX slS_cell _ rfl rfl rfl rfl (by first | exact .head _ | exact .tail _ (.head _)) rfl ?_) | ((with_reducible refine at_load ?_); refine wpList_bag_cell hX slI_cell _ rfl rfl rfl rfl (by first | exact .head _ | exact .tail _ (.head _)) rfl ?_) | ((with_reducible refine at_load ?_); refine wpList_bag_part (k := 0) hX aggD sizD _ rfl rfl rfl rfl (by first | exact .head _ | exact .tail _ (.head _)) (fun jz vz hz => (congrArg (fun n => ([_, _] : List Value)[n]?) (Nat.zero_add jz)).trans hz) rfl ?_) | (go_at_call 64; (with_reducible refine (hib _ hX.below).mono ?_); rintro e wI ⟨rfl, hbb⟩; replace hX := hX.step hbb; clear hbb) | ((with_reducible refine at_store ?_); refine wpList_bag_overV hX aggD sizD _ _ rfl rfl rfl rfl rfl rfl rfl rfl (by intro u hu; simp at hu; rcases hu with rfl | rfl <;> rfl) ?_; clear hX; intro wz hX hkz; clear hkz))
    first | exact bodyPost_ret (results_ct Try.results49 rfl ((hX.all _ _ _ (.head _)).loadVar rfl aggD sizD)) rfl ⟨_, rfl, DvX.z X _, hX.below⟩ | exact bodyPost_ret (results_ct Try.results49 rfl ((hX.all _ _ _ (.tail _ (.head _))).loadVar rfl aggD sizD)) rfl ⟨_, rfl, DvX.z X _, hX.below⟩
  have d1 : decide ((S.length : Int) ≤ k) = false := decide_eq_false h1
  rw [if_pos (by omega)]
  by_cases h2 : 128 < s.size
  · have d2 : (128 : Int) < (s.size : Int) := by omega
    rw [if_pos h2]
    clear hs hb hc
    go_enter Try.func49, Try.ntmps49
    go_wp2_with (first | ((with_reducible refine at_load ?_); refine wpList_bag_cell hX slS_cell _ rfl rfl rfl rfl (by first | exact .head _ | exact .tail _ (.head _)) rfl ?_) | ((with_reducible refine at_load ?_); refine wpList_bag_cell hX slI_cell _ rfl rfl rfl rfl (by first | exact .head _ | exact .tail _ (.head _)) rfl ?_) | ((with_reducible refine at_load ?_); refine wpList_bag_part (k := 0) hX aggD sizD _ rfl rfl rfl rfl (by first | exact .head _ | exact .tail _ (.head _)) (fun jz vz hz => (congrArg (fun n => ([_, _] : List Value)[n]?) (Nat.zero_add jz)).trans hz) rfl ?_) | (go_at_call 64; (with_reducible refine (hib _ hX.below).mono ?_); rintro e wI ⟨rfl, hbb⟩; replace hX := hX.step hbb; clear hbb) | ((with_reducible refine at_store ?_); refine wpList_bag_overV hX aggD sizD _ _ rfl rfl rfl rfl rfl rfl rfl rfl (by intro u hu; simp at hu; rcases hu with rfl | rfl <;> rfl) ?_; clear hX; intro wz hX hkz; clear hkz))
    first | exact bodyPost_ret (results_ct Try.results49 rfl ((hX.all _ _ _ (.head _)).loadVar rfl aggD sizD)) rfl ⟨_, rfl, DvX.z X _, hX.below⟩ | exact bodyPost_ret (results_ct Try.results49 rfl ((hX.all _ _ _ (.tail _ (.head _))).loadVar rfl aggD sizD)) rfl ⟨_, rfl, DvX.z X _, hX.below⟩
  have d2 : ¬ (128 : Int) < (s.size : Int) := by omega
  rw [if_neg h2]
  cases hbd : B.contains k
  · rw [hbd] at hib
    simp only [Bool.false_eq_true, if_false]
    obtain ⟨j, rfl⟩ : ∃ j : Nat, k = (j : Int) := ⟨k.toNat, by omega⟩
    have hj : j < S.length := by omega
    have hj2 : (j : Int) < (S.length : Int) := by omega
    obtain ⟨a, rfl, _⟩ := hc j S[j] (List.getElem?_eq_getElem hj)
    simp only [Int.toNat_natCast]
    obtain ⟨m, hm⟩ : ∃ m, 128 - s.size = m := ⟨_, rfl⟩
    rw [hm]
    have hz := rzeros_any m (by omega)
    rw [show ((m : Nat) : Int) = 128 - (s.size : Int) from by omega] at hz
    have hzs := zB_size m
    have hmx : s.size + (zB m).size ≤ 128 := by omega
    have hfin : (S.map Value.string).set j (.string (s ++ zB m)) = (S.set j (s ++ zB m)).map Value.string := by rw [List.map_set]
    have hln : (S.set j (s ++ zB m)).length = S.length := List.length_set
    replace hfin := hid hfin
    replace hln := hid hln
    have hmx2 : ¬ maxLen < s.size + (zB m).size := by unfold maxLen; omega
    clear hm hc hbd h0 h1 h2
    go_enter Try.func49, Try.ntmps49
    go_wp2_with (first | ((with_reducible refine at_load ?_); refine wpList_bag_cell hX slS_cell _ rfl rfl rfl rfl (by first | exact .head _ | exact .tail _ (.head _)) rfl ?_) | ((with_reducible refine at_load ?_); refine wpList_bag_cell hX slI_cell _ rfl rfl rfl rfl (by first | exact .head _ | exact .tail _ (.head _)) rfl ?_) | ((with_reducible refine at_load ?_); refine wpList_bag_part (k := 0) hX aggD sizD _ rfl rfl rfl rfl (by first | exact .head _ | exact .tail _ (.head _)) (fun jz vz hz => (congrArg (fun n => ([_, _] : List Value)[n]?) (Nat.zero_add jz)).trans hz) rfl ?_) | (go_at_call 64; (with_reducible refine (hib _ hX.below).mono ?_); rintro e wI ⟨rfl, hbb⟩; replace hX := hX.step hbb; clear hbb) | ((with_reducible refine at_load ?_); refine wpList_bag_cell (Bag.step hX ((Below.refl _ _).alloc (Nat.le_refl _) (.cells #[] 9))) slS_cell _ rfl rfl rfl rfl (by first | exact .head _ | exact .tail _ (.head _)) rfl ?_) | (at_builtin; refine wpList_appS rfl (.tmp 27) (.tmp 29) rfl wI.heap.size _ 0 [] rfl (own_empty wI 9) a S.length c (S.map Value.string) rfl (by simp) (fun jz u h => Rz.cell (Rz.below hs (hX.below.alloc hX.below.size _)) jz u h) (one_str S) (by omega) (by simp) ?_; intro v1 w1 ho1 hb1 _; rw [Nat.zero_add, List.nil_append] at ho1; have hlt1 := (hX.all _ _ _ (.head _)).lt; have hNN : w.heap.size + 2 ≤ wI.heap.size := hlt1; replace hX := (Bag.step hX ((Below.refl _ _).alloc (Nat.le_refl _) (.cells #[] 9))).stepN hb1 (fun b hb => by simp at hb; rcases hb with rfl | rfl <;> simp <;> omega) (by omega); obtain ⟨g, cap, rfl, _⟩ := own_at ho1 (by omega); have hown := ho1; clear ho1 hb1 hlt1) | (go_at_call 65; (with_reducible refine (hz _).mono ?_); rintro e wz ⟨rfl, hbb⟩; replace hX := hX.step hbb; replace hown := own_step hown hbb; clear hbb) | ((with_reducible refine at_store ?_); refine wpList_row_store (u := .string (s ++ zB m)) hown siz_s _ _ rfl rfl rfl rfl rfl rfl hj rfl rfl ?_; intro w2 ho2 hb2; replace hX := hX.stepN hb2 (fun b hb => by simp at hb; rcases hb with rfl | rfl <;> simp <;> omega) (by omega); replace hown := ho2; clear hb2 ho2) | ((with_reducible refine at_store ?_); refine wpList_bag_putV (z := .slice (some ⟨g, 0, none⟩) S.length cap) hX.swap siz_S _ _ rfl rfl rfl rfl rfl rfl (by simp) rfl rfl ?_; intro w3 hX3 hk3 _; replace hX := hX3; replace hown := own_other hown (fun k hk => hk3 k (by omega)); clear hk3 hX3; simp only [List.set_cons_zero, List.set_cons_succ] at hX) | ((with_reducible refine at_store ?_); refine wpList_bag_overV hX.swap aggD sizD _ _ rfl rfl rfl rfl rfl rfl rfl rfl (by intro u hu; simp at hu; rcases hu with rfl | rfl <;> rfl) ?_; clear hX; intro wz hX hkz; replace hown := own_other hown (fun k hk => hkz k (by omega)); clear hkz) | ((with_reducible refine at_store ?_); refine wpList_bag_overV hX aggD sizD _ _ rfl rfl rfl rfl rfl rfl rfl rfl (by intro u hu; simp at hu; rcases hu with rfl | rfl <;> rfl) ?_; clear hX; intro wz hX hkz; replace hown := own_other hown (fun k hk => hkz k (by omega)); clear hkz))
    have hS := stsX_of (fun b hb => by have := hXl b hb; omega) hfin hln hown
    first | exact bodyPost_ret (results_ct Try.results49 rfl ((hX.all _ _ _ (.head _)).loadVar rfl aggD sizD)) rfl ⟨_, rfl, ⟨_, _, rfl, hS, hbX.below hX.below⟩, hX.below⟩ | exact bodyPost_ret (results_ct Try.results49 rfl ((hX.all _ _ _ (.tail _ (.head _))).loadVar rfl aggD sizD)) rfl ⟨_, rfl, ⟨_, _, rfl, hS, hbX.below hX.below⟩, hX.below⟩
  · rw [hbd] at hib
    simp only [if_true]
    clear hs hb hc hbd
    go_enter Try.func49, Try.ntmps49
    go_wp2_with (first | ((with_reducible refine at_load ?_); refine wpList_bag_cell hX slS_cell _ rfl rfl rfl rfl (by first | exact .head _ | exact .tail _ (.head _)) rfl ?_) | ((with_reducible refine at_load ?_); refine wpList_bag_cell hX slI_cell _ rfl rfl rfl rfl (by first | exact .head _ | exact .tail _ (.head _)) rfl ?_) | ((with_reducible refine at_load ?_); refine wpList_bag_part (k := 0) hX aggD sizD _ rfl rfl rfl rfl (by first | exact .head _ | exact .tail _ (.head _)) (fun jz vz hz => (congrArg (fun n => ([_, _] : List Value)[n]?) (Nat.zero_add jz)).trans hz) rfl ?_) | (go_at_call 64; (with_reducible refine (hib _ hX.below).mono ?_); rintro e wI ⟨rfl, hbb⟩; replace hX := hX.step hbb; clear hbb) | ((with_reducible refine at_store ?_); refine wpList_bag_overV hX aggD sizD _ _ rfl rfl rfl rfl rfl rfl rfl rfl (by intro u hu; simp at hu; rcases hu with rfl | rfl <;> rfl) ?_; clear hX; intro wz hX hkz; clear hkz))
    first | exact bodyPost_ret (results_ct Try.results49 rfl ((hX.all _ _ _ (.head _)).loadVar rfl aggD sizD)) rfl ⟨_, rfl, DvX.z X _, hX.below⟩ | exact bodyPost_ret (results_ct Try.results49 rfl ((hX.all _ _ _ (.tail _ (.head _))).loadVar rfl aggD sizD)) rfl ⟨_, rfl, DvX.z X _, hX.below⟩
end Go.Proofs.Ytjolhlfjpnlcnaa
