import Derived.Test.YtigmlkfmgheegaaTpN
import Derived.Deep.RegionHeld3
/-
  TapeRight. Condition: the contracts; alive.
-/
namespace Go.Proofs.Ytigmlkfmgheegaa
open Go.RowKit
set_option linter.unusedSimpArgs false
set_option linter.unusedVariables false
set_option maxHeartbeats 4000000
set_option maxRecDepth 100000
attribute [local irreducible] wpQuiet

theorem newT_len (L : List ByteArray) : (newT L).1.R.length ≤ 64 := by
  unfold newT
  split
  · exact Nat.zero_le _
  · rename_i h
    split
    · exact Nat.le_of_not_lt h
    · exact Nat.zero_le _
theorem TapeRight_law (W0 : World) (H : TpC W0) (HA : AlT W0) (K : Tp) (L : List ByteArray) (vs vl : Value) (hs : Sts W0 vs K.R) (hL : Sts W0 vl L) : Calls Try.prog 3 #[.agg #[vs, .int .i64 (K).p, .bool (K).n, .bool (K).r, .bool (K).e, .bool (K).m, .bool (K).d, .int .i64 (K).c, .int .i64 (K).k, .int .i64 (K).a, .int .i64 (K).l], vl] W0 fun e' w' => e' = .returned (.bool true) ∧ Below W0.heap.size W0 w' := by
  obtain ⟨aS, cS, rfl, _⟩ := hs.form
  obtain ⟨aL, cL, rfl, _⟩ := hL.form
  have hX := (Bag.nil W0).new 24 [(.slice aS K.R.length cS), .int .i64 (K).p, .bool (K).n, .bool (K).r, .bool (K).e, .bool (K).m, .bool (K).d, .int .i64 (K).c, .int .i64 (K).k, .int .i64 (K).a, .int .i64 (K).l]
  by_cases h1 : 100 < L.length
  · have d1 : decide (100 < (L.length : Int)) = true := decide_eq_true (by omega)
    have h1' : 100 < (L.length : Int) := by omega
    go_enter Try.func3, Try.ntmps3
    go_wp2_with (first | ((with_reducible refine at_load ?_); refine wpList_bag_cell hX slI_cell _ rfl rfl rfl rfl (by first | exact .head _) rfl ?_) | ((with_reducible refine at_load ?_); refine wpList_bag_cell hX slS_cell _ rfl rfl rfl rfl (by first | exact .head _) rfl ?_) | ((with_reducible refine at_load ?_); refine wpList_bag_cell hX int_cell _ rfl rfl rfl rfl (by first | exact .head _) rfl ?_) | ((with_reducible refine at_load ?_); refine wpList_bag_cell hX bool_cell _ rfl rfl rfl rfl (by first | exact .head _) rfl ?_))
    go_ret
    exact ⟨rfl, hX.below⟩
  have d1 : decide (100 < (L.length : Int)) = false := decide_eq_false (by omega)
  by_cases h2 : 100 < K.R.length
  · have d2 : decide (100 < (K.R.length : Int)) = true := decide_eq_true (by omega)
    go_enter Try.func3, Try.ntmps3
    go_wp2_with (first | ((with_reducible refine at_load ?_); refine wpList_bag_cell hX slI_cell _ rfl rfl rfl rfl (by first | exact .head _) rfl ?_) | ((with_reducible refine at_load ?_); refine wpList_bag_cell hX slS_cell _ rfl rfl rfl rfl (by first | exact .head _) rfl ?_) | ((with_reducible refine at_load ?_); refine wpList_bag_cell hX int_cell _ rfl rfl rfl rfl (by first | exact .head _) rfl ?_) | ((with_reducible refine at_load ?_); refine wpList_bag_cell hX bool_cell _ rfl rfl rfl rfl (by first | exact .head _) rfl ?_))
    go_ret
    exact ⟨rfl, hX.below⟩
  have d2 : decide (100 < (K.R.length : Int)) = false := decide_eq_false (by omega)
  have hl : K.R.length ≤ 1099511627776 := by omega
  have hl2 : L.length ≤ 1099511627776 := by omega
  have hN := fun w (h : Below W0.heap.size W0 w) => H.new L (.slice aL L.length cL) (fun _ => False) w h (by omega) (fun _ h => h.elim) (Rz.below hL h)
  have hNr := fun w (h : Below W0.heap.size W0 w) => rnewT_any L hl2 (.slice aL L.length cL) w (fun _ => False) (fun _ h => h.elim) (Rz.below hL h)
  have hRt := fun w (h : Below W0.heap.size W0 w) => H.right K (.slice aS K.R.length cS) w h hl (Rz.below hs h)
  have hRr := fun w (h : Below W0.heap.size W0 w) => rrightT_any K hl (.slice aS K.R.length cS) w (Rz.below hs h)
  have hl1 : (newT L).1.R.length ≤ 1099511627776 := Nat.le_trans (newT_len L) (by decide)
  generalize newT L = Q at *
  obtain ⟨K1, z⟩ := Q
  dsimp only at hN hNr hl1
  generalize K.right = kr at *
  clear h1 h2
  go_enter Try.func3, Try.ntmps3
  go_wp2_with (first | ((with_reducible refine at_load ?_); refine wpList_bag_cell hX slI_cell _ rfl rfl rfl rfl (by first | exact .head _ | exact .tail _ (.head _) | exact .tail _ (.tail _ (.head _))) rfl ?_) | ((with_reducible refine at_load ?_); refine wpList_bag_cell hX slS_cell _ rfl rfl rfl rfl (by first | exact .head _ | exact .tail _ (.head _) | exact .tail _ (.tail _ (.head _))) rfl ?_) | ((with_reducible refine at_load ?_); refine wpList_bag_cell hX int_cell _ rfl rfl rfl rfl (by first | exact .head _ | exact .tail _ (.head _) | exact .tail _ (.tail _ (.head _))) rfl ?_) | ((with_reducible refine at_load ?_); refine wpList_bag_cell hX bool_cell _ rfl rfl rfl rfl (by first | exact .head _ | exact .tail _ (.head _) | exact .tail _ (.tail _ (.head _))) rfl ?_) | ((with_reducible refine at_load ?_); refine wpList_bag_part (k := 0) hX aggT sizT _ rfl rfl rfl rfl (by first | exact .head _ | exact .tail _ (.head _) | exact .tail _ (.tail _ (.head _))) (fun jz vz hz => (congrArg (fun n => ([_, _, _, _, _, _, _, _, _, _, _] : List Value)[n]?) (Nat.zero_add jz)).trans hz) rfl ?_) | (go_at_call 9; (with_reducible refine (hN _ hX.below).mono ?_); rintro e' wN ⟨x, rfl, ⟨vs1, rfl, hs1⟩, hbb⟩; replace hX := hX.step hbb; clear hbb) | (go_at_call 10; (with_reducible refine (hNr _ hX.below).mono ?_); rintro e' wM ⟨x, rfl, ⟨vs2, rfl, hs2⟩, hbb⟩; replace hX := hX.step hbb; replace hs1 := hs1.below hbb; clear hbb) | ((with_reducible refine at_store ?_); refine wpList_bag_overV (cs' := [vs1, .int .i64 (K1).p, .bool (K1).n, .bool (K1).r, .bool (K1).e, .bool (K1).m, .bool (K1).d, .int .i64 (K1).c, .int .i64 (K1).k, .int .i64 (K1).a, .int .i64 (K1).l]) (hX.new 24 [.slice none 0 0, .int .i64 0, .bool false, .bool false, .bool false, .bool false, .bool false, .int .i64 0, .int .i64 0, .int .i64 0, .int .i64 0]) aggT sizT _ _ rfl rfl rfl rfl rfl rfl rfl rfl (one_tp (sts_one hs1.now) _ _ _ _ _ _ _ _ _ _) ?_; clear hX; intro wy hX hkz; replace hs1 := ((hs1.weak ((Below.refl _ _).alloc (Nat.le_refl _) (.cells ([.slice none 0 0, .int .i64 0, .bool false, .bool false, .bool false, .bool false, .bool false, .int .i64 0, .int .i64 0, .int .i64 0, .int .i64 0] : List Value).toArray 24)) xbt_new : StsX (XBt wN.heap.size) _ _ _)).over hkz rfl; clear hkz) | ((with_reducible refine at_store ?_); refine wpList_bag_overV (cs' := [vs2, .int .i64 (K1).p, .bool (K1).n, .bool (K1).r, .bool (K1).e, .bool (K1).m, .bool (K1).d, .int .i64 (K1).c, .int .i64 (K1).k, .int .i64 (K1).a, .int .i64 (K1).l]) (hX.new 24 [.slice none 0 0, .int .i64 0, .bool false, .bool false, .bool false, .bool false, .bool false, .int .i64 0, .int .i64 0, .int .i64 0, .int .i64 0]) aggT sizT _ _ rfl rfl rfl rfl rfl rfl rfl rfl (one_tp (sts_one hs2.now) _ _ _ _ _ _ _ _ _ _) ?_; clear hX; intro wx hX hkz; replace hs1 := ((hs1.weak ((Below.refl _ _).alloc (Nat.le_refl _) (.cells ([.slice none 0 0, .int .i64 0, .bool false, .bool false, .bool false, .bool false, .bool false, .int .i64 0, .int .i64 0, .int .i64 0, .int .i64 0] : List Value).toArray 24)) xbt_new : StsX (XBt wM.heap.size) _ _ _)).over hkz rfl; replace hs2 := ((hs2.weak ((Below.refl _ _).alloc (Nat.le_refl _) (.cells ([.slice none 0 0, .int .i64 0, .bool false, .bool false, .bool false, .bool false, .bool false, .int .i64 0, .int .i64 0, .int .i64 0, .int .i64 0] : List Value).toArray 24)) xbt_new : StsX (XBt wM.heap.size) _ _ _)).over hkz rfl; clear hkz))
  go_region_held3 (fun w2 => w2.cell? ⟨wM.heap.size, 0, none⟩ = some (vs2) ∧ w2.cell? ⟨wM.heap.size, 1, none⟩ = some (.int .i64 (K1).p) ∧ w2.cell? ⟨wM.heap.size, 2, none⟩ = some (.bool (K1).n) ∧ w2.cell? ⟨wM.heap.size, 3, none⟩ = some (.bool (K1).r) ∧ w2.cell? ⟨wM.heap.size, 4, none⟩ = some (.bool (K1).e) ∧ w2.cell? ⟨wM.heap.size, 5, none⟩ = some (.bool (K1).m) ∧ w2.cell? ⟨wM.heap.size, 6, none⟩ = some (.bool (K1).d) ∧ w2.cell? ⟨wM.heap.size, 7, none⟩ = some (.int .i64 (K1).c) ∧ w2.cell? ⟨wM.heap.size, 8, none⟩ = some (.int .i64 (K1).k) ∧ w2.cell? ⟨wM.heap.size, 9, none⟩ = some (.int .i64 (K1).a) ∧ w2.cell? ⟨wM.heap.size, 10, none⟩ = some (.int .i64 (K1).l) ∧ w2.cell? ⟨wN.heap.size, 0, none⟩ = some (vs1) ∧ w2.cell? ⟨wN.heap.size, 1, none⟩ = some (.int .i64 (K1).p) ∧ w2.cell? ⟨wN.heap.size, 2, none⟩ = some (.bool (K1).n) ∧ w2.cell? ⟨wN.heap.size, 3, none⟩ = some (.bool (K1).r) ∧ w2.cell? ⟨wN.heap.size, 4, none⟩ = some (.bool (K1).e) ∧ w2.cell? ⟨wN.heap.size, 5, none⟩ = some (.bool (K1).m) ∧ w2.cell? ⟨wN.heap.size, 6, none⟩ = some (.bool (K1).d) ∧ w2.cell? ⟨wN.heap.size, 7, none⟩ = some (.int .i64 (K1).c) ∧ w2.cell? ⟨wN.heap.size, 8, none⟩ = some (.int .i64 (K1).k) ∧ w2.cell? ⟨wN.heap.size, 9, none⟩ = some (.int .i64 (K1).a) ∧ w2.cell? ⟨wN.heap.size, 10, none⟩ = some (.int .i64 (K1).l) ∧ w2.cell? ⟨W0.heap.size, 0, none⟩ = some ((.slice aS K.R.length cS)) ∧ w2.cell? ⟨W0.heap.size, 1, none⟩ = some (.int .i64 (K).p) ∧ w2.cell? ⟨W0.heap.size, 2, none⟩ = some (.bool (K).n) ∧ w2.cell? ⟨W0.heap.size, 3, none⟩ = some (.bool (K).r) ∧ w2.cell? ⟨W0.heap.size, 4, none⟩ = some (.bool (K).e) ∧ w2.cell? ⟨W0.heap.size, 5, none⟩ = some (.bool (K).m) ∧ w2.cell? ⟨W0.heap.size, 6, none⟩ = some (.bool (K).d) ∧ w2.cell? ⟨W0.heap.size, 7, none⟩ = some (.int .i64 (K).c) ∧ w2.cell? ⟨W0.heap.size, 8, none⟩ = some (.int .i64 (K).k) ∧ w2.cell? ⟨W0.heap.size, 9, none⟩ = some (.int .i64 (K).a) ∧ w2.cell? ⟨W0.heap.size, 10, none⟩ = some (.int .i64 (K).l) ∧ Bag [(wM.heap.size, 24, [vs2, .int .i64 (K1).p, .bool (K1).n, .bool (K1).r, .bool (K1).e, .bool (K1).m, .bool (K1).d, .int .i64 (K1).c, .int .i64 (K1).k, .int .i64 (K1).a, .int .i64 (K1).l]), (wN.heap.size, 24, [vs1, .int .i64 (K1).p, .bool (K1).n, .bool (K1).r, .bool (K1).e, .bool (K1).m, .bool (K1).d, .int .i64 (K1).c, .int .i64 (K1).k, .int .i64 (K1).a, .int .i64 (K1).l]), (W0.heap.size, 24, [(.slice aS K.R.length cS), .int .i64 (K).p, .bool (K).n, .bool (K).r, .bool (K).e, .bool (K).m, .bool (K).d, .int .i64 (K).c, .int .i64 (K).k, .int .i64 (K).a, .int .i64 (K).l])] W0 w2) (first | exact cells3T hX | exact cells3T hX.drew) (first | (go_at_call 11; (with_reducible refine (rsameT_any K1 hl1 vs1 vs2 _ (by first | exact hs1.now | exact (hs1.below (Below.refl _ _).drew).now) (by first | exact hs2.now | exact (hs2.below (Below.refl _ _).drew).now)).mono ?_); rintro e' wK ⟨rfl, hbb⟩; (first | (replace hX := hX.step hbb) | (replace hX := hX.drew.step hbb)); clear hbb hs1 hs2) | (go_at_call 12; (with_reducible refine (hRt _ (by first | exact hX.below | exact hX.drew.below)).mono ?_); rintro e' wR ⟨rfl, hbb⟩; (first | (replace hX := hX.step hbb) | (replace hX := hX.drew.step hbb)); clear hbb) | (go_at_call 13; (with_reducible refine (hRr _ (by first | exact hX.below | exact hX.drew.below)).mono ?_); rintro e' wR ⟨rfl, hbb⟩; (first | (replace hX := hX.step hbb) | (replace hX := hX.drew.step hbb)); clear hbb) | (go_at_call 14; (with_reducible refine (HA _ (by first | exact hX.below | exact hX.drew.below)).mono ?_); rintro e' wL ⟨rfl, hbb⟩; (first | (replace hX := hX.step hbb) | (replace hX := hX.drew.step hbb)); clear hbb))
  all_goals go_wp2
  all_goals go_ret
  all_goals exact ⟨rfl, hX.below⟩
end Go.Proofs.Ytigmlkfmgheegaa

/-
  What a command does: plain. TapePasses. Condition: the contracts; alive.
-/
namespace Go.Proofs.Ytigmlkfmgheegaa
open Go.RowKit
set_option linter.unusedSimpArgs false
set_option linter.unusedVariables false
set_option maxHeartbeats 4000000
set_option maxRecDepth 100000
attribute [local irreducible] wpQuiet

theorem tnT_less (K : Tp) (M B : List Int) : ∀ j : Nat, (j : Int) < K.l → tnT K M B j = ({ K with l := K.l - (j : Int) }, M, B)
  | 0, _ => by unfold tnT; simp
  | j + 1, h => by
    unfold tnT
    rw [tnT_less K M B j (by omega)]
    unfold Tp.tick
    dsimp only
    rw [if_neg (by omega), if_pos (by omega)]
    rw [show K.l - (j : Int) - 1 = K.l - ((j + 1 : Nat) : Int) by omega]
theorem tnT_full (K : Tp) (M B : List Int) (h : K.l = 16) : tnT K M B 16 = ({ K with l := 0, r := true } : Tp).done M B := by
  show (tnT K M B 15).1.tick (tnT K M B 15).2.1 (tnT K M B 15).2.2 = _
  rw [tnT_less K M B 15 (by omega)]
  unfold Tp.tick
  dsimp only
  rw [if_neg (by omega), if_neg (by omega)]
theorem cmdT_eq (K : Tp) (M B : List Int) (n : Int) (hr : K.r = true) (hn : 1 ≤ n ∧ n ≤ 6) : cmdT K M B n = ({ K with n := false, c := n, e := false, m := false, d := false, l := 0, r := true } : Tp).done M B := by
  unfold cmdT
  have e : (K.wr 0 (2 * n + 1)).1 = ({ K with n := false, c := n, e := false, m := false, d := false, r := false, l := 16 } : Tp) := by
    unfold Tp.wr
    rw [if_pos rfl, if_pos ⟨hr, by omega⟩]
    unfold Tp.go
    rw [show (2 * n + 1) / 2 % 8 = n by omega, if_neg (by omega), show decide ((2 * n + 1) / 64 % 2 = 1) = false from decide_eq_false (by omega)]
  rw [e, tnT_full _ M B rfl]
/-- Behind so many commands space forward. -/
def pasS (L : List ByteArray) (i : Nat) : Tp := ⟨L, (i : Int), false, true, false, (if i = 0 then false else decide ((L.getD (i - 1) ⟨#[]⟩).size = 0)), false, (if i = 0 then 0 else 3), 0, 0, 0⟩
def pasZ (L : List ByteArray) : Tp := ⟨L, (L.length : Int), false, true, true, false, true, 3, 0, 0, 0⟩
theorem pasS_step (L : List ByteArray) (i : Nat) (h : i < L.length) (M B : List Int) : cmdT (pasS L i) M B 3 = (pasS L (i + 1), M, B) := by
  rw [cmdT_eq _ M B 3 rfl (by decide)]
  unfold Tp.done
  dsimp only
  rw [if_neg (by decide), if_neg (by decide), if_pos rfl]
  unfold Tp.pass pasS recV
  dsimp only
  rw [if_neg (by omega)]
  simp
theorem pasS_end (L : List ByteArray) (M B : List Int) : cmdT (pasS L L.length) M B 3 = (pasZ L, M, B) := by
  rw [cmdT_eq _ M B 3 rfl (by decide)]
  unfold Tp.done
  dsimp only
  rw [if_neg (by decide), if_neg (by decide), if_pos rfl]
  unfold Tp.pass pasS pasZ
  dsimp only
  rw [if_pos (by omega)]
theorem pasS_right {L : List ByteArray} (h : (Tp.new L).right = true) (i : Nat) (hi : i ≤ L.length) : (pasS L i).right = true := by
  obtain ⟨⟨h1, h2, h3, h4, h5, h6, h7⟩, h8⟩ := (Tp.right_iff _).1 h
  exact tp_mk h1 (by omega) (by split <;> decide) (by decide) (by decide) (by decide) rfl h8
def X2t (M N b : Nat) : Prop := b = M ∨ b = N
theorem x2t_new {M N : Nat} : ∀ b, b < N → X2t M N b → XBt M b := fun b h h2 => by
  rcases h2 with h2 | h2
  · exact h2
  · omega
theorem x2t_lt {W0 w : World} {Ba Bc : Nat} {t1 t2 : TypeId} {c1 c2 : List Value} {l : List (Nat × TypeId × List Value)} (h : Bag ((Ba, t1, c1) :: (Bc, t2, c2) :: l) W0 w) : ∀ b, X2t Ba Bc b → b < w.heap.size := fun b hb => by
  rcases hb with rfl | rfl
  · exact (h.all _ _ _ (.head _)).lt
  · exact (h.all _ _ _ (.tail _ (.head _))).lt
def M256 : List Int := newL 256
theorem m256_right : rightP M256 [] = true := by decide +kernel
theorem newm_256 (w : World) : Calls Try.prog 36 #[.int .i64 256] w fun e w' => ∃ r, e = .returned (.tuple #[r, .int .i64 0]) ∧ Own w.heap.size w' r M256 ∧ Below w.heap.size w w' := by
  have h := new_any 256 w
  rw [show newE 256 = 0 by decide +kernel] at h
  exact h
theorem TapePasses_law (W0 : World) (H : TpC W0) (HA : AlT W0) (L : List ByteArray) (hl : L.length ≤ 9223372036854775807) (vl : Value) (hL : Sts W0 vl L) : Calls Try.prog 8 #[vl] W0 fun e' w' => e' = .returned (.bool true) ∧ Below W0.heap.size W0 w' := by
  obtain ⟨aL, cL, rfl, _, hcL⟩ := hL.form
  have hX := Bag.nil W0
  have hN := fun w (h : Below W0.heap.size W0 w) => H.new L (.slice aL L.length cL) (fun _ => False) w h hl (fun _ h => h.elim) (Rz.below hL h)
  by_cases hz : (newT L).2 = 0
  case neg =>
    have hzz : 64 < L.length ∨ (newT L).2 = 7 := by
      by_cases h : 64 < L.length
      · exact .inl h
      · right
        unfold newT at hz ⊢
        rw [if_neg h] at hz ⊢
        split
        · rename_i h2; rw [if_pos h2] at hz; exact absurd rfl hz
        · rfl
    generalize newT L = Q at *
    obtain ⟨K1, z⟩ := Q
    dsimp only at hN hz hzz
    have hz1 : (z != 0) = true := by simpa using hz
    by_cases h64 : 64 < L.length
    · have h64' : 64 < (L.length : Int) := by omega
      have d1 : decide (64 < (L.length : Int)) = true := decide_eq_true h64'
      clear hzz hcL
      go_enter Try.func8, Try.ntmps8
      go_wp2_with (first | (go_at_call 9; (with_reducible refine (hN _ hX.below).mono ?_); rintro e' wN ⟨x, rfl, ⟨vs1, rfl, hs1⟩, hbb⟩; replace hX := hX.step hbb; clear hbb) | ((with_reducible refine at_store ?_); refine wpList_bag_overV (cs' := [vs1, .int .i64 (K1).p, .bool (K1).n, .bool (K1).r, .bool (K1).e, .bool (K1).m, .bool (K1).d, .int .i64 (K1).c, .int .i64 (K1).k, .int .i64 (K1).a, .int .i64 (K1).l]) (hX.new 24 [.slice none 0 0, .int .i64 0, .bool false, .bool false, .bool false, .bool false, .bool false, .int .i64 0, .int .i64 0, .int .i64 0, .int .i64 0]) aggT sizT _ _ rfl rfl rfl rfl rfl rfl rfl rfl (one_tp (sts_one hs1.now) _ _ _ _ _ _ _ _ _ _) ?_; clear hX; intro wy hX hkz; replace hs1 := ((hs1.weak ((Below.refl _ _).alloc (Nat.le_refl _) (.cells ([.slice none 0 0, .int .i64 0, .bool false, .bool false, .bool false, .bool false, .bool false, .int .i64 0, .int .i64 0, .int .i64 0, .int .i64 0] : List Value).toArray 24)) xbt_new : StsX (XBt wN.heap.size) _ _ _)).over hkz rfl; clear hkz) | (go_at_call 14; (with_reducible refine (HA _ hX.below).mono ?_); rintro e' wL ⟨rfl, hbb⟩; replace hX := hX.step hbb; clear hbb))
      go_ret
      exact ⟨rfl, hX.below⟩
    · have d1 : decide (64 < (L.length : Int)) = false := decide_eq_false (by omega)
      obtain rfl : z = 7 := hzz.resolve_left h64
      clear hzz hcL
      go_enter Try.func8, Try.ntmps8
      go_wp2_with (first | (go_at_call 9; (with_reducible refine (hN _ hX.below).mono ?_); rintro e' wN ⟨x, rfl, ⟨vs1, rfl, hs1⟩, hbb⟩; replace hX := hX.step hbb; clear hbb) | ((with_reducible refine at_store ?_); refine wpList_bag_overV (cs' := [vs1, .int .i64 (K1).p, .bool (K1).n, .bool (K1).r, .bool (K1).e, .bool (K1).m, .bool (K1).d, .int .i64 (K1).c, .int .i64 (K1).k, .int .i64 (K1).a, .int .i64 (K1).l]) (hX.new 24 [.slice none 0 0, .int .i64 0, .bool false, .bool false, .bool false, .bool false, .bool false, .int .i64 0, .int .i64 0, .int .i64 0, .int .i64 0]) aggT sizT _ _ rfl rfl rfl rfl rfl rfl rfl rfl (one_tp (sts_one hs1.now) _ _ _ _ _ _ _ _ _ _) ?_; clear hX; intro wy hX hkz; replace hs1 := ((hs1.weak ((Below.refl _ _).alloc (Nat.le_refl _) (.cells ([.slice none 0 0, .int .i64 0, .bool false, .bool false, .bool false, .bool false, .bool false, .int .i64 0, .int .i64 0, .int .i64 0, .int .i64 0] : List Value).toArray 24)) xbt_new : StsX (XBt wN.heap.size) _ _ _)).over hkz rfl; clear hkz) | (go_at_call 14; (with_reducible refine (HA _ hX.below).mono ?_); rintro e' wL ⟨rfl, hbb⟩; replace hX := hX.step hbb; clear hbb))
      go_ret
      exact ⟨rfl, hX.below⟩
  obtain ⟨hn1, hn2⟩ := newT_right hz
  rw [hz, hn1, show Tp.new L = pasS L 0 from rfl] at hN
  clear hz hn1
  have hmN := newm_256
  have hR := fun i hi => pasS_right hn2 i hi
  have hC := fun (i : Nat) (hi : i < L.length) (X : Nat → Prop) vs vm vz w (h : Below W0.heap.size W0 w) h2 (h3 : StsX X w vs L) h4 h5 => command_any W0 H (pasS L i) M256 [] 3 (by decide) (hR i (by omega)) m256_right vs vm vz w h X h2 h3 h4 h5
  have hE := fun (X : Nat → Prop) vs vm vz w (h : Below W0.heap.size W0 w) h2 (h3 : StsX X w vs L) h4 h5 => command_any W0 H (pasS L L.length) M256 [] 3 (by decide) (hR L.length (by omega)) m256_right vs vm vz w h X h2 h3 h4 h5
  have hC2 := fun (i : Nat) (hi : i < L.length) => pasS_step L i hi M256 []
  have hst : ∀ i (hi : i < L.length), pasS L (i + 1) = ⟨L, ((i : Int) + 1), false, true, false, decide ((L[i]).size = 0), false, 3, 0, 0, 0⟩ := fun i hi => by
    unfold pasS; simp [hi]
  rw [pasS_end] at hE
  unfold pasZ at hE
  clear hn2 hR
  generalize M256 = M0 at *
  go_enter Try.func8, Try.ntmps8
  go_wp2_with (first | (go_at_call 9; (with_reducible refine (hN _ hX.below).mono ?_); rintro e' wN ⟨x, rfl, ⟨vs1, rfl, hs1⟩, hbb⟩; replace hX := hX.step hbb; clear hbb) | ((with_reducible refine at_store ?_); refine wpList_bag_overV (cs' := [vs1, .int .i64 ((pasS L 0)).p, .bool ((pasS L 0)).n, .bool ((pasS L 0)).r, .bool ((pasS L 0)).e, .bool ((pasS L 0)).m, .bool ((pasS L 0)).d, .int .i64 ((pasS L 0)).c, .int .i64 ((pasS L 0)).k, .int .i64 ((pasS L 0)).a, .int .i64 ((pasS L 0)).l]) (hX.new 24 [.slice none 0 0, .int .i64 0, .bool false, .bool false, .bool false, .bool false, .bool false, .int .i64 0, .int .i64 0, .int .i64 0, .int .i64 0]) aggT sizT _ _ rfl rfl rfl rfl rfl rfl rfl rfl (one_tp (sts_one hs1.now) _ _ _ _ _ _ _ _ _ _) ?_; clear hX; intro wy hX hkz; replace hs1 := ((hs1.weak ((Below.refl _ _).alloc (Nat.le_refl _) (.cells ([.slice none 0 0, .int .i64 0, .bool false, .bool false, .bool false, .bool false, .bool false, .int .i64 0, .int .i64 0, .int .i64 0, .int .i64 0] : List Value).toArray 24)) xbt_new : StsX (XBt wN.heap.size) _ _ _)).over hkz rfl; clear hkz) | (go_at_call 36; (with_reducible refine (hmN _).mono ?_); rintro e' wM ⟨vm, rfl, ho, hbb⟩; have hm := its_own (xbt_lt hX) ho; replace hX := hX.step hbb; replace hs1 := hs1.below hbb; obtain ⟨A6, c6, rfl, _⟩ := hm.now.form; clear hbb ho) | ((with_reducible refine at_store ?_); refine wpList_bag_overV (cs' := [.slice A6 M0.length c6, .slice none 0 0]) (hX.new 44 [.slice none 0 0, .slice none 0 0]) aggSt sizSt _ _ rfl rfl rfl rfl rfl rfl rfl rfl (one_st rfl rfl) ?_; clear hX; intro wS hX hkz; replace hs1 := ((hs1.weak ((Below.refl _ _).alloc (Nat.le_refl _) (.cells ([.slice none 0 0, .slice none 0 0] : List Value).toArray 44)) x2t_new : StsX (X2t wN.heap.size wM.heap.size) _ _ _)).over hkz (.inr rfl); replace hm := ((hm.weak ((Below.refl _ _).alloc (Nat.le_refl _) (.cells ([.slice none 0 0, .slice none 0 0] : List Value).toArray 44)) x2t_new : ItsX (X2t wN.heap.size wM.heap.size) _ _ _)).over hkz (.inr rfl); replace hX := hX.swap; clear hkz))
  have hz : ItsX (X2t wN.heap.size wM.heap.size) wS (.slice none 0 0) [] := Sv.nil _ _
  go_loopw [8] (fun iv wr => ∃ (i : Nat) (vs vm vz : Value), i ≤ L.length ∧ iv = .int .i64 i ∧ StsX (X2t wN.heap.size wM.heap.size) wr vs L ∧ ItsX (X2t wN.heap.size wM.heap.size) wr vm M0 ∧ ItsX (X2t wN.heap.size wM.heap.size) wr vz [] ∧ Bag [(wN.heap.size, 24, [vs, .int .i64 ((pasS L i)).p, .bool ((pasS L i)).n, .bool ((pasS L i)).r, .bool ((pasS L i)).e, .bool ((pasS L i)).m, .bool ((pasS L i)).d, .int .i64 ((pasS L i)).c, .int .i64 ((pasS L i)).k, .int .i64 ((pasS L i)).a, .int .i64 ((pasS L i)).l]), (wM.heap.size, 44, [vm, vz])] W0 wr) (fun iv _ => match iv with | .int _ q => L.length - q.toNat | _ => 0)
  case atStart => exact ⟨0, _, _, _, Nat.zero_le _, rfl, hs1, hm, hz, hX⟩
  case round =>
    clear hX hs1 hm hz
    obtain ⟨i, vs1, vm, vz, hi, rfl, hs1, hm, hz, hX⟩ := hrel
    by_cases hin : i < L.length
    · have hii : (i : Int) < (L.length : Int) := by omega
      have hx := List.getElem?_eq_getElem hin
      have hst := hst i hin
      generalize L[i] = x at *
      obtain ⟨ad, rfl, hld⟩ := hcL i x hx
      have hC2 := hC2 i hin
      have x1 : IntKind.i64.wrap ((i : Int) + 1) = (i : Int) + 1 := by rw [wrap_i64]; unfold wrap64; omega
      have hse := str_empty x
      obtain ⟨mk, hmk⟩ : ∃ mk, decide (x.size = 0) = mk := ⟨_, rfl⟩
      rw [hmk] at hse hst
      clear hmk
      replace hC := hC i hin
      rw [hC2, hst] at hC
      dsimp only at hC
      clear hcL hx hE hN hmN
      go_wp2_with (first | ((with_reducible refine at_load ?_); refine wpList_bag_part (k := 0) hX aggT sizT _ rfl rfl rfl rfl (by first | exact .head _ | exact .tail _ (.head _)) (fun jz vz hz => (congrArg (fun n => ([_, _, _, _, _, _, _, _, _, _, _] : List Value)[n]?) (Nat.zero_add jz)).trans hz) rfl ?_) | ((with_reducible refine at_load ?_); refine wpList_bag_part (k := 0) hX aggSt sizSt _ rfl rfl rfl rfl (by first | exact .head _ | exact .tail _ (.head _)) (fun jz vz hz => (congrArg (fun n => ([_, _] : List Value)[n]?) (Nat.zero_add jz)).trans hz) rfl ?_) | (go_at_call 34; (with_reducible refine (hC (X2t wN.heap.size wM.heap.size) vs1 vm vz _ hX.below (x2t_lt hX) hs1 hm hz).mono ?_); rintro e' wC ⟨x, ym, yz, rfl, ⟨vs2, rfl, hs2⟩, hm2, hz2, hbb⟩; replace hX := hX.step hbb; dsimp only at hs2; clear hbb hs1 hm hz) | ((with_reducible refine at_store ?_); refine wpList_bag_overV (cs' := [vs2, .int .i64 ((i : Int) + 1), .bool false, .bool true, .bool false, .bool mk, .bool false, .int .i64 3, .int .i64 0, .int .i64 0, .int .i64 0]) hX aggT sizT _ _ rfl rfl rfl rfl rfl rfl rfl rfl (one_tp (sts_one hs2.now) _ _ _ _ _ _ _ _ _ _) ?_; clear hX; intro wz hX hkz; replace hs2 := hs2.over hkz (by first | exact .inl rfl | exact .inr rfl); replace hm2 := hm2.over hkz (by first | exact .inl rfl | exact .inr rfl); replace hz2 := hz2.over hkz (by first | exact .inl rfl | exact .inr rfl); clear hkz) | ((with_reducible refine at_store ?_); refine wpList_bag_overV (cs' := [ym, yz]) hX.swap aggSt sizSt _ _ rfl rfl rfl rfl rfl rfl rfl rfl (one_st (its_one hm2.now) (its_one hz2.now)) ?_; clear hX; intro wq2 hX hkz; replace hs2 := hs2.over hkz (by first | exact .inl rfl | exact .inr rfl); replace hm2 := hm2.over hkz (by first | exact .inl rfl | exact .inr rfl); replace hz2 := hz2.over hkz (by first | exact .inl rfl | exact .inr rfl); replace hX := hX.swap; clear hkz))
      refine region_class (fun w' => Bag [(wN.heap.size, 24, [vs2, .int .i64 ((i : Int) + 1), .bool false, .bool true, .bool false, .bool mk, .bool false, .int .i64 3, .int .i64 0, .int .i64 0, .int .i64 0]), (wM.heap.size, 44, [ym, yz])] W0 w' ∧ Below wq2.heap.size wq2 w') (by kernel_rfl) (by kernel_rfl) ⟨hX.drew, (Below.refl _ _).drew⟩ ?_
      repeat
        first
          | (refine BigFrame.wpQuiet_skip (by rfl) ?_
             simp only [Act.put, List.setIfInBounds_toArray, List.set_cons_zero, List.set_cons_succ])
          | (refine BigFrame.wpQuiet_want (by rfl) (fun K hK => ?_)
             apply Exists.intro
             refine ⟨fun wq hq => ?_, hK _ ?_⟩
             · first
                 | (refine quiet_load 3 _ _ _ rfl rfl ((hq.1.all _ _ _ (.head _)).loadCell rfl int_cell))
                 | (refine quiet_load 4 _ _ _ rfl rfl ((hq.1.all _ _ _ (.head _)).loadCell rfl bool_cell))
                 | (refine quiet_load 9 _ _ _ rfl rfl (hld _ hq.1.below))
                 | (unfold Oper.quietAt
                    go_simp
                    first
                      | with_reducible rfl
                   )
             clear hK K
             simp only [Act.put, List.setIfInBounds_toArray, List.set_cons_zero, List.set_cons_succ])
      refine wpQuiet_nil ?_
      intro w4 hq4
      obtain ⟨hX2, hb4⟩ := hq4
      go_wp2
      exact ⟨⟨i + 1, _, _, _, by omega, by go_num, hs2.below hb4, hm2.below hb4, hz2.below hb4, by rw [hst]; exact hX2⟩, by simp only; omega⟩
    · obtain rfl : i = L.length := by omega
      have hii : ¬ (L.length : Int) < (L.length : Int) := by omega
      clear hC hC2 hst hN hmN
      go_wp2_with (first | ((with_reducible refine at_load ?_); refine wpList_bag_part (k := 0) hX aggT sizT _ rfl rfl rfl rfl (by first | exact .head _ | exact .tail _ (.head _)) (fun jz vz hz => (congrArg (fun n => ([_, _, _, _, _, _, _, _, _, _, _] : List Value)[n]?) (Nat.zero_add jz)).trans hz) rfl ?_) | ((with_reducible refine at_load ?_); refine wpList_bag_part (k := 0) hX aggSt sizSt _ rfl rfl rfl rfl (by first | exact .head _ | exact .tail _ (.head _)) (fun jz vz hz => (congrArg (fun n => ([_, _] : List Value)[n]?) (Nat.zero_add jz)).trans hz) rfl ?_) | ((with_reducible refine at_load ?_); refine wpList_bag_cell hX slI_cell _ rfl rfl rfl rfl (by first | exact .head _ | exact .tail _ (.head _)) rfl ?_) | ((with_reducible refine at_load ?_); refine wpList_bag_cell hX slS_cell _ rfl rfl rfl rfl (by first | exact .head _ | exact .tail _ (.head _)) rfl ?_) | ((with_reducible refine at_load ?_); refine wpList_bag_cell hX int_cell _ rfl rfl rfl rfl (by first | exact .head _ | exact .tail _ (.head _)) rfl ?_) | ((with_reducible refine at_load ?_); refine wpList_bag_cell hX bool_cell _ rfl rfl rfl rfl (by first | exact .head _ | exact .tail _ (.head _)) rfl ?_) | (go_at_call 34; (with_reducible refine (hE (X2t wN.heap.size wM.heap.size) vs1 vm vz _ hX.below (x2t_lt hX) hs1 hm hz).mono ?_); rintro e' wC ⟨x, ym, yz, rfl, ⟨vs2, rfl, hs2⟩, hm2, hz2, hbb⟩; replace hX := hX.step hbb; clear hbb hs1 hm hz) | ((with_reducible refine at_store ?_); refine wpList_bag_overV (cs' := [vs2, .int .i64 (L.length : Int), .bool false, .bool true, .bool true, .bool false, .bool true, .int .i64 3, .int .i64 0, .int .i64 0, .int .i64 0]) hX aggT sizT _ _ rfl rfl rfl rfl rfl rfl rfl rfl (one_tp (sts_one hs2.now) _ _ _ _ _ _ _ _ _ _) ?_; clear hX; intro wz hX hkz; replace hs2 := hs2.over hkz (by first | exact .inl rfl | exact .inr rfl); replace hm2 := hm2.over hkz (by first | exact .inl rfl | exact .inr rfl); replace hz2 := hz2.over hkz (by first | exact .inl rfl | exact .inr rfl); clear hkz) | (go_at_call 14; (with_reducible refine (HA _ hX.below).mono ?_); rintro e' wL ⟨rfl, hbb⟩; replace hX := hX.step hbb; clear hbb))
      go_ret
      exact ⟨rfl, hX.below⟩
end Go.Proofs.Ytigmlkfmgheegaa

/-
  Rows of deeds; TapeStays. Condition: the contracts; alive.
-/
namespace Go.Proofs.Ytigmlkfmgheegaa
open Go.RowKit
set_option linter.unusedSimpArgs false
set_option linter.unusedVariables false
set_option maxHeartbeats 4000000
set_option maxRecDepth 100000
attribute [local irreducible] wpQuiet

/-- The cells of deeds. -/
def flat3 (l : List (Int × Int × Int)) : List Value := l.flatMap fun q => [.int .i64 q.1, .int .i64 q.2.1, .int .i64 q.2.2]
theorem flat3_append (a b : List (Int × Int × Int)) : flat3 (a ++ b) = flat3 a ++ flat3 b := List.flatMap_append
theorem flat3_length (l : List (Int × Int × Int)) : (flat3 l).length = l.length * 3 := by
  induction l with
  | nil => rfl
  | cons q l ih => show ([_, _, _] ++ flat3 l).length = _; rw [List.length_append, ih]; simp; omega
theorem flat3_get {l : List (Int × Int × Int)} {k : Nat} {q : Int × Int × Int} (hq : l[k]? = some q) : ∀ j v, ([.int .i64 q.1, .int .i64 q.2.1, .int .i64 q.2.2] : List Value)[j]? = some v → (flat3 l)[k * 3 + j]? = some v := by
  have hk : k < l.length := (List.getElem?_eq_some_iff.1 hq).1
  intro j v hv
  have e : flat3 l = flat3 (l.take k) ++ ([.int .i64 q.1, .int .i64 q.2.1, .int .i64 q.2.2] ++ flat3 (l.drop (k + 1))) := by
    have e1 : flat3 (l.drop k) = [.int .i64 q.1, .int .i64 q.2.1, .int .i64 q.2.2] ++ flat3 (l.drop (k + 1)) := by
      rw [List.drop_eq_getElem_cons hk, (List.getElem?_eq_some_iff.1 hq).2]; rfl
    rw [← e1, ← flat3_append, List.take_append_drop]
  have hl : (flat3 (l.take k)).length = k * 3 := by rw [flat3_length, List.length_take, Nat.min_eq_left (by omega)]
  rw [e, List.getElem?_append_right (by omega), hl, show k * 3 + j - k * 3 = j from by omega]
  rw [List.getElem?_append_left (List.getElem?_eq_some_iff.1 hv).1]; exact hv
/-- A slice of deeds that reads as l. -/
def Dds (w : World) (v : Value) (l : List (Int × Int × Int)) : Prop := Rw w v l.length (flat3 l)
theorem aggDe (w : World) : (isAgg 51).run Try.prog w = .ok true w := by kernel_rfl
theorem sizDe (w : World) : (sizeOf 51).run Try.prog w = .ok 3 w := by kernel_rfl
theorem Dds.load {w : World} {a : Addr} {n c k : Nat} {l : List (Int × Int × Int)} {q : Int × Int × Int} (h : Dds w (.slice (some a) n c) l) (hn : n = l.length) (hq : l[k]? = some q) : (Instr.loadAt 51 (.pointer (some (a.add (k * 3))))).run Try.prog w = .ok (.agg #[.int .i64 q.1, .int .i64 q.2.1, .int .i64 q.2.2]) w := by
  subst hn
  exact Rw.loadAt (k := k) (s := 3) h (flat3_get hq) rfl aggDe sizDe
theorem new_keepT {w w2 : World} {o : Obj} {X : Nat → Prop} (hk : ∀ k, k ≠ w.heap.size → w2.heap[k]? = (w.alloc o).heap[k]?) : ∀ b, b < w.heap.size → ¬ X b → w2.heap[b]? = w.heap[b]? := fun b hb _ => (hk b (by omega)).trans (((Below.refl w.heap.size w).alloc (Nat.le_refl _) o).block b hb)
theorem one_de (a b c : Int) : ∀ x ∈ ([.int .i64 a, .int .i64 b, .int .i64 c] : List Value), x.oneCell' = true := by
  intro x hx; simp at hx; rcases hx with rfl | rfl | rfl <;> rfl
theorem Bag.two3 {w0 w : World} {a b c : Nat × TypeId × List Value} (h : Bag [a, b, c] w0 w) : Bag [a, b] w0 w := h.sub (.cons_cons _ (.cons_cons _ (.cons _ (.refl _))))
theorem KeptT.wr {K : Tp} {M B : List Int} {K1 K2 : Tp} {M1 B1 : List Int} (h : KeptT K M B (K1, M1, B1)) (h2 : K2.right = true) : KeptT K M B (K2, M1, B1) := ⟨h2, h.mem, h.ml, h.bl⟩
theorem KeptT.ti {K : Tp} {M B : List Int} {K1 : Tp} {M1 B1 : List Int} (h : KeptT K M B (K1, M1, B1)) : KeptT K M B (K1.tick M1 B1) := h.trans (tickT_kept h.right h.mem)
theorem TapeStays_law (W0 : World) (H : TpC W0) (HA : AlT W0) (K : Tp) (M B : List Int) (l : List (Int × Int × Int)) (vs vm vz vd : Value) (hs : Sts W0 vs K.R) (hvm : Its W0 vm M) (hvz : Its W0 vz B) (hd : Dds W0 vd l) : Calls Try.prog 6 #[.agg #[vs, .int .i64 (K).p, .bool (K).n, .bool (K).r, .bool (K).e, .bool (K).m, .bool (K).d, .int .i64 (K).c, .int .i64 (K).k, .int .i64 (K).a, .int .i64 (K).l], .agg #[vm, vz], vd] W0 fun e' w' => e' = .returned (.bool true) ∧ Below W0.heap.size W0 w' := by
  have hF : ∀ w, Below W0.heap.size W0 w → Calls Try.prog 28 #[.agg #[vs, .int .i64 (K).p, .bool (K).n, .bool (K).r, .bool (K).e, .bool (K).m, .bool (K).d, .int .i64 (K).c, .int .i64 (K).k, .int .i64 (K).a, .int .i64 (K).l], .agg #[vm, vz]] w fun e' w' => e' = .returned (.bool (smallT K M B)) ∧ Below w.heap.size w w' := fun w h => small_any K M B vs vm vz w (Rz.below hs h) (Rz.below hvm h) (Rz.below hvz h)
  have hd0 := hd
  obtain ⟨AA, cc, rfl, _, hcd⟩ := hd
  have hX := (two_bag W0 24 44 [vs, .int .i64 (K).p, .bool (K).n, .bool (K).r, .bool (K).e, .bool (K).m, .bool (K).d, .int .i64 (K).c, .int .i64 (K).k, .int .i64 (K).a, .int .i64 (K).l] [vm, vz]).swap
  cases hf : smallT K M B
  · rw [hf] at hF
    clear hcd
    go_enter Try.func6, Try.ntmps6
    go_wp2_with (first | ((with_reducible refine at_load ?_); refine wpList_bag_part (k := 0) hX aggT sizT _ rfl rfl rfl rfl (by first | exact .head _ | exact .tail _ (.head _)) (fun jz vz hz => (congrArg (fun n => ([_, _, _, _, _, _, _, _, _, _, _] : List Value)[n]?) (Nat.zero_add jz)).trans hz) rfl ?_) | ((with_reducible refine at_load ?_); refine wpList_bag_part (k := 0) hX aggSt sizSt _ rfl rfl rfl rfl (by first | exact .head _ | exact .tail _ (.head _)) (fun jz vz hz => (congrArg (fun n => ([_, _] : List Value)[n]?) (Nat.zero_add jz)).trans hz) rfl ?_) | (go_at_call 28; (with_reducible refine (hF _ hX.below).mono ?_); rintro e' wF ⟨rfl, hbb⟩; replace hX := hX.step hbb; clear hbb) | (go_at_call 14; (with_reducible refine (HA _ hX.below).mono ?_); rintro e' wL ⟨rfl, hbb⟩; replace hX := hX.step hbb; clear hbb))
    go_ret
    exact ⟨rfl, hX.below⟩
  rw [hf] at hF
  by_cases h40 : 40 < l.length
  · have h40' : 40 < (l.length : Int) := by omega
    have d40 : decide (40 < (l.length : Int)) = true := decide_eq_true h40'
    clear hcd
    go_enter Try.func6, Try.ntmps6
    go_wp2_with (first | ((with_reducible refine at_load ?_); refine wpList_bag_part (k := 0) hX aggT sizT _ rfl rfl rfl rfl (by first | exact .head _ | exact .tail _ (.head _)) (fun jz vz hz => (congrArg (fun n => ([_, _, _, _, _, _, _, _, _, _, _] : List Value)[n]?) (Nat.zero_add jz)).trans hz) rfl ?_) | ((with_reducible refine at_load ?_); refine wpList_bag_part (k := 0) hX aggSt sizSt _ rfl rfl rfl rfl (by first | exact .head _ | exact .tail _ (.head _)) (fun jz vz hz => (congrArg (fun n => ([_, _] : List Value)[n]?) (Nat.zero_add jz)).trans hz) rfl ?_) | (go_at_call 28; (with_reducible refine (hF _ hX.below).mono ?_); rintro e' wF ⟨rfl, hbb⟩; replace hX := hX.step hbb; clear hbb) | (go_at_call 14; (with_reducible refine (HA _ hX.below).mono ?_); rintro e' wL ⟨rfl, hbb⟩; replace hX := hX.step hbb; clear hbb))
    go_ret
    exact ⟨rfl, hX.below⟩
  have d40 : decide (40 < (l.length : Int)) = false := decide_eq_false (by omega)
  obtain ⟨h1, h2, h3, hR, hM⟩ := (smallT_iff K M B).1 hf
  have hk0 : KeptT K M B (K, M, B) := .refl hR hM
  have hRt : ∀ (K2 : Tp) (M2 B2 : List Int) (hk : KeptT K M B (K2, M2, B2)) (vs : Value) (w : World), Below W0.heap.size W0 w → Sts w vs K2.R → Calls Try.prog 12 #[.agg #[vs, .int .i64 (K2).p, .bool (K2).n, .bool (K2).r, .bool (K2).e, .bool (K2).m, .bool (K2).d, .int .i64 (K2).c, .int .i64 (K2).k, .int .i64 (K2).a, .int .i64 (K2).l]] w fun e' w' => e' = .returned (.bool true) ∧ Below w.heap.size w w' := fun K2 M2 B2 hk vs w h1 h2 => by
    have h := H.right K2 vs w h1 (by have h5 : K2.right = true := hk.right; have := ((Tp.right_iff _).1 h5).1.1; omega) h2
    rw [show K2.right = true from hk.right] at h
    exact h
  have hMt : ∀ (K2 : Tp) (M2 B2 : List Int) (hk : KeptT K M B (K2, M2, B2)) (vm vz : Value) (w : World), Its w vm M2 → Its w vz B2 → Calls Try.prog 32 #[vm, vz] w fun e' w' => e' = .returned (.bool true) ∧ w = w' := fun K2 M2 B2 hk vm vz w h1 h2 => by
    have hm2 : M2.length = M.length := hk.ml
    have hb2 : B2.length ≤ B.length := hk.bl
    have h := right_any vm vz M2 B2 (by omega) (by omega) w (Its.nums h1) (Its.nums h2)
    rw [show rightP M2 B2 = true from hk.mem] at h
    exact h
  have hs1 : StsX (X2t W0.heap.size (W0.heap.size + 1)) W0 vs K.R := sts_argT hs (Below.refl _ _) (fun b hb hx => by rcases hx with h | h <;> omega)
  have hm1 : ItsX (X2t W0.heap.size (W0.heap.size + 1)) W0 vm M := its_argT hvm (Below.refl _ _) (fun b hb hx => by rcases hx with h | h <;> omega)
  have hz1 : ItsX (X2t W0.heap.size (W0.heap.size + 1)) W0 vz B := its_argT hvz (Below.refl _ _) (fun b hb hx => by rcases hx with h | h <;> omega)
  clear hf h1 h2 h3 hR hM
  go_enter Try.func6, Try.ntmps6
  go_wp2_with (first | ((with_reducible refine at_load ?_); refine wpList_bag_part (k := 0) hX aggT sizT _ rfl rfl rfl rfl (by first | exact .head _ | exact .tail _ (.head _)) (fun jz vz hz => (congrArg (fun n => ([_, _, _, _, _, _, _, _, _, _, _] : List Value)[n]?) (Nat.zero_add jz)).trans hz) rfl ?_) | ((with_reducible refine at_load ?_); refine wpList_bag_part (k := 0) hX aggSt sizSt _ rfl rfl rfl rfl (by first | exact .head _ | exact .tail _ (.head _)) (fun jz vz hz => (congrArg (fun n => ([_, _] : List Value)[n]?) (Nat.zero_add jz)).trans hz) rfl ?_) | (go_at_call 28; (with_reducible refine (hF _ hX.below).mono ?_); rintro e' wF ⟨rfl, hbb⟩; replace hX := hX.step hbb; clear hbb))
  go_loopw [7] (fun iv wr => ∃ (i : Nat) (K1 : Tp) (M1 B1 : List Int) (vs vm vz : Value), i ≤ l.length ∧ iv = .int .i64 i ∧ KeptT K M B (K1, M1, B1) ∧ StsX (X2t W0.heap.size (W0.heap.size + 1)) wr vs K1.R ∧ ItsX (X2t W0.heap.size (W0.heap.size + 1)) wr vm M1 ∧ ItsX (X2t W0.heap.size (W0.heap.size + 1)) wr vz B1 ∧ Bag [(W0.heap.size, 24, [vs, .int .i64 (K1).p, .bool (K1).n, .bool (K1).r, .bool (K1).e, .bool (K1).m, .bool (K1).d, .int .i64 (K1).c, .int .i64 (K1).k, .int .i64 (K1).a, .int .i64 (K1).l]), (W0.heap.size + 1, 44, [vm, vz])] W0 wr) (fun iv _ => match iv with | .int _ q => l.length - q.toNat | _ => 0)
  case atStart => exact ⟨0, K, M, B, _, _, _, Nat.zero_le _, rfl, hk0, hs1.below hX.below, hm1.below hX.below, hz1.below hX.below, hX⟩
  case round =>
    clear hX hs1 hm1 hz1 hF hs hvm hvz hk0
    obtain ⟨i, K1, M1, B1, vs, vm, vz, hi, rfl, hk, hs, hm, hz, hX⟩ := hrel
    by_cases hin : i < l.length
    case neg =>
      obtain rfl : i = l.length := by omega
      have hii : ¬ (l.length : Int) < (l.length : Int) := by omega
      clear hcd hRt hMt
      go_wp2_with (first | (go_at_call 14; (with_reducible refine (HA _ hX.below).mono ?_); rintro e' wL ⟨rfl, hbb⟩; replace hX := hX.step hbb; clear hbb))
      go_ret
      exact ⟨rfl, hX.below⟩
    have hii : (i : Int) < (l.length : Int) := by omega
    have hu := List.getElem?_eq_getElem hin
    obtain ⟨uu, hui⟩ : ∃ uu, l[i] = uu := ⟨_, rfl⟩
    rw [hui] at hu
    obtain ⟨u, g, n⟩ := uu
    obtain ⟨ad, rfl, _⟩ := hcd (i * 3) (.int .i64 u) (flat3_get hu 0 _ rfl)
    have hld : ∀ w', Below W0.heap.size W0 w' → (Instr.loadAt 51 (.pointer (some (ad.add (i * 3))))).run Try.prog w' = .ok (.agg #[.int .i64 u, .int .i64 g, .int .i64 n]) w' := fun w' hb => Dds.load (Rw.below hd0 hb) rfl hu
    have qW := fun w (h : Below W0.heap.size W0 w) hY h1 => H.write K1 g n vs (X2t W0.heap.size (W0.heap.size + 1)) w h hk.right hY h1
    have qT := fun w (h : Below W0.heap.size W0 w) hY h1 h2 h3 => H.tick K1 M1 B1 vs vm vz (X2t W0.heap.size (W0.heap.size + 1)) w h hk.right hk.mem hY h1 h2 h3
    have qR := fun w (h : Below W0.heap.size W0 w) hY h1 => H.reset K1 vs (X2t W0.heap.size (W0.heap.size + 1)) w h hk.right hY h1
    have qM := fun w (h : Below W0.heap.size W0 w) hY h1 => H.mount K1 vs (X2t W0.heap.size (W0.heap.size + 1)) w h hk.right hY h1
    have qA := fun w (h : Below W0.heap.size W0 w) hY h1 => H.acc K1 n vs (X2t W0.heap.size (W0.heap.size + 1)) w h hk.right hY h1
    have kW := hk.wr (wrT_right (K := K1) hk.right g n)
    have kT := hk.ti
    have kR := hk.wr (resetT_right (K := K1) hk.right)
    have kM := hk.wr (mountT_right (K := K1) hk.right)
    have kA := hk.wr (accT_right (K := K1) hk.right n)
    obtain ⟨A5, c5, rfl, _⟩ := hm.now.form
    obtain ⟨A6, c6, rfl, _⟩ := hz.now.form
    clear hcd hu hui
    by_cases u0 : u = 0
    · subst u0
      go_wp2_with (first | ((with_reducible refine at_load ?_); refine wpList_bag_part (k := 0) hX aggT sizT _ rfl rfl rfl rfl (by first | exact .head _ | exact .tail _ (.head _) | exact .tail _ (.tail _ (.head _))) (fun jz vz hz => (congrArg (fun n => ([_, _, _, _, _, _, _, _, _, _, _] : List Value)[n]?) (Nat.zero_add jz)).trans hz) rfl ?_) | ((with_reducible refine at_load ?_); refine wpList_bag_cell hX slI_cell _ rfl rfl rfl rfl (by first | exact .head _ | exact .tail _ (.head _) | exact .tail _ (.tail _ (.head _))) rfl ?_) | ((with_reducible refine at_load ?_); refine wpList_bag_cell hX slS_cell _ rfl rfl rfl rfl (by first | exact .head _ | exact .tail _ (.head _) | exact .tail _ (.tail _ (.head _))) rfl ?_) | ((with_reducible refine at_load ?_); refine wpList_bag_cell hX int_cell _ rfl rfl rfl rfl (by first | exact .head _ | exact .tail _ (.head _) | exact .tail _ (.tail _ (.head _))) rfl ?_) | ((with_reducible refine at_load ?_); refine wpList_bag_cell hX bool_cell _ rfl rfl rfl rfl (by first | exact .head _ | exact .tail _ (.head _) | exact .tail _ (.tail _ (.head _))) rfl ?_) | ((with_reducible refine at_load ?_); refine wpList_loadW rfl 51 _ _ _ rfl rfl (hld _ hX.below) ?_) | ((with_reducible refine at_store ?_); refine wpList_bag_overV (cs' := [.int .i64 0, .int .i64 g, .int .i64 n]) (hX.new 51 [.int .i64 0, .int .i64 0, .int .i64 0]) aggDe sizDe _ _ rfl rfl rfl rfl rfl rfl rfl rfl (one_de 0 g n) ?_; clear hX; intro wD hX hkz; replace hs := hs.off (new_keepT hkz) (fun _ _ h => h); replace hm := hm.off (new_keepT hkz) (fun _ _ h => h); replace hz := hz.off (new_keepT hkz) (fun _ _ h => h); replace hX := hX.back3; clear hkz) | (go_at_call 17; (with_reducible refine (qW _ hX.below (x2t_lt hX) hs).mono ?_); rintro e' wC ⟨x, rfl, ⟨vs2, rfl, hs2⟩, hbb⟩; replace hX := hX.step hbb; replace hm := hm.below hbb; replace hz := hz.below hbb; clear hbb hs) | ((with_reducible refine at_store ?_); refine wpList_bag_overV (cs' := [vs2, .int .i64 ((K1.wr g n).1).p, .bool ((K1.wr g n).1).n, .bool ((K1.wr g n).1).r, .bool ((K1.wr g n).1).e, .bool ((K1.wr g n).1).m, .bool ((K1.wr g n).1).d, .int .i64 ((K1.wr g n).1).c, .int .i64 ((K1.wr g n).1).k, .int .i64 ((K1.wr g n).1).a, .int .i64 ((K1.wr g n).1).l]) hX aggT sizT _ _ rfl rfl rfl rfl rfl rfl rfl rfl (one_tp (sts_one hs2.now) _ _ _ _ _ _ _ _ _ _) ?_; clear hX; intro wz hX hkz; replace hs2 := hs2.over hkz (by first | exact .inl rfl | exact .inr rfl); replace hm := hm.over hkz (by first | exact .inl rfl | exact .inr rfl); replace hz := hz.over hkz (by first | exact .inl rfl | exact .inr rfl); clear hkz) | (go_at_call 12; (with_reducible refine (hRt (K1.wr g n).1 M1 B1 kW _ _ hX.below hs2.now).mono ?_); rintro e' wQ ⟨rfl, hbb⟩; replace hX := hX.step hbb; replace hs2 := hs2.below hbb; replace hm := hm.below hbb; replace hz := hz.below hbb; clear hbb) | (go_at_call 32; (with_reducible refine (hMt (K1.wr g n).1 M1 B1 kW _ _ _ hm.now hz.now).mono ?_); rintro e' wQ2 ⟨rfl, rfl⟩; skip))
      exact ⟨⟨i + 1, (K1.wr g n).1, M1, B1, _, _, _, by omega, by go_num, kW, hs2, hm, hz, hX.two3⟩, by simp only; omega⟩
    by_cases u1 : u = 1
    · subst u1
      go_wp2_with (first | ((with_reducible refine at_load ?_); refine wpList_bag_part (k := 0) hX aggT sizT _ rfl rfl rfl rfl (by first | exact .head _ | exact .tail _ (.head _) | exact .tail _ (.tail _ (.head _))) (fun jz vz hz => (congrArg (fun n => ([_, _, _, _, _, _, _, _, _, _, _] : List Value)[n]?) (Nat.zero_add jz)).trans hz) rfl ?_) | ((with_reducible refine at_load ?_); refine wpList_bag_cell hX slI_cell _ rfl rfl rfl rfl (by first | exact .head _ | exact .tail _ (.head _) | exact .tail _ (.tail _ (.head _))) rfl ?_) | ((with_reducible refine at_load ?_); refine wpList_bag_cell hX slS_cell _ rfl rfl rfl rfl (by first | exact .head _ | exact .tail _ (.head _) | exact .tail _ (.tail _ (.head _))) rfl ?_) | ((with_reducible refine at_load ?_); refine wpList_bag_cell hX int_cell _ rfl rfl rfl rfl (by first | exact .head _ | exact .tail _ (.head _) | exact .tail _ (.tail _ (.head _))) rfl ?_) | ((with_reducible refine at_load ?_); refine wpList_bag_cell hX bool_cell _ rfl rfl rfl rfl (by first | exact .head _ | exact .tail _ (.head _) | exact .tail _ (.tail _ (.head _))) rfl ?_) | ((with_reducible refine at_load ?_); refine wpList_loadW rfl 51 _ _ _ rfl rfl (hld _ hX.below) ?_) | ((with_reducible refine at_store ?_); refine wpList_bag_overV (cs' := [.int .i64 1, .int .i64 g, .int .i64 n]) (hX.new 51 [.int .i64 0, .int .i64 0, .int .i64 0]) aggDe sizDe _ _ rfl rfl rfl rfl rfl rfl rfl rfl (one_de 1 g n) ?_; clear hX; intro wD hX hkz; replace hs := hs.off (new_keepT hkz) (fun _ _ h => h); replace hm := hm.off (new_keepT hkz) (fun _ _ h => h); replace hz := hz.off (new_keepT hkz) (fun _ _ h => h); replace hX := hX.back3; clear hkz) | (go_at_call 29; (with_reducible refine (qT _ hX.below (x2t_lt hX) hs hm hz).mono ?_); rintro e' wC ⟨x, ym, yz, rfl, ⟨vs2, rfl, hs2⟩, hm2, hz2, hbb⟩; replace hX := hX.step hbb; obtain ⟨A7, c7, rfl, _⟩ := hm2.now.form; obtain ⟨A8, c8, rfl, _⟩ := hz2.now.form; clear hbb hs hm hz) | ((with_reducible refine at_store ?_); refine wpList_bag_overV (cs' := [vs2, .int .i64 ((K1.tick M1 B1).1).p, .bool ((K1.tick M1 B1).1).n, .bool ((K1.tick M1 B1).1).r, .bool ((K1.tick M1 B1).1).e, .bool ((K1.tick M1 B1).1).m, .bool ((K1.tick M1 B1).1).d, .int .i64 ((K1.tick M1 B1).1).c, .int .i64 ((K1.tick M1 B1).1).k, .int .i64 ((K1.tick M1 B1).1).a, .int .i64 ((K1.tick M1 B1).1).l]) hX aggT sizT _ _ rfl rfl rfl rfl rfl rfl rfl rfl (one_tp (sts_one hs2.now) _ _ _ _ _ _ _ _ _ _) ?_; clear hX; intro wz hX hkz; replace hs2 := hs2.over hkz (by first | exact .inl rfl | exact .inr rfl); replace hm2 := hm2.over hkz (by first | exact .inl rfl | exact .inr rfl); replace hz2 := hz2.over hkz (by first | exact .inl rfl | exact .inr rfl); clear hkz) | ((with_reducible refine at_store ?_); refine wpList_bag_putV (z := .slice _ _ _) hX.swap siz_I17 _ _ rfl rfl rfl rfl rfl rfl (by simp) rfl rfl ?_; intro wp hX3 hkz hz33; clear hz33; replace hs2 := hs2.over hkz (by first | exact .inl rfl | exact .inr rfl); replace hm2 := hm2.over hkz (by first | exact .inl rfl | exact .inr rfl); replace hz2 := hz2.over hkz (by first | exact .inl rfl | exact .inr rfl); clear hX; have hX := hX3.swap; clear hkz hX3; simp only [List.set_cons_zero, List.set_cons_succ] at hX) | (go_at_call 12; (with_reducible refine (hRt (K1.tick M1 B1).1 (K1.tick M1 B1).2.1 (K1.tick M1 B1).2.2 kT _ _ hX.below hs2.now).mono ?_); rintro e' wQ ⟨rfl, hbb⟩; replace hX := hX.step hbb; replace hs2 := hs2.below hbb; replace hm2 := hm2.below hbb; replace hz2 := hz2.below hbb; clear hbb) | (go_at_call 32; (with_reducible refine (hMt (K1.tick M1 B1).1 (K1.tick M1 B1).2.1 (K1.tick M1 B1).2.2 kT _ _ _ hm2.now hz2.now).mono ?_); rintro e' wQ2 ⟨rfl, rfl⟩; skip))
      exact ⟨⟨i + 1, (K1.tick M1 B1).1, (K1.tick M1 B1).2.1, (K1.tick M1 B1).2.2, _, _, _, by omega, by go_num, kT, hs2, hm2, hz2, hX.two3⟩, by simp only; omega⟩
    by_cases u3 : u = 3
    · subst u3
      go_wp2_with (first | ((with_reducible refine at_load ?_); refine wpList_bag_part (k := 0) hX aggT sizT _ rfl rfl rfl rfl (by first | exact .head _ | exact .tail _ (.head _) | exact .tail _ (.tail _ (.head _))) (fun jz vz hz => (congrArg (fun n => ([_, _, _, _, _, _, _, _, _, _, _] : List Value)[n]?) (Nat.zero_add jz)).trans hz) rfl ?_) | ((with_reducible refine at_load ?_); refine wpList_bag_cell hX slI_cell _ rfl rfl rfl rfl (by first | exact .head _ | exact .tail _ (.head _) | exact .tail _ (.tail _ (.head _))) rfl ?_) | ((with_reducible refine at_load ?_); refine wpList_bag_cell hX slS_cell _ rfl rfl rfl rfl (by first | exact .head _ | exact .tail _ (.head _) | exact .tail _ (.tail _ (.head _))) rfl ?_) | ((with_reducible refine at_load ?_); refine wpList_bag_cell hX int_cell _ rfl rfl rfl rfl (by first | exact .head _ | exact .tail _ (.head _) | exact .tail _ (.tail _ (.head _))) rfl ?_) | ((with_reducible refine at_load ?_); refine wpList_bag_cell hX bool_cell _ rfl rfl rfl rfl (by first | exact .head _ | exact .tail _ (.head _) | exact .tail _ (.tail _ (.head _))) rfl ?_) | ((with_reducible refine at_load ?_); refine wpList_loadW rfl 51 _ _ _ rfl rfl (hld _ hX.below) ?_) | ((with_reducible refine at_store ?_); refine wpList_bag_overV (cs' := [.int .i64 3, .int .i64 g, .int .i64 n]) (hX.new 51 [.int .i64 0, .int .i64 0, .int .i64 0]) aggDe sizDe _ _ rfl rfl rfl rfl rfl rfl rfl rfl (one_de 3 g n) ?_; clear hX; intro wD hX hkz; replace hs := hs.off (new_keepT hkz) (fun _ _ h => h); replace hm := hm.off (new_keepT hkz) (fun _ _ h => h); replace hz := hz.off (new_keepT hkz) (fun _ _ h => h); replace hX := hX.back3; clear hkz) | (go_at_call 24; (with_reducible refine (qR _ hX.below (x2t_lt hX) hs).mono ?_); rintro e' wC ⟨x, rfl, ⟨vs2, rfl, hs2⟩, hbb⟩; replace hX := hX.step hbb; replace hm := hm.below hbb; replace hz := hz.below hbb; clear hbb hs) | ((with_reducible refine at_store ?_); refine wpList_bag_overV (cs' := [vs2, .int .i64 (K1.reset).p, .bool (K1.reset).n, .bool (K1.reset).r, .bool (K1.reset).e, .bool (K1.reset).m, .bool (K1.reset).d, .int .i64 (K1.reset).c, .int .i64 (K1.reset).k, .int .i64 (K1.reset).a, .int .i64 (K1.reset).l]) hX aggT sizT _ _ rfl rfl rfl rfl rfl rfl rfl rfl (one_tp (sts_one hs2.now) _ _ _ _ _ _ _ _ _ _) ?_; clear hX; intro wz hX hkz; replace hs2 := hs2.over hkz (by first | exact .inl rfl | exact .inr rfl); replace hm := hm.over hkz (by first | exact .inl rfl | exact .inr rfl); replace hz := hz.over hkz (by first | exact .inl rfl | exact .inr rfl); clear hkz) | (go_at_call 12; (with_reducible refine (hRt K1.reset M1 B1 kR _ _ hX.below hs2.now).mono ?_); rintro e' wQ ⟨rfl, hbb⟩; replace hX := hX.step hbb; replace hs2 := hs2.below hbb; replace hm := hm.below hbb; replace hz := hz.below hbb; clear hbb) | (go_at_call 32; (with_reducible refine (hMt K1.reset M1 B1 kR _ _ _ hm.now hz.now).mono ?_); rintro e' wQ2 ⟨rfl, rfl⟩; skip))
      exact ⟨⟨i + 1, K1.reset, M1, B1, _, _, _, by omega, by go_num, kR, hs2, hm, hz, hX.two3⟩, by simp only; omega⟩
    by_cases u4 : u = 4
    · subst u4
      go_wp2_with (first | ((with_reducible refine at_load ?_); refine wpList_bag_part (k := 0) hX aggT sizT _ rfl rfl rfl rfl (by first | exact .head _ | exact .tail _ (.head _) | exact .tail _ (.tail _ (.head _))) (fun jz vz hz => (congrArg (fun n => ([_, _, _, _, _, _, _, _, _, _, _] : List Value)[n]?) (Nat.zero_add jz)).trans hz) rfl ?_) | ((with_reducible refine at_load ?_); refine wpList_bag_cell hX slI_cell _ rfl rfl rfl rfl (by first | exact .head _ | exact .tail _ (.head _) | exact .tail _ (.tail _ (.head _))) rfl ?_) | ((with_reducible refine at_load ?_); refine wpList_bag_cell hX slS_cell _ rfl rfl rfl rfl (by first | exact .head _ | exact .tail _ (.head _) | exact .tail _ (.tail _ (.head _))) rfl ?_) | ((with_reducible refine at_load ?_); refine wpList_bag_cell hX int_cell _ rfl rfl rfl rfl (by first | exact .head _ | exact .tail _ (.head _) | exact .tail _ (.tail _ (.head _))) rfl ?_) | ((with_reducible refine at_load ?_); refine wpList_bag_cell hX bool_cell _ rfl rfl rfl rfl (by first | exact .head _ | exact .tail _ (.head _) | exact .tail _ (.tail _ (.head _))) rfl ?_) | ((with_reducible refine at_load ?_); refine wpList_loadW rfl 51 _ _ _ rfl rfl (hld _ hX.below) ?_) | ((with_reducible refine at_store ?_); refine wpList_bag_overV (cs' := [.int .i64 4, .int .i64 g, .int .i64 n]) (hX.new 51 [.int .i64 0, .int .i64 0, .int .i64 0]) aggDe sizDe _ _ rfl rfl rfl rfl rfl rfl rfl rfl (one_de 4 g n) ?_; clear hX; intro wD hX hkz; replace hs := hs.off (new_keepT hkz) (fun _ _ h => h); replace hm := hm.off (new_keepT hkz) (fun _ _ h => h); replace hz := hz.off (new_keepT hkz) (fun _ _ h => h); replace hX := hX.back3; clear hkz) | (go_at_call 26; (with_reducible refine (qM _ hX.below (x2t_lt hX) hs).mono ?_); rintro e' wC ⟨x, rfl, ⟨vs2, rfl, hs2⟩, hbb⟩; replace hX := hX.step hbb; replace hm := hm.below hbb; replace hz := hz.below hbb; clear hbb hs) | ((with_reducible refine at_store ?_); refine wpList_bag_overV (cs' := [vs2, .int .i64 (K1.mount).p, .bool (K1.mount).n, .bool (K1.mount).r, .bool (K1.mount).e, .bool (K1.mount).m, .bool (K1.mount).d, .int .i64 (K1.mount).c, .int .i64 (K1.mount).k, .int .i64 (K1.mount).a, .int .i64 (K1.mount).l]) hX aggT sizT _ _ rfl rfl rfl rfl rfl rfl rfl rfl (one_tp (sts_one hs2.now) _ _ _ _ _ _ _ _ _ _) ?_; clear hX; intro wz hX hkz; replace hs2 := hs2.over hkz (by first | exact .inl rfl | exact .inr rfl); replace hm := hm.over hkz (by first | exact .inl rfl | exact .inr rfl); replace hz := hz.over hkz (by first | exact .inl rfl | exact .inr rfl); clear hkz) | (go_at_call 12; (with_reducible refine (hRt K1.mount M1 B1 kM _ _ hX.below hs2.now).mono ?_); rintro e' wQ ⟨rfl, hbb⟩; replace hX := hX.step hbb; replace hs2 := hs2.below hbb; replace hm := hm.below hbb; replace hz := hz.below hbb; clear hbb) | (go_at_call 32; (with_reducible refine (hMt K1.mount M1 B1 kM _ _ _ hm.now hz.now).mono ?_); rintro e' wQ2 ⟨rfl, rfl⟩; skip))
      exact ⟨⟨i + 1, K1.mount, M1, B1, _, _, _, by omega, by go_num, kM, hs2, hm, hz, hX.two3⟩, by simp only; omega⟩
    by_cases u5 : u = 5
    · subst u5
      go_wp2_with (first | ((with_reducible refine at_load ?_); refine wpList_bag_part (k := 0) hX aggT sizT _ rfl rfl rfl rfl (by first | exact .head _ | exact .tail _ (.head _) | exact .tail _ (.tail _ (.head _))) (fun jz vz hz => (congrArg (fun n => ([_, _, _, _, _, _, _, _, _, _, _] : List Value)[n]?) (Nat.zero_add jz)).trans hz) rfl ?_) | ((with_reducible refine at_load ?_); refine wpList_bag_cell hX slI_cell _ rfl rfl rfl rfl (by first | exact .head _ | exact .tail _ (.head _) | exact .tail _ (.tail _ (.head _))) rfl ?_) | ((with_reducible refine at_load ?_); refine wpList_bag_cell hX slS_cell _ rfl rfl rfl rfl (by first | exact .head _ | exact .tail _ (.head _) | exact .tail _ (.tail _ (.head _))) rfl ?_) | ((with_reducible refine at_load ?_); refine wpList_bag_cell hX int_cell _ rfl rfl rfl rfl (by first | exact .head _ | exact .tail _ (.head _) | exact .tail _ (.tail _ (.head _))) rfl ?_) | ((with_reducible refine at_load ?_); refine wpList_bag_cell hX bool_cell _ rfl rfl rfl rfl (by first | exact .head _ | exact .tail _ (.head _) | exact .tail _ (.tail _ (.head _))) rfl ?_) | ((with_reducible refine at_load ?_); refine wpList_loadW rfl 51 _ _ _ rfl rfl (hld _ hX.below) ?_) | ((with_reducible refine at_store ?_); refine wpList_bag_overV (cs' := [.int .i64 5, .int .i64 g, .int .i64 n]) (hX.new 51 [.int .i64 0, .int .i64 0, .int .i64 0]) aggDe sizDe _ _ rfl rfl rfl rfl rfl rfl rfl rfl (one_de 5 g n) ?_; clear hX; intro wD hX hkz; replace hs := hs.off (new_keepT hkz) (fun _ _ h => h); replace hm := hm.off (new_keepT hkz) (fun _ _ h => h); replace hz := hz.off (new_keepT hkz) (fun _ _ h => h); replace hX := hX.back3; clear hkz) | (go_at_call 22; (with_reducible refine (qA _ hX.below (x2t_lt hX) hs).mono ?_); rintro e' wC ⟨x, rfl, ⟨vs2, rfl, hs2⟩, hbb⟩; replace hX := hX.step hbb; replace hm := hm.below hbb; replace hz := hz.below hbb; clear hbb hs) | ((with_reducible refine at_store ?_); refine wpList_bag_overV (cs' := [vs2, .int .i64 ((K1.acc n)).p, .bool ((K1.acc n)).n, .bool ((K1.acc n)).r, .bool ((K1.acc n)).e, .bool ((K1.acc n)).m, .bool ((K1.acc n)).d, .int .i64 ((K1.acc n)).c, .int .i64 ((K1.acc n)).k, .int .i64 ((K1.acc n)).a, .int .i64 ((K1.acc n)).l]) hX aggT sizT _ _ rfl rfl rfl rfl rfl rfl rfl rfl (one_tp (sts_one hs2.now) _ _ _ _ _ _ _ _ _ _) ?_; clear hX; intro wz hX hkz; replace hs2 := hs2.over hkz (by first | exact .inl rfl | exact .inr rfl); replace hm := hm.over hkz (by first | exact .inl rfl | exact .inr rfl); replace hz := hz.over hkz (by first | exact .inl rfl | exact .inr rfl); clear hkz) | (go_at_call 12; (with_reducible refine (hRt (K1.acc n) M1 B1 kA _ _ hX.below hs2.now).mono ?_); rintro e' wQ ⟨rfl, hbb⟩; replace hX := hX.step hbb; replace hs2 := hs2.below hbb; replace hm := hm.below hbb; replace hz := hz.below hbb; clear hbb) | (go_at_call 32; (with_reducible refine (hMt (K1.acc n) M1 B1 kA _ _ _ hm.now hz.now).mono ?_); rintro e' wQ2 ⟨rfl, rfl⟩; skip))
      exact ⟨⟨i + 1, (K1.acc n), M1, B1, _, _, _, by omega, by go_num, kA, hs2, hm, hz, hX.two3⟩, by simp only; omega⟩
    by_cases u2 : u = 2
    · subst u2
      go_wp2_with (first | ((with_reducible refine at_load ?_); refine wpList_bag_part (k := 0) hX aggT sizT _ rfl rfl rfl rfl (by first | exact .head _ | exact .tail _ (.head _) | exact .tail _ (.tail _ (.head _))) (fun jz vz hz => (congrArg (fun n => ([_, _, _, _, _, _, _, _, _, _, _] : List Value)[n]?) (Nat.zero_add jz)).trans hz) rfl ?_) | ((with_reducible refine at_load ?_); refine wpList_bag_cell hX slI_cell _ rfl rfl rfl rfl (by first | exact .head _ | exact .tail _ (.head _) | exact .tail _ (.tail _ (.head _))) rfl ?_) | ((with_reducible refine at_load ?_); refine wpList_bag_cell hX slS_cell _ rfl rfl rfl rfl (by first | exact .head _ | exact .tail _ (.head _) | exact .tail _ (.tail _ (.head _))) rfl ?_) | ((with_reducible refine at_load ?_); refine wpList_bag_cell hX int_cell _ rfl rfl rfl rfl (by first | exact .head _ | exact .tail _ (.head _) | exact .tail _ (.tail _ (.head _))) rfl ?_) | ((with_reducible refine at_load ?_); refine wpList_bag_cell hX bool_cell _ rfl rfl rfl rfl (by first | exact .head _ | exact .tail _ (.head _) | exact .tail _ (.tail _ (.head _))) rfl ?_) | ((with_reducible refine at_load ?_); refine wpList_loadW rfl 51 _ _ _ rfl rfl (hld _ hX.below) ?_) | ((with_reducible refine at_store ?_); refine wpList_bag_overV (cs' := [.int .i64 2, .int .i64 g, .int .i64 n]) (hX.new 51 [.int .i64 0, .int .i64 0, .int .i64 0]) aggDe sizDe _ _ rfl rfl rfl rfl rfl rfl rfl rfl (one_de 2 g n) ?_; clear hX; intro wD hX hkz; replace hs := hs.off (new_keepT hkz) (fun _ _ h => h); replace hm := hm.off (new_keepT hkz) (fun _ _ h => h); replace hz := hz.off (new_keepT hkz) (fun _ _ h => h); replace hX := hX.back3; clear hkz))
      have kt : ∀ j, KeptT K M B (tnT K1 M1 B1 j) := fun j => hk.trans (tnT_kept hk.right hk.mem j)
      have qt := fun (j : Nat) vs vm vz w (h : Below W0.heap.size W0 w) hY h1 h2 h3 => H.tick (tnT K1 M1 B1 j).1 (tnT K1 M1 B1 j).2.1 (tnT K1 M1 B1 j).2.2 vs vm vz (X2t W0.heap.size (W0.heap.size + 1)) w h (kt j).right (kt j).mem hY h1 h2 h3
      go_loopw [9] (fun jv wj => ∃ (j : Nat) (vs vm vz : Value), j ≤ 16 ∧ jv = .int .i64 j ∧ StsX (X2t W0.heap.size (W0.heap.size + 1)) wj vs (tnT K1 M1 B1 j).1.R ∧ ItsX (X2t W0.heap.size (W0.heap.size + 1)) wj vm (tnT K1 M1 B1 j).2.1 ∧ ItsX (X2t W0.heap.size (W0.heap.size + 1)) wj vz (tnT K1 M1 B1 j).2.2 ∧ Bag [(W0.heap.size, 24, [vs, .int .i64 ((tnT K1 M1 B1 j).1).p, .bool ((tnT K1 M1 B1 j).1).n, .bool ((tnT K1 M1 B1 j).1).r, .bool ((tnT K1 M1 B1 j).1).e, .bool ((tnT K1 M1 B1 j).1).m, .bool ((tnT K1 M1 B1 j).1).d, .int .i64 ((tnT K1 M1 B1 j).1).c, .int .i64 ((tnT K1 M1 B1 j).1).k, .int .i64 ((tnT K1 M1 B1 j).1).a, .int .i64 ((tnT K1 M1 B1 j).1).l]), (W0.heap.size + 1, 44, [vm, vz]), (wr.heap.size, 51, [.int .i64 2, .int .i64 g, .int .i64 n])] W0 wj) (fun jv _ => match jv with | .int _ q => 16 - q.toNat | _ => 0)
      case atStart => exact ⟨0, _, _, _, Nat.zero_le _, rfl, hs, hm, hz, hX⟩
      case round =>
        clear hX hs hm hz qW qT qR qM qA
        obtain ⟨j, vs, vm, vz, hj, rfl, hs, hm, hz, hX⟩ := hrel
        obtain ⟨A3, c3, rfl, _⟩ := hm.now.form
        obtain ⟨A4, c4, rfl, _⟩ := hz.now.form
        by_cases hjn : j < 16
        · have hji : (j : Int) < 16 := by omega
          go_wp2_with (first | ((with_reducible refine at_load ?_); refine wpList_bag_part (k := 0) hX aggT sizT _ rfl rfl rfl rfl (by first | exact .head _ | exact .tail _ (.head _) | exact .tail _ (.tail _ (.head _))) (fun jz vz hz => (congrArg (fun n => ([_, _, _, _, _, _, _, _, _, _, _] : List Value)[n]?) (Nat.zero_add jz)).trans hz) rfl ?_) | ((with_reducible refine at_load ?_); refine wpList_bag_cell hX slI_cell _ rfl rfl rfl rfl (by first | exact .head _ | exact .tail _ (.head _) | exact .tail _ (.tail _ (.head _))) rfl ?_) | ((with_reducible refine at_load ?_); refine wpList_bag_cell hX slS_cell _ rfl rfl rfl rfl (by first | exact .head _ | exact .tail _ (.head _) | exact .tail _ (.tail _ (.head _))) rfl ?_) | ((with_reducible refine at_load ?_); refine wpList_bag_cell hX int_cell _ rfl rfl rfl rfl (by first | exact .head _ | exact .tail _ (.head _) | exact .tail _ (.tail _ (.head _))) rfl ?_) | ((with_reducible refine at_load ?_); refine wpList_bag_cell hX bool_cell _ rfl rfl rfl rfl (by first | exact .head _ | exact .tail _ (.head _) | exact .tail _ (.tail _ (.head _))) rfl ?_) | (go_at_call 29; (with_reducible refine (qt j _ _ _ _ hX.below (x2t_lt hX) hs hm hz).mono ?_); rintro e' wC ⟨x, ym, yz, rfl, ⟨vs2, rfl, hs2⟩, hm2, hz2, hbb⟩; replace hX := hX.step hbb; obtain ⟨A7, c7, rfl, _⟩ := hm2.now.form; obtain ⟨A8, c8, rfl, _⟩ := hz2.now.form; clear hbb hs hm hz) | ((with_reducible refine at_store ?_); refine wpList_bag_overV (cs' := [vs2, .int .i64 ((tnT K1 M1 B1 (j + 1)).1).p, .bool ((tnT K1 M1 B1 (j + 1)).1).n, .bool ((tnT K1 M1 B1 (j + 1)).1).r, .bool ((tnT K1 M1 B1 (j + 1)).1).e, .bool ((tnT K1 M1 B1 (j + 1)).1).m, .bool ((tnT K1 M1 B1 (j + 1)).1).d, .int .i64 ((tnT K1 M1 B1 (j + 1)).1).c, .int .i64 ((tnT K1 M1 B1 (j + 1)).1).k, .int .i64 ((tnT K1 M1 B1 (j + 1)).1).a, .int .i64 ((tnT K1 M1 B1 (j + 1)).1).l]) hX aggT sizT _ _ rfl rfl rfl rfl rfl rfl rfl rfl (one_tp (sts_one hs2.now) _ _ _ _ _ _ _ _ _ _) ?_; clear hX; intro wz hX hkz; replace hs2 := hs2.over hkz (by first | exact .inl rfl | exact .inr rfl); replace hm2 := hm2.over hkz (by first | exact .inl rfl | exact .inr rfl); replace hz2 := hz2.over hkz (by first | exact .inl rfl | exact .inr rfl); clear hkz) | ((with_reducible refine at_store ?_); refine wpList_bag_putV (z := .slice _ _ _) hX.swap siz_I17 _ _ rfl rfl rfl rfl rfl rfl (by simp) rfl rfl ?_; intro wp hX3 hkz hz33; clear hz33; replace hs2 := hs2.over hkz (by first | exact .inl rfl | exact .inr rfl); replace hm2 := hm2.over hkz (by first | exact .inl rfl | exact .inr rfl); replace hz2 := hz2.over hkz (by first | exact .inl rfl | exact .inr rfl); clear hX; have hX := hX3.swap; clear hkz hX3; simp only [List.set_cons_zero, List.set_cons_succ] at hX))
          exact ⟨⟨j + 1, _, _, _, by omega, by go_num, hs2, hm2, hz2, hX⟩, by simp only; omega⟩
        · obtain rfl : j = 16 := by omega
          have hji : ¬ ((16 : Nat) : Int) < 16 := by omega
          have kT2 := kt 16
          go_wp2_with (first | ((with_reducible refine at_load ?_); refine wpList_bag_part (k := 0) hX aggT sizT _ rfl rfl rfl rfl (by first | exact .head _ | exact .tail _ (.head _) | exact .tail _ (.tail _ (.head _))) (fun jz vz hz => (congrArg (fun n => ([_, _, _, _, _, _, _, _, _, _, _] : List Value)[n]?) (Nat.zero_add jz)).trans hz) rfl ?_) | ((with_reducible refine at_load ?_); refine wpList_bag_cell hX slI_cell _ rfl rfl rfl rfl (by first | exact .head _ | exact .tail _ (.head _) | exact .tail _ (.tail _ (.head _))) rfl ?_) | ((with_reducible refine at_load ?_); refine wpList_bag_cell hX slS_cell _ rfl rfl rfl rfl (by first | exact .head _ | exact .tail _ (.head _) | exact .tail _ (.tail _ (.head _))) rfl ?_) | ((with_reducible refine at_load ?_); refine wpList_bag_cell hX int_cell _ rfl rfl rfl rfl (by first | exact .head _ | exact .tail _ (.head _) | exact .tail _ (.tail _ (.head _))) rfl ?_) | ((with_reducible refine at_load ?_); refine wpList_bag_cell hX bool_cell _ rfl rfl rfl rfl (by first | exact .head _ | exact .tail _ (.head _) | exact .tail _ (.tail _ (.head _))) rfl ?_) | ((with_reducible refine at_load ?_); refine wpList_loadW rfl 51 _ _ _ rfl rfl (hld _ hX.below) ?_) | ((with_reducible refine at_store ?_); refine wpList_bag_overV (cs' := [.int .i64 2, .int .i64 g, .int .i64 n]) (hX.new 51 [.int .i64 0, .int .i64 0, .int .i64 0]) aggDe sizDe _ _ rfl rfl rfl rfl rfl rfl rfl rfl (one_de 2 g n) ?_; clear hX; intro wD hX hkz; replace hs := hs.off (new_keepT hkz) (fun _ _ h => h); replace hm := hm.off (new_keepT hkz) (fun _ _ h => h); replace hz := hz.off (new_keepT hkz) (fun _ _ h => h); replace hX := hX.back3; clear hkz) | (go_at_call 12; (with_reducible refine (hRt (tnT K1 M1 B1 16).1 (tnT K1 M1 B1 16).2.1 (tnT K1 M1 B1 16).2.2 kT2 _ _ hX.below hs.now).mono ?_); rintro e' wQ ⟨rfl, hbb⟩; replace hX := hX.step hbb; replace hs := hs.below hbb; replace hm := hm.below hbb; replace hz := hz.below hbb; clear hbb) | (go_at_call 32; (with_reducible refine (hMt (tnT K1 M1 B1 16).1 (tnT K1 M1 B1 16).2.1 (tnT K1 M1 B1 16).2.2 kT2 _ _ _ hm.now hz.now).mono ?_); rintro e' wQ2 ⟨rfl, rfl⟩; skip))
          exact ⟨⟨i + 1, (tnT K1 M1 B1 16).1, (tnT K1 M1 B1 16).2.1, (tnT K1 M1 B1 16).2.2, _, _, _, by omega, by go_num, kT2, hs, hm, hz, hX.two3⟩, by simp only; omega⟩
    have e0 : (u == 0) = false := by simpa using u0
    have e1 : (u == 1) = false := by simpa using u1
    have e2 : (u == 2) = false := by simpa using u2
    have e3 : (u == 3) = false := by simpa using u3
    have e4 : (u == 4) = false := by simpa using u4
    have e5 : (u == 5) = false := by simpa using u5
    go_wp2_with (first | ((with_reducible refine at_load ?_); refine wpList_bag_part (k := 0) hX aggT sizT _ rfl rfl rfl rfl (by first | exact .head _ | exact .tail _ (.head _) | exact .tail _ (.tail _ (.head _))) (fun jz vz hz => (congrArg (fun n => ([_, _, _, _, _, _, _, _, _, _, _] : List Value)[n]?) (Nat.zero_add jz)).trans hz) rfl ?_) | ((with_reducible refine at_load ?_); refine wpList_bag_cell hX slI_cell _ rfl rfl rfl rfl (by first | exact .head _ | exact .tail _ (.head _) | exact .tail _ (.tail _ (.head _))) rfl ?_) | ((with_reducible refine at_load ?_); refine wpList_bag_cell hX slS_cell _ rfl rfl rfl rfl (by first | exact .head _ | exact .tail _ (.head _) | exact .tail _ (.tail _ (.head _))) rfl ?_) | ((with_reducible refine at_load ?_); refine wpList_bag_cell hX int_cell _ rfl rfl rfl rfl (by first | exact .head _ | exact .tail _ (.head _) | exact .tail _ (.tail _ (.head _))) rfl ?_) | ((with_reducible refine at_load ?_); refine wpList_bag_cell hX bool_cell _ rfl rfl rfl rfl (by first | exact .head _ | exact .tail _ (.head _) | exact .tail _ (.tail _ (.head _))) rfl ?_) | ((with_reducible refine at_load ?_); refine wpList_loadW rfl 51 _ _ _ rfl rfl (hld _ hX.below) ?_) | ((with_reducible refine at_store ?_); refine wpList_bag_overV (cs' := [.int .i64 u, .int .i64 g, .int .i64 n]) (hX.new 51 [.int .i64 0, .int .i64 0, .int .i64 0]) aggDe sizDe _ _ rfl rfl rfl rfl rfl rfl rfl rfl (one_de u g n) ?_; clear hX; intro wD hX hkz; replace hs := hs.off (new_keepT hkz) (fun _ _ h => h); replace hm := hm.off (new_keepT hkz) (fun _ _ h => h); replace hz := hz.off (new_keepT hkz) (fun _ _ h => h); replace hX := hX.back3; clear hkz) | (go_at_call 12; (with_reducible refine (hRt K1 M1 B1 hk _ _ hX.below hs.now).mono ?_); rintro e' wQ ⟨rfl, hbb⟩; replace hX := hX.step hbb; replace hs := hs.below hbb; replace hm := hm.below hbb; replace hz := hz.below hbb; clear hbb) | (go_at_call 32; (with_reducible refine (hMt K1 M1 B1 hk _ _ _ hm.now hz.now).mono ?_); rintro e' wQ2 ⟨rfl, rfl⟩; skip))
    exact ⟨⟨i + 1, K1, M1, B1, _, _, _, by omega, by go_num, hk, hs, hm, hz, hX.two3⟩, by simp only; omega⟩
end Go.Proofs.Ytigmlkfmgheegaa
