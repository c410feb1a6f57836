import Derived.Test.YtjolhlfjpnlcnaaDkL
import Derived.Test.YtjolhlfjpnlcnaaMG
import Derived.Deep.RegionHeld3
/-
  few, same. Condition: none.
-/
namespace Go.Proofs.Ytjolhlfjpnlcnaa
open Go.RowKit
set_option linter.unusedSimpArgs false
set_option linter.unusedVariables false
set_option maxHeartbeats 4000000
set_option maxRecDepth 100000
attribute [local irreducible] wpQuiet

theorem Its.nums {w : World} {v : Value} {l : List Int} (h : Its w v l) : Nums .i64 w v l := by
  obtain ⟨⟨A, c, rfl, hk, hc⟩, _⟩ := h
  refine ⟨A, c, rfl, hk, fun j x hx => ?_⟩
  obtain ⟨a, ha, h1, h2⟩ := hc j (.int .i64 x) (by rw [List.getElem?_map, hx]; rfl)
  exact ⟨a, ha, h1, by have := World.block_lt_of_cell? w _ h1; exact this⟩
def fewV (K : Dk) (m B : List Int) : Bool := decide (K.D.S.length ≤ 64) && (decide (K.D.B.length ≤ 64) && (decide (m.length ≤ 2048) && (decide (B.length ≤ 60) && (K.right && rightP m B))))
theorem few_any (K : Dk) (m B : List Int) (vs vb vm vz : Value) (w : World) (hs : Sts w vs K.D.S) (hb : Its w vb K.D.B) (hvm : Its w vm m) (hvz : Its w vz B) : Calls Try.prog 25 #[.agg #[vs, vb, .bool (K).n, .bool (K).r, .bool (K).e, .int .i64 (K).c, .int .i64 (K).w, .int .i64 (K).a, .int .i64 (K).s, .int .i64 (K).l], vm, vz] w fun e' w' => e' = .returned (.bool (fewV K m B)) ∧ Below w.heap.size w w' := by
  have hk := fun h1 h2 w' (h : Below w.heap.size w w') => rrightK_any K h1 h2 vs vb w' (hs.below h) (hb.below h)
  have hm := fun h1 h2 w' (h : Below w.heap.size w w') => rright_any vm vz m B h1 h2 w' (Its.nums (Rz.below hvm h)) (Its.nums (Rz.below hvz h))
  unfold fewV
  obtain ⟨A1, c1, rfl, _⟩ := hs.form
  obtain ⟨A2, c2, rfl, _⟩ := hb.form
  obtain ⟨A3, c3, rfl, _⟩ := hvm.form
  obtain ⟨A4, c4, rfl, _⟩ := hvz.form
  obtain ⟨D, n, r, e, c, w1, a, s, l⟩ := K
  dsimp only at *
  have hX := (Bag.nil w).new 27 [(.slice A1 D.S.length c1), (.slice A2 D.B.length c2), .bool n, .bool r, .bool e, .int .i64 c, .int .i64 w1, .int .i64 a, .int .i64 s, .int .i64 l]
  clear hs hb hvm hvz
  by_cases ha : ¬ D.S.length ≤ 64
  · have g1 : decide ((D.S.length : Int) ≤ 64) = false := decide_eq_false (by omega)
    have g2 : decide (D.S.length ≤ 64) = false := decide_eq_false ha
    have g3 : ¬ (D.S.length : Int) ≤ 64 := by omega
    rw [g2]
    simp only [Bool.false_and]
    clear hk hm
    go_enter Try.func25, Try.ntmps25
    go_wp2_with (first | ((with_reducible refine at_load ?_); refine wpList_bag_cell hX slS_cell _ rfl rfl rfl rfl (by first | exact .head _) rfl ?_) | ((with_reducible refine at_load ?_); refine wpList_bag_cell hX slI_cell _ rfl rfl rfl rfl (by first | exact .head _) rfl ?_) | ((with_reducible refine at_load ?_); refine wpList_bag_part (k := 0) hX aggK sizK _ rfl rfl rfl rfl (by first | exact .head _) (fun jz vz hz => (congrArg (fun n => ([_, _, _, _, _, _, _, _, _, _] : List Value)[n]?) (Nat.zero_add jz)).trans hz) rfl ?_) | (go_at_call 10; (with_reducible refine (hk _ hX.below).mono ?_); rintro e' w' ⟨rfl, hbb⟩; replace hX := hX.step hbb; clear hbb) | (go_at_call 41; (with_reducible refine (hm _ hX.below).mono ?_); rintro e' w' ⟨rfl, hbb⟩; replace hX := hX.step hbb; clear hbb))
    go_ret
    exact ⟨rfl, hX.below⟩
  replace ha : D.S.length ≤ 64 := by omega
  have ga1 : decide ((D.S.length : Int) ≤ 64) = true := decide_eq_true (by omega)
  have ga2 : decide (D.S.length ≤ 64) = true := decide_eq_true ha
  rw [ga2, Bool.true_and]
  by_cases hb : ¬ D.B.length ≤ 64
  · have g1 : decide ((D.B.length : Int) ≤ 64) = false := decide_eq_false (by omega)
    have g2 : decide (D.B.length ≤ 64) = false := decide_eq_false hb
    have g3 : ¬ (D.B.length : Int) ≤ 64 := by omega
    rw [g2]
    simp only [Bool.false_and]
    clear hk hm
    go_enter Try.func25, Try.ntmps25
    go_wp2_with (first | ((with_reducible refine at_load ?_); refine wpList_bag_cell hX slS_cell _ rfl rfl rfl rfl (by first | exact .head _) rfl ?_) | ((with_reducible refine at_load ?_); refine wpList_bag_cell hX slI_cell _ rfl rfl rfl rfl (by first | exact .head _) rfl ?_) | ((with_reducible refine at_load ?_); refine wpList_bag_part (k := 0) hX aggK sizK _ rfl rfl rfl rfl (by first | exact .head _) (fun jz vz hz => (congrArg (fun n => ([_, _, _, _, _, _, _, _, _, _] : List Value)[n]?) (Nat.zero_add jz)).trans hz) rfl ?_) | (go_at_call 10; (with_reducible refine (hk _ hX.below).mono ?_); rintro e' w' ⟨rfl, hbb⟩; replace hX := hX.step hbb; clear hbb) | (go_at_call 41; (with_reducible refine (hm _ hX.below).mono ?_); rintro e' w' ⟨rfl, hbb⟩; replace hX := hX.step hbb; clear hbb))
    go_ret
    exact ⟨rfl, hX.below⟩
  replace hb : D.B.length ≤ 64 := by omega
  have gb1 : decide ((D.B.length : Int) ≤ 64) = true := decide_eq_true (by omega)
  have gb2 : decide (D.B.length ≤ 64) = true := decide_eq_true hb
  rw [gb2, Bool.true_and]
  by_cases hc : ¬ m.length ≤ 2048
  · have g1 : decide ((m.length : Int) ≤ 2048) = false := decide_eq_false (by omega)
    have g2 : decide (m.length ≤ 2048) = false := decide_eq_false hc
    have g3 : ¬ (m.length : Int) ≤ 2048 := by omega
    rw [g2]
    simp only [Bool.false_and]
    clear hk hm
    go_enter Try.func25, Try.ntmps25
    go_wp2_with (first | ((with_reducible refine at_load ?_); refine wpList_bag_cell hX slS_cell _ rfl rfl rfl rfl (by first | exact .head _) rfl ?_) | ((with_reducible refine at_load ?_); refine wpList_bag_cell hX slI_cell _ rfl rfl rfl rfl (by first | exact .head _) rfl ?_) | ((with_reducible refine at_load ?_); refine wpList_bag_part (k := 0) hX aggK sizK _ rfl rfl rfl rfl (by first | exact .head _) (fun jz vz hz => (congrArg (fun n => ([_, _, _, _, _, _, _, _, _, _] : List Value)[n]?) (Nat.zero_add jz)).trans hz) rfl ?_) | (go_at_call 10; (with_reducible refine (hk _ hX.below).mono ?_); rintro e' w' ⟨rfl, hbb⟩; replace hX := hX.step hbb; clear hbb) | (go_at_call 41; (with_reducible refine (hm _ hX.below).mono ?_); rintro e' w' ⟨rfl, hbb⟩; replace hX := hX.step hbb; clear hbb))
    go_ret
    exact ⟨rfl, hX.below⟩
  replace hc : m.length ≤ 2048 := by omega
  have gc1 : decide ((m.length : Int) ≤ 2048) = true := decide_eq_true (by omega)
  have gc2 : decide (m.length ≤ 2048) = true := decide_eq_true hc
  rw [gc2, Bool.true_and]
  by_cases hd : ¬ B.length ≤ 60
  · have g1 : decide ((B.length : Int) ≤ 60) = false := decide_eq_false (by omega)
    have g2 : decide (B.length ≤ 60) = false := decide_eq_false hd
    have g3 : ¬ (B.length : Int) ≤ 60 := by omega
    rw [g2]
    simp only [Bool.false_and]
    clear hk hm
    go_enter Try.func25, Try.ntmps25
    go_wp2_with (first | ((with_reducible refine at_load ?_); refine wpList_bag_cell hX slS_cell _ rfl rfl rfl rfl (by first | exact .head _) rfl ?_) | ((with_reducible refine at_load ?_); refine wpList_bag_cell hX slI_cell _ rfl rfl rfl rfl (by first | exact .head _) rfl ?_) | ((with_reducible refine at_load ?_); refine wpList_bag_part (k := 0) hX aggK sizK _ rfl rfl rfl rfl (by first | exact .head _) (fun jz vz hz => (congrArg (fun n => ([_, _, _, _, _, _, _, _, _, _] : List Value)[n]?) (Nat.zero_add jz)).trans hz) rfl ?_) | (go_at_call 10; (with_reducible refine (hk _ hX.below).mono ?_); rintro e' w' ⟨rfl, hbb⟩; replace hX := hX.step hbb; clear hbb) | (go_at_call 41; (with_reducible refine (hm _ hX.below).mono ?_); rintro e' w' ⟨rfl, hbb⟩; replace hX := hX.step hbb; clear hbb))
    go_ret
    exact ⟨rfl, hX.below⟩
  replace hd : B.length ≤ 60 := by omega
  have gd1 : decide ((B.length : Int) ≤ 60) = true := decide_eq_true (by omega)
  have gd2 : decide (B.length ≤ 60) = true := decide_eq_true hd
  rw [gd2, Bool.true_and]
  replace hk := hk (by omega) (by omega)
  replace hm := hm (by omega) (by omega)
  generalize Dk.right _ = rk at *
  generalize rightP m B = rm at *
  clear ha hb hc hd
  cases rk
  · simp only [Bool.false_and]
    clear hm
    go_enter Try.func25, Try.ntmps25
    go_wp2_with (first | ((with_reducible refine at_load ?_); refine wpList_bag_cell hX slS_cell _ rfl rfl rfl rfl (by first | exact .head _) rfl ?_) | ((with_reducible refine at_load ?_); refine wpList_bag_cell hX slI_cell _ rfl rfl rfl rfl (by first | exact .head _) rfl ?_) | ((with_reducible refine at_load ?_); refine wpList_bag_part (k := 0) hX aggK sizK _ rfl rfl rfl rfl (by first | exact .head _) (fun jz vz hz => (congrArg (fun n => ([_, _, _, _, _, _, _, _, _, _] : List Value)[n]?) (Nat.zero_add jz)).trans hz) rfl ?_) | (go_at_call 10; (with_reducible refine (hk _ hX.below).mono ?_); rintro e' w' ⟨rfl, hbb⟩; replace hX := hX.step hbb; clear hbb) | (go_at_call 41; (with_reducible refine (hm _ hX.below).mono ?_); rintro e' w' ⟨rfl, hbb⟩; replace hX := hX.step hbb; clear hbb))
    go_ret
    exact ⟨rfl, hX.below⟩
  · rw [Bool.true_and]
    go_enter Try.func25, Try.ntmps25
    go_wp2_with (first | ((with_reducible refine at_load ?_); refine wpList_bag_cell hX slS_cell _ rfl rfl rfl rfl (by first | exact .head _) rfl ?_) | ((with_reducible refine at_load ?_); refine wpList_bag_cell hX slI_cell _ rfl rfl rfl rfl (by first | exact .head _) rfl ?_) | ((with_reducible refine at_load ?_); refine wpList_bag_part (k := 0) hX aggK sizK _ rfl rfl rfl rfl (by first | exact .head _) (fun jz vz hz => (congrArg (fun n => ([_, _, _, _, _, _, _, _, _, _] : List Value)[n]?) (Nat.zero_add jz)).trans hz) rfl ?_) | (go_at_call 10; (with_reducible refine (hk _ hX.below).mono ?_); rintro e' w' ⟨rfl, hbb⟩; replace hX := hX.step hbb; clear hbb) | (go_at_call 41; (with_reducible refine (hm _ hX.below).mono ?_); rintro e' w' ⟨rfl, hbb⟩; replace hX := hX.step hbb; clear hbb))
    go_ret
    exact ⟨rfl, hX.below⟩
end Go.Proofs.Ytjolhlfjpnlcnaa

/-
  sample. No condition.
-/
namespace Go.Proofs.Ytjolhlfjpnlcnaa
open Go.RowKit
set_option linter.unusedSimpArgs false
set_option linter.unusedVariables false
set_option maxHeartbeats 4000000
set_option maxRecDepth 100000
attribute [local irreducible] wpQuiet

theorem siz_u8 (w : World) : (sizeOf 5).run Try.prog w = .ok 1 w := by kernel_rfl
def s3B : ByteArray := ⟨((1 : UInt8) :: 2 :: List.replicate 126 0).toArray⟩
def smpS (k : Nat) : List ByteArray := (List.range k).map fun i => if i = 3 then s3B else zB 128
def smpD : Drv := ⟨smpS 8, []⟩
theorem smp_step (k : Nat) : (smpS (k + 1)).map Value.string = (smpS k).map Value.string ++ [.string (if k = 3 then s3B else zB 128)] := by
  unfold smpS; rw [List.range_succ, List.map_append, List.map_append]; rfl
theorem smp_len (k : Nat) : (smpS k).length = k := by unfold smpS; simp
theorem made128 : madeCells #[Value.int .u8 0] 128 = (cv (List.replicate 128 0)).toArray := by kernel_rfl
theorem set3 : ((cv (List.replicate 128 0)).set 0 (.int .u8 1)).set 1 (.int .u8 2) = cv ((1 : UInt8) :: 2 :: List.replicate 126 0) := by kernel_rfl
theorem cv_len (l : List UInt8) : (cv l).length = l.length := List.length_map ..
theorem conv_blk {w : World} {B : Nat} {l : List UInt8} (h : Blk 5 w B (cv l)) (hn : l.length = 128) : (convert 78 9 (.slice (some ⟨B, 0, none⟩) 128 128)).run Try.prog w = .ok (.string ⟨l.toArray⟩) w := by
  have e := run_convert_bytes_back (P := Try.prog) w 78 9 5 ⟨B, 0, none⟩ 128 l Try.underlying78 Try.underlying5 Try.underlying9 (fun j hj => by
    have e1 : (⟨B, 0, none⟩ : Addr).add j = ⟨B, j, none⟩ := by unfold Addr.add; split <;> simp_all
    rw [e1, h.cell (k := j) (v := .int .u8 ((l[j]'hj).toNat : Int)) (by unfold cv; rw [List.getElem?_map, List.getElem?_eq_getElem hj]; rfl)])
  rw [hn] at e
  exact e
theorem sample_any (w : World) (X : Nat → Prop) (hXl : ∀ b, X b → b < w.heap.size) : Calls Try.prog 29 #[] w fun e' w' => ∃ x, e' = .returned x ∧ DvX X w' x smpD ∧ Below w.heap.size w w' := by
  have hX := two_dv w [.slice none 0 0, .slice none 0 0] [.slice none 0 0, .slice none 0 0]
  have hmk : ∀ w, (Instr.makeSlice 78 (.int .i64 128) (.int .i64 128)).run Try.prog w = .ok (.slice (some ⟨w.heap.size, 0, none⟩) 128 128) (w.alloc (.cells (cv (List.replicate 128 0)).toArray 5)) := fun w => by
    rw [← made128]
    exact run_make_row' (P := Try.prog) 78 5 (.int .u8 0) 1 Try.underlying78 infU rfl .i64 .i64 128 (by omega) (by omega) w
  obtain ⟨Z, hZ⟩ : ∃ Z, cv (List.replicate 128 0) = Z := ⟨_, rfl⟩
  have hz128 := cv_len (List.replicate 128 0)
  rw [hZ, List.length_replicate] at hz128
  rw [hZ] at hmk
  go_enter Try.func29, Try.ntmps29
  go_wp2
  go_loopw [5, 2, 3] (fun iv _ _ wr => ∃ (k : Nat) (v : Value), k ≤ 8 ∧ iv = .int .i64 k ∧ wr.ownsRow (w.heap.size + 2) 9 1 v k ((smpS k).map Value.string) ∧ Bag [(w.heap.size + 1, 25, [v, .slice none 0 0]), (w.heap.size, 25, [.slice none 0 0, .slice none 0 0])] w wr) (fun iv _ _ _ => match iv with | .int _ q => 8 - q.toNat | _ => 0)
  case atStart => exact ⟨0, .slice none 0 0, Nat.zero_le _, rfl, World.ownsRow_nil _ _ _ _, hX⟩
  case round =>
    clear hX
    obtain ⟨k, v, hk, rfl, hown, hX⟩ := hrel
    by_cases hk8 : k < 8
    · have hki : (k : Int) < 8 := by omega
      have hsz : w.heap.size + 2 ≤ wr.heap.size := (hX.all _ _ _ (.head _)).lt
      have hst := hid (smp_step k)
      obtain ⟨wM, hwM⟩ : ∃ W, wr.alloc (.cells Z.toArray 5) = W := ⟨_, rfl⟩
      have hb0 : Bag [(wr.heap.size, 5, Z)] wr wM := hwM ▸ (Bag.nil wr).new 5 Z
      by_cases hk3 : k = 3
      · subst hk3
        rw [if_pos rfl] at hst
        have hst2 : (smpS 4).map Value.string = (smpS 3).map Value.string ++ [.string s3B] := hst
        clear hst
        replace hst2 := hid hst2
        have hl0 : 0 < Z.length := by omega
        have hl1 : 1 < (Z.set 0 (.int .u8 1)).length := by rw [List.length_set]; omega
        have hset : (Z.set 0 (.int .u8 1)).set 1 (.int .u8 2) = cv ((1 : UInt8) :: 2 :: List.replicate 126 0) := by rw [← hZ]; exact set3
        replace hset := hid hset
        go_wp2_with (first | ((with_reducible refine at_store ?_); refine wpList_bag_putV (z := .int .u8 1) hb0 siz_u8 _ _ rfl rfl rfl rfl rfl rfl hl0 rfl rfl ?_; intro wP hb1 hk1 hz1; clear hz1 hk1 hb0; have hb0 := hb1; clear hb1) | ((with_reducible refine at_store ?_); refine wpList_bag_putV (z := .int .u8 2) hb0 siz_u8 _ _ rfl rfl rfl rfl rfl rfl hl1 rfl rfl ?_; intro wP hb1 hk1 hz1; clear hz1 hk1 hb0; have hb0 := hb1; clear hb1; rw [show (Z.set 0 (Value.int .u8 1)).set 1 (.int .u8 2) = _ from hset] at hb0; have hcv := conv_blk (hb0.all _ _ _ (.head _)) (by simp); rw [show (⟨((1 : UInt8) :: 2 :: List.replicate 126 0).toArray⟩ : ByteArray) = s3B from rfl] at hcv; replace hX := hX.step hb0.below; replace hown := own_step hown hb0.below; replace hsz := Nat.le_trans hsz hb0.below.size; clear hb0) | ((with_reducible refine at_load ?_); refine wpList_bag_cell hX slS_cell _ rfl rfl rfl rfl (by first | exact .head _ | exact .tail _ (.head _)) rfl ?_) | ((with_reducible refine at_load ?_); refine wpList_bag_cell hX slI_cell _ rfl rfl rfl rfl (by first | exact .head _ | exact .tail _ (.head _)) rfl ?_) | (at_builtin; refine wpList_appS rfl (.tmp 16) (.tmp 19) rfl (w.heap.size + 2) _ _ _ rfl (World.ownsRow.alloc hown _) ⟨wP.heap.size, 0, none⟩ 1 1 [.string s3B] rfl rfl cell_one (fun x hx => by simp at hx; subst hx; rfl) (by omega) (by simp <;> omega) ?_; intro v2 w2 ho2 hb2 hq2; clear hq2; obtain ⟨A9, c9, rfl, _, _⟩ := Rw.of_own ho2; replace hX := (Bag.step hX ((Below.refl _ _).alloc (Nat.le_refl _) (.cells #[.string s3B] 9))).stepN hb2 (fun b hb => by simp at hb; rcases hb with rfl | rfl <;> simp) (by omega); clear hb2 hown; have hown := ho2; clear ho2) | ((with_reducible refine at_store ?_); refine wpList_bag_putV (z := .slice A9 _ c9) hX siz_S _ _ rfl rfl rfl rfl rfl rfl (by simp) rfl rfl ?_; intro w3 hX3 hk3' hz3; clear hz3 hX; have hX := hX3; replace hown := own_other hown (fun k hk => hk3' k (by omega)); clear hk3' hX3; simp only [List.set_cons_zero, List.set_cons_succ] at hX))
        exact ⟨⟨4, _, by omega, by go_num, by rw [show (smpS 4).map Value.string = _ from hst2]; exact hown, hX⟩, by simp only; omega⟩
      · have hk3i : ((k : Int) == 3) = false := by simp; omega
        rw [if_neg hk3] at hst
        have hcv := conv_blk (hZ ▸ hb0.all _ _ _ (.head _)) (by simp)
        rw [show (⟨(List.replicate 128 (0 : UInt8)).toArray⟩ : ByteArray) = zB 128 from rfl] at hcv
        replace hX := hX.step hb0.below
        replace hown := own_step hown hb0.below
        replace hsz := Nat.le_trans hsz hb0.below.size
        clear hb0
        go_wp2_with (first | ((with_reducible refine at_load ?_); refine wpList_bag_cell hX slS_cell _ rfl rfl rfl rfl (by first | exact .head _ | exact .tail _ (.head _)) rfl ?_) | ((with_reducible refine at_load ?_); refine wpList_bag_cell hX slI_cell _ rfl rfl rfl rfl (by first | exact .head _ | exact .tail _ (.head _)) rfl ?_) | (at_builtin; refine wpList_appS rfl (.tmp 16) (.tmp 19) rfl (w.heap.size + 2) _ _ _ rfl (World.ownsRow.alloc hown _) ⟨wM.heap.size, 0, none⟩ 1 1 [.string (zB 128)] rfl rfl cell_one (fun x hx => by simp at hx; subst hx; rfl) (by omega) (by simp <;> omega) ?_; intro v2 w2 ho2 hb2 hq2; clear hq2; obtain ⟨A9, c9, rfl, _, _⟩ := Rw.of_own ho2; replace hX := (Bag.step hX ((Below.refl _ _).alloc (Nat.le_refl _) (.cells #[.string (zB 128)] 9))).stepN hb2 (fun b hb => by simp at hb; rcases hb with rfl | rfl <;> simp) (by omega); clear hb2 hown; have hown := ho2; clear ho2) | ((with_reducible refine at_store ?_); refine wpList_bag_putV (z := .slice A9 _ c9) hX siz_S _ _ rfl rfl rfl rfl rfl rfl (by simp) rfl rfl ?_; intro w3 hX3 hk3' hz3; clear hz3 hX; have hX := hX3; replace hown := own_other hown (fun k hk => hk3' k (by omega)); clear hk3' hX3; simp only [List.set_cons_zero, List.set_cons_succ] at hX))
        exact ⟨⟨k + 1, _, by omega, by go_num, by rw [show (smpS (k + 1)).map Value.string = _ from hst]; exact hown, hX⟩, by simp only; omega⟩
    · obtain rfl : k = 8 := by omega
      have hki : ¬ ((8 : Nat) : Int) < 8 := by omega
      have hS := stsX_of (X := OwnA X w.heap.size) (S' := smpS 8) (ownA_lt hXl (Nat.le_refl _)) (hid rfl) (hid (smp_len 8)) hown
      obtain ⟨A9, c9, rfl, _⟩ := hS.now.form
      rw [smp_len] at hS hX
      go_wp2_with (first | ((with_reducible refine at_load ?_); refine wpList_bag_part (k := 0) hX aggD sizD _ rfl rfl rfl rfl (by first | exact .head _ | exact .tail _ (.head _)) (fun jz vz hz => (congrArg (fun n => ([_, _] : List Value)[n]?) (Nat.zero_add jz)).trans hz) rfl ?_) | ((with_reducible refine at_store ?_); refine wpList_bag_overV (cs' := [.slice A9 8 c9, .slice none 0 0]) hX.swap aggD sizD _ _ rfl rfl rfl rfl rfl rfl rfl rfl (two_one rfl rfl) ?_; clear hX; intro wz hX hkz; replace hS := hS.over hkz (.inr (.inl rfl)); clear hkz))
      exact bodyPost_ret (results_c Try.results29 rfl ((hX.all _ _ _ (.head _)).loadVar rfl aggD sizD)) rfl ⟨_, rfl, ⟨_, _, rfl, hS.less (fun _ h => .inl h), Sv.nil X _⟩, hX.below⟩
end Go.Proofs.Ytjolhlfjpnlcnaa
