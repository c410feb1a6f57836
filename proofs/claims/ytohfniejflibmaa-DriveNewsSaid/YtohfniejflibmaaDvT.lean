/-
  Write, Spoil of the program. Condition: the drive is valid.
-/
import Derived.Test.YtohfniejflibmaaDvS
import Derived.Lib.SlKeysI
namespace Go.Proofs.Ytohfniejflibmaa
open Go.RowKit
set_option linter.unusedSimpArgs false
set_option linter.unusedVariables false
set_option maxHeartbeats 4000000
set_option maxRecDepth 100000
attribute [local irreducible] wpQuiet

theorem bag_put {l : List (Nat × TypeId × List Value)} {w wb wp : World} {base N n c : Nat} {A : Option Addr} {e : TypeId} {xs : List Value} (hX : Bag l w wb) (ho : wb.ownsRow base e 1 (.slice A n c) n xs) (hA : ∀ a, A = some a → a.block < N) (hb : Below base wb wp) (hkp : ∀ i, i < wb.heap.size → (∀ a m c', Value.slice A n c = .slice (some a) m c' → a.block ≠ i) → wp.heap[i]? = wb.heap[i]?) (hl : ∀ q ∈ l, q.1 < base ∨ N ≤ q.1) (hw : w.heap.size ≤ base) : Bag l w wp :=
  hX.same (fun q hq => hkp q.1 (hX.all q.1 q.2.1 q.2.2 hq).lt (fun a m c' h => by
    have h1 := (own_blk ho a m c' h).1
    have h2 := hA a (by cases h; rfl)
    have h3 := hl q hq
    omega)) (hX.below.trans (hb.mono hw))
theorem own_put {wb wp : World} {N n c m s : Nat} {A : Option Addr} {e : TypeId} {v : Value} {xs : List Value} (h : wb.ownsRow N e s v m xs) (hA : ∀ a, A = some a → a.block < N) (hkp : ∀ i, i < wb.heap.size → (∀ a m c', Value.slice A n c = .slice (some a) m c' → a.block ≠ i) → wp.heap[i]? = wb.heap[i]?) : wp.ownsRow N e s v m xs :=
  own_keep h (fun k hk hlt => hkp k hlt (fun a m c' h => by have := hA a (by cases h; rfl); omega))
theorem wr_form (D : Drv) (k : Int) (s : ByteArray) : ((D.wr k s).2 = 0 → (D.wr k s).1 = ⟨putS D k s, D.B⟩) ∧ ((D.wr k s).2 ≠ 0 → (D.wr k s).1 = Drv.z) := by
  unfold putS
  cases hv : hasV D.S.length k
  · rw [pwr_no s hv]; exact ⟨fun h => (by cases h), fun _ => rfl⟩
  by_cases h2 : 128 < s.size
  · rw [pwr_long hv h2]; exact ⟨fun h => (by cases h), fun _ => rfl⟩
  cases h3 : D.B.contains k
  · rw [pwr_ok hv h2 h3]; exact ⟨fun _ => rfl, fun h => absurd rfl h⟩
  · rw [pwr_bad hv h2 h3]; exact ⟨fun h => (by cases h), fun _ => rfl⟩
theorem putS_length (D : Drv) (k : Int) (s : ByteArray) : (putS D k s).length = D.S.length := by
  unfold putS
  split
  · rename_i h; exact (wr_keep D k s h).1
  · rfl
theorem pwrite_any (D : Drv) (k : Int) (s : ByteArray) (hr : D.right = true) (vs vb : Value) (X : Nat → Prop) (w : World) (hXl : ∀ b, X b → b < w.heap.size) (hs : Sts w vs D.S) (hb : Its w vb D.B) : Calls Try.prog 20 #[.agg #[vs, vb], .int .i64 k, .string s] w fun e w' => ∃ x, e = .returned (.tuple #[x, .int .i64 (D.wr k s).2]) ∧ DvX X w' x (D.wr k s).1 ∧ Below w.heap.size w w' := by
  have hlB : D.B.length ≤ 1099511627775 := by have := right_len hr; omega
  have hl : D.B.length ≤ 1099511627776 := by omega
  have hBr := right_bad hr
  have hl2 : D.S.length ≤ 1099511627776 := by have := ((right_iff D).1 hr).2.1; omega
  have hput := fun v1 v2 b N w h1 h2 h3 => pput_any D k s (by have := ((right_iff D).1 hr).2.1; omega) v1 v2 b N w h1 h2 h3
  have hsW : ∀ w', Below w.heap.size w w' → Sts w' vs D.S := fun w' h => hs.below h
  have hbW : ∀ w', Below w.heap.size w w' → Its w' vb D.B := fun w' h => hb.below h
  have o1 := sts_one hs
  have o2 := its_one hb
  have hX := two_dv w [vs, vb] [.slice none 0 0, .slice none 0 0]
  have hwf := wr_form D k s
  have hpl := hid (putS_length D k s)
  generalize putS D k s = S2 at *
  generalize D.wr k s = RR at *
  obtain ⟨R1, err⟩ := RR
  dsimp only at hwf hput ⊢
  clear hs hb hr
  go_enter Try.func20, Try.ntmps20
  go_wp2_with (first | ((with_reducible refine at_load ?_); refine wpList_bag_part (k := 0) hX aggD sizD _ rfl rfl rfl rfl (by first | exact .head _ | exact .tail _ (.head _) | exact .tail _ (.tail _ (.head _))) (fun jz vz hz => (congrArg (fun n => ([_, _] : List Value)[n]?) (Nat.zero_add jz)).trans hz) rfl ?_) | (go_at_call 36; (with_reducible refine (pcop_any D hl hl2 _ _ _ (hsW _ hX.below) (hbW _ hX.below)).mono ?_); rintro e wc ⟨A1, c1, A2, c2, N, rfl, ho1, hA1, ho2, hNg, hNl, hbb⟩; have hlt0 := (hX.all _ _ _ (.head _)).lt; replace ho1 := own_base ho1 (show w.heap.size + 2 ≤ _ from hlt0); replace hNg : w.heap.size + 2 ≤ N := Nat.le_trans hlt0 hNg; clear hlt0; replace hX := hX.step hbb; clear hbb) | ((with_reducible refine at_store ?_); refine wpList_bag_storeB (zs := [.slice none 0 0, .slice none 0 0]) (cs := [.slice A1 D.S.length c1, .slice A2 D.B.length c2]) hX aggD sizD _ _ rfl rfl rfl rfl rfl rfl rfl rfl (two_one rfl rfl) ?_; clear hX; intro w8 hX hb8; replace ho1 := own_step ho1 hb8; replace ho2 := own_step ho2 hb8; have hN8 : N ≤ w8.heap.size := Nat.le_trans hNl hb8.size; have hc8 : w.heap.size + 2 ≤ wc.heap.size := Nat.le_trans hNg hNl; clear hb8))
  replace hX := hX.drew
  replace ho1 := World.ownsRow.drew ho1
  replace ho2 := World.ownsRow.drew ho2
  refine region_hoist (fun w' => Bag [(wc.heap.size, 25, [.slice A1 D.S.length c1, .slice A2 D.B.length c2]), (w.heap.size + 1, 25, [.slice none 0 0, .slice none 0 0]), (w.heap.size, 25, [vs, vb])] w w') 7 [(0, false), (1, false), (3, false), (4, false), (5, false), (2, true), (6, true)] (by kernel_rfl) (by kernel_rfl) (fun _ _ dd _ _ h => by cases dd <;> exact h) hX ?_
  refine wpHo_q' rfl rfl (fun KK hKK => ?_)
  apply Exists.intro
  refine ⟨fun wq hq => ?_, hKK _ ?_⟩
  · try dsimp only at hq
    first
      | exact run_load_op 25 _ _ rfl rfl ((hq.all _ _ _ (.head _)).loadAt rfl aggD sizD)
      | exact run_load_op 25 _ _ rfl rfl ((hq.all _ _ _ (.tail _ (.tail _ (.head _)))).loadAt rfl aggD sizD)
      | (unfold execOp; go_simp; done)
      | (unfold execOp; go_simp; with_reducible rfl)
  clear hKK KK
  simp only [Act.put, List.setIfInBounds_toArray, List.set_cons_zero, List.set_cons_succ]
  refine wpHo_q' rfl rfl (fun KK hKK => ?_)
  apply Exists.intro
  refine ⟨fun wq hq => ?_, hKK _ ?_⟩
  · try dsimp only at hq
    first
      | exact run_load_op 25 _ _ rfl rfl ((hq.all _ _ _ (.head _)).loadAt rfl aggD sizD)
      | exact run_load_op 25 _ _ rfl rfl ((hq.all _ _ _ (.tail _ (.tail _ (.head _)))).loadAt rfl aggD sizD)
      | (unfold execOp; go_simp; done)
      | (unfold execOp; go_simp; with_reducible rfl)
  clear hKK KK
  simp only [Act.put, List.setIfInBounds_toArray, List.set_cons_zero, List.set_cons_succ]
  refine wpHo_q' rfl rfl (fun KK hKK => ?_)
  apply Exists.intro
  refine ⟨fun wq hq => ?_, hKK _ ?_⟩
  · try dsimp only at hq
    first
      | exact run_load_op 25 _ _ rfl rfl ((hq.all _ _ _ (.head _)).loadAt rfl aggD sizD)
      | exact run_load_op 25 _ _ rfl rfl ((hq.all _ _ _ (.tail _ (.tail _ (.head _)))).loadAt rfl aggD sizD)
      | (unfold execOp; go_simp; done)
      | (unfold execOp; go_simp; with_reducible rfl)
  clear hKK KK
  simp only [Act.put, List.setIfInBounds_toArray, List.set_cons_zero, List.set_cons_succ]
  refine wpHo_q' rfl rfl (fun KK hKK => ?_)
  apply Exists.intro
  refine ⟨fun wq hq => ?_, hKK _ ?_⟩
  · try dsimp only at hq
    first
      | exact run_load_op 25 _ _ rfl rfl ((hq.all _ _ _ (.head _)).loadAt rfl aggD sizD)
      | exact run_load_op 25 _ _ rfl rfl ((hq.all _ _ _ (.tail _ (.tail _ (.head _)))).loadAt rfl aggD sizD)
      | (unfold execOp; go_simp; done)
      | (unfold execOp; go_simp; with_reducible rfl)
  clear hKK KK
  simp only [Act.put, List.setIfInBounds_toArray, List.set_cons_zero, List.set_cons_succ]
  refine wpHo_q' rfl rfl (fun KK hKK => ?_)
  apply Exists.intro
  refine ⟨fun wq hq => ?_, hKK _ ?_⟩
  · try dsimp only at hq
    first
      | exact run_load_op 25 _ _ rfl rfl ((hq.all _ _ _ (.head _)).loadAt rfl aggD sizD)
      | exact run_load_op 25 _ _ rfl rfl ((hq.all _ _ _ (.tail _ (.tail _ (.head _)))).loadAt rfl aggD sizD)
      | (unfold execOp; go_simp; done)
      | (unfold execOp; go_simp; with_reducible rfl)
  clear hKK KK
  simp only [Act.put, List.setIfInBounds_toArray, List.set_cons_zero, List.set_cons_succ]
  refine wpHo_call rfl rfl (fun KK hKK => ?_)
  unfold Oper.semiAt
  go_simp
  simp only [semiUpon]
  refine ⟨trivial, ?_⟩
  refine (pbad_any D hlB hBr _ _ _ (hbW _ hX.below)).mono ?_
  rintro e' wb ⟨b, rfl, hM, hge, hbb⟩
  refine ⟨_, rfl, hKK _ _ (hX.step hbb) ?_⟩
  clear hKK KK
  replace hX := hX.step hbb
  replace ho1 := own_step ho1 hbb
  replace ho2 := own_step ho2 hbb
  replace hN8 := Nat.le_trans hN8 hbb.size
  clear hbb
  simp only [Act.put, List.setIfInBounds_toArray, List.set_cons_zero, List.set_cons_succ]
  refine wpHo_call rfl rfl (fun KK hKK => ?_)
  unfold Oper.semiAt
  go_simp
  simp only [semiUpon]
  refine ⟨trivial, ?_⟩
  refine (hput _ _ b (w.heap.size + 2) _ ho1 (Nat.le_trans hNg hN8) hM).mono ?_
  rintro e' wp ⟨rfl, ho1p, hbp, hkp⟩
  refine ⟨_, rfl, hKK _ _ (bag_put hX ho1 hA1 hbp hkp (fun q hq => by simp at hq; rcases hq with rfl | rfl | rfl <;> simp <;> omega) (Nat.le_add_right _ 2)) ?_⟩
  clear hKK KK
  replace hX := bag_put hX ho1 hA1 hbp hkp (fun q hq => by simp at hq; rcases hq with rfl | rfl | rfl <;> simp <;> omega) (Nat.le_add_right _ 2)
  replace ho2 := own_put ho2 hA1 hkp
  replace ho1 := ho1p
  clear ho1p hbp hkp hM
  simp only [Act.put, List.setIfInBounds_toArray, List.set_cons_zero, List.set_cons_succ]
  refine wpHo_nil ?_
  simp only [List.drop_succ_cons, List.drop_zero]
  clear hput hsW hbW
  by_cases he : err = 0
  · obtain rfl := hwf.1 he
    subst he
    clear hwf
    go_wp2_with (first | ((with_reducible refine at_load ?_); refine wpList_bag_part (k := 0) hX aggD sizD _ rfl rfl rfl rfl (by first | exact .head _ | exact .tail _ (.head _) | exact .tail _ (.tail _ (.head _))) (fun jz vz hz => (congrArg (fun n => ([_, _] : List Value)[n]?) (Nat.zero_add jz)).trans hz) rfl ?_) | ((with_reducible refine at_store ?_); refine wpList_bag_overV (cs' := [.slice A1 D.S.length c1, .slice A2 D.B.length c2]) hX.swap aggD sizD _ _ rfl rfl rfl rfl rfl rfl rfl rfl (two_one rfl rfl) ?_; clear hX; intro wz hX hkz; replace ho1 := own_other ho1 (fun k hk => hkz k (by omega)); replace ho2 := own_other ho2 (fun k hk => hkz k (by omega)); clear hkz))
    exact bodyPost_ret (results_ct Try.results20 rfl ((hX.all _ _ _ (.head _)).loadVar rfl aggD sizD)) rfl ⟨_, rfl, ⟨_, _, rfl, stsX_of (fun b hb => by have := hXl b hb; omega) (hid rfl) hpl ho1, itsX_of (fun b hb => by have := hXl b hb; omega) (hid rfl) (hid rfl) ho2⟩, hX.below⟩
  · obtain rfl := hwf.2 he
    have he1 : (err != 0) = true := by simpa using he
    clear hwf he
    go_wp2_with (first | ((with_reducible refine at_load ?_); refine wpList_bag_part (k := 0) hX aggD sizD _ rfl rfl rfl rfl (by first | exact .head _ | exact .tail _ (.head _) | exact .tail _ (.tail _ (.head _))) (fun jz vz hz => (congrArg (fun n => ([_, _] : List Value)[n]?) (Nat.zero_add jz)).trans hz) rfl ?_) | ((with_reducible refine at_store ?_); refine wpList_bag_overV (cs' := [.slice none 0 0, .slice none 0 0]) hX.swap aggD sizD _ _ rfl rfl rfl rfl rfl rfl rfl rfl (two_one rfl rfl) ?_; clear hX; intro wz hX hkz; replace ho1 := own_other ho1 (fun k hk => hkz k (by omega)); replace ho2 := own_other ho2 (fun k hk => hkz k (by omega)); clear hkz))
    exact bodyPost_ret (results_ct Try.results20 rfl ((hX.all _ _ _ (.head _)).loadVar rfl aggD sizD)) rfl ⟨_, rfl, ⟨_, _, rfl, Sv.nil _ _, Sv.nil _ _⟩, hX.below⟩
end Go.Proofs.Ytohfniejflibmaa
