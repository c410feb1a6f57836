/-
  New, copied, put of the program. Condition: at most 2^40 sectors and bad ones.
-/
import Derived.Test.YtohfniejflibmaaDvQ
namespace Go.Proofs.Ytohfniejflibmaa
open Go.RowKit
set_option linter.unusedSimpArgs false
set_option linter.unusedVariables false
set_option maxHeartbeats 4000000
set_option maxRecDepth 100000
attribute [local irreducible] wpQuiet

theorem Bag.same {l : List (Nat × TypeId × List Value)} {w0 w w' : World} (h : Bag l w0 w) (hk : ∀ b ∈ l, w'.heap[b.1]? = w.heap[b.1]?) (hb : Below w0.heap.size w0 w') : Bag l w0 w' := ⟨fun B t cs hm => (hk _ hm).trans (h.all B t cs hm), hb, h.lo, h.dis⟩
theorem own_keep {w w' : World} {base n s : Nat} {t : TypeId} {v : Value} {xs : List Value} (h : w.ownsRow base t s v n xs) (hk : ∀ k, base ≤ k → k < w.heap.size → w'.heap[k]? = w.heap[k]?) : w'.ownsRow base t s v n xs := by
  refine ⟨h.1, ?_⟩
  rcases h.2 with h0 | ⟨g, cap, cur, hv, hg, hh, r⟩
  · exact .inl h0
  · exact .inr ⟨g, cap, cur, hv, hg, (hk g hg (Array.getElem?_eq_some_iff.1 hh).1).trans hh, r⟩
theorem own_blk {w : World} {base n s : Nat} {t : TypeId} {v : Value} {xs : List Value} (h : w.ownsRow base t s v n xs) : ∀ a m c, v = .slice (some a) m c → base ≤ a.block ∧ a.block < w.heap.size := by
  intro a m c hv
  rcases h.2 with ⟨h0, _⟩ | ⟨g, cap, cur, h0, hg, hh, r⟩
  · rw [hv] at h0; cases h0
  · rw [hv] at h0; cases h0
    exact ⟨hg, (Array.getElem?_eq_some_iff.1 hh).1⟩
theorem two_bag (w : World) (t1 t2 : TypeId) (cs ds : List Value) : Bag [(w.heap.size + 1, t2, ds), (w.heap.size, t1, cs)] w ((w.alloc (.cells cs.toArray t1)).alloc (.cells ds.toArray t2)) := by
  have h := ((Bag.nil w).new t1 cs).new t2 ds
  rw [show (w.alloc (.cells cs.toArray t1)).heap.size = w.heap.size + 1 from Array.size_push ..] at h
  exact h
theorem size_over {w w' : World} {B : Nat} (hk : ∀ k, k ≠ B → w'.heap[k]? = w.heap[k]?) (hB : B < w'.heap.size) : w.heap.size ≤ w'.heap.size := by
  rcases Nat.lt_or_ge w'.heap.size w.heap.size with h | h
  · have := lt_of_same h (hk _ (by omega)); omega
  · exact h
theorem pad_nil : (⟨#[]⟩ : ByteArray) ++ zB (128 - (⟨#[]⟩ : ByteArray).size) = zB 128 := by decide +kernel
theorem pnew_any (n : Int) (X : Nat → Prop) (w : World) (hXl : ∀ b, X b → b < w.heap.size) : Calls Try.prog 10 #[.int .i64 n] w fun e w' => ∃ x, e = .returned (.tuple #[x, .int .i64 (newV n).2]) ∧ DvX X w' x (newV n).1 ∧ Below w.heap.size w w' := by
  have hX := (Bag.nil w).new 25 [.slice none 0 0, .slice none 0 0]
  have hal := fun w => palw_any n w
  unfold newV
  by_cases h : 1 ≤ n ∧ n ≤ 256
  · rw [if_pos h]
    rw [decide_eq_true h.1, decide_eq_true h.2, Bool.and_self] at hal
    obtain ⟨m, rfl⟩ : ∃ m : Nat, n = (m : Int) := ⟨n.toNat, by omega⟩
    have h1 : 1 ≤ m := by omega
    have h2 : m ≤ 256 := by omega
    have hpd := fun w => ppad_any ⟨#[]⟩ (by decide) w
    rw [pad_nil] at hpd
    simp only [Int.toNat_natCast]
    clear h
    go_enter Try.func10, Try.ntmps10
    go_wp2_with (first | (go_at_call 29; (with_reducible refine (hal _).mono ?_); rintro e wa ⟨rfl, hbb⟩; replace hX := hX.step hbb; clear hbb) | (go_at_call 31; (with_reducible refine (hpd _).mono ?_); rintro e wp ⟨rfl, hbb⟩; replace hX := hX.step hbb; clear hbb; have hge := (hX.all _ _ _ (.head _)).lt) | (go_at_call 30; (with_reducible refine (prep_any (zB 128) m h1 h2 wp.heap.size 1 (wp.alloc (.cells #[.string (zB 128)] 9)) ((Blk.new 9 wp [.string (zB 128)]).cell rfl) (by simp)).mono ?_); rintro e wr ⟨v, rfl, hown, hbb⟩; replace hX := (hX.step ((Below.refl _ _).alloc (Nat.le_refl _) (.cells #[.string (zB 128)] 9))).step hbb; clear hbb; obtain ⟨A1, c1, rfl, _, _⟩ := Rw.of_own hown; have hwp : wp.heap.size < (wp.alloc (.cells #[.string (zB 128)] 9)).heap.size := by simp) | ((with_reducible refine at_store ?_); refine wpList_bag_overV hX aggD sizD _ _ rfl rfl rfl rfl rfl rfl rfl rfl (by intro u hu; simp at hu; rcases hu with rfl | rfl <;> rfl) ?_; clear hX; intro wz hX hkz))
    have hO := own_other hown (fun k hk => hkz k (by omega))
    exact bodyPost_ret (results_ct Try.results10 rfl ((hX.all _ _ _ (.head _)).loadVar rfl aggD sizD)) rfl ⟨_, rfl, ⟨_, _, rfl, stsX_of (fun b hb => by have := hXl b hb; omega) (hid (by rw [List.map_replicate])) (hid List.length_replicate) hO, Sv.nil _ _⟩, hX.below⟩
  · rw [if_neg h]
    have hf : (decide (1 ≤ n) && decide (n ≤ 256)) = false := by
      rw [Bool.eq_false_iff]; intro h'; simp at h'; exact h h'
    rw [hf] at hal
    clear hf h
    go_enter Try.func10, Try.ntmps10
    go_wp2_with (first | (go_at_call 29; (with_reducible refine (hal _).mono ?_); rintro e wa ⟨rfl, hbb⟩; replace hX := hX.step hbb; clear hbb) | ((with_reducible refine at_store ?_); refine wpList_bag_overV hX aggD sizD _ _ rfl rfl rfl rfl rfl rfl rfl rfl (by intro u hu; simp at hu; rcases hu with rfl | rfl <;> rfl) ?_; clear hX; intro wz hX hkz))
    exact bodyPost_ret (results_ct Try.results10 rfl ((hX.all _ _ _ (.head _)).loadVar rfl aggD sizD)) rfl ⟨_, rfl, DvX.z X _, hX.below⟩
theorem pcop_any (D : Drv) (hl : D.B.length ≤ 1099511627776) (hl2 : D.S.length ≤ 1099511627776) (vs vb : Value) (w : World) (hs : Sts w vs D.S) (hb : Its w vb D.B) : Calls Try.prog 36 #[.agg #[vs, vb]] w fun e w' => ∃ A1 c1 A2 c2 N, e = .returned (.agg #[.slice A1 D.S.length c1, .slice A2 D.B.length c2]) ∧ w'.ownsRow w.heap.size 9 1 (.slice A1 D.S.length c1) D.S.length (D.S.map Value.string) ∧ (∀ a, A1 = some a → a.block < N) ∧ w'.ownsRow N 3 1 (.slice A2 D.B.length c2) D.B.length (D.B.map (Value.int .i64)) ∧ w.heap.size ≤ N ∧ N ≤ w'.heap.size ∧ Below w.heap.size w w' := by
  have hX := two_dv w [vs, vb] [.slice none 0 0, .slice none 0 0]
  go_enter Try.func36, Try.ntmps36
  go_wp2
  refine region_hoist (fun w' => Bag [(w.heap.size + 1, 25, [.slice none 0 0, .slice none 0 0]), (w.heap.size, 25, [vs, vb])] w w') 6 [(0, false), (1, false), (3, false), (4, false), (2, true), (5, true)] (by kernel_rfl) (by kernel_rfl) (fun _ _ dd _ _ h => by cases dd <;> exact h) hX.drew ?_
  refine wpHo_q' rfl rfl (fun KK hKK => ?_)
  apply Exists.intro
  refine ⟨fun wq hq => ?_, hKK _ ?_⟩
  · try dsimp only at hq
    first
      | exact run_load_op 22 _ _ rfl rfl ((hq.all _ _ _ (.tail _ (.head _))).loadCell rfl slS_cell)
      | exact run_load_op 23 _ _ rfl rfl ((hq.all _ _ _ (.tail _ (.head _))).loadCell rfl slI_cell)
      | (unfold execOp; go_simp; done)
      | (unfold execOp; go_simp; with_reducible rfl)
  clear hKK KK
  simp only [Act.put, List.setIfInBounds_toArray, List.set_cons_zero, List.set_cons_succ]
  refine wpHo_q' rfl rfl (fun KK hKK => ?_)
  apply Exists.intro
  refine ⟨fun wq hq => ?_, hKK _ ?_⟩
  · try dsimp only at hq
    first
      | exact run_load_op 22 _ _ rfl rfl ((hq.all _ _ _ (.tail _ (.head _))).loadCell rfl slS_cell)
      | exact run_load_op 23 _ _ rfl rfl ((hq.all _ _ _ (.tail _ (.head _))).loadCell rfl slI_cell)
      | (unfold execOp; go_simp; done)
      | (unfold execOp; go_simp; with_reducible rfl)
  clear hKK KK
  simp only [Act.put, List.setIfInBounds_toArray, List.set_cons_zero, List.set_cons_succ]
  refine wpHo_q' rfl rfl (fun KK hKK => ?_)
  apply Exists.intro
  refine ⟨fun wq hq => ?_, hKK _ ?_⟩
  · try dsimp only at hq
    first
      | exact run_load_op 22 _ _ rfl rfl ((hq.all _ _ _ (.tail _ (.head _))).loadCell rfl slS_cell)
      | exact run_load_op 23 _ _ rfl rfl ((hq.all _ _ _ (.tail _ (.head _))).loadCell rfl slI_cell)
      | (unfold execOp; go_simp; done)
      | (unfold execOp; go_simp; with_reducible rfl)
  clear hKK KK
  simp only [Act.put, List.setIfInBounds_toArray, List.set_cons_zero, List.set_cons_succ]
  refine wpHo_q' rfl rfl (fun KK hKK => ?_)
  apply Exists.intro
  refine ⟨fun wq hq => ?_, hKK _ ?_⟩
  · try dsimp only at hq
    first
      | exact run_load_op 22 _ _ rfl rfl ((hq.all _ _ _ (.tail _ (.head _))).loadCell rfl slS_cell)
      | exact run_load_op 23 _ _ rfl rfl ((hq.all _ _ _ (.tail _ (.head _))).loadCell rfl slI_cell)
      | (unfold execOp; go_simp; done)
      | (unfold execOp; go_simp; with_reducible rfl)
  clear hKK KK
  simp only [Act.put, List.setIfInBounds_toArray, List.set_cons_zero, List.set_cons_succ]
  refine wpHo_call rfl rfl (fun KK hKK => ?_)
  unfold Oper.semiAt
  go_simp
  simp only [semiUpon]
  refine ⟨trivial, ?_⟩
  refine (pclS_any D.S vs _ hl2 (hs.below hX.below.drew)).mono ?_
  rintro e' w2 ⟨v1, rfl, ho1, hb1⟩
  refine ⟨_, rfl, hKK _ _ (hX.drew.step hb1) ?_⟩
  clear hKK KK
  replace hX := hX.drew.step hb1
  have hn1 : w.heap.size + 2 ≤ w2.heap.size := by have h := hb1.size; simp at h; omega
  have hk1 := own_blk ho1
  replace ho1 := own_base ho1 (show w.heap.size + 2 ≤ _ by simp)
  obtain ⟨A1, c1, rfl, _, _⟩ := Rw.of_own ho1
  clear hb1
  simp only [Act.put, List.setIfInBounds_toArray, List.set_cons_zero, List.set_cons_succ]
  refine wpHo_call rfl rfl (fun KK hKK => ?_)
  unfold Oper.semiAt
  go_simp
  simp only [semiUpon]
  refine ⟨trivial, ?_⟩
  refine (pclI_any D.B vb _ hl (hb.below hX.below)).mono ?_
  rintro e' w3 ⟨v2, rfl, ho2, hb2⟩
  refine ⟨_, rfl, hKK _ _ (hX.step hb2) ?_⟩
  clear hKK KK
  replace hX := hX.step hb2
  replace ho1 := own_step ho1 hb2
  obtain ⟨A2, c2, rfl, _, _⟩ := Rw.of_own ho2
  have hn2 := hb2.size
  clear hb2
  simp only [Act.put, List.setIfInBounds_toArray, List.set_cons_zero, List.set_cons_succ]
  refine wpHo_nil ?_
  simp only [List.drop_succ_cons, List.drop_zero]
  go_wp2_with (first | ((with_reducible refine at_store ?_); refine wpList_bag_overV hX aggD sizD _ _ rfl rfl rfl rfl rfl rfl rfl rfl (by intro u hu; simp at hu; rcases hu with rfl | rfl <;> rfl) ?_; clear hX; intro wz hX hkz))
  exact bodyPost_ret (results_c Try.results36 rfl ((hX.all _ _ _ (.head _)).loadVar rfl aggD sizD)) rfl ⟨_, _, _, _, _, rfl, own_base (own_other ho1 (fun k hk => hkz k (by omega))) (Nat.le_add_right _ 2), fun a ha => (hk1 a _ _ (by rw [ha])).2, own_other ho2 (fun k hk => hkz k (by omega)), by omega, Nat.le_trans hn2 (size_over hkz (hX.all _ _ _ (.head _)).lt), hX.below⟩
/-- The sectors behind a write. -/
def putS (D : Drv) (k : Int) (s : ByteArray) : List ByteArray := if (D.wr k s).2 = 0 then (D.wr k s).1.S else D.S
theorem aggWr (w : World) : (isAgg 45).run Try.prog w = .ok true w := by kernel_rfl
theorem sizWr (w : World) : (sizeOf 45).run Try.prog w = .ok 2 w := by kernel_rfl
section
variable {ops : Array Oper} {rest : List Oper} {o : Oper} {a : Act} {w w1 : World} {Q : Exit → Act → World → Prop}
/-- A one-cell value is stored into a row of the call's own; the other blocks stay. -/
theorem wpList_row_storeK {N g j n cap : Nat} {e T : TypeId} {xs : List Value} {u : Value} (hown : w.ownsRow N e 1 (.slice (some ⟨g, 0, none⟩) n cap) n xs) (hsz : ∀ w, (sizeOf T).run Try.prog w = .ok 1 w) (x y : Operand) (hop : o.op = Op.store T x y) (hal : w1 = w) (hx : a.eval x = .pointer (some ⟨g, j, none⟩)) (hy : a.eval y = u) (hdst : o.dst = none) (hw : Region.wanted o (yielded ops a.tmps) = true) (hj : j < n) (hz : u.cells = #[u]) (h1 : u.oneCell' = true)
    (h : ∀ w2, w2.ownsRow N e 1 (.slice (some ⟨g, 0, none⟩) n cap) n (xs.set j u) → Below N w w2 → (∀ k, k ≠ g → w2.heap[k]? = w.heap[k]?) → wpList Try.prog ops Q rest a w2) : wpList Try.prog ops Q (o :: rest) a w1 := by
  subst hal
  have hg : N ≤ g := (World.ownsRow.lt hown g rfl).1
  have hlt : g < w1.heap.size := (World.ownsRow.lt hown g rfl).2
  have hl : xs.length = n := by have := hown.1; omega
  have hc := World.ownsRow.cellAt hown j (by omega)
  have hf := World.ownsRow.frozenAt hown j
  have hst := (World.ownsRow.stored hown j u).1
  have hx0 : ∃ u0, w1.cell? ⟨g, j, none⟩ = some u0 := ⟨xs[j]'(by omega), by rw [hc, List.getElem?_eq_getElem]⟩
  obtain ⟨u0, hu0⟩ := hx0
  have hr : (storeCells ⟨g, j, none⟩ [u]).run Try.prog w1 = .ok () (w1.setCell ⟨g, j, none⟩ u) := by
    simp [storeCells, go_sem]
    rw [run_store _ _ _ _ _ h1, hu0]
    simp [hf]
  exact BigFrame.wpList_want hw fun _ hK => by
    unfold Oper.wp execOp
    simp only [hop, hx, hy, hz, Instr.storeAt, Instr.sureAddr, storeVar, hr, hsz, List.size_toArray, List.length_cons, List.length_nil, ne_eq, not_true_eq_false, if_false, Sem.run_bind, Sem.run_pure, Result.andThen_ok]
    exact hK _ _ (by rw [hdst]; exact h _ hst ((Below.refl N w1).setCell hg u) (fun k hk => heap_setCell_other w1 ⟨g, j, none⟩ k u hk))
end
theorem pwr_no {D : Drv} {k : Int} (s : ByteArray) (h : hasV D.S.length k = false) : D.wr k s = (Drv.z, 2) := by
  unfold Drv.wr; rw [if_neg]; intro h'; rw [(hasV_iff _ _).2 h'] at h; cases h
theorem pwr_long {D : Drv} {k : Int} {s : ByteArray} (h : hasV D.S.length k = true) (h2 : 128 < s.size) : D.wr k s = (Drv.z, 7) := by
  unfold Drv.wr; rw [if_pos ((hasV_iff _ _).1 h), if_pos h2]
theorem pwr_bad {D : Drv} {k : Int} {s : ByteArray} (h : hasV D.S.length k = true) (h2 : ¬ 128 < s.size) (h3 : D.B.contains k = true) : D.wr k s = (Drv.z, 21) := by
  unfold Drv.wr; rw [if_pos ((hasV_iff _ _).1 h), if_neg h2, if_pos h3]
theorem pwr_ok {D : Drv} {k : Int} {s : ByteArray} (h : hasV D.S.length k = true) (h2 : ¬ 128 < s.size) (h3 : D.B.contains k = false) : D.wr k s = (⟨D.S.set k.toNat (s ++ zB (128 - s.size)), D.B⟩, 0) := by
  unfold Drv.wr; rw [if_pos ((hasV_iff _ _).1 h), if_neg h2, if_neg (by rw [h3]; decide)]
theorem pput_any (D : Drv) (k : Int) (s : ByteArray) (hsl : D.S.length ≤ 4096) (v1 v2 : Value) (b N : Nat) (w : World) (hown : w.ownsRow N 9 1 v1 D.S.length (D.S.map Value.string)) (hN : N ≤ w.heap.size) (hM : OwnM w b D.B) :
    Calls Try.prog 37 #[.agg #[v1, v2], .map (some b), .agg #[.int .i64 k, .string s]] w fun e w' => e = .returned (.int .i64 (D.wr k s).2) ∧ w'.ownsRow N 9 1 v1 D.S.length ((putS D k s).map Value.string) ∧ Below N w w' ∧ ∀ i, i < w.heap.size → (∀ a m c, v1 = .slice (some a) m c → a.block ≠ i) → w'.heap[i]? = w.heap[i]? := by
  have hown0 := hown
  obtain ⟨A, c, rfl, _, _⟩ := Rw.of_own hown
  have hX := two_bag w 25 45 [.slice A D.S.length c, v2] [.int .i64 k, .string s]
  have hha := fun w => phas_any A D.S.length c v2 k w
  unfold putS
  cases hv : hasV D.S.length k
  · rw [pwr_no s hv, if_neg (by decide)]
    rw [hv] at hha
    clear hv hown
    go_enter Try.func37, Try.ntmps37
    go_wp2_with (first | ((with_reducible refine at_load ?_); refine wpList_bag_part (k := 0) hX aggD sizD _ rfl rfl rfl rfl (by first | exact .head _ | exact .tail _ (.head _)) (fun jz vz hz => (congrArg (fun n => ([_, _] : List Value)[n]?) (Nat.zero_add jz)).trans hz) rfl ?_) | ((with_reducible refine at_load ?_); refine wpList_bag_cell hX slS_cell _ rfl rfl rfl rfl (by first | exact .head _ | exact .tail _ (.head _)) rfl ?_) | ((with_reducible refine at_load ?_); refine wpList_bag_cell hX slI_cell _ rfl rfl rfl rfl (by first | exact .head _ | exact .tail _ (.head _)) rfl ?_) | ((with_reducible refine at_load ?_); refine wpList_bag_cell hX int_cell _ rfl rfl rfl rfl (by first | exact .head _ | exact .tail _ (.head _)) rfl ?_) | ((with_reducible refine at_load ?_); refine wpList_bag_cell hX str_cell _ rfl rfl rfl rfl (by first | exact .head _ | exact .tail _ (.head _)) rfl ?_) | (go_at_call 33; (with_reducible refine (hha _).mono ?_); rintro e wh ⟨rfl, hbb⟩; replace hX := hX.step hbb; clear hbb))
    go_ret
    exact ⟨rfl, own_step hown0 hX.below, hX.below.mono hN, fun i hi _ => hX.below.block i hi⟩
  have hkr : 0 ≤ k ∧ k < 9223372036854775808 := by have := (hasV_iff _ _).1 hv; omega
  by_cases h2 : 128 < s.size
  · rw [pwr_long hv h2, if_neg (by decide)]
    rw [hv] at hha
    have h2i : (128 : Int) < (s.size : Int) := by omega
    clear hv hown h2
    go_enter Try.func37, Try.ntmps37
    go_wp2_with (first | ((with_reducible refine at_load ?_); refine wpList_bag_part (k := 0) hX aggD sizD _ rfl rfl rfl rfl (by first | exact .head _ | exact .tail _ (.head _)) (fun jz vz hz => (congrArg (fun n => ([_, _] : List Value)[n]?) (Nat.zero_add jz)).trans hz) rfl ?_) | ((with_reducible refine at_load ?_); refine wpList_bag_cell hX slS_cell _ rfl rfl rfl rfl (by first | exact .head _ | exact .tail _ (.head _)) rfl ?_) | ((with_reducible refine at_load ?_); refine wpList_bag_cell hX slI_cell _ rfl rfl rfl rfl (by first | exact .head _ | exact .tail _ (.head _)) rfl ?_) | ((with_reducible refine at_load ?_); refine wpList_bag_cell hX int_cell _ rfl rfl rfl rfl (by first | exact .head _ | exact .tail _ (.head _)) rfl ?_) | ((with_reducible refine at_load ?_); refine wpList_bag_cell hX str_cell _ rfl rfl rfl rfl (by first | exact .head _ | exact .tail _ (.head _)) rfl ?_) | (go_at_call 33; (with_reducible refine (hha _).mono ?_); rintro e wh ⟨rfl, hbb⟩; replace hX := hX.step hbb; clear hbb))
    go_ret
    exact ⟨rfl, own_step hown0 hX.below, hX.below.mono hN, fun i hi _ => hX.below.block i hi⟩
  have h2i : ¬ (128 : Int) < (s.size : Int) := by omega
  cases h3 : D.B.contains k
  · rw [pwr_ok hv h2 h3, if_pos rfl]
    have hpd := fun w => ppad_any s (by omega) w
    generalize s ++ zB (128 - s.size) = s2 at *
    obtain ⟨j, rfl⟩ : ∃ j : Nat, k = (j : Int) := ⟨k.toNat, by omega⟩
    have hjl : j < D.S.length := by have := (hasV_iff _ _).1 hv; omega
    have hji : (j : Int) < (D.S.length : Int) := by omega
    have hj0 : (0 : Int) ≤ (j : Int) := by omega
    obtain ⟨g, cap, hv1, _, _, _, _, _⟩ := own_at hown (by omega)
    cases hv1
    have hlt := (own_blk hown _ _ _ rfl).2
    rw [hv] at hha
    clear hv h2
    have hln : (D.S.length : Int) ≤ 4096 := by omega
    go_enter Try.func37, Try.ntmps37
    go_wp2_with (first | ((with_reducible refine at_load ?_); refine wpList_bag_part (k := 0) hX aggD sizD _ rfl rfl rfl rfl (by first | exact .head _ | exact .tail _ (.head _)) (fun jz vz hz => (congrArg (fun n => ([_, _] : List Value)[n]?) (Nat.zero_add jz)).trans hz) rfl ?_) | ((with_reducible refine at_load ?_); refine wpList_bag_cell hX slS_cell _ rfl rfl rfl rfl (by first | exact .head _ | exact .tail _ (.head _)) rfl ?_) | ((with_reducible refine at_load ?_); refine wpList_bag_cell hX slI_cell _ rfl rfl rfl rfl (by first | exact .head _ | exact .tail _ (.head _)) rfl ?_) | ((with_reducible refine at_load ?_); refine wpList_bag_cell hX int_cell _ rfl rfl rfl rfl (by first | exact .head _ | exact .tail _ (.head _)) rfl ?_) | ((with_reducible refine at_load ?_); refine wpList_bag_cell hX str_cell _ rfl rfl rfl rfl (by first | exact .head _ | exact .tail _ (.head _)) rfl ?_) | (go_at_call 33; (with_reducible refine (hha _).mono ?_); rintro e wh ⟨rfl, hbb⟩; replace hX := hX.step hbb; clear hbb) | (at_lookup; refine wpList_look (hM.step hX.below) hkr rfl _ _ rfl rfl rfl ?_); rw [h3])
    refine region_hoist (fun w' => Bag [(w.heap.size + 1, 45, [.int .i64 (j : Int), .string s]), (w.heap.size, 25, [.slice (some ⟨g, 0, none⟩) D.S.length c, v2])] w w') 7 [(0, false), (1, false), (2, false), (3, false), (4, false), (5, false), (6, true)] (by kernel_rfl) (by kernel_rfl) (fun _ _ dd _ _ h => by cases dd <;> exact h) hX.drew ?_
    refine wpHo_q' rfl rfl (fun KK hKK => ?_)
    apply Exists.intro
    refine ⟨fun wq hq => ?_, hKK _ ?_⟩
    · try dsimp only at hq
      first
        | exact run_load_op 22 _ _ rfl rfl ((hq.all _ _ _ (.tail _ (.head _))).loadCell rfl slS_cell)
        | exact run_load_op 3 _ _ rfl rfl ((hq.all _ _ _ (.head _)).loadCell rfl int_cell)
        | exact run_load_op 9 _ _ rfl rfl ((hq.all _ _ _ (.head _)).loadCell rfl str_cell)
        | (unfold execOp; go_simp; done)
        | (unfold execOp; go_simp; with_reducible rfl)
    clear hKK KK
    simp only [Act.put, List.setIfInBounds_toArray, List.set_cons_zero, List.set_cons_succ]
    refine wpHo_q' rfl rfl (fun KK hKK => ?_)
    apply Exists.intro
    refine ⟨fun wq hq => ?_, hKK _ ?_⟩
    · try dsimp only at hq
      first
        | exact run_load_op 22 _ _ rfl rfl ((hq.all _ _ _ (.tail _ (.head _))).loadCell rfl slS_cell)
        | exact run_load_op 3 _ _ rfl rfl ((hq.all _ _ _ (.head _)).loadCell rfl int_cell)
        | exact run_load_op 9 _ _ rfl rfl ((hq.all _ _ _ (.head _)).loadCell rfl str_cell)
        | (unfold execOp; go_simp; done)
        | (unfold execOp; go_simp; with_reducible rfl)
    clear hKK KK
    simp only [Act.put, List.setIfInBounds_toArray, List.set_cons_zero, List.set_cons_succ]
    refine wpHo_q' rfl rfl (fun KK hKK => ?_)
    apply Exists.intro
    refine ⟨fun wq hq => ?_, hKK _ ?_⟩
    · try dsimp only at hq
      first
        | exact run_load_op 22 _ _ rfl rfl ((hq.all _ _ _ (.tail _ (.head _))).loadCell rfl slS_cell)
        | exact run_load_op 3 _ _ rfl rfl ((hq.all _ _ _ (.head _)).loadCell rfl int_cell)
        | exact run_load_op 9 _ _ rfl rfl ((hq.all _ _ _ (.head _)).loadCell rfl str_cell)
        | (unfold execOp; go_simp; done)
        | (unfold execOp; go_simp; with_reducible rfl)
    clear hKK KK
    simp only [Act.put, List.setIfInBounds_toArray, List.set_cons_zero, List.set_cons_succ]
    refine wpHo_q' rfl rfl (fun KK hKK => ?_)
    apply Exists.intro
    refine ⟨fun wq hq => ?_, hKK _ ?_⟩
    · try dsimp only at hq
      first
        | exact run_load_op 22 _ _ rfl rfl ((hq.all _ _ _ (.tail _ (.head _))).loadCell rfl slS_cell)
        | exact run_load_op 3 _ _ rfl rfl ((hq.all _ _ _ (.head _)).loadCell rfl int_cell)
        | exact run_load_op 9 _ _ rfl rfl ((hq.all _ _ _ (.head _)).loadCell rfl str_cell)
        | (unfold execOp; go_simp; done)
        | (unfold execOp; go_simp; with_reducible rfl)
    clear hKK KK
    simp only [Act.put, List.setIfInBounds_toArray, List.set_cons_zero, List.set_cons_succ]
    refine wpHo_q' rfl rfl (fun KK hKK => ?_)
    apply Exists.intro
    refine ⟨fun wq hq => ?_, hKK _ ?_⟩
    · try dsimp only at hq
      first
        | exact run_load_op 22 _ _ rfl rfl ((hq.all _ _ _ (.tail _ (.head _))).loadCell rfl slS_cell)
        | exact run_load_op 3 _ _ rfl rfl ((hq.all _ _ _ (.head _)).loadCell rfl int_cell)
        | exact run_load_op 9 _ _ rfl rfl ((hq.all _ _ _ (.head _)).loadCell rfl str_cell)
        | (unfold execOp; go_simp; done)
        | (unfold execOp; go_simp; with_reducible rfl)
    clear hKK KK
    simp only [Act.put, List.setIfInBounds_toArray, List.set_cons_zero, List.set_cons_succ]
    refine wpHo_q' rfl rfl (fun KK hKK => ?_)
    apply Exists.intro
    refine ⟨fun wq hq => ?_, hKK _ ?_⟩
    · try dsimp only at hq
      first
        | exact run_load_op 22 _ _ rfl rfl ((hq.all _ _ _ (.tail _ (.head _))).loadCell rfl slS_cell)
        | exact run_load_op 3 _ _ rfl rfl ((hq.all _ _ _ (.head _)).loadCell rfl int_cell)
        | exact run_load_op 9 _ _ rfl rfl ((hq.all _ _ _ (.head _)).loadCell rfl str_cell)
        | (unfold execOp; go_simp; done)
        | (unfold execOp; go_simp; with_reducible rfl)
    clear hKK KK
    simp only [Act.put, List.setIfInBounds_toArray, List.set_cons_zero, List.set_cons_succ]
    refine wpHo_call rfl rfl (fun KK hKK => ?_)
    unfold Oper.semiAt
    go_simp
    simp only [semiUpon]
    refine ⟨trivial, ?_⟩
    refine (hpd _).mono ?_
    rintro e' w3 ⟨rfl, hbb⟩
    refine ⟨_, rfl, hKK _ _ (hX.drew.step hbb) ?_⟩
    clear hKK KK
    replace hX := hX.drew.step hbb
    replace hown := own_step hown hX.below
    clear hbb
    simp only [Act.put, List.setIfInBounds_toArray, List.set_cons_zero, List.set_cons_succ]
    refine wpHo_nil ?_
    simp only [List.drop_succ_cons, List.drop_zero]
    go_wp2_with (first | ((with_reducible refine at_store ?_); refine wpList_row_storeK hown siz_s _ _ rfl rfl rfl rfl rfl rfl hjl rfl rfl ?_; intro wz hown hbz hkz))
    go_ret
    exact ⟨rfl, by rw [Int.toNat_natCast, List.map_set]; exact hown, (hX.below.mono hN).trans hbz, fun i hi hne => (hkz i (fun e => hne _ _ _ rfl e.symm)).trans (hX.below.block i hi)⟩
  · rw [pwr_bad hv h2 h3, if_neg (by decide)]
    rw [hv] at hha
    clear hv hown h2
    go_enter Try.func37, Try.ntmps37
    go_wp2_with (first | ((with_reducible refine at_load ?_); refine wpList_bag_part (k := 0) hX aggD sizD _ rfl rfl rfl rfl (by first | exact .head _ | exact .tail _ (.head _)) (fun jz vz hz => (congrArg (fun n => ([_, _] : List Value)[n]?) (Nat.zero_add jz)).trans hz) rfl ?_) | ((with_reducible refine at_load ?_); refine wpList_bag_cell hX slS_cell _ rfl rfl rfl rfl (by first | exact .head _ | exact .tail _ (.head _)) rfl ?_) | ((with_reducible refine at_load ?_); refine wpList_bag_cell hX slI_cell _ rfl rfl rfl rfl (by first | exact .head _ | exact .tail _ (.head _)) rfl ?_) | ((with_reducible refine at_load ?_); refine wpList_bag_cell hX int_cell _ rfl rfl rfl rfl (by first | exact .head _ | exact .tail _ (.head _)) rfl ?_) | ((with_reducible refine at_load ?_); refine wpList_bag_cell hX str_cell _ rfl rfl rfl rfl (by first | exact .head _ | exact .tail _ (.head _)) rfl ?_) | (go_at_call 33; (with_reducible refine (hha _).mono ?_); rintro e wh ⟨rfl, hbb⟩; replace hX := hX.step hbb; clear hbb) | (at_lookup; refine wpList_look (hM.step hX.below) hkr rfl _ _ rfl rfl rfl ?_); rw [h3])
    go_ret
    exact ⟨rfl, own_step hown0 hX.below, hX.below.mono hN, fun i hi _ => hX.below.block i hi⟩
end Go.Proofs.Ytohfniejflibmaa
