import Derived.Test.YthpnddgfgpacpaaGreatRS35
import Derived.Test.YthpnddgfgpacpaaGreatRS36
import Derived.Test.YthpnddgfgpacpaaGreatRS20
/-
  Requests of the program. Condition: a valid machine.
-/
namespace Go.Proofs.YthpnddgfgpacpaaGreat
open Go.RowKit Go.Shelf
set_option linter.unusedSimpArgs false
set_option linter.unusedVariables false
set_option maxHeartbeats 4000000
set_option maxRecDepth 100000
attribute [local irreducible] wpQuiet
attribute [local go_sem] Oper.semAt_some

theorem grown_others {w w' : World} {N s n : Nat} {e : TypeId} {v : Value} {xs : List Value} (h : w.ownsRow N e s v n xs) (hg : w.grownBy w' v.ownBlock) : ∀ k, k < w.heap.size → (∀ cur, w.heap[k]? = some (.cells cur e (0, 0)) → False) → w'.heap[k]? = w.heap[k]? := fun k hk hne => by
  refine hg.block k hk fun q => ?_
  rcases h.2 with ⟨rfl, _⟩ | ⟨g, cap, cur, rfl, _, hh, _⟩
  · cases q
  · cases q
    exact hne cur hh
theorem wpList_appQr {w : World} {ops : Array Oper} {rest : List Oper} {o : Oper} {a : Act} {Q : Exit → Act → World → Prop} (hgd : o.guard = none) (s x : Operand)
    (ho : o.op = .call { callee := .builtin .append, args := #[s, x], argTypes := #[61, 61] }) (N : Nat) (v : Value) (n : Nat) (xs : List Value) (hs : a.eval s = v) (hown : w.ownsRow N 105 2 v n xs)
    (u : Value) (l : List Rq) (hx : a.eval x = u) (hu : Rqs w u l) (hb : n + l.length ≤ 1099511627776) (hN : N ≤ w.heap.size)
    (h : ∀ v' w', w'.ownsRow N 105 2 v' (n + l.length) (xs ++ flat l) → Below N w w' → (∀ k, k < w.heap.size → (∀ cur, w.heap[k]? = some (.cells cur 105 (0, 0)) → False) → w'.heap[k]? = w.heap[k]?) → wpList Tryz.prog ops Q rest (a.put o.dst v') w') : wpList Tryz.prog ops Q (o :: rest) a w := by
  obtain ⟨A, c, rfl, hk, hc⟩ := id hu
  obtain ⟨i, hi, hz, hsz, hby⟩ := infoQ_parts
  cases A with
  | none =>
    obtain rfl : l = [] := by
      cases l with
      | nil => rfl
      | cons q r =>
        obtain ⟨a', ha, _⟩ := hc 0 (.int .i64 q.1) (by unfold flat; simp)
        cases ha
    have h1 := h v w (by simpa [flat] using hown) (Below.refl _ _) (fun _ _ _ => rfl)
    refine wpList_plain hgd fun K hK => ?_
    have hrun := run_app_none18 (P := Tryz.prog) (w := w) N 61 o.type 105 i 2 c Tryz.underlying61 hi v n xs hown
    unfold Oper.wp
    simp only [List.length_nil] at hx
    simp [execOp, ho, resolve, invoke, builtin, hs, hx, hrun, Result.andThen]
    exact hK _ _ h1
  | some ad =>
    refine wpList_append_own _ hgd s x 61 ho N 105 i (.agg #[.int .i64 0, .int .i64 0]) 2 16 Tryz.underlying61 hi hz hsz hby rfl (by decide) v n xs hs hown ad l.length c (flat l) hx (flat_length l) (Rqs.cells hu) (flat_one l) (by unfold maxLen; omega) (by omega) hN ?_
    intro v' w' ho' hg hnil
    exact h v' w' ho' ((Below.refl N w).grown hg hN (fun j hj => (World.ownsRow.lt hown j hj).1)) (grown_others hown hg)
theorem dReq_len (A : Ma) (k : Nat) : (A.dReq k).length ≤ 2 := by
  unfold Ma.dReq
  split
  · simp
  · unfold Ck.req; split <;> simp
  · unfold Dk.req; split <;> simp
  · unfold Tp.req; split <;> simp
  · exact reqV_len _ _
theorem reqs_len {n : Nat} (A : Ma) : ∀ pre : List (Fin (n + 4)), ((pre.flatMap fun (x : Fin (n + 4)) => A.dReq x.val)).length ≤ 2 * pre.length
  | [] => by simp
  | x :: r => by
    rw [List.flatMap_cons, List.length_append, List.length_cons]
    have h1 := dReq_len A x.val
    have h2 := reqs_len A r
    omega
/-- What the loop over the requests carries. -/
def RqI (w0 : World) (B N Bi : Nat) (cs : List Value) (l : List Rq) (W : World) : Prop := (∃ v, Bag [(B + 1, 61, [v]), (B, 44, cs)] w0 W ∧ W.ownsRow (B + 2) 105 2 v l.length (flat l)) ∧ N ≤ W.heap.size ∧ ∃ cur, W.heap[Bi]? = some (.cells cur 3 (0, 0))
theorem own_grownNC {w w' : World} {base s n : Nat} {t : TypeId} {v : Value} {xs : List Value} {row : Option Nat} (h : w.ownsRow base t s v n xs) (hg : w.grownBy w' row) (hr : ∀ r, row = some r → NoCells w r) : w'.ownsRow base t s v n xs := by
  refine ⟨h.1, ?_⟩
  rcases h.2 with h0 | ⟨g, cap, cur, hv, hb, hh, r⟩
  · exact .inl h0
  · refine .inr ⟨g, cap, cur, hv, hb, (hg.block g (Array.getElem?_eq_some_iff.1 hh).1 (fun e => ?_)).trans hh, r⟩
    obtain ⟨o, ho, hc⟩ := hr g e.symm
    rw [hh] at ho; cases ho; cases hc
theorem RqI.own {β : Type} {N Bi : Nat} {w0 : World} {B : Nat} {cs : List Value} (f : β → List Rq) (hN : w0.heap.size ≤ N) : OwnFrom N (fun (s : β) W => RqI w0 B N Bi cs (f s) W) :=
  fun s W W' row hs hg hr => by
    obtain ⟨⟨v, hX, ho⟩, hz, cur, hc⟩ := hs
    exact ⟨⟨v, hX.grown hg (fun r e => ⟨Nat.le_trans hN (hr r e).1, (hr r e).2⟩), own_grownNC ho hg fun r e => (hr r e).2⟩, Nat.le_trans hz hg.size, cur, (hg.block _ (Array.getElem?_eq_some_iff.1 hc).1 (fun e => by obtain ⟨o, ho2, hc2⟩ := (hr _ e.symm).2; rw [hc] at ho2; cases ho2; cases hc2)).trans hc⟩
theorem two_rq (w : World) (c1 : List Value) : Bag [(w.heap.size + 1, 61, [.slice none 0 0]), (w.heap.size, 44, c1)] w ((w.alloc (.cells c1.toArray 44)).alloc (.cells #[.slice none 0 0] 61)) := two_bag w 44 61 c1 [.slice none 0 0]
theorem Bag.append {a b : Nat × TypeId × List Value} {w0 w w' : World} {N : Nat} {e : TypeId} (h : Bag [a, b] w0 w) (hb : Below N w w') (hk : ∀ k, k < w.heap.size → (∀ cur, w.heap[k]? = some (.cells cur e (0, 0)) → False) → w'.heap[k]? = w.heap[k]?) (ha : a.2.1 ≠ e) (hbt : b.2.1 ≠ e) (hN : w0.heap.size ≤ N := by omega) : Bag [a, b] w0 w' := by
  refine ⟨fun B t cs hm => ?_, h.below.trans (hb.mono hN), h.lo, h.dis⟩
  have hB := h.all B t cs hm
  refine (hk B hB.lt fun cur q => ?_).trans hB
  rw [show w.heap[B]? = _ from hB] at q
  cases q
  simp only [List.mem_cons, List.not_mem_nil, or_false] at hm
  rcases hm with rfl | rfl
  · exact ha rfl
  · exact hbt rfl
theorem slQ_cell18 (w : World) : (isAgg 61).run Tryz.prog w = .ok false w := by kernel_rfl
theorem siz_sQ18 (w : World) : (sizeOf 61).run Tryz.prog w = .ok 1 w := by kernel_rfl
theorem pbRequests_any (A : Ma) (hA : A.ok) (hR : A.right = true) (vm vb vl vs vd vt : Value) (w : World) (hN : MaNow w A vm vb vl vs vd vt) : Calls Tryz.prog 23 #[.agg (A.cells vm vb vl vs vd vt).toArray] w fun e' w' => ∃ v, e' = .returned v ∧ Rqs w' v A.req ∧ Below w.heap.size w w' := by
  have hX := two_rq w (A.cells vm vb vl vs vd vt)
  have hl4 := (Ma.parts hR).1
  obtain ⟨aL, cL, rfl, hcl, _⟩ := lns_form hN.l
  refine (callsIn_wide (n := 5)).1 ?_
  refine callsIn_of_wp_marks Tryz.func23 rfl trivial ?_ rfl
  refine wpIn_wide.2 ?_
  simp only [Tryz.ntmps23, List.size_toArray, List.length_cons, List.length_nil, Nat.reduceAdd, Nat.reduceSub, Array.replicate_succ, Array.replicate_zero, List.push_toArray, List.append_toArray, List.nil_append, List.cons_append]
  go_upto_region 2 with fail
  generalize ((w.alloc (Obj.cells (A.cells vm vb (.slice aL A.L.length cL) vs vd vt).toArray 44)).alloc (Obj.cells #[.slice none 0 0] 61)) = wS at hX ⊢
  have hX2 := hX.swap
  go_wp2_with (first | ((with_reducible refine at_ld 35 ?_); refine ldc (hk := get_l (Ma.len hA _ _ _)) hX2 slL_cell ?_) | (go_at_call 29; (with_reducible refine (pdevs_any _ _).mono ?_); rintro e' wd ⟨rfl, rfl⟩))
  clear hX2
  have hNs : w.heap.size + 2 ≤ wS.heap.size := by have h1 := bag_lt hX; have h2 := bag_lt hX.swap; omega
  obtain ⟨n, hn⟩ : ∃ n, A.L.length = n := ⟨_, rfl⟩
  rw [hn] at hl4 hN hX ⊢
  have hAl := (Below.refl wS.heap.size wS).alloc (Nat.le_refl _) (.cells #[.int .i64 n] 3)
  have hc0 : (wS.alloc (.cells #[.int .i64 n] 3)).cell? ⟨wS.heap.size, 0, none⟩ = some (.int .i64 n) := (Blk.new 3 wS [.int .i64 n]).cell (k := 0) rfl
  have hlt0 : wS.heap.size < (wS.alloc (.cells #[.int .i64 n] 3)).heap.size := by simp
  refine (wpIn_wide (n := 5)).1 ?_
  refine wpIn_rangeFunc_ownG (F := Fence.wide) (n := 5) rfl (by omega) (gf := 75) (lb := #[.pointer (some ⟨wS.heap.size, 0, none⟩)]) rfl trivial (enters_of Tryz.func75 (by kernel_rfl) rfl) (dev_stops 4 (by omega) wS.heap.size n (by omega) _ hc0 hlt0) (fun h k => KpB.trans h k) (kpB_put hlt0) (Below.refl _ _) (fun _ => rfl)
    (fun pre W => RqI w w.heap.size (wS.alloc (.cells #[.int .i64 n] 3)).heap.size wS.heap.size (A.cells vm vb (.slice aL n cL) vs vd vt) (pre.flatMap fun (x : Fin (n + 4)) => A.dReq x.val) W) (fun _ _ _ => False) (RqI.own _ (by simp; omega)) (fun _ _ _ _ _ hs _ _ => hs) ⟨⟨_, hX.step hAl, World.ownsRow_nil _ _ _ _⟩, Nat.le_refl _, _, Blk.new 3 wS [.int .i64 n]⟩
    (fun x => { tmps := #[Value.agg (A.cells vm vb (.slice aL n cL) vs vd vt).toArray, Value.pointer (some { block := w.heap.size, off := 0 }), .slice none 0 0, Value.pointer (some { block := w.heap.size + 1, off := 0 }), undef, devV x.val, Value.pointer (some { block := w.heap.size, off := 83 }), Value.slice aL n cL, Value.int IntKind.i64 ↑n, Value.func (Fn.func 75) #[] #[Value.pointer (some { block := wS.heap.size, off := 0 })], .int .i64 (devB x.val), devV x.val, undef, undef, undef, undef, undef], defers := [] }) ?assign ?body ?done ?stop
  case assign =>
    intro l x W K hK
    dsimp only [encD]
    gi_wp2
    exact hK
  case body =>
    rintro l pre x W ⟨⟨v, hX, ho⟩, hW, hcB⟩ hpl
    have hsn : (pre ++ [x]).flatMap (fun (x : Fin (n + 4)) => A.dReq x.val) = (pre.flatMap fun (x : Fin (n + 4)) => A.dReq x.val) ++ A.dReq x.val := by rw [List.flatMap_append]; simp
    have hlq : ((pre.flatMap fun (x : Fin (n + 4)) => A.dReq x.val)).length ≤ 16 := by have := reqs_len A pre; omega
    have hpost : ∀ (e : Exit) (a' : Act) (W' : World), e = .normal → (∃ v', Bag [(w.heap.size + 1, 61, [v']), (w.heap.size, 44, A.cells vm vb (.slice aL n cL) vs vd vt)] w W' ∧ W'.ownsRow (w.heap.size + 2) 105 2 v' ((pre.flatMap fun (x : Fin (n + 4)) => A.dReq x.val) ++ A.dReq x.val).length (flat ((pre.flatMap fun (x : Fin (n + 4)) => A.dReq x.val) ++ A.dReq x.val))) → (∀ b, b < W.heap.size → (∀ cur, W.heap[b]? = some (.cells cur 105 (0, 0)) → False) → b ≠ w.heap.size + 1 → W'.heap[b]? = W.heap[b]?) → W.heap.size ≤ W'.heap.size → ownPostG (wS.alloc (.cells #[.int .i64 n] 3)).heap.size (KpB wS.heap.size) (fun pre W => RqI w w.heap.size (wS.alloc (.cells #[.int .i64 n] 3)).heap.size wS.heap.size (A.cells vm vb (.slice aL n cL) vs vd vt) (pre.flatMap fun (x : Fin (n + 4)) => A.dReq x.val) W) (fun _ _ _ => False) (pre ++ [x]) W e a' W' := by
      rintro e a' W' rfl hI hk hz
      refine ⟨⟨hz, fun k o hB hk0 hc => ?_⟩, hk _ (Nat.lt_of_lt_of_le hlt0 hW) (fun cur q => ?_) (by omega), ?_⟩
      · have hkl := (Array.getElem?_eq_some_iff.1 hk0).1
        exact (hk k hkl (fun cur q => by rw [hk0] at q; cases q; cases hc) (by simp at hB; omega)).trans hk0
      · obtain ⟨cur2, h2⟩ := hcB
        rw [h2] at q; cases q
      · show RqI _ _ _ _ _ ((pre ++ [x]).flatMap _) W'
        rw [hsn]
        obtain ⟨cur2, h2⟩ := hcB
        exact ⟨hI, Nat.le_trans hW hz, cur2, (hk _ (Nat.lt_of_lt_of_le hlt0 hW) (fun cur q => by rw [h2] at q; cases q) (by omega)).trans h2⟩
    have hPo : ∀ a' W', ¬ ownPostG (wS.alloc (.cells #[.int .i64 n] 3)).heap.size (KpB wS.heap.size) (fun pre W => RqI w w.heap.size (wS.alloc (.cells #[.int .i64 n] 3)).heap.size wS.heap.size (A.cells vm vb (.slice aL n cL) vs vd vt) (pre.flatMap fun (x : Fin (n + 4)) => A.dReq x.val) W) (fun _ _ _ => False) (pre ++ [x]) W .outgrown a' W' := fun _ _ h => h
    have hPp : ∀ c a' W', ¬ ownPostG (wS.alloc (.cells #[.int .i64 n] 3)).heap.size (KpB wS.heap.size) (fun pre W => RqI w w.heap.size (wS.alloc (.cells #[.int .i64 n] 3)).heap.size wS.heap.size (A.cells vm vb (.slice aL n cL) vs vd vt) (pre.flatMap fun (x : Fin (n + 4)) => A.dReq x.val) W) (fun _ _ _ => False) (pre ++ [x]) W (.panic c) a' W' := fun _ _ _ h => h
    generalize (ownPostG _ _ _ _ (pre ++ [x]) W) = PQ at hpost hPo hPp ⊢
    generalize (pre.flatMap fun (x : Fin (n + 4)) => A.dReq x.val) = LP at *
    clear hsn hcB
    have hXd := hX.drew
    have hod : W.drew.ownsRow (w.heap.size + 2) 105 2 v LP.length (flat LP) := ho
    obtain ⟨q, hq⟩ := x
    have hq5 : q = 0 ∨ q = 1 ∨ q = 2 ∨ q = 3 ∨ ∃ k, q = k + 4 := by
      rcases Nat.lt_or_ge q 4 with h | h
      · omega
      · exact .inr (.inr (.inr (.inr ⟨q - 4, by omega⟩)))
    rcases hq5 with rfl | rfl | rfl | rfl | ⟨k, rfl⟩
    · have hc : Calls Tryz.prog 161 #[(.agg #[]), .pointer (some ⟨w.heap.size, 0, none⟩)] W.drew fun e' w' => ∃ u, e' = .returned u ∧ Rqs w' u (A.dReq 0) ∧ Below W.drew.heap.size W.drew w' := (md_req_0 A W.drew w.heap.size)
      have hm : ∀ (m : Nat) (w : World), (method (m + 1) 133 (.agg #[]) "emulator/bus.requests").run Tryz.prog w = .ok (161, (.agg #[])) w := fun _ _ => by kernel_rfl
      have hdl := dReq_len A 0
      dsimp only [devV, devB] at hpost ⊢
      generalize A.dReq 0 = LR at *
      refine wpIn_block ?_
      refine region_hoistR (fun w' => Bag [(w.heap.size + 1, 61, [v]), (w.heap.size, 44, A.cells vm vb (.slice aL n cL) vs vd vt)] w w') 4 [(0, false), (1, false), (2, true), (3, true)] (by kernel_rfl) (by kernel_rfl) rfl (fun ⟨_, _, h⟩ => hPo _ _ h) (fun _ _ _ _ _ h => (hPp _ _ _ h).elim) hXd ?_
      iterate 2
        refine wpHp_q' rfl rfl (fun KK hKK => ?_)
        apply Exists.intro
        refine ⟨fun wq hq => ?_, hKK _ ?_⟩
        · try dsimp only at hq
          first
            | exact run_load_op 61 _ _ rfl rfl ((hq.all _ _ _ (.head _)).loadCell rfl slQ_cell18)
            | (unfold execOp; go_simp; with_reducible rfl)
        clear hKK KK
        simp only [Act.put, List.setIfInBounds_toArray, List.set_cons_zero, List.set_cons_succ]
      refine wpHp_call rfl rfl (fun KK hKK => ?_)
      unfold Oper.semiAt
      go_simp
      simp only [semiUpon]
      refine ⟨trivial, ?_⟩
      refine hc.mono ?_
      rintro e' wc ⟨u, rfl, hu, hbb⟩
      have hXc := hXd.step hbb
      have hoc := own_step hod hbb
      refine ⟨_, rfl, hKK _ _ hXc ?_⟩
      clear hKK KK
      simp only [Act.put, List.setIfInBounds_toArray, List.set_cons_zero, List.set_cons_succ]
      refine wpHp_op rfl (fun KK hKK => ?_)
      refine wpList_appQr rfl (.tmp 12) (.tmp 14) rfl (w.heap.size + 2) v _ _ rfl hoc u _ rfl hu (by omega) (by have h1 := bag_lt hXc; omega) ?_
      intro v' wa hoa hba hka
      have hXa : Bag [(w.heap.size + 1, 61, [v]), (w.heap.size, 44, A.cells vm vb (.slice aL n cL) vs vd vt)] w wa := hXc.append hba hka (show (61 : Nat) ≠ 105 from by decide) (show (44 : Nat) ≠ 105 from by decide)
      refine wpList_end (hKK _ _ hXa ?_)
      clear hKK KK
      simp only [Act.put, List.setIfInBounds_toArray, List.set_cons_zero, List.set_cons_succ]
      refine wpHp_nil ?_
      simp only [List.drop_succ_cons, List.drop_zero]
      obtain ⟨Av, cv, rfl, _, _⟩ := Rw.of_own hoa
      refine stk1 (k := 0) hXa siz_sQ18 rfl (by simp) rfl ?_
      intro wS' hY hkS
      have hov := own_over hXa hoa (by decide) hkS
      exact hpost .normal _ _ rfl ⟨_, hY, own_cat hov⟩ (fun b hb hne hn1 => (hkS b hn1).trans ((hka b (Nat.lt_of_lt_of_le hb hbb.size) (fun cur q => hne cur ((hbb.block b hb).symm.trans q))).trans (hbb.block b hb))) (Nat.le_trans hbb.size (Nat.le_trans hba.size (size_of_same hkS (hY.all _ _ _ (.head _)))))
    · have hc : Calls Tryz.prog 181 #[(.agg #[]), .pointer (some ⟨w.heap.size, 0, none⟩)] W.drew fun e' w' => ∃ u, e' = .returned u ∧ Rqs w' u (A.dReq 1) ∧ Below W.drew.heap.size W.drew w' := (md_req_1 A hA vm vb (.slice aL n cL) vs vd vt w W.drew w.heap.size hXd.drop1 (hN.step hXd.below))
      have hm : ∀ (m : Nat) (w : World), (method (m + 1) 134 (.agg #[]) "emulator/bus.requests").run Tryz.prog w = .ok (181, (.agg #[])) w := fun _ _ => by kernel_rfl
      have hdl := dReq_len A 1
      dsimp only [devV, devB] at hpost ⊢
      generalize A.dReq 1 = LR at *
      refine wpIn_block ?_
      refine region_hoistR (fun w' => Bag [(w.heap.size + 1, 61, [v]), (w.heap.size, 44, A.cells vm vb (.slice aL n cL) vs vd vt)] w w') 4 [(0, false), (1, false), (2, true), (3, true)] (by kernel_rfl) (by kernel_rfl) rfl (fun ⟨_, _, h⟩ => hPo _ _ h) (fun _ _ _ _ _ h => (hPp _ _ _ h).elim) hXd ?_
      iterate 2
        refine wpHp_q' rfl rfl (fun KK hKK => ?_)
        apply Exists.intro
        refine ⟨fun wq hq => ?_, hKK _ ?_⟩
        · try dsimp only at hq
          first
            | exact run_load_op 61 _ _ rfl rfl ((hq.all _ _ _ (.head _)).loadCell rfl slQ_cell18)
            | (unfold execOp; go_simp; with_reducible rfl)
        clear hKK KK
        simp only [Act.put, List.setIfInBounds_toArray, List.set_cons_zero, List.set_cons_succ]
      refine wpHp_call rfl rfl (fun KK hKK => ?_)
      unfold Oper.semiAt
      go_simp
      simp only [semiUpon]
      refine ⟨trivial, ?_⟩
      refine hc.mono ?_
      rintro e' wc ⟨u, rfl, hu, hbb⟩
      have hXc := hXd.step hbb
      have hoc := own_step hod hbb
      refine ⟨_, rfl, hKK _ _ hXc ?_⟩
      clear hKK KK
      simp only [Act.put, List.setIfInBounds_toArray, List.set_cons_zero, List.set_cons_succ]
      refine wpHp_op rfl (fun KK hKK => ?_)
      refine wpList_appQr rfl (.tmp 12) (.tmp 14) rfl (w.heap.size + 2) v _ _ rfl hoc u _ rfl hu (by omega) (by have h1 := bag_lt hXc; omega) ?_
      intro v' wa hoa hba hka
      have hXa : Bag [(w.heap.size + 1, 61, [v]), (w.heap.size, 44, A.cells vm vb (.slice aL n cL) vs vd vt)] w wa := hXc.append hba hka (show (61 : Nat) ≠ 105 from by decide) (show (44 : Nat) ≠ 105 from by decide)
      refine wpList_end (hKK _ _ hXa ?_)
      clear hKK KK
      simp only [Act.put, List.setIfInBounds_toArray, List.set_cons_zero, List.set_cons_succ]
      refine wpHp_nil ?_
      simp only [List.drop_succ_cons, List.drop_zero]
      obtain ⟨Av, cv, rfl, _, _⟩ := Rw.of_own hoa
      refine stk1 (k := 0) hXa siz_sQ18 rfl (by simp) rfl ?_
      intro wS' hY hkS
      have hov := own_over hXa hoa (by decide) hkS
      exact hpost .normal _ _ rfl ⟨_, hY, own_cat hov⟩ (fun b hb hne hn1 => (hkS b hn1).trans ((hka b (Nat.lt_of_lt_of_le hb hbb.size) (fun cur q => hne cur ((hbb.block b hb).symm.trans q))).trans (hbb.block b hb))) (Nat.le_trans hbb.size (Nat.le_trans hba.size (size_of_same hkS (hY.all _ _ _ (.head _)))))
    · have hc : Calls Tryz.prog 196 #[(.agg #[]), .pointer (some ⟨w.heap.size, 0, none⟩)] W.drew fun e' w' => ∃ u, e' = .returned u ∧ Rqs w' u (A.dReq 2) ∧ Below W.drew.heap.size W.drew w' := (md_req_2 A hA vm vb (.slice aL n cL) vs vd vt w W.drew w.heap.size hXd.drop1 (hN.step hXd.below))
      have hm : ∀ (m : Nat) (w : World), (method (m + 1) 135 (.agg #[]) "emulator/bus.requests").run Tryz.prog w = .ok (196, (.agg #[])) w := fun _ _ => by kernel_rfl
      have hdl := dReq_len A 2
      dsimp only [devV, devB] at hpost ⊢
      generalize A.dReq 2 = LR at *
      refine wpIn_block ?_
      refine region_hoistR (fun w' => Bag [(w.heap.size + 1, 61, [v]), (w.heap.size, 44, A.cells vm vb (.slice aL n cL) vs vd vt)] w w') 4 [(0, false), (1, false), (2, true), (3, true)] (by kernel_rfl) (by kernel_rfl) rfl (fun ⟨_, _, h⟩ => hPo _ _ h) (fun _ _ _ _ _ h => (hPp _ _ _ h).elim) hXd ?_
      iterate 2
        refine wpHp_q' rfl rfl (fun KK hKK => ?_)
        apply Exists.intro
        refine ⟨fun wq hq => ?_, hKK _ ?_⟩
        · try dsimp only at hq
          first
            | exact run_load_op 61 _ _ rfl rfl ((hq.all _ _ _ (.head _)).loadCell rfl slQ_cell18)
            | (unfold execOp; go_simp; with_reducible rfl)
        clear hKK KK
        simp only [Act.put, List.setIfInBounds_toArray, List.set_cons_zero, List.set_cons_succ]
      refine wpHp_call rfl rfl (fun KK hKK => ?_)
      unfold Oper.semiAt
      go_simp
      simp only [semiUpon]
      refine ⟨trivial, ?_⟩
      refine hc.mono ?_
      rintro e' wc ⟨u, rfl, hu, hbb⟩
      have hXc := hXd.step hbb
      have hoc := own_step hod hbb
      refine ⟨_, rfl, hKK _ _ hXc ?_⟩
      clear hKK KK
      simp only [Act.put, List.setIfInBounds_toArray, List.set_cons_zero, List.set_cons_succ]
      refine wpHp_op rfl (fun KK hKK => ?_)
      refine wpList_appQr rfl (.tmp 12) (.tmp 14) rfl (w.heap.size + 2) v _ _ rfl hoc u _ rfl hu (by omega) (by have h1 := bag_lt hXc; omega) ?_
      intro v' wa hoa hba hka
      have hXa : Bag [(w.heap.size + 1, 61, [v]), (w.heap.size, 44, A.cells vm vb (.slice aL n cL) vs vd vt)] w wa := hXc.append hba hka (show (61 : Nat) ≠ 105 from by decide) (show (44 : Nat) ≠ 105 from by decide)
      refine wpList_end (hKK _ _ hXa ?_)
      clear hKK KK
      simp only [Act.put, List.setIfInBounds_toArray, List.set_cons_zero, List.set_cons_succ]
      refine wpHp_nil ?_
      simp only [List.drop_succ_cons, List.drop_zero]
      obtain ⟨Av, cv, rfl, _, _⟩ := Rw.of_own hoa
      refine stk1 (k := 0) hXa siz_sQ18 rfl (by simp) rfl ?_
      intro wS' hY hkS
      have hov := own_over hXa hoa (by decide) hkS
      exact hpost .normal _ _ rfl ⟨_, hY, own_cat hov⟩ (fun b hb hne hn1 => (hkS b hn1).trans ((hka b (Nat.lt_of_lt_of_le hb hbb.size) (fun cur q => hne cur ((hbb.block b hb).symm.trans q))).trans (hbb.block b hb))) (Nat.le_trans hbb.size (Nat.le_trans hba.size (size_of_same hkS (hY.all _ _ _ (.head _)))))
    · have hc : Calls Tryz.prog 234 #[(.agg #[]), .pointer (some ⟨w.heap.size, 0, none⟩)] W.drew fun e' w' => ∃ u, e' = .returned u ∧ Rqs w' u (A.dReq 3) ∧ Below W.drew.heap.size W.drew w' := (md_req_3 A hA vm vb (.slice aL n cL) vs vd vt w W.drew w.heap.size hXd.drop1 (hN.step hXd.below))
      have hm : ∀ (m : Nat) (w : World), (method (m + 1) 136 (.agg #[]) "emulator/bus.requests").run Tryz.prog w = .ok (234, (.agg #[])) w := fun _ _ => by kernel_rfl
      have hdl := dReq_len A 3
      dsimp only [devV, devB] at hpost ⊢
      generalize A.dReq 3 = LR at *
      refine wpIn_block ?_
      refine region_hoistR (fun w' => Bag [(w.heap.size + 1, 61, [v]), (w.heap.size, 44, A.cells vm vb (.slice aL n cL) vs vd vt)] w w') 4 [(0, false), (1, false), (2, true), (3, true)] (by kernel_rfl) (by kernel_rfl) rfl (fun ⟨_, _, h⟩ => hPo _ _ h) (fun _ _ _ _ _ h => (hPp _ _ _ h).elim) hXd ?_
      iterate 2
        refine wpHp_q' rfl rfl (fun KK hKK => ?_)
        apply Exists.intro
        refine ⟨fun wq hq => ?_, hKK _ ?_⟩
        · try dsimp only at hq
          first
            | exact run_load_op 61 _ _ rfl rfl ((hq.all _ _ _ (.head _)).loadCell rfl slQ_cell18)
            | (unfold execOp; go_simp; with_reducible rfl)
        clear hKK KK
        simp only [Act.put, List.setIfInBounds_toArray, List.set_cons_zero, List.set_cons_succ]
      refine wpHp_call rfl rfl (fun KK hKK => ?_)
      unfold Oper.semiAt
      go_simp
      simp only [semiUpon]
      refine ⟨trivial, ?_⟩
      refine hc.mono ?_
      rintro e' wc ⟨u, rfl, hu, hbb⟩
      have hXc := hXd.step hbb
      have hoc := own_step hod hbb
      refine ⟨_, rfl, hKK _ _ hXc ?_⟩
      clear hKK KK
      simp only [Act.put, List.setIfInBounds_toArray, List.set_cons_zero, List.set_cons_succ]
      refine wpHp_op rfl (fun KK hKK => ?_)
      refine wpList_appQr rfl (.tmp 12) (.tmp 14) rfl (w.heap.size + 2) v _ _ rfl hoc u _ rfl hu (by omega) (by have h1 := bag_lt hXc; omega) ?_
      intro v' wa hoa hba hka
      have hXa : Bag [(w.heap.size + 1, 61, [v]), (w.heap.size, 44, A.cells vm vb (.slice aL n cL) vs vd vt)] w wa := hXc.append hba hka (show (61 : Nat) ≠ 105 from by decide) (show (44 : Nat) ≠ 105 from by decide)
      refine wpList_end (hKK _ _ hXa ?_)
      clear hKK KK
      simp only [Act.put, List.setIfInBounds_toArray, List.set_cons_zero, List.set_cons_succ]
      refine wpHp_nil ?_
      simp only [List.drop_succ_cons, List.drop_zero]
      obtain ⟨Av, cv, rfl, _, _⟩ := Rw.of_own hoa
      refine stk1 (k := 0) hXa siz_sQ18 rfl (by simp) rfl ?_
      intro wS' hY hkS
      have hov := own_over hXa hoa (by decide) hkS
      exact hpost .normal _ _ rfl ⟨_, hY, own_cat hov⟩ (fun b hb hne hn1 => (hkS b hn1).trans ((hka b (Nat.lt_of_lt_of_le hb hbb.size) (fun cur q => hne cur ((hbb.block b hb).symm.trans q))).trans (hbb.block b hb))) (Nat.le_trans hbb.size (Nat.le_trans hba.size (size_of_same hkS (hY.all _ _ _ (.head _)))))
    · have hc : Calls Tryz.prog 267 #[(.int .i64 k), .pointer (some ⟨w.heap.size, 0, none⟩)] W.drew fun e' w' => ∃ u, e' = .returned u ∧ Rqs w' u (A.dReq (k + 4)) ∧ Below W.drew.heap.size W.drew w' := (md_req_4 A hA k (by omega) (by omega) vm vb (.slice aL n cL) vs vd vt w W.drew w.heap.size hXd.drop1 (hN.step hXd.below).l)
      have hm : ∀ (m : Nat) (w : World), (method (m + 1) 137 (.int .i64 k) "emulator/bus.requests").run Tryz.prog w = .ok (267, (.int .i64 k)) w := fun _ _ => by kernel_rfl
      have hdl := dReq_len A (k + 4)
      dsimp only [devV, devB] at hpost ⊢
      generalize A.dReq (k + 4) = LR at *
      refine wpIn_block ?_
      refine region_hoistR (fun w' => Bag [(w.heap.size + 1, 61, [v]), (w.heap.size, 44, A.cells vm vb (.slice aL n cL) vs vd vt)] w w') 4 [(0, false), (1, false), (2, true), (3, true)] (by kernel_rfl) (by kernel_rfl) rfl (fun ⟨_, _, h⟩ => hPo _ _ h) (fun _ _ _ _ _ h => (hPp _ _ _ h).elim) hXd ?_
      iterate 2
        refine wpHp_q' rfl rfl (fun KK hKK => ?_)
        apply Exists.intro
        refine ⟨fun wq hq => ?_, hKK _ ?_⟩
        · try dsimp only at hq
          first
            | exact run_load_op 61 _ _ rfl rfl ((hq.all _ _ _ (.head _)).loadCell rfl slQ_cell18)
            | (unfold execOp; go_simp; with_reducible rfl)
        clear hKK KK
        simp only [Act.put, List.setIfInBounds_toArray, List.set_cons_zero, List.set_cons_succ]
      refine wpHp_call rfl rfl (fun KK hKK => ?_)
      unfold Oper.semiAt
      go_simp
      simp only [semiUpon]
      refine ⟨trivial, ?_⟩
      refine hc.mono ?_
      rintro e' wc ⟨u, rfl, hu, hbb⟩
      have hXc := hXd.step hbb
      have hoc := own_step hod hbb
      refine ⟨_, rfl, hKK _ _ hXc ?_⟩
      clear hKK KK
      simp only [Act.put, List.setIfInBounds_toArray, List.set_cons_zero, List.set_cons_succ]
      refine wpHp_op rfl (fun KK hKK => ?_)
      refine wpList_appQr rfl (.tmp 12) (.tmp 14) rfl (w.heap.size + 2) v _ _ rfl hoc u _ rfl hu (by omega) (by have h1 := bag_lt hXc; omega) ?_
      intro v' wa hoa hba hka
      have hXa : Bag [(w.heap.size + 1, 61, [v]), (w.heap.size, 44, A.cells vm vb (.slice aL n cL) vs vd vt)] w wa := hXc.append hba hka (show (61 : Nat) ≠ 105 from by decide) (show (44 : Nat) ≠ 105 from by decide)
      refine wpList_end (hKK _ _ hXa ?_)
      clear hKK KK
      simp only [Act.put, List.setIfInBounds_toArray, List.set_cons_zero, List.set_cons_succ]
      refine wpHp_nil ?_
      simp only [List.drop_succ_cons, List.drop_zero]
      obtain ⟨Av, cv, rfl, _, _⟩ := Rw.of_own hoa
      refine stk1 (k := 0) hXa siz_sQ18 rfl (by simp) rfl ?_
      intro wS' hY hkS
      have hov := own_over hXa hoa (by decide) hkS
      exact hpost .normal _ _ rfl ⟨_, hY, own_cat hov⟩ (fun b hb hne hn1 => (hkS b hn1).trans ((hka b (Nat.lt_of_lt_of_le hb hbb.size) (fun cur q => hne cur ((hbb.block b hb).symm.trans q))).trans (hbb.block b hb))) (Nat.le_trans hbb.size (Nat.le_trans hba.size (size_of_same hkS (hY.all _ _ _ (.head _)))))
  case done =>
    rintro D xs W hD hSD ⟨⟨v, hX, ho⟩, hW, _⟩ hKd
    have hreq : (xs.flatMap fun (x : Fin (n + 4)) => A.dReq x.val) = A.req := by
      rw [← req_fold A, hn, ← show xs.map Fin.val = List.range (n + 4) from hSD, List.flatMap_map]
    rw [hreq] at ho
    have hD' : wS.heap.size + 1 ≤ D := by simpa using hD
    clear hreq
    have hl' := ho
    go_wp2_with (first | ((with_reducible refine at_ld 61 ?_); refine ldc (k := 0) hX slQ_cell18 ?_))
    refine ⟨by simp, .inl ⟨_, _, rfl, run_takeDeferred hKd, ?_⟩⟩
    have hgr := grownBy_putObj' W D (.deferred none)
    have hnc : ∀ r, some D = some r → w.heap.size ≤ r ∧ NoCells W r := fun r e => by cases e; exact ⟨by omega, _, hKd, rfl⟩
    exact ⟨_, results_tmp (by rfl) _ _ _, _, rfl, Rw.of_own (own_grownNC ho hgr fun r e => (hnc r e).2), (hX.grown hgr hnc).below⟩
  case stop =>
    rintro D c pre W _ _ h _
    exact h.elim
end Go.Proofs.YthpnddgfgpacpaaGreat
