import Derived.Test.YthpnddgfgpacpaaGreatRS19
import Derived.Test.YthpnddgfgpacpaaGreatRS16
import Derived.Test.YthpnddgfgpacpaaGreatRS11
import Derived.Laws.AppendOwnNone
/-
  Results of a unit are valid, and the memory stays so: plain. The contracts of package tape over a world. No condition.
-/
namespace Go.Proofs.YthpnddgfgpacpaaGreat
open Go.RowKit
set_option linter.unusedSimpArgs false
set_option linter.unusedVariables false
set_option maxHeartbeats 4000000
set_option maxRecDepth 100000
attribute [local irreducible] wpQuiet

theorem Tp.right_iff (K : Tp) : K.right = true ↔ (K.R.length ≤ 64 ∧ (0 ≤ K.p ∧ K.p ≤ (K.R.length : Int)) ∧ (0 ≤ K.c ∧ K.c ≤ 6) ∧ (0 ≤ K.k ∧ K.k ≤ 65535) ∧ (0 ≤ K.a ∧ K.a ≤ 65535) ∧ (0 ≤ K.l ∧ K.l ≤ 16) ∧ K.r = decide (K.l = 0)) ∧ ∀ s ∈ K.R, s.size ≤ 512 := by
  unfold Tp.right; rw [Bool.and_eq_true, Tp.ok_iff, shortV_iff, wordV_iff_17, wordV_iff_17]
theorem tp_mk {R : List ByteArray} {p c k a l : Int} {n r e m d : Bool} (h1 : R.length ≤ 64) (h2 : 0 ≤ p ∧ p ≤ (R.length : Int)) (h3 : 0 ≤ c ∧ c ≤ 6) (h4 : 0 ≤ k ∧ k ≤ 65535) (h5 : 0 ≤ a ∧ a ≤ 65535) (h6 : 0 ≤ l ∧ l ≤ 16) (h7 : r = decide (l = 0)) (h8 : ∀ s ∈ R, s.size ≤ 512) : (Tp.mk R p n r e m d c k a l).right = true := (Tp.right_iff _).2 ⟨⟨h1, h2, h3, h4, h5, h6, h7⟩, h8⟩
theorem wrT_right {K : Tp} (h : K.right = true) (g v : Int) : (K.wr g v).1.right = true := by
  obtain ⟨⟨h1, h2, h3, h4, h5, h6, h7⟩, h8⟩ := (Tp.right_iff K).1 h
  unfold Tp.wr Tp.go
  repeat' split
  all_goals first
    | exact h
    | exact tp_mk h1 h2 h3 h4 h5 h6 h7 h8
    | exact tp_mk h1 h2 (by decide) h4 h5 h6 h7 h8
    | exact tp_mk h1 h2 (by omega) h4 h5 (by decide) rfl h8
    | exact tp_mk h1 h2 h3 (by omega) h5 h6 h7 h8
    | exact tp_mk h1 h2 h3 h4 (by omega) h6 h7 h8
theorem accT_right {K : Tp} (h : K.right = true) (v : Int) : (K.acc v).right = true := by
  obtain ⟨⟨h1, h2, h3, h4, h5, h6, h7⟩, h8⟩ := (Tp.right_iff K).1 h
  unfold Tp.acc; split
  · exact tp_mk h1 h2 h3 h4 h5 h6 h7 h8
  · exact h
theorem resetT_right {K : Tp} (h : K.right = true) : K.reset.right = true := by
  obtain ⟨⟨h1, h2, h3, h4, h5, h6, h7⟩, h8⟩ := (Tp.right_iff K).1 h
  exact tp_mk h1 h2 (by decide) h4 h5 (by decide) rfl h8
/-- What a tick keeps. -/
structure KeptT (K : Tp) (m B : List Int) (T : Tp × List Int × List Int) : Prop where
  right : T.1.right = true
  mem : rightP T.2.1 T.2.2 = true
  ml : T.2.1.length = m.length
  bl : T.2.2.length ≤ B.length
theorem KeptT.refl {K K2 : Tp} {m B : List Int} (h : K2.right = true) (hm : rightP m B = true) : KeptT K m B (K2, m, B) := ⟨h, hm, rfl, Nat.le_refl _⟩
end Go.Proofs.YthpnddgfgpacpaaGreat
/-
  SameRequests and Requests of the reference of package line. Condition: at most 2^40 requests.
-/
namespace Go.Proofs.YthpnddgfgpacpaaGreat
open Go.RowKit
set_option linter.unusedSimpArgs false
set_option linter.unusedVariables false
set_option maxHeartbeats 4000000
set_option maxRecDepth 100000
attribute [local irreducible] wpQuiet

theorem take_eq_of {α : Type} {a b : List α} (h : a.length = b.length) (h2 : a.take a.length = b.take a.length) : a = b := by
  rw [List.take_length, h, List.take_length] at h2; exact h2
theorem take_snoc {α : Type} {a : List α} {k : Nat} {x : α} (h : a[k]? = some x) : a.take (k + 1) = a.take k ++ [x] := by
  have hk : k < a.length := (List.getElem?_eq_some_iff.1 h).1
  rw [List.take_succ_eq_append_getElem hk, (List.getElem?_eq_some_iff.1 h).2]
theorem old_cell {w : World} {o : Obj} {cs : List Value} {t : TypeId} {k : Nat} {v : Value} (hk : cs[k]? = some v) : ((w.alloc (.cells cs.toArray t)).alloc o).cell? ⟨w.heap.size, k, none⟩ = some v :=
  ((Blk.new t w cs).alloc o).cell hk
theorem cells_two_new2 (w : World) (o : Obj) (x y : Value) (t : TypeId) : ∀ j u, [x, y][j]? = some u → ((w.alloc o).alloc (.cells #[x, y] t)).cell? ((⟨w.heap.size + 1, 0, none⟩ : Addr).add j) = some u := by
  intro j u h
  have := cells_two_new (w.alloc o) x y t j u h
  rw [show (w.alloc o).heap.size = w.heap.size + 1 from Array.size_push ..] at this
  exact this
theorem rreqL_out (a b o : Bool) (d : Int) (e f : Bool) (t l : Int) (s : ByteArray) (n : Int) (h : ¬ (0 ≤ n ∧ n < 4)) (w : World) : Calls Tryz.prog 56 #[.agg #[.bool a, .bool b, .bool o, .int .i64 d, .bool e, .bool f, .int .i64 t, .int .i64 l, .string s], .int .i64 n] w fun e' w' => ∃ v, e' = .returned v ∧ Rqs w' v [] ∧ Below w.heap.size w w' := by
  by_cases h0 : n < 0
  · have d0 : decide (n < 0) = true := decide_eq_true h0
    go_enter Tryz.func56, Tryz.ntmps56
    go_wp2
    go_ret
    exact ⟨_, rfl, Rw.nil _, ((Bag.nil w).new 68 _).below⟩
  · have d0 : decide (n < 0) = false := decide_eq_false h0
    have d1 : decide (4 ≤ n) = true := decide_eq_true (by omega)
    go_enter Tryz.func56, Tryz.ntmps56
    go_wp2
    go_ret
    exact ⟨_, rfl, Rw.nil _, ((Bag.nil w).new 68 _).below⟩
theorem rreqL_00 (a b o : Bool) (d : Int) (e f : Bool) (t l : Int) (s : ByteArray) (n : Int) (hn : 0 ≤ n ∧ n < 4) (hr : ¬ (a = true ∧ b = true)) (ht : ¬ (e = true ∧ f = true)) (w : World) : Calls Tryz.prog 56 #[.agg #[.bool a, .bool b, .bool o, .int .i64 d, .bool e, .bool f, .int .i64 t, .int .i64 l, .string s], .int .i64 n] w fun e' w' => ∃ v, e' = .returned v ∧ Rqs w' v [] ∧ Below w.heap.size w w' := by
  have d0 : decide (n < 0) = false := decide_eq_false (by omega)
  have d1 : decide (4 ≤ n) = false := decide_eq_false (by omega)
  have w8 : wrap64 (8 * n) = 8 * n := by unfold wrap64; omega
  have w1 : wrap64 (128 + 8 * n) = 128 + 8 * n := by unfold wrap64; omega
  have w2 : wrap64 (132 + 8 * n) = 132 + 8 * n := by unfold wrap64; omega
  cases a <;> cases b <;> cases e <;> cases f
  all_goals first | (exfalso; exact hr ⟨rfl, rfl⟩) | (exfalso; exact ht ⟨rfl, rfl⟩) | skip
  all_goals
    go_enter Tryz.func56, Tryz.ntmps56
    go_wp2
    go_ret
    exact ⟨_, rfl, Rw.nil _, ((Bag.nil w).new 68 _).below⟩
theorem rreqL_01 (a b o : Bool) (d : Int) (e f : Bool) (t l : Int) (s : ByteArray) (n : Int) (hn : 0 ≤ n ∧ n < 4) (hr : ¬ (a = true ∧ b = true)) (ht : e = true ∧ f = true) (w : World) : Calls Tryz.prog 56 #[.agg #[.bool a, .bool b, .bool o, .int .i64 d, .bool e, .bool f, .int .i64 t, .int .i64 l, .string s], .int .i64 n] w fun e' w' => ∃ v, e' = .returned v ∧ Rqs w' v [(4, 132 + 8 * n)] ∧ Below w.heap.size w w' := by
  have d0 : decide (n < 0) = false := decide_eq_false (by omega)
  have d1 : decide (4 ≤ n) = false := decide_eq_false (by omega)
  have w8 : wrap64 (8 * n) = 8 * n := by unfold wrap64; omega
  have w1 : wrap64 (128 + 8 * n) = 128 + 8 * n := by unfold wrap64; omega
  have w2 : wrap64 (132 + 8 * n) = 132 + 8 * n := by unfold wrap64; omega
  obtain ⟨rfl, rfl⟩ := ht
  cases a <;> cases b
  all_goals first | (exfalso; exact hr ⟨rfl, rfl⟩) | skip
  all_goals
    go_enter Tryz.func56, Tryz.ntmps56
    go_wp2_with (first | (at_builtin; refine wpList_appQ rfl (.tmp 32) (.tmp 37) rfl (w.heap.size + 1) (.slice none 0 0) 0 [] rfl (World.ownsRow_nil _ _ _ _) ⟨w.heap.size + 1, 0, none⟩ 1 1 [.int .i64 4, .int .i64 (132 + 8 * n)] rfl rfl (cells_two_new2 _ _ _ _ _) (flat_one [(4, (132 + 8 * n))]) (by omega) (by simp <;> omega) ?_; intro v1 w1 ho1 hb1 _))
    go_ret
    exact ⟨_, rfl, (Rw.of_own ho1 : Rw _ _ _ (flat [(4, 132 + 8 * n)])), ((((Bag.nil w).new 68 _).new 105 _).below).trans (hb1.mono (Nat.le_succ _))⟩
theorem rreqL_10 (a b o : Bool) (d : Int) (e f : Bool) (t l : Int) (s : ByteArray) (n : Int) (hn : 0 ≤ n ∧ n < 4) (hr : a = true ∧ b = true) (ht : ¬ (e = true ∧ f = true)) (w : World) : Calls Tryz.prog 56 #[.agg #[.bool a, .bool b, .bool o, .int .i64 d, .bool e, .bool f, .int .i64 t, .int .i64 l, .string s], .int .i64 n] w fun e' w' => ∃ v, e' = .returned v ∧ Rqs w' v [(4, 128 + 8 * n)] ∧ Below w.heap.size w w' := by
  have d0 : decide (n < 0) = false := decide_eq_false (by omega)
  have d1 : decide (4 ≤ n) = false := decide_eq_false (by omega)
  have w8 : wrap64 (8 * n) = 8 * n := by unfold wrap64; omega
  have w1 : wrap64 (128 + 8 * n) = 128 + 8 * n := by unfold wrap64; omega
  have w2 : wrap64 (132 + 8 * n) = 132 + 8 * n := by unfold wrap64; omega
  obtain ⟨rfl, rfl⟩ := hr
  cases e <;> cases f
  all_goals first | (exfalso; exact ht ⟨rfl, rfl⟩) | skip
  all_goals
    go_enter Tryz.func56, Tryz.ntmps56
    go_wp2_with (first | (at_builtin; refine wpList_appQ rfl (.tmp 19) (.tmp 24) rfl (w.heap.size + 1) (.slice none 0 0) 0 [] rfl (World.ownsRow_nil _ _ _ _) ⟨w.heap.size + 1, 0, none⟩ 1 1 [.int .i64 4, .int .i64 (128 + 8 * n)] rfl rfl (cells_two_new2 _ _ _ _ _) (flat_one [(4, (128 + 8 * n))]) (by omega) (by simp <;> omega) ?_; intro v1 w1 ho1 hb1 _; have hc4 := (hb1.cell (p := ⟨w.heap.size, 4, none⟩) (Nat.lt_succ_self _)).trans (old_cell (k := 4) rfl); have hc5 := (hb1.cell (p := ⟨w.heap.size, 5, none⟩) (Nat.lt_succ_self _)).trans (old_cell (k := 5) rfl)))
    go_ret
    exact ⟨_, rfl, (Rw.of_own ho1 : Rw _ _ _ (flat [(4, 128 + 8 * n)])), ((((Bag.nil w).new 68 _).new 105 _).below).trans (hb1.mono (Nat.le_succ _))⟩
theorem rreqL_11 (a b o : Bool) (d : Int) (e f : Bool) (t l : Int) (s : ByteArray) (n : Int) (hn : 0 ≤ n ∧ n < 4) (hr : a = true ∧ b = true) (ht : e = true ∧ f = true) (w : World) : Calls Tryz.prog 56 #[.agg #[.bool a, .bool b, .bool o, .int .i64 d, .bool e, .bool f, .int .i64 t, .int .i64 l, .string s], .int .i64 n] w fun e' w' => ∃ v, e' = .returned v ∧ Rqs w' v [(4, 128 + 8 * n), (4, 132 + 8 * n)] ∧ Below w.heap.size w w' := by
  have d0 : decide (n < 0) = false := decide_eq_false (by omega)
  have d1 : decide (4 ≤ n) = false := decide_eq_false (by omega)
  have w8 : wrap64 (8 * n) = 8 * n := by unfold wrap64; omega
  have w1 : wrap64 (128 + 8 * n) = 128 + 8 * n := by unfold wrap64; omega
  have w2 : wrap64 (132 + 8 * n) = 132 + 8 * n := by unfold wrap64; omega
  obtain ⟨rfl, rfl⟩ := hr
  obtain ⟨rfl, rfl⟩ := ht
  all_goals
    go_enter Tryz.func56, Tryz.ntmps56
    go_wp2_with (first | (at_builtin; refine wpList_appQ rfl (.tmp 19) (.tmp 24) rfl (w.heap.size + 1) (.slice none 0 0) 0 [] rfl (World.ownsRow_nil _ _ _ _) ⟨w.heap.size + 1, 0, none⟩ 1 1 [.int .i64 4, .int .i64 (128 + 8 * n)] rfl rfl (cells_two_new2 _ _ _ _ _) (flat_one [(4, (128 + 8 * n))]) (by omega) (by simp <;> omega) ?_; intro v1 w1 ho1 hb1 _; have hc4 := (hb1.cell (p := ⟨w.heap.size, 4, none⟩) (Nat.lt_succ_self _)).trans (old_cell (k := 4) rfl); have hc5 := (hb1.cell (p := ⟨w.heap.size, 5, none⟩) (Nat.lt_succ_self _)).trans (old_cell (k := 5) rfl)) | (at_builtin; refine wpList_appQ rfl (.tmp 32) (.tmp 37) rfl (w.heap.size + 1) _ _ _ rfl (World.ownsRow.alloc ho1 _) ⟨w1.heap.size, 0, none⟩ 1 1 [.int .i64 4, .int .i64 (132 + 8 * n)] rfl rfl (cells_two_new _ _ _ _) (flat_one [(4, (132 + 8 * n))]) (by omega) (by have := hb1.size; simp at *; omega) ?_; intro v2 w2 ho2 hb2 _))
    go_ret
    exact ⟨_, rfl, (Rw.of_own ho2 : Rw _ _ _ (flat [(4, 128 + 8 * n), (4, 132 + 8 * n)])), ((((((Bag.nil w).new 68 _).new 105 _).below).trans (hb1.mono (Nat.le_succ _))).alloc (by have := hb1.size; simp at this; omega) _).trans (hb2.mono (Nat.le_succ _))⟩
theorem rreqL_any (x : Ln) (n : Int) (w : World) : Calls Tryz.prog 56 #[.agg #[.bool (x).a, .bool (x).b, .bool (x).o, .int .i64 (x).d, .bool (x).e, .bool (x).f, .int .i64 (x).t, .int .i64 (x).l, .string (x).s], .int .i64 n] w fun e' w' => ∃ v, e' = .returned v ∧ Rqs w' v (x.req n) ∧ Below w.heap.size w w' := by
  obtain ⟨a, b, o, d, e, f, t, l, s⟩ := x
  unfold Ln.req
  by_cases hn : 0 ≤ n ∧ n < 4
  · rw [if_pos hn]
    by_cases hr : a = true ∧ b = true
    · rw [if_pos hr]
      by_cases ht : e = true ∧ f = true
      · rw [if_pos ht]; exact rreqL_11 a b o d e f t l s n hn hr ht w
      · rw [if_neg ht]; exact rreqL_10 a b o d e f t l s n hn hr ht w
    · rw [if_neg hr]
      by_cases ht : e = true ∧ f = true
      · rw [if_pos ht]; exact rreqL_01 a b o d e f t l s n hn hr ht w
      · rw [if_neg ht]; exact rreqL_00 a b o d e f t l s n hn hr ht w
  · rw [if_neg hn]; exact rreqL_out a b o d e f t l s n hn w
end Go.Proofs.YthpnddgfgpacpaaGreat
/-
  Requests, SameRequests of the reference. Condition: a valid machine; at most 2^40 requests.
-/
namespace Go.Proofs.YthpnddgfgpacpaaGreat
open Go.RowKit
set_option linter.unusedSimpArgs false
set_option linter.unusedVariables false
set_option maxHeartbeats 4000000
set_option maxRecDepth 100000
attribute [local irreducible] wpQuiet

theorem run_app_none18 {P : Program} {w : World} (base : Nat) (t ty e : TypeId) (i : TypeInfo) (size c : Nat) (ht : P.underlying t = some (.slice e)) (hi : P.info? e = some i) (v : Value) (n : Nat) (xs : List Value) (hown : w.ownsRow base e size v n xs) :
    (Builtin.append_ #[t, t] ty #[v, .slice none 0 c]).run P w = .ok v w := by
  rcases hown.2 with ⟨rfl, rfl⟩ | ⟨g, cap, cur, rfl, _, _, hnc, _⟩
  · simp [Builtin.append_, run_underlying ht, sizeOf, typeInfo, hi, Builtin.lenOf, Builtin.firstCells]
  · simp [Builtin.append_, run_underlying ht, sizeOf, typeInfo, hi, Builtin.lenOf, Builtin.firstCells, hnc, storeCells]
theorem wpList_appQ18 {w : World} {ops : Array Oper} {rest : List Oper} {o : Oper} {a : Act} {Q : Exit → Act → World → Prop} (hgd : o.guard = none) (s x : Operand)
    (ho : o.op = .call { callee := .builtin .append, args := #[s, x], argTypes := #[61, 61] }) (N : Nat) (v : Value) (n : Nat) (xs : List Value) (hs : a.eval s = v) (hown : w.ownsRow N 105 2 v n xs)
    (u : Value) (l : List Rq) (hx : a.eval x = u) (hu : Rqs w u l) (hb : n + l.length ≤ 1099511627776) (hN : N ≤ w.heap.size)
    (h : ∀ v' w', w'.ownsRow N 105 2 v' (n + l.length) (xs ++ flat l) → Below N w w' → wpList Tryz.prog ops Q rest (a.put o.dst v') w') : wpList Tryz.prog ops Q (o :: rest) a w := by
  obtain ⟨A, c, rfl, hk, hc⟩ := id hu
  cases A with
  | none =>
    obtain rfl : l = [] := by
      cases l with
      | nil => rfl
      | cons q r =>
        obtain ⟨a', ha, _⟩ := hc 0 (.int .i64 q.1) (by unfold flat; simp)
        cases ha
    have h1 := h v w (by simpa [flat] using hown) (Below.refl _ _)
    obtain ⟨i, hi, hz, hsz, hby⟩ := infoQ_parts
    refine wpList_plain hgd fun K hK => ?_
    have hrun := run_app_none18 (P := Tryz.prog) (w := w) N 61 o.type 105 i 2 c Tryz.underlying61 hi v n xs hown
    unfold Oper.wp
    simp only [List.length_nil] at hx
    simp [execOp, ho, resolve, invoke, builtin, hs, hx, hrun, Result.andThen]
    exact hK _ _ h1
  | some ad =>
    exact wpList_appQ hgd s x ho N v n xs hs hown ad l.length c (flat l) hx (flat_length l) (Rqs.cells hu) (flat_one l) (by omega) hN (fun v' w' h1 h2 _ => h v' w' h1 h2)

theorem own_cat {w : World} {N : Nat} {v : Value} {a b : List Rq} (h : w.ownsRow N 105 2 v (a.length + b.length) (flat a ++ flat b)) : w.ownsRow N 105 2 v (a ++ b).length (flat (a ++ b)) := by rw [List.length_append, flat_append]; exact h
section
variable {ops : Array Oper} {rest : List Oper} {o : Oper} {a : Act} {W w0 w1 : World} {Q : Exit → Act → World → Prop} {l : List (Nat × TypeId × List Value)}
theorem wpList_emptyQ (hX : Bag l w0 W) (hg : o.guard = none) (hop : o.op = Op.buildSlice 61 0 #[]) (hal : w1 = W)
    (h : ∀ B W2, Bag l w0 W2 → W.heap.size ≤ B → W2.ownsRow B 105 2 (.slice (some ⟨B, 0, none⟩) 0 0) ([] : List Rq).length (flat []) → wpList Tryz.prog ops Q rest (a.put o.dst (.slice (some ⟨B, 0, none⟩) 0 0)) W2) : wpList Tryz.prog ops Q (o :: rest) a w1 := by
  subst hal
  refine wpList_plain hg fun _ hK => ?_
  have h1 := h w1.heap.size (w1.alloc (.cells #[] 105)) (hX.step ((Below.refl _ _).alloc (Nat.le_refl _) _)) (Nat.le_refl _) (own_emptyS w1 _ 2)
  unfold Oper.wp execOp
  simp only [hop]
  go_simp
  exact hK _ _ h1
end
theorem reqL_snoc (x : Ln) : ∀ (l : List Ln) (n : Int), reqL (l ++ [x]) n = reqL l n ++ x.req (n + (l.length : Int))
  | [], n => by simp [reqL]
  | y :: r, n => by
    rw [List.cons_append]
    show y.req n ++ reqL (r ++ [x]) (n + 1) = (y.req n ++ reqL r (n + 1)) ++ _
    rw [reqL_snoc x r (n + 1), List.append_assoc, List.length_cons, show n + 1 + (r.length : Int) = n + ((r.length + 1 : Nat) : Int) by omega]
theorem reqV_len (x : Ln) (n : Int) : (x.req n).length ≤ 2 := by
  unfold Ln.req
  repeat' split
  all_goals simp
theorem reqL_len : ∀ (l : List Ln) (n : Int), (reqL l n).length ≤ 2 * l.length
  | [], n => by simp [reqL]
  | y :: r, n => by
    have h1 := reqV_len y n
    have h2 := reqL_len r (n + 1)
    show (y.req n ++ reqL r (n + 1)).length ≤ _
    rw [List.length_append, List.length_cons]
    omega
theorem rbReq_any (A : Ma) (hA : A.ok) (hR : A.right = true) (vm vb vl vs vd vt : Value) (X : Nat → Prop) (w : World) (hXl : ∀ b, X b → b < w.heap.size) (hV : MaV X w A vm vb vl vs vd vt) : Calls Tryz.prog 24 #[.agg (A.cells vm vb vl vs vd vt).toArray] w fun e' w' => ∃ v, e' = .returned v ∧ Rqs w' v A.req ∧ Below w.heap.size w w' := by
  have hL := Ma.len hA vs vd vt
  obtain ⟨hl4, _⟩ := Ma.parts hR
  have hX := (Bag.nil w).new 44 (A.cells vm vb vl vs vd vt)
  have hk := fun wz => rreq_any A.k wz
  have hk2 : ∀ wz, Calls Tryz.prog 53 #[.agg A.k.L.toArray] wz fun e' w' => ∃ v, e' = .returned v ∧ Rqs w' v A.k.req ∧ Below wz.heap.size wz w' := hk
  have hd : ∀ wz, Calls Tryz.prog 54 #[.agg (dkL vs vd A.K).toArray] wz fun e' w' => ∃ v, e' = .returned v ∧ Rqs w' v A.K.req ∧ Below wz.heap.size wz w' := by
    obtain ⟨A1, c1, rfl, _⟩ := hV.s.now.form
    obtain ⟨A2, c2, rfl, _⟩ := hV.d.now.form
    exact fun wz => rreqK_any A.K A1 _ c1 A2 _ c2 wz
  have ht : ∀ wz, Calls Tryz.prog 55 #[.agg (tpL vt A.T).toArray] wz fun e' w' => ∃ v, e' = .returned v ∧ Rqs w' v A.T.req ∧ Below wz.heap.size wz w' := by
    obtain ⟨A1, c1, rfl, _⟩ := hV.t.now.form
    exact fun wz => rreqT_any A.T A1 _ c1 wz
  have hn : ∀ (x : Ln) (i : Int) wz, Calls Tryz.prog 56 #[.agg (lnL x).toArray, .int .i64 i] wz fun e' w' => ∃ v, e' = .returned v ∧ Rqs w' v (x.req i) ∧ Below wz.heap.size wz w' := fun x i wz => rreqL_any x i wz
  have hreq : A.req = A.k.req ++ A.K.req ++ A.T.req ++ reqL A.L 0 := rfl
  have n1 : A.k.req.length ≤ 2 := by unfold Ck.req; split <;> simp
  have n2 : A.K.req.length ≤ 2 := by unfold Dk.req; split <;> simp
  have n3 : A.T.req.length ≤ 2 := by unfold Tp.req; split <;> simp
  have n4 := reqL_len A.L 0
  have n5 := reqL_len
  rw [hreq]
  clear hreq hk hR
  generalize A.k.req = R1 at *
  generalize A.K.req = R2 at *
  generalize A.T.req = R3 at *
  go_enter Tryz.func24, Tryz.ntmps24
  go_wp2_with (first | ((with_reducible refine at_bslice18 ?_); refine wpList_emptyQ hX rfl rfl rfl ?_; have hlt := (hX.all _ _ _ (.head _)).lt; clear hX; intro B2 w2 hX hB2 ho; replace ho := own_base ho (show w.heap.size + 1 ≤ _ from Nat.le_trans hlt hB2); clear hlt hB2) | ((with_reducible refine at_load ?_); refine ldp hX aggK_13 sizK_13 (get_k hL) rfl ?_) | (go_at_call 53; (with_reducible refine (hk2 _).mono ?_); rintro e' wc ⟨v, rfl, q1, hbb⟩; (try replace ho := own_step ho hbb); replace hX := hX.step hbb; clear hbb) | (at_builtin; refine wpList_appQ18 rfl (.tmp 5) (.tmp 8) rfl (w.heap.size + 1) _ _ (flat ([])) rfl ho _ (R1) rfl q1 (by simp only [List.length_append, List.length_nil]; omega) (show w.heap.size + 1 ≤ _ from (hX.all _ _ _ (.head _)).lt) ?_; intro v2 w2 ho3 hb2; replace hX := hX.stepN hb2 (by intro q hq; simp only [List.mem_cons, List.not_mem_nil, or_false] at hq; rcases hq with rfl; simp) (Nat.le_add_right _ _); replace ho := own_cat ho3; clear hb2 ho3 q1) | ((with_reducible refine at_load ?_); refine ldp hX aggK sizK (get_d hL) rfl ?_) | (go_at_call 54; (with_reducible refine (hd _).mono ?_); rintro e' wc ⟨v, rfl, q2, hbb⟩; (try replace ho := own_step ho hbb); replace hX := hX.step hbb; clear hbb) | (at_builtin; refine wpList_appQ18 rfl (.tmp 10) (.tmp 13) rfl (w.heap.size + 1) _ _ (flat ([] ++ R1)) rfl ho _ (R2) rfl q2 (by simp only [List.length_append, List.length_nil]; omega) (show w.heap.size + 1 ≤ _ from (hX.all _ _ _ (.head _)).lt) ?_; intro v2 w2 ho3 hb2; replace hX := hX.stepN hb2 (by intro q hq; simp only [List.mem_cons, List.not_mem_nil, or_false] at hq; rcases hq with rfl; simp) (Nat.le_add_right _ _); replace ho := own_cat ho3; clear hb2 ho3 q2) | ((with_reducible refine at_load ?_); refine ldp hX aggT sizT (get_t hL) rfl ?_) | (go_at_call 55; (with_reducible refine (ht _).mono ?_); rintro e' wc ⟨v, rfl, q3, hbb⟩; (try replace ho := own_step ho hbb); replace hX := hX.step hbb; clear hbb) | (at_builtin; refine wpList_appQ18 rfl (.tmp 15) (.tmp 18) rfl (w.heap.size + 1) _ _ (flat ([] ++ R1 ++ R2)) rfl ho _ (R3) rfl q3 (by simp only [List.length_append, List.length_nil]; omega) (show w.heap.size + 1 ≤ _ from (hX.all _ _ _ (.head _)).lt) ?_; intro v2 w2 ho3 hb2; replace hX := hX.stepN hb2 (by intro q hq; simp only [List.mem_cons, List.not_mem_nil, or_false] at hq; rcases hq with rfl; simp) (Nat.le_add_right _ _); replace ho := own_cat ho3; clear hb2 ho3 q3))
  rw [List.nil_append] at ho
  go_loopw [3, 4] (fun rv iv wr => ∃ (i : Nat) (v' : Value), i ≤ A.L.length ∧ v' = rv ∧ iv = .int .i64 i ∧ wr.ownsRow (w.heap.size + 1) 105 2 v' (R1 ++ R2 ++ R3 ++ reqL (A.L.take i) 0).length (flat (R1 ++ R2 ++ R3 ++ reqL (A.L.take i) 0)) ∧ Bag [(w.heap.size, 44, A.cells vm vb vl vs vd vt)] w wr) (fun _ iv _ => match iv with | .int _ q => A.L.length - q.toNat | _ => 0)
  case atStart => exact ⟨0, _, Nat.zero_le _, rfl, rfl, by rw [List.take_zero]; show World.ownsRow _ _ _ _ _ (R1 ++ R2 ++ R3 ++ []).length (flat (R1 ++ R2 ++ R3 ++ [])); rw [List.append_nil]; exact ho, hX⟩
  case round =>
    clear hX ho
    obtain ⟨i, rv, hi, rfl, rfl, ho, hX⟩ := hrel
    obtain ⟨aL, cL, rfl, hcl, hld⟩ := lns_form hV.l.now
    by_cases hlt : i < A.L.length
    · obtain ⟨x, hx⟩ : ∃ x, A.L[i]? = some x := ⟨_, List.getElem?_eq_getElem hlt⟩
      obtain ⟨ad, rfl, hld2⟩ := hld i x hx
      have i0 : (0 : Int) ≤ (i : Int) := by omega
      have i1 : (i : Int) < (A.L.length : Int) := by omega
      have i2 : IntKind.i64.wrap ((i : Int) + 1) = (i : Int) + 1 := by rw [wrap_i64]; unfold wrap64; omega
      have hsn : R1 ++ R2 ++ R3 ++ reqL (A.L.take (i + 1)) 0 = R1 ++ R2 ++ R3 ++ reqL (A.L.take i) 0 ++ x.req (i : Int) := by
        rw [List.take_add_one, hx]
        show R1 ++ R2 ++ R3 ++ reqL (A.L.take i ++ [x]) 0 = _
        rw [reqL_snoc, List.length_take, Nat.min_eq_left hi, Int.zero_add]
        simp only [List.append_assoc]
      have hnx := hn x (i : Int)
      have m1 := n5 (A.L.take i) 0
      have m2 := reqV_len x (i : Int)
      rw [List.length_take] at m1
      generalize reqL (A.L.take i) 0 = RI at *
      generalize x.req (i : Int) = RX at *
      replace hsn := hid hsn
      clear hld hx hn hk2 hd ht n5 n4
      go_wp2_with (first | ((with_reducible refine at_load ?_); refine ldc (hk := get_l hL) hX slL_cell ?_) | ((with_reducible refine at_load ?_); refine wpList_loadW rfl 68 _ _ _ rfl rfl (hld2 _ hX.below) ?_) | (go_at_call 56; (with_reducible refine (hnx _).mono ?_); rintro e' wc ⟨v, rfl, q4, hbb⟩; (try replace ho := own_step ho hbb); replace hX := hX.step hbb; clear hbb) | (at_builtin; refine wpList_appQ18 rfl (.tmp 27) (.tmp 34) rfl (w.heap.size + 1) _ _ (flat (R1 ++ R2 ++ R3 ++ RI)) rfl ho _ (RX) rfl q4 (by simp only [List.length_append, List.length_nil]; omega) (show w.heap.size + 1 ≤ _ from (hX.all _ _ _ (.head _)).lt) ?_; intro v2 w2 ho3 hb2; replace hX := hX.stepN hb2 (by intro q hq; simp only [List.mem_cons, List.not_mem_nil, or_false] at hq; rcases hq with rfl; simp) (Nat.le_add_right _ _); replace ho := own_cat ho3; clear hb2 ho3 q4))
      exact ⟨⟨i + 1, v2, by omega, rfl, by go_num, by rw [show _ = _ from hsn]; exact ho, hX⟩, by simp only; omega⟩
    · obtain rfl : i = A.L.length := by omega
      have i1 : ¬ (A.L.length : Int) < (A.L.length : Int) := by omega
      rw [List.take_length] at ho
      have hrq : Rqs wr rv (R1 ++ R2 ++ R3 ++ reqL A.L 0) := Rw.of_own ho
      clear hld
      go_wp2_with (first | ((with_reducible refine at_load ?_); refine ldc (hk := get_l hL) hX slL_cell ?_))
      go_ret
      exact ⟨rv, rfl, by simpa only [List.append_assoc] using hrq, hX.below⟩
theorem rsameL_any18 (u v : Value) (a b : List Rq) (ha : a.length ≤ 1099511627776) (hb : b.length ≤ 1099511627776) (w : World) (hu : Rqs w u a) (hv : Rqs w v b) :
    Calls Tryz.prog 22 #[u, v] w fun e w' => e = .returned (.bool (decide (a = b))) ∧ Below w.heap.size w w' := by
  have hu0 := hu
  have hv0 := hv
  obtain ⟨A, c, rfl, _, hc⟩ := hu
  obtain ⟨B, d, rfl, _, hd⟩ := hv
  by_cases hl : a.length = b.length
  · have hlb : ((a.length : Int) != (b.length : Int)) = false := by rw [hl]; simp
    replace hl := hid hl
    go_enter Tryz.func22, Tryz.ntmps22
    go_wp2
    go_loopw [5] (fun i wr => ∃ k : Nat, k ≤ a.length ∧ i = .int .i64 k ∧ Hid (a.take k = b.take k) ∧ Below w.heap.size w wr) (fun i _ => match i with | .int _ q => a.length - q.toNat | _ => 0)
    case atStart => exact ⟨0, Nat.zero_le _, rfl, rfl, Below.refl _ _⟩
    case round =>
      obtain ⟨k, hk, rfl, hP, hB⟩ := hrel
      by_cases hka : k < a.length
      · have hx := List.getElem?_eq_getElem hka
        have hy := List.getElem?_eq_getElem (show k < b.length by have := (show a.length = b.length from hl); omega)
        have hkb : k < b.length := by have := (show a.length = b.length from hl); omega
        generalize a[k] = x at *
        generalize b[k] = y at *
        obtain ⟨ad, rfl, _⟩ := hc (k * 2) (.int .i64 x.1) (flat_get hx 0 _ rfl)
        obtain ⟨bd, rfl, _⟩ := hd (k * 2) (.int .i64 y.1) (flat_get hy 0 _ rfl)
        have hX1 : ∀ w', Below w.heap.size w w' → (Instr.loadAt 105 (.pointer (some (ad.add (k * 2))))).run Tryz.prog w' = .ok (.agg #[.int .i64 x.1, .int .i64 x.2]) w' := fun w' h => Rqs.load (Rw.below hu0 h) rfl hx
        have hY1 : ∀ w', Below w.heap.size w w' → (Instr.loadAt 105 (.pointer (some (bd.add (k * 2))))).run Tryz.prog w' = .ok (.agg #[.int .i64 y.1, .int .i64 y.2]) w' := fun w' h => Rqs.load (Rw.below hv0 h) rfl hy
        clear hc hd hu0 hv0
        obtain ⟨p, m⟩ := x
        obtain ⟨q, n⟩ := y
        simp only at hX1 hY1
        by_cases hpq : p = q
        · subst hpq
          by_cases hmn : m = n
          · subst hmn
            have hP2 : Hid (a.take (k + 1) = b.take (k + 1)) := by show _ = _; rw [take_snoc hx, take_snoc hy, show a.take k = b.take k from hP]
            clear hx hy
            go_wp2
            refine region_class (fun wz => Below w.heap.size w wz) (by kernel_rfl) (by kernel_rfl) hB.drew ?_
            repeat
              first
                | (refine BigFrame.wpQuiet_skip (by rfl) ?_
                   simp only [Act.put, List.setIfInBounds_toArray, List.set_cons_zero, List.set_cons_succ])
                | (refine BigFrame.wpQuiet_want (by rfl) (fun K hK => ?_)
                   apply Exists.intro
                   refine ⟨fun wq hq => ?_, hK _ ?_⟩
                   · first
                       | (refine quiet_load 105 _ _ _ rfl rfl (hX1 _ hq))
                       | (refine quiet_load 105 _ _ _ rfl rfl (hY1 _ hq))
                       | (unfold Oper.quietAt
                          go_simp
                          first
                            | with_reducible rfl
                         )
                   clear hK K
                   simp only [Act.put, List.setIfInBounds_toArray, List.set_cons_zero, List.set_cons_succ])
            refine wpQuiet_nil ?_
            intro w4 hB4
            go_wp2
            exact ⟨⟨k + 1, by omega, by go_num, hP2, hB4⟩, by simp only; omega⟩
          · have hne : Hid (decide (a = b) = false) := by
              show _ = _
              rw [decide_eq_false_iff_not]; intro h; rw [h, hy] at hx; simp at hx; exact hmn hx.symm
            clear hx hy
            go_wp2
            refine region_class (fun wz => Below w.heap.size w wz) (by kernel_rfl) (by kernel_rfl) hB.drew ?_
            repeat
              first
                | (refine BigFrame.wpQuiet_skip (by rfl) ?_
                   simp only [Act.put, List.setIfInBounds_toArray, List.set_cons_zero, List.set_cons_succ])
                | (refine BigFrame.wpQuiet_want (by rfl) (fun K hK => ?_)
                   apply Exists.intro
                   refine ⟨fun wq hq => ?_, hK _ ?_⟩
                   · first
                       | (refine quiet_load 105 _ _ _ rfl rfl (hX1 _ hq))
                       | (refine quiet_load 105 _ _ _ rfl rfl (hY1 _ hq))
                       | (unfold Oper.quietAt
                          go_simp
                          first
                            | with_reducible rfl
                         )
                   clear hK K
                   simp only [Act.put, List.setIfInBounds_toArray, List.set_cons_zero, List.set_cons_succ])
            refine wpQuiet_nil ?_
            intro w4 hB4
            go_wp2
            go_ret
            exact ⟨by rw [show decide (a = b) = false from hne]; rfl, hB4⟩
        · have hne : Hid (decide (a = b) = false) := by
            show _ = _
            rw [decide_eq_false_iff_not]; intro h; rw [h, hy] at hx; simp at hx; exact hpq hx.1.symm
          clear hx hy
          go_wp2
          refine region_class (fun wz => Below w.heap.size w wz) (by kernel_rfl) (by kernel_rfl) hB.drew ?_
          repeat
            first
              | (refine BigFrame.wpQuiet_skip (by rfl) ?_
                 simp only [Act.put, List.setIfInBounds_toArray, List.set_cons_zero, List.set_cons_succ])
              | (refine BigFrame.wpQuiet_want (by rfl) (fun K hK => ?_)
                 apply Exists.intro
                 refine ⟨fun wq hq => ?_, hK _ ?_⟩
                 · first
                     | (refine quiet_load 105 _ _ _ rfl rfl (hX1 _ hq))
                     | (refine quiet_load 105 _ _ _ rfl rfl (hY1 _ hq))
                     | (unfold Oper.quietAt
                        go_simp
                        first
                          | with_reducible rfl
                       )
                 clear hK K
                 simp only [Act.put, List.setIfInBounds_toArray, List.set_cons_zero, List.set_cons_succ])
          refine wpQuiet_nil ?_
          intro w4 hB4
          go_wp2
          go_ret
          exact ⟨by rw [show decide (a = b) = false from hne]; rfl, hB4⟩
      · have hkn : k = a.length := by omega
        have hab : Hid (decide (a = b) = true) := by
          show _ = _
          rw [decide_eq_true_iff]
          refine take_eq_of (show a.length = b.length from hl) ?_
          rw [← hkn]; exact hP
        subst hkn
        clear hc hd hu0 hv0 hP
        go_wp2
        go_ret
        exact ⟨by rw [show decide (a = b) = true from hab]; rfl, hB⟩
  · have hn : ¬ (a.length : Int) = (b.length : Int) := by omega
    have hn2 : ((a.length : Int) != (b.length : Int)) = true := by simpa using hn
    have hne : Hid (decide (a = b) = false) := by
      show _ = _
      rw [decide_eq_false_iff_not]; intro h; exact hl (by rw [h])
    clear hc hd hu0 hv0 hl
    go_enter Tryz.func22, Tryz.ntmps22
    go_wp2
    go_ret
    exact ⟨by rw [show decide (a = b) = false from hne]; rfl, Below.refl _ _⟩
end Go.Proofs.YthpnddgfgpacpaaGreat
