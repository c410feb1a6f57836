import Derived.Test.YthpnddgfgpacpaaGreatRD17
import Derived.Test.YthpnddgfgpacpaaGreatRD05
import Derived.Test.YthpnddgfgpacpaaGreatRD08
import Derived.Test.YthpnddgfgpacpaaGreatRD06
/-
  Physical, isLine, low of the reference; a copy of a row of lines. Conditions: at most 2^40 lines.
-/
namespace Go.Proofs.YthpnddgfgpacpaaGreat
open Go.RowKit
set_option linter.unusedSimpArgs false
set_option linter.unusedVariables false
set_option maxHeartbeats 4000000
set_option maxRecDepth 100000
attribute [local irreducible] wpQuiet

theorem tmod_neg {p m : Int} (hp : p < 0) (hm : 0 < m) : p.tmod m = -((-p) % m) := by
  have h1 : (-p).tmod m = (-p) % m := Int.tmod_eq_emod_of_nonneg (by omega)
  rw [Int.neg_tmod] at h1
  omega
theorem rphys_any (p : Int) (w : World) : Calls Tryz.prog 39 #[.int .i64 p] w fun e' w' => e' = .returned (.int .i64 (physP p)) ∧ Below w.heap.size w w' := by
  have hB := Below.refl w.heap.size w
  unfold physP
  by_cases hp : p < 0
  · have t1 := tmod_neg hp (m := 262144) (by decide)
    by_cases hz : (-p) % 262144 = 0
    · rw [hz] at t1
      have t2 : p.tmod 262144 = 0 := by omega
      have e : p % 262144 = 0 := by omega
      have w1 : IntKind.i64.wrap 0 = 0 := by decide
      rw [e]
      clear t1 hz hp e
      go_enter Tryz.func39, Tryz.ntmps39
      go_wp2
      go_ret
      exact ⟨rfl, hB⟩
    · generalize hq : (-p) % 262144 = q at *
      have h1 : 0 < q := by omega
      have h2 : q < 262144 := by omega
      have w1 : IntKind.i64.wrap (-q) = -q := by rw [wrap_i64]; unfold wrap64; omega
      have w2 : IntKind.i64.wrap (-q + 262144) = -q + 262144 := by rw [wrap_i64]; unfold wrap64; omega
      have e : p % 262144 = -q + 262144 := by omega
      have d1 : decide (-q < 0) = true := decide_eq_true (by omega)
      have d1i : -q < 0 := by omega
      rw [e]
      clear hq hz hp e
      go_enter Tryz.func39, Tryz.ntmps39
      go_wp2
      go_ret
      exact ⟨rfl, hB⟩
  · have t1 : p.tmod 262144 = p % 262144 := Int.tmod_eq_emod_of_nonneg (by omega)
    have w1 : IntKind.i64.wrap (p % 262144) = p % 262144 := by rw [wrap_i64]; unfold wrap64; omega
    have d1 : decide (p % 262144 < 0) = false := decide_eq_false (by omega)
    generalize p % 262144 = q at *
    clear hp
    go_enter Tryz.func39, Tryz.ntmps39
    go_wp2
    go_ret
    exact ⟨rfl, hB⟩
theorem rline_any (A : Ma) (hA : A.ok) (hl : A.L.length ≤ 4) (off : Int) (vm vb vs vd vt : Value) (aL : Option Addr) (cL : Nat) (w : World) : Calls Tryz.prog 91 #[.agg (A.cells vm vb (.slice aL A.L.length cL) vs vd vt).toArray, .int .i64 off] w fun e' w' => e' = .returned (.bool (A.isL off)) ∧ Below w.heap.size w w' := by
  have hL := Ma.len hA vs vd vt
  have hX := (Bag.nil w).new 44 (A.cells vm vb (.slice aL A.L.length cL) vs vd vt)
  unfold Ma.isL
  have w1 : IntKind.i64.wrap (8 * (A.L.length : Int)) = 8 * (A.L.length : Int) := by rw [wrap_i64]; unfold wrap64; omega
  have w2 : IntKind.i64.wrap (512 + 8 * (A.L.length : Int)) = 512 + 8 * (A.L.length : Int) := by rw [wrap_i64]; unfold wrap64; omega
  by_cases h : 512 ≤ off
  · have d1 : decide (512 ≤ off) = true := decide_eq_true h
    go_enter Tryz.func91, Tryz.ntmps91
    go_wp2_with (first | ((with_reducible refine at_load ?_); refine wpList_bag_cell hX slL_cell _ rfl rfl rfl rfl (.head _) (get_l hL) ?_))
    go_ret
    exact ⟨by simp [d1], hX.below⟩
  · have d1 : decide (512 ≤ off) = false := decide_eq_false h
    go_enter Tryz.func91, Tryz.ntmps91
    go_wp2_with (first | ((with_reducible refine at_load ?_); refine wpList_bag_cell hX slL_cell _ rfl rfl rfl rfl (.head _) (get_l hL) ?_))
    go_ret
    exact ⟨by simp [d1], hX.below⟩
theorem infLn : (Tryz.prog.info? 68).map (fun i => (i.zero, i.size, i.bytes)) = some (some (.agg (lnL ⟨false, false, false, 0, false, false, 0, 0, ⟨#[]⟩⟩).toArray), 9, 56) := by kernel_rfl
theorem infLn_parts : ∃ i : TypeInfo, Tryz.prog.info? 68 = some i ∧ i.zero = some (.agg (lnL ⟨false, false, false, 0, false, false, 0, 0, ⟨#[]⟩⟩).toArray) ∧ i.size = 9 ∧ i.bytes = 56 := by
  have h := infLn
  cases hi : Tryz.prog.info? 68 with
  | none => rw [hi] at h; cases h
  | some i =>
    rw [hi] at h
    simp only [Option.map_some, Option.some.injEq, Prod.mk.injEq] at h
    exact ⟨i, rfl, h.1, h.2.1, h.2.2⟩
theorem own_emptyS (w : World) (t : TypeId) (s : Nat) : (w.alloc (.cells #[] t)).ownsRow w.heap.size t s (.slice (some ⟨w.heap.size, 0, none⟩) 0 0) 0 [] :=
  ⟨(Nat.zero_mul s).symm, .inr ⟨w.heap.size, 0, #[], rfl, Nat.le_refl _, heap_alloc_new w _, Nat.le_refl _, Nat.zero_le _, (Nat.zero_mul s).symm, by rw [Nat.zero_mul]; rfl⟩⟩
theorem flat9_len (l : List Ln) : (l.flatMap lnL).length = l.length * 9 := by
  induction l with
  | nil => rfl
  | cons x r ih => rw [List.flatMap_cons, List.length_append, ih, List.length_cons]; show 9 + _ = _; omega
theorem one_lns (l : List Ln) : ∀ u ∈ l.flatMap lnL, u.oneCell' = true := by
  intro u hu
  obtain ⟨x, _, hx⟩ := List.mem_flatMap.1 hu
  simp only [lnL, List.mem_cons, List.not_mem_nil, or_false] at hx
  rcases hx with rfl | rfl | rfl | rfl | rfl | rfl | rfl | rfl | rfl <;> rfl
theorem wpList_appLn {w : World} {ops : Array Oper} {rest : List Oper} {o : Oper} {a : Act} {Q : Exit → Act → World → Prop} (hgd : o.guard = none) (s x : Operand)
    (ho : o.op = .call { callee := .builtin .append, args := #[s, x], argTypes := #[35, 35] }) (N : Nat) (v : Value) (n : Nat) (xs : List Value) (hs : a.eval s = v) (hown : w.ownsRow N 68 9 v n xs)
    (ad : Addr) (m c : Nat) (news : List Value) (hx : a.eval x = .slice (some ad) m c) (hl : news.length = m * 9) (hnews : ∀ j u, news[j]? = some u → w.cell? (ad.add j) = some u) (h1 : ∀ u ∈ news, u.oneCell' = true)
    (hb : n + m ≤ 1099511627776) (hN : N ≤ w.heap.size)
    (h : ∀ v' w', w'.ownsRow N 68 9 v' (n + m) (xs ++ news) → Below N w w' → wpList Tryz.prog ops Q rest (a.put o.dst v') w') : wpList Tryz.prog ops Q (o :: rest) a w := by
  obtain ⟨i, hi, hz, hsz, hby⟩ := infLn_parts
  refine wpList_append_own _ hgd s x 35 ho N 68 i (.agg (lnL ⟨false, false, false, 0, false, false, 0, 0, ⟨#[]⟩⟩).toArray) 9 56 Tryz.underlying35 hi hz hsz hby rfl (by decide) v n xs hs hown ad m c news hx hl hnews h1 (by unfold maxLen; omega) (by omega) hN ?_
  intro v' w' ho' hg _
  exact h v' w' ho' ((Below.refl N w).grown hg hN (fun j hj => (World.ownsRow.lt hown j hj).1))
/-- A row is appended to a new empty one: a copy of the call's own. -/
theorem wpList_cpLn {w w0 : World} {ops : Array Oper} {rest : List Oper} {o : Oper} {a : Act} {Q : Exit → Act → World → Prop} (hgd : o.guard = none) (s x : Operand) (ho : o.op = .call { callee := .builtin .append, args := #[s, x], argTypes := #[35, 35] }) (hw : w = w0.alloc (.cells #[] 68)) (hs : a.eval s = .slice (some ⟨w0.heap.size, 0, none⟩) 0 0) (v : Value) (l : List Ln) (hx : a.eval x = v) (hv : Lns w0 v l) (hl : l.length ≤ 1099511627776)
    (h : ∀ v' w', w'.ownsRow w0.heap.size 68 9 v' l.length (l.flatMap lnL) → Below w0.heap.size w0 w' → wpList Tryz.prog ops Q rest (a.put o.dst v') w') : wpList Tryz.prog ops Q (o :: rest) a w := by
  subst hw
  have hb0 : Below w0.heap.size w0 (w0.alloc (.cells #[] 68)) := (Below.refl _ _).alloc (Nat.le_refl _) _
  rcases Rz.form hv with ⟨rfl, h1, _⟩ | ⟨ad, c, rfl, _⟩
  · obtain rfl : l = [] := List.eq_nil_of_length_eq_zero h1
    obtain ⟨i, hi, hz, hsz, hby⟩ := infLn_parts
    exact wpList_append_own_none hgd s x 35 ho w0.heap.size 68 i 9 Tryz.underlying35 hi _ 0 [] hs (own_emptyS w0 68 9) hx (h _ _ (own_emptyS w0 68 9) hb0)
  · refine wpList_appLn hgd s x ho w0.heap.size _ 0 [] hs (own_emptyS w0 68 9) ad l.length c (l.flatMap lnL) hx (flat9_len l) (fun jz u hu => Rz.cell (Rz.below hv hb0) jz u hu) (one_lns l) (by omega) (by simp) fun v' w' ho' hb' => ?_
    rw [Nat.zero_add, List.nil_append] at ho'
    exact h v' w' ho' (hb0.trans hb')
end Go.Proofs.YthpnddgfgpacpaaGreat
/-
  A line is put into a row; a new machine made; withLine of the reference. Condition: the row has the line.
-/
namespace Go.Proofs.YthpnddgfgpacpaaGreat
open Go.RowKit
set_option linter.unusedSimpArgs false
set_option linter.unusedVariables false
set_option maxHeartbeats 4000000
set_option maxRecDepth 100000
attribute [local irreducible] wpQuiet

theorem take_put {c ds : List Value} {a d n : Nat} (hd : ds.length = d) (h1 : a + d ≤ n) (h2 : n ≤ c.length) : (c.take a ++ ds ++ c.drop (a + d)).take n = (c.take n).take a ++ ds ++ (c.take n).drop (a + d) := by
  have hl : (c.take a ++ ds).length = a + d := by rw [List.length_append, List.length_take, hd]; omega
  rw [List.take_append, List.take_of_length_le (by omega), hl, List.take_take, Nat.min_eq_left (by omega), List.drop_take]
theorem flat9_set : ∀ (l : List Ln) (k : Nat) (x : Ln), k < l.length → (l.flatMap lnL).take (k * 9) ++ lnL x ++ (l.flatMap lnL).drop (k * 9 + 9) = (l.set k x).flatMap lnL
  | [], k, x, h => absurd h (Nat.not_lt_zero _)
  | y :: r, 0, x, _ => by
    rw [List.set_cons_zero, List.flatMap_cons, List.flatMap_cons, Nat.zero_mul, List.take_zero, Nat.zero_add, List.nil_append, List.drop_append, List.drop_eq_nil_of_le (show (lnL y).length ≤ 9 from Nat.le_refl _), show 9 - (lnL y).length = 0 from rfl, List.drop_zero, List.nil_append]
  | y :: r, k + 1, x, h => by
    have ih := flat9_set r k x (by simpa using h)
    have hy : (lnL y).length = 9 := rfl
    rw [List.set_cons_succ, List.flatMap_cons, List.flatMap_cons, List.take_append, List.take_of_length_le (by omega), List.drop_append, List.drop_eq_nil_of_le (by omega), hy, show (k + 1) * 9 - 9 = k * 9 by omega, show (k + 1) * 9 + 9 - 9 = k * 9 + 9 by omega, List.nil_append, ← ih]
    simp only [List.append_assoc]
section
variable {ops : Array Oper} {rest : List Oper} {o : Oper} {a : Act} {w w1 : World} {Q : Exit → Act → World → Prop}
/-- A line is stored into a row of the call's own. -/
theorem wpList_own_putLn {N g n cap k : Nat} {l : List Ln} {x : Ln} (hown : w.ownsRow N 68 9 (.slice (some ⟨g, 0, none⟩) n cap) n (l.flatMap lnL)) (hn : n = l.length) (hk : k < l.length) (xo yo : Operand) (hop : o.op = Op.store 68 xo yo) (hal : w1 = w) (hx : a.eval xo = .pointer (some ⟨g, k * 9, none⟩)) (hy : a.eval yo = .agg (lnL x).toArray) (hdst : o.dst = none) (hw : Region.wanted o (yielded ops a.tmps) = true)
    (h : ∀ w2, w2.ownsRow N 68 9 (.slice (some ⟨g, 0, none⟩) n cap) n ((l.set k x).flatMap lnL) → (∀ j, j ≠ g → w2.heap[j]? = w.heap[j]?) → Below N w w2 → wpList Tryz.prog ops Q rest a w2) : wpList Tryz.prog ops Q (o :: rest) a w1 := by
  subst hal hn
  rcases hown.2 with ⟨hv, _⟩ | ⟨g', cap', cur, hv, hg, hh, hnc, hm, hcs, htk⟩
  · cases hv
  · cases hv
    have hb : Blk 68 w1 g cur.toList := by unfold Blk; rw [Array.toArray_toList]; exact hh
    have hc9 : cur.size = cap * 9 := hcs
    have hbd : k * 9 + 9 ≤ cur.size := by rw [hc9]; omega
    have e := run_storeCells_at Tryz.prog g (k * 9) 68 (lnL x) 0 cur.toList.toArray w1 hb (by simp [lnL]; omega) (by intro u hu; exact one_lns [x] u (by simpa using hu))
    refine wpList_store_run hw hdst 68 xo yo _ _ hop hx hy aggLn sizLn e (h _ ?_ (fun j hj => setRow_other w1 g j _ hj) (below_setRow (Below.refl _ _) hg _))
    refine ⟨flat9_len _ |>.trans (by rw [List.length_set]), .inr ⟨g, cap, _, rfl, hg, setRow_heap w1 g _ _ 68 _ hb, hnc, hm, ?_, ?_⟩⟩
    · simp [lnL]; omega
    · simp only [Nat.add_zero, Array.toArray_toList]
      rw [← flat9_set l k x hk, ← htk]
      have hl9 : (lnL x).length = 9 := rfl
      have hcl : cur.toList.length = cap * 9 := by simpa using hc9
      exact take_put hl9 (by omega) (by omega)
end
end Go.Proofs.YthpnddgfgpacpaaGreat
/-
  Loads and stores of boxes of a bag: short forms. General. No condition.
-/
namespace Go.Proofs.YthpnddgfgpacpaaGreat
open Go.RowKit
set_option linter.unusedSimpArgs false
set_option linter.unusedVariables false
set_option maxHeartbeats 4000000
set_option maxRecDepth 100000
attribute [local irreducible] wpQuiet

section
variable {ops : Array Oper} {rest : List Oper} {o : Oper} {a : Act} {w w0 w1 : World} {Q : Exit → Act → World → Prop} {l : List (Nat × TypeId × List Value)} {b : Nat × TypeId × List Value} {B k n : Nat} {t T : TypeId} {cs ds : List Value} {v z : Value} {x y : Operand}
theorem ldc (hX : Bag l w0 w) (hagg : ∀ w, (isAgg T).run Tryz.prog w = .ok false w)
    (h : wpList Tryz.prog ops Q rest (a.put o.dst v) w) (hop : o.op = Op.load T x := by rfl) (hal : w1 = w := by rfl) (hx : a.eval x = .pointer (some ⟨B, k, none⟩) := by rfl) (hw : Region.wanted o (yielded ops a.tmps) = true := by rfl) (hm : (B, t, cs) ∈ l := by first | exact .head _ | exact .tail _ (.head _) | exact .tail _ (.tail _ (.head _))) (hk : cs[k]? = some v := by rfl) : wpList Tryz.prog ops Q (o :: rest) a w1 :=
  wpList_bag_cell hX hagg x hop hal hx hw hm hk h
theorem ldw (hX : Bag l w0 w) (hagg : ∀ w, (isAgg T).run Tryz.prog w = .ok true w) (hsz : ∀ w, (sizeOf T).run Tryz.prog w = .ok n w)
    (h : wpList Tryz.prog ops Q rest (a.put o.dst (.agg cs.toArray)) w) (hop : o.op = Op.load T x := by rfl) (hal : w1 = w := by rfl) (hx : a.eval x = .pointer (some ⟨B, 0, none⟩) := by rfl) (hw : Region.wanted o (yielded ops a.tmps) = true := by rfl) (hm : (B, t, cs) ∈ l := by first | exact .head _ | exact .tail _ (.head _) | exact .tail _ (.tail _ (.head _))) (hn : cs.length = n := by rfl) : wpList Tryz.prog ops Q (o :: rest) a w1 :=
  wpList_bag_part (k := 0) hX hagg hsz x hop hal hx hw hm (fun j v hz => by rw [Nat.zero_add]; exact hz) hn h
/-- A part at k. -/
theorem ldp (hX : Bag l w0 w) (hagg : ∀ w, (isAgg T).run Tryz.prog w = .ok true w) (hsz : ∀ w, (sizeOf T).run Tryz.prog w = .ok n w) (hc : ∀ j v, ds[j]? = some v → cs[k + j]? = some v) (hn : ds.length = n)
    (h : wpList Tryz.prog ops Q rest (a.put o.dst (.agg ds.toArray)) w) (hop : o.op = Op.load T x := by rfl) (hal : w1 = w := by rfl) (hx : a.eval x = .pointer (some ⟨B, k, none⟩) := by rfl) (hw : Region.wanted o (yielded ops a.tmps) = true := by rfl) (hm : (B, t, cs) ∈ l := by first | exact .head _ | exact .tail _ (.head _) | exact .tail _ (.tail _ (.head _))) : wpList Tryz.prog ops Q (o :: rest) a w1 :=
  wpList_bag_part hX hagg hsz x hop hal hx hw hm hc hn h
theorem stc (hX : Bag ((B, t, cs) :: l) w0 w) (hsz : ∀ w, (sizeOf T).run Tryz.prog w = .ok 1 w)
    (h : ∀ w2, Bag ((B, t, cs.set k z) :: l) w0 w2 → (∀ j, j ≠ B → w2.heap[j]? = w.heap[j]?) → wpList Tryz.prog ops Q rest a w2) (hop : o.op = Op.store T x y := by rfl) (hal : w1 = w := by rfl) (hx : a.eval x = .pointer (some ⟨B, k, none⟩) := by rfl) (hy : a.eval y = z := by rfl) (hdst : o.dst = none := by rfl) (hw : Region.wanted o (yielded ops a.tmps) = true := by rfl) (hk : k < cs.length := by simp) (hz : z.cells = #[z] := by rfl) (h1 : z.oneCell' = true := by rfl) : wpList Tryz.prog ops Q (o :: rest) a w1 :=
  wpList_bag_putV hX hsz x y hop hal hx hy hdst hw hk hz h1 fun w2 a b _ => h w2 a b
theorem stc2 (hX : Bag (b :: (B, t, cs) :: l) w0 w) (hsz : ∀ w, (sizeOf T).run Tryz.prog w = .ok 1 w)
    (h : ∀ w2, Bag (b :: (B, t, cs.set k z) :: l) w0 w2 → (∀ j, j ≠ B → w2.heap[j]? = w.heap[j]?) → wpList Tryz.prog ops Q rest a w2) (hop : o.op = Op.store T x y := by rfl) (hal : w1 = w := by rfl) (hx : a.eval x = .pointer (some ⟨B, k, none⟩) := by rfl) (hy : a.eval y = z := by rfl) (hdst : o.dst = none := by rfl) (hw : Region.wanted o (yielded ops a.tmps) = true := by rfl) (hk : k < cs.length := by simp) (hz : z.cells = #[z] := by rfl) (h1 : z.oneCell' = true := by rfl) : wpList Tryz.prog ops Q (o :: rest) a w1 :=
  wpList_bag_putV hX.swap hsz x y hop hal hx hy hdst hw hk hz h1 fun w2 a b _ => h w2 a.swap b
theorem stw (hX : Bag ((B, t, cs) :: l) w0 w) (hagg : ∀ w, (isAgg T).run Tryz.prog w = .ok true w) (hsz : ∀ w, (sizeOf T).run Tryz.prog w = .ok n w) (h1 : ∀ v ∈ ds, v.oneCell' = true)
    (h : ∀ w2, Bag ((B, t, ds) :: l) w0 w2 → (∀ j, j ≠ B → w2.heap[j]? = w.heap[j]?) → wpList Tryz.prog ops Q rest a w2) (hop : o.op = Op.store T x y := by rfl) (hal : w1 = w := by rfl) (hx : a.eval x = .pointer (some ⟨B, 0, none⟩) := by rfl) (hy : a.eval y = .agg ds.toArray := by rfl) (hdst : o.dst = none := by rfl) (hw : Region.wanted o (yielded ops a.tmps) = true := by rfl) (hn : ds.length = n := by rfl) (hc : cs.length = n := by rfl) : wpList Tryz.prog ops Q (o :: rest) a w1 :=
  wpList_bag_overV hX hagg hsz x y hop hal hx hy hdst hw hn hc h1 h
theorem stw2 (hX : Bag (b :: (B, t, cs) :: l) w0 w) (hagg : ∀ w, (isAgg T).run Tryz.prog w = .ok true w) (hsz : ∀ w, (sizeOf T).run Tryz.prog w = .ok n w) (h1 : ∀ v ∈ ds, v.oneCell' = true)
    (h : ∀ w2, Bag (b :: (B, t, ds) :: l) w0 w2 → (∀ j, j ≠ B → w2.heap[j]? = w.heap[j]?) → wpList Tryz.prog ops Q rest a w2) (hop : o.op = Op.store T x y := by rfl) (hal : w1 = w := by rfl) (hx : a.eval x = .pointer (some ⟨B, 0, none⟩) := by rfl) (hy : a.eval y = .agg ds.toArray := by rfl) (hdst : o.dst = none := by rfl) (hw : Region.wanted o (yielded ops a.tmps) = true := by rfl) (hn : ds.length = n := by rfl) (hc : cs.length = n := by rfl) : wpList Tryz.prog ops Q (o :: rest) a w1 :=
  wpList_bag_overV hX.swap hagg hsz x y hop hal hx hy hdst hw hn hc h1 fun w2 a b => h w2 a.swap b
/-- The same with what the cells are behind it. -/
theorem stk2 {cs' : List Value} (hX : Bag (b :: (B, t, cs) :: l) w0 w) (hsz : ∀ w, (sizeOf T).run Tryz.prog w = .ok 1 w) (he : cs.set k z = cs') (hk : k < cs.length) (h1 : z.oneCell' = true)
    (h : ∀ w2, Bag (b :: (B, t, cs') :: l) w0 w2 → (∀ j, j ≠ B → w2.heap[j]? = w.heap[j]?) → wpList Tryz.prog ops Q rest a w2) (hop : o.op = Op.store T x y := by rfl) (hal : w1 = w := by rfl) (hx : a.eval x = .pointer (some ⟨B, k, none⟩) := by rfl) (hy : a.eval y = z := by rfl) (hdst : o.dst = none := by rfl) (hw : Region.wanted o (yielded ops a.tmps) = true := by rfl) (hz : z.cells = #[z] := by rfl) : wpList Tryz.prog ops Q (o :: rest) a w1 :=
  stc2 hX hsz (fun w2 a b => h w2 (he ▸ a) b) hop hal hx hy hdst hw hk hz h1
theorem stp2 {cs' : List Value} (hX : Bag (b :: (B, t, cs) :: l) w0 w) (hagg : ∀ w, (isAgg T).run Tryz.prog w = .ok true w) (hsz : ∀ w, (sizeOf T).run Tryz.prog w = .ok n w) (he : cs.take k ++ ds ++ cs.drop (k + n) = cs') (hn : ds.length = n) (hk : k + n ≤ cs.length) (h1 : ∀ v ∈ ds, v.oneCell' = true)
    (h : ∀ w2, Bag (b :: (B, t, cs') :: l) w0 w2 → (∀ j, j ≠ B → w2.heap[j]? = w.heap[j]?) → wpList Tryz.prog ops Q rest a w2) (hop : o.op = Op.store T x y := by rfl) (hal : w1 = w := by rfl) (hx : a.eval x = .pointer (some ⟨B, k, none⟩) := by rfl) (hy : a.eval y = .agg ds.toArray := by rfl) (hdst : o.dst = none := by rfl) (hw : Region.wanted o (yielded ops a.tmps) = true := by rfl) : wpList Tryz.prog ops Q (o :: rest) a w1 := by
  subst hal he
  have hb := hX.swap.all _ _ _ List.mem_cons_self
  have e := run_storeCells_at Tryz.prog B k t ds 0 cs.toArray w1 hb (by simp; omega) h1
  have e2 : (cs.toArray.toList.take (k + 0) ++ ds ++ cs.toArray.toList.drop (k + 0 + ds.length)).toArray = (cs.take k ++ ds ++ cs.drop (k + n)).toArray := by rw [Nat.add_zero, hn]
  rw [e2] at e
  exact wpList_store_run hw hdst T x y _ _ hop hx hy hagg (by rw [hn]; exact hsz) e (h _ (hX.swap.over _).swap (fun j hj => setRow_other w1 B j _ hj))
/-- A box that has just been made is stored into. -/
theorem stn {zs : List Value} (hX : Bag l w0 w) (hagg : ∀ w, (isAgg T).run Tryz.prog w = .ok true w) (hsz : ∀ w, (sizeOf T).run Tryz.prog w = .ok n w) (h1 : ∀ v ∈ ds, v.oneCell' = true)
    (h : ∀ w2, Bag ((w.heap.size, t, ds) :: l) w0 w2 → Below w.heap.size w w2 → wpList Tryz.prog ops Q rest a w2) (hop : o.op = Op.store T x y := by rfl) (hal : w1 = w.alloc (.cells zs.toArray t) := by rfl) (hx : a.eval x = .pointer (some ⟨w.heap.size, 0, none⟩) := by rfl) (hy : a.eval y = .agg ds.toArray := by rfl) (hdst : o.dst = none := by rfl) (hw : Region.wanted o (yielded ops a.tmps) = true := by rfl) (hn : ds.length = n := by rfl) (hm : zs.length = n := by rfl) : wpList Tryz.prog ops Q (o :: rest) a w1 := by
  subst hal
  exact wpList_store_run hw hdst T x y _ _ hop hx hy hagg (by rw [hn]; exact hsz) (run_store_new w zs ds (by rw [hn, hm]) h1) (h _ (hX.new _ _) ((Below.refl _ _).alloc (Nat.le_refl _) _))
end
end Go.Proofs.YthpnddgfgpacpaaGreat
/-
  Rows of the call's own and boxes behind an operation that turns one block: told apart by their elements' types. General. No condition.
-/
namespace Go.Proofs.YthpnddgfgpacpaaGreat
open Go.RowKit
set_option linter.unusedSimpArgs false
set_option linter.unusedVariables false

theorem Bag.same {l : List (Nat × TypeId × List Value)} {w0 w w' : World} (h : Bag l w0 w) (hk : ∀ b ∈ l, w'.heap[b.1]? = w.heap[b.1]?) (hb : Below w0.heap.size w0 w') : Bag l w0 w' := ⟨fun B t cs hm => (hk _ hm).trans (h.all B t cs hm), hb, h.lo, h.dis⟩
theorem two_bag (w : World) (t1 t2 : TypeId) (cs ds : List Value) : Bag [(w.heap.size + 1, t2, ds), (w.heap.size, t1, cs)] w ((w.alloc (.cells cs.toArray t1)).alloc (.cells ds.toArray t2)) := by
  have h := ((Bag.nil w).new t1 cs).new t2 ds
  rw [show (w.alloc (.cells cs.toArray t1)).heap.size = w.heap.size + 1 from Array.size_push ..] at h
  exact h
theorem own_ofne {w w' : World} {base n s : Nat} {t : TypeId} {v : Value} {xs : List Value} (h : w.ownsRow base t s v n xs) (hk : ∀ (g : Nat) (cur : Array Value), w.heap[g]? = some (Obj.cells cur t (0, 0)) → w'.heap[g]? = w.heap[g]?) : w'.ownsRow base t s v n xs := by
  refine ⟨h.1, ?_⟩
  rcases h.2 with h0 | ⟨g, cap, cur, hv, hg, hh, r⟩
  · exact .inl h0
  · exact .inr ⟨g, cap, cur, hv, hg, (hk g cur hh).trans hh, r⟩
theorem own_over {l : List (Nat × TypeId × List Value)} {w0 w w' : World} {B base n s : Nat} {e t : TypeId} {v : Value} {xs cs : List Value} (hX : Bag ((B, t, cs) :: l) w0 w) (h : w.ownsRow base e s v n xs) (ht : t ≠ e) (hk : ∀ k, k ≠ B → w'.heap[k]? = w.heap[k]?) : w'.ownsRow base e s v n xs :=
  own_ofne h (fun g cur hh => hk g (fun e1 => by
    have h1 := hX.all _ _ _ (.head _)
    unfold Blk at h1
    rw [← e1, hh] at h1
    cases h1
    exact ht rfl))
end Go.Proofs.YthpnddgfgpacpaaGreat
