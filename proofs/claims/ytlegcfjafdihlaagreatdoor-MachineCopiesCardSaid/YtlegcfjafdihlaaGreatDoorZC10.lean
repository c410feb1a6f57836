import Derived.Test.YtlegcfjafdihlaaGreatDoorZC09
import Derived.Test.YtlegcfjafdihlaaGreatDoorZC01
import Derived.Deep.Draws
import Derived.Test.YtlegcfjafdihlaaGreatDoorZC05
import Derived.Test.YtlegcfjafdihlaaGreatDoorZC06
import Derived.Test.YtlegcfjafdihlaaGreatDoorZC04
import Derived.Test.YtlegcfjafdihlaaGreatDoorZC08
import Derived.Test.YtlegcfjafdihlaaGreatDoorZC07
/-
  Walks over the calls of package memory and of its reference that read a list of integers: a byte, an element searched, two lists compared, valid memories. Condition: lists have at most 2^40 elements; the searched list ascends.
-/
namespace Go.Proofs.YtlegcfjafdihlaaGreatDoor
open Go.RowKit
set_option linter.unusedSimpArgs false
set_option linter.unusedVariables false
set_option maxHeartbeats 1000000
attribute [local irreducible] wpQuiet

theorem same_lists (la lb : List Int) (va vb : Value) (hl : la.length ≤ 1099511627776) (w : World) (ha : Nums .i64 w va la) (hb : Nums .i64 w vb lb) :
    Calls Tryz.prog 87 #[va, vb] w fun e w' => e = .returned (.bool (decide (la = lb))) ∧ Below w.heap.size w w' := by
  obtain ⟨A, ca, rfl, _, hca⟩ := ha
  obtain ⟨B, cb, rfl, _, hcb⟩ := hb
  by_cases hL : la.length = lb.length
  · rw [← hL]
    go_enter Tryz.func87, Tryz.ntmps87
    go_wp2
    go_loopw [5] (fun i wr => ∃ k : Nat, k ≤ la.length ∧ i = .int .i64 k ∧ Below w.heap.size w wr ∧ Hid (∀ j, j < k → la[j]? = lb[j]?))
      (fun i _ => match i with | .int _ q => la.length - q.toNat | _ => 0)
    case atStart => exact ⟨0, Nat.zero_le _, rfl, Below.refl _ _, fun j h => by omega⟩
    case round =>
      obtain ⟨k, hk, rfl, hbr, hall⟩ := hrel
      by_cases hkl : k < la.length
      · have hx := List.getElem?_eq_getElem hkl
        have hy := List.getElem?_eq_getElem (show k < lb.length by omega)
        generalize la[k] = x at *
        generalize lb[k] = y at *
        obtain ⟨a, rfl, ha1, ha2⟩ := hca k x hx
        obtain ⟨b, rfl, hb1, hb2⟩ := hcb k y hy
        have hcx := (hbr.cell ha2).trans ha1
        have hcy := (hbr.cell hb2).trans hb1
        clear hca hcb ha1 hb1 ha2 hb2
        have b0 : (0 : Int) ≤ (k : Int) := by omega
        have b1 : (k : Int) < (la.length : Int) := by omega
        by_cases hxy : x = y
        · subst hxy
          have hx := hid hx
          have hy := hid hy
          go_wp2
          go_quiet (fail)
          go_wp2
          refine ⟨⟨k + 1, by omega, by go_num, drewN_below hbr nq, fun j hj => ?_⟩, ?_⟩
          · rcases Nat.lt_or_ge j k with h | h
            · exact hall j h
            · obtain rfl : j = k := by omega
              exact Eq.trans hx (Eq.symm hy)
          · simp only; omega
        · have hne : decide (la = lb) = false := decide_eq_false (fun h => by rw [h, hy] at hx; exact hxy (Option.some.inj hx).symm)
          have hxb : (x != y) = true := by simpa using hxy
          have hne2 := hid hne
          clear hne hx hy
          go_wp2
          go_quiet (fail)
          go_wp2
          go_ret
          exact ⟨ret_bool (Eq.symm hne2), drewN_below hbr nq⟩
      · have he : la = lb := by
          apply List.ext_getElem?
          intro j
          rcases Nat.lt_or_ge j la.length with h | h
          · exact hall j (by omega)
          · rw [List.getElem?_eq_none h, List.getElem?_eq_none (by omega)]
        clear hca hcb
        go_wp2
        go_ret
        exact ⟨ret_bool (by rw [decide_eq_true he]), hbr⟩
  · have hne : decide (la = lb) = false := decide_eq_false (fun h => hL (by rw [h]))
    have hLi : ((la.length : Int) != (lb.length : Int)) = true := by simp; omega
    rw [hne]
    clear hne hca hcb
    go_enter Tryz.func87, Tryz.ntmps87
    go_wp2
    go_ret
    exact ⟨rfl, Below.refl _ _⟩
end Go.Proofs.YtlegcfjafdihlaaGreatDoor
/-
  Rows of lines; Right of the reference. Conditions: at most 2^40 elements in each list.
-/
namespace Go.Proofs.YtlegcfjafdihlaaGreatDoor
open Go.RowKit
set_option linter.unusedSimpArgs false
set_option linter.unusedVariables false
set_option maxHeartbeats 4000000
set_option maxRecDepth 100000
attribute [local irreducible] wpQuiet

theorem flatM_get {α : Type} {g : α → List Value} {s : Nat} (hs : ∀ x, (g x).length = s) : ∀ (l : List α) (k : Nat) (x : α), l[k]? = some x → ∀ j v, (g x)[j]? = some v → (l.flatMap g)[k * s + j]? = some v
  | [], k, x, h, _, _, _ => by simp at h
  | y :: r, 0, x, h, j, v, hv => by
    obtain rfl : y = x := by simpa using h
    rw [List.flatMap_cons, Nat.zero_mul, Nat.zero_add, List.getElem?_append_left (List.getElem?_eq_some_iff.1 hv).1]
    exact hv
  | y :: r, k + 1, x, h, j, v, hv => by
    rw [List.flatMap_cons, List.getElem?_append_right (by rw [hs, Nat.succ_mul]; omega), hs, show (k + 1) * s + j - s = k * s + j by rw [Nat.succ_mul]; omega]
    exact flatM_get hs r k x (by simpa using h) j v hv
theorem Its.nums18 {w : World} {v : Value} {l : List Int} (h : Its w v l) : Nums .i64 w v l := by
  obtain ⟨⟨A, c, rfl, hk, hc⟩, _⟩ := h
  refine ⟨A, c, rfl, hk, fun j x hx => ?_⟩
  obtain ⟨a, ha, h1, h2⟩ := hc j (.int .i64 x) (by rw [List.getElem?_map, hx]; rfl)
  exact ⟨a, ha, h1, by have := World.block_lt_of_cell? w _ h1; exact this⟩
theorem aggLn (w : World) : (isAgg 83).run Tryz.prog w = .ok true w := by kernel_rfl
theorem sizLn (w : World) : (sizeOf 83).run Tryz.prog w = .ok 9 w := by kernel_rfl
theorem slL_cell (w : World) : (isAgg 40).run Tryz.prog w = .ok false w := by kernel_rfl
theorem lns_form {w : World} {v : Value} {l : List Ln} (h : Lns w v l) : ∃ A c, v = .slice A l.length c ∧ l.length ≤ c ∧ ∀ (k : Nat) x, l[k]? = some x → ∃ a, A = some a ∧ ∀ w', Below w.heap.size w w' → (Instr.loadAt 83 (.pointer (some (a.add (k * 9))))).run Tryz.prog w' = .ok (.agg (lnL x).toArray) w' := by
  have h0 := h.1
  obtain ⟨A, c, rfl, hk, hc⟩ := h.1
  refine ⟨A, c, rfl, hk, fun k x hx => ?_⟩
  have hg := fun j v hv => flatM_get (g := lnL) (s := 9) (fun _ => rfl) l k x hx j v hv
  obtain ⟨a, rfl, _⟩ := hc (k * 9 + 0) _ (hg 0 _ rfl)
  exact ⟨a, rfl, fun w' hb => Rw.loadAt (k := k) (s := 9) (Rw.below h0 hb) (fun j v hv => hg j v hv) rfl aggLn sizLn⟩
/-- What lies behind the words of a machine. -/
structure MaNow (w : World) (A : Ma) (vm vb vl vs vd vt : Value) : Prop where
  m : Its w vm A.M
  b : Its w vb A.B
  l : Lns w vl A.L
  s : Sts w vs A.K.D.S
  d : Its w vd A.K.D.B
  t : Sts w vt A.T.R
theorem MaNow.step {w w' : World} {A : Ma} {vm vb vl vs vd vt : Value} (h : MaNow w A vm vb vl vs vd vt) (hb : Below w.heap.size w w') : MaNow w' A vm vb vl vs vd vt := ⟨Rz.below h.m hb, Rz.below h.b hb, Rz.below h.l hb, Rz.below h.s hb, Rz.below h.d hb, Rz.below h.t hb⟩
def Ma.few (A : Ma) : Prop := A.M.length ≤ 1099511627776 ∧ A.B.length ≤ 1099511627776 ∧ A.K.D.S.length ≤ 1099511627776 ∧ A.K.D.B.length ≤ 1099511627776 ∧ A.T.R.length ≤ 1099511627776
end Go.Proofs.YtlegcfjafdihlaaGreatDoor
/-
  Physical, isLine, low of the reference; a copy of a row of lines. Conditions: at most 2^40 lines.
-/
namespace Go.Proofs.YtlegcfjafdihlaaGreatDoor
open Go.RowKit
set_option linter.unusedSimpArgs false
set_option linter.unusedVariables false
set_option maxHeartbeats 4000000
set_option maxRecDepth 100000
attribute [local irreducible] wpQuiet

theorem infLn : (Tryz.prog.info? 83).map (fun i => (i.zero, i.size, i.bytes)) = some (some (.agg (lnL ⟨false, false, false, 0, false, false, 0, 0, ⟨#[]⟩⟩).toArray), 9, 56) := by kernel_rfl
theorem infLn_parts : ∃ i : TypeInfo, Tryz.prog.info? 83 = some i ∧ i.zero = some (.agg (lnL ⟨false, false, false, 0, false, false, 0, 0, ⟨#[]⟩⟩).toArray) ∧ i.size = 9 ∧ i.bytes = 56 := by
  have h := infLn
  cases hi : Tryz.prog.info? 83 with
  | none => rw [hi] at h; cases h
  | some i =>
    rw [hi] at h
    simp only [Option.map_some, Option.some.injEq, Prod.mk.injEq] at h
    exact ⟨i, rfl, h.1, h.2.1, h.2.2⟩
theorem own_emptyS (w : World) (t : TypeId) (s : Nat) : (w.alloc (.cells #[] t)).ownsRow w.heap.size t s (.slice (some ⟨w.heap.size, 0, none⟩) 0 0) 0 [] :=
  ⟨(Nat.zero_mul s).symm, .inr ⟨w.heap.size, 0, #[], rfl, Nat.le_refl _, heap_alloc_new w _, Nat.le_refl _, Nat.zero_le _, (Nat.zero_mul s).symm, by rw [Nat.zero_mul]; rfl⟩⟩
theorem flat9_len (l : List Ln) : (l.flatMap lnL).length = l.length * 9 := by
  induction l with
  | nil => rfl
  | cons x r ih => rw [List.flatMap_cons, List.length_append, ih, List.length_cons]; show 9 + _ = _; omega
theorem one_lns (l : List Ln) : ∀ u ∈ l.flatMap lnL, u.oneCell' = true := by
  intro u hu
  obtain ⟨x, _, hx⟩ := List.mem_flatMap.1 hu
  simp only [lnL, List.mem_cons, List.not_mem_nil, or_false] at hx
  rcases hx with rfl | rfl | rfl | rfl | rfl | rfl | rfl | rfl | rfl <;> rfl
theorem wpList_appLn {w : World} {ops : Array Oper} {rest : List Oper} {o : Oper} {a : Act} {Q : Exit → Act → World → Prop} (hgd : o.guard = none) (s x : Operand)
    (ho : o.op = .call { callee := .builtin .append, args := #[s, x], argTypes := #[40, 40] }) (N : Nat) (v : Value) (n : Nat) (xs : List Value) (hs : a.eval s = v) (hown : w.ownsRow N 83 9 v n xs)
    (ad : Addr) (m c : Nat) (news : List Value) (hx : a.eval x = .slice (some ad) m c) (hl : news.length = m * 9) (hnews : ∀ j u, news[j]? = some u → w.cell? (ad.add j) = some u) (h1 : ∀ u ∈ news, u.oneCell' = true)
    (hb : n + m ≤ 1099511627776) (hN : N ≤ w.heap.size)
    (h : ∀ v' w', w'.ownsRow N 83 9 v' (n + m) (xs ++ news) → Below N w w' → wpList Tryz.prog ops Q rest (a.put o.dst v') w') : wpList Tryz.prog ops Q (o :: rest) a w := by
  obtain ⟨i, hi, hz, hsz, hby⟩ := infLn_parts
  refine wpList_append_own _ hgd s x 40 ho N 83 i (.agg (lnL ⟨false, false, false, 0, false, false, 0, 0, ⟨#[]⟩⟩).toArray) 9 56 Tryz.underlying40 hi hz hsz hby rfl (by decide) v n xs hs hown ad m c news hx hl hnews h1 (by unfold maxLen; omega) (by omega) hN ?_
  intro v' w' ho' hg _
  exact h v' w' ho' ((Below.refl N w).grown hg hN (fun j hj => (World.ownsRow.lt hown j hj).1))
/-- A row is appended to a new empty one: a copy of the call's own. -/
theorem wpList_cpLn {w w0 : World} {ops : Array Oper} {rest : List Oper} {o : Oper} {a : Act} {Q : Exit → Act → World → Prop} (hgd : o.guard = none) (s x : Operand) (ho : o.op = .call { callee := .builtin .append, args := #[s, x], argTypes := #[40, 40] }) (hw : w = w0.alloc (.cells #[] 83)) (hs : a.eval s = .slice (some ⟨w0.heap.size, 0, none⟩) 0 0) (v : Value) (l : List Ln) (hx : a.eval x = v) (hv : Lns w0 v l) (hl : l.length ≤ 1099511627776)
    (h : ∀ v' w', w'.ownsRow w0.heap.size 83 9 v' l.length (l.flatMap lnL) → Below w0.heap.size w0 w' → wpList Tryz.prog ops Q rest (a.put o.dst v') w') : wpList Tryz.prog ops Q (o :: rest) a w := by
  subst hw
  have hb0 : Below w0.heap.size w0 (w0.alloc (.cells #[] 83)) := (Below.refl _ _).alloc (Nat.le_refl _) _
  rcases Rz.form hv with ⟨rfl, h1, _⟩ | ⟨ad, c, rfl, _⟩
  · obtain rfl : l = [] := List.eq_nil_of_length_eq_zero h1
    obtain ⟨i, hi, hz, hsz, hby⟩ := infLn_parts
    exact wpList_append_own_none hgd s x 40 ho w0.heap.size 83 i 9 Tryz.underlying40 hi _ 0 [] hs (own_emptyS w0 83 9) hx (h _ _ (own_emptyS w0 83 9) hb0)
  · refine wpList_appLn hgd s x ho w0.heap.size _ 0 [] hs (own_emptyS w0 83 9) ad l.length c (l.flatMap lnL) hx (flat9_len l) (fun jz u hu => Rz.cell (Rz.below hv hb0) jz u hu) (one_lns l) (by omega) (by simp) fun v' w' ho' hb' => ?_
    rw [Nat.zero_add, List.nil_append] at ho'
    exact h v' w' ho' (hb0.trans hb')
end Go.Proofs.YtlegcfjafdihlaaGreatDoor
/-
  Loads and stores of boxes of a bag: short forms. General. No condition.
-/
namespace Go.Proofs.YtlegcfjafdihlaaGreatDoor
open Go.RowKit
set_option linter.unusedSimpArgs false
set_option linter.unusedVariables false
set_option maxHeartbeats 4000000
set_option maxRecDepth 100000
attribute [local irreducible] wpQuiet

section
variable {ops : Array Oper} {rest : List Oper} {o : Oper} {a : Act} {w w0 w1 : World} {Q : Exit → Act → World → Prop} {l : List (Nat × TypeId × List Value)} {b : Nat × TypeId × List Value} {B k n : Nat} {t T : TypeId} {cs ds : List Value} {v z : Value} {x y : Operand}
theorem ldc (hX : Bag l w0 w) (hagg : ∀ w, (isAgg T).run Tryz.prog w = .ok false w)
    (h : wpList Tryz.prog ops Q rest (a.put o.dst v) w) (hop : o.op = Op.load T x := by rfl) (hal : w1 = w := by rfl) (hx : a.eval x = .pointer (some ⟨B, k, none⟩) := by rfl) (hw : Region.wanted o (yielded ops a.tmps) = true := by rfl) (hm : (B, t, cs) ∈ l := by first | exact .head _ | exact .tail _ (.head _) | exact .tail _ (.tail _ (.head _))) (hk : cs[k]? = some v := by rfl) : wpList Tryz.prog ops Q (o :: rest) a w1 :=
  wpList_bag_cell hX hagg x hop hal hx hw hm hk h
theorem ldw (hX : Bag l w0 w) (hagg : ∀ w, (isAgg T).run Tryz.prog w = .ok true w) (hsz : ∀ w, (sizeOf T).run Tryz.prog w = .ok n w)
    (h : wpList Tryz.prog ops Q rest (a.put o.dst (.agg cs.toArray)) w) (hop : o.op = Op.load T x := by rfl) (hal : w1 = w := by rfl) (hx : a.eval x = .pointer (some ⟨B, 0, none⟩) := by rfl) (hw : Region.wanted o (yielded ops a.tmps) = true := by rfl) (hm : (B, t, cs) ∈ l := by first | exact .head _ | exact .tail _ (.head _) | exact .tail _ (.tail _ (.head _))) (hn : cs.length = n := by rfl) : wpList Tryz.prog ops Q (o :: rest) a w1 :=
  wpList_bag_part (k := 0) hX hagg hsz x hop hal hx hw hm (fun j v hz => by rw [Nat.zero_add]; exact hz) hn h
theorem stc (hX : Bag ((B, t, cs) :: l) w0 w) (hsz : ∀ w, (sizeOf T).run Tryz.prog w = .ok 1 w)
    (h : ∀ w2, Bag ((B, t, cs.set k z) :: l) w0 w2 → (∀ j, j ≠ B → w2.heap[j]? = w.heap[j]?) → wpList Tryz.prog ops Q rest a w2) (hop : o.op = Op.store T x y := by rfl) (hal : w1 = w := by rfl) (hx : a.eval x = .pointer (some ⟨B, k, none⟩) := by rfl) (hy : a.eval y = z := by rfl) (hdst : o.dst = none := by rfl) (hw : Region.wanted o (yielded ops a.tmps) = true := by rfl) (hk : k < cs.length := by simp) (hz : z.cells = #[z] := by rfl) (h1 : z.oneCell' = true := by rfl) : wpList Tryz.prog ops Q (o :: rest) a w1 :=
  wpList_bag_putV hX hsz x y hop hal hx hy hdst hw hk hz h1 fun w2 a b _ => h w2 a b
theorem stw2 (hX : Bag (b :: (B, t, cs) :: l) w0 w) (hagg : ∀ w, (isAgg T).run Tryz.prog w = .ok true w) (hsz : ∀ w, (sizeOf T).run Tryz.prog w = .ok n w) (h1 : ∀ v ∈ ds, v.oneCell' = true)
    (h : ∀ w2, Bag (b :: (B, t, ds) :: l) w0 w2 → (∀ j, j ≠ B → w2.heap[j]? = w.heap[j]?) → wpList Tryz.prog ops Q rest a w2) (hop : o.op = Op.store T x y := by rfl) (hal : w1 = w := by rfl) (hx : a.eval x = .pointer (some ⟨B, 0, none⟩) := by rfl) (hy : a.eval y = .agg ds.toArray := by rfl) (hdst : o.dst = none := by rfl) (hw : Region.wanted o (yielded ops a.tmps) = true := by rfl) (hn : ds.length = n := by rfl) (hc : cs.length = n := by rfl) : wpList Tryz.prog ops Q (o :: rest) a w1 :=
  wpList_bag_overV hX.swap hagg hsz x y hop hal hx hy hdst hw hn hc h1 fun w2 a b => h w2 a.swap b
/-- A box that has just been made is stored into. -/
theorem stn {zs : List Value} (hX : Bag l w0 w) (hagg : ∀ w, (isAgg T).run Tryz.prog w = .ok true w) (hsz : ∀ w, (sizeOf T).run Tryz.prog w = .ok n w) (h1 : ∀ v ∈ ds, v.oneCell' = true)
    (h : ∀ w2, Bag ((w.heap.size, t, ds) :: l) w0 w2 → Below w.heap.size w w2 → wpList Tryz.prog ops Q rest a w2) (hop : o.op = Op.store T x y := by rfl) (hal : w1 = w.alloc (.cells zs.toArray t) := by rfl) (hx : a.eval x = .pointer (some ⟨w.heap.size, 0, none⟩) := by rfl) (hy : a.eval y = .agg ds.toArray := by rfl) (hdst : o.dst = none := by rfl) (hw : Region.wanted o (yielded ops a.tmps) = true := by rfl) (hn : ds.length = n := by rfl) (hm : zs.length = n := by rfl) : wpList Tryz.prog ops Q (o :: rest) a w1 := by
  subst hal
  exact wpList_store_run hw hdst T x y _ _ hop hx hy hagg (by rw [hn]; exact hsz) (run_store_new w zs ds (by rw [hn, hm]) h1) (h _ (hX.new _ _) ((Below.refl _ _).alloc (Nat.le_refl _) _))
end
end Go.Proofs.YtlegcfjafdihlaaGreatDoor
/-
  Rows of the call's own and boxes behind an operation that turns one block: told apart by their elements' types. General. No condition.
-/
namespace Go.Proofs.YtlegcfjafdihlaaGreatDoor
open Go.RowKit
set_option linter.unusedSimpArgs false
set_option linter.unusedVariables false

theorem Bag.same {l : List (Nat × TypeId × List Value)} {w0 w w' : World} (h : Bag l w0 w) (hk : ∀ b ∈ l, w'.heap[b.1]? = w.heap[b.1]?) (hb : Below w0.heap.size w0 w') : Bag l w0 w' := ⟨fun B t cs hm => (hk _ hm).trans (h.all B t cs hm), hb, h.lo, h.dis⟩
theorem two_bag (w : World) (t1 t2 : TypeId) (cs ds : List Value) : Bag [(w.heap.size + 1, t2, ds), (w.heap.size, t1, cs)] w ((w.alloc (.cells cs.toArray t1)).alloc (.cells ds.toArray t2)) := by
  have h := ((Bag.nil w).new t1 cs).new t2 ds
  rw [show (w.alloc (.cells cs.toArray t1)).heap.size = w.heap.size + 1 from Array.size_push ..] at h
  exact h
theorem own_ofne {w w' : World} {base n s : Nat} {t : TypeId} {v : Value} {xs : List Value} (h : w.ownsRow base t s v n xs) (hk : ∀ (g : Nat) (cur : Array Value), w.heap[g]? = some (Obj.cells cur t (0, 0)) → w'.heap[g]? = w.heap[g]?) : w'.ownsRow base t s v n xs := by
  refine ⟨h.1, ?_⟩
  rcases h.2 with h0 | ⟨g, cap, cur, hv, hg, hh, r⟩
  · exact .inl h0
  · exact .inr ⟨g, cap, cur, hv, hg, (hk g cur hh).trans hh, r⟩
theorem own_over {l : List (Nat × TypeId × List Value)} {w0 w w' : World} {B base n s : Nat} {e t : TypeId} {v : Value} {xs cs : List Value} (hX : Bag ((B, t, cs) :: l) w0 w) (h : w.ownsRow base e s v n xs) (ht : t ≠ e) (hk : ∀ k, k ≠ B → w'.heap[k]? = w.heap[k]?) : w'.ownsRow base e s v n xs :=
  own_ofne h (fun g cur hh => hk g (fun e1 => by
    have h1 := hX.all _ _ _ (.head _)
    unfold Blk at h1
    rw [← e1, hh] at h1
    cases h1
    exact ht rfl))
end Go.Proofs.YtlegcfjafdihlaaGreatDoor
