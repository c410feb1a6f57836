/-
  SameRequests and Requests of the reference of package line. Condition: at most 2^40 requests.
-/
import Derived.Test.YtbbaflepnjglnaaLnD
namespace Go.Proofs.Ytbbaflepnjglnaa
open Go.RowKit
set_option linter.unusedSimpArgs false
set_option linter.unusedVariables false
set_option maxHeartbeats 4000000
set_option maxRecDepth 100000
attribute [local irreducible] wpQuiet

theorem take_eq_of {α : Type} {a b : List α} (h : a.length = b.length) (h2 : a.take a.length = b.take a.length) : a = b := by
  rw [List.take_length, h, List.take_length] at h2; exact h2
theorem take_snoc {α : Type} {a : List α} {k : Nat} {x : α} (h : a[k]? = some x) : a.take (k + 1) = a.take k ++ [x] := by
  have hk : k < a.length := (List.getElem?_eq_some_iff.1 h).1
  rw [List.take_succ_eq_append_getElem hk, (List.getElem?_eq_some_iff.1 h).2]
theorem rsameL_any (u v : Value) (a b : List Rq) (ha : a.length ≤ 1099511627776) (hb : b.length ≤ 1099511627776) (w : World) (hu : Rqs w u a) (hv : Rqs w v b) :
    Calls Try.prog 25 #[u, v] w fun e w' => e = .returned (.bool (decide (a = b))) ∧ Below w.heap.size w w' := by
  have hu0 := hu
  have hv0 := hv
  obtain ⟨A, c, rfl, _, hc⟩ := hu
  obtain ⟨B, d, rfl, _, hd⟩ := hv
  by_cases hl : a.length = b.length
  · have hlb : ((a.length : Int) != (b.length : Int)) = false := by rw [hl]; simp
    replace hl := hid hl
    go_enter Try.func25, Try.ntmps25
    go_wp2
    go_loopw [5] (fun i wr => ∃ k : Nat, k ≤ a.length ∧ i = .int .i64 k ∧ Hid (a.take k = b.take k) ∧ Below w.heap.size w wr) (fun i _ => match i with | .int _ q => a.length - q.toNat | _ => 0)
    case atStart => exact ⟨0, Nat.zero_le _, rfl, rfl, Below.refl _ _⟩
    case round =>
      obtain ⟨k, hk, rfl, hP, hB⟩ := hrel
      by_cases hka : k < a.length
      · have hx := List.getElem?_eq_getElem hka
        have hy := List.getElem?_eq_getElem (show k < b.length by have := (show a.length = b.length from hl); omega)
        have hkb : k < b.length := by have := (show a.length = b.length from hl); omega
        generalize a[k] = x at *
        generalize b[k] = y at *
        obtain ⟨ad, rfl, _⟩ := hc (k * 2) (.int .i64 x.1) (flat_get hx 0 _ rfl)
        obtain ⟨bd, rfl, _⟩ := hd (k * 2) (.int .i64 y.1) (flat_get hy 0 _ rfl)
        have hX1 : ∀ w', Below w.heap.size w w' → (Instr.loadAt 45 (.pointer (some (ad.add (k * 2))))).run Try.prog w' = .ok (.agg #[.int .i64 x.1, .int .i64 x.2]) w' := fun w' h => Rqs.load (Rw.below hu0 h) rfl hx
        have hY1 : ∀ w', Below w.heap.size w w' → (Instr.loadAt 45 (.pointer (some (bd.add (k * 2))))).run Try.prog w' = .ok (.agg #[.int .i64 y.1, .int .i64 y.2]) w' := fun w' h => Rqs.load (Rw.below hv0 h) rfl hy
        clear hc hd hu0 hv0
        obtain ⟨p, m⟩ := x
        obtain ⟨q, n⟩ := y
        simp only at hX1 hY1
        by_cases hpq : p = q
        · subst hpq
          by_cases hmn : m = n
          · subst hmn
            have hP2 : Hid (a.take (k + 1) = b.take (k + 1)) := by show _ = _; rw [take_snoc hx, take_snoc hy, show a.take k = b.take k from hP]
            clear hx hy
            go_wp2
            refine region_class (fun wz => Below w.heap.size w wz) (by kernel_rfl) (by kernel_rfl) hB.drew ?_
            repeat
              first
                | (refine BigFrame.wpQuiet_skip (by rfl) ?_
                   simp only [Act.put, List.setIfInBounds_toArray, List.set_cons_zero, List.set_cons_succ])
                | (refine BigFrame.wpQuiet_want (by rfl) (fun K hK => ?_)
                   apply Exists.intro
                   refine ⟨fun wq hq => ?_, hK _ ?_⟩
                   · first
                       | (refine quiet_load 45 _ _ _ rfl rfl (hX1 _ hq))
                       | (refine quiet_load 45 _ _ _ rfl rfl (hY1 _ hq))
                       | (unfold Oper.quietAt
                          go_simp
                          first
                            | with_reducible rfl
                         )
                   clear hK K
                   simp only [Act.put, List.setIfInBounds_toArray, List.set_cons_zero, List.set_cons_succ])
            refine wpQuiet_nil ?_
            intro w4 hB4
            go_wp2
            exact ⟨⟨k + 1, by omega, by go_num, hP2, hB4⟩, by simp only; omega⟩
          · have hne : Hid (decide (a = b) = false) := by
              show _ = _
              rw [decide_eq_false_iff_not]; intro h; rw [h, hy] at hx; simp at hx; exact hmn hx.symm
            clear hx hy
            go_wp2
            refine region_class (fun wz => Below w.heap.size w wz) (by kernel_rfl) (by kernel_rfl) hB.drew ?_
            repeat
              first
                | (refine BigFrame.wpQuiet_skip (by rfl) ?_
                   simp only [Act.put, List.setIfInBounds_toArray, List.set_cons_zero, List.set_cons_succ])
                | (refine BigFrame.wpQuiet_want (by rfl) (fun K hK => ?_)
                   apply Exists.intro
                   refine ⟨fun wq hq => ?_, hK _ ?_⟩
                   · first
                       | (refine quiet_load 45 _ _ _ rfl rfl (hX1 _ hq))
                       | (refine quiet_load 45 _ _ _ rfl rfl (hY1 _ hq))
                       | (unfold Oper.quietAt
                          go_simp
                          first
                            | with_reducible rfl
                         )
                   clear hK K
                   simp only [Act.put, List.setIfInBounds_toArray, List.set_cons_zero, List.set_cons_succ])
            refine wpQuiet_nil ?_
            intro w4 hB4
            go_wp2
            go_ret
            exact ⟨by rw [show decide (a = b) = false from hne]; rfl, hB4⟩
        · have hne : Hid (decide (a = b) = false) := by
            show _ = _
            rw [decide_eq_false_iff_not]; intro h; rw [h, hy] at hx; simp at hx; exact hpq hx.1.symm
          clear hx hy
          go_wp2
          refine region_class (fun wz => Below w.heap.size w wz) (by kernel_rfl) (by kernel_rfl) hB.drew ?_
          repeat
            first
              | (refine BigFrame.wpQuiet_skip (by rfl) ?_
                 simp only [Act.put, List.setIfInBounds_toArray, List.set_cons_zero, List.set_cons_succ])
              | (refine BigFrame.wpQuiet_want (by rfl) (fun K hK => ?_)
                 apply Exists.intro
                 refine ⟨fun wq hq => ?_, hK _ ?_⟩
                 · first
                     | (refine quiet_load 45 _ _ _ rfl rfl (hX1 _ hq))
                     | (refine quiet_load 45 _ _ _ rfl rfl (hY1 _ hq))
                     | (unfold Oper.quietAt
                        go_simp
                        first
                          | with_reducible rfl
                       )
                 clear hK K
                 simp only [Act.put, List.setIfInBounds_toArray, List.set_cons_zero, List.set_cons_succ])
          refine wpQuiet_nil ?_
          intro w4 hB4
          go_wp2
          go_ret
          exact ⟨by rw [show decide (a = b) = false from hne]; rfl, hB4⟩
      · have hkn : k = a.length := by omega
        have hab : Hid (decide (a = b) = true) := by
          show _ = _
          rw [decide_eq_true_iff]
          refine take_eq_of (show a.length = b.length from hl) ?_
          rw [← hkn]; exact hP
        subst hkn
        clear hc hd hu0 hv0 hP
        go_wp2
        go_ret
        exact ⟨by rw [show decide (a = b) = true from hab]; rfl, hB⟩
  · have hn : ¬ (a.length : Int) = (b.length : Int) := by omega
    have hn2 : ((a.length : Int) != (b.length : Int)) = true := by simpa using hn
    have hne : Hid (decide (a = b) = false) := by
      show _ = _
      rw [decide_eq_false_iff_not]; intro h; exact hl (by rw [h])
    clear hc hd hu0 hv0 hl
    go_enter Try.func25, Try.ntmps25
    go_wp2
    go_ret
    exact ⟨by rw [show decide (a = b) = false from hne]; rfl, Below.refl _ _⟩

theorem old_cell {w : World} {o : Obj} {cs : List Value} {t : TypeId} {k : Nat} {v : Value} (hk : cs[k]? = some v) : ((w.alloc (.cells cs.toArray t)).alloc o).cell? ⟨w.heap.size, k, none⟩ = some v :=
  ((Blk.new t w cs).alloc o).cell hk
theorem cells_two_new2 (w : World) (o : Obj) (x y : Value) (t : TypeId) : ∀ j u, [x, y][j]? = some u → ((w.alloc o).alloc (.cells #[x, y] t)).cell? ((⟨w.heap.size + 1, 0, none⟩ : Addr).add j) = some u := by
  intro j u h
  have := cells_two_new (w.alloc o) x y t j u h
  rw [show (w.alloc o).heap.size = w.heap.size + 1 from Array.size_push ..] at this
  exact this
theorem rreqL_out (a b o : Bool) (d : Int) (e f : Bool) (t l : Int) (s : ByteArray) (n : Int) (h : ¬ (0 ≤ n ∧ n < 4)) (w : World) : Calls Try.prog 27 #[.agg #[.bool a, .bool b, .bool o, .int .i64 d, .bool e, .bool f, .int .i64 t, .int .i64 l, .string s], .int .i64 n] w fun e' w' => ∃ v, e' = .returned v ∧ Rqs w' v [] ∧ Below w.heap.size w w' := by
  by_cases h0 : n < 0
  · have d0 : decide (n < 0) = true := decide_eq_true h0
    go_enter Try.func27, Try.ntmps27
    go_wp2
    go_ret
    exact ⟨_, rfl, Rw.nil _, ((Bag.nil w).new 23 _).below⟩
  · have d0 : decide (n < 0) = false := decide_eq_false h0
    have d1 : decide (4 ≤ n) = true := decide_eq_true (by omega)
    go_enter Try.func27, Try.ntmps27
    go_wp2
    go_ret
    exact ⟨_, rfl, Rw.nil _, ((Bag.nil w).new 23 _).below⟩
theorem rreqL_00 (a b o : Bool) (d : Int) (e f : Bool) (t l : Int) (s : ByteArray) (n : Int) (hn : 0 ≤ n ∧ n < 4) (hr : ¬ (a = true ∧ b = true)) (ht : ¬ (e = true ∧ f = true)) (w : World) : Calls Try.prog 27 #[.agg #[.bool a, .bool b, .bool o, .int .i64 d, .bool e, .bool f, .int .i64 t, .int .i64 l, .string s], .int .i64 n] w fun e' w' => ∃ v, e' = .returned v ∧ Rqs w' v [] ∧ Below w.heap.size w w' := by
  have d0 : decide (n < 0) = false := decide_eq_false (by omega)
  have d1 : decide (4 ≤ n) = false := decide_eq_false (by omega)
  have w8 : wrap64 (8 * n) = 8 * n := by unfold wrap64; omega
  have w1 : wrap64 (128 + 8 * n) = 128 + 8 * n := by unfold wrap64; omega
  have w2 : wrap64 (132 + 8 * n) = 132 + 8 * n := by unfold wrap64; omega
  cases a <;> cases b <;> cases e <;> cases f
  all_goals first | (exfalso; exact hr ⟨rfl, rfl⟩) | (exfalso; exact ht ⟨rfl, rfl⟩) | skip
  all_goals
    go_enter Try.func27, Try.ntmps27
    go_wp2
    go_ret
    exact ⟨_, rfl, Rw.nil _, ((Bag.nil w).new 23 _).below⟩
theorem rreqL_01 (a b o : Bool) (d : Int) (e f : Bool) (t l : Int) (s : ByteArray) (n : Int) (hn : 0 ≤ n ∧ n < 4) (hr : ¬ (a = true ∧ b = true)) (ht : e = true ∧ f = true) (w : World) : Calls Try.prog 27 #[.agg #[.bool a, .bool b, .bool o, .int .i64 d, .bool e, .bool f, .int .i64 t, .int .i64 l, .string s], .int .i64 n] w fun e' w' => ∃ v, e' = .returned v ∧ Rqs w' v [(4, 132 + 8 * n)] ∧ Below w.heap.size w w' := by
  have d0 : decide (n < 0) = false := decide_eq_false (by omega)
  have d1 : decide (4 ≤ n) = false := decide_eq_false (by omega)
  have w8 : wrap64 (8 * n) = 8 * n := by unfold wrap64; omega
  have w1 : wrap64 (128 + 8 * n) = 128 + 8 * n := by unfold wrap64; omega
  have w2 : wrap64 (132 + 8 * n) = 132 + 8 * n := by unfold wrap64; omega
  obtain ⟨rfl, rfl⟩ := ht
  cases a <;> cases b
  all_goals first | (exfalso; exact hr ⟨rfl, rfl⟩) | skip
  all_goals
    go_enter Try.func27, Try.ntmps27
    go_wp2_with (first | (at_builtin; refine wpList_appQ rfl (.tmp 32) (.tmp 37) rfl (w.heap.size + 1) (.slice none 0 0) 0 [] rfl (World.ownsRow_nil _ _ _ _) ⟨w.heap.size + 1, 0, none⟩ 1 1 [.int .i64 4, .int .i64 (132 + 8 * n)] rfl rfl (cells_two_new2 _ _ _ _ _) (flat_one [(4, (132 + 8 * n))]) (by omega) (by simp <;> omega) ?_; intro v1 w1 ho1 hb1 _))
    go_ret
    exact ⟨_, rfl, (Rw.of_own ho1 : Rw _ _ _ (flat [(4, 132 + 8 * n)])), ((((Bag.nil w).new 23 _).new 45 _).below).trans (hb1.mono (Nat.le_succ _))⟩
theorem rreqL_10 (a b o : Bool) (d : Int) (e f : Bool) (t l : Int) (s : ByteArray) (n : Int) (hn : 0 ≤ n ∧ n < 4) (hr : a = true ∧ b = true) (ht : ¬ (e = true ∧ f = true)) (w : World) : Calls Try.prog 27 #[.agg #[.bool a, .bool b, .bool o, .int .i64 d, .bool e, .bool f, .int .i64 t, .int .i64 l, .string s], .int .i64 n] w fun e' w' => ∃ v, e' = .returned v ∧ Rqs w' v [(4, 128 + 8 * n)] ∧ Below w.heap.size w w' := by
  have d0 : decide (n < 0) = false := decide_eq_false (by omega)
  have d1 : decide (4 ≤ n) = false := decide_eq_false (by omega)
  have w8 : wrap64 (8 * n) = 8 * n := by unfold wrap64; omega
  have w1 : wrap64 (128 + 8 * n) = 128 + 8 * n := by unfold wrap64; omega
  have w2 : wrap64 (132 + 8 * n) = 132 + 8 * n := by unfold wrap64; omega
  obtain ⟨rfl, rfl⟩ := hr
  cases e <;> cases f
  all_goals first | (exfalso; exact ht ⟨rfl, rfl⟩) | skip
  all_goals
    go_enter Try.func27, Try.ntmps27
    go_wp2_with (first | (at_builtin; refine wpList_appQ rfl (.tmp 19) (.tmp 24) rfl (w.heap.size + 1) (.slice none 0 0) 0 [] rfl (World.ownsRow_nil _ _ _ _) ⟨w.heap.size + 1, 0, none⟩ 1 1 [.int .i64 4, .int .i64 (128 + 8 * n)] rfl rfl (cells_two_new2 _ _ _ _ _) (flat_one [(4, (128 + 8 * n))]) (by omega) (by simp <;> omega) ?_; intro v1 w1 ho1 hb1 _; have hc4 := (hb1.cell (p := ⟨w.heap.size, 4, none⟩) (Nat.lt_succ_self _)).trans (old_cell (k := 4) rfl); have hc5 := (hb1.cell (p := ⟨w.heap.size, 5, none⟩) (Nat.lt_succ_self _)).trans (old_cell (k := 5) rfl)))
    go_ret
    exact ⟨_, rfl, (Rw.of_own ho1 : Rw _ _ _ (flat [(4, 128 + 8 * n)])), ((((Bag.nil w).new 23 _).new 45 _).below).trans (hb1.mono (Nat.le_succ _))⟩
theorem rreqL_11 (a b o : Bool) (d : Int) (e f : Bool) (t l : Int) (s : ByteArray) (n : Int) (hn : 0 ≤ n ∧ n < 4) (hr : a = true ∧ b = true) (ht : e = true ∧ f = true) (w : World) : Calls Try.prog 27 #[.agg #[.bool a, .bool b, .bool o, .int .i64 d, .bool e, .bool f, .int .i64 t, .int .i64 l, .string s], .int .i64 n] w fun e' w' => ∃ v, e' = .returned v ∧ Rqs w' v [(4, 128 + 8 * n), (4, 132 + 8 * n)] ∧ Below w.heap.size w w' := by
  have d0 : decide (n < 0) = false := decide_eq_false (by omega)
  have d1 : decide (4 ≤ n) = false := decide_eq_false (by omega)
  have w8 : wrap64 (8 * n) = 8 * n := by unfold wrap64; omega
  have w1 : wrap64 (128 + 8 * n) = 128 + 8 * n := by unfold wrap64; omega
  have w2 : wrap64 (132 + 8 * n) = 132 + 8 * n := by unfold wrap64; omega
  obtain ⟨rfl, rfl⟩ := hr
  obtain ⟨rfl, rfl⟩ := ht
  all_goals
    go_enter Try.func27, Try.ntmps27
    go_wp2_with (first | (at_builtin; refine wpList_appQ rfl (.tmp 19) (.tmp 24) rfl (w.heap.size + 1) (.slice none 0 0) 0 [] rfl (World.ownsRow_nil _ _ _ _) ⟨w.heap.size + 1, 0, none⟩ 1 1 [.int .i64 4, .int .i64 (128 + 8 * n)] rfl rfl (cells_two_new2 _ _ _ _ _) (flat_one [(4, (128 + 8 * n))]) (by omega) (by simp <;> omega) ?_; intro v1 w1 ho1 hb1 _; have hc4 := (hb1.cell (p := ⟨w.heap.size, 4, none⟩) (Nat.lt_succ_self _)).trans (old_cell (k := 4) rfl); have hc5 := (hb1.cell (p := ⟨w.heap.size, 5, none⟩) (Nat.lt_succ_self _)).trans (old_cell (k := 5) rfl)) | (at_builtin; refine wpList_appQ rfl (.tmp 32) (.tmp 37) rfl (w.heap.size + 1) _ _ _ rfl (World.ownsRow.alloc ho1 _) ⟨w1.heap.size, 0, none⟩ 1 1 [.int .i64 4, .int .i64 (132 + 8 * n)] rfl rfl (cells_two_new _ _ _ _) (flat_one [(4, (132 + 8 * n))]) (by omega) (by have := hb1.size; simp at *; omega) ?_; intro v2 w2 ho2 hb2 _))
    go_ret
    exact ⟨_, rfl, (Rw.of_own ho2 : Rw _ _ _ (flat [(4, 128 + 8 * n), (4, 132 + 8 * n)])), ((((((Bag.nil w).new 23 _).new 45 _).below).trans (hb1.mono (Nat.le_succ _))).alloc (by have := hb1.size; simp at this; omega) _).trans (hb2.mono (Nat.le_succ _))⟩
theorem rreqL_any (x : Ln) (n : Int) (w : World) : Calls Try.prog 27 #[.agg #[.bool (x).a, .bool (x).b, .bool (x).o, .int .i64 (x).d, .bool (x).e, .bool (x).f, .int .i64 (x).t, .int .i64 (x).l, .string (x).s], .int .i64 n] w fun e' w' => ∃ v, e' = .returned v ∧ Rqs w' v (x.req n) ∧ Below w.heap.size w w' := by
  obtain ⟨a, b, o, d, e, f, t, l, s⟩ := x
  unfold Ln.req
  by_cases hn : 0 ≤ n ∧ n < 4
  · rw [if_pos hn]
    by_cases hr : a = true ∧ b = true
    · rw [if_pos hr]
      by_cases ht : e = true ∧ f = true
      · rw [if_pos ht]; exact rreqL_11 a b o d e f t l s n hn hr ht w
      · rw [if_neg ht]; exact rreqL_10 a b o d e f t l s n hn hr ht w
    · rw [if_neg hr]
      by_cases ht : e = true ∧ f = true
      · rw [if_pos ht]; exact rreqL_01 a b o d e f t l s n hn hr ht w
      · rw [if_neg ht]; exact rreqL_00 a b o d e f t l s n hn hr ht w
  · rw [if_neg hn]; exact rreqL_out a b o d e f t l s n hn w
end Go.Proofs.Ytbbaflepnjglnaa
