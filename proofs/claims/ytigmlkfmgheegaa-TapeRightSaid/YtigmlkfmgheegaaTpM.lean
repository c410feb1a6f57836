/-
  SameRequests of the reference of package line. Condition: at most 2^40 requests.
-/
import Derived.Test.YtigmlkfmgheegaaTJ
namespace Go.Proofs.Ytigmlkfmgheegaa
open Go.RowKit
set_option linter.unusedSimpArgs false
set_option linter.unusedVariables false
set_option maxHeartbeats 4000000
set_option maxRecDepth 100000
attribute [local irreducible] wpQuiet

theorem take_eq_of {α : Type} {a b : List α} (h : a.length = b.length) (h2 : a.take a.length = b.take a.length) : a = b := by
  rw [List.take_length, h, List.take_length] at h2; exact h2
theorem take_snoc {α : Type} {a : List α} {k : Nat} {x : α} (h : a[k]? = some x) : a.take (k + 1) = a.take k ++ [x] := by
  have hk : k < a.length := (List.getElem?_eq_some_iff.1 h).1
  rw [List.take_succ_eq_append_getElem hk, (List.getElem?_eq_some_iff.1 h).2]
theorem rsameL_any (u v : Value) (a b : List Rq) (ha : a.length ≤ 1099511627776) (hb : b.length ≤ 1099511627776) (w : World) (hu : Rqs w u a) (hv : Rqs w v b) :
    Calls Try.prog 19 #[u, v] w fun e w' => e = .returned (.bool (decide (a = b))) ∧ Below w.heap.size w w' := by
  have hu0 := hu
  have hv0 := hv
  obtain ⟨A, c, rfl, _, hc⟩ := hu
  obtain ⟨B, d, rfl, _, hd⟩ := hv
  by_cases hl : a.length = b.length
  · have hlb : ((a.length : Int) != (b.length : Int)) = false := by rw [hl]; simp
    replace hl := hid hl
    go_enter Try.func19, Try.ntmps19
    go_wp2
    go_loopw [5] (fun i wr => ∃ k : Nat, k ≤ a.length ∧ i = .int .i64 k ∧ Hid (a.take k = b.take k) ∧ Below w.heap.size w wr) (fun i _ => match i with | .int _ q => a.length - q.toNat | _ => 0)
    case atStart => exact ⟨0, Nat.zero_le _, rfl, rfl, Below.refl _ _⟩
    case round =>
      obtain ⟨k, hk, rfl, hP, hB⟩ := hrel
      by_cases hka : k < a.length
      · have hx := List.getElem?_eq_getElem hka
        have hy := List.getElem?_eq_getElem (show k < b.length by have := (show a.length = b.length from hl); omega)
        have hkb : k < b.length := by have := (show a.length = b.length from hl); omega
        generalize a[k] = x at *
        generalize b[k] = y at *
        obtain ⟨ad, rfl, _⟩ := hc (k * 2) (.int .i64 x.1) (flat_get hx 0 _ rfl)
        obtain ⟨bd, rfl, _⟩ := hd (k * 2) (.int .i64 y.1) (flat_get hy 0 _ rfl)
        have hX1 : ∀ w', Below w.heap.size w w' → (Instr.loadAt 74 (.pointer (some (ad.add (k * 2))))).run Try.prog w' = .ok (.agg #[.int .i64 x.1, .int .i64 x.2]) w' := fun w' h => Rqs.load (Rw.below hu0 h) rfl hx
        have hY1 : ∀ w', Below w.heap.size w w' → (Instr.loadAt 74 (.pointer (some (bd.add (k * 2))))).run Try.prog w' = .ok (.agg #[.int .i64 y.1, .int .i64 y.2]) w' := fun w' h => Rqs.load (Rw.below hv0 h) rfl hy
        clear hc hd hu0 hv0
        obtain ⟨p, m⟩ := x
        obtain ⟨q, n⟩ := y
        simp only at hX1 hY1
        by_cases hpq : p = q
        · subst hpq
          by_cases hmn : m = n
          · subst hmn
            have hP2 : Hid (a.take (k + 1) = b.take (k + 1)) := by show _ = _; rw [take_snoc hx, take_snoc hy, show a.take k = b.take k from hP]
            clear hx hy
            go_wp2
            refine region_class (fun wz => Below w.heap.size w wz) (by kernel_rfl) (by kernel_rfl) hB.drew ?_
            repeat
              first
                | (refine BigFrame.wpQuiet_skip (by rfl) ?_
                   simp only [Act.put, List.setIfInBounds_toArray, List.set_cons_zero, List.set_cons_succ])
                | (refine BigFrame.wpQuiet_want (by rfl) (fun K hK => ?_)
                   apply Exists.intro
                   refine ⟨fun wq hq => ?_, hK _ ?_⟩
                   · first
                       | (refine quiet_load 74 _ _ _ rfl rfl (hX1 _ hq))
                       | (refine quiet_load 74 _ _ _ rfl rfl (hY1 _ hq))
                       | (unfold Oper.quietAt
                          go_simp
                          first
                            | with_reducible rfl
                         )
                   clear hK K
                   simp only [Act.put, List.setIfInBounds_toArray, List.set_cons_zero, List.set_cons_succ])
            refine wpQuiet_nil ?_
            intro w4 hB4
            go_wp2
            exact ⟨⟨k + 1, by omega, by go_num, hP2, hB4⟩, by simp only; omega⟩
          · have hne : Hid (decide (a = b) = false) := by
              show _ = _
              rw [decide_eq_false_iff_not]; intro h; rw [h, hy] at hx; simp at hx; exact hmn hx.symm
            clear hx hy
            go_wp2
            refine region_class (fun wz => Below w.heap.size w wz) (by kernel_rfl) (by kernel_rfl) hB.drew ?_
            repeat
              first
                | (refine BigFrame.wpQuiet_skip (by rfl) ?_
                   simp only [Act.put, List.setIfInBounds_toArray, List.set_cons_zero, List.set_cons_succ])
                | (refine BigFrame.wpQuiet_want (by rfl) (fun K hK => ?_)
                   apply Exists.intro
                   refine ⟨fun wq hq => ?_, hK _ ?_⟩
                   · first
                       | (refine quiet_load 74 _ _ _ rfl rfl (hX1 _ hq))
                       | (refine quiet_load 74 _ _ _ rfl rfl (hY1 _ hq))
                       | (unfold Oper.quietAt
                          go_simp
                          first
                            | with_reducible rfl
                         )
                   clear hK K
                   simp only [Act.put, List.setIfInBounds_toArray, List.set_cons_zero, List.set_cons_succ])
            refine wpQuiet_nil ?_
            intro w4 hB4
            go_wp2
            go_ret
            exact ⟨by rw [show decide (a = b) = false from hne]; rfl, hB4⟩
        · have hne : Hid (decide (a = b) = false) := by
            show _ = _
            rw [decide_eq_false_iff_not]; intro h; rw [h, hy] at hx; simp at hx; exact hpq hx.1.symm
          clear hx hy
          go_wp2
          refine region_class (fun wz => Below w.heap.size w wz) (by kernel_rfl) (by kernel_rfl) hB.drew ?_
          repeat
            first
              | (refine BigFrame.wpQuiet_skip (by rfl) ?_
                 simp only [Act.put, List.setIfInBounds_toArray, List.set_cons_zero, List.set_cons_succ])
              | (refine BigFrame.wpQuiet_want (by rfl) (fun K hK => ?_)
                 apply Exists.intro
                 refine ⟨fun wq hq => ?_, hK _ ?_⟩
                 · first
                     | (refine quiet_load 74 _ _ _ rfl rfl (hX1 _ hq))
                     | (refine quiet_load 74 _ _ _ rfl rfl (hY1 _ hq))
                     | (unfold Oper.quietAt
                        go_simp
                        first
                          | with_reducible rfl
                       )
                 clear hK K
                 simp only [Act.put, List.setIfInBounds_toArray, List.set_cons_zero, List.set_cons_succ])
          refine wpQuiet_nil ?_
          intro w4 hB4
          go_wp2
          go_ret
          exact ⟨by rw [show decide (a = b) = false from hne]; rfl, hB4⟩
      · have hkn : k = a.length := by omega
        have hab : Hid (decide (a = b) = true) := by
          show _ = _
          rw [decide_eq_true_iff]
          refine take_eq_of (show a.length = b.length from hl) ?_
          rw [← hkn]; exact hP
        subst hkn
        clear hc hd hu0 hv0 hP
        go_wp2
        go_ret
        exact ⟨by rw [show decide (a = b) = true from hab]; rfl, hB⟩
  · have hn : ¬ (a.length : Int) = (b.length : Int) := by omega
    have hn2 : ((a.length : Int) != (b.length : Int)) = true := by simpa using hn
    have hne : Hid (decide (a = b) = false) := by
      show _ = _
      rw [decide_eq_false_iff_not]; intro h; exact hl (by rw [h])
    clear hc hd hu0 hv0 hl
    go_enter Try.func19, Try.ntmps19
    go_wp2
    go_ret
    exact ⟨by rw [show decide (a = b) = false from hne]; rfl, Below.refl _ _⟩

end Go.Proofs.Ytigmlkfmgheegaa
