/-
  Right, SameInts, SameDisk of the reference. Condition: at most 2^40 sectors and bad ones.
-/
import Derived.Test.YtjolhlfjpnlcnaaDkC
namespace Go.Proofs.Ytjolhlfjpnlcnaa
open Go.RowKit
set_option linter.unusedSimpArgs false
set_option linter.unusedVariables false
set_option maxHeartbeats 4000000
set_option maxRecDepth 100000
attribute [local irreducible] wpQuiet

theorem rsameI_any (l : List Int) (x y : Value) (w : World) (hl : l.length ≤ 1099511627776) (hx : Its w x l) (hy : Its w y l) : Calls Try.prog 28 #[x, y] w fun e' w' => e' = .returned (.bool true) ∧ Below w.heap.size w w' := by
  obtain ⟨A, c, rfl, _, hc⟩ := hx.form
  obtain ⟨A2, c2, rfl, _, hc2⟩ := hy.form
  have hB := Below.refl w.heap.size w
  clear hx hy
  go_enter Try.func28, Try.ntmps28
  go_wp2
  go_loopw [5] (fun iv wr => ∃ k : Nat, k ≤ l.length ∧ iv = .int .i64 k ∧ Below w.heap.size w wr) (fun iv _ => match iv with | .int _ q => l.length - q.toNat | _ => 0)
  case atStart => exact ⟨0, Nat.zero_le _, rfl, hB⟩
  case round =>
    clear hB
    obtain ⟨k, hk, rfl, hB⟩ := hrel
    by_cases hkb : k < l.length
    · have hki : (k : Int) < (l.length : Int) := by omega
      have hz := List.getElem?_eq_getElem hkb
      generalize l[k] = z at *
      obtain ⟨a, rfl, hL⟩ := hc k z hz
      obtain ⟨a2, rfl, hL2⟩ := hc2 k z hz
      clear hz hc hc2
      go_wp2
      refine region_class (fun w' => Below w.heap.size w w') (by kernel_rfl) (by kernel_rfl) hB.drew ?_
      repeat
        first
          | (refine BigFrame.wpQuiet_skip (by rfl) ?_
             simp only [Act.put, List.setIfInBounds_toArray, List.set_cons_zero, List.set_cons_succ])
          | (refine BigFrame.wpQuiet_want (by rfl) (fun K hK => ?_)
             apply Exists.intro
             refine ⟨fun wq hq => ?_, hK _ ?_⟩
             · first
                 | (refine quiet_load 3 _ _ _ rfl rfl (hL _ hq))
                 | (refine quiet_load 3 _ _ _ rfl rfl (hL2 _ hq))
                 | (unfold Oper.quietAt
                    go_simp
                    first
                      | with_reducible rfl
                   )
             clear hK K
             simp only [Act.put, List.setIfInBounds_toArray, List.set_cons_zero, List.set_cons_succ])
      refine wpQuiet_nil ?_
      intro w4 hB
      go_wp2
      exact ⟨⟨k + 1, by omega, by go_num, hB⟩, by simp only; omega⟩
    · have hki : ¬ (k : Int) < (l.length : Int) := by omega
      clear hc hc2
      go_wp2
      go_ret
      exact ⟨rfl, hB⟩
theorem rsameK_any (K : Dk) (hl : K.D.B.length ≤ 1099511627776) (hl2 : K.D.S.length ≤ 1099511627776) (vs vb vs2 vb2 : Value) (w : World) (hs : Sts w vs K.D.S) (hb : Its w vb K.D.B) (hs2 : Sts w vs2 K.D.S) (hb2 : Its w vb2 K.D.B) : Calls Try.prog 11 #[.agg #[vs, vb, .bool (K).n, .bool (K).r, .bool (K).e, .int .i64 (K).c, .int .i64 (K).w, .int .i64 (K).a, .int .i64 (K).s, .int .i64 (K).l], .agg #[vs2, vb2, .bool (K).n, .bool (K).r, .bool (K).e, .int .i64 (K).c, .int .i64 (K).w, .int .i64 (K).a, .int .i64 (K).s, .int .i64 (K).l]] w fun e' w' => e' = .returned (.bool true) ∧ Below w.heap.size w w' := by
  have hsd := fun w' (h : Below w.heap.size w w') => rsame_any K.D hl hl2 (.agg #[vs, vb]) (.agg #[vs2, vb2]) w' ⟨_, _, rfl, hs.below h, hb.below h⟩ ⟨_, _, rfl, hs2.below h, hb2.below h⟩
  obtain ⟨A1, c1, rfl, _⟩ := hs.form
  obtain ⟨A2, c2, rfl, _⟩ := hb.form
  obtain ⟨A3, c3, rfl, _⟩ := hs2.form
  obtain ⟨A4, c4, rfl, _⟩ := hb2.form
  obtain ⟨D, n, r, e, c, w1, a, s, l⟩ := K
  dsimp only at *
  have hX := two_dk w [(.slice A1 D.S.length c1), (.slice A2 D.B.length c2), .bool n, .bool r, .bool e, .int .i64 c, .int .i64 w1, .int .i64 a, .int .i64 s, .int .i64 l] [(.slice A3 D.S.length c3), (.slice A4 D.B.length c4), .bool n, .bool r, .bool e, .int .i64 c, .int .i64 w1, .int .i64 a, .int .i64 s, .int .i64 l]
  clear hs hb hs2 hb2
  go_enter Try.func11, Try.ntmps11
  go_wp2_with (first | ((with_reducible refine at_load ?_); refine wpList_bag_cell hX int_cell _ rfl rfl rfl rfl (by first | exact .head _ | exact .tail _ (.head _)) rfl ?_) | ((with_reducible refine at_load ?_); refine wpList_bag_cell hX bool_cell _ rfl rfl rfl rfl (by first | exact .head _ | exact .tail _ (.head _)) rfl ?_) | ((with_reducible refine at_load ?_); refine wpList_bag_part (k := 0) (ds := [_, _]) hX aggD sizD _ rfl rfl rfl rfl (by first | exact .head _ | exact .tail _ (.head _)) (fun jz vz hz => by rcases jz with _ | _ | jz <;> first | exact hz | (simp at hz)) rfl ?_) | (go_at_call 36; (with_reducible refine (hsd _ hX.below).mono ?_); rintro e' w' ⟨rfl, hbb⟩; replace hX := hX.step hbb; clear hbb))
  go_ret
  exact ⟨rfl, hX.below⟩
theorem rrightK_any (K : Dk) (hl : K.D.B.length ≤ 1099511627776) (hl2 : K.D.S.length ≤ 1099511627776) (vs vb : Value) (w : World) (hs : Sts w vs K.D.S) (hb : Its w vb K.D.B) : Calls Try.prog 10 #[.agg #[vs, vb, .bool (K).n, .bool (K).r, .bool (K).e, .int .i64 (K).c, .int .i64 (K).w, .int .i64 (K).a, .int .i64 (K).s, .int .i64 (K).l]] w fun e' w' => e' = .returned (.bool K.right) ∧ Below w.heap.size w w' := by
  have hrd := fun w' (h : Below w.heap.size w w') => rrightD_any K.D hl hl2 vs vb w' (hs.below h) (hb.below h)
  have hiff := Dk.ok_iff K
  have hR : K.right = (K.ok && K.D.right) := rfl
  obtain ⟨D, n, r, e, c, w1, a, s, l⟩ := K
  dsimp only at hrd hiff hR hs hb ⊢
  generalize Dk.right _ = R at *
  generalize Dk.ok _ = ok at *
  generalize D.right = dr at *
  have hw1 := rword_any w1
  have hw2 := rword_any a
  have hw3 := rword_any s
  obtain ⟨A1, c1, rfl, _⟩ := hs.form
  obtain ⟨A2, c2, rfl, _⟩ := hb.form
  have hX := (Bag.nil w).new 27 [(.slice A1 D.S.length c1), (.slice A2 D.B.length c2), .bool n, .bool r, .bool e, .int .i64 c, .int .i64 w1, .int .i64 a, .int .i64 s, .int .i64 l]
  clear hs hb hl hl2
  by_cases q : c < 0
  · have hok : ok = false := by cases ok; rfl; have := hiff.1 rfl; simp_all <;> omega
    rw [hok, Bool.false_and] at hR
    subst hR
    have d1 : decide (c < 0) = true := decide_eq_true q
    clear hiff hok
    go_enter Try.func10, Try.ntmps10
    go_wp2_with (first | ((with_reducible refine at_load ?_); refine wpList_bag_cell hX int_cell _ rfl rfl rfl rfl (by first | exact .head _) rfl ?_) | ((with_reducible refine at_load ?_); refine wpList_bag_cell hX bool_cell _ rfl rfl rfl rfl (by first | exact .head _) rfl ?_) | ((with_reducible refine at_load ?_); refine wpList_bag_part (k := 0) (ds := [_, _]) hX aggD sizD _ rfl rfl rfl rfl (by first | exact .head _) (fun jz vz hz => by rcases jz with _ | _ | jz <;> first | exact hz | (simp at hz)) rfl ?_) | (go_at_call 34; first | ((with_reducible refine (hw1 _).mono ?_); rintro e' w' ⟨rfl, hbb⟩; replace hX := hX.step hbb; clear hbb) | ((with_reducible refine (hw2 _).mono ?_); rintro e' w' ⟨rfl, hbb⟩; replace hX := hX.step hbb; clear hbb) | ((with_reducible refine (hw3 _).mono ?_); rintro e' w' ⟨rfl, hbb⟩; replace hX := hX.step hbb; clear hbb)) | (go_at_call 35; (with_reducible refine (hrd _ hX.below).mono ?_); rintro e' w' ⟨rfl, hbb⟩; replace hX := hX.step hbb; clear hbb))
    go_ret
    exact ⟨rfl, hX.below⟩
  have d1 : decide (c < 0) = false := decide_eq_false q
  replace q : 0 ≤ c := by omega
  have q1 := hid q
  clear q
  by_cases q : 3 < c
  · have hok : ok = false := by cases ok; rfl; have := hiff.1 rfl; simp_all <;> omega
    rw [hok, Bool.false_and] at hR
    subst hR
    have d2 : decide (3 < c) = true := decide_eq_true q
    clear hiff hok
    go_enter Try.func10, Try.ntmps10
    go_wp2_with (first | ((with_reducible refine at_load ?_); refine wpList_bag_cell hX int_cell _ rfl rfl rfl rfl (by first | exact .head _) rfl ?_) | ((with_reducible refine at_load ?_); refine wpList_bag_cell hX bool_cell _ rfl rfl rfl rfl (by first | exact .head _) rfl ?_) | ((with_reducible refine at_load ?_); refine wpList_bag_part (k := 0) (ds := [_, _]) hX aggD sizD _ rfl rfl rfl rfl (by first | exact .head _) (fun jz vz hz => by rcases jz with _ | _ | jz <;> first | exact hz | (simp at hz)) rfl ?_) | (go_at_call 34; first | ((with_reducible refine (hw1 _).mono ?_); rintro e' w' ⟨rfl, hbb⟩; replace hX := hX.step hbb; clear hbb) | ((with_reducible refine (hw2 _).mono ?_); rintro e' w' ⟨rfl, hbb⟩; replace hX := hX.step hbb; clear hbb) | ((with_reducible refine (hw3 _).mono ?_); rintro e' w' ⟨rfl, hbb⟩; replace hX := hX.step hbb; clear hbb)) | (go_at_call 35; (with_reducible refine (hrd _ hX.below).mono ?_); rintro e' w' ⟨rfl, hbb⟩; replace hX := hX.step hbb; clear hbb))
    go_ret
    exact ⟨rfl, hX.below⟩
  have d2 : decide (3 < c) = false := decide_eq_false q
  have q2 := hid q
  clear q
  by_cases q : wordV w1 = false
  · have hok : ok = false := by cases ok; rfl; have := hiff.1 rfl; simp_all <;> omega
    rw [hok, Bool.false_and] at hR
    subst hR
    rw [q] at hw1
    clear hiff hok
    go_enter Try.func10, Try.ntmps10
    go_wp2_with (first | ((with_reducible refine at_load ?_); refine wpList_bag_cell hX int_cell _ rfl rfl rfl rfl (by first | exact .head _) rfl ?_) | ((with_reducible refine at_load ?_); refine wpList_bag_cell hX bool_cell _ rfl rfl rfl rfl (by first | exact .head _) rfl ?_) | ((with_reducible refine at_load ?_); refine wpList_bag_part (k := 0) (ds := [_, _]) hX aggD sizD _ rfl rfl rfl rfl (by first | exact .head _) (fun jz vz hz => by rcases jz with _ | _ | jz <;> first | exact hz | (simp at hz)) rfl ?_) | (go_at_call 34; first | ((with_reducible refine (hw1 _).mono ?_); rintro e' w' ⟨rfl, hbb⟩; replace hX := hX.step hbb; clear hbb) | ((with_reducible refine (hw2 _).mono ?_); rintro e' w' ⟨rfl, hbb⟩; replace hX := hX.step hbb; clear hbb) | ((with_reducible refine (hw3 _).mono ?_); rintro e' w' ⟨rfl, hbb⟩; replace hX := hX.step hbb; clear hbb)) | (go_at_call 35; (with_reducible refine (hrd _ hX.below).mono ?_); rintro e' w' ⟨rfl, hbb⟩; replace hX := hX.step hbb; clear hbb))
    go_ret
    exact ⟨rfl, hX.below⟩
  replace q : wordV w1 = true := by simpa using q
  rw [q] at hw1
  have q3 := hid q
  clear q
  by_cases q : wordV a = false
  · have hok : ok = false := by cases ok; rfl; have := hiff.1 rfl; simp_all <;> omega
    rw [hok, Bool.false_and] at hR
    subst hR
    rw [q] at hw2
    clear hiff hok
    go_enter Try.func10, Try.ntmps10
    go_wp2_with (first | ((with_reducible refine at_load ?_); refine wpList_bag_cell hX int_cell _ rfl rfl rfl rfl (by first | exact .head _) rfl ?_) | ((with_reducible refine at_load ?_); refine wpList_bag_cell hX bool_cell _ rfl rfl rfl rfl (by first | exact .head _) rfl ?_) | ((with_reducible refine at_load ?_); refine wpList_bag_part (k := 0) (ds := [_, _]) hX aggD sizD _ rfl rfl rfl rfl (by first | exact .head _) (fun jz vz hz => by rcases jz with _ | _ | jz <;> first | exact hz | (simp at hz)) rfl ?_) | (go_at_call 34; first | ((with_reducible refine (hw1 _).mono ?_); rintro e' w' ⟨rfl, hbb⟩; replace hX := hX.step hbb; clear hbb) | ((with_reducible refine (hw2 _).mono ?_); rintro e' w' ⟨rfl, hbb⟩; replace hX := hX.step hbb; clear hbb) | ((with_reducible refine (hw3 _).mono ?_); rintro e' w' ⟨rfl, hbb⟩; replace hX := hX.step hbb; clear hbb)) | (go_at_call 35; (with_reducible refine (hrd _ hX.below).mono ?_); rintro e' w' ⟨rfl, hbb⟩; replace hX := hX.step hbb; clear hbb))
    go_ret
    exact ⟨rfl, hX.below⟩
  replace q : wordV a = true := by simpa using q
  rw [q] at hw2
  have q4 := hid q
  clear q
  by_cases q : wordV s = false
  · have hok : ok = false := by cases ok; rfl; have := hiff.1 rfl; simp_all <;> omega
    rw [hok, Bool.false_and] at hR
    subst hR
    rw [q] at hw3
    clear hiff hok
    go_enter Try.func10, Try.ntmps10
    go_wp2_with (first | ((with_reducible refine at_load ?_); refine wpList_bag_cell hX int_cell _ rfl rfl rfl rfl (by first | exact .head _) rfl ?_) | ((with_reducible refine at_load ?_); refine wpList_bag_cell hX bool_cell _ rfl rfl rfl rfl (by first | exact .head _) rfl ?_) | ((with_reducible refine at_load ?_); refine wpList_bag_part (k := 0) (ds := [_, _]) hX aggD sizD _ rfl rfl rfl rfl (by first | exact .head _) (fun jz vz hz => by rcases jz with _ | _ | jz <;> first | exact hz | (simp at hz)) rfl ?_) | (go_at_call 34; first | ((with_reducible refine (hw1 _).mono ?_); rintro e' w' ⟨rfl, hbb⟩; replace hX := hX.step hbb; clear hbb) | ((with_reducible refine (hw2 _).mono ?_); rintro e' w' ⟨rfl, hbb⟩; replace hX := hX.step hbb; clear hbb) | ((with_reducible refine (hw3 _).mono ?_); rintro e' w' ⟨rfl, hbb⟩; replace hX := hX.step hbb; clear hbb)) | (go_at_call 35; (with_reducible refine (hrd _ hX.below).mono ?_); rintro e' w' ⟨rfl, hbb⟩; replace hX := hX.step hbb; clear hbb))
    go_ret
    exact ⟨rfl, hX.below⟩
  replace q : wordV s = true := by simpa using q
  rw [q] at hw3
  have q5 := hid q
  clear q
  have ha0 : 0 ≤ a := ((wordV_iff a).1 (show wordV a = true from q4)).1
  have hm : a.tmod 2 = a % 2 := Int.tmod_eq_emod_of_nonneg ha0
  by_cases q : a % 2 ≠ 0
  · have hok : ok = false := by cases ok; rfl; have := hiff.1 rfl; simp_all <;> omega
    rw [hok, Bool.false_and] at hR
    subst hR
    have d3 : (a % 2 != 0) = true := by simpa using q
    clear hiff hok
    go_enter Try.func10, Try.ntmps10
    go_wp2_with (first | ((with_reducible refine at_load ?_); refine wpList_bag_cell hX int_cell _ rfl rfl rfl rfl (by first | exact .head _) rfl ?_) | ((with_reducible refine at_load ?_); refine wpList_bag_cell hX bool_cell _ rfl rfl rfl rfl (by first | exact .head _) rfl ?_) | ((with_reducible refine at_load ?_); refine wpList_bag_part (k := 0) (ds := [_, _]) hX aggD sizD _ rfl rfl rfl rfl (by first | exact .head _) (fun jz vz hz => by rcases jz with _ | _ | jz <;> first | exact hz | (simp at hz)) rfl ?_) | (go_at_call 34; first | ((with_reducible refine (hw1 _).mono ?_); rintro e' w' ⟨rfl, hbb⟩; replace hX := hX.step hbb; clear hbb) | ((with_reducible refine (hw2 _).mono ?_); rintro e' w' ⟨rfl, hbb⟩; replace hX := hX.step hbb; clear hbb) | ((with_reducible refine (hw3 _).mono ?_); rintro e' w' ⟨rfl, hbb⟩; replace hX := hX.step hbb; clear hbb)) | (go_at_call 35; (with_reducible refine (hrd _ hX.below).mono ?_); rintro e' w' ⟨rfl, hbb⟩; replace hX := hX.step hbb; clear hbb))
    go_ret
    exact ⟨rfl, hX.below⟩
  replace q : a % 2 = 0 := by omega
  have d3 : (a % 2 != 0) = false := by simpa using q
  have q6 := hid q
  clear q
  by_cases q : l < 0
  · have hok : ok = false := by cases ok; rfl; have := hiff.1 rfl; simp_all <;> omega
    rw [hok, Bool.false_and] at hR
    subst hR
    have d4 : decide (l < 0) = true := decide_eq_true q
    clear hiff hok
    go_enter Try.func10, Try.ntmps10
    go_wp2_with (first | ((with_reducible refine at_load ?_); refine wpList_bag_cell hX int_cell _ rfl rfl rfl rfl (by first | exact .head _) rfl ?_) | ((with_reducible refine at_load ?_); refine wpList_bag_cell hX bool_cell _ rfl rfl rfl rfl (by first | exact .head _) rfl ?_) | ((with_reducible refine at_load ?_); refine wpList_bag_part (k := 0) (ds := [_, _]) hX aggD sizD _ rfl rfl rfl rfl (by first | exact .head _) (fun jz vz hz => by rcases jz with _ | _ | jz <;> first | exact hz | (simp at hz)) rfl ?_) | (go_at_call 34; first | ((with_reducible refine (hw1 _).mono ?_); rintro e' w' ⟨rfl, hbb⟩; replace hX := hX.step hbb; clear hbb) | ((with_reducible refine (hw2 _).mono ?_); rintro e' w' ⟨rfl, hbb⟩; replace hX := hX.step hbb; clear hbb) | ((with_reducible refine (hw3 _).mono ?_); rintro e' w' ⟨rfl, hbb⟩; replace hX := hX.step hbb; clear hbb)) | (go_at_call 35; (with_reducible refine (hrd _ hX.below).mono ?_); rintro e' w' ⟨rfl, hbb⟩; replace hX := hX.step hbb; clear hbb))
    go_ret
    exact ⟨rfl, hX.below⟩
  have d4 : decide (l < 0) = false := decide_eq_false q
  have q7 := hid q
  clear q
  by_cases q : 8 < l
  · have hok : ok = false := by cases ok; rfl; have := hiff.1 rfl; simp_all <;> omega
    rw [hok, Bool.false_and] at hR
    subst hR
    have d5 : decide (8 < l) = true := decide_eq_true q
    clear hiff hok
    go_enter Try.func10, Try.ntmps10
    go_wp2_with (first | ((with_reducible refine at_load ?_); refine wpList_bag_cell hX int_cell _ rfl rfl rfl rfl (by first | exact .head _) rfl ?_) | ((with_reducible refine at_load ?_); refine wpList_bag_cell hX bool_cell _ rfl rfl rfl rfl (by first | exact .head _) rfl ?_) | ((with_reducible refine at_load ?_); refine wpList_bag_part (k := 0) (ds := [_, _]) hX aggD sizD _ rfl rfl rfl rfl (by first | exact .head _) (fun jz vz hz => by rcases jz with _ | _ | jz <;> first | exact hz | (simp at hz)) rfl ?_) | (go_at_call 34; first | ((with_reducible refine (hw1 _).mono ?_); rintro e' w' ⟨rfl, hbb⟩; replace hX := hX.step hbb; clear hbb) | ((with_reducible refine (hw2 _).mono ?_); rintro e' w' ⟨rfl, hbb⟩; replace hX := hX.step hbb; clear hbb) | ((with_reducible refine (hw3 _).mono ?_); rintro e' w' ⟨rfl, hbb⟩; replace hX := hX.step hbb; clear hbb)) | (go_at_call 35; (with_reducible refine (hrd _ hX.below).mono ?_); rintro e' w' ⟨rfl, hbb⟩; replace hX := hX.step hbb; clear hbb))
    go_ret
    exact ⟨rfl, hX.below⟩
  have d5 : decide (8 < l) = false := decide_eq_false q
  have q8 := hid q
  clear q
  have hiff2 : ok = true ↔ r = decide (l = 0) ∧ (l = 0 ∨ (c ≠ 0 ∧ w1 ≠ 0)) := by
    rw [hiff]
    exact ⟨fun h => h.2.2.2.2.2.2, fun h => ⟨⟨show 0 ≤ c from q1, by have := (show ¬ 3 < c from q2); omega⟩, q3, q4, q5, q6, ⟨by have := (show ¬ l < 0 from q7); omega, by have := (show ¬ 8 < l from q8); omega⟩, h⟩⟩
  clear hiff q1 q2 q3 q4 q5 q6 q7 q8 ha0
  by_cases hl0 : l = 0
  · subst hl0
    cases r
    · have hok : ok = false := by cases ok; rfl; have := hiff2.1 rfl; simp_all
      rw [hok, Bool.false_and] at hR
      subst hR
      clear hiff2 hok
      go_enter Try.func10, Try.ntmps10
      go_wp2_with (first | ((with_reducible refine at_load ?_); refine wpList_bag_cell hX int_cell _ rfl rfl rfl rfl (by first | exact .head _) rfl ?_) | ((with_reducible refine at_load ?_); refine wpList_bag_cell hX bool_cell _ rfl rfl rfl rfl (by first | exact .head _) rfl ?_) | ((with_reducible refine at_load ?_); refine wpList_bag_part (k := 0) (ds := [_, _]) hX aggD sizD _ rfl rfl rfl rfl (by first | exact .head _) (fun jz vz hz => by rcases jz with _ | _ | jz <;> first | exact hz | (simp at hz)) rfl ?_) | (go_at_call 34; first | ((with_reducible refine (hw1 _).mono ?_); rintro e' w' ⟨rfl, hbb⟩; replace hX := hX.step hbb; clear hbb) | ((with_reducible refine (hw2 _).mono ?_); rintro e' w' ⟨rfl, hbb⟩; replace hX := hX.step hbb; clear hbb) | ((with_reducible refine (hw3 _).mono ?_); rintro e' w' ⟨rfl, hbb⟩; replace hX := hX.step hbb; clear hbb)) | (go_at_call 35; (with_reducible refine (hrd _ hX.below).mono ?_); rintro e' w' ⟨rfl, hbb⟩; replace hX := hX.step hbb; clear hbb))
      go_ret
      exact ⟨rfl, hX.below⟩
    · have hok : ok = true := hiff2.2 ⟨rfl, .inl rfl⟩
      rw [hok, Bool.true_and] at hR
      subst hR
      clear hiff2 hok
      go_enter Try.func10, Try.ntmps10
      go_wp2_with (first | ((with_reducible refine at_load ?_); refine wpList_bag_cell hX int_cell _ rfl rfl rfl rfl (by first | exact .head _) rfl ?_) | ((with_reducible refine at_load ?_); refine wpList_bag_cell hX bool_cell _ rfl rfl rfl rfl (by first | exact .head _) rfl ?_) | ((with_reducible refine at_load ?_); refine wpList_bag_part (k := 0) (ds := [_, _]) hX aggD sizD _ rfl rfl rfl rfl (by first | exact .head _) (fun jz vz hz => by rcases jz with _ | _ | jz <;> first | exact hz | (simp at hz)) rfl ?_) | (go_at_call 34; first | ((with_reducible refine (hw1 _).mono ?_); rintro e' w' ⟨rfl, hbb⟩; replace hX := hX.step hbb; clear hbb) | ((with_reducible refine (hw2 _).mono ?_); rintro e' w' ⟨rfl, hbb⟩; replace hX := hX.step hbb; clear hbb) | ((with_reducible refine (hw3 _).mono ?_); rintro e' w' ⟨rfl, hbb⟩; replace hX := hX.step hbb; clear hbb)) | (go_at_call 35; (with_reducible refine (hrd _ hX.below).mono ?_); rintro e' w' ⟨rfl, hbb⟩; replace hX := hX.step hbb; clear hbb))
      go_ret
      exact ⟨rfl, hX.below⟩
  have l1 : (l == 0) = false := by simpa using hl0
  have l2 : (l != 0) = true := by simpa using hl0
  cases r
  · by_cases hc0 : c = 0
    · have hok : ok = false := by
        cases ok
        · rfl
        · rcases (hiff2.1 rfl).2 with h | h
          · exact absurd h hl0
          · exact absurd hc0 h.1
      rw [hok, Bool.false_and] at hR
      subst hR hc0
      clear hiff2 hok
      go_enter Try.func10, Try.ntmps10
      go_wp2_with (first | ((with_reducible refine at_load ?_); refine wpList_bag_cell hX int_cell _ rfl rfl rfl rfl (by first | exact .head _) rfl ?_) | ((with_reducible refine at_load ?_); refine wpList_bag_cell hX bool_cell _ rfl rfl rfl rfl (by first | exact .head _) rfl ?_) | ((with_reducible refine at_load ?_); refine wpList_bag_part (k := 0) (ds := [_, _]) hX aggD sizD _ rfl rfl rfl rfl (by first | exact .head _) (fun jz vz hz => by rcases jz with _ | _ | jz <;> first | exact hz | (simp at hz)) rfl ?_) | (go_at_call 34; first | ((with_reducible refine (hw1 _).mono ?_); rintro e' w' ⟨rfl, hbb⟩; replace hX := hX.step hbb; clear hbb) | ((with_reducible refine (hw2 _).mono ?_); rintro e' w' ⟨rfl, hbb⟩; replace hX := hX.step hbb; clear hbb) | ((with_reducible refine (hw3 _).mono ?_); rintro e' w' ⟨rfl, hbb⟩; replace hX := hX.step hbb; clear hbb)) | (go_at_call 35; (with_reducible refine (hrd _ hX.below).mono ?_); rintro e' w' ⟨rfl, hbb⟩; replace hX := hX.step hbb; clear hbb))
      go_ret
      exact ⟨rfl, hX.below⟩
    have l3 : (c == 0) = false := by simpa using hc0
    by_cases hw0 : w1 = 0
    · have hok : ok = false := by
        cases ok
        · rfl
        · rcases (hiff2.1 rfl).2 with h | h
          · exact absurd h hl0
          · exact absurd hw0 h.2
      rw [hok, Bool.false_and] at hR
      subst hR hw0
      clear hiff2 hok
      go_enter Try.func10, Try.ntmps10
      go_wp2_with (first | ((with_reducible refine at_load ?_); refine wpList_bag_cell hX int_cell _ rfl rfl rfl rfl (by first | exact .head _) rfl ?_) | ((with_reducible refine at_load ?_); refine wpList_bag_cell hX bool_cell _ rfl rfl rfl rfl (by first | exact .head _) rfl ?_) | ((with_reducible refine at_load ?_); refine wpList_bag_part (k := 0) (ds := [_, _]) hX aggD sizD _ rfl rfl rfl rfl (by first | exact .head _) (fun jz vz hz => by rcases jz with _ | _ | jz <;> first | exact hz | (simp at hz)) rfl ?_) | (go_at_call 34; first | ((with_reducible refine (hw1 _).mono ?_); rintro e' w' ⟨rfl, hbb⟩; replace hX := hX.step hbb; clear hbb) | ((with_reducible refine (hw2 _).mono ?_); rintro e' w' ⟨rfl, hbb⟩; replace hX := hX.step hbb; clear hbb) | ((with_reducible refine (hw3 _).mono ?_); rintro e' w' ⟨rfl, hbb⟩; replace hX := hX.step hbb; clear hbb)) | (go_at_call 35; (with_reducible refine (hrd _ hX.below).mono ?_); rintro e' w' ⟨rfl, hbb⟩; replace hX := hX.step hbb; clear hbb))
      go_ret
      exact ⟨rfl, hX.below⟩
    have l4 : (w1 == 0) = false := by simpa using hw0
    have hok : ok = true := hiff2.2 ⟨by simp [hl0], .inr ⟨hc0, hw0⟩⟩
    rw [hok, Bool.true_and] at hR
    subst hR
    clear hiff2 hok hc0 hw0 hl0
    go_enter Try.func10, Try.ntmps10
    go_wp2_with (first | ((with_reducible refine at_load ?_); refine wpList_bag_cell hX int_cell _ rfl rfl rfl rfl (by first | exact .head _) rfl ?_) | ((with_reducible refine at_load ?_); refine wpList_bag_cell hX bool_cell _ rfl rfl rfl rfl (by first | exact .head _) rfl ?_) | ((with_reducible refine at_load ?_); refine wpList_bag_part (k := 0) (ds := [_, _]) hX aggD sizD _ rfl rfl rfl rfl (by first | exact .head _) (fun jz vz hz => by rcases jz with _ | _ | jz <;> first | exact hz | (simp at hz)) rfl ?_) | (go_at_call 34; first | ((with_reducible refine (hw1 _).mono ?_); rintro e' w' ⟨rfl, hbb⟩; replace hX := hX.step hbb; clear hbb) | ((with_reducible refine (hw2 _).mono ?_); rintro e' w' ⟨rfl, hbb⟩; replace hX := hX.step hbb; clear hbb) | ((with_reducible refine (hw3 _).mono ?_); rintro e' w' ⟨rfl, hbb⟩; replace hX := hX.step hbb; clear hbb)) | (go_at_call 35; (with_reducible refine (hrd _ hX.below).mono ?_); rintro e' w' ⟨rfl, hbb⟩; replace hX := hX.step hbb; clear hbb))
    go_ret
    exact ⟨rfl, hX.below⟩
  · have hok : ok = false := by cases ok; rfl; have := hiff2.1 rfl; simp_all
    rw [hok, Bool.false_and] at hR
    subst hR
    clear hiff2 hok
    go_enter Try.func10, Try.ntmps10
    go_wp2_with (first | ((with_reducible refine at_load ?_); refine wpList_bag_cell hX int_cell _ rfl rfl rfl rfl (by first | exact .head _) rfl ?_) | ((with_reducible refine at_load ?_); refine wpList_bag_cell hX bool_cell _ rfl rfl rfl rfl (by first | exact .head _) rfl ?_) | ((with_reducible refine at_load ?_); refine wpList_bag_part (k := 0) (ds := [_, _]) hX aggD sizD _ rfl rfl rfl rfl (by first | exact .head _) (fun jz vz hz => by rcases jz with _ | _ | jz <;> first | exact hz | (simp at hz)) rfl ?_) | (go_at_call 34; first | ((with_reducible refine (hw1 _).mono ?_); rintro e' w' ⟨rfl, hbb⟩; replace hX := hX.step hbb; clear hbb) | ((with_reducible refine (hw2 _).mono ?_); rintro e' w' ⟨rfl, hbb⟩; replace hX := hX.step hbb; clear hbb) | ((with_reducible refine (hw3 _).mono ?_); rintro e' w' ⟨rfl, hbb⟩; replace hX := hX.step hbb; clear hbb)) | (go_at_call 35; (with_reducible refine (hrd _ hX.below).mono ?_); rintro e' w' ⟨rfl, hbb⟩; replace hX := hX.step hbb; clear hbb))
    go_ret
    exact ⟨rfl, hX.below⟩
end Go.Proofs.Ytjolhlfjpnlcnaa
