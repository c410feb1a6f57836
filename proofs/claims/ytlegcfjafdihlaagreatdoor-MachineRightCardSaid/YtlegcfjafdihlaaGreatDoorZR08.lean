import Derived.Test.YtlegcfjafdihlaaGreatDoorZR06
import Derived.Test.YtlegcfjafdihlaaGreatDoorZR07
import Derived.Test.YtlegcfjafdihlaaGreatDoorZR01
/-
  Right, SameInts, SameDisk of the reference. Condition: at most 2^40 sectors and bad ones.
-/
namespace Go.Proofs.YtlegcfjafdihlaaGreatDoor
open Go.RowKit
set_option linter.unusedSimpArgs false
set_option linter.unusedVariables false
set_option maxHeartbeats 4000000
set_option maxRecDepth 100000
attribute [local irreducible] wpQuiet

theorem rrightK_any (K : Dk) (hl : K.D.B.length ≤ 1099511627776) (hl2 : K.D.S.length ≤ 1099511627776) (vs vb : Value) (w : World) (hs : Sts w vs K.D.S) (hb : Its w vb K.D.B) : Calls Tryz.prog 97 #[.agg #[vs, vb, .bool (K).n, .bool (K).r, .bool (K).e, .int .i64 (K).c, .int .i64 (K).w, .int .i64 (K).a, .int .i64 (K).s, .int .i64 (K).l]] w fun e' w' => e' = .returned (.bool K.right) ∧ Below w.heap.size w w' := by
  have hrd := fun w' (h : Below w.heap.size w w') => rrightD_any K.D hl hl2 vs vb w' (hs.below h) (hb.below h)
  have hiff := Dk.ok_iff K
  have hR : K.right = (K.ok && K.D.right) := rfl
  obtain ⟨D, n, r, e, c, w1, a, s, l⟩ := K
  dsimp only at hrd hiff hR hs hb ⊢
  generalize Dk.right _ = R at *
  generalize Dk.ok _ = ok at *
  generalize D.right = dr at *
  have hw1 := rword_any w1
  have hw2 := rword_any a
  have hw3 := rword_any s
  obtain ⟨A1, c1, rfl, _⟩ := hs.form
  obtain ⟨A2, c2, rfl, _⟩ := hb.form
  have hX := (Bag.nil w).new 45 [(.slice A1 D.S.length c1), (.slice A2 D.B.length c2), .bool n, .bool r, .bool e, .int .i64 c, .int .i64 w1, .int .i64 a, .int .i64 s, .int .i64 l]
  clear hs hb hl hl2
  by_cases q : c < 0
  · have hok : ok = false := by cases ok; rfl; have := hiff.1 rfl; simp_all <;> omega
    rw [hok, Bool.false_and] at hR
    subst hR
    have d1 : decide (c < 0) = true := decide_eq_true q
    clear hiff hok
    go_enter Tryz.func97, Tryz.ntmps97
    go_wp2_with (first | ((with_reducible refine at_load ?_); refine wpList_bag_cell hX int_cell _ rfl rfl rfl rfl (by first | exact .head _) rfl ?_) | ((with_reducible refine at_load ?_); refine wpList_bag_cell hX bool_cell _ rfl rfl rfl rfl (by first | exact .head _) rfl ?_) | ((with_reducible refine at_load ?_); refine wpList_bag_part (k := 0) (ds := [_, _]) hX aggD sizD _ rfl rfl rfl rfl (by first | exact .head _) (fun jz vz hz => by rcases jz with _ | _ | jz <;> first | exact hz | (simp at hz)) rfl ?_) | (go_at_call 132; first | ((with_reducible refine (hw1 _).mono ?_); rintro e' w' ⟨rfl, hbb⟩; replace hX := hX.step hbb; clear hbb) | ((with_reducible refine (hw2 _).mono ?_); rintro e' w' ⟨rfl, hbb⟩; replace hX := hX.step hbb; clear hbb) | ((with_reducible refine (hw3 _).mono ?_); rintro e' w' ⟨rfl, hbb⟩; replace hX := hX.step hbb; clear hbb)) | (go_at_call 133; (with_reducible refine (hrd _ hX.below).mono ?_); rintro e' w' ⟨rfl, hbb⟩; replace hX := hX.step hbb; clear hbb))
    go_ret
    exact ⟨rfl, hX.below⟩
  have d1 : decide (c < 0) = false := decide_eq_false q
  replace q : 0 ≤ c := by omega
  have q1 := hid q
  clear q
  by_cases q : 3 < c
  · have hok : ok = false := by cases ok; rfl; have := hiff.1 rfl; simp_all <;> omega
    rw [hok, Bool.false_and] at hR
    subst hR
    have d2 : decide (3 < c) = true := decide_eq_true q
    clear hiff hok
    go_enter Tryz.func97, Tryz.ntmps97
    go_wp2_with (first | ((with_reducible refine at_load ?_); refine wpList_bag_cell hX int_cell _ rfl rfl rfl rfl (by first | exact .head _) rfl ?_) | ((with_reducible refine at_load ?_); refine wpList_bag_cell hX bool_cell _ rfl rfl rfl rfl (by first | exact .head _) rfl ?_) | ((with_reducible refine at_load ?_); refine wpList_bag_part (k := 0) (ds := [_, _]) hX aggD sizD _ rfl rfl rfl rfl (by first | exact .head _) (fun jz vz hz => by rcases jz with _ | _ | jz <;> first | exact hz | (simp at hz)) rfl ?_) | (go_at_call 132; first | ((with_reducible refine (hw1 _).mono ?_); rintro e' w' ⟨rfl, hbb⟩; replace hX := hX.step hbb; clear hbb) | ((with_reducible refine (hw2 _).mono ?_); rintro e' w' ⟨rfl, hbb⟩; replace hX := hX.step hbb; clear hbb) | ((with_reducible refine (hw3 _).mono ?_); rintro e' w' ⟨rfl, hbb⟩; replace hX := hX.step hbb; clear hbb)) | (go_at_call 133; (with_reducible refine (hrd _ hX.below).mono ?_); rintro e' w' ⟨rfl, hbb⟩; replace hX := hX.step hbb; clear hbb))
    go_ret
    exact ⟨rfl, hX.below⟩
  have d2 : decide (3 < c) = false := decide_eq_false q
  have q2 := hid q
  clear q
  by_cases q : wordV w1 = false
  · have hok : ok = false := by cases ok; rfl; have := hiff.1 rfl; simp_all <;> omega
    rw [hok, Bool.false_and] at hR
    subst hR
    rw [q] at hw1
    clear hiff hok
    go_enter Tryz.func97, Tryz.ntmps97
    go_wp2_with (first | ((with_reducible refine at_load ?_); refine wpList_bag_cell hX int_cell _ rfl rfl rfl rfl (by first | exact .head _) rfl ?_) | ((with_reducible refine at_load ?_); refine wpList_bag_cell hX bool_cell _ rfl rfl rfl rfl (by first | exact .head _) rfl ?_) | ((with_reducible refine at_load ?_); refine wpList_bag_part (k := 0) (ds := [_, _]) hX aggD sizD _ rfl rfl rfl rfl (by first | exact .head _) (fun jz vz hz => by rcases jz with _ | _ | jz <;> first | exact hz | (simp at hz)) rfl ?_) | (go_at_call 132; first | ((with_reducible refine (hw1 _).mono ?_); rintro e' w' ⟨rfl, hbb⟩; replace hX := hX.step hbb; clear hbb) | ((with_reducible refine (hw2 _).mono ?_); rintro e' w' ⟨rfl, hbb⟩; replace hX := hX.step hbb; clear hbb) | ((with_reducible refine (hw3 _).mono ?_); rintro e' w' ⟨rfl, hbb⟩; replace hX := hX.step hbb; clear hbb)) | (go_at_call 133; (with_reducible refine (hrd _ hX.below).mono ?_); rintro e' w' ⟨rfl, hbb⟩; replace hX := hX.step hbb; clear hbb))
    go_ret
    exact ⟨rfl, hX.below⟩
  replace q : wordV w1 = true := by simpa using q
  rw [q] at hw1
  have q3 := hid q
  clear q
  by_cases q : wordV a = false
  · have hok : ok = false := by cases ok; rfl; have := hiff.1 rfl; simp_all <;> omega
    rw [hok, Bool.false_and] at hR
    subst hR
    rw [q] at hw2
    clear hiff hok
    go_enter Tryz.func97, Tryz.ntmps97
    go_wp2_with (first | ((with_reducible refine at_load ?_); refine wpList_bag_cell hX int_cell _ rfl rfl rfl rfl (by first | exact .head _) rfl ?_) | ((with_reducible refine at_load ?_); refine wpList_bag_cell hX bool_cell _ rfl rfl rfl rfl (by first | exact .head _) rfl ?_) | ((with_reducible refine at_load ?_); refine wpList_bag_part (k := 0) (ds := [_, _]) hX aggD sizD _ rfl rfl rfl rfl (by first | exact .head _) (fun jz vz hz => by rcases jz with _ | _ | jz <;> first | exact hz | (simp at hz)) rfl ?_) | (go_at_call 132; first | ((with_reducible refine (hw1 _).mono ?_); rintro e' w' ⟨rfl, hbb⟩; replace hX := hX.step hbb; clear hbb) | ((with_reducible refine (hw2 _).mono ?_); rintro e' w' ⟨rfl, hbb⟩; replace hX := hX.step hbb; clear hbb) | ((with_reducible refine (hw3 _).mono ?_); rintro e' w' ⟨rfl, hbb⟩; replace hX := hX.step hbb; clear hbb)) | (go_at_call 133; (with_reducible refine (hrd _ hX.below).mono ?_); rintro e' w' ⟨rfl, hbb⟩; replace hX := hX.step hbb; clear hbb))
    go_ret
    exact ⟨rfl, hX.below⟩
  replace q : wordV a = true := by simpa using q
  rw [q] at hw2
  have q4 := hid q
  clear q
  by_cases q : wordV s = false
  · have hok : ok = false := by cases ok; rfl; have := hiff.1 rfl; simp_all <;> omega
    rw [hok, Bool.false_and] at hR
    subst hR
    rw [q] at hw3
    clear hiff hok
    go_enter Tryz.func97, Tryz.ntmps97
    go_wp2_with (first | ((with_reducible refine at_load ?_); refine wpList_bag_cell hX int_cell _ rfl rfl rfl rfl (by first | exact .head _) rfl ?_) | ((with_reducible refine at_load ?_); refine wpList_bag_cell hX bool_cell _ rfl rfl rfl rfl (by first | exact .head _) rfl ?_) | ((with_reducible refine at_load ?_); refine wpList_bag_part (k := 0) (ds := [_, _]) hX aggD sizD _ rfl rfl rfl rfl (by first | exact .head _) (fun jz vz hz => by rcases jz with _ | _ | jz <;> first | exact hz | (simp at hz)) rfl ?_) | (go_at_call 132; first | ((with_reducible refine (hw1 _).mono ?_); rintro e' w' ⟨rfl, hbb⟩; replace hX := hX.step hbb; clear hbb) | ((with_reducible refine (hw2 _).mono ?_); rintro e' w' ⟨rfl, hbb⟩; replace hX := hX.step hbb; clear hbb) | ((with_reducible refine (hw3 _).mono ?_); rintro e' w' ⟨rfl, hbb⟩; replace hX := hX.step hbb; clear hbb)) | (go_at_call 133; (with_reducible refine (hrd _ hX.below).mono ?_); rintro e' w' ⟨rfl, hbb⟩; replace hX := hX.step hbb; clear hbb))
    go_ret
    exact ⟨rfl, hX.below⟩
  replace q : wordV s = true := by simpa using q
  rw [q] at hw3
  have q5 := hid q
  clear q
  have ha0 : 0 ≤ a := ((wordV_iff a).1 (show wordV a = true from q4)).1
  have hm : a.tmod 2 = a % 2 := Int.tmod_eq_emod_of_nonneg ha0
  by_cases q : a % 2 ≠ 0
  · have hok : ok = false := by cases ok; rfl; have := hiff.1 rfl; simp_all <;> omega
    rw [hok, Bool.false_and] at hR
    subst hR
    have d3 : (a % 2 != 0) = true := by simpa using q
    clear hiff hok
    go_enter Tryz.func97, Tryz.ntmps97
    go_wp2_with (first | ((with_reducible refine at_load ?_); refine wpList_bag_cell hX int_cell _ rfl rfl rfl rfl (by first | exact .head _) rfl ?_) | ((with_reducible refine at_load ?_); refine wpList_bag_cell hX bool_cell _ rfl rfl rfl rfl (by first | exact .head _) rfl ?_) | ((with_reducible refine at_load ?_); refine wpList_bag_part (k := 0) (ds := [_, _]) hX aggD sizD _ rfl rfl rfl rfl (by first | exact .head _) (fun jz vz hz => by rcases jz with _ | _ | jz <;> first | exact hz | (simp at hz)) rfl ?_) | (go_at_call 132; first | ((with_reducible refine (hw1 _).mono ?_); rintro e' w' ⟨rfl, hbb⟩; replace hX := hX.step hbb; clear hbb) | ((with_reducible refine (hw2 _).mono ?_); rintro e' w' ⟨rfl, hbb⟩; replace hX := hX.step hbb; clear hbb) | ((with_reducible refine (hw3 _).mono ?_); rintro e' w' ⟨rfl, hbb⟩; replace hX := hX.step hbb; clear hbb)) | (go_at_call 133; (with_reducible refine (hrd _ hX.below).mono ?_); rintro e' w' ⟨rfl, hbb⟩; replace hX := hX.step hbb; clear hbb))
    go_ret
    exact ⟨rfl, hX.below⟩
  replace q : a % 2 = 0 := by omega
  have d3 : (a % 2 != 0) = false := by simpa using q
  have q6 := hid q
  clear q
  by_cases q : l < 0
  · have hok : ok = false := by cases ok; rfl; have := hiff.1 rfl; simp_all <;> omega
    rw [hok, Bool.false_and] at hR
    subst hR
    have d4 : decide (l < 0) = true := decide_eq_true q
    clear hiff hok
    go_enter Tryz.func97, Tryz.ntmps97
    go_wp2_with (first | ((with_reducible refine at_load ?_); refine wpList_bag_cell hX int_cell _ rfl rfl rfl rfl (by first | exact .head _) rfl ?_) | ((with_reducible refine at_load ?_); refine wpList_bag_cell hX bool_cell _ rfl rfl rfl rfl (by first | exact .head _) rfl ?_) | ((with_reducible refine at_load ?_); refine wpList_bag_part (k := 0) (ds := [_, _]) hX aggD sizD _ rfl rfl rfl rfl (by first | exact .head _) (fun jz vz hz => by rcases jz with _ | _ | jz <;> first | exact hz | (simp at hz)) rfl ?_) | (go_at_call 132; first | ((with_reducible refine (hw1 _).mono ?_); rintro e' w' ⟨rfl, hbb⟩; replace hX := hX.step hbb; clear hbb) | ((with_reducible refine (hw2 _).mono ?_); rintro e' w' ⟨rfl, hbb⟩; replace hX := hX.step hbb; clear hbb) | ((with_reducible refine (hw3 _).mono ?_); rintro e' w' ⟨rfl, hbb⟩; replace hX := hX.step hbb; clear hbb)) | (go_at_call 133; (with_reducible refine (hrd _ hX.below).mono ?_); rintro e' w' ⟨rfl, hbb⟩; replace hX := hX.step hbb; clear hbb))
    go_ret
    exact ⟨rfl, hX.below⟩
  have d4 : decide (l < 0) = false := decide_eq_false q
  have q7 := hid q
  clear q
  by_cases q : 8 < l
  · have hok : ok = false := by cases ok; rfl; have := hiff.1 rfl; simp_all <;> omega
    rw [hok, Bool.false_and] at hR
    subst hR
    have d5 : decide (8 < l) = true := decide_eq_true q
    clear hiff hok
    go_enter Tryz.func97, Tryz.ntmps97
    go_wp2_with (first | ((with_reducible refine at_load ?_); refine wpList_bag_cell hX int_cell _ rfl rfl rfl rfl (by first | exact .head _) rfl ?_) | ((with_reducible refine at_load ?_); refine wpList_bag_cell hX bool_cell _ rfl rfl rfl rfl (by first | exact .head _) rfl ?_) | ((with_reducible refine at_load ?_); refine wpList_bag_part (k := 0) (ds := [_, _]) hX aggD sizD _ rfl rfl rfl rfl (by first | exact .head _) (fun jz vz hz => by rcases jz with _ | _ | jz <;> first | exact hz | (simp at hz)) rfl ?_) | (go_at_call 132; first | ((with_reducible refine (hw1 _).mono ?_); rintro e' w' ⟨rfl, hbb⟩; replace hX := hX.step hbb; clear hbb) | ((with_reducible refine (hw2 _).mono ?_); rintro e' w' ⟨rfl, hbb⟩; replace hX := hX.step hbb; clear hbb) | ((with_reducible refine (hw3 _).mono ?_); rintro e' w' ⟨rfl, hbb⟩; replace hX := hX.step hbb; clear hbb)) | (go_at_call 133; (with_reducible refine (hrd _ hX.below).mono ?_); rintro e' w' ⟨rfl, hbb⟩; replace hX := hX.step hbb; clear hbb))
    go_ret
    exact ⟨rfl, hX.below⟩
  have d5 : decide (8 < l) = false := decide_eq_false q
  have q8 := hid q
  clear q
  have hiff2 : ok = true ↔ r = decide (l = 0) ∧ (l = 0 ∨ (c ≠ 0 ∧ w1 ≠ 0)) := by
    rw [hiff]
    exact ⟨fun h => h.2.2.2.2.2.2, fun h => ⟨⟨show 0 ≤ c from q1, by have := (show ¬ 3 < c from q2); omega⟩, q3, q4, q5, q6, ⟨by have := (show ¬ l < 0 from q7); omega, by have := (show ¬ 8 < l from q8); omega⟩, h⟩⟩
  clear hiff q1 q2 q3 q4 q5 q6 q7 q8 ha0
  by_cases hl0 : l = 0
  · subst hl0
    cases r
    · have hok : ok = false := by cases ok; rfl; have := hiff2.1 rfl; simp_all
      rw [hok, Bool.false_and] at hR
      subst hR
      clear hiff2 hok
      go_enter Tryz.func97, Tryz.ntmps97
      go_wp2_with (first | ((with_reducible refine at_load ?_); refine wpList_bag_cell hX int_cell _ rfl rfl rfl rfl (by first | exact .head _) rfl ?_) | ((with_reducible refine at_load ?_); refine wpList_bag_cell hX bool_cell _ rfl rfl rfl rfl (by first | exact .head _) rfl ?_) | ((with_reducible refine at_load ?_); refine wpList_bag_part (k := 0) (ds := [_, _]) hX aggD sizD _ rfl rfl rfl rfl (by first | exact .head _) (fun jz vz hz => by rcases jz with _ | _ | jz <;> first | exact hz | (simp at hz)) rfl ?_) | (go_at_call 132; first | ((with_reducible refine (hw1 _).mono ?_); rintro e' w' ⟨rfl, hbb⟩; replace hX := hX.step hbb; clear hbb) | ((with_reducible refine (hw2 _).mono ?_); rintro e' w' ⟨rfl, hbb⟩; replace hX := hX.step hbb; clear hbb) | ((with_reducible refine (hw3 _).mono ?_); rintro e' w' ⟨rfl, hbb⟩; replace hX := hX.step hbb; clear hbb)) | (go_at_call 133; (with_reducible refine (hrd _ hX.below).mono ?_); rintro e' w' ⟨rfl, hbb⟩; replace hX := hX.step hbb; clear hbb))
      go_ret
      exact ⟨rfl, hX.below⟩
    · have hok : ok = true := hiff2.2 ⟨rfl, .inl rfl⟩
      rw [hok, Bool.true_and] at hR
      subst hR
      clear hiff2 hok
      go_enter Tryz.func97, Tryz.ntmps97
      go_wp2_with (first | ((with_reducible refine at_load ?_); refine wpList_bag_cell hX int_cell _ rfl rfl rfl rfl (by first | exact .head _) rfl ?_) | ((with_reducible refine at_load ?_); refine wpList_bag_cell hX bool_cell _ rfl rfl rfl rfl (by first | exact .head _) rfl ?_) | ((with_reducible refine at_load ?_); refine wpList_bag_part (k := 0) (ds := [_, _]) hX aggD sizD _ rfl rfl rfl rfl (by first | exact .head _) (fun jz vz hz => by rcases jz with _ | _ | jz <;> first | exact hz | (simp at hz)) rfl ?_) | (go_at_call 132; first | ((with_reducible refine (hw1 _).mono ?_); rintro e' w' ⟨rfl, hbb⟩; replace hX := hX.step hbb; clear hbb) | ((with_reducible refine (hw2 _).mono ?_); rintro e' w' ⟨rfl, hbb⟩; replace hX := hX.step hbb; clear hbb) | ((with_reducible refine (hw3 _).mono ?_); rintro e' w' ⟨rfl, hbb⟩; replace hX := hX.step hbb; clear hbb)) | (go_at_call 133; (with_reducible refine (hrd _ hX.below).mono ?_); rintro e' w' ⟨rfl, hbb⟩; replace hX := hX.step hbb; clear hbb))
      go_ret
      exact ⟨rfl, hX.below⟩
  have l1 : (l == 0) = false := by simpa using hl0
  have l2 : (l != 0) = true := by simpa using hl0
  cases r
  · by_cases hc0 : c = 0
    · have hok : ok = false := by
        cases ok
        · rfl
        · rcases (hiff2.1 rfl).2 with h | h
          · exact absurd h hl0
          · exact absurd hc0 h.1
      rw [hok, Bool.false_and] at hR
      subst hR hc0
      clear hiff2 hok
      go_enter Tryz.func97, Tryz.ntmps97
      go_wp2_with (first | ((with_reducible refine at_load ?_); refine wpList_bag_cell hX int_cell _ rfl rfl rfl rfl (by first | exact .head _) rfl ?_) | ((with_reducible refine at_load ?_); refine wpList_bag_cell hX bool_cell _ rfl rfl rfl rfl (by first | exact .head _) rfl ?_) | ((with_reducible refine at_load ?_); refine wpList_bag_part (k := 0) (ds := [_, _]) hX aggD sizD _ rfl rfl rfl rfl (by first | exact .head _) (fun jz vz hz => by rcases jz with _ | _ | jz <;> first | exact hz | (simp at hz)) rfl ?_) | (go_at_call 132; first | ((with_reducible refine (hw1 _).mono ?_); rintro e' w' ⟨rfl, hbb⟩; replace hX := hX.step hbb; clear hbb) | ((with_reducible refine (hw2 _).mono ?_); rintro e' w' ⟨rfl, hbb⟩; replace hX := hX.step hbb; clear hbb) | ((with_reducible refine (hw3 _).mono ?_); rintro e' w' ⟨rfl, hbb⟩; replace hX := hX.step hbb; clear hbb)) | (go_at_call 133; (with_reducible refine (hrd _ hX.below).mono ?_); rintro e' w' ⟨rfl, hbb⟩; replace hX := hX.step hbb; clear hbb))
      go_ret
      exact ⟨rfl, hX.below⟩
    have l3 : (c == 0) = false := by simpa using hc0
    by_cases hw0 : w1 = 0
    · have hok : ok = false := by
        cases ok
        · rfl
        · rcases (hiff2.1 rfl).2 with h | h
          · exact absurd h hl0
          · exact absurd hw0 h.2
      rw [hok, Bool.false_and] at hR
      subst hR hw0
      clear hiff2 hok
      go_enter Tryz.func97, Tryz.ntmps97
      go_wp2_with (first | ((with_reducible refine at_load ?_); refine wpList_bag_cell hX int_cell _ rfl rfl rfl rfl (by first | exact .head _) rfl ?_) | ((with_reducible refine at_load ?_); refine wpList_bag_cell hX bool_cell _ rfl rfl rfl rfl (by first | exact .head _) rfl ?_) | ((with_reducible refine at_load ?_); refine wpList_bag_part (k := 0) (ds := [_, _]) hX aggD sizD _ rfl rfl rfl rfl (by first | exact .head _) (fun jz vz hz => by rcases jz with _ | _ | jz <;> first | exact hz | (simp at hz)) rfl ?_) | (go_at_call 132; first | ((with_reducible refine (hw1 _).mono ?_); rintro e' w' ⟨rfl, hbb⟩; replace hX := hX.step hbb; clear hbb) | ((with_reducible refine (hw2 _).mono ?_); rintro e' w' ⟨rfl, hbb⟩; replace hX := hX.step hbb; clear hbb) | ((with_reducible refine (hw3 _).mono ?_); rintro e' w' ⟨rfl, hbb⟩; replace hX := hX.step hbb; clear hbb)) | (go_at_call 133; (with_reducible refine (hrd _ hX.below).mono ?_); rintro e' w' ⟨rfl, hbb⟩; replace hX := hX.step hbb; clear hbb))
      go_ret
      exact ⟨rfl, hX.below⟩
    have l4 : (w1 == 0) = false := by simpa using hw0
    have hok : ok = true := hiff2.2 ⟨by simp [hl0], .inr ⟨hc0, hw0⟩⟩
    rw [hok, Bool.true_and] at hR
    subst hR
    clear hiff2 hok hc0 hw0 hl0
    go_enter Tryz.func97, Tryz.ntmps97
    go_wp2_with (first | ((with_reducible refine at_load ?_); refine wpList_bag_cell hX int_cell _ rfl rfl rfl rfl (by first | exact .head _) rfl ?_) | ((with_reducible refine at_load ?_); refine wpList_bag_cell hX bool_cell _ rfl rfl rfl rfl (by first | exact .head _) rfl ?_) | ((with_reducible refine at_load ?_); refine wpList_bag_part (k := 0) (ds := [_, _]) hX aggD sizD _ rfl rfl rfl rfl (by first | exact .head _) (fun jz vz hz => by rcases jz with _ | _ | jz <;> first | exact hz | (simp at hz)) rfl ?_) | (go_at_call 132; first | ((with_reducible refine (hw1 _).mono ?_); rintro e' w' ⟨rfl, hbb⟩; replace hX := hX.step hbb; clear hbb) | ((with_reducible refine (hw2 _).mono ?_); rintro e' w' ⟨rfl, hbb⟩; replace hX := hX.step hbb; clear hbb) | ((with_reducible refine (hw3 _).mono ?_); rintro e' w' ⟨rfl, hbb⟩; replace hX := hX.step hbb; clear hbb)) | (go_at_call 133; (with_reducible refine (hrd _ hX.below).mono ?_); rintro e' w' ⟨rfl, hbb⟩; replace hX := hX.step hbb; clear hbb))
    go_ret
    exact ⟨rfl, hX.below⟩
  · have hok : ok = false := by cases ok; rfl; have := hiff2.1 rfl; simp_all
    rw [hok, Bool.false_and] at hR
    subst hR
    clear hiff2 hok
    go_enter Tryz.func97, Tryz.ntmps97
    go_wp2_with (first | ((with_reducible refine at_load ?_); refine wpList_bag_cell hX int_cell _ rfl rfl rfl rfl (by first | exact .head _) rfl ?_) | ((with_reducible refine at_load ?_); refine wpList_bag_cell hX bool_cell _ rfl rfl rfl rfl (by first | exact .head _) rfl ?_) | ((with_reducible refine at_load ?_); refine wpList_bag_part (k := 0) (ds := [_, _]) hX aggD sizD _ rfl rfl rfl rfl (by first | exact .head _) (fun jz vz hz => by rcases jz with _ | _ | jz <;> first | exact hz | (simp at hz)) rfl ?_) | (go_at_call 132; first | ((with_reducible refine (hw1 _).mono ?_); rintro e' w' ⟨rfl, hbb⟩; replace hX := hX.step hbb; clear hbb) | ((with_reducible refine (hw2 _).mono ?_); rintro e' w' ⟨rfl, hbb⟩; replace hX := hX.step hbb; clear hbb) | ((with_reducible refine (hw3 _).mono ?_); rintro e' w' ⟨rfl, hbb⟩; replace hX := hX.step hbb; clear hbb)) | (go_at_call 133; (with_reducible refine (hrd _ hX.below).mono ?_); rintro e' w' ⟨rfl, hbb⟩; replace hX := hX.step hbb; clear hbb))
    go_ret
    exact ⟨rfl, hX.below⟩
end Go.Proofs.YtlegcfjafdihlaaGreatDoor
/-
  at, spoilt, differs, sector of the reference. Conditions: the bytes and words are there; the words are words.
-/
namespace Go.Proofs.YtlegcfjafdihlaaGreatDoor
open Go.RowKit
set_option linter.unusedSimpArgs false
set_option linter.unusedVariables false
set_option maxHeartbeats 4000000
set_option maxRecDepth 100000
attribute [local irreducible] wpQuiet

def byt (s : ByteArray) (k : Nat) : Int := ((s.data.getD k 0).toNat : Int)
/-- The word i of a sector. -/
def atV (s : ByteArray) (i : Nat) : Int := byt s (2 * i) + 256 * byt s (2 * i + 1)
/-- Has one of n words from a on wrong parity? -/
def spV (B : List Int) (a : Int) (n : Nat) : Bool := B.any fun b => decide (a ≤ b) && decide (b < a + 2 * (n : Int))
/-- Do n words from A on differ from a sector? -/
def dfW (m : List Int) (A n : Nat) (s : ByteArray) : Bool := (List.range n).any fun i => decide (m.getD (A + i) 0 ≠ atV s i)
end Go.Proofs.YtlegcfjafdihlaaGreatDoor
/-
  sector, New of the reference. Conditions: the words are there and are words; at most 2^40 sectors and bad ones.
-/
namespace Go.Proofs.YtlegcfjafdihlaaGreatDoor
open Go.RowKit
set_option linter.unusedSimpArgs false
set_option linter.unusedVariables false
set_option maxHeartbeats 4000000
set_option maxRecDepth 100000
attribute [local irreducible] wpQuiet

/-- The bytes of k words from A on. -/
def secL (m : List Int) (A k : Nat) : List UInt8 := (List.range k).flatMap fun i => [UInt8.ofNat (m.getD (A + i) 0 % 256).toNat, UInt8.ofNat (m.getD (A + i) 0 / 256).toNat]
/-- The sector of n words from A on. -/
def secV (m : List Int) (A n : Nat) : ByteArray := ⟨(secL m A n ++ List.replicate (128 - 2 * n) 0).toArray⟩
end Go.Proofs.YtlegcfjafdihlaaGreatDoor
