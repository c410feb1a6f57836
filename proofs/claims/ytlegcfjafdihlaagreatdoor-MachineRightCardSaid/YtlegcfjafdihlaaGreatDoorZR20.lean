import Derived.Test.YtlegcfjafdihlaaGreatDoorZR19
/-
  Write of the program. Conditions: at most 2^40 sectors and bad ones.
-/
namespace Go.Proofs.YtlegcfjafdihlaaGreatDoor
open Go.RowKit
set_option linter.unusedSimpArgs false
set_option linter.unusedVariables false
set_option maxHeartbeats 4000000
set_option maxRecDepth 100000
attribute [local irreducible] wpQuiet

theorem prightK_any (K : Dk) (hl : K.D.B.length ≤ 1099511627776) (hl2 : K.D.S.length ≤ 1099511627776) (vs vb : Value) (w : World) (hs : Sts w vs K.D.S) (hb : Its w vb K.D.B) : Calls Tryz.prog 300 #[.agg #[vs, vb, .bool (K).n, .bool (K).r, .bool (K).e, .int .i64 (K).c, .int .i64 (K).w, .int .i64 (K).a, .int .i64 (K).s, .int .i64 (K).l]] w fun e' w' => e' = .returned (.bool K.right) ∧ Below w.heap.size w w' := by
  obtain ⟨A1, c1, rfl, _⟩ := hs.form
  obtain ⟨A2, c2, rfl, _⟩ := hb.form
  obtain ⟨D, n, r, e, c, w1, a, s, l⟩ := K
  dsimp only at *
  have hX := (Bag.nil w).new 45 [(.slice A1 D.S.length c1), (.slice A2 D.B.length c2), .bool n, .bool r, .bool e, .int .i64 c, .int .i64 w1, .int .i64 a, .int .i64 s, .int .i64 l]
  have hdr := fun wz (h : Below w.heap.size w wz) => pright_any D hl hl2 (.slice A1 D.S.length c1) (.slice A2 D.B.length c2) wz (hs.below h) (hb.below h)
  have htr := fun wz => ptrans_any n r e c w1 a s l (.slice A1 D.S.length c1) (.slice A2 D.B.length c2) wz
  have q1 := fun wz => pwithin_any c 3 wz
  have q2 := fun wz => pwithin_any l 8 wz
  have q3 := fun wz => pwithin_any w1 65535 wz
  have q4 := fun wz => pwithin_any a 65535 wz
  have q5 := fun wz => pwithin_any s 65535 wz
  have hR : Dk.right (Dk.mk D n r e c w1 a s l) = (inW c 3 && inW l 8 && inW w1 65535 && inW a 65535 && inW s 65535 && decide (a % 2 = 0) && (r == decide (l = 0)) && (decide (l = 0) || trB c w1) && D.right) := by
    rw [Bool.eq_iff_iff]
    unfold Dk.right Dk.ok wordV inW trB
    simp only [Bool.and_eq_true, Bool.or_eq_true, decide_eq_true_eq, beq_iff_eq]
    constructor
    · rintro ⟨⟨⟨⟨⟨⟨⟨⟨⟨⟨h1, h2⟩, h3⟩, h4⟩, h5⟩, h6⟩, h7⟩, h8⟩, h9⟩, h10⟩, h11⟩; exact ⟨⟨⟨⟨⟨⟨⟨⟨⟨h1, h2⟩, ⟨h7, h8⟩⟩, h3⟩, h4⟩, h5⟩, h6⟩, h9⟩, h10⟩, h11⟩
    · rintro ⟨⟨⟨⟨⟨⟨⟨⟨⟨h1, h2⟩, ⟨h7, h8⟩⟩, h3⟩, h4⟩, h5⟩, h6⟩, h9⟩, h10⟩, h11⟩; exact ⟨⟨⟨⟨⟨⟨⟨⟨⟨⟨h1, h2⟩, h3⟩, h4⟩, h5⟩, h6⟩, h7⟩, h8⟩, h9⟩, h10⟩, h11⟩
  rw [hR]
  clear hR
  have a1 : inW c 3 = true → 0 ≤ c := fun h => ((inW_iff _ _).1 h).1
  have a4 : inW a 65535 = true → 0 ≤ a := fun h => ((inW_iff _ _).1 h).1
  cases h0 : inW c 3 with
  | false =>
    rw [h0] at q1
    simp only [Bool.false_and, Bool.and_false]
    go_enter Tryz.func300, Tryz.ntmps300
    go_wp2_with (first | ((with_reducible refine at_load ?_); refine wpList_bag_cell hX int_cell _ rfl rfl rfl rfl (.head _) rfl ?_) | ((with_reducible refine at_load ?_); refine wpList_bag_cell hX bool_cell _ rfl rfl rfl rfl (.head _) rfl ?_) | ((with_reducible refine at_load ?_); refine wpList_bag_part (k := 0) hX aggK sizK _ rfl rfl rfl rfl (.head _) (fun jz vz hz => (congrArg (fun n => ([_, _, _, _, _, _, _, _, _, _] : List Value)[n]?) (Nat.zero_add jz)).trans hz) rfl ?_) | (go_at_call 304; (with_reducible refine (q1 _).mono ?_); rintro e' wc ⟨rfl, hbb⟩; replace hX := hX.step hbb; clear hbb) | (go_at_call 304; (with_reducible refine (q2 _).mono ?_); rintro e' wc ⟨rfl, hbb⟩; replace hX := hX.step hbb; clear hbb) | (go_at_call 304; (with_reducible refine (q3 _).mono ?_); rintro e' wc ⟨rfl, hbb⟩; replace hX := hX.step hbb; clear hbb) | (go_at_call 304; (with_reducible refine (q4 _).mono ?_); rintro e' wc ⟨rfl, hbb⟩; replace hX := hX.step hbb; clear hbb) | (go_at_call 304; (with_reducible refine (q5 _).mono ?_); rintro e' wc ⟨rfl, hbb⟩; replace hX := hX.step hbb; clear hbb) | (go_at_call 305; (with_reducible refine (htr _).mono ?_); rintro e' wc ⟨rfl, hbb⟩; replace hX := hX.step hbb; clear hbb) | ((with_reducible refine at_load ?_); refine wpList_bag_part (k := 0) (ds := [_, _]) hX aggD sizD _ rfl rfl rfl rfl (by first | exact .head _) (fun jz vz hz => by rcases jz with _ | _ | jz <;> first | exact hz | (simp at hz)) rfl ?_) | (go_at_call 306; (with_reducible refine (hdr _ hX.below).mono ?_); rintro e' wc ⟨rfl, hbb⟩; replace hX := hX.step hbb; clear hbb))
    go_ret
    exact ⟨by simp, hX.below⟩
  | true =>
  rw [h0] at q1
  cases h1 : inW l 8 with
  | false =>
    rw [h1] at q2
    simp only [Bool.false_and, Bool.and_false]
    go_enter Tryz.func300, Tryz.ntmps300
    go_wp2_with (first | ((with_reducible refine at_load ?_); refine wpList_bag_cell hX int_cell _ rfl rfl rfl rfl (.head _) rfl ?_) | ((with_reducible refine at_load ?_); refine wpList_bag_cell hX bool_cell _ rfl rfl rfl rfl (.head _) rfl ?_) | ((with_reducible refine at_load ?_); refine wpList_bag_part (k := 0) hX aggK sizK _ rfl rfl rfl rfl (.head _) (fun jz vz hz => (congrArg (fun n => ([_, _, _, _, _, _, _, _, _, _] : List Value)[n]?) (Nat.zero_add jz)).trans hz) rfl ?_) | (go_at_call 304; (with_reducible refine (q1 _).mono ?_); rintro e' wc ⟨rfl, hbb⟩; replace hX := hX.step hbb; clear hbb) | (go_at_call 304; (with_reducible refine (q2 _).mono ?_); rintro e' wc ⟨rfl, hbb⟩; replace hX := hX.step hbb; clear hbb) | (go_at_call 304; (with_reducible refine (q3 _).mono ?_); rintro e' wc ⟨rfl, hbb⟩; replace hX := hX.step hbb; clear hbb) | (go_at_call 304; (with_reducible refine (q4 _).mono ?_); rintro e' wc ⟨rfl, hbb⟩; replace hX := hX.step hbb; clear hbb) | (go_at_call 304; (with_reducible refine (q5 _).mono ?_); rintro e' wc ⟨rfl, hbb⟩; replace hX := hX.step hbb; clear hbb) | (go_at_call 305; (with_reducible refine (htr _).mono ?_); rintro e' wc ⟨rfl, hbb⟩; replace hX := hX.step hbb; clear hbb) | ((with_reducible refine at_load ?_); refine wpList_bag_part (k := 0) (ds := [_, _]) hX aggD sizD _ rfl rfl rfl rfl (by first | exact .head _) (fun jz vz hz => by rcases jz with _ | _ | jz <;> first | exact hz | (simp at hz)) rfl ?_) | (go_at_call 306; (with_reducible refine (hdr _ hX.below).mono ?_); rintro e' wc ⟨rfl, hbb⟩; replace hX := hX.step hbb; clear hbb))
    go_ret
    exact ⟨by simp, hX.below⟩
  | true =>
  rw [h1] at q2
  cases h2 : inW w1 65535 with
  | false =>
    rw [h2] at q3
    simp only [Bool.false_and, Bool.and_false]
    go_enter Tryz.func300, Tryz.ntmps300
    go_wp2_with (first | ((with_reducible refine at_load ?_); refine wpList_bag_cell hX int_cell _ rfl rfl rfl rfl (.head _) rfl ?_) | ((with_reducible refine at_load ?_); refine wpList_bag_cell hX bool_cell _ rfl rfl rfl rfl (.head _) rfl ?_) | ((with_reducible refine at_load ?_); refine wpList_bag_part (k := 0) hX aggK sizK _ rfl rfl rfl rfl (.head _) (fun jz vz hz => (congrArg (fun n => ([_, _, _, _, _, _, _, _, _, _] : List Value)[n]?) (Nat.zero_add jz)).trans hz) rfl ?_) | (go_at_call 304; (with_reducible refine (q1 _).mono ?_); rintro e' wc ⟨rfl, hbb⟩; replace hX := hX.step hbb; clear hbb) | (go_at_call 304; (with_reducible refine (q2 _).mono ?_); rintro e' wc ⟨rfl, hbb⟩; replace hX := hX.step hbb; clear hbb) | (go_at_call 304; (with_reducible refine (q3 _).mono ?_); rintro e' wc ⟨rfl, hbb⟩; replace hX := hX.step hbb; clear hbb) | (go_at_call 304; (with_reducible refine (q4 _).mono ?_); rintro e' wc ⟨rfl, hbb⟩; replace hX := hX.step hbb; clear hbb) | (go_at_call 304; (with_reducible refine (q5 _).mono ?_); rintro e' wc ⟨rfl, hbb⟩; replace hX := hX.step hbb; clear hbb) | (go_at_call 305; (with_reducible refine (htr _).mono ?_); rintro e' wc ⟨rfl, hbb⟩; replace hX := hX.step hbb; clear hbb) | ((with_reducible refine at_load ?_); refine wpList_bag_part (k := 0) (ds := [_, _]) hX aggD sizD _ rfl rfl rfl rfl (by first | exact .head _) (fun jz vz hz => by rcases jz with _ | _ | jz <;> first | exact hz | (simp at hz)) rfl ?_) | (go_at_call 306; (with_reducible refine (hdr _ hX.below).mono ?_); rintro e' wc ⟨rfl, hbb⟩; replace hX := hX.step hbb; clear hbb))
    go_ret
    exact ⟨by simp, hX.below⟩
  | true =>
  rw [h2] at q3
  cases h3 : inW a 65535 with
  | false =>
    rw [h3] at q4
    simp only [Bool.false_and, Bool.and_false]
    go_enter Tryz.func300, Tryz.ntmps300
    go_wp2_with (first | ((with_reducible refine at_load ?_); refine wpList_bag_cell hX int_cell _ rfl rfl rfl rfl (.head _) rfl ?_) | ((with_reducible refine at_load ?_); refine wpList_bag_cell hX bool_cell _ rfl rfl rfl rfl (.head _) rfl ?_) | ((with_reducible refine at_load ?_); refine wpList_bag_part (k := 0) hX aggK sizK _ rfl rfl rfl rfl (.head _) (fun jz vz hz => (congrArg (fun n => ([_, _, _, _, _, _, _, _, _, _] : List Value)[n]?) (Nat.zero_add jz)).trans hz) rfl ?_) | (go_at_call 304; (with_reducible refine (q1 _).mono ?_); rintro e' wc ⟨rfl, hbb⟩; replace hX := hX.step hbb; clear hbb) | (go_at_call 304; (with_reducible refine (q2 _).mono ?_); rintro e' wc ⟨rfl, hbb⟩; replace hX := hX.step hbb; clear hbb) | (go_at_call 304; (with_reducible refine (q3 _).mono ?_); rintro e' wc ⟨rfl, hbb⟩; replace hX := hX.step hbb; clear hbb) | (go_at_call 304; (with_reducible refine (q4 _).mono ?_); rintro e' wc ⟨rfl, hbb⟩; replace hX := hX.step hbb; clear hbb) | (go_at_call 304; (with_reducible refine (q5 _).mono ?_); rintro e' wc ⟨rfl, hbb⟩; replace hX := hX.step hbb; clear hbb) | (go_at_call 305; (with_reducible refine (htr _).mono ?_); rintro e' wc ⟨rfl, hbb⟩; replace hX := hX.step hbb; clear hbb) | ((with_reducible refine at_load ?_); refine wpList_bag_part (k := 0) (ds := [_, _]) hX aggD sizD _ rfl rfl rfl rfl (by first | exact .head _) (fun jz vz hz => by rcases jz with _ | _ | jz <;> first | exact hz | (simp at hz)) rfl ?_) | (go_at_call 306; (with_reducible refine (hdr _ hX.below).mono ?_); rintro e' wc ⟨rfl, hbb⟩; replace hX := hX.step hbb; clear hbb))
    go_ret
    exact ⟨by simp, hX.below⟩
  | true =>
  rw [h3] at q4
  cases h4 : inW s 65535 with
  | false =>
    rw [h4] at q5
    simp only [Bool.false_and, Bool.and_false]
    go_enter Tryz.func300, Tryz.ntmps300
    go_wp2_with (first | ((with_reducible refine at_load ?_); refine wpList_bag_cell hX int_cell _ rfl rfl rfl rfl (.head _) rfl ?_) | ((with_reducible refine at_load ?_); refine wpList_bag_cell hX bool_cell _ rfl rfl rfl rfl (.head _) rfl ?_) | ((with_reducible refine at_load ?_); refine wpList_bag_part (k := 0) hX aggK sizK _ rfl rfl rfl rfl (.head _) (fun jz vz hz => (congrArg (fun n => ([_, _, _, _, _, _, _, _, _, _] : List Value)[n]?) (Nat.zero_add jz)).trans hz) rfl ?_) | (go_at_call 304; (with_reducible refine (q1 _).mono ?_); rintro e' wc ⟨rfl, hbb⟩; replace hX := hX.step hbb; clear hbb) | (go_at_call 304; (with_reducible refine (q2 _).mono ?_); rintro e' wc ⟨rfl, hbb⟩; replace hX := hX.step hbb; clear hbb) | (go_at_call 304; (with_reducible refine (q3 _).mono ?_); rintro e' wc ⟨rfl, hbb⟩; replace hX := hX.step hbb; clear hbb) | (go_at_call 304; (with_reducible refine (q4 _).mono ?_); rintro e' wc ⟨rfl, hbb⟩; replace hX := hX.step hbb; clear hbb) | (go_at_call 304; (with_reducible refine (q5 _).mono ?_); rintro e' wc ⟨rfl, hbb⟩; replace hX := hX.step hbb; clear hbb) | (go_at_call 305; (with_reducible refine (htr _).mono ?_); rintro e' wc ⟨rfl, hbb⟩; replace hX := hX.step hbb; clear hbb) | ((with_reducible refine at_load ?_); refine wpList_bag_part (k := 0) (ds := [_, _]) hX aggD sizD _ rfl rfl rfl rfl (by first | exact .head _) (fun jz vz hz => by rcases jz with _ | _ | jz <;> first | exact hz | (simp at hz)) rfl ?_) | (go_at_call 306; (with_reducible refine (hdr _ hX.below).mono ?_); rintro e' wc ⟨rfl, hbb⟩; replace hX := hX.step hbb; clear hbb))
    go_ret
    exact ⟨by simp, hX.below⟩
  | true =>
  rw [h4] at q5
  simp only [Bool.true_and]
  have ha := a4 h3
  have t1 : a.tmod 2 = a % 2 := Int.tmod_eq_emod_of_nonneg ha
  have t2 : IntKind.i64.wrap (a % 2) = a % 2 := by rw [wrap_i64]; unfold wrap64; omega
  by_cases h5 : ¬ a % 2 = 0
  · have d5 : (a % 2 != 0) = true := by simpa using h5
    have d6 : decide (a % 2 = 0) = false := by simpa using h5
    rw [d6]
    simp only [Bool.false_and, Bool.and_false]
    go_enter Tryz.func300, Tryz.ntmps300
    go_wp2_with (first | ((with_reducible refine at_load ?_); refine wpList_bag_cell hX int_cell _ rfl rfl rfl rfl (.head _) rfl ?_) | ((with_reducible refine at_load ?_); refine wpList_bag_cell hX bool_cell _ rfl rfl rfl rfl (.head _) rfl ?_) | ((with_reducible refine at_load ?_); refine wpList_bag_part (k := 0) hX aggK sizK _ rfl rfl rfl rfl (.head _) (fun jz vz hz => (congrArg (fun n => ([_, _, _, _, _, _, _, _, _, _] : List Value)[n]?) (Nat.zero_add jz)).trans hz) rfl ?_) | (go_at_call 304; (with_reducible refine (q1 _).mono ?_); rintro e' wc ⟨rfl, hbb⟩; replace hX := hX.step hbb; clear hbb) | (go_at_call 304; (with_reducible refine (q2 _).mono ?_); rintro e' wc ⟨rfl, hbb⟩; replace hX := hX.step hbb; clear hbb) | (go_at_call 304; (with_reducible refine (q3 _).mono ?_); rintro e' wc ⟨rfl, hbb⟩; replace hX := hX.step hbb; clear hbb) | (go_at_call 304; (with_reducible refine (q4 _).mono ?_); rintro e' wc ⟨rfl, hbb⟩; replace hX := hX.step hbb; clear hbb) | (go_at_call 304; (with_reducible refine (q5 _).mono ?_); rintro e' wc ⟨rfl, hbb⟩; replace hX := hX.step hbb; clear hbb) | (go_at_call 305; (with_reducible refine (htr _).mono ?_); rintro e' wc ⟨rfl, hbb⟩; replace hX := hX.step hbb; clear hbb) | ((with_reducible refine at_load ?_); refine wpList_bag_part (k := 0) (ds := [_, _]) hX aggD sizD _ rfl rfl rfl rfl (by first | exact .head _) (fun jz vz hz => by rcases jz with _ | _ | jz <;> first | exact hz | (simp at hz)) rfl ?_) | (go_at_call 306; (with_reducible refine (hdr _ hX.below).mono ?_); rintro e' wc ⟨rfl, hbb⟩; replace hX := hX.step hbb; clear hbb))
    go_ret
    exact ⟨by simp, hX.below⟩
  replace h5 : a % 2 = 0 := by omega
  have d5 : (a % 2 != 0) = false := by simpa using h5
  have d6 : decide (a % 2 = 0) = true := by simpa using h5
  rw [d6]
  simp only [Bool.true_and]
  clear d6
  by_cases h6 : l = 0
  · subst h6
    cases r
    · go_enter Tryz.func300, Tryz.ntmps300
      go_wp2_with (first | ((with_reducible refine at_load ?_); refine wpList_bag_cell hX int_cell _ rfl rfl rfl rfl (.head _) rfl ?_) | ((with_reducible refine at_load ?_); refine wpList_bag_cell hX bool_cell _ rfl rfl rfl rfl (.head _) rfl ?_) | ((with_reducible refine at_load ?_); refine wpList_bag_part (k := 0) hX aggK sizK _ rfl rfl rfl rfl (.head _) (fun jz vz hz => (congrArg (fun n => ([_, _, _, _, _, _, _, _, _, _] : List Value)[n]?) (Nat.zero_add jz)).trans hz) rfl ?_) | (go_at_call 304; (with_reducible refine (q1 _).mono ?_); rintro e' wc ⟨rfl, hbb⟩; replace hX := hX.step hbb; clear hbb) | (go_at_call 304; (with_reducible refine (q2 _).mono ?_); rintro e' wc ⟨rfl, hbb⟩; replace hX := hX.step hbb; clear hbb) | (go_at_call 304; (with_reducible refine (q3 _).mono ?_); rintro e' wc ⟨rfl, hbb⟩; replace hX := hX.step hbb; clear hbb) | (go_at_call 304; (with_reducible refine (q4 _).mono ?_); rintro e' wc ⟨rfl, hbb⟩; replace hX := hX.step hbb; clear hbb) | (go_at_call 304; (with_reducible refine (q5 _).mono ?_); rintro e' wc ⟨rfl, hbb⟩; replace hX := hX.step hbb; clear hbb) | (go_at_call 305; (with_reducible refine (htr _).mono ?_); rintro e' wc ⟨rfl, hbb⟩; replace hX := hX.step hbb; clear hbb) | ((with_reducible refine at_load ?_); refine wpList_bag_part (k := 0) (ds := [_, _]) hX aggD sizD _ rfl rfl rfl rfl (by first | exact .head _) (fun jz vz hz => by rcases jz with _ | _ | jz <;> first | exact hz | (simp at hz)) rfl ?_) | (go_at_call 306; (with_reducible refine (hdr _ hX.below).mono ?_); rintro e' wc ⟨rfl, hbb⟩; replace hX := hX.step hbb; clear hbb))
      go_ret
      exact ⟨by simp, hX.below⟩
    · go_enter Tryz.func300, Tryz.ntmps300
      go_wp2_with (first | ((with_reducible refine at_load ?_); refine wpList_bag_cell hX int_cell _ rfl rfl rfl rfl (.head _) rfl ?_) | ((with_reducible refine at_load ?_); refine wpList_bag_cell hX bool_cell _ rfl rfl rfl rfl (.head _) rfl ?_) | ((with_reducible refine at_load ?_); refine wpList_bag_part (k := 0) hX aggK sizK _ rfl rfl rfl rfl (.head _) (fun jz vz hz => (congrArg (fun n => ([_, _, _, _, _, _, _, _, _, _] : List Value)[n]?) (Nat.zero_add jz)).trans hz) rfl ?_) | (go_at_call 304; (with_reducible refine (q1 _).mono ?_); rintro e' wc ⟨rfl, hbb⟩; replace hX := hX.step hbb; clear hbb) | (go_at_call 304; (with_reducible refine (q2 _).mono ?_); rintro e' wc ⟨rfl, hbb⟩; replace hX := hX.step hbb; clear hbb) | (go_at_call 304; (with_reducible refine (q3 _).mono ?_); rintro e' wc ⟨rfl, hbb⟩; replace hX := hX.step hbb; clear hbb) | (go_at_call 304; (with_reducible refine (q4 _).mono ?_); rintro e' wc ⟨rfl, hbb⟩; replace hX := hX.step hbb; clear hbb) | (go_at_call 304; (with_reducible refine (q5 _).mono ?_); rintro e' wc ⟨rfl, hbb⟩; replace hX := hX.step hbb; clear hbb) | (go_at_call 305; (with_reducible refine (htr _).mono ?_); rintro e' wc ⟨rfl, hbb⟩; replace hX := hX.step hbb; clear hbb) | ((with_reducible refine at_load ?_); refine wpList_bag_part (k := 0) (ds := [_, _]) hX aggD sizD _ rfl rfl rfl rfl (by first | exact .head _) (fun jz vz hz => by rcases jz with _ | _ | jz <;> first | exact hz | (simp at hz)) rfl ?_) | (go_at_call 306; (with_reducible refine (hdr _ hX.below).mono ?_); rintro e' wc ⟨rfl, hbb⟩; replace hX := hX.step hbb; clear hbb))
      go_ret
      exact ⟨by simp, hX.below⟩
  · have d7 : (l != 0) = true := by simpa using h6
    have d8 : decide (l = 0) = false := by simpa using h6
    rw [d8]
    simp only [Bool.false_or]
    cases r
    · cases h7 : trB c w1 with
      | false =>
        rw [h7] at htr
        go_enter Tryz.func300, Tryz.ntmps300
        go_wp2_with (first | ((with_reducible refine at_load ?_); refine wpList_bag_cell hX int_cell _ rfl rfl rfl rfl (.head _) rfl ?_) | ((with_reducible refine at_load ?_); refine wpList_bag_cell hX bool_cell _ rfl rfl rfl rfl (.head _) rfl ?_) | ((with_reducible refine at_load ?_); refine wpList_bag_part (k := 0) hX aggK sizK _ rfl rfl rfl rfl (.head _) (fun jz vz hz => (congrArg (fun n => ([_, _, _, _, _, _, _, _, _, _] : List Value)[n]?) (Nat.zero_add jz)).trans hz) rfl ?_) | (go_at_call 304; (with_reducible refine (q1 _).mono ?_); rintro e' wc ⟨rfl, hbb⟩; replace hX := hX.step hbb; clear hbb) | (go_at_call 304; (with_reducible refine (q2 _).mono ?_); rintro e' wc ⟨rfl, hbb⟩; replace hX := hX.step hbb; clear hbb) | (go_at_call 304; (with_reducible refine (q3 _).mono ?_); rintro e' wc ⟨rfl, hbb⟩; replace hX := hX.step hbb; clear hbb) | (go_at_call 304; (with_reducible refine (q4 _).mono ?_); rintro e' wc ⟨rfl, hbb⟩; replace hX := hX.step hbb; clear hbb) | (go_at_call 304; (with_reducible refine (q5 _).mono ?_); rintro e' wc ⟨rfl, hbb⟩; replace hX := hX.step hbb; clear hbb) | (go_at_call 305; (with_reducible refine (htr _).mono ?_); rintro e' wc ⟨rfl, hbb⟩; replace hX := hX.step hbb; clear hbb) | ((with_reducible refine at_load ?_); refine wpList_bag_part (k := 0) (ds := [_, _]) hX aggD sizD _ rfl rfl rfl rfl (by first | exact .head _) (fun jz vz hz => by rcases jz with _ | _ | jz <;> first | exact hz | (simp at hz)) rfl ?_) | (go_at_call 306; (with_reducible refine (hdr _ hX.below).mono ?_); rintro e' wc ⟨rfl, hbb⟩; replace hX := hX.step hbb; clear hbb))
        go_ret
        exact ⟨by simp, hX.below⟩
      | true =>
        rw [h7] at htr
        go_enter Tryz.func300, Tryz.ntmps300
        go_wp2_with (first | ((with_reducible refine at_load ?_); refine wpList_bag_cell hX int_cell _ rfl rfl rfl rfl (.head _) rfl ?_) | ((with_reducible refine at_load ?_); refine wpList_bag_cell hX bool_cell _ rfl rfl rfl rfl (.head _) rfl ?_) | ((with_reducible refine at_load ?_); refine wpList_bag_part (k := 0) hX aggK sizK _ rfl rfl rfl rfl (.head _) (fun jz vz hz => (congrArg (fun n => ([_, _, _, _, _, _, _, _, _, _] : List Value)[n]?) (Nat.zero_add jz)).trans hz) rfl ?_) | (go_at_call 304; (with_reducible refine (q1 _).mono ?_); rintro e' wc ⟨rfl, hbb⟩; replace hX := hX.step hbb; clear hbb) | (go_at_call 304; (with_reducible refine (q2 _).mono ?_); rintro e' wc ⟨rfl, hbb⟩; replace hX := hX.step hbb; clear hbb) | (go_at_call 304; (with_reducible refine (q3 _).mono ?_); rintro e' wc ⟨rfl, hbb⟩; replace hX := hX.step hbb; clear hbb) | (go_at_call 304; (with_reducible refine (q4 _).mono ?_); rintro e' wc ⟨rfl, hbb⟩; replace hX := hX.step hbb; clear hbb) | (go_at_call 304; (with_reducible refine (q5 _).mono ?_); rintro e' wc ⟨rfl, hbb⟩; replace hX := hX.step hbb; clear hbb) | (go_at_call 305; (with_reducible refine (htr _).mono ?_); rintro e' wc ⟨rfl, hbb⟩; replace hX := hX.step hbb; clear hbb) | ((with_reducible refine at_load ?_); refine wpList_bag_part (k := 0) (ds := [_, _]) hX aggD sizD _ rfl rfl rfl rfl (by first | exact .head _) (fun jz vz hz => by rcases jz with _ | _ | jz <;> first | exact hz | (simp at hz)) rfl ?_) | (go_at_call 306; (with_reducible refine (hdr _ hX.below).mono ?_); rintro e' wc ⟨rfl, hbb⟩; replace hX := hX.step hbb; clear hbb))
        go_ret
        exact ⟨by simp, hX.below⟩
    · go_enter Tryz.func300, Tryz.ntmps300
      go_wp2_with (first | ((with_reducible refine at_load ?_); refine wpList_bag_cell hX int_cell _ rfl rfl rfl rfl (.head _) rfl ?_) | ((with_reducible refine at_load ?_); refine wpList_bag_cell hX bool_cell _ rfl rfl rfl rfl (.head _) rfl ?_) | ((with_reducible refine at_load ?_); refine wpList_bag_part (k := 0) hX aggK sizK _ rfl rfl rfl rfl (.head _) (fun jz vz hz => (congrArg (fun n => ([_, _, _, _, _, _, _, _, _, _] : List Value)[n]?) (Nat.zero_add jz)).trans hz) rfl ?_) | (go_at_call 304; (with_reducible refine (q1 _).mono ?_); rintro e' wc ⟨rfl, hbb⟩; replace hX := hX.step hbb; clear hbb) | (go_at_call 304; (with_reducible refine (q2 _).mono ?_); rintro e' wc ⟨rfl, hbb⟩; replace hX := hX.step hbb; clear hbb) | (go_at_call 304; (with_reducible refine (q3 _).mono ?_); rintro e' wc ⟨rfl, hbb⟩; replace hX := hX.step hbb; clear hbb) | (go_at_call 304; (with_reducible refine (q4 _).mono ?_); rintro e' wc ⟨rfl, hbb⟩; replace hX := hX.step hbb; clear hbb) | (go_at_call 304; (with_reducible refine (q5 _).mono ?_); rintro e' wc ⟨rfl, hbb⟩; replace hX := hX.step hbb; clear hbb) | (go_at_call 305; (with_reducible refine (htr _).mono ?_); rintro e' wc ⟨rfl, hbb⟩; replace hX := hX.step hbb; clear hbb) | ((with_reducible refine at_load ?_); refine wpList_bag_part (k := 0) (ds := [_, _]) hX aggD sizD _ rfl rfl rfl rfl (by first | exact .head _) (fun jz vz hz => by rcases jz with _ | _ | jz <;> first | exact hz | (simp at hz)) rfl ?_) | (go_at_call 306; (with_reducible refine (hdr _ hX.below).mono ?_); rintro e' wc ⟨rfl, hbb⟩; replace hX := hX.step hbb; clear hbb))
      go_ret
      exact ⟨by simp, hX.below⟩
end Go.Proofs.YtlegcfjafdihlaaGreatDoor
