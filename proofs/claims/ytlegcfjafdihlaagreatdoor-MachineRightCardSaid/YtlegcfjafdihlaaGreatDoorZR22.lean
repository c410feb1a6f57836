import Derived.Test.YtlegcfjafdihlaaGreatDoorZR21
import Derived.Test.YtlegcfjafdihlaaGreatDoorZR15
import Derived.Lib.SliceRun
/-
  slices.ContainsFunc with tooLong, slices.Clone, copied, New, Right, Accept, Reset, Mount, Write of the program. Condition: at most 2^40 records.
-/
namespace Go.Proofs.YtlegcfjafdihlaaGreatDoor
open Go.RowKit Go.Lib
set_option linter.unusedSimpArgs false
set_option linter.unusedVariables false
set_option maxHeartbeats 4000000
set_option maxRecDepth 100000
attribute [local irreducible] wpQuiet
theorem Sts.belowT {w w' : World} {v : Value} {S : List ByteArray} (h : Sts w v S) (hb : Below w.heap.size w w') : Sts w' v S := Rz.below h hb
theorem ptl_at (w : World) : PredAt Tryz.prog 74 #[] Value.string (fun s => decide (512 < s.size)) w := fun W x _ => ptl_gives x W
theorem ptl_enters : ∀ args w, (callFunc 74 args).run Tryz.prog w = .ok (.enter 74 args) w := enters_of Tryz.func74 (by kernel_rfl) rfl
theorem short_any (S : List ByteArray) : (S.any fun s => decide (512 < s.size)) = !shortV S := by
  unfold shortV
  induction S with
  | nil => rfl
  | cons x r ih =>
    rw [List.any_cons, List.all_cons, ih, Bool.not_and]
    congr 1
    rw [Bool.eq_iff_iff]
    simp
theorem pctS_any (S : List ByteArray) (hl : S.length ≤ 1099511627776) (v : Value) (w : World) (h : Sts w v S) : Calls Tryz.prog 73 #[v, .func (.func 74) #[] #[]] w fun e' w' => e' = .returned (.bool (!shortV S)) ∧ Below w.heap.size w w' := by
  rw [← short_any]
  by_cases h0 : S = []
  · subst h0
    obtain ⟨A, c, rfl, _⟩ := h.form
    refine (Tryz.slices_ContainsFunc_empty_str (α := ByteArray) A c _ w).mono ?_
    rintro e w' ⟨rfl, rfl⟩
    exact ⟨rfl, Below.refl _ _⟩
  · rcases Rz.form h with ⟨rfl, h1, h2⟩ | ⟨a, c, rfl, hc⟩
    · exact absurd (List.eq_nil_of_length_eq_zero h1) h0
    · have hcl := Rz.cell h
      have hpos : 0 < S.length := List.length_pos_iff.2 h0
      have hsp : a.spot = none := by
        have h1 := hcl 0 (.string S[0]) (by rw [List.getElem?_map, List.getElem?_eq_getElem hpos]; rfl)
        unfold World.cell? at h1
        split at h1
        · rename_i hq
          cases hz : a.spot with
          | none => rfl
          | some q => rw [show (a.add 0).spot = a.spot from rfl, hz] at h1; cases h1
        · cases h1
      obtain ⟨b, off, sp⟩ := a
      obtain rfl : sp = none := hsp
      refine (Tryz.slices_ContainsFunc_str Value.string (fun s => decide (512 < s.size)) 74 #[] ptl_enters b off S.length c S w (ptl_at w) (Nat.le_refl _) (by omega) (fun j hj => ?_)).mono ?_
      · have hq := hcl j (.string S[j]!) (by rw [List.getElem?_map, List.getElem?_eq_getElem hj]; simp [hj])
        have ha : (⟨b, off, none⟩ : Addr).add j = ⟨b, off + j, none⟩ := by unfold Addr.add; split <;> simp_all
        rw [ha] at hq
        exact hq
      · rintro e w' ⟨rfl, q, rfl⟩
        refine ⟨?_, below_drewN' (Below.refl _ _) q⟩
        rw [List.take_length]
theorem prightT_any (K : Tp) (hl : K.R.length ≤ 1099511627776) (vs : Value) (w : World) (hs : Sts w vs K.R) : Calls Tryz.prog 335 #[.agg #[vs, .int .i64 (K).p, .bool (K).n, .bool (K).r, .bool (K).e, .bool (K).m, .bool (K).d, .int .i64 (K).c, .int .i64 (K).k, .int .i64 (K).a, .int .i64 (K).l]] w fun e' w' => e' = .returned (.bool K.right) ∧ Below w.heap.size w w' := by
  obtain ⟨A, c0, rfl, _⟩ := hs.form
  have hct := fun w' (h : Below w.heap.size w w') => pctS_any K.R hl _ w' (hs.belowT h)
  have hR : K.right = (decide (K.R.length ≤ 64) && shortV K.R && inT K.p (K.R.length : Int) && inT K.c 6 && inT K.k 65535 && inT K.a 65535 && inT K.l 16 && (K.r == decide (K.l = 0))) := by
    rw [Bool.eq_iff_iff]
    unfold Tp.right Tp.ok wordV_17 inT
    simp only [Bool.and_eq_true, decide_eq_true_eq, beq_iff_eq]
    constructor
    · rintro ⟨⟨⟨⟨⟨⟨⟨⟨⟨⟨h1, h2⟩, h3⟩, h4⟩, h5⟩, h6⟩, h7⟩, h8⟩, h9⟩, h10⟩, h11⟩; exact ⟨⟨⟨⟨⟨⟨⟨h1, h11⟩, ⟨h2, h3⟩⟩, ⟨h4, h5⟩⟩, h6⟩, h7⟩, ⟨h8, h9⟩⟩, h10⟩
    · rintro ⟨⟨⟨⟨⟨⟨⟨h1, h11⟩, ⟨h2, h3⟩⟩, ⟨h4, h5⟩⟩, h6⟩, h7⟩, ⟨h8, h9⟩⟩, h10⟩; exact ⟨⟨⟨⟨⟨⟨⟨⟨⟨⟨h1, h2⟩, h3⟩, h4⟩, h5⟩, h6⟩, h7⟩, h8⟩, h9⟩, h10⟩, h11⟩
  rw [hR]
  clear hR
  obtain ⟨R, p, n, r, e, m, d, c, k, a, l⟩ := K
  dsimp only at *
  have hX := (Bag.nil w).new 47 [(.slice A R.length c0), .int .i64 p, .bool n, .bool r, .bool e, .bool m, .bool d, .int .i64 c, .int .i64 k, .int .i64 a, .int .i64 l]
  have q1 := fun wz => pwithinT_any p (R.length : Int) wz
  have q2 := fun wz => pwithinT_any c 6 wz
  have q3 := fun wz => pwithinT_any k 65535 wz
  have q4 := fun wz => pwithinT_any a 65535 wz
  have q5 := fun wz => pwithinT_any l 16 wz
  clear hs
  by_cases h64 : 64 < R.length
  · have d1 : decide ((64 : Int) < (R.length : Int)) = true := decide_eq_true (by omega)
    rw [show decide (R.length ≤ 64) = false from decide_eq_false (by omega)]
    simp only [Bool.false_and]
    go_enter Tryz.func335, Tryz.ntmps335
    go_wp2_with (first | ((with_reducible refine at_load ?_); refine wpList_bag_cell hX int_cell _ rfl rfl rfl rfl (by first | exact .head _) rfl ?_) | ((with_reducible refine at_load ?_); refine wpList_bag_cell hX bool_cell _ rfl rfl rfl rfl (by first | exact .head _) rfl ?_) | ((with_reducible refine at_load ?_); refine wpList_bag_cell hX slS_cell _ rfl rfl rfl rfl (by first | exact .head _) rfl ?_) | ((with_reducible refine at_load ?_); refine wpList_bag_part (k := 0) hX aggT sizT _ rfl rfl rfl rfl (by first | exact .head _) (fun jz vz hz => (congrArg (fun n => ([_, _, _, _, _, _, _, _, _, _, _] : List Value)[n]?) (Nat.zero_add jz)).trans hz) rfl ?_) | (go_at_call 339; (with_reducible refine (q1 _).mono ?_); rintro e' wc ⟨rfl, hbb⟩; replace hX := hX.step hbb; clear hbb) | (go_at_call 339; (with_reducible refine (q2 _).mono ?_); rintro e' wc ⟨rfl, hbb⟩; replace hX := hX.step hbb; clear hbb) | (go_at_call 339; (with_reducible refine (q3 _).mono ?_); rintro e' wc ⟨rfl, hbb⟩; replace hX := hX.step hbb; clear hbb) | (go_at_call 339; (with_reducible refine (q4 _).mono ?_); rintro e' wc ⟨rfl, hbb⟩; replace hX := hX.step hbb; clear hbb) | (go_at_call 339; (with_reducible refine (q5 _).mono ?_); rintro e' wc ⟨rfl, hbb⟩; replace hX := hX.step hbb; clear hbb) | (go_at_call 73; (with_reducible refine (hct _ hX.below).mono ?_); rintro e' wc ⟨rfl, hbb⟩; replace hX := hX.step hbb; clear hbb))
    go_ret
    exact ⟨by simp, hX.below⟩
  have d1 : decide ((64 : Int) < (R.length : Int)) = false := decide_eq_false (by omega)
  rw [show decide (R.length ≤ 64) = true from decide_eq_true (by omega)]
  simp only [Bool.true_and]
  cases hsv : shortV R with
  | false =>
    rw [hsv] at hct
    simp only [Bool.false_and, Bool.not_false] at hct ⊢
    go_enter Tryz.func335, Tryz.ntmps335
    go_wp2_with (first | ((with_reducible refine at_load ?_); refine wpList_bag_cell hX int_cell _ rfl rfl rfl rfl (by first | exact .head _) rfl ?_) | ((with_reducible refine at_load ?_); refine wpList_bag_cell hX bool_cell _ rfl rfl rfl rfl (by first | exact .head _) rfl ?_) | ((with_reducible refine at_load ?_); refine wpList_bag_cell hX slS_cell _ rfl rfl rfl rfl (by first | exact .head _) rfl ?_) | ((with_reducible refine at_load ?_); refine wpList_bag_part (k := 0) hX aggT sizT _ rfl rfl rfl rfl (by first | exact .head _) (fun jz vz hz => (congrArg (fun n => ([_, _, _, _, _, _, _, _, _, _, _] : List Value)[n]?) (Nat.zero_add jz)).trans hz) rfl ?_) | (go_at_call 339; (with_reducible refine (q1 _).mono ?_); rintro e' wc ⟨rfl, hbb⟩; replace hX := hX.step hbb; clear hbb) | (go_at_call 339; (with_reducible refine (q2 _).mono ?_); rintro e' wc ⟨rfl, hbb⟩; replace hX := hX.step hbb; clear hbb) | (go_at_call 339; (with_reducible refine (q3 _).mono ?_); rintro e' wc ⟨rfl, hbb⟩; replace hX := hX.step hbb; clear hbb) | (go_at_call 339; (with_reducible refine (q4 _).mono ?_); rintro e' wc ⟨rfl, hbb⟩; replace hX := hX.step hbb; clear hbb) | (go_at_call 339; (with_reducible refine (q5 _).mono ?_); rintro e' wc ⟨rfl, hbb⟩; replace hX := hX.step hbb; clear hbb) | (go_at_call 73; (with_reducible refine (hct _ hX.below).mono ?_); rintro e' wc ⟨rfl, hbb⟩; replace hX := hX.step hbb; clear hbb))
    go_ret
    exact ⟨by simp, hX.below⟩
  | true =>
  rw [hsv] at hct
  simp only [Bool.true_and, Bool.not_true] at hct ⊢
  cases h0 : inT p (R.length : Int) with
  | false =>
    rw [h0] at q1
    simp only [Bool.false_and, Bool.and_false]
    go_enter Tryz.func335, Tryz.ntmps335
    go_wp2_with (first | ((with_reducible refine at_load ?_); refine wpList_bag_cell hX int_cell _ rfl rfl rfl rfl (by first | exact .head _) rfl ?_) | ((with_reducible refine at_load ?_); refine wpList_bag_cell hX bool_cell _ rfl rfl rfl rfl (by first | exact .head _) rfl ?_) | ((with_reducible refine at_load ?_); refine wpList_bag_cell hX slS_cell _ rfl rfl rfl rfl (by first | exact .head _) rfl ?_) | ((with_reducible refine at_load ?_); refine wpList_bag_part (k := 0) hX aggT sizT _ rfl rfl rfl rfl (by first | exact .head _) (fun jz vz hz => (congrArg (fun n => ([_, _, _, _, _, _, _, _, _, _, _] : List Value)[n]?) (Nat.zero_add jz)).trans hz) rfl ?_) | (go_at_call 339; (with_reducible refine (q1 _).mono ?_); rintro e' wc ⟨rfl, hbb⟩; replace hX := hX.step hbb; clear hbb) | (go_at_call 339; (with_reducible refine (q2 _).mono ?_); rintro e' wc ⟨rfl, hbb⟩; replace hX := hX.step hbb; clear hbb) | (go_at_call 339; (with_reducible refine (q3 _).mono ?_); rintro e' wc ⟨rfl, hbb⟩; replace hX := hX.step hbb; clear hbb) | (go_at_call 339; (with_reducible refine (q4 _).mono ?_); rintro e' wc ⟨rfl, hbb⟩; replace hX := hX.step hbb; clear hbb) | (go_at_call 339; (with_reducible refine (q5 _).mono ?_); rintro e' wc ⟨rfl, hbb⟩; replace hX := hX.step hbb; clear hbb) | (go_at_call 73; (with_reducible refine (hct _ hX.below).mono ?_); rintro e' wc ⟨rfl, hbb⟩; replace hX := hX.step hbb; clear hbb))
    go_ret
    exact ⟨by simp, hX.below⟩
  | true =>
  rw [h0] at q1
  simp only [Bool.true_and]
  cases h1 : inT c 6 with
  | false =>
    rw [h1] at q2
    simp only [Bool.false_and, Bool.and_false]
    go_enter Tryz.func335, Tryz.ntmps335
    go_wp2_with (first | ((with_reducible refine at_load ?_); refine wpList_bag_cell hX int_cell _ rfl rfl rfl rfl (by first | exact .head _) rfl ?_) | ((with_reducible refine at_load ?_); refine wpList_bag_cell hX bool_cell _ rfl rfl rfl rfl (by first | exact .head _) rfl ?_) | ((with_reducible refine at_load ?_); refine wpList_bag_cell hX slS_cell _ rfl rfl rfl rfl (by first | exact .head _) rfl ?_) | ((with_reducible refine at_load ?_); refine wpList_bag_part (k := 0) hX aggT sizT _ rfl rfl rfl rfl (by first | exact .head _) (fun jz vz hz => (congrArg (fun n => ([_, _, _, _, _, _, _, _, _, _, _] : List Value)[n]?) (Nat.zero_add jz)).trans hz) rfl ?_) | (go_at_call 339; (with_reducible refine (q1 _).mono ?_); rintro e' wc ⟨rfl, hbb⟩; replace hX := hX.step hbb; clear hbb) | (go_at_call 339; (with_reducible refine (q2 _).mono ?_); rintro e' wc ⟨rfl, hbb⟩; replace hX := hX.step hbb; clear hbb) | (go_at_call 339; (with_reducible refine (q3 _).mono ?_); rintro e' wc ⟨rfl, hbb⟩; replace hX := hX.step hbb; clear hbb) | (go_at_call 339; (with_reducible refine (q4 _).mono ?_); rintro e' wc ⟨rfl, hbb⟩; replace hX := hX.step hbb; clear hbb) | (go_at_call 339; (with_reducible refine (q5 _).mono ?_); rintro e' wc ⟨rfl, hbb⟩; replace hX := hX.step hbb; clear hbb) | (go_at_call 73; (with_reducible refine (hct _ hX.below).mono ?_); rintro e' wc ⟨rfl, hbb⟩; replace hX := hX.step hbb; clear hbb))
    go_ret
    exact ⟨by simp, hX.below⟩
  | true =>
  rw [h1] at q2
  simp only [Bool.true_and]
  cases h2 : inT k 65535 with
  | false =>
    rw [h2] at q3
    simp only [Bool.false_and, Bool.and_false]
    go_enter Tryz.func335, Tryz.ntmps335
    go_wp2_with (first | ((with_reducible refine at_load ?_); refine wpList_bag_cell hX int_cell _ rfl rfl rfl rfl (by first | exact .head _) rfl ?_) | ((with_reducible refine at_load ?_); refine wpList_bag_cell hX bool_cell _ rfl rfl rfl rfl (by first | exact .head _) rfl ?_) | ((with_reducible refine at_load ?_); refine wpList_bag_cell hX slS_cell _ rfl rfl rfl rfl (by first | exact .head _) rfl ?_) | ((with_reducible refine at_load ?_); refine wpList_bag_part (k := 0) hX aggT sizT _ rfl rfl rfl rfl (by first | exact .head _) (fun jz vz hz => (congrArg (fun n => ([_, _, _, _, _, _, _, _, _, _, _] : List Value)[n]?) (Nat.zero_add jz)).trans hz) rfl ?_) | (go_at_call 339; (with_reducible refine (q1 _).mono ?_); rintro e' wc ⟨rfl, hbb⟩; replace hX := hX.step hbb; clear hbb) | (go_at_call 339; (with_reducible refine (q2 _).mono ?_); rintro e' wc ⟨rfl, hbb⟩; replace hX := hX.step hbb; clear hbb) | (go_at_call 339; (with_reducible refine (q3 _).mono ?_); rintro e' wc ⟨rfl, hbb⟩; replace hX := hX.step hbb; clear hbb) | (go_at_call 339; (with_reducible refine (q4 _).mono ?_); rintro e' wc ⟨rfl, hbb⟩; replace hX := hX.step hbb; clear hbb) | (go_at_call 339; (with_reducible refine (q5 _).mono ?_); rintro e' wc ⟨rfl, hbb⟩; replace hX := hX.step hbb; clear hbb) | (go_at_call 73; (with_reducible refine (hct _ hX.below).mono ?_); rintro e' wc ⟨rfl, hbb⟩; replace hX := hX.step hbb; clear hbb))
    go_ret
    exact ⟨by simp, hX.below⟩
  | true =>
  rw [h2] at q3
  simp only [Bool.true_and]
  cases h3 : inT a 65535 with
  | false =>
    rw [h3] at q4
    simp only [Bool.false_and, Bool.and_false]
    go_enter Tryz.func335, Tryz.ntmps335
    go_wp2_with (first | ((with_reducible refine at_load ?_); refine wpList_bag_cell hX int_cell _ rfl rfl rfl rfl (by first | exact .head _) rfl ?_) | ((with_reducible refine at_load ?_); refine wpList_bag_cell hX bool_cell _ rfl rfl rfl rfl (by first | exact .head _) rfl ?_) | ((with_reducible refine at_load ?_); refine wpList_bag_cell hX slS_cell _ rfl rfl rfl rfl (by first | exact .head _) rfl ?_) | ((with_reducible refine at_load ?_); refine wpList_bag_part (k := 0) hX aggT sizT _ rfl rfl rfl rfl (by first | exact .head _) (fun jz vz hz => (congrArg (fun n => ([_, _, _, _, _, _, _, _, _, _, _] : List Value)[n]?) (Nat.zero_add jz)).trans hz) rfl ?_) | (go_at_call 339; (with_reducible refine (q1 _).mono ?_); rintro e' wc ⟨rfl, hbb⟩; replace hX := hX.step hbb; clear hbb) | (go_at_call 339; (with_reducible refine (q2 _).mono ?_); rintro e' wc ⟨rfl, hbb⟩; replace hX := hX.step hbb; clear hbb) | (go_at_call 339; (with_reducible refine (q3 _).mono ?_); rintro e' wc ⟨rfl, hbb⟩; replace hX := hX.step hbb; clear hbb) | (go_at_call 339; (with_reducible refine (q4 _).mono ?_); rintro e' wc ⟨rfl, hbb⟩; replace hX := hX.step hbb; clear hbb) | (go_at_call 339; (with_reducible refine (q5 _).mono ?_); rintro e' wc ⟨rfl, hbb⟩; replace hX := hX.step hbb; clear hbb) | (go_at_call 73; (with_reducible refine (hct _ hX.below).mono ?_); rintro e' wc ⟨rfl, hbb⟩; replace hX := hX.step hbb; clear hbb))
    go_ret
    exact ⟨by simp, hX.below⟩
  | true =>
  rw [h3] at q4
  simp only [Bool.true_and]
  cases h4 : inT l 16 with
  | false =>
    rw [h4] at q5
    simp only [Bool.false_and, Bool.and_false]
    go_enter Tryz.func335, Tryz.ntmps335
    go_wp2_with (first | ((with_reducible refine at_load ?_); refine wpList_bag_cell hX int_cell _ rfl rfl rfl rfl (by first | exact .head _) rfl ?_) | ((with_reducible refine at_load ?_); refine wpList_bag_cell hX bool_cell _ rfl rfl rfl rfl (by first | exact .head _) rfl ?_) | ((with_reducible refine at_load ?_); refine wpList_bag_cell hX slS_cell _ rfl rfl rfl rfl (by first | exact .head _) rfl ?_) | ((with_reducible refine at_load ?_); refine wpList_bag_part (k := 0) hX aggT sizT _ rfl rfl rfl rfl (by first | exact .head _) (fun jz vz hz => (congrArg (fun n => ([_, _, _, _, _, _, _, _, _, _, _] : List Value)[n]?) (Nat.zero_add jz)).trans hz) rfl ?_) | (go_at_call 339; (with_reducible refine (q1 _).mono ?_); rintro e' wc ⟨rfl, hbb⟩; replace hX := hX.step hbb; clear hbb) | (go_at_call 339; (with_reducible refine (q2 _).mono ?_); rintro e' wc ⟨rfl, hbb⟩; replace hX := hX.step hbb; clear hbb) | (go_at_call 339; (with_reducible refine (q3 _).mono ?_); rintro e' wc ⟨rfl, hbb⟩; replace hX := hX.step hbb; clear hbb) | (go_at_call 339; (with_reducible refine (q4 _).mono ?_); rintro e' wc ⟨rfl, hbb⟩; replace hX := hX.step hbb; clear hbb) | (go_at_call 339; (with_reducible refine (q5 _).mono ?_); rintro e' wc ⟨rfl, hbb⟩; replace hX := hX.step hbb; clear hbb) | (go_at_call 73; (with_reducible refine (hct _ hX.below).mono ?_); rintro e' wc ⟨rfl, hbb⟩; replace hX := hX.step hbb; clear hbb))
    go_ret
    exact ⟨by simp, hX.below⟩
  | true =>
  rw [h4] at q5
  simp only [Bool.true_and]
  by_cases hl0 : l = 0
  · subst hl0
    cases r
    · go_enter Tryz.func335, Tryz.ntmps335
      go_wp2_with (first | ((with_reducible refine at_load ?_); refine wpList_bag_cell hX int_cell _ rfl rfl rfl rfl (by first | exact .head _) rfl ?_) | ((with_reducible refine at_load ?_); refine wpList_bag_cell hX bool_cell _ rfl rfl rfl rfl (by first | exact .head _) rfl ?_) | ((with_reducible refine at_load ?_); refine wpList_bag_cell hX slS_cell _ rfl rfl rfl rfl (by first | exact .head _) rfl ?_) | ((with_reducible refine at_load ?_); refine wpList_bag_part (k := 0) hX aggT sizT _ rfl rfl rfl rfl (by first | exact .head _) (fun jz vz hz => (congrArg (fun n => ([_, _, _, _, _, _, _, _, _, _, _] : List Value)[n]?) (Nat.zero_add jz)).trans hz) rfl ?_) | (go_at_call 339; (with_reducible refine (q1 _).mono ?_); rintro e' wc ⟨rfl, hbb⟩; replace hX := hX.step hbb; clear hbb) | (go_at_call 339; (with_reducible refine (q2 _).mono ?_); rintro e' wc ⟨rfl, hbb⟩; replace hX := hX.step hbb; clear hbb) | (go_at_call 339; (with_reducible refine (q3 _).mono ?_); rintro e' wc ⟨rfl, hbb⟩; replace hX := hX.step hbb; clear hbb) | (go_at_call 339; (with_reducible refine (q4 _).mono ?_); rintro e' wc ⟨rfl, hbb⟩; replace hX := hX.step hbb; clear hbb) | (go_at_call 339; (with_reducible refine (q5 _).mono ?_); rintro e' wc ⟨rfl, hbb⟩; replace hX := hX.step hbb; clear hbb) | (go_at_call 73; (with_reducible refine (hct _ hX.below).mono ?_); rintro e' wc ⟨rfl, hbb⟩; replace hX := hX.step hbb; clear hbb))
      go_ret
      exact ⟨by simp, hX.below⟩
    · go_enter Tryz.func335, Tryz.ntmps335
      go_wp2_with (first | ((with_reducible refine at_load ?_); refine wpList_bag_cell hX int_cell _ rfl rfl rfl rfl (by first | exact .head _) rfl ?_) | ((with_reducible refine at_load ?_); refine wpList_bag_cell hX bool_cell _ rfl rfl rfl rfl (by first | exact .head _) rfl ?_) | ((with_reducible refine at_load ?_); refine wpList_bag_cell hX slS_cell _ rfl rfl rfl rfl (by first | exact .head _) rfl ?_) | ((with_reducible refine at_load ?_); refine wpList_bag_part (k := 0) hX aggT sizT _ rfl rfl rfl rfl (by first | exact .head _) (fun jz vz hz => (congrArg (fun n => ([_, _, _, _, _, _, _, _, _, _, _] : List Value)[n]?) (Nat.zero_add jz)).trans hz) rfl ?_) | (go_at_call 339; (with_reducible refine (q1 _).mono ?_); rintro e' wc ⟨rfl, hbb⟩; replace hX := hX.step hbb; clear hbb) | (go_at_call 339; (with_reducible refine (q2 _).mono ?_); rintro e' wc ⟨rfl, hbb⟩; replace hX := hX.step hbb; clear hbb) | (go_at_call 339; (with_reducible refine (q3 _).mono ?_); rintro e' wc ⟨rfl, hbb⟩; replace hX := hX.step hbb; clear hbb) | (go_at_call 339; (with_reducible refine (q4 _).mono ?_); rintro e' wc ⟨rfl, hbb⟩; replace hX := hX.step hbb; clear hbb) | (go_at_call 339; (with_reducible refine (q5 _).mono ?_); rintro e' wc ⟨rfl, hbb⟩; replace hX := hX.step hbb; clear hbb) | (go_at_call 73; (with_reducible refine (hct _ hX.below).mono ?_); rintro e' wc ⟨rfl, hbb⟩; replace hX := hX.step hbb; clear hbb))
      go_ret
      exact ⟨by simp, hX.below⟩
  · have d7 : (l == 0) = false := by simpa using hl0
    rw [show decide (l = 0) = false from decide_eq_false hl0]
    cases r
    · go_enter Tryz.func335, Tryz.ntmps335
      go_wp2_with (first | ((with_reducible refine at_load ?_); refine wpList_bag_cell hX int_cell _ rfl rfl rfl rfl (by first | exact .head _) rfl ?_) | ((with_reducible refine at_load ?_); refine wpList_bag_cell hX bool_cell _ rfl rfl rfl rfl (by first | exact .head _) rfl ?_) | ((with_reducible refine at_load ?_); refine wpList_bag_cell hX slS_cell _ rfl rfl rfl rfl (by first | exact .head _) rfl ?_) | ((with_reducible refine at_load ?_); refine wpList_bag_part (k := 0) hX aggT sizT _ rfl rfl rfl rfl (by first | exact .head _) (fun jz vz hz => (congrArg (fun n => ([_, _, _, _, _, _, _, _, _, _, _] : List Value)[n]?) (Nat.zero_add jz)).trans hz) rfl ?_) | (go_at_call 339; (with_reducible refine (q1 _).mono ?_); rintro e' wc ⟨rfl, hbb⟩; replace hX := hX.step hbb; clear hbb) | (go_at_call 339; (with_reducible refine (q2 _).mono ?_); rintro e' wc ⟨rfl, hbb⟩; replace hX := hX.step hbb; clear hbb) | (go_at_call 339; (with_reducible refine (q3 _).mono ?_); rintro e' wc ⟨rfl, hbb⟩; replace hX := hX.step hbb; clear hbb) | (go_at_call 339; (with_reducible refine (q4 _).mono ?_); rintro e' wc ⟨rfl, hbb⟩; replace hX := hX.step hbb; clear hbb) | (go_at_call 339; (with_reducible refine (q5 _).mono ?_); rintro e' wc ⟨rfl, hbb⟩; replace hX := hX.step hbb; clear hbb) | (go_at_call 73; (with_reducible refine (hct _ hX.below).mono ?_); rintro e' wc ⟨rfl, hbb⟩; replace hX := hX.step hbb; clear hbb))
      go_ret
      exact ⟨by simp, hX.below⟩
    · go_enter Tryz.func335, Tryz.ntmps335
      go_wp2_with (first | ((with_reducible refine at_load ?_); refine wpList_bag_cell hX int_cell _ rfl rfl rfl rfl (by first | exact .head _) rfl ?_) | ((with_reducible refine at_load ?_); refine wpList_bag_cell hX bool_cell _ rfl rfl rfl rfl (by first | exact .head _) rfl ?_) | ((with_reducible refine at_load ?_); refine wpList_bag_cell hX slS_cell _ rfl rfl rfl rfl (by first | exact .head _) rfl ?_) | ((with_reducible refine at_load ?_); refine wpList_bag_part (k := 0) hX aggT sizT _ rfl rfl rfl rfl (by first | exact .head _) (fun jz vz hz => (congrArg (fun n => ([_, _, _, _, _, _, _, _, _, _, _] : List Value)[n]?) (Nat.zero_add jz)).trans hz) rfl ?_) | (go_at_call 339; (with_reducible refine (q1 _).mono ?_); rintro e' wc ⟨rfl, hbb⟩; replace hX := hX.step hbb; clear hbb) | (go_at_call 339; (with_reducible refine (q2 _).mono ?_); rintro e' wc ⟨rfl, hbb⟩; replace hX := hX.step hbb; clear hbb) | (go_at_call 339; (with_reducible refine (q3 _).mono ?_); rintro e' wc ⟨rfl, hbb⟩; replace hX := hX.step hbb; clear hbb) | (go_at_call 339; (with_reducible refine (q4 _).mono ?_); rintro e' wc ⟨rfl, hbb⟩; replace hX := hX.step hbb; clear hbb) | (go_at_call 339; (with_reducible refine (q5 _).mono ?_); rintro e' wc ⟨rfl, hbb⟩; replace hX := hX.step hbb; clear hbb) | (go_at_call 73; (with_reducible refine (hct _ hX.below).mono ?_); rintro e' wc ⟨rfl, hbb⟩; replace hX := hX.step hbb; clear hbb))
      go_ret
      exact ⟨by simp, hX.below⟩
end Go.Proofs.YtlegcfjafdihlaaGreatDoor
