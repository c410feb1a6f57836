/-
  alive and the laws of package alu, over the contracts of its calls. Condition: the table of widths.
-/
import Derived.Test.YtpimdbglmoopcaaDoorAlF
import Derived.Test.YtpimdbglmoopcaaDoorBagG
import Derived.Test.YtpimdbglmoopcaaDoorWalkF
namespace Go.Proofs.YtpimdbglmoopcaaDoor
open Go.RowKit
set_option linter.unusedSimpArgs false
set_option linter.unusedVariables false
set_option maxHeartbeats 8000000
set_option maxRecDepth 100000

/-- The contracts of package alu. -/
structure AluC : Prop where
  dbl : ∀ (o : Int) (b : Bool) (s d f : Int) (w : World), Wid w → Calls Tryd.prog 10 #[.int .i64 o, .bool b, .int .i64 s, .int .i64 d, .int .i64 f] w fun e w' => e = .returned (.tuple #[.int .i64 (dblV o b s d f).1, .int .i64 (dblV o b s d f).2.1, .bool (dblV o b s d f).2.2]) ∧ Below w.heap.size w w'
  sng : ∀ (o : Int) (b : Bool) (v f : Int) (w : World), Wid w → Calls Tryd.prog 13 #[.int .i64 o, .bool b, .int .i64 v, .int .i64 f] w fun e w' => e = .returned (.tuple #[.int .i64 (sngV o b v f).1, .int .i64 (sngV o b v f).2.1, .bool (sngV o b v f).2.2]) ∧ Below w.heap.size w w'
  tkn : ∀ (o f : Int) (w : World), Wid w → Calls Tryd.prog 15 #[.int .i64 o, .int .i64 f] w fun e w' => e = .returned (.bool (tkB o f)) ∧ Below w.heap.size w w'
  lng : ∀ (o x y v f : Int) (w : World), Wid w → Calls Tryd.prog 17 #[.int .i64 o, .int .i64 x, .int .i64 y, .int .i64 v, .int .i64 f] w fun e w' => e = .returned (.tuple #[.int .i64 (lngV o x y v f).1, .int .i64 (lngV o x y v f).2.1, .int .i64 (lngV o x y v f).2.2.1, .bool (lngV o x y v f).2.2.2]) ∧ Below w.heap.size w w'

theorem alive_true (H : AluC) (W0 : World) (W : Wid W0) : Calls Tryd.prog 12 #[] W0 fun e w' => e = .returned (.bool true) ∧ Below W0.heap.size W0 w' := by
  have h1 : ∀ w, Wid w → Calls Tryd.prog 10 #[.int .i64 6, .bool false, .int .i64 1, .int .i64 32767, .int .i64 0] w fun e w' => e = .returned (.tuple #[.int .i64 32768, .int .i64 10, .bool true]) ∧ Below w.heap.size w w' := fun w W => H.dbl 6 false 1 32767 0 w W
  have h2 : ∀ w, Wid w → Calls Tryd.prog 10 #[.int .i64 2, .bool true, .int .i64 5, .int .i64 261, .int .i64 2] w fun e w' => e = .returned (.tuple #[.int .i64 0, .int .i64 4, .bool false]) ∧ Below w.heap.size w w' := fun w W => H.dbl 2 true 5 261 2 w W
  have h3 : ∀ w, Wid w → Calls Tryd.prog 13 #[.int .i64 16, .bool true, .int .i64 128, .int .i64 0] w fun e w' => e = .returned (.tuple #[.int .i64 128, .int .i64 11, .bool true]) ∧ Below w.heap.size w w' := fun w W => H.sng 16 true 128 0 w W
  have h4 : ∀ w, Wid w → Calls Tryd.prog 17 #[.int .i64 9, .int .i64 0, .int .i64 7, .int .i64 0, .int .i64 9] w fun e w' => e = .returned (.tuple #[.int .i64 0, .int .i64 7, .int .i64 3, .bool false]) ∧ Below w.heap.size w w' := fun w W => H.lng 9 0 7 0 9 w W
  have h5 : ∀ w, Wid w → Calls Tryd.prog 15 #[.int .i64 31, .int .i64 10] w fun e w' => e = .returned (.bool true) ∧ Below w.heap.size w w' := fun w W => H.tkn 31 10 w W
  have h6 : ∀ w, Wid w → Calls Tryd.prog 15 #[.int .i64 1, .int .i64 0] w fun e w' => e = .returned (.bool false) ∧ Below w.heap.size w w' := fun w W => H.tkn 1 0 w W
  have hX := Bag.nil W0
  clear H
  go_enter Tryd.func12, Tryd.ntmps12
  go_wp2_with (first
    | (go_at_call 10; first | (with_reducible refine (h1 _ W).mono ?_; rintro e w' ⟨rfl, hb⟩; replace hX := hX.step hb; replace W := W.below hb; clear hb) | (with_reducible refine (h2 _ W).mono ?_; rintro e w' ⟨rfl, hb⟩; replace hX := hX.step hb; replace W := W.below hb; clear hb))
    | (go_at_call 13; first | (with_reducible refine (h3 _ W).mono ?_; rintro e w' ⟨rfl, hb⟩; replace hX := hX.step hb; replace W := W.below hb; clear hb))
    | (go_at_call 17; first | (with_reducible refine (h4 _ W).mono ?_; rintro e w' ⟨rfl, hb⟩; replace hX := hX.step hb; replace W := W.below hb; clear hb))
    | (go_at_call 15; first | (with_reducible refine (h5 _ W).mono ?_; rintro e w' ⟨rfl, hb⟩; replace hX := hX.step hb; replace W := W.below hb; clear hb) | (with_reducible refine (h6 _ W).mono ?_; rintro e w' ⟨rfl, hb⟩; replace hX := hX.step hb; replace W := W.below hb; clear hb)))
  go_ret
  exact ⟨rfl, hX.below⟩

theorem AluDoubles_law (H : AluC) (o : Int) (b : Bool) (x y v f : Int) (W0 : World) (W : Wid W0) : Calls Tryd.prog 3 #[.agg [.int .i64 o, .bool b, .int .i64 x, .int .i64 y, .int .i64 v, .int .i64 f].toArray] W0 fun e w' => e = .returned (.bool true) ∧ Below W0.heap.size W0 w' := by
  have hX := (Bag.nil W0).new 23 [.int .i64 o, .bool b, .int .i64 x, .int .i64 y, .int .i64 v, .int .i64 f]
  have hR0 : ([.int .i64 o, .bool b, .int .i64 x, .int .i64 y, .int .i64 v, .int .i64 f] : List Value)[0]? = some (.int .i64 o) := rfl
  have hR1 : ([.int .i64 o, .bool b, .int .i64 x, .int .i64 y, .int .i64 v, .int .i64 f] : List Value)[1]? = some (.bool b) := rfl
  have hR2 : ([.int .i64 o, .bool b, .int .i64 x, .int .i64 y, .int .i64 v, .int .i64 f] : List Value)[2]? = some (.int .i64 x) := rfl
  have hR3 : ([.int .i64 o, .bool b, .int .i64 x, .int .i64 y, .int .i64 v, .int .i64 f] : List Value)[3]? = some (.int .i64 y) := rfl
  have hR4 : ([.int .i64 o, .bool b, .int .i64 x, .int .i64 y, .int .i64 v, .int .i64 f] : List Value)[4]? = some (.int .i64 v) := rfl
  have hR5 : ([.int .i64 o, .bool b, .int .i64 x, .int .i64 y, .int .i64 v, .int .i64 f] : List Value)[5]? = some (.int .i64 f) := rfl
  generalize ([.int .i64 o, .bool b, .int .i64 x, .int .i64 y, .int .i64 v, .int .i64 f] : List Value) = A at *
  replace W := W.below hX.below
  have hal := alive_true H
  have h1 := H.dbl o b x y f
  have h2 := fun w => rdouble_any o b x y f w
  generalize dblV o b x y f = R at *
  obtain ⟨ra, rf, rx⟩ := R
  simp only at *
  clear H
  go_enter Tryd.func3, Tryd.ntmps3
  go_wp2_with (first
    | (go_at_call 10; first | (with_reducible refine (h1 _ W).mono ?_; rintro e w' ⟨rfl, hb⟩; replace hX := hX.step hb; replace W := W.below hb; clear hb))
    | (go_at_call 11; first | (with_reducible refine (h2 _).mono ?_; rintro e w' ⟨rfl, hw⟩; subst hw))
    | (go_at_call 12; first | (with_reducible refine (hal _ W).mono ?_; rintro e w' ⟨rfl, hb⟩; replace hX := hX.step hb; replace W := W.below hb; clear hb))
    | (refine wpList_bag_cell hX int_cell _ rfl rfl rfl rfl (by first | exact .head _ | exact .tail _ (.head _)) (by assumption) ?_)
    | (refine wpList_bag_cell hX bool_cell _ rfl rfl rfl rfl (by first | exact .head _ | exact .tail _ (.head _)) (by assumption) ?_))
  go_ret
  exact ⟨rfl, hX.below⟩

theorem AluSingles_law (H : AluC) (o : Int) (b : Bool) (x y v f : Int) (W0 : World) (W : Wid W0) : Calls Tryd.prog 4 #[.agg [.int .i64 o, .bool b, .int .i64 x, .int .i64 y, .int .i64 v, .int .i64 f].toArray] W0 fun e w' => e = .returned (.bool true) ∧ Below W0.heap.size W0 w' := by
  have hX := (Bag.nil W0).new 23 [.int .i64 o, .bool b, .int .i64 x, .int .i64 y, .int .i64 v, .int .i64 f]
  have hR0 : ([.int .i64 o, .bool b, .int .i64 x, .int .i64 y, .int .i64 v, .int .i64 f] : List Value)[0]? = some (.int .i64 o) := rfl
  have hR1 : ([.int .i64 o, .bool b, .int .i64 x, .int .i64 y, .int .i64 v, .int .i64 f] : List Value)[1]? = some (.bool b) := rfl
  have hR2 : ([.int .i64 o, .bool b, .int .i64 x, .int .i64 y, .int .i64 v, .int .i64 f] : List Value)[2]? = some (.int .i64 x) := rfl
  have hR3 : ([.int .i64 o, .bool b, .int .i64 x, .int .i64 y, .int .i64 v, .int .i64 f] : List Value)[3]? = some (.int .i64 y) := rfl
  have hR4 : ([.int .i64 o, .bool b, .int .i64 x, .int .i64 y, .int .i64 v, .int .i64 f] : List Value)[4]? = some (.int .i64 v) := rfl
  have hR5 : ([.int .i64 o, .bool b, .int .i64 x, .int .i64 y, .int .i64 v, .int .i64 f] : List Value)[5]? = some (.int .i64 f) := rfl
  generalize ([.int .i64 o, .bool b, .int .i64 x, .int .i64 y, .int .i64 v, .int .i64 f] : List Value) = A at *
  replace W := W.below hX.below
  have hal := alive_true H
  have h1 := H.sng o b x f
  have h2 := fun w => rsingle_any o b x f w
  generalize sngV o b x f = R at *
  obtain ⟨ra, rf, rx⟩ := R
  simp only at *
  clear H
  go_enter Tryd.func4, Tryd.ntmps4
  go_wp2_with (first
    | (go_at_call 13; first | (with_reducible refine (h1 _ W).mono ?_; rintro e w' ⟨rfl, hb⟩; replace hX := hX.step hb; replace W := W.below hb; clear hb))
    | (go_at_call 14; first | (with_reducible refine (h2 _).mono ?_; rintro e w' ⟨rfl, hw⟩; subst hw))
    | (go_at_call 12; first | (with_reducible refine (hal _ W).mono ?_; rintro e w' ⟨rfl, hb⟩; replace hX := hX.step hb; replace W := W.below hb; clear hb))
    | (refine wpList_bag_cell hX int_cell _ rfl rfl rfl rfl (by first | exact .head _ | exact .tail _ (.head _)) (by assumption) ?_)
    | (refine wpList_bag_cell hX bool_cell _ rfl rfl rfl rfl (by first | exact .head _ | exact .tail _ (.head _)) (by assumption) ?_))
  go_ret
  exact ⟨rfl, hX.below⟩

theorem AluLongs_law (H : AluC) (o : Int) (b : Bool) (x y v f : Int) (W0 : World) (W : Wid W0) : Calls Tryd.prog 6 #[.agg [.int .i64 o, .bool b, .int .i64 x, .int .i64 y, .int .i64 v, .int .i64 f].toArray] W0 fun e w' => e = .returned (.bool true) ∧ Below W0.heap.size W0 w' := by
  have hX := (Bag.nil W0).new 23 [.int .i64 o, .bool b, .int .i64 x, .int .i64 y, .int .i64 v, .int .i64 f]
  have hR0 : ([.int .i64 o, .bool b, .int .i64 x, .int .i64 y, .int .i64 v, .int .i64 f] : List Value)[0]? = some (.int .i64 o) := rfl
  have hR1 : ([.int .i64 o, .bool b, .int .i64 x, .int .i64 y, .int .i64 v, .int .i64 f] : List Value)[1]? = some (.bool b) := rfl
  have hR2 : ([.int .i64 o, .bool b, .int .i64 x, .int .i64 y, .int .i64 v, .int .i64 f] : List Value)[2]? = some (.int .i64 x) := rfl
  have hR3 : ([.int .i64 o, .bool b, .int .i64 x, .int .i64 y, .int .i64 v, .int .i64 f] : List Value)[3]? = some (.int .i64 y) := rfl
  have hR4 : ([.int .i64 o, .bool b, .int .i64 x, .int .i64 y, .int .i64 v, .int .i64 f] : List Value)[4]? = some (.int .i64 v) := rfl
  have hR5 : ([.int .i64 o, .bool b, .int .i64 x, .int .i64 y, .int .i64 v, .int .i64 f] : List Value)[5]? = some (.int .i64 f) := rfl
  generalize ([.int .i64 o, .bool b, .int .i64 x, .int .i64 y, .int .i64 v, .int .i64 f] : List Value) = A at *
  replace W := W.below hX.below
  have hal := alive_true H
  have h1 := H.lng o x y v f
  have h2 := fun w => rlong_any o x y v f w
  generalize lngV o x y v f = R at *
  obtain ⟨ra, rb, rf, rx⟩ := R
  simp only at *
  clear H
  go_enter Tryd.func6, Tryd.ntmps6
  go_wp2_with (first
    | (go_at_call 17; first | (with_reducible refine (h1 _ W).mono ?_; rintro e w' ⟨rfl, hb⟩; replace hX := hX.step hb; replace W := W.below hb; clear hb))
    | (go_at_call 18; first | (with_reducible refine (h2 _).mono ?_; rintro e w' ⟨rfl, hw⟩; subst hw))
    | (go_at_call 12; first | (with_reducible refine (hal _ W).mono ?_; rintro e w' ⟨rfl, hb⟩; replace hX := hX.step hb; replace W := W.below hb; clear hb))
    | (refine wpList_bag_cell hX int_cell _ rfl rfl rfl rfl (by first | exact .head _ | exact .tail _ (.head _)) (by assumption) ?_)
    | (refine wpList_bag_cell hX bool_cell _ rfl rfl rfl rfl (by first | exact .head _ | exact .tail _ (.head _)) (by assumption) ?_))
  go_ret
  exact ⟨rfl, hX.below⟩

theorem AluBranches_law (H : AluC) (o f : Int) (W0 : World) (W : Wid W0) : Calls Tryd.prog 5 #[.int .i64 o, .int .i64 f] W0 fun e w' => e = .returned (.bool true) ∧ Below W0.heap.size W0 w' := by
  have hX := Bag.nil W0
  have hal := alive_true H
  have h1 := H.tkn o f
  have h2 := fun w => rtk_any o f w
  generalize tkB o f = q at *
  clear H
  go_enter Tryd.func5, Tryd.ntmps5
  go_wp2_with (first
    | (go_at_call 15; first | (with_reducible refine (h1 _ W).mono ?_; rintro e w' ⟨rfl, hb⟩; replace hX := hX.step hb; replace W := W.below hb; clear hb))
    | (go_at_call 16; first | (with_reducible refine (h2 _).mono ?_; rintro e w' ⟨rfl, hw⟩; subst hw))
    | (go_at_call 12; first | (with_reducible refine (hal _ W).mono ?_; rintro e w' ⟨rfl, hb⟩; replace hX := hX.step hb; replace W := W.below hb; clear hb)))
  go_ret
  exact ⟨rfl, hX.below⟩

theorem AluPairs_law (H : AluC) (f : Int) (W0 : World) (W : Wid W0) : Calls Tryd.prog 7 #[.int .i64 f] W0 fun e w' => e = .returned (.bool true) ∧ Below W0.heap.size W0 w' := by
  have hX := Bag.nil W0
  have hal := alive_true H
  have h0 : ∀ w, Wid w → Calls Tryd.prog 15 #[.int .i64 26, .int .i64 f] w fun e w' => e = .returned (.bool true) ∧ Below w.heap.size w w' := fun w W => H.tkn 26 f w W
  go_enter Tryd.func7, Tryd.ntmps7
  go_wp2
  go_loopw [3] (fun i wr => ∃ k : Nat, k ≤ 7 ∧ i = .int .i64 (27 + 2 * (k : Int)) ∧ Bag [] W0 wr ∧ Wid wr)
    (fun i _ => 100 - (intOf i).toNat)
  case atStart => exact ⟨0, by decide, rfl, hX, W⟩
  case round =>
    clear hX W
    obtain ⟨k, hk, rfl, hX, W⟩ := hrel
    by_cases hk7 : k < 7
    · have k0 : (0 : Int) ≤ (k : Int) := by omega
      have k1 : (k : Int) < 7 := by omega
      have h1 := H.tkn (27 + 2 * (k : Int)) f
      have h2 := H.tkn (27 + 2 * (k : Int) + 1) f
      rw [tk_pair f k hk7] at h2
      generalize tkB (27 + 2 * (k : Int)) f = q at *
      have j0 : 27 + 2 * (k : Int) < 40 := by omega
      clear H h0 hal
      cases q
      all_goals
        go_wp2_with (first
          | (go_at_call 15; first | (with_reducible refine (h1 _ W).mono ?_; rintro e w' ⟨rfl, hb⟩; replace hX := hX.step hb; replace W := W.below hb; clear hb) | (with_reducible refine (h2 _ W).mono ?_; rintro e w' ⟨rfl, hb⟩; replace hX := hX.step hb; replace W := W.below hb; clear hb)))
        refine ⟨⟨k + 1, by omega, by first | (congr 1; done) | (congr 1; omega), hX, W⟩, by simp only [intOf]; omega⟩
    · obtain rfl : k = 7 := by omega
      go_wp2_with (first
        | (go_at_call 15; first | (with_reducible refine (h0 _ W).mono ?_; rintro e w' ⟨rfl, hb⟩; replace hX := hX.step hb; replace W := W.below hb; clear hb))
        | (go_at_call 12; first | (with_reducible refine (hal _ W).mono ?_; rintro e w' ⟨rfl, hb⟩; replace hX := hX.step hb; replace W := W.below hb; clear hb)))
      go_ret
      exact ⟨rfl, hX.below⟩

theorem AluCompares_f (H : AluC) (a y f : Int) (W0 : World) (W : Wid W0) : Calls Tryd.prog 8 #[.int .i64 a, .int .i64 y, .int .i64 f, .bool false] W0 fun e w' => e = .returned (.bool true) ∧ Below W0.heap.size W0 w' := by
  have hX := Bag.nil W0
  have hal := alive_true H
  have h1 : ∀ w, Wid w → Calls Tryd.prog 10 #[.int .i64 2, .bool false, .int .i64 a, .int .i64 y, .int .i64 f] w fun e w' => e = .returned (.tuple #[.int .i64 (subR false (op false a) (op false y) 0), .int .i64 (subF false (op false a) (op false y) 0), .bool false]) ∧ Below w.heap.size w w' := fun w W => H.dbl 2 false a y f w W
  rw [subF_op] at h1
  have hh := H.tkn
  obtain ⟨t1, t2, t3, t4, t5, t6⟩ := tk_cmp false a y
  have g1 := H.tkn 40 (subF false a y 0)
  have g2 := H.tkn 36 (subF false a y 0)
  have g3 := H.tkn 28 (subF false a y 0)
  have g4 := H.tkn 30 (subF false a y 0)
  have g5 := H.tkn 31 (subF false a y 0)
  have g6 := H.tkn 32 (subF false a y 0)
  rw [t1] at g1
  rw [t2] at g2
  rw [t3, show decide (op false a = op false y) = (op false a == op false y) from rfl] at g3
  rw [t4] at g4
  rw [t5] at g5
  rw [t6] at g6
  clear t1 t2 t3 t4 t5 t6 hh H
  generalize subF false a y 0 = F at *
  generalize subR false (op false a) (op false y) 0 = rr at *
  have A1 : bits .and .i64 a 65535 = op false a := and_65535 a
  have A2 : bits .and .i64 y 65535 = op false y := and_65535 y
  have e1 : op false (a + M false / 2) = (op false a + 32767 + 1) % 65536 := by show (a + 65536 / 2) % 65536 = (a % 65536 + 32767 + 1) % 65536; omega
  have e2 : op false (y + M false / 2) = (op false y + 32767 + 1) % 65536 := by show (y + 65536 / 2) % 65536 = (y % 65536 + 32767 + 1) % 65536; omega
  rw [e1, e2] at g4 g5 g6
  clear e1 e2
  have q0 := op_bd false a
  have q1 := op_bd false y
  generalize op false a = p at *
  generalize op false y = q at *
  obtain ⟨p0, p1⟩ := q0
  obtain ⟨q0, q1⟩ := q1
  have A3 := and_65535 (p + 32767 + 1)
  have A4 := and_65535 (q + 32767 + 1)
  generalize hs : (p + 32767 + 1) % 65536 = s at *
  generalize ht : (q + 32767 + 1) % 65536 = t at *
  clear hs ht
  go_enter Tryd.func8, Tryd.ntmps8
  go_wp2_with (first
    | (go_at_call 10; first | (with_reducible refine (h1 _ W).mono ?_; rintro e w' ⟨rfl, hb⟩; replace hX := hX.step hb; replace W := W.below hb; clear hb))
    | (go_at_call 15; first | (with_reducible refine (g1 _ W).mono ?_; rintro e w' ⟨rfl, hb⟩; replace hX := hX.step hb; replace W := W.below hb; clear hb) | (with_reducible refine (g2 _ W).mono ?_; rintro e w' ⟨rfl, hb⟩; replace hX := hX.step hb; replace W := W.below hb; clear hb) | (with_reducible refine (g3 _ W).mono ?_; rintro e w' ⟨rfl, hb⟩; replace hX := hX.step hb; replace W := W.below hb; clear hb) | (with_reducible refine (g4 _ W).mono ?_; rintro e w' ⟨rfl, hb⟩; replace hX := hX.step hb; replace W := W.below hb; clear hb) | (with_reducible refine (g5 _ W).mono ?_; rintro e w' ⟨rfl, hb⟩; replace hX := hX.step hb; replace W := W.below hb; clear hb) | (with_reducible refine (g6 _ W).mono ?_; rintro e w' ⟨rfl, hb⟩; replace hX := hX.step hb; replace W := W.below hb; clear hb))
    | (go_at_call 12; first | (with_reducible refine (hal _ W).mono ?_; rintro e w' ⟨rfl, hb⟩; replace hX := hX.step hb; replace W := W.below hb; clear hb)))
  go_ret
  exact ⟨rfl, hX.below⟩

theorem AluUndo_f (H : AluC) (a y f : Int) (W0 : World) (W : Wid W0) : Calls Tryd.prog 9 #[.int .i64 a, .int .i64 y, .int .i64 f, .bool false] W0 fun e w' => e = .returned (.bool true) ∧ Below W0.heap.size W0 w' := by
  have hX := Bag.nil W0
  have hal := alive_true H
  have c1 := H.sng 13 false a f
  have c2 := H.sng 13 false (sngV 13 false a f).1 f
  have n1 := H.sng 16 false a f
  have n2 := H.sng 16 false (sngV 16 false a f).1 f
  have i1 := H.sng 14 false a f
  have i2 := H.sng 15 false (sngV 14 false a f).1 f
  have s1 := H.sng 24 false a f
  have s2 := H.sng 24 false (sngV 24 false a f).1 f
  have d1 := H.dbl 6 false y a f
  have d2 := H.dbl 7 false y (dblV 6 false y a f).1 f
  rw [un_com false a f] at c2
  rw [un_neg false a f] at n2
  rw [un_inc false a f] at i2
  rw [un_swab a f] at s2
  rw [un_add a y f] at d2
  clear H
  have A1 : bits .and .i64 a 65535 = op false a := and_65535 a
  have A2 : bits .and .i64 a 65535 = a % 65536 := and_65535 a
  generalize (sngV 13 false (sngV 13 false a f).1 f) = u1 at *
  generalize (sngV 16 false (sngV 16 false a f).1 f) = u2 at *
  generalize (sngV 15 false (sngV 14 false a f).1 f) = u3 at *
  generalize (sngV 24 false (sngV 24 false a f).1 f) = u4 at *
  generalize (dblV 7 false y (dblV 6 false y a f).1 f) = u5 at *
  generalize sngV 13 false a f = v1 at *
  generalize sngV 16 false a f = v2 at *
  generalize sngV 14 false a f = v3 at *
  generalize sngV 24 false a f = v4 at *
  generalize dblV 6 false y a f = v5 at *
  go_enter Tryd.func9, Tryd.ntmps9
  go_wp2_with (first
    | (go_at_call 13; first | (with_reducible refine (c1 _ W).mono ?_; rintro e w' ⟨rfl, hb⟩; replace hX := hX.step hb; replace W := W.below hb; clear hb) | (with_reducible refine (c2 _ W).mono ?_; rintro e w' ⟨rfl, hb⟩; replace hX := hX.step hb; replace W := W.below hb; clear hb) | (with_reducible refine (n1 _ W).mono ?_; rintro e w' ⟨rfl, hb⟩; replace hX := hX.step hb; replace W := W.below hb; clear hb) | (with_reducible refine (n2 _ W).mono ?_; rintro e w' ⟨rfl, hb⟩; replace hX := hX.step hb; replace W := W.below hb; clear hb) | (with_reducible refine (i1 _ W).mono ?_; rintro e w' ⟨rfl, hb⟩; replace hX := hX.step hb; replace W := W.below hb; clear hb) | (with_reducible refine (i2 _ W).mono ?_; rintro e w' ⟨rfl, hb⟩; replace hX := hX.step hb; replace W := W.below hb; clear hb) | (with_reducible refine (s1 _ W).mono ?_; rintro e w' ⟨rfl, hb⟩; replace hX := hX.step hb; replace W := W.below hb; clear hb) | (with_reducible refine (s2 _ W).mono ?_; rintro e w' ⟨rfl, hb⟩; replace hX := hX.step hb; replace W := W.below hb; clear hb))
    | (go_at_call 10; first | (with_reducible refine (d1 _ W).mono ?_; rintro e w' ⟨rfl, hb⟩; replace hX := hX.step hb; replace W := W.below hb; clear hb) | (with_reducible refine (d2 _ W).mono ?_; rintro e w' ⟨rfl, hb⟩; replace hX := hX.step hb; replace W := W.below hb; clear hb))
    | (go_at_call 12; first | (with_reducible refine (hal _ W).mono ?_; rintro e w' ⟨rfl, hb⟩; replace hX := hX.step hb; replace W := W.below hb; clear hb)))
  go_ret
  exact ⟨rfl, hX.below⟩

theorem AluCompares_t (H : AluC) (a y f : Int) (W0 : World) (W : Wid W0) : Calls Tryd.prog 8 #[.int .i64 a, .int .i64 y, .int .i64 f, .bool true] W0 fun e w' => e = .returned (.bool true) ∧ Below W0.heap.size W0 w' := by
  have hX := Bag.nil W0
  have hal := alive_true H
  have h1 : ∀ w, Wid w → Calls Tryd.prog 10 #[.int .i64 2, .bool true, .int .i64 a, .int .i64 y, .int .i64 f] w fun e w' => e = .returned (.tuple #[.int .i64 (subR true (op true a) (op true y) 0), .int .i64 (subF true (op true a) (op true y) 0), .bool false]) ∧ Below w.heap.size w w' := fun w W => H.dbl 2 true a y f w W
  rw [subF_op] at h1
  have hh := H.tkn
  obtain ⟨t1, t2, t3, t4, t5, t6⟩ := tk_cmp true a y
  have g1 := H.tkn 40 (subF true a y 0)
  have g2 := H.tkn 36 (subF true a y 0)
  have g3 := H.tkn 28 (subF true a y 0)
  have g4 := H.tkn 30 (subF true a y 0)
  have g5 := H.tkn 31 (subF true a y 0)
  have g6 := H.tkn 32 (subF true a y 0)
  rw [t1] at g1
  rw [t2] at g2
  rw [t3, show decide (op true a = op true y) = (op true a == op true y) from rfl] at g3
  rw [t4] at g4
  rw [t5] at g5
  rw [t6] at g6
  clear t1 t2 t3 t4 t5 t6 hh H
  generalize subF true a y 0 = F at *
  generalize subR true (op true a) (op true y) 0 = rr at *
  have A1 : bits .and .i64 a 255 = op true a := and_255 a
  have A2 : bits .and .i64 y 255 = op true y := and_255 y
  have e1 : op true (a + M true / 2) = (op true a + 127 + 1) % 256 := by show (a + 256 / 2) % 256 = (a % 256 + 127 + 1) % 256; omega
  have e2 : op true (y + M true / 2) = (op true y + 127 + 1) % 256 := by show (y + 256 / 2) % 256 = (y % 256 + 127 + 1) % 256; omega
  rw [e1, e2] at g4 g5 g6
  clear e1 e2
  have q0 := op_bd true a
  have q1 := op_bd true y
  generalize op true a = p at *
  generalize op true y = q at *
  obtain ⟨p0, p1⟩ := q0
  obtain ⟨q0, q1⟩ := q1
  have A3 := and_255 (p + 127 + 1)
  have A4 := and_255 (q + 127 + 1)
  generalize hs : (p + 127 + 1) % 256 = s at *
  generalize ht : (q + 127 + 1) % 256 = t at *
  clear hs ht
  go_enter Tryd.func8, Tryd.ntmps8
  go_wp2_with (first
    | (go_at_call 10; first | (with_reducible refine (h1 _ W).mono ?_; rintro e w' ⟨rfl, hb⟩; replace hX := hX.step hb; replace W := W.below hb; clear hb))
    | (go_at_call 15; first | (with_reducible refine (g1 _ W).mono ?_; rintro e w' ⟨rfl, hb⟩; replace hX := hX.step hb; replace W := W.below hb; clear hb) | (with_reducible refine (g2 _ W).mono ?_; rintro e w' ⟨rfl, hb⟩; replace hX := hX.step hb; replace W := W.below hb; clear hb) | (with_reducible refine (g3 _ W).mono ?_; rintro e w' ⟨rfl, hb⟩; replace hX := hX.step hb; replace W := W.below hb; clear hb) | (with_reducible refine (g4 _ W).mono ?_; rintro e w' ⟨rfl, hb⟩; replace hX := hX.step hb; replace W := W.below hb; clear hb) | (with_reducible refine (g5 _ W).mono ?_; rintro e w' ⟨rfl, hb⟩; replace hX := hX.step hb; replace W := W.below hb; clear hb) | (with_reducible refine (g6 _ W).mono ?_; rintro e w' ⟨rfl, hb⟩; replace hX := hX.step hb; replace W := W.below hb; clear hb))
    | (go_at_call 12; first | (with_reducible refine (hal _ W).mono ?_; rintro e w' ⟨rfl, hb⟩; replace hX := hX.step hb; replace W := W.below hb; clear hb)))
  go_ret
  exact ⟨rfl, hX.below⟩

theorem AluUndo_t (H : AluC) (a y f : Int) (W0 : World) (W : Wid W0) : Calls Tryd.prog 9 #[.int .i64 a, .int .i64 y, .int .i64 f, .bool true] W0 fun e w' => e = .returned (.bool true) ∧ Below W0.heap.size W0 w' := by
  have hX := Bag.nil W0
  have hal := alive_true H
  have c1 := H.sng 13 true a f
  have c2 := H.sng 13 true (sngV 13 true a f).1 f
  have n1 := H.sng 16 true a f
  have n2 := H.sng 16 true (sngV 16 true a f).1 f
  have i1 := H.sng 14 true a f
  have i2 := H.sng 15 true (sngV 14 true a f).1 f
  have s1 := H.sng 24 false a f
  have s2 := H.sng 24 false (sngV 24 false a f).1 f
  have d1 := H.dbl 6 false y a f
  have d2 := H.dbl 7 false y (dblV 6 false y a f).1 f
  rw [un_com true a f] at c2
  rw [un_neg true a f] at n2
  rw [un_inc true a f] at i2
  rw [un_swab a f] at s2
  rw [un_add a y f] at d2
  clear H
  have A1 : bits .and .i64 a 255 = op true a := and_255 a
  have A2 : bits .and .i64 a 65535 = a % 65536 := and_65535 a
  generalize (sngV 13 true (sngV 13 true a f).1 f) = u1 at *
  generalize (sngV 16 true (sngV 16 true a f).1 f) = u2 at *
  generalize (sngV 15 true (sngV 14 true a f).1 f) = u3 at *
  generalize (sngV 24 false (sngV 24 false a f).1 f) = u4 at *
  generalize (dblV 7 false y (dblV 6 false y a f).1 f) = u5 at *
  generalize sngV 13 true a f = v1 at *
  generalize sngV 16 true a f = v2 at *
  generalize sngV 14 true a f = v3 at *
  generalize sngV 24 false a f = v4 at *
  generalize dblV 6 false y a f = v5 at *
  go_enter Tryd.func9, Tryd.ntmps9
  go_wp2_with (first
    | (go_at_call 13; first | (with_reducible refine (c1 _ W).mono ?_; rintro e w' ⟨rfl, hb⟩; replace hX := hX.step hb; replace W := W.below hb; clear hb) | (with_reducible refine (c2 _ W).mono ?_; rintro e w' ⟨rfl, hb⟩; replace hX := hX.step hb; replace W := W.below hb; clear hb) | (with_reducible refine (n1 _ W).mono ?_; rintro e w' ⟨rfl, hb⟩; replace hX := hX.step hb; replace W := W.below hb; clear hb) | (with_reducible refine (n2 _ W).mono ?_; rintro e w' ⟨rfl, hb⟩; replace hX := hX.step hb; replace W := W.below hb; clear hb) | (with_reducible refine (i1 _ W).mono ?_; rintro e w' ⟨rfl, hb⟩; replace hX := hX.step hb; replace W := W.below hb; clear hb) | (with_reducible refine (i2 _ W).mono ?_; rintro e w' ⟨rfl, hb⟩; replace hX := hX.step hb; replace W := W.below hb; clear hb) | (with_reducible refine (s1 _ W).mono ?_; rintro e w' ⟨rfl, hb⟩; replace hX := hX.step hb; replace W := W.below hb; clear hb) | (with_reducible refine (s2 _ W).mono ?_; rintro e w' ⟨rfl, hb⟩; replace hX := hX.step hb; replace W := W.below hb; clear hb))
    | (go_at_call 10; first | (with_reducible refine (d1 _ W).mono ?_; rintro e w' ⟨rfl, hb⟩; replace hX := hX.step hb; replace W := W.below hb; clear hb) | (with_reducible refine (d2 _ W).mono ?_; rintro e w' ⟨rfl, hb⟩; replace hX := hX.step hb; replace W := W.below hb; clear hb))
    | (go_at_call 12; first | (with_reducible refine (hal _ W).mono ?_; rintro e w' ⟨rfl, hb⟩; replace hX := hX.step hb; replace W := W.below hb; clear hb)))
  go_ret
  exact ⟨rfl, hX.below⟩

theorem AluCompares_law (H : AluC) (a y f : Int) (b : Bool) (W0 : World) (W : Wid W0) : Calls Tryd.prog 8 #[.int .i64 a, .int .i64 y, .int .i64 f, .bool b] W0 fun e w' => e = .returned (.bool true) ∧ Below W0.heap.size W0 w' := by
  cases b
  · exact AluCompares_f H a y f W0 W
  · exact AluCompares_t H a y f W0 W

theorem AluUndo_law (H : AluC) (a y f : Int) (b : Bool) (W0 : World) (W : Wid W0) : Calls Tryd.prog 9 #[.int .i64 a, .int .i64 y, .int .i64 f, .bool b] W0 fun e w' => e = .returned (.bool true) ∧ Below W0.heap.size W0 w' := by
  cases b
  · exact AluUndo_f H a y f W0 W
  · exact AluUndo_t H a y f W0 W
end Go.Proofs.YtpimdbglmoopcaaDoor
