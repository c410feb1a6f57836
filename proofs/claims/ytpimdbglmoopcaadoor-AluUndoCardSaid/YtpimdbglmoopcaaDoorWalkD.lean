/-
  What Add, Sub, Mul, Div and Shift of package word return. Condition: the table of widths holds its four numbers.
-/
import Derived.Test.YtpimdbglmoopcaaDoorWalkC
import Derived.Test.YtpimdbglmoopcaaDoorPlainB
namespace Go.Proofs.YtpimdbglmoopcaaDoor
open Go.RowKit
attribute [local irreducible] wpQuiet

theorem ret_pair' {a a' b b' : Int} (h : a = a') (h' : b = b') : Ending.returned (.tuple #[.int .i64 a, .int .i64 b]) = .returned (.tuple #[.int .i64 a', .int .i64 b']) := by rw [h, h']

theorem Add_any (b : Bool) (x y c : Int) (w : World) (W : Wid w) :
    Calls Tryd.prog 21 #[.int .i64 x, .int .i64 y, .int .i64 c, .bool b] w fun e w' => e = .returned (.tuple #[.int .i64 (addR b x y c), .int .i64 (addF b x y c)]) ∧ Below w.heap.size w w' := by
  cases b
  · cases hg : (ng 32768 (x % 65536) == ng 32768 (y % 65536))
    all_goals have hn : (neg false x == neg false y) = _ := (by rw [← ng_op_f x, ← ng_op_f y] : (neg false x == neg false y) = (ng 32768 (x % 65536) == ng 32768 (y % 65536))).trans hg
    · refine (Add_f0 x y c w W hg).mono fun e w' ⟨he, hb⟩ => ⟨he.trans (ret_pair' rfl (add_f x y c _ ?_)), hb⟩
      rw [hn]
      rfl
    · refine (Add_f1 x y c w W hg).mono fun e w' ⟨he, hb⟩ => ⟨he.trans (ret_pair' rfl (add_f x y c _ ?_)), hb⟩
      rw [hn, Bool.true_and, ng_f, ng_op_f]
      rfl
  · cases hg : (ng 128 (x % 256) == ng 128 (y % 256))
    all_goals have hn : (neg true x == neg true y) = _ := (by rw [← ng_op_t x, ← ng_op_t y] : (neg true x == neg true y) = (ng 128 (x % 256) == ng 128 (y % 256))).trans hg
    · refine (Add_t0 x y c w W hg).mono fun e w' ⟨he, hb⟩ => ⟨he.trans (ret_pair' rfl (add_t x y c _ ?_)), hb⟩
      rw [hn]
      rfl
    · refine (Add_t1 x y c w W hg).mono fun e w' ⟨he, hb⟩ => ⟨he.trans (ret_pair' rfl (add_t x y c _ ?_)), hb⟩
      rw [hn, Bool.true_and, ng_t, ng_op_t]
      rfl

theorem Sub_any (b : Bool) (x y c : Int) (w : World) (W : Wid w) :
    Calls Tryd.prog 20 #[.int .i64 x, .int .i64 y, .int .i64 c, .bool b] w fun e w' => e = .returned (.tuple #[.int .i64 (subR b x y c), .int .i64 (subF b x y c)]) ∧ Below w.heap.size w w' := by
  cases b
  · cases hg : (ng 32768 (x % 65536) == ng 32768 (y % 65536))
    all_goals have hn : (neg false x == neg false y) = _ := (by rw [← ng_op_f x, ← ng_op_f y] : (neg false x == neg false y) = (ng 32768 (x % 65536) == ng 32768 (y % 65536))).trans hg
    · refine (Sub_f1 x y c w W hg).mono fun e w' ⟨he, hb⟩ => ⟨he.trans (ret_pair' rfl (sub_f x y c _ ?_)), hb⟩
      rw [hn, Bool.not_false, Bool.true_and, ng_f, ng_op_f]
      rfl
    · refine (Sub_f0 x y c w W hg).mono fun e w' ⟨he, hb⟩ => ⟨he.trans (ret_pair' rfl (sub_f x y c _ ?_)), hb⟩
      rw [hn]
      rfl
  · cases hg : (ng 128 (x % 256) == ng 128 (y % 256))
    all_goals have hn : (neg true x == neg true y) = _ := (by rw [← ng_op_t x, ← ng_op_t y] : (neg true x == neg true y) = (ng 128 (x % 256) == ng 128 (y % 256))).trans hg
    · refine (Sub_t1 x y c w W hg).mono fun e w' ⟨he, hb⟩ => ⟨he.trans (ret_pair' rfl (sub_t x y c _ ?_)), hb⟩
      rw [hn, Bool.not_false, Bool.true_and, ng_t, ng_op_t]
      rfl
    · refine (Sub_t0 x y c w W hg).mono fun e w' ⟨he, hb⟩ => ⟨he.trans (ret_pair' rfl (sub_t x y c _ ?_)), hb⟩
      rw [hn]
      rfl

set_option maxHeartbeats 400000 in
theorem fits_any (n : Int) (w : World) (W : Wid w) :
    Calls Tryd.prog 49 #[.int .i64 n] w fun e w' => e = .returned (.bool (fit n)) ∧ Below w.heap.size w w' := by
  go_enter Tryd.func49, Tryd.ntmps49
  go_wp2_with (go_at_call 48; refine (Signed_any _ _ W).mono ?_; rintro e w' ⟨rfl, hb⟩)
  go_ret
  exact ⟨ret_bool (fit_eq n), hb⟩

theorem ret_three {a a' b b' c c' : Int} (h : a = a') (h' : b = b') (h'' : c = c') : Ending.returned (.tuple #[.int .i64 a, .int .i64 b, .int .i64 c]) = .returned (.tuple #[.int .i64 a', .int .i64 b', .int .i64 c']) := by rw [h, h', h'']

set_option maxHeartbeats 1000000 in
theorem Mul_any (a b : Int) (w : World) (W : Wid w) :
    Calls Tryd.prog 35 #[.int .i64 a, .int .i64 b] w fun e w' => e = .returned (.tuple #[.int .i64 (mulH a b), .int .i64 (mulL a b), .int .i64 (mulF a b)]) ∧ Below w.heap.size w w' := by
  have hp := mul_bd a b
  unfold mulP at hp
  go_enter Tryd.func35, Tryd.ntmps35
  go_wp2_with fail
  refine (Signed_any _ _ W).mono ?_
  rintro e w1 ⟨rfl, hb1⟩
  go_wp2_with fail
  refine (Signed_any _ _ (W.below hb1)).mono ?_
  rintro e w2 ⟨rfl, hb2⟩
  have hB2 := hb1.trans (hb2.mono hb1.size)
  have W2 := W.below hB2
  clear hb1 hb2
  have W3 := W2
  go_wp2_with (first | (go_at_call 45; refine (when_any _ _ _).mono ?_; rintro e w' ⟨rfl, rfl⟩) | (go_at_call 49; refine (fits_any _ _ W2).mono ?_; rintro e w3 ⟨rfl, hb⟩; have W3 := W2.below hb) | (go_at_call 38; refine (wrap_any _ _ W3).mono ?_; rintro e w' ⟨rfl, rfl⟩))
  go_ret3
  exact ⟨ret_three rfl rfl (or_nzc _ _ _), hB2.trans (hb.mono hB2.size)⟩

end Go.Proofs.YtpimdbglmoopcaaDoor
