/-
  Walk over the statement DisasmInverse, case by case. Condition: the tables read as the program's text lays them.
-/
import Derived.Test.YtipaednpelapgaaDoorMQ
import Derived.Test.YtipaednpelapgaaDoorMX
import Derived.Test.YtipaednpelapgaaDoorInXa
namespace Go.Proofs.YtipaednpelapgaaDoor
open Go.RowKit
set_option linter.unusedSimpArgs false
set_option linter.unusedVariables false
set_option maxHeartbeats 40000000
set_option maxRecDepth 100000
attribute [local irreducible] wpQuiet

theorem tx_em (i : In) (a : Int) : (txT i a).isEmpty = !vR i := by
  cases h : vR i with
  | true =>
    have := tx_ne a h
    exact List.isEmpty_eq_false_iff.2 (List.length_pos_iff.1 this)
  | false =>
    unfold txT
    rw [h]
    rfl
theorem inv_A1F (o1 : Int) (b1 : Bool) (o : Int) (b : Bool) (m r x p q y g n : Int) (o2 : Int) (b2 : Bool) (m2 r2 x2 p2 q2 y2 g2 n2 : Int) (a : Int) (k1 : o1 < 1) (hV : vR ⟨o, b, m, r, x, p, q, y, g, n⟩ = false) {A : Addr} {c : Nat} (W0 : World) (W : Dis A c W0) :
    Calls Tryd.prog 6 #[.int .i64 o1, .bool b1, .agg #[.int .i64 o, .bool b, .int .i64 m, .int .i64 r, .int .i64 x, .int .i64 p, .int .i64 q, .int .i64 y, .int .i64 g, .int .i64 n], .agg #[.int .i64 o2, .bool b2, .int .i64 m2, .int .i64 r2, .int .i64 x2, .int .i64 p2, .int .i64 q2, .int .i64 y2, .int .i64 g2, .int .i64 n2], .int .i64 a] W0 fun e w' => e = .returned (.bool true) ∧ Below W0.heap.size W0 w' := by
  have hX := ((St.start W.frm).put [.int .i64 o, .bool b, .int .i64 m, .int .i64 r, .int .i64 x, .int .i64 p, .int .i64 q, .int .i64 y, .int .i64 g, .int .i64 n] 33).put [.int .i64 o2, .bool b2, .int .i64 m2, .int .i64 r2, .int .i64 x2, .int .i64 p2, .int .i64 q2, .int .i64 y2, .int .i64 g2, .int .i64 n2] 33
  rw [show (W0.alloc (.cells #[.int .i64 o, .bool b, .int .i64 m, .int .i64 r, .int .i64 x, .int .i64 p, .int .i64 q, .int .i64 y, .int .i64 g, .int .i64 n] 33)).heap.size = W0.heap.size + 1 from Array.size_push _] at hX
  have h1 := fun w D => dnam_any o1 b1 (A := A) (c := c) w D
  have h2 := fun w D => byname_any ⟨(nmT o1 b1).toArray⟩ (by have := nmT_len o1 b1; rw [tx_size]; unfold maxLen; omega) (A := A) (c := c) w D
  rw [show (⟨(nmT o1 b1).toArray⟩ : ByteArray).data.toList = nmT o1 b1 by simp] at h2
  have h3 := fun w D => dtext_any o b m r x p q y g n a (A := A) (c := c) w D
  have h4 := fun w D => dtext_any o2 b2 m2 r2 x2 p2 q2 y2 g2 n2 a (A := A) (c := c) w D
  have h5 := fun w (k : Frm A c w) => rV_any o b m r x p q y g n w k
  have h6 := fun w (k : Frm A c w) => rV_any o2 b2 m2 r2 x2 p2 q2 y2 g2 n2 w k
  have h7 := fun w (D : Dis A c w) => alive_any w D
  have t1 := tx_em ⟨o, b, m, r, x, p, q, y, g, n⟩ a
  have t2 := tx_em ⟨o2, b2, m2, r2, x2, p2, q2, y2, g2, n2⟩ a
  have f0 : ¬ 1 ≤ o1 := by omega
  have e1 : nmT o1 b1 = [] := by unfold nmT opB byB; simp; omega
  rw [e1] at h1 h2
  rw [show bnT [] = none by decide +kernel] at h2
  unfold bnV at h2
  simp only [Option.getD_none, Option.isSome_none] at h2
  clear e1
  rw [hV] at t1 h5
  have t3 : txT ⟨o, b, m, r, x, p, q, y, g, n⟩ a = [] := List.isEmpty_iff.1 t1
  rw [t3] at h3
  clear t1 t3
  clear hV
  generalize txT ⟨o2, b2, m2, r2, x2, p2, q2, y2, g2, n2⟩ a = S2 at *
  generalize vR ⟨o2, b2, m2, r2, x2, p2, q2, y2, g2, n2⟩ = V2 at *
  obtain ⟨i0, i1, i2, i3, i4, i5, i6, i7, i8, i9⟩ := hX.ten 1 rfl
  obtain ⟨j0, j1, j2, j3, j4, j5, j6, j7, j8, j9⟩ := hX.ten 0 rfl
  go_enter Tryd.func6, Tryd.ntmps6
  go_upto_region 1 with fail
  generalize hw1 : W0.alloc (.cells #[.int .i64 o, .bool b, .int .i64 m, .int .i64 r, .int .i64 x, .int .i64 p, .int .i64 q, .int .i64 y, .int .i64 g, .int .i64 n] 33) = w1 at *
  generalize hw2 : w1.alloc (.cells #[.int .i64 o2, .bool b2, .int .i64 m2, .int .i64 r2, .int .i64 x2, .int .i64 p2, .int .i64 q2, .int .i64 y2, .int .i64 g2, .int .i64 n2] 33) = w2 at *
  clear hw1 hw2
  generalize hBB : W0.heap.size = B at hX i0 i1 i2 i3 i4 i5 i6 i7 i8 i9 j0 j1 j2 j3 j4 j5 j6 j7 j8 j9 ⊢
  go_wp2_with (first | (go_at_call 11; with_reducible refine (h1 _ (hX.dis W)).mono ?_; rintro e w' ⟨rfl, hb⟩; have hX := hX.step hb; clear hb; obtain ⟨i0, i1, i2, i3, i4, i5, i6, i7, i8, i9⟩ := hX.ten 1 rfl; obtain ⟨j0, j1, j2, j3, j4, j5, j6, j7, j8, j9⟩ := hX.ten 0 rfl) | (go_at_call 9; with_reducible refine (h2 _ (hX.dis W)).mono ?_; rintro e w' ⟨rfl, hb⟩; have hX := hX.step hb; clear hb; obtain ⟨i0, i1, i2, i3, i4, i5, i6, i7, i8, i9⟩ := hX.ten 1 rfl; obtain ⟨j0, j1, j2, j3, j4, j5, j6, j7, j8, j9⟩ := hX.ten 0 rfl))
  refine region_class (fun w' => St A c [(B + 1, [.int .i64 o2, .bool b2, .int .i64 m2, .int .i64 r2, .int .i64 x2, .int .i64 p2, .int .i64 q2, .int .i64 y2, .int .i64 g2, .int .i64 n2]), (B, [.int .i64 o, .bool b, .int .i64 m, .int .i64 r, .int .i64 x, .int .i64 p, .int .i64 q, .int .i64 y, .int .i64 g, .int .i64 n])] W0 w') (by kernel_rfl) (by kernel_rfl) hX.drew ?_
  clear hX i0 i1 i2 i3 i4 i5 i6 i7 i8 i9 j0 j1 j2 j3 j4 j5 j6 j7 j8 j9
  repeat
    first
      | (refine BigFrame.wpQuiet_skip (by rfl) ?_
         simp only [Act.put, List.setIfInBounds_toArray, List.set_cons_zero, List.set_cons_succ])
      | (refine BigFrame.wpQuiet_want (by rfl) (fun K hK => ?_)
         apply Exists.intro
         refine ⟨fun wq hq => ?_, hK _ ?_⟩
         · obtain ⟨i0, i1, i2, i3, i4, i5, i6, i7, i8, i9⟩ := hq.ten 1 rfl
           obtain ⟨j0, j1, j2, j3, j4, j5, j6, j7, j8, j9⟩ := hq.ten 0 rfl
           unfold Oper.quietAt
           go_simp
           first
             | with_reducible rfl
             | ((go_at_call 15); with_reducible refine (h3 _ (hq.dis W)).mono ?_; exact fun e w' ⟨he, hb⟩ => ⟨he, hq.step hb⟩)
             | ((go_at_call 15); with_reducible refine (h4 _ (hq.dis W)).mono ?_; exact fun e w' ⟨he, hb⟩ => ⟨he, hq.step hb⟩)
         clear hK K
         simp only [Act.put, List.setIfInBounds_toArray, List.set_cons_zero, List.set_cons_succ])
  refine wpQuiet_nil ?_
  intro w4 hX
  obtain ⟨i0, i1, i2, i3, i4, i5, i6, i7, i8, i9⟩ := hX.ten 1 rfl
  obtain ⟨j0, j1, j2, j3, j4, j5, j6, j7, j8, j9⟩ := hX.ten 0 rfl
  go_wp2_with (first | (go_at_call 17; with_reducible refine (h5 _ hX.frm).mono ?_; rintro e w' ⟨rfl, hb⟩; have hX := hX.step hb; clear hb; obtain ⟨i0, i1, i2, i3, i4, i5, i6, i7, i8, i9⟩ := hX.ten 1 rfl; obtain ⟨j0, j1, j2, j3, j4, j5, j6, j7, j8, j9⟩ := hX.ten 0 rfl) | (go_at_call 17; with_reducible refine (h6 _ hX.frm).mono ?_; rintro e w' ⟨rfl, hb⟩; have hX := hX.step hb; clear hb; obtain ⟨i0, i1, i2, i3, i4, i5, i6, i7, i8, i9⟩ := hX.ten 1 rfl; obtain ⟨j0, j1, j2, j3, j4, j5, j6, j7, j8, j9⟩ := hX.ten 0 rfl) | (go_at_call 8; with_reducible refine (h7 _ (hX.dis W)).mono ?_; rintro e w' ⟨rfl, hb⟩; have hX := hX.step hb; clear hb; obtain ⟨i0, i1, i2, i3, i4, i5, i6, i7, i8, i9⟩ := hX.ten 1 rfl; obtain ⟨j0, j1, j2, j3, j4, j5, j6, j7, j8, j9⟩ := hX.ten 0 rfl))
  go_ret
  exact ⟨rfl, hX.below⟩

theorem inv_A1E (o1 : Int) (b1 : Bool) (o : Int) (b : Bool) (m r x p q y g n : Int) (a : Int) (k1 : o1 < 1) (hV : vR ⟨o, b, m, r, x, p, q, y, g, n⟩ = true) {A : Addr} {c : Nat} (W0 : World) (W : Dis A c W0) :
    Calls Tryd.prog 6 #[.int .i64 o1, .bool b1, .agg #[.int .i64 o, .bool b, .int .i64 m, .int .i64 r, .int .i64 x, .int .i64 p, .int .i64 q, .int .i64 y, .int .i64 g, .int .i64 n], .agg #[.int .i64 o, .bool b, .int .i64 m, .int .i64 r, .int .i64 x, .int .i64 p, .int .i64 q, .int .i64 y, .int .i64 g, .int .i64 n], .int .i64 a] W0 fun e w' => e = .returned (.bool true) ∧ Below W0.heap.size W0 w' := by
  have hX := ((St.start W.frm).put [.int .i64 o, .bool b, .int .i64 m, .int .i64 r, .int .i64 x, .int .i64 p, .int .i64 q, .int .i64 y, .int .i64 g, .int .i64 n] 33).put [.int .i64 o, .bool b, .int .i64 m, .int .i64 r, .int .i64 x, .int .i64 p, .int .i64 q, .int .i64 y, .int .i64 g, .int .i64 n] 33
  rw [show (W0.alloc (.cells #[.int .i64 o, .bool b, .int .i64 m, .int .i64 r, .int .i64 x, .int .i64 p, .int .i64 q, .int .i64 y, .int .i64 g, .int .i64 n] 33)).heap.size = W0.heap.size + 1 from Array.size_push _] at hX
  have h1 := fun w D => dnam_any o1 b1 (A := A) (c := c) w D
  have h2 := fun w D => byname_any ⟨(nmT o1 b1).toArray⟩ (by have := nmT_len o1 b1; rw [tx_size]; unfold maxLen; omega) (A := A) (c := c) w D
  rw [show (⟨(nmT o1 b1).toArray⟩ : ByteArray).data.toList = nmT o1 b1 by simp] at h2
  have h3 := fun w D => dtext_any o b m r x p q y g n a (A := A) (c := c) w D
  have h4 := fun w D => dtext_any o b m r x p q y g n a (A := A) (c := c) w D
  have h5 := fun w (k : Frm A c w) => rV_any o b m r x p q y g n w k
  have h6 := fun w (k : Frm A c w) => rV_any o b m r x p q y g n w k
  have h7 := fun w (D : Dis A c w) => alive_any w D
  have t1 := tx_em ⟨o, b, m, r, x, p, q, y, g, n⟩ a
  have t2 := tx_em ⟨o, b, m, r, x, p, q, y, g, n⟩ a
  have f0 : ¬ 1 ≤ o1 := by omega
  have e1 : nmT o1 b1 = [] := by unfold nmT opB byB; simp; omega
  rw [e1] at h1 h2
  rw [show bnT [] = none by decide +kernel] at h2
  unfold bnV at h2
  simp only [Option.getD_none, Option.isSome_none] at h2
  clear e1
  rw [hV] at t1 h5
  rw [hV] at t2 h6
  clear hV
  generalize txT ⟨o, b, m, r, x, p, q, y, g, n⟩ a = S1 at *
  obtain ⟨i0, i1, i2, i3, i4, i5, i6, i7, i8, i9⟩ := hX.ten 1 rfl
  obtain ⟨j0, j1, j2, j3, j4, j5, j6, j7, j8, j9⟩ := hX.ten 0 rfl
  go_enter Tryd.func6, Tryd.ntmps6
  go_upto_region 1 with fail
  generalize hw1 : W0.alloc (.cells #[.int .i64 o, .bool b, .int .i64 m, .int .i64 r, .int .i64 x, .int .i64 p, .int .i64 q, .int .i64 y, .int .i64 g, .int .i64 n] 33) = w1 at *
  generalize hw2 : w1.alloc (.cells #[.int .i64 o, .bool b, .int .i64 m, .int .i64 r, .int .i64 x, .int .i64 p, .int .i64 q, .int .i64 y, .int .i64 g, .int .i64 n] 33) = w2 at *
  clear hw1 hw2
  generalize hBB : W0.heap.size = B at hX i0 i1 i2 i3 i4 i5 i6 i7 i8 i9 j0 j1 j2 j3 j4 j5 j6 j7 j8 j9 ⊢
  go_wp2_with (first | (go_at_call 11; with_reducible refine (h1 _ (hX.dis W)).mono ?_; rintro e w' ⟨rfl, hb⟩; have hX := hX.step hb; clear hb; obtain ⟨i0, i1, i2, i3, i4, i5, i6, i7, i8, i9⟩ := hX.ten 1 rfl; obtain ⟨j0, j1, j2, j3, j4, j5, j6, j7, j8, j9⟩ := hX.ten 0 rfl) | (go_at_call 9; with_reducible refine (h2 _ (hX.dis W)).mono ?_; rintro e w' ⟨rfl, hb⟩; have hX := hX.step hb; clear hb; obtain ⟨i0, i1, i2, i3, i4, i5, i6, i7, i8, i9⟩ := hX.ten 1 rfl; obtain ⟨j0, j1, j2, j3, j4, j5, j6, j7, j8, j9⟩ := hX.ten 0 rfl))
  refine region_class (fun w' => St A c [(B + 1, [.int .i64 o, .bool b, .int .i64 m, .int .i64 r, .int .i64 x, .int .i64 p, .int .i64 q, .int .i64 y, .int .i64 g, .int .i64 n]), (B, [.int .i64 o, .bool b, .int .i64 m, .int .i64 r, .int .i64 x, .int .i64 p, .int .i64 q, .int .i64 y, .int .i64 g, .int .i64 n])] W0 w') (by kernel_rfl) (by kernel_rfl) hX.drew ?_
  clear hX i0 i1 i2 i3 i4 i5 i6 i7 i8 i9 j0 j1 j2 j3 j4 j5 j6 j7 j8 j9
  repeat
    first
      | (refine BigFrame.wpQuiet_skip (by rfl) ?_
         simp only [Act.put, List.setIfInBounds_toArray, List.set_cons_zero, List.set_cons_succ])
      | (refine BigFrame.wpQuiet_want (by rfl) (fun K hK => ?_)
         apply Exists.intro
         refine ⟨fun wq hq => ?_, hK _ ?_⟩
         · obtain ⟨i0, i1, i2, i3, i4, i5, i6, i7, i8, i9⟩ := hq.ten 1 rfl
           obtain ⟨j0, j1, j2, j3, j4, j5, j6, j7, j8, j9⟩ := hq.ten 0 rfl
           unfold Oper.quietAt
           go_simp
           first
             | with_reducible rfl
             | ((go_at_call 15); with_reducible refine (h3 _ (hq.dis W)).mono ?_; exact fun e w' ⟨he, hb⟩ => ⟨he, hq.step hb⟩)
             | ((go_at_call 15); with_reducible refine (h4 _ (hq.dis W)).mono ?_; exact fun e w' ⟨he, hb⟩ => ⟨he, hq.step hb⟩)
         clear hK K
         simp only [Act.put, List.setIfInBounds_toArray, List.set_cons_zero, List.set_cons_succ])
  refine wpQuiet_nil ?_
  intro w4 hX
  obtain ⟨i0, i1, i2, i3, i4, i5, i6, i7, i8, i9⟩ := hX.ten 1 rfl
  obtain ⟨j0, j1, j2, j3, j4, j5, j6, j7, j8, j9⟩ := hX.ten 0 rfl
  go_wp2_with (first | (go_at_call 17; with_reducible refine (h5 _ hX.frm).mono ?_; rintro e w' ⟨rfl, hb⟩; have hX := hX.step hb; clear hb; obtain ⟨i0, i1, i2, i3, i4, i5, i6, i7, i8, i9⟩ := hX.ten 1 rfl; obtain ⟨j0, j1, j2, j3, j4, j5, j6, j7, j8, j9⟩ := hX.ten 0 rfl) | (go_at_call 17; with_reducible refine (h6 _ hX.frm).mono ?_; rintro e w' ⟨rfl, hb⟩; have hX := hX.step hb; clear hb; obtain ⟨i0, i1, i2, i3, i4, i5, i6, i7, i8, i9⟩ := hX.ten 1 rfl; obtain ⟨j0, j1, j2, j3, j4, j5, j6, j7, j8, j9⟩ := hX.ten 0 rfl) | (go_at_call 8; with_reducible refine (h7 _ (hX.dis W)).mono ?_; rintro e w' ⟨rfl, hb⟩; have hX := hX.step hb; clear hb; obtain ⟨i0, i1, i2, i3, i4, i5, i6, i7, i8, i9⟩ := hX.ten 1 rfl; obtain ⟨j0, j1, j2, j3, j4, j5, j6, j7, j8, j9⟩ := hX.ten 0 rfl))
  go_ret
  exact ⟨rfl, hX.below⟩

theorem inv_A1N (o1 : Int) (b1 : Bool) (o : Int) (b : Bool) (m r x p q y g n : Int) (o2 : Int) (b2 : Bool) (m2 r2 x2 p2 q2 y2 g2 n2 : Int) (a : Int) (k1 : o1 < 1) (hV : vR ⟨o, b, m, r, x, p, q, y, g, n⟩ = true) (hne : txT ⟨o, b, m, r, x, p, q, y, g, n⟩ a ≠ txT ⟨o2, b2, m2, r2, x2, p2, q2, y2, g2, n2⟩ a) {A : Addr} {c : Nat} (W0 : World) (W : Dis A c W0) :
    Calls Tryd.prog 6 #[.int .i64 o1, .bool b1, .agg #[.int .i64 o, .bool b, .int .i64 m, .int .i64 r, .int .i64 x, .int .i64 p, .int .i64 q, .int .i64 y, .int .i64 g, .int .i64 n], .agg #[.int .i64 o2, .bool b2, .int .i64 m2, .int .i64 r2, .int .i64 x2, .int .i64 p2, .int .i64 q2, .int .i64 y2, .int .i64 g2, .int .i64 n2], .int .i64 a] W0 fun e w' => e = .returned (.bool true) ∧ Below W0.heap.size W0 w' := by
  have hX := ((St.start W.frm).put [.int .i64 o, .bool b, .int .i64 m, .int .i64 r, .int .i64 x, .int .i64 p, .int .i64 q, .int .i64 y, .int .i64 g, .int .i64 n] 33).put [.int .i64 o2, .bool b2, .int .i64 m2, .int .i64 r2, .int .i64 x2, .int .i64 p2, .int .i64 q2, .int .i64 y2, .int .i64 g2, .int .i64 n2] 33
  rw [show (W0.alloc (.cells #[.int .i64 o, .bool b, .int .i64 m, .int .i64 r, .int .i64 x, .int .i64 p, .int .i64 q, .int .i64 y, .int .i64 g, .int .i64 n] 33)).heap.size = W0.heap.size + 1 from Array.size_push _] at hX
  have h1 := fun w D => dnam_any o1 b1 (A := A) (c := c) w D
  have h2 := fun w D => byname_any ⟨(nmT o1 b1).toArray⟩ (by have := nmT_len o1 b1; rw [tx_size]; unfold maxLen; omega) (A := A) (c := c) w D
  rw [show (⟨(nmT o1 b1).toArray⟩ : ByteArray).data.toList = nmT o1 b1 by simp] at h2
  have h3 := fun w D => dtext_any o b m r x p q y g n a (A := A) (c := c) w D
  have h4 := fun w D => dtext_any o2 b2 m2 r2 x2 p2 q2 y2 g2 n2 a (A := A) (c := c) w D
  have h5 := fun w (k : Frm A c w) => rV_any o b m r x p q y g n w k
  have h6 := fun w (k : Frm A c w) => rV_any o2 b2 m2 r2 x2 p2 q2 y2 g2 n2 w k
  have h7 := fun w (D : Dis A c w) => alive_any w D
  have t1 := tx_em ⟨o, b, m, r, x, p, q, y, g, n⟩ a
  have t2 := tx_em ⟨o2, b2, m2, r2, x2, p2, q2, y2, g2, n2⟩ a
  have f0 : ¬ 1 ≤ o1 := by omega
  have e1 : nmT o1 b1 = [] := by unfold nmT opB byB; simp; omega
  rw [e1] at h1 h2
  rw [show bnT [] = none by decide +kernel] at h2
  unfold bnV at h2
  simp only [Option.getD_none, Option.isSome_none] at h2
  clear e1
  rw [hV] at t1 h5
  have ne1 : ¬ (⟨(txT ⟨o, b, m, r, x, p, q, y, g, n⟩ a).toArray⟩ : ByteArray) = ⟨(txT ⟨o2, b2, m2, r2, x2, p2, q2, y2, g2, n2⟩ a).toArray⟩ := fun h => hne (tx_eq.1 h)
  have ne3 := beq_false_of_ne hne
  clear hV
  generalize txT ⟨o, b, m, r, x, p, q, y, g, n⟩ a = S1 at *
  generalize txT ⟨o2, b2, m2, r2, x2, p2, q2, y2, g2, n2⟩ a = S2 at *
  generalize vR ⟨o2, b2, m2, r2, x2, p2, q2, y2, g2, n2⟩ = V2 at *
  obtain ⟨i0, i1, i2, i3, i4, i5, i6, i7, i8, i9⟩ := hX.ten 1 rfl
  obtain ⟨j0, j1, j2, j3, j4, j5, j6, j7, j8, j9⟩ := hX.ten 0 rfl
  go_enter Tryd.func6, Tryd.ntmps6
  go_upto_region 1 with fail
  generalize hw1 : W0.alloc (.cells #[.int .i64 o, .bool b, .int .i64 m, .int .i64 r, .int .i64 x, .int .i64 p, .int .i64 q, .int .i64 y, .int .i64 g, .int .i64 n] 33) = w1 at *
  generalize hw2 : w1.alloc (.cells #[.int .i64 o2, .bool b2, .int .i64 m2, .int .i64 r2, .int .i64 x2, .int .i64 p2, .int .i64 q2, .int .i64 y2, .int .i64 g2, .int .i64 n2] 33) = w2 at *
  clear hw1 hw2
  generalize hBB : W0.heap.size = B at hX i0 i1 i2 i3 i4 i5 i6 i7 i8 i9 j0 j1 j2 j3 j4 j5 j6 j7 j8 j9 ⊢
  go_wp2_with (first | (go_at_call 11; with_reducible refine (h1 _ (hX.dis W)).mono ?_; rintro e w' ⟨rfl, hb⟩; have hX := hX.step hb; clear hb; obtain ⟨i0, i1, i2, i3, i4, i5, i6, i7, i8, i9⟩ := hX.ten 1 rfl; obtain ⟨j0, j1, j2, j3, j4, j5, j6, j7, j8, j9⟩ := hX.ten 0 rfl) | (go_at_call 9; with_reducible refine (h2 _ (hX.dis W)).mono ?_; rintro e w' ⟨rfl, hb⟩; have hX := hX.step hb; clear hb; obtain ⟨i0, i1, i2, i3, i4, i5, i6, i7, i8, i9⟩ := hX.ten 1 rfl; obtain ⟨j0, j1, j2, j3, j4, j5, j6, j7, j8, j9⟩ := hX.ten 0 rfl))
  refine region_class (fun w' => St A c [(B + 1, [.int .i64 o2, .bool b2, .int .i64 m2, .int .i64 r2, .int .i64 x2, .int .i64 p2, .int .i64 q2, .int .i64 y2, .int .i64 g2, .int .i64 n2]), (B, [.int .i64 o, .bool b, .int .i64 m, .int .i64 r, .int .i64 x, .int .i64 p, .int .i64 q, .int .i64 y, .int .i64 g, .int .i64 n])] W0 w') (by kernel_rfl) (by kernel_rfl) hX.drew ?_
  clear hX i0 i1 i2 i3 i4 i5 i6 i7 i8 i9 j0 j1 j2 j3 j4 j5 j6 j7 j8 j9
  repeat
    first
      | (refine BigFrame.wpQuiet_skip (by rfl) ?_
         simp only [Act.put, List.setIfInBounds_toArray, List.set_cons_zero, List.set_cons_succ])
      | (refine BigFrame.wpQuiet_want (by rfl) (fun K hK => ?_)
         apply Exists.intro
         refine ⟨fun wq hq => ?_, hK _ ?_⟩
         · obtain ⟨i0, i1, i2, i3, i4, i5, i6, i7, i8, i9⟩ := hq.ten 1 rfl
           obtain ⟨j0, j1, j2, j3, j4, j5, j6, j7, j8, j9⟩ := hq.ten 0 rfl
           unfold Oper.quietAt
           go_simp
           first
             | with_reducible rfl
             | ((go_at_call 15); with_reducible refine (h3 _ (hq.dis W)).mono ?_; exact fun e w' ⟨he, hb⟩ => ⟨he, hq.step hb⟩)
             | ((go_at_call 15); with_reducible refine (h4 _ (hq.dis W)).mono ?_; exact fun e w' ⟨he, hb⟩ => ⟨he, hq.step hb⟩)
         clear hK K
         simp only [Act.put, List.setIfInBounds_toArray, List.set_cons_zero, List.set_cons_succ])
  refine wpQuiet_nil ?_
  intro w4 hX
  obtain ⟨i0, i1, i2, i3, i4, i5, i6, i7, i8, i9⟩ := hX.ten 1 rfl
  obtain ⟨j0, j1, j2, j3, j4, j5, j6, j7, j8, j9⟩ := hX.ten 0 rfl
  go_wp2_with (first | (go_at_call 17; with_reducible refine (h5 _ hX.frm).mono ?_; rintro e w' ⟨rfl, hb⟩; have hX := hX.step hb; clear hb; obtain ⟨i0, i1, i2, i3, i4, i5, i6, i7, i8, i9⟩ := hX.ten 1 rfl; obtain ⟨j0, j1, j2, j3, j4, j5, j6, j7, j8, j9⟩ := hX.ten 0 rfl) | (go_at_call 17; with_reducible refine (h6 _ hX.frm).mono ?_; rintro e w' ⟨rfl, hb⟩; have hX := hX.step hb; clear hb; obtain ⟨i0, i1, i2, i3, i4, i5, i6, i7, i8, i9⟩ := hX.ten 1 rfl; obtain ⟨j0, j1, j2, j3, j4, j5, j6, j7, j8, j9⟩ := hX.ten 0 rfl) | (go_at_call 8; with_reducible refine (h7 _ (hX.dis W)).mono ?_; rintro e w' ⟨rfl, hb⟩; have hX := hX.step hb; clear hb; obtain ⟨i0, i1, i2, i3, i4, i5, i6, i7, i8, i9⟩ := hX.ten 1 rfl; obtain ⟨j0, j1, j2, j3, j4, j5, j6, j7, j8, j9⟩ := hX.ten 0 rfl))
  go_ret
  exact ⟨rfl, hX.below⟩

theorem inv_A2F (o1 : Int) (b1 : Bool) (o : Int) (b : Bool) (m r x p q y g n : Int) (o2 : Int) (b2 : Bool) (m2 r2 x2 p2 q2 y2 g2 n2 : Int) (a : Int) (k1 : 56 < o1) (hV : vR ⟨o, b, m, r, x, p, q, y, g, n⟩ = false) {A : Addr} {c : Nat} (W0 : World) (W : Dis A c W0) :
    Calls Tryd.prog 6 #[.int .i64 o1, .bool b1, .agg #[.int .i64 o, .bool b, .int .i64 m, .int .i64 r, .int .i64 x, .int .i64 p, .int .i64 q, .int .i64 y, .int .i64 g, .int .i64 n], .agg #[.int .i64 o2, .bool b2, .int .i64 m2, .int .i64 r2, .int .i64 x2, .int .i64 p2, .int .i64 q2, .int .i64 y2, .int .i64 g2, .int .i64 n2], .int .i64 a] W0 fun e w' => e = .returned (.bool true) ∧ Below W0.heap.size W0 w' := by
  have hX := ((St.start W.frm).put [.int .i64 o, .bool b, .int .i64 m, .int .i64 r, .int .i64 x, .int .i64 p, .int .i64 q, .int .i64 y, .int .i64 g, .int .i64 n] 33).put [.int .i64 o2, .bool b2, .int .i64 m2, .int .i64 r2, .int .i64 x2, .int .i64 p2, .int .i64 q2, .int .i64 y2, .int .i64 g2, .int .i64 n2] 33
  rw [show (W0.alloc (.cells #[.int .i64 o, .bool b, .int .i64 m, .int .i64 r, .int .i64 x, .int .i64 p, .int .i64 q, .int .i64 y, .int .i64 g, .int .i64 n] 33)).heap.size = W0.heap.size + 1 from Array.size_push _] at hX
  have h1 := fun w D => dnam_any o1 b1 (A := A) (c := c) w D
  have h2 := fun w D => byname_any ⟨(nmT o1 b1).toArray⟩ (by have := nmT_len o1 b1; rw [tx_size]; unfold maxLen; omega) (A := A) (c := c) w D
  rw [show (⟨(nmT o1 b1).toArray⟩ : ByteArray).data.toList = nmT o1 b1 by simp] at h2
  have h3 := fun w D => dtext_any o b m r x p q y g n a (A := A) (c := c) w D
  have h4 := fun w D => dtext_any o2 b2 m2 r2 x2 p2 q2 y2 g2 n2 a (A := A) (c := c) w D
  have h5 := fun w (k : Frm A c w) => rV_any o b m r x p q y g n w k
  have h6 := fun w (k : Frm A c w) => rV_any o2 b2 m2 r2 x2 p2 q2 y2 g2 n2 w k
  have h7 := fun w (D : Dis A c w) => alive_any w D
  have t1 := tx_em ⟨o, b, m, r, x, p, q, y, g, n⟩ a
  have t2 := tx_em ⟨o2, b2, m2, r2, x2, p2, q2, y2, g2, n2⟩ a
  have f0 : 1 ≤ o1 := by omega
  have f1 : ¬ o1 ≤ 56 := by omega
  have e1 : nmT o1 b1 = [] := by unfold nmT opB byB; simp; omega
  rw [e1] at h1 h2
  rw [show bnT [] = none by decide +kernel] at h2
  unfold bnV at h2
  simp only [Option.getD_none, Option.isSome_none] at h2
  clear e1
  rw [hV] at t1 h5
  have t3 : txT ⟨o, b, m, r, x, p, q, y, g, n⟩ a = [] := List.isEmpty_iff.1 t1
  rw [t3] at h3
  clear t1 t3
  clear hV
  generalize txT ⟨o2, b2, m2, r2, x2, p2, q2, y2, g2, n2⟩ a = S2 at *
  generalize vR ⟨o2, b2, m2, r2, x2, p2, q2, y2, g2, n2⟩ = V2 at *
  obtain ⟨i0, i1, i2, i3, i4, i5, i6, i7, i8, i9⟩ := hX.ten 1 rfl
  obtain ⟨j0, j1, j2, j3, j4, j5, j6, j7, j8, j9⟩ := hX.ten 0 rfl
  go_enter Tryd.func6, Tryd.ntmps6
  go_upto_region 1 with fail
  generalize hw1 : W0.alloc (.cells #[.int .i64 o, .bool b, .int .i64 m, .int .i64 r, .int .i64 x, .int .i64 p, .int .i64 q, .int .i64 y, .int .i64 g, .int .i64 n] 33) = w1 at *
  generalize hw2 : w1.alloc (.cells #[.int .i64 o2, .bool b2, .int .i64 m2, .int .i64 r2, .int .i64 x2, .int .i64 p2, .int .i64 q2, .int .i64 y2, .int .i64 g2, .int .i64 n2] 33) = w2 at *
  clear hw1 hw2
  generalize hBB : W0.heap.size = B at hX i0 i1 i2 i3 i4 i5 i6 i7 i8 i9 j0 j1 j2 j3 j4 j5 j6 j7 j8 j9 ⊢
  go_wp2_with (first | (go_at_call 11; with_reducible refine (h1 _ (hX.dis W)).mono ?_; rintro e w' ⟨rfl, hb⟩; have hX := hX.step hb; clear hb; obtain ⟨i0, i1, i2, i3, i4, i5, i6, i7, i8, i9⟩ := hX.ten 1 rfl; obtain ⟨j0, j1, j2, j3, j4, j5, j6, j7, j8, j9⟩ := hX.ten 0 rfl) | (go_at_call 9; with_reducible refine (h2 _ (hX.dis W)).mono ?_; rintro e w' ⟨rfl, hb⟩; have hX := hX.step hb; clear hb; obtain ⟨i0, i1, i2, i3, i4, i5, i6, i7, i8, i9⟩ := hX.ten 1 rfl; obtain ⟨j0, j1, j2, j3, j4, j5, j6, j7, j8, j9⟩ := hX.ten 0 rfl))
  refine region_class (fun w' => St A c [(B + 1, [.int .i64 o2, .bool b2, .int .i64 m2, .int .i64 r2, .int .i64 x2, .int .i64 p2, .int .i64 q2, .int .i64 y2, .int .i64 g2, .int .i64 n2]), (B, [.int .i64 o, .bool b, .int .i64 m, .int .i64 r, .int .i64 x, .int .i64 p, .int .i64 q, .int .i64 y, .int .i64 g, .int .i64 n])] W0 w') (by kernel_rfl) (by kernel_rfl) hX.drew ?_
  clear hX i0 i1 i2 i3 i4 i5 i6 i7 i8 i9 j0 j1 j2 j3 j4 j5 j6 j7 j8 j9
  repeat
    first
      | (refine BigFrame.wpQuiet_skip (by rfl) ?_
         simp only [Act.put, List.setIfInBounds_toArray, List.set_cons_zero, List.set_cons_succ])
      | (refine BigFrame.wpQuiet_want (by rfl) (fun K hK => ?_)
         apply Exists.intro
         refine ⟨fun wq hq => ?_, hK _ ?_⟩
         · obtain ⟨i0, i1, i2, i3, i4, i5, i6, i7, i8, i9⟩ := hq.ten 1 rfl
           obtain ⟨j0, j1, j2, j3, j4, j5, j6, j7, j8, j9⟩ := hq.ten 0 rfl
           unfold Oper.quietAt
           go_simp
           first
             | with_reducible rfl
             | ((go_at_call 15); with_reducible refine (h3 _ (hq.dis W)).mono ?_; exact fun e w' ⟨he, hb⟩ => ⟨he, hq.step hb⟩)
             | ((go_at_call 15); with_reducible refine (h4 _ (hq.dis W)).mono ?_; exact fun e w' ⟨he, hb⟩ => ⟨he, hq.step hb⟩)
         clear hK K
         simp only [Act.put, List.setIfInBounds_toArray, List.set_cons_zero, List.set_cons_succ])
  refine wpQuiet_nil ?_
  intro w4 hX
  obtain ⟨i0, i1, i2, i3, i4, i5, i6, i7, i8, i9⟩ := hX.ten 1 rfl
  obtain ⟨j0, j1, j2, j3, j4, j5, j6, j7, j8, j9⟩ := hX.ten 0 rfl
  go_wp2_with (first | (go_at_call 17; with_reducible refine (h5 _ hX.frm).mono ?_; rintro e w' ⟨rfl, hb⟩; have hX := hX.step hb; clear hb; obtain ⟨i0, i1, i2, i3, i4, i5, i6, i7, i8, i9⟩ := hX.ten 1 rfl; obtain ⟨j0, j1, j2, j3, j4, j5, j6, j7, j8, j9⟩ := hX.ten 0 rfl) | (go_at_call 17; with_reducible refine (h6 _ hX.frm).mono ?_; rintro e w' ⟨rfl, hb⟩; have hX := hX.step hb; clear hb; obtain ⟨i0, i1, i2, i3, i4, i5, i6, i7, i8, i9⟩ := hX.ten 1 rfl; obtain ⟨j0, j1, j2, j3, j4, j5, j6, j7, j8, j9⟩ := hX.ten 0 rfl) | (go_at_call 8; with_reducible refine (h7 _ (hX.dis W)).mono ?_; rintro e w' ⟨rfl, hb⟩; have hX := hX.step hb; clear hb; obtain ⟨i0, i1, i2, i3, i4, i5, i6, i7, i8, i9⟩ := hX.ten 1 rfl; obtain ⟨j0, j1, j2, j3, j4, j5, j6, j7, j8, j9⟩ := hX.ten 0 rfl))
  go_ret
  exact ⟨rfl, hX.below⟩

theorem inv_A2E (o1 : Int) (b1 : Bool) (o : Int) (b : Bool) (m r x p q y g n : Int) (a : Int) (k1 : 56 < o1) (hV : vR ⟨o, b, m, r, x, p, q, y, g, n⟩ = true) {A : Addr} {c : Nat} (W0 : World) (W : Dis A c W0) :
    Calls Tryd.prog 6 #[.int .i64 o1, .bool b1, .agg #[.int .i64 o, .bool b, .int .i64 m, .int .i64 r, .int .i64 x, .int .i64 p, .int .i64 q, .int .i64 y, .int .i64 g, .int .i64 n], .agg #[.int .i64 o, .bool b, .int .i64 m, .int .i64 r, .int .i64 x, .int .i64 p, .int .i64 q, .int .i64 y, .int .i64 g, .int .i64 n], .int .i64 a] W0 fun e w' => e = .returned (.bool true) ∧ Below W0.heap.size W0 w' := by
  have hX := ((St.start W.frm).put [.int .i64 o, .bool b, .int .i64 m, .int .i64 r, .int .i64 x, .int .i64 p, .int .i64 q, .int .i64 y, .int .i64 g, .int .i64 n] 33).put [.int .i64 o, .bool b, .int .i64 m, .int .i64 r, .int .i64 x, .int .i64 p, .int .i64 q, .int .i64 y, .int .i64 g, .int .i64 n] 33
  rw [show (W0.alloc (.cells #[.int .i64 o, .bool b, .int .i64 m, .int .i64 r, .int .i64 x, .int .i64 p, .int .i64 q, .int .i64 y, .int .i64 g, .int .i64 n] 33)).heap.size = W0.heap.size + 1 from Array.size_push _] at hX
  have h1 := fun w D => dnam_any o1 b1 (A := A) (c := c) w D
  have h2 := fun w D => byname_any ⟨(nmT o1 b1).toArray⟩ (by have := nmT_len o1 b1; rw [tx_size]; unfold maxLen; omega) (A := A) (c := c) w D
  rw [show (⟨(nmT o1 b1).toArray⟩ : ByteArray).data.toList = nmT o1 b1 by simp] at h2
  have h3 := fun w D => dtext_any o b m r x p q y g n a (A := A) (c := c) w D
  have h4 := fun w D => dtext_any o b m r x p q y g n a (A := A) (c := c) w D
  have h5 := fun w (k : Frm A c w) => rV_any o b m r x p q y g n w k
  have h6 := fun w (k : Frm A c w) => rV_any o b m r x p q y g n w k
  have h7 := fun w (D : Dis A c w) => alive_any w D
  have t1 := tx_em ⟨o, b, m, r, x, p, q, y, g, n⟩ a
  have t2 := tx_em ⟨o, b, m, r, x, p, q, y, g, n⟩ a
  have f0 : 1 ≤ o1 := by omega
  have f1 : ¬ o1 ≤ 56 := by omega
  have e1 : nmT o1 b1 = [] := by unfold nmT opB byB; simp; omega
  rw [e1] at h1 h2
  rw [show bnT [] = none by decide +kernel] at h2
  unfold bnV at h2
  simp only [Option.getD_none, Option.isSome_none] at h2
  clear e1
  rw [hV] at t1 h5
  rw [hV] at t2 h6
  clear hV
  generalize txT ⟨o, b, m, r, x, p, q, y, g, n⟩ a = S1 at *
  obtain ⟨i0, i1, i2, i3, i4, i5, i6, i7, i8, i9⟩ := hX.ten 1 rfl
  obtain ⟨j0, j1, j2, j3, j4, j5, j6, j7, j8, j9⟩ := hX.ten 0 rfl
  go_enter Tryd.func6, Tryd.ntmps6
  go_upto_region 1 with fail
  generalize hw1 : W0.alloc (.cells #[.int .i64 o, .bool b, .int .i64 m, .int .i64 r, .int .i64 x, .int .i64 p, .int .i64 q, .int .i64 y, .int .i64 g, .int .i64 n] 33) = w1 at *
  generalize hw2 : w1.alloc (.cells #[.int .i64 o, .bool b, .int .i64 m, .int .i64 r, .int .i64 x, .int .i64 p, .int .i64 q, .int .i64 y, .int .i64 g, .int .i64 n] 33) = w2 at *
  clear hw1 hw2
  generalize hBB : W0.heap.size = B at hX i0 i1 i2 i3 i4 i5 i6 i7 i8 i9 j0 j1 j2 j3 j4 j5 j6 j7 j8 j9 ⊢
  go_wp2_with (first | (go_at_call 11; with_reducible refine (h1 _ (hX.dis W)).mono ?_; rintro e w' ⟨rfl, hb⟩; have hX := hX.step hb; clear hb; obtain ⟨i0, i1, i2, i3, i4, i5, i6, i7, i8, i9⟩ := hX.ten 1 rfl; obtain ⟨j0, j1, j2, j3, j4, j5, j6, j7, j8, j9⟩ := hX.ten 0 rfl) | (go_at_call 9; with_reducible refine (h2 _ (hX.dis W)).mono ?_; rintro e w' ⟨rfl, hb⟩; have hX := hX.step hb; clear hb; obtain ⟨i0, i1, i2, i3, i4, i5, i6, i7, i8, i9⟩ := hX.ten 1 rfl; obtain ⟨j0, j1, j2, j3, j4, j5, j6, j7, j8, j9⟩ := hX.ten 0 rfl))
  refine region_class (fun w' => St A c [(B + 1, [.int .i64 o, .bool b, .int .i64 m, .int .i64 r, .int .i64 x, .int .i64 p, .int .i64 q, .int .i64 y, .int .i64 g, .int .i64 n]), (B, [.int .i64 o, .bool b, .int .i64 m, .int .i64 r, .int .i64 x, .int .i64 p, .int .i64 q, .int .i64 y, .int .i64 g, .int .i64 n])] W0 w') (by kernel_rfl) (by kernel_rfl) hX.drew ?_
  clear hX i0 i1 i2 i3 i4 i5 i6 i7 i8 i9 j0 j1 j2 j3 j4 j5 j6 j7 j8 j9
  repeat
    first
      | (refine BigFrame.wpQuiet_skip (by rfl) ?_
         simp only [Act.put, List.setIfInBounds_toArray, List.set_cons_zero, List.set_cons_succ])
      | (refine BigFrame.wpQuiet_want (by rfl) (fun K hK => ?_)
         apply Exists.intro
         refine ⟨fun wq hq => ?_, hK _ ?_⟩
         · obtain ⟨i0, i1, i2, i3, i4, i5, i6, i7, i8, i9⟩ := hq.ten 1 rfl
           obtain ⟨j0, j1, j2, j3, j4, j5, j6, j7, j8, j9⟩ := hq.ten 0 rfl
           unfold Oper.quietAt
           go_simp
           first
             | with_reducible rfl
             | ((go_at_call 15); with_reducible refine (h3 _ (hq.dis W)).mono ?_; exact fun e w' ⟨he, hb⟩ => ⟨he, hq.step hb⟩)
             | ((go_at_call 15); with_reducible refine (h4 _ (hq.dis W)).mono ?_; exact fun e w' ⟨he, hb⟩ => ⟨he, hq.step hb⟩)
         clear hK K
         simp only [Act.put, List.setIfInBounds_toArray, List.set_cons_zero, List.set_cons_succ])
  refine wpQuiet_nil ?_
  intro w4 hX
  obtain ⟨i0, i1, i2, i3, i4, i5, i6, i7, i8, i9⟩ := hX.ten 1 rfl
  obtain ⟨j0, j1, j2, j3, j4, j5, j6, j7, j8, j9⟩ := hX.ten 0 rfl
  go_wp2_with (first | (go_at_call 17; with_reducible refine (h5 _ hX.frm).mono ?_; rintro e w' ⟨rfl, hb⟩; have hX := hX.step hb; clear hb; obtain ⟨i0, i1, i2, i3, i4, i5, i6, i7, i8, i9⟩ := hX.ten 1 rfl; obtain ⟨j0, j1, j2, j3, j4, j5, j6, j7, j8, j9⟩ := hX.ten 0 rfl) | (go_at_call 17; with_reducible refine (h6 _ hX.frm).mono ?_; rintro e w' ⟨rfl, hb⟩; have hX := hX.step hb; clear hb; obtain ⟨i0, i1, i2, i3, i4, i5, i6, i7, i8, i9⟩ := hX.ten 1 rfl; obtain ⟨j0, j1, j2, j3, j4, j5, j6, j7, j8, j9⟩ := hX.ten 0 rfl) | (go_at_call 8; with_reducible refine (h7 _ (hX.dis W)).mono ?_; rintro e w' ⟨rfl, hb⟩; have hX := hX.step hb; clear hb; obtain ⟨i0, i1, i2, i3, i4, i5, i6, i7, i8, i9⟩ := hX.ten 1 rfl; obtain ⟨j0, j1, j2, j3, j4, j5, j6, j7, j8, j9⟩ := hX.ten 0 rfl))
  go_ret
  exact ⟨rfl, hX.below⟩

theorem inv_A2N (o1 : Int) (b1 : Bool) (o : Int) (b : Bool) (m r x p q y g n : Int) (o2 : Int) (b2 : Bool) (m2 r2 x2 p2 q2 y2 g2 n2 : Int) (a : Int) (k1 : 56 < o1) (hV : vR ⟨o, b, m, r, x, p, q, y, g, n⟩ = true) (hne : txT ⟨o, b, m, r, x, p, q, y, g, n⟩ a ≠ txT ⟨o2, b2, m2, r2, x2, p2, q2, y2, g2, n2⟩ a) {A : Addr} {c : Nat} (W0 : World) (W : Dis A c W0) :
    Calls Tryd.prog 6 #[.int .i64 o1, .bool b1, .agg #[.int .i64 o, .bool b, .int .i64 m, .int .i64 r, .int .i64 x, .int .i64 p, .int .i64 q, .int .i64 y, .int .i64 g, .int .i64 n], .agg #[.int .i64 o2, .bool b2, .int .i64 m2, .int .i64 r2, .int .i64 x2, .int .i64 p2, .int .i64 q2, .int .i64 y2, .int .i64 g2, .int .i64 n2], .int .i64 a] W0 fun e w' => e = .returned (.bool true) ∧ Below W0.heap.size W0 w' := by
  have hX := ((St.start W.frm).put [.int .i64 o, .bool b, .int .i64 m, .int .i64 r, .int .i64 x, .int .i64 p, .int .i64 q, .int .i64 y, .int .i64 g, .int .i64 n] 33).put [.int .i64 o2, .bool b2, .int .i64 m2, .int .i64 r2, .int .i64 x2, .int .i64 p2, .int .i64 q2, .int .i64 y2, .int .i64 g2, .int .i64 n2] 33
  rw [show (W0.alloc (.cells #[.int .i64 o, .bool b, .int .i64 m, .int .i64 r, .int .i64 x, .int .i64 p, .int .i64 q, .int .i64 y, .int .i64 g, .int .i64 n] 33)).heap.size = W0.heap.size + 1 from Array.size_push _] at hX
  have h1 := fun w D => dnam_any o1 b1 (A := A) (c := c) w D
  have h2 := fun w D => byname_any ⟨(nmT o1 b1).toArray⟩ (by have := nmT_len o1 b1; rw [tx_size]; unfold maxLen; omega) (A := A) (c := c) w D
  rw [show (⟨(nmT o1 b1).toArray⟩ : ByteArray).data.toList = nmT o1 b1 by simp] at h2
  have h3 := fun w D => dtext_any o b m r x p q y g n a (A := A) (c := c) w D
  have h4 := fun w D => dtext_any o2 b2 m2 r2 x2 p2 q2 y2 g2 n2 a (A := A) (c := c) w D
  have h5 := fun w (k : Frm A c w) => rV_any o b m r x p q y g n w k
  have h6 := fun w (k : Frm A c w) => rV_any o2 b2 m2 r2 x2 p2 q2 y2 g2 n2 w k
  have h7 := fun w (D : Dis A c w) => alive_any w D
  have t1 := tx_em ⟨o, b, m, r, x, p, q, y, g, n⟩ a
  have t2 := tx_em ⟨o2, b2, m2, r2, x2, p2, q2, y2, g2, n2⟩ a
  have f0 : 1 ≤ o1 := by omega
  have f1 : ¬ o1 ≤ 56 := by omega
  have e1 : nmT o1 b1 = [] := by unfold nmT opB byB; simp; omega
  rw [e1] at h1 h2
  rw [show bnT [] = none by decide +kernel] at h2
  unfold bnV at h2
  simp only [Option.getD_none, Option.isSome_none] at h2
  clear e1
  rw [hV] at t1 h5
  have ne1 : ¬ (⟨(txT ⟨o, b, m, r, x, p, q, y, g, n⟩ a).toArray⟩ : ByteArray) = ⟨(txT ⟨o2, b2, m2, r2, x2, p2, q2, y2, g2, n2⟩ a).toArray⟩ := fun h => hne (tx_eq.1 h)
  have ne3 := beq_false_of_ne hne
  clear hV
  generalize txT ⟨o, b, m, r, x, p, q, y, g, n⟩ a = S1 at *
  generalize txT ⟨o2, b2, m2, r2, x2, p2, q2, y2, g2, n2⟩ a = S2 at *
  generalize vR ⟨o2, b2, m2, r2, x2, p2, q2, y2, g2, n2⟩ = V2 at *
  obtain ⟨i0, i1, i2, i3, i4, i5, i6, i7, i8, i9⟩ := hX.ten 1 rfl
  obtain ⟨j0, j1, j2, j3, j4, j5, j6, j7, j8, j9⟩ := hX.ten 0 rfl
  go_enter Tryd.func6, Tryd.ntmps6
  go_upto_region 1 with fail
  generalize hw1 : W0.alloc (.cells #[.int .i64 o, .bool b, .int .i64 m, .int .i64 r, .int .i64 x, .int .i64 p, .int .i64 q, .int .i64 y, .int .i64 g, .int .i64 n] 33) = w1 at *
  generalize hw2 : w1.alloc (.cells #[.int .i64 o2, .bool b2, .int .i64 m2, .int .i64 r2, .int .i64 x2, .int .i64 p2, .int .i64 q2, .int .i64 y2, .int .i64 g2, .int .i64 n2] 33) = w2 at *
  clear hw1 hw2
  generalize hBB : W0.heap.size = B at hX i0 i1 i2 i3 i4 i5 i6 i7 i8 i9 j0 j1 j2 j3 j4 j5 j6 j7 j8 j9 ⊢
  go_wp2_with (first | (go_at_call 11; with_reducible refine (h1 _ (hX.dis W)).mono ?_; rintro e w' ⟨rfl, hb⟩; have hX := hX.step hb; clear hb; obtain ⟨i0, i1, i2, i3, i4, i5, i6, i7, i8, i9⟩ := hX.ten 1 rfl; obtain ⟨j0, j1, j2, j3, j4, j5, j6, j7, j8, j9⟩ := hX.ten 0 rfl) | (go_at_call 9; with_reducible refine (h2 _ (hX.dis W)).mono ?_; rintro e w' ⟨rfl, hb⟩; have hX := hX.step hb; clear hb; obtain ⟨i0, i1, i2, i3, i4, i5, i6, i7, i8, i9⟩ := hX.ten 1 rfl; obtain ⟨j0, j1, j2, j3, j4, j5, j6, j7, j8, j9⟩ := hX.ten 0 rfl))
  refine region_class (fun w' => St A c [(B + 1, [.int .i64 o2, .bool b2, .int .i64 m2, .int .i64 r2, .int .i64 x2, .int .i64 p2, .int .i64 q2, .int .i64 y2, .int .i64 g2, .int .i64 n2]), (B, [.int .i64 o, .bool b, .int .i64 m, .int .i64 r, .int .i64 x, .int .i64 p, .int .i64 q, .int .i64 y, .int .i64 g, .int .i64 n])] W0 w') (by kernel_rfl) (by kernel_rfl) hX.drew ?_
  clear hX i0 i1 i2 i3 i4 i5 i6 i7 i8 i9 j0 j1 j2 j3 j4 j5 j6 j7 j8 j9
  repeat
    first
      | (refine BigFrame.wpQuiet_skip (by rfl) ?_
         simp only [Act.put, List.setIfInBounds_toArray, List.set_cons_zero, List.set_cons_succ])
      | (refine BigFrame.wpQuiet_want (by rfl) (fun K hK => ?_)
         apply Exists.intro
         refine ⟨fun wq hq => ?_, hK _ ?_⟩
         · obtain ⟨i0, i1, i2, i3, i4, i5, i6, i7, i8, i9⟩ := hq.ten 1 rfl
           obtain ⟨j0, j1, j2, j3, j4, j5, j6, j7, j8, j9⟩ := hq.ten 0 rfl
           unfold Oper.quietAt
           go_simp
           first
             | with_reducible rfl
             | ((go_at_call 15); with_reducible refine (h3 _ (hq.dis W)).mono ?_; exact fun e w' ⟨he, hb⟩ => ⟨he, hq.step hb⟩)
             | ((go_at_call 15); with_reducible refine (h4 _ (hq.dis W)).mono ?_; exact fun e w' ⟨he, hb⟩ => ⟨he, hq.step hb⟩)
         clear hK K
         simp only [Act.put, List.setIfInBounds_toArray, List.set_cons_zero, List.set_cons_succ])
  refine wpQuiet_nil ?_
  intro w4 hX
  obtain ⟨i0, i1, i2, i3, i4, i5, i6, i7, i8, i9⟩ := hX.ten 1 rfl
  obtain ⟨j0, j1, j2, j3, j4, j5, j6, j7, j8, j9⟩ := hX.ten 0 rfl
  go_wp2_with (first | (go_at_call 17; with_reducible refine (h5 _ hX.frm).mono ?_; rintro e w' ⟨rfl, hb⟩; have hX := hX.step hb; clear hb; obtain ⟨i0, i1, i2, i3, i4, i5, i6, i7, i8, i9⟩ := hX.ten 1 rfl; obtain ⟨j0, j1, j2, j3, j4, j5, j6, j7, j8, j9⟩ := hX.ten 0 rfl) | (go_at_call 17; with_reducible refine (h6 _ hX.frm).mono ?_; rintro e w' ⟨rfl, hb⟩; have hX := hX.step hb; clear hb; obtain ⟨i0, i1, i2, i3, i4, i5, i6, i7, i8, i9⟩ := hX.ten 1 rfl; obtain ⟨j0, j1, j2, j3, j4, j5, j6, j7, j8, j9⟩ := hX.ten 0 rfl) | (go_at_call 8; with_reducible refine (h7 _ (hX.dis W)).mono ?_; rintro e w' ⟨rfl, hb⟩; have hX := hX.step hb; clear hb; obtain ⟨i0, i1, i2, i3, i4, i5, i6, i7, i8, i9⟩ := hX.ten 1 rfl; obtain ⟨j0, j1, j2, j3, j4, j5, j6, j7, j8, j9⟩ := hX.ten 0 rfl))
  go_ret
  exact ⟨rfl, hX.below⟩

theorem inv_A3F (o1 : Int) (b1 : Bool) (o : Int) (b : Bool) (m r x p q y g n : Int) (o2 : Int) (b2 : Bool) (m2 r2 x2 p2 q2 y2 g2 n2 : Int) (a : Int) (kb : b1 = true) (k1 : 5 < o1) (k2 : o1 < 12) (hV : vR ⟨o, b, m, r, x, p, q, y, g, n⟩ = false) {A : Addr} {c : Nat} (W0 : World) (W : Dis A c W0) :
    Calls Tryd.prog 6 #[.int .i64 o1, .bool b1, .agg #[.int .i64 o, .bool b, .int .i64 m, .int .i64 r, .int .i64 x, .int .i64 p, .int .i64 q, .int .i64 y, .int .i64 g, .int .i64 n], .agg #[.int .i64 o2, .bool b2, .int .i64 m2, .int .i64 r2, .int .i64 x2, .int .i64 p2, .int .i64 q2, .int .i64 y2, .int .i64 g2, .int .i64 n2], .int .i64 a] W0 fun e w' => e = .returned (.bool true) ∧ Below W0.heap.size W0 w' := by
  have hX := ((St.start W.frm).put [.int .i64 o, .bool b, .int .i64 m, .int .i64 r, .int .i64 x, .int .i64 p, .int .i64 q, .int .i64 y, .int .i64 g, .int .i64 n] 33).put [.int .i64 o2, .bool b2, .int .i64 m2, .int .i64 r2, .int .i64 x2, .int .i64 p2, .int .i64 q2, .int .i64 y2, .int .i64 g2, .int .i64 n2] 33
  rw [show (W0.alloc (.cells #[.int .i64 o, .bool b, .int .i64 m, .int .i64 r, .int .i64 x, .int .i64 p, .int .i64 q, .int .i64 y, .int .i64 g, .int .i64 n] 33)).heap.size = W0.heap.size + 1 from Array.size_push _] at hX
  have h1 := fun w D => dnam_any o1 b1 (A := A) (c := c) w D
  have h2 := fun w D => byname_any ⟨(nmT o1 b1).toArray⟩ (by have := nmT_len o1 b1; rw [tx_size]; unfold maxLen; omega) (A := A) (c := c) w D
  rw [show (⟨(nmT o1 b1).toArray⟩ : ByteArray).data.toList = nmT o1 b1 by simp] at h2
  have h3 := fun w D => dtext_any o b m r x p q y g n a (A := A) (c := c) w D
  have h4 := fun w D => dtext_any o2 b2 m2 r2 x2 p2 q2 y2 g2 n2 a (A := A) (c := c) w D
  have h5 := fun w (k : Frm A c w) => rV_any o b m r x p q y g n w k
  have h6 := fun w (k : Frm A c w) => rV_any o2 b2 m2 r2 x2 p2 q2 y2 g2 n2 w k
  have h7 := fun w (D : Dis A c w) => alive_any w D
  have t1 := tx_em ⟨o, b, m, r, x, p, q, y, g, n⟩ a
  have t2 := tx_em ⟨o2, b2, m2, r2, x2, p2, q2, y2, g2, n2⟩ a
  subst kb
  have f0 : 1 ≤ o1 := by omega
  have f1 : o1 ≤ 56 := by omega
  have f2 : ¬ o1 ≤ 5 := by omega
  have f3 : ¬ 12 ≤ o1 := by omega
  have e1 : nmT o1 true = [] := by unfold nmT opB byB; simp; omega
  rw [e1] at h1 h2
  rw [show bnT [] = none by decide +kernel] at h2
  unfold bnV at h2
  simp only [Option.getD_none, Option.isSome_none] at h2
  clear e1
  rw [hV] at t1 h5
  have t3 : txT ⟨o, b, m, r, x, p, q, y, g, n⟩ a = [] := List.isEmpty_iff.1 t1
  rw [t3] at h3
  clear t1 t3
  clear hV
  generalize txT ⟨o2, b2, m2, r2, x2, p2, q2, y2, g2, n2⟩ a = S2 at *
  generalize vR ⟨o2, b2, m2, r2, x2, p2, q2, y2, g2, n2⟩ = V2 at *
  obtain ⟨i0, i1, i2, i3, i4, i5, i6, i7, i8, i9⟩ := hX.ten 1 rfl
  obtain ⟨j0, j1, j2, j3, j4, j5, j6, j7, j8, j9⟩ := hX.ten 0 rfl
  go_enter Tryd.func6, Tryd.ntmps6
  go_upto_region 1 with fail
  generalize hw1 : W0.alloc (.cells #[.int .i64 o, .bool b, .int .i64 m, .int .i64 r, .int .i64 x, .int .i64 p, .int .i64 q, .int .i64 y, .int .i64 g, .int .i64 n] 33) = w1 at *
  generalize hw2 : w1.alloc (.cells #[.int .i64 o2, .bool b2, .int .i64 m2, .int .i64 r2, .int .i64 x2, .int .i64 p2, .int .i64 q2, .int .i64 y2, .int .i64 g2, .int .i64 n2] 33) = w2 at *
  clear hw1 hw2
  generalize hBB : W0.heap.size = B at hX i0 i1 i2 i3 i4 i5 i6 i7 i8 i9 j0 j1 j2 j3 j4 j5 j6 j7 j8 j9 ⊢
  go_wp2_with (first | (go_at_call 11; with_reducible refine (h1 _ (hX.dis W)).mono ?_; rintro e w' ⟨rfl, hb⟩; have hX := hX.step hb; clear hb; obtain ⟨i0, i1, i2, i3, i4, i5, i6, i7, i8, i9⟩ := hX.ten 1 rfl; obtain ⟨j0, j1, j2, j3, j4, j5, j6, j7, j8, j9⟩ := hX.ten 0 rfl) | (go_at_call 9; with_reducible refine (h2 _ (hX.dis W)).mono ?_; rintro e w' ⟨rfl, hb⟩; have hX := hX.step hb; clear hb; obtain ⟨i0, i1, i2, i3, i4, i5, i6, i7, i8, i9⟩ := hX.ten 1 rfl; obtain ⟨j0, j1, j2, j3, j4, j5, j6, j7, j8, j9⟩ := hX.ten 0 rfl))
  refine region_class (fun w' => St A c [(B + 1, [.int .i64 o2, .bool b2, .int .i64 m2, .int .i64 r2, .int .i64 x2, .int .i64 p2, .int .i64 q2, .int .i64 y2, .int .i64 g2, .int .i64 n2]), (B, [.int .i64 o, .bool b, .int .i64 m, .int .i64 r, .int .i64 x, .int .i64 p, .int .i64 q, .int .i64 y, .int .i64 g, .int .i64 n])] W0 w') (by kernel_rfl) (by kernel_rfl) hX.drew ?_
  clear hX i0 i1 i2 i3 i4 i5 i6 i7 i8 i9 j0 j1 j2 j3 j4 j5 j6 j7 j8 j9
  repeat
    first
      | (refine BigFrame.wpQuiet_skip (by rfl) ?_
         simp only [Act.put, List.setIfInBounds_toArray, List.set_cons_zero, List.set_cons_succ])
      | (refine BigFrame.wpQuiet_want (by rfl) (fun K hK => ?_)
         apply Exists.intro
         refine ⟨fun wq hq => ?_, hK _ ?_⟩
         · obtain ⟨i0, i1, i2, i3, i4, i5, i6, i7, i8, i9⟩ := hq.ten 1 rfl
           obtain ⟨j0, j1, j2, j3, j4, j5, j6, j7, j8, j9⟩ := hq.ten 0 rfl
           unfold Oper.quietAt
           go_simp
           first
             | with_reducible rfl
             | ((go_at_call 15); with_reducible refine (h3 _ (hq.dis W)).mono ?_; exact fun e w' ⟨he, hb⟩ => ⟨he, hq.step hb⟩)
             | ((go_at_call 15); with_reducible refine (h4 _ (hq.dis W)).mono ?_; exact fun e w' ⟨he, hb⟩ => ⟨he, hq.step hb⟩)
         clear hK K
         simp only [Act.put, List.setIfInBounds_toArray, List.set_cons_zero, List.set_cons_succ])
  refine wpQuiet_nil ?_
  intro w4 hX
  obtain ⟨i0, i1, i2, i3, i4, i5, i6, i7, i8, i9⟩ := hX.ten 1 rfl
  obtain ⟨j0, j1, j2, j3, j4, j5, j6, j7, j8, j9⟩ := hX.ten 0 rfl
  go_wp2_with (first | (go_at_call 17; with_reducible refine (h5 _ hX.frm).mono ?_; rintro e w' ⟨rfl, hb⟩; have hX := hX.step hb; clear hb; obtain ⟨i0, i1, i2, i3, i4, i5, i6, i7, i8, i9⟩ := hX.ten 1 rfl; obtain ⟨j0, j1, j2, j3, j4, j5, j6, j7, j8, j9⟩ := hX.ten 0 rfl) | (go_at_call 17; with_reducible refine (h6 _ hX.frm).mono ?_; rintro e w' ⟨rfl, hb⟩; have hX := hX.step hb; clear hb; obtain ⟨i0, i1, i2, i3, i4, i5, i6, i7, i8, i9⟩ := hX.ten 1 rfl; obtain ⟨j0, j1, j2, j3, j4, j5, j6, j7, j8, j9⟩ := hX.ten 0 rfl) | (go_at_call 8; with_reducible refine (h7 _ (hX.dis W)).mono ?_; rintro e w' ⟨rfl, hb⟩; have hX := hX.step hb; clear hb; obtain ⟨i0, i1, i2, i3, i4, i5, i6, i7, i8, i9⟩ := hX.ten 1 rfl; obtain ⟨j0, j1, j2, j3, j4, j5, j6, j7, j8, j9⟩ := hX.ten 0 rfl))
  go_ret
  exact ⟨rfl, hX.below⟩

theorem inv_A3E (o1 : Int) (b1 : Bool) (o : Int) (b : Bool) (m r x p q y g n : Int) (a : Int) (kb : b1 = true) (k1 : 5 < o1) (k2 : o1 < 12) (hV : vR ⟨o, b, m, r, x, p, q, y, g, n⟩ = true) {A : Addr} {c : Nat} (W0 : World) (W : Dis A c W0) :
    Calls Tryd.prog 6 #[.int .i64 o1, .bool b1, .agg #[.int .i64 o, .bool b, .int .i64 m, .int .i64 r, .int .i64 x, .int .i64 p, .int .i64 q, .int .i64 y, .int .i64 g, .int .i64 n], .agg #[.int .i64 o, .bool b, .int .i64 m, .int .i64 r, .int .i64 x, .int .i64 p, .int .i64 q, .int .i64 y, .int .i64 g, .int .i64 n], .int .i64 a] W0 fun e w' => e = .returned (.bool true) ∧ Below W0.heap.size W0 w' := by
  have hX := ((St.start W.frm).put [.int .i64 o, .bool b, .int .i64 m, .int .i64 r, .int .i64 x, .int .i64 p, .int .i64 q, .int .i64 y, .int .i64 g, .int .i64 n] 33).put [.int .i64 o, .bool b, .int .i64 m, .int .i64 r, .int .i64 x, .int .i64 p, .int .i64 q, .int .i64 y, .int .i64 g, .int .i64 n] 33
  rw [show (W0.alloc (.cells #[.int .i64 o, .bool b, .int .i64 m, .int .i64 r, .int .i64 x, .int .i64 p, .int .i64 q, .int .i64 y, .int .i64 g, .int .i64 n] 33)).heap.size = W0.heap.size + 1 from Array.size_push _] at hX
  have h1 := fun w D => dnam_any o1 b1 (A := A) (c := c) w D
  have h2 := fun w D => byname_any ⟨(nmT o1 b1).toArray⟩ (by have := nmT_len o1 b1; rw [tx_size]; unfold maxLen; omega) (A := A) (c := c) w D
  rw [show (⟨(nmT o1 b1).toArray⟩ : ByteArray).data.toList = nmT o1 b1 by simp] at h2
  have h3 := fun w D => dtext_any o b m r x p q y g n a (A := A) (c := c) w D
  have h4 := fun w D => dtext_any o b m r x p q y g n a (A := A) (c := c) w D
  have h5 := fun w (k : Frm A c w) => rV_any o b m r x p q y g n w k
  have h6 := fun w (k : Frm A c w) => rV_any o b m r x p q y g n w k
  have h7 := fun w (D : Dis A c w) => alive_any w D
  have t1 := tx_em ⟨o, b, m, r, x, p, q, y, g, n⟩ a
  have t2 := tx_em ⟨o, b, m, r, x, p, q, y, g, n⟩ a
  subst kb
  have f0 : 1 ≤ o1 := by omega
  have f1 : o1 ≤ 56 := by omega
  have f2 : ¬ o1 ≤ 5 := by omega
  have f3 : ¬ 12 ≤ o1 := by omega
  have e1 : nmT o1 true = [] := by unfold nmT opB byB; simp; omega
  rw [e1] at h1 h2
  rw [show bnT [] = none by decide +kernel] at h2
  unfold bnV at h2
  simp only [Option.getD_none, Option.isSome_none] at h2
  clear e1
  rw [hV] at t1 h5
  rw [hV] at t2 h6
  clear hV
  generalize txT ⟨o, b, m, r, x, p, q, y, g, n⟩ a = S1 at *
  obtain ⟨i0, i1, i2, i3, i4, i5, i6, i7, i8, i9⟩ := hX.ten 1 rfl
  obtain ⟨j0, j1, j2, j3, j4, j5, j6, j7, j8, j9⟩ := hX.ten 0 rfl
  go_enter Tryd.func6, Tryd.ntmps6
  go_upto_region 1 with fail
  generalize hw1 : W0.alloc (.cells #[.int .i64 o, .bool b, .int .i64 m, .int .i64 r, .int .i64 x, .int .i64 p, .int .i64 q, .int .i64 y, .int .i64 g, .int .i64 n] 33) = w1 at *
  generalize hw2 : w1.alloc (.cells #[.int .i64 o, .bool b, .int .i64 m, .int .i64 r, .int .i64 x, .int .i64 p, .int .i64 q, .int .i64 y, .int .i64 g, .int .i64 n] 33) = w2 at *
  clear hw1 hw2
  generalize hBB : W0.heap.size = B at hX i0 i1 i2 i3 i4 i5 i6 i7 i8 i9 j0 j1 j2 j3 j4 j5 j6 j7 j8 j9 ⊢
  go_wp2_with (first | (go_at_call 11; with_reducible refine (h1 _ (hX.dis W)).mono ?_; rintro e w' ⟨rfl, hb⟩; have hX := hX.step hb; clear hb; obtain ⟨i0, i1, i2, i3, i4, i5, i6, i7, i8, i9⟩ := hX.ten 1 rfl; obtain ⟨j0, j1, j2, j3, j4, j5, j6, j7, j8, j9⟩ := hX.ten 0 rfl) | (go_at_call 9; with_reducible refine (h2 _ (hX.dis W)).mono ?_; rintro e w' ⟨rfl, hb⟩; have hX := hX.step hb; clear hb; obtain ⟨i0, i1, i2, i3, i4, i5, i6, i7, i8, i9⟩ := hX.ten 1 rfl; obtain ⟨j0, j1, j2, j3, j4, j5, j6, j7, j8, j9⟩ := hX.ten 0 rfl))
  refine region_class (fun w' => St A c [(B + 1, [.int .i64 o, .bool b, .int .i64 m, .int .i64 r, .int .i64 x, .int .i64 p, .int .i64 q, .int .i64 y, .int .i64 g, .int .i64 n]), (B, [.int .i64 o, .bool b, .int .i64 m, .int .i64 r, .int .i64 x, .int .i64 p, .int .i64 q, .int .i64 y, .int .i64 g, .int .i64 n])] W0 w') (by kernel_rfl) (by kernel_rfl) hX.drew ?_
  clear hX i0 i1 i2 i3 i4 i5 i6 i7 i8 i9 j0 j1 j2 j3 j4 j5 j6 j7 j8 j9
  repeat
    first
      | (refine BigFrame.wpQuiet_skip (by rfl) ?_
         simp only [Act.put, List.setIfInBounds_toArray, List.set_cons_zero, List.set_cons_succ])
      | (refine BigFrame.wpQuiet_want (by rfl) (fun K hK => ?_)
         apply Exists.intro
         refine ⟨fun wq hq => ?_, hK _ ?_⟩
         · obtain ⟨i0, i1, i2, i3, i4, i5, i6, i7, i8, i9⟩ := hq.ten 1 rfl
           obtain ⟨j0, j1, j2, j3, j4, j5, j6, j7, j8, j9⟩ := hq.ten 0 rfl
           unfold Oper.quietAt
           go_simp
           first
             | with_reducible rfl
             | ((go_at_call 15); with_reducible refine (h3 _ (hq.dis W)).mono ?_; exact fun e w' ⟨he, hb⟩ => ⟨he, hq.step hb⟩)
             | ((go_at_call 15); with_reducible refine (h4 _ (hq.dis W)).mono ?_; exact fun e w' ⟨he, hb⟩ => ⟨he, hq.step hb⟩)
         clear hK K
         simp only [Act.put, List.setIfInBounds_toArray, List.set_cons_zero, List.set_cons_succ])
  refine wpQuiet_nil ?_
  intro w4 hX
  obtain ⟨i0, i1, i2, i3, i4, i5, i6, i7, i8, i9⟩ := hX.ten 1 rfl
  obtain ⟨j0, j1, j2, j3, j4, j5, j6, j7, j8, j9⟩ := hX.ten 0 rfl
  go_wp2_with (first | (go_at_call 17; with_reducible refine (h5 _ hX.frm).mono ?_; rintro e w' ⟨rfl, hb⟩; have hX := hX.step hb; clear hb; obtain ⟨i0, i1, i2, i3, i4, i5, i6, i7, i8, i9⟩ := hX.ten 1 rfl; obtain ⟨j0, j1, j2, j3, j4, j5, j6, j7, j8, j9⟩ := hX.ten 0 rfl) | (go_at_call 17; with_reducible refine (h6 _ hX.frm).mono ?_; rintro e w' ⟨rfl, hb⟩; have hX := hX.step hb; clear hb; obtain ⟨i0, i1, i2, i3, i4, i5, i6, i7, i8, i9⟩ := hX.ten 1 rfl; obtain ⟨j0, j1, j2, j3, j4, j5, j6, j7, j8, j9⟩ := hX.ten 0 rfl) | (go_at_call 8; with_reducible refine (h7 _ (hX.dis W)).mono ?_; rintro e w' ⟨rfl, hb⟩; have hX := hX.step hb; clear hb; obtain ⟨i0, i1, i2, i3, i4, i5, i6, i7, i8, i9⟩ := hX.ten 1 rfl; obtain ⟨j0, j1, j2, j3, j4, j5, j6, j7, j8, j9⟩ := hX.ten 0 rfl))
  go_ret
  exact ⟨rfl, hX.below⟩

theorem inv_A3N (o1 : Int) (b1 : Bool) (o : Int) (b : Bool) (m r x p q y g n : Int) (o2 : Int) (b2 : Bool) (m2 r2 x2 p2 q2 y2 g2 n2 : Int) (a : Int) (kb : b1 = true) (k1 : 5 < o1) (k2 : o1 < 12) (hV : vR ⟨o, b, m, r, x, p, q, y, g, n⟩ = true) (hne : txT ⟨o, b, m, r, x, p, q, y, g, n⟩ a ≠ txT ⟨o2, b2, m2, r2, x2, p2, q2, y2, g2, n2⟩ a) {A : Addr} {c : Nat} (W0 : World) (W : Dis A c W0) :
    Calls Tryd.prog 6 #[.int .i64 o1, .bool b1, .agg #[.int .i64 o, .bool b, .int .i64 m, .int .i64 r, .int .i64 x, .int .i64 p, .int .i64 q, .int .i64 y, .int .i64 g, .int .i64 n], .agg #[.int .i64 o2, .bool b2, .int .i64 m2, .int .i64 r2, .int .i64 x2, .int .i64 p2, .int .i64 q2, .int .i64 y2, .int .i64 g2, .int .i64 n2], .int .i64 a] W0 fun e w' => e = .returned (.bool true) ∧ Below W0.heap.size W0 w' := by
  have hX := ((St.start W.frm).put [.int .i64 o, .bool b, .int .i64 m, .int .i64 r, .int .i64 x, .int .i64 p, .int .i64 q, .int .i64 y, .int .i64 g, .int .i64 n] 33).put [.int .i64 o2, .bool b2, .int .i64 m2, .int .i64 r2, .int .i64 x2, .int .i64 p2, .int .i64 q2, .int .i64 y2, .int .i64 g2, .int .i64 n2] 33
  rw [show (W0.alloc (.cells #[.int .i64 o, .bool b, .int .i64 m, .int .i64 r, .int .i64 x, .int .i64 p, .int .i64 q, .int .i64 y, .int .i64 g, .int .i64 n] 33)).heap.size = W0.heap.size + 1 from Array.size_push _] at hX
  have h1 := fun w D => dnam_any o1 b1 (A := A) (c := c) w D
  have h2 := fun w D => byname_any ⟨(nmT o1 b1).toArray⟩ (by have := nmT_len o1 b1; rw [tx_size]; unfold maxLen; omega) (A := A) (c := c) w D
  rw [show (⟨(nmT o1 b1).toArray⟩ : ByteArray).data.toList = nmT o1 b1 by simp] at h2
  have h3 := fun w D => dtext_any o b m r x p q y g n a (A := A) (c := c) w D
  have h4 := fun w D => dtext_any o2 b2 m2 r2 x2 p2 q2 y2 g2 n2 a (A := A) (c := c) w D
  have h5 := fun w (k : Frm A c w) => rV_any o b m r x p q y g n w k
  have h6 := fun w (k : Frm A c w) => rV_any o2 b2 m2 r2 x2 p2 q2 y2 g2 n2 w k
  have h7 := fun w (D : Dis A c w) => alive_any w D
  have t1 := tx_em ⟨o, b, m, r, x, p, q, y, g, n⟩ a
  have t2 := tx_em ⟨o2, b2, m2, r2, x2, p2, q2, y2, g2, n2⟩ a
  subst kb
  have f0 : 1 ≤ o1 := by omega
  have f1 : o1 ≤ 56 := by omega
  have f2 : ¬ o1 ≤ 5 := by omega
  have f3 : ¬ 12 ≤ o1 := by omega
  have e1 : nmT o1 true = [] := by unfold nmT opB byB; simp; omega
  rw [e1] at h1 h2
  rw [show bnT [] = none by decide +kernel] at h2
  unfold bnV at h2
  simp only [Option.getD_none, Option.isSome_none] at h2
  clear e1
  rw [hV] at t1 h5
  have ne1 : ¬ (⟨(txT ⟨o, b, m, r, x, p, q, y, g, n⟩ a).toArray⟩ : ByteArray) = ⟨(txT ⟨o2, b2, m2, r2, x2, p2, q2, y2, g2, n2⟩ a).toArray⟩ := fun h => hne (tx_eq.1 h)
  have ne3 := beq_false_of_ne hne
  clear hV
  generalize txT ⟨o, b, m, r, x, p, q, y, g, n⟩ a = S1 at *
  generalize txT ⟨o2, b2, m2, r2, x2, p2, q2, y2, g2, n2⟩ a = S2 at *
  generalize vR ⟨o2, b2, m2, r2, x2, p2, q2, y2, g2, n2⟩ = V2 at *
  obtain ⟨i0, i1, i2, i3, i4, i5, i6, i7, i8, i9⟩ := hX.ten 1 rfl
  obtain ⟨j0, j1, j2, j3, j4, j5, j6, j7, j8, j9⟩ := hX.ten 0 rfl
  go_enter Tryd.func6, Tryd.ntmps6
  go_upto_region 1 with fail
  generalize hw1 : W0.alloc (.cells #[.int .i64 o, .bool b, .int .i64 m, .int .i64 r, .int .i64 x, .int .i64 p, .int .i64 q, .int .i64 y, .int .i64 g, .int .i64 n] 33) = w1 at *
  generalize hw2 : w1.alloc (.cells #[.int .i64 o2, .bool b2, .int .i64 m2, .int .i64 r2, .int .i64 x2, .int .i64 p2, .int .i64 q2, .int .i64 y2, .int .i64 g2, .int .i64 n2] 33) = w2 at *
  clear hw1 hw2
  generalize hBB : W0.heap.size = B at hX i0 i1 i2 i3 i4 i5 i6 i7 i8 i9 j0 j1 j2 j3 j4 j5 j6 j7 j8 j9 ⊢
  go_wp2_with (first | (go_at_call 11; with_reducible refine (h1 _ (hX.dis W)).mono ?_; rintro e w' ⟨rfl, hb⟩; have hX := hX.step hb; clear hb; obtain ⟨i0, i1, i2, i3, i4, i5, i6, i7, i8, i9⟩ := hX.ten 1 rfl; obtain ⟨j0, j1, j2, j3, j4, j5, j6, j7, j8, j9⟩ := hX.ten 0 rfl) | (go_at_call 9; with_reducible refine (h2 _ (hX.dis W)).mono ?_; rintro e w' ⟨rfl, hb⟩; have hX := hX.step hb; clear hb; obtain ⟨i0, i1, i2, i3, i4, i5, i6, i7, i8, i9⟩ := hX.ten 1 rfl; obtain ⟨j0, j1, j2, j3, j4, j5, j6, j7, j8, j9⟩ := hX.ten 0 rfl))
  refine region_class (fun w' => St A c [(B + 1, [.int .i64 o2, .bool b2, .int .i64 m2, .int .i64 r2, .int .i64 x2, .int .i64 p2, .int .i64 q2, .int .i64 y2, .int .i64 g2, .int .i64 n2]), (B, [.int .i64 o, .bool b, .int .i64 m, .int .i64 r, .int .i64 x, .int .i64 p, .int .i64 q, .int .i64 y, .int .i64 g, .int .i64 n])] W0 w') (by kernel_rfl) (by kernel_rfl) hX.drew ?_
  clear hX i0 i1 i2 i3 i4 i5 i6 i7 i8 i9 j0 j1 j2 j3 j4 j5 j6 j7 j8 j9
  repeat
    first
      | (refine BigFrame.wpQuiet_skip (by rfl) ?_
         simp only [Act.put, List.setIfInBounds_toArray, List.set_cons_zero, List.set_cons_succ])
      | (refine BigFrame.wpQuiet_want (by rfl) (fun K hK => ?_)
         apply Exists.intro
         refine ⟨fun wq hq => ?_, hK _ ?_⟩
         · obtain ⟨i0, i1, i2, i3, i4, i5, i6, i7, i8, i9⟩ := hq.ten 1 rfl
           obtain ⟨j0, j1, j2, j3, j4, j5, j6, j7, j8, j9⟩ := hq.ten 0 rfl
           unfold Oper.quietAt
           go_simp
           first
             | with_reducible rfl
             | ((go_at_call 15); with_reducible refine (h3 _ (hq.dis W)).mono ?_; exact fun e w' ⟨he, hb⟩ => ⟨he, hq.step hb⟩)
             | ((go_at_call 15); with_reducible refine (h4 _ (hq.dis W)).mono ?_; exact fun e w' ⟨he, hb⟩ => ⟨he, hq.step hb⟩)
         clear hK K
         simp only [Act.put, List.setIfInBounds_toArray, List.set_cons_zero, List.set_cons_succ])
  refine wpQuiet_nil ?_
  intro w4 hX
  obtain ⟨i0, i1, i2, i3, i4, i5, i6, i7, i8, i9⟩ := hX.ten 1 rfl
  obtain ⟨j0, j1, j2, j3, j4, j5, j6, j7, j8, j9⟩ := hX.ten 0 rfl
  go_wp2_with (first | (go_at_call 17; with_reducible refine (h5 _ hX.frm).mono ?_; rintro e w' ⟨rfl, hb⟩; have hX := hX.step hb; clear hb; obtain ⟨i0, i1, i2, i3, i4, i5, i6, i7, i8, i9⟩ := hX.ten 1 rfl; obtain ⟨j0, j1, j2, j3, j4, j5, j6, j7, j8, j9⟩ := hX.ten 0 rfl) | (go_at_call 17; with_reducible refine (h6 _ hX.frm).mono ?_; rintro e w' ⟨rfl, hb⟩; have hX := hX.step hb; clear hb; obtain ⟨i0, i1, i2, i3, i4, i5, i6, i7, i8, i9⟩ := hX.ten 1 rfl; obtain ⟨j0, j1, j2, j3, j4, j5, j6, j7, j8, j9⟩ := hX.ten 0 rfl) | (go_at_call 8; with_reducible refine (h7 _ (hX.dis W)).mono ?_; rintro e w' ⟨rfl, hb⟩; have hX := hX.step hb; clear hb; obtain ⟨i0, i1, i2, i3, i4, i5, i6, i7, i8, i9⟩ := hX.ten 1 rfl; obtain ⟨j0, j1, j2, j3, j4, j5, j6, j7, j8, j9⟩ := hX.ten 0 rfl))
  go_ret
  exact ⟨rfl, hX.below⟩

theorem inv_A4F (o1 : Int) (b1 : Bool) (o : Int) (b : Bool) (m r x p q y g n : Int) (o2 : Int) (b2 : Bool) (m2 r2 x2 p2 q2 y2 g2 n2 : Int) (a : Int) (kb : b1 = true) (k1 : 23 < o1) (k2 : o1 ≤ 56) (hV : vR ⟨o, b, m, r, x, p, q, y, g, n⟩ = false) {A : Addr} {c : Nat} (W0 : World) (W : Dis A c W0) :
    Calls Tryd.prog 6 #[.int .i64 o1, .bool b1, .agg #[.int .i64 o, .bool b, .int .i64 m, .int .i64 r, .int .i64 x, .int .i64 p, .int .i64 q, .int .i64 y, .int .i64 g, .int .i64 n], .agg #[.int .i64 o2, .bool b2, .int .i64 m2, .int .i64 r2, .int .i64 x2, .int .i64 p2, .int .i64 q2, .int .i64 y2, .int .i64 g2, .int .i64 n2], .int .i64 a] W0 fun e w' => e = .returned (.bool true) ∧ Below W0.heap.size W0 w' := by
  have hX := ((St.start W.frm).put [.int .i64 o, .bool b, .int .i64 m, .int .i64 r, .int .i64 x, .int .i64 p, .int .i64 q, .int .i64 y, .int .i64 g, .int .i64 n] 33).put [.int .i64 o2, .bool b2, .int .i64 m2, .int .i64 r2, .int .i64 x2, .int .i64 p2, .int .i64 q2, .int .i64 y2, .int .i64 g2, .int .i64 n2] 33
  rw [show (W0.alloc (.cells #[.int .i64 o, .bool b, .int .i64 m, .int .i64 r, .int .i64 x, .int .i64 p, .int .i64 q, .int .i64 y, .int .i64 g, .int .i64 n] 33)).heap.size = W0.heap.size + 1 from Array.size_push _] at hX
  have h1 := fun w D => dnam_any o1 b1 (A := A) (c := c) w D
  have h2 := fun w D => byname_any ⟨(nmT o1 b1).toArray⟩ (by have := nmT_len o1 b1; rw [tx_size]; unfold maxLen; omega) (A := A) (c := c) w D
  rw [show (⟨(nmT o1 b1).toArray⟩ : ByteArray).data.toList = nmT o1 b1 by simp] at h2
  have h3 := fun w D => dtext_any o b m r x p q y g n a (A := A) (c := c) w D
  have h4 := fun w D => dtext_any o2 b2 m2 r2 x2 p2 q2 y2 g2 n2 a (A := A) (c := c) w D
  have h5 := fun w (k : Frm A c w) => rV_any o b m r x p q y g n w k
  have h6 := fun w (k : Frm A c w) => rV_any o2 b2 m2 r2 x2 p2 q2 y2 g2 n2 w k
  have h7 := fun w (D : Dis A c w) => alive_any w D
  have t1 := tx_em ⟨o, b, m, r, x, p, q, y, g, n⟩ a
  have t2 := tx_em ⟨o2, b2, m2, r2, x2, p2, q2, y2, g2, n2⟩ a
  subst kb
  have f0 : 1 ≤ o1 := by omega
  have f1 : o1 ≤ 56 := by omega
  have f2 : ¬ o1 ≤ 5 := by omega
  have f3 : 12 ≤ o1 := by omega
  have f4 : ¬ o1 ≤ 23 := by omega
  have e1 : nmT o1 true = [] := by unfold nmT opB byB; simp; omega
  rw [e1] at h1 h2
  rw [show bnT [] = none by decide +kernel] at h2
  unfold bnV at h2
  simp only [Option.getD_none, Option.isSome_none] at h2
  clear e1
  rw [hV] at t1 h5
  have t3 : txT ⟨o, b, m, r, x, p, q, y, g, n⟩ a = [] := List.isEmpty_iff.1 t1
  rw [t3] at h3
  clear t1 t3
  clear hV
  generalize txT ⟨o2, b2, m2, r2, x2, p2, q2, y2, g2, n2⟩ a = S2 at *
  generalize vR ⟨o2, b2, m2, r2, x2, p2, q2, y2, g2, n2⟩ = V2 at *
  obtain ⟨i0, i1, i2, i3, i4, i5, i6, i7, i8, i9⟩ := hX.ten 1 rfl
  obtain ⟨j0, j1, j2, j3, j4, j5, j6, j7, j8, j9⟩ := hX.ten 0 rfl
  go_enter Tryd.func6, Tryd.ntmps6
  go_upto_region 1 with fail
  generalize hw1 : W0.alloc (.cells #[.int .i64 o, .bool b, .int .i64 m, .int .i64 r, .int .i64 x, .int .i64 p, .int .i64 q, .int .i64 y, .int .i64 g, .int .i64 n] 33) = w1 at *
  generalize hw2 : w1.alloc (.cells #[.int .i64 o2, .bool b2, .int .i64 m2, .int .i64 r2, .int .i64 x2, .int .i64 p2, .int .i64 q2, .int .i64 y2, .int .i64 g2, .int .i64 n2] 33) = w2 at *
  clear hw1 hw2
  generalize hBB : W0.heap.size = B at hX i0 i1 i2 i3 i4 i5 i6 i7 i8 i9 j0 j1 j2 j3 j4 j5 j6 j7 j8 j9 ⊢
  go_wp2_with (first | (go_at_call 11; with_reducible refine (h1 _ (hX.dis W)).mono ?_; rintro e w' ⟨rfl, hb⟩; have hX := hX.step hb; clear hb; obtain ⟨i0, i1, i2, i3, i4, i5, i6, i7, i8, i9⟩ := hX.ten 1 rfl; obtain ⟨j0, j1, j2, j3, j4, j5, j6, j7, j8, j9⟩ := hX.ten 0 rfl) | (go_at_call 9; with_reducible refine (h2 _ (hX.dis W)).mono ?_; rintro e w' ⟨rfl, hb⟩; have hX := hX.step hb; clear hb; obtain ⟨i0, i1, i2, i3, i4, i5, i6, i7, i8, i9⟩ := hX.ten 1 rfl; obtain ⟨j0, j1, j2, j3, j4, j5, j6, j7, j8, j9⟩ := hX.ten 0 rfl))
  refine region_class (fun w' => St A c [(B + 1, [.int .i64 o2, .bool b2, .int .i64 m2, .int .i64 r2, .int .i64 x2, .int .i64 p2, .int .i64 q2, .int .i64 y2, .int .i64 g2, .int .i64 n2]), (B, [.int .i64 o, .bool b, .int .i64 m, .int .i64 r, .int .i64 x, .int .i64 p, .int .i64 q, .int .i64 y, .int .i64 g, .int .i64 n])] W0 w') (by kernel_rfl) (by kernel_rfl) hX.drew ?_
  clear hX i0 i1 i2 i3 i4 i5 i6 i7 i8 i9 j0 j1 j2 j3 j4 j5 j6 j7 j8 j9
  repeat
    first
      | (refine BigFrame.wpQuiet_skip (by rfl) ?_
         simp only [Act.put, List.setIfInBounds_toArray, List.set_cons_zero, List.set_cons_succ])
      | (refine BigFrame.wpQuiet_want (by rfl) (fun K hK => ?_)
         apply Exists.intro
         refine ⟨fun wq hq => ?_, hK _ ?_⟩
         · obtain ⟨i0, i1, i2, i3, i4, i5, i6, i7, i8, i9⟩ := hq.ten 1 rfl
           obtain ⟨j0, j1, j2, j3, j4, j5, j6, j7, j8, j9⟩ := hq.ten 0 rfl
           unfold Oper.quietAt
           go_simp
           first
             | with_reducible rfl
             | ((go_at_call 15); with_reducible refine (h3 _ (hq.dis W)).mono ?_; exact fun e w' ⟨he, hb⟩ => ⟨he, hq.step hb⟩)
             | ((go_at_call 15); with_reducible refine (h4 _ (hq.dis W)).mono ?_; exact fun e w' ⟨he, hb⟩ => ⟨he, hq.step hb⟩)
         clear hK K
         simp only [Act.put, List.setIfInBounds_toArray, List.set_cons_zero, List.set_cons_succ])
  refine wpQuiet_nil ?_
  intro w4 hX
  obtain ⟨i0, i1, i2, i3, i4, i5, i6, i7, i8, i9⟩ := hX.ten 1 rfl
  obtain ⟨j0, j1, j2, j3, j4, j5, j6, j7, j8, j9⟩ := hX.ten 0 rfl
  go_wp2_with (first | (go_at_call 17; with_reducible refine (h5 _ hX.frm).mono ?_; rintro e w' ⟨rfl, hb⟩; have hX := hX.step hb; clear hb; obtain ⟨i0, i1, i2, i3, i4, i5, i6, i7, i8, i9⟩ := hX.ten 1 rfl; obtain ⟨j0, j1, j2, j3, j4, j5, j6, j7, j8, j9⟩ := hX.ten 0 rfl) | (go_at_call 17; with_reducible refine (h6 _ hX.frm).mono ?_; rintro e w' ⟨rfl, hb⟩; have hX := hX.step hb; clear hb; obtain ⟨i0, i1, i2, i3, i4, i5, i6, i7, i8, i9⟩ := hX.ten 1 rfl; obtain ⟨j0, j1, j2, j3, j4, j5, j6, j7, j8, j9⟩ := hX.ten 0 rfl) | (go_at_call 8; with_reducible refine (h7 _ (hX.dis W)).mono ?_; rintro e w' ⟨rfl, hb⟩; have hX := hX.step hb; clear hb; obtain ⟨i0, i1, i2, i3, i4, i5, i6, i7, i8, i9⟩ := hX.ten 1 rfl; obtain ⟨j0, j1, j2, j3, j4, j5, j6, j7, j8, j9⟩ := hX.ten 0 rfl))
  go_ret
  exact ⟨rfl, hX.below⟩

theorem inv_A4E (o1 : Int) (b1 : Bool) (o : Int) (b : Bool) (m r x p q y g n : Int) (a : Int) (kb : b1 = true) (k1 : 23 < o1) (k2 : o1 ≤ 56) (hV : vR ⟨o, b, m, r, x, p, q, y, g, n⟩ = true) {A : Addr} {c : Nat} (W0 : World) (W : Dis A c W0) :
    Calls Tryd.prog 6 #[.int .i64 o1, .bool b1, .agg #[.int .i64 o, .bool b, .int .i64 m, .int .i64 r, .int .i64 x, .int .i64 p, .int .i64 q, .int .i64 y, .int .i64 g, .int .i64 n], .agg #[.int .i64 o, .bool b, .int .i64 m, .int .i64 r, .int .i64 x, .int .i64 p, .int .i64 q, .int .i64 y, .int .i64 g, .int .i64 n], .int .i64 a] W0 fun e w' => e = .returned (.bool true) ∧ Below W0.heap.size W0 w' := by
  have hX := ((St.start W.frm).put [.int .i64 o, .bool b, .int .i64 m, .int .i64 r, .int .i64 x, .int .i64 p, .int .i64 q, .int .i64 y, .int .i64 g, .int .i64 n] 33).put [.int .i64 o, .bool b, .int .i64 m, .int .i64 r, .int .i64 x, .int .i64 p, .int .i64 q, .int .i64 y, .int .i64 g, .int .i64 n] 33
  rw [show (W0.alloc (.cells #[.int .i64 o, .bool b, .int .i64 m, .int .i64 r, .int .i64 x, .int .i64 p, .int .i64 q, .int .i64 y, .int .i64 g, .int .i64 n] 33)).heap.size = W0.heap.size + 1 from Array.size_push _] at hX
  have h1 := fun w D => dnam_any o1 b1 (A := A) (c := c) w D
  have h2 := fun w D => byname_any ⟨(nmT o1 b1).toArray⟩ (by have := nmT_len o1 b1; rw [tx_size]; unfold maxLen; omega) (A := A) (c := c) w D
  rw [show (⟨(nmT o1 b1).toArray⟩ : ByteArray).data.toList = nmT o1 b1 by simp] at h2
  have h3 := fun w D => dtext_any o b m r x p q y g n a (A := A) (c := c) w D
  have h4 := fun w D => dtext_any o b m r x p q y g n a (A := A) (c := c) w D
  have h5 := fun w (k : Frm A c w) => rV_any o b m r x p q y g n w k
  have h6 := fun w (k : Frm A c w) => rV_any o b m r x p q y g n w k
  have h7 := fun w (D : Dis A c w) => alive_any w D
  have t1 := tx_em ⟨o, b, m, r, x, p, q, y, g, n⟩ a
  have t2 := tx_em ⟨o, b, m, r, x, p, q, y, g, n⟩ a
  subst kb
  have f0 : 1 ≤ o1 := by omega
  have f1 : o1 ≤ 56 := by omega
  have f2 : ¬ o1 ≤ 5 := by omega
  have f3 : 12 ≤ o1 := by omega
  have f4 : ¬ o1 ≤ 23 := by omega
  have e1 : nmT o1 true = [] := by unfold nmT opB byB; simp; omega
  rw [e1] at h1 h2
  rw [show bnT [] = none by decide +kernel] at h2
  unfold bnV at h2
  simp only [Option.getD_none, Option.isSome_none] at h2
  clear e1
  rw [hV] at t1 h5
  rw [hV] at t2 h6
  clear hV
  generalize txT ⟨o, b, m, r, x, p, q, y, g, n⟩ a = S1 at *
  obtain ⟨i0, i1, i2, i3, i4, i5, i6, i7, i8, i9⟩ := hX.ten 1 rfl
  obtain ⟨j0, j1, j2, j3, j4, j5, j6, j7, j8, j9⟩ := hX.ten 0 rfl
  go_enter Tryd.func6, Tryd.ntmps6
  go_upto_region 1 with fail
  generalize hw1 : W0.alloc (.cells #[.int .i64 o, .bool b, .int .i64 m, .int .i64 r, .int .i64 x, .int .i64 p, .int .i64 q, .int .i64 y, .int .i64 g, .int .i64 n] 33) = w1 at *
  generalize hw2 : w1.alloc (.cells #[.int .i64 o, .bool b, .int .i64 m, .int .i64 r, .int .i64 x, .int .i64 p, .int .i64 q, .int .i64 y, .int .i64 g, .int .i64 n] 33) = w2 at *
  clear hw1 hw2
  generalize hBB : W0.heap.size = B at hX i0 i1 i2 i3 i4 i5 i6 i7 i8 i9 j0 j1 j2 j3 j4 j5 j6 j7 j8 j9 ⊢
  go_wp2_with (first | (go_at_call 11; with_reducible refine (h1 _ (hX.dis W)).mono ?_; rintro e w' ⟨rfl, hb⟩; have hX := hX.step hb; clear hb; obtain ⟨i0, i1, i2, i3, i4, i5, i6, i7, i8, i9⟩ := hX.ten 1 rfl; obtain ⟨j0, j1, j2, j3, j4, j5, j6, j7, j8, j9⟩ := hX.ten 0 rfl) | (go_at_call 9; with_reducible refine (h2 _ (hX.dis W)).mono ?_; rintro e w' ⟨rfl, hb⟩; have hX := hX.step hb; clear hb; obtain ⟨i0, i1, i2, i3, i4, i5, i6, i7, i8, i9⟩ := hX.ten 1 rfl; obtain ⟨j0, j1, j2, j3, j4, j5, j6, j7, j8, j9⟩ := hX.ten 0 rfl))
  refine region_class (fun w' => St A c [(B + 1, [.int .i64 o, .bool b, .int .i64 m, .int .i64 r, .int .i64 x, .int .i64 p, .int .i64 q, .int .i64 y, .int .i64 g, .int .i64 n]), (B, [.int .i64 o, .bool b, .int .i64 m, .int .i64 r, .int .i64 x, .int .i64 p, .int .i64 q, .int .i64 y, .int .i64 g, .int .i64 n])] W0 w') (by kernel_rfl) (by kernel_rfl) hX.drew ?_
  clear hX i0 i1 i2 i3 i4 i5 i6 i7 i8 i9 j0 j1 j2 j3 j4 j5 j6 j7 j8 j9
  repeat
    first
      | (refine BigFrame.wpQuiet_skip (by rfl) ?_
         simp only [Act.put, List.setIfInBounds_toArray, List.set_cons_zero, List.set_cons_succ])
      | (refine BigFrame.wpQuiet_want (by rfl) (fun K hK => ?_)
         apply Exists.intro
         refine ⟨fun wq hq => ?_, hK _ ?_⟩
         · obtain ⟨i0, i1, i2, i3, i4, i5, i6, i7, i8, i9⟩ := hq.ten 1 rfl
           obtain ⟨j0, j1, j2, j3, j4, j5, j6, j7, j8, j9⟩ := hq.ten 0 rfl
           unfold Oper.quietAt
           go_simp
           first
             | with_reducible rfl
             | ((go_at_call 15); with_reducible refine (h3 _ (hq.dis W)).mono ?_; exact fun e w' ⟨he, hb⟩ => ⟨he, hq.step hb⟩)
             | ((go_at_call 15); with_reducible refine (h4 _ (hq.dis W)).mono ?_; exact fun e w' ⟨he, hb⟩ => ⟨he, hq.step hb⟩)
         clear hK K
         simp only [Act.put, List.setIfInBounds_toArray, List.set_cons_zero, List.set_cons_succ])
  refine wpQuiet_nil ?_
  intro w4 hX
  obtain ⟨i0, i1, i2, i3, i4, i5, i6, i7, i8, i9⟩ := hX.ten 1 rfl
  obtain ⟨j0, j1, j2, j3, j4, j5, j6, j7, j8, j9⟩ := hX.ten 0 rfl
  go_wp2_with (first | (go_at_call 17; with_reducible refine (h5 _ hX.frm).mono ?_; rintro e w' ⟨rfl, hb⟩; have hX := hX.step hb; clear hb; obtain ⟨i0, i1, i2, i3, i4, i5, i6, i7, i8, i9⟩ := hX.ten 1 rfl; obtain ⟨j0, j1, j2, j3, j4, j5, j6, j7, j8, j9⟩ := hX.ten 0 rfl) | (go_at_call 17; with_reducible refine (h6 _ hX.frm).mono ?_; rintro e w' ⟨rfl, hb⟩; have hX := hX.step hb; clear hb; obtain ⟨i0, i1, i2, i3, i4, i5, i6, i7, i8, i9⟩ := hX.ten 1 rfl; obtain ⟨j0, j1, j2, j3, j4, j5, j6, j7, j8, j9⟩ := hX.ten 0 rfl) | (go_at_call 8; with_reducible refine (h7 _ (hX.dis W)).mono ?_; rintro e w' ⟨rfl, hb⟩; have hX := hX.step hb; clear hb; obtain ⟨i0, i1, i2, i3, i4, i5, i6, i7, i8, i9⟩ := hX.ten 1 rfl; obtain ⟨j0, j1, j2, j3, j4, j5, j6, j7, j8, j9⟩ := hX.ten 0 rfl))
  go_ret
  exact ⟨rfl, hX.below⟩

theorem inv_A4N (o1 : Int) (b1 : Bool) (o : Int) (b : Bool) (m r x p q y g n : Int) (o2 : Int) (b2 : Bool) (m2 r2 x2 p2 q2 y2 g2 n2 : Int) (a : Int) (kb : b1 = true) (k1 : 23 < o1) (k2 : o1 ≤ 56) (hV : vR ⟨o, b, m, r, x, p, q, y, g, n⟩ = true) (hne : txT ⟨o, b, m, r, x, p, q, y, g, n⟩ a ≠ txT ⟨o2, b2, m2, r2, x2, p2, q2, y2, g2, n2⟩ a) {A : Addr} {c : Nat} (W0 : World) (W : Dis A c W0) :
    Calls Tryd.prog 6 #[.int .i64 o1, .bool b1, .agg #[.int .i64 o, .bool b, .int .i64 m, .int .i64 r, .int .i64 x, .int .i64 p, .int .i64 q, .int .i64 y, .int .i64 g, .int .i64 n], .agg #[.int .i64 o2, .bool b2, .int .i64 m2, .int .i64 r2, .int .i64 x2, .int .i64 p2, .int .i64 q2, .int .i64 y2, .int .i64 g2, .int .i64 n2], .int .i64 a] W0 fun e w' => e = .returned (.bool true) ∧ Below W0.heap.size W0 w' := by
  have hX := ((St.start W.frm).put [.int .i64 o, .bool b, .int .i64 m, .int .i64 r, .int .i64 x, .int .i64 p, .int .i64 q, .int .i64 y, .int .i64 g, .int .i64 n] 33).put [.int .i64 o2, .bool b2, .int .i64 m2, .int .i64 r2, .int .i64 x2, .int .i64 p2, .int .i64 q2, .int .i64 y2, .int .i64 g2, .int .i64 n2] 33
  rw [show (W0.alloc (.cells #[.int .i64 o, .bool b, .int .i64 m, .int .i64 r, .int .i64 x, .int .i64 p, .int .i64 q, .int .i64 y, .int .i64 g, .int .i64 n] 33)).heap.size = W0.heap.size + 1 from Array.size_push _] at hX
  have h1 := fun w D => dnam_any o1 b1 (A := A) (c := c) w D
  have h2 := fun w D => byname_any ⟨(nmT o1 b1).toArray⟩ (by have := nmT_len o1 b1; rw [tx_size]; unfold maxLen; omega) (A := A) (c := c) w D
  rw [show (⟨(nmT o1 b1).toArray⟩ : ByteArray).data.toList = nmT o1 b1 by simp] at h2
  have h3 := fun w D => dtext_any o b m r x p q y g n a (A := A) (c := c) w D
  have h4 := fun w D => dtext_any o2 b2 m2 r2 x2 p2 q2 y2 g2 n2 a (A := A) (c := c) w D
  have h5 := fun w (k : Frm A c w) => rV_any o b m r x p q y g n w k
  have h6 := fun w (k : Frm A c w) => rV_any o2 b2 m2 r2 x2 p2 q2 y2 g2 n2 w k
  have h7 := fun w (D : Dis A c w) => alive_any w D
  have t1 := tx_em ⟨o, b, m, r, x, p, q, y, g, n⟩ a
  have t2 := tx_em ⟨o2, b2, m2, r2, x2, p2, q2, y2, g2, n2⟩ a
  subst kb
  have f0 : 1 ≤ o1 := by omega
  have f1 : o1 ≤ 56 := by omega
  have f2 : ¬ o1 ≤ 5 := by omega
  have f3 : 12 ≤ o1 := by omega
  have f4 : ¬ o1 ≤ 23 := by omega
  have e1 : nmT o1 true = [] := by unfold nmT opB byB; simp; omega
  rw [e1] at h1 h2
  rw [show bnT [] = none by decide +kernel] at h2
  unfold bnV at h2
  simp only [Option.getD_none, Option.isSome_none] at h2
  clear e1
  rw [hV] at t1 h5
  have ne1 : ¬ (⟨(txT ⟨o, b, m, r, x, p, q, y, g, n⟩ a).toArray⟩ : ByteArray) = ⟨(txT ⟨o2, b2, m2, r2, x2, p2, q2, y2, g2, n2⟩ a).toArray⟩ := fun h => hne (tx_eq.1 h)
  have ne3 := beq_false_of_ne hne
  clear hV
  generalize txT ⟨o, b, m, r, x, p, q, y, g, n⟩ a = S1 at *
  generalize txT ⟨o2, b2, m2, r2, x2, p2, q2, y2, g2, n2⟩ a = S2 at *
  generalize vR ⟨o2, b2, m2, r2, x2, p2, q2, y2, g2, n2⟩ = V2 at *
  obtain ⟨i0, i1, i2, i3, i4, i5, i6, i7, i8, i9⟩ := hX.ten 1 rfl
  obtain ⟨j0, j1, j2, j3, j4, j5, j6, j7, j8, j9⟩ := hX.ten 0 rfl
  go_enter Tryd.func6, Tryd.ntmps6
  go_upto_region 1 with fail
  generalize hw1 : W0.alloc (.cells #[.int .i64 o, .bool b, .int .i64 m, .int .i64 r, .int .i64 x, .int .i64 p, .int .i64 q, .int .i64 y, .int .i64 g, .int .i64 n] 33) = w1 at *
  generalize hw2 : w1.alloc (.cells #[.int .i64 o2, .bool b2, .int .i64 m2, .int .i64 r2, .int .i64 x2, .int .i64 p2, .int .i64 q2, .int .i64 y2, .int .i64 g2, .int .i64 n2] 33) = w2 at *
  clear hw1 hw2
  generalize hBB : W0.heap.size = B at hX i0 i1 i2 i3 i4 i5 i6 i7 i8 i9 j0 j1 j2 j3 j4 j5 j6 j7 j8 j9 ⊢
  go_wp2_with (first | (go_at_call 11; with_reducible refine (h1 _ (hX.dis W)).mono ?_; rintro e w' ⟨rfl, hb⟩; have hX := hX.step hb; clear hb; obtain ⟨i0, i1, i2, i3, i4, i5, i6, i7, i8, i9⟩ := hX.ten 1 rfl; obtain ⟨j0, j1, j2, j3, j4, j5, j6, j7, j8, j9⟩ := hX.ten 0 rfl) | (go_at_call 9; with_reducible refine (h2 _ (hX.dis W)).mono ?_; rintro e w' ⟨rfl, hb⟩; have hX := hX.step hb; clear hb; obtain ⟨i0, i1, i2, i3, i4, i5, i6, i7, i8, i9⟩ := hX.ten 1 rfl; obtain ⟨j0, j1, j2, j3, j4, j5, j6, j7, j8, j9⟩ := hX.ten 0 rfl))
  refine region_class (fun w' => St A c [(B + 1, [.int .i64 o2, .bool b2, .int .i64 m2, .int .i64 r2, .int .i64 x2, .int .i64 p2, .int .i64 q2, .int .i64 y2, .int .i64 g2, .int .i64 n2]), (B, [.int .i64 o, .bool b, .int .i64 m, .int .i64 r, .int .i64 x, .int .i64 p, .int .i64 q, .int .i64 y, .int .i64 g, .int .i64 n])] W0 w') (by kernel_rfl) (by kernel_rfl) hX.drew ?_
  clear hX i0 i1 i2 i3 i4 i5 i6 i7 i8 i9 j0 j1 j2 j3 j4 j5 j6 j7 j8 j9
  repeat
    first
      | (refine BigFrame.wpQuiet_skip (by rfl) ?_
         simp only [Act.put, List.setIfInBounds_toArray, List.set_cons_zero, List.set_cons_succ])
      | (refine BigFrame.wpQuiet_want (by rfl) (fun K hK => ?_)
         apply Exists.intro
         refine ⟨fun wq hq => ?_, hK _ ?_⟩
         · obtain ⟨i0, i1, i2, i3, i4, i5, i6, i7, i8, i9⟩ := hq.ten 1 rfl
           obtain ⟨j0, j1, j2, j3, j4, j5, j6, j7, j8, j9⟩ := hq.ten 0 rfl
           unfold Oper.quietAt
           go_simp
           first
             | with_reducible rfl
             | ((go_at_call 15); with_reducible refine (h3 _ (hq.dis W)).mono ?_; exact fun e w' ⟨he, hb⟩ => ⟨he, hq.step hb⟩)
             | ((go_at_call 15); with_reducible refine (h4 _ (hq.dis W)).mono ?_; exact fun e w' ⟨he, hb⟩ => ⟨he, hq.step hb⟩)
         clear hK K
         simp only [Act.put, List.setIfInBounds_toArray, List.set_cons_zero, List.set_cons_succ])
  refine wpQuiet_nil ?_
  intro w4 hX
  obtain ⟨i0, i1, i2, i3, i4, i5, i6, i7, i8, i9⟩ := hX.ten 1 rfl
  obtain ⟨j0, j1, j2, j3, j4, j5, j6, j7, j8, j9⟩ := hX.ten 0 rfl
  go_wp2_with (first | (go_at_call 17; with_reducible refine (h5 _ hX.frm).mono ?_; rintro e w' ⟨rfl, hb⟩; have hX := hX.step hb; clear hb; obtain ⟨i0, i1, i2, i3, i4, i5, i6, i7, i8, i9⟩ := hX.ten 1 rfl; obtain ⟨j0, j1, j2, j3, j4, j5, j6, j7, j8, j9⟩ := hX.ten 0 rfl) | (go_at_call 17; with_reducible refine (h6 _ hX.frm).mono ?_; rintro e w' ⟨rfl, hb⟩; have hX := hX.step hb; clear hb; obtain ⟨i0, i1, i2, i3, i4, i5, i6, i7, i8, i9⟩ := hX.ten 1 rfl; obtain ⟨j0, j1, j2, j3, j4, j5, j6, j7, j8, j9⟩ := hX.ten 0 rfl) | (go_at_call 8; with_reducible refine (h7 _ (hX.dis W)).mono ?_; rintro e w' ⟨rfl, hb⟩; have hX := hX.step hb; clear hb; obtain ⟨i0, i1, i2, i3, i4, i5, i6, i7, i8, i9⟩ := hX.ten 1 rfl; obtain ⟨j0, j1, j2, j3, j4, j5, j6, j7, j8, j9⟩ := hX.ten 0 rfl))
  go_ret
  exact ⟨rfl, hX.below⟩

end Go.Proofs.YtipaednpelapgaaDoor
