/-
  Walk over the statement InstUnique: whatever the input, it answers true. Condition: the tables read as the program's text lays them.
-/
import Derived.Test.YtlaikajgpgpidaaDoorLwQ
namespace Go.Proofs.YtlaikajgpgpidaaDoor
open Go.RowKit
set_option linter.unusedSimpArgs false
set_option linter.unusedVariables false
set_option maxHeartbeats 8000000
set_option maxRecDepth 100000
attribute [local irreducible] wpQuiet

theorem un_0 (o : Int) (b : Bool) (m : Int) (r : Int) (x : Int) (p : Int) (q : Int) (y : Int) (g : Int) (n : Int) (o2 : Int) (b2 : Bool) (m2 : Int) (r2 : Int) (x2 : Int) (p2 : Int) (q2 : Int) (y2 : Int) (g2 : Int) (n2 : Int) (hne : ¬ (o = o2)) (hv : vR ⟨o, b, m, r, x, p, q, y, g, n⟩ = true) (hw : vR ⟨o2, b2, m2, r2, x2, p2, q2, y2, g2, n2⟩ = true) {A : Addr} {c : Nat} (W0 : World) (W : Frm A c W0) : Calls Tryd.prog 7 #[.agg #[.int .i64 o, .bool b, .int .i64 m, .int .i64 r, .int .i64 x, .int .i64 p, .int .i64 q, .int .i64 y, .int .i64 g, .int .i64 n], .agg #[.int .i64 o2, .bool b2, .int .i64 m2, .int .i64 r2, .int .i64 x2, .int .i64 p2, .int .i64 q2, .int .i64 y2, .int .i64 g2, .int .i64 n2]] W0 fun e w' => e = .returned (.bool true) ∧ Below W0.heap.size W0 w' := by
  have hX := St.put2 W [.int .i64 o, .bool b, .int .i64 m, .int .i64 r, .int .i64 x, .int .i64 p, .int .i64 q, .int .i64 y, .int .i64 g, .int .i64 n] [.int .i64 o2, .bool b2, .int .i64 m2, .int .i64 r2, .int .i64 x2, .int .i64 p2, .int .i64 q2, .int .i64 y2, .int .i64 g2, .int .i64 n2] 28 28
  have hV1 := fun w (k : Frm A c w) => Valid_any o b m r x p q y g n w k
  have hV2 := fun w (k : Frm A c w) => Valid_any o2 b2 m2 r2 x2 p2 q2 y2 g2 n2 w k
  have hE1 := fun w (k : Frm A c w) => Encode_any o b m r x p q y g n w k
  have hE2 := fun w (k : Frm A c w) => Encode_any o2 b2 m2 r2 x2 p2 q2 y2 g2 n2 w k
  have hA := fun w (k : Frm A c w) => alive_any w k
  obtain ⟨x1, x2', _⟩ := enc_of hv
  obtain ⟨z1, z2, _⟩ := enc_of hw
  rw [hv] at hV1
  rw [hw] at hV2
  rw [x1, x2'] at hE1
  rw [z1, z2] at hE2
  have hl := enc_len ⟨o, b, m, r, x, p, q, y, g, n⟩
  rw [x1] at hl
  have hS := fun w' {va vb : Value} (h1 : Nums .i64 w' va (wdR ⟨o, b, m, r, x, p, q, y, g, n⟩)) (h2 : Nums .i64 w' vb (wdR ⟨o2, b2, m2, r2, x2, p2, q2, y2, g2, n2⟩)) => same_lists (wdR ⟨o, b, m, r, x, p, q, y, g, n⟩) (wdR ⟨o2, b2, m2, r2, x2, p2, q2, y2, g2, n2⟩) va vb hl w' h1 h2
  rw [show decide (wdR ⟨o, b, m, r, x, p, q, y, g, n⟩ = wdR ⟨o2, b2, m2, r2, x2, p2, q2, y2, g2, n2⟩) = false from decide_eq_false (fun h => by have k := (uniq hv hw).1 h; simp only [In.mk.injEq] at k; exact hne (by simp only [k]))] at hS
  generalize wdR ⟨o, b, m, r, x, p, q, y, g, n⟩ = L1 at *
  generalize wdR ⟨o2, b2, m2, r2, x2, p2, q2, y2, g2, n2⟩ = L2 at *
  clear hl x1 x2' z1 z2
  have hnb : (o == o2) = false := by simpa using hne
  have hnd : decide (o = o2) = false := decide_eq_false hne
  go_enter Tryd.func7, Tryd.ntmps7
  go_wp2_with fail
  have j0 := hX.c 0 0 rfl rfl; have j1 := hX.c 0 1 rfl rfl; have j2 := hX.c 0 2 rfl rfl; have j3 := hX.c 0 3 rfl rfl; have j4 := hX.c 0 4 rfl rfl; have j5 := hX.c 0 5 rfl rfl; have j6 := hX.c 0 6 rfl rfl; have j7 := hX.c 0 7 rfl rfl; have j8 := hX.c 0 8 rfl rfl; have j9 := hX.c 0 9 rfl rfl; have i0 := hX.c 1 0 rfl rfl; have i1 := hX.c 1 1 rfl rfl; have i2 := hX.c 1 2 rfl rfl; have i3 := hX.c 1 3 rfl rfl; have i4 := hX.c 1 4 rfl rfl; have i5 := hX.c 1 5 rfl rfl; have i6 := hX.c 1 6 rfl rfl; have i7 := hX.c 1 7 rfl rfl; have i8 := hX.c 1 8 rfl rfl; have i9 := hX.c 1 9 rfl rfl
  generalize (W0.alloc (.cells #[.int .i64 o, .bool b, .int .i64 m, .int .i64 r, .int .i64 x, .int .i64 p, .int .i64 q, .int .i64 y, .int .i64 g, .int .i64 n] 28)).alloc (.cells #[.int .i64 o2, .bool b2, .int .i64 m2, .int .i64 r2, .int .i64 x2, .int .i64 p2, .int .i64 q2, .int .i64 y2, .int .i64 g2, .int .i64 n2] 28) = w1 at *
  generalize hCC : W0.heap.size + 1 = C at hX j0 j1 j2 j3 j4 j5 j6 j7 j8 j9 i0 i1 i2 i3 i4 i5 i6 i7 i8 i9 ⊢
  generalize hBB : W0.heap.size = B at hX j0 j1 j2 j3 j4 j5 j6 j7 j8 j9 i0 i1 i2 i3 i4 i5 i6 i7 i8 i9 ⊢
  go_wp2_with (first | (go_at_call 14; with_reducible refine (hV1 _ hX.frm).mono ?_; rintro _ w' ⟨rfl, hb⟩; have hX := hX.step hb; clear hb; have j0 := hX.c 0 0 rfl rfl; have j1 := hX.c 0 1 rfl rfl; have j2 := hX.c 0 2 rfl rfl; have j3 := hX.c 0 3 rfl rfl; have j4 := hX.c 0 4 rfl rfl; have j5 := hX.c 0 5 rfl rfl; have j6 := hX.c 0 6 rfl rfl; have j7 := hX.c 0 7 rfl rfl; have j8 := hX.c 0 8 rfl rfl; have j9 := hX.c 0 9 rfl rfl; have i0 := hX.c 1 0 rfl rfl; have i1 := hX.c 1 1 rfl rfl; have i2 := hX.c 1 2 rfl rfl; have i3 := hX.c 1 3 rfl rfl; have i4 := hX.c 1 4 rfl rfl; have i5 := hX.c 1 5 rfl rfl; have i6 := hX.c 1 6 rfl rfl; have i7 := hX.c 1 7 rfl rfl; have i8 := hX.c 1 8 rfl rfl; have i9 := hX.c 1 9 rfl rfl) | (go_at_call 14; with_reducible refine (hV2 _ hX.frm).mono ?_; rintro _ w' ⟨rfl, hb⟩; have hX := hX.step hb; clear hb; have j0 := hX.c 0 0 rfl rfl; have j1 := hX.c 0 1 rfl rfl; have j2 := hX.c 0 2 rfl rfl; have j3 := hX.c 0 3 rfl rfl; have j4 := hX.c 0 4 rfl rfl; have j5 := hX.c 0 5 rfl rfl; have j6 := hX.c 0 6 rfl rfl; have j7 := hX.c 0 7 rfl rfl; have j8 := hX.c 0 8 rfl rfl; have j9 := hX.c 0 9 rfl rfl; have i0 := hX.c 1 0 rfl rfl; have i1 := hX.c 1 1 rfl rfl; have i2 := hX.c 1 2 rfl rfl; have i3 := hX.c 1 3 rfl rfl; have i4 := hX.c 1 4 rfl rfl; have i5 := hX.c 1 5 rfl rfl; have i6 := hX.c 1 6 rfl rfl; have i7 := hX.c 1 7 rfl rfl; have i8 := hX.c 1 8 rfl rfl; have i9 := hX.c 1 9 rfl rfl) | (go_at_call 11; with_reducible refine (hE1 _ hX.frm).mono ?_; rintro _ w' ⟨va, rfl, hN1, hb⟩; have hX := hX.step hb; clear hb; have j0 := hX.c 0 0 rfl rfl; have j1 := hX.c 0 1 rfl rfl; have j2 := hX.c 0 2 rfl rfl; have j3 := hX.c 0 3 rfl rfl; have j4 := hX.c 0 4 rfl rfl; have j5 := hX.c 0 5 rfl rfl; have j6 := hX.c 0 6 rfl rfl; have j7 := hX.c 0 7 rfl rfl; have j8 := hX.c 0 8 rfl rfl; have j9 := hX.c 0 9 rfl rfl; have i0 := hX.c 1 0 rfl rfl; have i1 := hX.c 1 1 rfl rfl; have i2 := hX.c 1 2 rfl rfl; have i3 := hX.c 1 3 rfl rfl; have i4 := hX.c 1 4 rfl rfl; have i5 := hX.c 1 5 rfl rfl; have i6 := hX.c 1 6 rfl rfl; have i7 := hX.c 1 7 rfl rfl; have i8 := hX.c 1 8 rfl rfl; have i9 := hX.c 1 9 rfl rfl) | (go_at_call 11; with_reducible refine (hE2 _ hX.frm).mono ?_; rintro _ w' ⟨vb, rfl, hN2, hb⟩; have hX := hX.step hb; have hN1 := hN1.below hb; clear hb; have j0 := hX.c 0 0 rfl rfl; have j1 := hX.c 0 1 rfl rfl; have j2 := hX.c 0 2 rfl rfl; have j3 := hX.c 0 3 rfl rfl; have j4 := hX.c 0 4 rfl rfl; have j5 := hX.c 0 5 rfl rfl; have j6 := hX.c 0 6 rfl rfl; have j7 := hX.c 0 7 rfl rfl; have j8 := hX.c 0 8 rfl rfl; have j9 := hX.c 0 9 rfl rfl; have i0 := hX.c 1 0 rfl rfl; have i1 := hX.c 1 1 rfl rfl; have i2 := hX.c 1 2 rfl rfl; have i3 := hX.c 1 3 rfl rfl; have i4 := hX.c 1 4 rfl rfl; have i5 := hX.c 1 5 rfl rfl; have i6 := hX.c 1 6 rfl rfl; have i7 := hX.c 1 7 rfl rfl; have i8 := hX.c 1 8 rfl rfl; have i9 := hX.c 1 9 rfl rfl))
  refine region_class (fun w' => St A c [(C, [.int .i64 o2, .bool b2, .int .i64 m2, .int .i64 r2, .int .i64 x2, .int .i64 p2, .int .i64 q2, .int .i64 y2, .int .i64 g2, .int .i64 n2]), (B, [.int .i64 o, .bool b, .int .i64 m, .int .i64 r, .int .i64 x, .int .i64 p, .int .i64 q, .int .i64 y, .int .i64 g, .int .i64 n])] W0 w' ∧ Nums .i64 w' va L1 ∧ Nums .i64 w' vb L2) (by kernel_rfl) (by kernel_rfl) (⟨hX.drew, hN1.drew, hN2.drew⟩) ?_
  clear hX hN1 hN2 j0 j1 j2 j3 j4 j5 j6 j7 j8 j9 i0 i1 i2 i3 i4 i5 i6 i7 i8 i9
  repeat
    first
      | (refine BigFrame.wpQuiet_skip (by rfl) ?_
         simp only [Act.put, List.setIfInBounds_toArray, List.set_cons_zero, List.set_cons_succ])
      | (refine BigFrame.wpQuiet_want (by rfl) (fun K hK => ?_)
         apply Exists.intro
         refine ⟨fun wq hq => ?_, hK _ ?_⟩
         · have j0 := hq.1.c 0 0 rfl rfl; have j1 := hq.1.c 0 1 rfl rfl; have j2 := hq.1.c 0 2 rfl rfl; have j3 := hq.1.c 0 3 rfl rfl; have j4 := hq.1.c 0 4 rfl rfl; have j5 := hq.1.c 0 5 rfl rfl; have j6 := hq.1.c 0 6 rfl rfl; have j7 := hq.1.c 0 7 rfl rfl; have j8 := hq.1.c 0 8 rfl rfl; have j9 := hq.1.c 0 9 rfl rfl; have i0 := hq.1.c 1 0 rfl rfl; have i1 := hq.1.c 1 1 rfl rfl; have i2 := hq.1.c 1 2 rfl rfl; have i3 := hq.1.c 1 3 rfl rfl; have i4 := hq.1.c 1 4 rfl rfl; have i5 := hq.1.c 1 5 rfl rfl; have i6 := hq.1.c 1 6 rfl rfl; have i7 := hq.1.c 1 7 rfl rfl; have i8 := hq.1.c 1 8 rfl rfl; have i9 := hq.1.c 1 9 rfl rfl
           unfold Oper.quietAt
           go_simp
           first
             | with_reducible rfl
             | ((go_at_call 13); with_reducible refine (hS _ hq.2.1 hq.2.2).mono ?_; exact fun e w' ⟨he, hb⟩ => ⟨he, ⟨hq.1.step hb, hq.2.1.below hb, hq.2.2.below hb⟩⟩)
             | ((go_at_call 8); with_reducible refine (hA _ hq.1.frm).mono ?_; exact fun e w' ⟨he, hb⟩ => ⟨he, ⟨hq.1.step hb, hq.2.1.below hb, hq.2.2.below hb⟩⟩)
         clear hK K
         simp only [Act.put, List.setIfInBounds_toArray, List.set_cons_zero, List.set_cons_succ])
  refine wpQuiet_nil ?_
  intro w4 hC
  obtain ⟨hX, hN1, hN2⟩ := hC
  have j0 := hX.c 0 0 rfl rfl; have j1 := hX.c 0 1 rfl rfl; have j2 := hX.c 0 2 rfl rfl; have j3 := hX.c 0 3 rfl rfl; have j4 := hX.c 0 4 rfl rfl; have j5 := hX.c 0 5 rfl rfl; have j6 := hX.c 0 6 rfl rfl; have j7 := hX.c 0 7 rfl rfl; have j8 := hX.c 0 8 rfl rfl; have j9 := hX.c 0 9 rfl rfl; have i0 := hX.c 1 0 rfl rfl; have i1 := hX.c 1 1 rfl rfl; have i2 := hX.c 1 2 rfl rfl; have i3 := hX.c 1 3 rfl rfl; have i4 := hX.c 1 4 rfl rfl; have i5 := hX.c 1 5 rfl rfl; have i6 := hX.c 1 6 rfl rfl; have i7 := hX.c 1 7 rfl rfl; have i8 := hX.c 1 8 rfl rfl; have i9 := hX.c 1 9 rfl rfl
  go_wp2_with fail
  go_ret
  exact ⟨rfl, by first | exact hX.below | exact hBB ▸ hX.below⟩

theorem un_1 (o : Int) (b : Bool) (m : Int) (r : Int) (x : Int) (p : Int) (q : Int) (y : Int) (g : Int) (n : Int) (b2 : Bool) (m2 : Int) (r2 : Int) (x2 : Int) (p2 : Int) (q2 : Int) (y2 : Int) (g2 : Int) (n2 : Int) (hne : ¬ (b = b2)) (hv : vR ⟨o, b, m, r, x, p, q, y, g, n⟩ = true) (hw : vR ⟨o, b2, m2, r2, x2, p2, q2, y2, g2, n2⟩ = true) {A : Addr} {c : Nat} (W0 : World) (W : Frm A c W0) : Calls Tryd.prog 7 #[.agg #[.int .i64 o, .bool b, .int .i64 m, .int .i64 r, .int .i64 x, .int .i64 p, .int .i64 q, .int .i64 y, .int .i64 g, .int .i64 n], .agg #[.int .i64 o, .bool b2, .int .i64 m2, .int .i64 r2, .int .i64 x2, .int .i64 p2, .int .i64 q2, .int .i64 y2, .int .i64 g2, .int .i64 n2]] W0 fun e w' => e = .returned (.bool true) ∧ Below W0.heap.size W0 w' := by
  have hX := St.put2 W [.int .i64 o, .bool b, .int .i64 m, .int .i64 r, .int .i64 x, .int .i64 p, .int .i64 q, .int .i64 y, .int .i64 g, .int .i64 n] [.int .i64 o, .bool b2, .int .i64 m2, .int .i64 r2, .int .i64 x2, .int .i64 p2, .int .i64 q2, .int .i64 y2, .int .i64 g2, .int .i64 n2] 28 28
  have hV1 := fun w (k : Frm A c w) => Valid_any o b m r x p q y g n w k
  have hV2 := fun w (k : Frm A c w) => Valid_any o b2 m2 r2 x2 p2 q2 y2 g2 n2 w k
  have hE1 := fun w (k : Frm A c w) => Encode_any o b m r x p q y g n w k
  have hE2 := fun w (k : Frm A c w) => Encode_any o b2 m2 r2 x2 p2 q2 y2 g2 n2 w k
  have hA := fun w (k : Frm A c w) => alive_any w k
  obtain ⟨x1, x2', _⟩ := enc_of hv
  obtain ⟨z1, z2, _⟩ := enc_of hw
  rw [hv] at hV1
  rw [hw] at hV2
  rw [x1, x2'] at hE1
  rw [z1, z2] at hE2
  have hl := enc_len ⟨o, b, m, r, x, p, q, y, g, n⟩
  rw [x1] at hl
  have hS := fun w' {va vb : Value} (h1 : Nums .i64 w' va (wdR ⟨o, b, m, r, x, p, q, y, g, n⟩)) (h2 : Nums .i64 w' vb (wdR ⟨o, b2, m2, r2, x2, p2, q2, y2, g2, n2⟩)) => same_lists (wdR ⟨o, b, m, r, x, p, q, y, g, n⟩) (wdR ⟨o, b2, m2, r2, x2, p2, q2, y2, g2, n2⟩) va vb hl w' h1 h2
  rw [show decide (wdR ⟨o, b, m, r, x, p, q, y, g, n⟩ = wdR ⟨o, b2, m2, r2, x2, p2, q2, y2, g2, n2⟩) = false from decide_eq_false (fun h => by have k := (uniq hv hw).1 h; simp only [In.mk.injEq] at k; exact hne (by simp only [k]))] at hS
  generalize wdR ⟨o, b, m, r, x, p, q, y, g, n⟩ = L1 at *
  generalize wdR ⟨o, b2, m2, r2, x2, p2, q2, y2, g2, n2⟩ = L2 at *
  clear hl x1 x2' z1 z2
  have hnb : (b == b2) = false := by simpa using hne
  have hnd : decide (b = b2) = false := decide_eq_false hne
  go_enter Tryd.func7, Tryd.ntmps7
  go_wp2_with fail
  have j0 := hX.c 0 0 rfl rfl; have j1 := hX.c 0 1 rfl rfl; have j2 := hX.c 0 2 rfl rfl; have j3 := hX.c 0 3 rfl rfl; have j4 := hX.c 0 4 rfl rfl; have j5 := hX.c 0 5 rfl rfl; have j6 := hX.c 0 6 rfl rfl; have j7 := hX.c 0 7 rfl rfl; have j8 := hX.c 0 8 rfl rfl; have j9 := hX.c 0 9 rfl rfl; have i0 := hX.c 1 0 rfl rfl; have i1 := hX.c 1 1 rfl rfl; have i2 := hX.c 1 2 rfl rfl; have i3 := hX.c 1 3 rfl rfl; have i4 := hX.c 1 4 rfl rfl; have i5 := hX.c 1 5 rfl rfl; have i6 := hX.c 1 6 rfl rfl; have i7 := hX.c 1 7 rfl rfl; have i8 := hX.c 1 8 rfl rfl; have i9 := hX.c 1 9 rfl rfl
  generalize (W0.alloc (.cells #[.int .i64 o, .bool b, .int .i64 m, .int .i64 r, .int .i64 x, .int .i64 p, .int .i64 q, .int .i64 y, .int .i64 g, .int .i64 n] 28)).alloc (.cells #[.int .i64 o, .bool b2, .int .i64 m2, .int .i64 r2, .int .i64 x2, .int .i64 p2, .int .i64 q2, .int .i64 y2, .int .i64 g2, .int .i64 n2] 28) = w1 at *
  generalize hCC : W0.heap.size + 1 = C at hX j0 j1 j2 j3 j4 j5 j6 j7 j8 j9 i0 i1 i2 i3 i4 i5 i6 i7 i8 i9 ⊢
  generalize hBB : W0.heap.size = B at hX j0 j1 j2 j3 j4 j5 j6 j7 j8 j9 i0 i1 i2 i3 i4 i5 i6 i7 i8 i9 ⊢
  go_wp2_with (first | (go_at_call 14; with_reducible refine (hV1 _ hX.frm).mono ?_; rintro _ w' ⟨rfl, hb⟩; have hX := hX.step hb; clear hb; have j0 := hX.c 0 0 rfl rfl; have j1 := hX.c 0 1 rfl rfl; have j2 := hX.c 0 2 rfl rfl; have j3 := hX.c 0 3 rfl rfl; have j4 := hX.c 0 4 rfl rfl; have j5 := hX.c 0 5 rfl rfl; have j6 := hX.c 0 6 rfl rfl; have j7 := hX.c 0 7 rfl rfl; have j8 := hX.c 0 8 rfl rfl; have j9 := hX.c 0 9 rfl rfl; have i0 := hX.c 1 0 rfl rfl; have i1 := hX.c 1 1 rfl rfl; have i2 := hX.c 1 2 rfl rfl; have i3 := hX.c 1 3 rfl rfl; have i4 := hX.c 1 4 rfl rfl; have i5 := hX.c 1 5 rfl rfl; have i6 := hX.c 1 6 rfl rfl; have i7 := hX.c 1 7 rfl rfl; have i8 := hX.c 1 8 rfl rfl; have i9 := hX.c 1 9 rfl rfl) | (go_at_call 14; with_reducible refine (hV2 _ hX.frm).mono ?_; rintro _ w' ⟨rfl, hb⟩; have hX := hX.step hb; clear hb; have j0 := hX.c 0 0 rfl rfl; have j1 := hX.c 0 1 rfl rfl; have j2 := hX.c 0 2 rfl rfl; have j3 := hX.c 0 3 rfl rfl; have j4 := hX.c 0 4 rfl rfl; have j5 := hX.c 0 5 rfl rfl; have j6 := hX.c 0 6 rfl rfl; have j7 := hX.c 0 7 rfl rfl; have j8 := hX.c 0 8 rfl rfl; have j9 := hX.c 0 9 rfl rfl; have i0 := hX.c 1 0 rfl rfl; have i1 := hX.c 1 1 rfl rfl; have i2 := hX.c 1 2 rfl rfl; have i3 := hX.c 1 3 rfl rfl; have i4 := hX.c 1 4 rfl rfl; have i5 := hX.c 1 5 rfl rfl; have i6 := hX.c 1 6 rfl rfl; have i7 := hX.c 1 7 rfl rfl; have i8 := hX.c 1 8 rfl rfl; have i9 := hX.c 1 9 rfl rfl) | (go_at_call 11; with_reducible refine (hE1 _ hX.frm).mono ?_; rintro _ w' ⟨va, rfl, hN1, hb⟩; have hX := hX.step hb; clear hb; have j0 := hX.c 0 0 rfl rfl; have j1 := hX.c 0 1 rfl rfl; have j2 := hX.c 0 2 rfl rfl; have j3 := hX.c 0 3 rfl rfl; have j4 := hX.c 0 4 rfl rfl; have j5 := hX.c 0 5 rfl rfl; have j6 := hX.c 0 6 rfl rfl; have j7 := hX.c 0 7 rfl rfl; have j8 := hX.c 0 8 rfl rfl; have j9 := hX.c 0 9 rfl rfl; have i0 := hX.c 1 0 rfl rfl; have i1 := hX.c 1 1 rfl rfl; have i2 := hX.c 1 2 rfl rfl; have i3 := hX.c 1 3 rfl rfl; have i4 := hX.c 1 4 rfl rfl; have i5 := hX.c 1 5 rfl rfl; have i6 := hX.c 1 6 rfl rfl; have i7 := hX.c 1 7 rfl rfl; have i8 := hX.c 1 8 rfl rfl; have i9 := hX.c 1 9 rfl rfl) | (go_at_call 11; with_reducible refine (hE2 _ hX.frm).mono ?_; rintro _ w' ⟨vb, rfl, hN2, hb⟩; have hX := hX.step hb; have hN1 := hN1.below hb; clear hb; have j0 := hX.c 0 0 rfl rfl; have j1 := hX.c 0 1 rfl rfl; have j2 := hX.c 0 2 rfl rfl; have j3 := hX.c 0 3 rfl rfl; have j4 := hX.c 0 4 rfl rfl; have j5 := hX.c 0 5 rfl rfl; have j6 := hX.c 0 6 rfl rfl; have j7 := hX.c 0 7 rfl rfl; have j8 := hX.c 0 8 rfl rfl; have j9 := hX.c 0 9 rfl rfl; have i0 := hX.c 1 0 rfl rfl; have i1 := hX.c 1 1 rfl rfl; have i2 := hX.c 1 2 rfl rfl; have i3 := hX.c 1 3 rfl rfl; have i4 := hX.c 1 4 rfl rfl; have i5 := hX.c 1 5 rfl rfl; have i6 := hX.c 1 6 rfl rfl; have i7 := hX.c 1 7 rfl rfl; have i8 := hX.c 1 8 rfl rfl; have i9 := hX.c 1 9 rfl rfl))
  refine region_class (fun w' => St A c [(C, [.int .i64 o, .bool b2, .int .i64 m2, .int .i64 r2, .int .i64 x2, .int .i64 p2, .int .i64 q2, .int .i64 y2, .int .i64 g2, .int .i64 n2]), (B, [.int .i64 o, .bool b, .int .i64 m, .int .i64 r, .int .i64 x, .int .i64 p, .int .i64 q, .int .i64 y, .int .i64 g, .int .i64 n])] W0 w' ∧ Nums .i64 w' va L1 ∧ Nums .i64 w' vb L2) (by kernel_rfl) (by kernel_rfl) (⟨hX.drew, hN1.drew, hN2.drew⟩) ?_
  clear hX hN1 hN2 j0 j1 j2 j3 j4 j5 j6 j7 j8 j9 i0 i1 i2 i3 i4 i5 i6 i7 i8 i9
  repeat
    first
      | (refine BigFrame.wpQuiet_skip (by rfl) ?_
         simp only [Act.put, List.setIfInBounds_toArray, List.set_cons_zero, List.set_cons_succ])
      | (refine BigFrame.wpQuiet_want (by rfl) (fun K hK => ?_)
         apply Exists.intro
         refine ⟨fun wq hq => ?_, hK _ ?_⟩
         · have j0 := hq.1.c 0 0 rfl rfl; have j1 := hq.1.c 0 1 rfl rfl; have j2 := hq.1.c 0 2 rfl rfl; have j3 := hq.1.c 0 3 rfl rfl; have j4 := hq.1.c 0 4 rfl rfl; have j5 := hq.1.c 0 5 rfl rfl; have j6 := hq.1.c 0 6 rfl rfl; have j7 := hq.1.c 0 7 rfl rfl; have j8 := hq.1.c 0 8 rfl rfl; have j9 := hq.1.c 0 9 rfl rfl; have i0 := hq.1.c 1 0 rfl rfl; have i1 := hq.1.c 1 1 rfl rfl; have i2 := hq.1.c 1 2 rfl rfl; have i3 := hq.1.c 1 3 rfl rfl; have i4 := hq.1.c 1 4 rfl rfl; have i5 := hq.1.c 1 5 rfl rfl; have i6 := hq.1.c 1 6 rfl rfl; have i7 := hq.1.c 1 7 rfl rfl; have i8 := hq.1.c 1 8 rfl rfl; have i9 := hq.1.c 1 9 rfl rfl
           unfold Oper.quietAt
           go_simp
           first
             | with_reducible rfl
             | ((go_at_call 13); with_reducible refine (hS _ hq.2.1 hq.2.2).mono ?_; exact fun e w' ⟨he, hb⟩ => ⟨he, ⟨hq.1.step hb, hq.2.1.below hb, hq.2.2.below hb⟩⟩)
             | ((go_at_call 8); with_reducible refine (hA _ hq.1.frm).mono ?_; exact fun e w' ⟨he, hb⟩ => ⟨he, ⟨hq.1.step hb, hq.2.1.below hb, hq.2.2.below hb⟩⟩)
         clear hK K
         simp only [Act.put, List.setIfInBounds_toArray, List.set_cons_zero, List.set_cons_succ])
  refine wpQuiet_nil ?_
  intro w4 hC
  obtain ⟨hX, hN1, hN2⟩ := hC
  have j0 := hX.c 0 0 rfl rfl; have j1 := hX.c 0 1 rfl rfl; have j2 := hX.c 0 2 rfl rfl; have j3 := hX.c 0 3 rfl rfl; have j4 := hX.c 0 4 rfl rfl; have j5 := hX.c 0 5 rfl rfl; have j6 := hX.c 0 6 rfl rfl; have j7 := hX.c 0 7 rfl rfl; have j8 := hX.c 0 8 rfl rfl; have j9 := hX.c 0 9 rfl rfl; have i0 := hX.c 1 0 rfl rfl; have i1 := hX.c 1 1 rfl rfl; have i2 := hX.c 1 2 rfl rfl; have i3 := hX.c 1 3 rfl rfl; have i4 := hX.c 1 4 rfl rfl; have i5 := hX.c 1 5 rfl rfl; have i6 := hX.c 1 6 rfl rfl; have i7 := hX.c 1 7 rfl rfl; have i8 := hX.c 1 8 rfl rfl; have i9 := hX.c 1 9 rfl rfl
  go_wp2_with fail
  go_ret
  exact ⟨rfl, by first | exact hX.below | exact hBB ▸ hX.below⟩

theorem un_2 (o : Int) (b : Bool) (m : Int) (r : Int) (x : Int) (p : Int) (q : Int) (y : Int) (g : Int) (n : Int) (m2 : Int) (r2 : Int) (x2 : Int) (p2 : Int) (q2 : Int) (y2 : Int) (g2 : Int) (n2 : Int) (hne : ¬ (m = m2)) (hv : vR ⟨o, b, m, r, x, p, q, y, g, n⟩ = true) (hw : vR ⟨o, b, m2, r2, x2, p2, q2, y2, g2, n2⟩ = true) {A : Addr} {c : Nat} (W0 : World) (W : Frm A c W0) : Calls Tryd.prog 7 #[.agg #[.int .i64 o, .bool b, .int .i64 m, .int .i64 r, .int .i64 x, .int .i64 p, .int .i64 q, .int .i64 y, .int .i64 g, .int .i64 n], .agg #[.int .i64 o, .bool b, .int .i64 m2, .int .i64 r2, .int .i64 x2, .int .i64 p2, .int .i64 q2, .int .i64 y2, .int .i64 g2, .int .i64 n2]] W0 fun e w' => e = .returned (.bool true) ∧ Below W0.heap.size W0 w' := by
  have hX := St.put2 W [.int .i64 o, .bool b, .int .i64 m, .int .i64 r, .int .i64 x, .int .i64 p, .int .i64 q, .int .i64 y, .int .i64 g, .int .i64 n] [.int .i64 o, .bool b, .int .i64 m2, .int .i64 r2, .int .i64 x2, .int .i64 p2, .int .i64 q2, .int .i64 y2, .int .i64 g2, .int .i64 n2] 28 28
  have hV1 := fun w (k : Frm A c w) => Valid_any o b m r x p q y g n w k
  have hV2 := fun w (k : Frm A c w) => Valid_any o b m2 r2 x2 p2 q2 y2 g2 n2 w k
  have hE1 := fun w (k : Frm A c w) => Encode_any o b m r x p q y g n w k
  have hE2 := fun w (k : Frm A c w) => Encode_any o b m2 r2 x2 p2 q2 y2 g2 n2 w k
  have hA := fun w (k : Frm A c w) => alive_any w k
  obtain ⟨x1, x2', _⟩ := enc_of hv
  obtain ⟨z1, z2, _⟩ := enc_of hw
  rw [hv] at hV1
  rw [hw] at hV2
  rw [x1, x2'] at hE1
  rw [z1, z2] at hE2
  have hl := enc_len ⟨o, b, m, r, x, p, q, y, g, n⟩
  rw [x1] at hl
  have hS := fun w' {va vb : Value} (h1 : Nums .i64 w' va (wdR ⟨o, b, m, r, x, p, q, y, g, n⟩)) (h2 : Nums .i64 w' vb (wdR ⟨o, b, m2, r2, x2, p2, q2, y2, g2, n2⟩)) => same_lists (wdR ⟨o, b, m, r, x, p, q, y, g, n⟩) (wdR ⟨o, b, m2, r2, x2, p2, q2, y2, g2, n2⟩) va vb hl w' h1 h2
  rw [show decide (wdR ⟨o, b, m, r, x, p, q, y, g, n⟩ = wdR ⟨o, b, m2, r2, x2, p2, q2, y2, g2, n2⟩) = false from decide_eq_false (fun h => by have k := (uniq hv hw).1 h; simp only [In.mk.injEq] at k; exact hne (by simp only [k]))] at hS
  generalize wdR ⟨o, b, m, r, x, p, q, y, g, n⟩ = L1 at *
  generalize wdR ⟨o, b, m2, r2, x2, p2, q2, y2, g2, n2⟩ = L2 at *
  clear hl x1 x2' z1 z2
  have hnb : (m == m2) = false := by simpa using hne
  have hnd : decide (m = m2) = false := decide_eq_false hne
  go_enter Tryd.func7, Tryd.ntmps7
  go_wp2_with fail
  have j0 := hX.c 0 0 rfl rfl; have j1 := hX.c 0 1 rfl rfl; have j2 := hX.c 0 2 rfl rfl; have j3 := hX.c 0 3 rfl rfl; have j4 := hX.c 0 4 rfl rfl; have j5 := hX.c 0 5 rfl rfl; have j6 := hX.c 0 6 rfl rfl; have j7 := hX.c 0 7 rfl rfl; have j8 := hX.c 0 8 rfl rfl; have j9 := hX.c 0 9 rfl rfl; have i0 := hX.c 1 0 rfl rfl; have i1 := hX.c 1 1 rfl rfl; have i2 := hX.c 1 2 rfl rfl; have i3 := hX.c 1 3 rfl rfl; have i4 := hX.c 1 4 rfl rfl; have i5 := hX.c 1 5 rfl rfl; have i6 := hX.c 1 6 rfl rfl; have i7 := hX.c 1 7 rfl rfl; have i8 := hX.c 1 8 rfl rfl; have i9 := hX.c 1 9 rfl rfl
  generalize (W0.alloc (.cells #[.int .i64 o, .bool b, .int .i64 m, .int .i64 r, .int .i64 x, .int .i64 p, .int .i64 q, .int .i64 y, .int .i64 g, .int .i64 n] 28)).alloc (.cells #[.int .i64 o, .bool b, .int .i64 m2, .int .i64 r2, .int .i64 x2, .int .i64 p2, .int .i64 q2, .int .i64 y2, .int .i64 g2, .int .i64 n2] 28) = w1 at *
  generalize hCC : W0.heap.size + 1 = C at hX j0 j1 j2 j3 j4 j5 j6 j7 j8 j9 i0 i1 i2 i3 i4 i5 i6 i7 i8 i9 ⊢
  generalize hBB : W0.heap.size = B at hX j0 j1 j2 j3 j4 j5 j6 j7 j8 j9 i0 i1 i2 i3 i4 i5 i6 i7 i8 i9 ⊢
  go_wp2_with (first | (go_at_call 14; with_reducible refine (hV1 _ hX.frm).mono ?_; rintro _ w' ⟨rfl, hb⟩; have hX := hX.step hb; clear hb; have j0 := hX.c 0 0 rfl rfl; have j1 := hX.c 0 1 rfl rfl; have j2 := hX.c 0 2 rfl rfl; have j3 := hX.c 0 3 rfl rfl; have j4 := hX.c 0 4 rfl rfl; have j5 := hX.c 0 5 rfl rfl; have j6 := hX.c 0 6 rfl rfl; have j7 := hX.c 0 7 rfl rfl; have j8 := hX.c 0 8 rfl rfl; have j9 := hX.c 0 9 rfl rfl; have i0 := hX.c 1 0 rfl rfl; have i1 := hX.c 1 1 rfl rfl; have i2 := hX.c 1 2 rfl rfl; have i3 := hX.c 1 3 rfl rfl; have i4 := hX.c 1 4 rfl rfl; have i5 := hX.c 1 5 rfl rfl; have i6 := hX.c 1 6 rfl rfl; have i7 := hX.c 1 7 rfl rfl; have i8 := hX.c 1 8 rfl rfl; have i9 := hX.c 1 9 rfl rfl) | (go_at_call 14; with_reducible refine (hV2 _ hX.frm).mono ?_; rintro _ w' ⟨rfl, hb⟩; have hX := hX.step hb; clear hb; have j0 := hX.c 0 0 rfl rfl; have j1 := hX.c 0 1 rfl rfl; have j2 := hX.c 0 2 rfl rfl; have j3 := hX.c 0 3 rfl rfl; have j4 := hX.c 0 4 rfl rfl; have j5 := hX.c 0 5 rfl rfl; have j6 := hX.c 0 6 rfl rfl; have j7 := hX.c 0 7 rfl rfl; have j8 := hX.c 0 8 rfl rfl; have j9 := hX.c 0 9 rfl rfl; have i0 := hX.c 1 0 rfl rfl; have i1 := hX.c 1 1 rfl rfl; have i2 := hX.c 1 2 rfl rfl; have i3 := hX.c 1 3 rfl rfl; have i4 := hX.c 1 4 rfl rfl; have i5 := hX.c 1 5 rfl rfl; have i6 := hX.c 1 6 rfl rfl; have i7 := hX.c 1 7 rfl rfl; have i8 := hX.c 1 8 rfl rfl; have i9 := hX.c 1 9 rfl rfl) | (go_at_call 11; with_reducible refine (hE1 _ hX.frm).mono ?_; rintro _ w' ⟨va, rfl, hN1, hb⟩; have hX := hX.step hb; clear hb; have j0 := hX.c 0 0 rfl rfl; have j1 := hX.c 0 1 rfl rfl; have j2 := hX.c 0 2 rfl rfl; have j3 := hX.c 0 3 rfl rfl; have j4 := hX.c 0 4 rfl rfl; have j5 := hX.c 0 5 rfl rfl; have j6 := hX.c 0 6 rfl rfl; have j7 := hX.c 0 7 rfl rfl; have j8 := hX.c 0 8 rfl rfl; have j9 := hX.c 0 9 rfl rfl; have i0 := hX.c 1 0 rfl rfl; have i1 := hX.c 1 1 rfl rfl; have i2 := hX.c 1 2 rfl rfl; have i3 := hX.c 1 3 rfl rfl; have i4 := hX.c 1 4 rfl rfl; have i5 := hX.c 1 5 rfl rfl; have i6 := hX.c 1 6 rfl rfl; have i7 := hX.c 1 7 rfl rfl; have i8 := hX.c 1 8 rfl rfl; have i9 := hX.c 1 9 rfl rfl) | (go_at_call 11; with_reducible refine (hE2 _ hX.frm).mono ?_; rintro _ w' ⟨vb, rfl, hN2, hb⟩; have hX := hX.step hb; have hN1 := hN1.below hb; clear hb; have j0 := hX.c 0 0 rfl rfl; have j1 := hX.c 0 1 rfl rfl; have j2 := hX.c 0 2 rfl rfl; have j3 := hX.c 0 3 rfl rfl; have j4 := hX.c 0 4 rfl rfl; have j5 := hX.c 0 5 rfl rfl; have j6 := hX.c 0 6 rfl rfl; have j7 := hX.c 0 7 rfl rfl; have j8 := hX.c 0 8 rfl rfl; have j9 := hX.c 0 9 rfl rfl; have i0 := hX.c 1 0 rfl rfl; have i1 := hX.c 1 1 rfl rfl; have i2 := hX.c 1 2 rfl rfl; have i3 := hX.c 1 3 rfl rfl; have i4 := hX.c 1 4 rfl rfl; have i5 := hX.c 1 5 rfl rfl; have i6 := hX.c 1 6 rfl rfl; have i7 := hX.c 1 7 rfl rfl; have i8 := hX.c 1 8 rfl rfl; have i9 := hX.c 1 9 rfl rfl))
  refine region_class (fun w' => St A c [(C, [.int .i64 o, .bool b, .int .i64 m2, .int .i64 r2, .int .i64 x2, .int .i64 p2, .int .i64 q2, .int .i64 y2, .int .i64 g2, .int .i64 n2]), (B, [.int .i64 o, .bool b, .int .i64 m, .int .i64 r, .int .i64 x, .int .i64 p, .int .i64 q, .int .i64 y, .int .i64 g, .int .i64 n])] W0 w' ∧ Nums .i64 w' va L1 ∧ Nums .i64 w' vb L2) (by kernel_rfl) (by kernel_rfl) (⟨hX.drew, hN1.drew, hN2.drew⟩) ?_
  clear hX hN1 hN2 j0 j1 j2 j3 j4 j5 j6 j7 j8 j9 i0 i1 i2 i3 i4 i5 i6 i7 i8 i9
  repeat
    first
      | (refine BigFrame.wpQuiet_skip (by rfl) ?_
         simp only [Act.put, List.setIfInBounds_toArray, List.set_cons_zero, List.set_cons_succ])
      | (refine BigFrame.wpQuiet_want (by rfl) (fun K hK => ?_)
         apply Exists.intro
         refine ⟨fun wq hq => ?_, hK _ ?_⟩
         · have j0 := hq.1.c 0 0 rfl rfl; have j1 := hq.1.c 0 1 rfl rfl; have j2 := hq.1.c 0 2 rfl rfl; have j3 := hq.1.c 0 3 rfl rfl; have j4 := hq.1.c 0 4 rfl rfl; have j5 := hq.1.c 0 5 rfl rfl; have j6 := hq.1.c 0 6 rfl rfl; have j7 := hq.1.c 0 7 rfl rfl; have j8 := hq.1.c 0 8 rfl rfl; have j9 := hq.1.c 0 9 rfl rfl; have i0 := hq.1.c 1 0 rfl rfl; have i1 := hq.1.c 1 1 rfl rfl; have i2 := hq.1.c 1 2 rfl rfl; have i3 := hq.1.c 1 3 rfl rfl; have i4 := hq.1.c 1 4 rfl rfl; have i5 := hq.1.c 1 5 rfl rfl; have i6 := hq.1.c 1 6 rfl rfl; have i7 := hq.1.c 1 7 rfl rfl; have i8 := hq.1.c 1 8 rfl rfl; have i9 := hq.1.c 1 9 rfl rfl
           unfold Oper.quietAt
           go_simp
           first
             | with_reducible rfl
             | ((go_at_call 13); with_reducible refine (hS _ hq.2.1 hq.2.2).mono ?_; exact fun e w' ⟨he, hb⟩ => ⟨he, ⟨hq.1.step hb, hq.2.1.below hb, hq.2.2.below hb⟩⟩)
             | ((go_at_call 8); with_reducible refine (hA _ hq.1.frm).mono ?_; exact fun e w' ⟨he, hb⟩ => ⟨he, ⟨hq.1.step hb, hq.2.1.below hb, hq.2.2.below hb⟩⟩)
         clear hK K
         simp only [Act.put, List.setIfInBounds_toArray, List.set_cons_zero, List.set_cons_succ])
  refine wpQuiet_nil ?_
  intro w4 hC
  obtain ⟨hX, hN1, hN2⟩ := hC
  have j0 := hX.c 0 0 rfl rfl; have j1 := hX.c 0 1 rfl rfl; have j2 := hX.c 0 2 rfl rfl; have j3 := hX.c 0 3 rfl rfl; have j4 := hX.c 0 4 rfl rfl; have j5 := hX.c 0 5 rfl rfl; have j6 := hX.c 0 6 rfl rfl; have j7 := hX.c 0 7 rfl rfl; have j8 := hX.c 0 8 rfl rfl; have j9 := hX.c 0 9 rfl rfl; have i0 := hX.c 1 0 rfl rfl; have i1 := hX.c 1 1 rfl rfl; have i2 := hX.c 1 2 rfl rfl; have i3 := hX.c 1 3 rfl rfl; have i4 := hX.c 1 4 rfl rfl; have i5 := hX.c 1 5 rfl rfl; have i6 := hX.c 1 6 rfl rfl; have i7 := hX.c 1 7 rfl rfl; have i8 := hX.c 1 8 rfl rfl; have i9 := hX.c 1 9 rfl rfl
  go_wp2_with fail
  go_ret
  exact ⟨rfl, by first | exact hX.below | exact hBB ▸ hX.below⟩

theorem un_3 (o : Int) (b : Bool) (m : Int) (r : Int) (x : Int) (p : Int) (q : Int) (y : Int) (g : Int) (n : Int) (r2 : Int) (x2 : Int) (p2 : Int) (q2 : Int) (y2 : Int) (g2 : Int) (n2 : Int) (hne : ¬ (r = r2)) (hv : vR ⟨o, b, m, r, x, p, q, y, g, n⟩ = true) (hw : vR ⟨o, b, m, r2, x2, p2, q2, y2, g2, n2⟩ = true) {A : Addr} {c : Nat} (W0 : World) (W : Frm A c W0) : Calls Tryd.prog 7 #[.agg #[.int .i64 o, .bool b, .int .i64 m, .int .i64 r, .int .i64 x, .int .i64 p, .int .i64 q, .int .i64 y, .int .i64 g, .int .i64 n], .agg #[.int .i64 o, .bool b, .int .i64 m, .int .i64 r2, .int .i64 x2, .int .i64 p2, .int .i64 q2, .int .i64 y2, .int .i64 g2, .int .i64 n2]] W0 fun e w' => e = .returned (.bool true) ∧ Below W0.heap.size W0 w' := by
  have hX := St.put2 W [.int .i64 o, .bool b, .int .i64 m, .int .i64 r, .int .i64 x, .int .i64 p, .int .i64 q, .int .i64 y, .int .i64 g, .int .i64 n] [.int .i64 o, .bool b, .int .i64 m, .int .i64 r2, .int .i64 x2, .int .i64 p2, .int .i64 q2, .int .i64 y2, .int .i64 g2, .int .i64 n2] 28 28
  have hV1 := fun w (k : Frm A c w) => Valid_any o b m r x p q y g n w k
  have hV2 := fun w (k : Frm A c w) => Valid_any o b m r2 x2 p2 q2 y2 g2 n2 w k
  have hE1 := fun w (k : Frm A c w) => Encode_any o b m r x p q y g n w k
  have hE2 := fun w (k : Frm A c w) => Encode_any o b m r2 x2 p2 q2 y2 g2 n2 w k
  have hA := fun w (k : Frm A c w) => alive_any w k
  obtain ⟨x1, x2', _⟩ := enc_of hv
  obtain ⟨z1, z2, _⟩ := enc_of hw
  rw [hv] at hV1
  rw [hw] at hV2
  rw [x1, x2'] at hE1
  rw [z1, z2] at hE2
  have hl := enc_len ⟨o, b, m, r, x, p, q, y, g, n⟩
  rw [x1] at hl
  have hS := fun w' {va vb : Value} (h1 : Nums .i64 w' va (wdR ⟨o, b, m, r, x, p, q, y, g, n⟩)) (h2 : Nums .i64 w' vb (wdR ⟨o, b, m, r2, x2, p2, q2, y2, g2, n2⟩)) => same_lists (wdR ⟨o, b, m, r, x, p, q, y, g, n⟩) (wdR ⟨o, b, m, r2, x2, p2, q2, y2, g2, n2⟩) va vb hl w' h1 h2
  rw [show decide (wdR ⟨o, b, m, r, x, p, q, y, g, n⟩ = wdR ⟨o, b, m, r2, x2, p2, q2, y2, g2, n2⟩) = false from decide_eq_false (fun h => by have k := (uniq hv hw).1 h; simp only [In.mk.injEq] at k; exact hne (by simp only [k]))] at hS
  generalize wdR ⟨o, b, m, r, x, p, q, y, g, n⟩ = L1 at *
  generalize wdR ⟨o, b, m, r2, x2, p2, q2, y2, g2, n2⟩ = L2 at *
  clear hl x1 x2' z1 z2
  have hnb : (r == r2) = false := by simpa using hne
  have hnd : decide (r = r2) = false := decide_eq_false hne
  go_enter Tryd.func7, Tryd.ntmps7
  go_wp2_with fail
  have j0 := hX.c 0 0 rfl rfl; have j1 := hX.c 0 1 rfl rfl; have j2 := hX.c 0 2 rfl rfl; have j3 := hX.c 0 3 rfl rfl; have j4 := hX.c 0 4 rfl rfl; have j5 := hX.c 0 5 rfl rfl; have j6 := hX.c 0 6 rfl rfl; have j7 := hX.c 0 7 rfl rfl; have j8 := hX.c 0 8 rfl rfl; have j9 := hX.c 0 9 rfl rfl; have i0 := hX.c 1 0 rfl rfl; have i1 := hX.c 1 1 rfl rfl; have i2 := hX.c 1 2 rfl rfl; have i3 := hX.c 1 3 rfl rfl; have i4 := hX.c 1 4 rfl rfl; have i5 := hX.c 1 5 rfl rfl; have i6 := hX.c 1 6 rfl rfl; have i7 := hX.c 1 7 rfl rfl; have i8 := hX.c 1 8 rfl rfl; have i9 := hX.c 1 9 rfl rfl
  generalize (W0.alloc (.cells #[.int .i64 o, .bool b, .int .i64 m, .int .i64 r, .int .i64 x, .int .i64 p, .int .i64 q, .int .i64 y, .int .i64 g, .int .i64 n] 28)).alloc (.cells #[.int .i64 o, .bool b, .int .i64 m, .int .i64 r2, .int .i64 x2, .int .i64 p2, .int .i64 q2, .int .i64 y2, .int .i64 g2, .int .i64 n2] 28) = w1 at *
  generalize hCC : W0.heap.size + 1 = C at hX j0 j1 j2 j3 j4 j5 j6 j7 j8 j9 i0 i1 i2 i3 i4 i5 i6 i7 i8 i9 ⊢
  generalize hBB : W0.heap.size = B at hX j0 j1 j2 j3 j4 j5 j6 j7 j8 j9 i0 i1 i2 i3 i4 i5 i6 i7 i8 i9 ⊢
  go_wp2_with (first | (go_at_call 14; with_reducible refine (hV1 _ hX.frm).mono ?_; rintro _ w' ⟨rfl, hb⟩; have hX := hX.step hb; clear hb; have j0 := hX.c 0 0 rfl rfl; have j1 := hX.c 0 1 rfl rfl; have j2 := hX.c 0 2 rfl rfl; have j3 := hX.c 0 3 rfl rfl; have j4 := hX.c 0 4 rfl rfl; have j5 := hX.c 0 5 rfl rfl; have j6 := hX.c 0 6 rfl rfl; have j7 := hX.c 0 7 rfl rfl; have j8 := hX.c 0 8 rfl rfl; have j9 := hX.c 0 9 rfl rfl; have i0 := hX.c 1 0 rfl rfl; have i1 := hX.c 1 1 rfl rfl; have i2 := hX.c 1 2 rfl rfl; have i3 := hX.c 1 3 rfl rfl; have i4 := hX.c 1 4 rfl rfl; have i5 := hX.c 1 5 rfl rfl; have i6 := hX.c 1 6 rfl rfl; have i7 := hX.c 1 7 rfl rfl; have i8 := hX.c 1 8 rfl rfl; have i9 := hX.c 1 9 rfl rfl) | (go_at_call 14; with_reducible refine (hV2 _ hX.frm).mono ?_; rintro _ w' ⟨rfl, hb⟩; have hX := hX.step hb; clear hb; have j0 := hX.c 0 0 rfl rfl; have j1 := hX.c 0 1 rfl rfl; have j2 := hX.c 0 2 rfl rfl; have j3 := hX.c 0 3 rfl rfl; have j4 := hX.c 0 4 rfl rfl; have j5 := hX.c 0 5 rfl rfl; have j6 := hX.c 0 6 rfl rfl; have j7 := hX.c 0 7 rfl rfl; have j8 := hX.c 0 8 rfl rfl; have j9 := hX.c 0 9 rfl rfl; have i0 := hX.c 1 0 rfl rfl; have i1 := hX.c 1 1 rfl rfl; have i2 := hX.c 1 2 rfl rfl; have i3 := hX.c 1 3 rfl rfl; have i4 := hX.c 1 4 rfl rfl; have i5 := hX.c 1 5 rfl rfl; have i6 := hX.c 1 6 rfl rfl; have i7 := hX.c 1 7 rfl rfl; have i8 := hX.c 1 8 rfl rfl; have i9 := hX.c 1 9 rfl rfl) | (go_at_call 11; with_reducible refine (hE1 _ hX.frm).mono ?_; rintro _ w' ⟨va, rfl, hN1, hb⟩; have hX := hX.step hb; clear hb; have j0 := hX.c 0 0 rfl rfl; have j1 := hX.c 0 1 rfl rfl; have j2 := hX.c 0 2 rfl rfl; have j3 := hX.c 0 3 rfl rfl; have j4 := hX.c 0 4 rfl rfl; have j5 := hX.c 0 5 rfl rfl; have j6 := hX.c 0 6 rfl rfl; have j7 := hX.c 0 7 rfl rfl; have j8 := hX.c 0 8 rfl rfl; have j9 := hX.c 0 9 rfl rfl; have i0 := hX.c 1 0 rfl rfl; have i1 := hX.c 1 1 rfl rfl; have i2 := hX.c 1 2 rfl rfl; have i3 := hX.c 1 3 rfl rfl; have i4 := hX.c 1 4 rfl rfl; have i5 := hX.c 1 5 rfl rfl; have i6 := hX.c 1 6 rfl rfl; have i7 := hX.c 1 7 rfl rfl; have i8 := hX.c 1 8 rfl rfl; have i9 := hX.c 1 9 rfl rfl) | (go_at_call 11; with_reducible refine (hE2 _ hX.frm).mono ?_; rintro _ w' ⟨vb, rfl, hN2, hb⟩; have hX := hX.step hb; have hN1 := hN1.below hb; clear hb; have j0 := hX.c 0 0 rfl rfl; have j1 := hX.c 0 1 rfl rfl; have j2 := hX.c 0 2 rfl rfl; have j3 := hX.c 0 3 rfl rfl; have j4 := hX.c 0 4 rfl rfl; have j5 := hX.c 0 5 rfl rfl; have j6 := hX.c 0 6 rfl rfl; have j7 := hX.c 0 7 rfl rfl; have j8 := hX.c 0 8 rfl rfl; have j9 := hX.c 0 9 rfl rfl; have i0 := hX.c 1 0 rfl rfl; have i1 := hX.c 1 1 rfl rfl; have i2 := hX.c 1 2 rfl rfl; have i3 := hX.c 1 3 rfl rfl; have i4 := hX.c 1 4 rfl rfl; have i5 := hX.c 1 5 rfl rfl; have i6 := hX.c 1 6 rfl rfl; have i7 := hX.c 1 7 rfl rfl; have i8 := hX.c 1 8 rfl rfl; have i9 := hX.c 1 9 rfl rfl))
  refine region_class (fun w' => St A c [(C, [.int .i64 o, .bool b, .int .i64 m, .int .i64 r2, .int .i64 x2, .int .i64 p2, .int .i64 q2, .int .i64 y2, .int .i64 g2, .int .i64 n2]), (B, [.int .i64 o, .bool b, .int .i64 m, .int .i64 r, .int .i64 x, .int .i64 p, .int .i64 q, .int .i64 y, .int .i64 g, .int .i64 n])] W0 w' ∧ Nums .i64 w' va L1 ∧ Nums .i64 w' vb L2) (by kernel_rfl) (by kernel_rfl) (⟨hX.drew, hN1.drew, hN2.drew⟩) ?_
  clear hX hN1 hN2 j0 j1 j2 j3 j4 j5 j6 j7 j8 j9 i0 i1 i2 i3 i4 i5 i6 i7 i8 i9
  repeat
    first
      | (refine BigFrame.wpQuiet_skip (by rfl) ?_
         simp only [Act.put, List.setIfInBounds_toArray, List.set_cons_zero, List.set_cons_succ])
      | (refine BigFrame.wpQuiet_want (by rfl) (fun K hK => ?_)
         apply Exists.intro
         refine ⟨fun wq hq => ?_, hK _ ?_⟩
         · have j0 := hq.1.c 0 0 rfl rfl; have j1 := hq.1.c 0 1 rfl rfl; have j2 := hq.1.c 0 2 rfl rfl; have j3 := hq.1.c 0 3 rfl rfl; have j4 := hq.1.c 0 4 rfl rfl; have j5 := hq.1.c 0 5 rfl rfl; have j6 := hq.1.c 0 6 rfl rfl; have j7 := hq.1.c 0 7 rfl rfl; have j8 := hq.1.c 0 8 rfl rfl; have j9 := hq.1.c 0 9 rfl rfl; have i0 := hq.1.c 1 0 rfl rfl; have i1 := hq.1.c 1 1 rfl rfl; have i2 := hq.1.c 1 2 rfl rfl; have i3 := hq.1.c 1 3 rfl rfl; have i4 := hq.1.c 1 4 rfl rfl; have i5 := hq.1.c 1 5 rfl rfl; have i6 := hq.1.c 1 6 rfl rfl; have i7 := hq.1.c 1 7 rfl rfl; have i8 := hq.1.c 1 8 rfl rfl; have i9 := hq.1.c 1 9 rfl rfl
           unfold Oper.quietAt
           go_simp
           first
             | with_reducible rfl
             | ((go_at_call 13); with_reducible refine (hS _ hq.2.1 hq.2.2).mono ?_; exact fun e w' ⟨he, hb⟩ => ⟨he, ⟨hq.1.step hb, hq.2.1.below hb, hq.2.2.below hb⟩⟩)
             | ((go_at_call 8); with_reducible refine (hA _ hq.1.frm).mono ?_; exact fun e w' ⟨he, hb⟩ => ⟨he, ⟨hq.1.step hb, hq.2.1.below hb, hq.2.2.below hb⟩⟩)
         clear hK K
         simp only [Act.put, List.setIfInBounds_toArray, List.set_cons_zero, List.set_cons_succ])
  refine wpQuiet_nil ?_
  intro w4 hC
  obtain ⟨hX, hN1, hN2⟩ := hC
  have j0 := hX.c 0 0 rfl rfl; have j1 := hX.c 0 1 rfl rfl; have j2 := hX.c 0 2 rfl rfl; have j3 := hX.c 0 3 rfl rfl; have j4 := hX.c 0 4 rfl rfl; have j5 := hX.c 0 5 rfl rfl; have j6 := hX.c 0 6 rfl rfl; have j7 := hX.c 0 7 rfl rfl; have j8 := hX.c 0 8 rfl rfl; have j9 := hX.c 0 9 rfl rfl; have i0 := hX.c 1 0 rfl rfl; have i1 := hX.c 1 1 rfl rfl; have i2 := hX.c 1 2 rfl rfl; have i3 := hX.c 1 3 rfl rfl; have i4 := hX.c 1 4 rfl rfl; have i5 := hX.c 1 5 rfl rfl; have i6 := hX.c 1 6 rfl rfl; have i7 := hX.c 1 7 rfl rfl; have i8 := hX.c 1 8 rfl rfl; have i9 := hX.c 1 9 rfl rfl
  go_wp2_with fail
  go_ret
  exact ⟨rfl, by first | exact hX.below | exact hBB ▸ hX.below⟩

theorem un_4 (o : Int) (b : Bool) (m : Int) (r : Int) (x : Int) (p : Int) (q : Int) (y : Int) (g : Int) (n : Int) (x2 : Int) (p2 : Int) (q2 : Int) (y2 : Int) (g2 : Int) (n2 : Int) (hne : ¬ (x = x2)) (hv : vR ⟨o, b, m, r, x, p, q, y, g, n⟩ = true) (hw : vR ⟨o, b, m, r, x2, p2, q2, y2, g2, n2⟩ = true) {A : Addr} {c : Nat} (W0 : World) (W : Frm A c W0) : Calls Tryd.prog 7 #[.agg #[.int .i64 o, .bool b, .int .i64 m, .int .i64 r, .int .i64 x, .int .i64 p, .int .i64 q, .int .i64 y, .int .i64 g, .int .i64 n], .agg #[.int .i64 o, .bool b, .int .i64 m, .int .i64 r, .int .i64 x2, .int .i64 p2, .int .i64 q2, .int .i64 y2, .int .i64 g2, .int .i64 n2]] W0 fun e w' => e = .returned (.bool true) ∧ Below W0.heap.size W0 w' := by
  have hX := St.put2 W [.int .i64 o, .bool b, .int .i64 m, .int .i64 r, .int .i64 x, .int .i64 p, .int .i64 q, .int .i64 y, .int .i64 g, .int .i64 n] [.int .i64 o, .bool b, .int .i64 m, .int .i64 r, .int .i64 x2, .int .i64 p2, .int .i64 q2, .int .i64 y2, .int .i64 g2, .int .i64 n2] 28 28
  have hV1 := fun w (k : Frm A c w) => Valid_any o b m r x p q y g n w k
  have hV2 := fun w (k : Frm A c w) => Valid_any o b m r x2 p2 q2 y2 g2 n2 w k
  have hE1 := fun w (k : Frm A c w) => Encode_any o b m r x p q y g n w k
  have hE2 := fun w (k : Frm A c w) => Encode_any o b m r x2 p2 q2 y2 g2 n2 w k
  have hA := fun w (k : Frm A c w) => alive_any w k
  obtain ⟨x1, x2', _⟩ := enc_of hv
  obtain ⟨z1, z2, _⟩ := enc_of hw
  rw [hv] at hV1
  rw [hw] at hV2
  rw [x1, x2'] at hE1
  rw [z1, z2] at hE2
  have hl := enc_len ⟨o, b, m, r, x, p, q, y, g, n⟩
  rw [x1] at hl
  have hS := fun w' {va vb : Value} (h1 : Nums .i64 w' va (wdR ⟨o, b, m, r, x, p, q, y, g, n⟩)) (h2 : Nums .i64 w' vb (wdR ⟨o, b, m, r, x2, p2, q2, y2, g2, n2⟩)) => same_lists (wdR ⟨o, b, m, r, x, p, q, y, g, n⟩) (wdR ⟨o, b, m, r, x2, p2, q2, y2, g2, n2⟩) va vb hl w' h1 h2
  rw [show decide (wdR ⟨o, b, m, r, x, p, q, y, g, n⟩ = wdR ⟨o, b, m, r, x2, p2, q2, y2, g2, n2⟩) = false from decide_eq_false (fun h => by have k := (uniq hv hw).1 h; simp only [In.mk.injEq] at k; exact hne (by simp only [k]))] at hS
  generalize wdR ⟨o, b, m, r, x, p, q, y, g, n⟩ = L1 at *
  generalize wdR ⟨o, b, m, r, x2, p2, q2, y2, g2, n2⟩ = L2 at *
  clear hl x1 x2' z1 z2
  have hnb : (x == x2) = false := by simpa using hne
  have hnd : decide (x = x2) = false := decide_eq_false hne
  go_enter Tryd.func7, Tryd.ntmps7
  go_wp2_with fail
  have j0 := hX.c 0 0 rfl rfl; have j1 := hX.c 0 1 rfl rfl; have j2 := hX.c 0 2 rfl rfl; have j3 := hX.c 0 3 rfl rfl; have j4 := hX.c 0 4 rfl rfl; have j5 := hX.c 0 5 rfl rfl; have j6 := hX.c 0 6 rfl rfl; have j7 := hX.c 0 7 rfl rfl; have j8 := hX.c 0 8 rfl rfl; have j9 := hX.c 0 9 rfl rfl; have i0 := hX.c 1 0 rfl rfl; have i1 := hX.c 1 1 rfl rfl; have i2 := hX.c 1 2 rfl rfl; have i3 := hX.c 1 3 rfl rfl; have i4 := hX.c 1 4 rfl rfl; have i5 := hX.c 1 5 rfl rfl; have i6 := hX.c 1 6 rfl rfl; have i7 := hX.c 1 7 rfl rfl; have i8 := hX.c 1 8 rfl rfl; have i9 := hX.c 1 9 rfl rfl
  generalize (W0.alloc (.cells #[.int .i64 o, .bool b, .int .i64 m, .int .i64 r, .int .i64 x, .int .i64 p, .int .i64 q, .int .i64 y, .int .i64 g, .int .i64 n] 28)).alloc (.cells #[.int .i64 o, .bool b, .int .i64 m, .int .i64 r, .int .i64 x2, .int .i64 p2, .int .i64 q2, .int .i64 y2, .int .i64 g2, .int .i64 n2] 28) = w1 at *
  generalize hCC : W0.heap.size + 1 = C at hX j0 j1 j2 j3 j4 j5 j6 j7 j8 j9 i0 i1 i2 i3 i4 i5 i6 i7 i8 i9 ⊢
  generalize hBB : W0.heap.size = B at hX j0 j1 j2 j3 j4 j5 j6 j7 j8 j9 i0 i1 i2 i3 i4 i5 i6 i7 i8 i9 ⊢
  go_wp2_with (first | (go_at_call 14; with_reducible refine (hV1 _ hX.frm).mono ?_; rintro _ w' ⟨rfl, hb⟩; have hX := hX.step hb; clear hb; have j0 := hX.c 0 0 rfl rfl; have j1 := hX.c 0 1 rfl rfl; have j2 := hX.c 0 2 rfl rfl; have j3 := hX.c 0 3 rfl rfl; have j4 := hX.c 0 4 rfl rfl; have j5 := hX.c 0 5 rfl rfl; have j6 := hX.c 0 6 rfl rfl; have j7 := hX.c 0 7 rfl rfl; have j8 := hX.c 0 8 rfl rfl; have j9 := hX.c 0 9 rfl rfl; have i0 := hX.c 1 0 rfl rfl; have i1 := hX.c 1 1 rfl rfl; have i2 := hX.c 1 2 rfl rfl; have i3 := hX.c 1 3 rfl rfl; have i4 := hX.c 1 4 rfl rfl; have i5 := hX.c 1 5 rfl rfl; have i6 := hX.c 1 6 rfl rfl; have i7 := hX.c 1 7 rfl rfl; have i8 := hX.c 1 8 rfl rfl; have i9 := hX.c 1 9 rfl rfl) | (go_at_call 14; with_reducible refine (hV2 _ hX.frm).mono ?_; rintro _ w' ⟨rfl, hb⟩; have hX := hX.step hb; clear hb; have j0 := hX.c 0 0 rfl rfl; have j1 := hX.c 0 1 rfl rfl; have j2 := hX.c 0 2 rfl rfl; have j3 := hX.c 0 3 rfl rfl; have j4 := hX.c 0 4 rfl rfl; have j5 := hX.c 0 5 rfl rfl; have j6 := hX.c 0 6 rfl rfl; have j7 := hX.c 0 7 rfl rfl; have j8 := hX.c 0 8 rfl rfl; have j9 := hX.c 0 9 rfl rfl; have i0 := hX.c 1 0 rfl rfl; have i1 := hX.c 1 1 rfl rfl; have i2 := hX.c 1 2 rfl rfl; have i3 := hX.c 1 3 rfl rfl; have i4 := hX.c 1 4 rfl rfl; have i5 := hX.c 1 5 rfl rfl; have i6 := hX.c 1 6 rfl rfl; have i7 := hX.c 1 7 rfl rfl; have i8 := hX.c 1 8 rfl rfl; have i9 := hX.c 1 9 rfl rfl) | (go_at_call 11; with_reducible refine (hE1 _ hX.frm).mono ?_; rintro _ w' ⟨va, rfl, hN1, hb⟩; have hX := hX.step hb; clear hb; have j0 := hX.c 0 0 rfl rfl; have j1 := hX.c 0 1 rfl rfl; have j2 := hX.c 0 2 rfl rfl; have j3 := hX.c 0 3 rfl rfl; have j4 := hX.c 0 4 rfl rfl; have j5 := hX.c 0 5 rfl rfl; have j6 := hX.c 0 6 rfl rfl; have j7 := hX.c 0 7 rfl rfl; have j8 := hX.c 0 8 rfl rfl; have j9 := hX.c 0 9 rfl rfl; have i0 := hX.c 1 0 rfl rfl; have i1 := hX.c 1 1 rfl rfl; have i2 := hX.c 1 2 rfl rfl; have i3 := hX.c 1 3 rfl rfl; have i4 := hX.c 1 4 rfl rfl; have i5 := hX.c 1 5 rfl rfl; have i6 := hX.c 1 6 rfl rfl; have i7 := hX.c 1 7 rfl rfl; have i8 := hX.c 1 8 rfl rfl; have i9 := hX.c 1 9 rfl rfl) | (go_at_call 11; with_reducible refine (hE2 _ hX.frm).mono ?_; rintro _ w' ⟨vb, rfl, hN2, hb⟩; have hX := hX.step hb; have hN1 := hN1.below hb; clear hb; have j0 := hX.c 0 0 rfl rfl; have j1 := hX.c 0 1 rfl rfl; have j2 := hX.c 0 2 rfl rfl; have j3 := hX.c 0 3 rfl rfl; have j4 := hX.c 0 4 rfl rfl; have j5 := hX.c 0 5 rfl rfl; have j6 := hX.c 0 6 rfl rfl; have j7 := hX.c 0 7 rfl rfl; have j8 := hX.c 0 8 rfl rfl; have j9 := hX.c 0 9 rfl rfl; have i0 := hX.c 1 0 rfl rfl; have i1 := hX.c 1 1 rfl rfl; have i2 := hX.c 1 2 rfl rfl; have i3 := hX.c 1 3 rfl rfl; have i4 := hX.c 1 4 rfl rfl; have i5 := hX.c 1 5 rfl rfl; have i6 := hX.c 1 6 rfl rfl; have i7 := hX.c 1 7 rfl rfl; have i8 := hX.c 1 8 rfl rfl; have i9 := hX.c 1 9 rfl rfl))
  refine region_class (fun w' => St A c [(C, [.int .i64 o, .bool b, .int .i64 m, .int .i64 r, .int .i64 x2, .int .i64 p2, .int .i64 q2, .int .i64 y2, .int .i64 g2, .int .i64 n2]), (B, [.int .i64 o, .bool b, .int .i64 m, .int .i64 r, .int .i64 x, .int .i64 p, .int .i64 q, .int .i64 y, .int .i64 g, .int .i64 n])] W0 w' ∧ Nums .i64 w' va L1 ∧ Nums .i64 w' vb L2) (by kernel_rfl) (by kernel_rfl) (⟨hX.drew, hN1.drew, hN2.drew⟩) ?_
  clear hX hN1 hN2 j0 j1 j2 j3 j4 j5 j6 j7 j8 j9 i0 i1 i2 i3 i4 i5 i6 i7 i8 i9
  repeat
    first
      | (refine BigFrame.wpQuiet_skip (by rfl) ?_
         simp only [Act.put, List.setIfInBounds_toArray, List.set_cons_zero, List.set_cons_succ])
      | (refine BigFrame.wpQuiet_want (by rfl) (fun K hK => ?_)
         apply Exists.intro
         refine ⟨fun wq hq => ?_, hK _ ?_⟩
         · have j0 := hq.1.c 0 0 rfl rfl; have j1 := hq.1.c 0 1 rfl rfl; have j2 := hq.1.c 0 2 rfl rfl; have j3 := hq.1.c 0 3 rfl rfl; have j4 := hq.1.c 0 4 rfl rfl; have j5 := hq.1.c 0 5 rfl rfl; have j6 := hq.1.c 0 6 rfl rfl; have j7 := hq.1.c 0 7 rfl rfl; have j8 := hq.1.c 0 8 rfl rfl; have j9 := hq.1.c 0 9 rfl rfl; have i0 := hq.1.c 1 0 rfl rfl; have i1 := hq.1.c 1 1 rfl rfl; have i2 := hq.1.c 1 2 rfl rfl; have i3 := hq.1.c 1 3 rfl rfl; have i4 := hq.1.c 1 4 rfl rfl; have i5 := hq.1.c 1 5 rfl rfl; have i6 := hq.1.c 1 6 rfl rfl; have i7 := hq.1.c 1 7 rfl rfl; have i8 := hq.1.c 1 8 rfl rfl; have i9 := hq.1.c 1 9 rfl rfl
           unfold Oper.quietAt
           go_simp
           first
             | with_reducible rfl
             | ((go_at_call 13); with_reducible refine (hS _ hq.2.1 hq.2.2).mono ?_; exact fun e w' ⟨he, hb⟩ => ⟨he, ⟨hq.1.step hb, hq.2.1.below hb, hq.2.2.below hb⟩⟩)
             | ((go_at_call 8); with_reducible refine (hA _ hq.1.frm).mono ?_; exact fun e w' ⟨he, hb⟩ => ⟨he, ⟨hq.1.step hb, hq.2.1.below hb, hq.2.2.below hb⟩⟩)
         clear hK K
         simp only [Act.put, List.setIfInBounds_toArray, List.set_cons_zero, List.set_cons_succ])
  refine wpQuiet_nil ?_
  intro w4 hC
  obtain ⟨hX, hN1, hN2⟩ := hC
  have j0 := hX.c 0 0 rfl rfl; have j1 := hX.c 0 1 rfl rfl; have j2 := hX.c 0 2 rfl rfl; have j3 := hX.c 0 3 rfl rfl; have j4 := hX.c 0 4 rfl rfl; have j5 := hX.c 0 5 rfl rfl; have j6 := hX.c 0 6 rfl rfl; have j7 := hX.c 0 7 rfl rfl; have j8 := hX.c 0 8 rfl rfl; have j9 := hX.c 0 9 rfl rfl; have i0 := hX.c 1 0 rfl rfl; have i1 := hX.c 1 1 rfl rfl; have i2 := hX.c 1 2 rfl rfl; have i3 := hX.c 1 3 rfl rfl; have i4 := hX.c 1 4 rfl rfl; have i5 := hX.c 1 5 rfl rfl; have i6 := hX.c 1 6 rfl rfl; have i7 := hX.c 1 7 rfl rfl; have i8 := hX.c 1 8 rfl rfl; have i9 := hX.c 1 9 rfl rfl
  go_wp2_with fail
  go_ret
  exact ⟨rfl, by first | exact hX.below | exact hBB ▸ hX.below⟩

theorem un_5 (o : Int) (b : Bool) (m : Int) (r : Int) (x : Int) (p : Int) (q : Int) (y : Int) (g : Int) (n : Int) (p2 : Int) (q2 : Int) (y2 : Int) (g2 : Int) (n2 : Int) (hne : ¬ (p = p2)) (hv : vR ⟨o, b, m, r, x, p, q, y, g, n⟩ = true) (hw : vR ⟨o, b, m, r, x, p2, q2, y2, g2, n2⟩ = true) {A : Addr} {c : Nat} (W0 : World) (W : Frm A c W0) : Calls Tryd.prog 7 #[.agg #[.int .i64 o, .bool b, .int .i64 m, .int .i64 r, .int .i64 x, .int .i64 p, .int .i64 q, .int .i64 y, .int .i64 g, .int .i64 n], .agg #[.int .i64 o, .bool b, .int .i64 m, .int .i64 r, .int .i64 x, .int .i64 p2, .int .i64 q2, .int .i64 y2, .int .i64 g2, .int .i64 n2]] W0 fun e w' => e = .returned (.bool true) ∧ Below W0.heap.size W0 w' := by
  have hX := St.put2 W [.int .i64 o, .bool b, .int .i64 m, .int .i64 r, .int .i64 x, .int .i64 p, .int .i64 q, .int .i64 y, .int .i64 g, .int .i64 n] [.int .i64 o, .bool b, .int .i64 m, .int .i64 r, .int .i64 x, .int .i64 p2, .int .i64 q2, .int .i64 y2, .int .i64 g2, .int .i64 n2] 28 28
  have hV1 := fun w (k : Frm A c w) => Valid_any o b m r x p q y g n w k
  have hV2 := fun w (k : Frm A c w) => Valid_any o b m r x p2 q2 y2 g2 n2 w k
  have hE1 := fun w (k : Frm A c w) => Encode_any o b m r x p q y g n w k
  have hE2 := fun w (k : Frm A c w) => Encode_any o b m r x p2 q2 y2 g2 n2 w k
  have hA := fun w (k : Frm A c w) => alive_any w k
  obtain ⟨x1, x2', _⟩ := enc_of hv
  obtain ⟨z1, z2, _⟩ := enc_of hw
  rw [hv] at hV1
  rw [hw] at hV2
  rw [x1, x2'] at hE1
  rw [z1, z2] at hE2
  have hl := enc_len ⟨o, b, m, r, x, p, q, y, g, n⟩
  rw [x1] at hl
  have hS := fun w' {va vb : Value} (h1 : Nums .i64 w' va (wdR ⟨o, b, m, r, x, p, q, y, g, n⟩)) (h2 : Nums .i64 w' vb (wdR ⟨o, b, m, r, x, p2, q2, y2, g2, n2⟩)) => same_lists (wdR ⟨o, b, m, r, x, p, q, y, g, n⟩) (wdR ⟨o, b, m, r, x, p2, q2, y2, g2, n2⟩) va vb hl w' h1 h2
  rw [show decide (wdR ⟨o, b, m, r, x, p, q, y, g, n⟩ = wdR ⟨o, b, m, r, x, p2, q2, y2, g2, n2⟩) = false from decide_eq_false (fun h => by have k := (uniq hv hw).1 h; simp only [In.mk.injEq] at k; exact hne (by simp only [k]))] at hS
  generalize wdR ⟨o, b, m, r, x, p, q, y, g, n⟩ = L1 at *
  generalize wdR ⟨o, b, m, r, x, p2, q2, y2, g2, n2⟩ = L2 at *
  clear hl x1 x2' z1 z2
  have hnb : (p == p2) = false := by simpa using hne
  have hnd : decide (p = p2) = false := decide_eq_false hne
  go_enter Tryd.func7, Tryd.ntmps7
  go_wp2_with fail
  have j0 := hX.c 0 0 rfl rfl; have j1 := hX.c 0 1 rfl rfl; have j2 := hX.c 0 2 rfl rfl; have j3 := hX.c 0 3 rfl rfl; have j4 := hX.c 0 4 rfl rfl; have j5 := hX.c 0 5 rfl rfl; have j6 := hX.c 0 6 rfl rfl; have j7 := hX.c 0 7 rfl rfl; have j8 := hX.c 0 8 rfl rfl; have j9 := hX.c 0 9 rfl rfl; have i0 := hX.c 1 0 rfl rfl; have i1 := hX.c 1 1 rfl rfl; have i2 := hX.c 1 2 rfl rfl; have i3 := hX.c 1 3 rfl rfl; have i4 := hX.c 1 4 rfl rfl; have i5 := hX.c 1 5 rfl rfl; have i6 := hX.c 1 6 rfl rfl; have i7 := hX.c 1 7 rfl rfl; have i8 := hX.c 1 8 rfl rfl; have i9 := hX.c 1 9 rfl rfl
  generalize (W0.alloc (.cells #[.int .i64 o, .bool b, .int .i64 m, .int .i64 r, .int .i64 x, .int .i64 p, .int .i64 q, .int .i64 y, .int .i64 g, .int .i64 n] 28)).alloc (.cells #[.int .i64 o, .bool b, .int .i64 m, .int .i64 r, .int .i64 x, .int .i64 p2, .int .i64 q2, .int .i64 y2, .int .i64 g2, .int .i64 n2] 28) = w1 at *
  generalize hCC : W0.heap.size + 1 = C at hX j0 j1 j2 j3 j4 j5 j6 j7 j8 j9 i0 i1 i2 i3 i4 i5 i6 i7 i8 i9 ⊢
  generalize hBB : W0.heap.size = B at hX j0 j1 j2 j3 j4 j5 j6 j7 j8 j9 i0 i1 i2 i3 i4 i5 i6 i7 i8 i9 ⊢
  go_wp2_with (first | (go_at_call 14; with_reducible refine (hV1 _ hX.frm).mono ?_; rintro _ w' ⟨rfl, hb⟩; have hX := hX.step hb; clear hb; have j0 := hX.c 0 0 rfl rfl; have j1 := hX.c 0 1 rfl rfl; have j2 := hX.c 0 2 rfl rfl; have j3 := hX.c 0 3 rfl rfl; have j4 := hX.c 0 4 rfl rfl; have j5 := hX.c 0 5 rfl rfl; have j6 := hX.c 0 6 rfl rfl; have j7 := hX.c 0 7 rfl rfl; have j8 := hX.c 0 8 rfl rfl; have j9 := hX.c 0 9 rfl rfl; have i0 := hX.c 1 0 rfl rfl; have i1 := hX.c 1 1 rfl rfl; have i2 := hX.c 1 2 rfl rfl; have i3 := hX.c 1 3 rfl rfl; have i4 := hX.c 1 4 rfl rfl; have i5 := hX.c 1 5 rfl rfl; have i6 := hX.c 1 6 rfl rfl; have i7 := hX.c 1 7 rfl rfl; have i8 := hX.c 1 8 rfl rfl; have i9 := hX.c 1 9 rfl rfl) | (go_at_call 14; with_reducible refine (hV2 _ hX.frm).mono ?_; rintro _ w' ⟨rfl, hb⟩; have hX := hX.step hb; clear hb; have j0 := hX.c 0 0 rfl rfl; have j1 := hX.c 0 1 rfl rfl; have j2 := hX.c 0 2 rfl rfl; have j3 := hX.c 0 3 rfl rfl; have j4 := hX.c 0 4 rfl rfl; have j5 := hX.c 0 5 rfl rfl; have j6 := hX.c 0 6 rfl rfl; have j7 := hX.c 0 7 rfl rfl; have j8 := hX.c 0 8 rfl rfl; have j9 := hX.c 0 9 rfl rfl; have i0 := hX.c 1 0 rfl rfl; have i1 := hX.c 1 1 rfl rfl; have i2 := hX.c 1 2 rfl rfl; have i3 := hX.c 1 3 rfl rfl; have i4 := hX.c 1 4 rfl rfl; have i5 := hX.c 1 5 rfl rfl; have i6 := hX.c 1 6 rfl rfl; have i7 := hX.c 1 7 rfl rfl; have i8 := hX.c 1 8 rfl rfl; have i9 := hX.c 1 9 rfl rfl) | (go_at_call 11; with_reducible refine (hE1 _ hX.frm).mono ?_; rintro _ w' ⟨va, rfl, hN1, hb⟩; have hX := hX.step hb; clear hb; have j0 := hX.c 0 0 rfl rfl; have j1 := hX.c 0 1 rfl rfl; have j2 := hX.c 0 2 rfl rfl; have j3 := hX.c 0 3 rfl rfl; have j4 := hX.c 0 4 rfl rfl; have j5 := hX.c 0 5 rfl rfl; have j6 := hX.c 0 6 rfl rfl; have j7 := hX.c 0 7 rfl rfl; have j8 := hX.c 0 8 rfl rfl; have j9 := hX.c 0 9 rfl rfl; have i0 := hX.c 1 0 rfl rfl; have i1 := hX.c 1 1 rfl rfl; have i2 := hX.c 1 2 rfl rfl; have i3 := hX.c 1 3 rfl rfl; have i4 := hX.c 1 4 rfl rfl; have i5 := hX.c 1 5 rfl rfl; have i6 := hX.c 1 6 rfl rfl; have i7 := hX.c 1 7 rfl rfl; have i8 := hX.c 1 8 rfl rfl; have i9 := hX.c 1 9 rfl rfl) | (go_at_call 11; with_reducible refine (hE2 _ hX.frm).mono ?_; rintro _ w' ⟨vb, rfl, hN2, hb⟩; have hX := hX.step hb; have hN1 := hN1.below hb; clear hb; have j0 := hX.c 0 0 rfl rfl; have j1 := hX.c 0 1 rfl rfl; have j2 := hX.c 0 2 rfl rfl; have j3 := hX.c 0 3 rfl rfl; have j4 := hX.c 0 4 rfl rfl; have j5 := hX.c 0 5 rfl rfl; have j6 := hX.c 0 6 rfl rfl; have j7 := hX.c 0 7 rfl rfl; have j8 := hX.c 0 8 rfl rfl; have j9 := hX.c 0 9 rfl rfl; have i0 := hX.c 1 0 rfl rfl; have i1 := hX.c 1 1 rfl rfl; have i2 := hX.c 1 2 rfl rfl; have i3 := hX.c 1 3 rfl rfl; have i4 := hX.c 1 4 rfl rfl; have i5 := hX.c 1 5 rfl rfl; have i6 := hX.c 1 6 rfl rfl; have i7 := hX.c 1 7 rfl rfl; have i8 := hX.c 1 8 rfl rfl; have i9 := hX.c 1 9 rfl rfl))
  refine region_class (fun w' => St A c [(C, [.int .i64 o, .bool b, .int .i64 m, .int .i64 r, .int .i64 x, .int .i64 p2, .int .i64 q2, .int .i64 y2, .int .i64 g2, .int .i64 n2]), (B, [.int .i64 o, .bool b, .int .i64 m, .int .i64 r, .int .i64 x, .int .i64 p, .int .i64 q, .int .i64 y, .int .i64 g, .int .i64 n])] W0 w' ∧ Nums .i64 w' va L1 ∧ Nums .i64 w' vb L2) (by kernel_rfl) (by kernel_rfl) (⟨hX.drew, hN1.drew, hN2.drew⟩) ?_
  clear hX hN1 hN2 j0 j1 j2 j3 j4 j5 j6 j7 j8 j9 i0 i1 i2 i3 i4 i5 i6 i7 i8 i9
  repeat
    first
      | (refine BigFrame.wpQuiet_skip (by rfl) ?_
         simp only [Act.put, List.setIfInBounds_toArray, List.set_cons_zero, List.set_cons_succ])
      | (refine BigFrame.wpQuiet_want (by rfl) (fun K hK => ?_)
         apply Exists.intro
         refine ⟨fun wq hq => ?_, hK _ ?_⟩
         · have j0 := hq.1.c 0 0 rfl rfl; have j1 := hq.1.c 0 1 rfl rfl; have j2 := hq.1.c 0 2 rfl rfl; have j3 := hq.1.c 0 3 rfl rfl; have j4 := hq.1.c 0 4 rfl rfl; have j5 := hq.1.c 0 5 rfl rfl; have j6 := hq.1.c 0 6 rfl rfl; have j7 := hq.1.c 0 7 rfl rfl; have j8 := hq.1.c 0 8 rfl rfl; have j9 := hq.1.c 0 9 rfl rfl; have i0 := hq.1.c 1 0 rfl rfl; have i1 := hq.1.c 1 1 rfl rfl; have i2 := hq.1.c 1 2 rfl rfl; have i3 := hq.1.c 1 3 rfl rfl; have i4 := hq.1.c 1 4 rfl rfl; have i5 := hq.1.c 1 5 rfl rfl; have i6 := hq.1.c 1 6 rfl rfl; have i7 := hq.1.c 1 7 rfl rfl; have i8 := hq.1.c 1 8 rfl rfl; have i9 := hq.1.c 1 9 rfl rfl
           unfold Oper.quietAt
           go_simp
           first
             | with_reducible rfl
             | ((go_at_call 13); with_reducible refine (hS _ hq.2.1 hq.2.2).mono ?_; exact fun e w' ⟨he, hb⟩ => ⟨he, ⟨hq.1.step hb, hq.2.1.below hb, hq.2.2.below hb⟩⟩)
             | ((go_at_call 8); with_reducible refine (hA _ hq.1.frm).mono ?_; exact fun e w' ⟨he, hb⟩ => ⟨he, ⟨hq.1.step hb, hq.2.1.below hb, hq.2.2.below hb⟩⟩)
         clear hK K
         simp only [Act.put, List.setIfInBounds_toArray, List.set_cons_zero, List.set_cons_succ])
  refine wpQuiet_nil ?_
  intro w4 hC
  obtain ⟨hX, hN1, hN2⟩ := hC
  have j0 := hX.c 0 0 rfl rfl; have j1 := hX.c 0 1 rfl rfl; have j2 := hX.c 0 2 rfl rfl; have j3 := hX.c 0 3 rfl rfl; have j4 := hX.c 0 4 rfl rfl; have j5 := hX.c 0 5 rfl rfl; have j6 := hX.c 0 6 rfl rfl; have j7 := hX.c 0 7 rfl rfl; have j8 := hX.c 0 8 rfl rfl; have j9 := hX.c 0 9 rfl rfl; have i0 := hX.c 1 0 rfl rfl; have i1 := hX.c 1 1 rfl rfl; have i2 := hX.c 1 2 rfl rfl; have i3 := hX.c 1 3 rfl rfl; have i4 := hX.c 1 4 rfl rfl; have i5 := hX.c 1 5 rfl rfl; have i6 := hX.c 1 6 rfl rfl; have i7 := hX.c 1 7 rfl rfl; have i8 := hX.c 1 8 rfl rfl; have i9 := hX.c 1 9 rfl rfl
  go_wp2_with fail
  go_ret
  exact ⟨rfl, by first | exact hX.below | exact hBB ▸ hX.below⟩

theorem un_6 (o : Int) (b : Bool) (m : Int) (r : Int) (x : Int) (p : Int) (q : Int) (y : Int) (g : Int) (n : Int) (q2 : Int) (y2 : Int) (g2 : Int) (n2 : Int) (hne : ¬ (q = q2)) (hv : vR ⟨o, b, m, r, x, p, q, y, g, n⟩ = true) (hw : vR ⟨o, b, m, r, x, p, q2, y2, g2, n2⟩ = true) {A : Addr} {c : Nat} (W0 : World) (W : Frm A c W0) : Calls Tryd.prog 7 #[.agg #[.int .i64 o, .bool b, .int .i64 m, .int .i64 r, .int .i64 x, .int .i64 p, .int .i64 q, .int .i64 y, .int .i64 g, .int .i64 n], .agg #[.int .i64 o, .bool b, .int .i64 m, .int .i64 r, .int .i64 x, .int .i64 p, .int .i64 q2, .int .i64 y2, .int .i64 g2, .int .i64 n2]] W0 fun e w' => e = .returned (.bool true) ∧ Below W0.heap.size W0 w' := by
  have hX := St.put2 W [.int .i64 o, .bool b, .int .i64 m, .int .i64 r, .int .i64 x, .int .i64 p, .int .i64 q, .int .i64 y, .int .i64 g, .int .i64 n] [.int .i64 o, .bool b, .int .i64 m, .int .i64 r, .int .i64 x, .int .i64 p, .int .i64 q2, .int .i64 y2, .int .i64 g2, .int .i64 n2] 28 28
  have hV1 := fun w (k : Frm A c w) => Valid_any o b m r x p q y g n w k
  have hV2 := fun w (k : Frm A c w) => Valid_any o b m r x p q2 y2 g2 n2 w k
  have hE1 := fun w (k : Frm A c w) => Encode_any o b m r x p q y g n w k
  have hE2 := fun w (k : Frm A c w) => Encode_any o b m r x p q2 y2 g2 n2 w k
  have hA := fun w (k : Frm A c w) => alive_any w k
  obtain ⟨x1, x2', _⟩ := enc_of hv
  obtain ⟨z1, z2, _⟩ := enc_of hw
  rw [hv] at hV1
  rw [hw] at hV2
  rw [x1, x2'] at hE1
  rw [z1, z2] at hE2
  have hl := enc_len ⟨o, b, m, r, x, p, q, y, g, n⟩
  rw [x1] at hl
  have hS := fun w' {va vb : Value} (h1 : Nums .i64 w' va (wdR ⟨o, b, m, r, x, p, q, y, g, n⟩)) (h2 : Nums .i64 w' vb (wdR ⟨o, b, m, r, x, p, q2, y2, g2, n2⟩)) => same_lists (wdR ⟨o, b, m, r, x, p, q, y, g, n⟩) (wdR ⟨o, b, m, r, x, p, q2, y2, g2, n2⟩) va vb hl w' h1 h2
  rw [show decide (wdR ⟨o, b, m, r, x, p, q, y, g, n⟩ = wdR ⟨o, b, m, r, x, p, q2, y2, g2, n2⟩) = false from decide_eq_false (fun h => by have k := (uniq hv hw).1 h; simp only [In.mk.injEq] at k; exact hne (by simp only [k]))] at hS
  generalize wdR ⟨o, b, m, r, x, p, q, y, g, n⟩ = L1 at *
  generalize wdR ⟨o, b, m, r, x, p, q2, y2, g2, n2⟩ = L2 at *
  clear hl x1 x2' z1 z2
  have hnb : (q == q2) = false := by simpa using hne
  have hnd : decide (q = q2) = false := decide_eq_false hne
  go_enter Tryd.func7, Tryd.ntmps7
  go_wp2_with fail
  have j0 := hX.c 0 0 rfl rfl; have j1 := hX.c 0 1 rfl rfl; have j2 := hX.c 0 2 rfl rfl; have j3 := hX.c 0 3 rfl rfl; have j4 := hX.c 0 4 rfl rfl; have j5 := hX.c 0 5 rfl rfl; have j6 := hX.c 0 6 rfl rfl; have j7 := hX.c 0 7 rfl rfl; have j8 := hX.c 0 8 rfl rfl; have j9 := hX.c 0 9 rfl rfl; have i0 := hX.c 1 0 rfl rfl; have i1 := hX.c 1 1 rfl rfl; have i2 := hX.c 1 2 rfl rfl; have i3 := hX.c 1 3 rfl rfl; have i4 := hX.c 1 4 rfl rfl; have i5 := hX.c 1 5 rfl rfl; have i6 := hX.c 1 6 rfl rfl; have i7 := hX.c 1 7 rfl rfl; have i8 := hX.c 1 8 rfl rfl; have i9 := hX.c 1 9 rfl rfl
  generalize (W0.alloc (.cells #[.int .i64 o, .bool b, .int .i64 m, .int .i64 r, .int .i64 x, .int .i64 p, .int .i64 q, .int .i64 y, .int .i64 g, .int .i64 n] 28)).alloc (.cells #[.int .i64 o, .bool b, .int .i64 m, .int .i64 r, .int .i64 x, .int .i64 p, .int .i64 q2, .int .i64 y2, .int .i64 g2, .int .i64 n2] 28) = w1 at *
  generalize hCC : W0.heap.size + 1 = C at hX j0 j1 j2 j3 j4 j5 j6 j7 j8 j9 i0 i1 i2 i3 i4 i5 i6 i7 i8 i9 ⊢
  generalize hBB : W0.heap.size = B at hX j0 j1 j2 j3 j4 j5 j6 j7 j8 j9 i0 i1 i2 i3 i4 i5 i6 i7 i8 i9 ⊢
  go_wp2_with (first | (go_at_call 14; with_reducible refine (hV1 _ hX.frm).mono ?_; rintro _ w' ⟨rfl, hb⟩; have hX := hX.step hb; clear hb; have j0 := hX.c 0 0 rfl rfl; have j1 := hX.c 0 1 rfl rfl; have j2 := hX.c 0 2 rfl rfl; have j3 := hX.c 0 3 rfl rfl; have j4 := hX.c 0 4 rfl rfl; have j5 := hX.c 0 5 rfl rfl; have j6 := hX.c 0 6 rfl rfl; have j7 := hX.c 0 7 rfl rfl; have j8 := hX.c 0 8 rfl rfl; have j9 := hX.c 0 9 rfl rfl; have i0 := hX.c 1 0 rfl rfl; have i1 := hX.c 1 1 rfl rfl; have i2 := hX.c 1 2 rfl rfl; have i3 := hX.c 1 3 rfl rfl; have i4 := hX.c 1 4 rfl rfl; have i5 := hX.c 1 5 rfl rfl; have i6 := hX.c 1 6 rfl rfl; have i7 := hX.c 1 7 rfl rfl; have i8 := hX.c 1 8 rfl rfl; have i9 := hX.c 1 9 rfl rfl) | (go_at_call 14; with_reducible refine (hV2 _ hX.frm).mono ?_; rintro _ w' ⟨rfl, hb⟩; have hX := hX.step hb; clear hb; have j0 := hX.c 0 0 rfl rfl; have j1 := hX.c 0 1 rfl rfl; have j2 := hX.c 0 2 rfl rfl; have j3 := hX.c 0 3 rfl rfl; have j4 := hX.c 0 4 rfl rfl; have j5 := hX.c 0 5 rfl rfl; have j6 := hX.c 0 6 rfl rfl; have j7 := hX.c 0 7 rfl rfl; have j8 := hX.c 0 8 rfl rfl; have j9 := hX.c 0 9 rfl rfl; have i0 := hX.c 1 0 rfl rfl; have i1 := hX.c 1 1 rfl rfl; have i2 := hX.c 1 2 rfl rfl; have i3 := hX.c 1 3 rfl rfl; have i4 := hX.c 1 4 rfl rfl; have i5 := hX.c 1 5 rfl rfl; have i6 := hX.c 1 6 rfl rfl; have i7 := hX.c 1 7 rfl rfl; have i8 := hX.c 1 8 rfl rfl; have i9 := hX.c 1 9 rfl rfl) | (go_at_call 11; with_reducible refine (hE1 _ hX.frm).mono ?_; rintro _ w' ⟨va, rfl, hN1, hb⟩; have hX := hX.step hb; clear hb; have j0 := hX.c 0 0 rfl rfl; have j1 := hX.c 0 1 rfl rfl; have j2 := hX.c 0 2 rfl rfl; have j3 := hX.c 0 3 rfl rfl; have j4 := hX.c 0 4 rfl rfl; have j5 := hX.c 0 5 rfl rfl; have j6 := hX.c 0 6 rfl rfl; have j7 := hX.c 0 7 rfl rfl; have j8 := hX.c 0 8 rfl rfl; have j9 := hX.c 0 9 rfl rfl; have i0 := hX.c 1 0 rfl rfl; have i1 := hX.c 1 1 rfl rfl; have i2 := hX.c 1 2 rfl rfl; have i3 := hX.c 1 3 rfl rfl; have i4 := hX.c 1 4 rfl rfl; have i5 := hX.c 1 5 rfl rfl; have i6 := hX.c 1 6 rfl rfl; have i7 := hX.c 1 7 rfl rfl; have i8 := hX.c 1 8 rfl rfl; have i9 := hX.c 1 9 rfl rfl) | (go_at_call 11; with_reducible refine (hE2 _ hX.frm).mono ?_; rintro _ w' ⟨vb, rfl, hN2, hb⟩; have hX := hX.step hb; have hN1 := hN1.below hb; clear hb; have j0 := hX.c 0 0 rfl rfl; have j1 := hX.c 0 1 rfl rfl; have j2 := hX.c 0 2 rfl rfl; have j3 := hX.c 0 3 rfl rfl; have j4 := hX.c 0 4 rfl rfl; have j5 := hX.c 0 5 rfl rfl; have j6 := hX.c 0 6 rfl rfl; have j7 := hX.c 0 7 rfl rfl; have j8 := hX.c 0 8 rfl rfl; have j9 := hX.c 0 9 rfl rfl; have i0 := hX.c 1 0 rfl rfl; have i1 := hX.c 1 1 rfl rfl; have i2 := hX.c 1 2 rfl rfl; have i3 := hX.c 1 3 rfl rfl; have i4 := hX.c 1 4 rfl rfl; have i5 := hX.c 1 5 rfl rfl; have i6 := hX.c 1 6 rfl rfl; have i7 := hX.c 1 7 rfl rfl; have i8 := hX.c 1 8 rfl rfl; have i9 := hX.c 1 9 rfl rfl))
  refine region_class (fun w' => St A c [(C, [.int .i64 o, .bool b, .int .i64 m, .int .i64 r, .int .i64 x, .int .i64 p, .int .i64 q2, .int .i64 y2, .int .i64 g2, .int .i64 n2]), (B, [.int .i64 o, .bool b, .int .i64 m, .int .i64 r, .int .i64 x, .int .i64 p, .int .i64 q, .int .i64 y, .int .i64 g, .int .i64 n])] W0 w' ∧ Nums .i64 w' va L1 ∧ Nums .i64 w' vb L2) (by kernel_rfl) (by kernel_rfl) (⟨hX.drew, hN1.drew, hN2.drew⟩) ?_
  clear hX hN1 hN2 j0 j1 j2 j3 j4 j5 j6 j7 j8 j9 i0 i1 i2 i3 i4 i5 i6 i7 i8 i9
  repeat
    first
      | (refine BigFrame.wpQuiet_skip (by rfl) ?_
         simp only [Act.put, List.setIfInBounds_toArray, List.set_cons_zero, List.set_cons_succ])
      | (refine BigFrame.wpQuiet_want (by rfl) (fun K hK => ?_)
         apply Exists.intro
         refine ⟨fun wq hq => ?_, hK _ ?_⟩
         · have j0 := hq.1.c 0 0 rfl rfl; have j1 := hq.1.c 0 1 rfl rfl; have j2 := hq.1.c 0 2 rfl rfl; have j3 := hq.1.c 0 3 rfl rfl; have j4 := hq.1.c 0 4 rfl rfl; have j5 := hq.1.c 0 5 rfl rfl; have j6 := hq.1.c 0 6 rfl rfl; have j7 := hq.1.c 0 7 rfl rfl; have j8 := hq.1.c 0 8 rfl rfl; have j9 := hq.1.c 0 9 rfl rfl; have i0 := hq.1.c 1 0 rfl rfl; have i1 := hq.1.c 1 1 rfl rfl; have i2 := hq.1.c 1 2 rfl rfl; have i3 := hq.1.c 1 3 rfl rfl; have i4 := hq.1.c 1 4 rfl rfl; have i5 := hq.1.c 1 5 rfl rfl; have i6 := hq.1.c 1 6 rfl rfl; have i7 := hq.1.c 1 7 rfl rfl; have i8 := hq.1.c 1 8 rfl rfl; have i9 := hq.1.c 1 9 rfl rfl
           unfold Oper.quietAt
           go_simp
           first
             | with_reducible rfl
             | ((go_at_call 13); with_reducible refine (hS _ hq.2.1 hq.2.2).mono ?_; exact fun e w' ⟨he, hb⟩ => ⟨he, ⟨hq.1.step hb, hq.2.1.below hb, hq.2.2.below hb⟩⟩)
             | ((go_at_call 8); with_reducible refine (hA _ hq.1.frm).mono ?_; exact fun e w' ⟨he, hb⟩ => ⟨he, ⟨hq.1.step hb, hq.2.1.below hb, hq.2.2.below hb⟩⟩)
         clear hK K
         simp only [Act.put, List.setIfInBounds_toArray, List.set_cons_zero, List.set_cons_succ])
  refine wpQuiet_nil ?_
  intro w4 hC
  obtain ⟨hX, hN1, hN2⟩ := hC
  have j0 := hX.c 0 0 rfl rfl; have j1 := hX.c 0 1 rfl rfl; have j2 := hX.c 0 2 rfl rfl; have j3 := hX.c 0 3 rfl rfl; have j4 := hX.c 0 4 rfl rfl; have j5 := hX.c 0 5 rfl rfl; have j6 := hX.c 0 6 rfl rfl; have j7 := hX.c 0 7 rfl rfl; have j8 := hX.c 0 8 rfl rfl; have j9 := hX.c 0 9 rfl rfl; have i0 := hX.c 1 0 rfl rfl; have i1 := hX.c 1 1 rfl rfl; have i2 := hX.c 1 2 rfl rfl; have i3 := hX.c 1 3 rfl rfl; have i4 := hX.c 1 4 rfl rfl; have i5 := hX.c 1 5 rfl rfl; have i6 := hX.c 1 6 rfl rfl; have i7 := hX.c 1 7 rfl rfl; have i8 := hX.c 1 8 rfl rfl; have i9 := hX.c 1 9 rfl rfl
  go_wp2_with fail
  go_ret
  exact ⟨rfl, by first | exact hX.below | exact hBB ▸ hX.below⟩

theorem un_7 (o : Int) (b : Bool) (m : Int) (r : Int) (x : Int) (p : Int) (q : Int) (y : Int) (g : Int) (n : Int) (y2 : Int) (g2 : Int) (n2 : Int) (hne : ¬ (y = y2)) (hv : vR ⟨o, b, m, r, x, p, q, y, g, n⟩ = true) (hw : vR ⟨o, b, m, r, x, p, q, y2, g2, n2⟩ = true) {A : Addr} {c : Nat} (W0 : World) (W : Frm A c W0) : Calls Tryd.prog 7 #[.agg #[.int .i64 o, .bool b, .int .i64 m, .int .i64 r, .int .i64 x, .int .i64 p, .int .i64 q, .int .i64 y, .int .i64 g, .int .i64 n], .agg #[.int .i64 o, .bool b, .int .i64 m, .int .i64 r, .int .i64 x, .int .i64 p, .int .i64 q, .int .i64 y2, .int .i64 g2, .int .i64 n2]] W0 fun e w' => e = .returned (.bool true) ∧ Below W0.heap.size W0 w' := by
  have hX := St.put2 W [.int .i64 o, .bool b, .int .i64 m, .int .i64 r, .int .i64 x, .int .i64 p, .int .i64 q, .int .i64 y, .int .i64 g, .int .i64 n] [.int .i64 o, .bool b, .int .i64 m, .int .i64 r, .int .i64 x, .int .i64 p, .int .i64 q, .int .i64 y2, .int .i64 g2, .int .i64 n2] 28 28
  have hV1 := fun w (k : Frm A c w) => Valid_any o b m r x p q y g n w k
  have hV2 := fun w (k : Frm A c w) => Valid_any o b m r x p q y2 g2 n2 w k
  have hE1 := fun w (k : Frm A c w) => Encode_any o b m r x p q y g n w k
  have hE2 := fun w (k : Frm A c w) => Encode_any o b m r x p q y2 g2 n2 w k
  have hA := fun w (k : Frm A c w) => alive_any w k
  obtain ⟨x1, x2', _⟩ := enc_of hv
  obtain ⟨z1, z2, _⟩ := enc_of hw
  rw [hv] at hV1
  rw [hw] at hV2
  rw [x1, x2'] at hE1
  rw [z1, z2] at hE2
  have hl := enc_len ⟨o, b, m, r, x, p, q, y, g, n⟩
  rw [x1] at hl
  have hS := fun w' {va vb : Value} (h1 : Nums .i64 w' va (wdR ⟨o, b, m, r, x, p, q, y, g, n⟩)) (h2 : Nums .i64 w' vb (wdR ⟨o, b, m, r, x, p, q, y2, g2, n2⟩)) => same_lists (wdR ⟨o, b, m, r, x, p, q, y, g, n⟩) (wdR ⟨o, b, m, r, x, p, q, y2, g2, n2⟩) va vb hl w' h1 h2
  rw [show decide (wdR ⟨o, b, m, r, x, p, q, y, g, n⟩ = wdR ⟨o, b, m, r, x, p, q, y2, g2, n2⟩) = false from decide_eq_false (fun h => by have k := (uniq hv hw).1 h; simp only [In.mk.injEq] at k; exact hne (by simp only [k]))] at hS
  generalize wdR ⟨o, b, m, r, x, p, q, y, g, n⟩ = L1 at *
  generalize wdR ⟨o, b, m, r, x, p, q, y2, g2, n2⟩ = L2 at *
  clear hl x1 x2' z1 z2
  have hnb : (y == y2) = false := by simpa using hne
  have hnd : decide (y = y2) = false := decide_eq_false hne
  go_enter Tryd.func7, Tryd.ntmps7
  go_wp2_with fail
  have j0 := hX.c 0 0 rfl rfl; have j1 := hX.c 0 1 rfl rfl; have j2 := hX.c 0 2 rfl rfl; have j3 := hX.c 0 3 rfl rfl; have j4 := hX.c 0 4 rfl rfl; have j5 := hX.c 0 5 rfl rfl; have j6 := hX.c 0 6 rfl rfl; have j7 := hX.c 0 7 rfl rfl; have j8 := hX.c 0 8 rfl rfl; have j9 := hX.c 0 9 rfl rfl; have i0 := hX.c 1 0 rfl rfl; have i1 := hX.c 1 1 rfl rfl; have i2 := hX.c 1 2 rfl rfl; have i3 := hX.c 1 3 rfl rfl; have i4 := hX.c 1 4 rfl rfl; have i5 := hX.c 1 5 rfl rfl; have i6 := hX.c 1 6 rfl rfl; have i7 := hX.c 1 7 rfl rfl; have i8 := hX.c 1 8 rfl rfl; have i9 := hX.c 1 9 rfl rfl
  generalize (W0.alloc (.cells #[.int .i64 o, .bool b, .int .i64 m, .int .i64 r, .int .i64 x, .int .i64 p, .int .i64 q, .int .i64 y, .int .i64 g, .int .i64 n] 28)).alloc (.cells #[.int .i64 o, .bool b, .int .i64 m, .int .i64 r, .int .i64 x, .int .i64 p, .int .i64 q, .int .i64 y2, .int .i64 g2, .int .i64 n2] 28) = w1 at *
  generalize hCC : W0.heap.size + 1 = C at hX j0 j1 j2 j3 j4 j5 j6 j7 j8 j9 i0 i1 i2 i3 i4 i5 i6 i7 i8 i9 ⊢
  generalize hBB : W0.heap.size = B at hX j0 j1 j2 j3 j4 j5 j6 j7 j8 j9 i0 i1 i2 i3 i4 i5 i6 i7 i8 i9 ⊢
  go_wp2_with (first | (go_at_call 14; with_reducible refine (hV1 _ hX.frm).mono ?_; rintro _ w' ⟨rfl, hb⟩; have hX := hX.step hb; clear hb; have j0 := hX.c 0 0 rfl rfl; have j1 := hX.c 0 1 rfl rfl; have j2 := hX.c 0 2 rfl rfl; have j3 := hX.c 0 3 rfl rfl; have j4 := hX.c 0 4 rfl rfl; have j5 := hX.c 0 5 rfl rfl; have j6 := hX.c 0 6 rfl rfl; have j7 := hX.c 0 7 rfl rfl; have j8 := hX.c 0 8 rfl rfl; have j9 := hX.c 0 9 rfl rfl; have i0 := hX.c 1 0 rfl rfl; have i1 := hX.c 1 1 rfl rfl; have i2 := hX.c 1 2 rfl rfl; have i3 := hX.c 1 3 rfl rfl; have i4 := hX.c 1 4 rfl rfl; have i5 := hX.c 1 5 rfl rfl; have i6 := hX.c 1 6 rfl rfl; have i7 := hX.c 1 7 rfl rfl; have i8 := hX.c 1 8 rfl rfl; have i9 := hX.c 1 9 rfl rfl) | (go_at_call 14; with_reducible refine (hV2 _ hX.frm).mono ?_; rintro _ w' ⟨rfl, hb⟩; have hX := hX.step hb; clear hb; have j0 := hX.c 0 0 rfl rfl; have j1 := hX.c 0 1 rfl rfl; have j2 := hX.c 0 2 rfl rfl; have j3 := hX.c 0 3 rfl rfl; have j4 := hX.c 0 4 rfl rfl; have j5 := hX.c 0 5 rfl rfl; have j6 := hX.c 0 6 rfl rfl; have j7 := hX.c 0 7 rfl rfl; have j8 := hX.c 0 8 rfl rfl; have j9 := hX.c 0 9 rfl rfl; have i0 := hX.c 1 0 rfl rfl; have i1 := hX.c 1 1 rfl rfl; have i2 := hX.c 1 2 rfl rfl; have i3 := hX.c 1 3 rfl rfl; have i4 := hX.c 1 4 rfl rfl; have i5 := hX.c 1 5 rfl rfl; have i6 := hX.c 1 6 rfl rfl; have i7 := hX.c 1 7 rfl rfl; have i8 := hX.c 1 8 rfl rfl; have i9 := hX.c 1 9 rfl rfl) | (go_at_call 11; with_reducible refine (hE1 _ hX.frm).mono ?_; rintro _ w' ⟨va, rfl, hN1, hb⟩; have hX := hX.step hb; clear hb; have j0 := hX.c 0 0 rfl rfl; have j1 := hX.c 0 1 rfl rfl; have j2 := hX.c 0 2 rfl rfl; have j3 := hX.c 0 3 rfl rfl; have j4 := hX.c 0 4 rfl rfl; have j5 := hX.c 0 5 rfl rfl; have j6 := hX.c 0 6 rfl rfl; have j7 := hX.c 0 7 rfl rfl; have j8 := hX.c 0 8 rfl rfl; have j9 := hX.c 0 9 rfl rfl; have i0 := hX.c 1 0 rfl rfl; have i1 := hX.c 1 1 rfl rfl; have i2 := hX.c 1 2 rfl rfl; have i3 := hX.c 1 3 rfl rfl; have i4 := hX.c 1 4 rfl rfl; have i5 := hX.c 1 5 rfl rfl; have i6 := hX.c 1 6 rfl rfl; have i7 := hX.c 1 7 rfl rfl; have i8 := hX.c 1 8 rfl rfl; have i9 := hX.c 1 9 rfl rfl) | (go_at_call 11; with_reducible refine (hE2 _ hX.frm).mono ?_; rintro _ w' ⟨vb, rfl, hN2, hb⟩; have hX := hX.step hb; have hN1 := hN1.below hb; clear hb; have j0 := hX.c 0 0 rfl rfl; have j1 := hX.c 0 1 rfl rfl; have j2 := hX.c 0 2 rfl rfl; have j3 := hX.c 0 3 rfl rfl; have j4 := hX.c 0 4 rfl rfl; have j5 := hX.c 0 5 rfl rfl; have j6 := hX.c 0 6 rfl rfl; have j7 := hX.c 0 7 rfl rfl; have j8 := hX.c 0 8 rfl rfl; have j9 := hX.c 0 9 rfl rfl; have i0 := hX.c 1 0 rfl rfl; have i1 := hX.c 1 1 rfl rfl; have i2 := hX.c 1 2 rfl rfl; have i3 := hX.c 1 3 rfl rfl; have i4 := hX.c 1 4 rfl rfl; have i5 := hX.c 1 5 rfl rfl; have i6 := hX.c 1 6 rfl rfl; have i7 := hX.c 1 7 rfl rfl; have i8 := hX.c 1 8 rfl rfl; have i9 := hX.c 1 9 rfl rfl))
  refine region_class (fun w' => St A c [(C, [.int .i64 o, .bool b, .int .i64 m, .int .i64 r, .int .i64 x, .int .i64 p, .int .i64 q, .int .i64 y2, .int .i64 g2, .int .i64 n2]), (B, [.int .i64 o, .bool b, .int .i64 m, .int .i64 r, .int .i64 x, .int .i64 p, .int .i64 q, .int .i64 y, .int .i64 g, .int .i64 n])] W0 w' ∧ Nums .i64 w' va L1 ∧ Nums .i64 w' vb L2) (by kernel_rfl) (by kernel_rfl) (⟨hX.drew, hN1.drew, hN2.drew⟩) ?_
  clear hX hN1 hN2 j0 j1 j2 j3 j4 j5 j6 j7 j8 j9 i0 i1 i2 i3 i4 i5 i6 i7 i8 i9
  repeat
    first
      | (refine BigFrame.wpQuiet_skip (by rfl) ?_
         simp only [Act.put, List.setIfInBounds_toArray, List.set_cons_zero, List.set_cons_succ])
      | (refine BigFrame.wpQuiet_want (by rfl) (fun K hK => ?_)
         apply Exists.intro
         refine ⟨fun wq hq => ?_, hK _ ?_⟩
         · have j0 := hq.1.c 0 0 rfl rfl; have j1 := hq.1.c 0 1 rfl rfl; have j2 := hq.1.c 0 2 rfl rfl; have j3 := hq.1.c 0 3 rfl rfl; have j4 := hq.1.c 0 4 rfl rfl; have j5 := hq.1.c 0 5 rfl rfl; have j6 := hq.1.c 0 6 rfl rfl; have j7 := hq.1.c 0 7 rfl rfl; have j8 := hq.1.c 0 8 rfl rfl; have j9 := hq.1.c 0 9 rfl rfl; have i0 := hq.1.c 1 0 rfl rfl; have i1 := hq.1.c 1 1 rfl rfl; have i2 := hq.1.c 1 2 rfl rfl; have i3 := hq.1.c 1 3 rfl rfl; have i4 := hq.1.c 1 4 rfl rfl; have i5 := hq.1.c 1 5 rfl rfl; have i6 := hq.1.c 1 6 rfl rfl; have i7 := hq.1.c 1 7 rfl rfl; have i8 := hq.1.c 1 8 rfl rfl; have i9 := hq.1.c 1 9 rfl rfl
           unfold Oper.quietAt
           go_simp
           first
             | with_reducible rfl
             | ((go_at_call 13); with_reducible refine (hS _ hq.2.1 hq.2.2).mono ?_; exact fun e w' ⟨he, hb⟩ => ⟨he, ⟨hq.1.step hb, hq.2.1.below hb, hq.2.2.below hb⟩⟩)
             | ((go_at_call 8); with_reducible refine (hA _ hq.1.frm).mono ?_; exact fun e w' ⟨he, hb⟩ => ⟨he, ⟨hq.1.step hb, hq.2.1.below hb, hq.2.2.below hb⟩⟩)
         clear hK K
         simp only [Act.put, List.setIfInBounds_toArray, List.set_cons_zero, List.set_cons_succ])
  refine wpQuiet_nil ?_
  intro w4 hC
  obtain ⟨hX, hN1, hN2⟩ := hC
  have j0 := hX.c 0 0 rfl rfl; have j1 := hX.c 0 1 rfl rfl; have j2 := hX.c 0 2 rfl rfl; have j3 := hX.c 0 3 rfl rfl; have j4 := hX.c 0 4 rfl rfl; have j5 := hX.c 0 5 rfl rfl; have j6 := hX.c 0 6 rfl rfl; have j7 := hX.c 0 7 rfl rfl; have j8 := hX.c 0 8 rfl rfl; have j9 := hX.c 0 9 rfl rfl; have i0 := hX.c 1 0 rfl rfl; have i1 := hX.c 1 1 rfl rfl; have i2 := hX.c 1 2 rfl rfl; have i3 := hX.c 1 3 rfl rfl; have i4 := hX.c 1 4 rfl rfl; have i5 := hX.c 1 5 rfl rfl; have i6 := hX.c 1 6 rfl rfl; have i7 := hX.c 1 7 rfl rfl; have i8 := hX.c 1 8 rfl rfl; have i9 := hX.c 1 9 rfl rfl
  go_wp2_with fail
  go_ret
  exact ⟨rfl, by first | exact hX.below | exact hBB ▸ hX.below⟩

theorem un_8 (o : Int) (b : Bool) (m : Int) (r : Int) (x : Int) (p : Int) (q : Int) (y : Int) (g : Int) (n : Int) (g2 : Int) (n2 : Int) (hne : ¬ (g = g2)) (hv : vR ⟨o, b, m, r, x, p, q, y, g, n⟩ = true) (hw : vR ⟨o, b, m, r, x, p, q, y, g2, n2⟩ = true) {A : Addr} {c : Nat} (W0 : World) (W : Frm A c W0) : Calls Tryd.prog 7 #[.agg #[.int .i64 o, .bool b, .int .i64 m, .int .i64 r, .int .i64 x, .int .i64 p, .int .i64 q, .int .i64 y, .int .i64 g, .int .i64 n], .agg #[.int .i64 o, .bool b, .int .i64 m, .int .i64 r, .int .i64 x, .int .i64 p, .int .i64 q, .int .i64 y, .int .i64 g2, .int .i64 n2]] W0 fun e w' => e = .returned (.bool true) ∧ Below W0.heap.size W0 w' := by
  have hX := St.put2 W [.int .i64 o, .bool b, .int .i64 m, .int .i64 r, .int .i64 x, .int .i64 p, .int .i64 q, .int .i64 y, .int .i64 g, .int .i64 n] [.int .i64 o, .bool b, .int .i64 m, .int .i64 r, .int .i64 x, .int .i64 p, .int .i64 q, .int .i64 y, .int .i64 g2, .int .i64 n2] 28 28
  have hV1 := fun w (k : Frm A c w) => Valid_any o b m r x p q y g n w k
  have hV2 := fun w (k : Frm A c w) => Valid_any o b m r x p q y g2 n2 w k
  have hE1 := fun w (k : Frm A c w) => Encode_any o b m r x p q y g n w k
  have hE2 := fun w (k : Frm A c w) => Encode_any o b m r x p q y g2 n2 w k
  have hA := fun w (k : Frm A c w) => alive_any w k
  obtain ⟨x1, x2', _⟩ := enc_of hv
  obtain ⟨z1, z2, _⟩ := enc_of hw
  rw [hv] at hV1
  rw [hw] at hV2
  rw [x1, x2'] at hE1
  rw [z1, z2] at hE2
  have hl := enc_len ⟨o, b, m, r, x, p, q, y, g, n⟩
  rw [x1] at hl
  have hS := fun w' {va vb : Value} (h1 : Nums .i64 w' va (wdR ⟨o, b, m, r, x, p, q, y, g, n⟩)) (h2 : Nums .i64 w' vb (wdR ⟨o, b, m, r, x, p, q, y, g2, n2⟩)) => same_lists (wdR ⟨o, b, m, r, x, p, q, y, g, n⟩) (wdR ⟨o, b, m, r, x, p, q, y, g2, n2⟩) va vb hl w' h1 h2
  rw [show decide (wdR ⟨o, b, m, r, x, p, q, y, g, n⟩ = wdR ⟨o, b, m, r, x, p, q, y, g2, n2⟩) = false from decide_eq_false (fun h => by have k := (uniq hv hw).1 h; simp only [In.mk.injEq] at k; exact hne (by simp only [k]))] at hS
  generalize wdR ⟨o, b, m, r, x, p, q, y, g, n⟩ = L1 at *
  generalize wdR ⟨o, b, m, r, x, p, q, y, g2, n2⟩ = L2 at *
  clear hl x1 x2' z1 z2
  have hnb : (g == g2) = false := by simpa using hne
  have hnd : decide (g = g2) = false := decide_eq_false hne
  go_enter Tryd.func7, Tryd.ntmps7
  go_wp2_with fail
  have j0 := hX.c 0 0 rfl rfl; have j1 := hX.c 0 1 rfl rfl; have j2 := hX.c 0 2 rfl rfl; have j3 := hX.c 0 3 rfl rfl; have j4 := hX.c 0 4 rfl rfl; have j5 := hX.c 0 5 rfl rfl; have j6 := hX.c 0 6 rfl rfl; have j7 := hX.c 0 7 rfl rfl; have j8 := hX.c 0 8 rfl rfl; have j9 := hX.c 0 9 rfl rfl; have i0 := hX.c 1 0 rfl rfl; have i1 := hX.c 1 1 rfl rfl; have i2 := hX.c 1 2 rfl rfl; have i3 := hX.c 1 3 rfl rfl; have i4 := hX.c 1 4 rfl rfl; have i5 := hX.c 1 5 rfl rfl; have i6 := hX.c 1 6 rfl rfl; have i7 := hX.c 1 7 rfl rfl; have i8 := hX.c 1 8 rfl rfl; have i9 := hX.c 1 9 rfl rfl
  generalize (W0.alloc (.cells #[.int .i64 o, .bool b, .int .i64 m, .int .i64 r, .int .i64 x, .int .i64 p, .int .i64 q, .int .i64 y, .int .i64 g, .int .i64 n] 28)).alloc (.cells #[.int .i64 o, .bool b, .int .i64 m, .int .i64 r, .int .i64 x, .int .i64 p, .int .i64 q, .int .i64 y, .int .i64 g2, .int .i64 n2] 28) = w1 at *
  generalize hCC : W0.heap.size + 1 = C at hX j0 j1 j2 j3 j4 j5 j6 j7 j8 j9 i0 i1 i2 i3 i4 i5 i6 i7 i8 i9 ⊢
  generalize hBB : W0.heap.size = B at hX j0 j1 j2 j3 j4 j5 j6 j7 j8 j9 i0 i1 i2 i3 i4 i5 i6 i7 i8 i9 ⊢
  go_wp2_with (first | (go_at_call 14; with_reducible refine (hV1 _ hX.frm).mono ?_; rintro _ w' ⟨rfl, hb⟩; have hX := hX.step hb; clear hb; have j0 := hX.c 0 0 rfl rfl; have j1 := hX.c 0 1 rfl rfl; have j2 := hX.c 0 2 rfl rfl; have j3 := hX.c 0 3 rfl rfl; have j4 := hX.c 0 4 rfl rfl; have j5 := hX.c 0 5 rfl rfl; have j6 := hX.c 0 6 rfl rfl; have j7 := hX.c 0 7 rfl rfl; have j8 := hX.c 0 8 rfl rfl; have j9 := hX.c 0 9 rfl rfl; have i0 := hX.c 1 0 rfl rfl; have i1 := hX.c 1 1 rfl rfl; have i2 := hX.c 1 2 rfl rfl; have i3 := hX.c 1 3 rfl rfl; have i4 := hX.c 1 4 rfl rfl; have i5 := hX.c 1 5 rfl rfl; have i6 := hX.c 1 6 rfl rfl; have i7 := hX.c 1 7 rfl rfl; have i8 := hX.c 1 8 rfl rfl; have i9 := hX.c 1 9 rfl rfl) | (go_at_call 14; with_reducible refine (hV2 _ hX.frm).mono ?_; rintro _ w' ⟨rfl, hb⟩; have hX := hX.step hb; clear hb; have j0 := hX.c 0 0 rfl rfl; have j1 := hX.c 0 1 rfl rfl; have j2 := hX.c 0 2 rfl rfl; have j3 := hX.c 0 3 rfl rfl; have j4 := hX.c 0 4 rfl rfl; have j5 := hX.c 0 5 rfl rfl; have j6 := hX.c 0 6 rfl rfl; have j7 := hX.c 0 7 rfl rfl; have j8 := hX.c 0 8 rfl rfl; have j9 := hX.c 0 9 rfl rfl; have i0 := hX.c 1 0 rfl rfl; have i1 := hX.c 1 1 rfl rfl; have i2 := hX.c 1 2 rfl rfl; have i3 := hX.c 1 3 rfl rfl; have i4 := hX.c 1 4 rfl rfl; have i5 := hX.c 1 5 rfl rfl; have i6 := hX.c 1 6 rfl rfl; have i7 := hX.c 1 7 rfl rfl; have i8 := hX.c 1 8 rfl rfl; have i9 := hX.c 1 9 rfl rfl) | (go_at_call 11; with_reducible refine (hE1 _ hX.frm).mono ?_; rintro _ w' ⟨va, rfl, hN1, hb⟩; have hX := hX.step hb; clear hb; have j0 := hX.c 0 0 rfl rfl; have j1 := hX.c 0 1 rfl rfl; have j2 := hX.c 0 2 rfl rfl; have j3 := hX.c 0 3 rfl rfl; have j4 := hX.c 0 4 rfl rfl; have j5 := hX.c 0 5 rfl rfl; have j6 := hX.c 0 6 rfl rfl; have j7 := hX.c 0 7 rfl rfl; have j8 := hX.c 0 8 rfl rfl; have j9 := hX.c 0 9 rfl rfl; have i0 := hX.c 1 0 rfl rfl; have i1 := hX.c 1 1 rfl rfl; have i2 := hX.c 1 2 rfl rfl; have i3 := hX.c 1 3 rfl rfl; have i4 := hX.c 1 4 rfl rfl; have i5 := hX.c 1 5 rfl rfl; have i6 := hX.c 1 6 rfl rfl; have i7 := hX.c 1 7 rfl rfl; have i8 := hX.c 1 8 rfl rfl; have i9 := hX.c 1 9 rfl rfl) | (go_at_call 11; with_reducible refine (hE2 _ hX.frm).mono ?_; rintro _ w' ⟨vb, rfl, hN2, hb⟩; have hX := hX.step hb; have hN1 := hN1.below hb; clear hb; have j0 := hX.c 0 0 rfl rfl; have j1 := hX.c 0 1 rfl rfl; have j2 := hX.c 0 2 rfl rfl; have j3 := hX.c 0 3 rfl rfl; have j4 := hX.c 0 4 rfl rfl; have j5 := hX.c 0 5 rfl rfl; have j6 := hX.c 0 6 rfl rfl; have j7 := hX.c 0 7 rfl rfl; have j8 := hX.c 0 8 rfl rfl; have j9 := hX.c 0 9 rfl rfl; have i0 := hX.c 1 0 rfl rfl; have i1 := hX.c 1 1 rfl rfl; have i2 := hX.c 1 2 rfl rfl; have i3 := hX.c 1 3 rfl rfl; have i4 := hX.c 1 4 rfl rfl; have i5 := hX.c 1 5 rfl rfl; have i6 := hX.c 1 6 rfl rfl; have i7 := hX.c 1 7 rfl rfl; have i8 := hX.c 1 8 rfl rfl; have i9 := hX.c 1 9 rfl rfl))
  refine region_class (fun w' => St A c [(C, [.int .i64 o, .bool b, .int .i64 m, .int .i64 r, .int .i64 x, .int .i64 p, .int .i64 q, .int .i64 y, .int .i64 g2, .int .i64 n2]), (B, [.int .i64 o, .bool b, .int .i64 m, .int .i64 r, .int .i64 x, .int .i64 p, .int .i64 q, .int .i64 y, .int .i64 g, .int .i64 n])] W0 w' ∧ Nums .i64 w' va L1 ∧ Nums .i64 w' vb L2) (by kernel_rfl) (by kernel_rfl) (⟨hX.drew, hN1.drew, hN2.drew⟩) ?_
  clear hX hN1 hN2 j0 j1 j2 j3 j4 j5 j6 j7 j8 j9 i0 i1 i2 i3 i4 i5 i6 i7 i8 i9
  repeat
    first
      | (refine BigFrame.wpQuiet_skip (by rfl) ?_
         simp only [Act.put, List.setIfInBounds_toArray, List.set_cons_zero, List.set_cons_succ])
      | (refine BigFrame.wpQuiet_want (by rfl) (fun K hK => ?_)
         apply Exists.intro
         refine ⟨fun wq hq => ?_, hK _ ?_⟩
         · have j0 := hq.1.c 0 0 rfl rfl; have j1 := hq.1.c 0 1 rfl rfl; have j2 := hq.1.c 0 2 rfl rfl; have j3 := hq.1.c 0 3 rfl rfl; have j4 := hq.1.c 0 4 rfl rfl; have j5 := hq.1.c 0 5 rfl rfl; have j6 := hq.1.c 0 6 rfl rfl; have j7 := hq.1.c 0 7 rfl rfl; have j8 := hq.1.c 0 8 rfl rfl; have j9 := hq.1.c 0 9 rfl rfl; have i0 := hq.1.c 1 0 rfl rfl; have i1 := hq.1.c 1 1 rfl rfl; have i2 := hq.1.c 1 2 rfl rfl; have i3 := hq.1.c 1 3 rfl rfl; have i4 := hq.1.c 1 4 rfl rfl; have i5 := hq.1.c 1 5 rfl rfl; have i6 := hq.1.c 1 6 rfl rfl; have i7 := hq.1.c 1 7 rfl rfl; have i8 := hq.1.c 1 8 rfl rfl; have i9 := hq.1.c 1 9 rfl rfl
           unfold Oper.quietAt
           go_simp
           first
             | with_reducible rfl
             | ((go_at_call 13); with_reducible refine (hS _ hq.2.1 hq.2.2).mono ?_; exact fun e w' ⟨he, hb⟩ => ⟨he, ⟨hq.1.step hb, hq.2.1.below hb, hq.2.2.below hb⟩⟩)
             | ((go_at_call 8); with_reducible refine (hA _ hq.1.frm).mono ?_; exact fun e w' ⟨he, hb⟩ => ⟨he, ⟨hq.1.step hb, hq.2.1.below hb, hq.2.2.below hb⟩⟩)
         clear hK K
         simp only [Act.put, List.setIfInBounds_toArray, List.set_cons_zero, List.set_cons_succ])
  refine wpQuiet_nil ?_
  intro w4 hC
  obtain ⟨hX, hN1, hN2⟩ := hC
  have j0 := hX.c 0 0 rfl rfl; have j1 := hX.c 0 1 rfl rfl; have j2 := hX.c 0 2 rfl rfl; have j3 := hX.c 0 3 rfl rfl; have j4 := hX.c 0 4 rfl rfl; have j5 := hX.c 0 5 rfl rfl; have j6 := hX.c 0 6 rfl rfl; have j7 := hX.c 0 7 rfl rfl; have j8 := hX.c 0 8 rfl rfl; have j9 := hX.c 0 9 rfl rfl; have i0 := hX.c 1 0 rfl rfl; have i1 := hX.c 1 1 rfl rfl; have i2 := hX.c 1 2 rfl rfl; have i3 := hX.c 1 3 rfl rfl; have i4 := hX.c 1 4 rfl rfl; have i5 := hX.c 1 5 rfl rfl; have i6 := hX.c 1 6 rfl rfl; have i7 := hX.c 1 7 rfl rfl; have i8 := hX.c 1 8 rfl rfl; have i9 := hX.c 1 9 rfl rfl
  go_wp2_with fail
  go_ret
  exact ⟨rfl, by first | exact hX.below | exact hBB ▸ hX.below⟩

theorem un_9 (o : Int) (b : Bool) (m : Int) (r : Int) (x : Int) (p : Int) (q : Int) (y : Int) (g : Int) (n : Int) (n2 : Int) (hne : ¬ (n = n2)) (hv : vR ⟨o, b, m, r, x, p, q, y, g, n⟩ = true) (hw : vR ⟨o, b, m, r, x, p, q, y, g, n2⟩ = true) {A : Addr} {c : Nat} (W0 : World) (W : Frm A c W0) : Calls Tryd.prog 7 #[.agg #[.int .i64 o, .bool b, .int .i64 m, .int .i64 r, .int .i64 x, .int .i64 p, .int .i64 q, .int .i64 y, .int .i64 g, .int .i64 n], .agg #[.int .i64 o, .bool b, .int .i64 m, .int .i64 r, .int .i64 x, .int .i64 p, .int .i64 q, .int .i64 y, .int .i64 g, .int .i64 n2]] W0 fun e w' => e = .returned (.bool true) ∧ Below W0.heap.size W0 w' := by
  have hX := St.put2 W [.int .i64 o, .bool b, .int .i64 m, .int .i64 r, .int .i64 x, .int .i64 p, .int .i64 q, .int .i64 y, .int .i64 g, .int .i64 n] [.int .i64 o, .bool b, .int .i64 m, .int .i64 r, .int .i64 x, .int .i64 p, .int .i64 q, .int .i64 y, .int .i64 g, .int .i64 n2] 28 28
  have hV1 := fun w (k : Frm A c w) => Valid_any o b m r x p q y g n w k
  have hV2 := fun w (k : Frm A c w) => Valid_any o b m r x p q y g n2 w k
  have hE1 := fun w (k : Frm A c w) => Encode_any o b m r x p q y g n w k
  have hE2 := fun w (k : Frm A c w) => Encode_any o b m r x p q y g n2 w k
  have hA := fun w (k : Frm A c w) => alive_any w k
  obtain ⟨x1, x2', _⟩ := enc_of hv
  obtain ⟨z1, z2, _⟩ := enc_of hw
  rw [hv] at hV1
  rw [hw] at hV2
  rw [x1, x2'] at hE1
  rw [z1, z2] at hE2
  have hl := enc_len ⟨o, b, m, r, x, p, q, y, g, n⟩
  rw [x1] at hl
  have hS := fun w' {va vb : Value} (h1 : Nums .i64 w' va (wdR ⟨o, b, m, r, x, p, q, y, g, n⟩)) (h2 : Nums .i64 w' vb (wdR ⟨o, b, m, r, x, p, q, y, g, n2⟩)) => same_lists (wdR ⟨o, b, m, r, x, p, q, y, g, n⟩) (wdR ⟨o, b, m, r, x, p, q, y, g, n2⟩) va vb hl w' h1 h2
  rw [show decide (wdR ⟨o, b, m, r, x, p, q, y, g, n⟩ = wdR ⟨o, b, m, r, x, p, q, y, g, n2⟩) = false from decide_eq_false (fun h => by have k := (uniq hv hw).1 h; simp only [In.mk.injEq] at k; exact hne (by simp only [k]))] at hS
  generalize wdR ⟨o, b, m, r, x, p, q, y, g, n⟩ = L1 at *
  generalize wdR ⟨o, b, m, r, x, p, q, y, g, n2⟩ = L2 at *
  clear hl x1 x2' z1 z2
  have hnb : (n == n2) = false := by simpa using hne
  have hnd : decide (n = n2) = false := decide_eq_false hne
  go_enter Tryd.func7, Tryd.ntmps7
  go_wp2_with fail
  have j0 := hX.c 0 0 rfl rfl; have j1 := hX.c 0 1 rfl rfl; have j2 := hX.c 0 2 rfl rfl; have j3 := hX.c 0 3 rfl rfl; have j4 := hX.c 0 4 rfl rfl; have j5 := hX.c 0 5 rfl rfl; have j6 := hX.c 0 6 rfl rfl; have j7 := hX.c 0 7 rfl rfl; have j8 := hX.c 0 8 rfl rfl; have j9 := hX.c 0 9 rfl rfl; have i0 := hX.c 1 0 rfl rfl; have i1 := hX.c 1 1 rfl rfl; have i2 := hX.c 1 2 rfl rfl; have i3 := hX.c 1 3 rfl rfl; have i4 := hX.c 1 4 rfl rfl; have i5 := hX.c 1 5 rfl rfl; have i6 := hX.c 1 6 rfl rfl; have i7 := hX.c 1 7 rfl rfl; have i8 := hX.c 1 8 rfl rfl; have i9 := hX.c 1 9 rfl rfl
  generalize (W0.alloc (.cells #[.int .i64 o, .bool b, .int .i64 m, .int .i64 r, .int .i64 x, .int .i64 p, .int .i64 q, .int .i64 y, .int .i64 g, .int .i64 n] 28)).alloc (.cells #[.int .i64 o, .bool b, .int .i64 m, .int .i64 r, .int .i64 x, .int .i64 p, .int .i64 q, .int .i64 y, .int .i64 g, .int .i64 n2] 28) = w1 at *
  generalize hCC : W0.heap.size + 1 = C at hX j0 j1 j2 j3 j4 j5 j6 j7 j8 j9 i0 i1 i2 i3 i4 i5 i6 i7 i8 i9 ⊢
  generalize hBB : W0.heap.size = B at hX j0 j1 j2 j3 j4 j5 j6 j7 j8 j9 i0 i1 i2 i3 i4 i5 i6 i7 i8 i9 ⊢
  go_wp2_with (first | (go_at_call 14; with_reducible refine (hV1 _ hX.frm).mono ?_; rintro _ w' ⟨rfl, hb⟩; have hX := hX.step hb; clear hb; have j0 := hX.c 0 0 rfl rfl; have j1 := hX.c 0 1 rfl rfl; have j2 := hX.c 0 2 rfl rfl; have j3 := hX.c 0 3 rfl rfl; have j4 := hX.c 0 4 rfl rfl; have j5 := hX.c 0 5 rfl rfl; have j6 := hX.c 0 6 rfl rfl; have j7 := hX.c 0 7 rfl rfl; have j8 := hX.c 0 8 rfl rfl; have j9 := hX.c 0 9 rfl rfl; have i0 := hX.c 1 0 rfl rfl; have i1 := hX.c 1 1 rfl rfl; have i2 := hX.c 1 2 rfl rfl; have i3 := hX.c 1 3 rfl rfl; have i4 := hX.c 1 4 rfl rfl; have i5 := hX.c 1 5 rfl rfl; have i6 := hX.c 1 6 rfl rfl; have i7 := hX.c 1 7 rfl rfl; have i8 := hX.c 1 8 rfl rfl; have i9 := hX.c 1 9 rfl rfl) | (go_at_call 14; with_reducible refine (hV2 _ hX.frm).mono ?_; rintro _ w' ⟨rfl, hb⟩; have hX := hX.step hb; clear hb; have j0 := hX.c 0 0 rfl rfl; have j1 := hX.c 0 1 rfl rfl; have j2 := hX.c 0 2 rfl rfl; have j3 := hX.c 0 3 rfl rfl; have j4 := hX.c 0 4 rfl rfl; have j5 := hX.c 0 5 rfl rfl; have j6 := hX.c 0 6 rfl rfl; have j7 := hX.c 0 7 rfl rfl; have j8 := hX.c 0 8 rfl rfl; have j9 := hX.c 0 9 rfl rfl; have i0 := hX.c 1 0 rfl rfl; have i1 := hX.c 1 1 rfl rfl; have i2 := hX.c 1 2 rfl rfl; have i3 := hX.c 1 3 rfl rfl; have i4 := hX.c 1 4 rfl rfl; have i5 := hX.c 1 5 rfl rfl; have i6 := hX.c 1 6 rfl rfl; have i7 := hX.c 1 7 rfl rfl; have i8 := hX.c 1 8 rfl rfl; have i9 := hX.c 1 9 rfl rfl) | (go_at_call 11; with_reducible refine (hE1 _ hX.frm).mono ?_; rintro _ w' ⟨va, rfl, hN1, hb⟩; have hX := hX.step hb; clear hb; have j0 := hX.c 0 0 rfl rfl; have j1 := hX.c 0 1 rfl rfl; have j2 := hX.c 0 2 rfl rfl; have j3 := hX.c 0 3 rfl rfl; have j4 := hX.c 0 4 rfl rfl; have j5 := hX.c 0 5 rfl rfl; have j6 := hX.c 0 6 rfl rfl; have j7 := hX.c 0 7 rfl rfl; have j8 := hX.c 0 8 rfl rfl; have j9 := hX.c 0 9 rfl rfl; have i0 := hX.c 1 0 rfl rfl; have i1 := hX.c 1 1 rfl rfl; have i2 := hX.c 1 2 rfl rfl; have i3 := hX.c 1 3 rfl rfl; have i4 := hX.c 1 4 rfl rfl; have i5 := hX.c 1 5 rfl rfl; have i6 := hX.c 1 6 rfl rfl; have i7 := hX.c 1 7 rfl rfl; have i8 := hX.c 1 8 rfl rfl; have i9 := hX.c 1 9 rfl rfl) | (go_at_call 11; with_reducible refine (hE2 _ hX.frm).mono ?_; rintro _ w' ⟨vb, rfl, hN2, hb⟩; have hX := hX.step hb; have hN1 := hN1.below hb; clear hb; have j0 := hX.c 0 0 rfl rfl; have j1 := hX.c 0 1 rfl rfl; have j2 := hX.c 0 2 rfl rfl; have j3 := hX.c 0 3 rfl rfl; have j4 := hX.c 0 4 rfl rfl; have j5 := hX.c 0 5 rfl rfl; have j6 := hX.c 0 6 rfl rfl; have j7 := hX.c 0 7 rfl rfl; have j8 := hX.c 0 8 rfl rfl; have j9 := hX.c 0 9 rfl rfl; have i0 := hX.c 1 0 rfl rfl; have i1 := hX.c 1 1 rfl rfl; have i2 := hX.c 1 2 rfl rfl; have i3 := hX.c 1 3 rfl rfl; have i4 := hX.c 1 4 rfl rfl; have i5 := hX.c 1 5 rfl rfl; have i6 := hX.c 1 6 rfl rfl; have i7 := hX.c 1 7 rfl rfl; have i8 := hX.c 1 8 rfl rfl; have i9 := hX.c 1 9 rfl rfl))
  refine region_class (fun w' => St A c [(C, [.int .i64 o, .bool b, .int .i64 m, .int .i64 r, .int .i64 x, .int .i64 p, .int .i64 q, .int .i64 y, .int .i64 g, .int .i64 n2]), (B, [.int .i64 o, .bool b, .int .i64 m, .int .i64 r, .int .i64 x, .int .i64 p, .int .i64 q, .int .i64 y, .int .i64 g, .int .i64 n])] W0 w' ∧ Nums .i64 w' va L1 ∧ Nums .i64 w' vb L2) (by kernel_rfl) (by kernel_rfl) (⟨hX.drew, hN1.drew, hN2.drew⟩) ?_
  clear hX hN1 hN2 j0 j1 j2 j3 j4 j5 j6 j7 j8 j9 i0 i1 i2 i3 i4 i5 i6 i7 i8 i9
  repeat
    first
      | (refine BigFrame.wpQuiet_skip (by rfl) ?_
         simp only [Act.put, List.setIfInBounds_toArray, List.set_cons_zero, List.set_cons_succ])
      | (refine BigFrame.wpQuiet_want (by rfl) (fun K hK => ?_)
         apply Exists.intro
         refine ⟨fun wq hq => ?_, hK _ ?_⟩
         · have j0 := hq.1.c 0 0 rfl rfl; have j1 := hq.1.c 0 1 rfl rfl; have j2 := hq.1.c 0 2 rfl rfl; have j3 := hq.1.c 0 3 rfl rfl; have j4 := hq.1.c 0 4 rfl rfl; have j5 := hq.1.c 0 5 rfl rfl; have j6 := hq.1.c 0 6 rfl rfl; have j7 := hq.1.c 0 7 rfl rfl; have j8 := hq.1.c 0 8 rfl rfl; have j9 := hq.1.c 0 9 rfl rfl; have i0 := hq.1.c 1 0 rfl rfl; have i1 := hq.1.c 1 1 rfl rfl; have i2 := hq.1.c 1 2 rfl rfl; have i3 := hq.1.c 1 3 rfl rfl; have i4 := hq.1.c 1 4 rfl rfl; have i5 := hq.1.c 1 5 rfl rfl; have i6 := hq.1.c 1 6 rfl rfl; have i7 := hq.1.c 1 7 rfl rfl; have i8 := hq.1.c 1 8 rfl rfl; have i9 := hq.1.c 1 9 rfl rfl
           unfold Oper.quietAt
           go_simp
           first
             | with_reducible rfl
             | ((go_at_call 13); with_reducible refine (hS _ hq.2.1 hq.2.2).mono ?_; exact fun e w' ⟨he, hb⟩ => ⟨he, ⟨hq.1.step hb, hq.2.1.below hb, hq.2.2.below hb⟩⟩)
             | ((go_at_call 8); with_reducible refine (hA _ hq.1.frm).mono ?_; exact fun e w' ⟨he, hb⟩ => ⟨he, ⟨hq.1.step hb, hq.2.1.below hb, hq.2.2.below hb⟩⟩)
         clear hK K
         simp only [Act.put, List.setIfInBounds_toArray, List.set_cons_zero, List.set_cons_succ])
  refine wpQuiet_nil ?_
  intro w4 hC
  obtain ⟨hX, hN1, hN2⟩ := hC
  have j0 := hX.c 0 0 rfl rfl; have j1 := hX.c 0 1 rfl rfl; have j2 := hX.c 0 2 rfl rfl; have j3 := hX.c 0 3 rfl rfl; have j4 := hX.c 0 4 rfl rfl; have j5 := hX.c 0 5 rfl rfl; have j6 := hX.c 0 6 rfl rfl; have j7 := hX.c 0 7 rfl rfl; have j8 := hX.c 0 8 rfl rfl; have j9 := hX.c 0 9 rfl rfl; have i0 := hX.c 1 0 rfl rfl; have i1 := hX.c 1 1 rfl rfl; have i2 := hX.c 1 2 rfl rfl; have i3 := hX.c 1 3 rfl rfl; have i4 := hX.c 1 4 rfl rfl; have i5 := hX.c 1 5 rfl rfl; have i6 := hX.c 1 6 rfl rfl; have i7 := hX.c 1 7 rfl rfl; have i8 := hX.c 1 8 rfl rfl; have i9 := hX.c 1 9 rfl rfl
  go_wp2_with fail
  go_ret
  exact ⟨rfl, by first | exact hX.below | exact hBB ▸ hX.below⟩

theorem un_eq (o : Int) (b : Bool) (m : Int) (r : Int) (x : Int) (p : Int) (q : Int) (y : Int) (g : Int) (n : Int) (hv : vR ⟨o, b, m, r, x, p, q, y, g, n⟩ = true) {A : Addr} {c : Nat} (W0 : World) (W : Frm A c W0) : Calls Tryd.prog 7 #[.agg #[.int .i64 o, .bool b, .int .i64 m, .int .i64 r, .int .i64 x, .int .i64 p, .int .i64 q, .int .i64 y, .int .i64 g, .int .i64 n], .agg #[.int .i64 o, .bool b, .int .i64 m, .int .i64 r, .int .i64 x, .int .i64 p, .int .i64 q, .int .i64 y, .int .i64 g, .int .i64 n]] W0 fun e w' => e = .returned (.bool true) ∧ Below W0.heap.size W0 w' := by
  have hX := St.put2 W [.int .i64 o, .bool b, .int .i64 m, .int .i64 r, .int .i64 x, .int .i64 p, .int .i64 q, .int .i64 y, .int .i64 g, .int .i64 n] [.int .i64 o, .bool b, .int .i64 m, .int .i64 r, .int .i64 x, .int .i64 p, .int .i64 q, .int .i64 y, .int .i64 g, .int .i64 n] 28 28
  have hV1 := fun w (k : Frm A c w) => Valid_any o b m r x p q y g n w k
  have hE1 := fun w (k : Frm A c w) => Encode_any o b m r x p q y g n w k
  have hA := fun w (k : Frm A c w) => alive_any w k
  obtain ⟨x1, x2', _⟩ := enc_of hv
  rw [hv] at hV1
  rw [x1, x2'] at hE1
  have hl := enc_len ⟨o, b, m, r, x, p, q, y, g, n⟩
  rw [x1] at hl
  generalize wdR ⟨o, b, m, r, x, p, q, y, g, n⟩ = L1 at *
  clear x1 x2'
  go_enter Tryd.func7, Tryd.ntmps7
  go_wp2_with fail
  have j0 := hX.c 0 0 rfl rfl; have j1 := hX.c 0 1 rfl rfl; have j2 := hX.c 0 2 rfl rfl; have j3 := hX.c 0 3 rfl rfl; have j4 := hX.c 0 4 rfl rfl; have j5 := hX.c 0 5 rfl rfl; have j6 := hX.c 0 6 rfl rfl; have j7 := hX.c 0 7 rfl rfl; have j8 := hX.c 0 8 rfl rfl; have j9 := hX.c 0 9 rfl rfl; have i0 := hX.c 1 0 rfl rfl; have i1 := hX.c 1 1 rfl rfl; have i2 := hX.c 1 2 rfl rfl; have i3 := hX.c 1 3 rfl rfl; have i4 := hX.c 1 4 rfl rfl; have i5 := hX.c 1 5 rfl rfl; have i6 := hX.c 1 6 rfl rfl; have i7 := hX.c 1 7 rfl rfl; have i8 := hX.c 1 8 rfl rfl; have i9 := hX.c 1 9 rfl rfl
  generalize (W0.alloc (.cells #[.int .i64 o, .bool b, .int .i64 m, .int .i64 r, .int .i64 x, .int .i64 p, .int .i64 q, .int .i64 y, .int .i64 g, .int .i64 n] 28)).alloc (.cells #[.int .i64 o, .bool b, .int .i64 m, .int .i64 r, .int .i64 x, .int .i64 p, .int .i64 q, .int .i64 y, .int .i64 g, .int .i64 n] 28) = w1 at *
  generalize hCC : W0.heap.size + 1 = C at hX j0 j1 j2 j3 j4 j5 j6 j7 j8 j9 i0 i1 i2 i3 i4 i5 i6 i7 i8 i9 ⊢
  generalize hBB : W0.heap.size = B at hX j0 j1 j2 j3 j4 j5 j6 j7 j8 j9 i0 i1 i2 i3 i4 i5 i6 i7 i8 i9 ⊢
  go_wp2_with (first | (go_at_call 14; with_reducible refine (hV1 _ hX.frm).mono ?_; rintro _ w' ⟨rfl, hb⟩; have hX := hX.step hb; clear hb; have j0 := hX.c 0 0 rfl rfl; have j1 := hX.c 0 1 rfl rfl; have j2 := hX.c 0 2 rfl rfl; have j3 := hX.c 0 3 rfl rfl; have j4 := hX.c 0 4 rfl rfl; have j5 := hX.c 0 5 rfl rfl; have j6 := hX.c 0 6 rfl rfl; have j7 := hX.c 0 7 rfl rfl; have j8 := hX.c 0 8 rfl rfl; have j9 := hX.c 0 9 rfl rfl; have i0 := hX.c 1 0 rfl rfl; have i1 := hX.c 1 1 rfl rfl; have i2 := hX.c 1 2 rfl rfl; have i3 := hX.c 1 3 rfl rfl; have i4 := hX.c 1 4 rfl rfl; have i5 := hX.c 1 5 rfl rfl; have i6 := hX.c 1 6 rfl rfl; have i7 := hX.c 1 7 rfl rfl; have i8 := hX.c 1 8 rfl rfl; have i9 := hX.c 1 9 rfl rfl) | (go_at_call 11; with_reducible refine (hE1 _ hX.frm).mono ?_; rintro _ w' ⟨vb, rfl, hN2, hb⟩; have hN1 := hN1.below hb; have hX := hX.step hb; clear hb; have j0 := hX.c 0 0 rfl rfl; have j1 := hX.c 0 1 rfl rfl; have j2 := hX.c 0 2 rfl rfl; have j3 := hX.c 0 3 rfl rfl; have j4 := hX.c 0 4 rfl rfl; have j5 := hX.c 0 5 rfl rfl; have j6 := hX.c 0 6 rfl rfl; have j7 := hX.c 0 7 rfl rfl; have j8 := hX.c 0 8 rfl rfl; have j9 := hX.c 0 9 rfl rfl; have i0 := hX.c 1 0 rfl rfl; have i1 := hX.c 1 1 rfl rfl; have i2 := hX.c 1 2 rfl rfl; have i3 := hX.c 1 3 rfl rfl; have i4 := hX.c 1 4 rfl rfl; have i5 := hX.c 1 5 rfl rfl; have i6 := hX.c 1 6 rfl rfl; have i7 := hX.c 1 7 rfl rfl; have i8 := hX.c 1 8 rfl rfl; have i9 := hX.c 1 9 rfl rfl) | (go_at_call 11; with_reducible refine (hE1 _ hX.frm).mono ?_; rintro _ w' ⟨va, rfl, hN1, hb⟩; have hX := hX.step hb; clear hb; have j0 := hX.c 0 0 rfl rfl; have j1 := hX.c 0 1 rfl rfl; have j2 := hX.c 0 2 rfl rfl; have j3 := hX.c 0 3 rfl rfl; have j4 := hX.c 0 4 rfl rfl; have j5 := hX.c 0 5 rfl rfl; have j6 := hX.c 0 6 rfl rfl; have j7 := hX.c 0 7 rfl rfl; have j8 := hX.c 0 8 rfl rfl; have j9 := hX.c 0 9 rfl rfl; have i0 := hX.c 1 0 rfl rfl; have i1 := hX.c 1 1 rfl rfl; have i2 := hX.c 1 2 rfl rfl; have i3 := hX.c 1 3 rfl rfl; have i4 := hX.c 1 4 rfl rfl; have i5 := hX.c 1 5 rfl rfl; have i6 := hX.c 1 6 rfl rfl; have i7 := hX.c 1 7 rfl rfl; have i8 := hX.c 1 8 rfl rfl; have i9 := hX.c 1 9 rfl rfl))
  refine region_class (fun w' => St A c [(C, [.int .i64 o, .bool b, .int .i64 m, .int .i64 r, .int .i64 x, .int .i64 p, .int .i64 q, .int .i64 y, .int .i64 g, .int .i64 n]), (B, [.int .i64 o, .bool b, .int .i64 m, .int .i64 r, .int .i64 x, .int .i64 p, .int .i64 q, .int .i64 y, .int .i64 g, .int .i64 n])] W0 w' ∧ Nums .i64 w' va L1 ∧ Nums .i64 w' vb L1) (by kernel_rfl) (by kernel_rfl) (⟨hX.drew, hN1.drew, hN2.drew⟩) ?_
  clear hX hN1 hN2 j0 j1 j2 j3 j4 j5 j6 j7 j8 j9 i0 i1 i2 i3 i4 i5 i6 i7 i8 i9
  repeat
    first
      | (refine BigFrame.wpQuiet_skip (by rfl) ?_
         simp only [Act.put, List.setIfInBounds_toArray, List.set_cons_zero, List.set_cons_succ])
      | (refine BigFrame.wpQuiet_want (by rfl) (fun K hK => ?_)
         apply Exists.intro
         refine ⟨fun wq hq => ?_, hK _ ?_⟩
         · have j0 := hq.1.c 0 0 rfl rfl; have j1 := hq.1.c 0 1 rfl rfl; have j2 := hq.1.c 0 2 rfl rfl; have j3 := hq.1.c 0 3 rfl rfl; have j4 := hq.1.c 0 4 rfl rfl; have j5 := hq.1.c 0 5 rfl rfl; have j6 := hq.1.c 0 6 rfl rfl; have j7 := hq.1.c 0 7 rfl rfl; have j8 := hq.1.c 0 8 rfl rfl; have j9 := hq.1.c 0 9 rfl rfl; have i0 := hq.1.c 1 0 rfl rfl; have i1 := hq.1.c 1 1 rfl rfl; have i2 := hq.1.c 1 2 rfl rfl; have i3 := hq.1.c 1 3 rfl rfl; have i4 := hq.1.c 1 4 rfl rfl; have i5 := hq.1.c 1 5 rfl rfl; have i6 := hq.1.c 1 6 rfl rfl; have i7 := hq.1.c 1 7 rfl rfl; have i8 := hq.1.c 1 8 rfl rfl; have i9 := hq.1.c 1 9 rfl rfl
           unfold Oper.quietAt
           go_simp
           first
             | with_reducible rfl
             | ((go_at_call 13); with_reducible refine (same_eq L1 _ _ hl _ hq.2.1 hq.2.2).mono ?_; exact fun e w' ⟨he, hb⟩ => ⟨he, ⟨hq.1.step hb, hq.2.1.below hb, hq.2.2.below hb⟩⟩)
             | ((go_at_call 8); with_reducible refine (hA _ hq.1.frm).mono ?_; exact fun e w' ⟨he, hb⟩ => ⟨he, ⟨hq.1.step hb, hq.2.1.below hb, hq.2.2.below hb⟩⟩)
         clear hK K
         simp only [Act.put, List.setIfInBounds_toArray, List.set_cons_zero, List.set_cons_succ])
  refine wpQuiet_nil ?_
  intro w4 hC
  obtain ⟨hX, hN1, hN2⟩ := hC
  have j0 := hX.c 0 0 rfl rfl; have j1 := hX.c 0 1 rfl rfl; have j2 := hX.c 0 2 rfl rfl; have j3 := hX.c 0 3 rfl rfl; have j4 := hX.c 0 4 rfl rfl; have j5 := hX.c 0 5 rfl rfl; have j6 := hX.c 0 6 rfl rfl; have j7 := hX.c 0 7 rfl rfl; have j8 := hX.c 0 8 rfl rfl; have j9 := hX.c 0 9 rfl rfl; have i0 := hX.c 1 0 rfl rfl; have i1 := hX.c 1 1 rfl rfl; have i2 := hX.c 1 2 rfl rfl; have i3 := hX.c 1 3 rfl rfl; have i4 := hX.c 1 4 rfl rfl; have i5 := hX.c 1 5 rfl rfl; have i6 := hX.c 1 6 rfl rfl; have i7 := hX.c 1 7 rfl rfl; have i8 := hX.c 1 8 rfl rfl; have i9 := hX.c 1 9 rfl rfl
  go_wp2_with fail
  go_ret
  exact ⟨rfl, by first | exact hX.below | exact hBB ▸ hX.below⟩

theorem un_bad1 (o : Int) (b : Bool) (m : Int) (r : Int) (x : Int) (p : Int) (q : Int) (y : Int) (g : Int) (n : Int) (o2 : Int) (b2 : Bool) (m2 : Int) (r2 : Int) (x2 : Int) (p2 : Int) (q2 : Int) (y2 : Int) (g2 : Int) (n2 : Int) (hv : vR ⟨o, b, m, r, x, p, q, y, g, n⟩ = false) {A : Addr} {c : Nat} (W0 : World) (W : Frm A c W0) : Calls Tryd.prog 7 #[.agg #[.int .i64 o, .bool b, .int .i64 m, .int .i64 r, .int .i64 x, .int .i64 p, .int .i64 q, .int .i64 y, .int .i64 g, .int .i64 n], .agg #[.int .i64 o2, .bool b2, .int .i64 m2, .int .i64 r2, .int .i64 x2, .int .i64 p2, .int .i64 q2, .int .i64 y2, .int .i64 g2, .int .i64 n2]] W0 fun e w' => e = .returned (.bool true) ∧ Below W0.heap.size W0 w' := by
  have hX := St.put2 W [.int .i64 o, .bool b, .int .i64 m, .int .i64 r, .int .i64 x, .int .i64 p, .int .i64 q, .int .i64 y, .int .i64 g, .int .i64 n] [.int .i64 o2, .bool b2, .int .i64 m2, .int .i64 r2, .int .i64 x2, .int .i64 p2, .int .i64 q2, .int .i64 y2, .int .i64 g2, .int .i64 n2] 28 28
  have hV1 := fun w (k : Frm A c w) => Valid_any o b m r x p q y g n w k
  have hV2 := fun w (k : Frm A c w) => Valid_any o2 b2 m2 r2 x2 p2 q2 y2 g2 n2 w k
  have hA := fun w (k : Frm A c w) => alive_any w k
  rw [hv] at hV1
  go_enter Tryd.func7, Tryd.ntmps7
  go_wp2_with fail
  have j0 := hX.c 0 0 rfl rfl; have j1 := hX.c 0 1 rfl rfl; have j2 := hX.c 0 2 rfl rfl; have j3 := hX.c 0 3 rfl rfl; have j4 := hX.c 0 4 rfl rfl; have j5 := hX.c 0 5 rfl rfl; have j6 := hX.c 0 6 rfl rfl; have j7 := hX.c 0 7 rfl rfl; have j8 := hX.c 0 8 rfl rfl; have j9 := hX.c 0 9 rfl rfl; have i0 := hX.c 1 0 rfl rfl; have i1 := hX.c 1 1 rfl rfl; have i2 := hX.c 1 2 rfl rfl; have i3 := hX.c 1 3 rfl rfl; have i4 := hX.c 1 4 rfl rfl; have i5 := hX.c 1 5 rfl rfl; have i6 := hX.c 1 6 rfl rfl; have i7 := hX.c 1 7 rfl rfl; have i8 := hX.c 1 8 rfl rfl; have i9 := hX.c 1 9 rfl rfl
  generalize (W0.alloc (.cells #[.int .i64 o, .bool b, .int .i64 m, .int .i64 r, .int .i64 x, .int .i64 p, .int .i64 q, .int .i64 y, .int .i64 g, .int .i64 n] 28)).alloc (.cells #[.int .i64 o2, .bool b2, .int .i64 m2, .int .i64 r2, .int .i64 x2, .int .i64 p2, .int .i64 q2, .int .i64 y2, .int .i64 g2, .int .i64 n2] 28) = w1 at *
  generalize hCC : W0.heap.size + 1 = C at hX j0 j1 j2 j3 j4 j5 j6 j7 j8 j9 i0 i1 i2 i3 i4 i5 i6 i7 i8 i9 ⊢
  generalize hBB : W0.heap.size = B at hX j0 j1 j2 j3 j4 j5 j6 j7 j8 j9 i0 i1 i2 i3 i4 i5 i6 i7 i8 i9 ⊢
  go_wp2_with (first | (go_at_call 14; with_reducible refine (hV1 _ hX.frm).mono ?_; rintro _ w' ⟨rfl, hb⟩; have hX := hX.step hb; clear hb; have j0 := hX.c 0 0 rfl rfl; have j1 := hX.c 0 1 rfl rfl; have j2 := hX.c 0 2 rfl rfl; have j3 := hX.c 0 3 rfl rfl; have j4 := hX.c 0 4 rfl rfl; have j5 := hX.c 0 5 rfl rfl; have j6 := hX.c 0 6 rfl rfl; have j7 := hX.c 0 7 rfl rfl; have j8 := hX.c 0 8 rfl rfl; have j9 := hX.c 0 9 rfl rfl; have i0 := hX.c 1 0 rfl rfl; have i1 := hX.c 1 1 rfl rfl; have i2 := hX.c 1 2 rfl rfl; have i3 := hX.c 1 3 rfl rfl; have i4 := hX.c 1 4 rfl rfl; have i5 := hX.c 1 5 rfl rfl; have i6 := hX.c 1 6 rfl rfl; have i7 := hX.c 1 7 rfl rfl; have i8 := hX.c 1 8 rfl rfl; have i9 := hX.c 1 9 rfl rfl) | (go_at_call 14; with_reducible refine (hV2 _ hX.frm).mono ?_; rintro _ w' ⟨rfl, hb⟩; have hX := hX.step hb; clear hb; have j0 := hX.c 0 0 rfl rfl; have j1 := hX.c 0 1 rfl rfl; have j2 := hX.c 0 2 rfl rfl; have j3 := hX.c 0 3 rfl rfl; have j4 := hX.c 0 4 rfl rfl; have j5 := hX.c 0 5 rfl rfl; have j6 := hX.c 0 6 rfl rfl; have j7 := hX.c 0 7 rfl rfl; have j8 := hX.c 0 8 rfl rfl; have j9 := hX.c 0 9 rfl rfl; have i0 := hX.c 1 0 rfl rfl; have i1 := hX.c 1 1 rfl rfl; have i2 := hX.c 1 2 rfl rfl; have i3 := hX.c 1 3 rfl rfl; have i4 := hX.c 1 4 rfl rfl; have i5 := hX.c 1 5 rfl rfl; have i6 := hX.c 1 6 rfl rfl; have i7 := hX.c 1 7 rfl rfl; have i8 := hX.c 1 8 rfl rfl; have i9 := hX.c 1 9 rfl rfl) | (go_at_call 8; with_reducible refine (hA _ hX.frm).mono ?_; rintro _ w' ⟨rfl, hb⟩; have hX := hX.step hb; clear hb; have j0 := hX.c 0 0 rfl rfl; have j1 := hX.c 0 1 rfl rfl; have j2 := hX.c 0 2 rfl rfl; have j3 := hX.c 0 3 rfl rfl; have j4 := hX.c 0 4 rfl rfl; have j5 := hX.c 0 5 rfl rfl; have j6 := hX.c 0 6 rfl rfl; have j7 := hX.c 0 7 rfl rfl; have j8 := hX.c 0 8 rfl rfl; have j9 := hX.c 0 9 rfl rfl; have i0 := hX.c 1 0 rfl rfl; have i1 := hX.c 1 1 rfl rfl; have i2 := hX.c 1 2 rfl rfl; have i3 := hX.c 1 3 rfl rfl; have i4 := hX.c 1 4 rfl rfl; have i5 := hX.c 1 5 rfl rfl; have i6 := hX.c 1 6 rfl rfl; have i7 := hX.c 1 7 rfl rfl; have i8 := hX.c 1 8 rfl rfl; have i9 := hX.c 1 9 rfl rfl))
  go_ret
  exact ⟨rfl, by first | exact hX.below | exact hBB ▸ hX.below⟩

theorem un_bad2 (o : Int) (b : Bool) (m : Int) (r : Int) (x : Int) (p : Int) (q : Int) (y : Int) (g : Int) (n : Int) (o2 : Int) (b2 : Bool) (m2 : Int) (r2 : Int) (x2 : Int) (p2 : Int) (q2 : Int) (y2 : Int) (g2 : Int) (n2 : Int) (hv : vR ⟨o, b, m, r, x, p, q, y, g, n⟩ = true) (hw : vR ⟨o2, b2, m2, r2, x2, p2, q2, y2, g2, n2⟩ = false) {A : Addr} {c : Nat} (W0 : World) (W : Frm A c W0) : Calls Tryd.prog 7 #[.agg #[.int .i64 o, .bool b, .int .i64 m, .int .i64 r, .int .i64 x, .int .i64 p, .int .i64 q, .int .i64 y, .int .i64 g, .int .i64 n], .agg #[.int .i64 o2, .bool b2, .int .i64 m2, .int .i64 r2, .int .i64 x2, .int .i64 p2, .int .i64 q2, .int .i64 y2, .int .i64 g2, .int .i64 n2]] W0 fun e w' => e = .returned (.bool true) ∧ Below W0.heap.size W0 w' := by
  have hX := St.put2 W [.int .i64 o, .bool b, .int .i64 m, .int .i64 r, .int .i64 x, .int .i64 p, .int .i64 q, .int .i64 y, .int .i64 g, .int .i64 n] [.int .i64 o2, .bool b2, .int .i64 m2, .int .i64 r2, .int .i64 x2, .int .i64 p2, .int .i64 q2, .int .i64 y2, .int .i64 g2, .int .i64 n2] 28 28
  have hV1 := fun w (k : Frm A c w) => Valid_any o b m r x p q y g n w k
  have hV2 := fun w (k : Frm A c w) => Valid_any o2 b2 m2 r2 x2 p2 q2 y2 g2 n2 w k
  have hA := fun w (k : Frm A c w) => alive_any w k
  rw [hv] at hV1
  rw [hw] at hV2
  go_enter Tryd.func7, Tryd.ntmps7
  go_wp2_with fail
  have j0 := hX.c 0 0 rfl rfl; have j1 := hX.c 0 1 rfl rfl; have j2 := hX.c 0 2 rfl rfl; have j3 := hX.c 0 3 rfl rfl; have j4 := hX.c 0 4 rfl rfl; have j5 := hX.c 0 5 rfl rfl; have j6 := hX.c 0 6 rfl rfl; have j7 := hX.c 0 7 rfl rfl; have j8 := hX.c 0 8 rfl rfl; have j9 := hX.c 0 9 rfl rfl; have i0 := hX.c 1 0 rfl rfl; have i1 := hX.c 1 1 rfl rfl; have i2 := hX.c 1 2 rfl rfl; have i3 := hX.c 1 3 rfl rfl; have i4 := hX.c 1 4 rfl rfl; have i5 := hX.c 1 5 rfl rfl; have i6 := hX.c 1 6 rfl rfl; have i7 := hX.c 1 7 rfl rfl; have i8 := hX.c 1 8 rfl rfl; have i9 := hX.c 1 9 rfl rfl
  generalize (W0.alloc (.cells #[.int .i64 o, .bool b, .int .i64 m, .int .i64 r, .int .i64 x, .int .i64 p, .int .i64 q, .int .i64 y, .int .i64 g, .int .i64 n] 28)).alloc (.cells #[.int .i64 o2, .bool b2, .int .i64 m2, .int .i64 r2, .int .i64 x2, .int .i64 p2, .int .i64 q2, .int .i64 y2, .int .i64 g2, .int .i64 n2] 28) = w1 at *
  generalize hCC : W0.heap.size + 1 = C at hX j0 j1 j2 j3 j4 j5 j6 j7 j8 j9 i0 i1 i2 i3 i4 i5 i6 i7 i8 i9 ⊢
  generalize hBB : W0.heap.size = B at hX j0 j1 j2 j3 j4 j5 j6 j7 j8 j9 i0 i1 i2 i3 i4 i5 i6 i7 i8 i9 ⊢
  go_wp2_with (first | (go_at_call 14; with_reducible refine (hV1 _ hX.frm).mono ?_; rintro _ w' ⟨rfl, hb⟩; have hX := hX.step hb; clear hb; have j0 := hX.c 0 0 rfl rfl; have j1 := hX.c 0 1 rfl rfl; have j2 := hX.c 0 2 rfl rfl; have j3 := hX.c 0 3 rfl rfl; have j4 := hX.c 0 4 rfl rfl; have j5 := hX.c 0 5 rfl rfl; have j6 := hX.c 0 6 rfl rfl; have j7 := hX.c 0 7 rfl rfl; have j8 := hX.c 0 8 rfl rfl; have j9 := hX.c 0 9 rfl rfl; have i0 := hX.c 1 0 rfl rfl; have i1 := hX.c 1 1 rfl rfl; have i2 := hX.c 1 2 rfl rfl; have i3 := hX.c 1 3 rfl rfl; have i4 := hX.c 1 4 rfl rfl; have i5 := hX.c 1 5 rfl rfl; have i6 := hX.c 1 6 rfl rfl; have i7 := hX.c 1 7 rfl rfl; have i8 := hX.c 1 8 rfl rfl; have i9 := hX.c 1 9 rfl rfl) | (go_at_call 14; with_reducible refine (hV2 _ hX.frm).mono ?_; rintro _ w' ⟨rfl, hb⟩; have hX := hX.step hb; clear hb; have j0 := hX.c 0 0 rfl rfl; have j1 := hX.c 0 1 rfl rfl; have j2 := hX.c 0 2 rfl rfl; have j3 := hX.c 0 3 rfl rfl; have j4 := hX.c 0 4 rfl rfl; have j5 := hX.c 0 5 rfl rfl; have j6 := hX.c 0 6 rfl rfl; have j7 := hX.c 0 7 rfl rfl; have j8 := hX.c 0 8 rfl rfl; have j9 := hX.c 0 9 rfl rfl; have i0 := hX.c 1 0 rfl rfl; have i1 := hX.c 1 1 rfl rfl; have i2 := hX.c 1 2 rfl rfl; have i3 := hX.c 1 3 rfl rfl; have i4 := hX.c 1 4 rfl rfl; have i5 := hX.c 1 5 rfl rfl; have i6 := hX.c 1 6 rfl rfl; have i7 := hX.c 1 7 rfl rfl; have i8 := hX.c 1 8 rfl rfl; have i9 := hX.c 1 9 rfl rfl) | (go_at_call 8; with_reducible refine (hA _ hX.frm).mono ?_; rintro _ w' ⟨rfl, hb⟩; have hX := hX.step hb; clear hb; have j0 := hX.c 0 0 rfl rfl; have j1 := hX.c 0 1 rfl rfl; have j2 := hX.c 0 2 rfl rfl; have j3 := hX.c 0 3 rfl rfl; have j4 := hX.c 0 4 rfl rfl; have j5 := hX.c 0 5 rfl rfl; have j6 := hX.c 0 6 rfl rfl; have j7 := hX.c 0 7 rfl rfl; have j8 := hX.c 0 8 rfl rfl; have j9 := hX.c 0 9 rfl rfl; have i0 := hX.c 1 0 rfl rfl; have i1 := hX.c 1 1 rfl rfl; have i2 := hX.c 1 2 rfl rfl; have i3 := hX.c 1 3 rfl rfl; have i4 := hX.c 1 4 rfl rfl; have i5 := hX.c 1 5 rfl rfl; have i6 := hX.c 1 6 rfl rfl; have i7 := hX.c 1 7 rfl rfl; have i8 := hX.c 1 8 rfl rfl; have i9 := hX.c 1 9 rfl rfl))
  go_ret
  exact ⟨rfl, by first | exact hX.below | exact hBB ▸ hX.below⟩

theorem unique_law (o : Int) (b : Bool) (m : Int) (r : Int) (x : Int) (p : Int) (q : Int) (y : Int) (g : Int) (n : Int) (o2 : Int) (b2 : Bool) (m2 : Int) (r2 : Int) (x2 : Int) (p2 : Int) (q2 : Int) (y2 : Int) (g2 : Int) (n2 : Int) {A : Addr} {c : Nat} (W0 : World) (W : Frm A c W0) : Calls Tryd.prog 7 #[.agg #[.int .i64 o, .bool b, .int .i64 m, .int .i64 r, .int .i64 x, .int .i64 p, .int .i64 q, .int .i64 y, .int .i64 g, .int .i64 n], .agg #[.int .i64 o2, .bool b2, .int .i64 m2, .int .i64 r2, .int .i64 x2, .int .i64 p2, .int .i64 q2, .int .i64 y2, .int .i64 g2, .int .i64 n2]] W0 fun e w' => e = .returned (.bool true) ∧ Below W0.heap.size W0 w' := by
  cases hv : vR ⟨o, b, m, r, x, p, q, y, g, n⟩
  · exact un_bad1 o b m r x p q y g n o2 b2 m2 r2 x2 p2 q2 y2 g2 n2 hv W0 W
  · cases hw : vR ⟨o2, b2, m2, r2, x2, p2, q2, y2, g2, n2⟩
    · exact un_bad2 o b m r x p q y g n o2 b2 m2 r2 x2 p2 q2 y2 g2 n2 hv hw W0 W
    · by_cases d0 : o = o2
      rotate_left
      · exact un_0 o b m r x p q y g n o2 b2 m2 r2 x2 p2 q2 y2 g2 n2 d0 hv hw W0 W
      subst d0
      by_cases d1 : b = b2
      rotate_left
      · exact un_1 o b m r x p q y g n b2 m2 r2 x2 p2 q2 y2 g2 n2 d1 hv hw W0 W
      subst d1
      by_cases d2 : m = m2
      rotate_left
      · exact un_2 o b m r x p q y g n m2 r2 x2 p2 q2 y2 g2 n2 d2 hv hw W0 W
      subst d2
      by_cases d3 : r = r2
      rotate_left
      · exact un_3 o b m r x p q y g n r2 x2 p2 q2 y2 g2 n2 d3 hv hw W0 W
      subst d3
      by_cases d4 : x = x2
      rotate_left
      · exact un_4 o b m r x p q y g n x2 p2 q2 y2 g2 n2 d4 hv hw W0 W
      subst d4
      by_cases d5 : p = p2
      rotate_left
      · exact un_5 o b m r x p q y g n p2 q2 y2 g2 n2 d5 hv hw W0 W
      subst d5
      by_cases d6 : q = q2
      rotate_left
      · exact un_6 o b m r x p q y g n q2 y2 g2 n2 d6 hv hw W0 W
      subst d6
      by_cases d7 : y = y2
      rotate_left
      · exact un_7 o b m r x p q y g n y2 g2 n2 d7 hv hw W0 W
      subst d7
      by_cases d8 : g = g2
      rotate_left
      · exact un_8 o b m r x p q y g n g2 n2 d8 hv hw W0 W
      subst d8
      by_cases d9 : n = n2
      rotate_left
      · exact un_9 o b m r x p q y g n n2 d9 hv hw W0 W
      subst d9
      exact un_eq o b m r x p q y g n hv W0 W

end Go.Proofs.YtlaikajgpgpidaaDoor
