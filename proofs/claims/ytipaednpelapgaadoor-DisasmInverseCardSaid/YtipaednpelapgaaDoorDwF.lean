/-
  Walks over source and destination of package disasm. Condition: the tables read as the program's text lays them.
-/
import Derived.Test.YtipaednpelapgaaDoorDwE
namespace Go.Proofs.YtipaednpelapgaaDoor
open Go.RowKit
set_option linter.unusedSimpArgs false
set_option linter.unusedVariables false
set_option maxHeartbeats 8000000
set_option maxRecDepth 100000
attribute [local irreducible] wpQuiet

theorem opT_mod (m r x : Int) {nx ny : Int} (h : nx % 65536 = ny % 65536) : opT m r x nx = opT m r x ny := by
  have e : nuT (x + nx) = nuT (x + ny) := nuT_mod (by omega)
  unfold opT diT
  rw [e]
theorem lenR_rng (i : In) : 0 ≤ lenR i ∧ lenR i ≤ 3 := by
  unfold lenR nR bi
  repeat' split
  all_goals omega
theorem dsrc_any (o : Int) (b : Bool) (m r x p q y g n a : Int) {A : Addr} {c : Nat} (W0 : World) (W : Dis A c W0) :
    Calls Tryd.prog 48 #[.agg #[.int .i64 o, .bool b, .int .i64 m, .int .i64 r, .int .i64 x, .int .i64 p, .int .i64 q, .int .i64 y, .int .i64 g, .int .i64 n], .int .i64 a] W0 fun e w' => e = .returned (.string ⟨(srT ⟨o, b, m, r, x, p, q, y, g, n⟩ a).toArray⟩) ∧ Below W0.heap.size W0 w' := by
  have hX := (St.start W.frm).put [.int .i64 o, .bool b, .int .i64 m, .int .i64 r, .int .i64 x, .int .i64 p, .int .i64 q, .int .i64 y, .int .i64 g, .int .i64 n] 33
  have hf := fun w D => dopr_any m r x (wrap64 (a + 4)) (A := A) (c := c) w D
  rw [show opT m r x (wrap64 (a + 4)) = srT ⟨o, b, m, r, x, p, q, y, g, n⟩ a from opT_mod m r x (wrap_mod _)] at hf
  generalize srT ⟨o, b, m, r, x, p, q, y, g, n⟩ a = S at *
  obtain ⟨i0, i1, i2, i3, i4, i5, i6, i7, i8, i9⟩ := hX.ten 0 rfl
  go_enter Tryd.func48, Tryd.ntmps48
  go_wp2_with (first | (go_at_call 13; with_reducible refine (hf _ (hX.dis W)).mono ?_; rintro e w' ⟨rfl, hb⟩; have hX := hX.step hb; clear hb))
  go_ret
  exact ⟨rfl, hX.below⟩

theorem ddst_any (o : Int) (b : Bool) (m r x p q y g n a : Int) {A : Addr} {c : Nat} (W0 : World) (W : Dis A c W0) :
    Calls Tryd.prog 49 #[.agg #[.int .i64 o, .bool b, .int .i64 m, .int .i64 r, .int .i64 x, .int .i64 p, .int .i64 q, .int .i64 y, .int .i64 g, .int .i64 n], .int .i64 a] W0 fun e w' => e = .returned (.string ⟨(dsT ⟨o, b, m, r, x, p, q, y, g, n⟩ a).toArray⟩) ∧ Below W0.heap.size W0 w' := by
  have hX := (St.start W.frm).put [.int .i64 o, .bool b, .int .i64 m, .int .i64 r, .int .i64 x, .int .i64 p, .int .i64 q, .int .i64 y, .int .i64 g, .int .i64 n] 33
  have hl := fun w (k : Frm A c w) => Length_any o b m r x p q y g n w k
  have hf := fun w D => dopr_any p q y (wrap64 (a + lenR ⟨o, b, m, r, x, p, q, y, g, n⟩ * 2)) (A := A) (c := c) w D
  rw [show opT p q y (wrap64 (a + lenR ⟨o, b, m, r, x, p, q, y, g, n⟩ * 2)) = dsT ⟨o, b, m, r, x, p, q, y, g, n⟩ a from opT_mod p q y (wrap_mod _)] at hf
  have hr := lenR_rng ⟨o, b, m, r, x, p, q, y, g, n⟩
  generalize dsT ⟨o, b, m, r, x, p, q, y, g, n⟩ a = S at *
  generalize lenR ⟨o, b, m, r, x, p, q, y, g, n⟩ = L at *
  have h1 : IntKind.i64.wrap (L * 2) = L * 2 := by rw [wrap_i64]; unfold wrap64; omega
  have h2 : IntKind.i64.wrap (a + L * 2) = wrap64 (a + L * 2) := wrap_i64 _
  generalize wrap64 (a + L * 2) = NX at *
  obtain ⟨i0, i1, i2, i3, i4, i5, i6, i7, i8, i9⟩ := hX.ten 0 rfl
  go_enter Tryd.func49, Tryd.ntmps49
  go_upto_region 1 with fail
  generalize W0.alloc (.cells #[.int .i64 o, .bool b, .int .i64 m, .int .i64 r, .int .i64 x, .int .i64 p, .int .i64 q, .int .i64 y, .int .i64 g, .int .i64 n] 33) = w1 at *
  generalize hBB : W0.heap.size = B at hX i0 i1 i2 i3 i4 i5 i6 i7 i8 i9 ⊢
  refine region_class (fun w' => St A c [(B, [.int .i64 o, .bool b, .int .i64 m, .int .i64 r, .int .i64 x, .int .i64 p, .int .i64 q, .int .i64 y, .int .i64 g, .int .i64 n])] W0 w') (by kernel_rfl) (by kernel_rfl) hX.drew ?_
  clear hX i0 i1 i2 i3 i4 i5 i6 i7 i8 i9
  repeat
    first
      | (refine BigFrame.wpQuiet_skip (by rfl) ?_
         simp only [Act.put, List.setIfInBounds_toArray, List.set_cons_zero, List.set_cons_succ])
      | (refine BigFrame.wpQuiet_want (by rfl) (fun K hK => ?_)
         apply Exists.intro
         refine ⟨fun wq hq => ?_, hK _ ?_⟩
         · obtain ⟨i0, i1, i2, i3, i4, i5, i6, i7, i8, i9⟩ := hq.ten 0 rfl
           unfold Oper.quietAt
           go_simp
           first
             | with_reducible rfl
             | ((go_at_call 68); with_reducible refine (hl _ hq.frm).mono ?_; exact fun e w' ⟨he, hb⟩ => ⟨he, hq.step hb⟩)
             | ((go_at_call 13); with_reducible refine (hf _ (hq.dis W)).mono ?_; exact fun e w' ⟨he, hb⟩ => ⟨he, hq.step hb⟩)
         clear hK K
         simp only [Act.put, List.setIfInBounds_toArray, List.set_cons_zero, List.set_cons_succ])
  refine wpQuiet_nil ?_
  intro w4 hX
  go_wp2
  go_ret
  exact ⟨rfl, by first | exact hX.below | exact hBB ▸ hX.below⟩

end Go.Proofs.YtipaednpelapgaaDoor
