/-
  Walks over valid, and over the fields of an instruction to and from a word. Condition: the tables read as the program's text lays them.
-/
import Derived.Test.YtdbbnkjnmldnpaaGreatDoorInE
import Derived.Test.YtdbbnkjnmldnpaaGreatDoorLast
namespace Go.Proofs.YtdbbnkjnmldnpaaGreatDoor
open Go.RowKit
set_option linter.unusedSimpArgs false
set_option linter.unusedVariables false
set_option maxHeartbeats 40000000
set_option maxRecDepth 100000
attribute [local irreducible] wpQuiet

theorem instvalid_any (f l d a e0 e1 e2 e3 e4 e5 : Int) (h3 : IsM e3) (h4 : 0 ≤ e4 ∧ e4 ≤ 255) (h5 : -128 ≤ e5 ∧ e5 ≤ 0) (o : Int) (b : Bool) (m r x p q y g n : Int) {A : Addr} {c : Nat} (W0 : World) (W : Frm A c W0) :
    Calls Tryz.prog 44 #[.agg #[.int .i64 o, .bool b, .int .i64 m, .int .i64 r, .int .i64 x, .int .i64 p, .int .i64 q, .int .i64 y, .int .i64 g, .int .i64 n], .agg #[.int .i64 f, .int .i64 l, .int .i64 d, .int .i64 a, .int .i64 e0, .int .i64 e1, .int .i64 e2, .int .i64 e3, .int .i64 e4, .int .i64 e5]] W0 fun e w' => e = .returned (.bool (hoR ⟨f, l, d, a, e0, e1, e2, e3, e4, e5⟩ ⟨o, b, m, r, x, p, q, y, g, n⟩ && !fbR ⟨o, b, m, r, x, p, q, y, g, n⟩)) ∧ Below W0.heap.size W0 w' := by
  have hH := fun w (k : Frm A c w) => holds_any f l d a e0 e1 e2 e3 e4 e5 h3 h4 h5 o b m r x p q y g n w k
  have hF := fun w => forbidden_any o b m r x p q y g n w
  have hX := St.put2 W [.int .i64 o, .bool b, .int .i64 m, .int .i64 r, .int .i64 x, .int .i64 p, .int .i64 q, .int .i64 y, .int .i64 g, .int .i64 n] [.int .i64 f, .int .i64 l, .int .i64 d, .int .i64 a, .int .i64 e0, .int .i64 e1, .int .i64 e2, .int .i64 e3, .int .i64 e4, .int .i64 e5] 36 69
  generalize hoR ⟨f, l, d, a, e0, e1, e2, e3, e4, e5⟩ ⟨o, b, m, r, x, p, q, y, g, n⟩ = H at *
  generalize fbR ⟨o, b, m, r, x, p, q, y, g, n⟩ = G at *
  cases H
  all_goals
    go_enter Tryz.func44, Tryz.ntmps44
    go_wp2_with fail
    obtain ⟨c0, c1, c2, c3, c4, c5, c6, c7, c8, c9⟩ := hX.ten 0 rfl; obtain ⟨i0, i1, i2, i3, i4, i5, i6, i7, i8, i9⟩ := hX.ten 1 rfl
    generalize (W0.alloc (.cells #[.int .i64 o, .bool b, .int .i64 m, .int .i64 r, .int .i64 x, .int .i64 p, .int .i64 q, .int .i64 y, .int .i64 g, .int .i64 n] 36)).alloc (.cells #[.int .i64 f, .int .i64 l, .int .i64 d, .int .i64 a, .int .i64 e0, .int .i64 e1, .int .i64 e2, .int .i64 e3, .int .i64 e4, .int .i64 e5] 69) = w1 at *
    generalize hCC : W0.heap.size + 1 = C at hX c0 c1 c2 c3 c4 c5 c6 c7 c8 c9 i0 i1 i2 i3 i4 i5 i6 i7 i8 i9 ⊢
    generalize hBB : W0.heap.size = B at hX c0 c1 c2 c3 c4 c5 c6 c7 c8 c9 i0 i1 i2 i3 i4 i5 i6 i7 i8 i9 ⊢
    go_wp2_with (first | (go_at_call 72; with_reducible refine (hH _ hX.frm).mono ?_; rintro e w' ⟨rfl, hb⟩; have hX := hX.step hb; obtain ⟨c0, c1, c2, c3, c4, c5, c6, c7, c8, c9⟩ := hX.ten 0 rfl; obtain ⟨i0, i1, i2, i3, i4, i5, i6, i7, i8, i9⟩ := hX.ten 1 rfl; clear hb) | (go_at_call 73; with_reducible refine (hF _).mono ?_; rintro e w' ⟨rfl, hb⟩; have hX := hX.step hb; obtain ⟨c0, c1, c2, c3, c4, c5, c6, c7, c8, c9⟩ := hX.ten 0 rfl; obtain ⟨i0, i1, i2, i3, i4, i5, i6, i7, i8, i9⟩ := hX.ten 1 rfl; clear hb))
    go_ret
    exact ⟨rfl, by first | exact hX.below | exact hBB ▸ hX.below⟩

theorem instread_any (f l d a e0 e1 e2 e3 e4 e5 : Int) (h1 : IsM e1) (h2 : IsM e2) (h3 : IsM e3) (h4 : IsM e4) (h44 : 0 ≤ e4 ∧ e4 ≤ 255) (h5 : -128 ≤ e5 ∧ e5 ≤ 0) (w : Int) (hw : 0 ≤ w ∧ w ≤ 65535) {A : Addr} {c : Nat} (W0 : World) (W : Frm A c W0) :
    Calls Tryz.prog 78 #[.agg #[.int .i64 e0, .int .i64 e1, .int .i64 e2, .int .i64 e3, .int .i64 e4, .int .i64 e5], .int .i64 w] W0 fun e w' => e = .returned (.agg #[.int .i64 0, .bool (!decide (bits .and .i64 w e0 = 0)), .int .i64 (takeR w e1 / 8 % 8), .int .i64 (takeR w e1 % 8), .int .i64 0, .int .i64 (takeR w e2 / 8 % 8), .int .i64 (takeR w e2 % 8), .int .i64 0, .int .i64 (takeR w e3), .int .i64 (numR e4 e5 (takeR w e4))]) ∧ Below W0.heap.size W0 w' := by
  have hT1 := fun w' (k : Frm A c w') => take_any w e1 h1 hw w' k
  have hT2 := fun w' (k : Frm A c w') => take_any w e2 h2 hw w' k
  have hT3 := fun w' (k : Frm A c w') => take_any w e3 h3 hw w' k
  have hT4 := fun w' (k : Frm A c w') => take_any w e4 h4 hw w' k
  have hF1 := fun w' => from_any (takeR w e1) w'
  have hF2 := fun w' => from_any (takeR w e2) w'
  have hN := fun w' => number_any e0 e1 e2 e3 e4 e5 (takeR w e4) h44 h5 (takeR_bd w e4 h4) w'
  have hX := St.put2 W [.int .i64 e0, .int .i64 e1, .int .i64 e2, .int .i64 e3, .int .i64 e4, .int .i64 e5] [.int .i64 0, .bool false, .int .i64 0, .int .i64 0, .int .i64 0, .int .i64 0, .int .i64 0, .int .i64 0, .int .i64 0, .int .i64 0] 67 36
  have hz : (!decide (bits .and .i64 w e0 = 0)) = (bits .and .i64 w e0 != 0) := by by_cases h : bits .and .i64 w e0 = 0 <;> simp [h]
  rw [hz]
  clear hz
  generalize numR e4 e5 (takeR w e4) = N at *
  generalize takeR w e1 = T1 at *
  generalize takeR w e2 = T2 at *
  generalize takeR w e3 = T3 at *
  generalize takeR w e4 = T4 at *
  generalize T1 / 8 % 8 = M1 at *
  generalize T1 % 8 = R1 at *
  generalize T2 / 8 % 8 = M2 at *
  generalize T2 % 8 = R2 at *
  go_enter Tryz.func78, Tryz.ntmps78
  go_wp2_with fail
  obtain ⟨i0, i1, i2, i3, i4, i5, i6, i7, i8, i9⟩ := hX.ten 0 rfl; have c0 := hX.c 1 0 rfl rfl; have c1 := hX.c 1 1 rfl rfl; have c2 := hX.c 1 2 rfl rfl; have c3 := hX.c 1 3 rfl rfl; have c4 := hX.c 1 4 rfl rfl; have c5 := hX.c 1 5 rfl rfl
  generalize (W0.alloc (.cells #[.int .i64 e0, .int .i64 e1, .int .i64 e2, .int .i64 e3, .int .i64 e4, .int .i64 e5] 67)).alloc (.cells #[.int .i64 0, .bool false, .int .i64 0, .int .i64 0, .int .i64 0, .int .i64 0, .int .i64 0, .int .i64 0, .int .i64 0, .int .i64 0] 36) = w1 at *
  generalize hCC : W0.heap.size + 1 = C at hX i0 i1 i2 i3 i4 i5 i6 i7 i8 i9 c0 c1 c2 c3 c4 c5 ⊢
  generalize hBB : W0.heap.size = B at hX i0 i1 i2 i3 i4 i5 i6 i7 i8 i9 c0 c1 c2 c3 c4 c5 ⊢
  refine region_class_last (fun w' => St A c [(C, [.int .i64 0, .bool false, .int .i64 0, .int .i64 0, .int .i64 0, .int .i64 0, .int .i64 0, .int .i64 0, .int .i64 0, .int .i64 0]), (B, [.int .i64 e0, .int .i64 e1, .int .i64 e2, .int .i64 e3, .int .i64 e4, .int .i64 e5])] W0 w') 26 _ (by kernel_rfl) (by rfl) (by rfl) (by rfl) (by kernel_rfl) (by kernel_rfl) (by kernel_rfl) hX.drew ?_
  simp only [blankLast, List.take_succ_cons, List.take_zero, List.drop_succ_cons, List.drop_zero, List.map_cons, List.map_nil, List.cons_append, List.nil_append, blank]
  clear hX i0 i1 i2 i3 i4 i5 i6 i7 i8 i9 c0 c1 c2 c3 c4 c5
  repeat
    first
      | (refine BigFrame.wpQuiet_skip (by rfl) ?_
         simp only [Act.put, List.setIfInBounds_toArray, List.set_cons_zero, List.set_cons_succ])
      | (refine BigFrame.wpQuiet_want (by rfl) (fun K hK => ?_)
         apply Exists.intro
         refine ⟨fun wq hq => ?_, hK _ ?_⟩
         · obtain ⟨i0, i1, i2, i3, i4, i5, i6, i7, i8, i9⟩ := hq.ten 0 rfl; have c0 := hq.c 1 0 rfl rfl; have c1 := hq.c 1 1 rfl rfl; have c2 := hq.c 1 2 rfl rfl; have c3 := hq.c 1 3 rfl rfl; have c4 := hq.c 1 4 rfl rfl; have c5 := hq.c 1 5 rfl rfl
           unfold Oper.quietAt
           go_simp
           first
             | with_reducible rfl
             | ((go_at_call 86); with_reducible refine (hT1 _ hq.frm).mono ?_; exact fun e w' ⟨he, hb⟩ => ⟨he, hq.step hb⟩)
             | ((go_at_call 86); with_reducible refine (hT2 _ hq.frm).mono ?_; exact fun e w' ⟨he, hb⟩ => ⟨he, hq.step hb⟩)
             | ((go_at_call 86); with_reducible refine (hT3 _ hq.frm).mono ?_; exact fun e w' ⟨he, hb⟩ => ⟨he, hq.step hb⟩)
             | ((go_at_call 86); with_reducible refine (hT4 _ hq.frm).mono ?_; exact fun e w' ⟨he, hb⟩ => ⟨he, hq.step hb⟩)
             | ((go_at_call 90); with_reducible refine (hF1 _).mono ?_; exact fun e w' ⟨he, hb⟩ => ⟨he, hq.step hb⟩)
             | ((go_at_call 90); with_reducible refine (hF2 _).mono ?_; exact fun e w' ⟨he, hb⟩ => ⟨he, hq.step hb⟩)
             | ((go_at_call 91); with_reducible refine (hN _).mono ?_; exact fun e w' ⟨he, hb⟩ => ⟨he, hq.step hb⟩)
         clear hK K
         simp only [Act.put, List.setIfInBounds_toArray, List.set_cons_zero, List.set_cons_succ])
  refine wpQuiet_nil ?_
  intro w4 hX
  obtain ⟨i0, i1, i2, i3, i4, i5, i6, i7, i8, i9⟩ := hX.ten 0 rfl; have c0 := hX.c 1 0 rfl rfl; have c1 := hX.c 1 1 rfl rfl; have c2 := hX.c 1 2 rfl rfl; have c3 := hX.c 1 3 rfl rfl; have c4 := hX.c 1 4 rfl rfl; have c5 := hX.c 1 5 rfl rfl
  obtain ⟨z0, z1, z2, z3, z4, z5, z6, z7, z8, z9⟩ := hX.tenz 0 rfl
  go_wp2_with fail
  have hne : B ≠ C := by omega
  have hlow : W0.heap.size ≤ C := by omega
  have hX := hX.store 0 0 (.int .i64 0) rfl (by simp) hlow (ne2 hne _ _)
  have hX := hX.store 0 1 (.bool (bits .and .i64 w e0 != 0)) rfl (by simp) hlow (ne2 hne _ _)
  have hX := hX.store 0 2 (.int .i64 M1) rfl (by simp) hlow (ne2 hne _ _)
  have hX := hX.store 0 3 (.int .i64 R1) rfl (by simp) hlow (ne2 hne _ _)
  have hX := hX.store 0 4 (.int .i64 0) rfl (by simp) hlow (ne2 hne _ _)
  have hX := hX.store 0 5 (.int .i64 M2) rfl (by simp) hlow (ne2 hne _ _)
  have hX := hX.store 0 6 (.int .i64 R2) rfl (by simp) hlow (ne2 hne _ _)
  have hX := hX.store 0 7 (.int .i64 0) rfl (by simp) hlow (ne2 hne _ _)
  have hX := hX.store 0 8 (.int .i64 T3) rfl (by simp) hlow (ne2 hne _ _)
  have hX := hX.store 0 9 (.int .i64 N) rfl (by simp) hlow (ne2 hne _ _)
  refine end_box (v := .agg #[.int .i64 0, .bool (bits .and .i64 w e0 != 0), .int .i64 M1, .int .i64 R1, .int .i64 0, .int .i64 M2, .int .i64 R2, .int .i64 0, .int .i64 T3, .int .i64 N]) hX (fun w5 k => ?_) rfl ⟨rfl, by first | exact hX.below | exact hBB ▸ hX.below⟩
  have c0 := k.c 0 _ rfl
  have c1 := k.c 1 _ rfl
  have c2 := k.c 2 _ rfl
  have c3 := k.c 3 _ rfl
  have c4 := k.c 4 _ rfl
  have c5 := k.c 5 _ rfl
  have c6 := k.c 6 _ rfl
  have c7 := k.c 7 _ rfl
  have c8 := k.c 8 _ rfl
  have c9 := k.c 9 _ rfl
  simp [results, Tryz.results78, go_sem, c0, c1, c2, c3, c4, c5, c6, c7, c8, c9]

end Go.Proofs.YtdbbnkjnmldnpaaGreatDoor
