import Derived.Test.YtdbbnkjnmldnpaaGreatDoorDwE
import Derived.Test.YtdbbnkjnmldnpaaGreatDoorTail
/-
  Walks over source and destination of package disasm. Condition: the tables read as the program's text lays them.
-/
namespace Go.Proofs.YtdbbnkjnmldnpaaGreatDoor
open Go.RowKit
set_option linter.unusedSimpArgs false
set_option linter.unusedVariables false
set_option maxHeartbeats 8000000
set_option maxRecDepth 100000
attribute [local irreducible] wpQuiet

theorem opT_mod (m r x : Int) {nx ny : Int} (h : nx % 65536 = ny % 65536) : opT m r x nx = opT m r x ny := by
  have e : nuT (x + nx) = nuT (x + ny) := nuT_mod (by omega)
  unfold opT diT
  rw [e]
theorem lenR_rng (i : In) : 0 ≤ lenR i ∧ lenR i ≤ 3 := by
  unfold lenR nR bi
  repeat' split
  all_goals omega
theorem dsrc_any (o : Int) (b : Bool) (m r x p q y g n a : Int) {A : Addr} {c : Nat} (W0 : World) (W : Dis A c W0) :
    Calls Tryz.prog 45 #[.agg #[.int .i64 o, .bool b, .int .i64 m, .int .i64 r, .int .i64 x, .int .i64 p, .int .i64 q, .int .i64 y, .int .i64 g, .int .i64 n], .int .i64 a] W0 fun e w' => e = .returned (.string ⟨(srT ⟨o, b, m, r, x, p, q, y, g, n⟩ a).toArray⟩) ∧ Below W0.heap.size W0 w' := by
  have hX := (St.start W.frm).put [.int .i64 o, .bool b, .int .i64 m, .int .i64 r, .int .i64 x, .int .i64 p, .int .i64 q, .int .i64 y, .int .i64 g, .int .i64 n] 36
  have hf := fun w D => dopr_any m r x (wrap64 (a + 4)) (A := A) (c := c) w D
  rw [show opT m r x (wrap64 (a + 4)) = srT ⟨o, b, m, r, x, p, q, y, g, n⟩ a from opT_mod m r x (wrap_mod _)] at hf
  generalize srT ⟨o, b, m, r, x, p, q, y, g, n⟩ a = S at *
  obtain ⟨i0, i1, i2, i3, i4, i5, i6, i7, i8, i9⟩ := hX.ten 0 rfl
  go_enter Tryz.func45, Tryz.ntmps45
  go_wp2_with (first | (go_at_call 9; with_reducible refine (hf _ (hX.dis W)).mono ?_; rintro e w' ⟨rfl, hb⟩; have hX := hX.step hb; clear hb))
  go_ret
  exact ⟨rfl, hX.below⟩

theorem ddst_any (o : Int) (b : Bool) (m r x p q y g n a : Int) {A : Addr} {c : Nat} (W0 : World) (W : Dis A c W0) :
    Calls Tryz.prog 46 #[.agg #[.int .i64 o, .bool b, .int .i64 m, .int .i64 r, .int .i64 x, .int .i64 p, .int .i64 q, .int .i64 y, .int .i64 g, .int .i64 n], .int .i64 a] W0 fun e w' => e = .returned (.string ⟨(dsT ⟨o, b, m, r, x, p, q, y, g, n⟩ a).toArray⟩) ∧ Below W0.heap.size W0 w' := by
  have hX := (St.start W.frm).put [.int .i64 o, .bool b, .int .i64 m, .int .i64 r, .int .i64 x, .int .i64 p, .int .i64 q, .int .i64 y, .int .i64 g, .int .i64 n] 36
  have hl := fun w (k : Frm A c w) => Length_any o b m r x p q y g n w k
  have hf := fun w D => dopr_any p q y (wrap64 (a + lenR ⟨o, b, m, r, x, p, q, y, g, n⟩ * 2)) (A := A) (c := c) w D
  rw [show opT p q y (wrap64 (a + lenR ⟨o, b, m, r, x, p, q, y, g, n⟩ * 2)) = dsT ⟨o, b, m, r, x, p, q, y, g, n⟩ a from opT_mod p q y (wrap_mod _)] at hf
  have hr := lenR_rng ⟨o, b, m, r, x, p, q, y, g, n⟩
  generalize dsT ⟨o, b, m, r, x, p, q, y, g, n⟩ a = S at *
  generalize lenR ⟨o, b, m, r, x, p, q, y, g, n⟩ = L at *
  have h1 : IntKind.i64.wrap (L * 2) = L * 2 := by rw [wrap_i64]; unfold wrap64; omega
  have h2 : IntKind.i64.wrap (a + L * 2) = wrap64 (a + L * 2) := wrap_i64 _
  generalize wrap64 (a + L * 2) = NX at *
  obtain ⟨i0, i1, i2, i3, i4, i5, i6, i7, i8, i9⟩ := hX.ten 0 rfl
  go_enter Tryz.func46, Tryz.ntmps46
  go_upto_region 1 with fail
  generalize W0.alloc (.cells #[.int .i64 o, .bool b, .int .i64 m, .int .i64 r, .int .i64 x, .int .i64 p, .int .i64 q, .int .i64 y, .int .i64 g, .int .i64 n] 36) = w1 at *
  generalize hBB : W0.heap.size = B at hX i0 i1 i2 i3 i4 i5 i6 i7 i8 i9 ⊢
  refine region_class (fun w' => St A c [(B, [.int .i64 o, .bool b, .int .i64 m, .int .i64 r, .int .i64 x, .int .i64 p, .int .i64 q, .int .i64 y, .int .i64 g, .int .i64 n])] W0 w') (by kernel_rfl) (by kernel_rfl) hX.drew ?_
  clear hX i0 i1 i2 i3 i4 i5 i6 i7 i8 i9
  repeat
    first
      | (refine BigFrame.wpQuiet_skip (by rfl) ?_
         simp only [Act.put, List.setIfInBounds_toArray, List.set_cons_zero, List.set_cons_succ])
      | (refine BigFrame.wpQuiet_want (by rfl) (fun K hK => ?_)
         apply Exists.intro
         refine ⟨fun wq hq => ?_, hK _ ?_⟩
         · obtain ⟨i0, i1, i2, i3, i4, i5, i6, i7, i8, i9⟩ := hq.ten 0 rfl
           unfold Oper.quietAt
           go_simp
           first
             | with_reducible rfl
             | ((go_at_call 74); with_reducible refine (hl _ hq.frm).mono ?_; exact fun e w' ⟨he, hb⟩ => ⟨he, hq.step hb⟩)
             | ((go_at_call 9); with_reducible refine (hf _ (hq.dis W)).mono ?_; exact fun e w' ⟨he, hb⟩ => ⟨he, hq.step hb⟩)
         clear hK K
         simp only [Act.put, List.setIfInBounds_toArray, List.set_cons_zero, List.set_cons_succ])
  refine wpQuiet_nil ?_
  intro w4 hX
  go_wp2
  go_ret
  exact ⟨rfl, by first | exact hX.below | exact hBB ▸ hX.below⟩

end Go.Proofs.YtdbbnkjnmldnpaaGreatDoor

/-
  Walks over arguments of package disasm (seven operations with two operands). Condition: the tables read as the program's text lays them; the register is one.
-/
namespace Go.Proofs.YtdbbnkjnmldnpaaGreatDoor
open Go.RowKit
set_option linter.unusedSimpArgs false
set_option linter.unusedVariables false
set_option maxHeartbeats 40000000
set_option maxRecDepth 100000
attribute [local irreducible] wpQuiet

/-- A slice of texts. -/
def Strs (w : World) (v : Value) (l : List (List UInt8)) : Prop :=
  (l = [] ∧ v = .slice none 0 0) ∨ ∃ bk c, v = .slice (some ⟨bk, 0, none⟩) l.length c ∧ l.length ≤ c ∧ (∀ (k : Nat) (s : List UInt8), l[k]? = some s → w.cell? ⟨bk, k, none⟩ = some (.string ⟨s.toArray⟩)) ∧ bk < w.heap.size
theorem Strs.one (w : World) (S : List UInt8) (t : TypeId) : Strs (w.alloc (.cells #[.string ⟨S.toArray⟩] t)) (.slice (some ⟨w.heap.size, 0, none⟩) 1 1) [S] :=
  Or.inr ⟨w.heap.size, 1, rfl, Nat.le_refl _, fun k s h => by
    match k, h with
    | 0, h => cases h; simp
    | k + 1, h => simp at h, by simp⟩
theorem Strs.two (w : World) (S D : List UInt8) (t : TypeId) : Strs (w.alloc (.cells #[.string ⟨S.toArray⟩, .string ⟨D.toArray⟩] t)) (.slice (some ⟨w.heap.size, 0, none⟩) 2 2) [S, D] :=
  Or.inr ⟨w.heap.size, 2, rfl, Nat.le_refl _, fun k s h => by
    match k, h with
    | 0, h => cases h; simp
    | 1, h => cases h; simp
    | k + 2, h => simp at h, by simp⟩
theorem Strs.none (w : World) : Strs w (.slice none 0 0) [] := Or.inl ⟨rfl, rfl⟩

theorem darg_a (o : Int) (b : Bool) (m r x p q y g n a : Int) (ho : o = 1 ∨ o = 2 ∨ o = 3 ∨ o = 4 ∨ o = 5 ∨ o = 6 ∨ o = 7) (hg : 0 ≤ g ∧ g ≤ 7) {A : Addr} {c : Nat} (W0 : World) (W : Dis A c W0) :
    Calls Tryz.prog 23 #[.agg #[.int .i64 o, .bool b, .int .i64 m, .int .i64 r, .int .i64 x, .int .i64 p, .int .i64 q, .int .i64 y, .int .i64 g, .int .i64 n], .int .i64 a] W0 fun e w' => ∃ v, e = .returned v ∧ Strs w' v (agT ⟨o, b, m, r, x, p, q, y, g, n⟩ a) ∧ Below W0.heap.size W0 w' := by
  obtain ⟨G, rfl⟩ : ∃ k : Nat, g = (k : Int) := ⟨g.toNat, by omega⟩
  have hG : G < 8 := by omega
  have hG2 : (G : Int) < 8 := by omega
  have hs := fun w D => dsrc_any o b m r x p q y G n a (A := A) (c := c) w D
  have hd := fun w D => ddst_any o b m r x p q y G n a (A := A) (c := c) w D
  have ht := fun w (D : Dis A c w) => dtgt_any a n w D.tb
  have hu := fun w (D : Dis A c w) => dtgt_any a (-n) w D.tb
  have hn := fun w (D : Dis A c w) => dnum_any n w D.tb
  have hrg := fun w (D : Dis A c w) => rg_at D.rg G hG
  have e : agT ⟨o, b, m, r, x, p, q, y, G, n⟩ a = [srT ⟨o, b, m, r, x, p, q, y, G, n⟩ a, dsT ⟨o, b, m, r, x, p, q, y, G, n⟩ a] := by rcases ho with rfl | rfl | rfl | rfl | rfl | rfl | rfl <;> simp [agT]
  rw [e]
  clear e hg
  generalize srT ⟨o, b, m, r, x, p, q, y, G, n⟩ a = S at *
  generalize dsT ⟨o, b, m, r, x, p, q, y, G, n⟩ a = D at *
  generalize tgT a n = T at *
  generalize tgT a (-n) = U at *
  generalize nuT n = V at *
  generalize rgT G = R at *
  have hX := (St.start W.frm).put [.int .i64 o, .bool b, .int .i64 m, .int .i64 r, .int .i64 x, .int .i64 p, .int .i64 q, .int .i64 y, .int .i64 G, .int .i64 n] 36
  obtain ⟨C, hC⟩ : ∃ C : World → Prop, C = fun w' => St A c [(W0.heap.size, [.int .i64 o, .bool b, .int .i64 m, .int .i64 r, .int .i64 x, .int .i64 p, .int .i64 q, .int .i64 y, .int .i64 G, .int .i64 n])] W0 w' := ⟨_, rfl⟩
  rcases ho with rfl | rfl | rfl | rfl | rfl | rfl | rfl
  all_goals
    obtain ⟨i0, i1, i2, i3, i4, i5, i6, i7, i8, i9⟩ := hX.ten 0 rfl
    go_enter Tryz.func23, Tryz.ntmps23
    go_upto_region 9 with fail
    refine region_class_tail C 6 (by kernel_rfl) (by kernel_rfl) (by rw [hC]; exact hX.drew) ?_
    clear hX i0 i1 i2 i3 i4 i5 i6 i7 i8 i9
    simp only [List.take_succ_cons, List.take_zero]
    repeat
      first
        | (refine BigFrame.wpQuiet_skip (by rfl) ?_
           simp only [Act.put, List.setIfInBounds_toArray, List.set_cons_zero, List.set_cons_succ])
        | (refine BigFrame.wpQuiet_want (by rfl) (fun K hK => ?_)
           apply Exists.intro
           refine ⟨fun wq hq => ?_, hK _ ?_⟩
           · rw [hC] at hq
             obtain ⟨i0, i1, i2, i3, i4, i5, i6, i7, i8, i9⟩ := hq.ten 0 rfl
             have hR : _ = _ := hrg _ (hq.dis W)
             unfold Oper.quietAt
             go_simp
             first
               | with_reducible rfl
               | ((go_at_call 45); with_reducible refine (hs _ (hq.dis W)).mono ?_; exact fun e w' ⟨he, hb⟩ => ⟨he, by first | exact hq.step hb | (rw [hC]; exact hq.step hb)⟩)
               | ((go_at_call 46); with_reducible refine (hd _ (hq.dis W)).mono ?_; exact fun e w' ⟨he, hb⟩ => ⟨he, by first | exact hq.step hb | (rw [hC]; exact hq.step hb)⟩)
               | ((go_at_call 47); with_reducible refine (ht _ (hq.dis W)).mono ?_; exact fun e w' ⟨he, hb⟩ => ⟨he, by first | exact hq.step hb | (rw [hC]; exact hq.step hb)⟩)
               | ((go_at_call 47); with_reducible refine (hu _ (hq.dis W)).mono ?_; exact fun e w' ⟨he, hb⟩ => ⟨he, by first | exact hq.step hb | (rw [hC]; exact hq.step hb)⟩)
               | ((go_at_call 42); with_reducible refine (hn _ (hq.dis W)).mono ?_; exact fun e w' ⟨he, hb⟩ => ⟨he, by first | exact hq.step hb | (rw [hC]; exact hq.step hb)⟩)
           clear hK K
           simp only [Act.put, List.setIfInBounds_toArray, List.set_cons_zero, List.set_cons_succ])
    refine wpQuiet_nil ?_
    intro w4 hX
    rw [hC] at hX
    simp only [List.drop_succ_cons, List.drop_zero]
    go_wp2
    go_ret
    exact ⟨_, rfl, Strs.two _ _ _ _, (hX.step ((Below.refl _ _).alloc (Nat.le_refl _) _)).below⟩

theorem darg_b (o : Int) (b : Bool) (m r x p q y g n a : Int) (ho : o = 8 ∨ o = 9 ∨ o = 10) (hg : 0 ≤ g ∧ g ≤ 7) {A : Addr} {c : Nat} (W0 : World) (W : Dis A c W0) :
    Calls Tryz.prog 23 #[.agg #[.int .i64 o, .bool b, .int .i64 m, .int .i64 r, .int .i64 x, .int .i64 p, .int .i64 q, .int .i64 y, .int .i64 g, .int .i64 n], .int .i64 a] W0 fun e w' => ∃ v, e = .returned v ∧ Strs w' v (agT ⟨o, b, m, r, x, p, q, y, g, n⟩ a) ∧ Below W0.heap.size W0 w' := by
  obtain ⟨G, rfl⟩ : ∃ k : Nat, g = (k : Int) := ⟨g.toNat, by omega⟩
  have hG : G < 8 := by omega
  have hG2 : (G : Int) < 8 := by omega
  have hs := fun w D => dsrc_any o b m r x p q y G n a (A := A) (c := c) w D
  have hd := fun w D => ddst_any o b m r x p q y G n a (A := A) (c := c) w D
  have ht := fun w (D : Dis A c w) => dtgt_any a n w D.tb
  have hu := fun w (D : Dis A c w) => dtgt_any a (-n) w D.tb
  have hn := fun w (D : Dis A c w) => dnum_any n w D.tb
  have hrg := fun w (D : Dis A c w) => rg_at D.rg G hG
  have e : agT ⟨o, b, m, r, x, p, q, y, G, n⟩ a = [srT ⟨o, b, m, r, x, p, q, y, G, n⟩ a, rgT G] := by rcases ho with rfl | rfl | rfl <;> simp [agT]
  rw [e]
  clear e hg
  generalize srT ⟨o, b, m, r, x, p, q, y, G, n⟩ a = S at *
  generalize dsT ⟨o, b, m, r, x, p, q, y, G, n⟩ a = D at *
  generalize tgT a n = T at *
  generalize tgT a (-n) = U at *
  generalize nuT n = V at *
  generalize rgT G = R at *
  have hX := (St.start W.frm).put [.int .i64 o, .bool b, .int .i64 m, .int .i64 r, .int .i64 x, .int .i64 p, .int .i64 q, .int .i64 y, .int .i64 G, .int .i64 n] 36
  obtain ⟨C, hC⟩ : ∃ C : World → Prop, C = fun w' => St A c [(W0.heap.size, [.int .i64 o, .bool b, .int .i64 m, .int .i64 r, .int .i64 x, .int .i64 p, .int .i64 q, .int .i64 y, .int .i64 G, .int .i64 n])] W0 w' := ⟨_, rfl⟩
  rcases ho with rfl | rfl | rfl
  all_goals
    obtain ⟨i0, i1, i2, i3, i4, i5, i6, i7, i8, i9⟩ := hX.ten 0 rfl
    go_enter Tryz.func23, Tryz.ntmps23
    go_upto_region 13 with fail
    refine region_class_tail C 7 (by kernel_rfl) (by kernel_rfl) (by rw [hC]; exact hX.drew) ?_
    clear hX i0 i1 i2 i3 i4 i5 i6 i7 i8 i9
    simp only [List.take_succ_cons, List.take_zero]
    repeat
      first
        | (refine BigFrame.wpQuiet_skip (by rfl) ?_
           simp only [Act.put, List.setIfInBounds_toArray, List.set_cons_zero, List.set_cons_succ])
        | (refine BigFrame.wpQuiet_want (by rfl) (fun K hK => ?_)
           apply Exists.intro
           refine ⟨fun wq hq => ?_, hK _ ?_⟩
           · rw [hC] at hq
             obtain ⟨i0, i1, i2, i3, i4, i5, i6, i7, i8, i9⟩ := hq.ten 0 rfl
             have hR : _ = _ := hrg _ (hq.dis W)
             unfold Oper.quietAt
             go_simp
             first
               | with_reducible rfl
               | ((go_at_call 45); with_reducible refine (hs _ (hq.dis W)).mono ?_; exact fun e w' ⟨he, hb⟩ => ⟨he, by first | exact hq.step hb | (rw [hC]; exact hq.step hb)⟩)
               | ((go_at_call 46); with_reducible refine (hd _ (hq.dis W)).mono ?_; exact fun e w' ⟨he, hb⟩ => ⟨he, by first | exact hq.step hb | (rw [hC]; exact hq.step hb)⟩)
               | ((go_at_call 47); with_reducible refine (ht _ (hq.dis W)).mono ?_; exact fun e w' ⟨he, hb⟩ => ⟨he, by first | exact hq.step hb | (rw [hC]; exact hq.step hb)⟩)
               | ((go_at_call 47); with_reducible refine (hu _ (hq.dis W)).mono ?_; exact fun e w' ⟨he, hb⟩ => ⟨he, by first | exact hq.step hb | (rw [hC]; exact hq.step hb)⟩)
               | ((go_at_call 42); with_reducible refine (hn _ (hq.dis W)).mono ?_; exact fun e w' ⟨he, hb⟩ => ⟨he, by first | exact hq.step hb | (rw [hC]; exact hq.step hb)⟩)
           clear hK K
           simp only [Act.put, List.setIfInBounds_toArray, List.set_cons_zero, List.set_cons_succ])
    refine wpQuiet_nil ?_
    intro w4 hX
    rw [hC] at hX
    simp only [List.drop_succ_cons, List.drop_zero]
    go_wp2
    go_ret
    exact ⟨_, rfl, Strs.two _ _ _ _, (hX.step ((Below.refl _ _).alloc (Nat.le_refl _) _)).below⟩

theorem darg_c (o : Int) (b : Bool) (m r x p q y g n a : Int) (ho : o = 11 ∨ o = 42) (hg : 0 ≤ g ∧ g ≤ 7) {A : Addr} {c : Nat} (W0 : World) (W : Dis A c W0) :
    Calls Tryz.prog 23 #[.agg #[.int .i64 o, .bool b, .int .i64 m, .int .i64 r, .int .i64 x, .int .i64 p, .int .i64 q, .int .i64 y, .int .i64 g, .int .i64 n], .int .i64 a] W0 fun e w' => ∃ v, e = .returned v ∧ Strs w' v (agT ⟨o, b, m, r, x, p, q, y, g, n⟩ a) ∧ Below W0.heap.size W0 w' := by
  obtain ⟨G, rfl⟩ : ∃ k : Nat, g = (k : Int) := ⟨g.toNat, by omega⟩
  have hG : G < 8 := by omega
  have hG2 : (G : Int) < 8 := by omega
  have hs := fun w D => dsrc_any o b m r x p q y G n a (A := A) (c := c) w D
  have hd := fun w D => ddst_any o b m r x p q y G n a (A := A) (c := c) w D
  have ht := fun w (D : Dis A c w) => dtgt_any a n w D.tb
  have hu := fun w (D : Dis A c w) => dtgt_any a (-n) w D.tb
  have hn := fun w (D : Dis A c w) => dnum_any n w D.tb
  have hrg := fun w (D : Dis A c w) => rg_at D.rg G hG
  have e : agT ⟨o, b, m, r, x, p, q, y, G, n⟩ a = [rgT G, dsT ⟨o, b, m, r, x, p, q, y, G, n⟩ a] := by rcases ho with rfl | rfl <;> simp [agT]
  rw [e]
  clear e hg
  generalize srT ⟨o, b, m, r, x, p, q, y, G, n⟩ a = S at *
  generalize dsT ⟨o, b, m, r, x, p, q, y, G, n⟩ a = D at *
  generalize tgT a n = T at *
  generalize tgT a (-n) = U at *
  generalize nuT n = V at *
  generalize rgT G = R at *
  have hX := (St.start W.frm).put [.int .i64 o, .bool b, .int .i64 m, .int .i64 r, .int .i64 x, .int .i64 p, .int .i64 q, .int .i64 y, .int .i64 G, .int .i64 n] 36
  obtain ⟨C, hC⟩ : ∃ C : World → Prop, C = fun w' => St A c [(W0.heap.size, [.int .i64 o, .bool b, .int .i64 m, .int .i64 r, .int .i64 x, .int .i64 p, .int .i64 q, .int .i64 y, .int .i64 G, .int .i64 n])] W0 w' := ⟨_, rfl⟩
  rcases ho with rfl | rfl
  all_goals
    obtain ⟨i0, i1, i2, i3, i4, i5, i6, i7, i8, i9⟩ := hX.ten 0 rfl
    go_enter Tryz.func23, Tryz.ntmps23
    go_upto_region 16 with fail
    refine region_class_tail C 7 (by kernel_rfl) (by kernel_rfl) (by rw [hC]; exact hX.drew) ?_
    clear hX i0 i1 i2 i3 i4 i5 i6 i7 i8 i9
    simp only [List.take_succ_cons, List.take_zero]
    repeat
      first
        | (refine BigFrame.wpQuiet_skip (by rfl) ?_
           simp only [Act.put, List.setIfInBounds_toArray, List.set_cons_zero, List.set_cons_succ])
        | (refine BigFrame.wpQuiet_want (by rfl) (fun K hK => ?_)
           apply Exists.intro
           refine ⟨fun wq hq => ?_, hK _ ?_⟩
           · rw [hC] at hq
             obtain ⟨i0, i1, i2, i3, i4, i5, i6, i7, i8, i9⟩ := hq.ten 0 rfl
             have hR : _ = _ := hrg _ (hq.dis W)
             unfold Oper.quietAt
             go_simp
             first
               | with_reducible rfl
               | ((go_at_call 45); with_reducible refine (hs _ (hq.dis W)).mono ?_; exact fun e w' ⟨he, hb⟩ => ⟨he, by first | exact hq.step hb | (rw [hC]; exact hq.step hb)⟩)
               | ((go_at_call 46); with_reducible refine (hd _ (hq.dis W)).mono ?_; exact fun e w' ⟨he, hb⟩ => ⟨he, by first | exact hq.step hb | (rw [hC]; exact hq.step hb)⟩)
               | ((go_at_call 47); with_reducible refine (ht _ (hq.dis W)).mono ?_; exact fun e w' ⟨he, hb⟩ => ⟨he, by first | exact hq.step hb | (rw [hC]; exact hq.step hb)⟩)
               | ((go_at_call 47); with_reducible refine (hu _ (hq.dis W)).mono ?_; exact fun e w' ⟨he, hb⟩ => ⟨he, by first | exact hq.step hb | (rw [hC]; exact hq.step hb)⟩)
               | ((go_at_call 42); with_reducible refine (hn _ (hq.dis W)).mono ?_; exact fun e w' ⟨he, hb⟩ => ⟨he, by first | exact hq.step hb | (rw [hC]; exact hq.step hb)⟩)
           clear hK K
           simp only [Act.put, List.setIfInBounds_toArray, List.set_cons_zero, List.set_cons_succ])
    refine wpQuiet_nil ?_
    intro w4 hX
    rw [hC] at hX
    simp only [List.drop_succ_cons, List.drop_zero]
    go_wp2
    go_ret
    exact ⟨_, rfl, Strs.two _ _ _ _, (hX.step ((Below.refl _ _).alloc (Nat.le_refl _) _)).below⟩

theorem darg_h (o : Int) (b : Bool) (m r x p q y g n a : Int) (ho : o = 44) (hg : 0 ≤ g ∧ g ≤ 7) {A : Addr} {c : Nat} (W0 : World) (W : Dis A c W0) :
    Calls Tryz.prog 23 #[.agg #[.int .i64 o, .bool b, .int .i64 m, .int .i64 r, .int .i64 x, .int .i64 p, .int .i64 q, .int .i64 y, .int .i64 g, .int .i64 n], .int .i64 a] W0 fun e w' => ∃ v, e = .returned v ∧ Strs w' v (agT ⟨o, b, m, r, x, p, q, y, g, n⟩ a) ∧ Below W0.heap.size W0 w' := by
  obtain ⟨G, rfl⟩ : ∃ k : Nat, g = (k : Int) := ⟨g.toNat, by omega⟩
  have hG : G < 8 := by omega
  have hG2 : (G : Int) < 8 := by omega
  have hs := fun w D => dsrc_any o b m r x p q y G n a (A := A) (c := c) w D
  have hd := fun w D => ddst_any o b m r x p q y G n a (A := A) (c := c) w D
  have ht := fun w (D : Dis A c w) => dtgt_any a n w D.tb
  have hu := fun w (D : Dis A c w) => dtgt_any a (-n) w D.tb
  have hn := fun w (D : Dis A c w) => dnum_any n w D.tb
  have hrg := fun w (D : Dis A c w) => rg_at D.rg G hG
  have e : agT ⟨o, b, m, r, x, p, q, y, G, n⟩ a = [rgT G, tgT a (-n)] := by rcases ho with rfl <;> simp [agT]
  rw [e]
  clear e hg
  have hneg : IntKind.i64.wrap (-n) = wrap64 (-n) := wrap_i64 _
  have hu := fun w (D : Dis A c w) => dtgt_any a (wrap64 (-n)) w D.tb
  rw [show tgT a (wrap64 (-n)) = tgT a (-n) from nuT_mod (by unfold wrap64; omega)] at hu
  generalize wrap64 (-n) = NG at *
  generalize srT ⟨o, b, m, r, x, p, q, y, G, n⟩ a = S at *
  generalize dsT ⟨o, b, m, r, x, p, q, y, G, n⟩ a = D at *
  generalize tgT a n = T at *
  generalize tgT a (-n) = U at *
  generalize nuT n = V at *
  generalize rgT G = R at *
  have hX := (St.start W.frm).put [.int .i64 o, .bool b, .int .i64 m, .int .i64 r, .int .i64 x, .int .i64 p, .int .i64 q, .int .i64 y, .int .i64 G, .int .i64 n] 36
  obtain ⟨C, hC⟩ : ∃ C : World → Prop, C = fun w' => St A c [(W0.heap.size, [.int .i64 o, .bool b, .int .i64 m, .int .i64 r, .int .i64 x, .int .i64 p, .int .i64 q, .int .i64 y, .int .i64 G, .int .i64 n])] W0 w' := ⟨_, rfl⟩
  obtain rfl := ho
  all_goals
    obtain ⟨i0, i1, i2, i3, i4, i5, i6, i7, i8, i9⟩ := hX.ten 0 rfl
    go_enter Tryz.func23, Tryz.ntmps23
    go_upto_region 55 with fail
    refine region_class_tail C 9 (by kernel_rfl) (by kernel_rfl) (by rw [hC]; exact hX.drew) ?_
    clear hX i0 i1 i2 i3 i4 i5 i6 i7 i8 i9
    simp only [List.take_succ_cons, List.take_zero]
    repeat
      first
        | (refine BigFrame.wpQuiet_skip (by rfl) ?_
           simp only [Act.put, List.setIfInBounds_toArray, List.set_cons_zero, List.set_cons_succ])
        | (refine BigFrame.wpQuiet_want (by rfl) (fun K hK => ?_)
           apply Exists.intro
           refine ⟨fun wq hq => ?_, hK _ ?_⟩
           · rw [hC] at hq
             obtain ⟨i0, i1, i2, i3, i4, i5, i6, i7, i8, i9⟩ := hq.ten 0 rfl
             have hR : _ = _ := hrg _ (hq.dis W)
             unfold Oper.quietAt
             go_simp
             first
               | with_reducible rfl
               | ((go_at_call 45); with_reducible refine (hs _ (hq.dis W)).mono ?_; exact fun e w' ⟨he, hb⟩ => ⟨he, by first | exact hq.step hb | (rw [hC]; exact hq.step hb)⟩)
               | ((go_at_call 46); with_reducible refine (hd _ (hq.dis W)).mono ?_; exact fun e w' ⟨he, hb⟩ => ⟨he, by first | exact hq.step hb | (rw [hC]; exact hq.step hb)⟩)
               | ((go_at_call 47); with_reducible refine (hu _ (hq.dis W)).mono ?_; exact fun e w' ⟨he, hb⟩ => ⟨he, by first | exact hq.step hb | (rw [hC]; exact hq.step hb)⟩)
               | ((go_at_call 42); with_reducible refine (hn _ (hq.dis W)).mono ?_; exact fun e w' ⟨he, hb⟩ => ⟨he, by first | exact hq.step hb | (rw [hC]; exact hq.step hb)⟩)
           clear hK K
           simp only [Act.put, List.setIfInBounds_toArray, List.set_cons_zero, List.set_cons_succ])
    refine wpQuiet_nil ?_
    intro w4 hX
    rw [hC] at hX
    simp only [List.drop_succ_cons, List.drop_zero]
    go_wp2
    go_ret
    exact ⟨_, rfl, Strs.two _ _ _ _, (hX.step ((Below.refl _ _).alloc (Nat.le_refl _) _)).below⟩

end Go.Proofs.YtdbbnkjnmldnpaaGreatDoor
