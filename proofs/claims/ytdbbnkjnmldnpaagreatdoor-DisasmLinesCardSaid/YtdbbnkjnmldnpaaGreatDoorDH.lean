import Derived.Test.YtdbbnkjnmldnpaaGreatDoorDF
import Derived.Test.YtdbbnkjnmldnpaaGreatDoorTail
/-
  Walks over arguments of package disasm (one operand). Condition: the tables read as the program's text lays them; the register is one.
-/
namespace Go.Proofs.YtdbbnkjnmldnpaaGreatDoor
open Go.RowKit
set_option linter.unusedSimpArgs false
set_option linter.unusedVariables false
set_option maxHeartbeats 40000000
set_option maxRecDepth 100000
attribute [local irreducible] wpQuiet

theorem darg_d (o : Int) (b : Bool) (m r x p q y g n a : Int) (ho : o = 12 ∨ o = 13 ∨ o = 14 ∨ o = 15 ∨ o = 16 ∨ o = 17 ∨ o = 18 ∨ o = 19 ∨ o = 20 ∨ o = 21 ∨ o = 22 ∨ o = 23 ∨ o = 24 ∨ o = 25 ∨ o = 41 ∨ o = 56) (hg : 0 ≤ g ∧ g ≤ 7) {A : Addr} {c : Nat} (W0 : World) (W : Dis A c W0) :
    Calls Tryz.prog 23 #[.agg #[.int .i64 o, .bool b, .int .i64 m, .int .i64 r, .int .i64 x, .int .i64 p, .int .i64 q, .int .i64 y, .int .i64 g, .int .i64 n], .int .i64 a] W0 fun e w' => ∃ v, e = .returned v ∧ Strs w' v (agT ⟨o, b, m, r, x, p, q, y, g, n⟩ a) ∧ Below W0.heap.size W0 w' := by
  obtain ⟨G, rfl⟩ : ∃ k : Nat, g = (k : Int) := ⟨g.toNat, by omega⟩
  have hG : G < 8 := by omega
  have hG2 : (G : Int) < 8 := by omega
  have hs := fun w D => dsrc_any o b m r x p q y G n a (A := A) (c := c) w D
  have hd := fun w D => ddst_any o b m r x p q y G n a (A := A) (c := c) w D
  have ht := fun w (D : Dis A c w) => dtgt_any a n w D.tb
  have hu := fun w (D : Dis A c w) => dtgt_any a (-n) w D.tb
  have hn := fun w (D : Dis A c w) => dnum_any n w D.tb
  have hrg := fun w (D : Dis A c w) => rg_at D.rg G hG
  have e : agT ⟨o, b, m, r, x, p, q, y, G, n⟩ a = [dsT ⟨o, b, m, r, x, p, q, y, G, n⟩ a] := by rcases ho with rfl | rfl | rfl | rfl | rfl | rfl | rfl | rfl | rfl | rfl | rfl | rfl | rfl | rfl | rfl | rfl <;> simp [agT]
  rw [e]
  clear e hg
  generalize srT ⟨o, b, m, r, x, p, q, y, G, n⟩ a = S at *
  generalize dsT ⟨o, b, m, r, x, p, q, y, G, n⟩ a = D at *
  generalize tgT a n = T at *
  generalize tgT a (-n) = U at *
  generalize nuT n = V at *
  generalize rgT G = R at *
  have hX := (St.start W.frm).put [.int .i64 o, .bool b, .int .i64 m, .int .i64 r, .int .i64 x, .int .i64 p, .int .i64 q, .int .i64 y, .int .i64 G, .int .i64 n] 36
  rcases ho with rfl | rfl | rfl | rfl | rfl | rfl | rfl | rfl | rfl | rfl | rfl | rfl | rfl | rfl | rfl | rfl
  all_goals
    obtain ⟨i0, i1, i2, i3, i4, i5, i6, i7, i8, i9⟩ := hX.ten 0 rfl
    have hR : _ = _ := hrg _ (hX.dis W)
    go_enter Tryz.func23, Tryz.ntmps23
    go_wp2_with (first | (go_at_call 45; with_reducible refine (hs _ (hX.dis W)).mono ?_; rintro e w' ⟨rfl, hb⟩; have hX := hX.step hb; clear hb) | (go_at_call 46; with_reducible refine (hd _ (hX.dis W)).mono ?_; rintro e w' ⟨rfl, hb⟩; have hX := hX.step hb; clear hb) | (go_at_call 47; with_reducible refine (ht _ (hX.dis W)).mono ?_; rintro e w' ⟨rfl, hb⟩; have hX := hX.step hb; clear hb) | (go_at_call 47; with_reducible refine (hu _ (hX.dis W)).mono ?_; rintro e w' ⟨rfl, hb⟩; have hX := hX.step hb; clear hb) | (go_at_call 42; with_reducible refine (hn _ (hX.dis W)).mono ?_; rintro e w' ⟨rfl, hb⟩; have hX := hX.step hb; clear hb))
    go_ret
    exact ⟨_, rfl, Strs.one _ _ _, (hX.step ((Below.refl _ _).alloc (Nat.le_refl _) _)).below⟩

end Go.Proofs.YtdbbnkjnmldnpaaGreatDoor

/-
  Walks over arguments of package disasm (others). Condition: the tables read as the program's text lays them; the register is one.
-/
namespace Go.Proofs.YtdbbnkjnmldnpaaGreatDoor
open Go.RowKit
set_option linter.unusedSimpArgs false
set_option linter.unusedVariables false
set_option maxHeartbeats 40000000
set_option maxRecDepth 100000
attribute [local irreducible] wpQuiet

theorem strs_one' (w : World) (bk : Nat) (hb : w.heap.size = bk) (S : List UInt8) (t : TypeId) : Strs (w.alloc (.cells #[.string ⟨S.toArray⟩] t)) (.slice (some ⟨bk, 0, none⟩) 1 1) [S] := by subst hb; exact Strs.one w S t

theorem darg_e (o : Int) (b : Bool) (m r x p q y g n a : Int) (ho : o = 55) (hg : 0 ≤ g ∧ g ≤ 7) {A : Addr} {c : Nat} (W0 : World) (W : Dis A c W0) :
    Calls Tryz.prog 23 #[.agg #[.int .i64 o, .bool b, .int .i64 m, .int .i64 r, .int .i64 x, .int .i64 p, .int .i64 q, .int .i64 y, .int .i64 g, .int .i64 n], .int .i64 a] W0 fun e w' => ∃ v, e = .returned v ∧ Strs w' v (agT ⟨o, b, m, r, x, p, q, y, g, n⟩ a) ∧ Below W0.heap.size W0 w' := by
  obtain ⟨G, rfl⟩ : ∃ k : Nat, g = (k : Int) := ⟨g.toNat, by omega⟩
  have hG : G < 8 := by omega
  have hG2 : (G : Int) < 8 := by omega
  have hs := fun w D => dsrc_any o b m r x p q y G n a (A := A) (c := c) w D
  have hd := fun w D => ddst_any o b m r x p q y G n a (A := A) (c := c) w D
  have ht := fun w (D : Dis A c w) => dtgt_any a n w D.tb
  have hu := fun w (D : Dis A c w) => dtgt_any a (-n) w D.tb
  have hn := fun w (D : Dis A c w) => dnum_any n w D.tb
  have hrg := fun w (D : Dis A c w) => rg_at D.rg G hG
  have e : agT ⟨o, b, m, r, x, p, q, y, G, n⟩ a = [srT ⟨o, b, m, r, x, p, q, y, G, n⟩ a] := by rcases ho with rfl <;> simp [agT]
  rw [e]
  clear e hg
  generalize srT ⟨o, b, m, r, x, p, q, y, G, n⟩ a = S at *
  generalize dsT ⟨o, b, m, r, x, p, q, y, G, n⟩ a = D at *
  generalize tgT a n = T at *
  generalize tgT a (-n) = U at *
  generalize nuT n = V at *
  generalize rgT G = R at *
  have hX := (St.start W.frm).put [.int .i64 o, .bool b, .int .i64 m, .int .i64 r, .int .i64 x, .int .i64 p, .int .i64 q, .int .i64 y, .int .i64 G, .int .i64 n] 36
  obtain rfl := ho
  all_goals
    obtain ⟨i0, i1, i2, i3, i4, i5, i6, i7, i8, i9⟩ := hX.ten 0 rfl
    have hR : _ = _ := hrg _ (hX.dis W)
    go_enter Tryz.func23, Tryz.ntmps23
    go_wp2_with (first | (go_at_call 45; with_reducible refine (hs _ (hX.dis W)).mono ?_; rintro e w' ⟨rfl, hb⟩; have hX := hX.step hb; clear hb) | (go_at_call 46; with_reducible refine (hd _ (hX.dis W)).mono ?_; rintro e w' ⟨rfl, hb⟩; have hX := hX.step hb; clear hb) | (go_at_call 47; with_reducible refine (ht _ (hX.dis W)).mono ?_; rintro e w' ⟨rfl, hb⟩; have hX := hX.step hb; clear hb) | (go_at_call 47; with_reducible refine (hu _ (hX.dis W)).mono ?_; rintro e w' ⟨rfl, hb⟩; have hX := hX.step hb; clear hb) | (go_at_call 42; with_reducible refine (hn _ (hX.dis W)).mono ?_; rintro e w' ⟨rfl, hb⟩; have hX := hX.step hb; clear hb))
    go_ret
    exact ⟨_, rfl, Strs.one _ _ _, (hX.step ((Below.refl _ _).alloc (Nat.le_refl _) _)).below⟩

theorem darg_f (o : Int) (b : Bool) (m r x p q y g n a : Int) (ho : o = 43) (hg : 0 ≤ g ∧ g ≤ 7) {A : Addr} {c : Nat} (W0 : World) (W : Dis A c W0) :
    Calls Tryz.prog 23 #[.agg #[.int .i64 o, .bool b, .int .i64 m, .int .i64 r, .int .i64 x, .int .i64 p, .int .i64 q, .int .i64 y, .int .i64 g, .int .i64 n], .int .i64 a] W0 fun e w' => ∃ v, e = .returned v ∧ Strs w' v (agT ⟨o, b, m, r, x, p, q, y, g, n⟩ a) ∧ Below W0.heap.size W0 w' := by
  obtain ⟨G, rfl⟩ : ∃ k : Nat, g = (k : Int) := ⟨g.toNat, by omega⟩
  have hG : G < 8 := by omega
  have hG2 : (G : Int) < 8 := by omega
  have hs := fun w D => dsrc_any o b m r x p q y G n a (A := A) (c := c) w D
  have hd := fun w D => ddst_any o b m r x p q y G n a (A := A) (c := c) w D
  have ht := fun w (D : Dis A c w) => dtgt_any a n w D.tb
  have hu := fun w (D : Dis A c w) => dtgt_any a (-n) w D.tb
  have hn := fun w (D : Dis A c w) => dnum_any n w D.tb
  have hrg := fun w (D : Dis A c w) => rg_at D.rg G hG
  have e : agT ⟨o, b, m, r, x, p, q, y, G, n⟩ a = [rgT G] := by rcases ho with rfl <;> simp [agT]
  rw [e]
  clear e hg
  generalize srT ⟨o, b, m, r, x, p, q, y, G, n⟩ a = S at *
  generalize dsT ⟨o, b, m, r, x, p, q, y, G, n⟩ a = D at *
  generalize tgT a n = T at *
  generalize tgT a (-n) = U at *
  generalize nuT n = V at *
  generalize rgT G = R at *
  have hX := (St.start W.frm).put [.int .i64 o, .bool b, .int .i64 m, .int .i64 r, .int .i64 x, .int .i64 p, .int .i64 q, .int .i64 y, .int .i64 G, .int .i64 n] 36
  obtain rfl := ho
  all_goals
    obtain ⟨i0, i1, i2, i3, i4, i5, i6, i7, i8, i9⟩ := hX.ten 0 rfl
    have hR : _ = _ := hrg _ (hX.dis W)
    go_enter Tryz.func23, Tryz.ntmps23
    go_wp2_with (first | (go_at_call 45; with_reducible refine (hs _ (hX.dis W)).mono ?_; rintro e w' ⟨rfl, hb⟩; have hX := hX.step hb; clear hb) | (go_at_call 46; with_reducible refine (hd _ (hX.dis W)).mono ?_; rintro e w' ⟨rfl, hb⟩; have hX := hX.step hb; clear hb) | (go_at_call 47; with_reducible refine (ht _ (hX.dis W)).mono ?_; rintro e w' ⟨rfl, hb⟩; have hX := hX.step hb; clear hb) | (go_at_call 47; with_reducible refine (hu _ (hX.dis W)).mono ?_; rintro e w' ⟨rfl, hb⟩; have hX := hX.step hb; clear hb) | (go_at_call 42; with_reducible refine (hn _ (hX.dis W)).mono ?_; rintro e w' ⟨rfl, hb⟩; have hX := hX.step hb; clear hb))
    go_ret
    exact ⟨_, rfl, strs_one' _ _ (by simp) _ _, (hX.step ((Below.refl _ _).alloc (Nat.le_refl _) _)).below⟩

theorem darg_g (o : Int) (b : Bool) (m r x p q y g n a : Int) (ho : o = 26 ∨ o = 27 ∨ o = 28 ∨ o = 29 ∨ o = 30 ∨ o = 31 ∨ o = 32 ∨ o = 33 ∨ o = 34 ∨ o = 35 ∨ o = 36 ∨ o = 37 ∨ o = 38 ∨ o = 39 ∨ o = 40) (hg : 0 ≤ g ∧ g ≤ 7) {A : Addr} {c : Nat} (W0 : World) (W : Dis A c W0) :
    Calls Tryz.prog 23 #[.agg #[.int .i64 o, .bool b, .int .i64 m, .int .i64 r, .int .i64 x, .int .i64 p, .int .i64 q, .int .i64 y, .int .i64 g, .int .i64 n], .int .i64 a] W0 fun e w' => ∃ v, e = .returned v ∧ Strs w' v (agT ⟨o, b, m, r, x, p, q, y, g, n⟩ a) ∧ Below W0.heap.size W0 w' := by
  obtain ⟨G, rfl⟩ : ∃ k : Nat, g = (k : Int) := ⟨g.toNat, by omega⟩
  have hG : G < 8 := by omega
  have hG2 : (G : Int) < 8 := by omega
  have hs := fun w D => dsrc_any o b m r x p q y G n a (A := A) (c := c) w D
  have hd := fun w D => ddst_any o b m r x p q y G n a (A := A) (c := c) w D
  have ht := fun w (D : Dis A c w) => dtgt_any a n w D.tb
  have hu := fun w (D : Dis A c w) => dtgt_any a (-n) w D.tb
  have hn := fun w (D : Dis A c w) => dnum_any n w D.tb
  have hrg := fun w (D : Dis A c w) => rg_at D.rg G hG
  have e : agT ⟨o, b, m, r, x, p, q, y, G, n⟩ a = [tgT a n] := by rcases ho with rfl | rfl | rfl | rfl | rfl | rfl | rfl | rfl | rfl | rfl | rfl | rfl | rfl | rfl | rfl <;> simp [agT]
  rw [e]
  clear e hg
  generalize srT ⟨o, b, m, r, x, p, q, y, G, n⟩ a = S at *
  generalize dsT ⟨o, b, m, r, x, p, q, y, G, n⟩ a = D at *
  generalize tgT a n = T at *
  generalize tgT a (-n) = U at *
  generalize nuT n = V at *
  generalize rgT G = R at *
  have hX := (St.start W.frm).put [.int .i64 o, .bool b, .int .i64 m, .int .i64 r, .int .i64 x, .int .i64 p, .int .i64 q, .int .i64 y, .int .i64 G, .int .i64 n] 36
  rcases ho with rfl | rfl | rfl | rfl | rfl | rfl | rfl | rfl | rfl | rfl | rfl | rfl | rfl | rfl | rfl
  all_goals
    obtain ⟨i0, i1, i2, i3, i4, i5, i6, i7, i8, i9⟩ := hX.ten 0 rfl
    have hR : _ = _ := hrg _ (hX.dis W)
    go_enter Tryz.func23, Tryz.ntmps23
    go_wp2_with (first | (go_at_call 45; with_reducible refine (hs _ (hX.dis W)).mono ?_; rintro e w' ⟨rfl, hb⟩; have hX := hX.step hb; clear hb) | (go_at_call 46; with_reducible refine (hd _ (hX.dis W)).mono ?_; rintro e w' ⟨rfl, hb⟩; have hX := hX.step hb; clear hb) | (go_at_call 47; with_reducible refine (ht _ (hX.dis W)).mono ?_; rintro e w' ⟨rfl, hb⟩; have hX := hX.step hb; clear hb) | (go_at_call 47; with_reducible refine (hu _ (hX.dis W)).mono ?_; rintro e w' ⟨rfl, hb⟩; have hX := hX.step hb; clear hb) | (go_at_call 42; with_reducible refine (hn _ (hX.dis W)).mono ?_; rintro e w' ⟨rfl, hb⟩; have hX := hX.step hb; clear hb))
    go_ret
    exact ⟨_, rfl, Strs.one _ _ _, (hX.step ((Below.refl _ _).alloc (Nat.le_refl _) _)).below⟩

theorem darg_i (o : Int) (b : Bool) (m r x p q y g n a : Int) (ho : o = 45 ∨ o = 46 ∨ o = 53 ∨ o = 54) (hg : 0 ≤ g ∧ g ≤ 7) {A : Addr} {c : Nat} (W0 : World) (W : Dis A c W0) :
    Calls Tryz.prog 23 #[.agg #[.int .i64 o, .bool b, .int .i64 m, .int .i64 r, .int .i64 x, .int .i64 p, .int .i64 q, .int .i64 y, .int .i64 g, .int .i64 n], .int .i64 a] W0 fun e w' => ∃ v, e = .returned v ∧ Strs w' v (agT ⟨o, b, m, r, x, p, q, y, g, n⟩ a) ∧ Below W0.heap.size W0 w' := by
  obtain ⟨G, rfl⟩ : ∃ k : Nat, g = (k : Int) := ⟨g.toNat, by omega⟩
  have hG : G < 8 := by omega
  have hG2 : (G : Int) < 8 := by omega
  have hs := fun w D => dsrc_any o b m r x p q y G n a (A := A) (c := c) w D
  have hd := fun w D => ddst_any o b m r x p q y G n a (A := A) (c := c) w D
  have ht := fun w (D : Dis A c w) => dtgt_any a n w D.tb
  have hu := fun w (D : Dis A c w) => dtgt_any a (-n) w D.tb
  have hn := fun w (D : Dis A c w) => dnum_any n w D.tb
  have hrg := fun w (D : Dis A c w) => rg_at D.rg G hG
  have e : agT ⟨o, b, m, r, x, p, q, y, G, n⟩ a = [nuT n] := by rcases ho with rfl | rfl | rfl | rfl <;> simp [agT]
  rw [e]
  clear e hg
  generalize srT ⟨o, b, m, r, x, p, q, y, G, n⟩ a = S at *
  generalize dsT ⟨o, b, m, r, x, p, q, y, G, n⟩ a = D at *
  generalize tgT a n = T at *
  generalize tgT a (-n) = U at *
  generalize nuT n = V at *
  generalize rgT G = R at *
  have hX := (St.start W.frm).put [.int .i64 o, .bool b, .int .i64 m, .int .i64 r, .int .i64 x, .int .i64 p, .int .i64 q, .int .i64 y, .int .i64 G, .int .i64 n] 36
  rcases ho with rfl | rfl | rfl | rfl
  all_goals
    obtain ⟨i0, i1, i2, i3, i4, i5, i6, i7, i8, i9⟩ := hX.ten 0 rfl
    have hR : _ = _ := hrg _ (hX.dis W)
    go_enter Tryz.func23, Tryz.ntmps23
    go_wp2_with (first | (go_at_call 45; with_reducible refine (hs _ (hX.dis W)).mono ?_; rintro e w' ⟨rfl, hb⟩; have hX := hX.step hb; clear hb) | (go_at_call 46; with_reducible refine (hd _ (hX.dis W)).mono ?_; rintro e w' ⟨rfl, hb⟩; have hX := hX.step hb; clear hb) | (go_at_call 47; with_reducible refine (ht _ (hX.dis W)).mono ?_; rintro e w' ⟨rfl, hb⟩; have hX := hX.step hb; clear hb) | (go_at_call 47; with_reducible refine (hu _ (hX.dis W)).mono ?_; rintro e w' ⟨rfl, hb⟩; have hX := hX.step hb; clear hb) | (go_at_call 42; with_reducible refine (hn _ (hX.dis W)).mono ?_; rintro e w' ⟨rfl, hb⟩; have hX := hX.step hb; clear hb))
    go_ret
    exact ⟨_, rfl, Strs.one _ _ _, (hX.step ((Below.refl _ _).alloc (Nat.le_refl _) _)).below⟩

theorem darg_j (o : Int) (b : Bool) (m r x p q y g n a : Int) (ho : o = 47 ∨ o = 48 ∨ o = 49 ∨ o = 50 ∨ o = 51 ∨ o = 52) (hg : 0 ≤ g ∧ g ≤ 7) {A : Addr} {c : Nat} (W0 : World) (W : Dis A c W0) :
    Calls Tryz.prog 23 #[.agg #[.int .i64 o, .bool b, .int .i64 m, .int .i64 r, .int .i64 x, .int .i64 p, .int .i64 q, .int .i64 y, .int .i64 g, .int .i64 n], .int .i64 a] W0 fun e w' => ∃ v, e = .returned v ∧ Strs w' v (agT ⟨o, b, m, r, x, p, q, y, g, n⟩ a) ∧ Below W0.heap.size W0 w' := by
  obtain ⟨G, rfl⟩ : ∃ k : Nat, g = (k : Int) := ⟨g.toNat, by omega⟩
  have hG : G < 8 := by omega
  have hG2 : (G : Int) < 8 := by omega
  have hs := fun w D => dsrc_any o b m r x p q y G n a (A := A) (c := c) w D
  have hd := fun w D => ddst_any o b m r x p q y G n a (A := A) (c := c) w D
  have ht := fun w (D : Dis A c w) => dtgt_any a n w D.tb
  have hu := fun w (D : Dis A c w) => dtgt_any a (-n) w D.tb
  have hn := fun w (D : Dis A c w) => dnum_any n w D.tb
  have hrg := fun w (D : Dis A c w) => rg_at D.rg G hG
  have e : agT ⟨o, b, m, r, x, p, q, y, G, n⟩ a = [] := by rcases ho with rfl | rfl | rfl | rfl | rfl | rfl <;> simp [agT]
  rw [e]
  clear e hg
  generalize srT ⟨o, b, m, r, x, p, q, y, G, n⟩ a = S at *
  generalize dsT ⟨o, b, m, r, x, p, q, y, G, n⟩ a = D at *
  generalize tgT a n = T at *
  generalize tgT a (-n) = U at *
  generalize nuT n = V at *
  generalize rgT G = R at *
  have hX := (St.start W.frm).put [.int .i64 o, .bool b, .int .i64 m, .int .i64 r, .int .i64 x, .int .i64 p, .int .i64 q, .int .i64 y, .int .i64 G, .int .i64 n] 36
  rcases ho with rfl | rfl | rfl | rfl | rfl | rfl
  all_goals
    obtain ⟨i0, i1, i2, i3, i4, i5, i6, i7, i8, i9⟩ := hX.ten 0 rfl
    have hR : _ = _ := hrg _ (hX.dis W)
    go_enter Tryz.func23, Tryz.ntmps23
    go_wp2_with (first | (go_at_call 45; with_reducible refine (hs _ (hX.dis W)).mono ?_; rintro e w' ⟨rfl, hb⟩; have hX := hX.step hb; clear hb) | (go_at_call 46; with_reducible refine (hd _ (hX.dis W)).mono ?_; rintro e w' ⟨rfl, hb⟩; have hX := hX.step hb; clear hb) | (go_at_call 47; with_reducible refine (ht _ (hX.dis W)).mono ?_; rintro e w' ⟨rfl, hb⟩; have hX := hX.step hb; clear hb) | (go_at_call 47; with_reducible refine (hu _ (hX.dis W)).mono ?_; rintro e w' ⟨rfl, hb⟩; have hX := hX.step hb; clear hb) | (go_at_call 42; with_reducible refine (hn _ (hX.dis W)).mono ?_; rintro e w' ⟨rfl, hb⟩; have hX := hX.step hb; clear hb))
    go_ret
    exact ⟨_, rfl, Strs.none _, (hX).below⟩

end Go.Proofs.YtdbbnkjnmldnpaaGreatDoor
