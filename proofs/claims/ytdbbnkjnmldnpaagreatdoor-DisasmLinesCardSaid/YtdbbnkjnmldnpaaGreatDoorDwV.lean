/-
  Walks over Text of the reference of package disasm: the other operations. Condition: the tables read as the program's text lays them.
-/
import Derived.Test.YtdbbnkjnmldnpaaGreatDoorMT
namespace Go.Proofs.YtdbbnkjnmldnpaaGreatDoor
open Go.RowKit
set_option linter.unusedSimpArgs false
set_option linter.unusedVariables false
set_option maxHeartbeats 40000000
set_option maxRecDepth 100000
attribute [local irreducible] wpQuiet

theorem rtext_55 (b : Bool) (m r x p q y g n a : Int) (hV : vR ⟨55, b, m, r, x, p, q, y, g, n⟩ = true) {A : Addr} {c : Nat} (W0 : World) (W : Frm A c W0) (T : Tab 6 mns W0) (T3 : Tab 3 rgs W0) :
    Calls Tryz.prog 14 #[.agg #[.int .i64 55, .bool b, .int .i64 m, .int .i64 r, .int .i64 x, .int .i64 p, .int .i64 q, .int .i64 y, .int .i64 g, .int .i64 n], .int .i64 a] W0 fun e w' => e = .returned (.string ⟨(txT ⟨55, b, m, r, x, p, q, y, g, n⟩ a).toArray⟩) ∧ Below W0.heap.size W0 w' := by
  have hg := (vR_rng hV).2
  obtain ⟨GN, rfl⟩ : ∃ K : Nat, g = (K : Int) := ⟨g.toNat, by omega⟩
  have hGN : GN < 8 := by omega
  have hg1 : (0 : Int) ≤ GN := by omega
  have hg2 : (GN : Int) < 8 := by omega
  have h7 : bits .and .i64 (GN : Int) 7 = GN := by rw [a7]; omega
  have hAa := a65535 a
  have hA1 : 0 ≤ a % 65536 := by omega
  have hA2 : a % 65536 < 65536 := by omega
  have eS : srT ⟨55, b, m, r, x, p, q, y, (GN : Int), n⟩ a = opT m r x (a % 65536 + 2 + 2) := opT_mod m r x (by omega)
  have eD : dsT ⟨55, b, m, r, x, p, q, y, (GN : Int), n⟩ a = opT p q y (a % 65536 + 2 * lenR ⟨55, b, m, r, x, p, q, y, (GN : Int), n⟩) := opT_mod p q y (by omega)
  have eG : agT ⟨55, b, m, r, x, p, q, y, (GN : Int), n⟩ a = [srT ⟨55, b, m, r, x, p, q, y, (GN : Int), n⟩ a] := by unfold agT; dsimp only; simp
  rw [eS] at eG
  have e : txT ⟨55, b, m, r, x, p, q, y, (GN : Int), n⟩ a = nmT 55 b ++ tlT (agT ⟨55, b, m, r, x, p, q, y, (GN : Int), n⟩ a) := by unfold txT; rw [hV]; dsimp only; rw [abT_out (by omega)]; rfl
  rw [eG] at e
  simp only [tlT, joT, List.length_cons, List.length_nil, Nat.add_one_ne_zero, Nat.zero_add, if_false, if_true, List.append_nil, reduceIte] at e
  rw [e]
  have hv := fun w (k : Frm A c w) => rV_any 55 b m r x p q y GN n w k
  rw [hV] at hv
  have hnm := fun w t => rname_any 55 b w t
  have hE := fun w => rext_any m r x w
  have hs := fun w (k : Frm A c w) t => ropr_any m r x (a % 65536 + 2 + 2) w k t
  have hs2 : exR (m % 8) (r % 8) = false → opT m r x (a % 65536 + 2) = opT m r x (a % 65536 + 2 + 2) := fun h => opT_ne m r x _ _ h
  have hs3 := fun w (k : Frm A c w) t => ropr_any m r x (a % 65536 + 2) w k t
  have hd := fun w (k : Frm A c w) t => ropr_any p q y (a % 65536 + 2 * lenR ⟨55, b, m, r, x, p, q, y, (GN : Int), n⟩) w k t
  have hl := fun w (k : Frm A c w) => rLength_any 55 b m r x p q y GN n w k
  have hr := lenR_rng ⟨55, b, m, r, x, p, q, y, (GN : Int), n⟩
  have l1 := nmT_len 55 b
  have s1 := tx_size (nmT 55 b)
  have l2 := opT_len m r x (a % 65536 + 2 + 2)
  have s2 := tx_size (opT m r x (a % 65536 + 2 + 2))
  have l3 := opT_len p q y (a % 65536 + 2 * lenR ⟨55, b, m, r, x, p, q, y, (GN : Int), n⟩)
  have s3 := tx_size (opT p q y (a % 65536 + 2 * lenR ⟨55, b, m, r, x, p, q, y, (GN : Int), n⟩))
  have l4 := rgT_len GN
  have s4 := tx_size (rgT GN)
  have hrg : ∀ w, Below W0.heap.size W0 w → ∃ a1 c1, w.cell? ⟨3, 0, none⟩ = some (.slice (some a1) 8 c1) ∧ w.cell? (a1.add GN) = some (.string ⟨(rgT GN).toArray⟩) := fun w h => by
    obtain ⟨a1, c1, h1, h2, _⟩ := (T3.step h).sl
    exact ⟨a1, c1, h1, Tab.at (g := 0) h2 GN hGN⟩
  clear e eG hV eS eD
  generalize opT p q y (a % 65536 + 2 * lenR ⟨55, b, m, r, x, p, q, y, (GN : Int), n⟩) = D at *
  generalize lenR ⟨55, b, m, r, x, p, q, y, (GN : Int), n⟩ = L at *
  generalize opT m r x (a % 65536 + 2 + 2) = S at *
  generalize nmT 55 b = M at *
  generalize rgT (GN : Int) = G at *
  generalize a % 65536 = AA at *
  have hw3 : IntKind.i64.wrap (2 * L) = 2 * L := by rw [wrap_i64]; unfold wrap64; omega
  have hw4 : IntKind.i64.wrap (AA + 2 * L) = AA + 2 * L := by rw [wrap_i64]; unfold wrap64; omega
  have hX := (St.start W).put [.int .i64 55, .bool b, .int .i64 m, .int .i64 r, .int .i64 x, .int .i64 p, .int .i64 q, .int .i64 y, .int .i64 GN, .int .i64 n] 36
  obtain ⟨i0, i1, i2, i3, i4, i5, i6, i7, i8, i9⟩ := hX.ten 0 rfl
  generalize exR (m % 8) (r % 8) = E at *
  cases E
  all_goals
    try rw [hs2 rfl] at hs3
    clear hs2
    go_enter Tryz.func14, Tryz.ntmps14
    go_wp2_with (first | (go_at_call 32; with_reducible refine (hv _ hX.frm).mono ?_; rintro e w' ⟨rfl, hb⟩; have hX := hX.step hb; clear hb; obtain ⟨i0, i1, i2, i3, i4, i5, i6, i7, i8, i9⟩ := hX.ten 0 rfl) | (go_at_call 33; with_reducible refine (hnm _ (T.step hX.below)).mono ?_; rintro e w' ⟨rfl, hb⟩; have hX := hX.step hb; clear hb; obtain ⟨i0, i1, i2, i3, i4, i5, i6, i7, i8, i9⟩ := hX.ten 0 rfl) | (go_at_call 30; with_reducible refine (hE _).mono ?_; rintro e w' ⟨rfl, hb⟩; have hX := hX.step hb; clear hb; obtain ⟨i0, i1, i2, i3, i4, i5, i6, i7, i8, i9⟩ := hX.ten 0 rfl) | (go_at_call 35; with_reducible refine (hs _ hX.frm (T3.step hX.below)).mono ?_; rintro e w' ⟨rfl, hb⟩; have hX := hX.step hb; clear hb; obtain ⟨i0, i1, i2, i3, i4, i5, i6, i7, i8, i9⟩ := hX.ten 0 rfl) | (go_at_call 35; with_reducible refine (hs3 _ hX.frm (T3.step hX.below)).mono ?_; rintro e w' ⟨rfl, hb⟩; have hX := hX.step hb; clear hb; obtain ⟨i0, i1, i2, i3, i4, i5, i6, i7, i8, i9⟩ := hX.ten 0 rfl))
    generalize hBB : W0.heap.size = B at hX i0 i1 i2 i3 i4 i5 i6 i7 i8 i9 ⊢
    refine region_class (fun w' => St A c [(B, [.int .i64 55, .bool b, .int .i64 m, .int .i64 r, .int .i64 x, .int .i64 p, .int .i64 q, .int .i64 y, .int .i64 GN, .int .i64 n])] W0 w') (by kernel_rfl) (by kernel_rfl) hX.drew ?_
    clear hX i0 i1 i2 i3 i4 i5 i6 i7 i8 i9
    repeat
      first
        | (refine BigFrame.wpQuiet_skip (by rfl) ?_
           simp only [Act.put, List.setIfInBounds_toArray, List.set_cons_zero, List.set_cons_succ])
        | (refine BigFrame.wpQuiet_want (by rfl) (fun K hK => ?_)
           apply Exists.intro
           refine ⟨fun wq hq => ?_, hK _ ?_⟩
           · obtain ⟨i0, i1, i2, i3, i4, i5, i6, i7, i8, i9⟩ := hq.ten 0 rfl
             unfold Oper.quietAt
             go_simp
             first
               | with_reducible rfl
               | ((go_at_call 36); with_reducible refine (hl _ hq.frm).mono ?_; exact fun e w' ⟨he, hb⟩ => ⟨he, hq.step hb⟩)
               | ((go_at_call 35); with_reducible refine (hd _ hq.frm (T3.step hq.below)).mono ?_; exact fun e w' ⟨he, hb⟩ => ⟨he, hq.step hb⟩)
           clear hK K
           simp only [Act.put, List.setIfInBounds_toArray, List.set_cons_zero, List.set_cons_succ])
    refine wpQuiet_nil ?_
    intro w5 hX
    obtain ⟨aC, cC, hC1, hC2⟩ := hrg _ hX.below
    obtain ⟨i0, i1, i2, i3, i4, i5, i6, i7, i8, i9⟩ := hX.ten 0 rfl
    go_wp2
    go_ret
    exact ⟨by first | rfl | (simp [ba_app]; done), hX.below⟩

theorem rtext_43 (b : Bool) (m r x p q y g n a : Int) (hV : vR ⟨43, b, m, r, x, p, q, y, g, n⟩ = true) {A : Addr} {c : Nat} (W0 : World) (W : Frm A c W0) (T : Tab 6 mns W0) (T3 : Tab 3 rgs W0) :
    Calls Tryz.prog 14 #[.agg #[.int .i64 43, .bool b, .int .i64 m, .int .i64 r, .int .i64 x, .int .i64 p, .int .i64 q, .int .i64 y, .int .i64 g, .int .i64 n], .int .i64 a] W0 fun e w' => e = .returned (.string ⟨(txT ⟨43, b, m, r, x, p, q, y, g, n⟩ a).toArray⟩) ∧ Below W0.heap.size W0 w' := by
  have hg := (vR_rng hV).2
  obtain ⟨GN, rfl⟩ : ∃ K : Nat, g = (K : Int) := ⟨g.toNat, by omega⟩
  have hGN : GN < 8 := by omega
  have hg1 : (0 : Int) ≤ GN := by omega
  have hg2 : (GN : Int) < 8 := by omega
  have h7 : bits .and .i64 (GN : Int) 7 = GN := by rw [a7]; omega
  have hAa := a65535 a
  have hA1 : 0 ≤ a % 65536 := by omega
  have hA2 : a % 65536 < 65536 := by omega
  have eS : srT ⟨43, b, m, r, x, p, q, y, (GN : Int), n⟩ a = opT m r x (a % 65536 + 2 + 2) := opT_mod m r x (by omega)
  have eD : dsT ⟨43, b, m, r, x, p, q, y, (GN : Int), n⟩ a = opT p q y (a % 65536 + 2 * lenR ⟨43, b, m, r, x, p, q, y, (GN : Int), n⟩) := opT_mod p q y (by omega)
  have eG : agT ⟨43, b, m, r, x, p, q, y, (GN : Int), n⟩ a = [rgT GN] := by unfold agT; dsimp only; simp
  clear eS eD
  have e : txT ⟨43, b, m, r, x, p, q, y, (GN : Int), n⟩ a = nmT 43 b ++ tlT (agT ⟨43, b, m, r, x, p, q, y, (GN : Int), n⟩ a) := by unfold txT; rw [hV]; dsimp only; rw [abT_out (by omega)]; rfl
  rw [eG] at e
  simp only [tlT, joT, List.length_cons, List.length_nil, Nat.add_one_ne_zero, Nat.zero_add, if_false, if_true, List.append_nil, reduceIte] at e
  rw [e]
  have hv := fun w (k : Frm A c w) => rV_any 43 b m r x p q y GN n w k
  rw [hV] at hv
  have hnm := fun w t => rname_any 43 b w t
  have hE := fun w => rext_any m r x w
  have hs := fun w (k : Frm A c w) t => ropr_any m r x (a % 65536 + 2 + 2) w k t
  have hs2 : exR (m % 8) (r % 8) = false → opT m r x (a % 65536 + 2) = opT m r x (a % 65536 + 2 + 2) := fun h => opT_ne m r x _ _ h
  have hs3 := fun w (k : Frm A c w) t => ropr_any m r x (a % 65536 + 2) w k t
  have hd := fun w (k : Frm A c w) t => ropr_any p q y (a % 65536 + 2 * lenR ⟨43, b, m, r, x, p, q, y, (GN : Int), n⟩) w k t
  have hl := fun w (k : Frm A c w) => rLength_any 43 b m r x p q y GN n w k
  have hr := lenR_rng ⟨43, b, m, r, x, p, q, y, (GN : Int), n⟩
  have l1 := nmT_len 43 b
  have s1 := tx_size (nmT 43 b)
  have l2 := opT_len m r x (a % 65536 + 2 + 2)
  have s2 := tx_size (opT m r x (a % 65536 + 2 + 2))
  have l3 := opT_len p q y (a % 65536 + 2 * lenR ⟨43, b, m, r, x, p, q, y, (GN : Int), n⟩)
  have s3 := tx_size (opT p q y (a % 65536 + 2 * lenR ⟨43, b, m, r, x, p, q, y, (GN : Int), n⟩))
  have l4 := rgT_len GN
  have s4 := tx_size (rgT GN)
  have hrg : ∀ w, Below W0.heap.size W0 w → ∃ a1 c1, w.cell? ⟨3, 0, none⟩ = some (.slice (some a1) 8 c1) ∧ w.cell? (a1.add GN) = some (.string ⟨(rgT GN).toArray⟩) := fun w h => by
    obtain ⟨a1, c1, h1, h2, _⟩ := (T3.step h).sl
    exact ⟨a1, c1, h1, Tab.at (g := 0) h2 GN hGN⟩
  clear e eG hV
  generalize opT p q y (a % 65536 + 2 * lenR ⟨43, b, m, r, x, p, q, y, (GN : Int), n⟩) = D at *
  generalize lenR ⟨43, b, m, r, x, p, q, y, (GN : Int), n⟩ = L at *
  generalize opT m r x (a % 65536 + 2 + 2) = S at *
  generalize nmT 43 b = M at *
  generalize rgT (GN : Int) = G at *
  generalize a % 65536 = AA at *
  have hw3 : IntKind.i64.wrap (2 * L) = 2 * L := by rw [wrap_i64]; unfold wrap64; omega
  have hw4 : IntKind.i64.wrap (AA + 2 * L) = AA + 2 * L := by rw [wrap_i64]; unfold wrap64; omega
  have hX := (St.start W).put [.int .i64 43, .bool b, .int .i64 m, .int .i64 r, .int .i64 x, .int .i64 p, .int .i64 q, .int .i64 y, .int .i64 GN, .int .i64 n] 36
  obtain ⟨i0, i1, i2, i3, i4, i5, i6, i7, i8, i9⟩ := hX.ten 0 rfl
  generalize exR (m % 8) (r % 8) = E at *
  cases E
  all_goals
    try rw [hs2 rfl] at hs3
    clear hs2
    go_enter Tryz.func14, Tryz.ntmps14
    go_wp2_with (first | (go_at_call 32; with_reducible refine (hv _ hX.frm).mono ?_; rintro e w' ⟨rfl, hb⟩; have hX := hX.step hb; clear hb; obtain ⟨i0, i1, i2, i3, i4, i5, i6, i7, i8, i9⟩ := hX.ten 0 rfl) | (go_at_call 33; with_reducible refine (hnm _ (T.step hX.below)).mono ?_; rintro e w' ⟨rfl, hb⟩; have hX := hX.step hb; clear hb; obtain ⟨i0, i1, i2, i3, i4, i5, i6, i7, i8, i9⟩ := hX.ten 0 rfl) | (go_at_call 30; with_reducible refine (hE _).mono ?_; rintro e w' ⟨rfl, hb⟩; have hX := hX.step hb; clear hb; obtain ⟨i0, i1, i2, i3, i4, i5, i6, i7, i8, i9⟩ := hX.ten 0 rfl) | (go_at_call 35; with_reducible refine (hs _ hX.frm (T3.step hX.below)).mono ?_; rintro e w' ⟨rfl, hb⟩; have hX := hX.step hb; clear hb; obtain ⟨i0, i1, i2, i3, i4, i5, i6, i7, i8, i9⟩ := hX.ten 0 rfl) | (go_at_call 35; with_reducible refine (hs3 _ hX.frm (T3.step hX.below)).mono ?_; rintro e w' ⟨rfl, hb⟩; have hX := hX.step hb; clear hb; obtain ⟨i0, i1, i2, i3, i4, i5, i6, i7, i8, i9⟩ := hX.ten 0 rfl))
    generalize hBB : W0.heap.size = B at hX i0 i1 i2 i3 i4 i5 i6 i7 i8 i9 ⊢
    refine region_class (fun w' => St A c [(B, [.int .i64 43, .bool b, .int .i64 m, .int .i64 r, .int .i64 x, .int .i64 p, .int .i64 q, .int .i64 y, .int .i64 GN, .int .i64 n])] W0 w') (by kernel_rfl) (by kernel_rfl) hX.drew ?_
    clear hX i0 i1 i2 i3 i4 i5 i6 i7 i8 i9
    repeat
      first
        | (refine BigFrame.wpQuiet_skip (by rfl) ?_
           simp only [Act.put, List.setIfInBounds_toArray, List.set_cons_zero, List.set_cons_succ])
        | (refine BigFrame.wpQuiet_want (by rfl) (fun K hK => ?_)
           apply Exists.intro
           refine ⟨fun wq hq => ?_, hK _ ?_⟩
           · obtain ⟨i0, i1, i2, i3, i4, i5, i6, i7, i8, i9⟩ := hq.ten 0 rfl
             unfold Oper.quietAt
             go_simp
             first
               | with_reducible rfl
               | ((go_at_call 36); with_reducible refine (hl _ hq.frm).mono ?_; exact fun e w' ⟨he, hb⟩ => ⟨he, hq.step hb⟩)
               | ((go_at_call 35); with_reducible refine (hd _ hq.frm (T3.step hq.below)).mono ?_; exact fun e w' ⟨he, hb⟩ => ⟨he, hq.step hb⟩)
           clear hK K
           simp only [Act.put, List.setIfInBounds_toArray, List.set_cons_zero, List.set_cons_succ])
    refine wpQuiet_nil ?_
    intro w5 hX
    obtain ⟨aC, cC, hC1, hC2⟩ := hrg _ hX.below
    obtain ⟨i0, i1, i2, i3, i4, i5, i6, i7, i8, i9⟩ := hX.ten 0 rfl
    go_wp2
    go_ret
    exact ⟨by first | rfl | (simp [ba_app]; done), hX.below⟩

theorem rtext_g (o : Int) (b : Bool) (m r x p q y g n a : Int) (h1 : 26 ≤ o) (h2 : o ≤ 40) (hV : vR ⟨o, b, m, r, x, p, q, y, g, n⟩ = true) {A : Addr} {c : Nat} (W0 : World) (W : Frm A c W0) (T : Tab 6 mns W0) (T3 : Tab 3 rgs W0) :
    Calls Tryz.prog 14 #[.agg #[.int .i64 o, .bool b, .int .i64 m, .int .i64 r, .int .i64 x, .int .i64 p, .int .i64 q, .int .i64 y, .int .i64 g, .int .i64 n], .int .i64 a] W0 fun e w' => e = .returned (.string ⟨(txT ⟨o, b, m, r, x, p, q, y, g, n⟩ a).toArray⟩) ∧ Below W0.heap.size W0 w' := by
  have hg := (vR_rng hV).2
  obtain ⟨GN, rfl⟩ : ∃ K : Nat, g = (K : Int) := ⟨g.toNat, by omega⟩
  have hGN : GN < 8 := by omega
  have hg1 : (0 : Int) ≤ GN := by omega
  have hg2 : (GN : Int) < 8 := by omega
  have h7 : bits .and .i64 (GN : Int) 7 = GN := by rw [a7]; omega
  have hAa := a65535 a
  have hA1 : 0 ≤ a % 65536 := by omega
  have hA2 : a % 65536 < 65536 := by omega
  have eS : srT ⟨o, b, m, r, x, p, q, y, (GN : Int), n⟩ a = opT m r x (a % 65536 + 2 + 2) := opT_mod m r x (by omega)
  have eD : dsT ⟨o, b, m, r, x, p, q, y, (GN : Int), n⟩ a = opT p q y (a % 65536 + 2 * lenR ⟨o, b, m, r, x, p, q, y, (GN : Int), n⟩) := opT_mod p q y (by omega)
  have eG : agT ⟨o, b, m, r, x, p, q, y, (GN : Int), n⟩ a = [tgT a n] := by unfold agT; dsimp only; rw [if_neg (by omega), if_neg (by omega), if_neg (by omega), if_neg (by omega), if_neg (by omega), if_neg (by omega), if_pos (by omega)]
  clear eS eD
  have eV : tgT a n = nuT (wrap64 (a % 65536 + 2 + wrap64 (2 * n))) := nuT_mod (by have w1 := wrap_mod (a % 65536 + 2 + wrap64 (2 * n)); have w2 := wrap_mod (2 * n); omega)
  rw [eV] at eG
  have hw1 : IntKind.i64.wrap (2 * n) = wrap64 (2 * n) := wrap_i64 _
  have hw2 : IntKind.i64.wrap (a % 65536 + 2 + wrap64 (2 * n)) = wrap64 (a % 65536 + 2 + wrap64 (2 * n)) := wrap_i64 _
  have e : txT ⟨o, b, m, r, x, p, q, y, (GN : Int), n⟩ a = nmT o b ++ tlT (agT ⟨o, b, m, r, x, p, q, y, (GN : Int), n⟩ a) := by unfold txT; rw [hV]; dsimp only; rw [abT_out (by omega)]; rfl
  rw [eG] at e
  simp only [tlT, joT, List.length_cons, List.length_nil, Nat.add_one_ne_zero, Nat.zero_add, if_false, if_true, List.append_nil, reduceIte] at e
  rw [e]
  have hv := fun w (k : Frm A c w) => rV_any o b m r x p q y GN n w k
  rw [hV] at hv
  have hnm := fun w t => rname_any o b w t
  have hE := fun w => rext_any m r x w
  have hs := fun w (k : Frm A c w) t => ropr_any m r x (a % 65536 + 2 + 2) w k t
  have hs2 : exR (m % 8) (r % 8) = false → opT m r x (a % 65536 + 2) = opT m r x (a % 65536 + 2 + 2) := fun h => opT_ne m r x _ _ h
  have hs3 := fun w (k : Frm A c w) t => ropr_any m r x (a % 65536 + 2) w k t
  have hd := fun w (k : Frm A c w) t => ropr_any p q y (a % 65536 + 2 * lenR ⟨o, b, m, r, x, p, q, y, (GN : Int), n⟩) w k t
  have hl := fun w (k : Frm A c w) => rLength_any o b m r x p q y GN n w k
  have hr := lenR_rng ⟨o, b, m, r, x, p, q, y, (GN : Int), n⟩
  have hu := fun w => rnum_any (wrap64 (a % 65536 + 2 + wrap64 (2 * n))) w
  have l1 := nmT_len o b
  have s1 := tx_size (nmT o b)
  have l2 := opT_len m r x (a % 65536 + 2 + 2)
  have s2 := tx_size (opT m r x (a % 65536 + 2 + 2))
  have l3 := opT_len p q y (a % 65536 + 2 * lenR ⟨o, b, m, r, x, p, q, y, (GN : Int), n⟩)
  have s3 := tx_size (opT p q y (a % 65536 + 2 * lenR ⟨o, b, m, r, x, p, q, y, (GN : Int), n⟩))
  have l4 := rgT_len GN
  have s4 := tx_size (rgT GN)
  have l5 := nuT_len (wrap64 (a % 65536 + 2 + wrap64 (2 * n)))
  have s5 := tx_size (nuT (wrap64 (a % 65536 + 2 + wrap64 (2 * n))))
  have hrg : ∀ w, Below W0.heap.size W0 w → ∃ a1 c1, w.cell? ⟨3, 0, none⟩ = some (.slice (some a1) 8 c1) ∧ w.cell? (a1.add GN) = some (.string ⟨(rgT GN).toArray⟩) := fun w h => by
    obtain ⟨a1, c1, h1, h2, _⟩ := (T3.step h).sl
    exact ⟨a1, c1, h1, Tab.at (g := 0) h2 GN hGN⟩
  clear e eG hV eV
  generalize opT p q y (a % 65536 + 2 * lenR ⟨o, b, m, r, x, p, q, y, (GN : Int), n⟩) = D at *
  generalize lenR ⟨o, b, m, r, x, p, q, y, (GN : Int), n⟩ = L at *
  generalize opT m r x (a % 65536 + 2 + 2) = S at *
  generalize nmT o b = M at *
  generalize rgT (GN : Int) = G at *
  generalize nuT (wrap64 (a % 65536 + 2 + wrap64 (2 * n))) = V at *
  generalize wrap64 (a % 65536 + 2 + wrap64 (2 * n)) = N3 at *
  generalize wrap64 (2 * n) = N2 at *
  generalize a % 65536 = AA at *
  have hw3 : IntKind.i64.wrap (2 * L) = 2 * L := by rw [wrap_i64]; unfold wrap64; omega
  have hw4 : IntKind.i64.wrap (AA + 2 * L) = AA + 2 * L := by rw [wrap_i64]; unfold wrap64; omega
  have z53 : (o == 53) = false := beq_false_of_ne (by omega)
  have y53 : ¬ o = 53 := by omega
  have z54 : (o == 54) = false := beq_false_of_ne (by omega)
  have y54 : ¬ o = 54 := by omega
  have z11 : (o == 11) = false := beq_false_of_ne (by omega)
  have y11 : ¬ o = 11 := by omega
  have z42 : (o == 42) = false := beq_false_of_ne (by omega)
  have y42 : ¬ o = 42 := by omega
  have z41 : (o == 41) = false := beq_false_of_ne (by omega)
  have y41 : ¬ o = 41 := by omega
  have z56 : (o == 56) = false := beq_false_of_ne (by omega)
  have y56 : ¬ o = 56 := by omega
  have z55 : (o == 55) = false := beq_false_of_ne (by omega)
  have y55 : ¬ o = 55 := by omega
  have z43 : (o == 43) = false := beq_false_of_ne (by omega)
  have y43 : ¬ o = 43 := by omega
  have z44 : (o == 44) = false := beq_false_of_ne (by omega)
  have y44 : ¬ o = 44 := by omega
  have z45 : (o == 45) = false := beq_false_of_ne (by omega)
  have y45 : ¬ o = 45 := by omega
  have z46 : (o == 46) = false := beq_false_of_ne (by omega)
  have y46 : ¬ o = 46 := by omega
  have u1 : 1 ≤ o := by omega
  have v7 : ¬ o ≤ 7 := by omega
  have V7 : 7 < o := by omega
  have u8 : 8 ≤ o := by omega
  have v10 : ¬ o ≤ 10 := by omega
  have V10 : 10 < o := by omega
  have u12 : 12 ≤ o := by omega
  have v25 : ¬ o ≤ 25 := by omega
  have V25 : 25 < o := by omega
  have u26 : 26 ≤ o := by omega
  have v40 : o ≤ 40 := by omega
  have hX := (St.start W).put [.int .i64 o, .bool b, .int .i64 m, .int .i64 r, .int .i64 x, .int .i64 p, .int .i64 q, .int .i64 y, .int .i64 GN, .int .i64 n] 36
  obtain ⟨i0, i1, i2, i3, i4, i5, i6, i7, i8, i9⟩ := hX.ten 0 rfl
  generalize exR (m % 8) (r % 8) = E at *
  cases E
  all_goals
    try rw [hs2 rfl] at hs3
    clear hs2
    go_enter Tryz.func14, Tryz.ntmps14
    go_wp2_with (first | (go_at_call 32; with_reducible refine (hv _ hX.frm).mono ?_; rintro e w' ⟨rfl, hb⟩; have hX := hX.step hb; clear hb; obtain ⟨i0, i1, i2, i3, i4, i5, i6, i7, i8, i9⟩ := hX.ten 0 rfl) | (go_at_call 33; with_reducible refine (hnm _ (T.step hX.below)).mono ?_; rintro e w' ⟨rfl, hb⟩; have hX := hX.step hb; clear hb; obtain ⟨i0, i1, i2, i3, i4, i5, i6, i7, i8, i9⟩ := hX.ten 0 rfl) | (go_at_call 30; with_reducible refine (hE _).mono ?_; rintro e w' ⟨rfl, hb⟩; have hX := hX.step hb; clear hb; obtain ⟨i0, i1, i2, i3, i4, i5, i6, i7, i8, i9⟩ := hX.ten 0 rfl) | (go_at_call 35; with_reducible refine (hs _ hX.frm (T3.step hX.below)).mono ?_; rintro e w' ⟨rfl, hb⟩; have hX := hX.step hb; clear hb; obtain ⟨i0, i1, i2, i3, i4, i5, i6, i7, i8, i9⟩ := hX.ten 0 rfl) | (go_at_call 35; with_reducible refine (hs3 _ hX.frm (T3.step hX.below)).mono ?_; rintro e w' ⟨rfl, hb⟩; have hX := hX.step hb; clear hb; obtain ⟨i0, i1, i2, i3, i4, i5, i6, i7, i8, i9⟩ := hX.ten 0 rfl))
    generalize hBB : W0.heap.size = B at hX i0 i1 i2 i3 i4 i5 i6 i7 i8 i9 ⊢
    refine region_class (fun w' => St A c [(B, [.int .i64 o, .bool b, .int .i64 m, .int .i64 r, .int .i64 x, .int .i64 p, .int .i64 q, .int .i64 y, .int .i64 GN, .int .i64 n])] W0 w') (by kernel_rfl) (by kernel_rfl) hX.drew ?_
    clear hX i0 i1 i2 i3 i4 i5 i6 i7 i8 i9
    repeat
      first
        | (refine BigFrame.wpQuiet_skip (by rfl) ?_
           simp only [Act.put, List.setIfInBounds_toArray, List.set_cons_zero, List.set_cons_succ])
        | (refine BigFrame.wpQuiet_want (by rfl) (fun K hK => ?_)
           apply Exists.intro
           refine ⟨fun wq hq => ?_, hK _ ?_⟩
           · obtain ⟨i0, i1, i2, i3, i4, i5, i6, i7, i8, i9⟩ := hq.ten 0 rfl
             unfold Oper.quietAt
             go_simp
             first
               | with_reducible rfl
               | ((go_at_call 36); with_reducible refine (hl _ hq.frm).mono ?_; exact fun e w' ⟨he, hb⟩ => ⟨he, hq.step hb⟩)
               | ((go_at_call 35); with_reducible refine (hd _ hq.frm (T3.step hq.below)).mono ?_; exact fun e w' ⟨he, hb⟩ => ⟨he, hq.step hb⟩)
           clear hK K
           simp only [Act.put, List.setIfInBounds_toArray, List.set_cons_zero, List.set_cons_succ])
    refine wpQuiet_nil ?_
    intro w5 hX
    obtain ⟨aC, cC, hC1, hC2⟩ := hrg _ hX.below
    obtain ⟨i0, i1, i2, i3, i4, i5, i6, i7, i8, i9⟩ := hX.ten 0 rfl
    go_wp2_with (first | (go_at_call 34; with_reducible refine (hu _).mono ?_; rintro e w' ⟨rfl, hb⟩; have hX := hX.step hb; clear hb))
    go_ret
    exact ⟨by first | rfl | (simp [ba_app]; done), hX.below⟩

theorem rtext_44 (b : Bool) (m r x p q y g n a : Int) (hV : vR ⟨44, b, m, r, x, p, q, y, g, n⟩ = true) {A : Addr} {c : Nat} (W0 : World) (W : Frm A c W0) (T : Tab 6 mns W0) (T3 : Tab 3 rgs W0) :
    Calls Tryz.prog 14 #[.agg #[.int .i64 44, .bool b, .int .i64 m, .int .i64 r, .int .i64 x, .int .i64 p, .int .i64 q, .int .i64 y, .int .i64 g, .int .i64 n], .int .i64 a] W0 fun e w' => e = .returned (.string ⟨(txT ⟨44, b, m, r, x, p, q, y, g, n⟩ a).toArray⟩) ∧ Below W0.heap.size W0 w' := by
  have hg := (vR_rng hV).2
  obtain ⟨GN, rfl⟩ : ∃ K : Nat, g = (K : Int) := ⟨g.toNat, by omega⟩
  have hGN : GN < 8 := by omega
  have hg1 : (0 : Int) ≤ GN := by omega
  have hg2 : (GN : Int) < 8 := by omega
  have h7 : bits .and .i64 (GN : Int) 7 = GN := by rw [a7]; omega
  have hAa := a65535 a
  have hA1 : 0 ≤ a % 65536 := by omega
  have hA2 : a % 65536 < 65536 := by omega
  have eS : srT ⟨44, b, m, r, x, p, q, y, (GN : Int), n⟩ a = opT m r x (a % 65536 + 2 + 2) := opT_mod m r x (by omega)
  have eD : dsT ⟨44, b, m, r, x, p, q, y, (GN : Int), n⟩ a = opT p q y (a % 65536 + 2 * lenR ⟨44, b, m, r, x, p, q, y, (GN : Int), n⟩) := opT_mod p q y (by omega)
  have eG : agT ⟨44, b, m, r, x, p, q, y, (GN : Int), n⟩ a = [rgT GN, tgT a (-n)] := by unfold agT; dsimp only; simp
  clear eS eD
  have eV : tgT a (-n) = nuT (wrap64 (a % 65536 + 2 - wrap64 (2 * n))) := nuT_mod (by have w1 := wrap_mod (a % 65536 + 2 - wrap64 (2 * n)); have w2 := wrap_mod (2 * n); omega)
  rw [eV] at eG
  have hw1 : IntKind.i64.wrap (2 * n) = wrap64 (2 * n) := wrap_i64 _
  have hw2 : IntKind.i64.wrap (a % 65536 + 2 - wrap64 (2 * n)) = wrap64 (a % 65536 + 2 - wrap64 (2 * n)) := wrap_i64 _
  have e : txT ⟨44, b, m, r, x, p, q, y, (GN : Int), n⟩ a = nmT 44 b ++ tlT (agT ⟨44, b, m, r, x, p, q, y, (GN : Int), n⟩ a) := by unfold txT; rw [hV]; dsimp only; rw [abT_out (by omega)]; rfl
  rw [eG] at e
  simp only [tlT, joT, List.length_cons, List.length_nil, Nat.add_one_ne_zero, Nat.zero_add, if_false, if_true, List.append_nil, reduceIte] at e
  rw [e]
  have hv := fun w (k : Frm A c w) => rV_any 44 b m r x p q y GN n w k
  rw [hV] at hv
  have hnm := fun w t => rname_any 44 b w t
  have hE := fun w => rext_any m r x w
  have hs := fun w (k : Frm A c w) t => ropr_any m r x (a % 65536 + 2 + 2) w k t
  have hs2 : exR (m % 8) (r % 8) = false → opT m r x (a % 65536 + 2) = opT m r x (a % 65536 + 2 + 2) := fun h => opT_ne m r x _ _ h
  have hs3 := fun w (k : Frm A c w) t => ropr_any m r x (a % 65536 + 2) w k t
  have hd := fun w (k : Frm A c w) t => ropr_any p q y (a % 65536 + 2 * lenR ⟨44, b, m, r, x, p, q, y, (GN : Int), n⟩) w k t
  have hl := fun w (k : Frm A c w) => rLength_any 44 b m r x p q y GN n w k
  have hr := lenR_rng ⟨44, b, m, r, x, p, q, y, (GN : Int), n⟩
  have hu := fun w => rnum_any (wrap64 (a % 65536 + 2 - wrap64 (2 * n))) w
  have l1 := nmT_len 44 b
  have s1 := tx_size (nmT 44 b)
  have l2 := opT_len m r x (a % 65536 + 2 + 2)
  have s2 := tx_size (opT m r x (a % 65536 + 2 + 2))
  have l3 := opT_len p q y (a % 65536 + 2 * lenR ⟨44, b, m, r, x, p, q, y, (GN : Int), n⟩)
  have s3 := tx_size (opT p q y (a % 65536 + 2 * lenR ⟨44, b, m, r, x, p, q, y, (GN : Int), n⟩))
  have l4 := rgT_len GN
  have s4 := tx_size (rgT GN)
  have l5 := nuT_len (wrap64 (a % 65536 + 2 - wrap64 (2 * n)))
  have s5 := tx_size (nuT (wrap64 (a % 65536 + 2 - wrap64 (2 * n))))
  have hrg : ∀ w, Below W0.heap.size W0 w → ∃ a1 c1, w.cell? ⟨3, 0, none⟩ = some (.slice (some a1) 8 c1) ∧ w.cell? (a1.add GN) = some (.string ⟨(rgT GN).toArray⟩) := fun w h => by
    obtain ⟨a1, c1, h1, h2, _⟩ := (T3.step h).sl
    exact ⟨a1, c1, h1, Tab.at (g := 0) h2 GN hGN⟩
  clear e eG hV eV
  generalize opT p q y (a % 65536 + 2 * lenR ⟨44, b, m, r, x, p, q, y, (GN : Int), n⟩) = D at *
  generalize lenR ⟨44, b, m, r, x, p, q, y, (GN : Int), n⟩ = L at *
  generalize opT m r x (a % 65536 + 2 + 2) = S at *
  generalize nmT 44 b = M at *
  generalize rgT (GN : Int) = G at *
  generalize nuT (wrap64 (a % 65536 + 2 - wrap64 (2 * n))) = V at *
  generalize wrap64 (a % 65536 + 2 - wrap64 (2 * n)) = N3 at *
  generalize wrap64 (2 * n) = N2 at *
  generalize a % 65536 = AA at *
  have hw3 : IntKind.i64.wrap (2 * L) = 2 * L := by rw [wrap_i64]; unfold wrap64; omega
  have hw4 : IntKind.i64.wrap (AA + 2 * L) = AA + 2 * L := by rw [wrap_i64]; unfold wrap64; omega
  have hX := (St.start W).put [.int .i64 44, .bool b, .int .i64 m, .int .i64 r, .int .i64 x, .int .i64 p, .int .i64 q, .int .i64 y, .int .i64 GN, .int .i64 n] 36
  obtain ⟨i0, i1, i2, i3, i4, i5, i6, i7, i8, i9⟩ := hX.ten 0 rfl
  generalize exR (m % 8) (r % 8) = E at *
  cases E
  all_goals
    try rw [hs2 rfl] at hs3
    clear hs2
    go_enter Tryz.func14, Tryz.ntmps14
    go_wp2_with (first | (go_at_call 32; with_reducible refine (hv _ hX.frm).mono ?_; rintro e w' ⟨rfl, hb⟩; have hX := hX.step hb; clear hb; obtain ⟨i0, i1, i2, i3, i4, i5, i6, i7, i8, i9⟩ := hX.ten 0 rfl) | (go_at_call 33; with_reducible refine (hnm _ (T.step hX.below)).mono ?_; rintro e w' ⟨rfl, hb⟩; have hX := hX.step hb; clear hb; obtain ⟨i0, i1, i2, i3, i4, i5, i6, i7, i8, i9⟩ := hX.ten 0 rfl) | (go_at_call 30; with_reducible refine (hE _).mono ?_; rintro e w' ⟨rfl, hb⟩; have hX := hX.step hb; clear hb; obtain ⟨i0, i1, i2, i3, i4, i5, i6, i7, i8, i9⟩ := hX.ten 0 rfl) | (go_at_call 35; with_reducible refine (hs _ hX.frm (T3.step hX.below)).mono ?_; rintro e w' ⟨rfl, hb⟩; have hX := hX.step hb; clear hb; obtain ⟨i0, i1, i2, i3, i4, i5, i6, i7, i8, i9⟩ := hX.ten 0 rfl) | (go_at_call 35; with_reducible refine (hs3 _ hX.frm (T3.step hX.below)).mono ?_; rintro e w' ⟨rfl, hb⟩; have hX := hX.step hb; clear hb; obtain ⟨i0, i1, i2, i3, i4, i5, i6, i7, i8, i9⟩ := hX.ten 0 rfl))
    generalize hBB : W0.heap.size = B at hX i0 i1 i2 i3 i4 i5 i6 i7 i8 i9 ⊢
    refine region_class (fun w' => St A c [(B, [.int .i64 44, .bool b, .int .i64 m, .int .i64 r, .int .i64 x, .int .i64 p, .int .i64 q, .int .i64 y, .int .i64 GN, .int .i64 n])] W0 w') (by kernel_rfl) (by kernel_rfl) hX.drew ?_
    clear hX i0 i1 i2 i3 i4 i5 i6 i7 i8 i9
    repeat
      first
        | (refine BigFrame.wpQuiet_skip (by rfl) ?_
           simp only [Act.put, List.setIfInBounds_toArray, List.set_cons_zero, List.set_cons_succ])
        | (refine BigFrame.wpQuiet_want (by rfl) (fun K hK => ?_)
           apply Exists.intro
           refine ⟨fun wq hq => ?_, hK _ ?_⟩
           · obtain ⟨i0, i1, i2, i3, i4, i5, i6, i7, i8, i9⟩ := hq.ten 0 rfl
             unfold Oper.quietAt
             go_simp
             first
               | with_reducible rfl
               | ((go_at_call 36); with_reducible refine (hl _ hq.frm).mono ?_; exact fun e w' ⟨he, hb⟩ => ⟨he, hq.step hb⟩)
               | ((go_at_call 35); with_reducible refine (hd _ hq.frm (T3.step hq.below)).mono ?_; exact fun e w' ⟨he, hb⟩ => ⟨he, hq.step hb⟩)
           clear hK K
           simp only [Act.put, List.setIfInBounds_toArray, List.set_cons_zero, List.set_cons_succ])
    refine wpQuiet_nil ?_
    intro w5 hX
    obtain ⟨aC, cC, hC1, hC2⟩ := hrg _ hX.below
    obtain ⟨i0, i1, i2, i3, i4, i5, i6, i7, i8, i9⟩ := hX.ten 0 rfl
    go_wp2_with (first | (go_at_call 34; with_reducible refine (hu _).mono ?_; rintro e w' ⟨rfl, hb⟩; have hX := hX.step hb; clear hb))
    go_ret
    exact ⟨by first | rfl | (simp [ba_app]; done), hX.below⟩

theorem rtext_45 (b : Bool) (m r x p q y g n a : Int) (hV : vR ⟨45, b, m, r, x, p, q, y, g, n⟩ = true) {A : Addr} {c : Nat} (W0 : World) (W : Frm A c W0) (T : Tab 6 mns W0) (T3 : Tab 3 rgs W0) :
    Calls Tryz.prog 14 #[.agg #[.int .i64 45, .bool b, .int .i64 m, .int .i64 r, .int .i64 x, .int .i64 p, .int .i64 q, .int .i64 y, .int .i64 g, .int .i64 n], .int .i64 a] W0 fun e w' => e = .returned (.string ⟨(txT ⟨45, b, m, r, x, p, q, y, g, n⟩ a).toArray⟩) ∧ Below W0.heap.size W0 w' := by
  have hg := (vR_rng hV).2
  obtain ⟨GN, rfl⟩ : ∃ K : Nat, g = (K : Int) := ⟨g.toNat, by omega⟩
  have hGN : GN < 8 := by omega
  have hg1 : (0 : Int) ≤ GN := by omega
  have hg2 : (GN : Int) < 8 := by omega
  have h7 : bits .and .i64 (GN : Int) 7 = GN := by rw [a7]; omega
  have hAa := a65535 a
  have hA1 : 0 ≤ a % 65536 := by omega
  have hA2 : a % 65536 < 65536 := by omega
  have eS : srT ⟨45, b, m, r, x, p, q, y, (GN : Int), n⟩ a = opT m r x (a % 65536 + 2 + 2) := opT_mod m r x (by omega)
  have eD : dsT ⟨45, b, m, r, x, p, q, y, (GN : Int), n⟩ a = opT p q y (a % 65536 + 2 * lenR ⟨45, b, m, r, x, p, q, y, (GN : Int), n⟩) := opT_mod p q y (by omega)
  have eG : agT ⟨45, b, m, r, x, p, q, y, (GN : Int), n⟩ a = [nuT n] := by unfold agT; dsimp only; simp
  clear eS eD
  have e : txT ⟨45, b, m, r, x, p, q, y, (GN : Int), n⟩ a = nmT 45 b ++ tlT (agT ⟨45, b, m, r, x, p, q, y, (GN : Int), n⟩ a) := by unfold txT; rw [hV]; dsimp only; rw [abT_out (by omega)]; rfl
  rw [eG] at e
  simp only [tlT, joT, List.length_cons, List.length_nil, Nat.add_one_ne_zero, Nat.zero_add, if_false, if_true, List.append_nil, reduceIte] at e
  rw [e]
  have hv := fun w (k : Frm A c w) => rV_any 45 b m r x p q y GN n w k
  rw [hV] at hv
  have hnm := fun w t => rname_any 45 b w t
  have hE := fun w => rext_any m r x w
  have hs := fun w (k : Frm A c w) t => ropr_any m r x (a % 65536 + 2 + 2) w k t
  have hs2 : exR (m % 8) (r % 8) = false → opT m r x (a % 65536 + 2) = opT m r x (a % 65536 + 2 + 2) := fun h => opT_ne m r x _ _ h
  have hs3 := fun w (k : Frm A c w) t => ropr_any m r x (a % 65536 + 2) w k t
  have hd := fun w (k : Frm A c w) t => ropr_any p q y (a % 65536 + 2 * lenR ⟨45, b, m, r, x, p, q, y, (GN : Int), n⟩) w k t
  have hl := fun w (k : Frm A c w) => rLength_any 45 b m r x p q y GN n w k
  have hr := lenR_rng ⟨45, b, m, r, x, p, q, y, (GN : Int), n⟩
  have hu := fun w => rnum_any (n) w
  have l1 := nmT_len 45 b
  have s1 := tx_size (nmT 45 b)
  have l2 := opT_len m r x (a % 65536 + 2 + 2)
  have s2 := tx_size (opT m r x (a % 65536 + 2 + 2))
  have l3 := opT_len p q y (a % 65536 + 2 * lenR ⟨45, b, m, r, x, p, q, y, (GN : Int), n⟩)
  have s3 := tx_size (opT p q y (a % 65536 + 2 * lenR ⟨45, b, m, r, x, p, q, y, (GN : Int), n⟩))
  have l4 := rgT_len GN
  have s4 := tx_size (rgT GN)
  have l5 := nuT_len (n)
  have s5 := tx_size (nuT (n))
  have hrg : ∀ w, Below W0.heap.size W0 w → ∃ a1 c1, w.cell? ⟨3, 0, none⟩ = some (.slice (some a1) 8 c1) ∧ w.cell? (a1.add GN) = some (.string ⟨(rgT GN).toArray⟩) := fun w h => by
    obtain ⟨a1, c1, h1, h2, _⟩ := (T3.step h).sl
    exact ⟨a1, c1, h1, Tab.at (g := 0) h2 GN hGN⟩
  clear e eG hV
  generalize opT p q y (a % 65536 + 2 * lenR ⟨45, b, m, r, x, p, q, y, (GN : Int), n⟩) = D at *
  generalize lenR ⟨45, b, m, r, x, p, q, y, (GN : Int), n⟩ = L at *
  generalize opT m r x (a % 65536 + 2 + 2) = S at *
  generalize nmT 45 b = M at *
  generalize rgT (GN : Int) = G at *
  generalize nuT (n) = V at *
  generalize a % 65536 = AA at *
  have hw3 : IntKind.i64.wrap (2 * L) = 2 * L := by rw [wrap_i64]; unfold wrap64; omega
  have hw4 : IntKind.i64.wrap (AA + 2 * L) = AA + 2 * L := by rw [wrap_i64]; unfold wrap64; omega
  have hX := (St.start W).put [.int .i64 45, .bool b, .int .i64 m, .int .i64 r, .int .i64 x, .int .i64 p, .int .i64 q, .int .i64 y, .int .i64 GN, .int .i64 n] 36
  obtain ⟨i0, i1, i2, i3, i4, i5, i6, i7, i8, i9⟩ := hX.ten 0 rfl
  generalize exR (m % 8) (r % 8) = E at *
  cases E
  all_goals
    try rw [hs2 rfl] at hs3
    clear hs2
    go_enter Tryz.func14, Tryz.ntmps14
    go_wp2_with (first | (go_at_call 32; with_reducible refine (hv _ hX.frm).mono ?_; rintro e w' ⟨rfl, hb⟩; have hX := hX.step hb; clear hb; obtain ⟨i0, i1, i2, i3, i4, i5, i6, i7, i8, i9⟩ := hX.ten 0 rfl) | (go_at_call 33; with_reducible refine (hnm _ (T.step hX.below)).mono ?_; rintro e w' ⟨rfl, hb⟩; have hX := hX.step hb; clear hb; obtain ⟨i0, i1, i2, i3, i4, i5, i6, i7, i8, i9⟩ := hX.ten 0 rfl) | (go_at_call 30; with_reducible refine (hE _).mono ?_; rintro e w' ⟨rfl, hb⟩; have hX := hX.step hb; clear hb; obtain ⟨i0, i1, i2, i3, i4, i5, i6, i7, i8, i9⟩ := hX.ten 0 rfl) | (go_at_call 35; with_reducible refine (hs _ hX.frm (T3.step hX.below)).mono ?_; rintro e w' ⟨rfl, hb⟩; have hX := hX.step hb; clear hb; obtain ⟨i0, i1, i2, i3, i4, i5, i6, i7, i8, i9⟩ := hX.ten 0 rfl) | (go_at_call 35; with_reducible refine (hs3 _ hX.frm (T3.step hX.below)).mono ?_; rintro e w' ⟨rfl, hb⟩; have hX := hX.step hb; clear hb; obtain ⟨i0, i1, i2, i3, i4, i5, i6, i7, i8, i9⟩ := hX.ten 0 rfl))
    generalize hBB : W0.heap.size = B at hX i0 i1 i2 i3 i4 i5 i6 i7 i8 i9 ⊢
    refine region_class (fun w' => St A c [(B, [.int .i64 45, .bool b, .int .i64 m, .int .i64 r, .int .i64 x, .int .i64 p, .int .i64 q, .int .i64 y, .int .i64 GN, .int .i64 n])] W0 w') (by kernel_rfl) (by kernel_rfl) hX.drew ?_
    clear hX i0 i1 i2 i3 i4 i5 i6 i7 i8 i9
    repeat
      first
        | (refine BigFrame.wpQuiet_skip (by rfl) ?_
           simp only [Act.put, List.setIfInBounds_toArray, List.set_cons_zero, List.set_cons_succ])
        | (refine BigFrame.wpQuiet_want (by rfl) (fun K hK => ?_)
           apply Exists.intro
           refine ⟨fun wq hq => ?_, hK _ ?_⟩
           · obtain ⟨i0, i1, i2, i3, i4, i5, i6, i7, i8, i9⟩ := hq.ten 0 rfl
             unfold Oper.quietAt
             go_simp
             first
               | with_reducible rfl
               | ((go_at_call 36); with_reducible refine (hl _ hq.frm).mono ?_; exact fun e w' ⟨he, hb⟩ => ⟨he, hq.step hb⟩)
               | ((go_at_call 35); with_reducible refine (hd _ hq.frm (T3.step hq.below)).mono ?_; exact fun e w' ⟨he, hb⟩ => ⟨he, hq.step hb⟩)
           clear hK K
           simp only [Act.put, List.setIfInBounds_toArray, List.set_cons_zero, List.set_cons_succ])
    refine wpQuiet_nil ?_
    intro w5 hX
    obtain ⟨aC, cC, hC1, hC2⟩ := hrg _ hX.below
    obtain ⟨i0, i1, i2, i3, i4, i5, i6, i7, i8, i9⟩ := hX.ten 0 rfl
    go_wp2_with (first | (go_at_call 34; with_reducible refine (hu _).mono ?_; rintro e w' ⟨rfl, hb⟩; have hX := hX.step hb; clear hb))
    go_ret
    exact ⟨by first | rfl | (simp [ba_app]; done), hX.below⟩

theorem rtext_46 (b : Bool) (m r x p q y g n a : Int) (hV : vR ⟨46, b, m, r, x, p, q, y, g, n⟩ = true) {A : Addr} {c : Nat} (W0 : World) (W : Frm A c W0) (T : Tab 6 mns W0) (T3 : Tab 3 rgs W0) :
    Calls Tryz.prog 14 #[.agg #[.int .i64 46, .bool b, .int .i64 m, .int .i64 r, .int .i64 x, .int .i64 p, .int .i64 q, .int .i64 y, .int .i64 g, .int .i64 n], .int .i64 a] W0 fun e w' => e = .returned (.string ⟨(txT ⟨46, b, m, r, x, p, q, y, g, n⟩ a).toArray⟩) ∧ Below W0.heap.size W0 w' := by
  have hg := (vR_rng hV).2
  obtain ⟨GN, rfl⟩ : ∃ K : Nat, g = (K : Int) := ⟨g.toNat, by omega⟩
  have hGN : GN < 8 := by omega
  have hg1 : (0 : Int) ≤ GN := by omega
  have hg2 : (GN : Int) < 8 := by omega
  have h7 : bits .and .i64 (GN : Int) 7 = GN := by rw [a7]; omega
  have hAa := a65535 a
  have hA1 : 0 ≤ a % 65536 := by omega
  have hA2 : a % 65536 < 65536 := by omega
  have eS : srT ⟨46, b, m, r, x, p, q, y, (GN : Int), n⟩ a = opT m r x (a % 65536 + 2 + 2) := opT_mod m r x (by omega)
  have eD : dsT ⟨46, b, m, r, x, p, q, y, (GN : Int), n⟩ a = opT p q y (a % 65536 + 2 * lenR ⟨46, b, m, r, x, p, q, y, (GN : Int), n⟩) := opT_mod p q y (by omega)
  have eG : agT ⟨46, b, m, r, x, p, q, y, (GN : Int), n⟩ a = [nuT n] := by unfold agT; dsimp only; simp
  clear eS eD
  have e : txT ⟨46, b, m, r, x, p, q, y, (GN : Int), n⟩ a = nmT 46 b ++ tlT (agT ⟨46, b, m, r, x, p, q, y, (GN : Int), n⟩ a) := by unfold txT; rw [hV]; dsimp only; rw [abT_out (by omega)]; rfl
  rw [eG] at e
  simp only [tlT, joT, List.length_cons, List.length_nil, Nat.add_one_ne_zero, Nat.zero_add, if_false, if_true, List.append_nil, reduceIte] at e
  rw [e]
  have hv := fun w (k : Frm A c w) => rV_any 46 b m r x p q y GN n w k
  rw [hV] at hv
  have hnm := fun w t => rname_any 46 b w t
  have hE := fun w => rext_any m r x w
  have hs := fun w (k : Frm A c w) t => ropr_any m r x (a % 65536 + 2 + 2) w k t
  have hs2 : exR (m % 8) (r % 8) = false → opT m r x (a % 65536 + 2) = opT m r x (a % 65536 + 2 + 2) := fun h => opT_ne m r x _ _ h
  have hs3 := fun w (k : Frm A c w) t => ropr_any m r x (a % 65536 + 2) w k t
  have hd := fun w (k : Frm A c w) t => ropr_any p q y (a % 65536 + 2 * lenR ⟨46, b, m, r, x, p, q, y, (GN : Int), n⟩) w k t
  have hl := fun w (k : Frm A c w) => rLength_any 46 b m r x p q y GN n w k
  have hr := lenR_rng ⟨46, b, m, r, x, p, q, y, (GN : Int), n⟩
  have hu := fun w => rnum_any (n) w
  have l1 := nmT_len 46 b
  have s1 := tx_size (nmT 46 b)
  have l2 := opT_len m r x (a % 65536 + 2 + 2)
  have s2 := tx_size (opT m r x (a % 65536 + 2 + 2))
  have l3 := opT_len p q y (a % 65536 + 2 * lenR ⟨46, b, m, r, x, p, q, y, (GN : Int), n⟩)
  have s3 := tx_size (opT p q y (a % 65536 + 2 * lenR ⟨46, b, m, r, x, p, q, y, (GN : Int), n⟩))
  have l4 := rgT_len GN
  have s4 := tx_size (rgT GN)
  have l5 := nuT_len (n)
  have s5 := tx_size (nuT (n))
  have hrg : ∀ w, Below W0.heap.size W0 w → ∃ a1 c1, w.cell? ⟨3, 0, none⟩ = some (.slice (some a1) 8 c1) ∧ w.cell? (a1.add GN) = some (.string ⟨(rgT GN).toArray⟩) := fun w h => by
    obtain ⟨a1, c1, h1, h2, _⟩ := (T3.step h).sl
    exact ⟨a1, c1, h1, Tab.at (g := 0) h2 GN hGN⟩
  clear e eG hV
  generalize opT p q y (a % 65536 + 2 * lenR ⟨46, b, m, r, x, p, q, y, (GN : Int), n⟩) = D at *
  generalize lenR ⟨46, b, m, r, x, p, q, y, (GN : Int), n⟩ = L at *
  generalize opT m r x (a % 65536 + 2 + 2) = S at *
  generalize nmT 46 b = M at *
  generalize rgT (GN : Int) = G at *
  generalize nuT (n) = V at *
  generalize a % 65536 = AA at *
  have hw3 : IntKind.i64.wrap (2 * L) = 2 * L := by rw [wrap_i64]; unfold wrap64; omega
  have hw4 : IntKind.i64.wrap (AA + 2 * L) = AA + 2 * L := by rw [wrap_i64]; unfold wrap64; omega
  have hX := (St.start W).put [.int .i64 46, .bool b, .int .i64 m, .int .i64 r, .int .i64 x, .int .i64 p, .int .i64 q, .int .i64 y, .int .i64 GN, .int .i64 n] 36
  obtain ⟨i0, i1, i2, i3, i4, i5, i6, i7, i8, i9⟩ := hX.ten 0 rfl
  generalize exR (m % 8) (r % 8) = E at *
  cases E
  all_goals
    try rw [hs2 rfl] at hs3
    clear hs2
    go_enter Tryz.func14, Tryz.ntmps14
    go_wp2_with (first | (go_at_call 32; with_reducible refine (hv _ hX.frm).mono ?_; rintro e w' ⟨rfl, hb⟩; have hX := hX.step hb; clear hb; obtain ⟨i0, i1, i2, i3, i4, i5, i6, i7, i8, i9⟩ := hX.ten 0 rfl) | (go_at_call 33; with_reducible refine (hnm _ (T.step hX.below)).mono ?_; rintro e w' ⟨rfl, hb⟩; have hX := hX.step hb; clear hb; obtain ⟨i0, i1, i2, i3, i4, i5, i6, i7, i8, i9⟩ := hX.ten 0 rfl) | (go_at_call 30; with_reducible refine (hE _).mono ?_; rintro e w' ⟨rfl, hb⟩; have hX := hX.step hb; clear hb; obtain ⟨i0, i1, i2, i3, i4, i5, i6, i7, i8, i9⟩ := hX.ten 0 rfl) | (go_at_call 35; with_reducible refine (hs _ hX.frm (T3.step hX.below)).mono ?_; rintro e w' ⟨rfl, hb⟩; have hX := hX.step hb; clear hb; obtain ⟨i0, i1, i2, i3, i4, i5, i6, i7, i8, i9⟩ := hX.ten 0 rfl) | (go_at_call 35; with_reducible refine (hs3 _ hX.frm (T3.step hX.below)).mono ?_; rintro e w' ⟨rfl, hb⟩; have hX := hX.step hb; clear hb; obtain ⟨i0, i1, i2, i3, i4, i5, i6, i7, i8, i9⟩ := hX.ten 0 rfl))
    generalize hBB : W0.heap.size = B at hX i0 i1 i2 i3 i4 i5 i6 i7 i8 i9 ⊢
    refine region_class (fun w' => St A c [(B, [.int .i64 46, .bool b, .int .i64 m, .int .i64 r, .int .i64 x, .int .i64 p, .int .i64 q, .int .i64 y, .int .i64 GN, .int .i64 n])] W0 w') (by kernel_rfl) (by kernel_rfl) hX.drew ?_
    clear hX i0 i1 i2 i3 i4 i5 i6 i7 i8 i9
    repeat
      first
        | (refine BigFrame.wpQuiet_skip (by rfl) ?_
           simp only [Act.put, List.setIfInBounds_toArray, List.set_cons_zero, List.set_cons_succ])
        | (refine BigFrame.wpQuiet_want (by rfl) (fun K hK => ?_)
           apply Exists.intro
           refine ⟨fun wq hq => ?_, hK _ ?_⟩
           · obtain ⟨i0, i1, i2, i3, i4, i5, i6, i7, i8, i9⟩ := hq.ten 0 rfl
             unfold Oper.quietAt
             go_simp
             first
               | with_reducible rfl
               | ((go_at_call 36); with_reducible refine (hl _ hq.frm).mono ?_; exact fun e w' ⟨he, hb⟩ => ⟨he, hq.step hb⟩)
               | ((go_at_call 35); with_reducible refine (hd _ hq.frm (T3.step hq.below)).mono ?_; exact fun e w' ⟨he, hb⟩ => ⟨he, hq.step hb⟩)
           clear hK K
           simp only [Act.put, List.setIfInBounds_toArray, List.set_cons_zero, List.set_cons_succ])
    refine wpQuiet_nil ?_
    intro w5 hX
    obtain ⟨aC, cC, hC1, hC2⟩ := hrg _ hX.below
    obtain ⟨i0, i1, i2, i3, i4, i5, i6, i7, i8, i9⟩ := hX.ten 0 rfl
    go_wp2_with (first | (go_at_call 34; with_reducible refine (hu _).mono ?_; rintro e w' ⟨rfl, hb⟩; have hX := hX.step hb; clear hb))
    go_ret
    exact ⟨by first | rfl | (simp [ba_app]; done), hX.below⟩

theorem rtext_j (o : Int) (b : Bool) (m r x p q y g n a : Int) (h1 : 47 ≤ o) (h2 : o ≤ 52) (hV : vR ⟨o, b, m, r, x, p, q, y, g, n⟩ = true) {A : Addr} {c : Nat} (W0 : World) (W : Frm A c W0) (T : Tab 6 mns W0) (T3 : Tab 3 rgs W0) :
    Calls Tryz.prog 14 #[.agg #[.int .i64 o, .bool b, .int .i64 m, .int .i64 r, .int .i64 x, .int .i64 p, .int .i64 q, .int .i64 y, .int .i64 g, .int .i64 n], .int .i64 a] W0 fun e w' => e = .returned (.string ⟨(txT ⟨o, b, m, r, x, p, q, y, g, n⟩ a).toArray⟩) ∧ Below W0.heap.size W0 w' := by
  have hg := (vR_rng hV).2
  obtain ⟨GN, rfl⟩ : ∃ K : Nat, g = (K : Int) := ⟨g.toNat, by omega⟩
  have hGN : GN < 8 := by omega
  have hg1 : (0 : Int) ≤ GN := by omega
  have hg2 : (GN : Int) < 8 := by omega
  have h7 : bits .and .i64 (GN : Int) 7 = GN := by rw [a7]; omega
  have hAa := a65535 a
  have hA1 : 0 ≤ a % 65536 := by omega
  have hA2 : a % 65536 < 65536 := by omega
  have eS : srT ⟨o, b, m, r, x, p, q, y, (GN : Int), n⟩ a = opT m r x (a % 65536 + 2 + 2) := opT_mod m r x (by omega)
  have eD : dsT ⟨o, b, m, r, x, p, q, y, (GN : Int), n⟩ a = opT p q y (a % 65536 + 2 * lenR ⟨o, b, m, r, x, p, q, y, (GN : Int), n⟩) := opT_mod p q y (by omega)
  have eG : agT ⟨o, b, m, r, x, p, q, y, (GN : Int), n⟩ a = [] := by unfold agT; dsimp only; rw [if_neg (by omega), if_neg (by omega), if_neg (by omega), if_neg (by omega), if_neg (by omega), if_neg (by omega), if_neg (by omega), if_neg (by omega), if_neg (by omega)]
  clear eS eD
  have e : txT ⟨o, b, m, r, x, p, q, y, (GN : Int), n⟩ a = nmT o b ++ tlT (agT ⟨o, b, m, r, x, p, q, y, (GN : Int), n⟩ a) := by unfold txT; rw [hV]; dsimp only; rw [abT_out (by omega)]; rfl
  rw [eG] at e
  simp only [tlT, joT, List.length_cons, List.length_nil, Nat.add_one_ne_zero, Nat.zero_add, if_false, if_true, List.append_nil, reduceIte] at e
  rw [e]
  have hv := fun w (k : Frm A c w) => rV_any o b m r x p q y GN n w k
  rw [hV] at hv
  have hnm := fun w t => rname_any o b w t
  have hE := fun w => rext_any m r x w
  have hs := fun w (k : Frm A c w) t => ropr_any m r x (a % 65536 + 2 + 2) w k t
  have hs2 : exR (m % 8) (r % 8) = false → opT m r x (a % 65536 + 2) = opT m r x (a % 65536 + 2 + 2) := fun h => opT_ne m r x _ _ h
  have hs3 := fun w (k : Frm A c w) t => ropr_any m r x (a % 65536 + 2) w k t
  have hd := fun w (k : Frm A c w) t => ropr_any p q y (a % 65536 + 2 * lenR ⟨o, b, m, r, x, p, q, y, (GN : Int), n⟩) w k t
  have hl := fun w (k : Frm A c w) => rLength_any o b m r x p q y GN n w k
  have hr := lenR_rng ⟨o, b, m, r, x, p, q, y, (GN : Int), n⟩
  have l1 := nmT_len o b
  have s1 := tx_size (nmT o b)
  have l2 := opT_len m r x (a % 65536 + 2 + 2)
  have s2 := tx_size (opT m r x (a % 65536 + 2 + 2))
  have l3 := opT_len p q y (a % 65536 + 2 * lenR ⟨o, b, m, r, x, p, q, y, (GN : Int), n⟩)
  have s3 := tx_size (opT p q y (a % 65536 + 2 * lenR ⟨o, b, m, r, x, p, q, y, (GN : Int), n⟩))
  have l4 := rgT_len GN
  have s4 := tx_size (rgT GN)
  have hrg : ∀ w, Below W0.heap.size W0 w → ∃ a1 c1, w.cell? ⟨3, 0, none⟩ = some (.slice (some a1) 8 c1) ∧ w.cell? (a1.add GN) = some (.string ⟨(rgT GN).toArray⟩) := fun w h => by
    obtain ⟨a1, c1, h1, h2, _⟩ := (T3.step h).sl
    exact ⟨a1, c1, h1, Tab.at (g := 0) h2 GN hGN⟩
  clear e eG hV
  generalize opT p q y (a % 65536 + 2 * lenR ⟨o, b, m, r, x, p, q, y, (GN : Int), n⟩) = D at *
  generalize lenR ⟨o, b, m, r, x, p, q, y, (GN : Int), n⟩ = L at *
  generalize opT m r x (a % 65536 + 2 + 2) = S at *
  generalize nmT o b = M at *
  generalize rgT (GN : Int) = G at *
  generalize a % 65536 = AA at *
  have hw3 : IntKind.i64.wrap (2 * L) = 2 * L := by rw [wrap_i64]; unfold wrap64; omega
  have hw4 : IntKind.i64.wrap (AA + 2 * L) = AA + 2 * L := by rw [wrap_i64]; unfold wrap64; omega
  have z53 : (o == 53) = false := beq_false_of_ne (by omega)
  have y53 : ¬ o = 53 := by omega
  have z54 : (o == 54) = false := beq_false_of_ne (by omega)
  have y54 : ¬ o = 54 := by omega
  have z11 : (o == 11) = false := beq_false_of_ne (by omega)
  have y11 : ¬ o = 11 := by omega
  have z42 : (o == 42) = false := beq_false_of_ne (by omega)
  have y42 : ¬ o = 42 := by omega
  have z41 : (o == 41) = false := beq_false_of_ne (by omega)
  have y41 : ¬ o = 41 := by omega
  have z56 : (o == 56) = false := beq_false_of_ne (by omega)
  have y56 : ¬ o = 56 := by omega
  have z55 : (o == 55) = false := beq_false_of_ne (by omega)
  have y55 : ¬ o = 55 := by omega
  have z43 : (o == 43) = false := beq_false_of_ne (by omega)
  have y43 : ¬ o = 43 := by omega
  have z44 : (o == 44) = false := beq_false_of_ne (by omega)
  have y44 : ¬ o = 44 := by omega
  have z45 : (o == 45) = false := beq_false_of_ne (by omega)
  have y45 : ¬ o = 45 := by omega
  have z46 : (o == 46) = false := beq_false_of_ne (by omega)
  have y46 : ¬ o = 46 := by omega
  have u1 : 1 ≤ o := by omega
  have v7 : ¬ o ≤ 7 := by omega
  have V7 : 7 < o := by omega
  have u8 : 8 ≤ o := by omega
  have v10 : ¬ o ≤ 10 := by omega
  have V10 : 10 < o := by omega
  have u12 : 12 ≤ o := by omega
  have v25 : ¬ o ≤ 25 := by omega
  have V25 : 25 < o := by omega
  have u26 : 26 ≤ o := by omega
  have v40 : ¬ o ≤ 40 := by omega
  have V40 : 40 < o := by omega
  have hX := (St.start W).put [.int .i64 o, .bool b, .int .i64 m, .int .i64 r, .int .i64 x, .int .i64 p, .int .i64 q, .int .i64 y, .int .i64 GN, .int .i64 n] 36
  obtain ⟨i0, i1, i2, i3, i4, i5, i6, i7, i8, i9⟩ := hX.ten 0 rfl
  generalize exR (m % 8) (r % 8) = E at *
  cases E
  all_goals
    try rw [hs2 rfl] at hs3
    clear hs2
    go_enter Tryz.func14, Tryz.ntmps14
    go_wp2_with (first | (go_at_call 32; with_reducible refine (hv _ hX.frm).mono ?_; rintro e w' ⟨rfl, hb⟩; have hX := hX.step hb; clear hb; obtain ⟨i0, i1, i2, i3, i4, i5, i6, i7, i8, i9⟩ := hX.ten 0 rfl) | (go_at_call 33; with_reducible refine (hnm _ (T.step hX.below)).mono ?_; rintro e w' ⟨rfl, hb⟩; have hX := hX.step hb; clear hb; obtain ⟨i0, i1, i2, i3, i4, i5, i6, i7, i8, i9⟩ := hX.ten 0 rfl) | (go_at_call 30; with_reducible refine (hE _).mono ?_; rintro e w' ⟨rfl, hb⟩; have hX := hX.step hb; clear hb; obtain ⟨i0, i1, i2, i3, i4, i5, i6, i7, i8, i9⟩ := hX.ten 0 rfl) | (go_at_call 35; with_reducible refine (hs _ hX.frm (T3.step hX.below)).mono ?_; rintro e w' ⟨rfl, hb⟩; have hX := hX.step hb; clear hb; obtain ⟨i0, i1, i2, i3, i4, i5, i6, i7, i8, i9⟩ := hX.ten 0 rfl) | (go_at_call 35; with_reducible refine (hs3 _ hX.frm (T3.step hX.below)).mono ?_; rintro e w' ⟨rfl, hb⟩; have hX := hX.step hb; clear hb; obtain ⟨i0, i1, i2, i3, i4, i5, i6, i7, i8, i9⟩ := hX.ten 0 rfl))
    generalize hBB : W0.heap.size = B at hX i0 i1 i2 i3 i4 i5 i6 i7 i8 i9 ⊢
    refine region_class (fun w' => St A c [(B, [.int .i64 o, .bool b, .int .i64 m, .int .i64 r, .int .i64 x, .int .i64 p, .int .i64 q, .int .i64 y, .int .i64 GN, .int .i64 n])] W0 w') (by kernel_rfl) (by kernel_rfl) hX.drew ?_
    clear hX i0 i1 i2 i3 i4 i5 i6 i7 i8 i9
    repeat
      first
        | (refine BigFrame.wpQuiet_skip (by rfl) ?_
           simp only [Act.put, List.setIfInBounds_toArray, List.set_cons_zero, List.set_cons_succ])
        | (refine BigFrame.wpQuiet_want (by rfl) (fun K hK => ?_)
           apply Exists.intro
           refine ⟨fun wq hq => ?_, hK _ ?_⟩
           · obtain ⟨i0, i1, i2, i3, i4, i5, i6, i7, i8, i9⟩ := hq.ten 0 rfl
             unfold Oper.quietAt
             go_simp
             first
               | with_reducible rfl
               | ((go_at_call 36); with_reducible refine (hl _ hq.frm).mono ?_; exact fun e w' ⟨he, hb⟩ => ⟨he, hq.step hb⟩)
               | ((go_at_call 35); with_reducible refine (hd _ hq.frm (T3.step hq.below)).mono ?_; exact fun e w' ⟨he, hb⟩ => ⟨he, hq.step hb⟩)
           clear hK K
           simp only [Act.put, List.setIfInBounds_toArray, List.set_cons_zero, List.set_cons_succ])
    refine wpQuiet_nil ?_
    intro w5 hX
    obtain ⟨aC, cC, hC1, hC2⟩ := hrg _ hX.below
    obtain ⟨i0, i1, i2, i3, i4, i5, i6, i7, i8, i9⟩ := hX.ten 0 rfl
    go_wp2
    go_ret
    exact ⟨by first | rfl | (simp [ba_app]; done), hX.below⟩

end Go.Proofs.YtdbbnkjnmldnpaaGreatDoor
