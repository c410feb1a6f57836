/-
  Walk over the statement InstEncodes: whatever the input, it answers true. Condition: the tables read as the program's text lays them.
-/
import Derived.Test.YtlaikajgpgpidaaDoorInX
import Derived.Test.YtlaikajgpgpidaaDoorInZ
namespace Go.Proofs.YtlaikajgpgpidaaDoor
open Go.RowKit
set_option linter.unusedSimpArgs false
set_option linter.unusedVariables false
set_option maxHeartbeats 8000000
set_option maxRecDepth 100000
attribute [local irreducible] wpQuiet

theorem encodes_law (o : Int) (b : Bool) (m r x p q y g n : Int) {A : Addr} {c : Nat} (W0 : World) (W : Frm A c W0) : Calls Tryd.prog 4 #[.agg #[.int .i64 o, .bool b, .int .i64 m, .int .i64 r, .int .i64 x, .int .i64 p, .int .i64 q, .int .i64 y, .int .i64 g, .int .i64 n]] W0 fun e w' => e = .returned (.bool true) ∧ Below W0.heap.size W0 w' := by
  have hX := (St.start W).put [.int .i64 o, .bool b, .int .i64 m, .int .i64 r, .int .i64 x, .int .i64 p, .int .i64 q, .int .i64 y, .int .i64 g, .int .i64 n] 28
  have hE1 := fun w (k : Frm A c w) => Encode_any o b m r x p q y g n w k
  have hE2 := fun w (k : Frm A c w) => rEncode_any o b m r x p q y g n w k
  have hV1 := fun w (k : Frm A c w) => Valid_any o b m r x p q y g n w k
  have hV2 := fun w (k : Frm A c w) => rV_any o b m r x p q y g n w k
  have hL1 := fun w (k : Frm A c w) => Length_any o b m r x p q y g n w k
  have hL2 := fun w (k : Frm A c w) => rLength_any o b m r x p q y g n w k
  have hD1 := fun w (k : Frm A c w) => Ends_any o b m r x p q y g n w k
  have hD2 := fun w (k : Frm A c w) => rEnds_any o b m r x p q y g n w k
  have hP1 := fun w (k : Frm A c w) => Privileged_any o b m r x p q y g n w k
  have hP2 := fun w (k : Frm A c w) => rPrivileged_any o b m r x p q y g n w k
  have hA := fun w (k : Frm A c w) => alive_any w k
  have hlen := enc_len ⟨o, b, m, r, x, p, q, y, g, n⟩
  generalize encL ⟨o, b, m, r, x, p, q, y, g, n⟩ = L at *
  generalize encE ⟨o, b, m, r, x, p, q, y, g, n⟩ = E1 at *
  generalize vR ⟨o, b, m, r, x, p, q, y, g, n⟩ = VV at *
  generalize lenR ⟨o, b, m, r, x, p, q, y, g, n⟩ = NN at *
  generalize endR ⟨o, b, m, r, x, p, q, y, g, n⟩ = EE at *
  generalize prR ⟨o, b, m, r, x, p, q, y, g, n⟩ = PP at *
  go_enter Tryd.func4, Tryd.ntmps4
  go_wp2_with fail
  have i0 := hX.c 0 0 rfl rfl; have i1 := hX.c 0 1 rfl rfl; have i2 := hX.c 0 2 rfl rfl; have i3 := hX.c 0 3 rfl rfl; have i4 := hX.c 0 4 rfl rfl; have i5 := hX.c 0 5 rfl rfl; have i6 := hX.c 0 6 rfl rfl; have i7 := hX.c 0 7 rfl rfl; have i8 := hX.c 0 8 rfl rfl; have i9 := hX.c 0 9 rfl rfl
  generalize W0.alloc (.cells #[.int .i64 o, .bool b, .int .i64 m, .int .i64 r, .int .i64 x, .int .i64 p, .int .i64 q, .int .i64 y, .int .i64 g, .int .i64 n] 28) = w1 at *
  generalize hBB : W0.heap.size = B at hX i0 i1 i2 i3 i4 i5 i6 i7 i8 i9 ⊢
  go_wp2_with (first | (go_at_call 11; with_reducible refine (hE1 _ hX.frm).mono ?_; rintro _ w' ⟨v1, rfl, hN1, hb⟩; have hX := hX.step hb; clear hb; have i0 := hX.c 0 0 rfl rfl; have i1 := hX.c 0 1 rfl rfl; have i2 := hX.c 0 2 rfl rfl; have i3 := hX.c 0 3 rfl rfl; have i4 := hX.c 0 4 rfl rfl; have i5 := hX.c 0 5 rfl rfl; have i6 := hX.c 0 6 rfl rfl; have i7 := hX.c 0 7 rfl rfl; have i8 := hX.c 0 8 rfl rfl; have i9 := hX.c 0 9 rfl rfl) | (go_at_call 12; with_reducible refine (hE2 _ hX.frm).mono ?_; rintro _ w' ⟨v2, rfl, hN2, hb⟩; have hX := hX.step hb; have hN1 := hN1.below hb; clear hb; have i0 := hX.c 0 0 rfl rfl; have i1 := hX.c 0 1 rfl rfl; have i2 := hX.c 0 2 rfl rfl; have i3 := hX.c 0 3 rfl rfl; have i4 := hX.c 0 4 rfl rfl; have i5 := hX.c 0 5 rfl rfl; have i6 := hX.c 0 6 rfl rfl; have i7 := hX.c 0 7 rfl rfl; have i8 := hX.c 0 8 rfl rfl; have i9 := hX.c 0 9 rfl rfl))
  refine region_class (fun w' => St A c [(B, [.int .i64 o, .bool b, .int .i64 m, .int .i64 r, .int .i64 x, .int .i64 p, .int .i64 q, .int .i64 y, .int .i64 g, .int .i64 n])] W0 w' ∧ Nums .i64 w' v1 L ∧ Nums .i64 w' v2 L) (by kernel_rfl) (by kernel_rfl) (⟨hX.drew, hN1.drew, hN2.drew⟩) ?_
  clear hX hN1 hN2 i0 i1 i2 i3 i4 i5 i6 i7 i8 i9
  repeat
    first
      | (refine BigFrame.wpQuiet_skip (by rfl) ?_
         simp only [Act.put, List.setIfInBounds_toArray, List.set_cons_zero, List.set_cons_succ])
      | (refine BigFrame.wpQuiet_want (by rfl) (fun K hK => ?_)
         apply Exists.intro
         refine ⟨fun wq hq => ?_, hK _ ?_⟩
         · have i0 := hq.1.c 0 0 rfl rfl; have i1 := hq.1.c 0 1 rfl rfl; have i2 := hq.1.c 0 2 rfl rfl; have i3 := hq.1.c 0 3 rfl rfl; have i4 := hq.1.c 0 4 rfl rfl; have i5 := hq.1.c 0 5 rfl rfl; have i6 := hq.1.c 0 6 rfl rfl; have i7 := hq.1.c 0 7 rfl rfl; have i8 := hq.1.c 0 8 rfl rfl; have i9 := hq.1.c 0 9 rfl rfl
           unfold Oper.quietAt
           go_simp
           first
             | with_reducible rfl
             | ((go_at_call 13); with_reducible refine (same_eq L _ _ hlen _ hq.2.1 hq.2.2).mono ?_; exact fun e w' ⟨he, hb⟩ => ⟨he, ⟨hq.1.step hb, hq.2.1.below hb, hq.2.2.below hb⟩⟩)
             | ((go_at_call 14); with_reducible refine (hV1 _ hq.1.frm).mono ?_; exact fun e w' ⟨he, hb⟩ => ⟨he, ⟨hq.1.step hb, hq.2.1.below hb, hq.2.2.below hb⟩⟩)
             | ((go_at_call 15); with_reducible refine (hV2 _ hq.1.frm).mono ?_; exact fun e w' ⟨he, hb⟩ => ⟨he, ⟨hq.1.step hb, hq.2.1.below hb, hq.2.2.below hb⟩⟩)
             | ((go_at_call 16); with_reducible refine (hL1 _ hq.1.frm).mono ?_; exact fun e w' ⟨he, hb⟩ => ⟨he, ⟨hq.1.step hb, hq.2.1.below hb, hq.2.2.below hb⟩⟩)
             | ((go_at_call 17); with_reducible refine (hL2 _ hq.1.frm).mono ?_; exact fun e w' ⟨he, hb⟩ => ⟨he, ⟨hq.1.step hb, hq.2.1.below hb, hq.2.2.below hb⟩⟩)
         clear hK K
         simp only [Act.put, List.setIfInBounds_toArray, List.set_cons_zero, List.set_cons_succ])
  refine wpQuiet_nil ?_
  intro w4 hC
  obtain ⟨hX, hN1, hN2⟩ := hC
  have i0 := hX.c 0 0 rfl rfl; have i1 := hX.c 0 1 rfl rfl; have i2 := hX.c 0 2 rfl rfl; have i3 := hX.c 0 3 rfl rfl; have i4 := hX.c 0 4 rfl rfl; have i5 := hX.c 0 5 rfl rfl; have i6 := hX.c 0 6 rfl rfl; have i7 := hX.c 0 7 rfl rfl; have i8 := hX.c 0 8 rfl rfl; have i9 := hX.c 0 9 rfl rfl
  go_wp2_with fail
  refine region_class (fun w' => St A c [(B, [.int .i64 o, .bool b, .int .i64 m, .int .i64 r, .int .i64 x, .int .i64 p, .int .i64 q, .int .i64 y, .int .i64 g, .int .i64 n])] W0 w' ∧ Nums .i64 w' v1 L ∧ Nums .i64 w' v2 L) (by kernel_rfl) (by kernel_rfl) (⟨hX.drew, hN1.drew, hN2.drew⟩) ?_
  clear hX hN1 hN2 i0 i1 i2 i3 i4 i5 i6 i7 i8 i9
  repeat
    first
      | (refine BigFrame.wpQuiet_skip (by rfl) ?_
         simp only [Act.put, List.setIfInBounds_toArray, List.set_cons_zero, List.set_cons_succ])
      | (refine BigFrame.wpQuiet_want (by rfl) (fun K hK => ?_)
         apply Exists.intro
         refine ⟨fun wq hq => ?_, hK _ ?_⟩
         · have i0 := hq.1.c 0 0 rfl rfl; have i1 := hq.1.c 0 1 rfl rfl; have i2 := hq.1.c 0 2 rfl rfl; have i3 := hq.1.c 0 3 rfl rfl; have i4 := hq.1.c 0 4 rfl rfl; have i5 := hq.1.c 0 5 rfl rfl; have i6 := hq.1.c 0 6 rfl rfl; have i7 := hq.1.c 0 7 rfl rfl; have i8 := hq.1.c 0 8 rfl rfl; have i9 := hq.1.c 0 9 rfl rfl
           unfold Oper.quietAt
           go_simp
           first
             | with_reducible rfl
             | ((go_at_call 18); with_reducible refine (hD1 _ hq.1.frm).mono ?_; exact fun e w' ⟨he, hb⟩ => ⟨he, ⟨hq.1.step hb, hq.2.1.below hb, hq.2.2.below hb⟩⟩)
             | ((go_at_call 19); with_reducible refine (hD2 _ hq.1.frm).mono ?_; exact fun e w' ⟨he, hb⟩ => ⟨he, ⟨hq.1.step hb, hq.2.1.below hb, hq.2.2.below hb⟩⟩)
             | ((go_at_call 20); with_reducible refine (hP1 _ hq.1.frm).mono ?_; exact fun e w' ⟨he, hb⟩ => ⟨he, ⟨hq.1.step hb, hq.2.1.below hb, hq.2.2.below hb⟩⟩)
             | ((go_at_call 21); with_reducible refine (hP2 _ hq.1.frm).mono ?_; exact fun e w' ⟨he, hb⟩ => ⟨he, ⟨hq.1.step hb, hq.2.1.below hb, hq.2.2.below hb⟩⟩)
             | ((go_at_call 8); with_reducible refine (hA _ hq.1.frm).mono ?_; exact fun e w' ⟨he, hb⟩ => ⟨he, ⟨hq.1.step hb, hq.2.1.below hb, hq.2.2.below hb⟩⟩)
         clear hK K
         simp only [Act.put, List.setIfInBounds_toArray, List.set_cons_zero, List.set_cons_succ])
  refine wpQuiet_nil ?_
  intro w4 hC
  obtain ⟨hX, hN1, hN2⟩ := hC
  have i0 := hX.c 0 0 rfl rfl; have i1 := hX.c 0 1 rfl rfl; have i2 := hX.c 0 2 rfl rfl; have i3 := hX.c 0 3 rfl rfl; have i4 := hX.c 0 4 rfl rfl; have i5 := hX.c 0 5 rfl rfl; have i6 := hX.c 0 6 rfl rfl; have i7 := hX.c 0 7 rfl rfl; have i8 := hX.c 0 8 rfl rfl; have i9 := hX.c 0 9 rfl rfl
  go_wp2_with fail
  go_ret
  exact ⟨rfl, by first | exact hX.below | exact hBB ▸ hX.below⟩

end Go.Proofs.YtlaikajgpgpidaaDoor
