/-
  Walks over Operand of package disasm and of its reference. Condition: the tables read as the program's text lays them.
-/
import Derived.Test.YtdbbnkjnmldnpaaGreatDoorDwB
namespace Go.Proofs.YtdbbnkjnmldnpaaGreatDoor
open Go.RowKit
set_option linter.unusedSimpArgs false
set_option linter.unusedVariables false
set_option maxHeartbeats 4000000
set_option maxRecDepth 100000

theorem dopr_any (m r x nx : Int) {A : Addr} {c : Nat} (W0 : World) (W : Dis A c W0) :
    Calls Tryz.prog 9 #[.agg #[.int .i64 m, .int .i64 r, .int .i64 x], .int .i64 nx] W0 fun e w' => e = .returned (.string ⟨(opT m r x nx).toArray⟩) ∧ Below W0.heap.size W0 w' := by
  have hX := (St.start W.frm).put [.int .i64 m, .int .i64 r, .int .i64 x] 33
  have hv := fun w => valid_any m r x w
  have hd := fun w => def_any m r x w
  have hs := tx_size (diT m r x nx)
  have hl := diT_len m r x nx
  cases hV : vdR m r x with
  | false =>
    have e : opT m r x nx = [] := by unfold opT; rw [hV]; rfl
    rw [e]
    rw [hV] at hv
    clear e hV hd
    obtain ⟨b0, b1, b2⟩ := hX.three 0 rfl
    go_enter Tryz.func9, Tryz.ntmps9
    go_wp2_with (first | (go_at_call 18; with_reducible refine (hv _).mono ?_; rintro e w' ⟨rfl, hb⟩; have hX := hX.step hb; clear hb))
    go_ret
    exact ⟨rfl, hX.below⟩
  | true =>
    obtain ⟨⟨m0, m1, r0, r1, x0, x1⟩, _⟩ := vd_parts hV
    have hc := fun w D => ddir_any m r x nx ⟨m0, m1⟩ ⟨r0, r1⟩ (A := A) (c := c) w D
    rw [show m % 8 = m by omega] at hd
    rw [hV] at hv
    have e : opT m r x nx = if dfR m = true then 64 :: diT m r x nx else diT m r x nx := by unfold opT; rw [hV]; rfl
    rw [e]
    clear e hV
    generalize diT m r x nx = D at *
    generalize dfR m = F at *
    obtain ⟨b0, b1, b2⟩ := hX.three 0 rfl
    cases F
    all_goals
      first | rw [if_pos rfl] | rw [if_neg (by decide)]
      go_enter Tryz.func9, Tryz.ntmps9
      go_wp2_with (first | (go_at_call 18; with_reducible refine (hv _).mono ?_; rintro e w' ⟨rfl, hb⟩; have hX := hX.step hb; clear hb; obtain ⟨b0, b1, b2⟩ := hX.three 0 rfl) | (go_at_call 19; with_reducible refine (hd _).mono ?_; rintro e w' ⟨rfl, hb⟩; have hX := hX.step hb; clear hb; obtain ⟨b0, b1, b2⟩ := hX.three 0 rfl) | (go_at_call 20; with_reducible refine (hc _ (hX.dis W)).mono ?_; rintro e w' ⟨rfl, hb⟩; have hX := hX.step hb; clear hb))
      go_ret
      refine ⟨?_, hX.below⟩
      first | rfl | (simp [ba_app]; done)

theorem opT_all (m r x nx : Int) (G X Y : List UInt8) (h1 : rgT r = G) (h2 : nuT x = X) (h3 : nuT (x + nx) = Y) (hv : vdR m r x = true) : opT m r x nx = (if dfR m = true then [64] else []) ++ (if m = 1 then 40 :: G ++ [41] else
    if m = 2 ∨ m = 3 then (if r = 7 then 35 :: X else 40 :: G ++ [41, 43]) else
    if m = 4 ∨ m = 5 then 45 :: 40 :: G ++ [41] else
    if m = 6 ∨ m = 7 then (if r = 7 then Y else X ++ 40 :: G ++ [41]) else G) := by
  rw [← diT_all m r x nx G X Y h1 h2 h3]
  unfold opT
  rw [hv, if_pos rfl]
  cases dfR m <;> rfl

theorem ropr_any (m r x nx : Int) {A : Addr} {c : Nat} (W0 : World) (W : Frm A c W0) (T : Tab 3 rgs W0) :
    Calls Tryz.prog 35 #[.agg #[.int .i64 m, .int .i64 r, .int .i64 x], .int .i64 nx] W0 fun e w' => e = .returned (.string ⟨(opT m r x nx).toArray⟩) ∧ Below W0.heap.size W0 w' := by
  have hv := fun w => rvalid_any m r x w
  cases hV : vdR m r x with
  | false =>
    have hX := (St.start W).put [.int .i64 m, .int .i64 r, .int .i64 x] 33
    have e : opT m r x nx = [] := by unfold opT; rw [hV]; rfl
    rw [e]
    rw [hV] at hv
    clear e hV
    obtain ⟨b0, b1, b2⟩ := hX.three 0 rfl
    go_enter Tryz.func35, Tryz.ntmps35
    go_wp2_with (first | (go_at_call 65; with_reducible refine (hv _).mono ?_; rintro e w' ⟨rfl, hb⟩; have hX := hX.step hb; clear hb))
    go_ret
    exact ⟨rfl, hX.below⟩
  | true =>
    obtain ⟨⟨m0, m1, r0, r1, x0, x1⟩, _⟩ := vd_parts hV
    rw [hV] at hv
    have hf := fun w => rnum_any x w
    have hg := fun w => rnum_any (x + nx % 65536) w
    rw [show nuT (x + nx % 65536) = nuT (x + nx) from nuT_mod (by omega)] at hg
    have hA := a65535 nx
    have hA1 : 0 ≤ nx % 65536 := by omega
    have hA2 : nx % 65536 < 65536 := by omega
    have l1 := rgT_len r
    have s1 := tx_size (rgT r)
    have l2 := nuT_len x
    have s2 := tx_size (nuT x)
    have l3 := nuT_len (x + nx)
    have s3 := tx_size (nuT (x + nx))
    have hM : m = 0 ∨ m = 1 ∨ m = 2 ∨ m = 3 ∨ m = 4 ∨ m = 5 ∨ m = 6 ∨ m = 7 := by omega
    have hrg : ∀ a c0 w, w.cell? ⟨3, 0, none⟩ = some (.slice (some a) 8 c0) → Txs a rgs w → w.cell? (a.add r.toNat) = some (.string ⟨(rgT r).toArray⟩) := fun a c0 w _ h => by
      have hk : r.toNat < rgs.length := by show r.toNat < 8; omega
      have e := h r.toNat _ (List.getElem?_eq_getElem hk)
      rw [e]
      simp [rgT, hk]
    rw [opT_all m r x nx _ _ _ rfl rfl rfl hV]
    clear hV
    generalize rgT r = G at *
    generalize nuT x = X at *
    generalize nuT (x + nx) = Y at *
    generalize nx % 65536 = NX at *
    by_cases hr7 : r = 7
    · subst hr7
      have hX := (St.start W).put [.int .i64 m, .int .i64 7, .int .i64 x] 33
      obtain ⟨aR, cR, hT1, hT2, hT3⟩ := (T.step hX.below).sl
      have hTx : _ = _ := hrg _ _ _ hT1 hT2
      rw [show Int.toNat 7 = 7 from rfl] at hTx
      have hTy := hTx
      rw [show aR.add 7 = ⟨aR.block, aR.off + 7, none⟩ from rfl] at hTy
      replace hT1 : _ = some (Value.slice (some aR) 8 cR) := hT1
      obtain ⟨b0, b1, b2⟩ := hX.three 0 rfl
      clear r0 r1 m0 m1 hrg hT2 hT3
      rcases hM with rfl | rfl | rfl | rfl | rfl | rfl | rfl | rfl
      all_goals
        first | rw [show dfR 0 = false from rfl, if_neg (by decide)] | rw [show dfR 1 = false from rfl, if_neg (by decide)] | rw [show dfR 2 = false from rfl, if_neg (by decide)] | rw [show dfR 3 = true from rfl, if_pos rfl] | rw [show dfR 4 = false from rfl, if_neg (by decide)] | rw [show dfR 5 = true from rfl, if_pos rfl] | rw [show dfR 6 = false from rfl, if_neg (by decide)] | rw [show dfR 7 = true from rfl, if_pos rfl]
        (first | rw [if_pos (by decide)] | rw [if_neg (by decide)])
        try (first | rw [if_pos (by decide)] | rw [if_neg (by decide)])
        try (first | rw [if_pos (by decide)] | rw [if_neg (by decide)])
        try (first | rw [if_pos (by decide)] | rw [if_neg (by decide)])
        try (first | rw [if_pos (by decide)] | rw [if_neg hr7])
        go_enter Tryz.func35, Tryz.ntmps35
        go_wp2_with (first | (go_at_call 65; with_reducible refine (hv _).mono ?_; rintro e w' ⟨rfl, hb⟩; have hX := hX.step hb; have hT1 := (hb.cell (p := ⟨3, 0, none⟩) (World.block_lt_of_cell? _ _ hT1)).trans hT1; have hTx := (hb.cell (World.block_lt_of_cell? _ _ hTx)).trans hTx; have hTy := (hb.cell (World.block_lt_of_cell? _ _ hTy)).trans hTy; clear hb; obtain ⟨b0, b1, b2⟩ := hX.three 0 rfl) | (go_at_call 34; with_reducible refine (hf _).mono ?_; rintro e w' ⟨rfl, hb⟩; have hX := hX.step hb; clear hb) | (go_at_call 34; with_reducible refine (hg _).mono ?_; rintro e w' ⟨rfl, hb⟩; have hX := hX.step hb; clear hb))
        go_ret
        refine ⟨?_, hX.below⟩
        first | rfl | (simp [ba_app]; done)
    · obtain ⟨R, rfl⟩ : ∃ R : Nat, r = (R : Int) := ⟨r.toNat, by omega⟩
      have hR : R < 8 := by omega
      have hX := (St.start W).put [.int .i64 m, .int .i64 R, .int .i64 x] 33
      obtain ⟨aR, cR, hT1, hT2, hT3⟩ := (T.step hX.below).sl
      have hTx : _ = _ := hrg _ _ _ hT1 hT2
      simp only [Int.toNat_natCast] at hTx
      replace hT1 : _ = some (Value.slice (some aR) 8 cR) := hT1
      obtain ⟨b0, b1, b2⟩ := hX.three 0 rfl
      clear r0 r1 m0 m1 hrg hT2 hT3
      rcases hM with rfl | rfl | rfl | rfl | rfl | rfl | rfl | rfl
      all_goals
        first | rw [show dfR 0 = false from rfl, if_neg (by decide)] | rw [show dfR 1 = false from rfl, if_neg (by decide)] | rw [show dfR 2 = false from rfl, if_neg (by decide)] | rw [show dfR 3 = true from rfl, if_pos rfl] | rw [show dfR 4 = false from rfl, if_neg (by decide)] | rw [show dfR 5 = true from rfl, if_pos rfl] | rw [show dfR 6 = false from rfl, if_neg (by decide)] | rw [show dfR 7 = true from rfl, if_pos rfl]
        (first | rw [if_pos (by decide)] | rw [if_neg (by decide)])
        try (first | rw [if_pos (by decide)] | rw [if_neg (by decide)])
        try (first | rw [if_pos (by decide)] | rw [if_neg (by decide)])
        try (first | rw [if_pos (by decide)] | rw [if_neg (by decide)])
        try (first | rw [if_pos (by decide)] | rw [if_neg hr7])
        go_enter Tryz.func35, Tryz.ntmps35
        go_wp2_with (first | (go_at_call 65; with_reducible refine (hv _).mono ?_; rintro e w' ⟨rfl, hb⟩; have hX := hX.step hb; have hT1 := (hb.cell (p := ⟨3, 0, none⟩) (World.block_lt_of_cell? _ _ hT1)).trans hT1; have hTx := (hb.cell (World.block_lt_of_cell? _ _ hTx)).trans hTx; clear hb; obtain ⟨b0, b1, b2⟩ := hX.three 0 rfl) | (go_at_call 34; with_reducible refine (hf _).mono ?_; rintro e w' ⟨rfl, hb⟩; have hX := hX.step hb; clear hb) | (go_at_call 34; with_reducible refine (hg _).mono ?_; rintro e w' ⟨rfl, hb⟩; have hX := hX.step hb; clear hb))
        go_ret
        refine ⟨?_, hX.below⟩
        first | rfl | (simp [ba_app]; done)

end Go.Proofs.YtdbbnkjnmldnpaaGreatDoor
