/-
  Walks over direct and Operand of package disasm. Condition: the tables read as the program's text lays them.
-/
import Derived.Test.YtdbbnkjnmldnpaaGreatDoorDwA
namespace Go.Proofs.YtdbbnkjnmldnpaaGreatDoor
open Go.RowKit
set_option linter.unusedSimpArgs false
set_option linter.unusedVariables false
set_option maxHeartbeats 4000000
set_option maxRecDepth 100000

theorem St.three {A : Addr} {c : Nat} {bs : List (Nat × List Value)} {w0 w : World} (h : St A c bs w0 w) (i : Nat) {B : Nat} {v0 v1 v2 : Value} (hb : bs[i]? = some (B, [v0, v1, v2])) :
    w.cell? ⟨B, 0, none⟩ = some v0 ∧ w.cell? ⟨B, 1, none⟩ = some v1 ∧ w.cell? ⟨B, 2, none⟩ = some v2 := ⟨h.c i 0 hb rfl, h.c i 1 hb rfl, h.c i 2 hb rfl⟩

theorem diT_all (m r x nx : Int) (G X Y : List UInt8) (h1 : rgT r = G) (h2 : nuT x = X) (h3 : nuT (x + nx) = Y) : diT m r x nx = (if m = 1 then 40 :: G ++ [41] else
    if m = 2 ∨ m = 3 then (if r = 7 then 35 :: X else 40 :: G ++ [41, 43]) else
    if m = 4 ∨ m = 5 then 45 :: 40 :: G ++ [41] else
    if m = 6 ∨ m = 7 then (if r = 7 then Y else X ++ 40 :: G ++ [41]) else G) := by subst h1 h2 h3; rfl
theorem ddir_any (m r x nx : Int) (hm : 0 ≤ m ∧ m ≤ 7) (hr : 0 ≤ r ∧ r ≤ 7) {A : Addr} {c : Nat} (W0 : World) (W : Dis A c W0) :
    Calls Tryz.prog 20 #[.agg #[.int .i64 m, .int .i64 r, .int .i64 x], .int .i64 nx] W0 fun e w' => e = .returned (.string ⟨(diT m r x nx).toArray⟩) ∧ Below W0.heap.size W0 w' := by
  have hf := fun w W => dnum_any x w W
  have hg := fun w W => dnum_any (wrap64 (x + nx)) w W
  rw [show nuT (wrap64 (x + nx)) = nuT (x + nx) from nuT_mod (wrap_mod _)] at hg
  have l1 := rgT_len r
  have s1 := tx_size (rgT r)
  have l2 := nuT_len x
  have s2 := tx_size (nuT x)
  have l3 := nuT_len (x + nx)
  have s3 := tx_size (nuT (x + nx))
  have hM : m = 0 ∨ m = 1 ∨ m = 2 ∨ m = 3 ∨ m = 4 ∨ m = 5 ∨ m = 6 ∨ m = 7 := by omega
  have hrg : ∀ w, Dis A c w → w.cell? ⟨5, r.toNat, none⟩ = some (.string ⟨(rgT r).toArray⟩) := fun w D => by
    have h := rg_at D.rg r.toNat (by omega)
    rw [show ((r.toNat : Nat) : Int) = r by omega] at h
    exact h
  rw [diT_all m r x nx _ _ _ rfl rfl rfl]
  generalize rgT r = G at *
  generalize nuT x = X at *
  generalize nuT (x + nx) = Y at *
  by_cases hr7 : r = 7
  · subst hr7
    have hX := (St.start W.frm).put [.int .i64 m, .int .i64 7, .int .i64 x] 33
    have hrg : _ = _ := hrg _ (hX.dis W)
    rw [show Int.toNat 7 = 7 from rfl] at hrg
    obtain ⟨b0, b1, b2⟩ := hX.three 0 rfl
    clear hr hm
    rcases hM with rfl | rfl | rfl | rfl | rfl | rfl | rfl | rfl
    all_goals
      first | rw [if_pos (by decide)] | rw [if_neg (by decide)]
      try (first | rw [if_pos (by decide)] | rw [if_neg (by decide)])
      try (first | rw [if_pos (by decide)] | rw [if_neg (by decide)])
      try (first | rw [if_pos (by decide)] | rw [if_neg (by decide)])
      try (first | rw [if_pos (by decide)] | rw [if_neg hr7])
      go_enter Tryz.func20, Tryz.ntmps20
      go_wp2_with (first | (go_at_call 42; with_reducible refine (hf _ (hX.dis W).tb).mono ?_; rintro e w' ⟨rfl, hb⟩; have hX := hX.step hb; clear hb) | (go_at_call 42; with_reducible refine (hg _ (hX.dis W).tb).mono ?_; rintro e w' ⟨rfl, hb⟩; have hX := hX.step hb; clear hb))
      go_ret
      refine ⟨?_, hX.below⟩
      first | rfl | (simp [ba_app]; done)
  · obtain ⟨R, rfl⟩ : ∃ R : Nat, r = (R : Int) := ⟨r.toNat, by omega⟩
    have hR : R < 8 := by omega
    have hX := (St.start W.frm).put [.int .i64 m, .int .i64 R, .int .i64 x] 33
    have hrg : _ = _ := hrg _ (hX.dis W)
    simp only [Int.toNat_natCast] at hrg
    obtain ⟨b0, b1, b2⟩ := hX.three 0 rfl
    clear hr hm
    rcases hM with rfl | rfl | rfl | rfl | rfl | rfl | rfl | rfl
    all_goals
      first | rw [if_pos (by decide)] | rw [if_neg (by decide)]
      try (first | rw [if_pos (by decide)] | rw [if_neg (by decide)])
      try (first | rw [if_pos (by decide)] | rw [if_neg (by decide)])
      try (first | rw [if_pos (by decide)] | rw [if_neg (by decide)])
      try (first | rw [if_pos (by decide)] | rw [if_neg hr7])
      go_enter Tryz.func20, Tryz.ntmps20
      go_wp2_with (first | (go_at_call 42; with_reducible refine (hf _ (hX.dis W).tb).mono ?_; rintro e w' ⟨rfl, hb⟩; have hX := hX.step hb; clear hb) | (go_at_call 42; with_reducible refine (hg _ (hX.dis W).tb).mono ?_; rintro e w' ⟨rfl, hb⟩; have hX := hX.step hb; clear hb))
      go_ret
      refine ⟨?_, hX.below⟩
      first | rfl | (simp [ba_app]; done)

end Go.Proofs.YtdbbnkjnmldnpaaGreatDoor
