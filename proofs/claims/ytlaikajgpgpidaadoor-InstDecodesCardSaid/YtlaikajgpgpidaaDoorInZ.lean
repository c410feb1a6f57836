/-
  Walk over alive: the examples of the chapter. Condition: the tables read as the program's text lays them.
-/
import Derived.Test.YtlaikajgpgpidaaDoorInZa
import Derived.Test.YtlaikajgpgpidaaDoorInM
namespace Go.Proofs.YtlaikajgpgpidaaDoor
open Go.RowKit
set_option linter.unusedSimpArgs false
set_option linter.unusedVariables false
set_option maxHeartbeats 8000000
set_option maxRecDepth 100000
attribute [local irreducible] wpQuiet

theorem dec_lit (l : List Int) (hl : l.length ≤ 3) {A : Addr} {c : Nat} (w : World) (W : Frm A c w) : Calls Tryd.prog 9 #[.slice (some ⟨w.heap.size, 0, none⟩) l.length l.length] (w.alloc (.cells (l.map (Value.int .i64)).toArray 3)) fun e w' =>
    e = .returned (.tuple #[inV (dcI l).1, .int .i64 (dcI l).2]) ∧ Below (w.alloc (.cells (l.map (Value.int .i64)).toArray 3)).heap.size (w.alloc (.cells (l.map (Value.int .i64)).toArray 3)) w' := by
  have h := ((St.start W).put (l.map (Value.int .i64)) 3)
  refine Decode_any l _ (by omega) _ h.frm ⟨_, l.length, rfl, Nat.le_refl _, fun j x hx => ⟨⟨w.heap.size, 0, none⟩, rfl, ?_, ?_⟩⟩
  · have e1 : (⟨w.heap.size, 0, none⟩ : Addr).add j = ⟨w.heap.size, j, none⟩ := by unfold Addr.add; split <;> simp_all
    rw [e1]
    exact h.c 0 j rfl (by rw [List.getElem?_map, hx]; rfl)
  · have e1 : ((⟨w.heap.size, 0, none⟩ : Addr).add j).block = w.heap.size := by unfold Addr.add; split <;> rfl
    rw [e1]
    simp

theorem al_0 {A : Addr} {c : Nat} (w : World) (W : Frm A c w) : Calls Tryd.prog 9 #[.slice (some ⟨w.heap.size, 0, none⟩) 2 2] (w.alloc (.cells #[.int .i64 5569, .int .i64 5] 3)) fun e w' =>
    e = .returned (.tuple #[.agg #[.int .i64 1, .bool false, .int .i64 2, .int .i64 7, .int .i64 5, .int .i64 0, .int .i64 1, .int .i64 0, .int .i64 0, .int .i64 0], .int .i64 2]) ∧ Below (w.alloc (.cells #[.int .i64 5569, .int .i64 5] 3)).heap.size (w.alloc (.cells #[.int .i64 5569, .int .i64 5] 3)) w' := by
  have k := dec_lit [5569, 5] (by decide) w W
  have e1 : inV (dcI [5569, 5]).1 = .agg #[.int .i64 1, .bool false, .int .i64 2, .int .i64 7, .int .i64 5, .int .i64 0, .int .i64 1, .int .i64 0, .int .i64 0, .int .i64 0] := by kernel_rfl
  have e2 : (dcI [5569, 5]).2 = 2 := by decide +kernel
  rw [e1, e2] at k
  exact k
theorem as_0 {A : Addr} {c : Nat} (w : World) (ob : Obj) (W : Frm A c (w.alloc ob)) : Calls Tryd.prog 9 #[.slice (some ⟨w.heap.size + 1, 0, none⟩) 2 2] ((w.alloc ob).alloc (.cells #[.int .i64 5569, .int .i64 5] 3)) fun e w' =>
    e = .returned (.tuple #[.agg #[.int .i64 1, .bool false, .int .i64 2, .int .i64 7, .int .i64 5, .int .i64 0, .int .i64 1, .int .i64 0, .int .i64 0, .int .i64 0], .int .i64 2]) ∧ Below ((w.alloc ob).alloc (.cells #[.int .i64 5569, .int .i64 5] 3)).heap.size ((w.alloc ob).alloc (.cells #[.int .i64 5569, .int .i64 5] 3)) w' := by
  have k := al_0 (w.alloc ob) W
  rw [size_alloc w ob] at k
  exact k

theorem al_1 {A : Addr} {c : Nat} (w : World) (W : Frm A c w) : Calls Tryd.prog 9 #[.slice (some ⟨w.heap.size, 0, none⟩) 1 1] (w.alloc (.cells #[.int .i64 5569] 3)) fun e w' =>
    e = .returned (.tuple #[.agg #[.int .i64 0, .bool false, .int .i64 0, .int .i64 0, .int .i64 0, .int .i64 0, .int .i64 0, .int .i64 0, .int .i64 0, .int .i64 0], .int .i64 0]) ∧ Below (w.alloc (.cells #[.int .i64 5569] 3)).heap.size (w.alloc (.cells #[.int .i64 5569] 3)) w' := by
  have k := dec_lit [5569] (by decide) w W
  have e1 : inV (dcI [5569]).1 = .agg #[.int .i64 0, .bool false, .int .i64 0, .int .i64 0, .int .i64 0, .int .i64 0, .int .i64 0, .int .i64 0, .int .i64 0, .int .i64 0] := by kernel_rfl
  have e2 : (dcI [5569]).2 = 0 := by decide +kernel
  rw [e1, e2] at k
  exact k
theorem as_1 {A : Addr} {c : Nat} (w : World) (ob : Obj) (W : Frm A c (w.alloc ob)) : Calls Tryd.prog 9 #[.slice (some ⟨w.heap.size + 1, 0, none⟩) 1 1] ((w.alloc ob).alloc (.cells #[.int .i64 5569] 3)) fun e w' =>
    e = .returned (.tuple #[.agg #[.int .i64 0, .bool false, .int .i64 0, .int .i64 0, .int .i64 0, .int .i64 0, .int .i64 0, .int .i64 0, .int .i64 0, .int .i64 0], .int .i64 0]) ∧ Below ((w.alloc ob).alloc (.cells #[.int .i64 5569] 3)).heap.size ((w.alloc ob).alloc (.cells #[.int .i64 5569] 3)) w' := by
  have k := al_1 (w.alloc ob) W
  rw [size_alloc w ob] at k
  exact k

theorem al_2 {A : Addr} {c : Nat} (w : World) (W : Frm A c w) : Calls Tryd.prog 9 #[.slice (some ⟨w.heap.size, 0, none⟩) 1 1] (w.alloc (.cells #[.int .i64 511] 3)) fun e w' =>
    e = .returned (.tuple #[.agg #[.int .i64 26, .bool false, .int .i64 0, .int .i64 0, .int .i64 0, .int .i64 0, .int .i64 0, .int .i64 0, .int .i64 0, .int .i64 (-1)], .int .i64 1]) ∧ Below (w.alloc (.cells #[.int .i64 511] 3)).heap.size (w.alloc (.cells #[.int .i64 511] 3)) w' := by
  have k := dec_lit [511] (by decide) w W
  have e1 : inV (dcI [511]).1 = .agg #[.int .i64 26, .bool false, .int .i64 0, .int .i64 0, .int .i64 0, .int .i64 0, .int .i64 0, .int .i64 0, .int .i64 0, .int .i64 (-1)] := by kernel_rfl
  have e2 : (dcI [511]).2 = 1 := by decide +kernel
  rw [e1, e2] at k
  exact k
theorem as_2 {A : Addr} {c : Nat} (w : World) (ob : Obj) (W : Frm A c (w.alloc ob)) : Calls Tryd.prog 9 #[.slice (some ⟨w.heap.size + 1, 0, none⟩) 1 1] ((w.alloc ob).alloc (.cells #[.int .i64 511] 3)) fun e w' =>
    e = .returned (.tuple #[.agg #[.int .i64 26, .bool false, .int .i64 0, .int .i64 0, .int .i64 0, .int .i64 0, .int .i64 0, .int .i64 0, .int .i64 0, .int .i64 (-1)], .int .i64 1]) ∧ Below ((w.alloc ob).alloc (.cells #[.int .i64 511] 3)).heap.size ((w.alloc ob).alloc (.cells #[.int .i64 511] 3)) w' := by
  have k := al_2 (w.alloc ob) W
  rw [size_alloc w ob] at k
  exact k

theorem al_3 {A : Addr} {c : Nat} (w : World) (W : Frm A c w) : Calls Tryd.prog 9 #[.slice (some ⟨w.heap.size, 0, none⟩) 1 1] (w.alloc (.cells #[.int .i64 64] 3)) fun e w' =>
    e = .returned (.tuple #[.agg #[.int .i64 0, .bool false, .int .i64 0, .int .i64 0, .int .i64 0, .int .i64 0, .int .i64 0, .int .i64 0, .int .i64 0, .int .i64 0], .int .i64 0]) ∧ Below (w.alloc (.cells #[.int .i64 64] 3)).heap.size (w.alloc (.cells #[.int .i64 64] 3)) w' := by
  have k := dec_lit [64] (by decide) w W
  have e1 : inV (dcI [64]).1 = .agg #[.int .i64 0, .bool false, .int .i64 0, .int .i64 0, .int .i64 0, .int .i64 0, .int .i64 0, .int .i64 0, .int .i64 0, .int .i64 0] := by kernel_rfl
  have e2 : (dcI [64]).2 = 0 := by decide +kernel
  rw [e1, e2] at k
  exact k
theorem as_3 {A : Addr} {c : Nat} (w : World) (ob : Obj) (W : Frm A c (w.alloc ob)) : Calls Tryd.prog 9 #[.slice (some ⟨w.heap.size + 1, 0, none⟩) 1 1] ((w.alloc ob).alloc (.cells #[.int .i64 64] 3)) fun e w' =>
    e = .returned (.tuple #[.agg #[.int .i64 0, .bool false, .int .i64 0, .int .i64 0, .int .i64 0, .int .i64 0, .int .i64 0, .int .i64 0, .int .i64 0, .int .i64 0], .int .i64 0]) ∧ Below ((w.alloc ob).alloc (.cells #[.int .i64 64] 3)).heap.size ((w.alloc ob).alloc (.cells #[.int .i64 64] 3)) w' := by
  have k := al_3 (w.alloc ob) W
  rw [size_alloc w ob] at k
  exact k

theorem al_4 {A : Addr} {c : Nat} (w : World) (W : Frm A c w) : Calls Tryd.prog 9 #[.slice (some ⟨w.heap.size, 0, none⟩) 1 1] (w.alloc (.cells #[.int .i64 29250] 3)) fun e w' =>
    e = .returned (.tuple #[.agg #[.int .i64 0, .bool false, .int .i64 0, .int .i64 0, .int .i64 0, .int .i64 0, .int .i64 0, .int .i64 0, .int .i64 0, .int .i64 0], .int .i64 0]) ∧ Below (w.alloc (.cells #[.int .i64 29250] 3)).heap.size (w.alloc (.cells #[.int .i64 29250] 3)) w' := by
  have k := dec_lit [29250] (by decide) w W
  have e1 : inV (dcI [29250]).1 = .agg #[.int .i64 0, .bool false, .int .i64 0, .int .i64 0, .int .i64 0, .int .i64 0, .int .i64 0, .int .i64 0, .int .i64 0, .int .i64 0] := by kernel_rfl
  have e2 : (dcI [29250]).2 = 0 := by decide +kernel
  rw [e1, e2] at k
  exact k
theorem as_4 {A : Addr} {c : Nat} (w : World) (ob : Obj) (W : Frm A c (w.alloc ob)) : Calls Tryd.prog 9 #[.slice (some ⟨w.heap.size + 1, 0, none⟩) 1 1] ((w.alloc ob).alloc (.cells #[.int .i64 29250] 3)) fun e w' =>
    e = .returned (.tuple #[.agg #[.int .i64 0, .bool false, .int .i64 0, .int .i64 0, .int .i64 0, .int .i64 0, .int .i64 0, .int .i64 0, .int .i64 0, .int .i64 0], .int .i64 0]) ∧ Below ((w.alloc ob).alloc (.cells #[.int .i64 29250] 3)).heap.size ((w.alloc ob).alloc (.cells #[.int .i64 29250] 3)) w' := by
  have k := al_4 (w.alloc ob) W
  rw [size_alloc w ob] at k
  exact k

theorem al_5 {A : Addr} {c : Nat} (w : World) (W : Frm A c w) : Calls Tryd.prog 9 #[.slice (some ⟨w.heap.size, 0, none⟩) 1 1] (w.alloc (.cells #[.int .i64 29186] 3)) fun e w' =>
    e = .returned (.tuple #[.agg #[.int .i64 9, .bool false, .int .i64 0, .int .i64 2, .int .i64 0, .int .i64 0, .int .i64 0, .int .i64 0, .int .i64 0, .int .i64 0], .int .i64 1]) ∧ Below (w.alloc (.cells #[.int .i64 29186] 3)).heap.size (w.alloc (.cells #[.int .i64 29186] 3)) w' := by
  have k := dec_lit [29186] (by decide) w W
  have e1 : inV (dcI [29186]).1 = .agg #[.int .i64 9, .bool false, .int .i64 0, .int .i64 2, .int .i64 0, .int .i64 0, .int .i64 0, .int .i64 0, .int .i64 0, .int .i64 0] := by kernel_rfl
  have e2 : (dcI [29186]).2 = 1 := by decide +kernel
  rw [e1, e2] at k
  exact k
theorem as_5 {A : Addr} {c : Nat} (w : World) (ob : Obj) (W : Frm A c (w.alloc ob)) : Calls Tryd.prog 9 #[.slice (some ⟨w.heap.size + 1, 0, none⟩) 1 1] ((w.alloc ob).alloc (.cells #[.int .i64 29186] 3)) fun e w' =>
    e = .returned (.tuple #[.agg #[.int .i64 9, .bool false, .int .i64 0, .int .i64 2, .int .i64 0, .int .i64 0, .int .i64 0, .int .i64 0, .int .i64 0, .int .i64 0], .int .i64 1]) ∧ Below ((w.alloc ob).alloc (.cells #[.int .i64 29186] 3)).heap.size ((w.alloc ob).alloc (.cells #[.int .i64 29186] 3)) w' := by
  have k := al_5 (w.alloc ob) W
  rw [size_alloc w ob] at k
  exact k

theorem al_6 {A : Addr} {c : Nat} (w : World) (W : Frm A c w) : Calls Tryd.prog 9 #[.slice (some ⟨w.heap.size, 0, none⟩) 3 3] (w.alloc (.cells #[.int .i64 7647, .int .i64 4, .int .i64 6] 3)) fun e w' =>
    e = .returned (.tuple #[.agg #[.int .i64 1, .bool false, .int .i64 6, .int .i64 7, .int .i64 4, .int .i64 3, .int .i64 7, .int .i64 6, .int .i64 0, .int .i64 0], .int .i64 3]) ∧ Below (w.alloc (.cells #[.int .i64 7647, .int .i64 4, .int .i64 6] 3)).heap.size (w.alloc (.cells #[.int .i64 7647, .int .i64 4, .int .i64 6] 3)) w' := by
  have k := dec_lit [7647, 4, 6] (by decide) w W
  have e1 : inV (dcI [7647, 4, 6]).1 = .agg #[.int .i64 1, .bool false, .int .i64 6, .int .i64 7, .int .i64 4, .int .i64 3, .int .i64 7, .int .i64 6, .int .i64 0, .int .i64 0] := by kernel_rfl
  have e2 : (dcI [7647, 4, 6]).2 = 3 := by decide +kernel
  rw [e1, e2] at k
  exact k
theorem as_6 {A : Addr} {c : Nat} (w : World) (ob : Obj) (W : Frm A c (w.alloc ob)) : Calls Tryd.prog 9 #[.slice (some ⟨w.heap.size + 1, 0, none⟩) 3 3] ((w.alloc ob).alloc (.cells #[.int .i64 7647, .int .i64 4, .int .i64 6] 3)) fun e w' =>
    e = .returned (.tuple #[.agg #[.int .i64 1, .bool false, .int .i64 6, .int .i64 7, .int .i64 4, .int .i64 3, .int .i64 7, .int .i64 6, .int .i64 0, .int .i64 0], .int .i64 3]) ∧ Below ((w.alloc ob).alloc (.cells #[.int .i64 7647, .int .i64 4, .int .i64 6] 3)).heap.size ((w.alloc ob).alloc (.cells #[.int .i64 7647, .int .i64 4, .int .i64 6] 3)) w' := by
  have k := al_6 (w.alloc ob) W
  rw [size_alloc w ob] at k
  exact k

theorem alive_any {A : Addr} {c : Nat} (W0 : World) (W : Frm A c W0) : Calls Tryd.prog 8 #[] W0 fun e w' => e = .returned (.bool true) ∧ Below W0.heap.size W0 w' := by
  have hX := St.start W
  have h_endR0 := fun w (k : Frm A c w) => Ends_any 26 false 0 0 0 0 0 0 0 (-1) w k
  rw [show endR ⟨26, false, 0, 0, 0, 0, 0, 0, 0, -1⟩ = true by decide +kernel] at h_endR0
  have h_endR1 := fun w (k : Frm A c w) => Ends_any 1 false 2 7 5 0 1 0 0 0 w k
  rw [show endR ⟨1, false, 2, 7, 5, 0, 1, 0, 0, 0⟩ = false by decide +kernel] at h_endR1
  have h_prR0 := fun w (k : Frm A c w) => Privileged_any 1 false 2 7 5 0 1 0 0 0 w k
  rw [show prR ⟨1, false, 2, 7, 5, 0, 1, 0, 0, 0⟩ = false by decide +kernel] at h_prR0
  have h_lenR0 := fun w (k : Frm A c w) => Length_any 1 false 6 7 4 3 7 6 0 0 w k
  rw [show lenR ⟨1, false, 6, 7, 4, 3, 7, 6, 0, 0⟩ = 3 by decide +kernel] at h_lenR0
  go_enter Tryd.func8, Tryd.ntmps8
  go_wp2_with (first | (go_at_call 9; with_reducible refine (al_0 _ hX.frm).mono ?_; rintro _ w' ⟨rfl, hb⟩; have hX := ((hX.alloc _).step hb).put [.int .i64 1, .bool false, .int .i64 2, .int .i64 7, .int .i64 5, .int .i64 0, .int .i64 1, .int .i64 0, .int .i64 0, .int .i64 0] 28; clear hb) | (go_at_call 9; with_reducible refine (as_1 _ _ hX.frm).mono ?_; rintro _ w' ⟨rfl, hb⟩; have hX := ((hX.alloc _).step hb).put [.int .i64 0, .bool false, .int .i64 0, .int .i64 0, .int .i64 0, .int .i64 0, .int .i64 0, .int .i64 0, .int .i64 0, .int .i64 0] 28; clear hb) | (go_at_call 9; with_reducible refine (as_2 _ _ hX.frm).mono ?_; rintro _ w' ⟨rfl, hb⟩; have hX := ((hX.alloc _).step hb).put [.int .i64 26, .bool false, .int .i64 0, .int .i64 0, .int .i64 0, .int .i64 0, .int .i64 0, .int .i64 0, .int .i64 0, .int .i64 (-1)] 28; clear hb) | (go_at_call 9; with_reducible refine (as_3 _ _ hX.frm).mono ?_; rintro _ w' ⟨rfl, hb⟩; have hX := ((hX.alloc _).step hb).put [.int .i64 0, .bool false, .int .i64 0, .int .i64 0, .int .i64 0, .int .i64 0, .int .i64 0, .int .i64 0, .int .i64 0, .int .i64 0] 28; clear hb) | (go_at_call 9; with_reducible refine (as_4 _ _ hX.frm).mono ?_; rintro _ w' ⟨rfl, hb⟩; have hX := ((hX.alloc _).step hb).put [.int .i64 0, .bool false, .int .i64 0, .int .i64 0, .int .i64 0, .int .i64 0, .int .i64 0, .int .i64 0, .int .i64 0, .int .i64 0] 28; clear hb) | (go_at_call 9; with_reducible refine (as_5 _ _ hX.frm).mono ?_; rintro _ w' ⟨rfl, hb⟩; have hX := ((hX.alloc _).step hb).put [.int .i64 9, .bool false, .int .i64 0, .int .i64 2, .int .i64 0, .int .i64 0, .int .i64 0, .int .i64 0, .int .i64 0, .int .i64 0] 28; clear hb) | (go_at_call 9; with_reducible refine (as_6 _ _ hX.frm).mono ?_; rintro _ w' ⟨rfl, hb⟩; have hX := ((hX.alloc _).step hb).put [.int .i64 1, .bool false, .int .i64 6, .int .i64 7, .int .i64 4, .int .i64 3, .int .i64 7, .int .i64 6, .int .i64 0, .int .i64 0] 28; clear hb; have m0_0 := hX.c 0 0 rfl rfl; have m0_1 := hX.c 0 1 rfl rfl; have m0_2 := hX.c 0 2 rfl rfl; have m0_3 := hX.c 0 3 rfl rfl; have m0_4 := hX.c 0 4 rfl rfl; have m0_5 := hX.c 0 5 rfl rfl; have m0_6 := hX.c 0 6 rfl rfl; have m0_7 := hX.c 0 7 rfl rfl; have m0_8 := hX.c 0 8 rfl rfl; have m0_9 := hX.c 0 9 rfl rfl; have m1_0 := hX.c 1 0 rfl rfl; have m1_1 := hX.c 1 1 rfl rfl; have m1_2 := hX.c 1 2 rfl rfl; have m1_3 := hX.c 1 3 rfl rfl; have m1_4 := hX.c 1 4 rfl rfl; have m1_5 := hX.c 1 5 rfl rfl; have m1_6 := hX.c 1 6 rfl rfl; have m1_7 := hX.c 1 7 rfl rfl; have m1_8 := hX.c 1 8 rfl rfl; have m1_9 := hX.c 1 9 rfl rfl; have m4_0 := hX.c 4 0 rfl rfl; have m4_1 := hX.c 4 1 rfl rfl; have m4_2 := hX.c 4 2 rfl rfl; have m4_3 := hX.c 4 3 rfl rfl; have m4_4 := hX.c 4 4 rfl rfl; have m4_5 := hX.c 4 5 rfl rfl; have m4_6 := hX.c 4 6 rfl rfl; have m4_7 := hX.c 4 7 rfl rfl; have m4_8 := hX.c 4 8 rfl rfl; have m4_9 := hX.c 4 9 rfl rfl; have m6_0 := hX.c 6 0 rfl rfl; have m6_1 := hX.c 6 1 rfl rfl; have m6_2 := hX.c 6 2 rfl rfl; have m6_3 := hX.c 6 3 rfl rfl; have m6_4 := hX.c 6 4 rfl rfl; have m6_5 := hX.c 6 5 rfl rfl; have m6_6 := hX.c 6 6 rfl rfl; have m6_7 := hX.c 6 7 rfl rfl; have m6_8 := hX.c 6 8 rfl rfl; have m6_9 := hX.c 6 9 rfl rfl) | (go_at_call 18; with_reducible refine (h_endR0 _ hX.frm).mono ?_; rintro _ w' ⟨rfl, hb⟩; have hX := hX.step hb; clear hb; have m0_0 := hX.c 0 0 rfl rfl; have m0_1 := hX.c 0 1 rfl rfl; have m0_2 := hX.c 0 2 rfl rfl; have m0_3 := hX.c 0 3 rfl rfl; have m0_4 := hX.c 0 4 rfl rfl; have m0_5 := hX.c 0 5 rfl rfl; have m0_6 := hX.c 0 6 rfl rfl; have m0_7 := hX.c 0 7 rfl rfl; have m0_8 := hX.c 0 8 rfl rfl; have m0_9 := hX.c 0 9 rfl rfl; have m1_0 := hX.c 1 0 rfl rfl; have m1_1 := hX.c 1 1 rfl rfl; have m1_2 := hX.c 1 2 rfl rfl; have m1_3 := hX.c 1 3 rfl rfl; have m1_4 := hX.c 1 4 rfl rfl; have m1_5 := hX.c 1 5 rfl rfl; have m1_6 := hX.c 1 6 rfl rfl; have m1_7 := hX.c 1 7 rfl rfl; have m1_8 := hX.c 1 8 rfl rfl; have m1_9 := hX.c 1 9 rfl rfl; have m4_0 := hX.c 4 0 rfl rfl; have m4_1 := hX.c 4 1 rfl rfl; have m4_2 := hX.c 4 2 rfl rfl; have m4_3 := hX.c 4 3 rfl rfl; have m4_4 := hX.c 4 4 rfl rfl; have m4_5 := hX.c 4 5 rfl rfl; have m4_6 := hX.c 4 6 rfl rfl; have m4_7 := hX.c 4 7 rfl rfl; have m4_8 := hX.c 4 8 rfl rfl; have m4_9 := hX.c 4 9 rfl rfl; have m6_0 := hX.c 6 0 rfl rfl; have m6_1 := hX.c 6 1 rfl rfl; have m6_2 := hX.c 6 2 rfl rfl; have m6_3 := hX.c 6 3 rfl rfl; have m6_4 := hX.c 6 4 rfl rfl; have m6_5 := hX.c 6 5 rfl rfl; have m6_6 := hX.c 6 6 rfl rfl; have m6_7 := hX.c 6 7 rfl rfl; have m6_8 := hX.c 6 8 rfl rfl; have m6_9 := hX.c 6 9 rfl rfl) | (go_at_call 18; with_reducible refine (h_endR1 _ hX.frm).mono ?_; rintro _ w' ⟨rfl, hb⟩; have hX := hX.step hb; clear hb; have m0_0 := hX.c 0 0 rfl rfl; have m0_1 := hX.c 0 1 rfl rfl; have m0_2 := hX.c 0 2 rfl rfl; have m0_3 := hX.c 0 3 rfl rfl; have m0_4 := hX.c 0 4 rfl rfl; have m0_5 := hX.c 0 5 rfl rfl; have m0_6 := hX.c 0 6 rfl rfl; have m0_7 := hX.c 0 7 rfl rfl; have m0_8 := hX.c 0 8 rfl rfl; have m0_9 := hX.c 0 9 rfl rfl; have m1_0 := hX.c 1 0 rfl rfl; have m1_1 := hX.c 1 1 rfl rfl; have m1_2 := hX.c 1 2 rfl rfl; have m1_3 := hX.c 1 3 rfl rfl; have m1_4 := hX.c 1 4 rfl rfl; have m1_5 := hX.c 1 5 rfl rfl; have m1_6 := hX.c 1 6 rfl rfl; have m1_7 := hX.c 1 7 rfl rfl; have m1_8 := hX.c 1 8 rfl rfl; have m1_9 := hX.c 1 9 rfl rfl; have m4_0 := hX.c 4 0 rfl rfl; have m4_1 := hX.c 4 1 rfl rfl; have m4_2 := hX.c 4 2 rfl rfl; have m4_3 := hX.c 4 3 rfl rfl; have m4_4 := hX.c 4 4 rfl rfl; have m4_5 := hX.c 4 5 rfl rfl; have m4_6 := hX.c 4 6 rfl rfl; have m4_7 := hX.c 4 7 rfl rfl; have m4_8 := hX.c 4 8 rfl rfl; have m4_9 := hX.c 4 9 rfl rfl; have m6_0 := hX.c 6 0 rfl rfl; have m6_1 := hX.c 6 1 rfl rfl; have m6_2 := hX.c 6 2 rfl rfl; have m6_3 := hX.c 6 3 rfl rfl; have m6_4 := hX.c 6 4 rfl rfl; have m6_5 := hX.c 6 5 rfl rfl; have m6_6 := hX.c 6 6 rfl rfl; have m6_7 := hX.c 6 7 rfl rfl; have m6_8 := hX.c 6 8 rfl rfl; have m6_9 := hX.c 6 9 rfl rfl) | (go_at_call 20; with_reducible refine (h_prR0 _ hX.frm).mono ?_; rintro _ w' ⟨rfl, hb⟩; have hX := hX.step hb; clear hb; have m0_0 := hX.c 0 0 rfl rfl; have m0_1 := hX.c 0 1 rfl rfl; have m0_2 := hX.c 0 2 rfl rfl; have m0_3 := hX.c 0 3 rfl rfl; have m0_4 := hX.c 0 4 rfl rfl; have m0_5 := hX.c 0 5 rfl rfl; have m0_6 := hX.c 0 6 rfl rfl; have m0_7 := hX.c 0 7 rfl rfl; have m0_8 := hX.c 0 8 rfl rfl; have m0_9 := hX.c 0 9 rfl rfl; have m1_0 := hX.c 1 0 rfl rfl; have m1_1 := hX.c 1 1 rfl rfl; have m1_2 := hX.c 1 2 rfl rfl; have m1_3 := hX.c 1 3 rfl rfl; have m1_4 := hX.c 1 4 rfl rfl; have m1_5 := hX.c 1 5 rfl rfl; have m1_6 := hX.c 1 6 rfl rfl; have m1_7 := hX.c 1 7 rfl rfl; have m1_8 := hX.c 1 8 rfl rfl; have m1_9 := hX.c 1 9 rfl rfl; have m4_0 := hX.c 4 0 rfl rfl; have m4_1 := hX.c 4 1 rfl rfl; have m4_2 := hX.c 4 2 rfl rfl; have m4_3 := hX.c 4 3 rfl rfl; have m4_4 := hX.c 4 4 rfl rfl; have m4_5 := hX.c 4 5 rfl rfl; have m4_6 := hX.c 4 6 rfl rfl; have m4_7 := hX.c 4 7 rfl rfl; have m4_8 := hX.c 4 8 rfl rfl; have m4_9 := hX.c 4 9 rfl rfl; have m6_0 := hX.c 6 0 rfl rfl; have m6_1 := hX.c 6 1 rfl rfl; have m6_2 := hX.c 6 2 rfl rfl; have m6_3 := hX.c 6 3 rfl rfl; have m6_4 := hX.c 6 4 rfl rfl; have m6_5 := hX.c 6 5 rfl rfl; have m6_6 := hX.c 6 6 rfl rfl; have m6_7 := hX.c 6 7 rfl rfl; have m6_8 := hX.c 6 8 rfl rfl; have m6_9 := hX.c 6 9 rfl rfl) | (go_at_call 16; with_reducible refine (h_lenR0 _ hX.frm).mono ?_; rintro _ w' ⟨rfl, hb⟩; have hX := hX.step hb; clear hb; have m0_0 := hX.c 0 0 rfl rfl; have m0_1 := hX.c 0 1 rfl rfl; have m0_2 := hX.c 0 2 rfl rfl; have m0_3 := hX.c 0 3 rfl rfl; have m0_4 := hX.c 0 4 rfl rfl; have m0_5 := hX.c 0 5 rfl rfl; have m0_6 := hX.c 0 6 rfl rfl; have m0_7 := hX.c 0 7 rfl rfl; have m0_8 := hX.c 0 8 rfl rfl; have m0_9 := hX.c 0 9 rfl rfl; have m1_0 := hX.c 1 0 rfl rfl; have m1_1 := hX.c 1 1 rfl rfl; have m1_2 := hX.c 1 2 rfl rfl; have m1_3 := hX.c 1 3 rfl rfl; have m1_4 := hX.c 1 4 rfl rfl; have m1_5 := hX.c 1 5 rfl rfl; have m1_6 := hX.c 1 6 rfl rfl; have m1_7 := hX.c 1 7 rfl rfl; have m1_8 := hX.c 1 8 rfl rfl; have m1_9 := hX.c 1 9 rfl rfl; have m4_0 := hX.c 4 0 rfl rfl; have m4_1 := hX.c 4 1 rfl rfl; have m4_2 := hX.c 4 2 rfl rfl; have m4_3 := hX.c 4 3 rfl rfl; have m4_4 := hX.c 4 4 rfl rfl; have m4_5 := hX.c 4 5 rfl rfl; have m4_6 := hX.c 4 6 rfl rfl; have m4_7 := hX.c 4 7 rfl rfl; have m4_8 := hX.c 4 8 rfl rfl; have m4_9 := hX.c 4 9 rfl rfl; have m6_0 := hX.c 6 0 rfl rfl; have m6_1 := hX.c 6 1 rfl rfl; have m6_2 := hX.c 6 2 rfl rfl; have m6_3 := hX.c 6 3 rfl rfl; have m6_4 := hX.c 6 4 rfl rfl; have m6_5 := hX.c 6 5 rfl rfl; have m6_6 := hX.c 6 6 rfl rfl; have m6_7 := hX.c 6 7 rfl rfl; have m6_8 := hX.c 6 8 rfl rfl; have m6_9 := hX.c 6 9 rfl rfl))
  go_ret
  exact ⟨rfl, hX.below⟩

end Go.Proofs.YtlaikajgpgpidaaDoor
