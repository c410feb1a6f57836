/-
  mappable and Map of package mmu. No condition but that the pages are sixteen.
-/
import Derived.Test.YtggnbfilkogcoaaMuN
import Derived.Test.YtggnbfilkogcoaaMuQ
namespace Go.Proofs.Ytggnbfilkogcoaa
open Go.RowKit
set_option linter.unusedSimpArgs false
set_option linter.unusedVariables false
set_option maxHeartbeats 8000000
set_option maxRecDepth 100000
attribute [local irreducible] wpQuiet

theorem mappable_ok (mode base blocks acc : Int) (h : okMap mode base blocks acc) (w : World) : Calls Try.prog 35 #[.int .i64 mode, .int .i64 base, .int .i64 blocks, .int .i64 acc] w fun e w' => e = .returned (.bool true) ∧ w = w' := by
  obtain ⟨h1, h2, h3, h4, h5, h6, h7, h8⟩ := h
  have c1 := fun w => within_any blocks 1024 w
  have c2 := fun w => within_any base (4096 - blocks) w
  rw [show inB blocks 1024 = true by unfold inB; rw [decide_eq_true h5, decide_eq_true h6]; rfl] at c1
  rw [show inB base (4096 - blocks) = true by unfold inB; rw [decide_eq_true h7, decide_eq_true h8]; rfl] at c2
  rcases (by omega : mode = 0 ∨ mode = 1) with hm | hm <;> rcases (by omega : acc = 1 ∨ acc = 2) with ha | ha
  all_goals
    subst hm ha
    clear h1 h2 h3 h4
    go_enter Try.func35, Try.ntmps35
    go_wp2_with (first | (go_at_call 23; first | (with_reducible refine (c1 _).mono ?_; rintro e w' ⟨rfl, rfl⟩) | (with_reducible refine (c2 _).mono ?_; rintro e w' ⟨rfl, rfl⟩)))
    go_ret
    exact ⟨rfl, rfl⟩
theorem mappable_bad (mode base blocks acc : Int) (h : ¬ okMap mode base blocks acc) (w : World) : Calls Try.prog 35 #[.int .i64 mode, .int .i64 base, .int .i64 blocks, .int .i64 acc] w fun e w' => e = .returned (.bool false) ∧ w = w' := by
  have c1 := fun w => within_any blocks 1024 w
  have c2 := fun w => within_any base (4096 - blocks) w
  by_cases hm : mode = 0 ∨ mode = 1
  · by_cases ha : acc = 1 ∨ acc = 2
    · by_cases hb : 0 ≤ blocks ∧ blocks ≤ 1024
      · have hc : ¬ (0 ≤ base ∧ base ≤ 4096 - blocks) := fun k => h ⟨by omega, by omega, by omega, by omega, hb.1, hb.2, k.1, k.2⟩
        rw [show inB blocks 1024 = true by unfold inB; rw [decide_eq_true hb.1, decide_eq_true hb.2]; rfl] at c1
        rw [show inB base (4096 - blocks) = false by unfold inB; simpa using hc] at c2
        obtain ⟨b1, b2⟩ := hb
        clear h hc
        rcases hm with hm | hm <;> rcases ha with ha | ha
        all_goals
          subst hm ha
          go_enter Try.func35, Try.ntmps35
          go_wp2_with (first | (go_at_call 23; first | (with_reducible refine (c1 _).mono ?_; rintro e w' ⟨rfl, rfl⟩) | (with_reducible refine (c2 _).mono ?_; rintro e w' ⟨rfl, rfl⟩)))
          go_ret
          exact ⟨rfl, rfl⟩
      · rw [show inB blocks 1024 = false by unfold inB; simpa using hb] at c1
        clear h hb
        rcases hm with hm | hm <;> rcases ha with ha | ha
        all_goals
          subst hm ha
          go_enter Try.func35, Try.ntmps35
          go_wp2_with (first | (go_at_call 23; first | (with_reducible refine (c1 _).mono ?_; rintro e w' ⟨rfl, rfl⟩) | (with_reducible refine (c2 _).mono ?_; rintro e w' ⟨rfl, rfl⟩)))
          go_ret
          exact ⟨rfl, rfl⟩
    · have a1 : ¬ acc = 1 := fun k => ha (.inl k)
      have a2 : ¬ acc = 2 := fun k => ha (.inr k)
      clear h ha c1 c2
      rcases hm with hm | hm
      all_goals
        subst hm
        go_enter Try.func35, Try.ntmps35
        go_wp2
        go_ret
        exact ⟨rfl, rfl⟩
  · have a1 : ¬ mode = 0 := fun k => hm (.inl k)
    have a2 : ¬ mode = 1 := fun k => hm (.inr k)
    clear h hm c1 c2
    go_enter Try.func35, Try.ntmps35
    go_wp2
    go_ret
    exact ⟨rfl, rfl⟩

theorem build_mode (w : World) : (Instr.build 24 #[]).run Try.prog w = .ok (.agg Z8.toArray) w := by kernel_rfl
theorem zero_pages (u : Un) (hu : u.ok) (m : Nat) (hm : m < 2) (acc base blocks : Int) : (u.mapU m acc base blocks 0).pg = u.pg.take (8 * m) ++ List.replicate 8 Pg.z ++ u.pg.drop (8 * m + 8) := by
  have hl : u.pg.length = 16 := hu
  apply List.ext_getElem?
  intro k
  by_cases hk : k < 16
  · rw [Un.mapU_at _ _ _ _ _ _ _ hk]
    by_cases h1 : k < 8 * m
    · rw [if_neg (by omega), List.append_assoc, List.getElem?_append_left (by rw [List.length_take]; omega), List.getElem?_take_of_lt h1, Un.pgAt_some hu hk]
    · by_cases h2 : k < 8 * m + 8
      · rw [if_pos (by omega), if_neg (by omega), List.getElem?_append_left (by rw [List.length_append, List.length_take, List.length_replicate]; omega), List.getElem?_append_right (by rw [List.length_take]; omega), List.getElem?_replicate, if_pos (by rw [List.length_take]; omega)]
      · rw [if_neg (by omega), List.getElem?_append_right (by rw [List.length_append, List.length_take, List.length_replicate]; omega), List.getElem?_drop, List.length_append, List.length_take, List.length_replicate, show 8 * m + 8 + (k - (min (8 * m) u.pg.length + 8)) = k by omega, Un.pgAt_some hu hk]
  · have h1 : (u.mapU m acc base blocks 0).pg.length = 16 := Un.mapU_ok u m acc base blocks 0
    rw [List.getElem?_eq_none (by omega), List.getElem?_eq_none (by rw [List.length_append, List.length_append, List.length_take, List.length_replicate, List.length_drop]; omega)]
theorem zero_cells (u : Un) (hu : u.ok) (m : Nat) (hm : m < 2) (acc base blocks : Int) : u.L.take (1 + m * 32) ++ Z8 ++ u.L.drop (1 + m * 32 + 32) = (u.mapU m acc base blocks 0).L := by
  have hl : u.pg.length = 16 := hu
  have hf : (u.pg.flatMap Pg.L).length = 64 := by rw [flat_len, hl]
  have e1 : u.L.take (1 + m * 32) = .bool u.on :: (u.pg.take (8 * m)).flatMap Pg.L := by
    rw [Un.L, Nat.add_comm, List.take_succ_cons, List.take_append_of_le_length (by omega), show m * 32 = 4 * (8 * m) by omega, flat_take]
  have e2 : u.L.drop (1 + m * 32 + 32) = (u.pg.drop (8 * m + 8)).flatMap Pg.L ++ [.int .i64 u.st, .int .i64 u.ad] := by
    rw [Un.L, show 1 + m * 32 + 32 = 4 * (8 * m + 8) + 1 by omega, List.drop_succ_cons, List.drop_append_of_le_length (by omega), flat_drop]
  rw [e1, e2, Un.L, zero_pages u hu m hm, List.flatMap_append, List.flatMap_append]
  simp only [Un.mapU, Z8, List.cons_append, List.append_assoc]
theorem Z8_len : Z8.length = 32 := by decide
theorem Two.zero8 {B C m : Nat} {u v : Un} {w0 w : World} (h : Two B C u v w0 w) (hu : u.ok) (hm : m < 2) (hn : C ≠ B) (hB : w0.heap.size ≤ B) (acc base blocks : Int) :
    ∃ W, (storeCells ⟨B, 1 + m * 32, none⟩ Z8).run Try.prog w = .ok () W ∧ Two B C (u.mapU m acc base blocks 0) v w0 W := by
  have hl := Un.len hu
  have e := run_storeCells_at Try.prog B (1 + m * 32) 27 Z8 0 u.L.toArray w h.b (by rw [Z8_len, List.size_toArray, hl]; omega) (flat_one _)
  refine ⟨_, e, ?_, ?_, below_setRow h.below hB _⟩
  · have e2 : (u.L.toArray.toList.take (1 + m * 32 + 0) ++ Z8 ++ u.L.toArray.toList.drop (1 + m * 32 + 0 + Z8.length)) = (u.mapU m acc base blocks 0).L := by
      rw [Z8_len]; exact zero_cells u hu m hm acc base blocks
    rw [← e2]
    exact setRow_heap w B _ _ _ _ h.b
  · unfold Blk
    rw [setRow_other w B C _ hn]
    exact h.c

theorem map_bad (u : Un) (hu : u.ok) (mode base blocks acc : Int) (h : ¬ okMap mode base blocks acc) (W0 : World) : Calls Try.prog 19 #[.agg u.L.toArray, .int .i64 mode, .int .i64 base, .int .i64 blocks, .int .i64 acc] W0 fun e w' => e = .returned (.tuple #[.agg Un.z.L.toArray, .int .i64 1]) ∧ Below W0.heap.size W0 w' := by
  have hz := zero_unit
  have hbd := build_unit
  have hX := Two.put u W0
  have hzl := Un.zlen
  have hz1 := Un.one Un.z
  have hc := fun w => mappable_bad mode base blocks acc h w
  obtain ⟨W, hst, hbW, hbel, _⟩ := hX.c.store (P := Try.prog) rfl hz1
  have hlv := hbW.loadVar (P := Try.prog) (T := 27) hzl agg_unit size_unit
  have hB2 := hbel _ _ (by omega) hX.below
  generalize Un.z = Z at *
  clear hX hbW hbel hz1 h
  go_enter Try.func19, Try.ntmps19
  go_wp2_with (first | (go_at_call 35; with_reducible refine (hc _).mono ?_; rintro e w' ⟨rfl, hw⟩; subst hw))
  exact bodyPost_ret (results_ct Try.results19 rfl hlv) rfl ⟨rfl, hB2⟩

theorem map_ok (u : Un) (hu : u.ok) (mode : Int) (m : Nat) (hmm : mode = (m : Int)) (hm : m < 2) (base blocks acc : Int) (h : okMap mode base blocks acc) (W0 : World) : Calls Try.prog 19 #[.agg u.L.toArray, .int .i64 mode, .int .i64 base, .int .i64 blocks, .int .i64 acc] W0 fun e w' => e = .returned (.tuple #[.agg (u.mapU m acc base blocks 8).L.toArray, .int .i64 0]) ∧ Below W0.heap.size W0 w' := by
  subst hmm
  have hz := zero_unit
  have hbm := build_mode
  have hc := fun w => mappable_ok m base blocks acc h w
  have hX := Two.put u W0
  have hzo := Un.z_ok
  have hzl := Un.zlen
  have hRo := Un.mapU_ok u m acc base blocks 8
  obtain ⟨R, hR⟩ : ∃ R, Hid (u.mapU m acc base blocks 8 = R) := ⟨_, rfl⟩
  rw [show u.mapU m acc base blocks 8 = R from hR] at hRo
  rw [show u.mapU m acc base blocks 8 = R from hR]
  obtain ⟨_, _, _, _, hb0, hb1, hs0, hs1⟩ := h
  obtain ⟨WZ, hst8, hXZ⟩ := hX.zero8 hu hm (by omega) (Nat.le_refl _) acc base blocks
  have hl8 := Z8_len
  generalize Un.z = Z at *
  generalize Z8 = Z8 at *
  have m0 : (0 : Int) ≤ (m : Int) := by omega
  have m1 : (m : Int) < 2 := by omega
  go_enter Try.func19, Try.ntmps19
  go_wp2_with (first | (go_at_call 35; with_reducible refine (hc _).mono ?_; rintro e w' ⟨rfl, hw⟩; subst hw) | (refine wpList_build_run 24 (.agg Z8.toArray) rfl rfl hbm ?_) | (refine wpList_store_run rfl rfl 24 _ _ _ Z8 rfl rfl rfl agg_mode (by rw [hl8]; exact siz_mode) hst8 ?_))
  clear hX hst8
  go_loopw [2, 3, 12] (fun bs bl i wr => ∃ (k : Nat) (x y : Int), k ≤ 8 ∧ i = .int .i64 k ∧ bs = .int .i64 x ∧ bl = .int .i64 y ∧ x = base + min (128 * (k : Int)) blocks ∧ y = blocks - min (128 * (k : Int)) blocks ∧ Two W0.heap.size (W0.heap.size + 1) (u.mapU m acc base blocks k) Z W0 wr)
    (fun _ _ i _ => match i with | .int _ q => 8 - q.toNat | _ => 0)
  case atStart => exact ⟨0, base, blocks, by decide, rfl, rfl, rfl, by omega, by omega, hXZ⟩
  case round =>
    clear hXZ
    obtain ⟨k, x, y, hk, rfl, rfl, rfl, hx, hy, hY⟩ := hrel
    have ho := Un.mapU_ok u m acc base blocks k
    by_cases hp : 0 < y
    · have hk8 : k < 8 := by omega
      have hg := Un.mapU_at u m acc base blocks k (8 * m + k) (by omega)
      rw [if_pos (by omega), if_neg (by omega)] at hg
      have k0 : (0 : Int) ≤ (k : Int) := by omega
      have k1 : (k : Int) < 8 := by omega
      have hA : ∃ n, min y 128 = n ∧ ((y ≤ 128 ∧ n = y) ∨ (128 < y ∧ n = 128)) := ⟨_, rfl, by omega⟩
      obtain ⟨n, hn, hA⟩ := hA
      obtain ⟨W1, W2, W3, W4, a1, a2, a3, a4, ⟨c1, f1⟩, ⟨c2, f2⟩, ⟨c3, f3⟩, ⟨c4, f4⟩, hZ⟩ := hY.four hg (by omega) (Nat.le_refl _) ⟨x, n, acc, false⟩
      have hst := Un.mapU_step u m hm acc base blocks k hk8 ⟨x, n, acc, false⟩ (by
        unfold mpg
        rw [if_pos (by omega), show base + 128 * (k : Int) = x by omega, show min (blocks - 128 * (k : Int)) 128 = n by omega])
      rw [hst] at hZ
      simp only [Pg.z] at a1 a2 a3 a4 c1 c2 c3 c4
      have z0 : 0 ≤ x := by omega
      have z1 : x + n ≤ 4096 := by omega
      have z2 : 0 < n := by omega
      have z3 : y ≤ 1024 := by omega
      have e1 : x + n = base + min (128 * ((k + 1 : Nat) : Int)) blocks := by omega
      have e2 : y - n = blocks - min (128 * ((k + 1 : Nat) : Int)) blocks := by omega
      clear hst hg hn hY
      replace hx := hid hx
      replace hy := hid hy
      replace e1 := hid e1
      replace e2 := hid e2
      rcases hA with ⟨q1, q2⟩ | ⟨q1, q2⟩
      all_goals
        subst q2
        go_wp2
        refine ⟨⟨k + 1, _, _, by omega, by go_num, rfl, rfl, e1, by first | exact e2 | (have e3 := e2; rw [Int.sub_self] at e3; exact e3), hZ⟩, by simp only; omega⟩
    · have hend := Un.mapU_end u m acc base blocks k (by omega) hk
      rw [hend, show u.mapU m acc base blocks 8 = R from hR] at hY
      have hln := Un.len hRo
      clear hend hx hy
      obtain ⟨hld, W, hst, hX2, hlv⟩ := hY.outR hRo hzo (by omega) (by omega)
      go_wp2_with (first | (refine wpList_load_run rfl 27 (.tmp 5) (.pointer (some ⟨W0.heap.size, 0, none⟩)) (.agg R.L.toArray) rfl rfl hld ?_))
      exact bodyPost_ret (results_ct Try.results19 rfl hlv) rfl ⟨rfl, hX2.below⟩

/-- The unit after Map, and the error. -/
theorem map_any (u : Un) (hu : u.ok) (mode base blocks acc : Int) (W0 : World) : Calls Try.prog 19 #[.agg u.L.toArray, .int .i64 mode, .int .i64 base, .int .i64 blocks, .int .i64 acc] W0 fun e w' => e = .returned (.tuple #[.agg (u.map mode base blocks acc).1.L.toArray, .int .i64 (u.map mode base blocks acc).2]) ∧ Below W0.heap.size W0 w' := by
  by_cases h : okMap mode base blocks acc
  · have hh := h
    unfold okMap at hh
    rw [show u.map mode base blocks acc = _ from by unfold Un.map; rw [if_pos h, mapGo_eq u hu mode.toNat (by omega) acc base blocks hh.2.2.2.2.1]]
    exact map_ok u hu mode mode.toNat (by omega) (by omega) base blocks acc h W0
  · rw [show u.map mode base blocks acc = _ from by unfold Un.map; rw [if_neg h]]
    exact map_bad u hu mode base blocks acc h W0
end Go.Proofs.Ytggnbfilkogcoaa
