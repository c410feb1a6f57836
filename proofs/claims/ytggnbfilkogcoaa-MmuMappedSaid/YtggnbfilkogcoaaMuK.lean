/-
  Right and Reset of package mmu. No condition but that the pages are sixteen.
-/
import Derived.Test.YtggnbfilkogcoaaMuJ
import Derived.Test.YtggnbfilkogcoaaEqs
namespace Go.Proofs.Ytggnbfilkogcoaa
open Go.RowKit
set_option linter.unusedSimpArgs false
set_option linter.unusedVariables false
set_option maxHeartbeats 4000000
set_option maxRecDepth 100000
attribute [local irreducible] wpQuiet

theorem build_unit (w : World) : (Instr.build 27 #[]).run Try.prog w = .ok (.agg Un.z.L.toArray) w := by kernel_rfl
theorem reset_any (u : Un) (hu : u.ok) (W0 : World) : Calls Try.prog 21 #[.agg u.L.toArray] W0 fun e w' => e = .returned (.agg Un.z.L.toArray) ∧ Below W0.heap.size W0 w' := by
  have hz := zero_unit
  have hbd := build_unit
  have hX := Two.put u W0
  have hzl := Un.zlen
  have hz1 := Un.one Un.z
  obtain ⟨W, hst, hbW, hbel, _⟩ := hX.c.store (P := Try.prog) rfl hz1
  have hlv := hbW.loadVar (P := Try.prog) (T := 27) hzl agg_unit size_unit
  have hB2 := hbel _ _ (by omega) hX.below
  generalize Un.z = Z at *
  clear hX hbW hbel hz1
  go_enter Try.func21, Try.ntmps21
  go_wp2
  exact bodyPost_ret (results_c Try.results21 rfl hlv) rfl ⟨rfl, hB2⟩

/-! ### Right -/
theorem page_one (g : Pg) : ∀ v ∈ g.L, v.oneCell' = true := by
  intro v h
  simp [Pg.L] at h
  rcases h with rfl | rfl | rfl | rfl <;> rfl
theorem flat_one (l : List Pg) : ∀ v ∈ l.flatMap Pg.L, v.oneCell' = true := by
  intro v h
  obtain ⟨p, _, h⟩ := List.mem_flatMap.1 h
  exact page_one p v h
def Z8 : List Value := (List.replicate 8 Pg.z).flatMap Pg.L
theorem zero_mode (w : World) : (zeroValue 24).run Try.prog w = .ok (.agg Z8.toArray) w := by kernel_rfl
theorem zero_pg (w : World) : (zeroValue 23).run Try.prog w = .ok (.agg Pg.z.L.toArray) w := by kernel_rfl
theorem agg_mode (w : World) : (isAgg 24).run Try.prog w = .ok true w := by kernel_rfl
theorem siz_mode (w : World) : (sizeOf 24).run Try.prog w = .ok 32 w := by kernel_rfl
theorem agg_modes (w : World) : (isAgg 25).run Try.prog w = .ok true w := by kernel_rfl
theorem siz_modes (w : World) : (sizeOf 25).run Try.prog w = .ok 64 w := by kernel_rfl
theorem agg_pg (w : World) : (isAgg 23).run Try.prog w = .ok true w := by kernel_rfl
theorem siz_pg (w : World) : (sizeOf 23).run Try.prog w = .ok 4 w := by kernel_rfl
theorem Un.tail_in (u : Un) : u.tail = (inB u.st 3 && inB u.ad 65535) := by
  have e : decide (u.ad < 65536) = decide (u.ad ≤ 65535) := decide_eq_decide.2 (by omega)
  simp only [Un.tail, inB, e, Bool.and_assoc]
theorem Un.modes {u : Un} (hu : u.ok) : ∀ j v, (u.pg.flatMap Pg.L)[j]? = some v → u.L[1 + j]? = some v := by
  intro j v h
  have hj := (List.getElem?_eq_some_iff.1 h).1
  rw [Nat.add_comm, Un.L, List.getElem?_cons_succ, List.getElem?_append_left hj]; exact h
theorem mode_len {u : Un} (hu : u.ok) {m : Nat} (hm : m < 2) : ((u.pg.drop (8 * m)).take 8).length = 8 := by
  have : u.pg.length = 16 := hu
  rw [List.length_take, List.length_drop]; omega

theorem right_any (u : Un) (hu : u.ok) (W0 : World) : Calls Try.prog 10 #[.agg u.L.toArray] W0 fun e w' => e = .returned (.bool u.right) ∧ Below W0.heap.size W0 w' := by
  have hX := One.put u W0
  have hl16 : u.pg.length = 16 := hu
  obtain ⟨Q, hQ⟩ : ∃ Q, Hid (Q = u.right) := ⟨_, rfl⟩
  rw [← show Q = u.right from hQ]
  have h65 := Un.at65 hu
  have h66 := Un.at66 hu
  have hz8 := zero_mode
  have hzp := zero_pg
  have hlZ : Z8.length = 32 := by decide
  have hlP : Pg.z.L.length = 4 := rfl
  have hw1 := fun w => within_any u.st 3 w
  have hw2 := fun w => within_any u.ad 65535 w
  have hrp := fun g w => right_page g w
  have hldP := (hX.b.loadAtSub (P := Try.prog) (T := 25) (k := 1) (n := 64) (Un.modes hu) (by rw [flat_len, hl16]) agg_modes siz_modes)
  generalize Z8 = Z8 at *
  generalize Pg.z.L = ZP at *
  obtain ⟨M, hM⟩ : ∃ M, Hid (u.pg.flatMap Pg.L = M) := ⟨_, rfl⟩
  rw [show u.pg.flatMap Pg.L = M from hM] at hldP
  go_enter Try.func10, Try.ntmps10
  go_wp2_with (first | (refine wpList_load_run rfl 25 _ _ (.agg M.toArray) rfl rfl hldP ?_))
  go_loopw [9] (fun i wr => ∃ m : Nat, m ≤ 2 ∧ i = .int .i64 m ∧ One W0.heap.size u W0 wr ∧ Hid (Q = ((u.pg.drop (8 * m)).all Pg.good && u.tail)))
    (fun i _ => 2 - (intOf i).toNat)
  case atStart => exact ⟨0, by decide, rfl, hX, hQ⟩
  case round =>
    clear hX hQ hldP
    obtain ⟨m, hm, rfl, hX, hQ⟩ := hrel
    by_cases hm2 : m < 2
    · obtain ⟨N, hN⟩ : ∃ N, Hid (((u.pg.drop (8 * m)).take 8).flatMap Pg.L = N) := ⟨_, rfl⟩
      have hNl : N.length = 32 := by rw [← show _ = N from hN, flat_len, mode_len hu hm2]
      have hN1 : ∀ v ∈ N, v.oneCell' = true := by rw [← show _ = N from hN]; exact flat_one _
      have hidx := fun w => run_index_agg (P := Try.prog) (t := 25) (e := 24) (w := w) (n := 2) (c := 32) (cs := M) (ds := N) m Try.underlying25 hm2 agg_mode siz_mode (by
        rw [← show _ = M from hM, ← show _ = N from hN, show m * 32 = 4 * (8 * m) by omega, flat_drop, show 32 = 4 * 8 by rfl, flat_take])
      go_wp2_with (first | (refine wpList_index_run rfl 25 _ _ (.agg M.toArray) (.int .i64 m) (.agg N.toArray) rfl rfl rfl (hidx _) ?_) | (refine wpList_store_run rfl rfl 24 _ _ _ N rfl rfl rfl agg_mode (by rw [hNl]; exact siz_mode) (run_store_new _ Z8 N (by rw [hNl, hlZ]) hN1) ?_) | (refine wpList_load_run rfl 24 _ _ (.agg N.toArray) rfl rfl ((Blk.new 24 _ N).loadAt hNl agg_mode siz_mode) ?_))
      have hY := hX.step ((Below.refl wr.heap.size wr).alloc (Nat.le_refl _) (.cells N.toArray 24))
      clear hX
      generalize wr.alloc (.cells N.toArray 24) = wa at *
      go_loopw [13] (fun i wq => ∃ p : Nat, p ≤ 8 ∧ i = .int .i64 p ∧ One W0.heap.size u W0 wq ∧ Hid (Q = ((u.pg.drop (8 * m + p)).all Pg.good && u.tail)))
        (fun i _ => 8 - (intOf i).toNat)
      case atStart => exact ⟨0, by decide, rfl, hY, hQ⟩
      case round =>
        clear hY hQ
        obtain ⟨p, hp, rfl, hX, hQ⟩ := hrel
        by_cases hp8 : p < 8
        · obtain ⟨g, hg⟩ : ∃ g, u.pg[8 * m + p]? = some g := ⟨_, List.getElem?_eq_getElem (by omega)⟩
          have hd := all_drop hg
          have hpx := fun w => run_index_agg (P := Try.prog) (t := 24) (e := 23) (w := w) (n := 8) (c := 4) (cs := N) (ds := g.L) p Try.underlying24 hp8 agg_pg siz_pg (by
            rw [← show _ = N from hN, show p * 4 = 4 * p by omega, flat_drop, show (4 : Nat) = 4 * 1 by rfl, flat_take]
            rw [List.drop_take, List.drop_drop, List.take_take, Nat.min_eq_left (by omega), List.drop_eq_getElem_cons (by omega), List.take_succ_cons, List.take_zero, (List.getElem?_eq_some_iff.1 hg).2]
            simp)
          have hgl : g.L.length = 4 := rfl
          have hg1 := page_one g
          have hY := hX.step ((Below.refl wr.heap.size wr).alloc (Nat.le_refl _) (.cells g.L.toArray 23))
          have hrg := fun w => hrp g w
          obtain ⟨G, hG⟩ : ∃ G, Hid (g.L = G) := ⟨_, rfl⟩
          rw [show g.L = G from hG] at hpx hgl hg1 hY hrg
          replace hd := hid hd
          replace hg := hid hg
          have hgg : ∃ b, g.good = b := ⟨_, rfl⟩
          obtain ⟨bg, hgg⟩ := hgg
          rw [hgg] at hrg
          replace hgg := hid hgg
          clear hX
          cases bg
          · have hQ : Hid (Q = false) := by
              show _ = _
              rw [show Q = _ from hQ, show _ = _ from hd, show g.good = false from hgg]; rfl
            go_wp2_with (first | (go_at_call 22; with_reducible refine (hrg _).mono ?_; rintro e w' ⟨rfl, hb⟩; have hY := hY.step hb) | (refine wpList_index_run rfl 24 _ _ (.agg N.toArray) (.int .i64 p) (.agg G.toArray) rfl rfl rfl (hpx _) ?_) | (refine wpList_store_run rfl rfl 23 _ _ _ G rfl rfl rfl agg_pg (by rw [hgl]; exact siz_pg) (run_store_new _ ZP G (by rw [hgl, hlP]) hg1) ?_) | (refine wpList_load_run rfl 23 _ _ (.agg G.toArray) rfl rfl ((Blk.new 23 _ G).loadAt hgl agg_pg siz_pg) ?_))
            go_ret
            exact ⟨ret_bool (by rw [show Q = false from hQ]), hY.below⟩
          · have hQ : Hid (Q = ((u.pg.drop (8 * m + (p + 1))).all Pg.good && u.tail)) := by
              show _ = _
              rw [show Q = _ from hQ, show _ = _ from hd, show g.good = true from hgg, Bool.true_and]
              rfl
            go_wp2_with (first | (go_at_call 22; with_reducible refine (hrg _).mono ?_; rintro e w' ⟨rfl, hb⟩; have hY := hY.step hb) | (refine wpList_index_run rfl 24 _ _ (.agg N.toArray) (.int .i64 p) (.agg G.toArray) rfl rfl rfl (hpx _) ?_) | (refine wpList_store_run rfl rfl 23 _ _ _ G rfl rfl rfl agg_pg (by rw [hgl]; exact siz_pg) (run_store_new _ ZP G (by rw [hgl, hlP]) hg1) ?_) | (refine wpList_load_run rfl 23 _ _ (.agg G.toArray) rfl rfl ((Blk.new 23 _ G).loadAt hgl agg_pg siz_pg) ?_))
            go_round
            case rel => exact ⟨p + 1, by omega, by go_num, hY, hQ⟩
            case measure => simp [intOf]; omega
        · obtain rfl : p = 8 := by omega
          go_wp2
          go_round
          case rel => exact ⟨m + 1, by omega, by go_num, hX, hQ⟩
          case measure => simp [intOf]; omega
    · obtain rfl : m = 2 := by omega
      have hQ : Hid (Q = (inB u.st 3 && inB u.ad 65535)) := by
        show _ = _
        rw [show Q = _ from hQ, List.drop_eq_nil_of_le (by omega), ← Un.tail_in]
        rfl
      have c65 := hX.b.cell h65
      have c66 := hX.b.cell h66
      have hB := hX.below
      generalize u.st = s at *
      generalize u.ad = d at *
      generalize inB s 3 = q1 at *
      generalize inB d 65535 = q2 at *
      cases q1
      · have hQ : Hid (Q = false) := hQ
        go_wp2_with (first | (go_at_call 23; first | (with_reducible refine (hw1 _).mono ?_; rintro e w' ⟨rfl, rfl⟩) | (with_reducible refine (hw2 _).mono ?_; rintro e w' ⟨rfl, rfl⟩)))
        go_ret
        exact ⟨ret_bool (by rw [show Q = false from hQ]), hB⟩
      · have hQ : Hid (Q = q2) := hQ
        go_wp2_with (first | (go_at_call 23; first | (with_reducible refine (hw1 _).mono ?_; rintro e w' ⟨rfl, rfl⟩) | (with_reducible refine (hw2 _).mono ?_; rintro e w' ⟨rfl, rfl⟩)))
        go_ret
        exact ⟨ret_bool (by rw [show Q = q2 from hQ]), hB⟩
end Go.Proofs.Ytggnbfilkogcoaa
