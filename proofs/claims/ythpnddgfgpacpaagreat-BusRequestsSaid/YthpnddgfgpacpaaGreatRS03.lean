import Derived.Test.YthpnddgfgpacpaaGreatRS02
import Derived.Test.YthpnddgfgpacpaaGreatRS00
/-
  The calls of package mmu that take a page or a unit and change nothing else: rightPage, status, descriptor, mappable, Reset. Conditions: valid numbers where it is said.
-/
namespace Go.Proofs.YthpnddgfgpacpaaGreat
open Go.RowKit
set_option linter.unusedSimpArgs false
set_option linter.unusedVariables false
set_option maxHeartbeats 4000000
set_option maxRecDepth 100000
attribute [local irreducible] wpQuiet

theorem or_nat (a b : Nat) (ha : a < 9223372036854775808) (hb : b < 9223372036854775808) : bits .or .i64 (a : Int) (b : Int) = ((a ||| b : Nat) : Int) := by
  rw [or_def, N64_nat a (by omega), N64_nat b (by omega)]
  exact small (Nat.or_lt_two_pow (n := 63) ha hb)
theorem or_low (k : Nat) {a b : Int} {n : Int} (hn : n = 2 ^ k) (ha : 0 ≤ a) (hb : 0 ≤ b) (hbn : b < n) (h : a * n + b < 9223372036854775808) : bits .or .i64 (a * n) b = a * n + b ∧ bits .or .i64 b (a * n) = a * n + b := by
  obtain ⟨x, rfl⟩ : ∃ x : Nat, a = x := ⟨a.toNat, by omega⟩
  obtain ⟨y, rfl⟩ : ∃ y : Nat, b = y := ⟨b.toNat, by omega⟩
  have e : n = ((2 ^ k : Nat) : Int) := by rw [hn]; simp
  have hp : (0 : Int) < n := by omega
  have e2 : (x : Int) * n = ((2 ^ k * x : Nat) : Int) := by rw [e, ← Int.natCast_mul, Nat.mul_comm]
  have hx : 2 ^ k * x + y < 9223372036854775808 := by
    rw [e2] at h; omega
  have hy : y < 2 ^ k := by omega
  have e3 : 2 ^ k * x ||| y = 2 ^ k * x + y := (Nat.two_pow_add_eq_or_of_lt hy x).symm
  rw [e2, or_nat _ _ (by omega) (by omega), or_nat _ _ (by omega) (by omega), e3, Nat.or_comm y, e3]
  constructor <;> omega

theorem right_page (g : Pg) (w : World) : Calls Tryz.prog 175 #[.agg g.L.toArray] w fun e w' => e = .returned (.bool g.good) ∧ Below w.heap.size w w' := by
  obtain ⟨b, l, a, r⟩ := g
  have hB : Below w.heap.size w (w.alloc (.cells #[.int .i64 b, .int .i64 l, .int .i64 a, .bool r] 28)) := (Below.refl _ _).alloc (Nat.le_refl _) _
  have hb := fun w => within_any_9 b 4095 w
  have hl := fun w => within_any_9 l 128 w
  have ha := fun w => within_any_9 a 2 w
  have e : Pg.good ⟨b, l, a, r⟩ = (inB b 4095 && (inB l 128 && inB a 2)) := by simp only [Pg.good, inB, Bool.and_assoc]
  rw [e]
  generalize inB b 4095 = q1 at *
  generalize inB l 128 = q2 at *
  generalize inB a 2 = q3 at *
  clear e
  show Calls Tryz.prog 175 #[.agg #[.int .i64 b, .int .i64 l, .int .i64 a, .bool r]] w _
  cases q1
  · go_enter Tryz.func175, Tryz.ntmps175
    go_wp2_with (first | (go_at_call 176; first | (with_reducible refine (hb _).mono ?_; rintro e w' ⟨rfl, rfl⟩) | (with_reducible refine (hl _).mono ?_; rintro e w' ⟨rfl, rfl⟩) | (with_reducible refine (ha _).mono ?_; rintro e w' ⟨rfl, rfl⟩)))
    go_ret
    exact ⟨rfl, hB⟩
  · cases q2
    · go_enter Tryz.func175, Tryz.ntmps175
      go_wp2_with (first | (go_at_call 176; first | (with_reducible refine (hb _).mono ?_; rintro e w' ⟨rfl, rfl⟩) | (with_reducible refine (hl _).mono ?_; rintro e w' ⟨rfl, rfl⟩) | (with_reducible refine (ha _).mono ?_; rintro e w' ⟨rfl, rfl⟩)))
      go_ret
      exact ⟨rfl, hB⟩
    · go_enter Tryz.func175, Tryz.ntmps175
      go_wp2_with (first | (go_at_call 176; first | (with_reducible refine (hb _).mono ?_; rintro e w' ⟨rfl, rfl⟩) | (with_reducible refine (hl _).mono ?_; rintro e w' ⟨rfl, rfl⟩) | (with_reducible refine (ha _).mono ?_; rintro e w' ⟨rfl, rfl⟩)))
      go_ret
      exact ⟨rfl, hB⟩

theorem status_any (u : Un) (hu : u.ok) (h0 : 0 ≤ u.st) (h1 : u.st ≤ 3) (w : World) : Calls Tryz.prog 170 #[.agg u.L.toArray] w fun e w' => e = .returned (.int .i64 (statV u)) ∧ Below w.heap.size w w' := by
  have hX := One.put u w
  have c0 := hX.b.cell (Un.at0 u)
  have c65 := hX.b.cell (Un.at65 hu)
  have hB := hX.below
  unfold statV
  have hO := (or_low 1 (n := 2) (a := u.st) (b := 1) (by decide) h0 (by decide) (by decide) (by omega)).1
  have V1 : IntKind.i64.wrap (u.st * 2) = u.st * 2 := by rw [wrap_i64]; exact IntWalk.wrap64_in _ ⟨by omega, by omega⟩
  rw [show 2 * u.st = u.st * 2 by omega]
  generalize u.st = s at *
  cases hon : u.on
  all_goals
    rw [hon] at c0
    go_enter Tryz.func170, Tryz.ntmps170
    go_wp2
    go_ret
    exact ⟨rfl, hB⟩

theorem desc_any (g : Pg) (hg : g.good = true) (w : World) : Calls Tryz.prog 174 #[.agg g.L.toArray] w fun e w' => e = .returned (.int .i64 (descV g)) ∧ Below w.heap.size w w' := by
  obtain ⟨_, _, h0, h1, h2, h3⟩ := Pg.good_all hg
  obtain ⟨b, l, a, r⟩ := g
  simp only at h0 h1 h2 h3
  have hB : Below w.heap.size w (w.alloc (.cells #[.int .i64 b, .int .i64 l, .int .i64 a, .bool r] 28)) := (Below.refl _ _).alloc (Nat.le_refl _) _
  have hO := (or_low 8 (n := 256) (a := a) (b := l) (by decide) h2 h0 (by omega) (by omega)).2
  have hO2 := (or_low 15 (n := 32768) (a := 1) (b := a * 256 + l) (by decide) (by decide) (by omega) (by omega) (by omega)).2
  have V1 : IntKind.i64.wrap (a * 256) = a * 256 := by rw [wrap_i64]; exact IntWalk.wrap64_in _ ⟨by omega, by omega⟩
  unfold descV
  simp only
  rw [show l + 256 * a = a * 256 + l by omega]
  rw [Int.one_mul, show (32768 : Int) + (a * 256 + l) = a * 256 + l + 32768 by omega] at hO2
  show Calls Tryz.prog 174 #[.agg #[.int .i64 b, .int .i64 l, .int .i64 a, .bool r]] w _
  clear hg
  cases r
  all_goals
    go_enter Tryz.func174, Tryz.ntmps174
    go_wp2
    go_ret
    exact ⟨rfl, hB⟩
end Go.Proofs.YthpnddgfgpacpaaGreat
/-
  Right and Reset of package mmu. No condition but that the pages are sixteen.
-/
namespace Go.Proofs.YthpnddgfgpacpaaGreat
open Go.RowKit
set_option linter.unusedSimpArgs false
set_option linter.unusedVariables false
set_option maxHeartbeats 4000000
set_option maxRecDepth 100000
attribute [local irreducible] wpQuiet

theorem build_unit (w : World) : (Instr.build 32 #[]).run Tryz.prog w = .ok (.agg Un.z.L.toArray) w := by kernel_rfl
theorem reset_any (u : Un) (hu : u.ok) (W0 : World) : Calls Tryz.prog 167 #[.agg u.L.toArray] W0 fun e w' => e = .returned (.agg Un.z.L.toArray) ∧ Below W0.heap.size W0 w' := by
  have hz := zero_unit
  have hbd := build_unit
  have hX := Two.put u W0
  have hzl := Un.zlen
  have hz1 := Un.one Un.z
  obtain ⟨W, hst, hbW, hbel, _⟩ := hX.c.store (P := Tryz.prog) rfl hz1
  have hlv := hbW.loadVar (P := Tryz.prog) (T := 32) hzl agg_unit size_unit
  have hB2 := hbel _ _ (by omega) hX.below
  generalize Un.z = Z at *
  clear hX hbW hbel hz1
  go_enter Tryz.func167, Tryz.ntmps167
  go_wp2
  exact bodyPost_ret (results_c Tryz.results167 rfl hlv) rfl ⟨rfl, hB2⟩

/-! ### Right -/
theorem page_one (g : Pg) : ∀ v ∈ g.L, v.oneCell' = true := by
  intro v h
  simp [Pg.L] at h
  rcases h with rfl | rfl | rfl | rfl <;> rfl
theorem flat_one_9 (l : List Pg) : ∀ v ∈ l.flatMap Pg.L, v.oneCell' = true := by
  intro v h
  obtain ⟨p, _, h⟩ := List.mem_flatMap.1 h
  exact page_one p v h
def Z8 : List Value := (List.replicate 8 Pg.z).flatMap Pg.L
theorem zero_mode (w : World) : (zeroValue 29).run Tryz.prog w = .ok (.agg Z8.toArray) w := by kernel_rfl
theorem zero_pg (w : World) : (zeroValue 28).run Tryz.prog w = .ok (.agg Pg.z.L.toArray) w := by kernel_rfl
theorem agg_mode (w : World) : (isAgg 29).run Tryz.prog w = .ok true w := by kernel_rfl
theorem siz_mode (w : World) : (sizeOf 29).run Tryz.prog w = .ok 32 w := by kernel_rfl
theorem agg_modes (w : World) : (isAgg 30).run Tryz.prog w = .ok true w := by kernel_rfl
theorem siz_modes (w : World) : (sizeOf 30).run Tryz.prog w = .ok 64 w := by kernel_rfl
theorem agg_pg (w : World) : (isAgg 28).run Tryz.prog w = .ok true w := by kernel_rfl
theorem siz_pg (w : World) : (sizeOf 28).run Tryz.prog w = .ok 4 w := by kernel_rfl
theorem Un.tail_in (u : Un) : u.tail = (inB u.st 3 && inB u.ad 65535) := by
  have e : decide (u.ad < 65536) = decide (u.ad ≤ 65535) := decide_eq_decide.2 (by omega)
  simp only [Un.tail, inB, e, Bool.and_assoc]
theorem Un.modes {u : Un} (hu : u.ok) : ∀ j v, (u.pg.flatMap Pg.L)[j]? = some v → u.L[1 + j]? = some v := by
  intro j v h
  have hj := (List.getElem?_eq_some_iff.1 h).1
  rw [Nat.add_comm, Un.L, List.getElem?_cons_succ, List.getElem?_append_left hj]; exact h
theorem mode_len {u : Un} (hu : u.ok) {m : Nat} (hm : m < 2) : ((u.pg.drop (8 * m)).take 8).length = 8 := by
  have : u.pg.length = 16 := hu
  rw [List.length_take, List.length_drop]; omega

theorem right_any_9 (u : Un) (hu : u.ok) (W0 : World) : Calls Tryz.prog 168 #[.agg u.L.toArray] W0 fun e w' => e = .returned (.bool u.right) ∧ Below W0.heap.size W0 w' := by
  have hX := One.put u W0
  have hl16 : u.pg.length = 16 := hu
  obtain ⟨Q, hQ⟩ : ∃ Q, Hid_9 (Q = u.right) := ⟨_, rfl⟩
  rw [← show Q = u.right from hQ]
  have h65 := Un.at65 hu
  have h66 := Un.at66 hu
  have hz8 := zero_mode
  have hzp := zero_pg
  have hlZ : Z8.length = 32 := by decide
  have hlP : Pg.z.L.length = 4 := rfl
  have hw1 := fun w => within_any_9 u.st 3 w
  have hw2 := fun w => within_any_9 u.ad 65535 w
  have hrp := fun g w => right_page g w
  have hldP := (hX.b.loadAtSub (P := Tryz.prog) (T := 30) (k := 1) (n := 64) (Un.modes hu) (by rw [flat_len, hl16]) agg_modes siz_modes)
  generalize Z8 = Z8 at *
  generalize Pg.z.L = ZP at *
  obtain ⟨M, hM⟩ : ∃ M, Hid_9 (u.pg.flatMap Pg.L = M) := ⟨_, rfl⟩
  rw [show u.pg.flatMap Pg.L = M from hM] at hldP
  go_enter Tryz.func168, Tryz.ntmps168
  go_wp2_with (first | (refine wpList_load_run rfl 30 _ _ (.agg M.toArray) rfl rfl hldP ?_))
  go_loopw [9] (fun i wr => ∃ m : Nat, m ≤ 2 ∧ i = .int .i64 m ∧ One W0.heap.size u W0 wr ∧ Hid_9 (Q = ((u.pg.drop (8 * m)).all Pg.good && u.tail)))
    (fun i _ => 2 - (intOf i).toNat)
  case atStart => exact ⟨0, by decide, rfl, hX, hQ⟩
  case round =>
    clear hX hQ hldP
    obtain ⟨m, hm, rfl, hX, hQ⟩ := hrel
    by_cases hm2 : m < 2
    · obtain ⟨N, hN⟩ : ∃ N, Hid_9 (((u.pg.drop (8 * m)).take 8).flatMap Pg.L = N) := ⟨_, rfl⟩
      have hNl : N.length = 32 := by rw [← show _ = N from hN, flat_len, mode_len hu hm2]
      have hN1 : ∀ v ∈ N, v.oneCell' = true := by rw [← show _ = N from hN]; exact flat_one_9 _
      have hidx := fun w => run_index_agg (P := Tryz.prog) (t := 30) (e := 29) (w := w) (n := 2) (c := 32) (cs := M) (ds := N) m Tryz.underlying30 hm2 agg_mode siz_mode (by
        rw [← show _ = M from hM, ← show _ = N from hN, show m * 32 = 4 * (8 * m) by omega, flat_drop_9, show 32 = 4 * 8 by rfl, flat_take_9])
      go_wp2_with (first | (refine wpList_index_run rfl 30 _ _ (.agg M.toArray) (.int .i64 m) (.agg N.toArray) rfl rfl rfl (hidx _) ?_) | (refine wpList_store_run rfl rfl 29 _ _ _ N rfl rfl rfl agg_mode (by rw [hNl]; exact siz_mode) (run_store_new _ Z8 N (by rw [hNl, hlZ]) hN1) ?_) | (refine wpList_load_run rfl 29 _ _ (.agg N.toArray) rfl rfl ((Blk.new 29 _ N).loadAt hNl agg_mode siz_mode) ?_))
      have hY := hX.step ((Below.refl wr.heap.size wr).alloc (Nat.le_refl _) (.cells N.toArray 29))
      clear hX
      generalize wr.alloc (.cells N.toArray 29) = wa at *
      go_loopw [13] (fun i wq => ∃ p : Nat, p ≤ 8 ∧ i = .int .i64 p ∧ One W0.heap.size u W0 wq ∧ Hid_9 (Q = ((u.pg.drop (8 * m + p)).all Pg.good && u.tail)))
        (fun i _ => 8 - (intOf i).toNat)
      case atStart => exact ⟨0, by decide, rfl, hY, hQ⟩
      case round =>
        clear hY hQ
        obtain ⟨p, hp, rfl, hX, hQ⟩ := hrel
        by_cases hp8 : p < 8
        · obtain ⟨g, hg⟩ : ∃ g, u.pg[8 * m + p]? = some g := ⟨_, List.getElem?_eq_getElem (by omega)⟩
          have hd := all_drop hg
          have hpx := fun w => run_index_agg (P := Tryz.prog) (t := 29) (e := 28) (w := w) (n := 8) (c := 4) (cs := N) (ds := g.L) p Tryz.underlying29 hp8 agg_pg siz_pg (by
            rw [← show _ = N from hN, show p * 4 = 4 * p by omega, flat_drop_9, show (4 : Nat) = 4 * 1 by rfl, flat_take_9]
            rw [List.drop_take, List.drop_drop, List.take_take, Nat.min_eq_left (by omega), List.drop_eq_getElem_cons (by omega), List.take_succ_cons, List.take_zero, (List.getElem?_eq_some_iff.1 hg).2]
            simp)
          have hgl : g.L.length = 4 := rfl
          have hg1 := page_one g
          have hY := hX.step ((Below.refl wr.heap.size wr).alloc (Nat.le_refl _) (.cells g.L.toArray 28))
          have hrg := fun w => hrp g w
          obtain ⟨G, hG⟩ : ∃ G, Hid_9 (g.L = G) := ⟨_, rfl⟩
          rw [show g.L = G from hG] at hpx hgl hg1 hY hrg
          replace hd := hid_9 hd
          replace hg := hid_9 hg
          have hgg : ∃ b, g.good = b := ⟨_, rfl⟩
          obtain ⟨bg, hgg⟩ := hgg
          rw [hgg] at hrg
          replace hgg := hid_9 hgg
          clear hX
          cases bg
          · have hQ : Hid_9 (Q = false) := by
              show _ = _
              rw [show Q = _ from hQ, show _ = _ from hd, show g.good = false from hgg]; rfl
            go_wp2_with (first | (go_at_call 175; with_reducible refine (hrg _).mono ?_; rintro e w' ⟨rfl, hb⟩; have hY := hY.step hb) | (refine wpList_index_run rfl 29 _ _ (.agg N.toArray) (.int .i64 p) (.agg G.toArray) rfl rfl rfl (hpx _) ?_) | (refine wpList_store_run rfl rfl 28 _ _ _ G rfl rfl rfl agg_pg (by rw [hgl]; exact siz_pg) (run_store_new _ ZP G (by rw [hgl, hlP]) hg1) ?_) | (refine wpList_load_run rfl 28 _ _ (.agg G.toArray) rfl rfl ((Blk.new 28 _ G).loadAt hgl agg_pg siz_pg) ?_))
            go_ret
            exact ⟨ret_bool_9 (by rw [show Q = false from hQ]), hY.below⟩
          · have hQ : Hid_9 (Q = ((u.pg.drop (8 * m + (p + 1))).all Pg.good && u.tail)) := by
              show _ = _
              rw [show Q = _ from hQ, show _ = _ from hd, show g.good = true from hgg, Bool.true_and]
              rfl
            go_wp2_with (first | (go_at_call 175; with_reducible refine (hrg _).mono ?_; rintro e w' ⟨rfl, hb⟩; have hY := hY.step hb) | (refine wpList_index_run rfl 29 _ _ (.agg N.toArray) (.int .i64 p) (.agg G.toArray) rfl rfl rfl (hpx _) ?_) | (refine wpList_store_run rfl rfl 28 _ _ _ G rfl rfl rfl agg_pg (by rw [hgl]; exact siz_pg) (run_store_new _ ZP G (by rw [hgl, hlP]) hg1) ?_) | (refine wpList_load_run rfl 28 _ _ (.agg G.toArray) rfl rfl ((Blk.new 28 _ G).loadAt hgl agg_pg siz_pg) ?_))
            go_round
            case rel => exact ⟨p + 1, by omega, by go_num, hY, hQ⟩
            case measure => simp [intOf]; omega
        · obtain rfl : p = 8 := by omega
          go_wp2
          go_round
          case rel => exact ⟨m + 1, by omega, by go_num, hX, hQ⟩
          case measure => simp [intOf]; omega
    · obtain rfl : m = 2 := by omega
      have hQ : Hid_9 (Q = (inB u.st 3 && inB u.ad 65535)) := by
        show _ = _
        rw [show Q = _ from hQ, List.drop_eq_nil_of_le (by omega), ← Un.tail_in]
        rfl
      have c65 := hX.b.cell h65
      have c66 := hX.b.cell h66
      have hB := hX.below
      generalize u.st = s at *
      generalize u.ad = d at *
      generalize inB s 3 = q1 at *
      generalize inB d 65535 = q2 at *
      cases q1
      · have hQ : Hid_9 (Q = false) := hQ
        go_wp2_with (first | (go_at_call 176; first | (with_reducible refine (hw1 _).mono ?_; rintro e w' ⟨rfl, rfl⟩) | (with_reducible refine (hw2 _).mono ?_; rintro e w' ⟨rfl, rfl⟩)))
        go_ret
        exact ⟨ret_bool_9 (by rw [show Q = false from hQ]), hB⟩
      · have hQ : Hid_9 (Q = q2) := hQ
        go_wp2_with (first | (go_at_call 176; first | (with_reducible refine (hw1 _).mono ?_; rintro e w' ⟨rfl, rfl⟩) | (with_reducible refine (hw2 _).mono ?_; rintro e w' ⟨rfl, rfl⟩)))
        go_ret
        exact ⟨ret_bool_9 (by rw [show Q = q2 from hQ]), hB⟩
end Go.Proofs.YthpnddgfgpacpaaGreat
/-
  Read of package mmu. Condition: the unit is valid.
-/
namespace Go.Proofs.YthpnddgfgpacpaaGreat
open Go.RowKit
set_option linter.unusedSimpArgs false
set_option linter.unusedVariables false
set_option maxHeartbeats 4000000
set_option maxRecDepth 100000
attribute [local irreducible] wpQuiet

theorem ofp_of {n : Int} (h : isReg n = true) : ofP n = true := by have := isReg_all h; unfold ofP; rw [decide_eq_true this.1, decide_eq_true this.2.1]; rfl
theorem notreg {n : Int} (h : isReg n = false) : (ofP n && decide ((n - 16) % 4 = 0)) = false ∧ (ofP n && decide ((n - 16) % 4 = 2)) = false := by
  unfold isReg at h
  unfold ofP
  simp only [Bool.and_eq_false_iff, decide_eq_false_iff_not] at h ⊢
  constructor <;> omega

theorem rd_stat (u : Un) (hu : u.ok) (n : Int) (hn : n = 0) (h0 : 0 ≤ u.st) (h1 : u.st ≤ 3) (W0 : World) : Calls Tryz.prog 166 #[.agg u.L.toArray, .int .i64 n] W0 fun e w' => e = .returned (.tuple #[.int .i64 (statV u), .bool true]) ∧ Below W0.heap.size W0 w' := by
  have hX := One.put u W0
  have hB := hX.below
  have hs := fun w => status_any u hu h0 h1 w
  have hld := hX.b.loadAt (P := Tryz.prog) (T := 32) (Un.len hu) agg_unit size_unit
  subst hn
  go_enter Tryz.func166, Tryz.ntmps166
  go_wp2_with (first | (go_at_call 170; with_reducible refine (hs _).mono ?_; rintro e w' ⟨rfl, hb⟩; have hX := hX.step hb) | (refine wpList_load_run rfl 32 _ _ (.agg u.L.toArray) rfl rfl hld ?_))
  go_ret2
  exact ⟨rfl, hX.below⟩
theorem rd_addr (u : Un) (hu : u.ok) (n : Int) (hn : n = 2) (W0 : World) : Calls Tryz.prog 166 #[.agg u.L.toArray, .int .i64 n] W0 fun e w' => e = .returned (.tuple #[.int .i64 u.ad, .bool true]) ∧ Below W0.heap.size W0 w' := by
  have hX := One.put u W0
  have hB := hX.below
  have c66 := hX.b.cell (Un.at66 hu)
  subst hn
  go_enter Tryz.func166, Tryz.ntmps166
  go_wp2
  go_ret2
  exact ⟨rfl, hB⟩
theorem rd_none (u : Un) (hu : u.ok) (n : Int) (hn : isReg n = false) (hn0 : n ≠ 0) (hn2 : n ≠ 2) (W0 : World) : Calls Tryz.prog 166 #[.agg u.L.toArray, .int .i64 n] W0 fun e w' => e = .returned (.tuple #[.int .i64 0, .bool false]) ∧ Below W0.heap.size W0 w' := by
  have hX := One.put u W0
  have hB := hX.below
  have h1 := fun w => isbase_any n w
  have h2 := fun w => isdesc_any n w
  rw [(notreg hn).1] at h1
  rw [(notreg hn).2] at h2
  clear hn
  go_enter Tryz.func166, Tryz.ntmps166
  go_wp2_with (first | (go_at_call 171; with_reducible refine (h1 _).mono ?_; rintro e w' ⟨rfl, hw⟩; subst hw) | (go_at_call 173; with_reducible refine (h2 _).mono ?_; rintro e w' ⟨rfl, hw⟩; subst hw))
  go_ret2
  exact ⟨rfl, hB⟩
theorem rd_base (u : Un) (hu : u.ok) (n : Int) (hn : isReg n = true) (m p : Nat) (hm : m < 2) (hp : p < 8) (hnm : (n - 16) / 32 = (m : Int)) (hnp : (n - 16) % 32 / 4 = (p : Int)) (g : Pg) (hg : u.pg[8 * m + p]? = some g) (hd : ¬ (n - 16) % 4 = 2) (W0 : World) : Calls Tryz.prog 166 #[.agg u.L.toArray, .int .i64 n] W0 fun e w' => e = .returned (.tuple #[.int .i64 g.b, .bool true]) ∧ Below W0.heap.size W0 w' := by
  have hX := One.put u W0
  have hB := hX.below
  have hr := isReg_all hn
  have h1 := fun w => isbase_any n w
  rw [ofp_of hn, decide_eq_true (show (n - 16) % 4 = 0 by omega)] at h1
  have h3 := fun w => pageat_any W0.heap.size n hr.1 hr.2.1 m p hm hp (by omega) (by omega) w
  have hn0 : ¬ n = 0 := by omega
  have hn2 : ¬ n = 2 := by omega
  have ⟨k0, _, _, _⟩ := hX.page hg
  clear hd hn hnm hnp hr hX
  obtain ⟨gb, gl, ga, gr⟩ := g
  simp only at *
  go_enter Tryz.func166, Tryz.ntmps166
  go_wp2_with (first | (go_at_call 171; with_reducible refine (h1 _).mono ?_; rintro e w' ⟨rfl, hw⟩; subst hw) | (go_at_call 172; with_reducible refine (h3 _).mono ?_; rintro e w' ⟨rfl, hw⟩; subst hw))
  go_ret2
  exact ⟨rfl, hB⟩
theorem rd_desc (u : Un) (hu : u.ok) (n : Int) (hn : isReg n = true) (m p : Nat) (hm : m < 2) (hp : p < 8) (hnm : (n - 16) / 32 = (m : Int)) (hnp : (n - 16) % 32 / 4 = (p : Int)) (g : Pg) (hg : u.pg[8 * m + p]? = some g) (hd : (n - 16) % 4 = 2) (hgd : g.good = true) (W0 : World) : Calls Tryz.prog 166 #[.agg u.L.toArray, .int .i64 n] W0 fun e w' => e = .returned (.tuple #[.int .i64 (descV g), .bool true]) ∧ Below W0.heap.size W0 w' := by
  have hX := One.put u W0
  have hB := hX.below
  have hr := isReg_all hn
  have h1 := fun w => isbase_any n w
  have h2 := fun w => isdesc_any n w
  rw [ofp_of hn, decide_eq_false (show ¬ (n - 16) % 4 = 0 by omega)] at h1
  rw [ofp_of hn, decide_eq_true hd] at h2
  have h3 := fun w => pageat_any W0.heap.size n hr.1 hr.2.1 m p hm hp (by omega) (by omega) w
  have hn0 : ¬ n = 0 := by omega
  have hn2 : ¬ n = 2 := by omega
  obtain ⟨k0, k1, k2, k3⟩ := hX.page hg
  have hc := fun w => desc_any g hgd w
  generalize descV g = R at *
  clear hd hn hnm hnp hr hgd
  obtain ⟨gb, gl, ga, gr⟩ := g
  simp only at *
  have hc : ∀ w, Calls Tryz.prog 174 #[.agg #[.int .i64 gb, .int .i64 gl, .int .i64 ga, .bool gr]] w fun e w' => e = .returned (.int .i64 R) ∧ Below w.heap.size w w' := hc
  go_enter Tryz.func166, Tryz.ntmps166
  go_wp2_with (first | (go_at_call 171; with_reducible refine (h1 _).mono ?_; rintro e w' ⟨rfl, hw⟩; subst hw) | (go_at_call 173; with_reducible refine (h2 _).mono ?_; rintro e w' ⟨rfl, hw⟩; subst hw) | (go_at_call 172; with_reducible refine (h3 _).mono ?_; rintro e w' ⟨rfl, hw⟩; subst hw) | (go_at_call 174; with_reducible refine (hc _).mono ?_; rintro e w' ⟨rfl, hb⟩; have hX := hX.step hb))
  go_ret2
  exact ⟨rfl, hX.below⟩
theorem read_any_9 (u : Un) (hu : u.ok) (hr : u.right = true) (n : Int) (W0 : World) : Calls Tryz.prog 166 #[.agg u.L.toArray, .int .i64 n] W0 fun e w' => e = .returned (.tuple #[.int .i64 (u.read n).1, .bool (u.read n).2]) ∧ Below W0.heap.size W0 w' := by
  have ht := Un.right_tail hr
  by_cases h0 : n = 0
  · rw [show u.read n = _ from by unfold Un.read; rw [if_pos h0]]
    exact rd_stat u hu n h0 ht.1 ht.2.1 W0
  by_cases h2 : n = 2
  · rw [show u.read n = _ from by unfold Un.read; rw [if_neg h0, if_pos h2]]
    exact rd_addr u hu n h2 W0
  by_cases hn : isReg n = true
  · have hk := regK_lt hn
    have hg := Un.pgAt_some hu hk
    have hgd := Un.right_at hr hu hk
    have hi := isReg_all hn
    by_cases hd : (n - 16) % 4 = 2
    · rw [show u.read n = _ from by unfold Un.read; rw [if_neg h0, if_neg h2, if_pos hn, if_pos hd]]
      exact rd_desc u hu n hn ((n - 16) / 32).toNat ((n - 16) % 32 / 4).toNat (by omega) (by omega) (by omega) (by omega) _ hg hd hgd W0
    · rw [show u.read n = _ from by unfold Un.read; rw [if_neg h0, if_neg h2, if_pos hn, if_neg hd]]
      exact rd_base u hu n hn ((n - 16) / 32).toNat ((n - 16) % 32 / 4).toNat (by omega) (by omega) (by omega) (by omega) _ hg hd W0
  · rw [show u.read n = _ from by unfold Un.read; rw [if_neg h0, if_neg h2, if_neg hn]]
    exact rd_none u hu n (by simpa using hn) h0 h2 W0
end Go.Proofs.YthpnddgfgpacpaaGreat
