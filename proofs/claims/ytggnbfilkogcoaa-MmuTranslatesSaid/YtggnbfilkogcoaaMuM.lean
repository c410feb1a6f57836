/-
  Translate of package mmu. No condition but that the pages are sixteen.
-/
import Derived.Test.YtggnbfilkogcoaaMuL
namespace Go.Proofs.Ytggnbfilkogcoaa
open Go.RowKit
set_option linter.unusedSimpArgs false
set_option linter.unusedVariables false
set_option maxHeartbeats 4000000
set_option maxRecDepth 100000
attribute [local irreducible] wpQuiet

theorem tr_off (u : Un) (hu : u.ok) (hon : u.on = false) (mode addr a : Int) (haa : addr % 65536 = a) (ha0 : 0 ≤ a) (ha1 : a ≤ 65535) (wr : Bool) (W0 : World) : Calls Try.prog 13 #[.agg u.L.toArray, .int .i64 mode, .int .i64 addr, .bool wr] W0 fun e w' => e = .returned (.tuple #[.int .i64 (if a < 57344 then a else a + 196608), .agg u.L.toArray, .int .i64 0]) ∧ Below W0.heap.size W0 w' := by
  have hun := fun w => unm_any a ha0 ha1 w
  generalize (if a < 57344 then a else a + 196608) = R at *
  have hz := zero_unit
  have hX := Two.put u W0
  have h0 := Un.at0 u
  rw [hon] at h0
  have hln := Un.len hu
  have hzl := Un.zlen
  have hzo := Un.z_ok
  have A0 := a65535 addr
  rw [haa] at A0
  generalize Un.z = Z at *
  have c0 := hX.b.cell h0
  go_enter Try.func13, Try.ntmps13
  go_wp2
  clear c0
  refine region_class_tail (fun w' => Two W0.heap.size (W0.heap.size + 1) u Z W0 w') 4 (by kernel_rfl) (by kernel_rfl) hX.drew ?_
  clear hX
  repeat
    first
      | (refine BigFrame.wpQuiet_skip (by rfl) ?_
         simp only [Act.put, List.setIfInBounds_toArray, List.set_cons_zero, List.set_cons_succ])
      | (refine BigFrame.wpQuiet_want (by rfl) (fun K hK => ?_)
         apply Exists.intro
         refine ⟨fun wq hq => ?_, hK _ ?_⟩
         · first
             | (refine quiet_load 27 (.tmp 4) (.pointer (some ⟨W0.heap.size, 0, none⟩)) _ rfl rfl (hq.b.loadAt hln agg_unit size_unit))
             | (unfold Oper.quietAt
                go_simp
                first
                  | with_reducible rfl
                  | ((go_at_call 24); with_reducible refine (hun _).mono ?_; exact fun e w' ⟨he, hw⟩ => ⟨he, hw ▸ hq⟩))
         clear hK K
         simp only [Act.put, List.setIfInBounds_toArray, List.set_cons_zero, List.set_cons_succ])
  refine wpQuiet_nil ?_
  intro w4 hX
  obtain ⟨hld, W, hst, hX2, hlv⟩ := hX.out hu hzo (by omega) (by omega)
  go_wp2
  exact bodyPost_ret (results_tct Try.results13 rfl hlv) rfl ⟨rfl, hX2.below⟩

theorem tr_rd (u : Un) (hu : u.ok) (hon : u.on = true) (mode addr : Int) (m p : Nat) (a o : Int) (hm : m < 2) (hp : p < 8) (hmm : mode % 2 = (m : Int)) (haa : addr % 65536 = a) (ha0 : 0 ≤ a) (ha1 : a ≤ 65535) (hap : a / 8192 = (p : Int)) (hao : a % 8192 = o) (g : Pg) (hg : u.pg[8 * m + p]? = some g) (hb0 : 0 ≤ g.b) (hb1 : g.b ≤ 4095) (hf : fltP g o false = 0) (W0 : World) : Calls Try.prog 13 #[.agg u.L.toArray, .int .i64 mode, .int .i64 addr, .bool false] W0 fun e w' => e = .returned (.tuple #[.int .i64 ((64 * g.b + o) % 262144), .agg u.L.toArray, .int .i64 0]) ∧ Below W0.heap.size W0 w' := by
  have o0 : 0 ≤ o := by omega
  have o1 : o ≤ 8191 := by omega
  have hflt := fun w => fault_any g o o0 o1 false w
  have A1 := a1 mode
  rw [hmm] at A1
  rw [hf] at hflt
  have hz := zero_unit
  have hX := Two.put u W0
  have h0 := Un.at0 u
  rw [hon] at h0
  have hln := Un.len hu
  have hzl := Un.zlen
  have hzo := Un.z_ok
  have A0 := a65535 addr
  rw [haa] at A0
  have hpg := fun w (h : Two W0.heap.size (W0.heap.size + 1) u Un.z W0 w) => h.page hg
  obtain ⟨gb, gl, ga, gr⟩ := g
  simp only at *
  have m0 : (0 : Int) ≤ (m : Int) := by omega
  have m1 : (m : Int) < 2 := by omega
  have p0 : (0 : Int) ≤ (p : Int) := by omega
  have p1 : (p : Int) < 8 := by omega
  have V1 : IntKind.i64.wrap (64 * gb) = 64 * gb := by rw [wrap_i64]; exact IntWalk.wrap64_in _ ⟨by omega, by omega⟩
  have V2 : IntKind.i64.wrap (64 * gb + o) = 64 * gb + o := by rw [wrap_i64]; exact IntWalk.wrap64_in _ ⟨by omega, by omega⟩
  have A2 := a262143 (64 * gb + o)
  generalize Un.z = Z at *
  have c0 := hX.b.cell h0
  obtain ⟨k0, k1, k2, k3⟩ := hpg _ hX
  clear hf hg
  go_enter Try.func13, Try.ntmps13
  go_wp2_with (first | (go_at_call 25; with_reducible refine (hflt _).mono ?_; rintro e w' ⟨rfl, hb⟩; have hX := hX.step hb; clear hb k0 k1 k2 k3 c0))
  refine region_class_tail (fun w' => Two W0.heap.size (W0.heap.size + 1) u Z W0 w') 10 (by kernel_rfl) (by kernel_rfl) hX.drew ?_
  clear hX
  repeat
    first
      | (refine BigFrame.wpQuiet_skip (by rfl) ?_
         simp only [Act.put, List.setIfInBounds_toArray, List.set_cons_zero, List.set_cons_succ])
      | (refine BigFrame.wpQuiet_want (by rfl) (fun K hK => ?_)
         apply Exists.intro
         refine ⟨fun wq hq => ?_, hK _ ?_⟩
         · first
             | (refine quiet_load 27 (.tmp 4) (.pointer (some ⟨W0.heap.size, 0, none⟩)) _ rfl rfl (hq.b.loadAt hln agg_unit size_unit))
             | (obtain ⟨k0, k1, k2, k3⟩ := hpg _ hq; unfold Oper.quietAt
                go_simp
                first
                  | with_reducible rfl)
         clear hK K
         simp only [Act.put, List.setIfInBounds_toArray, List.set_cons_zero, List.set_cons_succ])
  refine wpQuiet_nil ?_
  intro w4 hX
  obtain ⟨hld, W, hst, hX2, hlv⟩ := hX.out hu hzo (by omega) (by omega)
  go_wp2
  exact bodyPost_ret (results_tct Try.results13 rfl hlv) rfl ⟨rfl, hX2.below⟩

theorem tr_wr (u : Un) (hu : u.ok) (hon : u.on = true) (mode addr : Int) (m p : Nat) (a o : Int) (hm : m < 2) (hp : p < 8) (hmm : mode % 2 = (m : Int)) (haa : addr % 65536 = a) (ha0 : 0 ≤ a) (ha1 : a ≤ 65535) (hap : a / 8192 = (p : Int)) (hao : a % 8192 = o) (g : Pg) (hg : u.pg[8 * m + p]? = some g) (hb0 : 0 ≤ g.b) (hb1 : g.b ≤ 4095) (hf : fltP g o true = 0) (W0 : World) : Calls Try.prog 13 #[.agg u.L.toArray, .int .i64 mode, .int .i64 addr, .bool true] W0 fun e w' => e = .returned (.tuple #[.int .i64 ((64 * g.b + o) % 262144), .agg (u.withP (8 * m + p) { g with r := true }).L.toArray, .int .i64 0]) ∧ Below W0.heap.size W0 w' := by
  have o0 : 0 ≤ o := by omega
  have o1 : o ≤ 8191 := by omega
  have hflt := fun w => fault_any g o o0 o1 true w
  have A1 := a1 mode
  rw [hmm] at A1
  rw [hf] at hflt
  have hz := zero_unit
  have hX := Two.put u W0
  have h0 := Un.at0 u
  rw [hon] at h0
  have hln := Un.len hu
  have hzl := Un.zlen
  have hzo := Un.z_ok
  have A0 := a65535 addr
  rw [haa] at A0
  have hpg := fun w (h : Two W0.heap.size (W0.heap.size + 1) u Un.z W0 w) => h.page hg
  have hu2 := Un.withP_ok hu (8 * m + p) { g with r := true }
  have hg2 := Un.withP_at (g' := { g with r := true }) hg
  have hln2 := Un.len hu2
  have hpg2 := fun w (h : Two W0.heap.size (W0.heap.size + 1) (u.withP (8 * m + p) { g with r := true }) Un.z W0 w) => h.page hg2
  have hst2 := fun w (h : Two W0.heap.size (W0.heap.size + 1) u Un.z W0 w) => h.putW hg (by omega) (Nat.le_refl _) true
  generalize u.withP (8 * m + p) { g with r := true } = u2 at *
  obtain ⟨gb, gl, ga, gr⟩ := g
  simp only at *
  have m0 : (0 : Int) ≤ (m : Int) := by omega
  have m1 : (m : Int) < 2 := by omega
  have p0 : (0 : Int) ≤ (p : Int) := by omega
  have p1 : (p : Int) < 8 := by omega
  have V1 : IntKind.i64.wrap (64 * gb) = 64 * gb := by rw [wrap_i64]; exact IntWalk.wrap64_in _ ⟨by omega, by omega⟩
  have V2 : IntKind.i64.wrap (64 * gb + o) = 64 * gb + o := by rw [wrap_i64]; exact IntWalk.wrap64_in _ ⟨by omega, by omega⟩
  have A2 := a262143 (64 * gb + o)
  generalize Un.z = Z at *
  have c0 := hX.b.cell h0
  obtain ⟨k0, k1, k2, k3⟩ := hpg _ hX
  clear hf hg
  go_enter Try.func13, Try.ntmps13
  go_wp2_with (first | (go_at_call 25; with_reducible refine (hflt _).mono ?_; rintro e w' ⟨rfl, hb⟩; have hX := hX.step hb; clear hb k0 k1 k2 k3 c0; have fz := Two.fz hX (1 + m * 32 + p * 4 + 3); obtain ⟨k0, k1, k2, k3⟩ := hpg _ hX; have hX := hst2 _ hX))
  clear k0 k1 k2 k3 fz
  refine region_class_tail (fun w' => Two W0.heap.size (W0.heap.size + 1) u2 Z W0 w') 10 (by kernel_rfl) (by kernel_rfl) hX.drew ?_
  clear hX
  repeat
    first
      | (refine BigFrame.wpQuiet_skip (by rfl) ?_
         simp only [Act.put, List.setIfInBounds_toArray, List.set_cons_zero, List.set_cons_succ])
      | (refine BigFrame.wpQuiet_want (by rfl) (fun K hK => ?_)
         apply Exists.intro
         refine ⟨fun wq hq => ?_, hK _ ?_⟩
         · first
             | (refine quiet_load 27 (.tmp 4) (.pointer (some ⟨W0.heap.size, 0, none⟩)) _ rfl rfl (hq.b.loadAt hln2 agg_unit size_unit))
             | (obtain ⟨k0, k1, k2, k3⟩ := hpg2 _ hq; unfold Oper.quietAt
                go_simp
                first
                  | with_reducible rfl)
         clear hK K
         simp only [Act.put, List.setIfInBounds_toArray, List.set_cons_zero, List.set_cons_succ])
  refine wpQuiet_nil ?_
  intro w4 hX
  obtain ⟨hld, W, hst, hX2, hlv⟩ := hX.out hu2 hzo (by omega) (by omega)
  go_wp2
  exact bodyPost_ret (results_tct Try.results13 rfl hlv) rfl ⟨rfl, hX2.below⟩

theorem tr_flt (u : Un) (hu : u.ok) (hon : u.on = true) (mode addr : Int) (m p : Nat) (a o : Int) (hm : m < 2) (hp : p < 8) (hmm : mode % 2 = (m : Int)) (haa : addr % 65536 = a) (ha0 : 0 ≤ a) (ha1 : a ≤ 65535) (hap : a / 8192 = (p : Int)) (hao : a % 8192 = o) (g : Pg) (hg : u.pg[8 * m + p]? = some g) (wr : Bool) (f : Int) (hf : fltP g o wr = f) (hf0 : (f != 0) = true) (W0 : World) : Calls Try.prog 13 #[.agg u.L.toArray, .int .i64 mode, .int .i64 addr, .bool wr] W0 fun e w' => e = .returned (.tuple #[.int .i64 0, .agg ({ u with st := f, ad := a } : Un).L.toArray, .int .i64 8]) ∧ Below W0.heap.size W0 w' := by
  have o0 : 0 ≤ o := by omega
  have o1 : o ≤ 8191 := by omega
  have hflt := fun w => fault_any g o o0 o1 wr w
  have A1 := a1 mode
  rw [hmm] at A1
  rw [hf] at hflt
  have hz := zero_unit
  have hX := Two.put u W0
  have h0 := Un.at0 u
  rw [hon] at h0
  have hln := Un.len hu
  have hzl := Un.zlen
  have hzo := Un.z_ok
  have A0 := a65535 addr
  rw [haa] at A0
  have hpg := fun w (h : Two W0.heap.size (W0.heap.size + 1) u Un.z W0 w) => h.page hg
  have hu2 : ({ u with st := f } : Un).ok := hu
  have hu3 : ({ u with st := f, ad := a } : Un).ok := hu
  have hln3 := Un.len hu3
  have hs1 := fun w (h : Two W0.heap.size (W0.heap.size + 1) u Un.z W0 w) => h.put65 hu (by omega) (Nat.le_refl _) f
  have hs2 := fun w (h : Two W0.heap.size (W0.heap.size + 1) { u with st := f } Un.z W0 w) => h.put66 hu2 (by omega) (Nat.le_refl _) a
  simp only at hs2
  generalize ({ u with st := f, ad := a } : Un) = u3 at *
  generalize ({ u with st := f } : Un) = u2 at *
  obtain ⟨gb, gl, ga, gr⟩ := g
  simp only at *
  have m0 : (0 : Int) ≤ (m : Int) := by omega
  have m1 : (m : Int) < 2 := by omega
  have p0 : (0 : Int) ≤ (p : Int) := by omega
  have p1 : (p : Int) < 8 := by omega
  generalize Un.z = Z at *
  have c0 := hX.b.cell h0
  obtain ⟨k0, k1, k2, k3⟩ := hpg _ hX
  clear hf hg
  go_enter Try.func13, Try.ntmps13
  go_wp2_with (first | (go_at_call 25; with_reducible refine (hflt _).mono ?_; rintro e w' ⟨rfl, hb⟩; have hX := hX.step hb; clear hb k0 k1 k2 k3 c0; have f65 := Two.fz hX 65; have c65 := Two.c65 hX hu; have hX := hs1 _ hX; have f66 := Two.fz hX 66; have c66 := Two.c66 hX hu2; have hX := hs2 _ hX))
  clear f65 c65 f66 c66
  refine region_class_tail (fun w' => Two W0.heap.size (W0.heap.size + 1) u3 Z W0 w') 2 (by kernel_rfl) (by kernel_rfl) hX.drew ?_
  clear hX
  repeat
    first
      | (refine BigFrame.wpQuiet_skip (by rfl) ?_
         simp only [Act.put, List.setIfInBounds_toArray, List.set_cons_zero, List.set_cons_succ])
      | (refine BigFrame.wpQuiet_want (by rfl) (fun K hK => ?_)
         apply Exists.intro
         refine ⟨fun wq hq => ?_, hK _ ?_⟩
         · first
             | (refine quiet_load 27 (.tmp 4) (.pointer (some ⟨W0.heap.size, 0, none⟩)) _ rfl rfl (hq.b.loadAt hln3 agg_unit size_unit))
             | (unfold Oper.quietAt
                go_simp
                first
                  | with_reducible rfl)
         clear hK K
         simp only [Act.put, List.setIfInBounds_toArray, List.set_cons_zero, List.set_cons_succ])
  refine wpQuiet_nil ?_
  intro w4 hX
  obtain ⟨hld, W, hst, hX2, hlv⟩ := hX.out hu3 hzo (by omega) (by omega)
  go_wp2
  exact bodyPost_ret (results_tct Try.results13 rfl hlv) rfl ⟨rfl, hX2.below⟩

theorem trans_any (u : Un) (hu : u.ok) (hr : u.right = true) (mode addr : Int) (wr : Bool) (W0 : World) : Calls Try.prog 13 #[.agg u.L.toArray, .int .i64 mode, .int .i64 addr, .bool wr] W0 fun e w' => e = .returned (.tuple #[.int .i64 (u.trans mode addr wr).1, .agg (u.trans mode addr wr).2.1.L.toArray, .int .i64 (u.trans mode addr wr).2.2]) ∧ Below W0.heap.size W0 w' := by
  have hk := Un.kAt_lt mode addr
  have hg := Un.pgAt_some hu hk
  have hgd := Pg.good_all (Un.right_at hr hu hk)
  by_cases hon : u.on = true
  · by_cases hf : fltP (u.pgAt (Un.kAt mode addr)) (addr % 65536 % 8192) wr = 0
    · cases wr with
      | true =>
        rw [show u.trans mode addr true = _ from by unfold Un.trans; rw [if_pos hon, if_pos hf, if_pos rfl]]
        exact tr_wr u hu hon mode addr (mode % 2).toNat (addr % 65536 / 8192).toNat (addr % 65536) (addr % 65536 % 8192) (by omega) (by omega) (by omega) rfl (by omega) (by omega) (by omega) rfl _ hg hgd.1 hgd.2.1 hf W0
      | false =>
        rw [show u.trans mode addr false = _ from by unfold Un.trans; rw [if_pos hon, if_pos hf, if_neg (by decide)]]
        exact tr_rd u hu hon mode addr (mode % 2).toNat (addr % 65536 / 8192).toNat (addr % 65536) (addr % 65536 % 8192) (by omega) (by omega) (by omega) rfl (by omega) (by omega) (by omega) rfl _ hg hgd.1 hgd.2.1 hf W0
    · rw [show u.trans mode addr wr = _ from by unfold Un.trans; rw [if_pos hon, if_neg hf]]
      exact tr_flt u hu hon mode addr (mode % 2).toNat (addr % 65536 / 8192).toNat (addr % 65536) (addr % 65536 % 8192) (by omega) (by omega) (by omega) rfl (by omega) (by omega) (by omega) rfl _ hg wr _ rfl (by simpa using hf) W0
  · have hoff : u.on = false := by simpa using hon
    have h := tr_off u hu hoff mode addr _ rfl (by omega) (by omega) wr W0
    by_cases ha : addr % 65536 < 57344
    · rw [if_pos ha] at h
      rw [show u.trans mode addr wr = _ from by unfold Un.trans; rw [if_neg hon, if_pos ha]]
      exact h
    · rw [if_neg ha] at h
      rw [show u.trans mode addr wr = _ from by unfold Un.trans; rw [if_neg hon, if_neg ha]]
      exact h
end Go.Proofs.Ytggnbfilkogcoaa
