/-
  Translate of the reference of package mmu. No condition but that the pages are sixteen.
-/
import Derived.Test.YtggnbfilkogcoaaMuB
import Derived.Test.YtggnbfilkogcoaaTail
namespace Go.Proofs.Ytggnbfilkogcoaa
open Go.RowKit
set_option linter.unusedSimpArgs false
set_option linter.unusedVariables false
set_option maxHeartbeats 1000000
set_option maxRecDepth 100000
attribute [local irreducible] wpQuiet

theorem zero_unit (w : World) : (zeroValue 27).run Try.prog w = .ok (.agg Un.z.L.toArray) w := by kernel_rfl
theorem agg_unit (w : World) : (isAgg 27).run Try.prog w = .ok true w := by kernel_rfl
theorem size_unit (w : World) : (sizeOf 27).run Try.prog w = .ok 67 w := by kernel_rfl
/-- Two boxes: a unit that came in, a unit that goes out. -/
structure Two (B C : Nat) (u v : Un) (w0 w : World) : Prop where
  b : Blk 27 w B u.L
  c : Blk 27 w C v.L
  below : Below w0.heap.size w0 w
theorem Two.put (u : Un) (w : World) : Two w.heap.size (w.heap.size + 1) u Un.z w ((w.alloc (.cells u.L.toArray 27)).alloc (.cells Un.z.L.toArray 27)) := by
  have e : (w.alloc (.cells u.L.toArray 27)).heap.size = w.heap.size + 1 := by simp
  have h := Blk.new 27 (w.alloc (.cells u.L.toArray 27)) Un.z.L
  rw [e] at h
  exact ⟨(Blk.new _ w u.L).alloc _, h, ((Below.refl _ _).alloc (Nat.le_refl _) _).alloc (by simp) _⟩
theorem Two.step {B C : Nat} {u v : Un} {w0 w w' : World} (h : Two B C u v w0 w) (hb : Below w.heap.size w w') : Two B C u v w0 w' := ⟨h.b.step hb, h.c.step hb, h.below.trans (hb.mono h.below.size)⟩
theorem Two.drew {B C : Nat} {u v : Un} {w0 w : World} (h : Two B C u v w0 w) : Two B C u v w0 w.drew := ⟨h.b, h.c, h.below.drew⟩
theorem Two.out {B C : Nat} {u v : Un} {w0 w : World} (h : Two B C u v w0 w) (hu : u.ok) (hv : v.ok) (hn : B ≠ C) (hC : w0.heap.size ≤ C) :
    (loadCells ⟨B, 0, none⟩ 67).run Try.prog w = .ok u.L.toArray w ∧ ∃ W, (storeCells ⟨C, 0, none⟩ u.L).run Try.prog w = .ok () W ∧ Two B C u u w0 W ∧ (loadVar 27 ⟨C, 0, none⟩).run Try.prog W = .ok (.agg u.L.toArray) W := by
  refine ⟨h.b.load (Un.len hu), ?_⟩
  obtain ⟨W, h1, h2, h3, _, h5⟩ := h.c.store (P := Try.prog) (cs' := u.L) (by rw [Un.len hu, Un.len hv]) (Un.one u)
  exact ⟨W, h1, ⟨h5 _ _ _ hn h.b, h2, h3 _ _ hC h.below⟩, h2.loadVar (Un.len hu) agg_unit size_unit⟩
theorem Un.z_ok : Un.z.ok := rfl
theorem Un.zlen : Un.z.L.length = 67 := rfl

theorem Un.cells {u : Un} {m p : Nat} {g : Pg} (hg : u.pg[8 * m + p]? = some g) :
    u.L[1 + m * 32 + p * 4]? = some (.int .i64 g.b) ∧ u.L[1 + m * 32 + p * 4 + 1]? = some (.int .i64 g.l) ∧ u.L[1 + m * 32 + p * 4 + 2]? = some (.int .i64 g.a) ∧ u.L[1 + m * 32 + p * 4 + 3]? = some (.bool g.r) := by
  have e : ∀ j, 1 + m * 32 + p * 4 + j = 1 + (4 * (8 * m + p) + j) := fun j => by omega
  refine ⟨?_, ?_, ?_, ?_⟩
  · have := Un.page hg 0 (by decide); rw [← e] at this; exact this
  · have := Un.page hg 1 (by decide); rw [← e] at this; exact this
  · have := Un.page hg 2 (by decide); rw [← e] at this; exact this
  · have := Un.page hg 3 (by decide); rw [← e] at this; exact this
theorem Two.page {B C m p : Nat} {u v : Un} {w0 w : World} {g : Pg} (h : Two B C u v w0 w) (hg : u.pg[8 * m + p]? = some g) :
    w.cell? ⟨B, 1 + m * 32 + p * 4, none⟩ = some (.int .i64 g.b) ∧ w.cell? ⟨B, 1 + m * 32 + p * 4 + 1, none⟩ = some (.int .i64 g.l) ∧ w.cell? ⟨B, 1 + m * 32 + p * 4 + 2, none⟩ = some (.int .i64 g.a) ∧ w.cell? ⟨B, 1 + m * 32 + p * 4 + 3, none⟩ = some (.bool g.r) := by
  obtain ⟨q0, q1, q2, q3⟩ := Un.cells hg
  exact ⟨h.b.cell q0, h.b.cell q1, h.b.cell q2, h.b.cell q3⟩
theorem Two.put65 {B C : Nat} {u v : Un} {w0 w : World} (h : Two B C u v w0 w) (hu : u.ok) (hn : C ≠ B) (hB : w0.heap.size ≤ B) (x : Int) : Two B C { u with st := x } v w0 (w.setCell ⟨B, 65, none⟩ (.int .i64 x)) :=
  ⟨by rw [← Un.set65 hu x]; exact h.b.set 65 _, h.c.other hn _, h.below.setCell hB _⟩
theorem Two.put66 {B C : Nat} {u v : Un} {w0 w : World} (h : Two B C u v w0 w) (hu : u.ok) (hn : C ≠ B) (hB : w0.heap.size ≤ B) (x : Int) : Two B C { u with ad := x } v w0 (w.setCell ⟨B, 66, none⟩ (.int .i64 x)) :=
  ⟨by rw [← Un.set66 hu x]; exact h.b.set 66 _, h.c.other hn _, h.below.setCell hB _⟩
/-- The unit in which a page is another one. -/
def Un.withP (u : Un) (k : Nat) (g : Pg) : Un := { u with pg := u.pg.set k g }
theorem Un.withP_ok {u : Un} (h : u.ok) (k : Nat) (g : Pg) : (u.withP k g).ok := by unfold Un.ok Un.withP at *; simpa using h
theorem Un.withP_at {u : Un} {k : Nat} {g g' : Pg} (hg : u.pg[k]? = some g) : (u.withP k g').pg[k]? = some g' := by
  have hk := (List.getElem?_eq_some_iff.1 hg).1
  simp [Un.withP, hk]
theorem Two.putW {B C m p : Nat} {u v : Un} {w0 w : World} {g : Pg} (h : Two B C u v w0 w) (hg : u.pg[8 * m + p]? = some g) (hn : C ≠ B) (hB : w0.heap.size ≤ B) (r : Bool) : Two B C (u.withP (8 * m + p) { g with r := r }) v w0 (w.setCell ⟨B, 1 + m * 32 + p * 4 + 3, none⟩ (.bool r)) := by
  have e : 1 + m * 32 + p * 4 + 3 = 1 + (4 * (8 * m + p) + 3) := by omega
  have k := Un.setp (u := u) (p' := { g with r := r }) hg 3 (by decide) (.bool r) rfl
  refine ⟨?_, h.c.other hn _, h.below.setCell hB _⟩
  rw [e]
  have k2 := h.b.set (1 + (4 * (8 * m + p) + 3)) (.bool r)
  rw [k] at k2
  exact k2
theorem Two.c65 {B C : Nat} {u v : Un} {w0 w : World} (h : Two B C u v w0 w) (hu : u.ok) : w.cell? ⟨B, 65, none⟩ = some (.int .i64 u.st) := h.b.cell (Un.at65 hu)
theorem Two.c66 {B C : Nat} {u v : Un} {w0 w : World} (h : Two B C u v w0 w) (hu : u.ok) : w.cell? ⟨B, 66, none⟩ = some (.int .i64 u.ad) := h.b.cell (Un.at66 hu)
theorem Two.fz {B C : Nat} {u v : Un} {w0 w : World} (h : Two B C u v w0 w) (k : Nat) : w.frozen? ⟨B, k, none⟩ = false := h.b.frozen k

theorem rtr_off (u : Un) (hu : u.ok) (hon : u.on = false) (mode addr a : Int) (haa : addr % 65536 = a) (ha0 : 0 ≤ a) (ha1 : a ≤ 65535) (h : a < 57344) (wr : Bool) (W0 : World) : Calls Try.prog 14 #[.agg u.L.toArray, .int .i64 mode, .int .i64 addr, .bool wr] W0 fun e w' => e = .returned (.tuple #[.int .i64 a, .agg u.L.toArray, .int .i64 0]) ∧ Below W0.heap.size W0 w' := by
  have hwd := fun w => rword_any addr w
  rw [haa] at hwd
  have hz := zero_unit
  have hX := Two.put u W0
  have h0 := Un.at0 u
  rw [hon] at h0
  have hln := Un.len hu
  have hzl := Un.zlen
  have hzo := Un.z_ok
  have V1 : IntKind.i64.wrap (a + 196608) = a + 196608 := by rw [wrap_i64]; exact IntWalk.wrap64_in _ ⟨by omega, by omega⟩
  generalize Un.z = Z at *
  have c0 := hX.b.cell h0
  go_enter Try.func14, Try.ntmps14
  go_wp2_with (first | (go_at_call 26; with_reducible refine (hwd _).mono ?_; rintro e w' ⟨rfl, rfl⟩))
  clear c0
  refine region_class_tail (fun w' => Two W0.heap.size (W0.heap.size + 1) u Z W0 w') 3 (by kernel_rfl) (by kernel_rfl) hX.drew ?_
  clear hX
  repeat
    first
      | (refine BigFrame.wpQuiet_skip (by rfl) ?_
         simp only [Act.put, List.setIfInBounds_toArray, List.set_cons_zero, List.set_cons_succ])
      | (refine BigFrame.wpQuiet_want (by rfl) (fun K hK => ?_)
         apply Exists.intro
         refine ⟨fun wq hq => ?_, hK _ ?_⟩
         · first
             | (refine quiet_load 27 (.tmp 4) (.pointer (some ⟨W0.heap.size, 0, none⟩)) _ rfl rfl (hq.b.loadAt hln agg_unit size_unit))
             | (unfold Oper.quietAt
                go_simp
                with_reducible rfl)
         clear hK K
         simp only [Act.put, List.setIfInBounds_toArray, List.set_cons_zero, List.set_cons_succ])
  refine wpQuiet_nil ?_
  intro w4 hX
  obtain ⟨hld, W, hst, hX2, hlv⟩ := hX.out hu hzo (by omega) (by omega)
  go_wp2
  exact bodyPost_ret (results_tct Try.results14 rfl hlv) rfl ⟨rfl, hX2.below⟩

theorem rtr_offh (u : Un) (hu : u.ok) (hon : u.on = false) (mode addr a : Int) (haa : addr % 65536 = a) (ha0 : 0 ≤ a) (ha1 : a ≤ 65535) (h : 57344 ≤ a) (wr : Bool) (W0 : World) : Calls Try.prog 14 #[.agg u.L.toArray, .int .i64 mode, .int .i64 addr, .bool wr] W0 fun e w' => e = .returned (.tuple #[.int .i64 (a + 196608), .agg u.L.toArray, .int .i64 0]) ∧ Below W0.heap.size W0 w' := by
  have hwd := fun w => rword_any addr w
  rw [haa] at hwd
  have hz := zero_unit
  have hX := Two.put u W0
  have h0 := Un.at0 u
  rw [hon] at h0
  have hln := Un.len hu
  have hzl := Un.zlen
  have hzo := Un.z_ok
  have V1 : IntKind.i64.wrap (a + 196608) = a + 196608 := by rw [wrap_i64]; exact IntWalk.wrap64_in _ ⟨by omega, by omega⟩
  generalize Un.z = Z at *
  have c0 := hX.b.cell h0
  go_enter Try.func14, Try.ntmps14
  go_wp2_with (first | (go_at_call 26; with_reducible refine (hwd _).mono ?_; rintro e w' ⟨rfl, rfl⟩))
  clear c0
  refine region_class_tail (fun w' => Two W0.heap.size (W0.heap.size + 1) u Z W0 w') 4 (by kernel_rfl) (by kernel_rfl) hX.drew ?_
  clear hX
  repeat
    first
      | (refine BigFrame.wpQuiet_skip (by rfl) ?_
         simp only [Act.put, List.setIfInBounds_toArray, List.set_cons_zero, List.set_cons_succ])
      | (refine BigFrame.wpQuiet_want (by rfl) (fun K hK => ?_)
         apply Exists.intro
         refine ⟨fun wq hq => ?_, hK _ ?_⟩
         · first
             | (refine quiet_load 27 (.tmp 4) (.pointer (some ⟨W0.heap.size, 0, none⟩)) _ rfl rfl (hq.b.loadAt hln agg_unit size_unit))
             | (unfold Oper.quietAt
                go_simp
                with_reducible rfl)
         clear hK K
         simp only [Act.put, List.setIfInBounds_toArray, List.set_cons_zero, List.set_cons_succ])
  refine wpQuiet_nil ?_
  intro w4 hX
  obtain ⟨hld, W, hst, hX2, hlv⟩ := hX.out hu hzo (by omega) (by omega)
  go_wp2
  exact bodyPost_ret (results_tct Try.results14 rfl hlv) rfl ⟨rfl, hX2.below⟩

theorem rtr_rd (u : Un) (hu : u.ok) (hon : u.on = true) (mode addr : Int) (m p : Nat) (a o : Int) (hm : m < 2) (hp : p < 8) (hmm : mode % 2 = (m : Int)) (haa : addr % 65536 = a) (ha0 : 0 ≤ a) (ha1 : a ≤ 65535) (hap : a / 8192 = (p : Int)) (hao : a % 8192 = o) (g : Pg) (hg : u.pg[8 * m + p]? = some g) (hb0 : 0 ≤ g.b) (hb1 : g.b ≤ 4095) (hf : fltP g o false = 0) (W0 : World) : Calls Try.prog 14 #[.agg u.L.toArray, .int .i64 mode, .int .i64 addr, .bool false] W0 fun e w' => e = .returned (.tuple #[.int .i64 ((64 * g.b + o) % 262144), .agg u.L.toArray, .int .i64 0]) ∧ Below W0.heap.size W0 w' := by
  have hwd := fun w => rword_any addr w
  have o0 : 0 ≤ o := by omega
  have o1 : o ≤ 8191 := by omega
  have hflt := fun w => rfault_any g o o0 o1 false w
  have A1 := a1 mode
  rw [hmm] at A1
  rw [haa] at hwd
  rw [hf] at hflt
  have hz := zero_unit
  have hX := Two.put u W0
  have h0 := Un.at0 u
  rw [hon] at h0
  have hln := Un.len hu
  have hzl := Un.zlen
  have hzo := Un.z_ok
  have hpg := fun w (h : Two W0.heap.size (W0.heap.size + 1) u Un.z W0 w) => h.page hg
  obtain ⟨gb, gl, ga, gr⟩ := g
  simp only at *
  have m0 : (0 : Int) ≤ (m : Int) := by omega
  have m1 : (m : Int) < 2 := by omega
  have p0 : (0 : Int) ≤ (p : Int) := by omega
  have p1 : (p : Int) < 8 := by omega
  have V1 : IntKind.i64.wrap (64 * gb) = 64 * gb := by rw [wrap_i64]; exact IntWalk.wrap64_in _ ⟨by omega, by omega⟩
  have V2 : IntKind.i64.wrap (64 * gb + o) = 64 * gb + o := by rw [wrap_i64]; exact IntWalk.wrap64_in _ ⟨by omega, by omega⟩
  generalize Un.z = Z at *
  have c0 := hX.b.cell h0
  obtain ⟨k0, k1, k2, k3⟩ := hpg _ hX
  clear hf hg
  go_enter Try.func14, Try.ntmps14
  go_wp2_with (first | (go_at_call 26; with_reducible refine (hwd _).mono ?_; rintro e w' ⟨rfl, rfl⟩) | (go_at_call 27; with_reducible refine (hflt _).mono ?_; rintro e w' ⟨rfl, hb⟩; have hX := hX.step hb; clear hb k0 k1 k2 k3 c0))
  refine region_class_tail (fun w' => Two W0.heap.size (W0.heap.size + 1) u Z W0 w') 13 (by kernel_rfl) (by kernel_rfl) hX.drew ?_
  clear hX
  repeat
    first
      | (refine BigFrame.wpQuiet_skip (by rfl) ?_
         simp only [Act.put, List.setIfInBounds_toArray, List.set_cons_zero, List.set_cons_succ])
      | (refine BigFrame.wpQuiet_want (by rfl) (fun K hK => ?_)
         apply Exists.intro
         refine ⟨fun wq hq => ?_, hK _ ?_⟩
         · first
             | (refine quiet_load 27 (.tmp 4) (.pointer (some ⟨W0.heap.size, 0, none⟩)) _ rfl rfl (hq.b.loadAt hln agg_unit size_unit))
             | (obtain ⟨k0, k1, k2, k3⟩ := hpg _ hq; unfold Oper.quietAt
                go_simp
                with_reducible rfl)
         clear hK K
         simp only [Act.put, List.setIfInBounds_toArray, List.set_cons_zero, List.set_cons_succ])
  refine wpQuiet_nil ?_
  intro w4 hX
  obtain ⟨hld, W, hst, hX2, hlv⟩ := hX.out hu hzo (by omega) (by omega)
  go_wp2
  exact bodyPost_ret (results_tct Try.results14 rfl hlv) rfl ⟨rfl, hX2.below⟩

theorem rtr_wr (u : Un) (hu : u.ok) (hon : u.on = true) (mode addr : Int) (m p : Nat) (a o : Int) (hm : m < 2) (hp : p < 8) (hmm : mode % 2 = (m : Int)) (haa : addr % 65536 = a) (ha0 : 0 ≤ a) (ha1 : a ≤ 65535) (hap : a / 8192 = (p : Int)) (hao : a % 8192 = o) (g : Pg) (hg : u.pg[8 * m + p]? = some g) (hb0 : 0 ≤ g.b) (hb1 : g.b ≤ 4095) (hf : fltP g o true = 0) (W0 : World) : Calls Try.prog 14 #[.agg u.L.toArray, .int .i64 mode, .int .i64 addr, .bool true] W0 fun e w' => e = .returned (.tuple #[.int .i64 ((64 * g.b + o) % 262144), .agg (u.withP (8 * m + p) { g with r := true }).L.toArray, .int .i64 0]) ∧ Below W0.heap.size W0 w' := by
  have hwd := fun w => rword_any addr w
  have o0 : 0 ≤ o := by omega
  have o1 : o ≤ 8191 := by omega
  have hflt := fun w => rfault_any g o o0 o1 true w
  have A1 := a1 mode
  rw [hmm] at A1
  rw [haa] at hwd
  rw [hf] at hflt
  have hz := zero_unit
  have hX := Two.put u W0
  have h0 := Un.at0 u
  rw [hon] at h0
  have hln := Un.len hu
  have hzl := Un.zlen
  have hzo := Un.z_ok
  have hpg := fun w (h : Two W0.heap.size (W0.heap.size + 1) u Un.z W0 w) => h.page hg
  have hu2 := Un.withP_ok hu (8 * m + p) { g with r := true }
  have hg2 := Un.withP_at (g' := { g with r := true }) hg
  have hln2 := Un.len hu2
  have hpg2 := fun w (h : Two W0.heap.size (W0.heap.size + 1) (u.withP (8 * m + p) { g with r := true }) Un.z W0 w) => h.page hg2
  have hst2 := fun w (h : Two W0.heap.size (W0.heap.size + 1) u Un.z W0 w) => h.putW hg (by omega) (Nat.le_refl _) true
  generalize u.withP (8 * m + p) { g with r := true } = u2 at *
  obtain ⟨gb, gl, ga, gr⟩ := g
  simp only at *
  have m0 : (0 : Int) ≤ (m : Int) := by omega
  have m1 : (m : Int) < 2 := by omega
  have p0 : (0 : Int) ≤ (p : Int) := by omega
  have p1 : (p : Int) < 8 := by omega
  have V1 : IntKind.i64.wrap (64 * gb) = 64 * gb := by rw [wrap_i64]; exact IntWalk.wrap64_in _ ⟨by omega, by omega⟩
  have V2 : IntKind.i64.wrap (64 * gb + o) = 64 * gb + o := by rw [wrap_i64]; exact IntWalk.wrap64_in _ ⟨by omega, by omega⟩
  generalize Un.z = Z at *
  have c0 := hX.b.cell h0
  obtain ⟨k0, k1, k2, k3⟩ := hpg _ hX
  clear hf hg
  go_enter Try.func14, Try.ntmps14
  go_wp2_with (first | (go_at_call 26; with_reducible refine (hwd _).mono ?_; rintro e w' ⟨rfl, rfl⟩) | (go_at_call 27; with_reducible refine (hflt _).mono ?_; rintro e w' ⟨rfl, hb⟩; have hX := hX.step hb; clear hb k0 k1 k2 k3 c0; have fz := Two.fz hX (1 + m * 32 + p * 4 + 3); obtain ⟨k0, k1, k2, k3⟩ := hpg _ hX; have hX := hst2 _ hX))
  clear k0 k1 k2 k3 fz
  refine region_class_tail (fun w' => Two W0.heap.size (W0.heap.size + 1) u2 Z W0 w') 13 (by kernel_rfl) (by kernel_rfl) hX.drew ?_
  clear hX
  repeat
    first
      | (refine BigFrame.wpQuiet_skip (by rfl) ?_
         simp only [Act.put, List.setIfInBounds_toArray, List.set_cons_zero, List.set_cons_succ])
      | (refine BigFrame.wpQuiet_want (by rfl) (fun K hK => ?_)
         apply Exists.intro
         refine ⟨fun wq hq => ?_, hK _ ?_⟩
         · first
             | (refine quiet_load 27 (.tmp 4) (.pointer (some ⟨W0.heap.size, 0, none⟩)) _ rfl rfl (hq.b.loadAt hln2 agg_unit size_unit))
             | (obtain ⟨k0, k1, k2, k3⟩ := hpg2 _ hq; unfold Oper.quietAt
                go_simp
                with_reducible rfl)
         clear hK K
         simp only [Act.put, List.setIfInBounds_toArray, List.set_cons_zero, List.set_cons_succ])
  refine wpQuiet_nil ?_
  intro w4 hX
  obtain ⟨hld, W, hst, hX2, hlv⟩ := hX.out hu2 hzo (by omega) (by omega)
  go_wp2
  exact bodyPost_ret (results_tct Try.results14 rfl hlv) rfl ⟨rfl, hX2.below⟩

theorem rtr_flt (u : Un) (hu : u.ok) (hon : u.on = true) (mode addr : Int) (m p : Nat) (a o : Int) (hm : m < 2) (hp : p < 8) (hmm : mode % 2 = (m : Int)) (haa : addr % 65536 = a) (ha0 : 0 ≤ a) (ha1 : a ≤ 65535) (hap : a / 8192 = (p : Int)) (hao : a % 8192 = o) (g : Pg) (hg : u.pg[8 * m + p]? = some g) (wr : Bool) (f : Int) (hf : fltP g o wr = f) (hf0 : (f != 0) = true) (W0 : World) : Calls Try.prog 14 #[.agg u.L.toArray, .int .i64 mode, .int .i64 addr, .bool wr] W0 fun e w' => e = .returned (.tuple #[.int .i64 0, .agg ({ u with st := f, ad := a } : Un).L.toArray, .int .i64 8]) ∧ Below W0.heap.size W0 w' := by
  have hwd := fun w => rword_any addr w
  have o0 : 0 ≤ o := by omega
  have o1 : o ≤ 8191 := by omega
  have hflt := fun w => rfault_any g o o0 o1 wr w
  have A1 := a1 mode
  rw [hmm] at A1
  rw [haa] at hwd
  rw [hf] at hflt
  have hz := zero_unit
  have hX := Two.put u W0
  have h0 := Un.at0 u
  rw [hon] at h0
  have hln := Un.len hu
  have hzl := Un.zlen
  have hzo := Un.z_ok
  have hpg := fun w (h : Two W0.heap.size (W0.heap.size + 1) u Un.z W0 w) => h.page hg
  have hu2 : ({ u with st := f } : Un).ok := hu
  have hu3 : ({ u with st := f, ad := a } : Un).ok := hu
  have hln3 := Un.len hu3
  have hs1 := fun w (h : Two W0.heap.size (W0.heap.size + 1) u Un.z W0 w) => h.put65 hu (by omega) (Nat.le_refl _) f
  have hs2 := fun w (h : Two W0.heap.size (W0.heap.size + 1) { u with st := f } Un.z W0 w) => h.put66 hu2 (by omega) (Nat.le_refl _) a
  simp only at hs2
  generalize ({ u with st := f, ad := a } : Un) = u3 at *
  generalize ({ u with st := f } : Un) = u2 at *
  obtain ⟨gb, gl, ga, gr⟩ := g
  simp only at *
  have m0 : (0 : Int) ≤ (m : Int) := by omega
  have m1 : (m : Int) < 2 := by omega
  have p0 : (0 : Int) ≤ (p : Int) := by omega
  have p1 : (p : Int) < 8 := by omega
  generalize Un.z = Z at *
  have c0 := hX.b.cell h0
  obtain ⟨k0, k1, k2, k3⟩ := hpg _ hX
  clear hf hg
  go_enter Try.func14, Try.ntmps14
  go_wp2_with (first | (go_at_call 26; with_reducible refine (hwd _).mono ?_; rintro e w' ⟨rfl, rfl⟩) | (go_at_call 27; with_reducible refine (hflt _).mono ?_; rintro e w' ⟨rfl, hb⟩; have hX := hX.step hb; clear hb k0 k1 k2 k3 c0; have f65 := Two.fz hX 65; have c65 := Two.c65 hX hu; have hX := hs1 _ hX; have f66 := Two.fz hX 66; have c66 := Two.c66 hX hu2; have hX := hs2 _ hX))
  clear f65 c65 f66 c66
  refine region_class_tail (fun w' => Two W0.heap.size (W0.heap.size + 1) u3 Z W0 w') 2 (by kernel_rfl) (by kernel_rfl) hX.drew ?_
  clear hX
  repeat
    first
      | (refine BigFrame.wpQuiet_skip (by rfl) ?_
         simp only [Act.put, List.setIfInBounds_toArray, List.set_cons_zero, List.set_cons_succ])
      | (refine BigFrame.wpQuiet_want (by rfl) (fun K hK => ?_)
         apply Exists.intro
         refine ⟨fun wq hq => ?_, hK _ ?_⟩
         · first
             | (refine quiet_load 27 (.tmp 4) (.pointer (some ⟨W0.heap.size, 0, none⟩)) _ rfl rfl (hq.b.loadAt hln3 agg_unit size_unit))
             | (unfold Oper.quietAt
                go_simp
                with_reducible rfl)
         clear hK K
         simp only [Act.put, List.setIfInBounds_toArray, List.set_cons_zero, List.set_cons_succ])
  refine wpQuiet_nil ?_
  intro w4 hX
  obtain ⟨hld, W, hst, hX2, hlv⟩ := hX.out hu3 hzo (by omega) (by omega)
  go_wp2
  exact bodyPost_ret (results_tct Try.results14 rfl hlv) rfl ⟨rfl, hX2.below⟩
end Go.Proofs.Ytggnbfilkogcoaa
