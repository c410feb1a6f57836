import Derived.Test.YthpnddgfgpacpaaGreatRW01
/-
  Translate of the reference of package mmu. No condition but that the pages are sixteen.
-/
namespace Go.Proofs.YthpnddgfgpacpaaGreat
open Go.RowKit
set_option linter.unusedSimpArgs false
set_option linter.unusedVariables false
set_option maxHeartbeats 1000000
set_option maxRecDepth 100000
attribute [local irreducible] wpQuiet

theorem zero_unit (w : World) : (zeroValue 32).run Tryz.prog w = .ok (.agg Un.z.L.toArray) w := by kernel_rfl
theorem agg_unit (w : World) : (isAgg 32).run Tryz.prog w = .ok true w := by kernel_rfl
theorem size_unit (w : World) : (sizeOf 32).run Tryz.prog w = .ok 67 w := by kernel_rfl
/-- Two boxes: a unit that came in, a unit that goes out. -/
structure Two (B C : Nat) (u v : Un) (w0 w : World) : Prop where
  b : Blk 32 w B u.L
  c : Blk 32 w C v.L
  below : Below w0.heap.size w0 w
theorem Two.put (u : Un) (w : World) : Two w.heap.size (w.heap.size + 1) u Un.z w ((w.alloc (.cells u.L.toArray 32)).alloc (.cells Un.z.L.toArray 32)) := by
  have e : (w.alloc (.cells u.L.toArray 32)).heap.size = w.heap.size + 1 := by simp
  have h := Blk.new 32 (w.alloc (.cells u.L.toArray 32)) Un.z.L
  rw [e] at h
  exact ⟨(Blk.new _ w u.L).alloc _, h, ((Below.refl _ _).alloc (Nat.le_refl _) _).alloc (by simp) _⟩
theorem Two.step {B C : Nat} {u v : Un} {w0 w w' : World} (h : Two B C u v w0 w) (hb : Below w.heap.size w w') : Two B C u v w0 w' := ⟨h.b.step hb, h.c.step hb, h.below.trans (hb.mono h.below.size)⟩
theorem Two.drew {B C : Nat} {u v : Un} {w0 w : World} (h : Two B C u v w0 w) : Two B C u v w0 w.drew := ⟨h.b, h.c, h.below.drew⟩
theorem Two.out {B C : Nat} {u v : Un} {w0 w : World} (h : Two B C u v w0 w) (hu : u.ok) (hv : v.ok) (hn : B ≠ C) (hC : w0.heap.size ≤ C) :
    (loadCells ⟨B, 0, none⟩ 67).run Tryz.prog w = .ok u.L.toArray w ∧ ∃ W, (storeCells ⟨C, 0, none⟩ u.L).run Tryz.prog w = .ok () W ∧ Two B C u u w0 W ∧ (loadVar 32 ⟨C, 0, none⟩).run Tryz.prog W = .ok (.agg u.L.toArray) W := by
  refine ⟨h.b.load (Un.len hu), ?_⟩
  obtain ⟨W, h1, h2, h3, _, h5⟩ := h.c.store (P := Tryz.prog) (cs' := u.L) (by rw [Un.len hu, Un.len hv]) (Un.one u)
  exact ⟨W, h1, ⟨h5 _ _ _ hn h.b, h2, h3 _ _ hC h.below⟩, h2.loadVar (Un.len hu) agg_unit size_unit⟩
theorem Un.z_ok : Un.z.ok := rfl
theorem Un.zlen : Un.z.L.length = 67 := rfl

theorem Un.cells {u : Un} {m p : Nat} {g : Pg} (hg : u.pg[8 * m + p]? = some g) :
    u.L[1 + m * 32 + p * 4]? = some (.int .i64 g.b) ∧ u.L[1 + m * 32 + p * 4 + 1]? = some (.int .i64 g.l) ∧ u.L[1 + m * 32 + p * 4 + 2]? = some (.int .i64 g.a) ∧ u.L[1 + m * 32 + p * 4 + 3]? = some (.bool g.r) := by
  have e : ∀ j, 1 + m * 32 + p * 4 + j = 1 + (4 * (8 * m + p) + j) := fun j => by omega
  refine ⟨?_, ?_, ?_, ?_⟩
  · have := Un.page hg 0 (by decide); rw [← e] at this; exact this
  · have := Un.page hg 1 (by decide); rw [← e] at this; exact this
  · have := Un.page hg 2 (by decide); rw [← e] at this; exact this
  · have := Un.page hg 3 (by decide); rw [← e] at this; exact this
theorem Two.page {B C m p : Nat} {u v : Un} {w0 w : World} {g : Pg} (h : Two B C u v w0 w) (hg : u.pg[8 * m + p]? = some g) :
    w.cell? ⟨B, 1 + m * 32 + p * 4, none⟩ = some (.int .i64 g.b) ∧ w.cell? ⟨B, 1 + m * 32 + p * 4 + 1, none⟩ = some (.int .i64 g.l) ∧ w.cell? ⟨B, 1 + m * 32 + p * 4 + 2, none⟩ = some (.int .i64 g.a) ∧ w.cell? ⟨B, 1 + m * 32 + p * 4 + 3, none⟩ = some (.bool g.r) := by
  obtain ⟨q0, q1, q2, q3⟩ := Un.cells hg
  exact ⟨h.b.cell q0, h.b.cell q1, h.b.cell q2, h.b.cell q3⟩
theorem Two.put65 {B C : Nat} {u v : Un} {w0 w : World} (h : Two B C u v w0 w) (hu : u.ok) (hn : C ≠ B) (hB : w0.heap.size ≤ B) (x : Int) : Two B C { u with st := x } v w0 (w.setCell ⟨B, 65, none⟩ (.int .i64 x)) :=
  ⟨by rw [← Un.set65 hu x]; exact h.b.set 65 _, h.c.other hn _, h.below.setCell hB _⟩
/-- The unit in which a page is another one. -/
def Un.withP (u : Un) (k : Nat) (g : Pg) : Un := { u with pg := u.pg.set k g }
theorem Un.withP_ok {u : Un} (h : u.ok) (k : Nat) (g : Pg) : (u.withP k g).ok := by unfold Un.ok Un.withP at *; simpa using h
theorem Un.withP_at {u : Un} {k : Nat} {g g' : Pg} (hg : u.pg[k]? = some g) : (u.withP k g').pg[k]? = some g' := by
  have hk := (List.getElem?_eq_some_iff.1 hg).1
  simp [Un.withP, hk]
theorem Two.c65 {B C : Nat} {u v : Un} {w0 w : World} (h : Two B C u v w0 w) (hu : u.ok) : w.cell? ⟨B, 65, none⟩ = some (.int .i64 u.st) := h.b.cell (Un.at65 hu)
theorem Two.c66 {B C : Nat} {u v : Un} {w0 w : World} (h : Two B C u v w0 w) (hu : u.ok) : w.cell? ⟨B, 66, none⟩ = some (.int .i64 u.ad) := h.b.cell (Un.at66 hu)
theorem Two.fz {B C : Nat} {u v : Un} {w0 w : World} (h : Two B C u v w0 w) (k : Nat) : w.frozen? ⟨B, k, none⟩ = false := h.b.frozen k

end Go.Proofs.YthpnddgfgpacpaaGreat
/-
  page, Read and Write of the reference of package mmu. No condition but that the pages are sixteen.
-/
namespace Go.Proofs.YthpnddgfgpacpaaGreat
open Go.RowKit
set_option linter.unusedSimpArgs false
set_option linter.unusedVariables false
set_option maxHeartbeats 1000000
set_option maxRecDepth 100000
attribute [local irreducible] wpQuiet

theorem tmod2_9 (n : Int) : (n.tmod 2 = 0) = (n % 2 = 0) := by
  apply propext
  have := Int.tmod_eq_emod (a := n) (b := 2)
  constructor <;> intro h <;> split at this <;> omega
/-- Is there a page's register at an offset? -/
def isReg (n : Int) : Bool := decide (16 ≤ n) && (decide (n < 80) && decide (n % 2 = 0))
def pgV (n : Int) : Value := if isReg n = true then .tuple #[.int .i64 ((n - 16) / 32), .int .i64 ((n - 16) % 32 / 4), .bool (decide ((n - 16) % 4 = 2)), .bool true] else .tuple #[.int .i64 0, .int .i64 0, .bool false, .bool false]
theorem pgV_no {n : Int} (h : isReg n = false) : pgV n = .tuple #[.int .i64 0, .int .i64 0, .bool false, .bool false] := if_neg (by rw [h]; decide)
theorem pgV_ok {n : Int} (h : isReg n = true) : pgV n = .tuple #[.int .i64 ((n - 16) / 32), .int .i64 ((n - 16) % 32 / 4), .bool (decide ((n - 16) % 4 = 2)), .bool true] := if_pos h

theorem rpage_any (n : Int) (w : World) : Calls Tryz.prog 130 #[.int .i64 n] w fun e w' => e = .returned (pgV n) ∧ w = w' := by
  have ht := tmod2_9 n
  by_cases h1 : 16 ≤ n
  · by_cases h2 : n < 80
    · by_cases h3 : n % 2 = 0
      · rw [pgV_ok (by simp [isReg, h1, h2, h3])]
        have hb : n.tmod 2 = 0 := by rw [ht]; exact h3
        have h4 : 0 ≤ n - 16 := by omega
        clear ht
        go_enter Tryz.func130, Tryz.ntmps130
        go_wp2
        refine bodyPost_ret (v := .tuple #[.int .i64 ((n - 16) / 32), .int .i64 ((n - 16) % 32 / 4), .bool (decide ((n - 16) % 4 = 2)), .bool true]) (by simp [results, Tryz.results130, go_sem]; rfl) rfl ⟨rfl, rfl⟩
      · rw [pgV_no (by simp [isReg, h3])]
        have hb : ¬ n.tmod 2 = 0 := by rw [ht]; exact h3
        have hb2 : (n.tmod 2 != 0) = true := by simpa using hb
        have hb3 : (n % 2 != 0) = true := by simpa using h3
        clear ht
        go_enter Tryz.func130, Tryz.ntmps130
        go_wp2
        refine bodyPost_ret (v := .tuple #[.int .i64 0, .int .i64 0, .bool false, .bool false]) (by simp [results, Tryz.results130, go_sem]) rfl ⟨rfl, rfl⟩
    · rw [pgV_no (by simp [isReg, h2])]
      clear ht
      go_enter Tryz.func130, Tryz.ntmps130
      go_wp2
      refine bodyPost_ret (v := .tuple #[.int .i64 0, .int .i64 0, .bool false, .bool false]) (by simp [results, Tryz.results130, go_sem]) rfl ⟨rfl, rfl⟩
  · rw [pgV_no (by simp [isReg, h1])]
    clear ht
    go_enter Tryz.func130, Tryz.ntmps130
    go_wp2
    refine bodyPost_ret (v := .tuple #[.int .i64 0, .int .i64 0, .bool false, .bool false]) (by simp [results, Tryz.results130, go_sem]) rfl ⟨rfl, rfl⟩

/-- One box. -/
structure One (B : Nat) (u : Un) (w0 w : World) : Prop where
  b : Blk 32 w B u.L
  below : Below w0.heap.size w0 w
theorem One.put (u : Un) (w : World) : One w.heap.size u w (w.alloc (.cells u.L.toArray 32)) := ⟨Blk.new _ w u.L, (Below.refl _ _).alloc (Nat.le_refl _) _⟩
theorem One.step {B : Nat} {u : Un} {w0 w w' : World} (h : One B u w0 w) (hb : Below w.heap.size w w') : One B u w0 w' := ⟨h.b.step hb, h.below.trans (hb.mono h.below.size)⟩
theorem One.page {B m p : Nat} {u : Un} {w0 w : World} {g : Pg} (h : One B u w0 w) (hg : u.pg[8 * m + p]? = some g) :
    w.cell? ⟨B, 1 + m * 32 + p * 4, none⟩ = some (.int .i64 g.b) ∧ w.cell? ⟨B, 1 + m * 32 + p * 4 + 1, none⟩ = some (.int .i64 g.l) ∧ w.cell? ⟨B, 1 + m * 32 + p * 4 + 2, none⟩ = some (.int .i64 g.a) ∧ w.cell? ⟨B, 1 + m * 32 + p * 4 + 3, none⟩ = some (.bool g.r) := by
  obtain ⟨q0, q1, q2, q3⟩ := Un.cells hg
  exact ⟨h.b.cell q0, h.b.cell q1, h.b.cell q2, h.b.cell q3⟩
/-- The register at an offset. -/
def statV (u : Un) : Int := if u.on = true then 2 * u.st + 1 else 2 * u.st
def descV (g : Pg) : Int := if g.r = true then g.l + 256 * g.a + 32768 else g.l + 256 * g.a

end Go.Proofs.YthpnddgfgpacpaaGreat
/-
  Write of the reference of package mmu. No condition but that the pages are sixteen.
-/
namespace Go.Proofs.YthpnddgfgpacpaaGreat
open Go.RowKit
set_option linter.unusedSimpArgs false
set_option linter.unusedVariables false
set_option maxHeartbeats 8000000
set_option maxRecDepth 100000
attribute [local irreducible] wpQuiet

theorem Two.put0 {B C : Nat} {u v : Un} {w0 w : World} (h : Two B C u v w0 w) (hn : C ≠ B) (hB : w0.heap.size ≤ B) (x : Bool) : Two B C { u with on := x } v w0 (w.setCell ⟨B, 0, none⟩ (.bool x)) :=
  ⟨by rw [← Un.set0 u x]; exact h.b.set 0 _, h.c.other hn _, h.below.setCell hB _⟩
theorem Two.putF {B C m p : Nat} {u v : Un} {w0 w : World} {g g' : Pg} (h : Two B C u v w0 w) (hg : u.pg[8 * m + p]? = some g) (hn : C ≠ B) (hB : w0.heap.size ≤ B) (j : Nat) (hj : j < 4) (x : Value) (he : g.L.set j x = g'.L) (k : Nat) (hk : k = 1 + m * 32 + p * 4 + j) : Two B C (u.withP (8 * m + p) g') v w0 (w.setCell ⟨B, k, none⟩ x) := by
  have e : k = 1 + (4 * (8 * m + p) + j) := by omega
  have q := Un.setp (u := u) (p' := g') hg j hj x he
  refine ⟨?_, h.c.other hn _, h.below.setCell hB _⟩
  subst e
  have k2 := h.b.set (1 + (4 * (8 * m + p) + j)) x
  rw [q] at k2
  exact k2
theorem withP_twice (u : Un) (k : Nat) (g g' : Pg) : (u.withP k g).withP k g' = u.withP k g' := by
  unfold Un.withP; simp
/-- What a load of the whole box and a store of it leave. -/
theorem Two.outR {B C : Nat} {u v : Un} {w0 w : World} (h : Two B C u v w0 w) (hu : u.ok) (hv : v.ok) (hn : B ≠ C) (hC : w0.heap.size ≤ C) :
    (Instr.loadAt 32 (.pointer (some ⟨B, 0, none⟩))).run Tryz.prog w = .ok (.agg u.L.toArray) w ∧ ∃ W, (storeCells ⟨C, 0, none⟩ u.L).run Tryz.prog w = .ok () W ∧ Two B C u u w0 W ∧ (loadVar 32 ⟨C, 0, none⟩).run Tryz.prog W = .ok (.agg u.L.toArray) W := by
  obtain ⟨_, W, h1, h2, h3⟩ := h.out hu hv hn hC
  exact ⟨h.b.loadAt (Un.len hu) agg_unit size_unit, W, h1, h2, h3⟩

theorem rwr_addr (u : Un) (hu : u.ok) (n v : Int) (hn : n = 2) (W0 : World) : Calls Tryz.prog 109 #[.agg u.L.toArray, .int .i64 n, .int .i64 v] W0 fun e w' => e = .returned (.tuple #[.agg u.L.toArray, .bool true]) ∧ Below W0.heap.size W0 w' := by
  have hwd := fun w => rword_any_9 v w
  have hz := zero_unit
  have hX := Two.put u W0
  have hln := Un.len hu
  have hzl := Un.zlen
  have hzo := Un.z_ok
  subst hn
  generalize Un.z = Z at *
  obtain ⟨hld, W, hst, hX2, hlv⟩ := hX.outR hu hzo (by omega) (by omega)
  go_enter Tryz.func109, Tryz.ntmps109
  go_wp2_with (first | (go_at_call 136; with_reducible refine (hwd _).mono ?_; rintro e w' ⟨rfl, rfl⟩; generalize (W0.alloc (.cells u.L.toArray 32)).alloc (.cells Z.L.toArray 32) = w1 at *) | (refine wpList_load_run rfl 32 (.tmp 3) (.pointer (some ⟨W0.heap.size, 0, none⟩)) (.agg u.L.toArray) rfl rfl hld ?_))
  exact bodyPost_ret (results_ct Tryz.results109 rfl hlv) rfl ⟨rfl, hX2.below⟩

theorem rwr_none (u : Un) (hu : u.ok) (n v : Int) (hn : isReg n = false) (hn0 : n ≠ 0) (hn2 : n ≠ 2) (W0 : World) : Calls Tryz.prog 109 #[.agg u.L.toArray, .int .i64 n, .int .i64 v] W0 fun e w' => e = .returned (.tuple #[.agg u.L.toArray, .bool false]) ∧ Below W0.heap.size W0 w' := by
  have hwd := fun w => rword_any_9 v w
  have hz := zero_unit
  have hX := Two.put u W0
  have hln := Un.len hu
  have hzl := Un.zlen
  have hzo := Un.z_ok
  have hpgc := fun w => rpage_any n w
  rw [pgV_no hn] at hpgc
  generalize Un.z = Z at *
  obtain ⟨hld, W, hst, hX2, hlv⟩ := hX.outR hu hzo (by omega) (by omega)
  go_enter Tryz.func109, Tryz.ntmps109
  go_wp2_with (first | (go_at_call 136; with_reducible refine (hwd _).mono ?_; rintro e w' ⟨rfl, rfl⟩; generalize (W0.alloc (.cells u.L.toArray 32)).alloc (.cells Z.L.toArray 32) = w1 at *) | (go_at_call 130; with_reducible refine (hpgc _).mono ?_; rintro e w' ⟨rfl, rfl⟩) | (refine wpList_load_run rfl 32 (.tmp 3) (.pointer (some ⟨W0.heap.size, 0, none⟩)) (.agg u.L.toArray) rfl rfl hld ?_))
  exact bodyPost_ret (results_ct Tryz.results109 rfl hlv) rfl ⟨rfl, hX2.below⟩

theorem rwr_stat (u : Un) (hu : u.ok) (n v : Int) (hn : n = 0) (W0 : World) : Calls Tryz.prog 109 #[.agg u.L.toArray, .int .i64 n, .int .i64 v] W0 fun e w' => e = .returned (.tuple #[.agg ({ u with on := decide (v % 65536 % 2 = 1), st := v % 65536 / 2 % 4 } : Un).L.toArray, .bool true]) ∧ Below W0.heap.size W0 w' := by
  have hwd := fun w => rword_any_9 v w
  have hz := zero_unit
  have hX := Two.put u W0
  have hln := Un.len hu
  have hzl := Un.zlen
  have hzo := Un.z_ok
  subst hn
  generalize Un.z = Z at *
  have hbd : 0 ≤ v % 65536 := by omega
  have hbd2 : v % 65536 ≤ 65535 := by omega
  have hbe : (v % 65536 % 2 == 1) = decide (v % 65536 % 2 = 1) := rfl
  have hu2 : ({ u with on := decide (v % 65536 % 2 = 1) } : Un).ok := hu
  have hu3 : ({ u with on := decide (v % 65536 % 2 = 1), st := v % 65536 / 2 % 4 } : Un).ok := hu
  have f0 := hX.fz 0
  have c0 := hX.b.cell (Un.at0 u)
  have hY := hX.put0 (by omega) (Nat.le_refl _) (decide (v % 65536 % 2 = 1))
  have f65 := hY.fz 65
  have c65 := hY.c65 hu2
  have hY2 := hY.put65 hu2 (by omega) (Nat.le_refl _) (v % 65536 / 2 % 4)
  obtain ⟨hld, W, hst, hX2, hlv⟩ := hY2.outR hu3 hzo (by omega) (by omega)
  have hln3 := Un.len hu3
  simp only at hld hst hX2 hlv hln3
  generalize ({ u with on := decide (v % 65536 % 2 = 1), st := v % 65536 / 2 % 4 } : Un) = u3 at *
  generalize decide (v % 65536 % 2 = 1) = bb at *
  generalize v % 65536 = y at *
  go_enter Tryz.func109, Tryz.ntmps109
  go_wp2_with (first | (go_at_call 136; with_reducible refine (hwd _).mono ?_; rintro e w' ⟨rfl, rfl⟩; generalize (W0.alloc (.cells u.L.toArray 32)).alloc (.cells Z.L.toArray 32) = w1 at *) | (refine wpList_load_run rfl 32 (.tmp 3) (.pointer (some ⟨W0.heap.size, 0, none⟩)) (.agg u3.L.toArray) rfl rfl hld ?_))
  exact bodyPost_ret (results_ct Tryz.results109 rfl hlv) rfl ⟨rfl, hX2.below⟩

theorem rwr_base (u : Un) (hu : u.ok) (n v : Int) (hn : isReg n = true) (m p : Nat) (hm : m < 2) (hp : p < 8) (hnm : (n - 16) / 32 = (m : Int)) (hnp : (n - 16) % 32 / 4 = (p : Int)) (g : Pg) (hg : u.pg[8 * m + p]? = some g) (hd : ¬ (n - 16) % 4 = 2) (W0 : World) : Calls Tryz.prog 109 #[.agg u.L.toArray, .int .i64 n, .int .i64 v] W0 fun e w' => e = .returned (.tuple #[.agg (u.withP (8 * m + p) { g with b := v % 65536 % 4096 }).L.toArray, .bool true]) ∧ Below W0.heap.size W0 w' := by
  have hwd := fun w => rword_any_9 v w
  have hz := zero_unit
  have hX := Two.put u W0
  have hln := Un.len hu
  have hzl := Un.zlen
  have hzo := Un.z_ok
  have hpgc := fun w => rpage_any n w
  rw [pgV_ok hn, hnm, hnp, decide_eq_false hd] at hpgc
  have m0 : (0 : Int) ≤ (m : Int) := by omega
  have m1 : (m : Int) < 2 := by omega
  have p0 : (0 : Int) ≤ (p : Int) := by omega
  have p1 : (p : Int) < 8 := by omega
  have hn0 : ¬ n = 0 := by simp [isReg] at hn; omega
  have hn2 : ¬ n = 2 := by simp [isReg] at hn; omega
  generalize Un.z = Z at *
  have hbd : 0 ≤ v % 65536 := by omega
  have hbd2 : v % 65536 ≤ 65535 := by omega
  obtain ⟨k0, _, _, _⟩ := hX.page hg
  have f0 := hX.fz (1 + m * 32 + p * 4)
  have hY := hX.putF (g' := { g with b := v % 65536 % 4096 }) hg (by omega) (Nat.le_refl _) 0 (by decide) (.int .i64 (v % 65536 % 4096)) rfl (1 + m * 32 + p * 4) rfl
  have hu2 := Un.withP_ok hu (8 * m + p) { g with b := v % 65536 % 4096 }
  have hln2 := Un.len hu2
  generalize u.withP (8 * m + p) { g with b := v % 65536 % 4096 } = u2 at *
  obtain ⟨hld, W, hst, hX2, hlv⟩ := hY.outR hu2 hzo (by omega) (by omega)
  obtain ⟨gb, gl, ga, gr⟩ := g
  simp only at *
  clear hd hn
  have hz4 : v % 65536 % 4096 = v % 65536 % 4096 := rfl
  clear hz4
  generalize v % 65536 = y at *
  go_enter Tryz.func109, Tryz.ntmps109
  go_wp2_with (first | (go_at_call 136; with_reducible refine (hwd _).mono ?_; rintro e w' ⟨rfl, rfl⟩; generalize (W0.alloc (.cells u.L.toArray 32)).alloc (.cells Z.L.toArray 32) = w1 at *) | (go_at_call 130; with_reducible refine (hpgc _).mono ?_; rintro e w' ⟨rfl, rfl⟩) | (refine wpList_load_run rfl 32 (.tmp 3) (.pointer (some ⟨W0.heap.size, 0, none⟩)) (.agg u2.L.toArray) rfl rfl hld ?_))
  exact bodyPost_ret (results_ct Tryz.results109 rfl hlv) rfl ⟨rfl, hX2.below⟩

theorem rwr_desc (u : Un) (hu : u.ok) (n v : Int) (hn : isReg n = true) (m p : Nat) (hm : m < 2) (hp : p < 8) (hnm : (n - 16) / 32 = (m : Int)) (hnp : (n - 16) % 32 / 4 = (p : Int)) (g : Pg) (hg : u.pg[8 * m + p]? = some g) (hd : (n - 16) % 4 = 2) (W0 : World) : Calls Tryz.prog 109 #[.agg u.L.toArray, .int .i64 n, .int .i64 v] W0 fun e w' => e = .returned (.tuple #[.agg (u.withP (8 * m + p) ⟨g.b, min (v % 65536 % 256) 128, min (v % 65536 / 256 % 4) 2, false⟩).L.toArray, .bool true]) ∧ Below W0.heap.size W0 w' := by
  have hwd := fun w => rword_any_9 v w
  have hz := zero_unit
  have hX := Two.put u W0
  have hln := Un.len hu
  have hzl := Un.zlen
  have hzo := Un.z_ok
  have hpgc := fun w => rpage_any n w
  rw [pgV_ok hn, hnm, hnp, decide_eq_true hd] at hpgc
  have m0 : (0 : Int) ≤ (m : Int) := by omega
  have m1 : (m : Int) < 2 := by omega
  have p0 : (0 : Int) ≤ (p : Int) := by omega
  have p1 : (p : Int) < 8 := by omega
  have hn0 : ¬ n = 0 := by simp [isReg] at hn; omega
  have hn2 : ¬ n = 2 := by simp [isReg] at hn; omega
  generalize Un.z = Z at *
  have hbd : 0 ≤ v % 65536 := by omega
  have hbd2 : v % 65536 ≤ 65535 := by omega
  have hq1 : 0 ≤ v % 65536 % 256 := by omega
  have hq2 : 0 ≤ v % 65536 / 256 % 4 := by omega
  have hA : ∃ ml, min (v % 65536 % 256) 128 = ml ∧ ((v % 65536 % 256 ≤ 128 ∧ ml = v % 65536 % 256) ∨ (128 < v % 65536 % 256 ∧ ml = 128)) := ⟨_, rfl, by omega⟩
  have hM : ∃ ma, min (v % 65536 / 256 % 4) 2 = ma ∧ ((v % 65536 / 256 % 4 ≤ 2 ∧ ma = v % 65536 / 256 % 4) ∨ (2 < v % 65536 / 256 % 4 ∧ ma = 2)) := ⟨_, rfl, by omega⟩
  obtain ⟨ml, hml, hA⟩ := hA
  obtain ⟨ma, hma, hM⟩ := hM
  rw [hml, hma]
  clear hml hma
  obtain ⟨gb, gl, ga, gr⟩ := g
  have f1 := hX.fz (1 + m * 32 + p * 4 + 1)
  obtain ⟨_, c1, _, _⟩ := hX.page hg
  have hg1 := Un.withP_at (g' := ⟨gb, ml, ga, gr⟩) hg
  have hY1 := hX.putF (g' := ⟨gb, ml, ga, gr⟩) hg (by omega) (Nat.le_refl _) 1 (by decide) (.int .i64 ml) rfl (1 + m * 32 + p * 4 + 1) rfl
  obtain ⟨W1, e1, hY1⟩ : ∃ W1, W1 = _ ∧ Two _ _ _ _ _ W1 := ⟨_, rfl, hY1⟩
  have f2 := hY1.fz (1 + m * 32 + p * 4 + 2)
  obtain ⟨_, _, c2, _⟩ := hY1.page hg1
  have hg2 := Un.withP_at (g' := ⟨gb, ml, ma, gr⟩) hg1
  have hY2 := hY1.putF (g' := ⟨gb, ml, ma, gr⟩) hg1 (by omega) (Nat.le_refl _) 2 (by decide) (.int .i64 ma) rfl (1 + m * 32 + p * 4 + 2) rfl
  obtain ⟨W2, e2, hY2⟩ : ∃ W2, W2 = _ ∧ Two _ _ _ _ _ W2 := ⟨_, rfl, hY2⟩
  have f3 := hY2.fz (1 + m * 32 + p * 4 + 3)
  obtain ⟨_, _, _, c3⟩ := hY2.page hg2
  have hY3 := hY2.putF (g' := ⟨gb, ml, ma, false⟩) hg2 (by omega) (Nat.le_refl _) 3 (by decide) (.bool false) rfl (1 + m * 32 + p * 4 + 3) rfl
  obtain ⟨W3, e3, hY3⟩ : ∃ W3, W3 = _ ∧ Two _ _ _ _ _ W3 := ⟨_, rfl, hY3⟩
  replace e1 := e1.symm
  replace e2 := e2.symm
  replace e3 := e3.symm
  rw [withP_twice, withP_twice] at hY3
  have hu2 := Un.withP_ok hu (8 * m + p) ⟨gb, ml, ma, false⟩
  have hln2 := Un.len hu2
  simp only at *
  generalize u.withP (8 * m + p) ⟨gb, ml, ma, false⟩ = u2 at *
  obtain ⟨hld, W, hst, hX2, hlv⟩ := hY3.outR hu2 hzo (by omega) (by omega)
  clear hd hn hY1 hY2 hg hg1 hg2
  generalize v % 65536 = y at *
  rcases hA with ⟨a1, a2⟩ | ⟨a1, a2⟩ <;> rcases hM with ⟨b1, b2⟩ | ⟨b1, b2⟩
  all_goals
    subst a2 b2
    go_enter Tryz.func109, Tryz.ntmps109
    go_wp2_with (first | (go_at_call 136; with_reducible refine (hwd _).mono ?_; rintro e w' ⟨rfl, rfl⟩; generalize (W0.alloc (.cells u.L.toArray 32)).alloc (.cells Z.L.toArray 32) = w1 at *) | (go_at_call 130; with_reducible refine (hpgc _).mono ?_; rintro e w' ⟨rfl, rfl⟩) | (refine wpList_load_run rfl 32 (.tmp 3) (.pointer (some ⟨W0.heap.size, 0, none⟩)) (.agg u2.L.toArray) rfl rfl hld ?_))
    exact bodyPost_ret (results_ct Tryz.results109 rfl hlv) rfl ⟨rfl, hX2.below⟩
end Go.Proofs.YthpnddgfgpacpaaGreat
/-
  Map of the reference of package mmu. No condition but that the pages are sixteen.
-/
namespace Go.Proofs.YthpnddgfgpacpaaGreat
open Go.RowKit
set_option linter.unusedSimpArgs false
set_option linter.unusedVariables false
set_option maxHeartbeats 8000000
set_option maxRecDepth 100000
attribute [local irreducible] wpQuiet

/-- The pages of a mode from number 8 - n on. -/
def mapGo (m : Nat) (acc : Int) : Nat → Un → Int → Int → Un
  | 0, u, _, _ => u
  | n + 1, u, base, blocks =>
    if 0 < blocks then mapGo m acc n (u.withP (8 * m + (7 - n)) ⟨base, min blocks 128, acc, false⟩) (base + min blocks 128) (blocks - min blocks 128)
    else mapGo m acc n (u.withP (8 * m + (7 - n)) Pg.z) base blocks
/-- A whole page stored, cell by cell: the worlds by name. -/
theorem Two.four {B C m p : Nat} {u v : Un} {w0 w : World} {g : Pg} (h : Two B C u v w0 w) (hg : u.pg[8 * m + p]? = some g) (hn : C ≠ B) (hB : w0.heap.size ≤ B) (g' : Pg) :
    ∃ W1 W2 W3 W4, w.setCell ⟨B, 1 + m * 32 + p * 4, none⟩ (.int .i64 g'.b) = W1 ∧ W1.setCell ⟨B, 1 + m * 32 + p * 4 + 1, none⟩ (.int .i64 g'.l) = W2 ∧ W2.setCell ⟨B, 1 + m * 32 + p * 4 + 2, none⟩ (.int .i64 g'.a) = W3 ∧ W3.setCell ⟨B, 1 + m * 32 + p * 4 + 3, none⟩ (.bool g'.r) = W4 ∧
      (w.cell? ⟨B, 1 + m * 32 + p * 4, none⟩ = some (.int .i64 g.b) ∧ w.frozen? ⟨B, 1 + m * 32 + p * 4, none⟩ = false) ∧ (W1.cell? ⟨B, 1 + m * 32 + p * 4 + 1, none⟩ = some (.int .i64 g.l) ∧ W1.frozen? ⟨B, 1 + m * 32 + p * 4 + 1, none⟩ = false) ∧
      (W2.cell? ⟨B, 1 + m * 32 + p * 4 + 2, none⟩ = some (.int .i64 g.a) ∧ W2.frozen? ⟨B, 1 + m * 32 + p * 4 + 2, none⟩ = false) ∧ (W3.cell? ⟨B, 1 + m * 32 + p * 4 + 3, none⟩ = some (.bool g.r) ∧ W3.frozen? ⟨B, 1 + m * 32 + p * 4 + 3, none⟩ = false) ∧ Two B C (u.withP (8 * m + p) g') v w0 W4 := by
  obtain ⟨gb, gl, ga, gr⟩ := g
  obtain ⟨b, l, a, r⟩ := g'
  have h1 := h.putF (g' := ⟨b, gl, ga, gr⟩) hg hn hB 0 (by decide) (.int .i64 b) rfl (1 + m * 32 + p * 4) rfl
  have hg1 := Un.withP_at (g' := ⟨b, gl, ga, gr⟩) hg
  have h2 := h1.putF (g' := ⟨b, l, ga, gr⟩) hg1 hn hB 1 (by decide) (.int .i64 l) rfl (1 + m * 32 + p * 4 + 1) rfl
  have hg2 := Un.withP_at (g' := ⟨b, l, ga, gr⟩) hg1
  have h3 := h2.putF (g' := ⟨b, l, a, gr⟩) hg2 hn hB 2 (by decide) (.int .i64 a) rfl (1 + m * 32 + p * 4 + 2) rfl
  have hg3 := Un.withP_at (g' := ⟨b, l, a, gr⟩) hg2
  have h4 := h3.putF (g' := ⟨b, l, a, r⟩) hg3 hn hB 3 (by decide) (.bool r) rfl (1 + m * 32 + p * 4 + 3) rfl
  rw [withP_twice, withP_twice, withP_twice] at h4
  exact ⟨_, _, _, _, rfl, rfl, rfl, rfl, ⟨(h.page hg).1, h.fz _⟩, ⟨(h1.page hg1).2.1, h1.fz _⟩, ⟨(h2.page hg2).2.2.1, h2.fz _⟩, ⟨(h3.page hg3).2.2.2, h3.fz _⟩, h4⟩
def okMap (mode base blocks acc : Int) : Prop := 0 ≤ mode ∧ mode ≤ 1 ∧ 1 ≤ acc ∧ acc ≤ 2 ∧ 0 ≤ blocks ∧ blocks ≤ 1024 ∧ 0 ≤ base ∧ base ≤ 4096 - blocks
end Go.Proofs.YthpnddgfgpacpaaGreat
