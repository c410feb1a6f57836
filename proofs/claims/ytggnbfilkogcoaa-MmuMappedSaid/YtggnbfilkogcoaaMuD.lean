/-
  page, Read and Write of the reference of package mmu. No condition but that the pages are sixteen.
-/
import Derived.Test.YtggnbfilkogcoaaMuC
namespace Go.Proofs.Ytggnbfilkogcoaa
open Go.RowKit
set_option linter.unusedSimpArgs false
set_option linter.unusedVariables false
set_option maxHeartbeats 1000000
set_option maxRecDepth 100000
attribute [local irreducible] wpQuiet

theorem tmod2 (n : Int) : (n.tmod 2 = 0) = (n % 2 = 0) := by
  apply propext
  have := Int.tmod_eq_emod (a := n) (b := 2)
  constructor <;> intro h <;> split at this <;> omega
/-- Is there a page's register at an offset? -/
def isReg (n : Int) : Bool := decide (16 ≤ n) && (decide (n < 80) && decide (n % 2 = 0))
def pgV (n : Int) : Value := if isReg n = true then .tuple #[.int .i64 ((n - 16) / 32), .int .i64 ((n - 16) % 32 / 4), .bool (decide ((n - 16) % 4 = 2)), .bool true] else .tuple #[.int .i64 0, .int .i64 0, .bool false, .bool false]
theorem pgV_no {n : Int} (h : isReg n = false) : pgV n = .tuple #[.int .i64 0, .int .i64 0, .bool false, .bool false] := if_neg (by rw [h]; decide)
theorem pgV_ok {n : Int} (h : isReg n = true) : pgV n = .tuple #[.int .i64 ((n - 16) / 32), .int .i64 ((n - 16) % 32 / 4), .bool (decide ((n - 16) % 4 = 2)), .bool true] := if_pos h

theorem rpage_any (n : Int) (w : World) : Calls Try.prog 33 #[.int .i64 n] w fun e w' => e = .returned (pgV n) ∧ w = w' := by
  have ht := tmod2 n
  by_cases h1 : 16 ≤ n
  · by_cases h2 : n < 80
    · by_cases h3 : n % 2 = 0
      · rw [pgV_ok (by simp [isReg, h1, h2, h3])]
        have hb : n.tmod 2 = 0 := by rw [ht]; exact h3
        have h4 : 0 ≤ n - 16 := by omega
        clear ht
        go_enter Try.func33, Try.ntmps33
        go_wp2
        refine bodyPost_ret (v := .tuple #[.int .i64 ((n - 16) / 32), .int .i64 ((n - 16) % 32 / 4), .bool (decide ((n - 16) % 4 = 2)), .bool true]) (by simp [results, Try.results33, go_sem]; rfl) rfl ⟨rfl, rfl⟩
      · rw [pgV_no (by simp [isReg, h3])]
        have hb : ¬ n.tmod 2 = 0 := by rw [ht]; exact h3
        have hb2 : (n.tmod 2 != 0) = true := by simpa using hb
        have hb3 : (n % 2 != 0) = true := by simpa using h3
        clear ht
        go_enter Try.func33, Try.ntmps33
        go_wp2
        refine bodyPost_ret (v := .tuple #[.int .i64 0, .int .i64 0, .bool false, .bool false]) (by simp [results, Try.results33, go_sem]) rfl ⟨rfl, rfl⟩
    · rw [pgV_no (by simp [isReg, h2])]
      clear ht
      go_enter Try.func33, Try.ntmps33
      go_wp2
      refine bodyPost_ret (v := .tuple #[.int .i64 0, .int .i64 0, .bool false, .bool false]) (by simp [results, Try.results33, go_sem]) rfl ⟨rfl, rfl⟩
  · rw [pgV_no (by simp [isReg, h1])]
    clear ht
    go_enter Try.func33, Try.ntmps33
    go_wp2
    refine bodyPost_ret (v := .tuple #[.int .i64 0, .int .i64 0, .bool false, .bool false]) (by simp [results, Try.results33, go_sem]) rfl ⟨rfl, rfl⟩

/-- One box. -/
structure One (B : Nat) (u : Un) (w0 w : World) : Prop where
  b : Blk 27 w B u.L
  below : Below w0.heap.size w0 w
theorem One.put (u : Un) (w : World) : One w.heap.size u w (w.alloc (.cells u.L.toArray 27)) := ⟨Blk.new _ w u.L, (Below.refl _ _).alloc (Nat.le_refl _) _⟩
theorem One.step {B : Nat} {u : Un} {w0 w w' : World} (h : One B u w0 w) (hb : Below w.heap.size w w') : One B u w0 w' := ⟨h.b.step hb, h.below.trans (hb.mono h.below.size)⟩
theorem One.page {B m p : Nat} {u : Un} {w0 w : World} {g : Pg} (h : One B u w0 w) (hg : u.pg[8 * m + p]? = some g) :
    w.cell? ⟨B, 1 + m * 32 + p * 4, none⟩ = some (.int .i64 g.b) ∧ w.cell? ⟨B, 1 + m * 32 + p * 4 + 1, none⟩ = some (.int .i64 g.l) ∧ w.cell? ⟨B, 1 + m * 32 + p * 4 + 2, none⟩ = some (.int .i64 g.a) ∧ w.cell? ⟨B, 1 + m * 32 + p * 4 + 3, none⟩ = some (.bool g.r) := by
  obtain ⟨q0, q1, q2, q3⟩ := Un.cells hg
  exact ⟨h.b.cell q0, h.b.cell q1, h.b.cell q2, h.b.cell q3⟩
/-- The register at an offset. -/
def statV (u : Un) : Int := if u.on = true then 2 * u.st + 1 else 2 * u.st
def descV (g : Pg) : Int := if g.r = true then g.l + 256 * g.a + 32768 else g.l + 256 * g.a

theorem rrd_stat (u : Un) (hu : u.ok) (n : Int) (hn : n = 0) (h0 : 0 ≤ u.st) (h1 : u.st ≤ 3) (W0 : World) : Calls Try.prog 16 #[.agg u.L.toArray, .int .i64 n] W0 fun e w' => e = .returned (.tuple #[.int .i64 (statV u), .bool true]) ∧ Below W0.heap.size W0 w' := by
  have hX := One.put u W0
  have c0 := hX.b.cell (Un.at0 u)
  have c65 := hX.b.cell (Un.at65 hu)
  have c66 := hX.b.cell (Un.at66 hu)
  have hB := hX.below
  subst hn
  unfold statV
  have V1 : IntKind.i64.wrap (2 * u.st) = 2 * u.st := by rw [wrap_i64]; exact IntWalk.wrap64_in _ ⟨by omega, by omega⟩
  generalize u.st = s at *
  cases hon : u.on
  all_goals
    rw [hon] at c0
    go_enter Try.func16, Try.ntmps16
    go_wp2
    go_ret2
    exact ⟨rfl, hB⟩

theorem rrd_addr (u : Un) (hu : u.ok) (n : Int) (hn : n = 2) (W0 : World) : Calls Try.prog 16 #[.agg u.L.toArray, .int .i64 n] W0 fun e w' => e = .returned (.tuple #[.int .i64 u.ad, .bool true]) ∧ Below W0.heap.size W0 w' := by
  have hX := One.put u W0
  have c0 := hX.b.cell (Un.at0 u)
  have c65 := hX.b.cell (Un.at65 hu)
  have c66 := hX.b.cell (Un.at66 hu)
  have hB := hX.below
  subst hn
  go_enter Try.func16, Try.ntmps16
  go_wp2
  go_ret2
  exact ⟨rfl, hB⟩

theorem rrd_none (u : Un) (hu : u.ok) (n : Int) (hn : isReg n = false) (hn0 : n ≠ 0) (hn2 : n ≠ 2) (W0 : World) : Calls Try.prog 16 #[.agg u.L.toArray, .int .i64 n] W0 fun e w' => e = .returned (.tuple #[.int .i64 0, .bool false]) ∧ Below W0.heap.size W0 w' := by
  have hX := One.put u W0
  have c0 := hX.b.cell (Un.at0 u)
  have c65 := hX.b.cell (Un.at65 hu)
  have c66 := hX.b.cell (Un.at66 hu)
  have hB := hX.below
  have hpgc := fun w => rpage_any n w
  rw [pgV_no hn] at hpgc
  go_enter Try.func16, Try.ntmps16
  go_wp2_with (first | (go_at_call 33; with_reducible refine (hpgc _).mono ?_; rintro e w' ⟨rfl, rfl⟩))
  go_ret2
  exact ⟨rfl, hB⟩

theorem rrd_base (u : Un) (hu : u.ok) (n : Int) (hn : isReg n = true) (m p : Nat) (hm : m < 2) (hp : p < 8) (hnm : (n - 16) / 32 = (m : Int)) (hnp : (n - 16) % 32 / 4 = (p : Int)) (g : Pg) (hg : u.pg[8 * m + p]? = some g) (hd : ¬ (n - 16) % 4 = 2) (W0 : World) : Calls Try.prog 16 #[.agg u.L.toArray, .int .i64 n] W0 fun e w' => e = .returned (.tuple #[.int .i64 g.b, .bool true]) ∧ Below W0.heap.size W0 w' := by
  have hX := One.put u W0
  have c0 := hX.b.cell (Un.at0 u)
  have c65 := hX.b.cell (Un.at65 hu)
  have c66 := hX.b.cell (Un.at66 hu)
  have hB := hX.below
  have hpgc := fun w => rpage_any n w
  rw [pgV_ok hn, hnm, hnp, decide_eq_false hd] at hpgc
  have m0 : (0 : Int) ≤ (m : Int) := by omega
  have m1 : (m : Int) < 2 := by omega
  have p0 : (0 : Int) ≤ (p : Int) := by omega
  have p1 : (p : Int) < 8 := by omega
  have hn0 : ¬ n = 0 := by simp [isReg] at hn; omega
  have hn2 : ¬ n = 2 := by simp [isReg] at hn; omega
  obtain ⟨k0, k1, k2, k3⟩ := hX.page hg
  clear hd hn
  obtain ⟨gb, gl, ga, gr⟩ := g
  simp only at *
  go_enter Try.func16, Try.ntmps16
  go_wp2_with (first | (go_at_call 33; with_reducible refine (hpgc _).mono ?_; rintro e w' ⟨rfl, rfl⟩))
  go_ret2
  exact ⟨rfl, hB.alloc hB.size _⟩

theorem rrd_desc (u : Un) (hu : u.ok) (n : Int) (hn : isReg n = true) (m p : Nat) (hm : m < 2) (hp : p < 8) (hnm : (n - 16) / 32 = (m : Int)) (hnp : (n - 16) % 32 / 4 = (p : Int)) (g : Pg) (hg : u.pg[8 * m + p]? = some g) (hd : (n - 16) % 4 = 2) (hl0 : 0 ≤ g.l) (hl1 : g.l ≤ 128) (ha0 : 0 ≤ g.a) (ha1 : g.a ≤ 2) (W0 : World) : Calls Try.prog 16 #[.agg u.L.toArray, .int .i64 n] W0 fun e w' => e = .returned (.tuple #[.int .i64 (descV g), .bool true]) ∧ Below W0.heap.size W0 w' := by
  have hX := One.put u W0
  have c0 := hX.b.cell (Un.at0 u)
  have c65 := hX.b.cell (Un.at65 hu)
  have c66 := hX.b.cell (Un.at66 hu)
  have hB := hX.below
  have hpgc := fun w => rpage_any n w
  rw [pgV_ok hn, hnm, hnp, decide_eq_true hd] at hpgc
  have m0 : (0 : Int) ≤ (m : Int) := by omega
  have m1 : (m : Int) < 2 := by omega
  have p0 : (0 : Int) ≤ (p : Int) := by omega
  have p1 : (p : Int) < 8 := by omega
  have hn0 : ¬ n = 0 := by simp [isReg] at hn; omega
  have hn2 : ¬ n = 2 := by simp [isReg] at hn; omega
  obtain ⟨k0, k1, k2, k3⟩ := hX.page hg
  clear hd hn
  obtain ⟨gb, gl, ga, gr⟩ := g
  simp only at *
  unfold descV
  cases gr
  all_goals
    go_enter Try.func16, Try.ntmps16
    go_wp2_with (first | (go_at_call 33; with_reducible refine (hpgc _).mono ?_; rintro e w' ⟨rfl, rfl⟩))
    go_ret2
    exact ⟨rfl, hB.alloc hB.size _⟩
end Go.Proofs.Ytggnbfilkogcoaa
