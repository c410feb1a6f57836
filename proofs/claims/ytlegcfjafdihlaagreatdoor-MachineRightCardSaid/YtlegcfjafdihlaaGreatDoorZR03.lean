import Derived.Test.YtlegcfjafdihlaaGreatDoorZR01
import Derived.WalkKit
import Derived.WalkSpells
import Derived.WalkLawsBesides
import Derived.Deep.RegionHeld3
import Derived.Deep.DeepCutAuto
import Derived.Deep.QuietTactic
import Derived.BigQuiet
import Derived.KernelRfl
/-
  The calls of the reference of package mmu that take no unit. No condition but that numbers are integers of the machine.
-/
namespace Go.Proofs.YtlegcfjafdihlaaGreatDoor
open Go.RowKit
set_option linter.unusedSimpArgs false
set_option linter.unusedVariables false
set_option maxHeartbeats 1000000

def Hid_9 (p : Prop) : Prop := p
theorem hid_9 {p : Prop} (h : p) : Hid_9 p := h
theorem ret_bool_9 {a b : Bool} (h : a = b) : Ending.returned (.bool a) = .returned (.bool b) := by rw [h]
/-- The fault of an access to a page. -/
def fltP (p : Pg) (o : Int) (w : Bool) : Int := if p.a = 0 then 1 else if p.l ≤ o / 64 then 2 else if w = true ∧ p.a ≠ 2 then 3 else 0
end Go.Proofs.YtlegcfjafdihlaaGreatDoor
/-
  Translate of the reference of package mmu. No condition but that the pages are sixteen.
-/
namespace Go.Proofs.YtlegcfjafdihlaaGreatDoor
open Go.RowKit
set_option linter.unusedSimpArgs false
set_option linter.unusedVariables false
set_option maxHeartbeats 1000000
set_option maxRecDepth 100000
attribute [local irreducible] wpQuiet

theorem agg_unit (w : World) : (isAgg 37).run Tryz.prog w = .ok true w := by kernel_rfl
theorem size_unit (w : World) : (sizeOf 37).run Tryz.prog w = .ok 67 w := by kernel_rfl
/-- Two boxes: a unit that came in, a unit that goes out. -/
structure Two (B C : Nat) (u v : Un) (w0 w : World) : Prop where
  b : Blk 37 w B u.L
  c : Blk 37 w C v.L
  below : Below w0.heap.size w0 w
theorem Two.put (u : Un) (w : World) : Two w.heap.size (w.heap.size + 1) u Un.z w ((w.alloc (.cells u.L.toArray 37)).alloc (.cells Un.z.L.toArray 37)) := by
  have e : (w.alloc (.cells u.L.toArray 37)).heap.size = w.heap.size + 1 := by simp
  have h := Blk.new 37 (w.alloc (.cells u.L.toArray 37)) Un.z.L
  rw [e] at h
  exact ⟨(Blk.new _ w u.L).alloc _, h, ((Below.refl _ _).alloc (Nat.le_refl _) _).alloc (by simp) _⟩
theorem Two.step {B C : Nat} {u v : Un} {w0 w w' : World} (h : Two B C u v w0 w) (hb : Below w.heap.size w w') : Two B C u v w0 w' := ⟨h.b.step hb, h.c.step hb, h.below.trans (hb.mono h.below.size)⟩
theorem Two.drew {B C : Nat} {u v : Un} {w0 w : World} (h : Two B C u v w0 w) : Two B C u v w0 w.drew := ⟨h.b, h.c, h.below.drew⟩
theorem Two.out {B C : Nat} {u v : Un} {w0 w : World} (h : Two B C u v w0 w) (hu : u.ok) (hv : v.ok) (hn : B ≠ C) (hC : w0.heap.size ≤ C) :
    (loadCells ⟨B, 0, none⟩ 67).run Tryz.prog w = .ok u.L.toArray w ∧ ∃ W, (storeCells ⟨C, 0, none⟩ u.L).run Tryz.prog w = .ok () W ∧ Two B C u u w0 W ∧ (loadVar 37 ⟨C, 0, none⟩).run Tryz.prog W = .ok (.agg u.L.toArray) W := by
  refine ⟨h.b.load (Un.len hu), ?_⟩
  obtain ⟨W, h1, h2, h3, _, h5⟩ := h.c.store (P := Tryz.prog) (cs' := u.L) (by rw [Un.len hu, Un.len hv]) (Un.one u)
  exact ⟨W, h1, ⟨h5 _ _ _ hn h.b, h2, h3 _ _ hC h.below⟩, h2.loadVar (Un.len hu) agg_unit size_unit⟩
theorem Un.cells {u : Un} {m p : Nat} {g : Pg} (hg : u.pg[8 * m + p]? = some g) :
    u.L[1 + m * 32 + p * 4]? = some (.int .i64 g.b) ∧ u.L[1 + m * 32 + p * 4 + 1]? = some (.int .i64 g.l) ∧ u.L[1 + m * 32 + p * 4 + 2]? = some (.int .i64 g.a) ∧ u.L[1 + m * 32 + p * 4 + 3]? = some (.bool g.r) := by
  have e : ∀ j, 1 + m * 32 + p * 4 + j = 1 + (4 * (8 * m + p) + j) := fun j => by omega
  refine ⟨?_, ?_, ?_, ?_⟩
  · have := Un.page hg 0 (by decide); rw [← e] at this; exact this
  · have := Un.page hg 1 (by decide); rw [← e] at this; exact this
  · have := Un.page hg 2 (by decide); rw [← e] at this; exact this
  · have := Un.page hg 3 (by decide); rw [← e] at this; exact this
theorem Two.page {B C m p : Nat} {u v : Un} {w0 w : World} {g : Pg} (h : Two B C u v w0 w) (hg : u.pg[8 * m + p]? = some g) :
    w.cell? ⟨B, 1 + m * 32 + p * 4, none⟩ = some (.int .i64 g.b) ∧ w.cell? ⟨B, 1 + m * 32 + p * 4 + 1, none⟩ = some (.int .i64 g.l) ∧ w.cell? ⟨B, 1 + m * 32 + p * 4 + 2, none⟩ = some (.int .i64 g.a) ∧ w.cell? ⟨B, 1 + m * 32 + p * 4 + 3, none⟩ = some (.bool g.r) := by
  obtain ⟨q0, q1, q2, q3⟩ := Un.cells hg
  exact ⟨h.b.cell q0, h.b.cell q1, h.b.cell q2, h.b.cell q3⟩
/-- The unit in which a page is another one. -/
def Un.withP (u : Un) (k : Nat) (g : Pg) : Un := { u with pg := u.pg.set k g }
theorem Un.withP_at {u : Un} {k : Nat} {g g' : Pg} (hg : u.pg[k]? = some g) : (u.withP k g').pg[k]? = some g' := by
  have hk := (List.getElem?_eq_some_iff.1 hg).1
  simp [Un.withP, hk]
theorem Two.c65 {B C : Nat} {u v : Un} {w0 w : World} (h : Two B C u v w0 w) (hu : u.ok) : w.cell? ⟨B, 65, none⟩ = some (.int .i64 u.st) := h.b.cell (Un.at65 hu)
theorem Two.c66 {B C : Nat} {u v : Un} {w0 w : World} (h : Two B C u v w0 w) (hu : u.ok) : w.cell? ⟨B, 66, none⟩ = some (.int .i64 u.ad) := h.b.cell (Un.at66 hu)
theorem Two.fz {B C : Nat} {u v : Un} {w0 w : World} (h : Two B C u v w0 w) (k : Nat) : w.frozen? ⟨B, k, none⟩ = false := h.b.frozen k

end Go.Proofs.YtlegcfjafdihlaaGreatDoor
/-
  page, Read and Write of the reference of package mmu. No condition but that the pages are sixteen.
-/
namespace Go.Proofs.YtlegcfjafdihlaaGreatDoor
open Go.RowKit
set_option linter.unusedSimpArgs false
set_option linter.unusedVariables false
set_option maxHeartbeats 1000000
set_option maxRecDepth 100000
attribute [local irreducible] wpQuiet

/-- Is there a page's register at an offset? -/
def isReg (n : Int) : Bool := decide (16 ≤ n) && (decide (n < 80) && decide (n % 2 = 0))
/-- One box. -/
structure One (B : Nat) (u : Un) (w0 w : World) : Prop where
  b : Blk 37 w B u.L
  below : Below w0.heap.size w0 w
theorem One.put (u : Un) (w : World) : One w.heap.size u w (w.alloc (.cells u.L.toArray 37)) := ⟨Blk.new _ w u.L, (Below.refl _ _).alloc (Nat.le_refl _) _⟩
theorem One.step {B : Nat} {u : Un} {w0 w w' : World} (h : One B u w0 w) (hb : Below w.heap.size w w') : One B u w0 w' := ⟨h.b.step hb, h.below.trans (hb.mono h.below.size)⟩
theorem One.page {B m p : Nat} {u : Un} {w0 w : World} {g : Pg} (h : One B u w0 w) (hg : u.pg[8 * m + p]? = some g) :
    w.cell? ⟨B, 1 + m * 32 + p * 4, none⟩ = some (.int .i64 g.b) ∧ w.cell? ⟨B, 1 + m * 32 + p * 4 + 1, none⟩ = some (.int .i64 g.l) ∧ w.cell? ⟨B, 1 + m * 32 + p * 4 + 2, none⟩ = some (.int .i64 g.a) ∧ w.cell? ⟨B, 1 + m * 32 + p * 4 + 3, none⟩ = some (.bool g.r) := by
  obtain ⟨q0, q1, q2, q3⟩ := Un.cells hg
  exact ⟨h.b.cell q0, h.b.cell q1, h.b.cell q2, h.b.cell q3⟩
/-- The register at an offset. -/
def statV (u : Un) : Int := if u.on = true then 2 * u.st + 1 else 2 * u.st
def descV (g : Pg) : Int := if g.r = true then g.l + 256 * g.a + 32768 else g.l + 256 * g.a

end Go.Proofs.YtlegcfjafdihlaaGreatDoor
/-
  Write of the reference of package mmu. No condition but that the pages are sixteen.
-/
namespace Go.Proofs.YtlegcfjafdihlaaGreatDoor
open Go.RowKit
set_option linter.unusedSimpArgs false
set_option linter.unusedVariables false
set_option maxHeartbeats 8000000
set_option maxRecDepth 100000
attribute [local irreducible] wpQuiet

theorem Two.putF {B C m p : Nat} {u v : Un} {w0 w : World} {g g' : Pg} (h : Two B C u v w0 w) (hg : u.pg[8 * m + p]? = some g) (hn : C ≠ B) (hB : w0.heap.size ≤ B) (j : Nat) (hj : j < 4) (x : Value) (he : g.L.set j x = g'.L) (k : Nat) (hk : k = 1 + m * 32 + p * 4 + j) : Two B C (u.withP (8 * m + p) g') v w0 (w.setCell ⟨B, k, none⟩ x) := by
  have e : k = 1 + (4 * (8 * m + p) + j) := by omega
  have q := Un.setp (u := u) (p' := g') hg j hj x he
  refine ⟨?_, h.c.other hn _, h.below.setCell hB _⟩
  subst e
  have k2 := h.b.set (1 + (4 * (8 * m + p) + j)) x
  rw [q] at k2
  exact k2
theorem withP_twice (u : Un) (k : Nat) (g g' : Pg) : (u.withP k g).withP k g' = u.withP k g' := by
  unfold Un.withP; simp
end Go.Proofs.YtlegcfjafdihlaaGreatDoor
/-
  Map of the reference of package mmu. No condition but that the pages are sixteen.
-/
namespace Go.Proofs.YtlegcfjafdihlaaGreatDoor
open Go.RowKit
set_option linter.unusedSimpArgs false
set_option linter.unusedVariables false
set_option maxHeartbeats 8000000
set_option maxRecDepth 100000
attribute [local irreducible] wpQuiet

/-- The pages of a mode from number 8 - n on. -/
def mapGo (m : Nat) (acc : Int) : Nat → Un → Int → Int → Un
  | 0, u, _, _ => u
  | n + 1, u, base, blocks =>
    if 0 < blocks then mapGo m acc n (u.withP (8 * m + (7 - n)) ⟨base, min blocks 128, acc, false⟩) (base + min blocks 128) (blocks - min blocks 128)
    else mapGo m acc n (u.withP (8 * m + (7 - n)) Pg.z) base blocks
/-- A whole page stored, cell by cell: the worlds by name. -/
theorem Two.four {B C m p : Nat} {u v : Un} {w0 w : World} {g : Pg} (h : Two B C u v w0 w) (hg : u.pg[8 * m + p]? = some g) (hn : C ≠ B) (hB : w0.heap.size ≤ B) (g' : Pg) :
    ∃ W1 W2 W3 W4, w.setCell ⟨B, 1 + m * 32 + p * 4, none⟩ (.int .i64 g'.b) = W1 ∧ W1.setCell ⟨B, 1 + m * 32 + p * 4 + 1, none⟩ (.int .i64 g'.l) = W2 ∧ W2.setCell ⟨B, 1 + m * 32 + p * 4 + 2, none⟩ (.int .i64 g'.a) = W3 ∧ W3.setCell ⟨B, 1 + m * 32 + p * 4 + 3, none⟩ (.bool g'.r) = W4 ∧
      (w.cell? ⟨B, 1 + m * 32 + p * 4, none⟩ = some (.int .i64 g.b) ∧ w.frozen? ⟨B, 1 + m * 32 + p * 4, none⟩ = false) ∧ (W1.cell? ⟨B, 1 + m * 32 + p * 4 + 1, none⟩ = some (.int .i64 g.l) ∧ W1.frozen? ⟨B, 1 + m * 32 + p * 4 + 1, none⟩ = false) ∧
      (W2.cell? ⟨B, 1 + m * 32 + p * 4 + 2, none⟩ = some (.int .i64 g.a) ∧ W2.frozen? ⟨B, 1 + m * 32 + p * 4 + 2, none⟩ = false) ∧ (W3.cell? ⟨B, 1 + m * 32 + p * 4 + 3, none⟩ = some (.bool g.r) ∧ W3.frozen? ⟨B, 1 + m * 32 + p * 4 + 3, none⟩ = false) ∧ Two B C (u.withP (8 * m + p) g') v w0 W4 := by
  obtain ⟨gb, gl, ga, gr⟩ := g
  obtain ⟨b, l, a, r⟩ := g'
  have h1 := h.putF (g' := ⟨b, gl, ga, gr⟩) hg hn hB 0 (by decide) (.int .i64 b) rfl (1 + m * 32 + p * 4) rfl
  have hg1 := Un.withP_at (g' := ⟨b, gl, ga, gr⟩) hg
  have h2 := h1.putF (g' := ⟨b, l, ga, gr⟩) hg1 hn hB 1 (by decide) (.int .i64 l) rfl (1 + m * 32 + p * 4 + 1) rfl
  have hg2 := Un.withP_at (g' := ⟨b, l, ga, gr⟩) hg1
  have h3 := h2.putF (g' := ⟨b, l, a, gr⟩) hg2 hn hB 2 (by decide) (.int .i64 a) rfl (1 + m * 32 + p * 4 + 2) rfl
  have hg3 := Un.withP_at (g' := ⟨b, l, a, gr⟩) hg2
  have h4 := h3.putF (g' := ⟨b, l, a, r⟩) hg3 hn hB 3 (by decide) (.bool r) rfl (1 + m * 32 + p * 4 + 3) rfl
  rw [withP_twice, withP_twice, withP_twice] at h4
  exact ⟨_, _, _, _, rfl, rfl, rfl, rfl, ⟨(h.page hg).1, h.fz _⟩, ⟨(h1.page hg1).2.1, h1.fz _⟩, ⟨(h2.page hg2).2.2.1, h2.fz _⟩, ⟨(h3.page hg3).2.2.2, h3.fz _⟩, h4⟩
def okMap (mode base blocks acc : Int) : Prop := 0 ≤ mode ∧ mode ≤ 1 ∧ 1 ≤ acc ∧ acc ≤ 2 ∧ 0 ≤ blocks ∧ blocks ≤ 1024 ∧ 0 ≤ base ∧ base ≤ 4096 - blocks
end Go.Proofs.YtlegcfjafdihlaaGreatDoor
/-
  Right of the reference of package mmu. No condition but that the pages are sixteen.
-/
namespace Go.Proofs.YtlegcfjafdihlaaGreatDoor
open Go.RowKit
set_option linter.unusedSimpArgs false
set_option linter.unusedVariables false
set_option maxHeartbeats 8000000
set_option maxRecDepth 100000
attribute [local irreducible] wpQuiet

def Pg.good (g : Pg) : Bool := decide (0 ≤ g.b) && (decide (g.b ≤ 4095) && (decide (0 ≤ g.l) && (decide (g.l ≤ 128) && (decide (0 ≤ g.a) && decide (g.a ≤ 2)))))
def Un.tail (u : Un) : Bool := decide (0 ≤ u.st) && (decide (u.st ≤ 3) && (decide (0 ≤ u.ad) && decide (u.ad < 65536)))
def Un.right (u : Un) : Bool := u.pg.all Pg.good && u.tail
theorem all_drop {l : List Pg} {k : Nat} {g : Pg} (h : l[k]? = some g) : (l.drop k).all Pg.good = (g.good && (l.drop (k + 1)).all Pg.good) := by
  have hk : k < l.length := (List.getElem?_eq_some_iff.1 h).1
  rw [List.drop_eq_getElem_cons hk, (List.getElem?_eq_some_iff.1 h).2]; rfl

theorem rright_any_9 (u : Un) (hu : u.ok) (W0 : World) : Calls Tryz.prog 95 #[.agg u.L.toArray] W0 fun e w' => e = .returned (.bool u.right) ∧ Below W0.heap.size W0 w' := by
  have hX := One.put u W0
  obtain ⟨Q, hQ⟩ : ∃ Q, Hid_9 (Q = u.right) := ⟨_, rfl⟩
  rw [← show Q = u.right from hQ]
  have h65 := Un.at65 hu
  have h66 := Un.at66 hu
  go_enter Tryz.func95, Tryz.ntmps95
  go_wp2
  go_loopw [3] (fun i wr => ∃ m : Nat, m ≤ 2 ∧ i = .int .i64 m ∧ One W0.heap.size u W0 wr ∧ Hid_9 (Q = ((u.pg.drop (8 * m)).all Pg.good && u.tail)))
    (fun i _ => 2 - (intOf i).toNat)
  case atStart => exact ⟨0, by decide, rfl, hX, hQ⟩
  case round =>
    clear hX hQ
    obtain ⟨m, hm, rfl, hX, hQ⟩ := hrel
    by_cases hm2 : m < 2
    · go_wp2
      go_loopw [4] (fun i wq => ∃ p : Nat, p ≤ 8 ∧ i = .int .i64 p ∧ One W0.heap.size u W0 wq ∧ Hid_9 (Q = ((u.pg.drop (8 * m + p)).all Pg.good && u.tail)))
        (fun i _ => 8 - (intOf i).toNat)
      case atStart => exact ⟨0, by decide, rfl, hX, hQ⟩
      case round =>
        clear hX hQ
        obtain ⟨p, hp, rfl, hX, hQ⟩ := hrel
        by_cases hp8 : p < 8
        · obtain ⟨g, hg⟩ : ∃ g, u.pg[8 * m + p]? = some g := ⟨_, List.getElem?_eq_getElem (by have : u.pg.length = 16 := hu; omega)⟩
          have m0 : (0 : Int) ≤ (m : Int) := by omega
          have m1 : (m : Int) < 2 := by omega
          have p0 : (0 : Int) ≤ (p : Int) := by omega
          have p1 : (p : Int) < 8 := by omega
          obtain ⟨k0, k1, k2, k3⟩ := hX.page hg
          have hd := all_drop hg
          obtain ⟨gb, gl, ga, gr⟩ := g
          simp only [Pg.good] at *
          have hB := hX.below
          have hX2 := hX.step ((Below.refl wr.heap.size wr).alloc (Nat.le_refl _) (.cells #[.int .i64 gb, .int .i64 gl, .int .i64 ga, .bool gr] 33))
          clear hX
          replace hd := hid_9 hd
          replace hg := hid_9 hg
          by_cases h0 : 0 ≤ gb
          · skip
            by_cases h1 : gb ≤ 4095
            · skip
              by_cases h2 : 0 ≤ gl
              · skip
                by_cases h3 : gl ≤ 128
                · skip
                  by_cases h4 : 0 ≤ ga
                  · skip
                    by_cases h5 : ga ≤ 2
                    · have hQ : Hid_9 (Q = ((u.pg.drop (8 * m + (p + 1))).all Pg.good && u.tail)) := by
                        show _ = _
                        rw [show Q = _ from hQ, show _ = _ from hd]
                        simp only [decide_eq_true h0, decide_eq_true h1, decide_eq_true h2, decide_eq_true h3, decide_eq_true h4, decide_eq_true h5, Bool.true_and]
                        rfl
                      clear hd
                      go_wp2
                      go_round
                      case rel => (simp only [eq_true (show (m : Int) < 2 by omega), decide_true]; (iterate 41 apply Exists.intro); refine ⟨?_, rfl⟩; exact ⟨p + 1, by omega, by go_num, hX2, hQ⟩)
                      case measure => simp [intOf]; omega
                    · have hQ : Hid_9 (Q = false) := by
                        show _ = _
                        rw [show Q = _ from hQ, show _ = _ from hd]
                        simp only [decide_eq_false h5, Bool.false_and, Bool.and_false]
                      clear hd
                      go_wp2
                      go_ret
                      exact ⟨ret_bool_9 (by rw [show Q = false from hQ]), hX2.below⟩
                  · have hQ : Hid_9 (Q = false) := by
                      show _ = _
                      rw [show Q = _ from hQ, show _ = _ from hd]
                      simp only [decide_eq_false h4, Bool.false_and, Bool.and_false]
                    clear hd
                    go_wp2
                    go_ret
                    exact ⟨ret_bool_9 (by rw [show Q = false from hQ]), hX2.below⟩
                · have hQ : Hid_9 (Q = false) := by
                    show _ = _
                    rw [show Q = _ from hQ, show _ = _ from hd]
                    simp only [decide_eq_false h3, Bool.false_and, Bool.and_false]
                  clear hd
                  go_wp2
                  go_ret
                  exact ⟨ret_bool_9 (by rw [show Q = false from hQ]), hX2.below⟩
              · have hQ : Hid_9 (Q = false) := by
                  show _ = _
                  rw [show Q = _ from hQ, show _ = _ from hd]
                  simp only [decide_eq_false h2, Bool.false_and, Bool.and_false]
                clear hd
                go_wp2
                go_ret
                exact ⟨ret_bool_9 (by rw [show Q = false from hQ]), hX2.below⟩
            · have hQ : Hid_9 (Q = false) := by
                show _ = _
                rw [show Q = _ from hQ, show _ = _ from hd]
                simp only [decide_eq_false h1, Bool.false_and, Bool.and_false]
              clear hd
              go_wp2
              go_ret
              exact ⟨ret_bool_9 (by rw [show Q = false from hQ]), hX2.below⟩
          · have hQ : Hid_9 (Q = false) := by
              show _ = _
              rw [show Q = _ from hQ, show _ = _ from hd]
              simp only [decide_eq_false h0, Bool.false_and, Bool.and_false]
            clear hd
            go_wp2
            go_ret
            exact ⟨ret_bool_9 (by rw [show Q = false from hQ]), hX2.below⟩
        · obtain rfl : p = 8 := by omega
          go_wp2
          go_round
          case rel => exact ⟨m + 1, by omega, by go_num, hX, hQ⟩
          case measure => simp [intOf]; omega
    · obtain rfl : m = 2 := by omega
      have hQ : Hid_9 (Q = u.tail) := by
        show _ = _
        rw [show Q = _ from hQ, List.drop_eq_nil_of_le (by have : u.pg.length = 16 := hu; omega)]
        rfl
      have c65 := hX.b.cell h65
      have c66 := hX.b.cell h66
      have hB := hX.below
      unfold Un.tail at hQ
      generalize u.st = s at *
      generalize u.ad = d at *
      by_cases h0 : 0 ≤ s
      · skip
        by_cases h1 : s ≤ 3
        · skip
          by_cases h2 : 0 ≤ d
          · skip
            by_cases h3 : d < 65536
            · have hQ : Hid_9 (Q = true) := by
                show _ = _
                rw [show Q = _ from hQ]
                simp only [decide_eq_true h0, decide_eq_true h1, decide_eq_true h2, decide_eq_true h3, Bool.true_and]
              go_wp2
              go_ret
              exact ⟨ret_bool_9 (by rw [show Q = true from hQ]), hB⟩
            · have hQ : Hid_9 (Q = false) := by
                show _ = _
                rw [show Q = _ from hQ]
                simp only [decide_eq_false h3, Bool.false_and, Bool.and_false]
              go_wp2
              go_ret
              exact ⟨ret_bool_9 (by rw [show Q = false from hQ]), hB⟩
          · have hQ : Hid_9 (Q = false) := by
              show _ = _
              rw [show Q = _ from hQ]
              simp only [decide_eq_false h2, Bool.false_and, Bool.and_false]
            go_wp2
            go_ret
            exact ⟨ret_bool_9 (by rw [show Q = false from hQ]), hB⟩
        · have hQ : Hid_9 (Q = false) := by
            show _ = _
            rw [show Q = _ from hQ]
            simp only [decide_eq_false h1, Bool.false_and, Bool.and_false]
          go_wp2
          go_ret
          exact ⟨ret_bool_9 (by rw [show Q = false from hQ]), hB⟩
      · have hQ : Hid_9 (Q = false) := by
          show _ = _
          rw [show Q = _ from hQ]
          simp only [decide_eq_false h0, Bool.false_and, Bool.and_false]
        go_wp2
        go_ret
        exact ⟨ret_bool_9 (by rw [show Q = false from hQ]), hB⟩
end Go.Proofs.YtlegcfjafdihlaaGreatDoor
/-
  The reference of package mmu: one contract for each function, over plain functions of units.
-/
namespace Go.Proofs.YtlegcfjafdihlaaGreatDoor
open Go.RowKit
set_option linter.unusedSimpArgs false
set_option linter.unusedVariables false
attribute [local irreducible] wpQuiet

def Un.pgAt (u : Un) (k : Nat) : Pg := u.pg.getD k Pg.z
def Un.kAt (mode addr : Int) : Nat := 8 * (mode % 2).toNat + (addr % 65536 / 8192).toNat
def Un.trans (u : Un) (mode addr : Int) (wr : Bool) : Int × Un × Int :=
  if u.on = true then
    if fltP (u.pgAt (Un.kAt mode addr)) (addr % 65536 % 8192) wr = 0 then
      ((64 * (u.pgAt (Un.kAt mode addr)).b + addr % 65536 % 8192) % 262144, if wr = true then u.withP (Un.kAt mode addr) { u.pgAt (Un.kAt mode addr) with r := true } else u, 0)
    else (0, { u with st := fltP (u.pgAt (Un.kAt mode addr)) (addr % 65536 % 8192) wr, ad := addr % 65536 }, 8)
  else if addr % 65536 < 57344 then (addr % 65536, u, 0) else (addr % 65536 + 196608, u, 0)

def regK (n : Int) : Nat := 8 * ((n - 16) / 32).toNat + ((n - 16) % 32 / 4).toNat
def Un.read (u : Un) (n : Int) : Int × Bool :=
  if n = 0 then (statV u, true) else if n = 2 then (u.ad, true)
  else if isReg n = true then (if (n - 16) % 4 = 2 then (descV (u.pgAt (regK n)), true) else ((u.pgAt (regK n)).b, true))
  else (0, false)
def Un.write (u : Un) (n v : Int) : Un × Bool :=
  if n = 0 then ({ u with on := decide (v % 65536 % 2 = 1), st := v % 65536 / 2 % 4 }, true) else if n = 2 then (u, true)
  else if isReg n = true then
    (if (n - 16) % 4 = 2 then (u.withP (regK n) ⟨(u.pgAt (regK n)).b, min (v % 65536 % 256) 128, min (v % 65536 / 256 % 4) 2, false⟩, true)
     else (u.withP (regK n) { u.pgAt (regK n) with b := v % 65536 % 4096 }, true))
  else (u, false)
open Classical in
noncomputable def Un.map (u : Un) (mode base blocks acc : Int) : Un × Int := if okMap mode base blocks acc then (mapGo mode.toNat acc 8 u base blocks, 0) else (Un.z, 1)
end Go.Proofs.YtlegcfjafdihlaaGreatDoor
