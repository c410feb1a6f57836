import Derived.Test.YthpnddgfgpacpaaGreatRD02
import Derived.Test.YthpnddgfgpacpaaGreatRD01
import Derived.BigQuiet
import Derived.Lib.Strings
/-
  Map of the reference of package mmu. No condition but that the pages are sixteen.
-/
namespace Go.Proofs.YthpnddgfgpacpaaGreat
open Go.RowKit
set_option linter.unusedSimpArgs false
set_option linter.unusedVariables false
set_option maxHeartbeats 8000000
set_option maxRecDepth 100000
attribute [local irreducible] wpQuiet

/-- The pages of a mode from number 8 - n on. -/
def mapGo (m : Nat) (acc : Int) : Nat → Un → Int → Int → Un
  | 0, u, _, _ => u
  | n + 1, u, base, blocks =>
    if 0 < blocks then mapGo m acc n (u.withP (8 * m + (7 - n)) ⟨base, min blocks 128, acc, false⟩) (base + min blocks 128) (blocks - min blocks 128)
    else mapGo m acc n (u.withP (8 * m + (7 - n)) Pg.z) base blocks
/-- A whole page stored, cell by cell: the worlds by name. -/
theorem Two.four {B C m p : Nat} {u v : Un} {w0 w : World} {g : Pg} (h : Two B C u v w0 w) (hg : u.pg[8 * m + p]? = some g) (hn : C ≠ B) (hB : w0.heap.size ≤ B) (g' : Pg) :
    ∃ W1 W2 W3 W4, w.setCell ⟨B, 1 + m * 32 + p * 4, none⟩ (.int .i64 g'.b) = W1 ∧ W1.setCell ⟨B, 1 + m * 32 + p * 4 + 1, none⟩ (.int .i64 g'.l) = W2 ∧ W2.setCell ⟨B, 1 + m * 32 + p * 4 + 2, none⟩ (.int .i64 g'.a) = W3 ∧ W3.setCell ⟨B, 1 + m * 32 + p * 4 + 3, none⟩ (.bool g'.r) = W4 ∧
      (w.cell? ⟨B, 1 + m * 32 + p * 4, none⟩ = some (.int .i64 g.b) ∧ w.frozen? ⟨B, 1 + m * 32 + p * 4, none⟩ = false) ∧ (W1.cell? ⟨B, 1 + m * 32 + p * 4 + 1, none⟩ = some (.int .i64 g.l) ∧ W1.frozen? ⟨B, 1 + m * 32 + p * 4 + 1, none⟩ = false) ∧
      (W2.cell? ⟨B, 1 + m * 32 + p * 4 + 2, none⟩ = some (.int .i64 g.a) ∧ W2.frozen? ⟨B, 1 + m * 32 + p * 4 + 2, none⟩ = false) ∧ (W3.cell? ⟨B, 1 + m * 32 + p * 4 + 3, none⟩ = some (.bool g.r) ∧ W3.frozen? ⟨B, 1 + m * 32 + p * 4 + 3, none⟩ = false) ∧ Two B C (u.withP (8 * m + p) g') v w0 W4 := by
  obtain ⟨gb, gl, ga, gr⟩ := g
  obtain ⟨b, l, a, r⟩ := g'
  have h1 := h.putF (g' := ⟨b, gl, ga, gr⟩) hg hn hB 0 (by decide) (.int .i64 b) rfl (1 + m * 32 + p * 4) rfl
  have hg1 := Un.withP_at (g' := ⟨b, gl, ga, gr⟩) hg
  have h2 := h1.putF (g' := ⟨b, l, ga, gr⟩) hg1 hn hB 1 (by decide) (.int .i64 l) rfl (1 + m * 32 + p * 4 + 1) rfl
  have hg2 := Un.withP_at (g' := ⟨b, l, ga, gr⟩) hg1
  have h3 := h2.putF (g' := ⟨b, l, a, gr⟩) hg2 hn hB 2 (by decide) (.int .i64 a) rfl (1 + m * 32 + p * 4 + 2) rfl
  have hg3 := Un.withP_at (g' := ⟨b, l, a, gr⟩) hg2
  have h4 := h3.putF (g' := ⟨b, l, a, r⟩) hg3 hn hB 3 (by decide) (.bool r) rfl (1 + m * 32 + p * 4 + 3) rfl
  rw [withP_twice, withP_twice, withP_twice] at h4
  exact ⟨_, _, _, _, rfl, rfl, rfl, rfl, ⟨(h.page hg).1, h.fz _⟩, ⟨(h1.page hg1).2.1, h1.fz _⟩, ⟨(h2.page hg2).2.2.1, h2.fz _⟩, ⟨(h3.page hg3).2.2.2, h3.fz _⟩, h4⟩
def okMap (mode base blocks acc : Int) : Prop := 0 ≤ mode ∧ mode ≤ 1 ∧ 1 ≤ acc ∧ acc ≤ 2 ∧ 0 ≤ blocks ∧ blocks ≤ 1024 ∧ 0 ≤ base ∧ base ≤ 4096 - blocks
end Go.Proofs.YthpnddgfgpacpaaGreat
/-
  Right of the reference of package mmu. No condition but that the pages are sixteen.
-/
namespace Go.Proofs.YthpnddgfgpacpaaGreat
open Go.RowKit
set_option linter.unusedSimpArgs false
set_option linter.unusedVariables false
set_option maxHeartbeats 8000000
set_option maxRecDepth 100000
attribute [local irreducible] wpQuiet

def Pg.good (g : Pg) : Bool := decide (0 ≤ g.b) && (decide (g.b ≤ 4095) && (decide (0 ≤ g.l) && (decide (g.l ≤ 128) && (decide (0 ≤ g.a) && decide (g.a ≤ 2)))))
def Un.tail (u : Un) : Bool := decide (0 ≤ u.st) && (decide (u.st ≤ 3) && (decide (0 ≤ u.ad) && decide (u.ad < 65536)))
def Un.right (u : Un) : Bool := u.pg.all Pg.good && u.tail
theorem all_drop {l : List Pg} {k : Nat} {g : Pg} (h : l[k]? = some g) : (l.drop k).all Pg.good = (g.good && (l.drop (k + 1)).all Pg.good) := by
  have hk : k < l.length := (List.getElem?_eq_some_iff.1 h).1
  rw [List.drop_eq_getElem_cons hk, (List.getElem?_eq_some_iff.1 h).2]; rfl

theorem rright_any_9 (u : Un) (hu : u.ok) (W0 : World) : Calls Tryz.prog 32 #[.agg u.L.toArray] W0 fun e w' => e = .returned (.bool u.right) ∧ Below W0.heap.size W0 w' := by
  have hX := One.put u W0
  obtain ⟨Q, hQ⟩ : ∃ Q, Hid_9 (Q = u.right) := ⟨_, rfl⟩
  rw [← show Q = u.right from hQ]
  have h65 := Un.at65 hu
  have h66 := Un.at66 hu
  go_enter Tryz.func32, Tryz.ntmps32
  go_wp2
  go_loopw [3] (fun i wr => ∃ m : Nat, m ≤ 2 ∧ i = .int .i64 m ∧ One W0.heap.size u W0 wr ∧ Hid_9 (Q = ((u.pg.drop (8 * m)).all Pg.good && u.tail)))
    (fun i _ => 2 - (intOf i).toNat)
  case atStart => exact ⟨0, by decide, rfl, hX, hQ⟩
  case round =>
    clear hX hQ
    obtain ⟨m, hm, rfl, hX, hQ⟩ := hrel
    by_cases hm2 : m < 2
    · go_wp2
      go_loopw [4] (fun i wq => ∃ p : Nat, p ≤ 8 ∧ i = .int .i64 p ∧ One W0.heap.size u W0 wq ∧ Hid_9 (Q = ((u.pg.drop (8 * m + p)).all Pg.good && u.tail)))
        (fun i _ => 8 - (intOf i).toNat)
      case atStart => exact ⟨0, by decide, rfl, hX, hQ⟩
      case round =>
        clear hX hQ
        obtain ⟨p, hp, rfl, hX, hQ⟩ := hrel
        by_cases hp8 : p < 8
        · obtain ⟨g, hg⟩ : ∃ g, u.pg[8 * m + p]? = some g := ⟨_, List.getElem?_eq_getElem (by have : u.pg.length = 16 := hu; omega)⟩
          have m0 : (0 : Int) ≤ (m : Int) := by omega
          have m1 : (m : Int) < 2 := by omega
          have p0 : (0 : Int) ≤ (p : Int) := by omega
          have p1 : (p : Int) < 8 := by omega
          obtain ⟨k0, k1, k2, k3⟩ := hX.page hg
          have hd := all_drop hg
          obtain ⟨gb, gl, ga, gr⟩ := g
          simp only [Pg.good] at *
          have hB := hX.below
          have hX2 := hX.step ((Below.refl wr.heap.size wr).alloc (Nat.le_refl _) (.cells #[.int .i64 gb, .int .i64 gl, .int .i64 ga, .bool gr] 28))
          clear hX
          replace hd := hid_9 hd
          replace hg := hid_9 hg
          by_cases h0 : 0 ≤ gb
          · skip
            by_cases h1 : gb ≤ 4095
            · skip
              by_cases h2 : 0 ≤ gl
              · skip
                by_cases h3 : gl ≤ 128
                · skip
                  by_cases h4 : 0 ≤ ga
                  · skip
                    by_cases h5 : ga ≤ 2
                    · have hQ : Hid_9 (Q = ((u.pg.drop (8 * m + (p + 1))).all Pg.good && u.tail)) := by
                        show _ = _
                        rw [show Q = _ from hQ, show _ = _ from hd]
                        simp only [decide_eq_true h0, decide_eq_true h1, decide_eq_true h2, decide_eq_true h3, decide_eq_true h4, decide_eq_true h5, Bool.true_and]
                        rfl
                      clear hd
                      go_wp2
                      go_round
                      case rel => (simp only [eq_true (show (m : Int) < 2 by omega), decide_true]; (iterate 41 apply Exists.intro); refine ⟨?_, rfl⟩; exact ⟨p + 1, by omega, by go_num, hX2, hQ⟩)
                      case measure => simp [intOf]; omega
                    · have hQ : Hid_9 (Q = false) := by
                        show _ = _
                        rw [show Q = _ from hQ, show _ = _ from hd]
                        simp only [decide_eq_false h5, Bool.false_and, Bool.and_false]
                      clear hd
                      go_wp2
                      go_ret
                      exact ⟨ret_bool_9 (by rw [show Q = false from hQ]), hX2.below⟩
                  · have hQ : Hid_9 (Q = false) := by
                      show _ = _
                      rw [show Q = _ from hQ, show _ = _ from hd]
                      simp only [decide_eq_false h4, Bool.false_and, Bool.and_false]
                    clear hd
                    go_wp2
                    go_ret
                    exact ⟨ret_bool_9 (by rw [show Q = false from hQ]), hX2.below⟩
                · have hQ : Hid_9 (Q = false) := by
                    show _ = _
                    rw [show Q = _ from hQ, show _ = _ from hd]
                    simp only [decide_eq_false h3, Bool.false_and, Bool.and_false]
                  clear hd
                  go_wp2
                  go_ret
                  exact ⟨ret_bool_9 (by rw [show Q = false from hQ]), hX2.below⟩
              · have hQ : Hid_9 (Q = false) := by
                  show _ = _
                  rw [show Q = _ from hQ, show _ = _ from hd]
                  simp only [decide_eq_false h2, Bool.false_and, Bool.and_false]
                clear hd
                go_wp2
                go_ret
                exact ⟨ret_bool_9 (by rw [show Q = false from hQ]), hX2.below⟩
            · have hQ : Hid_9 (Q = false) := by
                show _ = _
                rw [show Q = _ from hQ, show _ = _ from hd]
                simp only [decide_eq_false h1, Bool.false_and, Bool.and_false]
              clear hd
              go_wp2
              go_ret
              exact ⟨ret_bool_9 (by rw [show Q = false from hQ]), hX2.below⟩
          · have hQ : Hid_9 (Q = false) := by
              show _ = _
              rw [show Q = _ from hQ, show _ = _ from hd]
              simp only [decide_eq_false h0, Bool.false_and, Bool.and_false]
            clear hd
            go_wp2
            go_ret
            exact ⟨ret_bool_9 (by rw [show Q = false from hQ]), hX2.below⟩
        · obtain rfl : p = 8 := by omega
          go_wp2
          go_round
          case rel => exact ⟨m + 1, by omega, by go_num, hX, hQ⟩
          case measure => simp [intOf]; omega
    · obtain rfl : m = 2 := by omega
      have hQ : Hid_9 (Q = u.tail) := by
        show _ = _
        rw [show Q = _ from hQ, List.drop_eq_nil_of_le (by have : u.pg.length = 16 := hu; omega)]
        rfl
      have c65 := hX.b.cell h65
      have c66 := hX.b.cell h66
      have hB := hX.below
      unfold Un.tail at hQ
      generalize u.st = s at *
      generalize u.ad = d at *
      by_cases h0 : 0 ≤ s
      · skip
        by_cases h1 : s ≤ 3
        · skip
          by_cases h2 : 0 ≤ d
          · skip
            by_cases h3 : d < 65536
            · have hQ : Hid_9 (Q = true) := by
                show _ = _
                rw [show Q = _ from hQ]
                simp only [decide_eq_true h0, decide_eq_true h1, decide_eq_true h2, decide_eq_true h3, Bool.true_and]
              go_wp2
              go_ret
              exact ⟨ret_bool_9 (by rw [show Q = true from hQ]), hB⟩
            · have hQ : Hid_9 (Q = false) := by
                show _ = _
                rw [show Q = _ from hQ]
                simp only [decide_eq_false h3, Bool.false_and, Bool.and_false]
              go_wp2
              go_ret
              exact ⟨ret_bool_9 (by rw [show Q = false from hQ]), hB⟩
          · have hQ : Hid_9 (Q = false) := by
              show _ = _
              rw [show Q = _ from hQ]
              simp only [decide_eq_false h2, Bool.false_and, Bool.and_false]
            go_wp2
            go_ret
            exact ⟨ret_bool_9 (by rw [show Q = false from hQ]), hB⟩
        · have hQ : Hid_9 (Q = false) := by
            show _ = _
            rw [show Q = _ from hQ]
            simp only [decide_eq_false h1, Bool.false_and, Bool.and_false]
          go_wp2
          go_ret
          exact ⟨ret_bool_9 (by rw [show Q = false from hQ]), hB⟩
      · have hQ : Hid_9 (Q = false) := by
          show _ = _
          rw [show Q = _ from hQ]
          simp only [decide_eq_false h0, Bool.false_and, Bool.and_false]
        go_wp2
        go_ret
        exact ⟨ret_bool_9 (by rw [show Q = false from hQ]), hB⟩
end Go.Proofs.YthpnddgfgpacpaaGreat
/-
  The reference of package mmu: one contract for each function, over plain functions of units.
-/
namespace Go.Proofs.YthpnddgfgpacpaaGreat
open Go.RowKit
set_option linter.unusedSimpArgs false
set_option linter.unusedVariables false
attribute [local irreducible] wpQuiet

def Un.pgAt (u : Un) (k : Nat) : Pg := u.pg.getD k Pg.z
theorem Un.pgAt_some {u : Un} (hu : u.ok) {k : Nat} (hk : k < 16) : u.pg[k]? = some (u.pgAt k) := by
  have hl : k < u.pg.length := by rw [show u.pg.length = 16 from hu]; exact hk
  unfold Un.pgAt
  rw [List.getD_eq_getElem?_getD, List.getElem?_eq_getElem hl]; rfl
theorem Pg.good_all {g : Pg} (h : g.good = true) : 0 ≤ g.b ∧ g.b ≤ 4095 ∧ 0 ≤ g.l ∧ g.l ≤ 128 ∧ 0 ≤ g.a ∧ g.a ≤ 2 := by
  unfold Pg.good at h
  simpa only [Bool.and_eq_true, decide_eq_true_eq] using h
theorem Un.right_at {u : Un} (h : u.right = true) (hu : u.ok) {k : Nat} (hk : k < 16) : (u.pgAt k).good = true := by
  unfold Un.right at h
  rw [Bool.and_eq_true, List.all_eq_true] at h
  exact h.1 _ (List.mem_of_getElem? (Un.pgAt_some hu hk))
theorem Un.right_tail {u : Un} (h : u.right = true) : 0 ≤ u.st ∧ u.st ≤ 3 ∧ 0 ≤ u.ad ∧ u.ad < 65536 := by
  unfold Un.right at h
  rw [Bool.and_eq_true] at h
  have h2 := h.2
  unfold Un.tail at h2
  simpa only [Bool.and_eq_true, decide_eq_true_eq] using h2

def Un.kAt (mode addr : Int) : Nat := 8 * (mode % 2).toNat + (addr % 65536 / 8192).toNat
def Un.trans (u : Un) (mode addr : Int) (wr : Bool) : Int × Un × Int :=
  if u.on = true then
    if fltP (u.pgAt (Un.kAt mode addr)) (addr % 65536 % 8192) wr = 0 then
      ((64 * (u.pgAt (Un.kAt mode addr)).b + addr % 65536 % 8192) % 262144, if wr = true then u.withP (Un.kAt mode addr) { u.pgAt (Un.kAt mode addr) with r := true } else u, 0)
    else (0, { u with st := fltP (u.pgAt (Un.kAt mode addr)) (addr % 65536 % 8192) wr, ad := addr % 65536 }, 8)
  else if addr % 65536 < 57344 then (addr % 65536, u, 0) else (addr % 65536 + 196608, u, 0)

def regK (n : Int) : Nat := 8 * ((n - 16) / 32).toNat + ((n - 16) % 32 / 4).toNat
theorem isReg_all {n : Int} (h : isReg n = true) : 16 ≤ n ∧ n < 80 ∧ n % 2 = 0 := by
  unfold isReg at h
  simpa only [Bool.and_eq_true, decide_eq_true_eq] using h
theorem regK_lt {n : Int} (h : isReg n = true) : regK n < 16 := by have := isReg_all h; unfold regK; omega
def Un.read (u : Un) (n : Int) : Int × Bool :=
  if n = 0 then (statV u, true) else if n = 2 then (u.ad, true)
  else if isReg n = true then (if (n - 16) % 4 = 2 then (descV (u.pgAt (regK n)), true) else ((u.pgAt (regK n)).b, true))
  else (0, false)
theorem rread_any_9 (u : Un) (hu : u.ok) (hr : u.right = true) (n : Int) (W0 : World) : Calls Tryz.prog 97 #[.agg u.L.toArray, .int .i64 n] W0 fun e w' => e = .returned (.tuple #[.int .i64 (u.read n).1, .bool (u.read n).2]) ∧ Below W0.heap.size W0 w' := by
  have ht := Un.right_tail hr
  by_cases h0 : n = 0
  · rw [show u.read n = _ from by unfold Un.read; rw [if_pos h0]]
    exact rrd_stat u hu n h0 ht.1 ht.2.1 W0
  by_cases h2 : n = 2
  · rw [show u.read n = _ from by unfold Un.read; rw [if_neg h0, if_pos h2]]
    exact rrd_addr u hu n h2 W0
  by_cases hn : isReg n = true
  · have hk := regK_lt hn
    have hg := Un.pgAt_some hu hk
    have hgd := Pg.good_all (Un.right_at hr hu hk)
    have hi := isReg_all hn
    by_cases hd : (n - 16) % 4 = 2
    · rw [show u.read n = _ from by unfold Un.read; rw [if_neg h0, if_neg h2, if_pos hn, if_pos hd]]
      exact rrd_desc u hu n hn ((n - 16) / 32).toNat ((n - 16) % 32 / 4).toNat (by omega) (by omega) (by omega) (by omega) _ hg hd hgd.2.2.1 hgd.2.2.2.1 hgd.2.2.2.2.1 hgd.2.2.2.2.2 W0
    · rw [show u.read n = _ from by unfold Un.read; rw [if_neg h0, if_neg h2, if_pos hn, if_neg hd]]
      exact rrd_base u hu n hn ((n - 16) / 32).toNat ((n - 16) % 32 / 4).toNat (by omega) (by omega) (by omega) (by omega) _ hg hd W0
  · rw [show u.read n = _ from by unfold Un.read; rw [if_neg h0, if_neg h2, if_neg hn]]
    exact rrd_none u hu n (by simpa using hn) h0 h2 W0

def Un.write (u : Un) (n v : Int) : Un × Bool :=
  if n = 0 then ({ u with on := decide (v % 65536 % 2 = 1), st := v % 65536 / 2 % 4 }, true) else if n = 2 then (u, true)
  else if isReg n = true then
    (if (n - 16) % 4 = 2 then (u.withP (regK n) ⟨(u.pgAt (regK n)).b, min (v % 65536 % 256) 128, min (v % 65536 / 256 % 4) 2, false⟩, true)
     else (u.withP (regK n) { u.pgAt (regK n) with b := v % 65536 % 4096 }, true))
  else (u, false)
open Classical in
noncomputable def Un.map (u : Un) (mode base blocks acc : Int) : Un × Int := if okMap mode base blocks acc then (mapGo mode.toNat acc 8 u base blocks, 0) else (Un.z, 1)
end Go.Proofs.YthpnddgfgpacpaaGreat
/-
  A region that draws its order, whose operations keep a class of worlds. General. No condition.
-/
namespace Go.Proofs.YthpnddgfgpacpaaGreat
open Go.RowKit
theorem region_class {P : Program} {id : Nat} {Q : Exit → Act → World → Prop} {a : Act} {w : World} {l : List Oper} (C : World → Prop) (hm : P.follows .mixedOrders = true) (hB : Region.lexB .any l.toArray = true) (hC : C w.drew)
    (h : wpQuiet P l.toArray C (fun a' => ∀ w', C w' → Q .normal a' w') l a) : (Code.region id l.toArray true).wp P Q a w :=
  wp_region_quiet hm hB hC (by simpa using h)
section
variable {P : Program} {ops : Array Oper} {Q : Exit → Act → World → Prop} {l : List Oper} {a : Act} {w : World} {T ty : TypeId} {x y : Operand} {dst : Option Tmp} {pos : String} {after : Array Edge} {g : Option (Nat × Bool)}
/-- It begins with a store. -/
theorem at_store (h : wpList P ops Q ({ dst := dst, op := .store T x y, type := ty, pos := pos, after := after, guard := g } :: l) a w) : wpList P ops Q ({ dst := dst, op := .store T x y, type := ty, pos := pos, after := after, guard := g } :: l) a w := h
/-- It begins with a load. -/
theorem at_load (h : wpList P ops Q ({ dst := dst, op := .load T x, type := ty, pos := pos, after := after, guard := g } :: l) a w) : wpList P ops Q ({ dst := dst, op := .load T x, type := ty, pos := pos, after := after, guard := g } :: l) a w := h
end
end Go.Proofs.YthpnddgfgpacpaaGreat
/-
  The line clock: plain; blocks of a clock. No condition.
-/
namespace Go.Proofs.YthpnddgfgpacpaaGreat
open Go.RowKit
set_option linter.unusedSimpArgs false
set_option linter.unusedVariables false
set_option maxHeartbeats 4000000
set_option maxRecDepth 100000
attribute [local irreducible] wpQuiet

/-- A clock. -/
structure Ck where
  e : Bool
  r : Bool
  p : Int
  l : Int
def Ck.L (c : Ck) : List Value := [.bool c.e, .bool c.r, .int .i64 c.p, .int .i64 c.l]
/-- Is it valid? -/
def Ck.right (c : Ck) : Bool := decide (1 ≤ c.p) && decide (c.p ≤ 65535) && decide (1 ≤ c.l) && decide (c.l ≤ c.p)
def Ck.tick (c : Ck) : Ck := if c.l = 1 then { c with r := true, l := c.p } else { c with l := c.l - 1 }
def Ck.read (c : Ck) : Int := (if c.e = true then 64 else 0) + (if c.r = true then 128 else 0)
def Ck.write (c : Ck) (v : Int) : Ck := { c with e := decide (v / 64 % 2 = 1), r := c.r && decide (v / 128 % 2 = 1) }
def Ck.acc (c : Ck) (v : Int) : Ck := if v = 64 then { c with r := false } else c
def Ck.reset (c : Ck) : Ck := ⟨false, false, c.p, c.p⟩
def Ck.req (c : Ck) : List (Int × Int) := if c.e = true ∧ c.r = true then [(6, 64)] else []
def Ck.z : Ck := ⟨false, false, 0, 0⟩
/-- A new one, and the error. -/
def newK (n : Int) : Ck × Int := if 1 ≤ n ∧ n ≤ 65535 then (⟨false, false, n, n⟩, 0) else (Ck.z, 2)
theorem Ck.right_iff (c : Ck) : c.right = true ↔ 1 ≤ c.p ∧ c.p ≤ 65535 ∧ 1 ≤ c.l ∧ c.l ≤ c.p := by
  unfold Ck.right
  simp only [Bool.and_eq_true, decide_eq_true_eq]
  omega
theorem aggK_13 (w : World) : (isAgg 34).run Tryz.prog w = .ok true w := by kernel_rfl
theorem sizK_13 (w : World) : (sizeOf 34).run Tryz.prog w = .ok 4 w := by kernel_rfl
theorem two_new (w : World) (cs ds : List Value) : Bag [(w.heap.size + 1, 34, ds), (w.heap.size, 34, cs)] w ((w.alloc (.cells cs.toArray 34)).alloc (.cells ds.toArray 34)) := by
  have h := ((Bag.nil w).new 34 cs).new 34 ds
  rw [show (w.alloc (.cells cs.toArray 34)).heap.size = w.heap.size + 1 from Array.size_push ..] at h
  exact h
section
variable {ops : Array Oper} {rest : List Oper} {o : Oper} {a : Act} {w w0 w1 : World} {Q : Exit → Act → World → Prop} {l : List (Nat × TypeId × List Value)}
end
end Go.Proofs.YthpnddgfgpacpaaGreat
/-
  A terminal line: plain. No condition.
-/
namespace Go.Proofs.YthpnddgfgpacpaaGreat
open Go.RowKit
set_option linter.unusedSimpArgs false
set_option linter.unusedVariables false
set_option maxHeartbeats 4000000
set_option maxRecDepth 100000
attribute [local irreducible] wpQuiet

/-- A terminal line: enabled, ready, overrun, data of the receiver; enabled, ready, data, ticks left of the transmitter; output. -/
structure Ln where
  a : Bool
  b : Bool
  o : Bool
  d : Int
  e : Bool
  f : Bool
  t : Int
  l : Int
  s : ByteArray
def Ln.new : Ln := ⟨false, false, false, 0, false, true, 0, 0, ⟨#[]⟩⟩
/-- Is it valid? -/
def Ln.right (x : Ln) : Bool := decide (0 ≤ x.d) && decide (x.d ≤ 255) && decide (0 ≤ x.t) && decide (x.t ≤ 255) && decide (x.s.size ≤ 4096) && decide (0 ≤ x.l) && decide (x.l ≤ 4) && (x.f == decide (x.l = 0))
def stB (e r : Bool) : Int := (if e = true then 64 else 0) + (if r = true then 128 else 0)
def Ln.rd (x : Ln) (reg : Int) : Ln × Int :=
  if reg = 0 then (x, stB x.a x.b)
  else if reg = 2 then ({ x with b := false, o := false }, x.d + (if x.o = true then 32768 else 0))
  else if reg = 4 then (x, stB x.e x.f)
  else (x, 0)
def Ln.wr (x : Ln) (reg n : Int) : Ln :=
  if reg = 0 then { x with a := decide (n / 64 % 2 = 1) }
  else if reg = 4 then { x with e := decide (n / 64 % 2 = 1) }
  else if reg = 6 then (if x.f = true then { x with t := n % 256, l := 4, f := false } else x)
  else x
/-- The last bytes of an output, at most as many as the limit. -/
def lastO (l : List UInt8) : List UInt8 := l.drop (l.length - 4096)
def Ln.tick (x : Ln) : Ln :=
  if x.l ≤ 0 then x
  else if 1 < x.l then { x with l := x.l - 1 }
  else { x with l := 0, f := true, s := ⟨(lastO (x.s.data.toList ++ [UInt8.ofNat x.t.toNat])).toArray⟩ }
def Ln.req (x : Ln) (n : Int) : List (Int × Int) :=
  if 0 ≤ n ∧ n < 4 then (if x.a = true ∧ x.b = true then [(4, 128 + 8 * n)] else []) ++ (if x.e = true ∧ x.f = true then [(4, 132 + 8 * n)] else []) else []
def Ln.reset (x : Ln) : Ln := { x with a := false, b := false, o := false, e := false, f := true, l := 0 }
end Go.Proofs.YthpnddgfgpacpaaGreat
/-
  Disk drives: plain. No condition.
-/
namespace Go.Proofs.YthpnddgfgpacpaaGreat
open Go.RowKit
set_option linter.unusedSimpArgs false
set_option linter.unusedVariables false
set_option maxHeartbeats 4000000
set_option maxRecDepth 100000
attribute [local irreducible] wpQuiet

/-- A drive: its sectors, and the numbers of the bad ones. -/
structure Drv where
  S : List ByteArray
  B : List Int
def Drv.z : Drv := ⟨[], []⟩
def zB (n : Nat) : ByteArray := ⟨(List.replicate n (0 : UInt8)).toArray⟩
/-- A new one, and the error. -/
def newV (n : Int) : Drv × Int := if 1 ≤ n ∧ n ≤ 256 then (⟨List.replicate n.toNat (zB 128), []⟩, 0) else (Drv.z, 2)
def okAt (n : Nat) (B : List Int) (k : Nat) : Bool := decide (0 ≤ B.getD k 0) && decide (B.getD k 0 < (n : Int)) && (decide (k = 0) || decide (B.getD (k - 1) 0 < B.getD k 0))
def okB (n : Nat) (B : List Int) : Bool := (List.range B.length).all (okAt n B)
/-- Is it valid? -/
def Drv.right (D : Drv) : Bool := decide (1 ≤ D.S.length) && decide (D.S.length ≤ 256) && D.S.all (fun s => s.size == 128) && okB D.S.length D.B
def Drv.rd (D : Drv) (k : Int) : ByteArray × Int := if 0 ≤ k ∧ k < (D.S.length : Int) then (if D.B.contains k = true then (⟨#[]⟩, 21) else (D.S.getD k.toNat ⟨#[]⟩, 0)) else (⟨#[]⟩, 2)
def Drv.wr (D : Drv) (k : Int) (s : ByteArray) : Drv × Int :=
  if 0 ≤ k ∧ k < (D.S.length : Int) then (if 128 < s.size then (Drv.z, 7) else if D.B.contains k = true then (Drv.z, 21) else (⟨D.S.set k.toNat (s ++ zB (128 - s.size)), D.B⟩, 0)) else (Drv.z, 2)
def insB (s : Int) : List Int → List Int
  | [] => [s]
  | b :: r => if b < s then b :: insB s r else s :: b :: r
def Drv.sp (D : Drv) (k : Int) : Drv × Int := if 0 ≤ k ∧ k < (D.S.length : Int) then (if D.B.contains k = true then (D, 0) else (⟨D.S, insB k D.B⟩, 0)) else (Drv.z, 2)
def dfV (a b : List ByteArray) : List Int := ((List.range (max a.length b.length)).filter (fun k => decide (a[k]? ≠ b[k]?))).map Int.ofNat
theorem okAt_iff (n : Nat) (B : List Int) (k : Nat) : okAt n B k = true ↔ 0 ≤ B.getD k 0 ∧ B.getD k 0 < (n : Int) ∧ (k = 0 ∨ B.getD (k - 1) 0 < B.getD k 0) := by
  unfold okAt; simp only [Bool.and_eq_true, Bool.or_eq_true, decide_eq_true_eq]; constructor
  · rintro ⟨⟨a, b⟩, c⟩; exact ⟨a, b, c⟩
  · rintro ⟨a, b, c⟩; exact ⟨⟨a, b⟩, c⟩
theorem okB_iff (n : Nat) (B : List Int) : okB n B = true ↔ ∀ k, k < B.length → okAt n B k = true := by
  unfold okB; rw [List.all_eq_true]; constructor
  · intro h k hk; exact h k (List.mem_range.2 hk)
  · intro h k hk; exact h k (List.mem_range.1 hk)
theorem right_iff (D : Drv) : D.right = true ↔ 1 ≤ D.S.length ∧ D.S.length ≤ 256 ∧ (∀ s ∈ D.S, s.size = 128) ∧ okB D.S.length D.B = true := by
  unfold Drv.right; simp only [Bool.and_eq_true, decide_eq_true_eq, List.all_eq_true, beq_iff_eq]; constructor
  · rintro ⟨⟨⟨a, b⟩, c⟩, d⟩; exact ⟨a, b, c, d⟩
  · rintro ⟨a, b, c, d⟩; exact ⟨⟨⟨a, b⟩, c⟩, d⟩
end Go.Proofs.YthpnddgfgpacpaaGreat
