import Derived.Test.YthpnddgfgpacpaaGreatRS01
import Derived.Test.YthpnddgfgpacpaaGreatRS00
import Derived.Laws.StructEq
import Derived.ChangeKeysEq
import Derived.KernelRfl
/-
  Write of the reference of package mmu. No condition but that the pages are sixteen.
-/
namespace Go.Proofs.YthpnddgfgpacpaaGreat
open Go.RowKit
set_option linter.unusedSimpArgs false
set_option linter.unusedVariables false
set_option maxHeartbeats 8000000
set_option maxRecDepth 100000
attribute [local irreducible] wpQuiet

theorem Two.putF {B C m p : Nat} {u v : Un} {w0 w : World} {g g' : Pg} (h : Two B C u v w0 w) (hg : u.pg[8 * m + p]? = some g) (hn : C ≠ B) (hB : w0.heap.size ≤ B) (j : Nat) (hj : j < 4) (x : Value) (he : g.L.set j x = g'.L) (k : Nat) (hk : k = 1 + m * 32 + p * 4 + j) : Two B C (u.withP (8 * m + p) g') v w0 (w.setCell ⟨B, k, none⟩ x) := by
  have e : k = 1 + (4 * (8 * m + p) + j) := by omega
  have q := Un.setp (u := u) (p' := g') hg j hj x he
  refine ⟨?_, h.c.other hn _, h.below.setCell hB _⟩
  subst e
  have k2 := h.b.set (1 + (4 * (8 * m + p) + j)) x
  rw [q] at k2
  exact k2
theorem withP_twice (u : Un) (k : Nat) (g g' : Pg) : (u.withP k g).withP k g' = u.withP k g' := by
  unfold Un.withP; simp
/-- What a load of the whole box and a store of it leave. -/
theorem Two.outR {B C : Nat} {u v : Un} {w0 w : World} (h : Two B C u v w0 w) (hu : u.ok) (hv : v.ok) (hn : B ≠ C) (hC : w0.heap.size ≤ C) :
    (Instr.loadAt 32 (.pointer (some ⟨B, 0, none⟩))).run Tryz.prog w = .ok (.agg u.L.toArray) w ∧ ∃ W, (storeCells ⟨C, 0, none⟩ u.L).run Tryz.prog w = .ok () W ∧ Two B C u u w0 W ∧ (loadVar 32 ⟨C, 0, none⟩).run Tryz.prog W = .ok (.agg u.L.toArray) W := by
  obtain ⟨_, W, h1, h2, h3⟩ := h.out hu hv hn hC
  exact ⟨h.b.loadAt (Un.len hu) agg_unit size_unit, W, h1, h2, h3⟩

end Go.Proofs.YthpnddgfgpacpaaGreat
/-
  Map of the reference of package mmu. No condition but that the pages are sixteen.
-/
namespace Go.Proofs.YthpnddgfgpacpaaGreat
open Go.RowKit
set_option linter.unusedSimpArgs false
set_option linter.unusedVariables false
set_option maxHeartbeats 8000000
set_option maxRecDepth 100000
attribute [local irreducible] wpQuiet

/-- The pages of a mode from number 8 - n on. -/
def mapGo (m : Nat) (acc : Int) : Nat → Un → Int → Int → Un
  | 0, u, _, _ => u
  | n + 1, u, base, blocks =>
    if 0 < blocks then mapGo m acc n (u.withP (8 * m + (7 - n)) ⟨base, min blocks 128, acc, false⟩) (base + min blocks 128) (blocks - min blocks 128)
    else mapGo m acc n (u.withP (8 * m + (7 - n)) Pg.z) base blocks
/-- A whole page stored, cell by cell: the worlds by name. -/
theorem Two.four {B C m p : Nat} {u v : Un} {w0 w : World} {g : Pg} (h : Two B C u v w0 w) (hg : u.pg[8 * m + p]? = some g) (hn : C ≠ B) (hB : w0.heap.size ≤ B) (g' : Pg) :
    ∃ W1 W2 W3 W4, w.setCell ⟨B, 1 + m * 32 + p * 4, none⟩ (.int .i64 g'.b) = W1 ∧ W1.setCell ⟨B, 1 + m * 32 + p * 4 + 1, none⟩ (.int .i64 g'.l) = W2 ∧ W2.setCell ⟨B, 1 + m * 32 + p * 4 + 2, none⟩ (.int .i64 g'.a) = W3 ∧ W3.setCell ⟨B, 1 + m * 32 + p * 4 + 3, none⟩ (.bool g'.r) = W4 ∧
      (w.cell? ⟨B, 1 + m * 32 + p * 4, none⟩ = some (.int .i64 g.b) ∧ w.frozen? ⟨B, 1 + m * 32 + p * 4, none⟩ = false) ∧ (W1.cell? ⟨B, 1 + m * 32 + p * 4 + 1, none⟩ = some (.int .i64 g.l) ∧ W1.frozen? ⟨B, 1 + m * 32 + p * 4 + 1, none⟩ = false) ∧
      (W2.cell? ⟨B, 1 + m * 32 + p * 4 + 2, none⟩ = some (.int .i64 g.a) ∧ W2.frozen? ⟨B, 1 + m * 32 + p * 4 + 2, none⟩ = false) ∧ (W3.cell? ⟨B, 1 + m * 32 + p * 4 + 3, none⟩ = some (.bool g.r) ∧ W3.frozen? ⟨B, 1 + m * 32 + p * 4 + 3, none⟩ = false) ∧ Two B C (u.withP (8 * m + p) g') v w0 W4 := by
  obtain ⟨gb, gl, ga, gr⟩ := g
  obtain ⟨b, l, a, r⟩ := g'
  have h1 := h.putF (g' := ⟨b, gl, ga, gr⟩) hg hn hB 0 (by decide) (.int .i64 b) rfl (1 + m * 32 + p * 4) rfl
  have hg1 := Un.withP_at (g' := ⟨b, gl, ga, gr⟩) hg
  have h2 := h1.putF (g' := ⟨b, l, ga, gr⟩) hg1 hn hB 1 (by decide) (.int .i64 l) rfl (1 + m * 32 + p * 4 + 1) rfl
  have hg2 := Un.withP_at (g' := ⟨b, l, ga, gr⟩) hg1
  have h3 := h2.putF (g' := ⟨b, l, a, gr⟩) hg2 hn hB 2 (by decide) (.int .i64 a) rfl (1 + m * 32 + p * 4 + 2) rfl
  have hg3 := Un.withP_at (g' := ⟨b, l, a, gr⟩) hg2
  have h4 := h3.putF (g' := ⟨b, l, a, r⟩) hg3 hn hB 3 (by decide) (.bool r) rfl (1 + m * 32 + p * 4 + 3) rfl
  rw [withP_twice, withP_twice, withP_twice] at h4
  exact ⟨_, _, _, _, rfl, rfl, rfl, rfl, ⟨(h.page hg).1, h.fz _⟩, ⟨(h1.page hg1).2.1, h1.fz _⟩, ⟨(h2.page hg2).2.2.1, h2.fz _⟩, ⟨(h3.page hg3).2.2.2, h3.fz _⟩, h4⟩
def okMap (mode base blocks acc : Int) : Prop := 0 ≤ mode ∧ mode ≤ 1 ∧ 1 ≤ acc ∧ acc ≤ 2 ∧ 0 ≤ blocks ∧ blocks ≤ 1024 ∧ 0 ≤ base ∧ base ≤ 4096 - blocks
end Go.Proofs.YthpnddgfgpacpaaGreat
/-
  Right of the reference of package mmu. No condition but that the pages are sixteen.
-/
namespace Go.Proofs.YthpnddgfgpacpaaGreat
open Go.RowKit
set_option linter.unusedSimpArgs false
set_option linter.unusedVariables false
set_option maxHeartbeats 8000000
set_option maxRecDepth 100000
attribute [local irreducible] wpQuiet

def Pg.good (g : Pg) : Bool := decide (0 ≤ g.b) && (decide (g.b ≤ 4095) && (decide (0 ≤ g.l) && (decide (g.l ≤ 128) && (decide (0 ≤ g.a) && decide (g.a ≤ 2)))))
def Un.tail (u : Un) : Bool := decide (0 ≤ u.st) && (decide (u.st ≤ 3) && (decide (0 ≤ u.ad) && decide (u.ad < 65536)))
def Un.right (u : Un) : Bool := u.pg.all Pg.good && u.tail
theorem all_drop {l : List Pg} {k : Nat} {g : Pg} (h : l[k]? = some g) : (l.drop k).all Pg.good = (g.good && (l.drop (k + 1)).all Pg.good) := by
  have hk : k < l.length := (List.getElem?_eq_some_iff.1 h).1
  rw [List.drop_eq_getElem_cons hk, (List.getElem?_eq_some_iff.1 h).2]; rfl

theorem rright_any_9 (u : Un) (hu : u.ok) (W0 : World) : Calls Tryz.prog 32 #[.agg u.L.toArray] W0 fun e w' => e = .returned (.bool u.right) ∧ Below W0.heap.size W0 w' := by
  have hX := One.put u W0
  obtain ⟨Q, hQ⟩ : ∃ Q, Hid_9 (Q = u.right) := ⟨_, rfl⟩
  rw [← show Q = u.right from hQ]
  have h65 := Un.at65 hu
  have h66 := Un.at66 hu
  go_enter Tryz.func32, Tryz.ntmps32
  go_wp2
  go_loopw [3] (fun i wr => ∃ m : Nat, m ≤ 2 ∧ i = .int .i64 m ∧ One W0.heap.size u W0 wr ∧ Hid_9 (Q = ((u.pg.drop (8 * m)).all Pg.good && u.tail)))
    (fun i _ => 2 - (intOf i).toNat)
  case atStart => exact ⟨0, by decide, rfl, hX, hQ⟩
  case round =>
    clear hX hQ
    obtain ⟨m, hm, rfl, hX, hQ⟩ := hrel
    by_cases hm2 : m < 2
    · go_wp2
      go_loopw [4] (fun i wq => ∃ p : Nat, p ≤ 8 ∧ i = .int .i64 p ∧ One W0.heap.size u W0 wq ∧ Hid_9 (Q = ((u.pg.drop (8 * m + p)).all Pg.good && u.tail)))
        (fun i _ => 8 - (intOf i).toNat)
      case atStart => exact ⟨0, by decide, rfl, hX, hQ⟩
      case round =>
        clear hX hQ
        obtain ⟨p, hp, rfl, hX, hQ⟩ := hrel
        by_cases hp8 : p < 8
        · obtain ⟨g, hg⟩ : ∃ g, u.pg[8 * m + p]? = some g := ⟨_, List.getElem?_eq_getElem (by have : u.pg.length = 16 := hu; omega)⟩
          have m0 : (0 : Int) ≤ (m : Int) := by omega
          have m1 : (m : Int) < 2 := by omega
          have p0 : (0 : Int) ≤ (p : Int) := by omega
          have p1 : (p : Int) < 8 := by omega
          obtain ⟨k0, k1, k2, k3⟩ := hX.page hg
          have hd := all_drop hg
          obtain ⟨gb, gl, ga, gr⟩ := g
          simp only [Pg.good] at *
          have hB := hX.below
          have hX2 := hX.step ((Below.refl wr.heap.size wr).alloc (Nat.le_refl _) (.cells #[.int .i64 gb, .int .i64 gl, .int .i64 ga, .bool gr] 28))
          clear hX
          replace hd := hid_9 hd
          replace hg := hid_9 hg
          by_cases h0 : 0 ≤ gb
          · skip
            by_cases h1 : gb ≤ 4095
            · skip
              by_cases h2 : 0 ≤ gl
              · skip
                by_cases h3 : gl ≤ 128
                · skip
                  by_cases h4 : 0 ≤ ga
                  · skip
                    by_cases h5 : ga ≤ 2
                    · have hQ : Hid_9 (Q = ((u.pg.drop (8 * m + (p + 1))).all Pg.good && u.tail)) := by
                        show _ = _
                        rw [show Q = _ from hQ, show _ = _ from hd]
                        simp only [decide_eq_true h0, decide_eq_true h1, decide_eq_true h2, decide_eq_true h3, decide_eq_true h4, decide_eq_true h5, Bool.true_and]
                        rfl
                      clear hd
                      go_wp2
                      go_round
                      case rel => (simp only [eq_true (show (m : Int) < 2 by omega), decide_true]; (iterate 41 apply Exists.intro); refine ⟨?_, rfl⟩; exact ⟨p + 1, by omega, by go_num, hX2, hQ⟩)
                      case measure => simp [intOf]; omega
                    · have hQ : Hid_9 (Q = false) := by
                        show _ = _
                        rw [show Q = _ from hQ, show _ = _ from hd]
                        simp only [decide_eq_false h5, Bool.false_and, Bool.and_false]
                      clear hd
                      go_wp2
                      go_ret
                      exact ⟨ret_bool_9 (by rw [show Q = false from hQ]), hX2.below⟩
                  · have hQ : Hid_9 (Q = false) := by
                      show _ = _
                      rw [show Q = _ from hQ, show _ = _ from hd]
                      simp only [decide_eq_false h4, Bool.false_and, Bool.and_false]
                    clear hd
                    go_wp2
                    go_ret
                    exact ⟨ret_bool_9 (by rw [show Q = false from hQ]), hX2.below⟩
                · have hQ : Hid_9 (Q = false) := by
                    show _ = _
                    rw [show Q = _ from hQ, show _ = _ from hd]
                    simp only [decide_eq_false h3, Bool.false_and, Bool.and_false]
                  clear hd
                  go_wp2
                  go_ret
                  exact ⟨ret_bool_9 (by rw [show Q = false from hQ]), hX2.below⟩
              · have hQ : Hid_9 (Q = false) := by
                  show _ = _
                  rw [show Q = _ from hQ, show _ = _ from hd]
                  simp only [decide_eq_false h2, Bool.false_and, Bool.and_false]
                clear hd
                go_wp2
                go_ret
                exact ⟨ret_bool_9 (by rw [show Q = false from hQ]), hX2.below⟩
            · have hQ : Hid_9 (Q = false) := by
                show _ = _
                rw [show Q = _ from hQ, show _ = _ from hd]
                simp only [decide_eq_false h1, Bool.false_and, Bool.and_false]
              clear hd
              go_wp2
              go_ret
              exact ⟨ret_bool_9 (by rw [show Q = false from hQ]), hX2.below⟩
          · have hQ : Hid_9 (Q = false) := by
              show _ = _
              rw [show Q = _ from hQ, show _ = _ from hd]
              simp only [decide_eq_false h0, Bool.false_and, Bool.and_false]
            clear hd
            go_wp2
            go_ret
            exact ⟨ret_bool_9 (by rw [show Q = false from hQ]), hX2.below⟩
        · obtain rfl : p = 8 := by omega
          go_wp2
          go_round
          case rel => exact ⟨m + 1, by omega, by go_num, hX, hQ⟩
          case measure => simp [intOf]; omega
    · obtain rfl : m = 2 := by omega
      have hQ : Hid_9 (Q = u.tail) := by
        show _ = _
        rw [show Q = _ from hQ, List.drop_eq_nil_of_le (by have : u.pg.length = 16 := hu; omega)]
        rfl
      have c65 := hX.b.cell h65
      have c66 := hX.b.cell h66
      have hB := hX.below
      unfold Un.tail at hQ
      generalize u.st = s at *
      generalize u.ad = d at *
      by_cases h0 : 0 ≤ s
      · skip
        by_cases h1 : s ≤ 3
        · skip
          by_cases h2 : 0 ≤ d
          · skip
            by_cases h3 : d < 65536
            · have hQ : Hid_9 (Q = true) := by
                show _ = _
                rw [show Q = _ from hQ]
                simp only [decide_eq_true h0, decide_eq_true h1, decide_eq_true h2, decide_eq_true h3, Bool.true_and]
              go_wp2
              go_ret
              exact ⟨ret_bool_9 (by rw [show Q = true from hQ]), hB⟩
            · have hQ : Hid_9 (Q = false) := by
                show _ = _
                rw [show Q = _ from hQ]
                simp only [decide_eq_false h3, Bool.false_and, Bool.and_false]
              go_wp2
              go_ret
              exact ⟨ret_bool_9 (by rw [show Q = false from hQ]), hB⟩
          · have hQ : Hid_9 (Q = false) := by
              show _ = _
              rw [show Q = _ from hQ]
              simp only [decide_eq_false h2, Bool.false_and, Bool.and_false]
            go_wp2
            go_ret
            exact ⟨ret_bool_9 (by rw [show Q = false from hQ]), hB⟩
        · have hQ : Hid_9 (Q = false) := by
            show _ = _
            rw [show Q = _ from hQ]
            simp only [decide_eq_false h1, Bool.false_and, Bool.and_false]
          go_wp2
          go_ret
          exact ⟨ret_bool_9 (by rw [show Q = false from hQ]), hB⟩
      · have hQ : Hid_9 (Q = false) := by
          show _ = _
          rw [show Q = _ from hQ]
          simp only [decide_eq_false h0, Bool.false_and, Bool.and_false]
        go_wp2
        go_ret
        exact ⟨ret_bool_9 (by rw [show Q = false from hQ]), hB⟩
end Go.Proofs.YthpnddgfgpacpaaGreat
/-
  The reference of package mmu: one contract for each function, over plain functions of units.
-/
namespace Go.Proofs.YthpnddgfgpacpaaGreat
open Go.RowKit
set_option linter.unusedSimpArgs false
set_option linter.unusedVariables false
attribute [local irreducible] wpQuiet

def Un.pgAt (u : Un) (k : Nat) : Pg := u.pg.getD k Pg.z
theorem Un.pgAt_some {u : Un} (hu : u.ok) {k : Nat} (hk : k < 16) : u.pg[k]? = some (u.pgAt k) := by
  have hl : k < u.pg.length := by rw [show u.pg.length = 16 from hu]; exact hk
  unfold Un.pgAt
  rw [List.getD_eq_getElem?_getD, List.getElem?_eq_getElem hl]; rfl
theorem Pg.good_all {g : Pg} (h : g.good = true) : 0 ≤ g.b ∧ g.b ≤ 4095 ∧ 0 ≤ g.l ∧ g.l ≤ 128 ∧ 0 ≤ g.a ∧ g.a ≤ 2 := by
  unfold Pg.good at h
  simpa only [Bool.and_eq_true, decide_eq_true_eq] using h
theorem Un.right_at {u : Un} (h : u.right = true) (hu : u.ok) {k : Nat} (hk : k < 16) : (u.pgAt k).good = true := by
  unfold Un.right at h
  rw [Bool.and_eq_true, List.all_eq_true] at h
  exact h.1 _ (List.mem_of_getElem? (Un.pgAt_some hu hk))
theorem Un.right_tail {u : Un} (h : u.right = true) : 0 ≤ u.st ∧ u.st ≤ 3 ∧ 0 ≤ u.ad ∧ u.ad < 65536 := by
  unfold Un.right at h
  rw [Bool.and_eq_true] at h
  have h2 := h.2
  unfold Un.tail at h2
  simpa only [Bool.and_eq_true, decide_eq_true_eq] using h2

def Un.kAt (mode addr : Int) : Nat := 8 * (mode % 2).toNat + (addr % 65536 / 8192).toNat
def Un.trans (u : Un) (mode addr : Int) (wr : Bool) : Int × Un × Int :=
  if u.on = true then
    if fltP (u.pgAt (Un.kAt mode addr)) (addr % 65536 % 8192) wr = 0 then
      ((64 * (u.pgAt (Un.kAt mode addr)).b + addr % 65536 % 8192) % 262144, if wr = true then u.withP (Un.kAt mode addr) { u.pgAt (Un.kAt mode addr) with r := true } else u, 0)
    else (0, { u with st := fltP (u.pgAt (Un.kAt mode addr)) (addr % 65536 % 8192) wr, ad := addr % 65536 }, 8)
  else if addr % 65536 < 57344 then (addr % 65536, u, 0) else (addr % 65536 + 196608, u, 0)

def regK (n : Int) : Nat := 8 * ((n - 16) / 32).toNat + ((n - 16) % 32 / 4).toNat
theorem isReg_all {n : Int} (h : isReg n = true) : 16 ≤ n ∧ n < 80 ∧ n % 2 = 0 := by
  unfold isReg at h
  simpa only [Bool.and_eq_true, decide_eq_true_eq] using h
theorem regK_lt {n : Int} (h : isReg n = true) : regK n < 16 := by have := isReg_all h; unfold regK; omega
def Un.read (u : Un) (n : Int) : Int × Bool :=
  if n = 0 then (statV u, true) else if n = 2 then (u.ad, true)
  else if isReg n = true then (if (n - 16) % 4 = 2 then (descV (u.pgAt (regK n)), true) else ((u.pgAt (regK n)).b, true))
  else (0, false)
def Un.write (u : Un) (n v : Int) : Un × Bool :=
  if n = 0 then ({ u with on := decide (v % 65536 % 2 = 1), st := v % 65536 / 2 % 4 }, true) else if n = 2 then (u, true)
  else if isReg n = true then
    (if (n - 16) % 4 = 2 then (u.withP (regK n) ⟨(u.pgAt (regK n)).b, min (v % 65536 % 256) 128, min (v % 65536 / 256 % 4) 2, false⟩, true)
     else (u.withP (regK n) { u.pgAt (regK n) with b := v % 65536 % 4096 }, true))
  else (u, false)
open Classical in
noncomputable def Un.map (u : Un) (mode base blocks acc : Int) : Un × Int := if okMap mode base blocks acc then (mapGo mode.toNat acc 8 u base blocks, 0) else (Un.z, 1)
end Go.Proofs.YthpnddgfgpacpaaGreat
/-
  The equality of structs and arrays of any number of cells: each equals itself. No condition.
-/
namespace Go.Proofs.YthpnddgfgpacpaaGreat
open Go.RowKit
set_option linter.unusedSimpArgs false
set_option linter.unusedVariables false
set_option maxHeartbeats 1000000
set_option maxRecDepth 100000

/-- It equals itself. -/
def ReflAt (P : Program) (dd : Nat) (e : TypeId) (a : Value) : Prop := ∀ w, (Op.equalIn dd e a a).run P w = .ok true w
theorem items_refl {P : Program} {dd c : Nat} {e : TypeId} {xs : Array Value} : ∀ is : List Nat, (∀ i ∈ is, ∃ a, (∀ w, (part e xs (i * c)).run P w = .ok a w) ∧ ReflAt P dd e a) → ∀ w, (Op.eqItems dd e c xs xs is).run P w = .ok true w
  | [], _, w => by simp [Op.eqItems]
  | i :: is, h, w => by
    obtain ⟨a, h1, h2⟩ := h i List.mem_cons_self
    have ih := items_refl is (fun j hj => h j (List.mem_cons_of_mem _ hj)) w
    simp only [Op.eqItems, Sem.run_bind, h1, h2 w, Result.andThen_ok, Bool.not_true, Bool.false_eq_true, if_false]
    exact ih
theorem fields_refl {P : Program} {dd : Nat} {xs : Array Value} : ∀ fs : List Field, (∀ f ∈ fs, ∃ a, (∀ w, (part f.type xs f.offset).run P w = .ok a w) ∧ ReflAt P dd f.type a) → ∀ w, (Op.eqFields dd xs xs fs).run P w = .ok true w
  | [], _, w => by simp [Op.eqFields]
  | f :: fs, h, w => by
    obtain ⟨a, h1, h2⟩ := h f List.mem_cons_self
    have ih := fields_refl fs (fun j hj => h j (List.mem_cons_of_mem _ hj)) w
    by_cases hn : f.name ≠ "_"
    · simp only [Op.eqFields, if_pos hn, Sem.run_bind, h1, h2 w, Result.andThen_ok, Bool.not_true, Bool.false_eq_true, if_false]
      exact ih
    · simp only [Op.eqFields, if_neg hn]
      exact ih
theorem part_agg {P : Program} {e : TypeId} {n off : Nat} {xs : Array Value} (hagg : ∀ w, (isAgg e).run P w = .ok true w) (hsz : ∀ w, (sizeOf e).run P w = .ok n w) (w : World) : (part e xs off).run P w = .ok (.agg (xs.extract off (off + n))) w := by
  unfold part
  simp only [Sem.run_bind, hagg, hsz, Result.andThen_ok, if_true, Sem.run_pure]
theorem part_cell {P : Program} {e : TypeId} {off : Nat} {xs : Array Value} {v : Value} (hagg : ∀ w, (isAgg e).run P w = .ok false w) (hx : xs[off]? = some v) (w : World) : (part e xs off).run P w = .ok v w := by
  unfold part
  simp only [Sem.run_bind, hagg, Result.andThen_ok, Bool.false_eq_true, if_false, hx, Sem.run_pure]
theorem int_refl (d : Nat) (x : Int) : ReflAt Tryz.prog (d + 1) 3 (.int .i64 x) := fun w => by
  rw [run_equalIn_int (P := Tryz.prog) w d 3 .i64 .i64 x x Tryz.underlying3]; simp
theorem bool_refl (d : Nat) (x : Bool) : ReflAt Tryz.prog (d + 1) 4 (.bool x) := fun w => by
  rw [run_equalIn_bool' (P := Tryz.prog) w d 4 x x Tryz.underlying4]; simp
theorem int_cell_9 (w : World) : (isAgg 3).run Tryz.prog w = .ok false w := by kernel_rfl
theorem bool_cell_9 (w : World) : (isAgg 4).run Tryz.prog w = .ok false w := by kernel_rfl
theorem page_fields : (Tryz.prog.fieldsOf 28).toList.map (fun f => (f.type, f.offset)) = [(3, 0), (3, 1), (3, 2), (4, 3)] := by kernel_rfl
theorem page_refl (d : Nat) (p : Pg) : ReflAt Tryz.prog (d + 2) 28 (.agg p.L.toArray) := fun w => by
  rw [run_equalIn_struct (P := Tryz.prog) w (d + 1) 28 _ _ (by kernel_rfl) (by kernel_rfl)]
  refine fields_refl _ (fun f hf => ?_) w
  have hm : (f.type, f.offset) ∈ (Tryz.prog.fieldsOf 28).toList.map (fun f => (f.type, f.offset)) := List.mem_map_of_mem hf
  rw [page_fields] at hm
  simp only [List.mem_cons, List.not_mem_nil, or_false, Prod.mk.injEq] at hm
  rcases hm with ⟨h1, h2⟩ | ⟨h1, h2⟩ | ⟨h1, h2⟩ | ⟨h1, h2⟩
  all_goals rw [h1, h2]
  · exact ⟨_, part_cell int_cell_9 (show p.L.toArray[0]? = some (.int .i64 p.b) from rfl), int_refl d p.b⟩
  · exact ⟨_, part_cell int_cell_9 (show p.L.toArray[1]? = some (.int .i64 p.l) from rfl), int_refl d p.l⟩
  · exact ⟨_, part_cell int_cell_9 (show p.L.toArray[2]? = some (.int .i64 p.a) from rfl), int_refl d p.a⟩
  · exact ⟨_, part_cell bool_cell_9 (show p.L.toArray[3]? = some (.bool p.r) from rfl), bool_refl d p.r⟩

/-! ### Arrays of pages -/
theorem flat_drop_9 : ∀ (a : Nat) (l : List Pg), (l.flatMap Pg.L).drop (4 * a) = (l.drop a).flatMap Pg.L
  | 0, l => by simp
  | a + 1, [] => by simp
  | a + 1, p :: r => by
    rw [List.flatMap_cons, show 4 * (a + 1) = p.L.length + 4 * a by show _ = 4 + 4 * a; omega, ← List.drop_drop, List.drop_left, flat_drop_9 a r, List.drop_succ_cons]
theorem flat_take_9 : ∀ (a : Nat) (l : List Pg), (l.flatMap Pg.L).take (4 * a) = (l.take a).flatMap Pg.L
  | 0, l => by simp
  | a + 1, [] => by simp
  | a + 1, p :: r => by
    rw [List.flatMap_cons, show 4 * (a + 1) = p.L.length + 4 * a by show _ = 4 + 4 * a; omega, List.take_length_add_append, flat_take_9 a r, List.take_succ_cons, List.flatMap_cons]
theorem flat_extract (l : List Pg) (a n : Nat) : (l.flatMap Pg.L).toArray.extract (4 * a) (4 * a + 4 * n) = (((l.drop a).take n).flatMap Pg.L).toArray := by
  rw [List.extract_toArray, List.extract_eq_take_drop, Nat.add_sub_cancel_left, flat_drop_9, flat_take_9]
theorem agg23 (w : World) : (isAgg 28).run Tryz.prog w = .ok true w := by kernel_rfl
theorem siz23 (w : World) : (sizeOf 28).run Tryz.prog w = .ok 4 w := by kernel_rfl
theorem agg24 (w : World) : (isAgg 29).run Tryz.prog w = .ok true w := by kernel_rfl
theorem siz24 (w : World) : (sizeOf 29).run Tryz.prog w = .ok 32 w := by kernel_rfl
theorem agg25 (w : World) : (isAgg 30).run Tryz.prog w = .ok true w := by kernel_rfl
theorem siz25 (w : World) : (sizeOf 30).run Tryz.prog w = .ok 64 w := by kernel_rfl
theorem mode_refl (d : Nat) (l : List Pg) (hl : l.length = 8) : ReflAt Tryz.prog (d + 3) 29 (.agg (l.flatMap Pg.L).toArray) := fun w => by
  obtain ⟨i, hi⟩ : ∃ i, Tryz.prog.info? 28 = some i := Option.isSome_iff_exists.1 (by kernel_rfl)
  rw [run_equalIn_array (P := Tryz.prog) w (d + 2) _ _ Tryz.underlying29 hi]
  refine items_refl _ (fun k hk => ?_) w
  have hk8 : k < l.length := by rw [hl]; exact List.mem_range.1 hk
  refine ⟨_, fun w => part_agg agg23 siz23 w, ?_⟩
  rw [show Tryz.prog.cellsOf 28 = 4 by kernel_rfl]
  have e := flat_extract l k 1
  rw [Nat.mul_one, Nat.mul_comm 4 k] at e
  rw [e, List.take_one, List.head?_drop, List.getElem?_eq_getElem hk8]
  have q := page_refl d l[k]
  simpa using q
theorem pages_refl (d : Nat) (l : List Pg) (hl : l.length = 16) : ReflAt Tryz.prog (d + 4) 30 (.agg (l.flatMap Pg.L).toArray) := fun w => by
  obtain ⟨i, hi⟩ : ∃ i, Tryz.prog.info? 29 = some i := Option.isSome_iff_exists.1 (by kernel_rfl)
  rw [run_equalIn_array (P := Tryz.prog) w (d + 3) _ _ Tryz.underlying30 hi]
  refine items_refl _ (fun k hk => ?_) w
  have hk2 : k < 2 := List.mem_range.1 hk
  refine ⟨_, fun w => part_agg agg24 siz24 w, ?_⟩
  rw [show Tryz.prog.cellsOf 29 = 32 by kernel_rfl]
  have e := flat_extract l (8 * k) 8
  rw [show 4 * (8 * k) = k * 32 by omega] at e
  rw [e]
  exact mode_refl d _ (by rw [List.length_take, List.length_drop]; omega)
theorem unit_fields : (Tryz.prog.fieldsOf 32).toList.map (fun f => (f.type, f.offset)) = [(4, 0), (30, 1), (3, 65), (3, 66)] := by kernel_rfl
theorem Un.pages {u : Un} (h : u.ok) : u.L.toArray.extract 1 (1 + 64) = (u.pg.flatMap Pg.L).toArray := by
  have hl := flat_len u.pg
  rw [show u.pg.length = 16 from h] at hl
  rw [List.extract_toArray, List.extract_eq_take_drop]
  unfold Un.L
  rw [List.drop_succ_cons, List.drop_zero, List.take_append_of_le_length (by omega), List.take_of_length_le (by omega)]
theorem unit_refl (d : Nat) (u : Un) (hu : u.ok) : ReflAt Tryz.prog (d + 5) 32 (.agg u.L.toArray) := fun w => by
  rw [run_equalIn_struct (P := Tryz.prog) w (d + 4) 32 _ _ (by kernel_rfl) (by kernel_rfl)]
  refine fields_refl _ (fun f hf => ?_) w
  have hm : (f.type, f.offset) ∈ (Tryz.prog.fieldsOf 32).toList.map (fun f => (f.type, f.offset)) := List.mem_map_of_mem hf
  rw [unit_fields] at hm
  simp only [List.mem_cons, List.not_mem_nil, or_false, Prod.mk.injEq] at hm
  rcases hm with ⟨h1, h2⟩ | ⟨h1, h2⟩ | ⟨h1, h2⟩ | ⟨h1, h2⟩
  all_goals rw [h1, h2]
  · exact ⟨_, part_cell bool_cell_9 (by simpa using Un.at0 u), bool_refl (d + 3) u.on⟩
  · refine ⟨_, fun w => part_agg agg25 siz25 w, ?_⟩
    rw [Un.pages hu]
    exact pages_refl d u.pg hu
  · exact ⟨_, part_cell int_cell_9 (by simpa using Un.at65 hu), int_refl (d + 3) u.st⟩
  · exact ⟨_, part_cell int_cell_9 (by simpa using Un.at66 hu), int_refl (d + 3) u.ad⟩
/-- As the walk asks it. -/
theorem unit_eq (u : Un) (hu : u.ok) (w : World) : (Op.equalIn 10000 32 (.agg u.L.toArray) (.agg u.L.toArray)).run Tryz.prog w = .ok true w := unit_refl 9995 u hu w
end Go.Proofs.YthpnddgfgpacpaaGreat
/-
  The small calls of package mmu: numbers, pages, pointers to pages. No condition but that pages are valid where it is said.
-/
namespace Go.Proofs.YthpnddgfgpacpaaGreat
open Go.RowKit
set_option linter.unusedSimpArgs false
set_option linter.unusedVariables false
set_option maxHeartbeats 4000000
set_option maxRecDepth 100000
attribute [local irreducible] wpQuiet

theorem a4095 (n : Int) : bits .and .i64 n 4095 = n % 4096 := i_and (c := 4095) (by decide) (Nat.and_two_pow_sub_one_eq_mod _ 12) (by intro h; omega)
theorem a262143 (n : Int) : bits .and .i64 n 262143 = n % 262144 := i_and (c := 262143) (by decide) (Nat.and_two_pow_sub_one_eq_mod _ 18) (by intro h; omega)

def inB (n g : Int) : Bool := decide (0 ≤ n) && decide (n ≤ g)
theorem within_any_9 (n g : Int) (w : World) : Calls Tryz.prog 176 #[.int .i64 n, .int .i64 g] w fun e w' => e = .returned (.bool (inB n g)) ∧ w = w' := by
  unfold inB
  by_cases h : 0 ≤ n
  · rw [decide_eq_true h, Bool.true_and]
    have h2 : decide (0 ≤ n) = true := decide_eq_true h
    go_enter Tryz.func176, Tryz.ntmps176
    go_wp2
    go_ret
    exact ⟨rfl, rfl⟩
  · rw [decide_eq_false h, Bool.false_and]
    have h2 : decide (0 ≤ n) = false := decide_eq_false h
    go_enter Tryz.func176, Tryz.ntmps176
    go_wp2
    go_ret
    exact ⟨rfl, rfl⟩
def ofP (n : Int) : Bool := decide (16 ≤ n) && decide (n < 80)
theorem ofp_any (n : Int) (w : World) : Calls Tryz.prog 178 #[.int .i64 n] w fun e w' => e = .returned (.bool (ofP n)) ∧ w = w' := by
  unfold ofP
  by_cases h : 16 ≤ n
  · rw [decide_eq_true h, Bool.true_and]
    have h2 : decide (16 ≤ n) = true := decide_eq_true h
    go_enter Tryz.func178, Tryz.ntmps178
    go_wp2
    go_ret
    exact ⟨rfl, rfl⟩
  · rw [decide_eq_false h, Bool.false_and]
    have h2 : decide (16 ≤ n) = false := decide_eq_false h
    go_enter Tryz.func178, Tryz.ntmps178
    go_wp2
    go_ret
    exact ⟨rfl, rfl⟩
theorem isbase_any (n : Int) (w : World) : Calls Tryz.prog 171 #[.int .i64 n] w fun e w' => e = .returned (.bool (ofP n && decide ((n - 16) % 4 = 0))) ∧ w = w' := by
  have hc := fun w => ofp_any n w
  cases h : ofP n
  · rw [Bool.false_and]
    rw [h] at hc
    go_enter Tryz.func171, Tryz.ntmps171
    go_wp2_with (first | (go_at_call 178; with_reducible refine (hc _).mono ?_; rintro e w' ⟨rfl, rfl⟩))
    go_ret
    exact ⟨rfl, rfl⟩
  · rw [Bool.true_and]
    rw [h] at hc
    have hb : 16 ≤ n ∧ n < 80 := by unfold ofP at h; simpa using h
    have h0 : 0 ≤ n - 16 := by omega
    have h1 : n - 16 < 64 := by omega
    clear h
    go_enter Tryz.func171, Tryz.ntmps171
    go_wp2_with (first | (go_at_call 178; with_reducible refine (hc _).mono ?_; rintro e w' ⟨rfl, rfl⟩))
    go_ret
    exact ⟨rfl, rfl⟩
theorem isdesc_any (n : Int) (w : World) : Calls Tryz.prog 173 #[.int .i64 n] w fun e w' => e = .returned (.bool (ofP n && decide ((n - 16) % 4 = 2))) ∧ w = w' := by
  have hc := fun w => ofp_any n w
  cases h : ofP n
  · rw [Bool.false_and]
    rw [h] at hc
    go_enter Tryz.func173, Tryz.ntmps173
    go_wp2_with (first | (go_at_call 178; with_reducible refine (hc _).mono ?_; rintro e w' ⟨rfl, rfl⟩))
    go_ret
    exact ⟨rfl, rfl⟩
  · rw [Bool.true_and]
    rw [h] at hc
    have hb : 16 ≤ n ∧ n < 80 := by unfold ofP at h; simpa using h
    have h0 : 0 ≤ n - 16 := by omega
    have h1 : n - 16 < 64 := by omega
    clear h
    go_enter Tryz.func173, Tryz.ntmps173
    go_wp2_with (first | (go_at_call 178; with_reducible refine (hc _).mono ?_; rintro e w' ⟨rfl, rfl⟩))
    go_ret
    exact ⟨rfl, rfl⟩
theorem pageat_any (B : Nat) (n : Int) (hn0 : 16 ≤ n) (hn1 : n < 80) (m p : Nat) (hm : m < 2) (hp : p < 8) (hnm : (n - 16) / 4 / 8 = (m : Int)) (hnp : (n - 16) / 4 % 8 = (p : Int)) (w : World) : Calls Tryz.prog 172 #[.pointer (some ⟨B, 0, none⟩), .int .i64 n] w fun e w' => e = .returned (.pointer (some ⟨B, 1 + m * 32 + p * 4, none⟩)) ∧ w = w' := by
  have h0 : 0 ≤ n - 16 := by omega
  have h1 : n - 16 < 64 := by omega
  have h2 : 0 ≤ (n - 16) / 4 := by omega
  have h3 : (n - 16) / 4 < 16 := by omega
  have m0 : (0 : Int) ≤ (m : Int) := by omega
  have m1 : (m : Int) < 2 := by omega
  have p0 : (0 : Int) ≤ (p : Int) := by omega
  have p1 : (p : Int) < 8 := by omega
  go_enter Tryz.func172, Tryz.ntmps172
  go_wp2
  go_ret
  exact ⟨rfl, rfl⟩
end Go.Proofs.YthpnddgfgpacpaaGreat
