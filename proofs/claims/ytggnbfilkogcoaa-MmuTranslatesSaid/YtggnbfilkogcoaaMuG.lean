/-
  Right of the reference of package mmu. No condition but that the pages are sixteen.
-/
import Derived.Test.YtggnbfilkogcoaaMuD
namespace Go.Proofs.Ytggnbfilkogcoaa
open Go.RowKit
set_option linter.unusedSimpArgs false
set_option linter.unusedVariables false
set_option maxHeartbeats 8000000
set_option maxRecDepth 100000
attribute [local irreducible] wpQuiet

def Pg.good (g : Pg) : Bool := decide (0 ≤ g.b) && (decide (g.b ≤ 4095) && (decide (0 ≤ g.l) && (decide (g.l ≤ 128) && (decide (0 ≤ g.a) && decide (g.a ≤ 2)))))
def Un.tail (u : Un) : Bool := decide (0 ≤ u.st) && (decide (u.st ≤ 3) && (decide (0 ≤ u.ad) && decide (u.ad < 65536)))
def Un.right (u : Un) : Bool := u.pg.all Pg.good && u.tail
theorem all_drop {l : List Pg} {k : Nat} {g : Pg} (h : l[k]? = some g) : (l.drop k).all Pg.good = (g.good && (l.drop (k + 1)).all Pg.good) := by
  have hk : k < l.length := (List.getElem?_eq_some_iff.1 h).1
  rw [List.drop_eq_getElem_cons hk, (List.getElem?_eq_some_iff.1 h).2]; rfl

theorem rright_any (u : Un) (hu : u.ok) (W0 : World) : Calls Try.prog 11 #[.agg u.L.toArray] W0 fun e w' => e = .returned (.bool u.right) ∧ Below W0.heap.size W0 w' := by
  have hX := One.put u W0
  obtain ⟨Q, hQ⟩ : ∃ Q, Hid (Q = u.right) := ⟨_, rfl⟩
  rw [← show Q = u.right from hQ]
  have h65 := Un.at65 hu
  have h66 := Un.at66 hu
  go_enter Try.func11, Try.ntmps11
  go_wp2
  go_loopw [3] (fun i wr => ∃ m : Nat, m ≤ 2 ∧ i = .int .i64 m ∧ One W0.heap.size u W0 wr ∧ Hid (Q = ((u.pg.drop (8 * m)).all Pg.good && u.tail)))
    (fun i _ => 2 - (intOf i).toNat)
  case atStart => exact ⟨0, by decide, rfl, hX, hQ⟩
  case round =>
    clear hX hQ
    obtain ⟨m, hm, rfl, hX, hQ⟩ := hrel
    by_cases hm2 : m < 2
    · go_wp2
      go_loopw [4] (fun i wq => ∃ p : Nat, p ≤ 8 ∧ i = .int .i64 p ∧ One W0.heap.size u W0 wq ∧ Hid (Q = ((u.pg.drop (8 * m + p)).all Pg.good && u.tail)))
        (fun i _ => 8 - (intOf i).toNat)
      case atStart => exact ⟨0, by decide, rfl, hX, hQ⟩
      case round =>
        clear hX hQ
        obtain ⟨p, hp, rfl, hX, hQ⟩ := hrel
        by_cases hp8 : p < 8
        · obtain ⟨g, hg⟩ : ∃ g, u.pg[8 * m + p]? = some g := ⟨_, List.getElem?_eq_getElem (by have : u.pg.length = 16 := hu; omega)⟩
          have m0 : (0 : Int) ≤ (m : Int) := by omega
          have m1 : (m : Int) < 2 := by omega
          have p0 : (0 : Int) ≤ (p : Int) := by omega
          have p1 : (p : Int) < 8 := by omega
          obtain ⟨k0, k1, k2, k3⟩ := hX.page hg
          have hd := all_drop hg
          obtain ⟨gb, gl, ga, gr⟩ := g
          simp only [Pg.good] at *
          have hB := hX.below
          have hX2 := hX.step ((Below.refl wr.heap.size wr).alloc (Nat.le_refl _) (.cells #[.int .i64 gb, .int .i64 gl, .int .i64 ga, .bool gr] 23))
          clear hX
          replace hd := hid hd
          replace hg := hid hg
          by_cases h0 : 0 ≤ gb
          · skip
            by_cases h1 : gb ≤ 4095
            · skip
              by_cases h2 : 0 ≤ gl
              · skip
                by_cases h3 : gl ≤ 128
                · skip
                  by_cases h4 : 0 ≤ ga
                  · skip
                    by_cases h5 : ga ≤ 2
                    · have hQ : Hid (Q = ((u.pg.drop (8 * m + (p + 1))).all Pg.good && u.tail)) := by
                        show _ = _
                        rw [show Q = _ from hQ, show _ = _ from hd]
                        simp only [decide_eq_true h0, decide_eq_true h1, decide_eq_true h2, decide_eq_true h3, decide_eq_true h4, decide_eq_true h5, Bool.true_and]
                        rfl
                      clear hd
                      go_wp2
                      go_round
                      case rel => (simp only [eq_true (show (m : Int) < 2 by omega), decide_true]; (iterate 41 apply Exists.intro); refine ⟨?_, rfl⟩; exact ⟨p + 1, by omega, by go_num, hX2, hQ⟩)
                      case measure => simp [intOf]; omega
                    · have hQ : Hid (Q = false) := by
                        show _ = _
                        rw [show Q = _ from hQ, show _ = _ from hd]
                        simp only [decide_eq_false h5, Bool.false_and, Bool.and_false]
                      clear hd
                      go_wp2
                      go_ret
                      exact ⟨ret_bool (by rw [show Q = false from hQ]), hX2.below⟩
                  · have hQ : Hid (Q = false) := by
                      show _ = _
                      rw [show Q = _ from hQ, show _ = _ from hd]
                      simp only [decide_eq_false h4, Bool.false_and, Bool.and_false]
                    clear hd
                    go_wp2
                    go_ret
                    exact ⟨ret_bool (by rw [show Q = false from hQ]), hX2.below⟩
                · have hQ : Hid (Q = false) := by
                    show _ = _
                    rw [show Q = _ from hQ, show _ = _ from hd]
                    simp only [decide_eq_false h3, Bool.false_and, Bool.and_false]
                  clear hd
                  go_wp2
                  go_ret
                  exact ⟨ret_bool (by rw [show Q = false from hQ]), hX2.below⟩
              · have hQ : Hid (Q = false) := by
                  show _ = _
                  rw [show Q = _ from hQ, show _ = _ from hd]
                  simp only [decide_eq_false h2, Bool.false_and, Bool.and_false]
                clear hd
                go_wp2
                go_ret
                exact ⟨ret_bool (by rw [show Q = false from hQ]), hX2.below⟩
            · have hQ : Hid (Q = false) := by
                show _ = _
                rw [show Q = _ from hQ, show _ = _ from hd]
                simp only [decide_eq_false h1, Bool.false_and, Bool.and_false]
              clear hd
              go_wp2
              go_ret
              exact ⟨ret_bool (by rw [show Q = false from hQ]), hX2.below⟩
          · have hQ : Hid (Q = false) := by
              show _ = _
              rw [show Q = _ from hQ, show _ = _ from hd]
              simp only [decide_eq_false h0, Bool.false_and, Bool.and_false]
            clear hd
            go_wp2
            go_ret
            exact ⟨ret_bool (by rw [show Q = false from hQ]), hX2.below⟩
        · obtain rfl : p = 8 := by omega
          go_wp2
          go_round
          case rel => exact ⟨m + 1, by omega, by go_num, hX, hQ⟩
          case measure => simp [intOf]; omega
    · obtain rfl : m = 2 := by omega
      have hQ : Hid (Q = u.tail) := by
        show _ = _
        rw [show Q = _ from hQ, List.drop_eq_nil_of_le (by have : u.pg.length = 16 := hu; omega)]
        rfl
      have c65 := hX.b.cell h65
      have c66 := hX.b.cell h66
      have hB := hX.below
      unfold Un.tail at hQ
      generalize u.st = s at *
      generalize u.ad = d at *
      by_cases h0 : 0 ≤ s
      · skip
        by_cases h1 : s ≤ 3
        · skip
          by_cases h2 : 0 ≤ d
          · skip
            by_cases h3 : d < 65536
            · have hQ : Hid (Q = true) := by
                show _ = _
                rw [show Q = _ from hQ]
                simp only [decide_eq_true h0, decide_eq_true h1, decide_eq_true h2, decide_eq_true h3, Bool.true_and]
              go_wp2
              go_ret
              exact ⟨ret_bool (by rw [show Q = true from hQ]), hB⟩
            · have hQ : Hid (Q = false) := by
                show _ = _
                rw [show Q = _ from hQ]
                simp only [decide_eq_false h3, Bool.false_and, Bool.and_false]
              go_wp2
              go_ret
              exact ⟨ret_bool (by rw [show Q = false from hQ]), hB⟩
          · have hQ : Hid (Q = false) := by
              show _ = _
              rw [show Q = _ from hQ]
              simp only [decide_eq_false h2, Bool.false_and, Bool.and_false]
            go_wp2
            go_ret
            exact ⟨ret_bool (by rw [show Q = false from hQ]), hB⟩
        · have hQ : Hid (Q = false) := by
            show _ = _
            rw [show Q = _ from hQ]
            simp only [decide_eq_false h1, Bool.false_and, Bool.and_false]
          go_wp2
          go_ret
          exact ⟨ret_bool (by rw [show Q = false from hQ]), hB⟩
      · have hQ : Hid (Q = false) := by
          show _ = _
          rw [show Q = _ from hQ]
          simp only [decide_eq_false h0, Bool.false_and, Bool.and_false]
        go_wp2
        go_ret
        exact ⟨ret_bool (by rw [show Q = false from hQ]), hB⟩
end Go.Proofs.Ytggnbfilkogcoaa
