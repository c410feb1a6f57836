/-
  Walks over bytes, Name and ByName of the reference of package disasm. Condition: its tables read as the program's text lays them.
-/
import Derived.Test.YtipaednpelapgaaDoorDwO
import Derived.Test.YtipaednpelapgaaDoorDsR
namespace Go.Proofs.YtipaednpelapgaaDoor
open Go.RowKit
set_option linter.unusedSimpArgs false
set_option linter.unusedVariables false
set_option maxHeartbeats 8000000
set_option maxRecDepth 100000

theorem rbytes_any (o : Int) (w : World) : Calls Tryd.prog 21 #[.int .i64 o] w fun e w' => e = .returned (.bool (byB o)) ∧ Below w.heap.size w w' := by
  have hb := Below.refl w.heap.size w
  have e : ∀ b : Bool, (b = true ↔ ((1 ≤ o ∧ o ≤ 5) ∨ (12 ≤ o ∧ o ≤ 23))) → Ending.returned (.bool b) = .returned (.bool (byB o)) := fun b h => ret_bool (by
    unfold byB
    by_cases k : (1 ≤ o ∧ o ≤ 5) ∨ (12 ≤ o ∧ o ≤ 23)
    · rw [decide_eq_true k]; exact h.2 k
    · rw [decide_eq_false k]
      cases b
      · rfl
      · exact absurd (h.1 rfl) k)
  go_enter Tryd.func21, Tryd.ntmps21
  go_wp2
  all_goals
    go_ret
    refine ⟨e _ ?_, hb⟩
    clear e hb
    first
      | omega
      | (simp; omega)
      | (simp only [Bool.false_eq_true, false_iff]; omega)
      | (simp only [true_iff]; omega)

theorem Tab.at {g : Nat} {l : List (List UInt8)} {w : World} {a : Addr} (h : Txs a l w) (k : Nat) (hk : k < l.length) : w.cell? (a.add k) = some (.string ⟨(l.getD k []).toArray⟩) := by
  rw [h k _ (List.getElem?_eq_getElem hk)]
  simp [hk]

theorem rname_any (o : Int) (b : Bool) (W0 : World) (T : Tab 0 mns W0) : Calls Tryd.prog 12 #[.int .i64 o, .bool b] W0 fun e w' => e = .returned (.string ⟨(nmT o b).toArray⟩) ∧ Below W0.heap.size W0 w' := by
  obtain ⟨a, cN, hT1, hT2, hT3⟩ := T.sl
  replace hT1 : _ = some (Value.slice (some a) 57 cN) := hT1
  have hb := Below.refl W0.heap.size W0
  by_cases h0 : o < 1
  · have e : nmT o b = [] := by unfold nmT; rw [show opB o = false from decide_eq_false (by omega)]; rfl
    rw [e]
    clear hT2 hT3
    go_enter Tryd.func12, Tryd.ntmps12
    go_wp2
    go_ret
    exact ⟨rfl, hb⟩
  · by_cases h1 : 57 ≤ o
    · have e : nmT o b = [] := by unfold nmT; rw [show opB o = false from decide_eq_false (by omega)]; rfl
      rw [e]
      clear hT2 hT3
      go_enter Tryd.func12, Tryd.ntmps12
      go_wp2
      go_ret
      exact ⟨rfl, hb⟩
    · obtain ⟨K, rfl⟩ : ∃ k : Nat, o = (k : Int) := ⟨o.toNat, by omega⟩
      have hK : K < 57 := by omega
      have hK2 : (K : Int) < 57 := by omega
      have hm : _ = _ := Tab.at (g := 0) hT2 K hK
      rw [show mns.getD K [] = mnT (K : Int) from rfl] at hm
      have hml := World.block_lt_of_cell? _ _ hm
      have e : nmT K b = if b = true then (if byB K = true then mnT K ++ [98] else []) else mnT K := by unfold nmT; rw [show opB K = true from decide_eq_true (by omega)]; rfl
      have hB := fun w => rbytes_any (K : Int) w
      have hl := mnT_len (K : Int)
      have hs := tx_size (mnT (K : Int))
      rw [e]
      clear e hT2 hT3
      generalize mnT (K : Int) = M at *
      generalize byB (K : Int) = F at *
      cases b
      · rw [if_neg (by decide)]
        go_enter Tryd.func12, Tryd.ntmps12
        go_wp2
        go_ret
        exact ⟨rfl, hb⟩
      · rw [if_pos rfl]
        cases F
        · rw [if_neg (by decide)]
          go_enter Tryd.func12, Tryd.ntmps12
          go_wp2_with (first | (go_at_call 21; with_reducible refine (hB _).mono ?_; rintro e w' ⟨rfl, hb⟩))
          go_ret
          exact ⟨rfl, by assumption⟩
        · rw [if_pos rfl]
          go_enter Tryd.func12, Tryd.ntmps12
          go_wp2_with (first | (go_at_call 21; with_reducible refine (hB _).mono ?_; rintro e w' ⟨rfl, hb⟩; have hT1 := (hb.cell (p := ⟨0, 0, none⟩) T.lt).trans hT1; have hm := (hb.cell hml).trans hm))
          go_ret
          exact ⟨by rw [ba_app]; simp, by assumption⟩

end Go.Proofs.YtipaednpelapgaaDoor
