/-
  The reference's GetWords at any text, the comparison of a list of integers with one that reads the same. Condition: texts have at most 2^40 bytes, lists at most 2^40 elements.
-/
import Derived.Test.YtbcnehjpondplaaDoorOcG
namespace Go.Proofs.YtbcnehjpondplaaDoor
open Go.RowKit
set_option linter.unusedSimpArgs false
set_option maxHeartbeats 1000000

theorem rgetw_any (s : ByteArray) (hs : s.size ≤ 1099511627776) (w : World) :
    Calls Tryd.prog 20 #[.string s] w fun e w' => ∃ v, e = .returned (.tuple #[v, .int .i64 (gwE s.data.toList)]) ∧ Nums .i64 w' v (gwL s.data.toList) ∧ Below w.heap.size w w' := by
  have hsz := size_len s
  by_cases h : s.size % 2 = 0
  · have e1 : gwE s.data.toList = 0 := if_pos (by omega)
    have e2 : gwL s.data.toList = gwds s.data.toList := if_pos (by omega)
    rw [e1, e2]
    exact rgetw_even s (s.size / 2) (by omega) hs w
  · have e1 : gwE s.data.toList = 9 := if_neg (by omega)
    have e2 : gwL s.data.toList = [] := if_neg (by omega)
    rw [e1, e2]
    exact (rgetw_odd s hs h w).mono fun e w' ⟨he, hb⟩ => ⟨_, he, Nums.nil _ _, hb⟩
theorem drewN_below {B : Nat} {a w : World} (h : Below B a w) (q : Nat) : Below B a (w.drewN q) := ⟨h.os, h.tape, h.output, h.size, h.block⟩
theorem same_any (l : List Int) (va vb : Value) (hl : l.length ≤ 1099511627776) (w : World) (ha : Nums .i64 w va l) (hb : Nums .i64 w vb l) :
    Calls Tryd.prog 23 #[va, vb] w fun e w' => e = .returned (.bool true) ∧ Below w.heap.size w w' := by
  obtain ⟨A, ca, rfl, hca⟩ := ha
  obtain ⟨B, cb, rfl, hcb⟩ := hb
  go_enter Tryd.func23, Tryd.ntmps23
  go_wp2
  go_loopw [5] (fun i wr => ∃ k : Nat, k ≤ l.length ∧ i = .int .i64 k ∧ Below w.heap.size w wr)
    (fun i _ => match i with | .int _ q => l.length - q.toNat | _ => 0)
  case atStart => exact ⟨0, Nat.zero_le _, rfl, Below.refl _ _⟩
  case round =>
    obtain ⟨k, hk, rfl, hbr⟩ := hrel
    by_cases hkl : k < l.length
    · have hx := List.getElem?_eq_getElem hkl
      generalize l[k] = x at *
      obtain ⟨a, rfl, ha1, ha2⟩ := hca k x hx
      obtain ⟨b, rfl, hb1, hb2⟩ := hcb k x hx
      have hcx := (hbr.cell ha2).trans ha1
      have hcy := (hbr.cell hb2).trans hb1
      clear hca hcb hx ha1 hb1 ha2 hb2
      have b0 : (0 : Int) ≤ (k : Int) := by omega
      have b1 : (k : Int) < (l.length : Int) := by omega
      go_wp2
      go_quiet (fail)
      go_wp2
      trace_state
      refine ⟨⟨k + 1, by omega, by go_num, drewN_below hbr nq⟩, ?_⟩
      simp only; omega
    · go_wp2
      go_ret
      exact ⟨rfl, hbr⟩

end Go.Proofs.YtbcnehjpondplaaDoor
