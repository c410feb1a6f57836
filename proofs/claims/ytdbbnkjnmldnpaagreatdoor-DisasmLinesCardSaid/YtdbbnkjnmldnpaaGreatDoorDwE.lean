/-
  Walk over abbreviated of package disasm. Condition: the tables read as the program's text lays them.
-/
import Derived.Test.YtdbbnkjnmldnpaaGreatDoorDwD
namespace Go.Proofs.YtdbbnkjnmldnpaaGreatDoor
open Go.RowKit
set_option linter.unusedSimpArgs false
set_option linter.unusedVariables false
set_option maxHeartbeats 8000000
set_option maxRecDepth 100000

theorem dabb_any (o : Int) (b : Bool) (m r x p q y g n : Int) {A : Addr} {c : Nat} (W0 : World) (W : Dis A c W0) :
    Calls Tryz.prog 22 #[.agg #[.int .i64 o, .bool b, .int .i64 m, .int .i64 r, .int .i64 x, .int .i64 p, .int .i64 q, .int .i64 y, .int .i64 g, .int .i64 n]] W0 fun e w' => e = .returned (.tuple #[.string ⟨((abT o n).getD []).toArray⟩, .bool (abT o n).isSome]) ∧ Below W0.heap.size W0 w' := by
  have hX := (St.start W.frm).put [.int .i64 o, .bool b, .int .i64 m, .int .i64 r, .int .i64 x, .int .i64 p, .int .i64 q, .int .i64 y, .int .i64 g, .int .i64 n] 36
  obtain ⟨i0, i1, i2, i3, i4, i5, i6, i7, i8, i9⟩ := hX.ten 0 rfl
  obtain ⟨T, hT, hx⟩ : ∃ T : Value, (∀ w, Dis A c w → (Instr.loadAt 63 (.pointer (some ⟨4, 0, none⟩))).run Tryz.prog w = .ok T w) ∧ ∀ (k : Nat) (e : List UInt8 × Int × Int), abv[k]? = some e → ∀ w, (Instr.index 63 T (.int .i64 (k : Int))).run Tryz.prog w = .ok (.agg #[.string ⟨e.1.toArray⟩, .int .i64 e.2.1, .int .i64 e.2.2]) w := ⟨_, fun w D => load_av D, avx_all⟩
  have hL : _ = _ := hT _ (hX.dis W)
  go_enter Tryz.func22, Tryz.ntmps22
  go_wp2_with (first | (refine wpList_load_run rfl 63 (.global 4) (.pointer (some ⟨4, 0, none⟩)) T rfl rfl hL ?_))
  clear hL hT
  go_loopw [7] (fun i wr => ∃ k : Nat, k ≤ 9 ∧ i = .int .i64 k ∧ St A c [(W0.heap.size, [.int .i64 o, .bool b, .int .i64 m, .int .i64 r, .int .i64 x, .int .i64 p, .int .i64 q, .int .i64 y, .int .i64 g, .int .i64 n])] W0 wr ∧ Hid (∀ (j : Nat) (e : List UInt8 × Int × Int), j < k → abv[j]? = some e → ¬ (e.2.1 = o ∧ e.2.2 = n)))
    (fun i _ => match i with | .int _ q => 9 - q.toNat | _ => 0)
  case atStart => exact ⟨0, by omega, rfl, hX, fun j e h => absurd h (Nat.not_lt_zero j)⟩
  case round =>
    obtain ⟨k, hk, rfl, hX, hH⟩ := hrel
    obtain ⟨i0, i1, i2, i3, i4, i5, i6, i7, i8, i9⟩ := hX.ten 0 rfl
    have hlt : W0.heap.size < wr.heap.size := (hX.at_ 0 rfl).lt
    by_cases hk9 : k = 9
    · subst hk9
      have e : Hid (abT o n = none) := ab_none hH
      clear hH
      go_wp2
      go_ret2
      unfold Hid at e
      rw [e]
      exact ⟨rfl, hX.below⟩
    · have hk1 : k < abv.length := by show k < 9; omega
      obtain ⟨⟨s, po, pn⟩, he⟩ : ∃ e, abv[k]? = some e := ⟨_, List.getElem?_eq_getElem hk1⟩
      have hxk : ∀ w, _ = _ := hx k _ he
      simp only at hxk
      have hk2 : k < 9 := hk1
      clear hx hk hk9
      by_cases ho : o = po
      · by_cases hn : n = pn
        · have hQ : Hid (abT o n = some s) := ab_some he ⟨ho.symm, hn.symm⟩ hH
          subst ho hn
          clear hH he hk1
          go_wp2
          go_ret2
          unfold Hid at hQ
          rw [hQ]
          exact ⟨rfl, (hX.step ((Below.refl _ _).alloc (Nat.le_refl _) _)).below⟩
        · have hH2 := ab_more he hH (fun h => hn h.2.symm)
          clear hH he hk1
          subst ho
          have hn1 : (pn == n) = false := beq_eq_false_iff_ne.2 (fun h => hn h.symm)
          go_wp2
          refine ⟨⟨k + 1, by omega, rfl, hX.step ((Below.refl _ _).alloc (Nat.le_refl _) _), hH2⟩, ?_⟩
          simp only; omega
      · have hH2 := ab_more he hH (fun h => ho h.1.symm)
        clear hH he hk1
        have ho1 : (po == o) = false := beq_eq_false_iff_ne.2 (fun h => ho h.symm)
        go_wp2
        refine ⟨⟨k + 1, by omega, rfl, hX.step ((Below.refl _ _).alloc (Nat.le_refl _) _), hH2⟩, ?_⟩
        simp only; omega

end Go.Proofs.YtdbbnkjnmldnpaaGreatDoor
