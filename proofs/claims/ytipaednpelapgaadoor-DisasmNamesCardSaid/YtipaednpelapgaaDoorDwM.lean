/-
  Walk over meanings of package disasm: the map of all mnemonics. Condition: the tables read as the program's text lays them.
-/
import Derived.Test.YtipaednpelapgaaDoorDwL
import Derived.WalkKit
namespace Go.Proofs.YtipaednpelapgaaDoor
open Go.RowKit
set_option linter.unusedSimpArgs false
set_option linter.unusedVariables false
set_option maxHeartbeats 8000000
set_option maxRecDepth 100000

theorem tabN_succ (k : Nat) : tabN (k + 1) = tabN k ++ (ent k false ++ ent k true) := by
  unfold tabN
  rw [List.range_succ, List.flatMap_append]
  simp
theorem run_makeMap_114 (w : World) : (Instr.makeMap 47 (some (.int .i64 114))).run Tryd.prog w = .ok (.map (some w.heap.size)) (w.alloc (.map #[] 0)) := by
  have h : ∀ w, (underlying 47).run Tryd.prog w = .ok _ w := fun w => run_underlying Tryd.underlying47 w
  simp [Instr.makeMap, h, asInt, asIntOf, Result.andThen, go_sem]
theorem idxB0 (w : World) : (Instr.index 61 (.agg #[.bool false, .bool true]) (.int .i64 0)).run Tryd.prog w = .ok (.bool false) w := by kernel_rfl
theorem idxB1 (w : World) : (Instr.index 61 (.agg #[.bool false, .bool true]) (.int .i64 1)).run Tryd.prog w = .ok (.bool true) w := by kernel_rfl
theorem ent_no {k : Nat} {b : Bool} (h : nmT (k : Int) b = []) : ent k b = [] := if_pos h
theorem ent_yes {k : Nat} {b : Bool} (h : nmT (k : Int) b ≠ []) : ent k b = [(nmT (k : Int) b, (k : Int), b)] := if_neg h

theorem meanings_any {A : Addr} {c : Nat} (W0 : World) (W : Dis A c W0) :
    Calls Tryd.prog 19 #[] W0 fun e w' => e = .returned (.map (some W0.heap.size)) ∧ MapIs W0.heap.size 200 (tabN 57 ++ tabB) w' ∧ Below W0.heap.size W0 w' := by
  have hmm := run_makeMap_114
  have hM0 := MapIs.made W0
  have hb0 : Below W0.heap.size W0 (W0.alloc (.map #[] 0)) := (Below.refl _ _).alloc (Nat.le_refl _) _
  obtain ⟨B, hB⟩ : ∃ B, B = W0.heap.size := ⟨_, rfl⟩
  go_enter Tryd.func19, Tryd.ntmps19
  go_wp2
  clear hmm
  go_loopw [9] (fun i wr => ∃ k : Nat, k ≤ 57 ∧ i = .int .i64 k ∧ MapIs W0.heap.size (2 * k) (tabN k) wr ∧ Below W0.heap.size W0 wr)
    (fun i _ => match i with | .int _ q => 57 - q.toNat | _ => 0)
  case atStart => exact ⟨0, by omega, rfl, hM0, hb0⟩
  case round =>
    obtain ⟨k, hk, rfl, hM, hbr⟩ := hrel
    clear hM0 hb0
    by_cases hk57 : k = 57
    · subst hk57
      obtain ⟨T, hT, hx⟩ : ∃ T : Value, (∀ w, Dis A c w → (Instr.loadAt 64 (.pointer (some ⟨5, 0, none⟩))).run Tryd.prog w = .ok T w) ∧ ∀ (k : Nat) (e : List UInt8 × Int × Int), abv[k]? = some e → ∀ w, (Instr.index 64 T (.int .i64 (k : Int))).run Tryd.prog w = .ok (.agg #[.string ⟨e.1.toArray⟩, .int .i64 e.2.1, .int .i64 e.2.2]) w := ⟨_, fun w D => load_av D, avx_all⟩
      have hL : _ = _ := hT _ (W.step hbr)
      go_wp2_with (first | (refine wpList_load_run rfl 64 (.global 5) (.pointer (some ⟨5, 0, none⟩)) T rfl rfl hL ?_))
      clear hL hT
      go_loopw [29] (fun i wr => ∃ k : Nat, k ≤ 9 ∧ i = .int .i64 k ∧ MapIs W0.heap.size (114 + k) (tabN 57 ++ tabB.take k) wr ∧ Below W0.heap.size W0 wr)
        (fun i _ => match i with | .int _ q => 9 - q.toNat | _ => 0)
      case atStart => exact ⟨0, by omega, rfl, by simpa using hM, hbr⟩
      case round =>
        clear hM hbr
        obtain ⟨k, hk, rfl, hM, hbr⟩ := hrel
        by_cases hk9 : k = 9
        · subst hk9
          go_wp2
          go_ret
          exact ⟨rfl, hM.mono (by omega), hbr⟩
        · have hk1 : k < abv.length := by show k < 9; omega
          obtain ⟨⟨s, po, pn⟩, he⟩ : ∃ e, abv[k]? = some e := ⟨_, List.getElem?_eq_getElem hk1⟩
          have hxk : ∀ w, _ = _ := hx k _ he
          simp only at hxk
          have hk2 : k < 9 := hk1
          have hs3 : s.length ≤ 3 := by
            have h3 : ∀ e ∈ abv, e.1.length ≤ 3 := by decide
            exact h3 _ (List.mem_of_getElem? he)
          have eT : tabB.take (k + 1) = tabB.take k ++ [(s, po, false)] := by
            rw [List.take_add_one]
            unfold tabB
            rw [List.getElem?_map, he]; rfl
          clear hx hk hk9 hk1 he
          have hM1 := hM.below (w' := wr.alloc (.cells #[.string ⟨s.toArray⟩, .int .i64 po, .int .i64 pn] 63)) ((Below.refl _ _).alloc (Nat.le_refl _) _)
          have hbr1 := hbr.trans (((Below.refl wr.heap.size wr).alloc (Nat.le_refl _) (.cells #[.string ⟨s.toArray⟩, .int .i64 po, .int .i64 pn] 63)).mono hbr.size)
          go_wp2_with (first
            | (at_mapUpdate; refine wpList_put rfl (.tmp 32) (.tmp 34) (.tmp 37) rfl W0.heap.size _ _ rfl hM1 (by unfold maxLen; omega) s (by unfold maxLen; omega) rfl po false rfl ?_; intro w3 hM3 hg3; have hbr3 := hbr1.grown hg3 hbr1.size (fun j hj => by cases hj; exact Nat.le_refl _); clear hg3))
          refine ⟨⟨k + 1, by omega, rfl, ?_, hbr3⟩, ?_⟩
          · rw [eT, ← List.append_assoc]
            exact hM3
          · simp only; omega
    · have hk2 : k < 57 := by omega
      have hn0 := fun w D => dnam_any (k : Int) false (A := A) (c := c) w D
      have hn1 := fun w D => dnam_any (k : Int) true (A := A) (c := c) w D
      have l0 := nmT_len (k : Int) false
      have l1 := nmT_len (k : Int) true
      have x0 := idxB0
      have x1 := idxB1
      have e1 := tabN_succ k
      by_cases h0 : nmT (k : Int) false = []
      · rw [ent_no h0] at e1
        rw [h0] at hn0
        by_cases h1 : nmT (k : Int) true = []
        · rw [ent_no h1] at e1
          rw [h1] at hn1
          have E1 : Hid _ := e1
          clear e1 h0 h1 l0 l1
          go_wp2
          refine wp_loop_rounds 3 ?_
          rw [rounds_succ]
          go_wp2_with (first
            | (go_at_call 11; with_reducible refine (hn0 _ (W.step hbr)).mono ?_; rintro e w1 ⟨rfl, hb⟩; have hM := hM.below hb; have hbr := hbr.trans (hb.mono hbr.size); clear hb)
            | (at_mapUpdate; refine wpList_put rfl (.tmp 21) (.tmp 22) (.tmp 25) rfl W0.heap.size _ _ rfl hM (by unfold maxLen; omega) N0 (by unfold maxLen; omega) rfl (k : Int) false rfl ?_; intro w3 hM hg3; have hbr := hbr.grown hg3 hbr.size (fun j hj => by cases hj; exact Nat.le_refl _); clear hg3))
          rw [rounds_succ]
          go_wp2_with (first
            | (go_at_call 11; with_reducible refine (hn1 _ (W.step hbr)).mono ?_; rintro e w1 ⟨rfl, hb⟩; have hM := hM.below hb; have hbr := hbr.trans (hb.mono hbr.size); clear hb)
            | (at_mapUpdate; refine wpList_put rfl (.tmp 21) (.tmp 22) (.tmp 25) rfl W0.heap.size _ _ rfl hM (by unfold maxLen; omega) N1 (by unfold maxLen; omega) rfl (k : Int) true rfl ?_; intro w3 hM hg3; have hbr := hbr.grown hg3 hbr.size (fun j hj => by cases hj; exact Nat.le_refl _); clear hg3))
          rw [rounds_succ]
          go_wp2
          refine ⟨⟨k + 1, by omega, rfl, ?_, hbr⟩, by simp only; omega⟩
          unfold Hid at E1
          rw [E1, List.append_nil, List.append_nil]
          exact hM.mono (by omega)
        · rw [ent_yes h1] at e1
          have E1 : Hid _ := e1
          have i1 := List.isEmpty_eq_false_iff.2 h1
          clear e1 h0 h1 l0
          generalize nmT (k : Int) true = N1 at *
          go_wp2
          refine wp_loop_rounds 3 ?_
          rw [rounds_succ]
          go_wp2_with (first
            | (go_at_call 11; with_reducible refine (hn0 _ (W.step hbr)).mono ?_; rintro e w1 ⟨rfl, hb⟩; have hM := hM.below hb; have hbr := hbr.trans (hb.mono hbr.size); clear hb)
            | (at_mapUpdate; refine wpList_put rfl (.tmp 21) (.tmp 22) (.tmp 25) rfl W0.heap.size _ _ rfl hM (by unfold maxLen; omega) N0 (by unfold maxLen; omega) rfl (k : Int) false rfl ?_; intro w3 hM hg3; have hbr := hbr.grown hg3 hbr.size (fun j hj => by cases hj; exact Nat.le_refl _); clear hg3))
          rw [rounds_succ]
          go_wp2_with (first
            | (go_at_call 11; with_reducible refine (hn1 _ (W.step hbr)).mono ?_; rintro e w1 ⟨rfl, hb⟩; have hM := hM.below hb; have hbr := hbr.trans (hb.mono hbr.size); clear hb)
            | (at_mapUpdate; refine wpList_put rfl (.tmp 21) (.tmp 22) (.tmp 25) rfl W0.heap.size _ _ rfl hM (by unfold maxLen; omega) N1 (by unfold maxLen; omega) rfl (k : Int) true rfl ?_; intro w3 hM hg3; have hbr := hbr.grown hg3 hbr.size (fun j hj => by cases hj; exact Nat.le_refl _); clear hg3))
          rw [rounds_succ]
          go_wp2
          refine ⟨⟨k + 1, by omega, rfl, ?_, hbr⟩, by simp only; omega⟩
          unfold Hid at E1
          rw [E1, List.nil_append]
          exact hM.mono (by omega)
      · rw [ent_yes h0] at e1
        have i0 := List.isEmpty_eq_false_iff.2 h0
        by_cases h1 : nmT (k : Int) true = []
        · rw [ent_no h1] at e1
          rw [h1] at hn1
          have E1 : Hid _ := e1
          clear e1 h0 h1 l1
          generalize nmT (k : Int) false = N0 at *
          go_wp2
          refine wp_loop_rounds 3 ?_
          rw [rounds_succ]
          go_wp2_with (first
            | (go_at_call 11; with_reducible refine (hn0 _ (W.step hbr)).mono ?_; rintro e w1 ⟨rfl, hb⟩; have hM := hM.below hb; have hbr := hbr.trans (hb.mono hbr.size); clear hb)
            | (at_mapUpdate; refine wpList_put rfl (.tmp 21) (.tmp 22) (.tmp 25) rfl W0.heap.size _ _ rfl hM (by unfold maxLen; omega) N0 (by unfold maxLen; omega) rfl (k : Int) false rfl ?_; intro w3 hM hg3; have hbr := hbr.grown hg3 hbr.size (fun j hj => by cases hj; exact Nat.le_refl _); clear hg3))
          rw [rounds_succ]
          go_wp2_with (first
            | (go_at_call 11; with_reducible refine (hn1 _ (W.step hbr)).mono ?_; rintro e w1 ⟨rfl, hb⟩; have hM := hM.below hb; have hbr := hbr.trans (hb.mono hbr.size); clear hb)
            | (at_mapUpdate; refine wpList_put rfl (.tmp 21) (.tmp 22) (.tmp 25) rfl W0.heap.size _ _ rfl hM (by unfold maxLen; omega) N1 (by unfold maxLen; omega) rfl (k : Int) true rfl ?_; intro w3 hM hg3; have hbr := hbr.grown hg3 hbr.size (fun j hj => by cases hj; exact Nat.le_refl _); clear hg3))
          rw [rounds_succ]
          go_wp2
          refine ⟨⟨k + 1, by omega, rfl, ?_, hbr⟩, by simp only; omega⟩
          unfold Hid at E1
          rw [E1, List.append_nil]
          exact hM.mono (by omega)
        · rw [ent_yes h1] at e1
          have E1 : Hid _ := e1
          have i1 := List.isEmpty_eq_false_iff.2 h1
          clear e1 h0 h1
          generalize nmT (k : Int) true = N1 at *
          generalize nmT (k : Int) false = N0 at *
          go_wp2
          refine wp_loop_rounds 3 ?_
          rw [rounds_succ]
          go_wp2_with (first
            | (go_at_call 11; with_reducible refine (hn0 _ (W.step hbr)).mono ?_; rintro e w1 ⟨rfl, hb⟩; have hM := hM.below hb; have hbr := hbr.trans (hb.mono hbr.size); clear hb)
            | (at_mapUpdate; refine wpList_put rfl (.tmp 21) (.tmp 22) (.tmp 25) rfl W0.heap.size _ _ rfl hM (by unfold maxLen; omega) N0 (by unfold maxLen; omega) rfl (k : Int) false rfl ?_; intro w3 hM hg3; have hbr := hbr.grown hg3 hbr.size (fun j hj => by cases hj; exact Nat.le_refl _); clear hg3))
          rw [rounds_succ]
          go_wp2_with (first
            | (go_at_call 11; with_reducible refine (hn1 _ (W.step hbr)).mono ?_; rintro e w1 ⟨rfl, hb⟩; have hM := hM.below hb; have hbr := hbr.trans (hb.mono hbr.size); clear hb)
            | (at_mapUpdate; refine wpList_put rfl (.tmp 21) (.tmp 22) (.tmp 25) rfl W0.heap.size _ _ rfl hM (by unfold maxLen; omega) N1 (by unfold maxLen; omega) rfl (k : Int) true rfl ?_; intro w3 hM hg3; have hbr := hbr.grown hg3 hbr.size (fun j hj => by cases hj; exact Nat.le_refl _); clear hg3))
          rw [rounds_succ]
          go_wp2
          refine ⟨⟨k + 1, by omega, rfl, ?_, hbr⟩, by simp only; omega⟩
          unfold Hid at E1
          rw [E1, ← List.append_assoc]
          exact hM.mono (by omega)

end Go.Proofs.YtipaednpelapgaaDoor
