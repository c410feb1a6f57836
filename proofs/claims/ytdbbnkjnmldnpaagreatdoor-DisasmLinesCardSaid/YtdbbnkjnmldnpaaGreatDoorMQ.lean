import Derived.Test.YtdbbnkjnmldnpaaGreatDoorDwE
import Derived.Maps.OwnSet
import Derived.WalkKit
import Derived.Test.YtdbbnkjnmldnpaaGreatDoorDwN
/-
  The map of mnemonics as a list of entries: made, filled, asked. No condition but that it is small.
-/
namespace Go.Proofs.YtdbbnkjnmldnpaaGreatDoor
open Go.RowKit
set_option linter.unusedSimpArgs false
set_option linter.unusedVariables false
set_option maxHeartbeats 8000000
set_option maxRecDepth 100000
open Go.Maps (Keyed string_keyed)

def dm (o : Int) (b : Bool) : DataW Unit := .agg [.lit (.int .i64 o), .lit (.bool b)]
/-- How an entry's value reads. -/
def mR (v : Value) : Option (DataW Unit × List MemPlace) :=
  match v with
  | .agg cs => (match cs.toList with
    | [.int .i64 o, .bool b] => some (dm o b, [])
    | _ => none)
  | _ => none
theorem mR_mk (o : Int) (b : Bool) : mR (.agg #[.int .i64 o, .bool b]) = some (dm o b, []) := rfl
theorem mR_inv {v : Value} {o : Int} {b : Bool} {ps : List MemPlace} (h : mR v = some (dm o b, ps)) : v = .agg #[.int .i64 o, .bool b] := by
  unfold mR at h
  split at h
  · next cs =>
    split at h
    · next o' b' he =>
      simp only [Option.some.injEq, Prod.mk.injEq, dm, DataW.agg.injEq, List.cons.injEq, DataW.lit.injEq, Lit.int.injEq, Lit.bool.injEq, and_true, true_and] at h
      obtain ⟨⟨rfl, rfl⟩, _⟩ := h
      congr 1
      exact Array.ext' he
    · cases h
  · cases h

theorem mlaw : Keyed Tryz.prog 9 := string_keyed Tryz.underlying9
/-- Block B is a map of at most n entries that answers as the list does. -/
def MapIs (B n : Nat) (L : List (List UInt8 × Int × Bool)) (w : World) : Prop :=
  ∃ D : DataW Unit, w.ownsMap Tryz.prog 9 mR B n D ∧ Maps.IsMap D ∧ ∀ s : List UInt8, Maps.has D (.string s) = (fnd L s).isSome ∧ D.atKey (.string s) (dm 0 false) = dm ((fnd L s).getD (0, false)).1 ((fnd L s).getD (0, false)).2

theorem MapIs.made (w : World) : MapIs w.heap.size 0 [] (w.alloc (.map #[] 0)) :=
  ⟨_, World.ownsMap_made w _ _ _, ⟨[], rfl⟩, fun s => ⟨rfl, rfl⟩⟩
theorem MapIs.below {B n : Nat} {L : List (List UInt8 × Int × Bool)} {w w' : World} (h : MapIs B n L w) (hb : Below w.heap.size w w') : MapIs B n L w' := by
  obtain ⟨D, h1, h2⟩ := h
  exact ⟨D, h1.kept (row := none) ⟨hb.os, hb.tape, hb.output, hb.size, fun k hk _ => hb.block k hk⟩ (by simp), h2⟩
theorem MapIs.lt {B n : Nat} {L : List (List UInt8 × Int × Bool)} {w : World} (h : MapIs B n L w) : B < w.heap.size := by
  obtain ⟨D, h1, _⟩ := h
  exact h1.lt
theorem MapIs.mono {B n n' : Nat} {L : List (List UInt8 × Int × Bool)} {w : World} (h : MapIs B n L w) (hn : n ≤ n') : MapIs B n' L w := by
  obtain ⟨D, h1, h2⟩ := h
  exact ⟨D, h1.mono hn, h2⟩
theorem fnd_snoc (L : List (List UInt8 × Int × Bool)) (e : List UInt8 × Int × Bool) (s : List UInt8) : fnd (L ++ [e]) s = if e.1 = s then some e.2 else fnd L s := by
  unfold fnd
  rw [List.reverse_append]
  simp only [List.reverse_cons, List.reverse_nil, List.nil_append, List.singleton_append, List.find?_cons]
  by_cases h : e.1 = s
  · simp [h]
  · simp [h]
theorem key_lit (s : List UInt8) : WideAt.IsKeyLit (.string s) := trivial

theorem wpList_put {w : World} {ops : Array Oper} {rest : List Oper} {o : Oper} {a : Act} {Q : Exit → Act → World → Prop} (hg : o.guard = none) (m x v : Operand) (hop : o.op = Op.mapUpdate 46 m x v)
    (B n : Nat) (L : List (List UInt8 × Int × Bool)) (hm : a.eval m = .map (some B)) (h : MapIs B n L w) (hn : n < maxLen) (key : List UInt8) (hk : key.length ≤ maxLen) (hx : a.eval x = .string ⟨key.toArray⟩) (op : Int) (b : Bool) (hv : a.eval v = .agg #[.int .i64 op, .bool b])
    (hK : ∀ w', MapIs B (n + 1) (L ++ [(key, op, b)]) w' → w.grownBy w' (some B) → wpList Tryz.prog ops Q rest (a.put o.dst undef) w') : wpList Tryz.prog ops Q (o :: rest) a w := by
  obtain ⟨D, h1, h2, h3⟩ := h
  have hkey : keyOf Tryz.prog 9 (.string ⟨key.toArray⟩) = some (.string key) := by
    have k := WideMaps.keyOf_string_mk (P := Tryz.prog) (k := 9) Tryz.underlying9 (s := ⟨key.toArray⟩) (by rw [tx_size]; exact hk)
    simpa using k
  refine wpList_mapUpdate_own w hg m x v 46 hop 9 44 mlaw Tryz.underlying46 mR B n D hm h1 hn _ _ _ hx hv hkey (dm op b) [] (mR_mk op b) (fun w' h4 h5 => hK w' ⟨_, h4, h2.put _ _, fun s => ?_⟩ h5)
  rw [fnd_snoc]
  by_cases hs : key = s
  · subst hs
    rw [if_pos rfl]
    exact ⟨Maps.has_put_same h2 (key_lit _) _, Maps.atKey_put_same h2 (key_lit _) _ _⟩
  · rw [if_neg hs]
    have hne : (Lit.string s) ≠ Lit.string key := fun h => hs (by injection h with h; exact h.symm)
    rw [Maps.has_put_other hne, Maps.atKey_put_other hne]
    exact h3 s

theorem wpList_get {w : World} {ops : Array Oper} {rest : List Oper} {o : Oper} {a : Act} {Q : Exit → Act → World → Prop} (hg : o.guard = none) (m x : Operand) (hop : o.op = Op.lookup 46 m x true)
    (B n : Nat) (L : List (List UInt8 × Int × Bool)) (hm : a.eval m = .map (some B)) (h : MapIs B n L w) (s : ByteArray) (hk : s.size ≤ maxLen) (hx : a.eval x = .string s)
    (hK : wpList Tryz.prog ops Q rest (a.put o.dst (.tuple #[.agg #[.int .i64 ((fnd L s.data.toList).getD (0, false)).1, .bool ((fnd L s.data.toList).getD (0, false)).2], .bool (fnd L s.data.toList).isSome])) w) : wpList Tryz.prog ops Q (o :: rest) a w := by
  obtain ⟨D, h1, h2, h3⟩ := h
  have hkey : keyOf Tryz.prog 9 (.string s) = some (.string s.data.toList) := WideMaps.keyOf_string_mk (P := Tryz.prog) (k := 9) Tryz.underlying9 hk
  have hz : (zeroValue 44).run Tryz.prog w = .ok (.agg #[.int .i64 0, .bool false]) w := by kernel_rfl
  refine wpList_lookup_own_ok w hg m x 46 hop 9 44 mlaw Tryz.underlying46 mR hz (dm 0 false) [] (mR_mk 0 false) B n D hm h1 _ _ hx hkey (fun v ps hv => ?_)
  rw [(h3 _).2] at hv
  rw [mR_inv hv, (h3 _).1]
  exact hK

end Go.Proofs.YtdbbnkjnmldnpaaGreatDoor

/-
  Walk over meanings of package disasm: the map of all mnemonics. Condition: the tables read as the program's text lays them.
-/
namespace Go.Proofs.YtdbbnkjnmldnpaaGreatDoor
open Go.RowKit
set_option linter.unusedSimpArgs false
set_option linter.unusedVariables false
set_option maxHeartbeats 8000000
set_option maxRecDepth 100000

theorem tabN_succ (k : Nat) : tabN (k + 1) = tabN k ++ (ent k false ++ ent k true) := by
  unfold tabN
  rw [List.range_succ, List.flatMap_append]
  simp
theorem run_makeMap_114 (w : World) : (Instr.makeMap 46 (some (.int .i64 114))).run Tryz.prog w = .ok (.map (some w.heap.size)) (w.alloc (.map #[] 0)) := by
  have h : ∀ w, (underlying 46).run Tryz.prog w = .ok _ w := fun w => run_underlying Tryz.underlying46 w
  simp [Instr.makeMap, h, asInt, asIntOf, Result.andThen, go_sem]
theorem idxB0 (w : World) : (Instr.index 60 (.agg #[.bool false, .bool true]) (.int .i64 0)).run Tryz.prog w = .ok (.bool false) w := by kernel_rfl
theorem idxB1 (w : World) : (Instr.index 60 (.agg #[.bool false, .bool true]) (.int .i64 1)).run Tryz.prog w = .ok (.bool true) w := by kernel_rfl
theorem ent_no {k : Nat} {b : Bool} (h : nmT (k : Int) b = []) : ent k b = [] := if_pos h
theorem ent_yes {k : Nat} {b : Bool} (h : nmT (k : Int) b ≠ []) : ent k b = [(nmT (k : Int) b, (k : Int), b)] := if_neg h

theorem meanings_any {A : Addr} {c : Nat} (W0 : World) (W : Dis A c W0) :
    Calls Tryz.prog 16 #[] W0 fun e w' => e = .returned (.map (some W0.heap.size)) ∧ MapIs W0.heap.size 200 (tabN 57 ++ tabB) w' ∧ Below W0.heap.size W0 w' := by
  have hmm := run_makeMap_114
  have hM0 := MapIs.made W0
  have hb0 : Below W0.heap.size W0 (W0.alloc (.map #[] 0)) := (Below.refl _ _).alloc (Nat.le_refl _) _
  obtain ⟨B, hB⟩ : ∃ B, B = W0.heap.size := ⟨_, rfl⟩
  go_enter Tryz.func16, Tryz.ntmps16
  go_wp2
  clear hmm
  go_loopw [9] (fun i wr => ∃ k : Nat, k ≤ 57 ∧ i = .int .i64 k ∧ MapIs W0.heap.size (2 * k) (tabN k) wr ∧ Below W0.heap.size W0 wr)
    (fun i _ => match i with | .int _ q => 57 - q.toNat | _ => 0)
  case atStart => exact ⟨0, by omega, rfl, hM0, hb0⟩
  case round =>
    obtain ⟨k, hk, rfl, hM, hbr⟩ := hrel
    clear hM0 hb0
    by_cases hk57 : k = 57
    · subst hk57
      obtain ⟨T, hT, hx⟩ : ∃ T : Value, (∀ w, Dis A c w → (Instr.loadAt 63 (.pointer (some ⟨4, 0, none⟩))).run Tryz.prog w = .ok T w) ∧ ∀ (k : Nat) (e : List UInt8 × Int × Int), abv[k]? = some e → ∀ w, (Instr.index 63 T (.int .i64 (k : Int))).run Tryz.prog w = .ok (.agg #[.string ⟨e.1.toArray⟩, .int .i64 e.2.1, .int .i64 e.2.2]) w := ⟨_, fun w D => load_av D, avx_all⟩
      have hL : _ = _ := hT _ (W.step hbr)
      go_wp2_with (first | (refine wpList_load_run rfl 63 (.global 4) (.pointer (some ⟨4, 0, none⟩)) T rfl rfl hL ?_))
      clear hL hT
      go_loopw [29] (fun i wr => ∃ k : Nat, k ≤ 9 ∧ i = .int .i64 k ∧ MapIs W0.heap.size (114 + k) (tabN 57 ++ tabB.take k) wr ∧ Below W0.heap.size W0 wr)
        (fun i _ => match i with | .int _ q => 9 - q.toNat | _ => 0)
      case atStart => exact ⟨0, by omega, rfl, by simpa using hM, hbr⟩
      case round =>
        clear hM hbr
        obtain ⟨k, hk, rfl, hM, hbr⟩ := hrel
        by_cases hk9 : k = 9
        · subst hk9
          go_wp2
          go_ret
          exact ⟨rfl, hM.mono (by omega), hbr⟩
        · have hk1 : k < abv.length := by show k < 9; omega
          obtain ⟨⟨s, po, pn⟩, he⟩ : ∃ e, abv[k]? = some e := ⟨_, List.getElem?_eq_getElem hk1⟩
          have hxk : ∀ w, _ = _ := hx k _ he
          simp only at hxk
          have hk2 : k < 9 := hk1
          have hs3 : s.length ≤ 3 := by
            have h3 : ∀ e ∈ abv, e.1.length ≤ 3 := by decide
            exact h3 _ (List.mem_of_getElem? he)
          have eT : tabB.take (k + 1) = tabB.take k ++ [(s, po, false)] := by
            rw [List.take_add_one]
            unfold tabB
            rw [List.getElem?_map, he]; rfl
          clear hx hk hk9 hk1 he
          have hM1 := hM.below (w' := wr.alloc (.cells #[.string ⟨s.toArray⟩, .int .i64 po, .int .i64 pn] 62)) ((Below.refl _ _).alloc (Nat.le_refl _) _)
          have hbr1 := hbr.trans (((Below.refl wr.heap.size wr).alloc (Nat.le_refl _) (.cells #[.string ⟨s.toArray⟩, .int .i64 po, .int .i64 pn] 62)).mono hbr.size)
          go_wp2_with (first
            | (at_mapUpdate; refine wpList_put rfl (.tmp 32) (.tmp 34) (.tmp 37) rfl W0.heap.size _ _ rfl hM1 (by unfold maxLen; omega) s (by unfold maxLen; omega) rfl po false rfl ?_; intro w3 hM3 hg3; have hbr3 := hbr1.grown hg3 hbr1.size (fun j hj => by cases hj; exact Nat.le_refl _); clear hg3))
          refine ⟨⟨k + 1, by omega, rfl, ?_, hbr3⟩, ?_⟩
          · rw [eT, ← List.append_assoc]
            exact hM3
          · simp only; omega
    · have hk2 : k < 57 := by omega
      have hn0 := fun w D => dnam_any (k : Int) false (A := A) (c := c) w D
      have hn1 := fun w D => dnam_any (k : Int) true (A := A) (c := c) w D
      have l0 := nmT_len (k : Int) false
      have l1 := nmT_len (k : Int) true
      have x0 := idxB0
      have x1 := idxB1
      have e1 := tabN_succ k
      by_cases h0 : nmT (k : Int) false = []
      · rw [ent_no h0] at e1
        rw [h0] at hn0
        by_cases h1 : nmT (k : Int) true = []
        · rw [ent_no h1] at e1
          rw [h1] at hn1
          have E1 : Hid _ := e1
          clear e1 h0 h1 l0 l1
          go_wp2
          refine wp_loop_rounds 3 ?_
          rw [rounds_succ]
          go_wp2_with (first
            | (go_at_call 8; with_reducible refine (hn0 _ (W.step hbr)).mono ?_; rintro e w1 ⟨rfl, hb⟩; have hM := hM.below hb; have hbr := hbr.trans (hb.mono hbr.size); clear hb)
            | (at_mapUpdate; refine wpList_put rfl (.tmp 21) (.tmp 22) (.tmp 25) rfl W0.heap.size _ _ rfl hM (by unfold maxLen; omega) N0 (by unfold maxLen; omega) rfl (k : Int) false rfl ?_; intro w3 hM hg3; have hbr := hbr.grown hg3 hbr.size (fun j hj => by cases hj; exact Nat.le_refl _); clear hg3))
          rw [rounds_succ]
          go_wp2_with (first
            | (go_at_call 8; with_reducible refine (hn1 _ (W.step hbr)).mono ?_; rintro e w1 ⟨rfl, hb⟩; have hM := hM.below hb; have hbr := hbr.trans (hb.mono hbr.size); clear hb)
            | (at_mapUpdate; refine wpList_put rfl (.tmp 21) (.tmp 22) (.tmp 25) rfl W0.heap.size _ _ rfl hM (by unfold maxLen; omega) N1 (by unfold maxLen; omega) rfl (k : Int) true rfl ?_; intro w3 hM hg3; have hbr := hbr.grown hg3 hbr.size (fun j hj => by cases hj; exact Nat.le_refl _); clear hg3))
          rw [rounds_succ]
          go_wp2
          refine ⟨⟨k + 1, by omega, rfl, ?_, hbr⟩, by simp only; omega⟩
          unfold Hid at E1
          rw [E1, List.append_nil, List.append_nil]
          exact hM.mono (by omega)
        · rw [ent_yes h1] at e1
          have E1 : Hid _ := e1
          have i1 := List.isEmpty_eq_false_iff.2 h1
          clear e1 h0 h1 l0
          generalize nmT (k : Int) true = N1 at *
          go_wp2
          refine wp_loop_rounds 3 ?_
          rw [rounds_succ]
          go_wp2_with (first
            | (go_at_call 8; with_reducible refine (hn0 _ (W.step hbr)).mono ?_; rintro e w1 ⟨rfl, hb⟩; have hM := hM.below hb; have hbr := hbr.trans (hb.mono hbr.size); clear hb)
            | (at_mapUpdate; refine wpList_put rfl (.tmp 21) (.tmp 22) (.tmp 25) rfl W0.heap.size _ _ rfl hM (by unfold maxLen; omega) N0 (by unfold maxLen; omega) rfl (k : Int) false rfl ?_; intro w3 hM hg3; have hbr := hbr.grown hg3 hbr.size (fun j hj => by cases hj; exact Nat.le_refl _); clear hg3))
          rw [rounds_succ]
          go_wp2_with (first
            | (go_at_call 8; with_reducible refine (hn1 _ (W.step hbr)).mono ?_; rintro e w1 ⟨rfl, hb⟩; have hM := hM.below hb; have hbr := hbr.trans (hb.mono hbr.size); clear hb)
            | (at_mapUpdate; refine wpList_put rfl (.tmp 21) (.tmp 22) (.tmp 25) rfl W0.heap.size _ _ rfl hM (by unfold maxLen; omega) N1 (by unfold maxLen; omega) rfl (k : Int) true rfl ?_; intro w3 hM hg3; have hbr := hbr.grown hg3 hbr.size (fun j hj => by cases hj; exact Nat.le_refl _); clear hg3))
          rw [rounds_succ]
          go_wp2
          refine ⟨⟨k + 1, by omega, rfl, ?_, hbr⟩, by simp only; omega⟩
          unfold Hid at E1
          rw [E1, List.nil_append]
          exact hM.mono (by omega)
      · rw [ent_yes h0] at e1
        have i0 := List.isEmpty_eq_false_iff.2 h0
        by_cases h1 : nmT (k : Int) true = []
        · rw [ent_no h1] at e1
          rw [h1] at hn1
          have E1 : Hid _ := e1
          clear e1 h0 h1 l1
          generalize nmT (k : Int) false = N0 at *
          go_wp2
          refine wp_loop_rounds 3 ?_
          rw [rounds_succ]
          go_wp2_with (first
            | (go_at_call 8; with_reducible refine (hn0 _ (W.step hbr)).mono ?_; rintro e w1 ⟨rfl, hb⟩; have hM := hM.below hb; have hbr := hbr.trans (hb.mono hbr.size); clear hb)
            | (at_mapUpdate; refine wpList_put rfl (.tmp 21) (.tmp 22) (.tmp 25) rfl W0.heap.size _ _ rfl hM (by unfold maxLen; omega) N0 (by unfold maxLen; omega) rfl (k : Int) false rfl ?_; intro w3 hM hg3; have hbr := hbr.grown hg3 hbr.size (fun j hj => by cases hj; exact Nat.le_refl _); clear hg3))
          rw [rounds_succ]
          go_wp2_with (first
            | (go_at_call 8; with_reducible refine (hn1 _ (W.step hbr)).mono ?_; rintro e w1 ⟨rfl, hb⟩; have hM := hM.below hb; have hbr := hbr.trans (hb.mono hbr.size); clear hb)
            | (at_mapUpdate; refine wpList_put rfl (.tmp 21) (.tmp 22) (.tmp 25) rfl W0.heap.size _ _ rfl hM (by unfold maxLen; omega) N1 (by unfold maxLen; omega) rfl (k : Int) true rfl ?_; intro w3 hM hg3; have hbr := hbr.grown hg3 hbr.size (fun j hj => by cases hj; exact Nat.le_refl _); clear hg3))
          rw [rounds_succ]
          go_wp2
          refine ⟨⟨k + 1, by omega, rfl, ?_, hbr⟩, by simp only; omega⟩
          unfold Hid at E1
          rw [E1, List.append_nil]
          exact hM.mono (by omega)
        · rw [ent_yes h1] at e1
          have E1 : Hid _ := e1
          have i1 := List.isEmpty_eq_false_iff.2 h1
          clear e1 h0 h1
          generalize nmT (k : Int) true = N1 at *
          generalize nmT (k : Int) false = N0 at *
          go_wp2
          refine wp_loop_rounds 3 ?_
          rw [rounds_succ]
          go_wp2_with (first
            | (go_at_call 8; with_reducible refine (hn0 _ (W.step hbr)).mono ?_; rintro e w1 ⟨rfl, hb⟩; have hM := hM.below hb; have hbr := hbr.trans (hb.mono hbr.size); clear hb)
            | (at_mapUpdate; refine wpList_put rfl (.tmp 21) (.tmp 22) (.tmp 25) rfl W0.heap.size _ _ rfl hM (by unfold maxLen; omega) N0 (by unfold maxLen; omega) rfl (k : Int) false rfl ?_; intro w3 hM hg3; have hbr := hbr.grown hg3 hbr.size (fun j hj => by cases hj; exact Nat.le_refl _); clear hg3))
          rw [rounds_succ]
          go_wp2_with (first
            | (go_at_call 8; with_reducible refine (hn1 _ (W.step hbr)).mono ?_; rintro e w1 ⟨rfl, hb⟩; have hM := hM.below hb; have hbr := hbr.trans (hb.mono hbr.size); clear hb)
            | (at_mapUpdate; refine wpList_put rfl (.tmp 21) (.tmp 22) (.tmp 25) rfl W0.heap.size _ _ rfl hM (by unfold maxLen; omega) N1 (by unfold maxLen; omega) rfl (k : Int) true rfl ?_; intro w3 hM hg3; have hbr := hbr.grown hg3 hbr.size (fun j hj => by cases hj; exact Nat.le_refl _); clear hg3))
          rw [rounds_succ]
          go_wp2
          refine ⟨⟨k + 1, by omega, rfl, ?_, hbr⟩, by simp only; omega⟩
          unfold Hid at E1
          rw [E1, ← List.append_assoc]
          exact hM.mono (by omega)

end Go.Proofs.YtdbbnkjnmldnpaaGreatDoor

/-
  Walk over ByName of package disasm. Condition: the tables read as the program's text lays them; the string is one that Go can hold.
-/
namespace Go.Proofs.YtdbbnkjnmldnpaaGreatDoor
open Go.RowKit
set_option linter.unusedSimpArgs false
set_option linter.unusedVariables false
set_option maxHeartbeats 8000000
set_option maxRecDepth 100000

def bnV (r : Option (Int × Bool)) : Value := .tuple #[.int .i64 (r.getD (0, false)).1, .bool (r.getD (0, false)).2, .bool r.isSome]
theorem byname_any (s : ByteArray) (hs : s.size ≤ maxLen) {A : Addr} {c : Nat} (W0 : World) (W : Dis A c W0) :
    Calls Tryz.prog 7 #[.string s] W0 fun e w' => e = .returned (bnV (bnT s.data.toList)) ∧ Below W0.heap.size W0 w' := by
  have hm := meanings_any W0 W
  unfold bnT bnV
  generalize hR : fnd (tabN 57 ++ tabB) s.data.toList = R
  generalize ho : (R.getD (0, false)).1 = o
  generalize hbb : (R.getD (0, false)).2 = b
  generalize hk : R.isSome = k
  go_enter Tryz.func7, Tryz.ntmps7
  go_wp2_with (first
    | (go_at_call 16; with_reducible refine hm.mono ?_; rintro e w1 ⟨rfl, hM, hb⟩)
    | (at_lookup; refine wpList_get rfl (.tmp 8) (.tmp 9) rfl W0.heap.size 200 _ rfl hM s hs rfl ?_; rw [hR, ho, hbb, hk]))
  have hb2 := hb.trans (((Below.refl w1.heap.size w1).alloc (Nat.le_refl _) (.cells #[.int .i64 o, .bool b] 44)).mono hb.size)
  go_quiet (fail)
  go_wp2
  go_ret3
  exact ⟨rfl, ⟨hb2.os, hb2.tape, hb2.output, hb2.size, hb2.block⟩⟩

end Go.Proofs.YtdbbnkjnmldnpaaGreatDoor

/-
  Walk over the examples that every statement asks. Condition: the tables read as the program's text lays them.
-/
namespace Go.Proofs.YtdbbnkjnmldnpaaGreatDoor
open Go.RowKit
set_option linter.unusedSimpArgs false
set_option linter.unusedVariables false
set_option maxHeartbeats 8000000
set_option maxRecDepth 100000

theorem al_1 : bnT [116, 115, 116, 98] = some (19, true) := by decide +kernel
theorem al_2 : nmT 1 true = [109, 111, 118, 98] := by decide +kernel
theorem al_3 : opT 6 7 4 8 = [48, 111, 49, 52] := by decide +kernel
theorem al_4 : txT ⟨26, false, 0, 0, 0, 0, 0, 0, 0, -1⟩ 512 = [98, 114, 32, 48, 111, 49, 48, 48, 48] := by decide +kernel
theorem al_5 : lnT ([5569, 5, 7] : List Int).length [5569, 5, 7] 0 = [[48, 48, 48, 48, 48, 48, 32, 109, 111, 118, 32, 35, 53, 44, 32, 114, 49], [48, 48, 48, 48, 48, 52, 32, 46, 119, 111, 114, 100, 32, 48, 111, 48, 48, 48, 48, 48, 55]] := by decide +kernel
theorem nums_3 (w : World) (t : TypeId) : Nums .i64 (w.alloc (.cells #[.int .i64 5569, .int .i64 5, .int .i64 7] t)) (.slice (some ⟨w.heap.size, 0, none⟩) 3 3) [5569, 5, 7] :=
  ⟨some ⟨w.heap.size, 0, none⟩, 3, rfl, Nat.le_refl _, fun j x hx => ⟨_, rfl, by
    match j, hx with
    | 0, hx => cases hx; simp [Addr.add]
    | 1, hx => cases hx; simp [Addr.add]
    | 2, hx => cases hx; simp [Addr.add]
    | j + 3, hx => simp at hx⟩⟩
theorem txt_2 {w : World} {v : Value} {x y : List UInt8} (h : Txt w v [x, y]) : ∃ g c, v = .slice (some ⟨g, 0, none⟩) 2 c ∧ g < w.heap.size ∧ w.cell? ⟨g, 0, none⟩ = some (.string ⟨x.toArray⟩) ∧ w.cell? ⟨g, 1, none⟩ = some (.string ⟨y.toArray⟩) := by
  obtain ⟨A, c, rfl, hc⟩ := h
  obtain ⟨g, rfl, hg, h0⟩ := hc 0 x rfl
  obtain ⟨g', e, _, h1⟩ := hc 1 y rfl
  cases e
  exact ⟨g, c, rfl, hg, h0, h1⟩

theorem alive_any {A : Addr} {c : Nat} (W0 : World) (W : Dis A c W0) : Calls Tryz.prog 4 #[] W0 fun e w' => e = .returned (.bool true) ∧ Below W0.heap.size W0 w' := by
  have h1 := fun w D => byname_any ⟨#[116, 115, 116, 98]⟩ (by decide) (A := A) (c := c) w D
  rw [show bnT ((⟨#[116, 115, 116, 98]⟩ : ByteArray).data.toList) = some (19, true) from al_1] at h1
  have h2 := fun w (bk : Nat) D h => dlines_any [5569, 5, 7] (.slice (some ⟨bk, 0, none⟩) 3 3) 0 (by decide) (A := A) (c := c) w D h
  have h3 := fun w D => dnam_any 1 true (A := A) (c := c) w D
  have h4 := fun w D => dopr_any 6 7 4 8 (A := A) (c := c) w D
  have h5 := fun w D => dtext_any 26 false 0 0 0 0 0 0 0 (-1) 512 (A := A) (c := c) w D
  rw [al_2] at h3
  rw [al_3] at h4
  rw [al_4] at h5
  rw [al_5] at h2
  have hb := Below.refl W0.heap.size W0
  go_enter Tryz.func4, Tryz.ntmps4
  go_wp2_with (first
    | (go_at_call 7; with_reducible refine (h1 _ (W.step hb)).mono ?_; unfold bnV; rintro e w1 ⟨rfl, k⟩; simp only [Option.getD_some, Option.isSome_some]; have hb := hb.trans (k.mono hb.size); have hN := nums_3 w1 3; have hba := hb.alloc hb.size (.cells #[.int .i64 5569, .int .i64 5, .int .i64 7] 3); clear k)
    | (go_at_call 5; with_reducible refine (h2 _ _ (W.step hba) hN).mono ?_; rintro e w2 ⟨u, rfl, hT, k⟩; obtain ⟨g, cg, rfl, hg, g0, g1⟩ := txt_2 hT; have hb := hba.trans (k.mono hba.size); clear k hT)
    | (go_at_call 8; with_reducible refine (h3 _ (W.step hb)).mono ?_; rintro e w3 ⟨rfl, k⟩; have hb := hb.trans (k.mono hb.size); have g0 := (k.cell (p := ⟨g, 0, none⟩) hg).trans g0; have g1 := (k.cell (p := ⟨g, 1, none⟩) hg).trans g1; have hg := Nat.lt_of_lt_of_le hg k.size; clear k)
    | (go_at_call 9; with_reducible refine (h4 _ (W.step hb)).mono ?_; rintro e w3 ⟨rfl, k⟩; have hb := hb.trans (k.mono hb.size); have g0 := (k.cell (p := ⟨g, 0, none⟩) hg).trans g0; have g1 := (k.cell (p := ⟨g, 1, none⟩) hg).trans g1; have hg := Nat.lt_of_lt_of_le hg k.size; clear k)
    | (go_at_call 10; with_reducible refine (h5 _ (W.step hb)).mono ?_; rintro e w3 ⟨rfl, k⟩; have hb := hb.trans (k.mono hb.size); have g0 := (k.cell (p := ⟨g, 0, none⟩) hg).trans g0; have g1 := (k.cell (p := ⟨g, 1, none⟩) hg).trans g1; have hg := Nat.lt_of_lt_of_le hg k.size; clear k))
  go_ret
  exact ⟨rfl, hb⟩

end Go.Proofs.YtdbbnkjnmldnpaaGreatDoor
