import Derived.Test.YthpnddgfgpacpaaGreatRS17
import Derived.Deep.RegionLaw
import Derived.Test.YthpnddgfgpacpaaGreatRS16
/-
  Walks over with and without of package memory: an ascending list with an element put in or taken out. Condition: lists have at most 2^40 elements and ascend.
-/
namespace Go.Proofs.YthpnddgfgpacpaaGreat
open Go.RowKit
set_option maxRecDepth 100000
set_option linter.unusedSimpArgs false
set_option linter.unusedVariables false
set_option maxHeartbeats 1000000
attribute [local irreducible] wpQuiet

theorem part_cells {w : World} {p : Addr} {l : List Int} (hc : ∀ j x, l[j]? = some x → ∃ a : Addr, some p = some a ∧ w.cell? (a.add j) = some (.int .i64 x) ∧ (a.add j).block < w.heap.size) {w' : World} (hb : Below w.heap.size w w')
    (k : Nat) {m : List Int} (hm : ∀ j x, m[j]? = some x → l[k + j]? = some x) {X : List Value} (hX : X = m.map (Value.int .i64)) : ∀ j v, X[j]? = some v → w'.cell? (p.add (k + j)) = some v := by
  subst hX
  intro j v hv
  rw [List.getElem?_map] at hv
  cases hx : m[j]? with
  | none => rw [hx] at hv; cases hv
  | some x =>
    rw [hx] at hv
    obtain ⟨a, ha, h1, h2⟩ := hc (k + j) x (hm j x hx)
    have hvx : Value.int .i64 x = v := Option.some.inj hv
    rw [Option.some.inj ha, ← hvx]
    exact (hb.cell h2).trans h1
theorem take_at {l : List Int} (i : Nat) : ∀ j x, (l.take i)[j]? = some x → l[0 + j]? = some x := by
  intro j x h
  have hj : j < i := by have := (List.getElem?_eq_some_iff.1 h).1; simp at this; omega
  rw [List.getElem?_take_of_lt hj] at h
  rw [Nat.zero_add]; exact h
theorem drop_at {l : List Int} (i : Nat) : ∀ j x, (l.drop i)[j]? = some x → l[i + j]? = some x := by
  intro j x h
  rw [List.getElem?_drop] at h; exact h

theorem add_add (p : Addr) (k j : Nat) : (⟨p.block, p.off + (k + 1), none⟩ : Addr).add j = p.add (k + 1 + j) := by
  unfold Addr.add
  rw [if_neg (show ¬ k + 1 + j = 0 by omega)]
  split
  · next h => subst h; rfl
  · simp only [Addr.mk.injEq, true_and, and_true]; omega
theorem own_row' {B g k : Nat} {w : World} {l : List Int} {X : List Value} (hX : X = l.map (Value.int .i64)) (h : Hid (w.heap[g]? = some (.cells X.toArray 3 (0, 0)))) (hb : B ≤ g) (hk : l.length = k) (hl : k ≤ 1099511627776) : Own B w (.slice (some ⟨g, 0, none⟩) k k) l := by
  subst hk; exact own_row hX h hb hl
set_option maxHeartbeats 4000000 in
theorem without_any (v : Value) (l : List Int) (hl : l.length ≤ 1099511627776) (hs : l.Pairwise (· < ·)) (x : Int) (w : World) (hv : Nums .i64 w v l) :
    Calls Tryz.prog 134 #[v, .int .i64 x] w fun e w' => ∃ r, e = .returned r ∧ Own w.heap.size w' r (withoutP l x) ∧ Below w.heap.size w w' := by
  have hsr := search_any v l hl hs x w hv
  have hcp := copied_any v l hl w hv
  cases hq : l.contains x
  · rw [without_no hq]
    rw [hq] at hsr
    generalize ((lowN l x : Nat) : Int) = i at *
    clear hs hq hv
    go_enter Tryz.func134, Tryz.ntmps134
    go_wp2_with (first | (go_at_call 83; with_reducible refine hsr.mono ?_; rintro e w' ⟨rfl, rfl⟩) | (go_at_call 132; with_reducible refine hcp.mono ?_; rintro e w' ⟨r, rfl, ho, hb⟩))
    go_ret
    exact ⟨_, rfl, ho, hb⟩
  · obtain ⟨hw, hi⟩ := without_low x l hs hq
    rw [hw]
    rw [hq] at hsr
    generalize lowN l x = i at *
    clear hw hq hs hcp
    obtain ⟨A, c, rfl, hlc, hc⟩ := hv
    obtain ⟨p, rfl, _⟩ := hc 0 _ (List.getElem?_eq_getElem (show 0 < l.length by omega))
    obtain ⟨m, hm⟩ : ∃ m, l.length = m + 1 := ⟨l.length - 1, by omega⟩
    have hmi : (l.length : Int) - 1 = (m : Int) := by omega
    have hmk := run_make_row' (P := Tryz.prog) 26 3 (.int .i64 0) 8 Tryz.underlying26 info64 rfl .i64 .i64 m (by omega) (by omega)
    have hB : Below w.heap.size w (w.alloc (.cells (madeCells #[.int .i64 0] m) 3)) := (Below.refl _ _).alloc (Nat.le_refl _) _
    obtain ⟨X, hX⟩ : ∃ X, X = (l.take i).map (Value.int .i64) := ⟨_, rfl⟩
    obtain ⟨Y, hY⟩ : ∃ Y, Y = (l.drop (i + 1)).map (Value.int .i64) := ⟨_, rfl⟩
    have hXl : X.length = i := by rw [hX, List.length_map, List.length_take]; omega
    have hYl : Y.length = m - i := by rw [hY, List.length_map, List.length_drop]; omega
    have hXc := part_cells hc hB 0 (take_at i) hX
    have hYc := fun w' (hb : Below w.heap.size w w') => part_cells hc hb (i + 1) (drop_at (i + 1)) hY
    have hX1 : ∀ v ∈ X, v.oneCell' = true := by rw [hX]; exact one_ints _
    have hY1 : ∀ v ∈ Y, v.oneCell' = true := by rw [hY]; exact one_ints _
    replace hX := hid hX
    replace hY := hid hY
    replace hm := hid hm
    clear hc
    go_enter Tryz.func134, Tryz.ntmps134
    go_wp2_with (first
      | (go_at_call 83; with_reducible refine hsr.mono ?_; rintro e w' ⟨rfl, rfl⟩)
      | (with_reducible refine wpList_copy_splice rfl (.tmp 22) (.tmp 25) 26 26 rfl 3 Tryz.underlying26 (by kernel_rfl) (some ⟨w.heap.size, 0, none⟩) (some p) m m i c rfl rfl w.heap.size 0 (List.replicate m (.int .i64 0)) 3 (row_made _ _) X (by rw [hXl]; unfold Hid at hm; exact (Nat.min_eq_left (by omega)).symm) (fun _ => ⟨rfl, p, rfl, by simpa using hXc⟩) (by rw [List.length_replicate]; unfold Hid at hm; omega) hX1 w.heap.size w hB (Nat.le_refl _) ?_; intro w2 HG HB))
    replace HG := id HG
    have hZl : (splice (List.replicate m (Value.int .i64 0)) 0 X).length = m := by rw [length_splice _ _ _ (by rw [List.length_replicate]; unfold Hid at hm; omega), List.length_replicate]
    have hYc := hYc w2 HB
    have V1 : IntKind.i64.wrap ((i : Int) + 1) = (i : Int) + 1 := by rw [wrap_i64]; exact IntWalk.wrap64_in _ ⟨by omega, by omega⟩
    generalize hZ : splice (List.replicate m (Value.int .i64 0)) 0 X = Z at *
    replace hZ := hid hZ
    have d1 : 0 ≤ (i : Int) + 1 := by omega
    have d2 : (i : Int) + 1 ≤ (l.length : Int) := by omega
    have c3 : i + 1 ≤ l.length := by omega
    have hZm : Z.length = X.length + Y.length := by rw [hZl, hXl, hYl]; unfold Hid at hm; omega
    have hend : ∀ w3 : World, Hid (w3.heap[w.heap.size]? = some (.cells (splice Z i Y).toArray 3 (0, 0))) → Own w.heap.size w3 (.slice (some ⟨w.heap.size, 0, none⟩) m m) (l.take i ++ l.drop (i + 1)) := by
      intro w3 h
      unfold Hid at hX hY hZ hm
      refine own_row' (X := splice Z i Y) ?_ h (Nat.le_refl _) (by rw [List.length_append, List.length_take, List.length_drop]; omega) (by omega)
      have e := splice_two (List.replicate m (Value.int .i64 0)) X Y (by rw [List.length_replicate, ← hZl]; exact hZm)
      rw [hZ, hXl] at e
      rw [e, List.map_append, hX, hY]
    by_cases him : i < m
    · have c1 : i ≤ m := by omega
      have c2 : ¬ m = i := by omega
      have c4 : ¬ c = i + 1 := by unfold Hid at hm; omega
      go_region_law (refine step_copy_splice rfl (.tmp 29) (.tmp 33) 26 26 rfl 3 Tryz.underlying26 (by kernel_rfl) (some ⟨w.heap.size, i, none⟩) (some ⟨p.block, p.off + (i + 1), none⟩) (m - i) (m - i) (l.length - (i + 1)) (c - (i + 1)) (by simp [Act.eval, Act.put]) (by simp [Act.eval, Act.put]) w.heap.size i Z 3 HG Y (by rw [hYl]; unfold Hid at hm; exact (Nat.min_eq_right (by omega)).symm) (fun _ => ⟨rfl, _, rfl, fun j v hv => by rw [add_add]; exact hYc j v hv⟩) (by rw [hZl, hYl]; omega) hY1 w.heap.size w HB.drew (Nat.le_refl _) ?_; intro w3 HG3 HB3)
      all_goals
        replace HG3 := hend w3 HG3
        go_wp2
        go_ret
        exact ⟨_, rfl, HG3, HB3⟩
    · obtain rfl : i = m := by unfold Hid at hm; omega
      by_cases hcc : c = i + 1
      · subst hcc
        go_region_law (refine step_copy_splice rfl (.tmp 29) (.tmp 33) 26 26 rfl 3 Tryz.underlying26 (by kernel_rfl) (some ⟨w.heap.size, 0, none⟩) (some p) 0 0 0 0 (by simp [Act.eval, Act.put]) (by simp [Act.eval, Act.put]) w.heap.size i Z 3 HG Y (by rw [hYl, Nat.sub_self]; exact (Nat.min_zero _).symm) (fun h => absurd h (by rw [hYl]; omega)) (by rw [hZl, hYl]; omega) hY1 w.heap.size w HB.drew (Nat.le_refl _) ?_; intro w3 HG3 HB3)
        all_goals
          replace HG3 := hend w3 HG3
          go_wp2
          go_ret
          exact ⟨_, rfl, HG3, HB3⟩
      · go_region_law (refine step_copy_splice rfl (.tmp 29) (.tmp 33) 26 26 rfl 3 Tryz.underlying26 (by kernel_rfl) (some ⟨w.heap.size, 0, none⟩) (some ⟨p.block, p.off + (i + 1), none⟩) 0 0 (l.length - (i + 1)) (c - (i + 1)) (by simp [Act.eval, Act.put]) (by simp [Act.eval, Act.put]) w.heap.size i Z 3 HG Y (by rw [hYl, Nat.sub_self]; exact (Nat.min_zero _).symm) (fun h => absurd h (by rw [hYl]; omega)) (by rw [hZl, hYl]; omega) hY1 w.heap.size w HB.drew (Nat.le_refl _) ?_; intro w3 HG3 HB3)
        all_goals
          replace HG3 := hend w3 HG3
          go_wp2
          go_ret
          exact ⟨_, rfl, HG3, HB3⟩
end Go.Proofs.YthpnddgfgpacpaaGreat
/-
  Walks over Write of package memory and of its reference. Condition: lists have at most 2^40 elements, the words are words; for Write of memory, the bad addresses ascend.
-/
namespace Go.Proofs.YthpnddgfgpacpaaGreat
open Go.RowKit
set_option maxRecDepth 100000
set_option linter.unusedSimpArgs false
set_option linter.unusedVariables false
set_option maxHeartbeats 1000000
attribute [local irreducible] wpQuiet

theorem Own.mono {B B' : Nat} {w : World} {v : Value} {l : List Int} (h : Own B w v l) (hb : B' ≤ B) : Own B' w v l := World.ownsRow.mono h hb
theorem Own.opens {B j : Nat} {w w0 : World} {v : Value} {l : List Int} {x : Int} (h : Own B w v l) (hx : Hid (l[j]? = some x)) (hb : Below B w0 w) (y : Int) :
    ∃ g cap, v = .slice (some ⟨g, 0, none⟩) l.length cap ∧ w.cell? ⟨g, j, none⟩ = some (.int .i64 x) ∧ w.frozen? ⟨g, j, none⟩ = false ∧ Below B w0 (w.setCell ⟨g, j, none⟩ (.int .i64 y)) ∧ Own B (w.setCell ⟨g, j, none⟩ (.int .i64 y)) (.slice (some ⟨g, 0, none⟩) l.length cap) (l.set j y) := by
  obtain ⟨g, cap, rfl, hg, _, _⟩ := h.form (by have := (List.getElem?_eq_some_iff.1 hx).1; omega)
  exact ⟨g, cap, rfl, h.cell hx, h.frozen j, hb.setCell hg _, h.set j y⟩
theorem writeM_no {mem : List Int} {a v : Int} {b : Bool} (h : accP (2 * (mem.length : Int)) a b = false) : writeM mem a b v = [] := if_neg (by rw [h]; decide)
theorem writeM_ok {mem : List Int} {a v : Int} {b : Bool} (h : accP (2 * (mem.length : Int)) a b = true) : writeM mem a b v = wordW mem a b v := if_pos h
theorem writeB_no {n a : Int} {bad : List Int} {b : Bool} (h : accP n a b = false) : writeB n bad a b = [] := if_neg (by rw [h]; decide)
theorem writeB_ok {n a : Int} {bad : List Int} {b : Bool} (h : accP n a b = true) : writeB n bad a b = withoutP bad (evenP a) := if_pos h

set_option maxHeartbeats 4000000 in
theorem write_any (vm vb : Value) (mem bad : List Int) (hl : mem.length ≤ 1099511627776) (hl2 : bad.length ≤ 1099511627776) (hW : wordsB mem = true) (hs : bad.Pairwise (· < ·)) (a : Int) (b : Bool) (v : Int) (w : World) (hm : Nums .i64 w vm mem) (hb : Nums .i64 w vb bad) :
    Calls Tryz.prog 102 #[vm, vb, .int .i64 a, .bool b, .int .i64 v] w fun e w' => ∃ r s, e = .returned (.tuple #[r, s, .int .i64 (writeT (2 * (mem.length : Int)) a b)]) ∧ Own w.heap.size w' r (writeM mem a b v) ∧ Own w.heap.size w' s (writeB (2 * (mem.length : Int)) bad a b) ∧ Below w.heap.size w w' := by
  have hcp := copied_any vm mem hl w hm
  have hwo := fun w' (hB : Below w.heap.size w w') => without_any vb bad hl2 hs (evenP a) w' (hb.below hB)
  obtain ⟨A, c, rfl, _, hc⟩ := hm
  have hac := fun w => accessible_any A mem.length c hl a b w
  clear hb hc
  cases hq : accP (2 * (mem.length : Int)) a b
  · rw [writeT_no hq, writeM_no hq, writeB_no hq]
    rw [hq] at hac
    clear hq hcp hwo
    go_enter Tryz.func102, Tryz.ntmps102
    go_wp2_with (first | (go_at_call 82; with_reducible refine (hac _).mono ?_; rintro e w' ⟨rfl, rfl⟩))
    go_ret3
    exact ⟨_, _, rfl, Own.nil _ _, Own.nil _ _, Below.refl _ _⟩
  · obtain ⟨h0, h1, h2⟩ := acc_rng hq
    rw [writeT_acc hq, writeM_ok hq, writeB_ok hq]
    rw [hq] at hac
    have hwa := fun w => waddr_any a h0 (by omega) w
    clear hq
    obtain ⟨k, rfl⟩ := Int.eq_ofNat_of_zero_le h0
    unfold wordW
    rw [Int.toNat_natCast]
    have hsb := fun r w1 (ho : Own w.heap.size w1 r mem) => setbyte_any w.heap.size r mem hl hW k (by omega) v w1 ho
    generalize withoutP bad (evenP (k : Int)) = L at *
    generalize evenP (k : Int) = p at *
    cases b
    · simp only [Bool.false_eq_true, if_false]
      have hk : k / 2 < mem.length := by omega
      have hx := List.getElem?_eq_getElem hk
      generalize mem[k / 2] = x at *
      have hi : (k : Int) / 2 = ((k / 2 : Nat) : Int) := by omega
      have A0 := a65535 v
      clear hsb h2
      generalize v % 65536 = y at *
      generalize hj : k / 2 = j at *
      replace hj := hid hj
      replace hx := hid hx
      have hpos : 0 < mem.length := by omega
      go_enter Tryz.func102, Tryz.ntmps102
      go_wp2_with (first
        | (go_at_call 82; with_reducible refine (hac _).mono ?_; rintro e w' ⟨rfl, rfl⟩)
        | (go_at_call 132; with_reducible refine hcp.mono ?_; rintro e w1 ⟨r, rfl, ho, hB⟩; obtain ⟨g, cap, rfl, hcx, hfz, hB2, ho2⟩ := Own.opens ho hx hB y)
        | (go_at_call 84; with_reducible refine (hwa _).mono ?_; rintro e w' ⟨rfl, rfl⟩)
        | (go_at_call 134; with_reducible refine (hwo _ hB2).mono ?_; rintro e w3 ⟨s, rfl, hs3, hb3⟩))
      go_ret3
      exact ⟨_, _, rfl, ho2.step hb3, hs3.mono hB2.size, hB2.trans (hb3.mono hB2.size)⟩
    · simp only [if_true]
      clear h2
      generalize setN mem k v = M at *
      go_enter Tryz.func102, Tryz.ntmps102
      go_wp2_with (first
        | (go_at_call 82; with_reducible refine (hac _).mono ?_; rintro e w' ⟨rfl, rfl⟩)
        | (go_at_call 132; with_reducible refine hcp.mono ?_; rintro e w1 ⟨r, rfl, ho, hB⟩)
        | (go_at_call 133; with_reducible refine (hsb _ _ ho).mono ?_; rintro e w2 ⟨rfl, ho2, hb2⟩; have hB2 := Below.trans hB hb2)
        | (go_at_call 84; with_reducible refine (hwa _).mono ?_; rintro e w' ⟨rfl, rfl⟩)
        | (go_at_call 134; with_reducible refine (hwo _ hB2).mono ?_; rintro e w3 ⟨s, rfl, hs3, hb3⟩))
      go_ret3
      exact ⟨_, _, rfl, ho2.step hb3, hs3.mono hB2.size, hB2.trans (hb3.mono hB2.size)⟩

end Go.Proofs.YthpnddgfgpacpaaGreat
/-
  low, Write of the reference. Condition: a valid machine.
-/
namespace Go.Proofs.YthpnddgfgpacpaaGreat
open Go.RowKit
set_option linter.unusedSimpArgs false
set_option linter.unusedVariables false
set_option maxHeartbeats 4000000
set_option maxRecDepth 100000
attribute [local irreducible] wpQuiet

section
variable {X : Nat → Prop} {w : World} {A : Ma} {vm vb vl vs vd vt : Value}
theorem MaV.over {w' : World} {B : Nat} (h : MaV X w A vm vb vl vs vd vt) (hk : ∀ k, k ≠ B → w'.heap[k]? = w.heap[k]?) (hB : X B) : MaV X w' A vm vb vl vs vd vt := ⟨Sv.over18 h.m hk hB, Sv.over18 h.b hk hB, Sv.over18 h.l hk hB, Sv.over18 h.s hk hB, Sv.over18 h.d hk hB, Sv.over18 h.t hk hB⟩
theorem MaV.less {Y : Nat → Prop} (h : MaV X w A vm vb vl vs vd vt) (hY : ∀ b, Y b → X b) : MaV Y w A vm vb vl vs vd vt := ⟨Sv.less18 h.m hY, Sv.less18 h.b hY, Sv.less18 h.l hY, Sv.less18 h.s hY, Sv.less18 h.d hY, Sv.less18 h.t hY⟩
theorem MaV.cone (h : MaV X w A vm vb vl vs vd vt) (hA : A.ok) : ∀ v ∈ A.cells vm vb vl vs vd vt, v.oneCell' = true := Ma.cone hA h.o1 h.o2 h.o3 h.o4 h.o5 h.o6
end
theorem wrR_ok {A : Ma} (h : A.ok) (off v : Int) : (A.wrR off v).1.ok := by
  unfold Ma.wrR
  repeat' split
  all_goals first
    | exact h
    | exact ⟨h.1, h.2.1, un_wr_ok h.2.2 off v⟩
theorem siz_sI18 (w : World) : (sizeOf 26).run Tryz.prog w = .ok 1 w := by kernel_rfl
end Go.Proofs.YthpnddgfgpacpaaGreat
