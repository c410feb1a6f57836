/-
  Walk over with of package memory: an ascending list with an element put in. Condition: the list has at most 2^40 elements and ascends.
-/
import Derived.Test.YtjjmgmnhcccjgaaMeH
namespace Go.Proofs.Ytjjmgmnhcccjgaa
open Go.RowKit
set_option linter.unusedSimpArgs false
set_option linter.unusedVariables false
set_option maxHeartbeats 1000000
attribute [local irreducible] wpQuiet

theorem row_cell {w : World} {g k : Nat} {Z : List Value} {t : TypeId} (h : w.heap[g]? = some (.cells Z.toArray t (0, 0))) (hk : k < Z.length) : w.cell? ⟨g, k, none⟩ = some Z[k] := by
  rw [cell_of_row w g k _ t (0, 0) h]; simp [hk]
theorem row_frozen {w : World} {g : Nat} {Z : List Value} {t : TypeId} (h : w.heap[g]? = some (.cells Z.toArray t (0, 0))) (k : Nat) : w.frozen? ⟨g, k, none⟩ = false := frozen_of_row w g k _ t h
theorem row_set {w : World} {g k : Nat} {Z : List Value} {t : TypeId} (h : w.heap[g]? = some (.cells Z.toArray t (0, 0))) (v : Value) : (w.setCell ⟨g, k, none⟩ v).heap[g]? = some (.cells (Z.set k v).toArray t (0, 0)) := by
  rw [heap_setCell_same w g k _ t v h]; simp
/-- What a copy reads. -/
def Src (A : Option Addr) (X : List Value) (w : World) : Prop := 0 < X.length → ∃ ad, A = some ad ∧ ∀ j v, X[j]? = some v → w.cell? (ad.add j) = some v
theorem wpList_copy_set {P : Program} {w : World} {ops : Array Oper} {rest : List Oper} {o : Oper} {a : Act} {Q : Exit → Act → World → Prop} (hgd : o.guard = none) (d s : Operand) (dT sT : TypeId)
    (ho : o.op = .call { callee := .builtin .copy, args := #[d, s], argTypes := #[dT, sT] }) (elem : TypeId) (hu : P.underlying dT = some (.slice elem)) (hsz : (P.info? elem).map (·.size) = some 1)
    (sp : Option Addr) (dLen dCap sLen sCap : Nat) (g off : Nat) (hd : a.eval d = .slice (some ⟨g, off, none⟩) dLen dCap) (hs : a.eval s = .slice sp sLen sCap)
    (cur : List Value) (t : TypeId) (hg : w.heap[g]? = some (.cells cur.toArray t (0, 0))) (cs : List Value) (hn : cs.length = Nat.min sLen dLen)
    (hpos : Src sp cs w)
    (hfit : off + cs.length ≤ cur.length) (h1 : ∀ v ∈ cs, v.oneCell' = true) (B : Nat) (w0 : World) (hb : Below B w0 w) (hBg : B ≤ g) (i : Nat) (hi : i < cur.length)
    (h : ∀ w' z, w'.cell? ⟨g, i, none⟩ = some z → w'.frozen? ⟨g, i, none⟩ = false → Hid (∀ v, (w'.setCell ⟨g, i, none⟩ v).heap[g]? = some (.cells ((splice cur off cs).set i v).toArray t (0, 0))) → Hid (∀ v, Below B w0 (w'.setCell ⟨g, i, none⟩ v)) → Below B w0 w' → wpList P ops Q rest (a.put o.dst (goInt cs.length)) w') :
    wpList P ops Q (o :: rest) a w :=
  wpList_copy_splice hgd d s dT sT ho elem hu hsz (some ⟨g, off, none⟩) sp dLen dCap sLen sCap hd hs g off cur t hg cs hn (fun h => ⟨rfl, hpos h⟩) hfit h1 B w0 hb hBg fun w' HG HB =>
    h w' _ (row_cell HG (by rw [length_splice _ _ _ hfit]; exact hi)) (row_frozen HG i) (fun v => row_set HG v) (fun v => Below.setCell HB hBg v) HB
theorem add_any (p : Addr) (k j : Nat) : (p.add k).add j = p.add (k + j) := by
  unfold Addr.add
  rcases Nat.eq_zero_or_pos k with rfl | hk
  · simp
  · rcases Nat.eq_zero_or_pos j with rfl | hj
    · simp
    · rw [if_neg (by omega), if_neg (by omega), if_neg (by omega)]
      simp only [Addr.mk.injEq, true_and, and_true]; omega
theorem own_row2 {B g k : Nat} {w : World} {l : List Int} {X : List Value} (hX : X = l.map (Value.int .i64)) (h : Hid (w.heap[g]? = some (.cells X.toArray 3 (0, 0)))) (hb : B ≤ g) (hk : l.length = k) (hl : k ≤ 2199023255552) : Own B w (.slice (some ⟨g, 0, none⟩) k k) l := by
  subst hX hk
  exact ⟨by simp, .inr ⟨g, l.length, _, rfl, hb, h, Nat.le_refl _, by unfold maxLen; omega, by simp, by rw [List.take_of_length_le (by simp)]⟩⟩
set_option maxHeartbeats 4000000 in
theorem with_any (v : Value) (l : List Int) (hl : l.length ≤ 1099511627776) (hs : l.Pairwise (· < ·)) (x : Int) (w : World) (hv : Nums .i64 w v l) :
    Calls Try.prog 45 #[v, .int .i64 x] w fun e w' => ∃ r, e = .returned r ∧ Own w.heap.size w' r (insP x l) ∧ Below w.heap.size w w' := by
  have hsr := search_any v l hl hs x w hv
  have hcp := copied_any v l hl w hv
  cases hq : l.contains x
  case true =>
    rw [ins_has x l hs hq]
    rw [hq] at hsr
    generalize ((lowN l x : Nat) : Int) = i at *
    clear hs hq hv
    go_enter Try.func45, Try.ntmps45
    go_wp2_with (first | (go_at_call 33; with_reducible refine hsr.mono ?_; rintro e w' ⟨rfl, rfl⟩) | (go_at_call 39; with_reducible refine hcp.mono ?_; rintro e w' ⟨r, rfl, ho, hb⟩))
    go_ret
    exact ⟨_, rfl, ho, hb⟩
  case false =>
    have hw := ins_low x l hs hq
    have hi := low_le x l
    rw [hw]
    rw [hq] at hsr
    generalize lowN l x = i at *
    clear hw hq hs hcp
    obtain ⟨A, c, rfl, hlc, hc⟩ := hv
    obtain ⟨m, hm⟩ : ∃ m, m = l.length + 1 := ⟨_, rfl⟩
    have hmi : (l.length : Int) + 1 = (m : Int) := by omega
    have hmk := run_make_row' (P := Try.prog) 22 3 (.int .i64 0) 8 Try.underlying22 info64 rfl .i64 .i64 m (by omega) (by omega)
    have hB : Below w.heap.size w (w.alloc (.cells (madeCells #[.int .i64 0] m) 3)) := (Below.refl _ _).alloc (Nat.le_refl _) _
    obtain ⟨X, hX⟩ : ∃ X, X = (l.take i).map (Value.int .i64) := ⟨_, rfl⟩
    obtain ⟨Y, hY⟩ : ∃ Y, Y = (l.drop i).map (Value.int .i64) := ⟨_, rfl⟩
    have hXl : X.length = i := by rw [hX, List.length_map, List.length_take]; omega
    have hYl : Y.length = l.length - i := by rw [hY, List.length_map, List.length_drop]
    have hX1 : ∀ v ∈ X, v.oneCell' = true := by rw [hX]; exact one_ints _
    have hY1 : ∀ v ∈ Y, v.oneCell' = true := by rw [hY]; exact one_ints _
    have hXp : Src A X (w.alloc (.cells (madeCells #[.int .i64 0] m) 3)) := by
      intro h0
      obtain ⟨p, rfl, _⟩ := hc 0 _ (List.getElem?_eq_getElem (show 0 < l.length by omega))
      have := part_cells hc hB 0 (take_at i) hX
      exact ⟨p, rfl, by simpa using this⟩
    have hYp : ∀ w', Below w.heap.size w w' → 0 < Y.length → ∃ p, A = some p ∧ ∀ j v, Y[j]? = some v → w'.cell? (p.add (i + j)) = some v := by
      intro w' hb h0
      obtain ⟨p, rfl, _⟩ := hc 0 _ (List.getElem?_eq_getElem (show 0 < l.length by omega))
      exact ⟨p, rfl, part_cells hc hb i (drop_at i) hY⟩
    have hend : ∀ w3 : World, Hid (w3.heap[w.heap.size]? = some (.cells (splice ((splice (List.replicate m (Value.int .i64 0)) 0 X).set i (.int .i64 x)) (i + 1) Y).toArray 3 (0, 0))) → Own w.heap.size w3 (.slice (some ⟨w.heap.size, 0, none⟩) m m) (l.take i ++ x :: l.drop i) := by
      intro w3 h
      refine own_row2 (X := splice ((splice (List.replicate m (Value.int .i64 0)) 0 X).set i (.int .i64 x)) (i + 1) Y) ?_ h (Nat.le_refl _) (by rw [List.length_append, List.length_take, List.length_cons, List.length_drop]; omega) (by omega)
      have e := splice_mid (List.replicate m (Value.int .i64 0)) X Y (.int .i64 x) (by rw [List.length_replicate, hXl, hYl]; omega)
      rw [hXl] at e
      rw [e, List.map_append, List.map_cons, hX, hY]
    have him : i < m := by omega
    have hZl : (splice (List.replicate m (Value.int .i64 0)) 0 X).length = m := by rw [length_splice _ _ _ (by rw [List.length_replicate]; omega), List.length_replicate]
    replace hX := hid hX
    replace hY := hid hY
    replace hm := hid hm
    replace hc := hid hc
    replace hYp := hid hYp
    have him2 : i < (List.replicate m (Value.int .i64 0)).length := by rw [List.length_replicate]; exact him
    go_enter Try.func45, Try.ntmps45
    go_wp2_with (first
      | (go_at_call 33; with_reducible refine hsr.mono ?_; rintro e w' ⟨rfl, rfl⟩)
      | (with_reducible refine wpList_copy_set rfl (.tmp 21) (.tmp 24) 22 22 rfl 3 Try.underlying22 (by kernel_rfl) A m m i c w.heap.size 0 rfl rfl (List.replicate m (.int .i64 0)) 3 (row_made _ _) X (by rw [hXl]; exact (Nat.min_eq_left (by omega)).symm) hXp (by rw [List.length_replicate]; omega) hX1 w.heap.size w hB (Nat.le_refl _) i him2 ?_; intro w2 z hZc hZf HG HS HB))
    replace HG : Hid _ := hid (HG (.int .i64 x))
    replace HS := HS (.int .i64 x)
    clear hZc hZf HB
    generalize w2.setCell ⟨w.heap.size, i, none⟩ (.int .i64 x) = w3 at *
    clear w2
    have hZ3 : ((splice (List.replicate m (Value.int .i64 0)) 0 X).set i (.int .i64 x)).length = m := by rw [List.length_set]; exact hZl
    replace hend : ∀ w3 : World, Hid (w3.heap[w.heap.size]? = some (.cells (splice ((splice (List.replicate m (Value.int .i64 0)) 0 X).set i (.int .i64 x)) (i + 1) Y).toArray 3 (0, 0))) → Own w.heap.size w3 (.slice (some ⟨w.heap.size, 0, none⟩) m m) (l.take i ++ x :: l.drop i) := hend
    generalize (splice (List.replicate m (Value.int .i64 0)) 0 X).set i (.int .i64 x) = Z at *
    have V1 : IntKind.i64.wrap ((i : Int) + 1) = (i : Int) + 1 := by rw [wrap_i64]; exact IntWalk.wrap64_in _ ⟨by omega, by omega⟩
    have d1 : 0 ≤ (i : Int) + 1 := by omega
    have d2 : (i : Int) + 1 ≤ (m : Int) := by omega
    have c1 : i + 1 ≤ m := by omega
    by_cases hil : i < l.length
    · obtain ⟨p, rfl, hpc⟩ := hYp w3 HS (by rw [hYl]; omega)
      have c2 : ¬ m = i + 1 := by unfold Hid at hm; omega
      have c3 : ¬ c = i := by omega
      go_region_law (refine step_copy_splice rfl (.tmp 33) (.tmp 36) 22 22 rfl 3 Try.underlying22 (by kernel_rfl) (some ⟨w.heap.size, i + 1, none⟩) (some (p.add i)) (m - (i + 1)) (m - (i + 1)) (l.length - i) (c - i) (by simp [Act.eval, Act.put]) (by simp [Act.eval, Act.put]) w.heap.size (i + 1) Z 3 HG Y (by rw [hYl]; unfold Hid at hm; exact (Nat.min_eq_left (by omega)).symm) (fun _ => ⟨rfl, _, rfl, fun j v hv => by rw [add_any]; exact hpc j v hv⟩) (by rw [hZ3, hYl]; omega) hY1 w.heap.size w HS.drew (Nat.le_refl _) ?_; intro w4 HG3 HB3)
      all_goals
        replace HG3 := hend w4 HG3
        go_wp2
        go_ret
        exact ⟨_, rfl, HG3, HB3⟩
    · have c2 : m = i + 1 := by unfold Hid at hm; omega
      have c3 : i ≤ l.length := hi
      clear hmi d2
      rw [c2] at hend
      have hy0 : l.length - i = 0 := by omega
      replace hy0 := hid hy0
      cases A with
      | none =>
        by_cases hcc : c = i
        · go_region_law (refine step_copy_splice rfl (.tmp 33) (.tmp 36) 22 22 rfl 3 Try.underlying22 (by kernel_rfl) (some ⟨w.heap.size, 0, none⟩) none 0 0 (l.length - i) 0 (by simp [Act.eval, Act.put]) (by simp [Act.eval, Act.put]) w.heap.size (i + 1) Z 3 HG Y (by rw [hYl]; rw [show l.length - i = 0 from hy0]; first | rfl | (exact (Nat.min_zero _).symm)) (fun h => absurd h (by rw [hYl, show l.length - i = 0 from hy0]; omega)) (by rw [hZ3, hYl]; omega) hY1 w.heap.size w HS.drew (Nat.le_refl _) ?_; intro w4 HG3 HB3)
          all_goals
            replace HG3 := hend w4 HG3
            go_wp2
            go_ret
            exact ⟨_, rfl, HG3, HB3⟩
        · go_region_law (refine step_copy_splice rfl (.tmp 33) (.tmp 36) 22 22 rfl 3 Try.underlying22 (by kernel_rfl) (some ⟨w.heap.size, 0, none⟩) none 0 0 (l.length - i) (c - i) (by simp [Act.eval, Act.put]) (by simp [Act.eval, Act.put]) w.heap.size (i + 1) Z 3 HG Y (by rw [hYl]; rw [show l.length - i = 0 from hy0]; first | rfl | (exact (Nat.min_zero _).symm)) (fun h => absurd h (by rw [hYl, show l.length - i = 0 from hy0]; omega)) (by rw [hZ3, hYl]; omega) hY1 w.heap.size w HS.drew (Nat.le_refl _) ?_; intro w4 HG3 HB3)
          all_goals
            replace HG3 := hend w4 HG3
            go_wp2
            go_ret
            exact ⟨_, rfl, HG3, HB3⟩
      | some p =>
        by_cases hcc : c = i
        · go_region_law (refine step_copy_splice rfl (.tmp 33) (.tmp 36) 22 22 rfl 3 Try.underlying22 (by kernel_rfl) (some ⟨w.heap.size, 0, none⟩) (some p) 0 0 (l.length - i) 0 (by simp [Act.eval, Act.put]) (by simp [Act.eval, Act.put]) w.heap.size (i + 1) Z 3 HG Y (by rw [hYl]; rw [show l.length - i = 0 from hy0]; first | rfl | (exact (Nat.min_zero _).symm)) (fun h => absurd h (by rw [hYl, show l.length - i = 0 from hy0]; omega)) (by rw [hZ3, hYl]; omega) hY1 w.heap.size w HS.drew (Nat.le_refl _) ?_; intro w4 HG3 HB3)
          all_goals
            replace HG3 := hend w4 HG3
            go_wp2
            go_ret
            exact ⟨_, rfl, HG3, HB3⟩
        · go_region_law (refine step_copy_splice rfl (.tmp 33) (.tmp 36) 22 22 rfl 3 Try.underlying22 (by kernel_rfl) (some ⟨w.heap.size, 0, none⟩) (some (p.add i)) 0 0 (l.length - i) (c - i) (by simp [Act.eval, Act.put]) (by simp [Act.eval, Act.put]) w.heap.size (i + 1) Z 3 HG Y (by rw [hYl]; rw [show l.length - i = 0 from hy0]; first | rfl | (exact (Nat.min_zero _).symm)) (fun h => absurd h (by rw [hYl, show l.length - i = 0 from hy0]; omega)) (by rw [hZ3, hYl]; omega) hY1 w.heap.size w HS.drew (Nat.le_refl _) ?_; intro w4 HG3 HB3)
          all_goals
            replace HG3 := hend w4 HG3
            go_wp2
            go_ret
            exact ⟨_, rfl, HG3, HB3⟩
end Go.Proofs.Ytjjmgmnhcccjgaa
