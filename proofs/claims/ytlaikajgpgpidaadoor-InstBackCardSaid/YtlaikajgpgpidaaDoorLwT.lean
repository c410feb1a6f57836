/-
  Walk over the statement InstBack: whatever the input, it answers true. Condition: the tables read as the program's text lays them.
-/
import Derived.Test.YtlaikajgpgpidaaDoorLwQ
import Derived.Test.YtlaikajgpgpidaaDoorLaidI
import Derived.Laws.AppendOwnNone
namespace Go.Proofs.YtlaikajgpgpidaaDoor
open Go.RowKit Go Go.ChangeShapes Go.WideShapes Go.ChangeAt Go.Deep
set_option linter.unusedSimpArgs false
set_option linter.unusedVariables false
set_option maxHeartbeats 8000000
set_option maxRecDepth 100000
attribute [local irreducible] wpQuiet
/-- A slice of integers among the arguments: what it reads as. -/
theorem open_nums2 {H : Type} {enc : TypeId × Value → H} {P : Program} {W : World} {r : Reach} {b0 : Nat} {t e : TypeId} {k : IntKind} {v : Value} {d : DataW H} {p : List MemPlace}
    (ht : P.underlying t = some (.slice e)) (he : P.underlying e = some (.int k)) (hc : P.cellsOf e = 1) (hv : Value.okWide P W r b0 t v) (h : DataW.Trod enc P W 0 (fun _ => true) true t v d p) :
    ∃ l : List Int, (Nums k W v l ∧ (v = .slice none 0 0 ∧ l = [] ∨ ∃ a c, v = .slice (some a) l.length c)) ∧ (∀ x ∈ l, (Lit.int k x).wf = true) ∧ l.length ≤ maxLen := by
  obtain ⟨a0, len0, cap0, rfl⟩ := okWide_slice ht hv
  obtain ⟨fuel, hf⟩ := h
  rcases open_ints ht he hc hf with ⟨hcs, _⟩ | ⟨a, len, cap, zs, hcs, _, hl, hm, hzl, _, hcell, hw⟩
  · simp [Value.cells] at hcs
    obtain ⟨rfl, rfl, rfl⟩ := hcs
    exact ⟨[], ⟨⟨none, 0, rfl, Nat.le_refl _, fun j x hx => by simp at hx⟩, .inl ⟨rfl, rfl⟩⟩, by simp, Nat.zero_le _⟩
  · simp [Value.cells] at hcs
    obtain ⟨rfl, rfl, rfl⟩ := hcs
    have hzl' : zs.length = cap0 := by simpa using hzl
    have hlen : (zs.take len0).length = len0 := by rw [List.length_take]; omega
    refine ⟨zs.take len0, ⟨⟨some a, cap0, by rw [hlen], by omega, fun j x hx => ⟨a, rfl, ?_⟩⟩, .inr ⟨a, cap0, by rw [hlen]⟩⟩, fun x hx => hw x (List.mem_of_mem_take hx), by rw [hlen]; omega⟩
    have hj : j < len0 := by rw [← hlen]; exact (List.getElem?_eq_some_iff.1 hx).1
    have hz : zs[j]? = some x := by rw [List.getElem?_take] at hx; simpa [hj] using hx
    have h1 := hcell j (by omega)
    have h2 : zs.getD j 0 = x := by rw [List.getD, hz]; rfl
    rw [h2] at h1
    exact ⟨h1, World.block_lt_of_cell? W _ h1⟩


theorem nums_take {w : World} {a : Addr} {c : Nat} {L : List Int} (h : Nums .i64 w (.slice (some a) L.length c) L) (n : Nat) (hn : n ≤ L.length) : Nums .i64 w (.slice (some a) n c) (L.take n) := by
  obtain ⟨A, c', hv, hc, hx⟩ := h
  injection hv with h1 h2 h3
  subst h1 h3
  refine ⟨some a, c, by rw [List.length_take, Nat.min_eq_left hn], by rw [List.length_take, Nat.min_eq_left hn]; omega, fun j x hj => ?_⟩
  rw [List.getElem?_take] at hj
  split at hj
  · exact hx j x hj
  · cases hj
theorem nums_cells {w : World} {a : Addr} {n c : Nat} {L : List Int} (h : Nums .i64 w (.slice (some a) n c) L) : ∀ j u, (L.map (Value.int .i64))[j]? = some u → w.cell? (a.add j) = some u := by
  intro j u hu
  obtain ⟨A, c', hv, hc, hx⟩ := h
  injection hv with h1 h2 h3
  subst h1
  rw [List.getElem?_map] at hu
  cases hj : L[j]? with
  | none => rw [hj] at hu; cases hu
  | some x =>
    rw [hj] at hu
    obtain ⟨a', ha, hc1, _⟩ := hx j x hj
    obtain rfl := Option.some.inj ha
    rw [hc1]
    exact hu
theorem nums_some {w : World} {v : Value} {L : List Int} (h : Nums .i64 w v L) (hL : 1 ≤ L.length) : ∃ a c, v = .slice (some a) L.length c ∧ L.length ≤ c := by
  obtain ⟨A, c, rfl, hc, hx⟩ := h
  obtain ⟨a, rfl, _⟩ := hx 0 _ (List.getElem?_eq_getElem (by omega))
  exact ⟨a, c, rfl, hc⟩
theorem one_cells (L : List Int) : ∀ u ∈ L.map (Value.int .i64), u.oneCell' = true := by
  intro u hu
  obtain ⟨x, _, rfl⟩ := List.mem_map.1 hu
  rfl

theorem back_law (o : Int) (b : Bool) (m r x p q y g n : Int) (l : List Int) (v : Value) {A : Addr} {c : Nat} (W0 : World) (W : Frm A c W0) (hn : Nums .i64 W0 v l) (hv0 : v = .slice none 0 0 ∧ l = [] ∨ ∃ a c, v = .slice (some a) l.length c) (hm : l.length ≤ maxLen) : Calls Tryd.prog 6 #[.agg #[.int .i64 o, .bool b, .int .i64 m, .int .i64 r, .int .i64 x, .int .i64 p, .int .i64 q, .int .i64 y, .int .i64 g, .int .i64 n], v] W0 fun e w' => e = .returned (.bool true) ∧ Below W0.heap.size W0 w' := by
  have hX := (St.start W).put [.int .i64 o, .bool b, .int .i64 m, .int .i64 r, .int .i64 x, .int .i64 p, .int .i64 q, .int .i64 y, .int .i64 g, .int .i64 n] 28
  have hA := fun w (k : Frm A c w) => alive_any w k
  have hV1 := fun w (k : Frm A c w) => Valid_any o b m r x p q y g n w k
  unfold maxLen at hm
  by_cases h4 : 4 < l.length
  · rcases hv0 with ⟨_, rfl⟩ | ⟨a3, c3, rfl⟩
    · exact absurd h4 (by decide)
    have hl8 : decide ((4 : Int) < (l.length : Int)) = true := decide_eq_true (by omega)
    go_enter Tryd.func6, Tryd.ntmps6
    go_wp2_with fail
    have i0 := hX.c 0 0 rfl rfl; have i1 := hX.c 0 1 rfl rfl; have i2 := hX.c 0 2 rfl rfl; have i3 := hX.c 0 3 rfl rfl; have i4 := hX.c 0 4 rfl rfl; have i5 := hX.c 0 5 rfl rfl; have i6 := hX.c 0 6 rfl rfl; have i7 := hX.c 0 7 rfl rfl; have i8 := hX.c 0 8 rfl rfl; have i9 := hX.c 0 9 rfl rfl
    generalize W0.alloc (.cells #[.int .i64 o, .bool b, .int .i64 m, .int .i64 r, .int .i64 x, .int .i64 p, .int .i64 q, .int .i64 y, .int .i64 g, .int .i64 n] 28) = w1 at *
    generalize hBB : W0.heap.size = B at hX i0 i1 i2 i3 i4 i5 i6 i7 i8 i9 ⊢
    go_wp2_with (first | (go_at_call 8; with_reducible refine (hA _ hX.frm).mono ?_; rintro _ w' ⟨rfl, hb⟩; have hX := hX.step hb; clear hb; have i0 := hX.c 0 0 rfl rfl; have i1 := hX.c 0 1 rfl rfl; have i2 := hX.c 0 2 rfl rfl; have i3 := hX.c 0 3 rfl rfl; have i4 := hX.c 0 4 rfl rfl; have i5 := hX.c 0 5 rfl rfl; have i6 := hX.c 0 6 rfl rfl; have i7 := hX.c 0 7 rfl rfl; have i8 := hX.c 0 8 rfl rfl; have i9 := hX.c 0 9 rfl rfl))
    go_ret
    exact ⟨rfl, by first | exact hX.below | exact hBB ▸ hX.below⟩
  · cases hv : vR ⟨o, b, m, r, x, p, q, y, g, n⟩ with
    | false =>
      rw [hv] at hV1
      have hl8 : decide ((4 : Int) < (l.length : Int)) = false := decide_eq_false (by omega)
      rcases hv0 with ⟨rfl, rfl⟩ | ⟨a3, c3, rfl⟩
      all_goals
        go_enter Tryd.func6, Tryd.ntmps6
        go_wp2_with fail
        have i0 := hX.c 0 0 rfl rfl; have i1 := hX.c 0 1 rfl rfl; have i2 := hX.c 0 2 rfl rfl; have i3 := hX.c 0 3 rfl rfl; have i4 := hX.c 0 4 rfl rfl; have i5 := hX.c 0 5 rfl rfl; have i6 := hX.c 0 6 rfl rfl; have i7 := hX.c 0 7 rfl rfl; have i8 := hX.c 0 8 rfl rfl; have i9 := hX.c 0 9 rfl rfl
        generalize W0.alloc (.cells #[.int .i64 o, .bool b, .int .i64 m, .int .i64 r, .int .i64 x, .int .i64 p, .int .i64 q, .int .i64 y, .int .i64 g, .int .i64 n] 28) = w1 at *
        generalize hBB : W0.heap.size = B at hX i0 i1 i2 i3 i4 i5 i6 i7 i8 i9 ⊢
        go_wp2_with (first | (go_at_call 14; with_reducible refine (hV1 _ hX.frm).mono ?_; rintro _ w' ⟨rfl, hb⟩; have hX := hX.step hb; clear hb; have i0 := hX.c 0 0 rfl rfl; have i1 := hX.c 0 1 rfl rfl; have i2 := hX.c 0 2 rfl rfl; have i3 := hX.c 0 3 rfl rfl; have i4 := hX.c 0 4 rfl rfl; have i5 := hX.c 0 5 rfl rfl; have i6 := hX.c 0 6 rfl rfl; have i7 := hX.c 0 7 rfl rfl; have i8 := hX.c 0 8 rfl rfl; have i9 := hX.c 0 9 rfl rfl) | (go_at_call 8; with_reducible refine (hA _ hX.frm).mono ?_; rintro _ w' ⟨rfl, hb⟩; have hX := hX.step hb; clear hb; have i0 := hX.c 0 0 rfl rfl; have i1 := hX.c 0 1 rfl rfl; have i2 := hX.c 0 2 rfl rfl; have i3 := hX.c 0 3 rfl rfl; have i4 := hX.c 0 4 rfl rfl; have i5 := hX.c 0 5 rfl rfl; have i6 := hX.c 0 6 rfl rfl; have i7 := hX.c 0 7 rfl rfl; have i8 := hX.c 0 8 rfl rfl; have i9 := hX.c 0 9 rfl rfl))
        go_ret
        exact ⟨rfl, by first | exact hX.below | exact hBB ▸ hX.below⟩
    | true =>
      obtain ⟨x1, x2', x3'⟩ := enc_of hv
      have hE1 := fun w (k : Frm A c w) => Encode_any o b m r x p q y g n w k
      have hL := fun w (k : Frm A c w) => Length_any o b m r x p q y g n w k
      have hd1 := dec_enc hv l
      have hd2 := dec_short hv
      have hlw := len_w ⟨o, b, m, r, x, p, q, y, g, n⟩
      have hnr : 1 ≤ nR ⟨o, b, m, r, x, p, q, y, g, n⟩ ∧ nR ⟨o, b, m, r, x, p, q, y, g, n⟩ ≤ 3 := by unfold nR; cases exS ⟨o, b, m, r, x, p, q, y, g, n⟩ <;> cases exD ⟨o, b, m, r, x, p, q, y, g, n⟩ <;> decide
      rw [hv] at hV1
      rw [x1, x2'] at hE1
      rw [x3', ← hlw] at hL
      rw [← hlw] at hd1 hnr
      clear x1 x2' x3' hlw
      generalize wdR ⟨o, b, m, r, x, p, q, y, g, n⟩ = L at *
      have hL1 : 1 ≤ L.length := by omega
      have hL3 : L.length ≤ 3 := by omega
      clear hnr
      obtain ⟨ti, hi, hz0, hz1, hz2⟩ := info_parts info64
      have hD1 := fun w (k : Frm A c w) {v' : Value} (h : Nums .i64 w v' (L ++ l)) => Decode_any (L ++ l) v' (by rw [List.length_append]; omega) w k h
      have hD2 := fun w (k : Frm A c w) {v' : Value} (h : Nums .i64 w v' (L.take (L.length - 1))) => Decode_any (L.take (L.length - 1)) v' (by rw [List.length_take]; omega) w k h
      rcases hdc : dcI (L.take (L.length - 1)) with ⟨j, N⟩
      rw [hdc] at hd2
      obtain rfl : N = 0 := hd2
      obtain rfl := dc_zero hdc
      rw [hdc] at hD2
      rw [hd1] at hD1
      replace hD1 : ∀ w (k : Frm A c w) {v' : Value} (h : Nums .i64 w v' (L ++ l)), Calls Tryd.prog 9 #[v'] w fun e w' => e = .returned (.tuple #[.agg #[.int .i64 o, .bool b, .int .i64 m, .int .i64 r, .int .i64 x, .int .i64 p, .int .i64 q, .int .i64 y, .int .i64 g, .int .i64 n], .int .i64 (L.length : Int)]) ∧ Below w.heap.size w w' := hD1
      replace hD2 : ∀ w (k : Frm A c w) {v' : Value} (h : Nums .i64 w v' (L.take (L.length - 1))), Calls Tryd.prog 9 #[v'] w fun e w' => e = .returned (.tuple #[.agg #[.int .i64 0, .bool false, .int .i64 0, .int .i64 0, .int .i64 0, .int .i64 0, .int .i64 0, .int .i64 0, .int .i64 0, .int .i64 0], .int .i64 0]) ∧ Below w.heap.size w w' := hD2
      clear hd1 hdc
      have hl8 : decide ((4 : Int) < (l.length : Int)) = false := decide_eq_false (by omega)
      have q1 : decide ((L.length : Int) < 1) = false := decide_eq_false (by omega)
      have q2 : (1 : Int) ≤ (L.length : Int) := by omega
      have q3 : (L.length : Int) ≤ 3 := by omega
      rcases hv0 with ⟨rfl, rfl⟩ | ⟨a3, c3, rfl⟩
      · skip
        go_enter Tryd.func6, Tryd.ntmps6
        go_wp2_with fail
        have i0 := hX.c 0 0 rfl rfl; have i1 := hX.c 0 1 rfl rfl; have i2 := hX.c 0 2 rfl rfl; have i3 := hX.c 0 3 rfl rfl; have i4 := hX.c 0 4 rfl rfl; have i5 := hX.c 0 5 rfl rfl; have i6 := hX.c 0 6 rfl rfl; have i7 := hX.c 0 7 rfl rfl; have i8 := hX.c 0 8 rfl rfl; have i9 := hX.c 0 9 rfl rfl
        generalize W0.alloc (.cells #[.int .i64 o, .bool b, .int .i64 m, .int .i64 r, .int .i64 x, .int .i64 p, .int .i64 q, .int .i64 y, .int .i64 g, .int .i64 n] 28) = w1 at *
        generalize hBB : W0.heap.size = B at hX i0 i1 i2 i3 i4 i5 i6 i7 i8 i9 ⊢
        go_wp2_with (first | (go_at_call 14; with_reducible refine (hV1 _ hX.frm).mono ?_; rintro _ w' ⟨rfl, hb⟩; have hX := hX.step hb; clear hb; have i0 := hX.c 0 0 rfl rfl; have i1 := hX.c 0 1 rfl rfl; have i2 := hX.c 0 2 rfl rfl; have i3 := hX.c 0 3 rfl rfl; have i4 := hX.c 0 4 rfl rfl; have i5 := hX.c 0 5 rfl rfl; have i6 := hX.c 0 6 rfl rfl; have i7 := hX.c 0 7 rfl rfl; have i8 := hX.c 0 8 rfl rfl; have i9 := hX.c 0 9 rfl rfl) | (go_at_call 11; with_reducible refine (hE1 _ hX.frm).mono ?_; rintro _ w' ⟨v1, rfl, hN1, hb⟩; have hX := hX.step hb; clear hb; obtain ⟨a2, c2, hv1, hc2⟩ := nums_some hN1 hL1; subst hv1; obtain ⟨wN, hwN⟩ : ∃ x : World, x = w' := ⟨w', rfl⟩; have hN1 : Nums .i64 wN (.slice (some a2) L.length c2) L := (by rw [hwN]; exact hN1); have hBN : Below wN.heap.size wN w' := (by rw [hwN]; exact Below.refl _ _); have hlt : ∀ e ∈ [(B, ([.int .i64 o, .bool b, .int .i64 m, .int .i64 r, .int .i64 x, .int .i64 p, .int .i64 q, .int .i64 y, .int .i64 g, .int .i64 n] : List Value))], e.1 < wN.heap.size := (fun e he => by rw [hwN]; exact (hX.bx e he).lt); have hlowN : W0.heap.size ≤ wN.heap.size := (by rw [hwN]; exact hX.below.size); clear hwN; have i0 := hX.c 0 0 rfl rfl; have i1 := hX.c 0 1 rfl rfl; have i2 := hX.c 0 2 rfl rfl; have i3 := hX.c 0 3 rfl rfl; have i4 := hX.c 0 4 rfl rfl; have i5 := hX.c 0 5 rfl rfl; have i6 := hX.c 0 6 rfl rfl; have i7 := hX.c 0 7 rfl rfl; have i8 := hX.c 0 8 rfl rfl; have i9 := hX.c 0 9 rfl rfl) | (go_at_call 16; with_reducible refine (hL _ hX.frm).mono ?_; rintro _ w' ⟨rfl, hb⟩; have hX := hX.step hb; have hBN := hBN.trans (hb.mono hBN.size); clear hb; have i0 := hX.c 0 0 rfl rfl; have i1 := hX.c 0 1 rfl rfl; have i2 := hX.c 0 2 rfl rfl; have i3 := hX.c 0 3 rfl rfl; have i4 := hX.c 0 4 rfl rfl; have i5 := hX.c 0 5 rfl rfl; have i6 := hX.c 0 6 rfl rfl; have i7 := hX.c 0 7 rfl rfl; have i8 := hX.c 0 8 rfl rfl; have i9 := hX.c 0 9 rfl rfl) | (at_builtin; refine wpList_append_own _ rfl (.tmp 40) (.tmp 41) 22 rfl wN.heap.size 3 ti (.int .i64 0) 1 8 Tryd.underlying22 hi hz0 hz1 hz2 rfl (by decide) _ 0 [] rfl (World.ownsRow_nil _ _ _ _) a2 L.length c2 (L.map (Value.int .i64)) rfl (by simp) (nums_cells (hN1.below hBN)) (one_cells L) (by unfold maxLen; omega) (by omega) hBN.size ?_; intro v' w' hown hgrow _; have hX := hX.grown hgrow hlt (fun k hk => by cases hk) hlowN; have hBN := hBN.grown hgrow hBN.size (fun k hk => by cases hk); clear hgrow; have i0 := hX.c 0 0 rfl rfl; have i1 := hX.c 0 1 rfl rfl; have i2 := hX.c 0 2 rfl rfl; have i3 := hX.c 0 3 rfl rfl; have i4 := hX.c 0 4 rfl rfl; have i5 := hX.c 0 5 rfl rfl; have i6 := hX.c 0 6 rfl rfl; have i7 := hX.c 0 7 rfl rfl; have i8 := hX.c 0 8 rfl rfl; have i9 := hX.c 0 9 rfl rfl) | (at_builtin; refine wpList_append_own_none rfl (.tmp 43) (.tmp 44) 22 rfl wN.heap.size 3 ti 1 Tryd.underlying22 hi _ _ _ rfl hown rfl ?_) | (go_at_call 9; with_reducible refine (hD2 _ hX.frm (nums_take (hN1.below hBN) (L.length - 1) (by omega))).mono ?_; rintro _ w' ⟨rfl, hb⟩; have hX := (hX.step hb).put [.int .i64 0, .bool false, .int .i64 0, .int .i64 0, .int .i64 0, .int .i64 0, .int .i64 0, .int .i64 0, .int .i64 0, .int .i64 0] 28; clear hb; have i0 := hX.c 2 0 rfl rfl; have i1 := hX.c 2 1 rfl rfl; have i2 := hX.c 2 2 rfl rfl; have i3 := hX.c 2 3 rfl rfl; have i4 := hX.c 2 4 rfl rfl; have i5 := hX.c 2 5 rfl rfl; have i6 := hX.c 2 6 rfl rfl; have i7 := hX.c 2 7 rfl rfl; have i8 := hX.c 2 8 rfl rfl; have i9 := hX.c 2 9 rfl rfl; have d0 := hX.c 1 0 rfl rfl; have d1 := hX.c 1 1 rfl rfl; have d2 := hX.c 1 2 rfl rfl; have d3 := hX.c 1 3 rfl rfl; have d4 := hX.c 1 4 rfl rfl; have d5 := hX.c 1 5 rfl rfl; have d6 := hX.c 1 6 rfl rfl; have d7 := hX.c 1 7 rfl rfl; have d8 := hX.c 1 8 rfl rfl; have d9 := hX.c 1 9 rfl rfl) | (go_at_call 9; have hNL := Nums.of_own (l := L ++ []) (by rw [List.append_nil]; exact hown); with_reducible refine (hD1 _ hX.frm hNL).mono ?_; clear hNL; rintro _ w' ⟨rfl, hb⟩; have hX := (hX.step hb).put [.int .i64 o, .bool b, .int .i64 m, .int .i64 r, .int .i64 x, .int .i64 p, .int .i64 q, .int .i64 y, .int .i64 g, .int .i64 n] 28; have hBN := (hBN.trans (hb.mono hBN.size)).alloc (Nat.le_trans hBN.size hb.size) (.cells #[.int .i64 o, .bool b, .int .i64 m, .int .i64 r, .int .i64 x, .int .i64 p, .int .i64 q, .int .i64 y, .int .i64 g, .int .i64 n] 28); clear hb; have i0 := hX.c 1 0 rfl rfl; have i1 := hX.c 1 1 rfl rfl; have i2 := hX.c 1 2 rfl rfl; have i3 := hX.c 1 3 rfl rfl; have i4 := hX.c 1 4 rfl rfl; have i5 := hX.c 1 5 rfl rfl; have i6 := hX.c 1 6 rfl rfl; have i7 := hX.c 1 7 rfl rfl; have i8 := hX.c 1 8 rfl rfl; have i9 := hX.c 1 9 rfl rfl; have d0 := hX.c 0 0 rfl rfl; have d1 := hX.c 0 1 rfl rfl; have d2 := hX.c 0 2 rfl rfl; have d3 := hX.c 0 3 rfl rfl; have d4 := hX.c 0 4 rfl rfl; have d5 := hX.c 0 5 rfl rfl; have d6 := hX.c 0 6 rfl rfl; have d7 := hX.c 0 7 rfl rfl; have d8 := hX.c 0 8 rfl rfl; have d9 := hX.c 0 9 rfl rfl) | (go_at_call 8; with_reducible refine (hA _ hX.frm).mono ?_; rintro _ w' ⟨rfl, hb⟩; have hX := hX.step hb; clear hb))
        go_ret
        exact ⟨rfl, by first | exact hX.below | exact hBB ▸ hX.below⟩
      · skip
        go_enter Tryd.func6, Tryd.ntmps6
        go_wp2_with fail
        have i0 := hX.c 0 0 rfl rfl; have i1 := hX.c 0 1 rfl rfl; have i2 := hX.c 0 2 rfl rfl; have i3 := hX.c 0 3 rfl rfl; have i4 := hX.c 0 4 rfl rfl; have i5 := hX.c 0 5 rfl rfl; have i6 := hX.c 0 6 rfl rfl; have i7 := hX.c 0 7 rfl rfl; have i8 := hX.c 0 8 rfl rfl; have i9 := hX.c 0 9 rfl rfl
        generalize W0.alloc (.cells #[.int .i64 o, .bool b, .int .i64 m, .int .i64 r, .int .i64 x, .int .i64 p, .int .i64 q, .int .i64 y, .int .i64 g, .int .i64 n] 28) = w1 at *
        generalize hBB : W0.heap.size = B at hX i0 i1 i2 i3 i4 i5 i6 i7 i8 i9 ⊢
        go_wp2_with (first | (go_at_call 14; with_reducible refine (hV1 _ hX.frm).mono ?_; rintro _ w' ⟨rfl, hb⟩; have hX := hX.step hb; clear hb; have i0 := hX.c 0 0 rfl rfl; have i1 := hX.c 0 1 rfl rfl; have i2 := hX.c 0 2 rfl rfl; have i3 := hX.c 0 3 rfl rfl; have i4 := hX.c 0 4 rfl rfl; have i5 := hX.c 0 5 rfl rfl; have i6 := hX.c 0 6 rfl rfl; have i7 := hX.c 0 7 rfl rfl; have i8 := hX.c 0 8 rfl rfl; have i9 := hX.c 0 9 rfl rfl) | (go_at_call 11; with_reducible refine (hE1 _ hX.frm).mono ?_; rintro _ w' ⟨v1, rfl, hN1, hb⟩; have hX := hX.step hb; clear hb; obtain ⟨a2, c2, hv1, hc2⟩ := nums_some hN1 hL1; subst hv1; obtain ⟨wN, hwN⟩ : ∃ x : World, x = w' := ⟨w', rfl⟩; have hN1 : Nums .i64 wN (.slice (some a2) L.length c2) L := (by rw [hwN]; exact hN1); have hBN : Below wN.heap.size wN w' := (by rw [hwN]; exact Below.refl _ _); have hlt : ∀ e ∈ [(B, ([.int .i64 o, .bool b, .int .i64 m, .int .i64 r, .int .i64 x, .int .i64 p, .int .i64 q, .int .i64 y, .int .i64 g, .int .i64 n] : List Value))], e.1 < wN.heap.size := (fun e he => by rw [hwN]; exact (hX.bx e he).lt); have hlowN : W0.heap.size ≤ wN.heap.size := (by rw [hwN]; exact hX.below.size); clear hwN; have i0 := hX.c 0 0 rfl rfl; have i1 := hX.c 0 1 rfl rfl; have i2 := hX.c 0 2 rfl rfl; have i3 := hX.c 0 3 rfl rfl; have i4 := hX.c 0 4 rfl rfl; have i5 := hX.c 0 5 rfl rfl; have i6 := hX.c 0 6 rfl rfl; have i7 := hX.c 0 7 rfl rfl; have i8 := hX.c 0 8 rfl rfl; have i9 := hX.c 0 9 rfl rfl) | (go_at_call 16; with_reducible refine (hL _ hX.frm).mono ?_; rintro _ w' ⟨rfl, hb⟩; have hX := hX.step hb; have hBN := hBN.trans (hb.mono hBN.size); clear hb; have i0 := hX.c 0 0 rfl rfl; have i1 := hX.c 0 1 rfl rfl; have i2 := hX.c 0 2 rfl rfl; have i3 := hX.c 0 3 rfl rfl; have i4 := hX.c 0 4 rfl rfl; have i5 := hX.c 0 5 rfl rfl; have i6 := hX.c 0 6 rfl rfl; have i7 := hX.c 0 7 rfl rfl; have i8 := hX.c 0 8 rfl rfl; have i9 := hX.c 0 9 rfl rfl) | (at_builtin; refine wpList_append_own _ rfl (.tmp 40) (.tmp 41) 22 rfl wN.heap.size 3 ti (.int .i64 0) 1 8 Tryd.underlying22 hi hz0 hz1 hz2 rfl (by decide) _ 0 [] rfl (World.ownsRow_nil _ _ _ _) a2 L.length c2 (L.map (Value.int .i64)) rfl (by simp) (nums_cells (hN1.below hBN)) (one_cells L) (by unfold maxLen; omega) (by omega) hBN.size ?_; intro v' w' hown hgrow _; have hX := hX.grown hgrow hlt (fun k hk => by cases hk) hlowN; have hBN := hBN.grown hgrow hBN.size (fun k hk => by cases hk); clear hgrow; have i0 := hX.c 0 0 rfl rfl; have i1 := hX.c 0 1 rfl rfl; have i2 := hX.c 0 2 rfl rfl; have i3 := hX.c 0 3 rfl rfl; have i4 := hX.c 0 4 rfl rfl; have i5 := hX.c 0 5 rfl rfl; have i6 := hX.c 0 6 rfl rfl; have i7 := hX.c 0 7 rfl rfl; have i8 := hX.c 0 8 rfl rfl; have i9 := hX.c 0 9 rfl rfl) | (at_builtin; refine wpList_append_own _ rfl (.tmp 43) (.tmp 44) 22 rfl wN.heap.size 3 ti (.int .i64 0) 1 8 Tryd.underlying22 hi hz0 hz1 hz2 rfl (by decide) _ _ _ rfl hown a3 l.length c3 (l.map (Value.int .i64)) rfl (by simp) (nums_cells (hn.below hX.below)) (one_cells l) (by unfold maxLen; omega) (by omega) hBN.size ?_; intro v'' w' hown2 hgrow _; have hX := hX.grown hgrow hlt (fun k hk => (hown.lt k hk).1) hlowN; have hBN := hBN.grown hgrow hBN.size (fun k hk => (hown.lt k hk).1); have hown := hown2; clear hgrow hown2; have i0 := hX.c 0 0 rfl rfl; have i1 := hX.c 0 1 rfl rfl; have i2 := hX.c 0 2 rfl rfl; have i3 := hX.c 0 3 rfl rfl; have i4 := hX.c 0 4 rfl rfl; have i5 := hX.c 0 5 rfl rfl; have i6 := hX.c 0 6 rfl rfl; have i7 := hX.c 0 7 rfl rfl; have i8 := hX.c 0 8 rfl rfl; have i9 := hX.c 0 9 rfl rfl) | (go_at_call 9; with_reducible refine (hD2 _ hX.frm (nums_take (hN1.below hBN) (L.length - 1) (by omega))).mono ?_; rintro _ w' ⟨rfl, hb⟩; have hX := (hX.step hb).put [.int .i64 0, .bool false, .int .i64 0, .int .i64 0, .int .i64 0, .int .i64 0, .int .i64 0, .int .i64 0, .int .i64 0, .int .i64 0] 28; clear hb; have i0 := hX.c 2 0 rfl rfl; have i1 := hX.c 2 1 rfl rfl; have i2 := hX.c 2 2 rfl rfl; have i3 := hX.c 2 3 rfl rfl; have i4 := hX.c 2 4 rfl rfl; have i5 := hX.c 2 5 rfl rfl; have i6 := hX.c 2 6 rfl rfl; have i7 := hX.c 2 7 rfl rfl; have i8 := hX.c 2 8 rfl rfl; have i9 := hX.c 2 9 rfl rfl; have d0 := hX.c 1 0 rfl rfl; have d1 := hX.c 1 1 rfl rfl; have d2 := hX.c 1 2 rfl rfl; have d3 := hX.c 1 3 rfl rfl; have d4 := hX.c 1 4 rfl rfl; have d5 := hX.c 1 5 rfl rfl; have d6 := hX.c 1 6 rfl rfl; have d7 := hX.c 1 7 rfl rfl; have d8 := hX.c 1 8 rfl rfl; have d9 := hX.c 1 9 rfl rfl) | (go_at_call 9; have hNL := Nums.of_own (l := L ++ l) (by rw [List.map_append]; exact hown); with_reducible refine (hD1 _ hX.frm hNL).mono ?_; clear hNL; rintro _ w' ⟨rfl, hb⟩; have hX := (hX.step hb).put [.int .i64 o, .bool b, .int .i64 m, .int .i64 r, .int .i64 x, .int .i64 p, .int .i64 q, .int .i64 y, .int .i64 g, .int .i64 n] 28; have hBN := (hBN.trans (hb.mono hBN.size)).alloc (Nat.le_trans hBN.size hb.size) (.cells #[.int .i64 o, .bool b, .int .i64 m, .int .i64 r, .int .i64 x, .int .i64 p, .int .i64 q, .int .i64 y, .int .i64 g, .int .i64 n] 28); clear hb; have i0 := hX.c 1 0 rfl rfl; have i1 := hX.c 1 1 rfl rfl; have i2 := hX.c 1 2 rfl rfl; have i3 := hX.c 1 3 rfl rfl; have i4 := hX.c 1 4 rfl rfl; have i5 := hX.c 1 5 rfl rfl; have i6 := hX.c 1 6 rfl rfl; have i7 := hX.c 1 7 rfl rfl; have i8 := hX.c 1 8 rfl rfl; have i9 := hX.c 1 9 rfl rfl; have d0 := hX.c 0 0 rfl rfl; have d1 := hX.c 0 1 rfl rfl; have d2 := hX.c 0 2 rfl rfl; have d3 := hX.c 0 3 rfl rfl; have d4 := hX.c 0 4 rfl rfl; have d5 := hX.c 0 5 rfl rfl; have d6 := hX.c 0 6 rfl rfl; have d7 := hX.c 0 7 rfl rfl; have d8 := hX.c 0 8 rfl rfl; have d9 := hX.c 0 9 rfl rfl) | (go_at_call 8; with_reducible refine (hA _ hX.frm).mono ?_; rintro _ w' ⟨rfl, hb⟩; have hX := hX.step hb; clear hb))
        go_ret
        exact ⟨rfl, by first | exact hX.below | exact hBB ▸ hX.below⟩

end Go.Proofs.YtlaikajgpgpidaaDoor
