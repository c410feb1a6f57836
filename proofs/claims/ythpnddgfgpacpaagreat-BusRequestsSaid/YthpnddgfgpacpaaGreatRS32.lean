import Derived.Test.YthpnddgfgpacpaaGreatRS24
import Derived.Test.YthpnddgfgpacpaaGreatRS03
import Derived.Test.YthpnddgfgpacpaaGreatRS26
import Derived.Test.YthpnddgfgpacpaaGreatRS27
import Derived.Test.YthpnddgfgpacpaaGreatRS29
import Derived.Test.YthpnddgfgpacpaaGreatRS31
import Derived.Test.YthpnddgfgpacpaaGreatRS14
import Derived.Test.YthpnddgfgpacpaaGreatRS28
import Derived.Test.YthpnddgfgpacpaaGreatRS30
import Derived.Test.YthpnddgfgpacpaaGreatRS01
/-
  The devices: is each valid? Conditions: lists of at most 2^40 elements.
-/
namespace Go.Proofs.YthpnddgfgpacpaaGreat
open Go.RowKit
set_option linter.unusedSimpArgs false
set_option linter.unusedVariables false
set_option maxHeartbeats 4000000
set_option maxRecDepth 100000
attribute [local irreducible] wpQuiet

abbrev MdRight (A : Ma) (B : Nat) (w : World) (f : Nat) (r : Value) (b : Bool) : Prop := Calls Tryz.prog f #[r, .pointer (some ⟨B, 0, none⟩)] w fun e' w' => e' = .returned (.bool b) ∧ Below w.heap.size w w'
theorem md_right_0 (A : Ma) (hA : A.ok) (hF : A.few) (vm vb vl vs vd vt : Value) (w0 w : World) (B : Nat) (hX : Bag [(B, 44, A.cells vm vb vl vs vd vt)] w0 w) (hN : MaNow w A vm vb vl vs vd vt) : MdRight A B w 163 (.agg #[]) A.U.right := by
  have hL := Ma.len hA vs vd vt
  obtain ⟨f1, f2, f3, f4, f5⟩ := hF
  have hB := (Below.refl w.heap.size w).alloc (Nat.le_refl _) (.cells #[] 133)
  replace hX := hX.step hB
  have hc : ∀ wz, Below w.heap.size w wz → Calls Tryz.prog 168 #[.agg A.U.L.toArray] wz fun e' w' => e' = .returned (.bool A.U.right) ∧ Below wz.heap.size wz w' := fun wz h => right_any_9 A.U hA.2.2 wz
  clear hN
  go_enter Tryz.func163, Tryz.ntmps163
  go_wp2_with (first | ((with_reducible refine at_ld 32 ?_); refine ldp hX agg_unit size_unit (get_u hL) (Un.len hA.2.2) ?_) | (go_at_call 168; (with_reducible refine (hc _ hB).mono ?_); rintro e' wc ⟨rfl, hbb⟩; replace hX := hX.step hbb; replace hB := hB.trans (hbb.mono hB.size); clear hbb))
  go_ret
  exact ⟨rfl, hB⟩
theorem md_right_1 (A : Ma) (hA : A.ok) (hF : A.few) (vm vb vl vs vd vt : Value) (w0 w : World) (B : Nat) (hX : Bag [(B, 44, A.cells vm vb vl vs vd vt)] w0 w) (hN : MaNow w A vm vb vl vs vd vt) : MdRight A B w 183 (.agg #[]) A.k.right := by
  have hL := Ma.len hA vs vd vt
  obtain ⟨f1, f2, f3, f4, f5⟩ := hF
  have hB := (Below.refl w.heap.size w).alloc (Nat.le_refl _) (.cells #[] 134)
  replace hX := hX.step hB
  have hc : ∀ wz, Below w.heap.size w wz → Calls Tryz.prog 190 #[.agg A.k.L.toArray] wz fun e' w' => e' = .returned (.bool A.k.right) ∧ Below wz.heap.size wz w' := fun wz h => pright_any_13 A.k wz
  clear hN
  go_enter Tryz.func183, Tryz.ntmps183
  go_wp2_with (first | ((with_reducible refine at_ld 34 ?_); refine ldp hX aggK_13 sizK_13 (get_k hL) rfl ?_) | (go_at_call 190; (with_reducible refine (hc _ hB).mono ?_); rintro e' wc ⟨rfl, hbb⟩; replace hX := hX.step hbb; replace hB := hB.trans (hbb.mono hB.size); clear hbb))
  go_ret
  exact ⟨rfl, hB⟩
theorem md_right_2 (A : Ma) (hA : A.ok) (hF : A.few) (vm vb vl vs vd vt : Value) (w0 w : World) (B : Nat) (hX : Bag [(B, 44, A.cells vm vb vl vs vd vt)] w0 w) (hN : MaNow w A vm vb vl vs vd vt) : MdRight A B w 198 (.agg #[]) A.K.right := by
  have hL := Ma.len hA vs vd vt
  obtain ⟨f1, f2, f3, f4, f5⟩ := hF
  have hB := (Below.refl w.heap.size w).alloc (Nat.le_refl _) (.cells #[] 135)
  replace hX := hX.step hB
  have hc : ∀ wz, Below w.heap.size w wz → Calls Tryz.prog 205 #[.agg (dkL vs vd A.K).toArray] wz fun e' w' => e' = .returned (.bool A.K.right) ∧ Below wz.heap.size wz w' := fun wz h => prightK_any A.K f4 f3 vs vd wz (Rz.below hN.s h) (Rz.below hN.d h)
  clear hN
  go_enter Tryz.func198, Tryz.ntmps198
  go_wp2_with (first | ((with_reducible refine at_ld 40 ?_); refine ldp hX aggK sizK (get_d hL) rfl ?_) | (go_at_call 205; (with_reducible refine (hc _ hB).mono ?_); rintro e' wc ⟨rfl, hbb⟩; replace hX := hX.step hbb; replace hB := hB.trans (hbb.mono hB.size); clear hbb))
  go_ret
  exact ⟨rfl, hB⟩
theorem md_right_3 (A : Ma) (hA : A.ok) (hF : A.few) (vm vb vl vs vd vt : Value) (w0 w : World) (B : Nat) (hX : Bag [(B, 44, A.cells vm vb vl vs vd vt)] w0 w) (hN : MaNow w A vm vb vl vs vd vt) : MdRight A B w 236 (.agg #[]) A.T.right := by
  have hL := Ma.len hA vs vd vt
  obtain ⟨f1, f2, f3, f4, f5⟩ := hF
  have hB := (Below.refl w.heap.size w).alloc (Nat.le_refl _) (.cells #[] 136)
  replace hX := hX.step hB
  have hc : ∀ wz, Below w.heap.size w wz → Calls Tryz.prog 243 #[.agg (tpL vt A.T).toArray] wz fun e' w' => e' = .returned (.bool A.T.right) ∧ Below wz.heap.size wz w' := fun wz h => prightT_any A.T f5 vt wz (Rz.below hN.t h)
  clear hN
  go_enter Tryz.func236, Tryz.ntmps236
  go_wp2_with (first | ((with_reducible refine at_ld 42 ?_); refine ldp hX aggT sizT (get_t hL) rfl ?_) | (go_at_call 243; (with_reducible refine (hc _ hB).mono ?_); rintro e' wc ⟨rfl, hbb⟩; replace hX := hX.step hbb; replace hB := hB.trans (hbb.mono hB.size); clear hbb))
  go_ret
  exact ⟨rfl, hB⟩
theorem md_right_4 (A : Ma) (hA : A.ok) (k : Nat) (hk : k < A.L.length) (hl : A.L.length ≤ 1099511627776) (vm vb vl vs vd vt : Value) (w0 w : World) (B : Nat) (hX : Bag [(B, 44, A.cells vm vb vl vs vd vt)] w0 w) (hN : Lns w vl A.L) : MdRight A B w 269 (.int .i64 k) (A.line k).right := by
  have hL := Ma.len hA vs vd vt
  have hB := Below.refl w.heap.size w
  obtain ⟨aL, cL, rfl, hcl, hld⟩ := lns_form hN
  obtain ⟨x, hx⟩ : ∃ x, A.L[k]? = some x := ⟨_, List.getElem?_eq_getElem hk⟩
  obtain ⟨ad, rfl, hld2⟩ := hld k x hx
  have i0 : (0 : Int) ≤ (k : Int) := by omega
  have i1 : (k : Int) < (A.L.length : Int) := by omega
  have e : A.line k = x := by unfold Ma.line; rw [List.getD_eq_getElem?_getD, hx]; rfl
  rw [e]
  have hc : ∀ wz, Calls Tryz.prog 277 #[.agg (lnL x).toArray] wz fun e' w' => e' = .returned (.bool x.right) ∧ Below wz.heap.size wz w' := fun wz => prightL_any x wz
  clear hld e hx hN
  go_enter Tryz.func269, Tryz.ntmps269
  go_wp2_with (first | ((with_reducible refine at_ld 35 ?_); refine ldc (hk := get_l hL) hX slL_cell ?_) | ((with_reducible refine at_ld 68 ?_); refine wpList_loadW rfl 68 _ _ _ rfl rfl (hld2 _ hB) ?_) | (go_at_call 277; (with_reducible refine (hc _).mono ?_); rintro e' wc ⟨rfl, hbb⟩; replace hX := hX.step hbb; replace hB := hB.trans (hbb.mono hB.size); clear hbb))
  go_ret
  exact ⟨rfl, hB⟩
end Go.Proofs.YthpnddgfgpacpaaGreat
/-
  The devices are read. Condition: a valid machine.
-/
namespace Go.Proofs.YthpnddgfgpacpaaGreat
open Go.RowKit
set_option linter.unusedSimpArgs false
set_option linter.unusedVariables false
set_option maxHeartbeats 4000000
set_option maxRecDepth 100000
attribute [local irreducible] wpQuiet

abbrev MdRead (A : Ma) (B : Nat) (w : World) (f : Nat) (r : Value) (q v : Int) (ok : Bool) : Prop := Calls Tryz.prog f #[r, .pointer (some ⟨B, 0, none⟩), .int .i64 q] w fun e' w' => e' = .returned (.tuple #[.int .i64 v, .bool ok]) ∧ Below w.heap.size w w'
theorem md_read_0 (A : Ma) (hA : A.ok) (hR : A.right = true) (q : Int) (vm vb vl vs vd vt : Value) (w0 w : World) (B : Nat) (hX : Bag [(B, 44, A.cells vm vb vl vs vd vt)] w0 w) (hN : MaNow w A vm vb vl vs vd vt) : MdRead A B w 160 (.agg #[]) q (A.U.read q).1 (A.U.read q).2 := by
  obtain ⟨_, _, _, hU, _, hKr, hTr⟩ := Ma.parts hR
  have hB := (Below.refl w.heap.size w).alloc (Nat.le_refl _) (.cells #[] 133)
  replace hX := hX.step hB
  have hL := Ma.len hA vs vd vt
  have hc : ∀ wz, Calls Tryz.prog 166 #[.agg A.U.L.toArray, .int .i64 q] wz fun e' w' => e' = .returned (.tuple #[.int .i64 (A.U.read q).1, .bool (A.U.read q).2]) ∧ Below wz.heap.size wz w' := fun wz => read_any_9 A.U hA.2.2 hU q wz
  clear hN hR hKr hTr hU
  go_enter Tryz.func160, Tryz.ntmps160
  go_wp2_with (first | ((with_reducible refine at_ld 32 ?_); refine ldp hX agg_unit size_unit (get_u hL) (Un.len hA.2.2) ?_) | (go_at_call 166; (with_reducible refine (hc _).mono ?_); rintro e' wc ⟨rfl, hbb⟩; replace hX := hX.step hbb; replace hB := hB.trans (hbb.mono hB.size); clear hbb))
  go_ret2
  exact ⟨rfl, hB⟩
theorem md_read_2 (A : Ma) (hA : A.ok) (hR : A.right = true) (q : Int) (vm vb vl vs vd vt : Value) (w0 w : World) (B : Nat) (hX : Bag [(B, 44, A.cells vm vb vl vs vd vt)] w0 w) (hN : MaNow w A vm vb vl vs vd vt) : MdRead A B w 195 (.agg #[]) q (A.K.rd q).1 (A.K.rd q).2 := by
  obtain ⟨_, _, _, hU, _, hKr, hTr⟩ := Ma.parts hR
  have hB := (Below.refl w.heap.size w).alloc (Nat.le_refl _) (.cells #[] 135)
  replace hX := hX.step hB
  have hc : 0 ≤ A.K.c ∧ A.K.c ≤ 3 := by have h := hKr; unfold Dk.right at h; rw [Bool.and_eq_true, Dk.ok_iff] at h; exact h.1.1
  have o4 := rz_one hN.s
  have o5 := rz_one hN.d
  have hL := Ma.len hA vs vd vt
  have hc : ∀ wz, Calls Tryz.prog 202 #[.agg (dkL vs vd A.K).toArray, .int .i64 q] wz fun e' w' => e' = .returned (.tuple #[.int .i64 (A.K.rd q).1, .bool (A.K.rd q).2]) ∧ Below wz.heap.size wz w' := fun wz => preadK_any A.K q hc.1 hc.2 vs vd o4 o5 wz
  clear hN hR hKr hTr hU
  go_enter Tryz.func195, Tryz.ntmps195
  go_wp2_with (first | ((with_reducible refine at_ld 40 ?_); refine ldp hX aggK sizK (get_d hL) rfl ?_) | (go_at_call 202; (with_reducible refine (hc _).mono ?_); rintro e' wc ⟨rfl, hbb⟩; replace hX := hX.step hbb; replace hB := hB.trans (hbb.mono hB.size); clear hbb))
  go_ret2
  exact ⟨rfl, hB⟩
theorem md_read_3 (A : Ma) (hA : A.ok) (hR : A.right = true) (q : Int) (vm vb vl vs vd vt : Value) (w0 w : World) (B : Nat) (hX : Bag [(B, 44, A.cells vm vb vl vs vd vt)] w0 w) (hN : MaNow w A vm vb vl vs vd vt) : MdRead A B w 233 (.agg #[]) q (A.T.rd q).1 (A.T.rd q).2 := by
  obtain ⟨_, _, _, hU, _, hKr, hTr⟩ := Ma.parts hR
  have hB := (Below.refl w.heap.size w).alloc (Nat.le_refl _) (.cells #[] 136)
  replace hX := hX.step hB
  have hc : 0 ≤ A.T.c ∧ A.T.c ≤ 6 := ((Tp.right_iff A.T).1 hTr).1.2.2.1
  obtain ⟨A1, c1, ev, _⟩ := hN.t.form
  have hL := Ma.len hA vs vd vt
  have hc : ∀ wz, Calls Tryz.prog 240 #[.agg (tpL vt A.T).toArray, .int .i64 q] wz fun e' w' => e' = .returned (.tuple #[.int .i64 (A.T.rd q).1, .bool (A.T.rd q).2]) ∧ Below wz.heap.size wz w' := by rw [ev]; exact fun wz => preadT_any A.T q hc.1 hc.2 A1 _ c1 wz
  clear hN hR hKr hTr hU ev
  go_enter Tryz.func233, Tryz.ntmps233
  go_wp2_with (first | ((with_reducible refine at_ld 42 ?_); refine ldp hX aggT sizT (get_t hL) rfl ?_) | (go_at_call 240; (with_reducible refine (hc _).mono ?_); rintro e' wc ⟨rfl, hbb⟩; replace hX := hX.step hbb; replace hB := hB.trans (hbb.mono hB.size); clear hbb))
  go_ret2
  exact ⟨rfl, hB⟩
theorem md_read_1 (A : Ma) (hA : A.ok) (q : Int) (vm vb vl vs vd vt : Value) (w0 w : World) (B : Nat) (hX : Bag [(B, 44, A.cells vm vb vl vs vd vt)] w0 w) : MdRead A B w 180 (.agg #[]) q (if q = 0 then A.k.read else 0) (decide (q = 0)) := by
  have hB := (Below.refl w.heap.size w).alloc (Nat.le_refl _) (.cells #[] 134)
  replace hX := hX.step hB
  have hL := Ma.len hA vs vd vt
  have hc : ∀ wz, Calls Tryz.prog 187 #[.agg A.k.L.toArray] wz fun e' w' => e' = .returned (.int .i64 A.k.read) ∧ Below wz.heap.size wz w' := fun wz => pread_any_13 A.k wz
  by_cases q0 : q = 0
  · subst q0
    go_enter Tryz.func180, Tryz.ntmps180
    go_wp2_with (first | ((with_reducible refine at_ld 34 ?_); refine ldp hX aggK_13 sizK_13 (get_k hL) rfl ?_) | (go_at_call 187; (with_reducible refine (hc _).mono ?_); rintro e' wc ⟨rfl, hbb⟩; replace hX := hX.step hbb; replace hB := hB.trans (hbb.mono hB.size); clear hbb))
    go_ret2
    exact ⟨rfl, hB⟩
  · have e0 : (q != 0) = true := by simpa using q0
    rw [if_neg q0, decide_eq_false q0]
    go_enter Tryz.func180, Tryz.ntmps180
    go_wp2
    go_ret2
    exact ⟨rfl, hB⟩
theorem md_lineReg (q : Int) (w : World) : Calls Tryz.prog 273 #[.int .i64 q] w fun e' w' => e' = .returned (.bool (decide (0 ≤ q) && decide (q < 8))) ∧ w = w' := by
  by_cases h : 0 ≤ q
  · have d1 : decide (0 ≤ q) = true := decide_eq_true h
    go_enter Tryz.func273, Tryz.ntmps273
    go_wp2
    go_ret
    exact ⟨by simp [d1], rfl⟩
  · have d1 : decide (0 ≤ q) = false := decide_eq_false h
    go_enter Tryz.func273, Tryz.ntmps273
    go_wp2
    go_ret
    exact ⟨by simp [d1], rfl⟩
end Go.Proofs.YthpnddgfgpacpaaGreat
/-
  A terminal line: its methods. Condition: a valid machine.
-/
namespace Go.Proofs.YthpnddgfgpacpaaGreat
open Go.RowKit
set_option linter.unusedSimpArgs false
set_option linter.unusedVariables false
set_option maxHeartbeats 4000000
set_option maxRecDepth 100000
attribute [local irreducible] wpQuiet

theorem flat_row {L : List Ln} {k : Nat} {x : Ln} (hx : L[k]? = some x) (J : List Value) : ∀ j v, (lnL x)[j]? = some v → (L.flatMap lnL ++ J)[k * 9 + j]? = some v := fun j v h => by
  have h1 := flatM_get (g := lnL) (s := 9) (fun _ => rfl) L k x hx j v h
  rw [List.getElem?_append_left (List.getElem?_eq_some_iff.1 h1).1]
  exact h1
theorem flat_put {L : List Ln} {k : Nat} (hk : k < L.length) (y : Ln) (J : List Value) : (L.flatMap lnL ++ J).take (k * 9) ++ lnL y ++ (L.flatMap lnL ++ J).drop (k * 9 + 9) = (L.set k y).flatMap lnL ++ J := by
  have e : L = L.take k ++ (L[k] :: L.drop (k + 1)) := by
    rw [← List.drop_eq_getElem_cons hk, List.take_append_drop]
  have hl : ((L.take k).flatMap lnL).length = k * 9 := by rw [flat9_len, List.length_take, Nat.min_eq_left (by omega)]
  have e1 : L.flatMap lnL ++ J = (L.take k).flatMap lnL ++ (lnL L[k] ++ ((L.drop (k + 1)).flatMap lnL ++ J)) := by
    conv => lhs; rw [e]
    rw [List.flatMap_append, List.flatMap_cons]
    simp only [List.append_assoc]
  have e2 : (L.set k y).flatMap lnL = (L.take k).flatMap lnL ++ (lnL y ++ (L.drop (k + 1)).flatMap lnL) := by
    rw [List.set_eq_take_append_cons_drop, if_pos hk, List.flatMap_append, List.flatMap_cons]
  rw [e1, e2, List.take_left' hl, List.drop_append, List.drop_eq_nil_of_le (by omega), hl, show k * 9 + 9 - k * 9 = 9 by omega, List.drop_left' (show (lnL L[k]).length = 9 from rfl)]
  simp only [List.nil_append, List.append_assoc]
theorem flat_fit {L : List Ln} {k : Nat} (hk : k < L.length) (J : List Value) : k * 9 + 9 ≤ (L.flatMap lnL ++ J).length := by
  rw [List.length_append, flat9_len]
  have : (k + 1) * 9 ≤ L.length * 9 := Nat.mul_le_mul_right 9 (by omega)
  omega
theorem one_ln9 (y : Ln) : ∀ v ∈ lnL y, v.oneCell' = true := by
  intro v hv
  unfold lnL at hv
  simp only [List.mem_cons, List.not_mem_nil, or_false] at hv
  rcases hv with rfl | rfl | rfl | rfl | rfl | rfl | rfl | rfl | rfl <;> rfl
section
variable {X : Nat → Prop} {w0 w w' : World} {B g : Nat} {A : Ma} {vm vb vl vs vd vt : Value}
/-- The row's block beside the machine's. -/
theorem DSt.two (h : DSt X w0 B g w A vm vb vl vs vd vt) {k : Nat} (hk : k < A.L.length) : ∃ c J, vl = .slice (some ⟨g, 0, none⟩) A.L.length c ∧ A.L.length ≤ c ∧ g ≠ B ∧ Bag [(g, 68, A.L.flatMap lnL ++ J), (B, 44, A.cells vm vb vl vs vd vt)] w0 w := by
  rcases h.row with ⟨h1, _⟩ | ⟨h1, h2, h3, c, J, h4, h5, h6⟩
  · rw [h1] at hk; exact absurd hk (Nat.not_lt_zero _)
  · refine ⟨c, J, h4, h5, h1, ⟨fun b t cs hm => ?_, h.bag.below, fun b hm => ?_, ?_⟩⟩
    · rcases List.mem_cons.1 hm with e | e
      · cases e; exact h6
      · exact h.bag.all b t cs e
    · rcases List.mem_cons.1 hm with e | e
      · rw [e]; exact h2
      · exact h.bag.lo b e
    · simp only [List.map_cons, List.map_nil, List.nodup_cons, List.mem_cons, List.not_mem_nil, or_false, not_false_eq_true, List.nodup_nil, and_true]
      exact h1
theorem Bag.drop2 {a b : Nat × TypeId × List Value} {l : List (Nat × TypeId × List Value)} (h : Bag (a :: b :: l) w0 w) : Bag (a :: l) w0 w := by
  have e : ∀ x, x ∈ a :: l → x ∈ a :: b :: l := fun x hx => by
    simp only [List.mem_cons] at hx ⊢
    rcases hx with h | h
    · exact .inl h
    · exact .inr (.inr h)
  refine ⟨fun B t cs hm => h.all B t cs (e _ hm), h.below, fun x hx => h.lo x (e x hx), ?_⟩
  have d := h.dis
  simp only [List.map_cons, List.nodup_cons, List.mem_cons, not_or] at d ⊢
  exact ⟨d.1.2, d.2.2⟩
/-- A line is another one. -/
theorem DSt.setL {c k : Nat} {J : List Value} {y : Ln} (h : DSt X w0 B g w A vm vb (.slice (some ⟨g, 0, none⟩) A.L.length c) vs vd vt) (hc : A.L.length ≤ c) (hne : g ≠ B) (hX : Bag [(g, 68, (A.L.set k y).flatMap lnL ++ J), (B, 44, A.cells vm vb (.slice (some ⟨g, 0, none⟩) A.L.length c) vs vd vt)] w0 w') (hK : Kpt B g w w') : DSt X w0 B g w' (A.setL k y) vm vb (.slice (some ⟨g, 0, none⟩) A.L.length c) vs vd vt := by
  have hg := hX.all _ _ _ (.head _)
  refine ⟨⟨fun b t cs hm => hX.all b t cs (List.mem_cons_of_mem _ hm), hX.below, fun b hm => hX.lo b (List.mem_cons_of_mem _ hm), by simp⟩, Sv.kb h.m hK, Sv.kb h.b hK, Sv.kb h.s hK, Sv.kb h.d hK, Sv.kb h.t hK, .inr ⟨hne, hX.lo _ (.head _), hg.lt, c, J, ?_, ?_, hg⟩, fun b q => Nat.lt_of_lt_of_le (h.xl b q) hK.size⟩
  · show _ = Value.slice _ (A.L.set k y).length c
    rw [List.length_set]
  · show (A.L.set k y).length ≤ c
    rw [List.length_set]; exact hc
end
theorem md_reset_4 (A : Ma) (hA : A.ok) (hR : A.right = true) (k : Nat) (hk : k < A.L.length) (vm vb vl vs vd vt : Value) (X : Nat → Prop) (w0 w : World) (B g : Nat) (hS : DSt X w0 B g w A vm vb vl vs vd vt) : Calls Tryz.prog 268 #[.int .i64 k, .pointer (some ⟨B, 0, none⟩)] w (DevS X w0 B g w (A.setL k (A.line k).reset) (.tuple #[])) := by
  have hL := Ma.len hA vs vd vt
  obtain ⟨c, J, rfl, hc, hne, hX⟩ := hS.two hk
  obtain ⟨x, hx⟩ : ∃ x, A.L[k]? = some x := ⟨_, List.getElem?_eq_getElem hk⟩
  have i0 : (0 : Int) ≤ (k : Int) := by omega
  have i1 : (k : Int) < (A.L.length : Int) := by omega
  have e : A.line k = x := by unfold Ma.line; rw [List.getD_eq_getElem?_getD, hx]; rfl
  have hxr : x.right = true := e ▸ line_right hR hk
  have hfin := fun (w' : World) (y : Ln) => DSt.setL (w' := w') (k := k) (J := J) (y := y) hS hc hne
  rw [e]
  clear e hS hR
  have hl : ∀ wz, Calls Tryz.prog 276 #[.agg (lnL x).toArray] wz fun e' w' => e' = .returned (.agg (lnL x.reset).toArray) ∧ Below wz.heap.size wz w' := fun wz => presetL_any x wz
  go_enter Tryz.func268, Tryz.ntmps268
  go_wp2
  refine region_class_tail (fun w' => Bag [(g, 68, A.L.flatMap lnL ++ J), (B, 44, A.cells vm vb (.slice (some ⟨g, 0, none⟩) A.L.length c) vs vd vt)] w0 w' ∧ Kpt B g w w') 14 (by kernel_rfl) (by kernel_rfl) ⟨hX.drew, (Kpt.refl B g w).step (Below.refl _ w).drew⟩ ?_
  repeat
    first
      | (refine BigFrame.wpQuiet_skip (by rfl) ?_
         simp only [Act.put, List.setIfInBounds_toArray, List.set_cons_zero, List.set_cons_succ])
      | (refine BigFrame.wpQuiet_want (by rfl) (fun K hK => ?_)
         apply Exists.intro
         refine ⟨fun wq hq => ?_, hK _ ?_⟩
         · first
             | (refine quiet_load 35 _ _ _ rfl rfl ((hq.1.all _ _ _ (.tail _ (.head _))).loadCell (get_l hL) slL_cell))
             | (refine quiet_load 68 _ _ _ rfl rfl ((hq.1.all _ _ _ (.head _)).loadAtSub (flat_row hx J) rfl aggLn sizLn))
             | (unfold Oper.quietAt
                go_simp
                first
                  | with_reducible rfl
                  | ((go_at_call 276); with_reducible refine (hl _).mono ?_; exact fun e w' ⟨he, hw⟩ => ⟨he, hq.1.step hw, hq.2.step hw⟩)
               )
         clear hK K
         simp only [Act.put, List.setIfInBounds_toArray, List.set_cons_zero, List.set_cons_succ])
  refine wpQuiet_nil ?_
  clear hX
  intro w4 hX
  simp only [List.drop_succ_cons, List.drop_zero]
  go_wp2_with (first | ((with_reducible refine at_st 68 ?_); refine stp1 hX.1 aggLn sizLn (flat_put hk x.reset J) rfl (flat_fit hk J) (one_ln9 _) ?_; intro wS hY hkS; replace hK := hX.2.putg hkS (hY.all _ _ _ (.head _)); replace hX := hY; clear hY hkS))
  exact bodyPost_end (results_none rfl _ _ _) rfl ⟨rfl, ⟨_, _, _, _, _, _, hfin _ _ hX hK⟩, hK⟩
theorem md_accept_4 (A : Ma) (hA : A.ok) (hR : A.right = true) (v : Int) (k : Nat) (hk : k < A.L.length) (vm vb vl vs vd vt : Value) (X : Nat → Prop) (w0 w : World) (B g : Nat) (hS : DSt X w0 B g w A vm vb vl vs vd vt) : Calls Tryz.prog 265 #[.int .i64 k, .pointer (some ⟨B, 0, none⟩), .int .i64 v] w (DevS X w0 B g w (A.setL k (A.line k)) (.tuple #[])) := by
  have hL := Ma.len hA vs vd vt
  obtain ⟨c, J, rfl, hc, hne, hX⟩ := hS.two hk
  obtain ⟨x, hx⟩ : ∃ x, A.L[k]? = some x := ⟨_, List.getElem?_eq_getElem hk⟩
  have i0 : (0 : Int) ≤ (k : Int) := by omega
  have i1 : (k : Int) < (A.L.length : Int) := by omega
  have e : A.line k = x := by unfold Ma.line; rw [List.getD_eq_getElem?_getD, hx]; rfl
  have hxr : x.right = true := e ▸ line_right hR hk
  have hfin := fun (w' : World) (y : Ln) => DSt.setL (w' := w') (k := k) (J := J) (y := y) hS hc hne
  rw [e]
  clear e hS hR
  have hl : ∀ wz, Calls Tryz.prog 272 #[.agg (lnL x).toArray, .int .i64 k, .int .i64 v] wz fun e' w' => e' = .returned (.agg (lnL x).toArray) ∧ Below wz.heap.size wz w' := fun wz => paccL_any x k v wz
  go_enter Tryz.func265, Tryz.ntmps265
  go_wp2
  refine region_class_tail (fun w' => Bag [(g, 68, A.L.flatMap lnL ++ J), (B, 44, A.cells vm vb (.slice (some ⟨g, 0, none⟩) A.L.length c) vs vd vt)] w0 w' ∧ Kpt B g w w') 16 (by kernel_rfl) (by kernel_rfl) ⟨hX.drew, (Kpt.refl B g w).step (Below.refl _ w).drew⟩ ?_
  repeat
    first
      | (refine BigFrame.wpQuiet_skip (by rfl) ?_
         simp only [Act.put, List.setIfInBounds_toArray, List.set_cons_zero, List.set_cons_succ])
      | (refine BigFrame.wpQuiet_want (by rfl) (fun K hK => ?_)
         apply Exists.intro
         refine ⟨fun wq hq => ?_, hK _ ?_⟩
         · first
             | (refine quiet_load 35 _ _ _ rfl rfl ((hq.1.all _ _ _ (.tail _ (.head _))).loadCell (get_l hL) slL_cell))
             | (refine quiet_load 68 _ _ _ rfl rfl ((hq.1.all _ _ _ (.head _)).loadAtSub (flat_row hx J) rfl aggLn sizLn))
             | (unfold Oper.quietAt
                go_simp
                first
                  | with_reducible rfl
                  | ((go_at_call 272); with_reducible refine (hl _).mono ?_; exact fun e w' ⟨he, hw⟩ => ⟨he, hq.1.step hw, hq.2.step hw⟩)
               )
         clear hK K
         simp only [Act.put, List.setIfInBounds_toArray, List.set_cons_zero, List.set_cons_succ])
  refine wpQuiet_nil ?_
  clear hX
  intro w4 hX
  simp only [List.drop_succ_cons, List.drop_zero]
  go_wp2_with (first | ((with_reducible refine at_st 68 ?_); refine stp1 hX.1 aggLn sizLn (flat_put hk x J) rfl (flat_fit hk J) (one_ln9 _) ?_; intro wS hY hkS; replace hK := hX.2.putg hkS (hY.all _ _ _ (.head _)); replace hX := hY; clear hY hkS))
  exact bodyPost_end (results_none rfl _ _ _) rfl ⟨rfl, ⟨_, _, _, _, _, _, hfin _ _ hX hK⟩, hK⟩
theorem md_write_4 (A : Ma) (hA : A.ok) (hR : A.right = true) (q v : Int) (k : Nat) (hk : k < A.L.length) (hq : 0 ≤ q ∧ q < 8) (vm vb vl vs vd vt : Value) (X : Nat → Prop) (w0 w : World) (B g : Nat) (hS : DSt X w0 B g w A vm vb vl vs vd vt) : Calls Tryz.prog 271 #[.int .i64 k, .pointer (some ⟨B, 0, none⟩), .int .i64 q, .int .i64 v] w (DevS X w0 B g w (A.setL k ((A.line k).wr q v)) (.bool true)) := by
  have hL := Ma.len hA vs vd vt
  obtain ⟨c, J, rfl, hc, hne, hX⟩ := hS.two hk
  obtain ⟨x, hx⟩ : ∃ x, A.L[k]? = some x := ⟨_, List.getElem?_eq_getElem hk⟩
  have i0 : (0 : Int) ≤ (k : Int) := by omega
  have i1 : (k : Int) < (A.L.length : Int) := by omega
  have e : A.line k = x := by unfold Ma.line; rw [List.getD_eq_getElem?_getD, hx]; rfl
  have hxr : x.right = true := e ▸ line_right hR hk
  have hfin := fun (w' : World) (y : Ln) => DSt.setL (w' := w') (k := k) (J := J) (y := y) hS hc hne
  rw [e]
  clear e hS hR
  have hlr : ∀ wz, Calls Tryz.prog 273 #[.int .i64 q] wz fun e' w' => e' = .returned (.bool true) ∧ wz = w' := fun wz => by have h := md_lineReg q wz; rw [decide_eq_true hq.1, decide_eq_true hq.2] at h; exact h
  clear hq
  have hl : ∀ wz, Calls Tryz.prog 279 #[.agg (lnL x).toArray, .int .i64 q, .int .i64 v] wz fun e' w' => e' = .returned (.agg (lnL (x.wr q v)).toArray) ∧ Below wz.heap.size wz w' := fun wz => pwr_any x q v wz
  go_enter Tryz.func271, Tryz.ntmps271
  go_wp2_with (first | (go_at_call 273; (with_reducible refine (hlr _).mono ?_); rintro e' wc ⟨rfl, rfl⟩))
  refine region_class_tail (fun w' => Bag [(g, 68, A.L.flatMap lnL ++ J), (B, 44, A.cells vm vb (.slice (some ⟨g, 0, none⟩) A.L.length c) vs vd vt)] w0 w' ∧ Kpt B g w w') 16 (by kernel_rfl) (by kernel_rfl) ⟨hX.drew, (Kpt.refl B g w).step (Below.refl _ w).drew⟩ ?_
  repeat
    first
      | (refine BigFrame.wpQuiet_skip (by rfl) ?_
         simp only [Act.put, List.setIfInBounds_toArray, List.set_cons_zero, List.set_cons_succ])
      | (refine BigFrame.wpQuiet_want (by rfl) (fun K hK => ?_)
         apply Exists.intro
         refine ⟨fun wq hq => ?_, hK _ ?_⟩
         · first
             | (refine quiet_load 35 _ _ _ rfl rfl ((hq.1.all _ _ _ (.tail _ (.head _))).loadCell (get_l hL) slL_cell))
             | (refine quiet_load 68 _ _ _ rfl rfl ((hq.1.all _ _ _ (.head _)).loadAtSub (flat_row hx J) rfl aggLn sizLn))
             | (unfold Oper.quietAt
                go_simp
                first
                  | with_reducible rfl
                  | ((go_at_call 279); with_reducible refine (hl _).mono ?_; exact fun e w' ⟨he, hw⟩ => ⟨he, hq.1.step hw, hq.2.step hw⟩)
               )
         clear hK K
         simp only [Act.put, List.setIfInBounds_toArray, List.set_cons_zero, List.set_cons_succ])
  refine wpQuiet_nil ?_
  clear hX
  intro w4 hX
  simp only [List.drop_succ_cons, List.drop_zero]
  go_wp2_with (first | ((with_reducible refine at_st 68 ?_); refine stp1 hX.1 aggLn sizLn (flat_put hk (x.wr q v) J) rfl (flat_fit hk J) (one_ln9 _) ?_; intro wS hY hkS; replace hK := hX.2.putg hkS (hY.all _ _ _ (.head _)); replace hX := hY; clear hY hkS))
  refine bodyPost_ret (results_tmp (by rfl) _ _ _) rfl ⟨rfl, ⟨_, _, _, _, _, _, hfin _ _ hX hK⟩, hK⟩
theorem md_write_no (A : Ma) (q v : Int) (k : Nat) (hq : ¬ (0 ≤ q ∧ q < 8)) (w : World) (B : Nat) : Calls Tryz.prog 271 #[.int .i64 k, .pointer (some ⟨B, 0, none⟩), .int .i64 q, .int .i64 v] w fun e' w' => e' = .returned (.bool false) ∧ w = w' := by
  have hlr : ∀ wz, Calls Tryz.prog 273 #[.int .i64 q] wz fun e' w' => e' = .returned (.bool false) ∧ wz = w' := fun wz => by
    have h := md_lineReg q wz
    have hb : (decide (0 ≤ q) && decide (q < 8)) = false := by rw [Bool.and_eq_false_iff, decide_eq_false_iff_not, decide_eq_false_iff_not]; omega
    rw [hb] at h; exact h
  clear hq
  go_enter Tryz.func271, Tryz.ntmps271
  go_wp2_with (first | (go_at_call 273; (with_reducible refine (hlr _).mono ?_); rintro e' wc ⟨rfl, rfl⟩))
  go_ret
  exact ⟨rfl, rfl⟩
theorem md_read_no (A : Ma) (q : Int) (k : Nat) (hq : ¬ (0 ≤ q ∧ q < 8)) (w : World) (B : Nat) : Calls Tryz.prog 266 #[.int .i64 k, .pointer (some ⟨B, 0, none⟩), .int .i64 q] w fun e' w' => e' = .returned (.tuple #[.int .i64 0, .bool false]) ∧ w = w' := by
  have hlr : ∀ wz, Calls Tryz.prog 273 #[.int .i64 q] wz fun e' w' => e' = .returned (.bool false) ∧ wz = w' := fun wz => by
    have h := md_lineReg q wz
    have hb : (decide (0 ≤ q) && decide (q < 8)) = false := by rw [Bool.and_eq_false_iff, decide_eq_false_iff_not, decide_eq_false_iff_not]; omega
    rw [hb] at h; exact h
  clear hq
  go_enter Tryz.func266, Tryz.ntmps266
  go_wp2_with (first | (go_at_call 273; (with_reducible refine (hlr _).mono ?_); rintro e' wc ⟨rfl, rfl⟩))
  go_ret2
  exact ⟨rfl, rfl⟩
theorem md_read_4 (A : Ma) (hA : A.ok) (hR : A.right = true) (q : Int) (k : Nat) (hk : k < A.L.length) (hq : 0 ≤ q ∧ q < 8) (vm vb vl vs vd vt : Value) (X : Nat → Prop) (w0 w : World) (B g : Nat) (hS : DSt X w0 B g w A vm vb vl vs vd vt) : Calls Tryz.prog 266 #[.int .i64 k, .pointer (some ⟨B, 0, none⟩), .int .i64 q] w (DevS X w0 B g w (A.setL k ((A.line k).rd q).1) (.tuple #[.int .i64 ((A.line k).rd q).2, .bool true])) := by
  have hL := Ma.len hA vs vd vt
  obtain ⟨c, J, rfl, hc, hne, hX⟩ := hS.two hk
  obtain ⟨x, hx⟩ : ∃ x, A.L[k]? = some x := ⟨_, List.getElem?_eq_getElem hk⟩
  have i0 : (0 : Int) ≤ (k : Int) := by omega
  have i1 : (k : Int) < (A.L.length : Int) := by omega
  have e : A.line k = x := by unfold Ma.line; rw [List.getD_eq_getElem?_getD, hx]; rfl
  have hxr : x.right = true := e ▸ line_right hR hk
  have hfin := fun (w' : World) (y : Ln) => DSt.setL (w' := w') (k := k) (J := J) (y := y) hS hc hne
  rw [e]
  clear e hS hR
  have hlr : ∀ wz, Calls Tryz.prog 273 #[.int .i64 q] wz fun e' w' => e' = .returned (.bool true) ∧ wz = w' := fun wz => by have h := md_lineReg q wz; rw [decide_eq_true hq.1, decide_eq_true hq.2] at h; exact h
  clear hq
  have hd := (ln_iff18 x).1 hxr
  have hl : ∀ wz, Calls Tryz.prog 274 #[.agg (lnL x).toArray, .int .i64 q] wz fun e' w' => e' = .returned (.tuple #[.agg (lnL (x.rd q).1).toArray, .int .i64 (x.rd q).2]) ∧ Below wz.heap.size wz w' := fun wz => prdL_any x hd.1 q wz
  clear hd
  have hK := Kpt.refl B g w
  go_enter Tryz.func266, Tryz.ntmps266
  go_wp2_with (first | (go_at_call 273; (with_reducible refine (hlr _).mono ?_); rintro e' wc ⟨rfl, rfl⟩) | ((with_reducible refine at_ld 35 ?_); refine ldc (hk := get_l hL) hX slL_cell ?_) | ((with_reducible refine at_ld 68 ?_); refine ldp hX aggLn sizLn (flat_row hx J) rfl ?_) | (go_at_call 274; (with_reducible refine (hl _).mono ?_); rintro e' wc ⟨rfl, hbb⟩; replace hX := hX.step hbb; replace hK := hK.step hbb; clear hbb) | ((with_reducible refine at_st 68 ?_); refine stn hX aggLn sizLn (one_ln9 _) ?_; intro wS hY hbS; replace hX := hY.swap; replace hK := hK.step hbS; clear hY hbS))
  refine region_class_tail (fun w' => Bag [(g, 68, A.L.flatMap lnL ++ J), (wc.heap.size, 68, lnL (x.rd q).1), (B, 44, A.cells vm vb (.slice (some ⟨g, 0, none⟩) A.L.length c) vs vd vt)] w0 w' ∧ Kpt B g w w') 7 (by kernel_rfl) (by kernel_rfl) ⟨hX.drew, hK.step (Below.refl _ _).drew⟩ ?_
  repeat
    first
      | (refine BigFrame.wpQuiet_skip (by rfl) ?_
         simp only [Act.put, List.setIfInBounds_toArray, List.set_cons_zero, List.set_cons_succ])
      | (refine BigFrame.wpQuiet_want (by rfl) (fun K hK => ?_)
         apply Exists.intro
         refine ⟨fun wq hq => ?_, hK _ ?_⟩
         · first
             | (refine quiet_load 35 _ _ _ rfl rfl ((hq.1.all _ _ _ (.tail _ (.tail _ (.head _)))).loadCell (get_l hL) slL_cell))
             | (refine quiet_load 68 _ _ _ rfl rfl ((hq.1.all _ _ _ (.tail _ (.head _))).loadAt rfl aggLn sizLn))
             | (unfold Oper.quietAt
                go_simp
                first
                  | with_reducible rfl
               )
         clear hK K
         simp only [Act.put, List.setIfInBounds_toArray, List.set_cons_zero, List.set_cons_succ])
  refine wpQuiet_nil ?_
  clear hX hK
  intro w4 hX
  simp only [List.drop_succ_cons, List.drop_zero]
  go_wp2_with (first | ((with_reducible refine at_st 68 ?_); refine stp1 hX.1 aggLn sizLn (flat_put hk (x.rd q).1 J) rfl (flat_fit hk J) (one_ln9 _) ?_; intro wS hY hkS; replace hK := hX.2.putg hkS (hY.all _ _ _ (.head _)); replace hX := hY; clear hY hkS))
  refine bodyPost_ret (results_tmp2 (by rfl) _ _ _) rfl ⟨rfl, ⟨_, _, _, _, _, _, hfin _ _ hX.drop2 hK⟩, hK⟩
end Go.Proofs.YthpnddgfgpacpaaGreat
