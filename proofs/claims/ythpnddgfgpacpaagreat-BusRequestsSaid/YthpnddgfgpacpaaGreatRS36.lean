import Derived.Test.YthpnddgfgpacpaaGreatRS32
import Derived.Test.YthpnddgfgpacpaaGreatRS26
import Derived.Test.YthpnddgfgpacpaaGreatRS28
import Derived.Test.YthpnddgfgpacpaaGreatRS30
/-
  The requests of the devices. Condition: none but the form of the machine.
-/
namespace Go.Proofs.YthpnddgfgpacpaaGreat
open Go.RowKit
set_option linter.unusedSimpArgs false
set_option linter.unusedVariables false
set_option maxHeartbeats 4000000
set_option maxRecDepth 100000
attribute [local irreducible] wpQuiet

abbrev MdReq (A : Ma) (B : Nat) (w : World) (f : Nat) (r : Value) (l : List (Int × Int)) : Prop := Calls Tryz.prog f #[r, .pointer (some ⟨B, 0, none⟩)] w fun e' w' => ∃ v, e' = .returned v ∧ Rqs w' v l ∧ Below w.heap.size w w'
theorem md_req_1 (A : Ma) (hA : A.ok) (vm vb vl vs vd vt : Value) (w0 w : World) (B : Nat) (hX : Bag [(B, 44, A.cells vm vb vl vs vd vt)] w0 w) (hN : MaNow w A vm vb vl vs vd vt) : MdReq A B w 181 (.agg #[]) A.k.req := by
  have hL := Ma.len hA vs vd vt
  have hB := (Below.refl w.heap.size w).alloc (Nat.le_refl _) (.cells #[] 134)
  replace hX := hX.step hB
  have hc : ∀ wz, Calls Tryz.prog 188 #[.agg A.k.L.toArray] wz fun e' w' => ∃ v, e' = .returned v ∧ Rqs w' v A.k.req ∧ Below wz.heap.size wz w' := fun wz => preq_any A.k wz
  clear hN
  go_enter Tryz.func181, Tryz.ntmps181
  go_wp2_with (first | ((with_reducible refine at_ld 34 ?_); refine ldp hX aggK_13 sizK_13 (get_k hL) rfl ?_) | (go_at_call 188; (with_reducible refine (hc _).mono ?_); rintro e' wc ⟨v, rfl, hq, hbb⟩; replace hX := hX.step hbb; replace hB := hB.trans (hbb.mono hB.size); clear hbb))
  go_ret
  exact ⟨_, rfl, hq, hB⟩
theorem md_req_2 (A : Ma) (hA : A.ok) (vm vb vl vs vd vt : Value) (w0 w : World) (B : Nat) (hX : Bag [(B, 44, A.cells vm vb vl vs vd vt)] w0 w) (hN : MaNow w A vm vb vl vs vd vt) : MdReq A B w 196 (.agg #[]) A.K.req := by
  have hL := Ma.len hA vs vd vt
  have hB := (Below.refl w.heap.size w).alloc (Nat.le_refl _) (.cells #[] 135)
  replace hX := hX.step hB
  have hc : ∀ wz, Calls Tryz.prog 203 #[.agg (dkL vs vd A.K).toArray] wz fun e' w' => ∃ v, e' = .returned v ∧ Rqs w' v A.K.req ∧ Below wz.heap.size wz w' := fun wz => preqK_any A.K vs vd wz
  clear hN
  go_enter Tryz.func196, Tryz.ntmps196
  go_wp2_with (first | ((with_reducible refine at_ld 40 ?_); refine ldp hX aggK sizK (get_d hL) rfl ?_) | (go_at_call 203; (with_reducible refine (hc _).mono ?_); rintro e' wc ⟨v, rfl, hq, hbb⟩; replace hX := hX.step hbb; replace hB := hB.trans (hbb.mono hB.size); clear hbb))
  go_ret
  exact ⟨_, rfl, hq, hB⟩
theorem md_req_3 (A : Ma) (hA : A.ok) (vm vb vl vs vd vt : Value) (w0 w : World) (B : Nat) (hX : Bag [(B, 44, A.cells vm vb vl vs vd vt)] w0 w) (hN : MaNow w A vm vb vl vs vd vt) : MdReq A B w 234 (.agg #[]) A.T.req := by
  have hL := Ma.len hA vs vd vt
  have hB := (Below.refl w.heap.size w).alloc (Nat.le_refl _) (.cells #[] 136)
  replace hX := hX.step hB
  obtain ⟨A1, c1, ev, _⟩ := hN.t.form
  have hc : ∀ wz, Calls Tryz.prog 241 #[.agg (tpL vt A.T).toArray] wz fun e' w' => ∃ v, e' = .returned v ∧ Rqs w' v A.T.req ∧ Below wz.heap.size wz w' := by rw [ev]; exact fun wz => preqT_any A.T A1 _ c1 wz
  clear hN ev
  go_enter Tryz.func234, Tryz.ntmps234
  go_wp2_with (first | ((with_reducible refine at_ld 42 ?_); refine ldp hX aggT sizT (get_t hL) rfl ?_) | (go_at_call 241; (with_reducible refine (hc _).mono ?_); rintro e' wc ⟨v, rfl, hq, hbb⟩; replace hX := hX.step hbb; replace hB := hB.trans (hbb.mono hB.size); clear hbb))
  go_ret
  exact ⟨_, rfl, hq, hB⟩
theorem md_req_0 (A : Ma) (w : World) (B : Nat) : MdReq A B w 161 (.agg #[]) [] := by
  have hB := (Below.refl w.heap.size w).alloc (Nat.le_refl _) (.cells #[] 133)
  go_enter Tryz.func161, Tryz.ntmps161
  go_wp2
  go_ret
  exact ⟨_, rfl, Rw.nil _, hB⟩
theorem md_req_4 (A : Ma) (hA : A.ok) (k : Nat) (hk : k < A.L.length) (hl : A.L.length ≤ 1099511627776) (vm vb vl vs vd vt : Value) (w0 w : World) (B : Nat) (hX : Bag [(B, 44, A.cells vm vb vl vs vd vt)] w0 w) (hN : Lns w vl A.L) : MdReq A B w 267 (.int .i64 k) ((A.line k).req k) := by
  have hL := Ma.len hA vs vd vt
  have hB := Below.refl w.heap.size w
  obtain ⟨aL, cL, rfl, hcl, hld⟩ := lns_form hN
  obtain ⟨x, hx⟩ : ∃ x, A.L[k]? = some x := ⟨_, List.getElem?_eq_getElem hk⟩
  obtain ⟨ad, rfl, hld2⟩ := hld k x hx
  have i0 : (0 : Int) ≤ (k : Int) := by omega
  have i1 : (k : Int) < (A.L.length : Int) := by omega
  have e : A.line k = x := by unfold Ma.line; rw [List.getD_eq_getElem?_getD, hx]; rfl
  rw [e]
  have hc : ∀ wz, Calls Tryz.prog 275 #[.agg (lnL x).toArray, .int .i64 k] wz fun e' w' => ∃ v, e' = .returned v ∧ Rqs w' v (x.req k) ∧ Below wz.heap.size wz w' := fun wz => preqL_any x k wz
  clear hld e hx hN
  go_enter Tryz.func267, Tryz.ntmps267
  go_wp2_with (first | ((with_reducible refine at_ld 35 ?_); refine ldc (hk := get_l hL) hX slL_cell ?_) | ((with_reducible refine at_ld 68 ?_); refine wpList_loadW rfl 68 _ _ _ rfl rfl (hld2 _ hB) ?_) | (go_at_call 275; (with_reducible refine (hc _).mono ?_); rintro e' wc ⟨v, rfl, hq, hbb⟩; replace hX := hX.step hbb; replace hB := hB.trans (hbb.mono hB.size); clear hbb))
  go_ret
  exact ⟨_, rfl, hq, hB⟩
end Go.Proofs.YthpnddgfgpacpaaGreat
