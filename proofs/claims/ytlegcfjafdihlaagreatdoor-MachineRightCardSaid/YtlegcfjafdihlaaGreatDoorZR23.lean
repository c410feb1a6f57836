import Derived.Test.YtlegcfjafdihlaaGreatDoorZR17
import Derived.Test.YtlegcfjafdihlaaGreatDoorZR04
import Derived.Test.YtlegcfjafdihlaaGreatDoorZR18
import Derived.Test.YtlegcfjafdihlaaGreatDoorZR19
import Derived.Test.YtlegcfjafdihlaaGreatDoorZR20
import Derived.Test.YtlegcfjafdihlaaGreatDoorZR22
import Derived.Test.YtlegcfjafdihlaaGreatDoorZR12
import Derived.Test.YtlegcfjafdihlaaGreatDoorZR21
import Derived.Ground.SlgfProg
import Derived.Shelf.SlicesE.IndexFunc
import Derived.Shelf.SlicesE.DeleteFunc
import Derived.KernelRfl
import Derived.Test.YtlegcfjafdihlaaGreatDoorProg
import Derived.Test.YtlegcfjafdihlaaGreatDoorZR09
import Derived.Test.YtlegcfjafdihlaaGreatDoorZR14
import Derived.Test.YtlegcfjafdihlaaGreatDoorZR13
import Derived.Test.YtlegcfjafdihlaaGreatDoorZR06
import Derived.Test.YtlegcfjafdihlaaGreatDoorZR11
import Derived.Test.YtlegcfjafdihlaaGreatDoorZR15
/-
  The devices: is each valid? Conditions: lists of at most 2^40 elements.
-/
namespace Go.Proofs.YtlegcfjafdihlaaGreatDoor
open Go.RowKit
set_option linter.unusedSimpArgs false
set_option linter.unusedVariables false
set_option maxHeartbeats 4000000
set_option maxRecDepth 100000
attribute [local irreducible] wpQuiet

abbrev MdRight (A : Ma) (B : Nat) (w : World) (f : Nat) (r : Value) (b : Bool) : Prop := Calls Tryz.prog f #[r, .pointer (some ⟨B, 0, none⟩)] w fun e' w' => e' = .returned (.bool b) ∧ Below w.heap.size w w'
theorem md_right_0 (A : Ma) (hA : A.ok) (hF : A.few) (vm vb vl vs vd vt : Value) (w0 w : World) (B : Nat) (hX : Bag [(B, 49, A.cells vm vb vl vs vd vt)] w0 w) (hN : MaNow w A vm vb vl vs vd vt) : MdRight A B w 260 (.agg #[]) A.U.right := by
  have hL := Ma.len hA vs vd vt
  obtain ⟨f1, f2, f3, f4, f5⟩ := hF
  have hB := (Below.refl w.heap.size w).alloc (Nat.le_refl _) (.cells #[] 178)
  replace hX := hX.step hB
  have hc : ∀ wz, Below w.heap.size w wz → Calls Tryz.prog 265 #[.agg A.U.L.toArray] wz fun e' w' => e' = .returned (.bool A.U.right) ∧ Below wz.heap.size wz w' := fun wz h => right_any_9 A.U hA.2.2 wz
  clear hN
  go_enter Tryz.func260, Tryz.ntmps260
  go_wp2_with (first | ((with_reducible refine at_ld 37 ?_); refine ldp hX agg_unit size_unit (get_u hL) (Un.len hA.2.2) ?_) | (go_at_call 265; (with_reducible refine (hc _ hB).mono ?_); rintro e' wc ⟨rfl, hbb⟩; replace hX := hX.step hbb; replace hB := hB.trans (hbb.mono hB.size); clear hbb))
  go_ret
  exact ⟨rfl, hB⟩
theorem md_right_1 (A : Ma) (hA : A.ok) (hF : A.few) (vm vb vl vs vd vt : Value) (w0 w : World) (B : Nat) (hX : Bag [(B, 49, A.cells vm vb vl vs vd vt)] w0 w) (hN : MaNow w A vm vb vl vs vd vt) : MdRight A B w 280 (.agg #[]) A.k.right := by
  have hL := Ma.len hA vs vd vt
  obtain ⟨f1, f2, f3, f4, f5⟩ := hF
  have hB := (Below.refl w.heap.size w).alloc (Nat.le_refl _) (.cells #[] 179)
  replace hX := hX.step hB
  have hc : ∀ wz, Below w.heap.size w wz → Calls Tryz.prog 72 #[.agg A.k.L.toArray] wz fun e' w' => e' = .returned (.bool A.k.right) ∧ Below wz.heap.size wz w' := fun wz h => pright_any_13 A.k wz
  clear hN
  go_enter Tryz.func280, Tryz.ntmps280
  go_wp2_with (first | ((with_reducible refine at_ld 39 ?_); refine ldp hX aggK_13 sizK_13 (get_k hL) rfl ?_) | (go_at_call 72; (with_reducible refine (hc _ hB).mono ?_); rintro e' wc ⟨rfl, hbb⟩; replace hX := hX.step hbb; replace hB := hB.trans (hbb.mono hB.size); clear hbb))
  go_ret
  exact ⟨rfl, hB⟩
theorem md_right_2 (A : Ma) (hA : A.ok) (hF : A.few) (vm vb vl vs vd vt : Value) (w0 w : World) (B : Nat) (hX : Bag [(B, 49, A.cells vm vb vl vs vd vt)] w0 w) (hN : MaNow w A vm vb vl vs vd vt) : MdRight A B w 293 (.agg #[]) A.K.right := by
  have hL := Ma.len hA vs vd vt
  obtain ⟨f1, f2, f3, f4, f5⟩ := hF
  have hB := (Below.refl w.heap.size w).alloc (Nat.le_refl _) (.cells #[] 180)
  replace hX := hX.step hB
  have hc : ∀ wz, Below w.heap.size w wz → Calls Tryz.prog 300 #[.agg (dkL vs vd A.K).toArray] wz fun e' w' => e' = .returned (.bool A.K.right) ∧ Below wz.heap.size wz w' := fun wz h => prightK_any A.K f4 f3 vs vd wz (Rz.below hN.s h) (Rz.below hN.d h)
  clear hN
  go_enter Tryz.func293, Tryz.ntmps293
  go_wp2_with (first | ((with_reducible refine at_ld 45 ?_); refine ldp hX aggK sizK (get_d hL) rfl ?_) | (go_at_call 300; (with_reducible refine (hc _ hB).mono ?_); rintro e' wc ⟨rfl, hbb⟩; replace hX := hX.step hbb; replace hB := hB.trans (hbb.mono hB.size); clear hbb))
  go_ret
  exact ⟨rfl, hB⟩
theorem md_right_3 (A : Ma) (hA : A.ok) (hF : A.few) (vm vb vl vs vd vt : Value) (w0 w : World) (B : Nat) (hX : Bag [(B, 49, A.cells vm vb vl vs vd vt)] w0 w) (hN : MaNow w A vm vb vl vs vd vt) : MdRight A B w 328 (.agg #[]) A.T.right := by
  have hL := Ma.len hA vs vd vt
  obtain ⟨f1, f2, f3, f4, f5⟩ := hF
  have hB := (Below.refl w.heap.size w).alloc (Nat.le_refl _) (.cells #[] 181)
  replace hX := hX.step hB
  have hc : ∀ wz, Below w.heap.size w wz → Calls Tryz.prog 335 #[.agg (tpL vt A.T).toArray] wz fun e' w' => e' = .returned (.bool A.T.right) ∧ Below wz.heap.size wz w' := fun wz h => prightT_any A.T f5 vt wz (Rz.below hN.t h)
  clear hN
  go_enter Tryz.func328, Tryz.ntmps328
  go_wp2_with (first | ((with_reducible refine at_ld 47 ?_); refine ldp hX aggT sizT (get_t hL) rfl ?_) | (go_at_call 335; (with_reducible refine (hc _ hB).mono ?_); rintro e' wc ⟨rfl, hbb⟩; replace hX := hX.step hbb; replace hB := hB.trans (hbb.mono hB.size); clear hbb))
  go_ret
  exact ⟨rfl, hB⟩
theorem md_right_4 (A : Ma) (hA : A.ok) (k : Nat) (hk : k < A.L.length) (hl : A.L.length ≤ 1099511627776) (vm vb vl vs vd vt : Value) (w0 w : World) (B : Nat) (hX : Bag [(B, 49, A.cells vm vb vl vs vd vt)] w0 w) (hN : Lns w vl A.L) : MdRight A B w 357 (.int .i64 k) (A.line k).right := by
  have hL := Ma.len hA vs vd vt
  have hB := Below.refl w.heap.size w
  obtain ⟨aL, cL, rfl, hcl, hld⟩ := lns_form hN
  obtain ⟨x, hx⟩ : ∃ x, A.L[k]? = some x := ⟨_, List.getElem?_eq_getElem hk⟩
  obtain ⟨ad, rfl, hld2⟩ := hld k x hx
  have i0 : (0 : Int) ≤ (k : Int) := by omega
  have i1 : (k : Int) < (A.L.length : Int) := by omega
  have e : A.line k = x := by unfold Ma.line; rw [List.getD_eq_getElem?_getD, hx]; rfl
  rw [e]
  have hc : ∀ wz, Calls Tryz.prog 365 #[.agg (lnL x).toArray] wz fun e' w' => e' = .returned (.bool x.right) ∧ Below wz.heap.size wz w' := fun wz => prightL_any x wz
  clear hld e hx hN
  go_enter Tryz.func357, Tryz.ntmps357
  go_wp2_with (first | ((with_reducible refine at_ld 40 ?_); refine ldc (hk := get_l hL) hX slL_cell ?_) | ((with_reducible refine at_ld 83 ?_); refine wpList_loadW rfl 83 _ _ _ rfl rfl (hld2 _ hB) ?_) | (go_at_call 365; (with_reducible refine (hc _).mono ?_); rintro e' wc ⟨rfl, hbb⟩; replace hX := hX.step hbb; replace hB := hB.trans (hbb.mono hB.size); clear hbb))
  go_ret
  exact ⟨rfl, hB⟩
end Go.Proofs.YtlegcfjafdihlaaGreatDoor
/-
  A terminal line: its methods. Condition: a valid machine.
-/
namespace Go.Proofs.YtlegcfjafdihlaaGreatDoor
open Go.RowKit
set_option linter.unusedSimpArgs false
set_option linter.unusedVariables false
set_option maxHeartbeats 4000000
set_option maxRecDepth 100000
attribute [local irreducible] wpQuiet

section
variable {X : Nat → Prop} {w0 w w' : World} {B g : Nat} {A : Ma} {vm vb vl vs vd vt : Value}
/-- The row's block beside the machine's. -/
theorem DSt.two (h : DSt X w0 B g w A vm vb vl vs vd vt) {k : Nat} (hk : k < A.L.length) : ∃ c J, vl = .slice (some ⟨g, 0, none⟩) A.L.length c ∧ A.L.length ≤ c ∧ g ≠ B ∧ Bag [(g, 83, A.L.flatMap lnL ++ J), (B, 49, A.cells vm vb vl vs vd vt)] w0 w := by
  rcases h.row with ⟨h1, _⟩ | ⟨h1, h2, h3, c, J, h4, h5, h6⟩
  · rw [h1] at hk; exact absurd hk (Nat.not_lt_zero _)
  · refine ⟨c, J, h4, h5, h1, ⟨fun b t cs hm => ?_, h.bag.below, fun b hm => ?_, ?_⟩⟩
    · rcases List.mem_cons.1 hm with e | e
      · cases e; exact h6
      · exact h.bag.all b t cs e
    · rcases List.mem_cons.1 hm with e | e
      · rw [e]; exact h2
      · exact h.bag.lo b e
    · simp only [List.map_cons, List.map_nil, List.nodup_cons, List.mem_cons, List.not_mem_nil, or_false, not_false_eq_true, List.nodup_nil, and_true]
      exact h1
end
end Go.Proofs.YtlegcfjafdihlaaGreatDoor
/-
  slices.ContainsFunc, slices.DeleteFunc of integers.
-/
namespace Go.Proofs
open Go.Shelf
def Tryz.laysSlH8_f59_ren : Go.Shelf.Ren := ⟨fun | 8 => 314 | 6 => 320 | n => n, fun | 22 => 31 | 23 => 3 | 25 => 58 | 4 => 4 | 3 => 3 | 0 => 0 | n => n, fun | n => n⟩
theorem Tryz.laysSlH8_f59 : Go.Proofs.SlLaysH.n8 Tryz.prog Tryz.laysSlH8_f59_ren := {
  mixed := by kernel_rfl
  f6 := ⟨Tryz.f320.name, by decide, Tryz.func320.trans (congrArg some (by kernel_rfl))⟩
  f8 := ⟨Tryz.f314.name, by decide, Tryz.func314.trans (congrArg some (by kernel_rfl))⟩
  t0 := Tryz.underlying0
  a0 := Tryz.isAgg0
  z0 := Tryz.sizeOf0
  v0 := Tryz.zeroValue0
  t3 := Tryz.underlying3
  a3 := Tryz.isAgg3
  z3 := Tryz.sizeOf3
  v3 := Tryz.zeroValue3
  t4 := Tryz.underlying4
  a4 := Tryz.isAgg4
  z4 := Tryz.sizeOf4
  v4 := Tryz.zeroValue4
  t22 := Tryz.underlying31
  a22 := Tryz.isAgg31
  z22 := Tryz.sizeOf31
  v22 := Tryz.zeroValue31
  a23 := Tryz.isAgg3
  z23 := Tryz.sizeOf3
  t25 := Tryz.underlying58
  a25 := Tryz.isAgg58
  z25 := Tryz.sizeOf58
  v25 := Tryz.zeroValue58 }
open Go.RowKit Go.Lib in
theorem Tryz.slices_ContainsFunc {α : Type} [Inhabited α] (enc : α → Value) (p : α → Bool) (g : Nat) (lb : Array Value) (eg : ∀ args w, (callFunc g args).run Tryz.prog w = .ok (.enter g args) w) (b off n c : Nat) (zs : List α) (w : World) (hp : PredAt Tryz.prog g lb enc p w) (hz : n ≤ zs.length) (hbig : n ≤ 9223372036854775807) (hc : ∀ j, j < zs.length → w.cell? ⟨b, off + j, none⟩ = some (enc zs[j]!)) :
    Calls Tryz.prog 314 #[.slice (some ⟨b, off, none⟩) n c, .func (.func g) #[] lb] w fun e w' => e = .returned (.bool ((zs.take n).any p)) ∧ ∃ q, w' = w.drewN q := AnyE.slices_ContainsFunc Tryz.laysSlH8_f59 enc p g lb eg b off n c zs w hp hz hbig hc
open Go.RowKit Go.Lib in
theorem Tryz.slices_ContainsFunc_empty {α : Type} [Inhabited α] (a : Option Addr) (c : Nat) (fv : Value) (w : World) :
    Calls Tryz.prog 314 #[.slice a 0 c, fv] w fun e w' => e = .returned (.bool false) ∧ w' = w := AnyE.slices_ContainsFunc_empty Tryz.laysSlH8_f59 a c fv w
end Go.Proofs
/-
  advanced, transfer of the program: ways that fail; write; check. Conditions: a valid drive, words of 16 bits.
-/
namespace Go.Proofs.YtlegcfjafdihlaaGreatDoor
open Go.RowKit
set_option linter.unusedSimpArgs false
set_option linter.unusedVariables false
set_option maxHeartbeats 4000000
set_option maxRecDepth 100000
attribute [local irreducible] wpQuiet
section
variable {ops : Array Oper} {rest : List Oper} {o : Oper} {a : Act} {w w0 w1 : World} {Q : Exit → Act → World → Prop} {l : List (Nat × TypeId × List Value)}
end
theorem Bag.base {l : List (Nat × TypeId × List Value)} {w00 w0 w : World} (h : Bag l w0 w) (hb : Below w00.heap.size w00 w0) : Bag l w00 w := ⟨h.all, hb.trans (h.below.mono hb.size), fun b hm => Nat.le_trans hb.size (h.lo b hm), h.dis⟩
end Go.Proofs.YtlegcfjafdihlaaGreatDoor
/-
  The devices but the lines: write, accept, reset; the tick of the clock. Condition: a valid machine.
-/
namespace Go.Proofs.YtlegcfjafdihlaaGreatDoor
open Go.RowKit
set_option linter.unusedSimpArgs false
set_option linter.unusedVariables false
set_option maxHeartbeats 4000000
set_option maxRecDepth 100000
attribute [local irreducible] wpQuiet

theorem Kpt.one {B g : Nat} {w w' : World} (h : Kpt B B w w') : Kpt B g w w' := ⟨h.size, fun k hk h1 _ => h.same k hk h1 h1⟩
theorem Bag.drop1 {l : List (Nat × TypeId × List Value)} {w0 w : World} {a : Nat × TypeId × List Value} (h : Bag (a :: l) w0 w) : Bag l w0 w :=
  ⟨fun B t cs hm => h.all B t cs (List.mem_cons_of_mem _ hm), h.below, fun x hx => h.lo x (List.mem_cons_of_mem _ hx), (List.nodup_cons.1 h.dis).2⟩
end Go.Proofs.YtlegcfjafdihlaaGreatDoor
/-
  Loops over the devices: what they carry. No condition.
-/
namespace Go.Proofs.YtlegcfjafdihlaaGreatDoor
open Go.RowKit Go.Shelf
set_option linter.unusedSimpArgs false
set_option linter.unusedVariables false
set_option maxHeartbeats 4000000
set_option maxRecDepth 100000
attribute [local irreducible] wpQuiet

theorem Sv.of_own2 {X : Nat → Prop} {w : World} {base s n : Nat} {t : TypeId} {v : Value} {xs : List Value} (h : w.ownsRow base t s v n xs) (hX : ∀ b, X b → base ≤ b → ∀ cur, w.heap[b]? = some (.cells cur t (0, 0)) → False) : Sv X w v n xs := fun w' hk => by
  refine Rz.of_own (w := w') (base := base) (s := s) (t := t) ⟨h.1, ?_⟩
  rcases h.2 with h0 | ⟨g, cap, cur, hv, hg, hh, r⟩
  · exact .inl h0
  · exact .inr ⟨g, cap, cur, hv, hg, (hk g (Array.getElem?_eq_some_iff.1 hh).1 (fun hx => hX g hx hg cur hh)).trans hh, r⟩
/-- A machine whose row of lines the call has made. -/
theorem DSt.fresh {X : Nat → Prop} {w0 w : World} {B N : Nat} {A : Ma} {vm vb vl vs vd vt : Value} (hXl : ∀ b, X b → b < N) (hNl : N ≤ w.heap.size) (hX : Bag [(B, 49, A.cells vm vb vl vs vd vt)] w0 w) (hBN : B < N) (hN : w0.heap.size ≤ N) (hm : ∀ g, (g = B ∨ N ≤ g ∧ ∃ cur, w.heap[g]? = some (.cells cur 83 (0, 0))) → ItsX (XY X B g) w vm A.M ∧ ItsX (XY X B g) w vb A.B ∧ StsX (XY X B g) w vs A.K.D.S ∧ ItsX (XY X B g) w vd A.K.D.B ∧ StsX (XY X B g) w vt A.T.R) (ql : w.ownsRow N 83 9 vl A.L.length (A.L.flatMap lnL)) : ∃ g, DSt X w0 B g w A vm vb vl vs vd vt ∧ (g = B ∨ N ≤ g ∧ ∃ cur, w.heap[g]? = some (.cells cur 83 (0, 0))) := by
  have hBl := (hX.all _ _ _ (.head _)).lt
  have hBh := hX.all _ _ _ (.head _)
  rcases ql.2 with ⟨rfl, h0⟩ | ⟨g, cap, cur, rfl, hg, hh, hnc, hm9, hcs, hxs⟩
  · obtain ⟨h1, h2, h3, h4, h5⟩ := hm B (.inl rfl)
    refine ⟨B, ⟨hX, h1, h2, h3, h4, h5, .inl ⟨List.eq_nil_of_length_eq_zero h0, rfl⟩, fun b q => ?_⟩, .inl rfl⟩
    rcases q with q | rfl | rfl
    · exact Nat.lt_of_lt_of_le (hXl b q) hNl
    · exact hBl
    · exact hBl
  · have hgl := (Array.getElem?_eq_some_iff.1 hh).1
    obtain ⟨h1, h2, h3, h4, h5⟩ := hm g (.inr ⟨hg, cur, hh⟩)
    refine ⟨g, ⟨hX, h1, h2, h3, h4, h5, .inr ⟨by omega, by omega, hgl, cap, cur.toList.drop (A.L.length * 9), rfl, hnc, ?_⟩, fun b q => ?_⟩, .inr ⟨hg, cur, hh⟩⟩
    · show w.heap[g]? = some _
      rw [hh, ← hxs, List.take_append_drop]
    · rcases q with q | rfl | rfl
      · exact Nat.lt_of_lt_of_le (hXl b q) hNl
      · exact hBl
      · exact hgl
/-- A row of the call's own, of another type, is read whatever becomes of the machine and its lines. -/
theorem Sv.fresh {X : Nat → Prop} {w : World} {N B g s n : Nat} {t : TypeId} {v : Value} {xs : List Value} (h : w.ownsRow N t s v n xs) (hX : ∀ b, X b → b < N) (hB : B < N) (ht : t ≠ 83) (hg : g = B ∨ N ≤ g ∧ ∃ cur, w.heap[g]? = some (.cells cur 83 (0, 0))) : Sv (XY X B g) w v n xs :=
  Sv.of_own2 h fun b q hb cur e => by
    rcases q with q | rfl | rfl
    · have := hX b q; omega
    · omega
    · rcases hg with rfl | ⟨_, c2, h2⟩
      · omega
      · rw [e] at h2; cases h2; exact ht rfl
theorem DSt.copied {X : Nat → Prop} {w0 w : World} {B N : Nat} {A : Ma} {vm vb vl vs vd vt : Value} (hXl : ∀ b, X b → b < N) (hNl : N ≤ w.heap.size) (hX : Bag [(B, 49, A.cells vm vb vl vs vd vt)] w0 w) (hBN : B < N) (hN : w0.heap.size ≤ N) (qm : w.ownsRow N 3 1 vm A.M.length (A.M.map (Value.int .i64))) (qb : w.ownsRow N 3 1 vb A.B.length (A.B.map (Value.int .i64))) (hF : FrD N w A vl vs vd vt) : ∃ g, DSt X w0 B g w A vm vb vl vs vd vt ∧ (g = B ∨ N ≤ g ∧ ∃ cur, w.heap[g]? = some (.cells cur 83 (0, 0))) :=
  DSt.fresh hXl hNl hX hBN hN (fun g hg => ⟨Sv.fresh qm hXl hBN (by decide) hg, Sv.fresh qb hXl hBN (by decide) hg, Sv.fresh hF.s hXl hBN (by decide) hg, Sv.fresh hF.d hXl hBN (by decide) hg, Sv.fresh hF.t hXl hBN (by decide) hg⟩) hF.l
/-- What a loop carries: the machine as the devices so far have left it; other boxes. -/
def LpI (R : List (Nat × TypeId × List Value)) (X : Nat → Prop) (w0 : World) (B g N : Nat) (A : Ma) (W : World) : Prop := (∃ vm vb vl vs vd vt, DSt X w0 B g W A vm vb vl vs vd vt) ∧ Bag R w0 W ∧ N ≤ W.heap.size
theorem LpI.own {β : Type} {N : Nat} {R : List (Nat × TypeId × List Value)} {X : Nat → Prop} {w0 : World} {B g : Nat} (f : β → Ma) (hN : w0.heap.size ≤ N) : OwnFrom N (fun (s : β) W => LpI R X w0 B g N (f s) W) :=
  fun s W W' row hs hg hr => by
    obtain ⟨⟨vm, vb, vl, vs, vd, vt, hS⟩, hB, hz⟩ := hs
    have hr' : ∀ r, row = some r → w0.heap.size ≤ r ∧ NoCells W r := fun r e => ⟨Nat.le_trans hN (hr r e).1, (hr r e).2⟩
    exact ⟨⟨_, _, _, _, _, _, hS.grown hg hr'⟩, hB.grown hg hr', Nat.le_trans hz hg.size⟩
theorem Kpt.from {B g N : Nat} {W W' : World} (h : Kpt B g W W') (hB : B < N) (hg : g < N) : KeepsFrom N W W' :=
  ⟨h.size, fun k o hk ho _ => (h.same k (Array.getElem?_eq_some_iff.1 ho).1 (by omega) (by omega)).trans ho⟩
theorem Bag.two {a b : Nat × TypeId × List Value} {w0 w : World} (ha : Bag [a] w0 w) (hb : Bag [b] w0 w) (hne : a.1 ≠ b.1) : Bag [a, b] w0 w := by
  refine ⟨fun B t cs hm => ?_, ha.below, fun x hx => ?_, ?_⟩
  · rcases List.mem_cons.1 hm with e | e
    · exact ha.all B t cs (by rw [← e]; exact .head _)
    · exact hb.all B t cs e
  · rcases List.mem_cons.1 hx with e | e
    · rw [e]; exact ha.lo a (.head _)
    · exact hb.lo x e
  · simp only [List.map_cons, List.map_nil, List.nodup_cons, List.mem_cons, List.not_mem_nil, or_false, not_false_eq_true, List.nodup_nil, and_true]
    exact hne
/-- The result lies in another box: what has been reached is what is returned. -/
theorem MaV.to {X Y : Nat → Prop} {w w' : World} {A : Ma} {vm vb vl vs vd vt : Value} (h : MaV X w A vm vb vl vs vd vt) (hk : ∀ b, b < w.heap.size → ¬ X b → w'.heap[b]? = w.heap[b]?) (hY : ∀ b, Y b → X b) : MaV Y w' A vm vb vl vs vd vt := ⟨Sv.off h.m hk fun b _ q => hY b q, Sv.off h.b hk fun b _ q => hY b q, Sv.off h.l hk fun b _ q => hY b q, Sv.off h.s hk fun b _ q => hY b q, Sv.off h.d hk fun b _ q => hY b q, Sv.off h.t hk fun b _ q => hY b q⟩
theorem MaV.grown {X : Nat → Prop} {w w' : World} {A : Ma} {vm vb vl vs vd vt : Value} {row : Option Nat} (h : MaV X w A vm vb vl vs vd vt) (hg : w.grownBy w' row) (hr : ∀ r, row = some r → NoCells w r) : MaV X w' A vm vb vl vs vd vt := ⟨Sv.grown h.m hg hr, Sv.grown h.b hg hr, Sv.grown h.l hg hr, Sv.grown h.s hg hr, Sv.grown h.d hg hr, Sv.grown h.t hg hr⟩
theorem kpB_put {B : Nat} {w : World} (hB : B < w.heap.size) (W : World) (l : Nat) (o o' : Obj) (hl : w.heap.size ≤ l) (_ : W.heap[l]? = some o) (_ : o.isCells = false) (_ : o.isWalk = false) : KpB B W (W.putObj l o') := World.putObj_heap_other (by omega)
theorem Blk.loadVarC {P : Program} {t T : TypeId} {w : World} {B k : Nat} {cs : List Value} {v : Value} (h : Blk t w B cs) (hk : cs[k]? = some v) (hagg : ∀ w, (isAgg T).run P w = .ok false w) : (Go.loadVar T ⟨B, k, none⟩).run P w = .ok v w := by
  simp only [Go.loadVar, Sem.run_bind, hagg, Result.andThen_ok, Bool.false_eq_true, if_false]
  show (Sem.load _ _ _).run P w = _
  simp only [Sem.run, h.cell hk]
end Go.Proofs.YtlegcfjafdihlaaGreatDoor
