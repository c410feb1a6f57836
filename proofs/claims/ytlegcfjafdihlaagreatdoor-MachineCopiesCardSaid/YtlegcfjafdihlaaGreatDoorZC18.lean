import Derived.Test.YtlegcfjafdihlaaGreatDoorZC17
import Derived.Test.YtlegcfjafdihlaaGreatDoorZC12
import Derived.Test.YtlegcfjafdihlaaGreatDoorZC09
import Derived.Test.YtlegcfjafdihlaaGreatDoorZC04
import Derived.Test.YtlegcfjafdihlaaGreatDoorZC03
import Derived.Test.YtlegcfjafdihlaaGreatDoorZC02
import Derived.Test.YtlegcfjafdihlaaGreatDoorZC05
import Derived.Test.YtlegcfjafdihlaaGreatDoorZC06
import Derived.Test.YtlegcfjafdihlaaGreatDoorZC07
import Derived.Test.YtlegcfjafdihlaaGreatDoorZC13
import Derived.Test.YtlegcfjafdihlaaGreatDoorProg
import Derived.Test.YtlegcfjafdihlaaGreatDoorZC10
import Derived.Test.YtlegcfjafdihlaaGreatDoorZC11
import Derived.Test.YtlegcfjafdihlaaGreatDoorZC15
import Derived.Deep.CutBlock
/-
  Copies of a machine. Conditions: at most 2^40 elements in each list.
-/
namespace Go.Proofs.YtlegcfjafdihlaaGreatDoor
open Go.RowKit
set_option linter.unusedSimpArgs false
set_option linter.unusedVariables false
set_option maxHeartbeats 4000000
set_option maxRecDepth 100000
attribute [local irreducible] wpQuiet

theorem pclL_any (l : List Ln) (v : Value) (w : World) (hl : l.length ≤ 1099511627776) (h : Lns w v l) : Calls Tryz.prog 56 #[v] w fun e w' => ∃ v', e = .returned v' ∧ w'.ownsRow w.heap.size 83 9 v' l.length (l.flatMap lnL) ∧ Below w.heap.size w w' := by
  rcases Rz.form h with ⟨rfl, h0, h1⟩ | ⟨a, c, rfl, hc⟩
  · have hq : ∀ w : World, (binOp .eql 40 (.slice none 0 0) (.slice none 0 0)).run Tryz.prog w = .ok (.bool true) w := fun w => Lib.run_eql_slice_nil w _ _ none 0 0 0 0 Tryz.underlying40
    go_enter Tryz.func56, Tryz.ntmps56
    go_wp2
    go_ret
    exact ⟨_, rfl, by rw [h1, h0]; exact World.ownsRow_nil _ _ _ _, Below.refl _ _⟩
  · have hq : ∀ w : World, (binOp .eql 40 (.slice (some a) l.length c) (.slice none 0 0)).run Tryz.prog w = .ok (.bool false) w := fun w => Lib.run_eql_slice_nil w _ _ (some a) l.length c 0 0 Tryz.underlying40
    go_enter Tryz.func56, Tryz.ntmps56
    go_wp2_with (first | (at_builtin; refine wpList_cpLn rfl (.tmp 5) (.tmp 6) rfl rfl rfl (.slice (some a) l.length c) l rfl h hl ?_; intro v2 w2 ho2 hb2))
    go_ret
    exact ⟨_, rfl, ho2, hb2⟩
section
variable {A : Ma} {vm vb vl vs vd vt : Value} (h : A.ok)
include h
theorem Ma.set_s (x : Value) : (A.cells vm vb vl vs vd vt).set 84 x = A.cells vm vb vl x vd vt := by
  have hL := Ma.len h vs vd vt
  unfold Ma.cells
  rw [maL_d, maL_d, List.set_append_right _ _ (by simp [hL.c, hL.u, hL.k]), show (A.C ++ [vm, vb] ++ A.U.L ++ A.k.L ++ [vl]).length = 84 by simp [hL.c, hL.u, hL.k]]
  rfl
theorem Ma.set_d (x : Value) : (A.cells vm vb vl vs vd vt).set 85 x = A.cells vm vb vl vs x vt := by
  have hL := Ma.len h vs vd vt
  unfold Ma.cells
  rw [maL_d, maL_d, List.set_append_right _ _ (by simp [hL.c, hL.u, hL.k]), show (A.C ++ [vm, vb] ++ A.U.L ++ A.k.L ++ [vl]).length = 84 by simp [hL.c, hL.u, hL.k]]
  rfl
theorem Ma.set_t (x : Value) : (A.cells vm vb vl vs vd vt).set 94 x = A.cells vm vb vl vs vd x := by
  have hL := Ma.len h vs vd vt
  unfold Ma.cells
  rw [maL_t, maL_t, List.set_append_right _ _ (by simp [hL.c, hL.u, hL.k, hL.d]), show (A.C ++ [vm, vb] ++ A.U.L ++ A.k.L ++ [vl] ++ dkL vs vd A.K).length = 94 by simp [hL.c, hL.u, hL.k, hL.d]]
  rfl
end
theorem getM_s {A : Ma} (h : A.ok) {vm vb vl vs vd vt : Value} : (A.cells vm vb vl vs vd vt)[84]? = some vs := get_d (Ma.len h vs vd vt) 0 vs rfl
theorem getM_d {A : Ma} (h : A.ok) {vm vb vl vs vd vt : Value} : (A.cells vm vb vl vs vd vt)[85]? = some vd := get_d (Ma.len h vs vd vt) 1 vd rfl
theorem getM_t {A : Ma} (h : A.ok) {vm vb vl vs vd vt : Value} : (A.cells vm vb vl vs vd vt)[94]? = some vt := get_t (Ma.len h vs vd vt) 0 vt rfl
theorem siz_sS18 (w : World) : (sizeOf 41).run Tryz.prog w = .ok 1 w := by kernel_rfl
/-- Rows of the call's own, for the devices' lists. -/
structure FrD (N : Nat) (w : World) (A : Ma) (vl vs vd vt : Value) : Prop where
  l : w.ownsRow N 83 9 vl A.L.length (A.L.flatMap lnL)
  s : w.ownsRow N 9 1 vs A.K.D.S.length (A.K.D.S.map Value.string)
  d : w.ownsRow N 3 1 vd A.K.D.B.length (A.K.D.B.map (Value.int .i64))
  t : w.ownsRow N 9 1 vt A.T.R.length (A.T.R.map Value.string)
theorem FrD.step {N : Nat} {w w' : World} {A : Ma} {vl vs vd vt : Value} (h : FrD N w A vl vs vd vt) (hb : Below w.heap.size w w') : FrD N w' A vl vs vd vt := ⟨own_step h.l hb, own_step h.s hb, own_step h.d hb, own_step h.t hb⟩
theorem Ma.own18 {w : World} {N s n : Nat} {t : TypeId} {v : Value} {xs : List Value} (h : w.ownsRow N t s v n xs) : v.oneCell' = true ∧ v.cells = #[v] := by
  rcases h.2 with ⟨rfl, _⟩ | ⟨g, c, cur, rfl, _⟩ <;> exact ⟨rfl, rfl⟩
theorem FrD.base {N N' : Nat} {w : World} {A : Ma} {vl vs vd vt : Value} (h : FrD N w A vl vs vd vt) (hN : N' ≤ N) : FrD N' w A vl vs vd vt := ⟨own_base h.l hN, own_base h.s hN, own_base h.d hN, own_base h.t hN⟩
theorem FrD.over {l : List (Nat × TypeId × List Value)} {w0 w w' : World} {B N : Nat} {cs : List Value} {A : Ma} {vl vs vd vt : Value} (h : FrD N w A vl vs vd vt) (hX : Bag ((B, 49, cs) :: l) w0 w) (hk : ∀ k, k ≠ B → w'.heap[k]? = w.heap[k]?) : FrD N w' A vl vs vd vt := ⟨own_over hX h.l (by decide) hk, own_over hX h.s (by decide) hk, own_over hX h.d (by decide) hk, own_over hX h.t (by decide) hk⟩
end Go.Proofs.YtlegcfjafdihlaaGreatDoor
/-
  copied, New, Right, Accept, Reset, Write of the program. Conditions: at most 2^40 sectors and bad ones; Write: a command of the controller from 0 to 3.
-/
namespace Go.Proofs.YtlegcfjafdihlaaGreatDoor
open Go.RowKit
set_option linter.unusedSimpArgs false
set_option linter.unusedVariables false
set_option maxHeartbeats 4000000
set_option maxRecDepth 100000
attribute [local irreducible] wpQuiet

theorem Sts.below {w w' : World} {v : Value} {S : List ByteArray} (h : Sts w v S) (hb : Below w.heap.size w w') : Sts w' v S := Rz.below h hb
theorem Its.below {w w' : World} {v : Value} {S : List Int} (h : Its w v S) (hb : Below w.heap.size w w') : Its w' v S := Rz.below h hb
end Go.Proofs.YtlegcfjafdihlaaGreatDoor
/-
  A terminal line: its methods. Condition: a valid machine.
-/
namespace Go.Proofs.YtlegcfjafdihlaaGreatDoor
open Go.RowKit
set_option linter.unusedSimpArgs false
set_option linter.unusedVariables false
set_option maxHeartbeats 4000000
set_option maxRecDepth 100000
attribute [local irreducible] wpQuiet

section
variable {X : Nat → Prop} {w0 w w' : World} {B g : Nat} {A : Ma} {vm vb vl vs vd vt : Value}
/-- The row's block beside the machine's. -/
theorem DSt.two (h : DSt X w0 B g w A vm vb vl vs vd vt) {k : Nat} (hk : k < A.L.length) : ∃ c J, vl = .slice (some ⟨g, 0, none⟩) A.L.length c ∧ A.L.length ≤ c ∧ g ≠ B ∧ Bag [(g, 83, A.L.flatMap lnL ++ J), (B, 49, A.cells vm vb vl vs vd vt)] w0 w := by
  rcases h.row with ⟨h1, _⟩ | ⟨h1, h2, h3, c, J, h4, h5, h6⟩
  · rw [h1] at hk; exact absurd hk (Nat.not_lt_zero _)
  · refine ⟨c, J, h4, h5, h1, ⟨fun b t cs hm => ?_, h.bag.below, fun b hm => ?_, ?_⟩⟩
    · rcases List.mem_cons.1 hm with e | e
      · cases e; exact h6
      · exact h.bag.all b t cs e
    · rcases List.mem_cons.1 hm with e | e
      · rw [e]; exact h2
      · exact h.bag.lo b e
    · simp only [List.map_cons, List.map_nil, List.nodup_cons, List.mem_cons, List.not_mem_nil, or_false, not_false_eq_true, List.nodup_nil, and_true]
      exact h1
end
end Go.Proofs.YtlegcfjafdihlaaGreatDoor
/-
  advanced, transfer of the program: ways that fail; write; check. Conditions: a valid drive, words of 16 bits.
-/
namespace Go.Proofs.YtlegcfjafdihlaaGreatDoor
open Go.RowKit
set_option linter.unusedSimpArgs false
set_option linter.unusedVariables false
set_option maxHeartbeats 4000000
set_option maxRecDepth 100000
attribute [local irreducible] wpQuiet
section
variable {ops : Array Oper} {rest : List Oper} {o : Oper} {a : Act} {w w0 w1 : World} {Q : Exit → Act → World → Prop} {l : List (Nat × TypeId × List Value)}
end
theorem Bag.base {l : List (Nat × TypeId × List Value)} {w00 w0 w : World} (h : Bag l w0 w) (hb : Below w00.heap.size w00 w0) : Bag l w00 w := ⟨h.all, hb.trans (h.below.mono hb.size), fun b hm => Nat.le_trans hb.size (h.lo b hm), h.dis⟩
end Go.Proofs.YtlegcfjafdihlaaGreatDoor
/-
  The devices but the lines: write, accept, reset; the tick of the clock. Condition: a valid machine.
-/
namespace Go.Proofs.YtlegcfjafdihlaaGreatDoor
open Go.RowKit
set_option linter.unusedSimpArgs false
set_option linter.unusedVariables false
set_option maxHeartbeats 4000000
set_option maxRecDepth 100000
attribute [local irreducible] wpQuiet

theorem Kpt.one {B g : Nat} {w w' : World} (h : Kpt B B w w') : Kpt B g w w' := ⟨h.size, fun k hk h1 _ => h.same k hk h1 h1⟩
end Go.Proofs.YtlegcfjafdihlaaGreatDoor
/-
  Loops over the devices: what they carry. No condition.
-/
namespace Go.Proofs.YtlegcfjafdihlaaGreatDoor
open Go.RowKit Go.Shelf
set_option linter.unusedSimpArgs false
set_option linter.unusedVariables false
set_option maxHeartbeats 4000000
set_option maxRecDepth 100000
attribute [local irreducible] wpQuiet

theorem Sv.of_own2 {X : Nat → Prop} {w : World} {base s n : Nat} {t : TypeId} {v : Value} {xs : List Value} (h : w.ownsRow base t s v n xs) (hX : ∀ b, X b → base ≤ b → ∀ cur, w.heap[b]? = some (.cells cur t (0, 0)) → False) : Sv X w v n xs := fun w' hk => by
  refine Rz.of_own (w := w') (base := base) (s := s) (t := t) ⟨h.1, ?_⟩
  rcases h.2 with h0 | ⟨g, cap, cur, hv, hg, hh, r⟩
  · exact .inl h0
  · exact .inr ⟨g, cap, cur, hv, hg, (hk g (Array.getElem?_eq_some_iff.1 hh).1 (fun hx => hX g hx hg cur hh)).trans hh, r⟩
/-- A machine whose row of lines the call has made. -/
theorem DSt.fresh {X : Nat → Prop} {w0 w : World} {B N : Nat} {A : Ma} {vm vb vl vs vd vt : Value} (hXl : ∀ b, X b → b < N) (hNl : N ≤ w.heap.size) (hX : Bag [(B, 49, A.cells vm vb vl vs vd vt)] w0 w) (hBN : B < N) (hN : w0.heap.size ≤ N) (hm : ∀ g, (g = B ∨ N ≤ g ∧ ∃ cur, w.heap[g]? = some (.cells cur 83 (0, 0))) → ItsX (XY X B g) w vm A.M ∧ ItsX (XY X B g) w vb A.B ∧ StsX (XY X B g) w vs A.K.D.S ∧ ItsX (XY X B g) w vd A.K.D.B ∧ StsX (XY X B g) w vt A.T.R) (ql : w.ownsRow N 83 9 vl A.L.length (A.L.flatMap lnL)) : ∃ g, DSt X w0 B g w A vm vb vl vs vd vt ∧ (g = B ∨ N ≤ g ∧ ∃ cur, w.heap[g]? = some (.cells cur 83 (0, 0))) := by
  have hBl := (hX.all _ _ _ (.head _)).lt
  have hBh := hX.all _ _ _ (.head _)
  rcases ql.2 with ⟨rfl, h0⟩ | ⟨g, cap, cur, rfl, hg, hh, hnc, hm9, hcs, hxs⟩
  · obtain ⟨h1, h2, h3, h4, h5⟩ := hm B (.inl rfl)
    refine ⟨B, ⟨hX, h1, h2, h3, h4, h5, .inl ⟨List.eq_nil_of_length_eq_zero h0, rfl⟩, fun b q => ?_⟩, .inl rfl⟩
    rcases q with q | rfl | rfl
    · exact Nat.lt_of_lt_of_le (hXl b q) hNl
    · exact hBl
    · exact hBl
  · have hgl := (Array.getElem?_eq_some_iff.1 hh).1
    obtain ⟨h1, h2, h3, h4, h5⟩ := hm g (.inr ⟨hg, cur, hh⟩)
    refine ⟨g, ⟨hX, h1, h2, h3, h4, h5, .inr ⟨by omega, by omega, hgl, cap, cur.toList.drop (A.L.length * 9), rfl, hnc, ?_⟩, fun b q => ?_⟩, .inr ⟨hg, cur, hh⟩⟩
    · show w.heap[g]? = some _
      rw [hh, ← hxs, List.take_append_drop]
    · rcases q with q | rfl | rfl
      · exact Nat.lt_of_lt_of_le (hXl b q) hNl
      · exact hBl
      · exact hgl
/-- A row of the call's own, of another type, is read whatever becomes of the machine and its lines. -/
theorem Sv.fresh {X : Nat → Prop} {w : World} {N B g s n : Nat} {t : TypeId} {v : Value} {xs : List Value} (h : w.ownsRow N t s v n xs) (hX : ∀ b, X b → b < N) (hB : B < N) (ht : t ≠ 83) (hg : g = B ∨ N ≤ g ∧ ∃ cur, w.heap[g]? = some (.cells cur 83 (0, 0))) : Sv (XY X B g) w v n xs :=
  Sv.of_own2 h fun b q hb cur e => by
    rcases q with q | rfl | rfl
    · have := hX b q; omega
    · omega
    · rcases hg with rfl | ⟨_, c2, h2⟩
      · omega
      · rw [e] at h2; cases h2; exact ht rfl
theorem DSt.copied {X : Nat → Prop} {w0 w : World} {B N : Nat} {A : Ma} {vm vb vl vs vd vt : Value} (hXl : ∀ b, X b → b < N) (hNl : N ≤ w.heap.size) (hX : Bag [(B, 49, A.cells vm vb vl vs vd vt)] w0 w) (hBN : B < N) (hN : w0.heap.size ≤ N) (qm : w.ownsRow N 3 1 vm A.M.length (A.M.map (Value.int .i64))) (qb : w.ownsRow N 3 1 vb A.B.length (A.B.map (Value.int .i64))) (hF : FrD N w A vl vs vd vt) : ∃ g, DSt X w0 B g w A vm vb vl vs vd vt ∧ (g = B ∨ N ≤ g ∧ ∃ cur, w.heap[g]? = some (.cells cur 83 (0, 0))) :=
  DSt.fresh hXl hNl hX hBN hN (fun g hg => ⟨Sv.fresh qm hXl hBN (by decide) hg, Sv.fresh qb hXl hBN (by decide) hg, Sv.fresh hF.s hXl hBN (by decide) hg, Sv.fresh hF.d hXl hBN (by decide) hg, Sv.fresh hF.t hXl hBN (by decide) hg⟩) hF.l
/-- What a loop carries: the machine as the devices so far have left it; other boxes. -/
def LpI (R : List (Nat × TypeId × List Value)) (X : Nat → Prop) (w0 : World) (B g N : Nat) (A : Ma) (W : World) : Prop := (∃ vm vb vl vs vd vt, DSt X w0 B g W A vm vb vl vs vd vt) ∧ Bag R w0 W ∧ N ≤ W.heap.size
theorem LpI.own {β : Type} {N : Nat} {R : List (Nat × TypeId × List Value)} {X : Nat → Prop} {w0 : World} {B g : Nat} (f : β → Ma) (hN : w0.heap.size ≤ N) : OwnFrom N (fun (s : β) W => LpI R X w0 B g N (f s) W) :=
  fun s W W' row hs hg hr => by
    obtain ⟨⟨vm, vb, vl, vs, vd, vt, hS⟩, hB, hz⟩ := hs
    have hr' : ∀ r, row = some r → w0.heap.size ≤ r ∧ NoCells W r := fun r e => ⟨Nat.le_trans hN (hr r e).1, (hr r e).2⟩
    exact ⟨⟨_, _, _, _, _, _, hS.grown hg hr'⟩, hB.grown hg hr', Nat.le_trans hz hg.size⟩
theorem Kpt.from {B g N : Nat} {W W' : World} (h : Kpt B g W W') (hB : B < N) (hg : g < N) : KeepsFrom N W W' :=
  ⟨h.size, fun k o hk ho _ => (h.same k (Array.getElem?_eq_some_iff.1 ho).1 (by omega) (by omega)).trans ho⟩
theorem Bag.two {a b : Nat × TypeId × List Value} {w0 w : World} (ha : Bag [a] w0 w) (hb : Bag [b] w0 w) (hne : a.1 ≠ b.1) : Bag [a, b] w0 w := by
  refine ⟨fun B t cs hm => ?_, ha.below, fun x hx => ?_, ?_⟩
  · rcases List.mem_cons.1 hm with e | e
    · exact ha.all B t cs (by rw [← e]; exact .head _)
    · exact hb.all B t cs e
  · rcases List.mem_cons.1 hx with e | e
    · rw [e]; exact ha.lo a (.head _)
    · exact hb.lo x e
  · simp only [List.map_cons, List.map_nil, List.nodup_cons, List.mem_cons, List.not_mem_nil, or_false, not_false_eq_true, List.nodup_nil, and_true]
    exact hne
/-- The result lies in another box: what has been reached is what is returned. -/
theorem MaV.to {X Y : Nat → Prop} {w w' : World} {A : Ma} {vm vb vl vs vd vt : Value} (h : MaV X w A vm vb vl vs vd vt) (hk : ∀ b, b < w.heap.size → ¬ X b → w'.heap[b]? = w.heap[b]?) (hY : ∀ b, Y b → X b) : MaV Y w' A vm vb vl vs vd vt := ⟨Sv.off h.m hk fun b _ q => hY b q, Sv.off h.b hk fun b _ q => hY b q, Sv.off h.l hk fun b _ q => hY b q, Sv.off h.s hk fun b _ q => hY b q, Sv.off h.d hk fun b _ q => hY b q, Sv.off h.t hk fun b _ q => hY b q⟩
theorem MaV.grown {X : Nat → Prop} {w w' : World} {A : Ma} {vm vb vl vs vd vt : Value} {row : Option Nat} (h : MaV X w A vm vb vl vs vd vt) (hg : w.grownBy w' row) (hr : ∀ r, row = some r → NoCells w r) : MaV X w' A vm vb vl vs vd vt := ⟨Sv.grown h.m hg hr, Sv.grown h.b hg hr, Sv.grown h.l hg hr, Sv.grown h.s hg hr, Sv.grown h.d hg hr, Sv.grown h.t hg hr⟩
end Go.Proofs.YtlegcfjafdihlaaGreatDoor
/-
  Small of the laws: when it says yes, the machine is small. No condition.
-/
namespace Go.Proofs.YtlegcfjafdihlaaGreatDoor
open Go.RowKit
set_option linter.unusedSimpArgs false
set_option linter.unusedVariables false
set_option maxHeartbeats 4000000
set_option maxRecDepth 100000
attribute [local irreducible] wpQuiet

def Ma.little (A : Ma) : Prop := A.M.length ≤ 2048 ∧ A.B.length ≤ 64 ∧ A.L.length ≤ 8 ∧ A.K.D.S.length ≤ 256 ∧ A.K.D.B.length ≤ 256 ∧ A.T.R.length ≤ 70
theorem lns_out {w : World} {v : Value} {l : List Ln} (h : Lns w v l) : ∃ A c, v = .slice A l.length c ∧ l.length ≤ c ∧ ∀ (k : Nat) x, l[k]? = some x → ∃ a : Addr, A = some a ∧ ∀ w', Below w.heap.size w w' → (Instr.loadAt 9 (.pointer (some ((a.add (k * 9)).add 8)))).run Tryz.prog w' = .ok (.string x.s) w' := by
  have h0 := h
  obtain ⟨⟨A, c, rfl, hk, _⟩, _⟩ := h
  refine ⟨A, c, rfl, hk, fun k x hx => ?_⟩
  have h1 := flatM_get (g := lnL) (s := 9) (fun _ => rfl) l k x hx 8 (.string x.s) rfl
  obtain ⟨a, rfl⟩ := Rz.addr h0 h1
  exact ⟨a, rfl, fun w' hb => by rw [addr_add]; exact Rz.load (Rz.below h0 hb) str_cell h1⟩
end Go.Proofs.YtlegcfjafdihlaaGreatDoor
