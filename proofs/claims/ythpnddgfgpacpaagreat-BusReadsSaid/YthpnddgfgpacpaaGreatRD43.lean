import Derived.Test.YthpnddgfgpacpaaGreatRD41
import Derived.Test.YthpnddgfgpacpaaGreatRD38
import Derived.Test.YthpnddgfgpacpaaGreatRD39
/-
  What reading and writing a register of the program need. Condition: a valid machine.
-/
namespace Go.Proofs.YthpnddgfgpacpaaGreat
open Go.RowKit Go.Shelf
set_option linter.unusedSimpArgs false
set_option linter.unusedVariables false
set_option maxHeartbeats 4000000
set_option maxRecDepth 100000
attribute [local irreducible] wpQuiet
attribute [local go_sem] Oper.semAt_some

theorem podd_any (q : Int) (hq : 0 ≤ q) (w : World) : Calls Tryz.prog 86 #[.int .i64 q] w fun e' w' => e' = .returned (.bool (decide (q % 2 = 1))) ∧ w = w' := by
  have t1 : q.tmod 2 = q % 2 := Int.tmod_eq_emod_of_nonneg hq
  have w1 : IntKind.i64.wrap (q % 2) = q % 2 := by rw [wrap_i64]; unfold wrap64; omega
  by_cases h : q % 2 = 1
  · have e : (q % 2 != 0) = true := by simp; omega
    rw [decide_eq_true h]
    clear h
    go_enter Tryz.func86, Tryz.ntmps86
    go_wp2
    go_ret
    exact ⟨rfl, rfl⟩
  · have e : (q % 2 != 0) = false := by simp; omega
    rw [decide_eq_false h]
    clear h
    go_enter Tryz.func86, Tryz.ntmps86
    go_wp2
    go_ret
    exact ⟨rfl, rfl⟩
theorem shr8 (v : Int) : v >>> (8 : Nat) = v / 256 := by rw [Int.shiftRight_eq_div_pow]; rfl
theorem pbyteAt_any (v q : Int) (hq : 0 ≤ q) (w : World) : Calls Tryz.prog 87 #[.int .i64 v, .int .i64 q] w fun e' w' => e' = .returned (.int .i64 (if q % 2 = 1 then v / 256 else v % 256)) ∧ w = w' := by
  have ho := podd_any q hq
  have a1 : bits .and .i64 v 255 = v % 256 := i_and (c := 255) (by decide) (field _ 0 8) (by intro h; omega)
  have s1 := shr8 v
  by_cases h : q % 2 = 1
  · rw [decide_eq_true h] at ho
    rw [if_pos h]
    clear h
    go_enter Tryz.func87, Tryz.ntmps87
    go_wp2_with (first | (go_at_call 86; (with_reducible refine (ho _).mono ?_); rintro e' wc ⟨rfl, rfl⟩))
    go_ret
    exact ⟨rfl, rfl⟩
  · rw [decide_eq_false h] at ho
    rw [if_neg h]
    clear h
    go_enter Tryz.func87, Tryz.ntmps87
    go_wp2_with (first | (go_at_call 86; (with_reducible refine (ho _).mono ?_); rintro e' wc ⟨rfl, rfl⟩))
    go_ret
    exact ⟨rfl, rfl⟩
section
variable {ops : Array Oper} {rest : List Oper} {o : Oper} {a : Act} {w w0 w1 : World} {Q : Exit → Act → World → Prop} {l : List (Nat × TypeId × List Value)} {t T : TypeId} {x y : Operand} {z z0 : Value}
theorem stn1 (hX : Bag l w0 w) (hsz : ∀ w, (sizeOf T).run Tryz.prog w = .ok 1 w) (h : ∀ w2, Bag ((w.heap.size, t, [z]) :: l) w0 w2 → Below w.heap.size w w2 → wpList Tryz.prog ops Q rest a w2) (hop : o.op = Op.store T x y := by rfl) (hal : w1 = w.alloc (.cells #[z0] t) := by rfl) (hx : a.eval x = .pointer (some ⟨w.heap.size, 0, none⟩) := by rfl) (hy : a.eval y = z := by rfl) (hdst : o.dst = none := by rfl) (hw : Region.wanted o (yielded ops a.tmps) = true := by rfl) (hz : z.cells = #[z] := by rfl) (h1 : z.oneCell' = true := by rfl) : wpList Tryz.prog ops Q (o :: rest) a w1 := by
  subst hal
  have hr := run_store_new (P := Tryz.prog) (t := t) w [z0] [z] rfl (fun v hv => by rw [List.mem_singleton.1 hv]; exact h1)
  have hw2 := h _ (hX.new t [z]) ((Below.refl _ _).alloc (Nat.le_refl _) _)
  exact BigFrame.wpList_want hw fun _ hK => by
    unfold Oper.wp execOp
    have e : (#[z0] : Array Value) = [z0].toArray := rfl
    have e2 : #[z].toList = [z] := rfl
    simp only [hop, hx, hy, Instr.storeAt, Instr.sureAddr, storeVar, hz, e2, e, hr, hsz, List.size_toArray, List.length_cons, List.length_nil, ne_eq, not_true_eq_false, if_false, Sem.run_bind, Sem.run_pure, Result.andThen_ok]
    exact hK _ _ (by rw [hdst]; exact hw2)
end
theorem results_cc18 {P : Program} {fn : Func} {tmps : Array Value} {w : World} {j k : Tmp} {T U : TypeId} {a b : Addr} {v u : Value} (hr : fn.results = #[.cell j T, .cell k U]) (ha : tmps.getD j undef = .pointer (some a)) (hb : tmps.getD k undef = .pointer (some b)) (hl : (Go.loadVar T a).run P w = .ok v w) (hl2 : (Go.loadVar U b).run P w = .ok u w) :
    (results fn tmps).run P w = .ok (.tuple #[v, u]) w := by
  unfold results
  rw [hr]
  have ha' := ha
  have hb' := hb
  rw [Array.getD_eq_getD_getElem?] at ha' hb'
  simp [ha', hb', asAddr, hl, hl2]
theorem ptr_cell18 (w : World) : (isAgg 76).run Tryz.prog w = .ok false w := by kernel_rfl
theorem trap_cell18 (w : World) : (isAgg 47).run Tryz.prog w = .ok false w := by kernel_rfl
theorem siz_trap18 (w : World) : (sizeOf 47).run Tryz.prog w = .ok 1 w := by kernel_rfl
theorem Bag.wide {l : List (Nat × TypeId × List Value)} {w0 w w' : World} (h : Bag l w w') (hb : Below w0.heap.size w0 w) : Bag l w0 w' := ⟨h.all, hb.trans (h.below.mono hb.size), fun x hx => Nat.le_trans hb.size (h.lo x hx), h.dis⟩
section
variable {X Y : Nat → Prop} {w0 w w' : World} {B g : Nat} {A : Ma} {vm vb vl vs vd vt : Value}
/-- New boxes that nobody's list lies in. -/
theorem DSt.more (h : DSt X w0 B g w A vm vb vl vs vd vt) (hb : Below w.heap.size w w') (hY : ∀ b, b < w.heap.size → Y b → X b) (hl : ∀ b, Y b → b < w'.heap.size) : DSt Y w0 B g w' A vm vb vl vs vd vt := by
  have hXY : ∀ b, b < w.heap.size → XY Y B g b → XY X B g b := fun b hb q => q.imp (hY b hb) id
  have h1 := h.step hb
  refine ⟨h1.bag, Sv.weak h.m hb hXY, Sv.weak h.b hb hXY, Sv.weak h.s hb hXY, Sv.weak h.d hb hXY, Sv.weak h.t hb hXY, h1.row, fun b q => ?_⟩
  rcases q with q | q
  · exact hl b q
  · exact h1.xl b (.inr q)
theorem DSt.less (h : DSt X w0 B g w A vm vb vl vs vd vt) (hY : ∀ b, Y b → X b) : DSt Y w0 B g w A vm vb vl vs vd vt := by
  have hXY : ∀ b, XY Y B g b → XY X B g b := fun b q => q.imp (hY b) id
  exact ⟨h.bag, Sv.less18 h.m hXY, Sv.less18 h.b hXY, Sv.less18 h.s hXY, Sv.less18 h.d hXY, Sv.less18 h.t hXY, h.row, fun b q => h.xl b (hXY b q)⟩
/-- A box of the call's own is written. -/
theorem DSt.out {r : Nat} (h : DSt X w0 B g w A vm vb vl vs vd vt) (hk : ∀ k, k ≠ r → w'.heap[k]? = w.heap[k]?) (hz : w.heap.size ≤ w'.heap.size) (hr : X r) (hB : r ≠ B) (hg : r ≠ g) (hb : Below w0.heap.size w0 w') : DSt X w0 B g w' A vm vb vl vs vd vt := by
  have hh : ∀ b, b < w.heap.size → ¬ XY X B g b → w'.heap[b]? = w.heap[b]? := fun b _ q => hk b (fun e => q (.inl (e ▸ hr)))
  refine ⟨⟨fun b t cs hm => (hk b ?_).trans (h.bag.all b t cs hm), hb, h.bag.lo, h.bag.dis⟩, Sv.off h.m hh fun _ _ q => q, Sv.off h.b hh fun _ _ q => q, Sv.off h.s hh fun _ _ q => q, Sv.off h.d hh fun _ _ q => q, Sv.off h.t hh fun _ _ q => q, h.row.kb hz fun cs q => (hk g (fun e => hg e.symm)).trans q, fun b q => Nat.lt_of_lt_of_le (h.xl b q) hz⟩
  simp only [List.mem_cons, List.not_mem_nil, or_false, Prod.mk.injEq] at hm
  exact fun e => hB (e.symm.trans hm.1)
end
/-- What the loops over the registers carry: the machine; the call's own boxes; all else as it was when the call began. -/
def RgI (R : List (Nat × TypeId × List Value)) (X : Nat → Prop) (w0 : World) (B g : Nat) (w : World) (N : Nat) (A : Ma) (W : World) : Prop := LpI R X w0 B g N A W ∧ Kpt B g w W
theorem RgI.grown {N : Nat} {R : List (Nat × TypeId × List Value)} {X : Nat → Prop} {w0 w W W' : World} {B g : Nat} {A : Ma} {row : Option Nat} (hN : w0.heap.size ≤ N) (hw : w.heap.size ≤ N) (h : RgI R X w0 B g w N A W) (hg : W.grownBy W' row) (hr : ∀ r, row = some r → N ≤ r ∧ NoCells W r) : RgI R X w0 B g w N A W' :=
  ⟨LpI.own (β := Unit) (fun _ => A) hN () W W' row h.1 hg hr, Nat.le_trans h.2.size hg.size, fun k hk h1 h2 => (hg.block k (Nat.lt_of_lt_of_le hk h.2.size) (fun e => by have := (hr k e.symm).1; omega)).trans (h.2.same k hk h1 h2)⟩
theorem devB_base (k : Nat) : devB k = dBase k := by unfold devB dBase; split <;> rfl
theorem dRead_miss {A A2 : Ma} {q v : Int} {k : Nat} (h : A.dRead q k = (A2, v, false)) : A2 = A := by
  unfold Ma.dRead at h
  split at h
  · exact (congrArg Prod.fst h).symm
  · split at h
    · cases h
    · cases h; rfl
  · exact (congrArg Prod.fst h).symm
  · exact (congrArg Prod.fst h).symm
  · split at h
    · cases h
    · cases h; rfl
theorem dWrite_miss {A A2 : Ma} {q v : Int} {k : Nat} (h : A.dWrite q v k = (A2, false)) : A2 = A := by
  unfold Ma.dWrite at h
  repeat' split at h
  all_goals first | (cases h; done) | (cases h; rfl)
abbrev PRd (X : Nat → Prop) (w0 : World) (B g : Nat) (w : World) (A : Ma) (f : Nat) (r : Value) (q : Int) (k : Nat) : Prop := Calls Tryz.prog f #[r, .pointer (some ⟨B, 0, none⟩), .int .i64 q] w (DevS X w0 B g w (A.dRead q k).1 (.tuple #[.int .i64 (A.dRead q k).2.1, .bool (A.dRead q k).2.2]))
section
variable {X : Nat → Prop} {w0 w : World} {B g : Nat} {A : Ma} {vm vb vl vs vd vt : Value}
theorem devS_below {A' : Ma} {V : Value} (hS : DSt X w0 B g w A vm vb vl vs vd vt) (hA' : A' = A) : ∀ e' w', (e' = .returned V ∧ Below w.heap.size w w') → DevS X w0 B g w A' V e' w' := fun e' w' h => by
  subst hA'
  exact ⟨h.1, ⟨_, _, _, _, _, _, hS.step h.2⟩, (Kpt.refl B g w).step h.2⟩
theorem prd_0 (hA : A.ok) (hR : A.right = true) (hS : DSt X w0 B g w A vm vb vl vs vd vt) (hg : g ≠ B → ¬ X g) (q : Int) : PRd X w0 B g w A 160 (.agg #[]) q 0 := (md_read_0 A hA hR q vm vb vl vs vd vt w0 w B hS.bag (hS.mav hg).now).mono (devS_below hS rfl)
theorem prd_1 (hA : A.ok) (hS : DSt X w0 B g w A vm vb vl vs vd vt) (q : Int) : PRd X w0 B g w A 180 (.agg #[]) q 1 := by
  have h := md_read_1 A hA q vm vb vl vs vd vt w0 w B hS.bag
  have e : A.dRead q 1 = (A, (if q = 0 then A.k.read else 0), decide (q = 0)) := by
    show (if q = 0 then (A, A.k.read, true) else (A, 0, false)) = _
    by_cases q0 : q = 0
    · rw [if_pos q0, if_pos q0, decide_eq_true q0]
    · rw [if_neg q0, if_neg q0, decide_eq_false q0]
  show Calls _ _ _ _ (DevS X w0 B g w (A.dRead q 1).1 (.tuple #[.int .i64 (A.dRead q 1).2.1, .bool (A.dRead q 1).2.2]))
  rw [e]
  exact h.mono (devS_below hS rfl)
theorem prd_2 (hA : A.ok) (hR : A.right = true) (hS : DSt X w0 B g w A vm vb vl vs vd vt) (hg : g ≠ B → ¬ X g) (q : Int) : PRd X w0 B g w A 195 (.agg #[]) q 2 := (md_read_2 A hA hR q vm vb vl vs vd vt w0 w B hS.bag (hS.mav hg).now).mono (devS_below hS rfl)
theorem prd_3 (hA : A.ok) (hR : A.right = true) (hS : DSt X w0 B g w A vm vb vl vs vd vt) (hg : g ≠ B → ¬ X g) (q : Int) : PRd X w0 B g w A 233 (.agg #[]) q 3 := (md_read_3 A hA hR q vm vb vl vs vd vt w0 w B hS.bag (hS.mav hg).now).mono (devS_below hS rfl)
theorem prd_4 (hA : A.ok) (hR : A.right = true) (hS : DSt X w0 B g w A vm vb vl vs vd vt) (q : Int) (k : Nat) (hk : k < A.L.length) : PRd X w0 B g w A 266 (.int .i64 k) q (k + 4) := by
  have e : A.dRead q (k + 4) = (if 0 ≤ q ∧ q < 8 then (A.setL k ((A.line k).rd q).1, ((A.line k).rd q).2, true) else (A, 0, false)) := rfl
  show Calls _ _ _ _ (DevS X w0 B g w (A.dRead q (k + 4)).1 (.tuple #[.int .i64 (A.dRead q (k + 4)).2.1, .bool (A.dRead q (k + 4)).2.2]))
  rw [e]
  by_cases hq : 0 ≤ q ∧ q < 8
  · rw [if_pos hq]
    exact md_read_4 A hA hR q k hk hq vm vb vl vs vd vt X w0 w B g hS
  · rw [if_neg hq]
    exact (md_read_no A q k hq w B).mono fun e' w' h => by
      obtain ⟨rfl, rfl⟩ := h
      exact ⟨rfl, ⟨_, _, _, _, _, _, hS⟩, Kpt.refl B g w⟩
end
end Go.Proofs.YthpnddgfgpacpaaGreat
