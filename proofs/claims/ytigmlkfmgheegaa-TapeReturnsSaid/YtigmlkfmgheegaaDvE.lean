/-
  New, Write of the reference. Condition: at most 2^40 sectors and bad ones.
-/
import Derived.Test.YtigmlkfmgheegaaDvC
import Derived.Deep.RegionHeld3
namespace Go.Proofs.Ytigmlkfmgheegaa
open Go.RowKit
set_option linter.unusedSimpArgs false
set_option linter.unusedVariables false
set_option maxHeartbeats 4000000
set_option maxRecDepth 100000
attribute [local irreducible] wpQuiet

theorem Bag.stepN {l : List (Nat × TypeId × List Value)} {w0 w w' : World} {N : Nat} (h : Bag l w0 w) (hb : Below N w w') (hl : ∀ b ∈ l, b.1 < N) (h0 : w0.heap.size ≤ N) : Bag l w0 w' :=
  ⟨fun B t cs hm => (hb.block B (hl _ hm)).trans (h.all B t cs hm), h.below.trans (hb.mono h0), h.lo, h.dis⟩
theorem own_other {w w' : World} {base n s : Nat} {t : TypeId} {v : Value} {xs : List Value} (h : w.ownsRow base t s v n xs) (hk : ∀ k, base ≤ k → w'.heap[k]? = w.heap[k]?) : w'.ownsRow base t s v n xs := by
  refine ⟨h.1, ?_⟩
  rcases h.2 with h0 | ⟨g, cap, cur, hv, hg, hh, r⟩
  · exact .inl h0
  · exact .inr ⟨g, cap, cur, hv, hg, (hk g hg).trans hh, r⟩
theorem own_set {w : World} {base n s : Nat} {t : TypeId} {v u : Value} {a : Addr} {xs : List Value} (h : w.ownsRow base t s v n xs) (hk : a.block < base) : (w.setCell a u).ownsRow base t s v n xs :=
  own_other h fun k hb => heap_setCell_other w a k u (by omega)
theorem own_empty (w : World) (t : TypeId) : (w.alloc (.cells #[] t)).ownsRow w.heap.size t 1 (.slice (some ⟨w.heap.size, 0, none⟩) 0 0) 0 [] :=
  ⟨rfl, .inr ⟨w.heap.size, 0, #[], rfl, Nat.le_refl _, heap_alloc_new w _, Nat.le_refl _, Nat.zero_le _, rfl, rfl⟩⟩
section
variable {ops : Array Oper} {rest : List Oper} {o : Oper} {a : Act} {w w0 w1 : World} {Q : Exit → Act → World → Prop} {l : List (Nat × TypeId × List Value)}
/-- A one-cell value is stored into the first block; the other blocks stay. -/
theorem wpList_bag_putV {B k : Nat} {t T : TypeId} {cs : List Value} {z : Value} (hX : Bag ((B, t, cs) :: l) w0 w) (hsz : ∀ w, (sizeOf T).run Try.prog w = .ok 1 w) (x y : Operand) (hop : o.op = Op.store T x y) (hal : w1 = w) (hx : a.eval x = .pointer (some ⟨B, k, none⟩)) (hy : a.eval y = z) (hdst : o.dst = none) (hw : Region.wanted o (yielded ops a.tmps) = true) (hk : k < cs.length) (hz : z.cells = #[z]) (h1 : z.oneCell' = true)
    (h : ∀ w2, Bag ((B, t, cs.set k z) :: l) w0 w2 → (∀ k, k ≠ B → w2.heap[k]? = w.heap[k]?) → w2.heap.size = w.heap.size → wpList Try.prog ops Q rest a w2) : wpList Try.prog ops Q (o :: rest) a w1 := by
  subst hal
  have hr := (hX.all _ _ _ List.mem_cons_self).put_run (P := Try.prog) (v := z) hk h1
  exact BigFrame.wpList_want hw fun _ hK => by
    unfold Oper.wp execOp
    simp only [hop, hx, hy, hz, Instr.storeAt, Instr.sureAddr, storeVar, hr, hsz, List.size_toArray, List.length_cons, List.length_nil, ne_eq, not_true_eq_false, if_false, Sem.run_bind, Sem.run_pure, Result.andThen_ok]
    exact hK _ _ (by rw [hdst]; exact h _ (hX.over _) (fun k hk => setRow_other w1 B k _ hk) (by simp [World.setRow]))
/-- The first block of the bag is stored as a whole; the other blocks stay. -/
theorem wpList_bag_overV {B n : Nat} {t T : TypeId} {cs cs' : List Value} (hX : Bag ((B, t, cs) :: l) w0 w) (hagg : ∀ w, (isAgg T).run Try.prog w = .ok true w) (hsz : ∀ w, (sizeOf T).run Try.prog w = .ok n w) (x y : Operand) (hop : o.op = Op.store T x y) (hal : w1 = w) (hx : a.eval x = .pointer (some ⟨B, 0, none⟩)) (hy : a.eval y = .agg cs'.toArray) (hdst : o.dst = none) (hw : Region.wanted o (yielded ops a.tmps) = true) (hn : cs'.length = n) (hc : cs.length = n) (h1 : ∀ v ∈ cs', v.oneCell' = true)
    (h : ∀ w2, Bag ((B, t, cs') :: l) w0 w2 → (∀ k, k ≠ B → w2.heap[k]? = w.heap[k]?) → wpList Try.prog ops Q rest a w2) : wpList Try.prog ops Q (o :: rest) a w1 := by
  subst hal
  exact
    wpList_store_run hw hdst T x y _ _ hop hx hy hagg (by rw [hn]; exact hsz) ((hX.all _ _ _ List.mem_cons_self).store_run (by rw [hn, hc]) h1) (h _ (hX.over _) (fun k hk => setRow_other w1 B k _ hk))
/-- A one-cell value is stored into a row of the call's own. -/
theorem wpList_row_store {N g j n cap : Nat} {e T : TypeId} {xs : List Value} {u : Value} (hown : w.ownsRow N e 1 (.slice (some ⟨g, 0, none⟩) n cap) n xs) (hsz : ∀ w, (sizeOf T).run Try.prog w = .ok 1 w) (x y : Operand) (hop : o.op = Op.store T x y) (hal : w1 = w) (hx : a.eval x = .pointer (some ⟨g, j, none⟩)) (hy : a.eval y = u) (hdst : o.dst = none) (hw : Region.wanted o (yielded ops a.tmps) = true) (hj : j < n) (hz : u.cells = #[u]) (h1 : u.oneCell' = true)
    (h : ∀ w2, w2.ownsRow N e 1 (.slice (some ⟨g, 0, none⟩) n cap) n (xs.set j u) → Below N w w2 → wpList Try.prog ops Q rest a w2) : wpList Try.prog ops Q (o :: rest) a w1 := by
  subst hal
  have hg : N ≤ g := (World.ownsRow.lt hown g rfl).1
  have hlt : g < w1.heap.size := (World.ownsRow.lt hown g rfl).2
  have hl : xs.length = n := by have := hown.1; omega
  have hc := World.ownsRow.cellAt hown j (by omega)
  have hf := World.ownsRow.frozenAt hown j
  have hst := (World.ownsRow.stored hown j u).1
  have hx0 : ∃ u0, w1.cell? ⟨g, j, none⟩ = some u0 := ⟨xs[j]'(by omega), by rw [hc, List.getElem?_eq_getElem]⟩
  obtain ⟨u0, hu0⟩ := hx0
  have hr : (storeCells ⟨g, j, none⟩ [u]).run Try.prog w1 = .ok () (w1.setCell ⟨g, j, none⟩ u) := by
    simp [storeCells, go_sem]
    rw [run_store _ _ _ _ _ h1, hu0]
    simp [hf]
  exact BigFrame.wpList_want hw fun _ hK => by
    unfold Oper.wp execOp
    simp only [hop, hx, hy, hz, Instr.storeAt, Instr.sureAddr, storeVar, hr, hsz, List.size_toArray, List.length_cons, List.length_nil, ne_eq, not_true_eq_false, if_false, Sem.run_bind, Sem.run_pure, Result.andThen_ok]
    exact hK _ _ (by rw [hdst]; exact h _ hst ((Below.refl N w1).setCell hg u))
end
theorem siz_S (w : World) : (sizeOf 22).run Try.prog w = .ok 1 w := by kernel_rfl
theorem siz_I (w : World) : (sizeOf 42).run Try.prog w = .ok 1 w := by kernel_rfl
theorem siz_s (w : World) : (sizeOf 9).run Try.prog w = .ok 1 w := by kernel_rfl

/-- The cells read so in every world that has the same blocks, but for those of X. -/
def Sv (X : Nat → Prop) (w : World) (v : Value) (n : Nat) (cs : List Value) : Prop := ∀ w' : World, (∀ b, b < w.heap.size → ¬ X b → w'.heap[b]? = w.heap[b]?) → Rz w' v n cs
theorem Sv.now {X : Nat → Prop} {w : World} {v : Value} {n : Nat} {cs : List Value} (h : Sv X w v n cs) : Rz w v n cs := h w (fun _ _ _ => rfl)
theorem lt_of_same {w w' : World} {b : Nat} (hb : b < w.heap.size) (h : w'.heap[b]? = w.heap[b]?) : b < w'.heap.size := by
  rw [Array.getElem?_eq_getElem hb] at h
  exact (Array.getElem?_eq_some_iff.1 h).1
theorem Sv.off {X Y : Nat → Prop} {w w' : World} {v : Value} {n : Nat} {cs : List Value} (h : Sv X w v n cs) (hk : ∀ b, b < w.heap.size → ¬ X b → w'.heap[b]? = w.heap[b]?) (hY : ∀ b, b < w.heap.size → Y b → X b) : Sv Y w' v n cs := fun w2 h2 => h w2 fun b hb hx => (h2 b (lt_of_same hb (hk b hb hx)) (fun hy => hx (hY b hb hy))).trans (hk b hb hx)
theorem Sv.below {X : Nat → Prop} {w w' : World} {v : Value} {n : Nat} {cs : List Value} (h : Sv X w v n cs) (hb : Below w.heap.size w w') : Sv X w' v n cs := h.off (fun b hb' _ => hb.block b hb') (fun _ _ h => h)
theorem Sv.weak {X Y : Nat → Prop} {w w' : World} {v : Value} {n : Nat} {cs : List Value} (h : Sv X w v n cs) (hb : Below w.heap.size w w') (hY : ∀ b, b < w.heap.size → Y b → X b) : Sv Y w' v n cs := h.off (fun b hb' _ => hb.block b hb') hY
theorem Rz.sv {w : World} {v : Value} {n : Nat} {cs : List Value} (h : Rz w v n cs) : Sv (fun _ => False) w v n cs := fun w' hk => by
  obtain ⟨⟨A, c, hv, hn, hc⟩, h2⟩ := h
  refine ⟨⟨A, c, hv, hn, fun j x hx => ?_⟩, h2⟩
  obtain ⟨a, ha, h1, h3⟩ := hc j x hx
  have h4 := hk _ h3 (fun h => h)
  exact ⟨a, ha, (World.cell?_of_block (w := w) h4).trans h1, lt_of_same h3 h4⟩
theorem Sv.nil (X : Nat → Prop) (w : World) : Sv X w (.slice none 0 0) 0 [] := fun w' _ => Rz.nil w'
theorem Sv.of_own {X : Nat → Prop} {w : World} {base s n : Nat} {t : TypeId} {v : Value} {xs : List Value} (h : w.ownsRow base t s v n xs) (hX : ∀ b, X b → b < base) : Sv X w v n xs := fun w' hk => by
  refine Rz.of_own (w := w') (base := base) (s := s) (t := t) ⟨h.1, ?_⟩
  rcases h.2 with h0 | ⟨g, cap, cur, hv, hg, hh, r⟩
  · exact .inl h0
  · exact .inr ⟨g, cap, cur, hv, hg, (hk g (Array.getElem?_eq_some_iff.1 hh).1 (fun hx => by have := hX g hx; omega)).trans hh, r⟩
def StsX (X : Nat → Prop) (w : World) (v : Value) (S : List ByteArray) : Prop := Sv X w v S.length (S.map Value.string)
def ItsX (X : Nat → Prop) (w : World) (v : Value) (B : List Int) : Prop := Sv X w v B.length (B.map (Value.int .i64))
def DvX (X : Nat → Prop) (w : World) (x : Value) (D : Drv) : Prop := ∃ vs vb, x = .agg #[vs, vb] ∧ StsX X w vs D.S ∧ ItsX X w vb D.B
theorem StsX.now {X : Nat → Prop} {w : World} {v : Value} {S : List ByteArray} (h : StsX X w v S) : Sts w v S := Sv.now h
theorem ItsX.now {X : Nat → Prop} {w : World} {v : Value} {S : List Int} (h : ItsX X w v S) : Its w v S := Sv.now h
theorem StsX.below {X : Nat → Prop} {w w' : World} {v : Value} {S : List ByteArray} (h : StsX X w v S) (hb : Below w.heap.size w w') : StsX X w' v S := Sv.below h hb
theorem ItsX.below {X : Nat → Prop} {w w' : World} {v : Value} {S : List Int} (h : ItsX X w v S) (hb : Below w.heap.size w w') : ItsX X w' v S := Sv.below h hb
theorem StsX.off {X Y : Nat → Prop} {w w' : World} {v : Value} {S : List ByteArray} (h : StsX X w v S) (hk : ∀ b, b < w.heap.size → ¬ X b → w'.heap[b]? = w.heap[b]?) (hY : ∀ b, b < w.heap.size → Y b → X b) : StsX Y w' v S := Sv.off h hk hY
theorem ItsX.off {X Y : Nat → Prop} {w w' : World} {v : Value} {S : List Int} (h : ItsX X w v S) (hk : ∀ b, b < w.heap.size → ¬ X b → w'.heap[b]? = w.heap[b]?) (hY : ∀ b, b < w.heap.size → Y b → X b) : ItsX Y w' v S := Sv.off h hk hY
theorem StsX.weak {X Y : Nat → Prop} {w w' : World} {v : Value} {S : List ByteArray} (h : StsX X w v S) (hb : Below w.heap.size w w') (hY : ∀ b, b < w.heap.size → Y b → X b) : StsX Y w' v S := Sv.weak h hb hY
theorem ItsX.weak {X Y : Nat → Prop} {w w' : World} {v : Value} {S : List Int} (h : ItsX X w v S) (hb : Below w.heap.size w w') (hY : ∀ b, b < w.heap.size → Y b → X b) : ItsX Y w' v S := Sv.weak h hb hY
theorem Sts.sv {w : World} {v : Value} {S : List ByteArray} (h : Sts w v S) : StsX (fun _ => False) w v S := Rz.sv h
theorem Its.sv {w : World} {v : Value} {S : List Int} (h : Its w v S) : ItsX (fun _ => False) w v S := Rz.sv h
theorem DvX.z (X : Nat → Prop) (w : World) : DvX X w (.agg #[.slice none 0 0, .slice none 0 0]) Drv.z := ⟨_, _, rfl, Sv.nil X w, Sv.nil X w⟩
theorem DvX.now {X : Nat → Prop} {w : World} {x : Value} {D : Drv} (h : DvX X w x D) : Dv w x D := by
  obtain ⟨vs, vb, e, h1, h2⟩ := h
  exact ⟨vs, vb, e, h1.now, h2.now⟩
theorem stsX_of {X : Nat → Prop} {w : World} {N n : Nat} {v : Value} {xs : List Value} {S' : List ByteArray} (hX : ∀ b, X b → b < N) (hfin : Hid (xs = S'.map Value.string)) (hln : Hid (S'.length = n)) (h : w.ownsRow N 9 1 v n xs) : StsX X w v S' := by
  have h1 := Sv.of_own h hX
  rw [show xs = _ from hfin, ← show _ = n from hln] at h1
  exact h1
theorem itsX_of {X : Nat → Prop} {w : World} {N n : Nat} {v : Value} {xs : List Value} {S' : List Int} (hX : ∀ b, X b → b < N) (hfin : Hid (xs = S'.map (Value.int .i64))) (hln : Hid (S'.length = n)) (h : w.ownsRow N 3 1 v n xs) : ItsX X w v S' := by
  have h1 := Sv.of_own h hX
  rw [show xs = _ from hfin, ← show _ = n from hln] at h1
  exact h1
end Go.Proofs.Ytigmlkfmgheegaa
