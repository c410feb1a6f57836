import Derived.StillTail
import Derived.Deep.Quiet
import Derived.Test.YtlegcfjafdihlaaGreatDoorZC05
import Derived.Deep.RegionHeld3
import Derived.Test.YtlegcfjafdihlaaGreatDoorZC01
import Derived.Maps.AppendAt
import Derived.Laws.AppendOwnNone
import Derived.Test.YtlegcfjafdihlaaGreatDoorZC03
import Derived.BigQuiet
/-
  New, Write of the reference. Condition: at most 2^40 sectors and bad ones.
-/
namespace Go.Proofs.YtlegcfjafdihlaaGreatDoor
open Go.RowKit
set_option linter.unusedSimpArgs false
set_option linter.unusedVariables false
set_option maxHeartbeats 4000000
set_option maxRecDepth 100000
attribute [local irreducible] wpQuiet

theorem Bag.stepN {l : List (Nat × TypeId × List Value)} {w0 w w' : World} {N : Nat} (h : Bag l w0 w) (hb : Below N w w') (hl : ∀ b ∈ l, b.1 < N) (h0 : w0.heap.size ≤ N) : Bag l w0 w' :=
  ⟨fun B t cs hm => (hb.block B (hl _ hm)).trans (h.all B t cs hm), h.below.trans (hb.mono h0), h.lo, h.dis⟩
theorem own_other {w w' : World} {base n s : Nat} {t : TypeId} {v : Value} {xs : List Value} (h : w.ownsRow base t s v n xs) (hk : ∀ k, base ≤ k → w'.heap[k]? = w.heap[k]?) : w'.ownsRow base t s v n xs := by
  refine ⟨h.1, ?_⟩
  rcases h.2 with h0 | ⟨g, cap, cur, hv, hg, hh, r⟩
  · exact .inl h0
  · exact .inr ⟨g, cap, cur, hv, hg, (hk g hg).trans hh, r⟩
theorem own_empty (w : World) (t : TypeId) : (w.alloc (.cells #[] t)).ownsRow w.heap.size t 1 (.slice (some ⟨w.heap.size, 0, none⟩) 0 0) 0 [] :=
  ⟨rfl, .inr ⟨w.heap.size, 0, #[], rfl, Nat.le_refl _, heap_alloc_new w _, Nat.le_refl _, Nat.zero_le _, rfl, rfl⟩⟩
section
variable {ops : Array Oper} {rest : List Oper} {o : Oper} {a : Act} {w w0 w1 : World} {Q : Exit → Act → World → Prop} {l : List (Nat × TypeId × List Value)}
/-- A one-cell value is stored into the first block; the other blocks stay. -/
theorem wpList_bag_putV {B k : Nat} {t T : TypeId} {cs : List Value} {z : Value} (hX : Bag ((B, t, cs) :: l) w0 w) (hsz : ∀ w, (sizeOf T).run Tryz.prog w = .ok 1 w) (x y : Operand) (hop : o.op = Op.store T x y) (hal : w1 = w) (hx : a.eval x = .pointer (some ⟨B, k, none⟩)) (hy : a.eval y = z) (hdst : o.dst = none) (hw : Region.wanted o (yielded ops a.tmps) = true) (hk : k < cs.length) (hz : z.cells = #[z]) (h1 : z.oneCell' = true)
    (h : ∀ w2, Bag ((B, t, cs.set k z) :: l) w0 w2 → (∀ k, k ≠ B → w2.heap[k]? = w.heap[k]?) → w2.heap.size = w.heap.size → wpList Tryz.prog ops Q rest a w2) : wpList Tryz.prog ops Q (o :: rest) a w1 := by
  subst hal
  have hr := (hX.all _ _ _ List.mem_cons_self).put_run (P := Tryz.prog) (v := z) hk h1
  exact BigFrame.wpList_want hw fun _ hK => by
    unfold Oper.wp execOp
    simp only [hop, hx, hy, hz, Instr.storeAt, Instr.sureAddr, storeVar, hr, hsz, List.size_toArray, List.length_cons, List.length_nil, ne_eq, not_true_eq_false, if_false, Sem.run_bind, Sem.run_pure, Result.andThen_ok]
    exact hK _ _ (by rw [hdst]; exact h _ (hX.over _) (fun k hk => setRow_other w1 B k _ hk) (by simp [World.setRow]))
/-- The first block of the bag is stored as a whole; the other blocks stay. -/
theorem wpList_bag_overV {B n : Nat} {t T : TypeId} {cs cs' : List Value} (hX : Bag ((B, t, cs) :: l) w0 w) (hagg : ∀ w, (isAgg T).run Tryz.prog w = .ok true w) (hsz : ∀ w, (sizeOf T).run Tryz.prog w = .ok n w) (x y : Operand) (hop : o.op = Op.store T x y) (hal : w1 = w) (hx : a.eval x = .pointer (some ⟨B, 0, none⟩)) (hy : a.eval y = .agg cs'.toArray) (hdst : o.dst = none) (hw : Region.wanted o (yielded ops a.tmps) = true) (hn : cs'.length = n) (hc : cs.length = n) (h1 : ∀ v ∈ cs', v.oneCell' = true)
    (h : ∀ w2, Bag ((B, t, cs') :: l) w0 w2 → (∀ k, k ≠ B → w2.heap[k]? = w.heap[k]?) → wpList Tryz.prog ops Q rest a w2) : wpList Tryz.prog ops Q (o :: rest) a w1 := by
  subst hal
  exact
    wpList_store_run hw hdst T x y _ _ hop hx hy hagg (by rw [hn]; exact hsz) ((hX.all _ _ _ List.mem_cons_self).store_run (by rw [hn, hc]) h1) (h _ (hX.over _) (fun k hk => setRow_other w1 B k _ hk))
end
/-- The cells read so in every world that has the same blocks, but for those of X. -/
def Sv (X : Nat → Prop) (w : World) (v : Value) (n : Nat) (cs : List Value) : Prop := ∀ w' : World, (∀ b, b < w.heap.size → ¬ X b → w'.heap[b]? = w.heap[b]?) → Rz w' v n cs
theorem Sv.now {X : Nat → Prop} {w : World} {v : Value} {n : Nat} {cs : List Value} (h : Sv X w v n cs) : Rz w v n cs := h w (fun _ _ _ => rfl)
theorem lt_of_same {w w' : World} {b : Nat} (hb : b < w.heap.size) (h : w'.heap[b]? = w.heap[b]?) : b < w'.heap.size := by
  rw [Array.getElem?_eq_getElem hb] at h
  exact (Array.getElem?_eq_some_iff.1 h).1
theorem Sv.off {X Y : Nat → Prop} {w w' : World} {v : Value} {n : Nat} {cs : List Value} (h : Sv X w v n cs) (hk : ∀ b, b < w.heap.size → ¬ X b → w'.heap[b]? = w.heap[b]?) (hY : ∀ b, b < w.heap.size → Y b → X b) : Sv Y w' v n cs := fun w2 h2 => h w2 fun b hb hx => (h2 b (lt_of_same hb (hk b hb hx)) (fun hy => hx (hY b hb hy))).trans (hk b hb hx)
theorem Sv.below {X : Nat → Prop} {w w' : World} {v : Value} {n : Nat} {cs : List Value} (h : Sv X w v n cs) (hb : Below w.heap.size w w') : Sv X w' v n cs := h.off (fun b hb' _ => hb.block b hb') (fun _ _ h => h)
theorem Sv.weak {X Y : Nat → Prop} {w w' : World} {v : Value} {n : Nat} {cs : List Value} (h : Sv X w v n cs) (hb : Below w.heap.size w w') (hY : ∀ b, b < w.heap.size → Y b → X b) : Sv Y w' v n cs := h.off (fun b hb' _ => hb.block b hb') hY
theorem Sv.nil (X : Nat → Prop) (w : World) : Sv X w (.slice none 0 0) 0 [] := fun w' _ => Rz.nil w'
theorem Sv.of_own {X : Nat → Prop} {w : World} {base s n : Nat} {t : TypeId} {v : Value} {xs : List Value} (h : w.ownsRow base t s v n xs) (hX : ∀ b, X b → b < base) : Sv X w v n xs := fun w' hk => by
  refine Rz.of_own (w := w') (base := base) (s := s) (t := t) ⟨h.1, ?_⟩
  rcases h.2 with h0 | ⟨g, cap, cur, hv, hg, hh, r⟩
  · exact .inl h0
  · exact .inr ⟨g, cap, cur, hv, hg, (hk g (Array.getElem?_eq_some_iff.1 hh).1 (fun hx => by have := hX g hx; omega)).trans hh, r⟩
def StsX (X : Nat → Prop) (w : World) (v : Value) (S : List ByteArray) : Prop := Sv X w v S.length (S.map Value.string)
def ItsX (X : Nat → Prop) (w : World) (v : Value) (B : List Int) : Prop := Sv X w v B.length (B.map (Value.int .i64))
def DvX (X : Nat → Prop) (w : World) (x : Value) (D : Drv) : Prop := ∃ vs vb, x = .agg #[vs, vb] ∧ StsX X w vs D.S ∧ ItsX X w vb D.B
theorem StsX.now {X : Nat → Prop} {w : World} {v : Value} {S : List ByteArray} (h : StsX X w v S) : Sts w v S := Sv.now h
theorem ItsX.now {X : Nat → Prop} {w : World} {v : Value} {S : List Int} (h : ItsX X w v S) : Its w v S := Sv.now h
theorem StsX.below {X : Nat → Prop} {w w' : World} {v : Value} {S : List ByteArray} (h : StsX X w v S) (hb : Below w.heap.size w w') : StsX X w' v S := Sv.below h hb
theorem ItsX.below {X : Nat → Prop} {w w' : World} {v : Value} {S : List Int} (h : ItsX X w v S) (hb : Below w.heap.size w w') : ItsX X w' v S := Sv.below h hb
theorem StsX.off {X Y : Nat → Prop} {w w' : World} {v : Value} {S : List ByteArray} (h : StsX X w v S) (hk : ∀ b, b < w.heap.size → ¬ X b → w'.heap[b]? = w.heap[b]?) (hY : ∀ b, b < w.heap.size → Y b → X b) : StsX Y w' v S := Sv.off h hk hY
theorem ItsX.off {X Y : Nat → Prop} {w w' : World} {v : Value} {S : List Int} (h : ItsX X w v S) (hk : ∀ b, b < w.heap.size → ¬ X b → w'.heap[b]? = w.heap[b]?) (hY : ∀ b, b < w.heap.size → Y b → X b) : ItsX Y w' v S := Sv.off h hk hY
theorem StsX.weak {X Y : Nat → Prop} {w w' : World} {v : Value} {S : List ByteArray} (h : StsX X w v S) (hb : Below w.heap.size w w') (hY : ∀ b, b < w.heap.size → Y b → X b) : StsX Y w' v S := Sv.weak h hb hY
theorem ItsX.weak {X Y : Nat → Prop} {w w' : World} {v : Value} {S : List Int} (h : ItsX X w v S) (hb : Below w.heap.size w w') (hY : ∀ b, b < w.heap.size → Y b → X b) : ItsX Y w' v S := Sv.weak h hb hY
theorem DvX.z (X : Nat → Prop) (w : World) : DvX X w (.agg #[.slice none 0 0, .slice none 0 0]) Drv.z := ⟨_, _, rfl, Sv.nil X w, Sv.nil X w⟩
theorem DvX.now {X : Nat → Prop} {w : World} {x : Value} {D : Drv} (h : DvX X w x D) : Dv w x D := by
  obtain ⟨vs, vb, e, h1, h2⟩ := h
  exact ⟨vs, vb, e, h1.now, h2.now⟩
theorem itsX_of {X : Nat → Prop} {w : World} {N n : Nat} {v : Value} {xs : List Value} {S' : List Int} (hX : ∀ b, X b → b < N) (hfin : Hid (xs = S'.map (Value.int .i64))) (hln : Hid (S'.length = n)) (h : w.ownsRow N 3 1 v n xs) : ItsX X w v S' := by
  have h1 := Sv.of_own h hX
  rw [show xs = _ from hfin, ← show _ = n from hln] at h1
  exact h1
end Go.Proofs.YtlegcfjafdihlaaGreatDoor
/-
  The disk controller: plain. No condition.
-/
namespace Go.Proofs.YtlegcfjafdihlaaGreatDoor
open Go.RowKit
set_option linter.unusedSimpArgs false
set_option linter.unusedVariables false
set_option maxHeartbeats 4000000
set_option maxRecDepth 100000
attribute [local irreducible] wpQuiet

/-- A disk controller: its drive; enabled, ready, error; command, words, address, sector, ticks left. -/
structure Dk where
  D : Drv
  n : Bool
  r : Bool
  e : Bool
  c : Int
  w : Int
  a : Int
  s : Int
  l : Int
def Dk.z : Dk := ⟨Drv.z, false, false, false, 0, 0, 0, 0, 0⟩
def Dk.new (D : Drv) : Dk := ⟨D, false, true, false, 0, 0, 0, 0, 0⟩
def wordV (n : Int) : Bool := decide (0 ≤ n) && decide (n ≤ 65535)
/-- Are its fields valid? -/
def Dk.ok (K : Dk) : Bool := decide (0 ≤ K.c) && decide (K.c ≤ 3) && wordV K.w && wordV K.a && wordV K.s && decide (K.a % 2 = 0) && decide (0 ≤ K.l) && decide (K.l ≤ 8) && (K.r == decide (K.l = 0)) && (decide (K.l = 0) || (decide (K.c ≠ 0) && decide (K.w ≠ 0)))
def Dk.right (K : Dk) : Bool := K.ok && K.D.right
def Dk.reset (K : Dk) : Dk := { K with n := false, e := false, c := 0, l := 0, r := true }
def stK (K : Dk) : Int := 2 * K.c + (if K.n = true then 64 else 0) + (if K.r = true then 128 else 0) + (if K.e = true then 32768 else 0)
def Dk.rd (K : Dk) (g : Int) : Int × Bool := if g = 2 then (K.w, true) else if g = 4 then (K.a, true) else if g = 6 then (K.s, true) else if g = 0 then (stK K, true) else (0, false)
def Dk.cmd (K : Dk) (v : Int) : Dk := if K.r = true ∧ v % 2 = 1 then (if v / 2 % 4 ≠ 0 ∧ K.w ≠ 0 then { K with c := v / 2 % 4, e := false, r := false, l := 8 } else { K with c := v / 2 % 4, e := false }) else K
def Dk.wr (K : Dk) (g v : Int) : Dk × Bool :=
  if g = 0 then ({ K with n := decide (v / 64 % 2 = 1) }.cmd v, true)
  else if g = 2 then (if K.r = true then { K with w := v % 65536 } else K, true)
  else if g = 4 then (if K.r = true then { K with a := v / 2 % 32768 * 2 } else K, true)
  else if g = 6 then (if K.r = true then { K with s := v % 65536 } else K, true)
  else (Dk.z, false)
def Dk.fail (K : Dk) : Dk := { K with e := true, r := true }
def Dk.acc (K : Dk) (v : Int) : Dk := if v = 160 then { K with n := false } else K
def Dk.req (K : Dk) : List (Int × Int) := if K.n = true ∧ K.r = true then [(5, 160)] else []
/-- A controller in memory. -/
def DkX (X : Nat → Prop) (w : World) (x : Value) (K : Dk) : Prop := ∃ vs vb, x = .agg #[vs, vb, .bool K.n, .bool K.r, .bool K.e, .int .i64 K.c, .int .i64 K.w, .int .i64 K.a, .int .i64 K.s, .int .i64 K.l] ∧ StsX X w vs K.D.S ∧ ItsX X w vb K.D.B
theorem DkX.below {X : Nat → Prop} {w w' : World} {x : Value} {K : Dk} (h : DkX X w x K) (hb : Below w.heap.size w w') : DkX X w' x K := by
  obtain ⟨vs, vb, e, h1, h2⟩ := h
  exact ⟨vs, vb, e, h1.below hb, h2.below hb⟩
theorem aggK (w : World) : (isAgg 45).run Tryz.prog w = .ok true w := by kernel_rfl
theorem sizK (w : World) : (sizeOf 45).run Tryz.prog w = .ok 10 w := by kernel_rfl
end Go.Proofs.YtlegcfjafdihlaaGreatDoor
/-
  Requests of interrupts: valid ones, their order, the sorted list: plain. No condition.
-/
namespace Go.Proofs.YtlegcfjafdihlaaGreatDoor
open Go.RowKit
set_option linter.unusedSimpArgs false
set_option linter.unusedVariables false

/-- A request: priority and vector. -/
abbrev Rq := Int × Int
/-- The place of a vector. -/
def rnk (v : Int) : Int := if v = 64 then 0 else if v = 160 then 1 else if v = 164 then 2 else 3 + v
/-- Is it served before? -/
def bef (a b : Rq) : Bool := if a.1 = b.1 then decide (rnk a.2 < rnk b.2) else decide (b.1 < a.1)
/-- Its place among all. -/
def key (q : Rq) : Int := (7 - q.1) * 1000 + rnk q.2
/-- Where x goes among the first k. -/
def pos (x : Rq) (l : List Rq) : Nat → Nat
  | 0 => 0
  | k + 1 => if bef x (l.getD k (0, 0)) = true then pos x l k else k + 1
end Go.Proofs.YtlegcfjafdihlaaGreatDoor
/-
  Rows of requests: their cells, append. No condition.
-/
namespace Go.Proofs.YtlegcfjafdihlaaGreatDoor
open Go.RowKit
set_option linter.unusedSimpArgs false
set_option linter.unusedVariables false
set_option maxHeartbeats 4000000
set_option maxRecDepth 100000
attribute [local irreducible] wpQuiet

theorem aggQ (w : World) : (isAgg 117).run Tryz.prog w = .ok true w := by kernel_rfl
theorem sizQ (w : World) : (sizeOf 117).run Tryz.prog w = .ok 2 w := by kernel_rfl
/-- The cells of requests. -/
def flat (l : List Rq) : List Value := l.flatMap fun q => [.int .i64 q.1, .int .i64 q.2]
theorem flat_length (l : List Rq) : (flat l).length = l.length * 2 := by
  induction l with
  | nil => rfl
  | cons q l ih => show ([_, _] ++ flat l).length = _; rw [List.length_append, ih]; simp; omega
theorem flat_append (a b : List Rq) : flat (a ++ b) = flat a ++ flat b := List.flatMap_append
theorem flat_cons (q : Rq) (l : List Rq) : flat (q :: l) = [.int .i64 q.1, .int .i64 q.2] ++ flat l := rfl
theorem flat_drop {l : List Rq} (k : Nat) (hk : k ≤ l.length) {j : Nat} {u : Value} (h : (flat (l.drop k))[j]? = some u) : (flat l)[k * 2 + j]? = some u := by
  have e : flat l = flat (l.take k) ++ flat (l.drop k) := by rw [← flat_append, List.take_append_drop]
  have hl : (flat (l.take k)).length = k * 2 := by rw [flat_length, List.length_take, Nat.min_eq_left hk]
  rw [e, List.getElem?_append_right (by omega), hl]
  rw [show k * 2 + j - k * 2 = j from by omega]; exact h
theorem flat_get {l : List Rq} {k : Nat} {q : Rq} (hq : l[k]? = some q) : ∀ j v, ([.int .i64 q.1, .int .i64 q.2] : List Value)[j]? = some v → (flat l)[k * 2 + j]? = some v := by
  have hk : k < l.length := (List.getElem?_eq_some_iff.1 hq).1
  intro j v hv
  refine flat_drop k (by omega) ?_
  rw [List.drop_eq_getElem_cons hk, (List.getElem?_eq_some_iff.1 hq).2, flat_cons]
  rw [List.getElem?_append_left (List.getElem?_eq_some_iff.1 hv).1]; exact hv
/-- A slice of requests that reads as l. -/
def Rqs (w : World) (v : Value) (l : List Rq) : Prop := Rw w v l.length (flat l)
theorem Rqs.load {w : World} {a : Addr} {n c k : Nat} {l : List Rq} {q : Rq} (h : Rqs w (.slice (some a) n c) l) (hn : n = l.length) (hq : l[k]? = some q) : (Instr.loadAt 117 (.pointer (some (a.add (k * 2))))).run Tryz.prog w = .ok (.agg #[.int .i64 q.1, .int .i64 q.2]) w := by
  subst hn
  exact Rw.loadAt (k := k) (s := 2) h (flat_get hq) rfl aggQ sizQ
theorem Rqs.cells {w : World} {a : Addr} {n c : Nat} {l : List Rq} (h : Rqs w (.slice (some a) n c) l) : ∀ j u, (flat l)[j]? = some u → w.cell? (a.add j) = some u := by
  obtain ⟨A, c', hv, _, hc⟩ := h
  cases hv
  intro j u hu
  obtain ⟨a', ha, h1, _⟩ := hc j u hu
  cases ha; exact h1
theorem Rqs.below {w w' : World} {v : Value} {l : List Rq} (h : Rqs w v l) (hb : Below w.heap.size w w') : Rqs w' v l := Rw.below h hb
end Go.Proofs.YtlegcfjafdihlaaGreatDoor
/-
  A region that draws its order, with an allocation behind quiet operations and calls, and a tail that waits for all of them: walked once, in the order of the text, the tail behind it for every place of the new block. General. No condition.
-/
namespace Go.Proofs.YtlegcfjafdihlaaGreatDoor
open Go Go.RowKit

section
variable {P : Program} {ops : Array Oper} {md : Region.Mode} {K : Option Nat → World → Prop}

def YF (P : Program) (ops : Array Oper) (K : Option Nat → World → Prop) (o : Oper) (v : Value) (a : Act) : Prop := ∀ s, YieldsIn P ops (K s) o v a
theorem YF.same {o : Oper} {v : Value} {a a' : Act} (h : YF P ops K o v a) (he : execOp a'.eval o = execOp a.eval o) (hw : Region.wanted o (yielded ops a'.tmps) = Region.wanted o (yielded ops a.tmps)) : YF P ops K o v a' := fun s => (h s).of_same he hw
end
/-- A bag of blocks, and perhaps one new block. -/
def KB (t : TypeId) (zs : List Value) (l : List (Nat × TypeId × List Value)) (w0 : World) : Option Nat → World → Prop
  | none, w => Bag l w0 w
  | some B, w => Bag ((B, t, zs) :: l) w0 w
theorem KB.low {t : TypeId} {zs : List Value} {l : List (Nat × TypeId × List Value)} {w0 w : World} {s : Option Nat} (h : KB t zs l w0 s w) : Bag l w0 w := by
  cases s with
  | none => exact h
  | some B =>
    have h : Bag ((B, t, zs) :: l) w0 w := h
    exact ⟨fun B t cs hm => h.all B t cs (List.mem_cons_of_mem _ hm), h.below, fun b hb => h.lo b (List.mem_cons_of_mem _ hb), (List.nodup_cons.1 h.dis).2⟩
theorem KB.step {t : TypeId} {zs : List Value} {l : List (Nat × TypeId × List Value)} {w0 w w' : World} {s : Option Nat} (h : KB t zs l w0 s w) (hb : Below w.heap.size w w') : KB t zs l w0 s w' := by
  cases s with
  | none => exact Bag.step h hb
  | some B => exact Bag.step h hb
theorem KB.new {t : TypeId} {zs : List Value} {l : List (Nat × TypeId × List Value)} {w0 w : World} (h : KB t zs l w0 none w) : KB t zs l w0 (some w.heap.size) (w.alloc (.cells zs.toArray t)) := Bag.new h t zs
end Go.Proofs.YtlegcfjafdihlaaGreatDoor
