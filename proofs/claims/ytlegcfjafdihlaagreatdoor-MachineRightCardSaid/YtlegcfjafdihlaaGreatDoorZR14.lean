import Derived.Test.YtlegcfjafdihlaaGreatDoorZR05
import Derived.Test.YtlegcfjafdihlaaGreatDoorZR13
import Derived.Test.YtlegcfjafdihlaaGreatDoorZR06
import Derived.Test.YtlegcfjafdihlaaGreatDoorZR07
import Derived.Test.YtlegcfjafdihlaaGreatDoorZR03
import Derived.Test.YtlegcfjafdihlaaGreatDoorZR10
import Derived.Test.YtlegcfjafdihlaaGreatDoorZR12
import Derived.StillTail
import Derived.Deep.Quiet
import Derived.Tactics
import Derived.Laws.CopyOwn
import Derived.Laws.OwnMore
import Derived.Deep.Onto
import Derived.Test.YtlegcfjafdihlaaGreatDoorZR11
import Derived.Test.YtlegcfjafdihlaaGreatDoorZR01
import Derived.Test.YtlegcfjafdihlaaGreatDoorZR09
import Derived.Deep.RegionLaw
import Derived.Laws.DeepStrings4
import Derived.Lib.Strings
import Derived.Lib.IndexBytes
import Derived.Lib.UnsafeStr
import Derived.Laws.IdiomStrings
/-
  Rows of the call's own and boxes behind an operation that turns one block: told apart by their elements' types. General. No condition.
-/
namespace Go.Proofs.YtlegcfjafdihlaaGreatDoor
open Go.RowKit
set_option linter.unusedSimpArgs false
set_option linter.unusedVariables false

theorem Bag.same {l : List (Nat × TypeId × List Value)} {w0 w w' : World} (h : Bag l w0 w) (hk : ∀ b ∈ l, w'.heap[b.1]? = w.heap[b.1]?) (hb : Below w0.heap.size w0 w') : Bag l w0 w' := ⟨fun B t cs hm => (hk _ hm).trans (h.all B t cs hm), hb, h.lo, h.dis⟩
theorem two_bag (w : World) (t1 t2 : TypeId) (cs ds : List Value) : Bag [(w.heap.size + 1, t2, ds), (w.heap.size, t1, cs)] w ((w.alloc (.cells cs.toArray t1)).alloc (.cells ds.toArray t2)) := by
  have h := ((Bag.nil w).new t1 cs).new t2 ds
  rw [show (w.alloc (.cells cs.toArray t1)).heap.size = w.heap.size + 1 from Array.size_push ..] at h
  exact h
theorem own_ofne {w w' : World} {base n s : Nat} {t : TypeId} {v : Value} {xs : List Value} (h : w.ownsRow base t s v n xs) (hk : ∀ (g : Nat) (cur : Array Value), w.heap[g]? = some (Obj.cells cur t (0, 0)) → w'.heap[g]? = w.heap[g]?) : w'.ownsRow base t s v n xs := by
  refine ⟨h.1, ?_⟩
  rcases h.2 with h0 | ⟨g, cap, cur, hv, hg, hh, r⟩
  · exact .inl h0
  · exact .inr ⟨g, cap, cur, hv, hg, (hk g cur hh).trans hh, r⟩
theorem own_over {l : List (Nat × TypeId × List Value)} {w0 w w' : World} {B base n s : Nat} {e t : TypeId} {v : Value} {xs cs : List Value} (hX : Bag ((B, t, cs) :: l) w0 w) (h : w.ownsRow base e s v n xs) (ht : t ≠ e) (hk : ∀ k, k ≠ B → w'.heap[k]? = w.heap[k]?) : w'.ownsRow base e s v n xs :=
  own_ofne h (fun g cur hh => hk g (fun e1 => by
    have h1 := hX.all _ _ _ (.head _)
    unfold Blk at h1
    rw [← e1, hh] at h1
    cases h1
    exact ht rfl))
end Go.Proofs.YtlegcfjafdihlaaGreatDoor
/-
  The zero machine; withLine of the reference. Condition: the machine has the line.
-/
namespace Go.Proofs.YtlegcfjafdihlaaGreatDoor
open Go.RowKit
set_option linter.unusedSimpArgs false
set_option linter.unusedVariables false
set_option maxHeartbeats 4000000
set_option maxRecDepth 100000
attribute [local irreducible] wpQuiet

def mzL : List Value := maL (List.replicate 10 (.int .i64 0)) (.slice none 0 0) (.slice none 0 0) Un.z.L [.bool false, .bool false, .int .i64 0, .int .i64 0] (.slice none 0 0) (dkL (.slice none 0 0) (.slice none 0 0) Dk.z) (tpL (.slice none 0 0) Tp.z) [.int .i64 0, .bool false, .bool false, .int .i64 0, .bool false]
theorem mzL_len : mzL.length = 110 := rfl
theorem run_allocM (w : World) : (Instr.alloc 49 true (.tuple #[])).run Tryz.prog w = .ok (.pointer (some ⟨w.heap.size, 0, none⟩)) (w.alloc (.cells mzL.toArray 49)) := by kernel_rfl
section
variable {ops : Array Oper} {rest : List Oper} {o : Oper} {a : Act} {w : World} {Q : Exit → Act → World → Prop}
theorem at_alloc18 {P : Program} {l : List Oper} {T ty : TypeId} {dst : Option Tmp} {pos : String} {after : Array Edge} {g : Option (Nat × Bool)} (h : wpList P ops Q ({ dst := dst, op := .alloc T, type := ty, pos := pos, after := after, guard := g } :: l) a w) : wpList P ops Q ({ dst := dst, op := .alloc T, type := ty, pos := pos, after := after, guard := g } :: l) a w := h
theorem wpList_allocM (hg : o.guard = none) (hop : o.op = Op.alloc 49) (h : wpList Tryz.prog ops Q rest (a.put o.dst (.pointer (some ⟨w.heap.size, 0, none⟩))) (w.alloc (.cells mzL.toArray 49))) : wpList Tryz.prog ops Q (o :: rest) a w :=
  wpList_plain hg fun _ hK => by
    unfold Oper.wp execOp
    simp only [hop, run_allocM, Sem.run_bind, Sem.run_pure, Result.andThen_ok]
    exact hK _ _ h
end
theorem two_ma (w : World) (c1 : List Value) : Bag [(w.heap.size + 1, 49, mzL), (w.heap.size, 49, c1)] w ((w.alloc (.cells c1.toArray 49)).alloc (.cells mzL.toArray 49)) := two_bag w 49 49 c1 mzL
section
variable {A : Ma} {vm vb vl vs vd vt : Value} (h : A.ok)
include h
theorem Ma.clen : (A.cells vm vb vl vs vd vt).length = 110 := maL_len (Ma.len h vs vd vt)
theorem Ma.cone (o1 : vm.oneCell' = true) (o2 : vb.oneCell' = true) (o3 : vl.oneCell' = true) (o4 : vs.oneCell' = true) (o5 : vd.oneCell' = true) (o6 : vt.oneCell' = true) : ∀ v ∈ A.cells vm vb vl vs vd vt, v.oneCell' = true := by
  refine maL_one h.2.1 o1 o2 ?_ ?_ o3 ?_ ?_ ?_
  · intro v hv
    unfold Un.L at hv
    simp only [List.mem_cons, List.mem_append, List.mem_flatMap, List.not_mem_nil, or_false] at hv
    rcases hv with rfl | ⟨p, _, hp⟩ | rfl | rfl
    · rfl
    · unfold Pg.L at hp
      simp only [List.mem_cons, List.not_mem_nil, or_false] at hp
      rcases hp with rfl | rfl | rfl | rfl <;> rfl
    · rfl
    · rfl
  · intro v hv
    unfold Ck.L at hv
    simp only [List.mem_cons, List.not_mem_nil, or_false] at hv
    rcases hv with rfl | rfl | rfl | rfl <;> rfl
  · intro v hv
    unfold dkL at hv
    simp only [List.mem_cons, List.not_mem_nil, or_false] at hv
    rcases hv with rfl | rfl | rfl | rfl | rfl | rfl | rfl | rfl | rfl | rfl <;> first | rfl | assumption
  · intro v hv
    unfold tpL at hv
    simp only [List.mem_cons, List.not_mem_nil, or_false] at hv
    rcases hv with rfl | rfl | rfl | rfl | rfl | rfl | rfl | rfl | rfl | rfl | rfl <;> first | rfl | assumption
  · intro v hv
    unfold Ma.eL at hv
    simp only [List.mem_cons, List.not_mem_nil, or_false] at hv
    rcases hv with rfl | rfl | rfl | rfl | rfl <;> rfl
end
end Go.Proofs.YtlegcfjafdihlaaGreatDoor
/-
  readReg of the reference. Conditions: a valid machine; an offset of a register.
-/
namespace Go.Proofs.YtlegcfjafdihlaaGreatDoor
open Go.RowKit
set_option linter.unusedSimpArgs false
set_option linter.unusedVariables false
set_option maxHeartbeats 4000000
set_option maxRecDepth 100000
attribute [local irreducible] wpQuiet

theorem Ma.parts {A : Ma} (h : A.right = true) : A.L.length ≤ 4 ∧ (∀ x ∈ A.L, x.right = true) ∧ rightP A.M A.B = true ∧ A.U.right = true ∧ A.k.right = true ∧ A.K.right = true ∧ A.T.right = true := by
  unfold Ma.right at h
  simp only [Bool.and_eq_true, decide_eq_true_eq, List.all_eq_true] at h
  obtain ⟨⟨⟨⟨⟨⟨h1, h2⟩, h3⟩, h4⟩, h5⟩, h6⟩, h7⟩ := h
  exact ⟨h1, h2, h3, h4, h5, h6, h7⟩
end Go.Proofs.YtlegcfjafdihlaaGreatDoor
/-
  writeReg of the reference. Conditions: a valid machine; an offset of a register.
-/
namespace Go.Proofs.YtlegcfjafdihlaaGreatDoor
open Go.RowKit
set_option linter.unusedSimpArgs false
set_option linter.unusedVariables false
set_option maxHeartbeats 4000000
set_option maxRecDepth 100000
attribute [local irreducible] wpQuiet

/-- What the words of a machine read as. -/
structure MaV (X : Nat → Prop) (w : World) (A : Ma) (vm vb vl vs vd vt : Value) : Prop where
  m : ItsX X w vm A.M
  b : ItsX X w vb A.B
  l : LnsX X w vl A.L
  s : StsX X w vs A.K.D.S
  d : ItsX X w vd A.K.D.B
  t : StsX X w vt A.T.R
theorem LnsX.now {X : Nat → Prop} {w : World} {v : Value} {l : List Ln} (h : LnsX X w v l) : Lns w v l := Sv.now h
theorem rz_one {w : World} {v : Value} {n : Nat} {cs : List Value} (h : Rz w v n cs) : v.oneCell' = true := by
  obtain ⟨⟨A, c, rfl, _⟩, _⟩ := h
  rfl
section
variable {X : Nat → Prop} {w : World} {A : Ma} {vm vb vl vs vd vt : Value} (h : MaV X w A vm vb vl vs vd vt)
include h
theorem MaV.now : MaNow w A vm vb vl vs vd vt := ⟨h.m.now, h.b.now, h.l.now, h.s.now, h.d.now, h.t.now⟩
theorem MaV.below {w' : World} (hb : Below w.heap.size w w') : MaV X w' A vm vb vl vs vd vt := ⟨Sv.below h.m hb, Sv.below h.b hb, Sv.below h.l hb, Sv.below h.s hb, Sv.below h.d hb, Sv.below h.t hb⟩
theorem MaV.weak {Y : Nat → Prop} {w' : World} (hb : Below w.heap.size w w') (hY : ∀ b, b < w.heap.size → Y b → X b) : MaV Y w' A vm vb vl vs vd vt := ⟨Sv.weak h.m hb hY, Sv.weak h.b hb hY, Sv.weak h.l hb hY, Sv.weak h.s hb hY, Sv.weak h.d hb hY, Sv.weak h.t hb hY⟩
theorem MaV.x : MaX X w (.agg (A.cells vm vb vl vs vd vt).toArray) A := ⟨_, _, _, _, _, _, rfl, h.m, h.b, h.l, h.s, h.d, h.t⟩
theorem MaV.o1 : vm.oneCell' = true := rz_one h.m.now
theorem MaV.o2 : vb.oneCell' = true := rz_one h.b.now
theorem MaV.o3 : vl.oneCell' = true := rz_one h.l.now
theorem MaV.o4 : vs.oneCell' = true := rz_one h.s.now
theorem MaV.o5 : vd.oneCell' = true := rz_one h.d.now
theorem MaV.o6 : vt.oneCell' = true := rz_one h.t.now
end
theorem Sv.over18 {X : Nat → Prop} {B : Nat} {w w' : World} {v : Value} {n : Nat} {cs : List Value} (h : Sv X w v n cs) (hk : ∀ k, k ≠ B → w'.heap[k]? = w.heap[k]?) (hB : X B) : Sv X w' v n cs := h.off (fun b _ hx => hk b (fun e => hx (e ▸ hB))) (fun _ _ h => h)
end Go.Proofs.YtlegcfjafdihlaaGreatDoor
/-
  A region that draws its order, whose operations are quiet in a class of worlds, but for the last one, which waits for all others (a store at the end): walked once, in the order of the text, the last operation behind it in every world of the class.
-/
namespace Go.Proofs.YtlegcfjafdihlaaGreatDoor
open Go

/-- The operation's place in the order, without what it does. -/
def blank (o : Oper) : Oper := { o with op := .move (.const undef) }

structure LastOnly (md : Region.Mode) (ops ops' : Array Oper) (n : Nat) (s : Oper) : Prop where
  size : ops.size = n + 1
  size' : ops'.size = n + 1
  head : ∀ i, i < n → ops'[i]? = ops[i]?
  last : ops[n]? = some s
  last' : ops'[n]? = some (blank s)
  dst : s.dst = none
  sink : Region.sinkB md ops n = true
  chain : Region.chainB md ops n = true
  topo : ∀ i o, ops[i]? = some o → ∀ e ∈ o.after, Region.binds md e = true → e.on < i

theorem LastOnly.ready {md : Region.Mode} {ops ops' : Array Oper} {n : Nat} {s : Oper} (h : LastOnly md ops ops' n s) (listed : Array Bool) : Region.ready md ops' listed = Region.ready md ops listed := by
  unfold Region.ready
  rw [h.size, h.size']
  refine List.filter_congr fun i hi => ?_
  have hi' := List.mem_range.1 hi
  rcases Nat.lt_or_ge i n with k | k
  · rw [h.head i k]
  · obtain rfl : i = n := by omega
    rw [h.last, h.last']
    rfl
theorem LastOnly.yields {md : Region.Mode} {ops ops' : Array Oper} {n : Nat} {s : Oper} (h : LastOnly md ops ops' n s) (t : Array Value) (j : Nat) : yielded ops' t j = yielded ops t j := by
  have e : (ops'[j]?).bind (·.dst) = (ops[j]?).bind (·.dst) := by
    rcases Nat.lt_or_ge j n with k | k
    · rw [h.head j k]
    · rcases Nat.lt_or_ge n j with k' | k'
      · rw [Array.getElem?_eq_none (by rw [h.size']; omega), Array.getElem?_eq_none (by rw [h.size]; omega)]
      · obtain rfl : j = n := by omega
        rw [h.last, h.last']
        rfl
  unfold yielded
  rw [e]
theorem LastOnly.yields' {md : Region.Mode} {ops ops' : Array Oper} {n : Nat} {s : Oper} (h : LastOnly md ops ops' n s) (t : Array Value) : yielded ops' t = yielded ops t := funext (h.yields t)
theorem LastOnly.quiet {md : Region.Mode} {ops ops' : Array Oper} {n : Nat} {s : Oper} {P : Program} {C : World → Prop} (h : LastOnly md ops ops' n s) {i : Nat} (hi : i < n) {K : Act → Prop} {a : Act} (hq : qOp P ops' C i K a) : qOp P ops C i K a := by
  unfold qOp at *
  rw [h.head i hi, h.yields'] at hq
  exact hq

theorem least_open {listed : Array Bool} : ∀ n : Nat, listed.getD n true = false → ∃ i, i ≤ n ∧ listed.getD i true = false ∧ ∀ j, j < i → listed.getD j true = true := by
    intro n
    induction n using Nat.strongRecOn with
    | _ n ih =>
      intro h
      by_cases k : ∃ j, j < n ∧ listed.getD j true = false
      · obtain ⟨j, hj, hf⟩ := k
        obtain ⟨i, hi, h1, h2⟩ := ih j hj hf
        exact ⟨i, by omega, h1, h2⟩
      · refine ⟨n, Nat.le_refl _, h, fun j hj => ?_⟩
        cases hc : listed.getD j true
        · exact absurd ⟨j, hj, hc⟩ k
        · rfl
theorem LastOnly.ready_ne {md : Region.Mode} {ops ops' : Array Oper} {n : Nat} {s : Oper} (h : LastOnly md ops ops' n s) {listed : Array Bool} (inv : HeadInv md ops n listed) : Region.ready md ops listed ≠ [] := by
  obtain ⟨i, hi, h1, h2⟩ := least_open n (inv.tail n (Nat.le_refl _) (by rw [h.size]; omega))
  have hlt : i < ops.size := by rw [h.size]; omega
  have hm : i ∈ Region.ready md ops listed := mem_ready.2 ⟨h1, ops[i], Array.getElem?_eq_getElem hlt, fun e he hb => by
    have k := h.topo i _ (Array.getElem?_eq_getElem hlt) e he hb
    have k2 := h2 e.on k
    have hs : e.on < listed.size := by rw [inv.size]; omega
    simp [hs] at k2 ⊢
    exact k2⟩
  intro h0
  rw [h0] at hm
  cases hm

theorem LastOnly.any {md : Region.Mode} {ops ops' : Array Oper} {n : Nat} {s : Oper} {P : Program} {C : World → Prop} {Q : Exit → Act → World → Prop} (h : LastOnly md ops ops' n s) :
    ∀ (fuel : Nat) (listed : Array Bool) (a : Act) (w : World), HeadInv md ops n listed → C w → wpAnyQ P md ops' C (fun a' => ∀ w', C w' → wpList P ops Q [s] a' w') fuel listed a → wpAny P md ops Q fuel listed a w
  | 0, listed, a, w, inv, _, hq => absurd (by rw [← h.ready]; exact hq.1) (h.ready_ne inv)
  | fuel + 1, listed, a, w, inv, hw, hq => by
    refine ⟨fun h0 => absurd h0 (h.ready_ne inv), fun i hi => ?_⟩
    have hq' := hq.2 i (by rw [h.ready]; exact hi)
    obtain ⟨hun, oi, hoi, hall⟩ := mem_ready.1 hi
    have hlt : i < n + 1 := by rw [← h.size]; exact (Array.getElem?_eq_some_iff.1 hoi).1
    rcases Nat.lt_or_ge i n with k | k
    · exact wpOp_of_qOp hw (fun a' w' hw' hk => h.any fuel _ a' w' (inv.set hi k) hw' hk) (h.quiet k hq')
    · obtain rfl : i = n := by omega
      have hdone : ∀ j, j < i → listed.getD j true = true := fun j hj => by
        cases hc : listed.getD j true
        · exact absurd hi (tail_waits h.sink h.chain (by rw [h.size]; omega) inv _ j rfl hj hc i (Nat.le_refl _))
        · rfl
      have hnil : Region.ready md ops (listed.setIfInBounds i true) = [] := by
        refine List.eq_nil_iff_forall_not_mem.2 fun j hj => ?_
        obtain ⟨hu, oj, hoj, _⟩ := mem_ready.1 hj
        have hjl : j < i + 1 := by rw [← h.size]; exact (Array.getElem?_eq_some_iff.1 hoj).1
        by_cases hji : i = j
        · subst hji
          have hs : i < listed.size := by rw [inv.size, h.size]; omega
          simp [hs] at hu
        · rw [getD_set_ne true hji, hdone j (by omega)] at hu
          cases hu
      have hput : ∀ v, a.put none v = a := fun v => rfl
      have hQ : ∀ w', C w' → wpList P ops Q [s] a w' := by
        have hk : wpAnyQ P md ops' C (fun a' => ∀ w', C w' → wpList P ops Q [s] a' w') fuel (listed.setIfInBounds i true) a := by
          unfold qOp at hq'
          rw [h.last'] at hq'
          simp only at hq'
          have e : (blank s).dst = none := h.dst
          split at hq'
          · obtain ⟨v, _, hv⟩ := hq'
            rw [e, hput] at hv
            exact hv
          · rw [e, hput] at hq'
            exact hq'
        cases fuel with
        | zero => exact hk.2
        | succ f => exact hk.1 (by rw [h.ready]; exact hnil)
      have hw0 : wpOp P ops Q i (wpList P ops Q []) a w := by
        unfold wpOp
        simp only [h.last]
        exact hQ w hw
      refine wpOp_mono (fun a' w' hn => ?_) hw0
      have hn' : Q .normal a' w' := hn
      cases fuel with
      | zero => exact ⟨hnil, hn'⟩
      | succ f => exact ⟨fun _ => hn', fun j hj => by rw [hnil] at hj; cases hj⟩

end Go.Proofs.YtlegcfjafdihlaaGreatDoor
/-
  Rows of integers that a call made: copied; a byte set in it; a memory of zeros. Condition: lists have at most 2^40 elements; a byte is set in a list of words.
-/
namespace Go.Proofs.YtlegcfjafdihlaaGreatDoor
open Go.RowKit
set_option maxRecDepth 100000
set_option linter.unusedSimpArgs false
set_option linter.unusedVariables false
set_option maxHeartbeats 1000000
attribute [local irreducible] wpQuiet

/-- A row of the call's own, from block B on, that reads as l. -/
def Own (B : Nat) (w : World) (v : Value) (l : List Int) : Prop := w.ownsRow B 3 1 v l.length (l.map (Value.int .i64))
theorem Own.step {B : Nat} {w w' : World} {v : Value} {l : List Int} (h : Own B w v l) (hb : Below w.heap.size w w') : Own B w' v l := own_step h hb
theorem Own.nil (B : Nat) (w : World) : Own B w (.slice none 0 0) [] := World.ownsRow_nil _ _ _ _
theorem Own.form {B : Nat} {w : World} {v : Value} {l : List Int} (h : Own B w v l) (hl : 0 < l.length) : ∃ g cap, v = .slice (some ⟨g, 0, none⟩) l.length cap ∧ B ≤ g ∧ l.length ≤ cap ∧ g < w.heap.size := by
  rcases h.2 with ⟨_, h0⟩ | ⟨g, cap, cur, hv, hb, hh, hc, _⟩
  · omega
  · refine ⟨g, cap, hv, hb, hc, ?_⟩
    rcases Nat.lt_or_ge g w.heap.size with k | k
    · exact k
    · rw [Array.getElem?_eq_none k] at hh; cases hh
theorem Own.cell {B g cap : Nat} {w : World} {l : List Int} (h : Own B w (.slice (some ⟨g, 0, none⟩) l.length cap) l) {j : Nat} {x : Int} (hx : l[j]? = some x) : w.cell? ⟨g, j, none⟩ = some (.int .i64 x) := by
  have hj : j < l.length := (List.getElem?_eq_some_iff.1 hx).1
  rw [World.ownsRow.cellAt h j (by omega), List.getElem?_map, hx]; rfl
theorem Own.frozen {B g cap : Nat} {w : World} {l : List Int} (h : Own B w (.slice (some ⟨g, 0, none⟩) l.length cap) l) (j : Nat) : w.frozen? ⟨g, j, none⟩ = false := World.ownsRow.frozenAt h j
theorem Own.set {B g cap : Nat} {w : World} {l : List Int} (h : Own B w (.slice (some ⟨g, 0, none⟩) l.length cap) l) (j : Nat) (x : Int) : Own B (w.setCell ⟨g, j, none⟩ (.int .i64 x)) (.slice (some ⟨g, 0, none⟩) l.length cap) (l.set j x) := by
  unfold Own
  rw [List.length_set, List.map_set]
  exact (World.ownsRow.stored h j _).1
theorem Own.drew {B : Nat} {w : World} {v : Value} {l : List Int} (h : Own B w v l) : Own B w.drew v l := h
theorem Own.drewN {B : Nat} {w : World} {v : Value} {l : List Int} (h : Own B w v l) (n : Nat) : Own B (w.drewN n) v l := h
end Go.Proofs.YtlegcfjafdihlaaGreatDoor
/-
  Walks over with and without of package memory: an ascending list with an element put in or taken out. Condition: lists have at most 2^40 elements and ascend.
-/
namespace Go.Proofs.YtlegcfjafdihlaaGreatDoor
open Go.RowKit
set_option maxRecDepth 100000
set_option linter.unusedSimpArgs false
set_option linter.unusedVariables false
set_option maxHeartbeats 1000000
attribute [local irreducible] wpQuiet

theorem add_add (p : Addr) (k j : Nat) : (⟨p.block, p.off + (k + 1), none⟩ : Addr).add j = p.add (k + 1 + j) := by
  unfold Addr.add
  rw [if_neg (show ¬ k + 1 + j = 0 by omega)]
  split
  · next h => subst h; rfl
  · simp only [Addr.mk.injEq, true_and, and_true]; omega
end Go.Proofs.YtlegcfjafdihlaaGreatDoor
/-
  Walk over with of package memory: an ascending list with an element put in. Condition: the list has at most 2^40 elements and ascends.
-/
namespace Go.Proofs.YtlegcfjafdihlaaGreatDoor
open Go.RowKit
set_option maxRecDepth 100000
set_option linter.unusedSimpArgs false
set_option linter.unusedVariables false
set_option maxHeartbeats 1000000
attribute [local irreducible] wpQuiet

/-- What a copy reads. -/
def Src (A : Option Addr) (X : List Value) (w : World) : Prop := 0 < X.length → ∃ ad, A = some ad ∧ ∀ j v, X[j]? = some v → w.cell? (ad.add j) = some v
end Go.Proofs.YtlegcfjafdihlaaGreatDoor
/-
  Walks over Write of package memory and of its reference. Condition: lists have at most 2^40 elements, the words are words; for Write of memory, the bad addresses ascend.
-/
namespace Go.Proofs.YtlegcfjafdihlaaGreatDoor
open Go.RowKit
set_option maxRecDepth 100000
set_option linter.unusedSimpArgs false
set_option linter.unusedVariables false
set_option maxHeartbeats 1000000
attribute [local irreducible] wpQuiet

theorem Own.mono {B B' : Nat} {w : World} {v : Value} {l : List Int} (h : Own B w v l) (hb : B' ≤ B) : Own B' w v l := World.ownsRow.mono h hb
end Go.Proofs.YtlegcfjafdihlaaGreatDoor
/-
  low, Write of the reference. Condition: a valid machine.
-/
namespace Go.Proofs.YtlegcfjafdihlaaGreatDoor
open Go.RowKit
set_option linter.unusedSimpArgs false
set_option linter.unusedVariables false
set_option maxHeartbeats 4000000
set_option maxRecDepth 100000
attribute [local irreducible] wpQuiet

section
variable {X : Nat → Prop} {w : World} {A : Ma} {vm vb vl vs vd vt : Value}
theorem MaV.over {w' : World} {B : Nat} (h : MaV X w A vm vb vl vs vd vt) (hk : ∀ k, k ≠ B → w'.heap[k]? = w.heap[k]?) (hB : X B) : MaV X w' A vm vb vl vs vd vt := ⟨Sv.over18 h.m hk hB, Sv.over18 h.b hk hB, Sv.over18 h.l hk hB, Sv.over18 h.s hk hB, Sv.over18 h.d hk hB, Sv.over18 h.t hk hB⟩
theorem MaV.cone (h : MaV X w A vm vb vl vs vd vt) (hA : A.ok) : ∀ v ∈ A.cells vm vb vl vs vd vt, v.oneCell' = true := Ma.cone hA h.o1 h.o2 h.o3 h.o4 h.o5 h.o6
end
end Go.Proofs.YtlegcfjafdihlaaGreatDoor
/-
  Accept, Reset of the reference. Condition: a valid machine.
-/
namespace Go.Proofs.YtlegcfjafdihlaaGreatDoor
open Go.RowKit
set_option linter.unusedSimpArgs false
set_option linter.unusedVariables false
set_option maxHeartbeats 4000000
set_option maxRecDepth 100000
attribute [local irreducible] wpQuiet

section
variable {ops : Array Oper} {rest : List Oper} {o : Oper} {a : Act} {w w1 : World} {Q : Exit → Act → World → Prop}
end
theorem at_st {P : Program} {ops : Array Oper} {Q : Exit → Act → World → Prop} {a : Act} {w : World} {l : List Oper} (T : TypeId) {ty : TypeId} {x y : Operand} {dst : Option Tmp} {pos : String} {after : Array Edge} {g : Option (Nat × Bool)} (h : wpList P ops Q ({ dst := dst, op := .store T x y, type := ty, pos := pos, after := after, guard := g } :: l) a w) : wpList P ops Q ({ dst := dst, op := .store T x y, type := ty, pos := pos, after := after, guard := g } :: l) a w := h
theorem at_ld {P : Program} {ops : Array Oper} {Q : Exit → Act → World → Prop} {a : Act} {w : World} {l : List Oper} (T : TypeId) {ty : TypeId} {x : Operand} {dst : Option Tmp} {pos : String} {after : Array Edge} {g : Option (Nat × Bool)} (h : wpList P ops Q ({ dst := dst, op := .load T x, type := ty, pos := pos, after := after, guard := g } :: l) a w) : wpList P ops Q ({ dst := dst, op := .load T x, type := ty, pos := pos, after := after, guard := g } :: l) a w := h
end Go.Proofs.YtlegcfjafdihlaaGreatDoor
/-
  Results of a controller are valid: plain (out of stage 16's own text). No condition.
-/
namespace Go.Proofs.YtlegcfjafdihlaaGreatDoor
open Go.RowKit
set_option linter.unusedSimpArgs false
set_option linter.unusedVariables false
set_option maxHeartbeats 4000000
set_option maxRecDepth 100000
attribute [local irreducible] wpQuiet

/-- What a tick keeps. -/
structure Kept (K : Dk) (m B : List Int) (K2 : Dk) (m2 B2 : List Int) : Prop where
  right : K2.right = true
  mem : rightP m2 B2 = true
  ml : m2.length = m.length
  bl : B2.length ≤ B.length
  sl : K2.D.S.length = K.D.S.length
  db : K2.D.B = K.D.B
theorem Kept.refl {K : Dk} {m B : List Int} (h : K.right = true) (hm : rightP m B = true) : Kept K m B K m B := ⟨h, hm, rfl, Nat.le_refl _, rfl, rfl⟩
theorem Kept.trans {K1 K2 K3 : Dk} {m1 m2 m3 B1 B2 B3 : List Int} (h : Kept K1 m1 B1 K2 m2 B2) (h2 : Kept K2 m2 B2 K3 m3 B3) : Kept K1 m1 B1 K3 m3 B3 :=
  ⟨h2.right, h2.mem, h2.ml.trans h.ml, Nat.le_trans h2.bl h.bl, h2.sl.trans h.sl, h2.db.trans h.db⟩
end Go.Proofs.YtlegcfjafdihlaaGreatDoor
/-
  Walks over Bytes of package memory and of its reference. Condition: lists have at most 2^40 elements.
-/
namespace Go.Proofs.YtlegcfjafdihlaaGreatDoor
open Go.RowKit
set_option maxRecDepth 100000
set_option linter.unusedSimpArgs false
set_option linter.unusedVariables false
set_option maxHeartbeats 1000000
attribute [local irreducible] wpQuiet

/-- Byte j, as a cell. -/
def b8 (l : List Int) (a j : Nat) : Value := .int .u8 (byteN l (a + j))
end Go.Proofs.YtlegcfjafdihlaaGreatDoor
