import Derived.StillTail
import Derived.Deep.Quiet
import Derived.Tactics
import Derived.Test.YtlegcfjafdihlaaGreatDoorZC10
import Derived.Laws.CopyOwn
import Derived.Laws.OwnMore
import Derived.Deep.Onto
import Derived.Deep.RegionLaw
import Derived.Test.YtlegcfjafdihlaaGreatDoorZC11
import Derived.Test.YtlegcfjafdihlaaGreatDoorZC09
import Derived.Test.YtlegcfjafdihlaaGreatDoorZC06
/-
  A region that draws its order, whose operations are quiet in a class of worlds, but for the last one, which waits for all others (a store at the end): walked once, in the order of the text, the last operation behind it in every world of the class.
-/
namespace Go.Proofs.YtlegcfjafdihlaaGreatDoor
open Go

/-- The operation's place in the order, without what it does. -/
def blank (o : Oper) : Oper := { o with op := .move (.const undef) }

structure LastOnly (md : Region.Mode) (ops ops' : Array Oper) (n : Nat) (s : Oper) : Prop where
  size : ops.size = n + 1
  size' : ops'.size = n + 1
  head : ∀ i, i < n → ops'[i]? = ops[i]?
  last : ops[n]? = some s
  last' : ops'[n]? = some (blank s)
  dst : s.dst = none
  sink : Region.sinkB md ops n = true
  chain : Region.chainB md ops n = true
  topo : ∀ i o, ops[i]? = some o → ∀ e ∈ o.after, Region.binds md e = true → e.on < i

theorem LastOnly.ready {md : Region.Mode} {ops ops' : Array Oper} {n : Nat} {s : Oper} (h : LastOnly md ops ops' n s) (listed : Array Bool) : Region.ready md ops' listed = Region.ready md ops listed := by
  unfold Region.ready
  rw [h.size, h.size']
  refine List.filter_congr fun i hi => ?_
  have hi' := List.mem_range.1 hi
  rcases Nat.lt_or_ge i n with k | k
  · rw [h.head i k]
  · obtain rfl : i = n := by omega
    rw [h.last, h.last']
    rfl
theorem LastOnly.yields {md : Region.Mode} {ops ops' : Array Oper} {n : Nat} {s : Oper} (h : LastOnly md ops ops' n s) (t : Array Value) (j : Nat) : yielded ops' t j = yielded ops t j := by
  have e : (ops'[j]?).bind (·.dst) = (ops[j]?).bind (·.dst) := by
    rcases Nat.lt_or_ge j n with k | k
    · rw [h.head j k]
    · rcases Nat.lt_or_ge n j with k' | k'
      · rw [Array.getElem?_eq_none (by rw [h.size']; omega), Array.getElem?_eq_none (by rw [h.size]; omega)]
      · obtain rfl : j = n := by omega
        rw [h.last, h.last']
        rfl
  unfold yielded
  rw [e]
theorem LastOnly.yields' {md : Region.Mode} {ops ops' : Array Oper} {n : Nat} {s : Oper} (h : LastOnly md ops ops' n s) (t : Array Value) : yielded ops' t = yielded ops t := funext (h.yields t)
theorem LastOnly.quiet {md : Region.Mode} {ops ops' : Array Oper} {n : Nat} {s : Oper} {P : Program} {C : World → Prop} (h : LastOnly md ops ops' n s) {i : Nat} (hi : i < n) {K : Act → Prop} {a : Act} (hq : qOp P ops' C i K a) : qOp P ops C i K a := by
  unfold qOp at *
  rw [h.head i hi, h.yields'] at hq
  exact hq

theorem least_open {listed : Array Bool} : ∀ n : Nat, listed.getD n true = false → ∃ i, i ≤ n ∧ listed.getD i true = false ∧ ∀ j, j < i → listed.getD j true = true := by
    intro n
    induction n using Nat.strongRecOn with
    | _ n ih =>
      intro h
      by_cases k : ∃ j, j < n ∧ listed.getD j true = false
      · obtain ⟨j, hj, hf⟩ := k
        obtain ⟨i, hi, h1, h2⟩ := ih j hj hf
        exact ⟨i, by omega, h1, h2⟩
      · refine ⟨n, Nat.le_refl _, h, fun j hj => ?_⟩
        cases hc : listed.getD j true
        · exact absurd ⟨j, hj, hc⟩ k
        · rfl
theorem LastOnly.ready_ne {md : Region.Mode} {ops ops' : Array Oper} {n : Nat} {s : Oper} (h : LastOnly md ops ops' n s) {listed : Array Bool} (inv : HeadInv md ops n listed) : Region.ready md ops listed ≠ [] := by
  obtain ⟨i, hi, h1, h2⟩ := least_open n (inv.tail n (Nat.le_refl _) (by rw [h.size]; omega))
  have hlt : i < ops.size := by rw [h.size]; omega
  have hm : i ∈ Region.ready md ops listed := mem_ready.2 ⟨h1, ops[i], Array.getElem?_eq_getElem hlt, fun e he hb => by
    have k := h.topo i _ (Array.getElem?_eq_getElem hlt) e he hb
    have k2 := h2 e.on k
    have hs : e.on < listed.size := by rw [inv.size]; omega
    simp [hs] at k2 ⊢
    exact k2⟩
  intro h0
  rw [h0] at hm
  cases hm

theorem LastOnly.any {md : Region.Mode} {ops ops' : Array Oper} {n : Nat} {s : Oper} {P : Program} {C : World → Prop} {Q : Exit → Act → World → Prop} (h : LastOnly md ops ops' n s) :
    ∀ (fuel : Nat) (listed : Array Bool) (a : Act) (w : World), HeadInv md ops n listed → C w → wpAnyQ P md ops' C (fun a' => ∀ w', C w' → wpList P ops Q [s] a' w') fuel listed a → wpAny P md ops Q fuel listed a w
  | 0, listed, a, w, inv, _, hq => absurd (by rw [← h.ready]; exact hq.1) (h.ready_ne inv)
  | fuel + 1, listed, a, w, inv, hw, hq => by
    refine ⟨fun h0 => absurd h0 (h.ready_ne inv), fun i hi => ?_⟩
    have hq' := hq.2 i (by rw [h.ready]; exact hi)
    obtain ⟨hun, oi, hoi, hall⟩ := mem_ready.1 hi
    have hlt : i < n + 1 := by rw [← h.size]; exact (Array.getElem?_eq_some_iff.1 hoi).1
    rcases Nat.lt_or_ge i n with k | k
    · exact wpOp_of_qOp hw (fun a' w' hw' hk => h.any fuel _ a' w' (inv.set hi k) hw' hk) (h.quiet k hq')
    · obtain rfl : i = n := by omega
      have hdone : ∀ j, j < i → listed.getD j true = true := fun j hj => by
        cases hc : listed.getD j true
        · exact absurd hi (tail_waits h.sink h.chain (by rw [h.size]; omega) inv _ j rfl hj hc i (Nat.le_refl _))
        · rfl
      have hnil : Region.ready md ops (listed.setIfInBounds i true) = [] := by
        refine List.eq_nil_iff_forall_not_mem.2 fun j hj => ?_
        obtain ⟨hu, oj, hoj, _⟩ := mem_ready.1 hj
        have hjl : j < i + 1 := by rw [← h.size]; exact (Array.getElem?_eq_some_iff.1 hoj).1
        by_cases hji : i = j
        · subst hji
          have hs : i < listed.size := by rw [inv.size, h.size]; omega
          simp [hs] at hu
        · rw [getD_set_ne true hji, hdone j (by omega)] at hu
          cases hu
      have hput : ∀ v, a.put none v = a := fun v => rfl
      have hQ : ∀ w', C w' → wpList P ops Q [s] a w' := by
        have hk : wpAnyQ P md ops' C (fun a' => ∀ w', C w' → wpList P ops Q [s] a' w') fuel (listed.setIfInBounds i true) a := by
          unfold qOp at hq'
          rw [h.last'] at hq'
          simp only at hq'
          have e : (blank s).dst = none := h.dst
          split at hq'
          · obtain ⟨v, _, hv⟩ := hq'
            rw [e, hput] at hv
            exact hv
          · rw [e, hput] at hq'
            exact hq'
        cases fuel with
        | zero => exact hk.2
        | succ f => exact hk.1 (by rw [h.ready]; exact hnil)
      have hw0 : wpOp P ops Q i (wpList P ops Q []) a w := by
        unfold wpOp
        simp only [h.last]
        exact hQ w hw
      refine wpOp_mono (fun a' w' hn => ?_) hw0
      have hn' : Q .normal a' w' := hn
      cases fuel with
      | zero => exact ⟨hnil, hn'⟩
      | succ f => exact ⟨fun _ => hn', fun j hj => by rw [hnil] at hj; cases hj⟩

end Go.Proofs.YtlegcfjafdihlaaGreatDoor
/-
  Rows of integers that a call made: copied; a byte set in it; a memory of zeros. Condition: lists have at most 2^40 elements; a byte is set in a list of words.
-/
namespace Go.Proofs.YtlegcfjafdihlaaGreatDoor
open Go.RowKit
set_option maxRecDepth 100000
set_option linter.unusedSimpArgs false
set_option linter.unusedVariables false
set_option maxHeartbeats 1000000
attribute [local irreducible] wpQuiet

/-- A row of the call's own, from block B on, that reads as l. -/
def Own (B : Nat) (w : World) (v : Value) (l : List Int) : Prop := w.ownsRow B 3 1 v l.length (l.map (Value.int .i64))
theorem Own.step {B : Nat} {w w' : World} {v : Value} {l : List Int} (h : Own B w v l) (hb : Below w.heap.size w w') : Own B w' v l := own_step h hb
theorem Own.nil (B : Nat) (w : World) : Own B w (.slice none 0 0) [] := World.ownsRow_nil _ _ _ _
theorem Own.form {B : Nat} {w : World} {v : Value} {l : List Int} (h : Own B w v l) (hl : 0 < l.length) : ∃ g cap, v = .slice (some ⟨g, 0, none⟩) l.length cap ∧ B ≤ g ∧ l.length ≤ cap ∧ g < w.heap.size := by
  rcases h.2 with ⟨_, h0⟩ | ⟨g, cap, cur, hv, hb, hh, hc, _⟩
  · omega
  · refine ⟨g, cap, hv, hb, hc, ?_⟩
    rcases Nat.lt_or_ge g w.heap.size with k | k
    · exact k
    · rw [Array.getElem?_eq_none k] at hh; cases hh
theorem Own.cell {B g cap : Nat} {w : World} {l : List Int} (h : Own B w (.slice (some ⟨g, 0, none⟩) l.length cap) l) {j : Nat} {x : Int} (hx : l[j]? = some x) : w.cell? ⟨g, j, none⟩ = some (.int .i64 x) := by
  have hj : j < l.length := (List.getElem?_eq_some_iff.1 hx).1
  rw [World.ownsRow.cellAt h j (by omega), List.getElem?_map, hx]; rfl
theorem Own.frozen {B g cap : Nat} {w : World} {l : List Int} (h : Own B w (.slice (some ⟨g, 0, none⟩) l.length cap) l) (j : Nat) : w.frozen? ⟨g, j, none⟩ = false := World.ownsRow.frozenAt h j
theorem Own.set {B g cap : Nat} {w : World} {l : List Int} (h : Own B w (.slice (some ⟨g, 0, none⟩) l.length cap) l) (j : Nat) (x : Int) : Own B (w.setCell ⟨g, j, none⟩ (.int .i64 x)) (.slice (some ⟨g, 0, none⟩) l.length cap) (l.set j x) := by
  unfold Own
  rw [List.length_set, List.map_set]
  exact (World.ownsRow.stored h j _).1
theorem Own.drew {B : Nat} {w : World} {v : Value} {l : List Int} (h : Own B w v l) : Own B w.drew v l := h
theorem Own.drewN {B : Nat} {w : World} {v : Value} {l : List Int} (h : Own B w v l) (n : Nat) : Own B (w.drewN n) v l := h
end Go.Proofs.YtlegcfjafdihlaaGreatDoor
/-
  Walks over with and without of package memory: an ascending list with an element put in or taken out. Condition: lists have at most 2^40 elements and ascend.
-/
namespace Go.Proofs.YtlegcfjafdihlaaGreatDoor
open Go.RowKit
set_option maxRecDepth 100000
set_option linter.unusedSimpArgs false
set_option linter.unusedVariables false
set_option maxHeartbeats 1000000
attribute [local irreducible] wpQuiet

theorem add_add (p : Addr) (k j : Nat) : (⟨p.block, p.off + (k + 1), none⟩ : Addr).add j = p.add (k + 1 + j) := by
  unfold Addr.add
  rw [if_neg (show ¬ k + 1 + j = 0 by omega)]
  split
  · next h => subst h; rfl
  · simp only [Addr.mk.injEq, true_and, and_true]; omega
end Go.Proofs.YtlegcfjafdihlaaGreatDoor
/-
  Walk over with of package memory: an ascending list with an element put in. Condition: the list has at most 2^40 elements and ascends.
-/
namespace Go.Proofs.YtlegcfjafdihlaaGreatDoor
open Go.RowKit
set_option maxRecDepth 100000
set_option linter.unusedSimpArgs false
set_option linter.unusedVariables false
set_option maxHeartbeats 1000000
attribute [local irreducible] wpQuiet

/-- What a copy reads. -/
def Src (A : Option Addr) (X : List Value) (w : World) : Prop := 0 < X.length → ∃ ad, A = some ad ∧ ∀ j v, X[j]? = some v → w.cell? (ad.add j) = some v
end Go.Proofs.YtlegcfjafdihlaaGreatDoor
/-
  Walks over Write of package memory and of its reference. Condition: lists have at most 2^40 elements, the words are words; for Write of memory, the bad addresses ascend.
-/
namespace Go.Proofs.YtlegcfjafdihlaaGreatDoor
open Go.RowKit
set_option maxRecDepth 100000
set_option linter.unusedSimpArgs false
set_option linter.unusedVariables false
set_option maxHeartbeats 1000000
attribute [local irreducible] wpQuiet

theorem Own.mono {B B' : Nat} {w : World} {v : Value} {l : List Int} (h : Own B w v l) (hb : B' ≤ B) : Own B' w v l := World.ownsRow.mono h hb
end Go.Proofs.YtlegcfjafdihlaaGreatDoor
/-
  low, Write of the reference. Condition: a valid machine.
-/
namespace Go.Proofs.YtlegcfjafdihlaaGreatDoor
open Go.RowKit
set_option linter.unusedSimpArgs false
set_option linter.unusedVariables false
set_option maxHeartbeats 4000000
set_option maxRecDepth 100000
attribute [local irreducible] wpQuiet

section
variable {X : Nat → Prop} {w : World} {A : Ma} {vm vb vl vs vd vt : Value}
theorem MaV.over {w' : World} {B : Nat} (h : MaV X w A vm vb vl vs vd vt) (hk : ∀ k, k ≠ B → w'.heap[k]? = w.heap[k]?) (hB : X B) : MaV X w' A vm vb vl vs vd vt := ⟨Sv.over18 h.m hk hB, Sv.over18 h.b hk hB, Sv.over18 h.l hk hB, Sv.over18 h.s hk hB, Sv.over18 h.d hk hB, Sv.over18 h.t hk hB⟩
theorem MaV.cone (h : MaV X w A vm vb vl vs vd vt) (hA : A.ok) : ∀ v ∈ A.cells vm vb vl vs vd vt, v.oneCell' = true := Ma.cone hA h.o1 h.o2 h.o3 h.o4 h.o5 h.o6
end
theorem siz_sI18 (w : World) : (sizeOf 31).run Tryz.prog w = .ok 1 w := by kernel_rfl
end Go.Proofs.YtlegcfjafdihlaaGreatDoor
/-
  Accept, Reset of the reference. Condition: a valid machine.
-/
namespace Go.Proofs.YtlegcfjafdihlaaGreatDoor
open Go.RowKit
set_option linter.unusedSimpArgs false
set_option linter.unusedVariables false
set_option maxHeartbeats 4000000
set_option maxRecDepth 100000
attribute [local irreducible] wpQuiet

theorem add018 (B j : Nat) : (⟨B, 0, none⟩ : Addr).add j = ⟨B, j, none⟩ := by unfold Addr.add; split <;> simp_all
section
variable {ops : Array Oper} {rest : List Oper} {o : Oper} {a : Act} {w w1 : World} {Q : Exit → Act → World → Prop}
end
theorem at_st {P : Program} {ops : Array Oper} {Q : Exit → Act → World → Prop} {a : Act} {w : World} {l : List Oper} (T : TypeId) {ty : TypeId} {x y : Operand} {dst : Option Tmp} {pos : String} {after : Array Edge} {g : Option (Nat × Bool)} (h : wpList P ops Q ({ dst := dst, op := .store T x y, type := ty, pos := pos, after := after, guard := g } :: l) a w) : wpList P ops Q ({ dst := dst, op := .store T x y, type := ty, pos := pos, after := after, guard := g } :: l) a w := h
theorem at_ld {P : Program} {ops : Array Oper} {Q : Exit → Act → World → Prop} {a : Act} {w : World} {l : List Oper} (T : TypeId) {ty : TypeId} {x : Operand} {dst : Option Tmp} {pos : String} {after : Array Edge} {g : Option (Nat × Bool)} (h : wpList P ops Q ({ dst := dst, op := .load T x, type := ty, pos := pos, after := after, guard := g } :: l) a w) : wpList P ops Q ({ dst := dst, op := .load T x, type := ty, pos := pos, after := after, guard := g } :: l) a w := h
end Go.Proofs.YtlegcfjafdihlaaGreatDoor
/-
  Results of a controller are valid: plain (out of stage 16's own text). No condition.
-/
namespace Go.Proofs.YtlegcfjafdihlaaGreatDoor
open Go.RowKit
set_option linter.unusedSimpArgs false
set_option linter.unusedVariables false
set_option maxHeartbeats 4000000
set_option maxRecDepth 100000
attribute [local irreducible] wpQuiet

/-- What a tick keeps. -/
structure Kept (K : Dk) (m B : List Int) (K2 : Dk) (m2 B2 : List Int) : Prop where
  right : K2.right = true
  mem : rightP m2 B2 = true
  ml : m2.length = m.length
  bl : B2.length ≤ B.length
  sl : K2.D.S.length = K.D.S.length
  db : K2.D.B = K.D.B
theorem Kept.refl {K : Dk} {m B : List Int} (h : K.right = true) (hm : rightP m B = true) : Kept K m B K m B := ⟨h, hm, rfl, Nat.le_refl _, rfl, rfl⟩
theorem Kept.trans {K1 K2 K3 : Dk} {m1 m2 m3 B1 B2 B3 : List Int} (h : Kept K1 m1 B1 K2 m2 B2) (h2 : Kept K2 m2 B2 K3 m3 B3) : Kept K1 m1 B1 K3 m3 B3 :=
  ⟨h2.right, h2.mem, h2.ml.trans h.ml, Nat.le_trans h2.bl h.bl, h2.sl.trans h.sl, h2.db.trans h.db⟩
end Go.Proofs.YtlegcfjafdihlaaGreatDoor
/-
  SameTexts, Same, passed, back, appended of the reference. Condition: at most 2^40 records; the head is on the tape.
-/
namespace Go.Proofs.YtlegcfjafdihlaaGreatDoor
open Go.RowKit
set_option linter.unusedSimpArgs false
set_option linter.unusedVariables false
set_option maxHeartbeats 4000000
set_option maxRecDepth 100000
attribute [local irreducible] wpQuiet

theorem rsameS_any (L : List ByteArray) (hl : L.length ≤ 1099511627776) (v v2 : Value) (w : World) (h1 : Sts w v L) (h2 : Sts w v2 L) : Calls Tryz.prog 128 #[v, v2] w fun e' w' => e' = .returned (.bool true) ∧ Below w.heap.size w w' := by
  obtain ⟨A, c, rfl, _, hc⟩ := h1.form
  obtain ⟨A2, c2, rfl, _, hc2⟩ := h2.form
  have hB := Below.refl w.heap.size w
  clear h1 h2
  go_enter Tryz.func128, Tryz.ntmps128
  go_wp2
  go_loopw [5] (fun iv wr => ∃ i : Nat, i ≤ L.length ∧ iv = .int .i64 i ∧ Below w.heap.size w wr) (fun i _ => match i with | .int _ q => L.length - q.toNat | _ => 0)
  case atStart => exact ⟨0, Nat.zero_le _, rfl, hB⟩
  case round =>
    clear hB
    obtain ⟨i, hi, rfl, hB⟩ := hrel
    by_cases hin : i < L.length
    · have hii : (i : Int) < (L.length : Int) := by omega
      have hx := List.getElem?_eq_getElem hin
      generalize L[i] = x at *
      obtain ⟨a, rfl, hL⟩ := hc i x hx
      obtain ⟨a2, rfl, hL2⟩ := hc2 i x hx
      clear hx hc hc2
      go_wp2
      refine region_class (fun w' => Below w.heap.size w w') (by kernel_rfl) (by kernel_rfl) hB.drew ?_
      repeat
        first
          | (refine BigFrame.wpQuiet_skip (by rfl) ?_
             simp only [Act.put, List.setIfInBounds_toArray, List.set_cons_zero, List.set_cons_succ])
          | (refine BigFrame.wpQuiet_want (by rfl) (fun K hK => ?_)
             apply Exists.intro
             refine ⟨fun wq hq => ?_, hK _ ?_⟩
             · first
                 | (refine quiet_load 9 _ _ _ rfl rfl (hL _ hq))
                 | (refine quiet_load 9 _ _ _ rfl rfl (hL2 _ hq))
                 | (unfold Oper.quietAt
                    go_simp
                    first
                      | with_reducible rfl
                   )
             clear hK K
             simp only [Act.put, List.setIfInBounds_toArray, List.set_cons_zero, List.set_cons_succ])
      refine wpQuiet_nil ?_
      intro w4 hB
      go_wp2
      exact ⟨⟨i + 1, by omega, by go_num, hB⟩, by simp only; omega⟩
    · have hii : ¬ (i : Int) < (L.length : Int) := by omega
      clear hc hc2
      go_wp2
      go_ret
      exact ⟨rfl, hB⟩
theorem rsameT_any (K : Tp) (hl : K.R.length ≤ 1099511627776) (v v2 : Value) (w : World) (h1 : Sts w v K.R) (h2 : Sts w v2 K.R) : Calls Tryz.prog 90 #[.agg #[v, .int .i64 (K).p, .bool (K).n, .bool (K).r, .bool (K).e, .bool (K).m, .bool (K).d, .int .i64 (K).c, .int .i64 (K).k, .int .i64 (K).a, .int .i64 (K).l], .agg #[v2, .int .i64 (K).p, .bool (K).n, .bool (K).r, .bool (K).e, .bool (K).m, .bool (K).d, .int .i64 (K).c, .int .i64 (K).k, .int .i64 (K).a, .int .i64 (K).l]] w fun e' w' => e' = .returned (.bool true) ∧ Below w.heap.size w w' := by
  have hst := fun w' (h : Below w.heap.size w w') => rsameS_any K.R hl v v2 w' (Rz.below h1 h) (Rz.below h2 h)
  obtain ⟨A, c1, rfl, _⟩ := h1.form
  obtain ⟨A2, c2, rfl, _⟩ := h2.form
  obtain ⟨R, p, n, r, e, m, d, c, k, a, l⟩ := K
  dsimp only at *
  have hX := two_tp w [(.slice A R.length c1), .int .i64 p, .bool n, .bool r, .bool e, .bool m, .bool d, .int .i64 c, .int .i64 k, .int .i64 a, .int .i64 l] [(.slice A2 R.length c2), .int .i64 p, .bool n, .bool r, .bool e, .bool m, .bool d, .int .i64 c, .int .i64 k, .int .i64 a, .int .i64 l]
  clear h1 h2
  go_enter Tryz.func90, Tryz.ntmps90
  go_wp2_with (first | ((with_reducible refine at_load ?_); refine wpList_bag_cell hX int_cell _ rfl rfl rfl rfl (by first | exact .head _ | exact .tail _ (.head _)) rfl ?_) | ((with_reducible refine at_load ?_); refine wpList_bag_cell hX bool_cell _ rfl rfl rfl rfl (by first | exact .head _ | exact .tail _ (.head _)) rfl ?_) | ((with_reducible refine at_load ?_); refine wpList_bag_cell hX slS_cell _ rfl rfl rfl rfl (by first | exact .head _ | exact .tail _ (.head _)) rfl ?_) | (go_at_call 128; (with_reducible refine (hst _ hX.below).mono ?_); rintro e' w' ⟨rfl, hbb⟩; replace hX := hX.step hbb; clear hbb))
  go_ret
  exact ⟨by simp, hX.below⟩
end Go.Proofs.YtlegcfjafdihlaaGreatDoor
