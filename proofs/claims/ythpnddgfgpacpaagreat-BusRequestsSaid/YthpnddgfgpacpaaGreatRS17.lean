import Derived.StillTail
import Derived.Deep.Quiet
import Derived.Tactics
import Derived.Test.YthpnddgfgpacpaaGreatRS14
import Derived.Laws.CopyOwn
import Derived.Laws.OwnMore
import Derived.Deep.Onto
import Derived.Test.YthpnddgfgpacpaaGreatRS13
/-
  A region that draws its order, whose operations are quiet in a class of worlds, but for the last one, which waits for all others (a store at the end): walked once, in the order of the text, the last operation behind it in every world of the class.
-/
namespace Go.Proofs.YthpnddgfgpacpaaGreat
open Go

/-- The operation's place in the order, without what it does. -/
def blank (o : Oper) : Oper := { o with op := .move (.const undef) }

structure LastOnly (md : Region.Mode) (ops ops' : Array Oper) (n : Nat) (s : Oper) : Prop where
  size : ops.size = n + 1
  size' : ops'.size = n + 1
  head : ∀ i, i < n → ops'[i]? = ops[i]?
  last : ops[n]? = some s
  last' : ops'[n]? = some (blank s)
  dst : s.dst = none
  sink : Region.sinkB md ops n = true
  chain : Region.chainB md ops n = true
  topo : ∀ i o, ops[i]? = some o → ∀ e ∈ o.after, Region.binds md e = true → e.on < i

theorem LastOnly.ready {md : Region.Mode} {ops ops' : Array Oper} {n : Nat} {s : Oper} (h : LastOnly md ops ops' n s) (listed : Array Bool) : Region.ready md ops' listed = Region.ready md ops listed := by
  unfold Region.ready
  rw [h.size, h.size']
  refine List.filter_congr fun i hi => ?_
  have hi' := List.mem_range.1 hi
  rcases Nat.lt_or_ge i n with k | k
  · rw [h.head i k]
  · obtain rfl : i = n := by omega
    rw [h.last, h.last']
    rfl
theorem LastOnly.yields {md : Region.Mode} {ops ops' : Array Oper} {n : Nat} {s : Oper} (h : LastOnly md ops ops' n s) (t : Array Value) (j : Nat) : yielded ops' t j = yielded ops t j := by
  have e : (ops'[j]?).bind (·.dst) = (ops[j]?).bind (·.dst) := by
    rcases Nat.lt_or_ge j n with k | k
    · rw [h.head j k]
    · rcases Nat.lt_or_ge n j with k' | k'
      · rw [Array.getElem?_eq_none (by rw [h.size']; omega), Array.getElem?_eq_none (by rw [h.size]; omega)]
      · obtain rfl : j = n := by omega
        rw [h.last, h.last']
        rfl
  unfold yielded
  rw [e]
theorem LastOnly.yields' {md : Region.Mode} {ops ops' : Array Oper} {n : Nat} {s : Oper} (h : LastOnly md ops ops' n s) (t : Array Value) : yielded ops' t = yielded ops t := funext (h.yields t)
theorem LastOnly.quiet {md : Region.Mode} {ops ops' : Array Oper} {n : Nat} {s : Oper} {P : Program} {C : World → Prop} (h : LastOnly md ops ops' n s) {i : Nat} (hi : i < n) {K : Act → Prop} {a : Act} (hq : qOp P ops' C i K a) : qOp P ops C i K a := by
  unfold qOp at *
  rw [h.head i hi, h.yields'] at hq
  exact hq

theorem least_open {listed : Array Bool} : ∀ n : Nat, listed.getD n true = false → ∃ i, i ≤ n ∧ listed.getD i true = false ∧ ∀ j, j < i → listed.getD j true = true := by
    intro n
    induction n using Nat.strongRecOn with
    | _ n ih =>
      intro h
      by_cases k : ∃ j, j < n ∧ listed.getD j true = false
      · obtain ⟨j, hj, hf⟩ := k
        obtain ⟨i, hi, h1, h2⟩ := ih j hj hf
        exact ⟨i, by omega, h1, h2⟩
      · refine ⟨n, Nat.le_refl _, h, fun j hj => ?_⟩
        cases hc : listed.getD j true
        · exact absurd ⟨j, hj, hc⟩ k
        · rfl
theorem LastOnly.ready_ne {md : Region.Mode} {ops ops' : Array Oper} {n : Nat} {s : Oper} (h : LastOnly md ops ops' n s) {listed : Array Bool} (inv : HeadInv md ops n listed) : Region.ready md ops listed ≠ [] := by
  obtain ⟨i, hi, h1, h2⟩ := least_open n (inv.tail n (Nat.le_refl _) (by rw [h.size]; omega))
  have hlt : i < ops.size := by rw [h.size]; omega
  have hm : i ∈ Region.ready md ops listed := mem_ready.2 ⟨h1, ops[i], Array.getElem?_eq_getElem hlt, fun e he hb => by
    have k := h.topo i _ (Array.getElem?_eq_getElem hlt) e he hb
    have k2 := h2 e.on k
    have hs : e.on < listed.size := by rw [inv.size]; omega
    simp [hs] at k2 ⊢
    exact k2⟩
  intro h0
  rw [h0] at hm
  cases hm

theorem LastOnly.any {md : Region.Mode} {ops ops' : Array Oper} {n : Nat} {s : Oper} {P : Program} {C : World → Prop} {Q : Exit → Act → World → Prop} (h : LastOnly md ops ops' n s) :
    ∀ (fuel : Nat) (listed : Array Bool) (a : Act) (w : World), HeadInv md ops n listed → C w → wpAnyQ P md ops' C (fun a' => ∀ w', C w' → wpList P ops Q [s] a' w') fuel listed a → wpAny P md ops Q fuel listed a w
  | 0, listed, a, w, inv, _, hq => absurd (by rw [← h.ready]; exact hq.1) (h.ready_ne inv)
  | fuel + 1, listed, a, w, inv, hw, hq => by
    refine ⟨fun h0 => absurd h0 (h.ready_ne inv), fun i hi => ?_⟩
    have hq' := hq.2 i (by rw [h.ready]; exact hi)
    obtain ⟨hun, oi, hoi, hall⟩ := mem_ready.1 hi
    have hlt : i < n + 1 := by rw [← h.size]; exact (Array.getElem?_eq_some_iff.1 hoi).1
    rcases Nat.lt_or_ge i n with k | k
    · exact wpOp_of_qOp hw (fun a' w' hw' hk => h.any fuel _ a' w' (inv.set hi k) hw' hk) (h.quiet k hq')
    · obtain rfl : i = n := by omega
      have hdone : ∀ j, j < i → listed.getD j true = true := fun j hj => by
        cases hc : listed.getD j true
        · exact absurd hi (tail_waits h.sink h.chain (by rw [h.size]; omega) inv _ j rfl hj hc i (Nat.le_refl _))
        · rfl
      have hnil : Region.ready md ops (listed.setIfInBounds i true) = [] := by
        refine List.eq_nil_iff_forall_not_mem.2 fun j hj => ?_
        obtain ⟨hu, oj, hoj, _⟩ := mem_ready.1 hj
        have hjl : j < i + 1 := by rw [← h.size]; exact (Array.getElem?_eq_some_iff.1 hoj).1
        by_cases hji : i = j
        · subst hji
          have hs : i < listed.size := by rw [inv.size, h.size]; omega
          simp [hs] at hu
        · rw [getD_set_ne true hji, hdone j (by omega)] at hu
          cases hu
      have hput : ∀ v, a.put none v = a := fun v => rfl
      have hQ : ∀ w', C w' → wpList P ops Q [s] a w' := by
        have hk : wpAnyQ P md ops' C (fun a' => ∀ w', C w' → wpList P ops Q [s] a' w') fuel (listed.setIfInBounds i true) a := by
          unfold qOp at hq'
          rw [h.last'] at hq'
          simp only at hq'
          have e : (blank s).dst = none := h.dst
          split at hq'
          · obtain ⟨v, _, hv⟩ := hq'
            rw [e, hput] at hv
            exact hv
          · rw [e, hput] at hq'
            exact hq'
        cases fuel with
        | zero => exact hk.2
        | succ f => exact hk.1 (by rw [h.ready]; exact hnil)
      have hw0 : wpOp P ops Q i (wpList P ops Q []) a w := by
        unfold wpOp
        simp only [h.last]
        exact hQ w hw
      refine wpOp_mono (fun a' w' hn => ?_) hw0
      have hn' : Q .normal a' w' := hn
      cases fuel with
      | zero => exact ⟨hnil, hn'⟩
      | succ f => exact ⟨fun _ => hn', fun j hj => by rw [hnil] at hj; cases hj⟩

def topoB (md : Region.Mode) (ops : List Oper) : Bool := (List.range ops.length).all fun i => (((ops[i]?).map fun o => o.after.toList.all fun e => !Region.binds md e || decide (e.on < i)).getD true)
theorem topoB_spec {md : Region.Mode} {l : List Oper} (h : topoB md l = true) : ∀ i o, l.toArray[i]? = some o → ∀ e ∈ o.after, Region.binds md e = true → e.on < i := by
  intro i o ho e he hb
  have ho' : l[i]? = some o := by simpa using ho
  have hlt : i < l.length := (List.getElem?_eq_some_iff.1 ho').1
  have k := List.all_eq_true.1 h i (List.mem_range.2 hlt)
  rw [ho'] at k
  simp only [Option.map_some, Option.getD_some] at k
  have k2 := List.all_eq_true.1 k e (by simpa using he)
  rw [hb] at k2
  simpa using k2

/-- The last operation of a list of operations, blanked. -/
def blankLast (l : List Oper) (n : Nat) : List Oper := l.take n ++ (l.drop n).map blank

theorem region_class_last {P : Program} {id : Nat} {Q : Exit → Act → World → Prop} {a : Act} {w : World} {l : List Oper} (C : World → Prop) (n : Nat) (s : Oper) (hm : P.follows .mixedOrders = true)
    (hl : l.length = n + 1) (hs : l[n]? = some s) (hd : s.dst = none) (hS : Region.sinkB .any l.toArray n = true) (hT : topoB .any l = true) (hB : Region.lexB .any (blankLast l n).toArray = true) (hC : C w.drew)
    (h : wpQuiet P (blankLast l n).toArray C (fun a' => ∀ w', C w' → wpList P l.toArray Q [s] a' w') (blankLast l n) a) : (Code.region id l.toArray true).wp P Q a w := by
  have hdrop : l.drop n = [s] := by
    have hn : n < l.length := by omega
    rw [List.drop_eq_getElem_cons hn, List.drop_eq_nil_of_le (by omega)]
    rw [List.getElem?_eq_getElem hn] at hs
    rw [Option.some.inj hs]
  have hbl : blankLast l n = l.take n ++ [blank s] := by unfold blankLast; rw [hdrop]; rfl
  have htl : (l.take n).length = n := by simp; omega
  have L : LastOnly .any l.toArray (blankLast l n).toArray n s :=
    { size := by simpa using hl
      size' := by rw [hbl]; simp; omega
      head := fun i hi => by
        rw [hbl]
        simp only [List.getElem?_toArray]
        rw [List.getElem?_append_left (by omega), List.getElem?_take_of_lt hi]
      last := by simpa using hs
      last' := by
        rw [hbl]
        simp only [List.getElem?_toArray]
        rw [List.getElem?_append_right (by omega), htl]
        simp
      dst := hd
      sink := hS
      chain := by
        unfold Region.chainB
        refine List.all_eq_true.2 fun t ht => ?_
        have := List.mem_range.1 ht
        have e : l.toArray.size = n + 1 := by simpa using hl
        rw [e] at this
        simp; omega
      topo := topoB_spec hT }
  have hsz : (blankLast l n).length = l.toArray.size := by rw [hbl]; simp; omega
  simp only [Region.lexB, Bool.and_eq_true] at hB
  have H := wpAnyQ_lex (C := C) (md := .any) hB.1 (blankLast l n) 0 (Array.replicate (blankLast l n).toArray.size false) a (by simp) (by simpa using hB.2) h
  refine wp_region_any hm ?_
  have inv0 : HeadInv .any l.toArray n (Array.replicate l.toArray.size false) :=
    ⟨by simp, fun j oj _ hl => (by rw [getD_replicate_false] at hl; cases hl), fun t _ ht => getD_in (by simpa using ht) (getD_replicate_false _ _)⟩
  refine L.any _ _ a _ inv0 hC ?_
  have e : (blankLast l n).toArray.size = l.toArray.size := by simpa using hsz
  rw [e, hsz] at H
  exact H
end Go.Proofs.YthpnddgfgpacpaaGreat
/-
  Rows of integers that a call made: copied; a byte set in it; a memory of zeros. Condition: lists have at most 2^40 elements; a byte is set in a list of words.
-/
namespace Go.Proofs.YthpnddgfgpacpaaGreat
open Go.RowKit
set_option maxRecDepth 100000
set_option linter.unusedSimpArgs false
set_option linter.unusedVariables false
set_option maxHeartbeats 1000000
attribute [local irreducible] wpQuiet

theorem info64 : (Tryz.prog.info? 3).map (fun i => (i.zero, i.size, i.bytes)) = some (some (.int .i64 0), 1, 8) := by kernel_rfl

/-- A row of the call's own, from block B on, that reads as l. -/
def Own (B : Nat) (w : World) (v : Value) (l : List Int) : Prop := w.ownsRow B 3 1 v l.length (l.map (Value.int .i64))
theorem Own.step {B : Nat} {w w' : World} {v : Value} {l : List Int} (h : Own B w v l) (hb : Below w.heap.size w w') : Own B w' v l := own_step h hb
theorem Own.nil (B : Nat) (w : World) : Own B w (.slice none 0 0) [] := World.ownsRow_nil _ _ _ _
theorem Own.form {B : Nat} {w : World} {v : Value} {l : List Int} (h : Own B w v l) (hl : 0 < l.length) : ∃ g cap, v = .slice (some ⟨g, 0, none⟩) l.length cap ∧ B ≤ g ∧ l.length ≤ cap ∧ g < w.heap.size := by
  rcases h.2 with ⟨_, h0⟩ | ⟨g, cap, cur, hv, hb, hh, hc, _⟩
  · omega
  · refine ⟨g, cap, hv, hb, hc, ?_⟩
    rcases Nat.lt_or_ge g w.heap.size with k | k
    · exact k
    · rw [Array.getElem?_eq_none k] at hh; cases hh
theorem Own.cell {B g cap : Nat} {w : World} {l : List Int} (h : Own B w (.slice (some ⟨g, 0, none⟩) l.length cap) l) {j : Nat} {x : Int} (hx : l[j]? = some x) : w.cell? ⟨g, j, none⟩ = some (.int .i64 x) := by
  have hj : j < l.length := (List.getElem?_eq_some_iff.1 hx).1
  rw [World.ownsRow.cellAt h j (by omega), List.getElem?_map, hx]; rfl
theorem Own.frozen {B g cap : Nat} {w : World} {l : List Int} (h : Own B w (.slice (some ⟨g, 0, none⟩) l.length cap) l) (j : Nat) : w.frozen? ⟨g, j, none⟩ = false := World.ownsRow.frozenAt h j
theorem Own.set {B g cap : Nat} {w : World} {l : List Int} (h : Own B w (.slice (some ⟨g, 0, none⟩) l.length cap) l) (j : Nat) (x : Int) : Own B (w.setCell ⟨g, j, none⟩ (.int .i64 x)) (.slice (some ⟨g, 0, none⟩) l.length cap) (l.set j x) := by
  unfold Own
  rw [List.length_set, List.map_set]
  exact (World.ownsRow.stored h j _).1
theorem Own.drew {B : Nat} {w : World} {v : Value} {l : List Int} (h : Own B w v l) : Own B w.drew v l := h
theorem Own.drewN {B : Nat} {w : World} {v : Value} {l : List Int} (h : Own B w v l) (n : Nat) : Own B (w.drewN n) v l := h
theorem own_row {B g : Nat} {w : World} {l : List Int} {X : List Value} (hX : X = l.map (Value.int .i64)) (h : w.heap[g]? = some (.cells X.toArray 3 (0, 0))) (hb : B ≤ g) (hl : l.length ≤ 1099511627776) : Own B w (.slice (some ⟨g, 0, none⟩) l.length l.length) l := by
  subst hX
  exact ⟨by simp, .inr ⟨g, l.length, _, rfl, hb, h, Nat.le_refl _, by unfold maxLen; omega, by simp, by rw [List.take_of_length_le (by simp)]⟩⟩
theorem row_made (w : World) (n : Nat) : (w.alloc (.cells (madeCells #[.int .i64 0] n) 3)).heap[w.heap.size]? = some (.cells (List.replicate n (Value.int .i64 0)).toArray 3 (0, 0)) := by
  rw [heap_alloc_new]
  rw [← toList_madeCells_one]
theorem splice_all {n : Nat} {z : Value} {X : List Value} (h : X.length = n) : splice (List.replicate n z) 0 X = X := by
  simp [splice, h]
theorem one_ints (l : List Int) : ∀ v ∈ l.map (Value.int .i64), v.oneCell' = true := by
  intro v hv
  obtain ⟨x, _, rfl⟩ := List.mem_map.1 hv
  rfl
theorem nums_cells {w : World} {A : Option Addr} {k c : Nat} {l : List Int} (hc : ∀ j x, l[j]? = some x → ∃ a : Addr, A = some a ∧ w.cell? (a.add j) = some (.int .i64 x) ∧ (a.add j).block < w.heap.size) {w' : World} (hb : Below w.heap.size w w')
    {X : List Value} (hX : X = l.map (Value.int .i64)) : ∀ j v, X[j]? = some v → ∃ a : Addr, A = some a ∧ w'.cell? (a.add j) = some v := by
  subst hX
  intro j v hv
  rw [List.getElem?_map] at hv
  cases hx : l[j]? with
  | none => rw [hx] at hv; cases hv
  | some x =>
    rw [hx] at hv
    obtain ⟨a, ha, h1, h2⟩ := hc j x hx
    have hvx : Value.int .i64 x = v := Option.some.inj hv
    exact ⟨a, ha, by rw [← hvx]; exact (hb.cell h2).trans h1⟩

theorem copied_any (v : Value) (l : List Int) (hl : l.length ≤ 1099511627776) (w : World) (hv : Nums .i64 w v l) :
    Calls Tryz.prog 132 #[v] w fun e w' => ∃ r, e = .returned r ∧ Own w.heap.size w' r l ∧ Below w.heap.size w w' := by
  obtain ⟨A, c, rfl, hlc, hc⟩ := hv
  have hmk := run_make_row' (P := Tryz.prog) 26 3 (.int .i64 0) 8 Tryz.underlying26 info64 rfl .i64 .i64 l.length (by omega) (by omega)
  have hB : Below w.heap.size w (w.alloc (.cells (madeCells #[.int .i64 0] l.length) 3)) := (Below.refl _ _).alloc (Nat.le_refl _) _
  obtain ⟨X, hX⟩ : ∃ X, X = l.map (Value.int .i64) := ⟨_, rfl⟩
  have hcells := nums_cells (k := 0) (c := c) hc hB hX
  have hXl : X.length = l.length := by rw [hX, List.length_map]
  have hX1 : ∀ v ∈ X, v.oneCell' = true := by rw [hX]; exact one_ints l
  have hpos : 0 < X.length → (some (⟨w.heap.size, 0, none⟩ : Addr)) = some ⟨w.heap.size, 0, none⟩ ∧ ∃ ad, A = some ad ∧ ∀ j v, X[j]? = some v → (w.alloc (.cells (madeCells #[.int .i64 0] l.length) 3)).cell? (ad.add j) = some v := by
    intro h0
    obtain ⟨ad, had, _⟩ := hcells 0 X[0] (List.getElem?_eq_getElem h0)
    refine ⟨rfl, ad, had, fun j v hv => ?_⟩
    obtain ⟨a2, ha2, h⟩ := hcells j v hv
    rw [had] at ha2
    rw [Option.some.inj ha2]; exact h
  have hX := hid hX
  clear hc hcells
  go_enter Tryz.func132, Tryz.ntmps132
  go_wp2_with (with_reducible refine wpList_copy_splice rfl (.tmp 7) (.tmp 8) 26 26 rfl 3 Tryz.underlying26 (by kernel_rfl) (some ⟨w.heap.size, 0, none⟩) A l.length l.length l.length c rfl rfl w.heap.size 0 (List.replicate l.length (.int .i64 0)) 3 (row_made _ _) X (by rw [hXl]; exact (Nat.min_self _).symm) hpos (by rw [List.length_replicate]; omega) hX1 w.heap.size w hB (Nat.le_refl _) ?_; intro w2 HG HB)
  go_ret
  refine ⟨_, rfl, own_row hX ?_ (Nat.le_refl _) hl, HB⟩
  have h := HG
  unfold Hid RowKit.Hid at h
  rw [splice_all hXl] at h
  exact h
end Go.Proofs.YthpnddgfgpacpaaGreat
/-
  A byte set in a row of a call's own, and New, of package memory and of its reference. Condition: lists have at most 2^40 elements; a byte is set in a list of words.
-/
namespace Go.Proofs.YthpnddgfgpacpaaGreat
open Go.RowKit
set_option maxRecDepth 100000
set_option linter.unusedSimpArgs false
set_option linter.unusedVariables false
set_option maxHeartbeats 1000000
attribute [local irreducible] wpQuiet

/-! ### Bits -/
theorem N64_small {x : Int} (h0 : 0 ≤ x) (h1 : x ≤ 65535) : N64 x = x.toNat := by have := N64_eq x; omega
theorem or_hi {h l : Int} (h0 : 0 ≤ h) (h1 : h ≤ 255) (l0 : 0 ≤ l) (l1 : l ≤ 255) : bits .or .i64 (h * 256) l = h * 256 + l := by
  have e1 : N64 (h * 256) = 2 ^ 8 * h.toNat := by have := N64_eq (h * 256); omega
  have e2 : N64 l = l.toNat := by have := N64_eq l; omega
  rw [or_def, e1, e2, ← Nat.two_pow_add_eq_or_of_lt (by omega), small (by omega)]
  omega
theorem or_lo {h l : Int} (h0 : 0 ≤ h) (h1 : h ≤ 255) (l0 : 0 ≤ l) (l1 : l ≤ 255) : bits .or .i64 l (h * 256) = h * 256 + l := by
  have e1 : N64 (h * 256) = 2 ^ 8 * h.toNat := by have := N64_eq (h * 256); omega
  have e2 : N64 l = l.toNat := by have := N64_eq l; omega
  rw [or_def, e1, e2, Nat.or_comm, ← Nat.two_pow_add_eq_or_of_lt (by omega), small (by omega)]
  omega
theorem and_cut {x M : Nat} (h : x ≤ 65535) : x &&& M = x &&& (65535 &&& M) := by
  rw [← Nat.and_assoc, m65535, Nat.mod_eq_of_lt (by omega)]
theorem m65280 {x : Nat} (h : x ≤ 65535) : x &&& 65280 = x / 256 * 256 := by
  have e : (65280 : Nat) = (2 ^ 8 - 1) * 2 ^ 8 := rfl
  rw [e, field]
  omega
theorem n255 {x : Int} (h0 : 0 ≤ x) (h1 : x ≤ 65535) : bits .andNot .i64 x 255 = x / 256 * 256 := by
  rw [andNot_def, N64_small h0 h1, show N64 255 = 255 by decide, and_cut (by omega), show 65535 &&& (18446744073709551615 - 255) = 65280 by decide, m65280 (by omega), small (by omega)]
  omega
theorem n65280 {x : Int} (h0 : 0 ≤ x) (h1 : x ≤ 65535) : bits .andNot .i64 x 65280 = x % 256 := by
  rw [andNot_def, N64_small h0 h1, show N64 65280 = 65280 by decide, and_cut (by omega), show 65535 &&& (18446744073709551615 - 65280) = 255 by decide, m255, small (by omega)]
  omega

/-! ### A byte is set -/
theorem own_tail {base g cap : Nat} {w w4 : World} {l : List Int} (h : Own base w (.slice (some ⟨g, 0, none⟩) l.length cap) l) (hg : base ≤ g) (k : Nat) (x : Int) (hb : Below base w w4) (ho : Own base w4 (.slice (some ⟨g, 0, none⟩) l.length cap) l) :
    Own base (w4.setCell ⟨g, k, none⟩ (.int .i64 x)) (.slice (some ⟨g, 0, none⟩) l.length cap) (l.set k x) ∧ Below base w (w4.setCell ⟨g, k, none⟩ (.int .i64 x)) :=
  ⟨ho.set k x, hb.setCell hg _⟩
theorem setN_even {l : List Int} {a : Nat} {x v : Int} (h : a % 2 = 0) (hx : l[a / 2]? = some x) : setN l a v = l.set (a / 2) (x / 256 * 256 + v % 256) := by
  unfold setN; rw [getD_at hx, h]; rfl
theorem setN_odd {l : List Int} {a : Nat} {x v : Int} (h : a % 2 = 1) (hx : l[a / 2]? = some x) : setN l a v = l.set (a / 2) (v % 256 * 256 + x % 256) := by
  unfold setN; rw [getD_at hx, h]; rfl

set_option maxHeartbeats 4000000 in
theorem setbyte_any (base : Nat) (r : Value) (l : List Int) (hl : l.length ≤ 1099511627776) (hw : wordsB l = true) (a : Nat) (ha : a < 2 * l.length) (v : Int) (w : World) (ho : Own base w r l) :
    Calls Tryz.prog 133 #[r, .int .i64 (a : Int), .int .i64 v] w fun e w' => e = .returned (.tuple #[]) ∧ Own base w' r (setN l a v) ∧ Below base w w' := by
  obtain ⟨g, cap, rfl, hg, hcap, hgl⟩ := ho.form (by omega)
  have hk : a / 2 < l.length := by omega
  have hx := List.getElem?_eq_getElem hk
  have hxb := (wordsB_iff l).1 hw _ (List.getElem_mem hk)
  have e0 := fun h => setN_even (a := a) (v := v) h hx
  have e1 := fun h => setN_odd (a := a) (v := v) h hx
  have hst := fun k x w4 (hb : Below base w w4) (h4 : Own base w4 (.slice (some ⟨g, 0, none⟩) l.length cap) l) => own_tail ho hg k x hb h4
  generalize l[a / 2] = x at *
  obtain ⟨hx0, hx1⟩ := hxb
  have hsh := fun w => shift_any a (by omega) w
  have A0 := a255 v
  have N0 := n255 hx0 hx1
  have N1 := n65280 hx0 hx1
  have O0 := or_hi (h := x / 256) (l := v % 256) (by omega) (by omega) (by omega) (by omega)
  have O1 := or_lo (h := v % 256) (l := x % 256) (by omega) (by omega) (by omega) (by omega)
  have hv0 : 0 ≤ v % 256 ∧ v % 256 ≤ 255 := by omega
  have hi : (a : Int) / 2 = ((a / 2 : Nat) : Int) := by omega
  have hx := hid hx
  rcases Nat.mod_two_eq_zero_or_one a with h | h
  · have hm : (a : Int) % 2 * 8 = 0 := by omega
    rw [hm] at hsh
    rw [e0 h]
    clear e0 e1 h hm O1 N1 hw
    generalize v % 256 = y at *
    generalize hj : a / 2 = j at *
    have hj := hid hj
    go_enter Tryz.func133, Tryz.ntmps133
    go_wp2
    refine region_class_last (fun w' => Below base w w' ∧ Own base w' (.slice (some ⟨g, 0, none⟩) l.length cap) l) 15 _ (by kernel_rfl) (by rfl) (by rfl) (by rfl) (by kernel_rfl) (by kernel_rfl) (by kernel_rfl) ⟨(Below.refl _ _).drew, ho.drew⟩ ?_
    simp only [blankLast, List.take_succ_cons, List.take_zero, List.drop_succ_cons, List.drop_zero, List.map_cons, List.map_nil, List.cons_append, List.nil_append, blank]
    repeat
      first
        | (refine BigFrame.wpQuiet_skip (by rfl) ?_
           simp only [Act.put, List.setIfInBounds_toArray, List.set_cons_zero, List.set_cons_succ])
        | (refine BigFrame.wpQuiet_want (by rfl) (fun K hK => ?_)
           apply Exists.intro
           refine ⟨fun wq hq => ?_, hK _ ?_⟩
           · obtain ⟨hqb, hqo⟩ := hq
             have c0 := hqo.cell hx
             unfold Oper.quietAt
             go_simp
             first
               | with_reducible rfl
               | ((go_at_call 127); with_reducible refine (hsh _).mono ?_; exact fun e w' ⟨he, hb⟩ => ⟨he, by rw [← hb]; exact ⟨hqb, hqo⟩⟩)
           clear hK K
           simp only [Act.put, List.setIfInBounds_toArray, List.set_cons_zero, List.set_cons_succ])
    refine wpQuiet_nil ?_
    intro w4 hX
    obtain ⟨hqb, hqo⟩ := hX
    have c0 := hqo.cell hx
    have z0 := hqo.frozen j
    have hfin := hst j (x / 256 * 256 + y) w4 hqb hqo
    go_wp2
    rw [N0, O0]
    exact bodyPost_end (v := .tuple #[]) (by simp [results, Tryz.results133, go_sem]) rfl ⟨rfl, hfin.1, hfin.2⟩
  · have hm : (a : Int) % 2 * 8 = 8 := by omega
    rw [hm] at hsh
    rw [e1 h]
    clear e0 e1 h hm O0 N0 hw
    generalize v % 256 = y at *
    generalize hj : a / 2 = j at *
    have hj := hid hj
    go_enter Tryz.func133, Tryz.ntmps133
    go_wp2
    refine region_class_last (fun w' => Below base w w' ∧ Own base w' (.slice (some ⟨g, 0, none⟩) l.length cap) l) 15 _ (by kernel_rfl) (by rfl) (by rfl) (by rfl) (by kernel_rfl) (by kernel_rfl) (by kernel_rfl) ⟨(Below.refl _ _).drew, ho.drew⟩ ?_
    simp only [blankLast, List.take_succ_cons, List.take_zero, List.drop_succ_cons, List.drop_zero, List.map_cons, List.map_nil, List.cons_append, List.nil_append, blank]
    repeat
      first
        | (refine BigFrame.wpQuiet_skip (by rfl) ?_
           simp only [Act.put, List.setIfInBounds_toArray, List.set_cons_zero, List.set_cons_succ])
        | (refine BigFrame.wpQuiet_want (by rfl) (fun K hK => ?_)
           apply Exists.intro
           refine ⟨fun wq hq => ?_, hK _ ?_⟩
           · obtain ⟨hqb, hqo⟩ := hq
             have c0 := hqo.cell hx
             unfold Oper.quietAt
             go_simp
             first
               | with_reducible rfl
               | ((go_at_call 127); with_reducible refine (hsh _).mono ?_; exact fun e w' ⟨he, hb⟩ => ⟨he, by rw [← hb]; exact ⟨hqb, hqo⟩⟩)
           clear hK K
           simp only [Act.put, List.setIfInBounds_toArray, List.set_cons_zero, List.set_cons_succ])
    refine wpQuiet_nil ?_
    intro w4 hX
    obtain ⟨hqb, hqo⟩ := hX
    have c0 := hqo.cell hx
    have z0 := hqo.frozen j
    have hfin := hst j (y * 256 + x % 256) w4 hqb hqo
    go_wp2
    rw [N1, O1]
    exact bodyPost_end (v := .tuple #[]) (by simp [results, Tryz.results133, go_sem]) rfl ⟨rfl, hfin.1, hfin.2⟩

theorem made_own (w : World) (k : Nat) (hk : k ≤ 1099511627776) : Own w.heap.size (w.alloc (.cells (madeCells #[.int .i64 0] k) 3)) (.slice (some ⟨w.heap.size, 0, none⟩) k k) (List.replicate k 0) := by
  have h := own_row (B := w.heap.size) (l := List.replicate k 0) (X := List.replicate k (Value.int .i64 0)) (by rw [List.map_replicate]) (row_made w k) (Nat.le_refl _) (by rw [List.length_replicate]; exact hk)
  rw [List.length_replicate] at h
  exact h
theorem rnew_any (n : Int) (w : World) : Calls Tryz.prog 66 #[.int .i64 n] w fun e w' => ∃ r, e = .returned (.tuple #[r, .int .i64 (newE n)]) ∧ Own w.heap.size w' r (newL n) ∧ Below w.heap.size w w' := by
  have ha := fun w => size_any n w
  unfold newE newL
  cases hq : okS n
  · rw [hq] at ha
    clear hq
    go_enter Tryz.func66, Tryz.ntmps66
    go_wp2_with (first | (go_at_call 76; with_reducible refine (ha _).mono ?_; rintro e w' ⟨rfl, rfl⟩))
    go_ret2
    exact ⟨_, rfl, Own.nil _ _, Below.refl _ _⟩
  · rw [hq] at ha
    obtain ⟨h0, h1, h2⟩ := okS_iff.1 hq
    obtain ⟨k, hk⟩ := Int.eq_ofNat_of_zero_le (show 0 ≤ n / 2 by omega)
    have hmk := run_make_row' (P := Tryz.prog) 26 3 (.int .i64 0) 8 Tryz.underlying26 info64 rfl .i64 .i64 k (by omega) (by omega)
    have hown := made_own w k (by omega)
    have hB : Below w.heap.size w (w.alloc (.cells (madeCells #[.int .i64 0] k) 3)) := (Below.refl _ _).alloc (Nat.le_refl _) _
    simp only [if_true]
    rw [hk, Int.toNat_natCast]
    clear hq h2
    go_enter Tryz.func66, Tryz.ntmps66
    go_wp2_with (first | (go_at_call 76; with_reducible refine (ha _).mono ?_; rintro e w' ⟨rfl, rfl⟩))
    go_ret2
    exact ⟨_, rfl, hown, hB⟩
end Go.Proofs.YthpnddgfgpacpaaGreat
/-
  Lists that ascend, plain: where a search ends; an element taken out, put in. No condition.
-/
namespace Go.Proofs.YthpnddgfgpacpaaGreat
set_option linter.unusedSimpArgs false
set_option linter.unusedVariables false

theorem no_mem {x : Int} {l : List Int} (h : l.contains x = false) : ∀ y ∈ l, y ≠ x := by
  intro y hy e
  subst e
  rw [List.contains_iff_mem.2 hy] at h
  cases h
theorem without_no {x : Int} {l : List Int} (h : l.contains x = false) : withoutP l x = l := by
  unfold withoutP
  rw [List.filter_eq_self]
  intro y hy
  simpa using no_mem h y hy
theorem ge_no {x : Int} {r : List Int} (h : ∀ y ∈ r, x < y) : r.filter (fun y => y != x) = r := by
  rw [List.filter_eq_self]
  intro y hy
  have := h y hy
  simp; omega
theorem without_low (x : Int) : ∀ (l : List Int), l.Pairwise (· < ·) → l.contains x = true → withoutP l x = l.take (lowN l x) ++ l.drop (lowN l x + 1) ∧ lowN l x < l.length
  | [], _, h => by simp at h
  | a :: r, hs, h => by
    have hs' := List.pairwise_cons.1 hs
    by_cases hax : a < x
    · have hr : r.contains x = true := by
        rw [List.contains_cons] at h
        have : (x == a) = false := by simp; omega
        rw [this] at h; exact h
      obtain ⟨h1, h2⟩ := without_low x r hs'.2 hr
      rw [low_lt hax]
      refine ⟨?_, by simp; omega⟩
      unfold withoutP at h1 ⊢
      rw [List.filter_cons_of_pos (by simp; omega), h1]
      rfl
    · have hxa : x = a := by
        rcases List.mem_cons.1 (List.contains_iff_mem.1 h) with e | e
        · exact e
        · have := hs'.1 x e; omega
      subst hxa
      rw [low_ge hs hax]
      refine ⟨?_, by simp⟩
      unfold withoutP
      rw [List.filter_cons_of_neg (by simp), ge_no hs'.1]
      rfl
theorem splice_two {α : Type} (Z X Y : List α) (h : Z.length = X.length + Y.length) : splice (splice Z 0 X) X.length Y = X ++ Y := by
  have e1 : splice Z 0 X = X ++ Z.drop X.length := by simp [splice]
  rw [e1]
  unfold splice
  rw [List.take_left, List.drop_eq_nil_of_le (by simp; omega), List.append_nil]
end Go.Proofs.YthpnddgfgpacpaaGreat
