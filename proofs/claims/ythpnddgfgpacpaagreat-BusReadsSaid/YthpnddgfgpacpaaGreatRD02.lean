import Derived.Test.YthpnddgfgpacpaaGreatRD00
import Derived.WalkKit
import Derived.WalkSpells
import Derived.WalkLawsBesides
import Derived.Deep.RegionHeld3
import Derived.Deep.DeepCutAuto
import Derived.Deep.QuietTactic
import Derived.BigQuiet
import Derived.KernelRfl
import Derived.StillTail
import Derived.Deep.Quiet
import Derived.Tactics
/-
  The calls of the reference of package mmu that take no unit. No condition but that numbers are integers of the machine.
-/
namespace Go.Proofs.YthpnddgfgpacpaaGreat
open Go.RowKit
set_option linter.unusedSimpArgs false
set_option linter.unusedVariables false
set_option maxHeartbeats 1000000

def Hid_9 (p : Prop) : Prop := p
theorem hid_9 {p : Prop} (h : p) : Hid_9 p := h
theorem ret_bool_9 {a b : Bool} (h : a = b) : Ending.returned (.bool a) = .returned (.bool b) := by rw [h]
/-- The fault of an access to a page. -/
def fltP (p : Pg) (o : Int) (w : Bool) : Int := if p.a = 0 then 1 else if p.l ≤ o / 64 then 2 else if w = true ∧ p.a ≠ 2 then 3 else 0
end Go.Proofs.YthpnddgfgpacpaaGreat
/-
  A region that draws its order, whose operations are quiet in a class of worlds, but for the last ones, each of which waits for all before it (a literal of a slice that is built and assigned at the end): walked once, in the order of the text, the last operations behind it in every world of the class.
-/
namespace Go.Proofs.YthpnddgfgpacpaaGreat
open Go

section
variable {P : Program} {ops : Array Oper} {md : Region.Mode} {C : World → Prop}

def wpAnyT (P : Program) (md : Region.Mode) (ops : Array Oper) (C : World → Prop) (n : Nat) (L : Array Bool → Act → Prop) : Nat → Array Bool → Act → Prop
  | 0, listed, a => L listed a
  | f + 1, listed, a =>
    Region.ready md ops listed ≠ [] ∧ ∀ i ∈ Region.ready md ops listed, i < n ∧ qOp P ops C i (wpAnyT P md ops C n L f (listed.setIfInBounds i true)) a

theorem wpAny_of_headT {n g : Nat} {L : Array Bool → Act → Prop} {Q' : Exit → Act → World → Prop} (hL : ∀ listed a w, C w → L listed a → wpAny P md ops Q' g listed a w) :
    ∀ (f : Nat) (listed : Array Bool) (a : Act) (w : World), C w → wpAnyT P md ops C n L f listed a → wpAny P md ops Q' (f + g) listed a w
  | 0, listed, a, w, hw, h => by rw [Nat.zero_add]; exact hL _ _ _ hw h
  | f + 1, listed, a, w, hw, h => by
    rw [show f + 1 + g = (f + g) + 1 by omega]
    exact ⟨fun h0 => absurd h0 h.1, fun i hi => wpOp_of_qOp hw (fun a' w' hw' h' => wpAny_of_headT hL f _ a' w' hw' h') (h.2 i hi).2⟩

theorem wpAnyT_first {n i : Nat} {oi : Oper} {v : Value} {L : Array Bool → Act → Prop} (hi : ops[i]? = some oi) (hsel : ∀ (j : Nat) (o : Oper) cs b, ops[j]? = some o → o.op ≠ .select cs b)
    (hs : Region.sinkB md ops n = true) (hc : Region.chainB md ops n = true) (hn : n < ops.size) (hin : i < n)
    (hdone : ∀ listed a, L listed a → ∀ j ∈ Region.ready md ops listed, n ≤ j) :
    ∀ (f : Nat) (listed : Array Bool) (a : Act), HeadInv md ops n listed →
      (∀ j oj, ops[j]? = some oj → j ≠ i → listed.getD j true = false → (∀ e ∈ oj.after, Region.binds md e = true → e.on ≠ i) → oi.apart ops oj = true) →
      i ∈ Region.ready md ops listed → YieldsIn P ops C oi v a →
      wpAnyT P md ops C n L f (listed.setIfInBounds i true) (a.put oi.dst v) → wpAnyT P md ops C n L (f + 1) listed a := by
  intro f
  induction f with
  | zero =>
    intro listed a inv _ hr hy H
    have hun := (mem_ready.1 hr).1
    refine ⟨fun h => (by rw [h] at hr; cases hr), fun j hj => ?_⟩
    have hjn : j < n := by
      rcases Nat.lt_or_ge j n with h | h
      · exact h
      · exact absurd hj (tail_waits hs hc hn inv _ i rfl hin hun j h)
    refine ⟨hjn, ?_⟩
    by_cases hji : j = i
    · subst hji; exact hy.qOp hi H
    · have := hdone _ _ H j (ready_mono hj hji)
      omega
  | succ f ih =>
    intro listed a inv hfree hr hy H
    have hun := (mem_ready.1 hr).1
    refine ⟨fun h => (by rw [h] at hr; cases hr), fun j hj => ?_⟩
    have hjn : j < n := by
      rcases Nat.lt_or_ge j n with h | h
      · exact h
      · exact absurd hj (tail_waits hs hc hn inv _ i rfl hin hun j h)
    refine ⟨hjn, ?_⟩
    by_cases hji : j = i
    · subst hji; exact hy.qOp hi H
    · have h1 := (H.2 j (ready_mono hj hji)).2
      obtain ⟨hjun, oj, hoj, hall⟩ := mem_ready.1 hj
      have hnot : ∀ e ∈ oj.after, Region.binds md e = true → e.on ≠ i := fun e he hb heq => by
        have h1 := hall e he hb
        rw [heq, getD_both hun] at h1
        cases h1
      have h2 := qOp_put hoj (hfree j oj hoj hji hjun hnot) (fun cs b => hsel i oi cs b hi) (fun cs b => hsel j oj cs b hoj) hy h1
      have hfree' : ∀ k ok, ops[k]? = some ok → k ≠ i → (listed.setIfInBounds j true).getD k true = false →
          (∀ e ∈ ok.after, Region.binds md e = true → e.on ≠ i) → oi.apart ops ok = true := fun k ok hk hki hun hno => by
        refine hfree k ok hk hki ?_ hno
        by_cases hjk : j = k
        · subst hjk; exact hjun
        · rw [getD_set_ne true hjk] at hun; exact hun
      refine qOp_mono (fun a' h3 => ih (listed.setIfInBounds j true) a' (inv.set hj hjn) hfree' (ready_mono hr (Ne.symm hji)) h3.1 ?_) h2
      rw [Array.setIfInBounds_comm _ _ hji]
      exact h3.2

theorem wpAnyT_lex {n g : Nat} {Lq : Act → Prop} (hsel : Region.noSelect ops = true) (hs : Region.sinkB md ops n = true) (hc : Region.chainB md ops n = true) (hn : n < ops.size) :
    ∀ (l : List Oper) (k : Nat) (listed : Array Bool) (a : Act), (∀ j, j < l.length → l[j]? = ops[k + j]?) → k + l.length = n → HeadInv md ops n listed →
    Region.lexHead md ops g l.length k listed = true → wpQuiet P ops C Lq l a →
    wpAnyT P md ops C n (fun listed' a' => Region.seqB md ops g n listed' = true ∧ Lq a') l.length listed a
  | [], k, listed, a, _, hk, _, hB, h => by
    have : k = n := by simpa using hk
    subst this
    exact ⟨by simpa [Region.lexHead] using hB, h⟩
  | o :: l, k, listed, a, hl, hk, inv, hB, h => by
    have h0 : ops[k]? = some o := by simpa using (hl 0 (by simp)).symm
    simp only [List.length_cons, Region.lexHead, Bool.and_eq_true] at hB
    obtain ⟨⟨hr, hf⟩, hB'⟩ := hB
    have hkn : k < n := by simp only [List.length_cons] at hk; omega
    have hr' : k ∈ Region.ready md ops listed := by simpa using hr
    have hst : qOp P ops C k (wpQuiet P ops C Lq l) a := by unfold qOp; simp only [h0]; exact h
    obtain ⟨v, hy, hK⟩ := yieldsIn_of_qOp h0 hst
    exact wpAnyT_first h0 (Region.noSelect_spec hsel) hs hc hn hkn (fun listed' a' hL => seqB_ready hL.1) l.length listed a inv (Region.free_spec h0 hf) hr' hy
      (wpAnyT_lex hsel hs hc hn l (k + 1) _ _ (fun j hj => by have := hl (j + 1) (by simp; omega); simpa [Nat.add_assoc, Nat.add_comm 1 j] using this) (by simp only [List.length_cons] at hk; omega) (inv.set hr' hkn) hB' hK)

theorem region_class_tail {id : Nat} {Q : Exit → Act → World → Prop} {a : Act} {w : World} {l : List Oper} (C : World → Prop) (n : Nat) (hm : P.follows .mixedOrders = true) (hB : Region.lexTailB .any l.toArray n = true) (hC : C w.drew)
    (h : wpQuiet P l.toArray C (fun a' => ∀ w', C w' → wpList P l.toArray Q (l.drop n) a' w') (l.take n) a) : (Code.region id l.toArray true).wp P Q a w := by
  simp only [Region.lexTailB, Bool.and_eq_true, decide_eq_true_eq] at hB
  obtain ⟨⟨⟨⟨hsel, hn⟩, hs⟩, hc⟩, hlex⟩ := hB
  have hn' : n < l.length := by simpa using hn
  have htl : (l.take n).length = n := by simp; omega
  have hdl : (l.drop n).length = l.toArray.size - n := by simp
  have inv0 : HeadInv .any l.toArray n (Array.replicate l.toArray.size false) :=
    ⟨by simp, fun j oj _ hl => (by rw [getD_replicate_false] at hl; cases hl), fun t _ ht => getD_in (by simpa using ht) (getD_replicate_false _ _)⟩
  have H := wpAnyT_lex (md := .any) (C := C) (g := l.toArray.size - n) hsel hs hc hn (l.take n) 0 _ a (fun j hj => by
    have hj' : j < n := by rw [htl] at hj; exact hj
    simp [hj']) (by simpa using htl) inv0 (by rw [htl]; exact hlex) h
  refine wp_region_any hm ?_
  have := wpAny_of_headT (Q' := Q) (g := l.toArray.size - n) (fun listed a' w' hw' hL => by
    have := wpAny_of_seq (md := .any) (Q' := Q) (l.drop n) n listed a' w' (fun j => by simp [List.getElem?_drop]) (by rw [hdl]; exact hL.1) (hL.2 w' hw')
    rwa [hdl] at this) _ _ _ _ hC H
  rw [htl, show n + (l.toArray.size - n) = l.toArray.size by omega] at this
  exact this

end
end Go.Proofs.YthpnddgfgpacpaaGreat
/-
  Translate of the reference of package mmu. No condition but that the pages are sixteen.
-/
namespace Go.Proofs.YthpnddgfgpacpaaGreat
open Go.RowKit
set_option linter.unusedSimpArgs false
set_option linter.unusedVariables false
set_option maxHeartbeats 1000000
set_option maxRecDepth 100000
attribute [local irreducible] wpQuiet

theorem zero_unit (w : World) : (zeroValue 32).run Tryz.prog w = .ok (.agg Un.z.L.toArray) w := by kernel_rfl
theorem agg_unit (w : World) : (isAgg 32).run Tryz.prog w = .ok true w := by kernel_rfl
theorem size_unit (w : World) : (sizeOf 32).run Tryz.prog w = .ok 67 w := by kernel_rfl
/-- Two boxes: a unit that came in, a unit that goes out. -/
structure Two (B C : Nat) (u v : Un) (w0 w : World) : Prop where
  b : Blk 32 w B u.L
  c : Blk 32 w C v.L
  below : Below w0.heap.size w0 w
theorem Two.put (u : Un) (w : World) : Two w.heap.size (w.heap.size + 1) u Un.z w ((w.alloc (.cells u.L.toArray 32)).alloc (.cells Un.z.L.toArray 32)) := by
  have e : (w.alloc (.cells u.L.toArray 32)).heap.size = w.heap.size + 1 := by simp
  have h := Blk.new 32 (w.alloc (.cells u.L.toArray 32)) Un.z.L
  rw [e] at h
  exact ⟨(Blk.new _ w u.L).alloc _, h, ((Below.refl _ _).alloc (Nat.le_refl _) _).alloc (by simp) _⟩
theorem Two.step {B C : Nat} {u v : Un} {w0 w w' : World} (h : Two B C u v w0 w) (hb : Below w.heap.size w w') : Two B C u v w0 w' := ⟨h.b.step hb, h.c.step hb, h.below.trans (hb.mono h.below.size)⟩
theorem Two.drew {B C : Nat} {u v : Un} {w0 w : World} (h : Two B C u v w0 w) : Two B C u v w0 w.drew := ⟨h.b, h.c, h.below.drew⟩
theorem Two.out {B C : Nat} {u v : Un} {w0 w : World} (h : Two B C u v w0 w) (hu : u.ok) (hv : v.ok) (hn : B ≠ C) (hC : w0.heap.size ≤ C) :
    (loadCells ⟨B, 0, none⟩ 67).run Tryz.prog w = .ok u.L.toArray w ∧ ∃ W, (storeCells ⟨C, 0, none⟩ u.L).run Tryz.prog w = .ok () W ∧ Two B C u u w0 W ∧ (loadVar 32 ⟨C, 0, none⟩).run Tryz.prog W = .ok (.agg u.L.toArray) W := by
  refine ⟨h.b.load (Un.len hu), ?_⟩
  obtain ⟨W, h1, h2, h3, _, h5⟩ := h.c.store (P := Tryz.prog) (cs' := u.L) (by rw [Un.len hu, Un.len hv]) (Un.one u)
  exact ⟨W, h1, ⟨h5 _ _ _ hn h.b, h2, h3 _ _ hC h.below⟩, h2.loadVar (Un.len hu) agg_unit size_unit⟩
theorem Un.z_ok : Un.z.ok := rfl
theorem Un.zlen : Un.z.L.length = 67 := rfl

theorem Un.cells {u : Un} {m p : Nat} {g : Pg} (hg : u.pg[8 * m + p]? = some g) :
    u.L[1 + m * 32 + p * 4]? = some (.int .i64 g.b) ∧ u.L[1 + m * 32 + p * 4 + 1]? = some (.int .i64 g.l) ∧ u.L[1 + m * 32 + p * 4 + 2]? = some (.int .i64 g.a) ∧ u.L[1 + m * 32 + p * 4 + 3]? = some (.bool g.r) := by
  have e : ∀ j, 1 + m * 32 + p * 4 + j = 1 + (4 * (8 * m + p) + j) := fun j => by omega
  refine ⟨?_, ?_, ?_, ?_⟩
  · have := Un.page hg 0 (by decide); rw [← e] at this; exact this
  · have := Un.page hg 1 (by decide); rw [← e] at this; exact this
  · have := Un.page hg 2 (by decide); rw [← e] at this; exact this
  · have := Un.page hg 3 (by decide); rw [← e] at this; exact this
theorem Two.page {B C m p : Nat} {u v : Un} {w0 w : World} {g : Pg} (h : Two B C u v w0 w) (hg : u.pg[8 * m + p]? = some g) :
    w.cell? ⟨B, 1 + m * 32 + p * 4, none⟩ = some (.int .i64 g.b) ∧ w.cell? ⟨B, 1 + m * 32 + p * 4 + 1, none⟩ = some (.int .i64 g.l) ∧ w.cell? ⟨B, 1 + m * 32 + p * 4 + 2, none⟩ = some (.int .i64 g.a) ∧ w.cell? ⟨B, 1 + m * 32 + p * 4 + 3, none⟩ = some (.bool g.r) := by
  obtain ⟨q0, q1, q2, q3⟩ := Un.cells hg
  exact ⟨h.b.cell q0, h.b.cell q1, h.b.cell q2, h.b.cell q3⟩
/-- The unit in which a page is another one. -/
def Un.withP (u : Un) (k : Nat) (g : Pg) : Un := { u with pg := u.pg.set k g }
theorem Un.withP_ok {u : Un} (h : u.ok) (k : Nat) (g : Pg) : (u.withP k g).ok := by unfold Un.ok Un.withP at *; simpa using h
theorem Un.withP_at {u : Un} {k : Nat} {g g' : Pg} (hg : u.pg[k]? = some g) : (u.withP k g').pg[k]? = some g' := by
  have hk := (List.getElem?_eq_some_iff.1 hg).1
  simp [Un.withP, hk]
theorem Two.c65 {B C : Nat} {u v : Un} {w0 w : World} (h : Two B C u v w0 w) (hu : u.ok) : w.cell? ⟨B, 65, none⟩ = some (.int .i64 u.st) := h.b.cell (Un.at65 hu)
theorem Two.c66 {B C : Nat} {u v : Un} {w0 w : World} (h : Two B C u v w0 w) (hu : u.ok) : w.cell? ⟨B, 66, none⟩ = some (.int .i64 u.ad) := h.b.cell (Un.at66 hu)
theorem Two.fz {B C : Nat} {u v : Un} {w0 w : World} (h : Two B C u v w0 w) (k : Nat) : w.frozen? ⟨B, k, none⟩ = false := h.b.frozen k

end Go.Proofs.YthpnddgfgpacpaaGreat
/-
  page, Read and Write of the reference of package mmu. No condition but that the pages are sixteen.
-/
namespace Go.Proofs.YthpnddgfgpacpaaGreat
open Go.RowKit
set_option linter.unusedSimpArgs false
set_option linter.unusedVariables false
set_option maxHeartbeats 1000000
set_option maxRecDepth 100000
attribute [local irreducible] wpQuiet

theorem tmod2_9 (n : Int) : (n.tmod 2 = 0) = (n % 2 = 0) := by
  apply propext
  have := Int.tmod_eq_emod (a := n) (b := 2)
  constructor <;> intro h <;> split at this <;> omega
/-- Is there a page's register at an offset? -/
def isReg (n : Int) : Bool := decide (16 ≤ n) && (decide (n < 80) && decide (n % 2 = 0))
def pgV (n : Int) : Value := if isReg n = true then .tuple #[.int .i64 ((n - 16) / 32), .int .i64 ((n - 16) % 32 / 4), .bool (decide ((n - 16) % 4 = 2)), .bool true] else .tuple #[.int .i64 0, .int .i64 0, .bool false, .bool false]
theorem pgV_no {n : Int} (h : isReg n = false) : pgV n = .tuple #[.int .i64 0, .int .i64 0, .bool false, .bool false] := if_neg (by rw [h]; decide)
theorem pgV_ok {n : Int} (h : isReg n = true) : pgV n = .tuple #[.int .i64 ((n - 16) / 32), .int .i64 ((n - 16) % 32 / 4), .bool (decide ((n - 16) % 4 = 2)), .bool true] := if_pos h

theorem rpage_any (n : Int) (w : World) : Calls Tryz.prog 130 #[.int .i64 n] w fun e w' => e = .returned (pgV n) ∧ w = w' := by
  have ht := tmod2_9 n
  by_cases h1 : 16 ≤ n
  · by_cases h2 : n < 80
    · by_cases h3 : n % 2 = 0
      · rw [pgV_ok (by simp [isReg, h1, h2, h3])]
        have hb : n.tmod 2 = 0 := by rw [ht]; exact h3
        have h4 : 0 ≤ n - 16 := by omega
        clear ht
        go_enter Tryz.func130, Tryz.ntmps130
        go_wp2
        refine bodyPost_ret (v := .tuple #[.int .i64 ((n - 16) / 32), .int .i64 ((n - 16) % 32 / 4), .bool (decide ((n - 16) % 4 = 2)), .bool true]) (by simp [results, Tryz.results130, go_sem]; rfl) rfl ⟨rfl, rfl⟩
      · rw [pgV_no (by simp [isReg, h3])]
        have hb : ¬ n.tmod 2 = 0 := by rw [ht]; exact h3
        have hb2 : (n.tmod 2 != 0) = true := by simpa using hb
        have hb3 : (n % 2 != 0) = true := by simpa using h3
        clear ht
        go_enter Tryz.func130, Tryz.ntmps130
        go_wp2
        refine bodyPost_ret (v := .tuple #[.int .i64 0, .int .i64 0, .bool false, .bool false]) (by simp [results, Tryz.results130, go_sem]) rfl ⟨rfl, rfl⟩
    · rw [pgV_no (by simp [isReg, h2])]
      clear ht
      go_enter Tryz.func130, Tryz.ntmps130
      go_wp2
      refine bodyPost_ret (v := .tuple #[.int .i64 0, .int .i64 0, .bool false, .bool false]) (by simp [results, Tryz.results130, go_sem]) rfl ⟨rfl, rfl⟩
  · rw [pgV_no (by simp [isReg, h1])]
    clear ht
    go_enter Tryz.func130, Tryz.ntmps130
    go_wp2
    refine bodyPost_ret (v := .tuple #[.int .i64 0, .int .i64 0, .bool false, .bool false]) (by simp [results, Tryz.results130, go_sem]) rfl ⟨rfl, rfl⟩

/-- One box. -/
structure One (B : Nat) (u : Un) (w0 w : World) : Prop where
  b : Blk 32 w B u.L
  below : Below w0.heap.size w0 w
theorem One.put (u : Un) (w : World) : One w.heap.size u w (w.alloc (.cells u.L.toArray 32)) := ⟨Blk.new _ w u.L, (Below.refl _ _).alloc (Nat.le_refl _) _⟩
theorem One.step {B : Nat} {u : Un} {w0 w w' : World} (h : One B u w0 w) (hb : Below w.heap.size w w') : One B u w0 w' := ⟨h.b.step hb, h.below.trans (hb.mono h.below.size)⟩
theorem One.page {B m p : Nat} {u : Un} {w0 w : World} {g : Pg} (h : One B u w0 w) (hg : u.pg[8 * m + p]? = some g) :
    w.cell? ⟨B, 1 + m * 32 + p * 4, none⟩ = some (.int .i64 g.b) ∧ w.cell? ⟨B, 1 + m * 32 + p * 4 + 1, none⟩ = some (.int .i64 g.l) ∧ w.cell? ⟨B, 1 + m * 32 + p * 4 + 2, none⟩ = some (.int .i64 g.a) ∧ w.cell? ⟨B, 1 + m * 32 + p * 4 + 3, none⟩ = some (.bool g.r) := by
  obtain ⟨q0, q1, q2, q3⟩ := Un.cells hg
  exact ⟨h.b.cell q0, h.b.cell q1, h.b.cell q2, h.b.cell q3⟩
/-- The register at an offset. -/
def statV (u : Un) : Int := if u.on = true then 2 * u.st + 1 else 2 * u.st
def descV (g : Pg) : Int := if g.r = true then g.l + 256 * g.a + 32768 else g.l + 256 * g.a

theorem rrd_stat (u : Un) (hu : u.ok) (n : Int) (hn : n = 0) (h0 : 0 ≤ u.st) (h1 : u.st ≤ 3) (W0 : World) : Calls Tryz.prog 97 #[.agg u.L.toArray, .int .i64 n] W0 fun e w' => e = .returned (.tuple #[.int .i64 (statV u), .bool true]) ∧ Below W0.heap.size W0 w' := by
  have hX := One.put u W0
  have c0 := hX.b.cell (Un.at0 u)
  have c65 := hX.b.cell (Un.at65 hu)
  have c66 := hX.b.cell (Un.at66 hu)
  have hB := hX.below
  subst hn
  unfold statV
  have V1 : IntKind.i64.wrap (2 * u.st) = 2 * u.st := by rw [wrap_i64]; exact IntWalk.wrap64_in _ ⟨by omega, by omega⟩
  generalize u.st = s at *
  cases hon : u.on
  all_goals
    rw [hon] at c0
    go_enter Tryz.func97, Tryz.ntmps97
    go_wp2
    go_ret2
    exact ⟨rfl, hB⟩

theorem rrd_addr (u : Un) (hu : u.ok) (n : Int) (hn : n = 2) (W0 : World) : Calls Tryz.prog 97 #[.agg u.L.toArray, .int .i64 n] W0 fun e w' => e = .returned (.tuple #[.int .i64 u.ad, .bool true]) ∧ Below W0.heap.size W0 w' := by
  have hX := One.put u W0
  have c0 := hX.b.cell (Un.at0 u)
  have c65 := hX.b.cell (Un.at65 hu)
  have c66 := hX.b.cell (Un.at66 hu)
  have hB := hX.below
  subst hn
  go_enter Tryz.func97, Tryz.ntmps97
  go_wp2
  go_ret2
  exact ⟨rfl, hB⟩

theorem rrd_none (u : Un) (hu : u.ok) (n : Int) (hn : isReg n = false) (hn0 : n ≠ 0) (hn2 : n ≠ 2) (W0 : World) : Calls Tryz.prog 97 #[.agg u.L.toArray, .int .i64 n] W0 fun e w' => e = .returned (.tuple #[.int .i64 0, .bool false]) ∧ Below W0.heap.size W0 w' := by
  have hX := One.put u W0
  have c0 := hX.b.cell (Un.at0 u)
  have c65 := hX.b.cell (Un.at65 hu)
  have c66 := hX.b.cell (Un.at66 hu)
  have hB := hX.below
  have hpgc := fun w => rpage_any n w
  rw [pgV_no hn] at hpgc
  go_enter Tryz.func97, Tryz.ntmps97
  go_wp2_with (first | (go_at_call 130; with_reducible refine (hpgc _).mono ?_; rintro e w' ⟨rfl, rfl⟩))
  go_ret2
  exact ⟨rfl, hB⟩

theorem rrd_base (u : Un) (hu : u.ok) (n : Int) (hn : isReg n = true) (m p : Nat) (hm : m < 2) (hp : p < 8) (hnm : (n - 16) / 32 = (m : Int)) (hnp : (n - 16) % 32 / 4 = (p : Int)) (g : Pg) (hg : u.pg[8 * m + p]? = some g) (hd : ¬ (n - 16) % 4 = 2) (W0 : World) : Calls Tryz.prog 97 #[.agg u.L.toArray, .int .i64 n] W0 fun e w' => e = .returned (.tuple #[.int .i64 g.b, .bool true]) ∧ Below W0.heap.size W0 w' := by
  have hX := One.put u W0
  have c0 := hX.b.cell (Un.at0 u)
  have c65 := hX.b.cell (Un.at65 hu)
  have c66 := hX.b.cell (Un.at66 hu)
  have hB := hX.below
  have hpgc := fun w => rpage_any n w
  rw [pgV_ok hn, hnm, hnp, decide_eq_false hd] at hpgc
  have m0 : (0 : Int) ≤ (m : Int) := by omega
  have m1 : (m : Int) < 2 := by omega
  have p0 : (0 : Int) ≤ (p : Int) := by omega
  have p1 : (p : Int) < 8 := by omega
  have hn0 : ¬ n = 0 := by simp [isReg] at hn; omega
  have hn2 : ¬ n = 2 := by simp [isReg] at hn; omega
  obtain ⟨k0, k1, k2, k3⟩ := hX.page hg
  clear hd hn
  obtain ⟨gb, gl, ga, gr⟩ := g
  simp only at *
  go_enter Tryz.func97, Tryz.ntmps97
  go_wp2_with (first | (go_at_call 130; with_reducible refine (hpgc _).mono ?_; rintro e w' ⟨rfl, rfl⟩))
  go_ret2
  exact ⟨rfl, hB.alloc hB.size _⟩

theorem rrd_desc (u : Un) (hu : u.ok) (n : Int) (hn : isReg n = true) (m p : Nat) (hm : m < 2) (hp : p < 8) (hnm : (n - 16) / 32 = (m : Int)) (hnp : (n - 16) % 32 / 4 = (p : Int)) (g : Pg) (hg : u.pg[8 * m + p]? = some g) (hd : (n - 16) % 4 = 2) (hl0 : 0 ≤ g.l) (hl1 : g.l ≤ 128) (ha0 : 0 ≤ g.a) (ha1 : g.a ≤ 2) (W0 : World) : Calls Tryz.prog 97 #[.agg u.L.toArray, .int .i64 n] W0 fun e w' => e = .returned (.tuple #[.int .i64 (descV g), .bool true]) ∧ Below W0.heap.size W0 w' := by
  have hX := One.put u W0
  have c0 := hX.b.cell (Un.at0 u)
  have c65 := hX.b.cell (Un.at65 hu)
  have c66 := hX.b.cell (Un.at66 hu)
  have hB := hX.below
  have hpgc := fun w => rpage_any n w
  rw [pgV_ok hn, hnm, hnp, decide_eq_true hd] at hpgc
  have m0 : (0 : Int) ≤ (m : Int) := by omega
  have m1 : (m : Int) < 2 := by omega
  have p0 : (0 : Int) ≤ (p : Int) := by omega
  have p1 : (p : Int) < 8 := by omega
  have hn0 : ¬ n = 0 := by simp [isReg] at hn; omega
  have hn2 : ¬ n = 2 := by simp [isReg] at hn; omega
  obtain ⟨k0, k1, k2, k3⟩ := hX.page hg
  clear hd hn
  obtain ⟨gb, gl, ga, gr⟩ := g
  simp only at *
  unfold descV
  cases gr
  all_goals
    go_enter Tryz.func97, Tryz.ntmps97
    go_wp2_with (first | (go_at_call 130; with_reducible refine (hpgc _).mono ?_; rintro e w' ⟨rfl, rfl⟩))
    go_ret2
    exact ⟨rfl, hB.alloc hB.size _⟩
end Go.Proofs.YthpnddgfgpacpaaGreat
/-
  Write of the reference of package mmu. No condition but that the pages are sixteen.
-/
namespace Go.Proofs.YthpnddgfgpacpaaGreat
open Go.RowKit
set_option linter.unusedSimpArgs false
set_option linter.unusedVariables false
set_option maxHeartbeats 8000000
set_option maxRecDepth 100000
attribute [local irreducible] wpQuiet

theorem Two.putF {B C m p : Nat} {u v : Un} {w0 w : World} {g g' : Pg} (h : Two B C u v w0 w) (hg : u.pg[8 * m + p]? = some g) (hn : C ≠ B) (hB : w0.heap.size ≤ B) (j : Nat) (hj : j < 4) (x : Value) (he : g.L.set j x = g'.L) (k : Nat) (hk : k = 1 + m * 32 + p * 4 + j) : Two B C (u.withP (8 * m + p) g') v w0 (w.setCell ⟨B, k, none⟩ x) := by
  have e : k = 1 + (4 * (8 * m + p) + j) := by omega
  have q := Un.setp (u := u) (p' := g') hg j hj x he
  refine ⟨?_, h.c.other hn _, h.below.setCell hB _⟩
  subst e
  have k2 := h.b.set (1 + (4 * (8 * m + p) + j)) x
  rw [q] at k2
  exact k2
theorem withP_twice (u : Un) (k : Nat) (g g' : Pg) : (u.withP k g).withP k g' = u.withP k g' := by
  unfold Un.withP; simp
/-- What a load of the whole box and a store of it leave. -/
theorem Two.outR {B C : Nat} {u v : Un} {w0 w : World} (h : Two B C u v w0 w) (hu : u.ok) (hv : v.ok) (hn : B ≠ C) (hC : w0.heap.size ≤ C) :
    (Instr.loadAt 32 (.pointer (some ⟨B, 0, none⟩))).run Tryz.prog w = .ok (.agg u.L.toArray) w ∧ ∃ W, (storeCells ⟨C, 0, none⟩ u.L).run Tryz.prog w = .ok () W ∧ Two B C u u w0 W ∧ (loadVar 32 ⟨C, 0, none⟩).run Tryz.prog W = .ok (.agg u.L.toArray) W := by
  obtain ⟨_, W, h1, h2, h3⟩ := h.out hu hv hn hC
  exact ⟨h.b.loadAt (Un.len hu) agg_unit size_unit, W, h1, h2, h3⟩

end Go.Proofs.YthpnddgfgpacpaaGreat
