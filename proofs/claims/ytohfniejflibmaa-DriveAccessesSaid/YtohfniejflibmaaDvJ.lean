/-
  The contracts of package drive over a world; alive. Condition: the contracts.
-/
import Derived.Test.YtohfniejflibmaaDvI
namespace Go.Proofs.Ytohfniejflibmaa
open Go.RowKit
set_option linter.unusedSimpArgs false
set_option linter.unusedVariables false
set_option maxHeartbeats 4000000
set_option maxRecDepth 100000
attribute [local irreducible] wpQuiet

/-- The contracts of package drive in all worlds behind W0. -/
structure DvC (W0 : World) : Prop where
  new : ∀ (n : Int) (X : Nat → Prop) (w : World), Below W0.heap.size W0 w → (∀ b, X b → b < w.heap.size) → Calls Try.prog 10 #[.int .i64 n] w fun e w' => ∃ x, e = .returned (.tuple #[x, .int .i64 (newV n).2]) ∧ DvX X w' x (newV n).1 ∧ Below w.heap.size w w'
  right : ∀ (D : Drv) (vs vb : Value) (w : World), Below W0.heap.size W0 w → D.S.length ≤ 4096 → D.B.length ≤ 4096 → Sts w vs D.S → Its w vb D.B → Calls Try.prog 15 #[.agg #[vs, vb]] w fun e w' => e = .returned (.bool D.right) ∧ Below w.heap.size w w'
  read : ∀ (D : Drv) (k : Int) (vs vb : Value) (w : World), Below W0.heap.size W0 w → D.right = true → Sts w vs D.S → Its w vb D.B → Calls Try.prog 18 #[.agg #[vs, vb], .int .i64 k] w fun e w' => e = .returned (.tuple #[.string (D.rd k).1, .int .i64 (D.rd k).2]) ∧ Below w.heap.size w w'
  write : ∀ (D : Drv) (k : Int) (s : ByteArray) (vs vb : Value) (X : Nat → Prop) (w : World), Below W0.heap.size W0 w → D.right = true → (∀ b, X b → b < w.heap.size) → StsX X w vs D.S → ItsX X w vb D.B → Calls Try.prog 20 #[.agg #[vs, vb], .int .i64 k, .string s] w fun e w' => ∃ x, e = .returned (.tuple #[x, .int .i64 (D.wr k s).2]) ∧ DvX X w' x (D.wr k s).1 ∧ Below w.heap.size w w'
  spoil : ∀ (D : Drv) (k : Int) (vs vb : Value) (X : Nat → Prop) (w : World), Below W0.heap.size W0 w → D.right = true → (∀ b, X b → b < w.heap.size) → StsX X w vs D.S → ItsX X w vb D.B → Calls Try.prog 22 #[.agg #[vs, vb], .int .i64 k] w fun e w' => ∃ x, e = .returned (.tuple #[x, .int .i64 (D.sp k).2]) ∧ DvX X w' x (D.sp k).1 ∧ Below w.heap.size w w'
  apply : ∀ (D : Drv) (q : List (Int × ByteArray)) (fz : Int) (vs vb v : Value) (X : Nat → Prop) (w : World), Below W0.heap.size W0 w → D.right = true → q.length ≤ 4096 → (∀ b, X b → b < w.heap.size) → StsX X w vs D.S → ItsX X w vb D.B → Wts w v q → Calls Try.prog 25 #[.agg #[vs, vb], v, .int .i64 fz] w fun e w' => ∃ x, e = .returned (.tuple #[x, .int .i64 (D.ap q 0 fz).2.1, .int .i64 (D.ap q 0 fz).2.2]) ∧ DvX X w' x (D.ap q 0 fz).1 ∧ Below w.heap.size w w'
  diff : ∀ (D E : Drv) (vs vb vs2 vb2 : Value) (X : Nat → Prop) (w : World), Below W0.heap.size W0 w → D.S.length ≤ 4096 → E.S.length ≤ 4096 → (∀ b, X b → b < w.heap.size) → Sts w vs D.S → Its w vb D.B → Sts w vs2 E.S → Its w vb2 E.B → Calls Try.prog 27 #[.agg #[vs, vb], .agg #[vs2, vb2]] w fun e w' => ∃ v, e = .returned v ∧ ItsX X w' v (dfV D.S E.S) ∧ Below w.heap.size w w'
theorem DvC.step {W0 w : World} (H : DvC W0) (h : Below W0.heap.size W0 w) : DvC w :=
  ⟨fun n X w' hb => H.new n X w' (h.trans (hb.mono h.size)), fun D vs vb w' hb => H.right D vs vb w' (h.trans (hb.mono h.size)), fun D k vs vb w' hb => H.read D k vs vb w' (h.trans (hb.mono h.size)), fun D k s vs vb X w' hb => H.write D k s vs vb X w' (h.trans (hb.mono h.size)), fun D k vs vb X w' hb => H.spoil D k vs vb X w' (h.trans (hb.mono h.size)), fun D q fz vs vb v X w' hb => H.apply D q fz vs vb v X w' (h.trans (hb.mono h.size)), fun D E vs vb vs2 vb2 X w' hb => H.diff D E vs vb vs2 vb2 X w' (h.trans (hb.mono h.size))⟩
section
variable {ops : Array Oper} {rest : List Oper} {o : Oper} {a : Act} {w w0 w1 : World} {Q : Exit → Act → World → Prop} {l : List (Nat × TypeId × List Value)}
/-- A whole block is stored that has just been made; what lay below stays. -/
theorem wpList_bag_storeB {t T : TypeId} {n : Nat} {cs zs : List Value} (hX : Bag l w0 w) (hagg : ∀ w, (isAgg T).run Try.prog w = .ok true w) (hsz : ∀ w, (sizeOf T).run Try.prog w = .ok n w) (x y : Operand) (hop : o.op = Op.store T x y) (hal : w1 = w.alloc (.cells zs.toArray t)) (hx : a.eval x = .pointer (some ⟨w.heap.size, 0, none⟩)) (hy : a.eval y = .agg cs.toArray) (hdst : o.dst = none) (hw : Region.wanted o (yielded ops a.tmps) = true) (hn : cs.length = n) (hm : zs.length = n) (h1 : ∀ v ∈ cs, v.oneCell' = true)
    (h : ∀ w2, Bag ((w.heap.size, t, cs) :: l) w0 w2 → Below w.heap.size w w2 → wpList Try.prog ops Q rest a w2) : wpList Try.prog ops Q (o :: rest) a w1 := by
  subst hal
  exact wpList_store_run hw hdst T x y _ _ hop hx hy hagg (by rw [hn]; exact hsz) (run_store_new w zs cs (by rw [hn, hm]) h1) (h _ (hX.new _ _) ((Below.refl _ _).alloc (Nat.le_refl _) _))
end
theorem DvX.below {X : Nat → Prop} {w w' : World} {x : Value} {D : Drv} (h : DvX X w x D) (hb : Below w.heap.size w w') : DvX X w' x D := by
  obtain ⟨vs, vb, e, h1, h2⟩ := h
  exact ⟨vs, vb, e, h1.below hb, h2.below hb⟩
instance : DecidableEq Drv := fun a b => decidable_of_iff (a.S = b.S ∧ a.B = b.B) ⟨fun h => by cases a; cases b; simp only at h; rw [h.1, h.2], fun h => by subst h; exact ⟨rfl, rfl⟩⟩
def d1 : Drv := ⟨[zB 128, zB 128], []⟩
def d2 : Drv := ⟨[zB 128, (⟨#[97, 98]⟩ : ByteArray) ++ zB 126], []⟩
def d3 : Drv := ⟨[zB 128, (⟨#[97, 98]⟩ : ByteArray) ++ zB 126], [0]⟩
def q3 : List (Int × ByteArray) := [(1, ⟨#[]⟩), (0, ⟨#[]⟩), (1, ⟨#[]⟩)]
theorem d1_right : d1.right = true := by decide +kernel
theorem d2_right : d2.right = true := by decide +kernel
theorem d3_right : d3.right = true := by decide +kernel
theorem d2_df : dfV d1.S d2.S = [1] := by decide +kernel
theorem d3_ap : d3.ap q3 0 (-1) = (⟨[zB 128, zB 128], [0]⟩, 1, 21) := by decide +kernel
theorem d3_ap1 : d3.ap q3 0 1 = (⟨[zB 128, zB 128], [0]⟩, 1, 0) := by decide +kernel
theorem d1_wr : d1.wr 1 (⟨#[97, 98]⟩ : ByteArray) = (d2, 0) := by decide +kernel
theorem d2_rd : d2.rd 1 = ((⟨#[97, 98]⟩ : ByteArray) ++ zB 126, 0) := by decide +kernel
theorem d2_sp : d2.sp 0 = (d3, 0) := by decide +kernel
theorem d3_rd : d3.rd 0 = (⟨#[]⟩, 21) := by decide +kernel
theorem d3_rd2 : d3.rd 2 = (⟨#[]⟩, 2) := by decide +kernel
theorem d3_wr (s : ByteArray) (h : s.size = 129) : d3.wr 0 s = (Drv.z, 7) := by
  unfold Drv.wr; rw [if_pos (by decide +kernel), if_pos (by omega)]
end Go.Proofs.Ytohfniejflibmaa
