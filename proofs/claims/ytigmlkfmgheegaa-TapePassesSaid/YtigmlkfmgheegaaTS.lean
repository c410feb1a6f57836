import Derived.Test.YtigmlkfmgheegaaTO
import Derived.Test.YtigmlkfmgheegaaHS
/-
  alive: its values, plain. No condition.
-/
namespace Go.Proofs.Ytigmlkfmgheegaa
open Go.RowKit
set_option linter.unusedSimpArgs false
set_option linter.unusedVariables false
set_option maxHeartbeats 4000000
set_option maxRecDepth 100000
attribute [local irreducible] wpQuiet

def L3 : List ByteArray := [⟨#[97, 98]⟩, ⟨#[]⟩, ⟨#[99]⟩]
def tvK0 : Tp := ⟨L3, 0, false, true, false, false, false, 0, 0, 0, 0⟩
def tvA5 : Tp := ⟨L3, 0, false, true, false, false, false, 0, 5, 10, 0⟩
def tvA1 : Tp := ⟨L3, 0, false, true, false, false, false, 0, 1, 10, 0⟩
def tvA2 : Tp := ⟨L3, 0, false, true, false, false, false, 0, 2, 10, 0⟩
def tvT1 : Tp := ⟨L3, 1, false, true, false, false, false, 1, 3, 10, 0⟩
def tvT2 : Tp := ⟨L3, 2, false, true, false, true, false, 1, 3, 10, 0⟩
def tvT3 : Tp := ⟨L3, 3, false, true, false, false, false, 1, 2, 10, 0⟩
def tvT4 : Tp := ⟨L3, 3, false, true, true, false, true, 1, 2, 10, 0⟩
def tvU1 : Tp := ⟨L3, 1, false, true, true, false, false, 1, 0, 10, 0⟩
def tvV1 : Tp := ⟨[⟨#[0, 0]⟩], 1, false, true, false, false, false, 2, 2, 10, 0⟩
def mv1 : List Int := storeN M256 10 [97, 98]
def mv3 : List Int := storeN mv1 10 [99]
def mvU : List Int := storeN M256 10 [97]
theorem av_new : newT L3 = (tvK0, 0) := by kernel_rfl
theorem av_a5 : atT tvK0 5 10 = tvA5 := by kernel_rfl
theorem av_a1 : atT tvK0 1 10 = tvA1 := by kernel_rfl
theorem av_a2 : atT tvK0 2 10 = tvA2 := by kernel_rfl
theorem av_t1 : cmdT tvA5 M256 [] 1 = (tvT1, mv1, []) := by kernel_rfl
theorem av_t2 : cmdT tvT1 mv1 [] 1 = (tvT2, mv1, []) := by kernel_rfl
theorem av_t3 : cmdT tvT2 mv1 [] 1 = (tvT3, mv3, []) := by kernel_rfl
theorem av_t4 : cmdT tvT3 mv3 [] 1 = (tvT4, mv3, []) := by kernel_rfl
theorem av_u1 : cmdT tvA1 M256 [] 1 = (tvU1, mvU, []) := by kernel_rfl
theorem av_v1 : cmdT tvA2 M256 [] 2 = (tvV1, M256, []) := by kernel_rfl
theorem av_n : tvK0.wr 0 15 = (tvK0, true) := by kernel_rfl
theorem av_b1 : bytesS mv1 10 3 = [97, 98, 0] := by decide +kernel
theorem av_b2 : bytesS mvU 10 2 = [97, 0] := by decide +kernel
theorem av_l : M256.length = 128 ∧ mv1.length = 128 ∧ mv3.length = 128 ∧ mvU.length = 128 := by decide +kernel
theorem av_r : rightP M256 [] = true ∧ rightP mv1 [] = true ∧ rightP mv3 [] = true := by decide +kernel
theorem av_k : tvK0.right = true ∧ tvA5.right = true ∧ tvA1.right = true ∧ tvA2.right = true ∧ tvT1.right = true ∧ tvT2.right = true ∧ tvT3.right = true := by decide +kernel
/-- A row of strings in a box of its own. -/
theorem sts_blk {w : World} {B n : Nat} {l : List ByteArray} (h : Blk 9 w B (l.map Value.string)) (hn : l.length = n) : Sts w (.slice (some ⟨B, 0, none⟩) n n) l := by
  subst hn
  refine ⟨⟨_, _, rfl, Nat.le_refl _, fun j x hx => ⟨_, rfl, ?_⟩⟩, fun _ _ e => by cases e⟩
  have e1 : (⟨B, 0, none⟩ : Addr).add j = ⟨B, j, none⟩ := by unfold Addr.add; split <;> simp_all
  rw [e1]
  exact ⟨h.cell hx, h.lt⟩
theorem alloc_tp (w : World) : (Instr.alloc 24 true (.tuple #[])).run Try.prog w = .ok (ptrAt w.heap.size) (w.alloc (.cells ([.slice none 0 0, .int .i64 0, .bool false, .bool false, .bool false, .bool false, .bool false, .int .i64 0, .int .i64 0, .int .i64 0, .int .i64 0] : List Value).toArray 24)) := by kernel_rfl
theorem alloc_st (w : World) : (Instr.alloc 44 true (.tuple #[])).run Try.prog w = .ok (ptrAt w.heap.size) (w.alloc (.cells ([.slice none 0 0, .slice none 0 0] : List Value).toArray 44)) := by kernel_rfl
end Go.Proofs.Ytigmlkfmgheegaa

/-
  alive: the contracts at its values. Condition: the contracts.
-/
namespace Go.Proofs.Ytigmlkfmgheegaa
open Go.RowKit
set_option linter.unusedSimpArgs false
set_option linter.unusedVariables false
set_option maxHeartbeats 4000000
set_option maxRecDepth 100000
attribute [local irreducible] wpQuiet

theorem c_new (W0 : World) (H : TpC W0) (v : Value) (X : Nat → Prop) (w : World) (hb : Below W0.heap.size W0 w) (hXl : ∀ b, X b → b < w.heap.size) (hs : Sts w v L3) : Calls Try.prog 9 #[v] w fun e' w' => ∃ vs, e' = .returned (.tuple #[.agg #[vs, .int .i64 0, .bool false, .bool true, .bool false, .bool false, .bool false, .int .i64 0, .int .i64 0, .int .i64 0, .int .i64 0], .int .i64 0]) ∧ StsX X w' vs L3 ∧ Below w.heap.size w w' := by
  have h := H.new L3 v X w hb (by decide) hXl hs
  rw [av_new] at h
  refine h.mono ?_
  rintro e' w' ⟨x, rfl, ⟨vs, rfl, h1⟩, h2⟩
  exact ⟨vs, rfl, h1, h2⟩
theorem c_A5 (W0 : World) (H : TpC W0) (vs : Value) (X : Nat → Prop) (w : World) (hb : Below W0.heap.size W0 w) (hXl : ∀ b, X b → b < w.heap.size) (hs : StsX X w vs L3) : Calls Try.prog 35 #[.agg #[vs, .int .i64 0, .bool false, .bool true, .bool false, .bool false, .bool false, .int .i64 0, .int .i64 0, .int .i64 0, .int .i64 0], .int .i64 5, .int .i64 10] w fun e' w' => ∃ vs, e' = .returned (.agg #[vs, .int .i64 0, .bool false, .bool true, .bool false, .bool false, .bool false, .int .i64 0, .int .i64 5, .int .i64 10, .int .i64 0]) ∧ StsX X w' vs L3 ∧ Below w.heap.size w w' := by
  have h := at_any W0 H tvK0 5 10 av_k.1 vs w hb X hXl hs
  rw [av_a5] at h
  refine h.mono ?_
  rintro e' w' ⟨x, rfl, ⟨vs, rfl, h1⟩, h2⟩
  exact ⟨vs, rfl, h1, h2⟩
theorem c_A1 (W0 : World) (H : TpC W0) (vs : Value) (X : Nat → Prop) (w : World) (hb : Below W0.heap.size W0 w) (hXl : ∀ b, X b → b < w.heap.size) (hs : StsX X w vs L3) : Calls Try.prog 35 #[.agg #[vs, .int .i64 0, .bool false, .bool true, .bool false, .bool false, .bool false, .int .i64 0, .int .i64 0, .int .i64 0, .int .i64 0], .int .i64 1, .int .i64 10] w fun e' w' => ∃ vs, e' = .returned (.agg #[vs, .int .i64 0, .bool false, .bool true, .bool false, .bool false, .bool false, .int .i64 0, .int .i64 1, .int .i64 10, .int .i64 0]) ∧ StsX X w' vs L3 ∧ Below w.heap.size w w' := by
  have h := at_any W0 H tvK0 1 10 av_k.1 vs w hb X hXl hs
  rw [av_a1] at h
  refine h.mono ?_
  rintro e' w' ⟨x, rfl, ⟨vs, rfl, h1⟩, h2⟩
  exact ⟨vs, rfl, h1, h2⟩
theorem c_A2 (W0 : World) (H : TpC W0) (vs : Value) (X : Nat → Prop) (w : World) (hb : Below W0.heap.size W0 w) (hXl : ∀ b, X b → b < w.heap.size) (hs : StsX X w vs L3) : Calls Try.prog 35 #[.agg #[vs, .int .i64 0, .bool false, .bool true, .bool false, .bool false, .bool false, .int .i64 0, .int .i64 0, .int .i64 0, .int .i64 0], .int .i64 2, .int .i64 10] w fun e' w' => ∃ vs, e' = .returned (.agg #[vs, .int .i64 0, .bool false, .bool true, .bool false, .bool false, .bool false, .int .i64 0, .int .i64 2, .int .i64 10, .int .i64 0]) ∧ StsX X w' vs L3 ∧ Below w.heap.size w w' := by
  have h := at_any W0 H tvK0 2 10 av_k.1 vs w hb X hXl hs
  rw [av_a2] at h
  refine h.mono ?_
  rintro e' w' ⟨x, rfl, ⟨vs, rfl, h1⟩, h2⟩
  exact ⟨vs, rfl, h1, h2⟩
theorem c_T1 (W0 : World) (H : TpC W0) (vs vm vz : Value) (X : Nat → Prop) (w : World) (hb : Below W0.heap.size W0 w) (hXl : ∀ b, X b → b < w.heap.size) (hs : StsX X w vs L3) (hm : ItsX X w vm M256) (hz : ItsX X w vz []) : Calls Try.prog 34 #[.agg #[vs, .int .i64 0, .bool false, .bool true, .bool false, .bool false, .bool false, .int .i64 0, .int .i64 5, .int .i64 10, .int .i64 0], .agg #[vm, vz], .int .i64 1] w fun e' w' => ∃ vs ym yz, e' = .returned (.tuple #[.agg #[vs, .int .i64 1, .bool false, .bool true, .bool false, .bool false, .bool false, .int .i64 1, .int .i64 3, .int .i64 10, .int .i64 0], .agg #[ym, yz]]) ∧ StsX X w' vs L3 ∧ ItsX X w' ym mv1 ∧ ItsX X w' yz [] ∧ Below w.heap.size w w' := by
  have h := command_any W0 H tvA5 M256 [] 1 (by decide) av_k.2.1 av_r.1 vs vm vz w hb X hXl hs hm hz
  rw [av_t1] at h
  refine h.mono ?_
  rintro e' w' ⟨x, ym, yz, rfl, ⟨vs, rfl, h1⟩, h2, h3, h4⟩
  exact ⟨vs, ym, yz, rfl, h1, h2, h3, h4⟩
theorem c_T2 (W0 : World) (H : TpC W0) (vs vm vz : Value) (X : Nat → Prop) (w : World) (hb : Below W0.heap.size W0 w) (hXl : ∀ b, X b → b < w.heap.size) (hs : StsX X w vs L3) (hm : ItsX X w vm mv1) (hz : ItsX X w vz []) : Calls Try.prog 34 #[.agg #[vs, .int .i64 1, .bool false, .bool true, .bool false, .bool false, .bool false, .int .i64 1, .int .i64 3, .int .i64 10, .int .i64 0], .agg #[vm, vz], .int .i64 1] w fun e' w' => ∃ vs ym yz, e' = .returned (.tuple #[.agg #[vs, .int .i64 2, .bool false, .bool true, .bool false, .bool true, .bool false, .int .i64 1, .int .i64 3, .int .i64 10, .int .i64 0], .agg #[ym, yz]]) ∧ StsX X w' vs L3 ∧ ItsX X w' ym mv1 ∧ ItsX X w' yz [] ∧ Below w.heap.size w w' := by
  have h := command_any W0 H tvT1 mv1 [] 1 (by decide) av_k.2.2.2.2.1 av_r.2.1 vs vm vz w hb X hXl hs hm hz
  rw [av_t2] at h
  refine h.mono ?_
  rintro e' w' ⟨x, ym, yz, rfl, ⟨vs, rfl, h1⟩, h2, h3, h4⟩
  exact ⟨vs, ym, yz, rfl, h1, h2, h3, h4⟩
theorem c_T3 (W0 : World) (H : TpC W0) (vs vm vz : Value) (X : Nat → Prop) (w : World) (hb : Below W0.heap.size W0 w) (hXl : ∀ b, X b → b < w.heap.size) (hs : StsX X w vs L3) (hm : ItsX X w vm mv1) (hz : ItsX X w vz []) : Calls Try.prog 34 #[.agg #[vs, .int .i64 2, .bool false, .bool true, .bool false, .bool true, .bool false, .int .i64 1, .int .i64 3, .int .i64 10, .int .i64 0], .agg #[vm, vz], .int .i64 1] w fun e' w' => ∃ vs ym yz, e' = .returned (.tuple #[.agg #[vs, .int .i64 3, .bool false, .bool true, .bool false, .bool false, .bool false, .int .i64 1, .int .i64 2, .int .i64 10, .int .i64 0], .agg #[ym, yz]]) ∧ StsX X w' vs L3 ∧ ItsX X w' ym mv3 ∧ ItsX X w' yz [] ∧ Below w.heap.size w w' := by
  have h := command_any W0 H tvT2 mv1 [] 1 (by decide) av_k.2.2.2.2.2.1 av_r.2.1 vs vm vz w hb X hXl hs hm hz
  rw [av_t3] at h
  refine h.mono ?_
  rintro e' w' ⟨x, ym, yz, rfl, ⟨vs, rfl, h1⟩, h2, h3, h4⟩
  exact ⟨vs, ym, yz, rfl, h1, h2, h3, h4⟩
theorem c_T4 (W0 : World) (H : TpC W0) (vs vm vz : Value) (X : Nat → Prop) (w : World) (hb : Below W0.heap.size W0 w) (hXl : ∀ b, X b → b < w.heap.size) (hs : StsX X w vs L3) (hm : ItsX X w vm mv3) (hz : ItsX X w vz []) : Calls Try.prog 34 #[.agg #[vs, .int .i64 3, .bool false, .bool true, .bool false, .bool false, .bool false, .int .i64 1, .int .i64 2, .int .i64 10, .int .i64 0], .agg #[vm, vz], .int .i64 1] w fun e' w' => ∃ vs ym yz, e' = .returned (.tuple #[.agg #[vs, .int .i64 3, .bool false, .bool true, .bool true, .bool false, .bool true, .int .i64 1, .int .i64 2, .int .i64 10, .int .i64 0], .agg #[ym, yz]]) ∧ StsX X w' vs L3 ∧ ItsX X w' ym mv3 ∧ ItsX X w' yz [] ∧ Below w.heap.size w w' := by
  have h := command_any W0 H tvT3 mv3 [] 1 (by decide) av_k.2.2.2.2.2.2 av_r.2.2 vs vm vz w hb X hXl hs hm hz
  rw [av_t4] at h
  refine h.mono ?_
  rintro e' w' ⟨x, ym, yz, rfl, ⟨vs, rfl, h1⟩, h2, h3, h4⟩
  exact ⟨vs, ym, yz, rfl, h1, h2, h3, h4⟩
theorem c_U1 (W0 : World) (H : TpC W0) (vs vm vz : Value) (X : Nat → Prop) (w : World) (hb : Below W0.heap.size W0 w) (hXl : ∀ b, X b → b < w.heap.size) (hs : StsX X w vs L3) (hm : ItsX X w vm M256) (hz : ItsX X w vz []) : Calls Try.prog 34 #[.agg #[vs, .int .i64 0, .bool false, .bool true, .bool false, .bool false, .bool false, .int .i64 0, .int .i64 1, .int .i64 10, .int .i64 0], .agg #[vm, vz], .int .i64 1] w fun e' w' => ∃ vs ym yz, e' = .returned (.tuple #[.agg #[vs, .int .i64 1, .bool false, .bool true, .bool true, .bool false, .bool false, .int .i64 1, .int .i64 0, .int .i64 10, .int .i64 0], .agg #[ym, yz]]) ∧ StsX X w' vs L3 ∧ ItsX X w' ym mvU ∧ ItsX X w' yz [] ∧ Below w.heap.size w w' := by
  have h := command_any W0 H tvA1 M256 [] 1 (by decide) av_k.2.2.1 av_r.1 vs vm vz w hb X hXl hs hm hz
  rw [av_u1] at h
  refine h.mono ?_
  rintro e' w' ⟨x, ym, yz, rfl, ⟨vs, rfl, h1⟩, h2, h3, h4⟩
  exact ⟨vs, ym, yz, rfl, h1, h2, h3, h4⟩
theorem c_V1 (W0 : World) (H : TpC W0) (vs vm vz : Value) (X : Nat → Prop) (w : World) (hb : Below W0.heap.size W0 w) (hXl : ∀ b, X b → b < w.heap.size) (hs : StsX X w vs L3) (hm : ItsX X w vm M256) (hz : ItsX X w vz []) : Calls Try.prog 34 #[.agg #[vs, .int .i64 0, .bool false, .bool true, .bool false, .bool false, .bool false, .int .i64 0, .int .i64 2, .int .i64 10, .int .i64 0], .agg #[vm, vz], .int .i64 2] w fun e' w' => ∃ vs ym yz, e' = .returned (.tuple #[.agg #[vs, .int .i64 1, .bool false, .bool true, .bool false, .bool false, .bool false, .int .i64 2, .int .i64 2, .int .i64 10, .int .i64 0], .agg #[ym, yz]]) ∧ StsX X w' vs [⟨#[0, 0]⟩] ∧ ItsX X w' ym M256 ∧ ItsX X w' yz [] ∧ Below w.heap.size w w' := by
  have h := command_any W0 H tvA2 M256 [] 2 (by decide) av_k.2.2.2.1 av_r.1 vs vm vz w hb X hXl hs hm hz
  rw [av_v1] at h
  refine h.mono ?_
  rintro e' w' ⟨x, ym, yz, rfl, ⟨vs, rfl, h1⟩, h2, h3, h4⟩
  exact ⟨vs, ym, yz, rfl, h1, h2, h3, h4⟩
theorem c_by1 (vm : Value) (w : World) (hm : Its w vm mv1) : Calls Try.prog 33 #[vm, .int .i64 10, .int .i64 3] w fun e' w' => e' = .returned (.tuple #[.string ⟨#[97, 98, 0]⟩, .int .i64 0]) ∧ Below w.heap.size w w' := by
  have h := bytes_any vm mv1 (by rw [av_l.2.1]; decide) 10 3 (by decide) w (Its.nums hm)
  rw [av_b1, av_l.2.1, show bytesE (2 * ((128 : Nat) : Int)) 10 3 = 0 by decide] at h
  exact h
theorem c_by2 (vm : Value) (w : World) (hm : Its w vm mvU) : Calls Try.prog 33 #[vm, .int .i64 10, .int .i64 2] w fun e' w' => e' = .returned (.tuple #[.string ⟨#[97, 0]⟩, .int .i64 0]) ∧ Below w.heap.size w w' := by
  have h := bytes_any vm mvU (by rw [av_l.2.2.2]; decide) 10 2 (by decide) w (Its.nums hm)
  rw [av_b2, av_l.2.2.2, show bytesE (2 * ((128 : Nat) : Int)) 10 2 = 0 by decide] at h
  exact h
theorem c_no (W0 : World) (H : TpC W0) (vs : Value) (X : Nat → Prop) (w : World) (hb : Below W0.heap.size W0 w) (hXl : ∀ b, X b → b < w.heap.size) (hs : StsX X w vs L3) : Calls Try.prog 17 #[.agg #[vs, .int .i64 0, .bool false, .bool true, .bool false, .bool false, .bool false, .int .i64 0, .int .i64 0, .int .i64 0, .int .i64 0], .int .i64 0, .int .i64 15] w fun e' w' => ∃ vs, e' = .returned (.tuple #[.agg #[vs, .int .i64 0, .bool false, .bool true, .bool false, .bool false, .bool false, .int .i64 0, .int .i64 0, .int .i64 0, .int .i64 0], .bool true]) ∧ StsX X w' vs L3 ∧ Below w.heap.size w w' := by
  have h := H.write tvK0 0 15 vs X w hb av_k.1 hXl hs
  rw [av_n] at h
  refine h.mono ?_
  rintro e' w' ⟨x, rfl, ⟨vs, rfl, h1⟩, h2⟩
  exact ⟨vs, rfl, h1, h2⟩
end Go.Proofs.Ytigmlkfmgheegaa

/-
  Drawn regions with two new boxes: what is common to all. General. No condition.
-/
namespace Go.Proofs.Ytigmlkfmgheegaa
open Go.RowKit
set_option linter.unusedSimpArgs false
set_option linter.unusedVariables false
set_option maxHeartbeats 4000000
set_option maxRecDepth 100000
attribute [local irreducible] wpQuiet

theorem pool2 {i k : Nat} {p : Nat → Prop} (h1 : p i) (h2 : p k) : ∀ j ∈ [i, k], p j := fun j hj => by
  rcases List.mem_cons.1 hj with rfl | hj
  · exact h1
  · rw [List.mem_singleton.1 hj]; exact h2
theorem pool1 {i : Nat} {p : Nat → Prop} (h1 : p i) : ∀ j ∈ [i], p j := fun j hj => by rw [List.mem_singleton.1 hj]; exact h1
theorem pool0 {p : Nat → Prop} : ∀ j ∈ ([] : List Nat), p j := fun j hj => (List.not_mem_nil hj).elim
theorem xl_newE {l : List Nat} {n b : Nat} (eb : b = n) : ∀ b', b' < n → XL (b :: l) b' → XL l b' := by subst eb; exact xl_new
theorem bag_drew {l : List (Nat × TypeId × List Value)} {W0 w : World} (h : Bag l W0 w) : Below w.heap.size w w.drew := (Below.refl _ _).drew
theorem bag_newT {l : List (Nat × TypeId × List Value)} {W0 w wa : World} {b : Nat} {t : TypeId} {z : List Value} (h : Bag l W0 w) (eb : b = w.heap.size) (ew : wa = w.alloc (.cells z.toArray t)) : Bag ((b, t, z) :: l) W0 wa := by subst eb ew; exact h.new t z
theorem al2 (w : World) (o o2 : Obj) : Below w.heap.size w ((w.alloc o).alloc o2) := ((Below.refl _ _).alloc (Nat.le_refl _) o).alloc (by simp) o2
theorem xl_two {n : Nat} : ∀ b, b < n → XL [n, n + 1] b → XL [] b := fun b h h2 => by
  rcases List.mem_cons.1 h2 with rfl | h3
  · omega
  · have := List.mem_singleton.1 h3; omega
theorem xl_3 {a b : Nat} {l : List Nat} : XL (b :: a :: l) a := List.mem_cons_of_mem _ List.mem_cons_self
theorem bag_new2 {l : List (Nat × TypeId × List Value)} {W0 w : World} (h : Bag l W0 w) (t1 : TypeId) (c1 : List Value) (t2 : TypeId) (c2 : List Value) : Bag ((w.heap.size, t1, c1) :: (w.heap.size + 1, t2, c2) :: l) W0 ((w.alloc (.cells c1.toArray t1)).alloc (.cells c2.toArray t2)) := by
  have h2 := (h.new t1 c1).new t2 c2
  rw [show (w.alloc (.cells c1.toArray t1)).heap.size = w.heap.size + 1 from Array.size_push ..] at h2
  exact h2.swap
theorem xl_lt0 {n : Nat} : ∀ b, XL [] b → b < n := fun b h => (List.not_mem_nil h).elim
theorem xl_lt1 {W0 w : World} {b : Nat} {t : TypeId} {c : List Value} {l : List (Nat × TypeId × List Value)} (h : Bag ((b, t, c) :: l) W0 w) : ∀ b', XL [b] b' → b' < w.heap.size := fun b' hb => by
  rw [List.mem_singleton.1 hb]; exact (h.all _ _ _ (.head _)).lt
theorem xl_lt2 {W0 w : World} {b b2 : Nat} {t t2 : TypeId} {c c2 : List Value} {l : List (Nat × TypeId × List Value)} (h : Bag ((b, t, c) :: (b2, t2, c2) :: l) W0 w) : ∀ b', XL [b, b2] b' → b' < w.heap.size := fun b' hb => by
  rcases List.mem_cons.1 hb with rfl | hb
  · exact (h.all _ _ _ (.head _)).lt
  · rw [List.mem_singleton.1 hb]; exact (h.all _ _ _ (.tail _ (.head _))).lt
theorem xl_nil {X : Nat → Prop} : ∀ b, XL [] b → X b := fun b h => (List.not_mem_nil h).elim
theorem xl_1 {a : Nat} {l : List Nat} : XL (a :: l) a := List.mem_cons_self
theorem xl_2 {a b : Nat} {l : List Nat} : XL (b :: a :: l) a := List.mem_cons_of_mem _ List.mem_cons_self
end Go.Proofs.Ytigmlkfmgheegaa
