import Derived.Test.YtigmlkfmgheegaaMG
import Derived.Test.YtigmlkfmgheegaaLast
import Derived.Laws.CopyOwn
import Derived.Laws.OwnMore
import Derived.Deep.Onto
import Derived.Deep.RegionLaw
import Derived.Maps.AppendAt
import Derived.Laws.DeepStrings4
import Derived.Lib.Strings
import Derived.Lib.IndexBytes
import Derived.Lib.UnsafeStr
import Derived.Laws.IdiomStrings
/-
  Rows of integers that a call made: copied; a byte set in it; a memory of zeros. Condition: lists have at most 2^40 elements; a byte is set in a list of words.
-/
namespace Go.Proofs.Ytigmlkfmgheegaa
open Go.RowKit
set_option linter.unusedSimpArgs false
set_option linter.unusedVariables false
set_option maxHeartbeats 1000000
attribute [local irreducible] wpQuiet

theorem info64 : (Try.prog.info? 3).map (fun i => (i.zero, i.size, i.bytes)) = some (some (.int .i64 0), 1, 8) := by kernel_rfl

/-- A row of the call's own, from block B on, that reads as l. -/
def Own (B : Nat) (w : World) (v : Value) (l : List Int) : Prop := w.ownsRow B 3 1 v l.length (l.map (Value.int .i64))
theorem Own.nums {B : Nat} {w : World} {v : Value} {l : List Int} (h : Own B w v l) : Nums .i64 w v l := Nums.of_own h
theorem Own.step {B : Nat} {w w' : World} {v : Value} {l : List Int} (h : Own B w v l) (hb : Below w.heap.size w w') : Own B w' v l := own_step h hb
theorem Own.nil (B : Nat) (w : World) : Own B w (.slice none 0 0) [] := World.ownsRow_nil _ _ _ _
theorem Own.form {B : Nat} {w : World} {v : Value} {l : List Int} (h : Own B w v l) (hl : 0 < l.length) : ∃ g cap, v = .slice (some ⟨g, 0, none⟩) l.length cap ∧ B ≤ g ∧ l.length ≤ cap ∧ g < w.heap.size := by
  rcases h.2 with ⟨_, h0⟩ | ⟨g, cap, cur, hv, hb, hh, hc, _⟩
  · omega
  · refine ⟨g, cap, hv, hb, hc, ?_⟩
    rcases Nat.lt_or_ge g w.heap.size with k | k
    · exact k
    · rw [Array.getElem?_eq_none k] at hh; cases hh
theorem Own.cell {B g cap : Nat} {w : World} {l : List Int} (h : Own B w (.slice (some ⟨g, 0, none⟩) l.length cap) l) {j : Nat} {x : Int} (hx : l[j]? = some x) : w.cell? ⟨g, j, none⟩ = some (.int .i64 x) := by
  have hj : j < l.length := (List.getElem?_eq_some_iff.1 hx).1
  rw [World.ownsRow.cellAt h j (by omega), List.getElem?_map, hx]; rfl
theorem Own.frozen {B g cap : Nat} {w : World} {l : List Int} (h : Own B w (.slice (some ⟨g, 0, none⟩) l.length cap) l) (j : Nat) : w.frozen? ⟨g, j, none⟩ = false := World.ownsRow.frozenAt h j
theorem Own.set {B g cap : Nat} {w : World} {l : List Int} (h : Own B w (.slice (some ⟨g, 0, none⟩) l.length cap) l) (j : Nat) (x : Int) : Own B (w.setCell ⟨g, j, none⟩ (.int .i64 x)) (.slice (some ⟨g, 0, none⟩) l.length cap) (l.set j x) := by
  unfold Own
  rw [List.length_set, List.map_set]
  exact (World.ownsRow.stored h j _).1
theorem Own.drew {B : Nat} {w : World} {v : Value} {l : List Int} (h : Own B w v l) : Own B w.drew v l := h
theorem Own.drewN {B : Nat} {w : World} {v : Value} {l : List Int} (h : Own B w v l) (n : Nat) : Own B (w.drewN n) v l := h
theorem own_row {B g : Nat} {w : World} {l : List Int} {X : List Value} (hX : X = l.map (Value.int .i64)) (h : w.heap[g]? = some (.cells X.toArray 3 (0, 0))) (hb : B ≤ g) (hl : l.length ≤ 1099511627776) : Own B w (.slice (some ⟨g, 0, none⟩) l.length l.length) l := by
  subst hX
  exact ⟨by simp, .inr ⟨g, l.length, _, rfl, hb, h, Nat.le_refl _, by unfold maxLen; omega, by simp, by rw [List.take_of_length_le (by simp)]⟩⟩
theorem row_made (w : World) (n : Nat) : (w.alloc (.cells (madeCells #[.int .i64 0] n) 3)).heap[w.heap.size]? = some (.cells (List.replicate n (Value.int .i64 0)).toArray 3 (0, 0)) := by
  rw [heap_alloc_new]
  rw [← toList_madeCells_one]
theorem splice_all {n : Nat} {z : Value} {X : List Value} (h : X.length = n) : splice (List.replicate n z) 0 X = X := by
  simp [splice, h]
theorem one_ints (l : List Int) : ∀ v ∈ l.map (Value.int .i64), v.oneCell' = true := by
  intro v hv
  obtain ⟨x, _, rfl⟩ := List.mem_map.1 hv
  rfl
theorem nums_cells {w : World} {A : Option Addr} {k c : Nat} {l : List Int} (hc : ∀ j x, l[j]? = some x → ∃ a : Addr, A = some a ∧ w.cell? (a.add j) = some (.int .i64 x) ∧ (a.add j).block < w.heap.size) {w' : World} (hb : Below w.heap.size w w')
    {X : List Value} (hX : X = l.map (Value.int .i64)) : ∀ j v, X[j]? = some v → ∃ a : Addr, A = some a ∧ w'.cell? (a.add j) = some v := by
  subst hX
  intro j v hv
  rw [List.getElem?_map] at hv
  cases hx : l[j]? with
  | none => rw [hx] at hv; cases hv
  | some x =>
    rw [hx] at hv
    obtain ⟨a, ha, h1, h2⟩ := hc j x hx
    have hvx : Value.int .i64 x = v := Option.some.inj hv
    exact ⟨a, ha, by rw [← hvx]; exact (hb.cell h2).trans h1⟩

theorem copied_any (v : Value) (l : List Int) (hl : l.length ≤ 1099511627776) (w : World) (hv : Nums .i64 w v l) :
    Calls Try.prog 87 #[v] w fun e w' => ∃ r, e = .returned r ∧ Own w.heap.size w' r l ∧ Below w.heap.size w w' := by
  obtain ⟨A, c, rfl, hlc, hc⟩ := hv
  have hmk := run_make_row' (P := Try.prog) 42 3 (.int .i64 0) 8 Try.underlying42 info64 rfl .i64 .i64 l.length (by omega) (by omega)
  have hB : Below w.heap.size w (w.alloc (.cells (madeCells #[.int .i64 0] l.length) 3)) := (Below.refl _ _).alloc (Nat.le_refl _) _
  obtain ⟨X, hX⟩ : ∃ X, X = l.map (Value.int .i64) := ⟨_, rfl⟩
  have hcells := nums_cells (k := 0) (c := c) hc hB hX
  have hXl : X.length = l.length := by rw [hX, List.length_map]
  have hX1 : ∀ v ∈ X, v.oneCell' = true := by rw [hX]; exact one_ints l
  have hpos : 0 < X.length → (some (⟨w.heap.size, 0, none⟩ : Addr)) = some ⟨w.heap.size, 0, none⟩ ∧ ∃ ad, A = some ad ∧ ∀ j v, X[j]? = some v → (w.alloc (.cells (madeCells #[.int .i64 0] l.length) 3)).cell? (ad.add j) = some v := by
    intro h0
    obtain ⟨ad, had, _⟩ := hcells 0 X[0] (List.getElem?_eq_getElem h0)
    refine ⟨rfl, ad, had, fun j v hv => ?_⟩
    obtain ⟨a2, ha2, h⟩ := hcells j v hv
    rw [had] at ha2
    rw [Option.some.inj ha2]; exact h
  have hX := hid hX
  clear hc hcells
  go_enter Try.func87, Try.ntmps87
  go_wp2_with (with_reducible refine wpList_copy_splice rfl (.tmp 7) (.tmp 8) 42 42 rfl 3 Try.underlying42 (by kernel_rfl) (some ⟨w.heap.size, 0, none⟩) A l.length l.length l.length c rfl rfl w.heap.size 0 (List.replicate l.length (.int .i64 0)) 3 (row_made _ _) X (by rw [hXl]; exact (Nat.min_self _).symm) hpos (by rw [List.length_replicate]; omega) hX1 w.heap.size w hB (Nat.le_refl _) ?_; intro w2 HG HB)
  go_ret
  refine ⟨_, rfl, own_row hX ?_ (Nat.le_refl _) hl, HB⟩
  have h := HG
  unfold Hid RowKit.Hid at h
  rw [splice_all hXl] at h
  exact h
end Go.Proofs.Ytigmlkfmgheegaa

/-
  A byte set in a row of a call's own, and New, of package memory and of its reference. Condition: lists have at most 2^40 elements; a byte is set in a list of words.
-/
namespace Go.Proofs.Ytigmlkfmgheegaa
open Go.RowKit
set_option linter.unusedSimpArgs false
set_option linter.unusedVariables false
set_option maxHeartbeats 1000000
attribute [local irreducible] wpQuiet

/-! ### Bits -/
theorem N64_small {x : Int} (h0 : 0 ≤ x) (h1 : x ≤ 65535) : N64 x = x.toNat := by have := N64_eq x; omega
theorem or_hi {h l : Int} (h0 : 0 ≤ h) (h1 : h ≤ 255) (l0 : 0 ≤ l) (l1 : l ≤ 255) : bits .or .i64 (h * 256) l = h * 256 + l := by
  have e1 : N64 (h * 256) = 2 ^ 8 * h.toNat := by have := N64_eq (h * 256); omega
  have e2 : N64 l = l.toNat := by have := N64_eq l; omega
  rw [or_def, e1, e2, ← Nat.two_pow_add_eq_or_of_lt (by omega), small (by omega)]
  omega
theorem or_lo {h l : Int} (h0 : 0 ≤ h) (h1 : h ≤ 255) (l0 : 0 ≤ l) (l1 : l ≤ 255) : bits .or .i64 l (h * 256) = h * 256 + l := by
  have e1 : N64 (h * 256) = 2 ^ 8 * h.toNat := by have := N64_eq (h * 256); omega
  have e2 : N64 l = l.toNat := by have := N64_eq l; omega
  rw [or_def, e1, e2, Nat.or_comm, ← Nat.two_pow_add_eq_or_of_lt (by omega), small (by omega)]
  omega
theorem and_cut {x M : Nat} (h : x ≤ 65535) : x &&& M = x &&& (65535 &&& M) := by
  rw [← Nat.and_assoc, m65535, Nat.mod_eq_of_lt (by omega)]
theorem m65280 {x : Nat} (h : x ≤ 65535) : x &&& 65280 = x / 256 * 256 := by
  have e : (65280 : Nat) = (2 ^ 8 - 1) * 2 ^ 8 := rfl
  rw [e, field]
  omega
theorem a65280 {x : Int} (h0 : 0 ≤ x) (h1 : x ≤ 65535) : bits .and .i64 x 65280 = x / 256 * 256 :=
  i_and (c := 65280) (r := x.toNat / 256 * 256) (by decide) (by rw [N64_small h0 h1]; exact m65280 (by omega)) (by intro h; omega)
theorem n255 {x : Int} (h0 : 0 ≤ x) (h1 : x ≤ 65535) : bits .andNot .i64 x 255 = x / 256 * 256 := by
  rw [andNot_def, N64_small h0 h1, show N64 255 = 255 by decide, and_cut (by omega), show 65535 &&& (18446744073709551615 - 255) = 65280 by decide, m65280 (by omega), small (by omega)]
  omega
theorem n65280 {x : Int} (h0 : 0 ≤ x) (h1 : x ≤ 65535) : bits .andNot .i64 x 65280 = x % 256 := by
  rw [andNot_def, N64_small h0 h1, show N64 65280 = 65280 by decide, and_cut (by omega), show 65535 &&& (18446744073709551615 - 65280) = 255 by decide, m255, small (by omega)]
  omega

/-! ### A byte is set -/
theorem own_tail {base g cap : Nat} {w w4 : World} {l : List Int} (h : Own base w (.slice (some ⟨g, 0, none⟩) l.length cap) l) (hg : base ≤ g) (k : Nat) (x : Int) (hb : Below base w w4) (ho : Own base w4 (.slice (some ⟨g, 0, none⟩) l.length cap) l) :
    Own base (w4.setCell ⟨g, k, none⟩ (.int .i64 x)) (.slice (some ⟨g, 0, none⟩) l.length cap) (l.set k x) ∧ Below base w (w4.setCell ⟨g, k, none⟩ (.int .i64 x)) :=
  ⟨ho.set k x, hb.setCell hg _⟩
theorem setN_even {l : List Int} {a : Nat} {x v : Int} (h : a % 2 = 0) (hx : l[a / 2]? = some x) : setN l a v = l.set (a / 2) (x / 256 * 256 + v % 256) := by
  unfold setN; rw [getD_at hx, h]; rfl
theorem setN_odd {l : List Int} {a : Nat} {x v : Int} (h : a % 2 = 1) (hx : l[a / 2]? = some x) : setN l a v = l.set (a / 2) (v % 256 * 256 + x % 256) := by
  unfold setN; rw [getD_at hx, h]; rfl

set_option maxHeartbeats 4000000 in
theorem setbyte_any (base : Nat) (r : Value) (l : List Int) (hl : l.length ≤ 1099511627776) (hw : wordsB l = true) (a : Nat) (ha : a < 2 * l.length) (v : Int) (w : World) (ho : Own base w r l) :
    Calls Try.prog 88 #[r, .int .i64 (a : Int), .int .i64 v] w fun e w' => e = .returned (.tuple #[]) ∧ Own base w' r (setN l a v) ∧ Below base w w' := by
  obtain ⟨g, cap, rfl, hg, hcap, hgl⟩ := ho.form (by omega)
  have hk : a / 2 < l.length := by omega
  have hx := List.getElem?_eq_getElem hk
  have hxb := (wordsB_iff l).1 hw _ (List.getElem_mem hk)
  have e0 := fun h => setN_even (a := a) (v := v) h hx
  have e1 := fun h => setN_odd (a := a) (v := v) h hx
  have hst := fun k x w4 (hb : Below base w w4) (h4 : Own base w4 (.slice (some ⟨g, 0, none⟩) l.length cap) l) => own_tail ho hg k x hb h4
  generalize l[a / 2] = x at *
  obtain ⟨hx0, hx1⟩ := hxb
  have hsh := fun w => shift_any a (by omega) w
  have A0 := a255 v
  have N0 := n255 hx0 hx1
  have N1 := n65280 hx0 hx1
  have O0 := or_hi (h := x / 256) (l := v % 256) (by omega) (by omega) (by omega) (by omega)
  have O1 := or_lo (h := v % 256) (l := x % 256) (by omega) (by omega) (by omega) (by omega)
  have hv0 : 0 ≤ v % 256 ∧ v % 256 ≤ 255 := by omega
  have hi : (a : Int) / 2 = ((a / 2 : Nat) : Int) := by omega
  have hx := hid hx
  rcases Nat.mod_two_eq_zero_or_one a with h | h
  · have hm : (a : Int) % 2 * 8 = 0 := by omega
    rw [hm] at hsh
    rw [e0 h]
    clear e0 e1 h hm O1 N1 hw
    generalize v % 256 = y at *
    generalize hj : a / 2 = j at *
    have hj := hid hj
    go_enter Try.func88, Try.ntmps88
    go_wp2
    refine region_class_last (fun w' => Below base w w' ∧ Own base w' (.slice (some ⟨g, 0, none⟩) l.length cap) l) 15 _ (by kernel_rfl) (by rfl) (by rfl) (by rfl) (by kernel_rfl) (by kernel_rfl) (by kernel_rfl) ⟨(Below.refl _ _).drew, ho.drew⟩ ?_
    simp only [blankLast, List.take_succ_cons, List.take_zero, List.drop_succ_cons, List.drop_zero, List.map_cons, List.map_nil, List.cons_append, List.nil_append, blank]
    repeat
      first
        | (refine BigFrame.wpQuiet_skip (by rfl) ?_
           simp only [Act.put, List.setIfInBounds_toArray, List.set_cons_zero, List.set_cons_succ])
        | (refine BigFrame.wpQuiet_want (by rfl) (fun K hK => ?_)
           apply Exists.intro
           refine ⟨fun wq hq => ?_, hK _ ?_⟩
           · obtain ⟨hqb, hqo⟩ := hq
             have c0 := hqo.cell hx
             unfold Oper.quietAt
             go_simp
             first
               | with_reducible rfl
               | ((go_at_call 76); with_reducible refine (hsh _).mono ?_; exact fun e w' ⟨he, hb⟩ => ⟨he, by rw [← hb]; exact ⟨hqb, hqo⟩⟩)
           clear hK K
           simp only [Act.put, List.setIfInBounds_toArray, List.set_cons_zero, List.set_cons_succ])
    refine wpQuiet_nil ?_
    intro w4 hX
    obtain ⟨hqb, hqo⟩ := hX
    have c0 := hqo.cell hx
    have z0 := hqo.frozen j
    have hfin := hst j (x / 256 * 256 + y) w4 hqb hqo
    go_wp2
    rw [N0, O0]
    exact bodyPost_end (v := .tuple #[]) (by simp [results, Try.results88, go_sem]) rfl ⟨rfl, hfin.1, hfin.2⟩
  · have hm : (a : Int) % 2 * 8 = 8 := by omega
    rw [hm] at hsh
    rw [e1 h]
    clear e0 e1 h hm O0 N0 hw
    generalize v % 256 = y at *
    generalize hj : a / 2 = j at *
    have hj := hid hj
    go_enter Try.func88, Try.ntmps88
    go_wp2
    refine region_class_last (fun w' => Below base w w' ∧ Own base w' (.slice (some ⟨g, 0, none⟩) l.length cap) l) 15 _ (by kernel_rfl) (by rfl) (by rfl) (by rfl) (by kernel_rfl) (by kernel_rfl) (by kernel_rfl) ⟨(Below.refl _ _).drew, ho.drew⟩ ?_
    simp only [blankLast, List.take_succ_cons, List.take_zero, List.drop_succ_cons, List.drop_zero, List.map_cons, List.map_nil, List.cons_append, List.nil_append, blank]
    repeat
      first
        | (refine BigFrame.wpQuiet_skip (by rfl) ?_
           simp only [Act.put, List.setIfInBounds_toArray, List.set_cons_zero, List.set_cons_succ])
        | (refine BigFrame.wpQuiet_want (by rfl) (fun K hK => ?_)
           apply Exists.intro
           refine ⟨fun wq hq => ?_, hK _ ?_⟩
           · obtain ⟨hqb, hqo⟩ := hq
             have c0 := hqo.cell hx
             unfold Oper.quietAt
             go_simp
             first
               | with_reducible rfl
               | ((go_at_call 76); with_reducible refine (hsh _).mono ?_; exact fun e w' ⟨he, hb⟩ => ⟨he, by rw [← hb]; exact ⟨hqb, hqo⟩⟩)
           clear hK K
           simp only [Act.put, List.setIfInBounds_toArray, List.set_cons_zero, List.set_cons_succ])
    refine wpQuiet_nil ?_
    intro w4 hX
    obtain ⟨hqb, hqo⟩ := hX
    have c0 := hqo.cell hx
    have z0 := hqo.frozen j
    have hfin := hst j (y * 256 + x % 256) w4 hqb hqo
    go_wp2
    rw [N1, O1]
    exact bodyPost_end (v := .tuple #[]) (by simp [results, Try.results88, go_sem]) rfl ⟨rfl, hfin.1, hfin.2⟩

theorem rset_any (base : Nat) (r : Value) (l : List Int) (hl : l.length ≤ 1099511627776) (hw : wordsB l = true) (a : Nat) (ha : a < 2 * l.length) (v : Int) (hv : 0 ≤ v ∧ v ≤ 255) (w : World) (ho : Own base w r l) :
    Calls Try.prog 83 #[r, .int .i64 (a : Int), .int .i64 v] w fun e w' => e = .returned (.tuple #[]) ∧ Own base w' r (setN l a v) ∧ Below base w w' := by
  obtain ⟨g, cap, rfl, hg, hcap, hgl⟩ := ho.form (by omega)
  obtain ⟨hv0, hv1⟩ := hv
  have hk : a / 2 < l.length := by omega
  have hx := List.getElem?_eq_getElem hk
  have hxb := (wordsB_iff l).1 hw _ (List.getElem_mem hk)
  have e0 := fun h => setN_even (a := a) (v := v) h hx
  have e1 := fun h => setN_odd (a := a) (v := v) h hx
  rw [show v % 256 = v by omega] at e0 e1
  have hst := fun k x => own_tail ho hg k x (Below.refl base w) ho
  generalize l[a / 2] = x at *
  obtain ⟨hx0, hx1⟩ := hxb
  have N0 := a65280 hx0 hx1
  have N1 := a255 x
  have O0 := or_hi (h := x / 256) (l := v) (by omega) (by omega) (by omega) (by omega)
  have O1 := or_lo (h := v) (l := x % 256) (by omega) (by omega) (by omega) (by omega)
  have hi : (a : Int) / 2 = ((a / 2 : Nat) : Int) := by omega
  have c0 := ho.cell hx
  have z0 := ho.frozen (a / 2)
  rcases Nat.mod_two_eq_zero_or_one a with h | h
  · have hm : (a : Int) % 2 = 0 := by omega
    rw [e0 h]
    have hfin := hst (a / 2) (x / 256 * 256 + v)
    clear e0 e1 h O1 N1 hw hx hst
    generalize hj : a / 2 = j at *
    have hj := hid hj
    generalize x / 256 * 256 + v = V at *
    go_enter Try.func83, Try.ntmps83
    go_wp2
    exact bodyPost_end (v := .tuple #[]) (by simp [results, Try.results83, go_sem]) rfl ⟨rfl, hfin.1, hfin.2⟩
  · have hm : (a : Int) % 2 = 1 := by omega
    rw [e1 h]
    have hfin := hst (a / 2) (v * 256 + x % 256)
    clear e0 e1 h O0 N0 hw hx hst
    generalize hj : a / 2 = j at *
    have hj := hid hj
    generalize v * 256 + x % 256 = V at *
    go_enter Try.func83, Try.ntmps83
    go_wp2
    exact bodyPost_end (v := .tuple #[]) (by simp [results, Try.results83, go_sem]) rfl ⟨rfl, hfin.1, hfin.2⟩

/-! ### New -/
theorem made_own (w : World) (k : Nat) (hk : k ≤ 1099511627776) : Own w.heap.size (w.alloc (.cells (madeCells #[.int .i64 0] k) 3)) (.slice (some ⟨w.heap.size, 0, none⟩) k k) (List.replicate k 0) := by
  have h := own_row (B := w.heap.size) (l := List.replicate k 0) (X := List.replicate k (Value.int .i64 0)) (by rw [List.map_replicate]) (row_made w k) (Nat.le_refl _) (by rw [List.length_replicate]; exact hk)
  rw [List.length_replicate] at h
  exact h
theorem new_any (n : Int) (w : World) : Calls Try.prog 36 #[.int .i64 n] w fun e w' => ∃ r, e = .returned (.tuple #[r, .int .i64 (newE n)]) ∧ Own w.heap.size w' r (newL n) ∧ Below w.heap.size w w' := by
  have ha := fun w => allowed_any n w
  unfold newE newL
  cases hq : okS n
  · rw [hq] at ha
    clear hq
    go_enter Try.func36, Try.ntmps36
    go_wp2_with (first | (go_at_call 56; with_reducible refine (ha _).mono ?_; rintro e w' ⟨rfl, rfl⟩))
    go_ret2
    exact ⟨_, rfl, Own.nil _ _, Below.refl _ _⟩
  · rw [hq] at ha
    obtain ⟨h0, h1, h2⟩ := okS_iff.1 hq
    obtain ⟨k, hk⟩ := Int.eq_ofNat_of_zero_le (show 0 ≤ n / 2 by omega)
    have hmk := run_make_row' (P := Try.prog) 42 3 (.int .i64 0) 8 Try.underlying42 info64 rfl .i64 .i64 k (by omega) (by omega)
    have hown := made_own w k (by omega)
    have hB : Below w.heap.size w (w.alloc (.cells (madeCells #[.int .i64 0] k) 3)) := (Below.refl _ _).alloc (Nat.le_refl _) _
    simp only [if_true]
    rw [hk, Int.toNat_natCast]
    clear hq h2
    go_enter Try.func36, Try.ntmps36
    go_wp2_with (first | (go_at_call 56; with_reducible refine (ha _).mono ?_; rintro e w' ⟨rfl, rfl⟩))
    go_ret2
    exact ⟨_, rfl, hown, hB⟩
end Go.Proofs.Ytigmlkfmgheegaa

/-
  Lists that ascend, plain: where a search ends; an element taken out, put in. No condition.
-/
namespace Go.Proofs.Ytigmlkfmgheegaa
set_option linter.unusedSimpArgs false
set_option linter.unusedVariables false

theorem no_mem {x : Int} {l : List Int} (h : l.contains x = false) : ∀ y ∈ l, y ≠ x := by
  intro y hy e
  subst e
  rw [List.contains_iff_mem.2 hy] at h
  cases h
theorem without_no {x : Int} {l : List Int} (h : l.contains x = false) : withoutP l x = l := by
  unfold withoutP
  rw [List.filter_eq_self]
  intro y hy
  simpa using no_mem h y hy
theorem ge_no {x : Int} {r : List Int} (h : ∀ y ∈ r, x < y) : r.filter (fun y => y != x) = r := by
  rw [List.filter_eq_self]
  intro y hy
  have := h y hy
  simp; omega
theorem without_low (x : Int) : ∀ (l : List Int), l.Pairwise (· < ·) → l.contains x = true → withoutP l x = l.take (lowN l x) ++ l.drop (lowN l x + 1) ∧ lowN l x < l.length
  | [], _, h => by simp at h
  | a :: r, hs, h => by
    have hs' := List.pairwise_cons.1 hs
    by_cases hax : a < x
    · have hr : r.contains x = true := by
        rw [List.contains_cons] at h
        have : (x == a) = false := by simp; omega
        rw [this] at h; exact h
      obtain ⟨h1, h2⟩ := without_low x r hs'.2 hr
      rw [low_lt hax]
      refine ⟨?_, by simp; omega⟩
      unfold withoutP at h1 ⊢
      rw [List.filter_cons_of_pos (by simp; omega), h1]
      rfl
    · have hxa : x = a := by
        rcases List.mem_cons.1 (List.contains_iff_mem.1 h) with e | e
        · exact e
        · have := hs'.1 x e; omega
      subst hxa
      rw [low_ge hs hax]
      refine ⟨?_, by simp⟩
      unfold withoutP
      rw [List.filter_cons_of_neg (by simp), ge_no hs'.1]
      rfl
theorem ins_low (x : Int) : ∀ (l : List Int), l.Pairwise (· < ·) → l.contains x = false → insP x l = l.take (lowN l x) ++ x :: l.drop (lowN l x)
  | [], _, _ => rfl
  | a :: r, hs, h => by
    have hs' := List.pairwise_cons.1 hs
    have hn := no_mem h
    by_cases hax : a < x
    · have hr : r.contains x = false := by
        cases e : r.contains x
        · rfl
        · exact absurd rfl (hn x (List.mem_cons_of_mem _ (List.contains_iff_mem.1 e)))
      rw [low_lt hax, insP, if_pos hax, ins_low x r hs'.2 hr]
      rfl
    · rw [low_ge hs hax, insP, if_neg hax]
      have e := without_no h
      unfold withoutP at e
      rw [e]
      rfl
theorem ins_has (x : Int) : ∀ (l : List Int), l.Pairwise (· < ·) → l.contains x = true → insP x l = l
  | [], _, h => by simp at h
  | a :: r, hs, h => by
    have hs' := List.pairwise_cons.1 hs
    by_cases hax : a < x
    · have hr : r.contains x = true := by
        rw [List.contains_cons] at h
        have : (x == a) = false := by simp; omega
        rw [this] at h; exact h
      rw [insP, if_pos hax, ins_has x r hs'.2 hr]
    · have hxa : x = a := by
        rcases List.mem_cons.1 (List.contains_iff_mem.1 h) with e | e
        · exact e
        · have := hs'.1 x e; omega
      subst hxa
      rw [insP, if_neg hax, List.filter_cons_of_neg (by simp), ge_no hs'.1]
/-- Nothing of a list but what is put in. -/
theorem ins_mem (x y : Int) : ∀ (l : List Int), y ∈ insP x l ↔ y = x ∨ y ∈ l
  | [] => by simp [insP]
  | a :: r => by
    unfold insP
    split
    · rw [List.mem_cons, ins_mem x y r, List.mem_cons]
      constructor
      · rintro (h | h | h)
        · exact .inr (.inl h)
        · exact .inl h
        · exact .inr (.inr h)
      · rintro (h | h | h)
        · exact .inr (.inl h)
        · exact .inl h
        · exact .inr (.inr h)
    · rw [List.mem_cons, List.mem_filter]
      constructor
      · rintro (h | h)
        · exact .inl h
        · exact .inr h.1
      · rintro (h | h)
        · exact .inl h
        · by_cases e : y = x
          · exact .inl e
          · exact .inr ⟨h, by simpa using e⟩
theorem ins_sorted (x : Int) : ∀ (l : List Int), l.Pairwise (· < ·) → (insP x l).Pairwise (· < ·)
  | [], _ => by simp [insP]
  | a :: r, hs => by
    have hs' := List.pairwise_cons.1 hs
    unfold insP
    split
    · next h =>
      rw [List.pairwise_cons]
      refine ⟨fun y hy => ?_, ins_sorted x r hs'.2⟩
      rcases (ins_mem x y r).1 hy with rfl | e
      · exact h
      · exact hs'.1 y e
    · next h =>
      rw [List.pairwise_cons]
      refine ⟨fun y hy => ?_, hs.filter _⟩
      obtain ⟨h1, h2⟩ := List.mem_filter.1 hy
      have h2 : y ≠ x := by simpa using h2
      rcases List.mem_cons.1 h1 with rfl | e
      · omega
      · have := hs'.1 y e; omega
theorem without_sorted {l : List Int} (x : Int) (hs : l.Pairwise (· < ·)) : (withoutP l x).Pairwise (· < ·) := hs.filter _
theorem ins_contains (x : Int) (l : List Int) : (insP x l).contains x = true := List.contains_iff_mem.2 ((ins_mem x x l).2 (.inl rfl))
theorem without_ins (x : Int) : ∀ (l : List Int), l.contains x = false → withoutP (insP x l) x = l
  | [], _ => by simp [insP, withoutP]
  | a :: r, h => by
    have hn := no_mem h
    have hr : r.contains x = false := by
      cases e : r.contains x
      · rfl
      · exact absurd rfl (hn x (List.mem_cons_of_mem _ (List.contains_iff_mem.1 e)))
    have hax := hn a List.mem_cons_self
    unfold insP
    split
    · have e := without_ins x r hr
      unfold withoutP at e ⊢
      rw [List.filter_cons_of_pos (by simpa using hax), e]
    · have e := without_no h
      unfold withoutP at e ⊢
      rw [List.filter_cons_of_neg (by simp), e, e]
theorem without_contains (x : Int) (l : List Int) : (withoutP l x).contains x = false := by
  cases e : (withoutP l x).contains x
  · rfl
  · have := (List.mem_filter.1 (List.contains_iff_mem.1 e)).2
    simp at this
theorem without_other {x y : Int} (l : List Int) (h : y ≠ x) : (withoutP l x).contains y = l.contains y := by
  rw [Bool.eq_iff_iff, List.contains_iff_mem, List.contains_iff_mem]
  unfold withoutP
  rw [List.mem_filter]
  exact ⟨fun k => k.1, fun k => ⟨k, by simpa using h⟩⟩

/-! ### Rows -/
theorem splice_two {α : Type} (Z X Y : List α) (h : Z.length = X.length + Y.length) : splice (splice Z 0 X) X.length Y = X ++ Y := by
  have e1 : splice Z 0 X = X ++ Z.drop X.length := by simp [splice]
  rw [e1]
  unfold splice
  rw [List.take_left, List.drop_eq_nil_of_le (by simp; omega), List.append_nil]
theorem splice_mid {α : Type} (Z X Y : List α) (z : α) (h : Z.length = X.length + 1 + Y.length) : splice ((splice Z 0 X).set X.length z) (X.length + 1) Y = X ++ z :: Y := by
  have e1 : splice Z 0 X = X ++ Z.drop X.length := by simp [splice]
  rw [e1]
  have hd : Z.drop X.length = Z[X.length]'(by omega) :: Z.drop (X.length + 1) := List.drop_eq_getElem_cons (by omega)
  rw [hd, List.set_append_right _ _ (by omega), Nat.sub_self, List.set_cons_zero]
  unfold splice
  rw [show X ++ z :: Z.drop (X.length + 1) = (X ++ [z]) ++ Z.drop (X.length + 1) by simp, List.take_left' (by simp), List.drop_eq_nil_of_le (by simp; omega)]
  simp
end Go.Proofs.Ytigmlkfmgheegaa

/-
  Walks over with and without of package memory: an ascending list with an element put in or taken out. Condition: lists have at most 2^40 elements and ascend.
-/
namespace Go.Proofs.Ytigmlkfmgheegaa
open Go.RowKit
set_option linter.unusedSimpArgs false
set_option linter.unusedVariables false
set_option maxHeartbeats 1000000
attribute [local irreducible] wpQuiet

theorem part_cells {w : World} {p : Addr} {l : List Int} (hc : ∀ j x, l[j]? = some x → ∃ a : Addr, some p = some a ∧ w.cell? (a.add j) = some (.int .i64 x) ∧ (a.add j).block < w.heap.size) {w' : World} (hb : Below w.heap.size w w')
    (k : Nat) {m : List Int} (hm : ∀ j x, m[j]? = some x → l[k + j]? = some x) {X : List Value} (hX : X = m.map (Value.int .i64)) : ∀ j v, X[j]? = some v → w'.cell? (p.add (k + j)) = some v := by
  subst hX
  intro j v hv
  rw [List.getElem?_map] at hv
  cases hx : m[j]? with
  | none => rw [hx] at hv; cases hv
  | some x =>
    rw [hx] at hv
    obtain ⟨a, ha, h1, h2⟩ := hc (k + j) x (hm j x hx)
    have hvx : Value.int .i64 x = v := Option.some.inj hv
    rw [Option.some.inj ha, ← hvx]
    exact (hb.cell h2).trans h1
theorem take_at {l : List Int} (i : Nat) : ∀ j x, (l.take i)[j]? = some x → l[0 + j]? = some x := by
  intro j x h
  have hj : j < i := by have := (List.getElem?_eq_some_iff.1 h).1; simp at this; omega
  rw [List.getElem?_take_of_lt hj] at h
  rw [Nat.zero_add]; exact h
theorem drop_at {l : List Int} (i : Nat) : ∀ j x, (l.drop i)[j]? = some x → l[i + j]? = some x := by
  intro j x h
  rw [List.getElem?_drop] at h; exact h

theorem add_add (p : Addr) (k j : Nat) : (⟨p.block, p.off + (k + 1), none⟩ : Addr).add j = p.add (k + 1 + j) := by
  unfold Addr.add
  rw [if_neg (show ¬ k + 1 + j = 0 by omega)]
  split
  · next h => subst h; rfl
  · simp only [Addr.mk.injEq, true_and, and_true]; omega
theorem own_row' {B g k : Nat} {w : World} {l : List Int} {X : List Value} (hX : X = l.map (Value.int .i64)) (h : Hid (w.heap[g]? = some (.cells X.toArray 3 (0, 0)))) (hb : B ≤ g) (hk : l.length = k) (hl : k ≤ 1099511627776) : Own B w (.slice (some ⟨g, 0, none⟩) k k) l := by
  subst hk; exact own_row hX h hb hl
end Go.Proofs.Ytigmlkfmgheegaa

/-
  Walk over with of package memory: an ascending list with an element put in. Condition: the list has at most 2^40 elements and ascends.
-/
namespace Go.Proofs.Ytigmlkfmgheegaa
open Go.RowKit
set_option linter.unusedSimpArgs false
set_option linter.unusedVariables false
set_option maxHeartbeats 1000000
attribute [local irreducible] wpQuiet

theorem row_cell {w : World} {g k : Nat} {Z : List Value} {t : TypeId} (h : w.heap[g]? = some (.cells Z.toArray t (0, 0))) (hk : k < Z.length) : w.cell? ⟨g, k, none⟩ = some Z[k] := by
  rw [cell_of_row w g k _ t (0, 0) h]; simp [hk]
theorem row_frozen {w : World} {g : Nat} {Z : List Value} {t : TypeId} (h : w.heap[g]? = some (.cells Z.toArray t (0, 0))) (k : Nat) : w.frozen? ⟨g, k, none⟩ = false := frozen_of_row w g k _ t h
theorem row_set {w : World} {g k : Nat} {Z : List Value} {t : TypeId} (h : w.heap[g]? = some (.cells Z.toArray t (0, 0))) (v : Value) : (w.setCell ⟨g, k, none⟩ v).heap[g]? = some (.cells (Z.set k v).toArray t (0, 0)) := by
  rw [heap_setCell_same w g k _ t v h]; simp
/-- What a copy reads. -/
def Src (A : Option Addr) (X : List Value) (w : World) : Prop := 0 < X.length → ∃ ad, A = some ad ∧ ∀ j v, X[j]? = some v → w.cell? (ad.add j) = some v
theorem wpList_copy_set {P : Program} {w : World} {ops : Array Oper} {rest : List Oper} {o : Oper} {a : Act} {Q : Exit → Act → World → Prop} (hgd : o.guard = none) (d s : Operand) (dT sT : TypeId)
    (ho : o.op = .call { callee := .builtin .copy, args := #[d, s], argTypes := #[dT, sT] }) (elem : TypeId) (hu : P.underlying dT = some (.slice elem)) (hsz : (P.info? elem).map (·.size) = some 1)
    (sp : Option Addr) (dLen dCap sLen sCap : Nat) (g off : Nat) (hd : a.eval d = .slice (some ⟨g, off, none⟩) dLen dCap) (hs : a.eval s = .slice sp sLen sCap)
    (cur : List Value) (t : TypeId) (hg : w.heap[g]? = some (.cells cur.toArray t (0, 0))) (cs : List Value) (hn : cs.length = Nat.min sLen dLen)
    (hpos : Src sp cs w)
    (hfit : off + cs.length ≤ cur.length) (h1 : ∀ v ∈ cs, v.oneCell' = true) (B : Nat) (w0 : World) (hb : Below B w0 w) (hBg : B ≤ g) (i : Nat) (hi : i < cur.length)
    (h : ∀ w' z, w'.cell? ⟨g, i, none⟩ = some z → w'.frozen? ⟨g, i, none⟩ = false → Hid (∀ v, (w'.setCell ⟨g, i, none⟩ v).heap[g]? = some (.cells ((splice cur off cs).set i v).toArray t (0, 0))) → Hid (∀ v, Below B w0 (w'.setCell ⟨g, i, none⟩ v)) → Below B w0 w' → wpList P ops Q rest (a.put o.dst (goInt cs.length)) w') :
    wpList P ops Q (o :: rest) a w :=
  wpList_copy_splice hgd d s dT sT ho elem hu hsz (some ⟨g, off, none⟩) sp dLen dCap sLen sCap hd hs g off cur t hg cs hn (fun h => ⟨rfl, hpos h⟩) hfit h1 B w0 hb hBg fun w' HG HB =>
    h w' _ (row_cell HG (by rw [length_splice _ _ _ hfit]; exact hi)) (row_frozen HG i) (fun v => row_set HG v) (fun v => Below.setCell HB hBg v) HB
theorem add_any (p : Addr) (k j : Nat) : (p.add k).add j = p.add (k + j) := by
  unfold Addr.add
  rcases Nat.eq_zero_or_pos k with rfl | hk
  · simp
  · rcases Nat.eq_zero_or_pos j with rfl | hj
    · simp
    · rw [if_neg (by omega), if_neg (by omega), if_neg (by omega)]
      simp only [Addr.mk.injEq, true_and, and_true]; omega
theorem own_row2 {B g k : Nat} {w : World} {l : List Int} {X : List Value} (hX : X = l.map (Value.int .i64)) (h : Hid (w.heap[g]? = some (.cells X.toArray 3 (0, 0)))) (hb : B ≤ g) (hk : l.length = k) (hl : k ≤ 2199023255552) : Own B w (.slice (some ⟨g, 0, none⟩) k k) l := by
  subst hX hk
  exact ⟨by simp, .inr ⟨g, l.length, _, rfl, hb, h, Nat.le_refl _, by unfold maxLen; omega, by simp, by rw [List.take_of_length_le (by simp)]⟩⟩
end Go.Proofs.Ytigmlkfmgheegaa

/-
  Walks over Without and Spoil of the reference and over Spoil of package memory. Condition: lists have at most 2^40 elements; for Spoil of memory, the bad addresses ascend.
-/
namespace Go.Proofs.Ytigmlkfmgheegaa
open Go.RowKit
set_option linter.unusedSimpArgs false
set_option linter.unusedVariables false
set_option maxHeartbeats 1000000
attribute [local irreducible] wpQuiet

theorem own_snoc {B : Nat} {w : World} {v : Value} {out : List Int} {y : Int} (h : w.ownsRow B 3 1 v (out.length + 1) (out.map (Value.int .i64) ++ [.int .i64 y])) : Own B w v (out ++ [y]) := by
  unfold Own
  rw [List.length_append, List.map_append]
  exact h
theorem without_drop {l : List Int} {k : Nat} {y : Int} (h : l[k]? = some y) (x : Int) : withoutP (l.drop k) x = (if y = x then [] else [y]) ++ withoutP (l.drop (k + 1)) x := by
  have hk : k < l.length := (List.getElem?_eq_some_iff.1 h).1
  rw [List.drop_eq_getElem_cons hk, (List.getElem?_eq_some_iff.1 h).2]
  unfold withoutP
  by_cases e : y = x
  · rw [List.filter_cons_of_neg (by simp [e]), if_pos e]; rfl
  · rw [List.filter_cons_of_pos (by simpa using e), if_neg e]; rfl
theorem ins_drop {l : List Int} {k : Nat} {y : Int} (h : l[k]? = some y) {x : Int} (hy : y < x) : insP x (l.drop k) = y :: insP x (l.drop (k + 1)) := by
  have hk : k < l.length := (List.getElem?_eq_some_iff.1 h).1
  rw [List.drop_eq_getElem_cons hk, (List.getElem?_eq_some_iff.1 h).2, insP, if_pos hy]
theorem ins_stop {l : List Int} {k : Nat} {y : Int} (h : l[k]? = some y) {x : Int} (hy : ¬ y < x) : insP x (l.drop k) = x :: withoutP (l.drop k) x := by
  have hk : k < l.length := (List.getElem?_eq_some_iff.1 h).1
  rw [List.drop_eq_getElem_cons hk, (List.getElem?_eq_some_iff.1 h).2, insP, if_neg hy]; rfl
theorem spoilE_odd {n a : Int} (h : ¬ a % 2 = 0) : spoilE n a = 1 := if_neg h
theorem spoilE_ok {n a : Int} (h : a % 2 = 0) (h0 : 0 ≤ a) (h1 : a < n) : spoilE n a = 0 := by unfold spoilE; rw [if_pos h, if_pos ⟨h0, h1⟩]
theorem spoilE_out {n a : Int} (h : a % 2 = 0) (h0 : ¬ (0 ≤ a ∧ a < n)) : spoilE n a = 2 := by unfold spoilE; rw [if_pos h, if_neg h0]
theorem spoilL_no {n a : Int} {bad : List Int} (h : spoilE n a ≠ 0) : spoilL n bad a = [] := if_neg h
theorem spoilL_ok {n a : Int} {bad : List Int} (h : spoilE n a = 0) : spoilL n bad a = insP a bad := if_pos h

theorem rwithout_any (v : Value) (l : List Int) (hl : l.length ≤ 1099511627776) (x : Int) (w : World) (hv : Nums .i64 w v l) :
    Calls Try.prog 84 #[v, .int .i64 x] w fun e w' => ∃ r, e = .returned r ∧ Own w.heap.size w' r (withoutP l x) ∧ Below w.heap.size w w' := by
  obtain ⟨i0, hti, hz0, hz1, hz2⟩ := info_parts info64
  obtain ⟨A, c, rfl, _, hc⟩ := hv
  go_enter Try.func84, Try.ntmps84
  go_wp2
  go_loopw [5, 6] (fun v i wr => ∃ (k : Nat) (out : List Int), k ≤ l.length ∧ i = .int .i64 k ∧ wr.ownsRow w.heap.size 3 1 v out.length (out.map (Value.int .i64)) ∧ out.length ≤ k ∧ Below w.heap.size w wr ∧ Hid (withoutP l x = out ++ withoutP (l.drop k) x))
    (fun _ i _ => match i with | .int _ q => l.length - q.toNat | _ => 0)
  case atStart => exact ⟨0, [], Nat.zero_le _, rfl, World.ownsRow_nil _ _ _ _, Nat.le_refl _, Below.refl _ _, rfl⟩
  case round =>
    obtain ⟨k, out, hk, rfl, hown, hol, hB, hQ⟩ := hrel
    by_cases hkl : k < l.length
    · have hx := List.getElem?_eq_getElem hkl
      generalize l[k] = y at *
      obtain ⟨a, rfl, hc1, hc2⟩ := hc k y hx
      have hcy := (hB.cell hc2).trans hc1
      have hd := hid (without_drop hx x)
      clear hx hc hc1 hc2
      by_cases hyx : y = x
      · have hyb : (y != x) = false := by simpa using hyx
        replace hyx := hid hyx
        go_wp2
        refine ⟨⟨k + 1, out, by omega, by go_num, hown, by omega, hB, ?_⟩, by simp only; omega⟩
        show _ = _
        rw [show withoutP l x = _ from hQ, show withoutP (List.drop k l) x = _ from hd, if_pos (show y = x from hyx)]; rfl
      · have hyb : (y != x) = true := by simpa using hyx
        replace hyx := hid hyx
        go_wp2_with (first | (at_builtin; refine wpList_append_own _ rfl (.tmp 19) (.tmp 24) 42 rfl w.heap.size 3 i0 (.int .i64 0) 1 8 Try.underlying42 hti hz0 hz1 hz2 rfl (by decide) _ _ _ rfl (World.ownsRow.alloc hown _) ⟨wr.heap.size, 0, none⟩ 1 1 [.int .i64 y] rfl rfl (cell_one_new _ _ _) (fun x hx => by simp at hx; subst hx; rfl) (by unfold maxLen; omega) (by omega) (by have := hB.size; simp; omega) ?_; intro v' w1 hown' hgrow _))
        have hO := own_snoc hown'
        refine ⟨⟨k + 1, out ++ [y], by omega, by go_num, hO, by rw [List.length_append, List.length_singleton]; omega, (hB.alloc hB.size _).grown hgrow (by have := hB.size; simp; omega) (fun j hj => (World.ownsRow.lt hown j hj).1), ?_⟩, by simp only; omega⟩
        show _ = _
        rw [show withoutP l x = _ from hQ, show withoutP (List.drop k l) x = _ from hd, if_neg (show ¬ y = x from hyx), List.append_assoc]
    · obtain rfl : k = l.length := by omega
      have hQ2 : withoutP l x = out := by rw [show withoutP l x = _ from hQ, List.drop_length]; simp [withoutP]
      replace hQ2 := hid hQ2
      clear hc hQ
      go_wp2
      go_ret
      exact ⟨_, rfl, by rw [show withoutP l x = _ from hQ2]; exact hown, hB⟩

end Go.Proofs.Ytigmlkfmgheegaa

/-
  Walks over Write of package memory and of its reference. Condition: lists have at most 2^40 elements, the words are words; for Write of memory, the bad addresses ascend.
-/
namespace Go.Proofs.Ytigmlkfmgheegaa
open Go.RowKit
set_option linter.unusedSimpArgs false
set_option linter.unusedVariables false
set_option maxHeartbeats 1000000
attribute [local irreducible] wpQuiet

theorem Own.mono {B B' : Nat} {w : World} {v : Value} {l : List Int} (h : Own B w v l) (hb : B' ≤ B) : Own B' w v l := World.ownsRow.mono h hb
theorem Own.opens {B j : Nat} {w w0 : World} {v : Value} {l : List Int} {x : Int} (h : Own B w v l) (hx : Hid (l[j]? = some x)) (hb : Below B w0 w) (y : Int) :
    ∃ g cap, v = .slice (some ⟨g, 0, none⟩) l.length cap ∧ w.cell? ⟨g, j, none⟩ = some (.int .i64 x) ∧ w.frozen? ⟨g, j, none⟩ = false ∧ Below B w0 (w.setCell ⟨g, j, none⟩ (.int .i64 y)) ∧ Own B (w.setCell ⟨g, j, none⟩ (.int .i64 y)) (.slice (some ⟨g, 0, none⟩) l.length cap) (l.set j y) := by
  obtain ⟨g, cap, rfl, hg, _, _⟩ := h.form (by have := (List.getElem?_eq_some_iff.1 hx).1; omega)
  exact ⟨g, cap, rfl, h.cell hx, h.frozen j, hb.setCell hg _, h.set j y⟩
theorem setN_mod (l : List Int) (a : Nat) (v : Int) : setN l a (v % 256) = setN l a v := by
  unfold setN setW; rw [show v % 256 % 256 = v % 256 by omega]
theorem writeM_no {mem : List Int} {a v : Int} {b : Bool} (h : accP (2 * (mem.length : Int)) a b = false) : writeM mem a b v = [] := if_neg (by rw [h]; decide)
theorem writeM_ok {mem : List Int} {a v : Int} {b : Bool} (h : accP (2 * (mem.length : Int)) a b = true) : writeM mem a b v = wordW mem a b v := if_pos h
theorem writeB_no {n a : Int} {bad : List Int} {b : Bool} (h : accP n a b = false) : writeB n bad a b = [] := if_neg (by rw [h]; decide)
theorem writeB_ok {n a : Int} {bad : List Int} {b : Bool} (h : accP n a b = true) : writeB n bad a b = withoutP bad (evenP a) := if_pos h

theorem own_all {B : Nat} {w : World} {v : Value} {l : List Int} (h : w.ownsRow B 3 1 v (0 + l.length) ([] ++ l.map (Value.int .i64))) : Own B w v l := by
  unfold Own
  rw [Nat.zero_add, List.nil_append] at h
  exact h
theorem lit_own (w : World) : (w.alloc (.cells #[] 3)).ownsRow w.heap.size 3 1 (.slice (some ⟨w.heap.size, 0, none⟩) 0 0) 0 [] := World.ownsRow_lit w #[] 0 (Nat.le_refl _) (by decide) rfl
theorem all_cells {w : World} {p : Addr} {l : List Int} (hc : ∀ j x, l[j]? = some x → ∃ a : Addr, some p = some a ∧ w.cell? (a.add j) = some (.int .i64 x) ∧ (a.add j).block < w.heap.size) {w' : World} (hb : Below w.heap.size w w') : ∀ j u, (l.map (Value.int .i64))[j]? = some u → w'.cell? (p.add j) = some u := by
  have h := part_cells hc hb 0 (m := l) (X := l.map (Value.int .i64)) (fun j x hx => by rw [Nat.zero_add]; exact hx) rfl
  intro j u hu
  have := h j u hu
  rwa [Nat.zero_add] at this

end Go.Proofs.Ytigmlkfmgheegaa

/-
  Walks over Bytes of package memory and of its reference. Condition: lists have at most 2^40 elements.
-/
namespace Go.Proofs.Ytigmlkfmgheegaa
open Go.RowKit
set_option linter.unusedSimpArgs false
set_option linter.unusedVariables false
set_option maxHeartbeats 1000000
attribute [local irreducible] wpQuiet

theorem info8 : (Try.prog.info? 5).map (fun i => (i.zero, i.size, i.bytes)) = some (some (.int .u8 0), 1, 1) := by kernel_rfl
theorem inR_rng {n a k : Int} (h : inR n a k = true) : 0 ≤ a ∧ 0 ≤ k ∧ k ≤ n - a := by unfold inR at h; simpa using h
theorem bytesE_no {n a k : Int} (h : inR n a k = false) : bytesE n a k = 2 := if_neg (by rw [h]; decide)
theorem bytesE_ok {n a k : Int} (h : inR n a k = true) : bytesE n a k = 0 := if_pos h
theorem bytesS_no {l : List Int} {a k : Int} (h : inR (2 * (l.length : Int)) a k = false) : bytesS l a k = [] := if_neg (by rw [h]; decide)
theorem bytesS_ok {l : List Int} {a k : Int} (h : inR (2 * (l.length : Int)) a k = true) : bytesS l a k = bytesN l a.toNat k.toNat := if_pos h
/-- Byte j, as a cell. -/
def b8 (l : List Int) (a j : Nat) : Value := .int .u8 (byteN l (a + j))
theorem bytesN_at (l : List Int) (k a j : Nat) (h : j < (bytesN l a k).length) : ((bytesN l a k)[j]'h).toNat = (byteN l (a + j)).toNat := by
  have hj : j < k := by rw [bytesN_length] at h; exact h
  have e := bytesN_get l k a j hj
  rw [List.getElem?_eq_getElem h] at e
  rw [Option.some.inj e]
  have := byteN_bd l (a + j)
  simp; omega
theorem b8_row {A N a : Nat} {l : List Int} {w : World} {f : Nat → Value} (h : w.rowIs A 5 N f) (hf : ∀ j, j < N → f j = b8 l a j) :
    (convert 82 9 (.slice (some ⟨A, 0, none⟩) N N)).run Try.prog w = .ok (.string ⟨(bytesN l a N).toArray⟩) w := by
  have hl := bytesN_length l N a
  have e := run_convert_bytes_back (P := Try.prog) w 82 9 5 ⟨A, 0, none⟩ N (bytesN l a N) Try.underlying82 Try.underlying5 Try.underlying9 (fun j hj => by
    have e1 : (⟨A, 0, none⟩ : Addr).add j = ⟨A, j, none⟩ := by unfold Addr.add; split <;> simp_all
    have := byteN_bd l (a + j)
    have e2 : (((byteN l (a + j)).toNat : Nat) : Int) = byteN l (a + j) := by omega
    rw [e1, h.cell (by omega), hf j (by omega), b8, bytesN_at, e2])
  rw [hl] at e
  exact e
theorem b8_step {A N a k : Nat} {l : List Int} {w : World} (h : w.rowIs A 5 N (fun j => if j < k then b8 l a j else .int .u8 0)) (v : Value) (hv : v = b8 l a k) :
    (w.setCell ⟨A, k, none⟩ v).rowIs A 5 N (fun j => if j < k + 1 then b8 l a j else .int .u8 0) := by
  refine (h.set k v).congr fun j _ => ?_
  by_cases hjk : j = k
  · simp [hjk, hv]
  · simp only [if_neg hjk, show (j < k + 1) = (j < k) by apply propext; omega]

set_option maxHeartbeats 4000000 in
theorem bytes_any (vm : Value) (mem : List Int) (hl : mem.length ≤ 1099511627776) (a n : Int) (ha : a ≤ 9223372036854775807) (w : World) (hm : Nums .i64 w vm mem) :
    Calls Try.prog 33 #[vm, .int .i64 a, .int .i64 n] w fun e w' => e = .returned (.tuple #[.string ⟨(bytesS mem a n).toArray⟩, .int .i64 (bytesE (2 * (mem.length : Int)) a n)]) ∧ Below w.heap.size w w' := by
  have hby := fun k hk w' (hB : Below w.heap.size w w') => byteat_any vm mem hl k hk w' (hm.below hB)
  obtain ⟨A, c, rfl, _, hc⟩ := hm
  have hra := fun w => range_any A mem.length c hl a n ha w
  clear hc
  cases hq : inR (2 * (mem.length : Int)) a n
  · rw [bytesE_no hq, bytesS_no hq]
    rw [hq] at hra
    clear hq hby
    go_enter Try.func33, Try.ntmps33
    go_wp2_with (first | (go_at_call 59; with_reducible refine (hra _).mono ?_; rintro e w' ⟨rfl, rfl⟩))
    go_ret2
    exact ⟨rfl, Below.refl _ _⟩
  · obtain ⟨h0, h1, h2⟩ := inR_rng hq
    rw [bytesE_ok hq, bytesS_ok hq]
    rw [hq] at hra
    clear hq
    obtain ⟨p, rfl⟩ := Int.eq_ofNat_of_zero_le h0
    obtain ⟨N, rfl⟩ := Int.eq_ofNat_of_zero_le h1
    rw [Int.toNat_natCast, Int.toNat_natCast]
    have hmk : ∀ w : World, (Instr.makeSlice 82 (.int .i64 N) (.int .i64 N)).run Try.prog w = .ok (.slice (some ⟨w.heap.size, 0, none⟩) N N) (w.alloc (.cells (madeCells #[.int .u8 0] N) 5)) :=
      fun w => run_make_row' (P := Try.prog) 82 5 (.int .u8 0) 1 Try.underlying82 info8 rfl .i64 .i64 N (by omega) (by omega) w
    go_enter Try.func33, Try.ntmps33
    go_wp2_with (first | (go_at_call 59; with_reducible refine (hra _).mono ?_; rintro e w' ⟨rfl, rfl⟩))
    go_loopw [19] (fun i wr => ∃ k : Nat, k ≤ N ∧ i = .int .i64 k ∧ wr.rowIs w.heap.size 5 N (fun j => if j < k then b8 mem p j else .int .u8 0) ∧ Below w.heap.size w wr)
      (fun i _ => match i with | .int _ q => N - q.toNat | _ => 0)
    case atStart => exact ⟨0, Nat.zero_le _, rfl, (World.rowIs_made _ _ _ _).congr (fun j _ => by simp), (Below.refl _ _).alloc (Nat.le_refl _) _⟩
    case round =>
      obtain ⟨k, hk, rfl, hrow, hB⟩ := hrel
      by_cases hkl : k < N
      · have hbt : b8 mem p k = .int .u8 (byteN mem (p + k)) := rfl
        have hbb := byteN_bd mem (p + k)
        have hby := fun w' hB => hby (p + k) (by omega) w' hB
        have hpk : (p : Int) + (k : Int) = ((p + k : Nat) : Int) := by omega
        rw [← hpk] at hby
        generalize byteN mem (p + k) = y at *
        replace hpk := hid hpk
        have hw8 : IntKind.u8.wrap y = y := by rw [IntKind.wrap_u8]; omega
        replace hbt := hid hbt
        go_wp2_with (first | (go_at_call 60; with_reducible refine (hby _ hB).mono ?_; rintro e w' ⟨rfl, hb⟩; have hrow := World.rowIs.of_block hrow (Below.block hb _ (World.rowIs.lt hrow)); have hB := Below.trans hB (Below.mono hb hB.size); have hcell := World.rowIs.cell hrow hkl; have hfr := World.rowIs.frozen hrow k))
        refine ⟨⟨k + 1, by omega, by go_num, b8_step hrow _ (by rw [show b8 mem p k = _ from hbt]), hB.setCell (Nat.le_refl _) _⟩, ?_⟩
        simp only; omega
      · have hkk : k = N := by omega
        have hcv := b8_row (l := mem) (a := p) hrow (fun j hj => if_pos (by omega))
        clear hby
        go_wp2
        go_ret2
        exact ⟨rfl, hB⟩
theorem bytesN_snoc (l : List Int) : ∀ (k a : Nat), bytesN l a (k + 1) = bytesN l a k ++ [UInt8.ofNat (byteN l (a + k)).toNat]
  | 0, a => by simp [bytesN]
  | k + 1, a => by
    rw [bytesN, bytesN_snoc l k (a + 1), bytesN, List.cons_append, show a + 1 + k = a + (k + 1) by omega]
theorem own_conv {base : Nat} {v : Value} {out : List UInt8} {w : World} (h : w.ownsRow base 5 1 v out.length (Lib.byteCells out)) : (convert 82 9 v).run Try.prog w = .ok (.string ⟨out.toArray⟩) w := by
  rcases h.2 with ⟨rfl, h0⟩ | ⟨g, cap, cur, rfl, _⟩
  · have : out = [] := List.eq_nil_of_length_eq_zero h0
    subst this
    rw [run_convert_bytes_string w 82 9 5 none 0 0 Try.underlying82 Try.underlying5 Try.underlying9]
    rfl
  · refine run_convert_bytes_back (P := Try.prog) w 82 9 5 ⟨g, 0, none⟩ cap out Try.underlying82 Try.underlying5 Try.underlying9 (fun j hj => ?_)
    refine h.cells (g := g) rfl j _ ?_
    simp [Lib.byteCells, hj]
theorem bytes_step {B a k : Nat} {l : List Int} {w : World} {v : Value} (h : w.ownsRow B 5 1 v ((bytesN l a k).length + 1) (Lib.byteCells (bytesN l a k) ++ [.int .u8 (byteN l (a + k))])) : w.ownsRow B 5 1 v (bytesN l a (k + 1)).length (Lib.byteCells (bytesN l a (k + 1))) := by
  have e : (((UInt8.ofNat (byteN l (a + k)).toNat).toNat : Nat) : Int) = byteN l (a + k) := by
    have := byteN_bd l (a + k)
    simp; omega
  rw [bytesN_snoc, List.length_append]
  simp only [Lib.byteCells, List.map_append, List.map_cons, List.map_nil, e]
  exact h
set_option maxHeartbeats 4000000 in
theorem rbytes_any (vm : Value) (mem : List Int) (hl : mem.length ≤ 1099511627776) (a n : Int) (ha : a ≤ 9223372036854775807) (w : World) (hm : Nums .i64 w vm mem) :
    Calls Try.prog 73 #[vm, .int .i64 a, .int .i64 n] w fun e w' => e = .returned (.tuple #[.string ⟨(bytesS mem a n).toArray⟩, .int .i64 (bytesE (2 * (mem.length : Int)) a n)]) ∧ Below w.heap.size w w' := by
  have hby := fun k hk w' (hB : Below w.heap.size w w') => rbyte_any vm mem hl k hk w' (hm.below hB)
  obtain ⟨A, c, rfl, _, hc⟩ := hm
  have hra := fun w => rwithin_any A mem.length c hl a n ha w
  clear hc
  cases hq : inR (2 * (mem.length : Int)) a n
  · rw [bytesE_no hq, bytesS_no hq]
    rw [hq] at hra
    clear hq hby
    go_enter Try.func73, Try.ntmps73
    go_wp2_with (first | (go_at_call 82; with_reducible refine (hra _).mono ?_; rintro e w' ⟨rfl, rfl⟩))
    go_ret2
    exact ⟨rfl, Below.refl _ _⟩
  · obtain ⟨h0, h1, h2⟩ := inR_rng hq
    rw [bytesE_ok hq, bytesS_ok hq]
    rw [hq] at hra
    clear hq
    obtain ⟨p, rfl⟩ := Int.eq_ofNat_of_zero_le h0
    obtain ⟨N, rfl⟩ := Int.eq_ofNat_of_zero_le h1
    rw [Int.toNat_natCast, Int.toNat_natCast]
    obtain ⟨i0, hti, hz0, hz1, hz2⟩ := info_parts info8
    go_enter Try.func73, Try.ntmps73
    go_wp2_with (first | (go_at_call 82; with_reducible refine (hra _).mono ?_; rintro e w' ⟨rfl, rfl⟩))
    go_loopw [8, 9] (fun v i wr => ∃ k : Nat, k ≤ N ∧ i = .int .i64 k ∧ wr.ownsRow w.heap.size 5 1 v (bytesN mem p k).length (Lib.byteCells (bytesN mem p k)) ∧ Below w.heap.size w wr)
      (fun _ i _ => match i with | .int _ q => N - q.toNat | _ => 0)
    case atStart => exact ⟨0, Nat.zero_le _, rfl, World.ownsRow_nil _ _ _ _, Below.refl _ _⟩
    case round =>
      obtain ⟨k, hk, rfl, hown, hB⟩ := hrel
      by_cases hkl : k < N
      · have hbb := byteN_bd mem (p + k)
        have hby := fun w' hB => hby (p + k) (by omega) w' hB
        have hpk : (p : Int) + (k : Int) = ((p + k : Nat) : Int) := by omega
        rw [← hpk] at hby
        have hst := fun w v => @bytes_step w.heap.size p k mem w v
        have hst2 := fun w1 v => @bytes_step w.heap.size p k mem w1 v
        clear hst
        have hlen := bytesN_length mem k p
        have hcl : (Lib.byteCells (bytesN mem p k)).length = k := by simp [Lib.byteCells, hlen]
        generalize byteN mem (p + k) = y at *
        replace hpk := hid hpk
        replace hst2 := hid hst2
        have hw8 : IntKind.u8.wrap y = y := by rw [IntKind.wrap_u8]; omega
        go_wp2_with (first
          | (go_at_call 85; with_reducible refine (hby _ hB).mono ?_; rintro e w' ⟨rfl, hb⟩; have hown := own_step hown hb; have hB := Below.trans hB (Below.mono hb hB.size))
          | (at_builtin; refine wpList_append_own _ rfl (.tmp 20) (.tmp 27) 82 rfl w.heap.size 5 i0 (.int .u8 0) 1 1 Try.underlying82 hti hz0 hz1 hz2 rfl (by decide) _ _ _ rfl (World.ownsRow.alloc hown _) ⟨w'.heap.size, 0, none⟩ 1 1 [.int .u8 y] rfl rfl (cell_one_new _ _ _) (fun x hx => by simp at hx; subst hx; rfl) (by unfold maxLen; omega) (by omega) (by have := hB.size; simp; omega) ?_; intro v' w1 hown' hgrow _))
        refine ⟨⟨k + 1, by omega, by go_num, hst2 _ _ hown', (hB.alloc hB.size _).grown hgrow (by have := hB.size; simp; omega) (fun j hj => (World.ownsRow.lt hown j hj).1)⟩, ?_⟩
        simp only; omega
      · obtain rfl : k = N := by omega
        have hcv := own_conv hown
        clear hby
        go_wp2
        go_ret2
        exact ⟨rfl, hB⟩
end Go.Proofs.Ytigmlkfmgheegaa

/-
  Walks over Store and Move of package memory and of its reference. Condition: lists have at most 2^40 elements, the words are words; texts have at most 2^40 bytes.
-/
namespace Go.Proofs.Ytigmlkfmgheegaa
open Go.RowKit
set_option linter.unusedSimpArgs false
set_option linter.unusedVariables false
set_option maxHeartbeats 1000000
attribute [local irreducible] wpQuiet

theorem storeL_no {l : List Int} {a : Int} {s : List UInt8} (h : inR (2 * (l.length : Int)) a (s.length : Int) = false) : storeL l a s = [] := if_neg (by rw [h]; decide)
theorem storeL_ok {l : List Int} {a : Int} {s : List UInt8} (h : inR (2 * (l.length : Int)) a (s.length : Int) = true) : storeL l a s = storeN l a.toNat s := if_pos h
theorem store_drop {l : List Int} {a k : Nat} {s : List UInt8} {c : UInt8} (h : s[k]? = some c) : storeN l (a + k) (s.drop k) = storeN (setN l (a + k) (c.toNat : Int)) (a + (k + 1)) (s.drop (k + 1)) := by
  have hk : k < s.length := (List.getElem?_eq_some_iff.1 h).1
  rw [List.drop_eq_getElem_cons hk, (List.getElem?_eq_some_iff.1 h).2, storeN]; rfl
theorem byte_ix {s : ByteArray} {k : Nat} {c : UInt8} (h : s.data.toList[k]? = some c) : ∀ hk : k < s.size, s[k]'hk = c := by
  intro hk
  have e := (List.getElem?_eq_some_iff.1 h).2
  rw [← e]; rfl

set_option maxHeartbeats 4000000 in
theorem store_any (vm : Value) (mem : List Int) (hl : mem.length ≤ 1099511627776) (hW : wordsB mem = true) (hpos : 0 < mem.length) (a : Int) (ha : a ≤ 9223372036854775807) (s : ByteArray) (hs : s.size ≤ 4398046511104) (w : World) (hm : Nums .i64 w vm mem) :
    Calls Try.prog 77 #[vm, .int .i64 a, .string s] w fun e w' => ∃ r, e = .returned (.tuple #[r, .int .i64 (bytesE (2 * (mem.length : Int)) a (s.size : Int))]) ∧ Own w.heap.size w' r (storeL mem a s.data.toList) ∧ Below w.heap.size w w' := by
  have hsz : s.data.toList.length = s.size := rfl
  have hcp := copied_any vm mem hl w hm
  obtain ⟨A, c, rfl, _, hc⟩ := hm
  have hra := fun w => range_any A mem.length c hl a (s.size : Int) ha w
  cases hq : inR (2 * (mem.length : Int)) a (s.size : Int)
  · rw [bytesE_no hq, storeL_no (by rw [hsz]; exact hq)]
    rw [hq] at hra
    clear hq hc
    go_enter Try.func77, Try.ntmps77
    go_wp2_with (first | (go_at_call 59; with_reducible refine (hra _).mono ?_; rintro e w' ⟨rfl, rfl⟩))
    go_ret2
    exact ⟨_, rfl, Own.nil _ _, Below.refl _ _⟩
  · obtain ⟨h0, h1, h2⟩ := inR_rng hq
    rw [bytesE_ok hq, storeL_ok (by rw [hsz]; exact hq)]
    rw [hq] at hra
    clear hq
    obtain ⟨p, rfl⟩ := Int.eq_ofNat_of_zero_le h0
    rw [Int.toNat_natCast]
    have hsb := fun r cur k (c : UInt8) w1 (hcl : cur.length = mem.length) (hcw : wordsB cur = true) (hk : k < s.size) (ho : Own w.heap.size w1 r cur) => setbyte_any w.heap.size r cur (by omega) hcw (p + k) (by omega) (c.toNat : Int) w1 ho
    replace hc := hid hc
    go_enter Try.func77, Try.ntmps77
    go_wp2_with (first | (go_at_call 59; with_reducible refine (hra _).mono ?_; rintro e w' ⟨rfl, rfl⟩) | (go_at_call 87; with_reducible refine hcp.mono ?_; rintro e w1 ⟨r, rfl, ho, hB⟩))
    go_loopw [20] (fun i wr => ∃ (k : Nat) (cur : List Int), k ≤ s.size ∧ i = .int .i64 k ∧ Own w.heap.size wr r cur ∧ cur.length = mem.length ∧ wordsB cur = true ∧ Below w.heap.size w wr ∧ Hid (storeN mem p s.data.toList = storeN cur (p + k) (s.data.toList.drop k)))
      (fun i _ => match i with | .int _ q => s.size - q.toNat | _ => 0)
    case atStart => exact ⟨0, mem, Nat.zero_le _, rfl, ho, rfl, hW, hB, by rw [List.drop_zero]; rfl⟩
    case round =>
      clear ho hB
      obtain ⟨k, cur, hk, rfl, ho, hcl, hcw, hB, hQ⟩ := hrel
      by_cases hkl : k < s.size
      · have hx := List.getElem?_eq_getElem (show k < s.data.toList.length from hkl)
        generalize s.data.toList[k] = ch at *
        have hix := byte_ix hx
        have hd := hid (store_drop (l := cur) (a := p) hx)
        have hcb : (ch.toNat : Int) ≤ 255 := by have := ch.toNat_lt; omega
        have hsb := fun w1 ho => hsb r cur k ch w1 hcl hcw hkl ho
        have hpk : (p : Int) + (k : Int) = ((p + k : Nat) : Int) := by omega
        rw [← hpk] at hsb
        have hM1 := setN_length cur (p + k) (ch.toNat : Int)
        have hM2 := setN_words hcw (p + k) (ch.toNat : Int)
        rw [hcl] at hM1
        replace hpk := hid hpk
        replace hM2 := hid hM2
        generalize setN cur (p + k) (ch.toNat : Int) = M at *
        clear hx
        replace hcl := hid hcl
        replace hcw := hid hcw
        go_wp2_with (first | (go_at_call 88; with_reducible refine (hsb _ ho).mono ?_; rintro e w' ⟨rfl, ho2, hb⟩; have hB2 := Below.trans hB hb))
        refine ⟨⟨k + 1, M, by omega, by go_num, ho2, hM1, hM2, hB2, ?_⟩, by simp only; omega⟩
        show _ = _
        rw [show storeN mem p s.data.toList = _ from hQ]
        exact hd
      · obtain rfl : k = s.size := by omega
        have hQ2 : Hid (storeN mem p s.data.toList = cur) := by show _ = _; rw [show storeN mem p s.data.toList = _ from hQ, ← hsz, List.drop_length]; rfl
        clear hQ hsb
        go_wp2
        go_ret2
        exact ⟨_, rfl, by rw [show storeN mem p s.data.toList = _ from hQ2]; exact ho, hB⟩

set_option maxHeartbeats 4000000 in
theorem rstore_any (vm : Value) (mem : List Int) (hl : mem.length ≤ 1099511627776) (hW : wordsB mem = true) (hpos : 0 < mem.length) (a : Int) (ha : a ≤ 9223372036854775807) (s : ByteArray) (hs : s.size ≤ 4398046511104) (w : World) (hm : Nums .i64 w vm mem) :
    Calls Try.prog 71 #[vm, .int .i64 a, .string s] w fun e w' => ∃ r, e = .returned (.tuple #[r, .int .i64 (bytesE (2 * (mem.length : Int)) a (s.size : Int))]) ∧ Own w.heap.size w' r (storeL mem a s.data.toList) ∧ Below w.heap.size w w' := by
  have hsz : s.data.toList.length = s.size := rfl
  obtain ⟨A, c, rfl, _, hc⟩ := hm
  have hra := fun w => rwithin_any A mem.length c hl a (s.size : Int) ha w
  cases hq : inR (2 * (mem.length : Int)) a (s.size : Int)
  · rw [bytesE_no hq, storeL_no (by rw [hsz]; exact hq)]
    rw [hq] at hra
    clear hq hc
    go_enter Try.func71, Try.ntmps71
    go_wp2_with (first | (go_at_call 82; with_reducible refine (hra _).mono ?_; rintro e w' ⟨rfl, rfl⟩))
    go_ret2
    exact ⟨_, rfl, Own.nil _ _, Below.refl _ _⟩
  · obtain ⟨h0, h1, h2⟩ := inR_rng hq
    rw [bytesE_ok hq, storeL_ok (by rw [hsz]; exact hq)]
    rw [hq] at hra
    clear hq
    obtain ⟨p, rfl⟩ := Int.eq_ofNat_of_zero_le h0
    rw [Int.toNat_natCast]
    have hsb := fun r cur k (c : UInt8) w1 (hcl : cur.length = mem.length) (hcw : wordsB cur = true) (hk : k < s.size) (ho : Own w.heap.size w1 r cur) => rset_any w.heap.size r cur (by omega) hcw (p + k) (by omega) (c.toNat : Int) (by have := c.toNat_lt; omega) w1 ho
    obtain ⟨q, rfl, _⟩ := hc 0 _ (List.getElem?_eq_getElem hpos)
    obtain ⟨i0, hti, hz0, hz1, hz2⟩ := info_parts info64
    have hB0 := (Below.refl w.heap.size w).alloc (Nat.le_refl _) (.cells #[] 3)
    have hnews := all_cells hc hB0
    have hone := one_ints mem
    have hgb := fun (w' : World) (hg : (w.alloc (.cells #[] 3)).grownBy w' (Value.ownBlock (.slice (some ⟨w.heap.size, 0, none⟩) 0 0))) => hB0.grown hg (Nat.le_of_lt (by simp)) (fun j hj => (World.ownsRow.lt (lit_own w) j hj).1)
    replace hc := hid hc
    go_enter Try.func71, Try.ntmps71
    go_wp2_with (first | (go_at_call 82; with_reducible refine (hra _).mono ?_; rintro e w' ⟨rfl, rfl⟩) | (at_builtin; refine wpList_append_own _ rfl (.tmp 16) (.tmp 17) 42 rfl w.heap.size 3 i0 (.int .i64 0) 1 8 Try.underlying42 hti hz0 hz1 hz2 rfl (by decide) _ 0 _ rfl (lit_own w) q mem.length c (mem.map (Value.int .i64)) rfl (by simp) hnews hone (by unfold maxLen; omega) (by omega) (Nat.le_of_lt (by simp)) ?_; intro r w1 hown' hgrow _; have ho := own_all hown'; have hB := hgb _ hgrow; clear hown' hgrow))
    go_loopw [9] (fun i wr => ∃ (k : Nat) (cur : List Int), k ≤ s.size ∧ i = .int .i64 k ∧ Own w.heap.size wr r cur ∧ cur.length = mem.length ∧ wordsB cur = true ∧ Below w.heap.size w wr ∧ Hid (storeN mem p s.data.toList = storeN cur (p + k) (s.data.toList.drop k)))
      (fun i _ => match i with | .int _ q => s.size - q.toNat | _ => 0)
    case atStart => exact ⟨0, mem, Nat.zero_le _, rfl, ho, rfl, hW, hB, by rw [List.drop_zero]; rfl⟩
    case round =>
      clear ho hB
      obtain ⟨k, cur, hk, rfl, ho, hcl, hcw, hB, hQ⟩ := hrel
      by_cases hkl : k < s.size
      · have hx := List.getElem?_eq_getElem (show k < s.data.toList.length from hkl)
        generalize s.data.toList[k] = ch at *
        have hix := byte_ix hx
        have hd := hid (store_drop (l := cur) (a := p) hx)
        have hcb : (ch.toNat : Int) ≤ 255 := by have := ch.toNat_lt; omega
        have hsb := fun w1 ho => hsb r cur k ch w1 hcl hcw hkl ho
        have hpk : (p : Int) + (k : Int) = ((p + k : Nat) : Int) := by omega
        rw [← hpk] at hsb
        have hM1 := setN_length cur (p + k) (ch.toNat : Int)
        have hM2 := setN_words hcw (p + k) (ch.toNat : Int)
        rw [hcl] at hM1
        replace hpk := hid hpk
        replace hM2 := hid hM2
        generalize setN cur (p + k) (ch.toNat : Int) = M at *
        clear hx
        replace hcl := hid hcl
        replace hcw := hid hcw
        go_wp2_with (first | (go_at_call 83; with_reducible refine (hsb _ ho).mono ?_; rintro e w' ⟨rfl, ho2, hb⟩; have hB2 := Below.trans hB hb))
        refine ⟨⟨k + 1, M, by omega, by go_num, ho2, hM1, hM2, hB2, ?_⟩, by simp only; omega⟩
        show _ = _
        rw [show storeN mem p s.data.toList = _ from hQ]
        exact hd
      · obtain rfl : k = s.size := by omega
        have hQ2 : Hid (storeN mem p s.data.toList = cur) := by show _ = _; rw [show storeN mem p s.data.toList = _ from hQ, ← hsz, List.drop_length]; rfl
        clear hQ hsb
        go_wp2
        go_ret2
        exact ⟨_, rfl, by rw [show storeN mem p s.data.toList = _ from hQ2]; exact ho, hB⟩

end Go.Proofs.Ytigmlkfmgheegaa
