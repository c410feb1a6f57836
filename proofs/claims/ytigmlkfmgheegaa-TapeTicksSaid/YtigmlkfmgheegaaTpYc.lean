/-
  The words in which bytes lie; the predicate of holds, slices.ContainsFunc and DeleteFunc with it. Conditions: addresses are words; a row of the call's own.
-/
import Derived.Test.YtigmlkfmgheegaaTpYb
import Derived.Lib.SlKeysI
namespace Go.Proofs.Ytigmlkfmgheegaa
open Go.RowKit Go.Lib Go.Sort
set_option linter.unusedSimpArgs false
set_option linter.unusedVariables false
set_option maxHeartbeats 4000000
set_option maxRecDepth 100000
attribute [local irreducible] wpQuiet

/-- Has the word at x one of n bytes from a on? -/
def hldV (a n x : Int) : Bool := decide (0 < n) && (decide (a < wrap64 (x + 2)) && decide (x < a + n))
theorem hld_even {a x : Int} {n : Nat} (hx : 0 ≤ x ∧ x % 2 = 0 ∧ x < 4611686018427387904) : hldV a (n : Int) x = true ↔ ∃ i, i < n ∧ (a + (i : Int)) / 2 * 2 = x := by
  unfold hldV
  rw [show wrap64 (x + 2) = x + 2 by unfold wrap64; omega]
  simp only [Bool.and_eq_true, decide_eq_true_eq]
  constructor
  · rintro ⟨h1, h2, h3⟩
    by_cases h : a ≤ x
    · exact ⟨(x - a).toNat, by omega, by omega⟩
    · exact ⟨0, by omega, by omega⟩
  · rintro ⟨i, h1, h2⟩
    exact ⟨by omega, by omega, by omega⟩
theorem clrV_any (B : List Int) (a : Int) : ∀ n, clrV B a n = B.filter fun x => !(List.range n).any fun i => (a + (i : Int)) / 2 * 2 == x
  | 0 => by
    show B = _
    rw [List.filter_eq_self.2]
    intro x _; simp
  | n + 1 => by
    show withoutP (clrV B a n) ((a + (n : Int)) / 2 * 2) = _
    rw [clrV_any B a n]
    unfold withoutP
    rw [List.filter_filter]
    congr 1
    funext x
    rw [List.range_succ, List.any_append]
    simp only [List.any_cons, List.any_nil, Bool.or_false, Bool.not_or]
    have h : (x != (a + (n : Int)) / 2 * 2) = !((a + (n : Int)) / 2 * 2 == x) := by
      unfold bne; rw [BEq.comm]
    rw [h, Bool.and_comm]
theorem clrV_hld {B : List Int} {a : Int} {n : Nat} (hB : ∀ x ∈ B, 0 ≤ x ∧ x % 2 = 0 ∧ x < 4611686018427387904) : clrV B a n = B.filter fun x => !hldV a (n : Int) x := by
  rw [clrV_any]
  refine List.filter_congr fun x hx => ?_
  congr 1
  rw [Bool.eq_iff_iff, hld_even (hB x hx), List.any_eq_true]
  constructor
  · rintro ⟨i, h1, h2⟩
    exact ⟨i, List.mem_range.1 h1, by simpa using h2⟩
  · rintro ⟨i, h1, h2⟩
    exact ⟨i, List.mem_range.2 h1, by simpa using h2⟩
theorem splV_hld {B : List Int} {a : Int} {n : Nat} (hB : ∀ x ∈ B, 0 ≤ x ∧ x % 2 = 0 ∧ x < 4611686018427387904) : splV B a n = B.any (hldV a (n : Int)) := by
  unfold splV
  rw [Bool.eq_iff_iff, List.any_eq_true, List.any_eq_true]
  constructor
  · rintro ⟨i, h1, h2⟩
    have hm : (a + (i : Int)) / 2 * 2 ∈ B := by simpa using h2
    exact ⟨_, hm, (hld_even (hB _ hm)).2 ⟨i, List.mem_range.1 h1, rfl⟩⟩
  · rintro ⟨x, h1, h2⟩
    obtain ⟨i, h3, h4⟩ := (hld_even (hB x h1)).1 h2
    exact ⟨i, List.mem_range.2 h3, by rw [h4]; simpa using h1⟩
theorem phld_gives (x a n : Int) (Bn Ba : Nat) (w : World) (ck : w.cell? ⟨Bn, 0, none⟩ = some (.int .i64 n)) (cw : w.cell? ⟨Ba, 0, none⟩ = some (.int .i64 a)) (ha : 0 ≤ a ∧ a ≤ 65535) (hn : 0 ≤ n ∧ n ≤ 65535) : Calls Try.prog 90 #[.int .i64 x, .pointer (some ⟨Bn, 0, none⟩), .pointer (some ⟨Ba, 0, none⟩)] w fun e' w' => e' = .returned (.bool (hldV a n x)) ∧ ∃ q, w' = w.drewN q := by
  have w1 : IntKind.i64.wrap (a + n) = a + n := by rw [wrap_i64]; unfold wrap64; omega
  obtain ⟨y, w2⟩ : ∃ y, IntKind.i64.wrap (x + 2) = y := ⟨_, rfl⟩
  unfold hldV
  rw [← wrap_i64, w2]
  clear ha hn
  by_cases h1 : 0 < n
  · have d1 : decide (0 < n) = true := decide_eq_true h1
    clear h1
    by_cases h2 : a < y
    · have d2 : decide (a < y) = true := decide_eq_true h2
      clear h2
      go_enter Try.func90, Try.ntmps90
      go_wp2
      go_ret
      exact ⟨by simp [d1, d2], 0, rfl⟩
    · have d2 : decide (a < y) = false := decide_eq_false h2
      clear h2
      go_enter Try.func90, Try.ntmps90
      go_wp2
      go_ret
      exact ⟨by simp [d1, d2], 0, rfl⟩
  · have d1 : decide (0 < n) = false := decide_eq_false h1
    clear h1
    go_enter Try.func90, Try.ntmps90
    go_wp2
    go_ret
    exact ⟨by simp [d1], 0, rfl⟩
theorem phld_at (a n : Int) (Bn Ba : Nat) (w : World) (hk : Bn < w.heap.size) (hw : Ba < w.heap.size) (ck : w.cell? ⟨Bn, 0, none⟩ = some (.int .i64 n)) (cw : w.cell? ⟨Ba, 0, none⟩ = some (.int .i64 a)) (ha : 0 ≤ a ∧ a ≤ 65535) (hn : 0 ≤ n ∧ n ≤ 65535) : PredAt Try.prog 90 #[.pointer (some ⟨Bn, 0, none⟩), .pointer (some ⟨Ba, 0, none⟩)] (Value.int .i64) (hldV a n) w :=
  fun W x hb => phld_gives x a n Bn Ba W ((hb.cell (p := ⟨Bn, 0, none⟩) hk).trans ck) ((hb.cell (p := ⟨Ba, 0, none⟩) hw).trans cw) ha hn
theorem phld_over (a n : Int) (Bn Ba blk off size : Nat) (w : World) (hk : Bn < w.heap.size) (hw : Ba < w.heap.size) (hkb : Bn ≠ blk) (hwb : Ba ≠ blk) (ck : w.cell? ⟨Bn, 0, none⟩ = some (.int .i64 n)) (cw : w.cell? ⟨Ba, 0, none⟩ = some (.int .i64 a)) (ha : 0 ≤ a ∧ a ≤ 65535) (hn : 0 ≤ n ∧ n ≤ 65535) : PredOver Try.prog 90 #[.pointer (some ⟨Bn, 0, none⟩), .pointer (some ⟨Ba, 0, none⟩)] (Value.int .i64) (hldV a n) blk off size w :=
  fun m os dk x _ => phld_gives x a n Bn Ba _ (by
    unfold sortWorld
    rw [cell?_grow _ _ _ (by show Bn < (putRow _ _ _ _ _).heap.size; rw [size_putRow]; exact hk), cell?_putRow_other _ _ blk off _ _ (Or.inl hkb)]
    exact ck) (by
    unfold sortWorld
    rw [cell?_grow _ _ _ (by show Ba < (putRow _ _ _ _ _).heap.size; rw [size_putRow]; exact hw), cell?_putRow_other _ _ blk off _ _ (Or.inl hwb)]
    exact cw) ha hn
theorem phld_enters : ∀ args w, (callFunc 90 args).run Try.prog w = .ok (.enter 90 args) w := enters_of Try.func90 (by kernel_rfl) rfl
theorem pctfT_own (a n : Int) (B : List Int) (Bn Ba N : Nat) (v : Value) (w : World) (hown : w.ownsRow N 3 1 v B.length (B.map (Value.int .i64))) (hl : B.length ≤ 1099511627776) (hk : Bn < w.heap.size) (hw : Ba < w.heap.size) (ck : w.cell? ⟨Bn, 0, none⟩ = some (.int .i64 n)) (cw : w.cell? ⟨Ba, 0, none⟩ = some (.int .i64 a)) (ha : 0 ≤ a ∧ a ≤ 65535) (hn : 0 ≤ n ∧ n ≤ 65535) : Calls Try.prog 80 #[v, .func (.func 90) #[] #[.pointer (some ⟨Bn, 0, none⟩), .pointer (some ⟨Ba, 0, none⟩)]] w fun e' w' => e' = .returned (.bool (B.any (hldV a n))) ∧ Below w.heap.size w w' := by
  rcases hown.2 with ⟨rfl, h0⟩ | ⟨g, cap, cur, rfl, hg, hh, hnc, hm', hcs, htk⟩
  · obtain rfl : B = [] := List.eq_nil_of_length_eq_zero h0
    refine (Try.slices_ContainsFunc_empty_int (α := Int) none 0 _ w).mono ?_
    rintro e w' ⟨rfl, rfl⟩
    exact ⟨rfl, Below.refl _ _⟩
  · rw [Nat.mul_one] at htk
    have hH := holds_of_block_i (ss := B) hh htk
    refine (Try.slices_ContainsFunc_int (Value.int .i64) (hldV a n) 90 #[.pointer (some ⟨Bn, 0, none⟩), .pointer (some ⟨Ba, 0, none⟩)] phld_enters g 0 B.length cap B w (phld_at a n Bn Ba w hk hw ck cw ha hn) (Nat.le_refl _) (by omega) (fun j hj => ?_)).mono ?_
    · have h := (hH j (by simpa using hj)).1
      rw [h]
      simp [hj]
    · rintro e w' ⟨rfl, q, rfl⟩
      refine ⟨?_, below_drewN' (Below.refl _ _) q⟩
      rw [List.take_length]
theorem ownsRow_filteredT {w : World} {base g cap q : Nat} {e : TypeId} {cur : Array Value} {F Zr : List Int} (hbase : base ≤ g) (hb : w.heap[g]? = some (.cells cur e (0, 0))) (h1 : F.length + Zr.length ≤ cap) (h2 : cap ≤ maxLen) (h3 : cur.size = cap * 1) : (putRow (Value.int .i64) (Sort.ahead w q) g 0 (F ++ Zr).toArray).ownsRow base e 1 (.slice (some ⟨g, 0, none⟩) F.length cap) F.length (F.map (Value.int .i64)) := by
  have hh := heap_sorted_i (n := q) (os := #[]) (F ++ Zr).toArray hb
  rw [grow_empty] at hh
  refine ⟨by simp, .inr ⟨g, cap, _, rfl, hbase, hh, by omega, h2, ?_, ?_⟩⟩
  · rw [← h3]; simp [putCells]
  · have := take_putCells_i cur (F ++ Zr) (by rw [List.length_append, h3]; omega)
    have e2 := congrArg (List.take F.length) this
    rw [List.take_take, Nat.min_eq_left (by simp), List.map_append, List.take_left' (by simp)] at e2
    rw [Nat.mul_one]
    exact e2
theorem pdelT_own (a n : Int) (B F : List Int) (hF : F = B.filter fun x => !hldV a n x) (Bn Ba N : Nat) (v : Value) (w : World) (hown : w.ownsRow N 3 1 v B.length (B.map (Value.int .i64))) (hl : B.length ≤ 1099511627776) (hk : Bn < w.heap.size) (hw : Ba < w.heap.size) (hkb : ∀ g m c, v = .slice (some g) m c → Bn ≠ g.block) (hwb : ∀ g m c, v = .slice (some g) m c → Ba ≠ g.block) (ck : w.cell? ⟨Bn, 0, none⟩ = some (.int .i64 n)) (cw : w.cell? ⟨Ba, 0, none⟩ = some (.int .i64 a)) (ha : 0 ≤ a ∧ a ≤ 65535) (hn : 0 ≤ n ∧ n ≤ 65535) : Calls Try.prog 78 #[v, .func (.func 90) #[] #[.pointer (some ⟨Bn, 0, none⟩), .pointer (some ⟨Ba, 0, none⟩)]] w fun e' w' => ∃ v', e' = .returned v' ∧ w'.ownsRow N 3 1 v' F.length (F.map (Value.int .i64)) ∧ w.grownBy w' v.ownBlock := by
  rcases hown.2 with ⟨rfl, h0⟩ | ⟨g, cap, cur, rfl, hg, hh, hnc, hm', hcs, htk⟩
  · obtain rfl : B = [] := List.eq_nil_of_length_eq_zero h0
    obtain rfl : F = [] := hF
    go_enter Try.func78, Try.ntmps78
    go_wp2_with (first | (go_at_call 89; (with_reducible refine (Try.slices_IndexFunc_empty_ix (α := Int) none 0 _ _).mono ?_); rintro e' wc ⟨rfl, rfl⟩))
    go_ret
    exact ⟨_, rfl, World.ownsRow_nil _ _ _ _, World.grownBy.refl _ _⟩
  · rw [Nat.mul_one] at htk
    have hH := holds_of_block_i (ss := B) hh htk
    refine (Try.slices_DeleteFunc_T (Value.int .i64) (fun _ => rfl) (hldV a n) 90 #[.pointer (some ⟨Bn, 0, none⟩), .pointer (some ⟨Ba, 0, none⟩)] phld_enters 0 Try.zeroValue3 g 0 cap B.toArray w (phld_at a n Bn Ba w hk hw ck cw ha hn) (phld_over a n Bn Ba g 0 _ w hk hw (hkb _ _ _ rfl) (hwb _ _ _ rfl) ck cw ha hn) hH (by simp; omega) (by simpa using hnc)).mono ?_
    rintro e w' ⟨rfl, q, rfl⟩
    have hf : (B.toArray.toList.filter fun x => !hldV a n x) = F := by rw [hF]
    rw [hf]
    have hle : F.length ≤ B.length := by rw [hF]; exact List.length_filter_le _ _
    refine ⟨_, rfl, ownsRow_filteredT hg hh (by rw [List.length_replicate, List.size_toArray]; omega) hm' hcs, ?_⟩
    have h := grownBy_sorted_i (w := w) (g := g) (n := q) (os := #[]) ((F ++ List.replicate (B.toArray.size - F.length) 0).toArray)
    rw [grow_empty] at h
    exact h
theorem pholds_any (a n : Int) (w : World) : Calls Try.prog 79 #[.int .i64 a, .int .i64 n] w fun e' w' => ∃ Bn Ba, e' = .returned (.func (.func 90) #[] #[.pointer (some ⟨Bn, 0, none⟩), .pointer (some ⟨Ba, 0, none⟩)]) ∧ Bag [(Bn, 3, [.int .i64 n]), (Ba, 3, [.int .i64 a])] w w' := by
  have hX := two_bag w 3 3 [.int .i64 a] [.int .i64 n]
  go_enter Try.func79, Try.ntmps79
  go_wp2
  go_ret
  exact ⟨_, _, rfl, hX⟩
end Go.Proofs.Ytigmlkfmgheegaa
