/-
  allowed, has, badSectors, the copies of lists, padded of the program. Condition: bad sectors are numbers of sectors.
-/
import Derived.Test.YtohfniejflibmaaDvJ
import Derived.Maps.OwnOps
import Derived.Maps.Views
import Derived.Lib.BufferWrite
import Derived.Lib.SliceRun
namespace Go.Proofs.Ytohfniejflibmaa
open Go.RowKit
set_option linter.unusedSimpArgs false
set_option linter.unusedVariables false
set_option maxHeartbeats 4000000
set_option maxRecDepth 100000
attribute [local irreducible] wpQuiet

theorem palw_any (n : Int) (w : World) : Calls Try.prog 29 #[.int .i64 n] w fun e w' => e = .returned (.bool (decide (1 ≤ n) && decide (n ≤ 256))) ∧ Below w.heap.size w w' := by
  by_cases h1 : 1 ≤ n
  · have d1 : decide (1 ≤ n) = true := decide_eq_true h1
    rw [d1, Bool.true_and]
    obtain ⟨r, hr⟩ : ∃ r, decide (n ≤ 256) = r := ⟨_, rfl⟩
    rw [hr]
    clear h1
    go_enter Try.func29, Try.ntmps29
    go_wp2
    go_ret
    exact ⟨rfl, Below.refl _ _⟩
  · have d1 : decide (1 ≤ n) = false := decide_eq_false h1
    rw [d1, Bool.false_and]
    clear h1
    go_enter Try.func29, Try.ntmps29
    go_wp2
    go_ret
    exact ⟨rfl, Below.refl _ _⟩
/-- Is there such a sector? -/
def hasV (m : Nat) (k : Int) : Bool := decide (0 ≤ k) && decide (k < (m : Int))
theorem hasV_iff (m : Nat) (k : Int) : hasV m k = true ↔ 0 ≤ k ∧ k < (m : Int) := by unfold hasV; simp
theorem phas_any (A : Option Addr) (m c : Nat) (vb : Value) (k : Int) (w : World) : Calls Try.prog 33 #[.agg #[.slice A m c, vb], .int .i64 k] w fun e w' => e = .returned (.bool (hasV m k)) ∧ Below w.heap.size w w' := by
  have hX := (Bag.nil w).new 25 [.slice A m c, vb]
  unfold hasV
  by_cases h1 : 0 ≤ k
  · have d1 : decide (0 ≤ k) = true := decide_eq_true h1
    rw [d1, Bool.true_and]
    obtain ⟨r, hr⟩ : ∃ r, decide (k < (m : Int)) = r := ⟨_, rfl⟩
    rw [hr]
    clear h1
    go_enter Try.func33, Try.ntmps33
    go_wp2_with (first | ((with_reducible refine at_load ?_); refine wpList_bag_cell hX slS_cell _ rfl rfl rfl rfl (by first | exact .head _) rfl ?_) | ((with_reducible refine at_load ?_); refine wpList_bag_cell hX slI_cell _ rfl rfl rfl rfl (by first | exact .head _) rfl ?_))
    go_ret
    exact ⟨rfl, hX.below⟩
  · have d1 : decide (0 ≤ k) = false := decide_eq_false h1
    rw [d1, Bool.false_and]
    clear h1
    go_enter Try.func33, Try.ntmps33
    go_wp2_with (first | ((with_reducible refine at_load ?_); refine wpList_bag_cell hX slS_cell _ rfl rfl rfl rfl (by first | exact .head _) rfl ?_) | ((with_reducible refine at_load ?_); refine wpList_bag_cell hX slI_cell _ rfl rfl rfl rfl (by first | exact .head _) rfl ?_))
    go_ret
    exact ⟨rfl, hX.below⟩
/-! ### a set of numbers, as a map -/
theorem fold_in (u z : DataW Unit) (k : Lit) : ∀ (acc : List Lit) (m : DataW Unit), Maps.IsMap m → (∀ x ∈ acc, WideAt.IsKeyLit x) → (k ∈ acc ∨ m.atKey k z = u) → (acc.foldl (fun m x => m.put x u) m).atKey k z = u
  | [], m, _, _, h => by rcases h with h | h; cases h; exact h
  | x :: r, m, hm, ha, h => by
    refine fold_in u z k r _ (hm.put x u) (fun y hy => ha y (List.mem_cons_of_mem _ hy)) ?_
    by_cases e : k = x
    · subst e; exact .inr (Maps.atKey_put_same hm (ha _ List.mem_cons_self) u z)
    · rcases h with h | h
      · rcases List.mem_cons.1 h with h | h
        · exact absurd h e
        · exact .inl h
      · exact .inr ((Maps.atKey_put_other e u z).trans h)
theorem fold_out (u z : DataW Unit) (k : Lit) : ∀ (acc : List Lit) (m : DataW Unit), k ∉ acc → (acc.foldl (fun m x => m.put x u) m).atKey k z = m.atKey k z
  | [], _, _ => rfl
  | x :: r, m, h => by
    have h1 : k ≠ x := fun e => h (e ▸ List.mem_cons_self)
    exact (fold_out u z k r _ (fun hr => h (List.mem_cons_of_mem _ hr))).trans (Maps.atKey_put_other h1 u z)
/-- The set of these numbers. -/
def sOf (B : List Int) : DataW Unit := Maps.setOf (.lit (.bool true)) (B.map (Lit.int .i64))
theorem sOf_snoc (B : List Int) (x : Int) : sOf (B ++ [x]) = (sOf B).put (.int .i64 x) (.lit (.bool true)) := by
  unfold sOf; rw [List.map_append]; exact Maps.setOf_snoc _ _ _
theorem key_int (B : List Int) : ∀ x ∈ B.map (Lit.int .i64), WideAt.IsKeyLit x := by
  intro x hx; obtain ⟨y, _, rfl⟩ := List.mem_map.1 hx; trivial
theorem sOf_at (B : List Int) (k : Int) : (sOf B).atKey (.int .i64 k) (.lit (.bool false)) = .lit (.bool (B.contains k)) := by
  unfold sOf Maps.setOf
  cases hc : B.contains k
  · refine (fold_out _ _ _ _ _ (fun h => ?_)).trans rfl
    obtain ⟨y, hy, e⟩ := List.mem_map.1 h
    cases e
    rw [List.contains_iff_mem.2 hy] at hc
    cases hc
  · exact fold_in _ _ _ _ _ Maps.isMap_empty (key_int B) (.inl (List.mem_map.2 ⟨k, List.contains_iff_mem.1 hc, rfl⟩))
theorem plainElem_bool_inv {P : Program} {e : TypeId} (he : P.underlying e = some .bool) {v : Value} {z : DataW Unit × List MemPlace} (h : plainElem P e v = some z) : ∃ x, v = .bool x ∧ z = (.lit (.bool x), []) := by
  unfold plainElem at h
  rw [he] at h
  cases v <;> simp at h
  exact ⟨_, rfl, h.symm⟩
theorem key_law : Maps.Keyed Try.prog 3 := Maps.int_keyed Try.underlying3
theorem zero_bool (w : World) : (zeroValue 4).run Try.prog w = .ok (.bool false) w := by kernel_rfl
theorem wf64 {k : Int} (h : 0 ≤ k ∧ k < 9223372036854775808) : (Lit.int .i64 k).wf = true := by
  exact WalkArith.wf_i64 (by omega)
/-- A map of the call's own that is the set of these numbers. -/
def OwnM (w : World) (b : Nat) (B : List Int) : Prop := ∃ n, w.ownsMap (H := Unit) Try.prog 3 (plainElem Try.prog 4) b n (sOf B)
theorem own_map_same {w w' : World} {b n : Nat} {B : List Int} (h : w.ownsMap (H := Unit) Try.prog 3 (plainElem Try.prog 4) b n (sOf B)) (hb : w'.heap[b]? = w.heap[b]?) : w'.ownsMap (H := Unit) Try.prog 3 (plainElem Try.prog 4) b n (sOf B) := by
  obtain ⟨es, clock, h1, h2⟩ := h
  exact ⟨es, clock, hb.trans h1, h2⟩
theorem OwnM.same {w w' : World} {b : Nat} {B : List Int} (h : OwnM w b B) (hb : w'.heap[b]? = w.heap[b]?) : OwnM w' b B := h.imp fun n h => own_map_same h hb
theorem OwnM.lt {w : World} {b : Nat} {B : List Int} (h : OwnM w b B) : b < w.heap.size := h.elim fun n h => World.ownsMap.lt h
theorem OwnM.step {w w' : World} {b : Nat} {B : List Int} (h : OwnM w b B) (hb : Below w.heap.size w w') : OwnM w' b B := h.same (hb.block b h.lt)
section
variable {ops : Array Oper} {rest : List Oper} {o : Oper} {a : Act} {w : World} {Q : Exit → Act → World → Prop} {b : Nat} {B : List Int}
theorem look_run {k : Int} (hM : OwnM w b B) (hk : 0 ≤ k ∧ k < 9223372036854775808) : (Instr.lookup 52 (.map (some b)) (.int .i64 k) false).run Try.prog w = .ok (.bool (B.contains k)) w := by
  obtain ⟨n, hown⟩ := hM
  obtain ⟨v, ps, hrun, hv⟩ := hown.lookup key_law Try.underlying52 (zero_bool w) (plainElem_bool Try.underlying4 false) (Maps.keyOf_int_mk Try.underlying3 (wf64 hk))
  obtain ⟨x, rfl, hz⟩ := plainElem_bool_inv Try.underlying4 hv
  rw [sOf_at] at hz
  have e : B.contains k = x := by injection hz with h1; injection h1 with h1; injection h1
  rw [e]; exact hrun
theorem wpList_look {k : Int} (hM : OwnM w b B) (hk : 0 ≤ k ∧ k < 9223372036854775808) (hg : o.guard = none) (m x : Operand) (hop : o.op = Op.lookup 52 m x false) (hm : a.eval m = .map (some b)) (hx : a.eval x = .int .i64 k)
    (h : wpList Try.prog ops Q rest (a.put o.dst (.bool (B.contains k))) w) : wpList Try.prog ops Q (o :: rest) a w := by
  refine wpList_plain hg fun K' hK' => ?_
  unfold Oper.wp
  simp [execOp, hop, hm, hx, look_run hM hk, Result.andThen]
  exact hK' _ _ (by simpa using h)
theorem wpList_addS {n : Nat} {x : Int} (hown : w.ownsMap (H := Unit) Try.prog 3 (plainElem Try.prog 4) b n (sOf B)) (hn : n < 1099511627776) (hk : 0 ≤ x ∧ x < 9223372036854775808) (hg : o.guard = none) (m k v : Operand) (hop : o.op = Op.mapUpdate 52 m k v) (hm : a.eval m = .map (some b)) (hx : a.eval k = .int .i64 x) (hv : a.eval v = .bool true)
    (h : ∀ w', w'.ownsMap (H := Unit) Try.prog 3 (plainElem Try.prog 4) b (n + 1) (sOf (B ++ [x])) → w.grownBy w' (some b) → wpList Try.prog ops Q rest (a.put o.dst undef) w') : wpList Try.prog ops Q (o :: rest) a w :=
  wpList_mapUpdate_own w hg m k v 52 hop 3 4 key_law Try.underlying52 _ b n _ hm hown (by unfold maxLen; omega) _ _ (.int .i64 x) hx hv (Maps.keyOf_int_mk Try.underlying3 (wf64 hk)) _ [] (plainElem_bool Try.underlying4 true) (fun w' h1 h2 => h w' (by rw [sOf_snoc]; exact h1) h2)
end
theorem run_makeM (n : Nat) (w : World) : (Instr.makeMap 52 (some (.int .i64 (n : Int)))).run Try.prog w = .ok (.map (some w.heap.size)) (w.alloc (.map #[] 0)) := by
  simp [Instr.makeMap, run_underlying Try.underlying52, asInt, asIntOf, Result.andThen]
theorem pbad_any (D : Drv) (hl : D.B.length ≤ 1099511627775) (hB : ∀ x ∈ D.B, 0 ≤ x ∧ x < 9223372036854775808) (vs vb : Value) (w : World) (hb : Its w vb D.B) : Calls Try.prog 34 #[.agg #[vs, vb]] w fun e w' => ∃ b, e = .returned (.map (some b)) ∧ OwnM w' b D.B ∧ w.heap.size ≤ b ∧ Below w.heap.size w w' := by
  obtain ⟨S, B⟩ := D
  dsimp only at hl hB hb ⊢
  obtain ⟨A, c, rfl, _, hc⟩ := hb.form
  have hX := ((Bag.nil w).new 25 [vs, .slice A B.length c]).step ((Below.refl _ _).alloc (Nat.le_refl _) (.map #[] 0))
  have hM0 : ((w.alloc (.cells ([vs, .slice A B.length c] : List Value).toArray 25)).alloc (.map #[] 0)).ownsMap (H := Unit) Try.prog 3 (plainElem Try.prog 4) (w.heap.size + 1) 0 (sOf (B.take 0)) := by
    have h := World.ownsMap_made (H := Unit) (w.alloc (.cells ([vs, .slice A B.length c] : List Value).toArray 25)) Try.prog 3 (plainElem Try.prog 4)
    rw [show (w.alloc (.cells ([vs, .slice A B.length c] : List Value).toArray 25)).heap.size = w.heap.size + 1 from Array.size_push ..] at h
    exact h
  have hX1 := (Bag.nil w).new 25 [vs, .slice A B.length c]
  have hmk := run_makeM B.length
  clear hb
  go_enter Try.func34, Try.ntmps34
  go_wp2_with (first | ((with_reducible refine at_load ?_); refine wpList_bag_cell hX1 slS_cell _ rfl rfl rfl rfl (by first | exact .head _) rfl ?_) | ((with_reducible refine at_load ?_); refine wpList_bag_cell hX1 slI_cell _ rfl rfl rfl rfl (by first | exact .head _) rfl ?_) | ((with_reducible refine at_load ?_); refine wpList_bag_cell hX slS_cell _ rfl rfl rfl rfl (by first | exact .head _) rfl ?_) | ((with_reducible refine at_load ?_); refine wpList_bag_cell hX slI_cell _ rfl rfl rfl rfl (by first | exact .head _) rfl ?_))
  go_loopw [5, 13] (fun sv iv wr => ∃ k : Nat, k ≤ B.length ∧ iv = .int .i64 k ∧ wr.ownsMap (H := Unit) Try.prog 3 (plainElem Try.prog 4) (w.heap.size + 1) k (sOf (B.take k)) ∧ Bag [(w.heap.size, 25, [vs, .slice A B.length c])] w wr) (fun _ iv _ => match iv with | .int _ q => B.length - q.toNat | _ => 0)
  case atStart => exact ⟨0, Nat.zero_le _, rfl, hM0, hX⟩
  case round =>
    clear hX hX1 hM0 hmk
    obtain ⟨k, hk, rfl, hM, hX⟩ := hrel
    by_cases hkn : k < B.length
    · have hki : (k : Int) < (B.length : Int) := by omega
      have hx := List.getElem?_eq_getElem hkn
      have hbx := hB _ (List.getElem_mem hkn)
      generalize B[k] = x at *
      obtain ⟨a, rfl, hL⟩ := hc k x hx
      have hst := hid (show B.take (k + 1) = B.take k ++ [x] from by rw [List.take_add_one, hx]; rfl)
      clear hB hx hc
      go_wp2_with (first | ((with_reducible refine at_load ?_); refine wpList_loadW rfl 3 _ _ _ rfl rfl (hL _ hX.below) ?_) | (at_mapUpdate; refine wpList_addS hM (by omega) hbx rfl _ _ _ rfl rfl rfl rfl ?_; intro w1 hM1 hg1))
      exact ⟨⟨k + 1, by omega, by go_num, by rw [show B.take (k + 1) = _ from hst]; exact hM1, hX.stepN ((Below.refl (w.heap.size + 1) _).grown hg1 (hX.all _ _ _ (.head _)).lt (fun j hj => by cases hj; exact Nat.le_refl _)) (fun b hb => by simp at hb; rcases hb with rfl; simp) (by omega)⟩, by simp only; omega⟩
    · obtain rfl : k = B.length := by omega
      have hki : ¬ (B.length : Int) < (B.length : Int) := by omega
      rw [List.take_length] at hM
      clear hB hc
      go_wp2
      go_ret
      exact ⟨_, rfl, ⟨_, hM⟩, by omega, hX.below⟩
theorem pclS_any (S : List ByteArray) (v : Value) (w : World) (hl : S.length ≤ 1099511627776) (h : Sts w v S) : Calls Try.prog 40 #[v] w fun e w' => ∃ v', e = .returned v' ∧ w'.ownsRow w.heap.size 9 1 v' S.length (S.map Value.string) ∧ Below w.heap.size w w' := by
  rcases Rz.form h with ⟨rfl, h0, h1⟩ | ⟨a, c, rfl, hc⟩
  · have hq : ∀ w : World, (binOp .eql 22 (.slice none 0 0) (.slice none 0 0)).run Try.prog w = .ok (.bool true) w := fun w => Lib.run_eql_slice_nil w _ _ none 0 0 0 0 Try.underlying22
    go_enter Try.func40, Try.ntmps40
    go_wp2
    go_ret
    exact ⟨_, rfl, by rw [h1, h0]; exact World.ownsRow_nil _ _ _ _, Below.refl _ _⟩
  · have hcl := Rz.cell (Rz.below h ((Below.refl _ _).alloc (Nat.le_refl _) (.cells #[] 9)))
    have hq : ∀ w : World, (binOp .eql 22 (.slice (some a) S.length c) (.slice none 0 0)).run Try.prog w = .ok (.bool false) w := fun w => Lib.run_eql_slice_nil w _ _ (some a) S.length c 0 0 Try.underlying22
    clear h
    go_enter Try.func40, Try.ntmps40
    go_wp2_with (first | (at_builtin; refine wpList_appS rfl (.tmp 5) (.tmp 6) rfl w.heap.size _ 0 [] rfl (own_empty w _) a S.length c (S.map Value.string) rfl (by simp) hcl (one_str S) (by omega) (by simp) ?_; intro v2 w2 ho2 hb2 _))
    go_ret
    exact ⟨_, rfl, by simpa using ho2, ((Below.refl _ _).alloc (Nat.le_refl _) _).trans hb2⟩
theorem pclI_any (S : List Int) (v : Value) (w : World) (hl : S.length ≤ 1099511627776) (h : Its w v S) : Calls Try.prog 41 #[v] w fun e w' => ∃ v', e = .returned v' ∧ w'.ownsRow w.heap.size 3 1 v' S.length (S.map (Value.int .i64)) ∧ Below w.heap.size w w' := by
  rcases Rz.form h with ⟨rfl, h0, h1⟩ | ⟨a, c, rfl, hc⟩
  · have hq : ∀ w : World, (binOp .eql 23 (.slice none 0 0) (.slice none 0 0)).run Try.prog w = .ok (.bool true) w := fun w => Lib.run_eql_slice_nil w _ _ none 0 0 0 0 Try.underlying23
    go_enter Try.func41, Try.ntmps41
    go_wp2
    go_ret
    exact ⟨_, rfl, by rw [h1, h0]; exact World.ownsRow_nil _ _ _ _, Below.refl _ _⟩
  · have hcl := Rz.cell (Rz.below h ((Below.refl _ _).alloc (Nat.le_refl _) (.cells #[] 3)))
    have hq : ∀ w : World, (binOp .eql 23 (.slice (some a) S.length c) (.slice none 0 0)).run Try.prog w = .ok (.bool false) w := fun w => Lib.run_eql_slice_nil w _ _ (some a) S.length c 0 0 Try.underlying23
    clear h
    go_enter Try.func41, Try.ntmps41
    go_wp2_with (first | (at_builtin; refine wpList_appI rfl (.tmp 5) (.tmp 6) rfl w.heap.size _ 0 [] rfl (own_empty w _) a S.length c (S.map (Value.int .i64)) rfl (by simp) hcl (one_int S) (by omega) (by simp) ?_; intro v2 w2 ho2 hb2 _))
    go_ret
    exact ⟨_, rfl, by simpa using ho2, ((Below.refl _ _).alloc (Nat.le_refl _) _).trans hb2⟩
/-! ### padded -/
def Z128 : List Value := List.replicate 128 (.int .u8 0)
theorem Z128_drop (k : Nat) : Z128.toArray.toList.drop k = List.replicate (128 - k) (.int .u8 0) := List.drop_replicate
theorem run_alloc128 (w : World) : (Instr.alloc 60 true (.tuple #[])).run Try.prog w = .ok (.pointer (some ⟨w.heap.size, 0, none⟩)) (w.alloc (.cells Z128.toArray 60)) := by kernel_rfl
section
variable {ops : Array Oper} {rest : List Oper} {o : Oper} {a : Act} {w : World} {Q : Exit → Act → World → Prop}
theorem at_alloc {P : Program} {l : List Oper} {T ty : TypeId} {dst : Option Tmp} {pos : String} {after : Array Edge} {g : Option (Nat × Bool)} (h : wpList P ops Q ({ dst := dst, op := .alloc T, type := ty, pos := pos, after := after, guard := g } :: l) a w) : wpList P ops Q ({ dst := dst, op := .alloc T, type := ty, pos := pos, after := after, guard := g } :: l) a w := h
theorem at_copy {P : Program} {l : List Oper} {ts : Array TypeId} {xs : Array Operand} {ty : TypeId} {dst : Option Tmp} {pos : String} {after : Array Edge} {g : Option (Nat × Bool)} (h : wpList P ops Q ({ dst := dst, op := .call { callee := .builtin .copy, args := xs, argTypes := ts }, type := ty, pos := pos, after := after, guard := g } :: l) a w) : wpList P ops Q ({ dst := dst, op := .call { callee := .builtin .copy, args := xs, argTypes := ts }, type := ty, pos := pos, after := after, guard := g } :: l) a w := h
theorem wpList_alloc128 (hg : o.guard = none) (hop : o.op = Op.alloc 60) (h : wpList Try.prog ops Q rest (a.put o.dst (.pointer (some ⟨w.heap.size, 0, none⟩))) (w.alloc (.cells Z128.toArray 60))) : wpList Try.prog ops Q (o :: rest) a w :=
  wpList_plain hg fun _ hK => by
    unfold Oper.wp execOp
    simp only [hop, run_alloc128, Sem.run_bind, Sem.run_pure, Result.andThen_ok]
    exact hK _ _ h
theorem wpList_copy128 {B : Nat} {s : ByteArray} (hX : Blk 60 w B Z128) (hs : s.size ≤ 128) (hg : o.guard = none) (x y : Operand) (hop : o.op = Op.call { callee := .builtin .copy, args := #[x, y], argTypes := #[50, 9] }) (hx : a.eval x = .slice (some ⟨B, 0, none⟩) 128 128) (hy : a.eval y = .string s)
    (h : ∀ w', Blk 60 w' B (Lib.byteCells (s ++ zB (128 - s.size)).data.toList) → (∀ N w0, N ≤ B → Below N w0 w → Below N w0 w') → wpList Try.prog ops Q rest (a.put o.dst (goInt s.size)) w') : wpList Try.prog ops Q (o :: rest) a w :=
  wpList_plain hg fun _ hK => by
    obtain ⟨i, hi, _, hsz, _⟩ := infU_parts
    have hrun := Lib.run_copy_row_string (P := Try.prog) w 50 9 o.type 5 B 0 128 128 s Z128.toArray 60 Try.underlying50 (by rw [hi]; simp [hsz]) hX hs (by simp [Z128]; omega)
    have e : (Z128.toArray.toList.take 0 ++ Lib.byteCells s.data.toList ++ Z128.toArray.toList.drop (0 + s.size)) = Lib.byteCells (s ++ zB (128 - s.size)).data.toList := by
      rw [List.take_zero, List.nil_append, Nat.zero_add, Z128_drop, ByteArray.data_append, Array.toList_append]
      unfold Lib.byteCells
      rw [List.map_append]
      congr 1
      simp [zB]
    rw [e] at hrun
    unfold Oper.wp
    simp [execOp, hop, resolve, invoke, builtin, hx, hy, hrun, Result.andThen]
    exact hK _ _ (h _ (setRow_heap w B _ _ _ _ hX) (fun N w0 hN hb => below_setRow hb hN _))
end
theorem conv128 {w : World} {B : Nat} {s : ByteArray} (hs : s.size ≤ 128) (hX : Blk 60 w B (Lib.byteCells (s ++ zB (128 - s.size)).data.toList)) : (convert 50 9 (.slice (some ⟨B, 0, none⟩) 128 128)).run Try.prog w = .ok (.string (s ++ zB (128 - s.size))) w := by
  have hl : (s ++ zB (128 - s.size)).data.toList.length = 128 := by
    have h1 : (s ++ zB (128 - s.size)).size = 128 := by rw [ByteArray.size_append, zB_size]; omega
    exact (Lib.size_eq _).symm.trans h1
  have e := run_convert_bytes_back (P := Try.prog) w 50 9 5 ⟨B, 0, none⟩ 128 (s ++ zB (128 - s.size)).data.toList Try.underlying50 Try.underlying5 Try.underlying9 (fun j hj => by
    have e1 : (⟨B, 0, none⟩ : Addr).add j = ⟨B, j, none⟩ := by unfold Addr.add; split <;> simp_all
    rw [e1, hX.cell (v := .int .u8 ((s ++ zB (128 - s.size)).data.toList[j].toNat : Int)) (by rw [Lib.byteCells, List.getElem?_map, List.getElem?_eq_getElem hj]; rfl)])
  rw [hl] at e
  exact e
theorem ppad_any (s : ByteArray) (hs : s.size ≤ 128) (w : World) : Calls Try.prog 31 #[.string s] w fun e w' => e = .returned (.string (s ++ zB (128 - s.size))) ∧ Below w.heap.size w w' := by
  have hX := Blk.new 60 w Z128
  have hB : Below w.heap.size w (w.alloc (.cells Z128.toArray 60)) := (Below.refl _ _).alloc (Nat.le_refl _) _
  go_enter Try.func31, Try.ntmps31
  go_wp2_with (first | ((with_reducible refine at_alloc ?_); refine wpList_alloc128 rfl rfl ?_) | ((with_reducible refine at_copy ?_); refine wpList_copy128 hX hs rfl _ _ rfl rfl rfl ?_; clear hX; intro w2 hX hk; replace hB := hk _ _ (Nat.le_refl _) hB; clear hk; have hcv := conv128 hs hX))
  go_ret
  exact ⟨rfl, hB⟩
end Go.Proofs.Ytohfniejflibmaa
