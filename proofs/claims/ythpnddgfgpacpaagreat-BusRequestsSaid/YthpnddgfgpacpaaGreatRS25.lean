import Derived.Test.YthpnddgfgpacpaaGreatRS08
import Derived.Test.YthpnddgfgpacpaaGreatRS16
import Derived.Maps.OwnOps
import Derived.Maps.Views
import Derived.Lib.BufferWrite
import Derived.Lib.SliceRun
import Derived.Deep.OwnRows
import Derived.Laws.MakeOwn
import Derived.Laws.CopyOwn
/-
  Right, Read, Write of package drive, as package diskctl calls them. Conditions: at most 2^40 sectors and bad ones (Right); a valid drive (Read, Write).
-/
namespace Go.Proofs.YthpnddgfgpacpaaGreat
open Go.RowKit
set_option linter.unusedSimpArgs false
set_option linter.unusedVariables false
set_option maxHeartbeats 4000000
set_option maxRecDepth 100000
attribute [local irreducible] wpQuiet

section
variable {ops : Array Oper} {rest : List Oper} {o : Oper} {a : Act} {w w0 w1 : World} {Q : Exit → Act → World → Prop} {l : List (Nat × TypeId × List Value)}
end
/-! ### out of DvO -/
theorem palw_any (n : Int) (w : World) : Calls Tryz.prog 217 #[.int .i64 n] w fun e w' => e = .returned (.bool (decide (1 ≤ n) && decide (n ≤ 256))) ∧ Below w.heap.size w w' := by
  by_cases h1 : 1 ≤ n
  · have d1 : decide (1 ≤ n) = true := decide_eq_true h1
    rw [d1, Bool.true_and]
    obtain ⟨r, hr⟩ : ∃ r, decide (n ≤ 256) = r := ⟨_, rfl⟩
    rw [hr]
    clear h1
    go_enter Tryz.func217, Tryz.ntmps217
    go_wp2
    go_ret
    exact ⟨rfl, Below.refl _ _⟩
  · have d1 : decide (1 ≤ n) = false := decide_eq_false h1
    rw [d1, Bool.false_and]
    clear h1
    go_enter Tryz.func217, Tryz.ntmps217
    go_wp2
    go_ret
    exact ⟨rfl, Below.refl _ _⟩
/-- Is there such a sector? -/
def hasV (m : Nat) (k : Int) : Bool := decide (0 ≤ k) && decide (k < (m : Int))
theorem hasV_iff (m : Nat) (k : Int) : hasV m k = true ↔ 0 ≤ k ∧ k < (m : Int) := by unfold hasV; simp
theorem phas_any (A : Option Addr) (m c : Nat) (vb : Value) (k : Int) (w : World) : Calls Tryz.prog 218 #[.agg #[.slice A m c, vb], .int .i64 k] w fun e w' => e = .returned (.bool (hasV m k)) ∧ Below w.heap.size w w' := by
  have hX := (Bag.nil w).new 38 [.slice A m c, vb]
  unfold hasV
  by_cases h1 : 0 ≤ k
  · have d1 : decide (0 ≤ k) = true := decide_eq_true h1
    rw [d1, Bool.true_and]
    obtain ⟨r, hr⟩ : ∃ r, decide (k < (m : Int)) = r := ⟨_, rfl⟩
    rw [hr]
    clear h1
    go_enter Tryz.func218, Tryz.ntmps218
    go_wp2_with (first | ((with_reducible refine at_load ?_); refine wpList_bag_cell hX slS_cell _ rfl rfl rfl rfl (by first | exact .head _) rfl ?_) | ((with_reducible refine at_load ?_); refine wpList_bag_cell hX slI_cell _ rfl rfl rfl rfl (by first | exact .head _) rfl ?_))
    go_ret
    exact ⟨rfl, hX.below⟩
  · have d1 : decide (0 ≤ k) = false := decide_eq_false h1
    rw [d1, Bool.false_and]
    clear h1
    go_enter Tryz.func218, Tryz.ntmps218
    go_wp2_with (first | ((with_reducible refine at_load ?_); refine wpList_bag_cell hX slS_cell _ rfl rfl rfl rfl (by first | exact .head _) rfl ?_) | ((with_reducible refine at_load ?_); refine wpList_bag_cell hX slI_cell _ rfl rfl rfl rfl (by first | exact .head _) rfl ?_))
    go_ret
    exact ⟨rfl, hX.below⟩
/-! ### a set of numbers, as a map -/
/-- The set of these numbers. -/
def sOf (B : List Int) : DataW Unit := Maps.setOf (.lit (.bool true)) (B.map (Lit.int .i64))
/-- A map of the call's own that is the set of these numbers. -/
def OwnM (w : World) (b : Nat) (B : List Int) : Prop := ∃ n, w.ownsMap (H := Unit) Tryz.prog 3 (plainElem Tryz.prog 4) b n (sOf B)
theorem own_map_same {w w' : World} {b n : Nat} {B : List Int} (h : w.ownsMap (H := Unit) Tryz.prog 3 (plainElem Tryz.prog 4) b n (sOf B)) (hb : w'.heap[b]? = w.heap[b]?) : w'.ownsMap (H := Unit) Tryz.prog 3 (plainElem Tryz.prog 4) b n (sOf B) := by
  obtain ⟨es, clock, h1, h2⟩ := h
  exact ⟨es, clock, hb.trans h1, h2⟩
theorem OwnM.same {w w' : World} {b : Nat} {B : List Int} (h : OwnM w b B) (hb : w'.heap[b]? = w.heap[b]?) : OwnM w' b B := h.imp fun n h => own_map_same h hb
theorem OwnM.lt {w : World} {b : Nat} {B : List Int} (h : OwnM w b B) : b < w.heap.size := h.elim fun n h => World.ownsMap.lt h
theorem OwnM.step {w w' : World} {b : Nat} {B : List Int} (h : OwnM w b B) (hb : Below w.heap.size w w') : OwnM w' b B := h.same (hb.block b h.lt)
section
variable {ops : Array Oper} {rest : List Oper} {o : Oper} {a : Act} {w : World} {Q : Exit → Act → World → Prop} {b : Nat} {B : List Int}
end
theorem pclS_any (S : List ByteArray) (v : Value) (w : World) (hl : S.length ≤ 1099511627776) (h : Sts w v S) : Calls Tryz.prog 124 #[v] w fun e w' => ∃ v', e = .returned v' ∧ w'.ownsRow w.heap.size 9 1 v' S.length (S.map Value.string) ∧ Below w.heap.size w w' := by
  rcases Rz.form h with ⟨rfl, h0, h1⟩ | ⟨a, c, rfl, hc⟩
  · have hq : ∀ w : World, (binOp .eql 36 (.slice none 0 0) (.slice none 0 0)).run Tryz.prog w = .ok (.bool true) w := fun w => Lib.run_eql_slice_nil w _ _ none 0 0 0 0 Tryz.underlying36
    go_enter Tryz.func124, Tryz.ntmps124
    go_wp2
    go_ret
    exact ⟨_, rfl, by rw [h1, h0]; exact World.ownsRow_nil _ _ _ _, Below.refl _ _⟩
  · have hcl := Rz.cell (Rz.below h ((Below.refl _ _).alloc (Nat.le_refl _) (.cells #[] 9)))
    have hq : ∀ w : World, (binOp .eql 36 (.slice (some a) S.length c) (.slice none 0 0)).run Tryz.prog w = .ok (.bool false) w := fun w => Lib.run_eql_slice_nil w _ _ (some a) S.length c 0 0 Tryz.underlying36
    clear h
    go_enter Tryz.func124, Tryz.ntmps124
    go_wp2_with (first | (at_builtin; refine wpList_appS rfl (.tmp 5) (.tmp 6) rfl w.heap.size _ 0 [] rfl (own_empty w _) a S.length c (S.map Value.string) rfl (by simp) hcl (one_str S) (by omega) (by simp) ?_; intro v2 w2 ho2 hb2 _))
    go_ret
    exact ⟨_, rfl, by simpa using ho2, ((Below.refl _ _).alloc (Nat.le_refl _) _).trans hb2⟩
theorem pclI_any (S : List Int) (v : Value) (w : World) (hl : S.length ≤ 1099511627776) (h : Its w v S) : Calls Tryz.prog 80 #[v] w fun e w' => ∃ v', e = .returned v' ∧ w'.ownsRow w.heap.size 3 1 v' S.length (S.map (Value.int .i64)) ∧ Below w.heap.size w w' := by
  rcases Rz.form h with ⟨rfl, h0, h1⟩ | ⟨a, c, rfl, hc⟩
  · have hq : ∀ w : World, (binOp .eql 26 (.slice none 0 0) (.slice none 0 0)).run Tryz.prog w = .ok (.bool true) w := fun w => Lib.run_eql_slice_nil w _ _ none 0 0 0 0 Tryz.underlying26
    go_enter Tryz.func80, Tryz.ntmps80
    go_wp2
    go_ret
    exact ⟨_, rfl, by rw [h1, h0]; exact World.ownsRow_nil _ _ _ _, Below.refl _ _⟩
  · have hcl := Rz.cell (Rz.below h ((Below.refl _ _).alloc (Nat.le_refl _) (.cells #[] 3)))
    have hq : ∀ w : World, (binOp .eql 26 (.slice (some a) S.length c) (.slice none 0 0)).run Tryz.prog w = .ok (.bool false) w := fun w => Lib.run_eql_slice_nil w _ _ (some a) S.length c 0 0 Tryz.underlying26
    clear h
    go_enter Tryz.func80, Tryz.ntmps80
    go_wp2_with (first | (at_builtin; refine wpList_appI rfl (.tmp 5) (.tmp 6) rfl w.heap.size _ 0 [] rfl (own_empty w _) a S.length c (S.map (Value.int .i64)) rfl (by simp) hcl (one_int S) (by omega) (by simp) ?_; intro v2 w2 ho2 hb2 _))
    go_ret
    exact ⟨_, rfl, by simpa using ho2, ((Below.refl _ _).alloc (Nat.le_refl _) _).trans hb2⟩
/-! ### padded -/
section
variable {ops : Array Oper} {rest : List Oper} {o : Oper} {a : Act} {w : World} {Q : Exit → Act → World → Prop}
end
section
variable {ops : Array Oper} {rest : List Oper} {o : Oper} {a : Act} {w w1 : World} {Q : Exit → Act → World → Prop}
end
theorem okB_ge {n : Nat} {B : List Int} (h : okB n B = true) : ∀ k, k < B.length → (k : Int) ≤ B.getD k 0 := by
  intro k
  induction k with
  | zero => intro hk; have := ((okAt_iff _ _ _).1 ((okB_iff _ _).1 h 0 hk)).1; omega
  | succ k ih =>
    intro hk
    have h1 := ih (by omega)
    have h2 := ((okAt_iff _ _ _).1 ((okB_iff _ _).1 h (k + 1) hk)).2.2
    rw [Nat.add_sub_cancel] at h2
    omega
theorem right_len {D : Drv} (h : D.right = true) : D.B.length ≤ 256 := by
  obtain ⟨_, h2, _, h4⟩ := (right_iff D).1 h
  rcases Nat.eq_zero_or_pos D.B.length with h0 | h0
  · omega
  · have h5 := okB_ge h4 (D.B.length - 1) (by omega)
    have h6 := ((okAt_iff _ _ _).1 ((okB_iff _ _).1 h4 (D.B.length - 1) (by omega))).2.1
    omega
/-- The bad sector ahead of one. -/
def lastV (B : List Int) (k : Nat) : Int := if k = 0 then -1 else B.getD (k - 1) 0
theorem lastV_succ {B : List Int} {k : Nat} {x : Int} (h : B[k]? = some x) : lastV B (k + 1) = x := by
  unfold lastV; rw [if_neg (by omega), Nat.add_sub_cancel]; exact getD_get h
theorem okAt_last {n : Nat} {B : List Int} {k : Nat} {x : Int} (h : B[k]? = some x) : okAt n B k = true ↔ lastV B k < x ∧ hasV n x = true := by
  rw [okAt_iff, getD_get h, hasV_iff]
  unfold lastV
  by_cases h0 : k = 0
  · rw [if_pos h0]; constructor
    · rintro ⟨a, b, _⟩; exact ⟨by omega, a, b⟩
    · rintro ⟨_, a, b⟩; exact ⟨a, b, .inl h0⟩
  · rw [if_neg h0]; constructor
    · rintro ⟨a, b, c⟩; exact ⟨by omega, a, b⟩
    · rintro ⟨c, a, b⟩; exact ⟨a, b, .inr c⟩
theorem pright_any (D : Drv) (hl : D.B.length ≤ 1099511627776) (hl2 : D.S.length ≤ 1099511627776) (vs vb : Value) (w : World) (hs : Sts w vs D.S) (hb : Its w vb D.B) : Calls Tryz.prog 212 #[.agg #[vs, vb]] w fun e w' => e = .returned (.bool D.right) ∧ Below w.heap.size w w' := by
  obtain ⟨A, c, rfl, _, hc⟩ := hs.form
  obtain ⟨A2, c2, rfl, _, hc2⟩ := hb.form
  have hX := (Bag.nil w).new 38 [.slice A D.S.length c, .slice A2 D.B.length c2]
  have hri := right_iff D
  obtain ⟨S, B⟩ := D
  dsimp only at hri hc hc2 hX hl hl2 ⊢
  clear hb hs
  generalize hR : Drv.right ⟨S, B⟩ = r at *
  clear hR
  have hal := fun w => palw_any (S.length : Int) w
  cases h1 : (decide ((1 : Int) ≤ (S.length : Int)) && decide ((S.length : Int) ≤ 256))
  · have hr : r = false := by
      cases r
      · rfl
      · have h := hri.1 rfl
        rw [decide_eq_true (by omega), decide_eq_true (by omega)] at h1; cases h1
    subst hr
    rw [h1] at hal
    clear hri hc hc2 h1
    go_enter Tryz.func212, Tryz.ntmps212
    go_wp2_with (first | ((with_reducible refine at_load ?_); refine wpList_bag_cell hX slS_cell _ rfl rfl rfl rfl (by first | exact .head _) rfl ?_) | ((with_reducible refine at_load ?_); refine wpList_bag_cell hX slI_cell _ rfl rfl rfl rfl (by first | exact .head _) rfl ?_) | (go_at_call 217; (with_reducible refine (hal _).mono ?_); rintro e wa ⟨rfl, hbb⟩; replace hX := hX.step hbb; clear hbb))
    go_ret
    exact ⟨rfl, hX.below⟩
  rw [h1] at hal
  have h12 : 1 ≤ S.length ∧ S.length ≤ 256 := by simp at h1; omega
  clear h1
  go_enter Tryz.func212, Tryz.ntmps212
  go_wp2_with (first | ((with_reducible refine at_load ?_); refine wpList_bag_cell hX slS_cell _ rfl rfl rfl rfl (by first | exact .head _) rfl ?_) | ((with_reducible refine at_load ?_); refine wpList_bag_cell hX slI_cell _ rfl rfl rfl rfl (by first | exact .head _) rfl ?_) | (go_at_call 217; (with_reducible refine (hal _).mono ?_); rintro e wa ⟨rfl, hbb⟩; replace hX := hX.step hbb; clear hbb))
  clear hal
  go_loopw [4, 16] (fun sv iv wr => ∃ i : Nat, i ≤ S.length ∧ iv = .int .i64 i ∧ Hid (∀ (j : Nat) s, j < i → S[j]? = some s → s.size = 128) ∧ Bag [(w.heap.size, 38, [.slice A S.length c, .slice A2 B.length c2])] w wr) (fun _ i _ => match i with | .int _ q => S.length - q.toNat | _ => 0)
  case atStart => exact ⟨0, Nat.zero_le _, rfl, fun j s hj => absurd hj (Nat.not_lt_zero j), hX⟩
  case round =>
    clear hX
    obtain ⟨i, hi, rfl, hN, hX⟩ := hrel
    by_cases hin : i < S.length
    · have hii : (i : Int) < (S.length : Int) := by omega
      have hx := List.getElem?_eq_getElem hin
      have hm := List.getElem_mem hin
      generalize S[i] = x at *
      obtain ⟨a, rfl, hL⟩ := hc i x hx
      by_cases hsz : x.size = 128
      · have hN2 : Hid (∀ (j : Nat) s, j < i + 1 → S[j]? = some s → s.size = 128) := fun j s hj hs => by
          rcases (by omega : j < i ∨ j = i) with h | rfl
          · exact (show ∀ (j : Nat) s, j < i → S[j]? = some s → s.size = 128 from hN) j s h hs
          · rw [hx] at hs; cases hs; exact hsz
        have hszi : (x.size : Int) = 128 := by omega
        clear hN hx hsz hc hri hc2 hm h12
        go_wp2_with (first | ((with_reducible refine at_load ?_); refine wpList_bag_cell hX slS_cell _ rfl rfl rfl rfl (by first | exact .head _) rfl ?_) | ((with_reducible refine at_load ?_); refine wpList_bag_cell hX slI_cell _ rfl rfl rfl rfl (by first | exact .head _) rfl ?_) | ((with_reducible refine at_load ?_); refine wpList_loadW rfl 9 _ _ _ rfl rfl (hL _ hX.below) ?_))
        exact ⟨⟨i + 1, by omega, by go_num, hN2, hX⟩, by simp only; omega⟩
      · have hsb : ((x.size : Int) != 128) = true := by simp; omega
        have hr : r = false := by cases r; rfl; exact absurd ((hri.1 rfl).2.2.1 x hm) hsz
        subst hr
        clear hN hx hsz hc hri hc2 hm h12
        go_wp2_with (first | ((with_reducible refine at_load ?_); refine wpList_bag_cell hX slS_cell _ rfl rfl rfl rfl (by first | exact .head _) rfl ?_) | ((with_reducible refine at_load ?_); refine wpList_bag_cell hX slI_cell _ rfl rfl rfl rfl (by first | exact .head _) rfl ?_) | ((with_reducible refine at_load ?_); refine wpList_loadW rfl 9 _ _ _ rfl rfl (hL _ hX.below) ?_))
        go_ret
        exact ⟨rfl, hX.below⟩
    · have hii : ¬ (i : Int) < (S.length : Int) := by omega
      have hall : ∀ s ∈ S, s.size = 128 := fun s hs => by
        obtain ⟨j, hj⟩ := List.mem_iff_getElem?.1 hs
        have hjl : j < S.length := (List.getElem?_eq_some_iff.1 hj).1
        exact (show ∀ (j : Nat) s, j < i → S[j]? = some s → s.size = 128 from hN) j s (by omega) hj
      have hri2 : r = true ↔ okB S.length B = true := ⟨fun h => (hri.1 h).2.2.2, fun h => hri.2 ⟨by omega, by omega, hall, h⟩⟩
      clear hri hall hN hc h12
      obtain ⟨iv, hiv⟩ : ∃ iv : Int, (i : Int) = iv := ⟨_, rfl⟩
      go_wp2_with (first | ((with_reducible refine at_load ?_); refine wpList_bag_cell hX slS_cell _ rfl rfl rfl rfl (by first | exact .head _) rfl ?_) | ((with_reducible refine at_load ?_); refine wpList_bag_cell hX slI_cell _ rfl rfl rfl rfl (by first | exact .head _) rfl ?_))
      go_loopw [5, 7, 27] (fun lv sv iv wr => ∃ k : Nat, k ≤ B.length ∧ iv = .int .i64 k ∧ lv = .int .i64 (lastV B k) ∧ Hid (∀ j : Nat, j < k → okAt S.length B j = true) ∧ Bag [(w.heap.size, 38, [.slice A S.length c, .slice A2 B.length c2])] w wr) (fun _ _ i _ => match i with | .int _ q => B.length - q.toNat | _ => 0)
      case atStart => exact ⟨0, Nat.zero_le _, rfl, rfl, fun j hj => absurd hj (Nat.not_lt_zero j), hX⟩
      case round =>
        clear hX
        obtain ⟨k, hk, rfl, rfl, hN, hX⟩ := hrel
        by_cases hkn : k < B.length
        · have hki : (k : Int) < (B.length : Int) := by omega
          have hx := List.getElem?_eq_getElem hkn
          generalize B[k] = x at *
          obtain ⟨a, rfl, hL⟩ := hc2 k x hx
          have hko := okAt_last (n := S.length) hx
          have hrf : okAt S.length B k = false → r = false := fun h => by
            cases r
            · rfl
            · have := (okB_iff _ _).1 (hri2.1 rfl) k hkn; rw [h] at this; cases this
          have hN2 : okAt S.length B k = true → Hid (∀ j : Nat, j < k + 1 → okAt S.length B j = true) := fun h j hj => by
            rcases (by omega : j < k ∨ j = k) with h' | rfl
            · exact (show ∀ j : Nat, j < k → okAt S.length B j = true from hN) j h'
            · exact h
          have hls := hid (lastV_succ hx)
          generalize lastV B k = y at *
          have hha := fun w => phas_any A S.length c (.slice (some a) B.length c2) x w
          by_cases q0 : x ≤ y
          · have d0 : decide (x ≤ y) = true := decide_eq_true q0
            have hr : r = false := hrf (by cases h : okAt S.length B k; rfl; have := (hko.1 h).1; omega)
            subst hr
            clear hrf hN2 hko hN hri2 hc2 hx hls hha q0
            go_wp2_with (first | ((with_reducible refine at_load ?_); refine wpList_bag_part (k := 0) hX aggD sizD _ rfl rfl rfl rfl (by first | exact .head _) (fun jz vz hz => (congrArg (fun n => ([_, _] : List Value)[n]?) (Nat.zero_add jz)).trans hz) rfl ?_) | ((with_reducible refine at_load ?_); refine wpList_bag_cell hX slS_cell _ rfl rfl rfl rfl (by first | exact .head _) rfl ?_) | ((with_reducible refine at_load ?_); refine wpList_bag_cell hX slI_cell _ rfl rfl rfl rfl (by first | exact .head _) rfl ?_) | ((with_reducible refine at_load ?_); refine wpList_loadW rfl 3 _ _ _ rfl rfl (hL _ hX.below) ?_))
            go_ret
            exact ⟨rfl, hX.below⟩
          have d0 : decide (x ≤ y) = false := decide_eq_false q0
          cases hv : hasV S.length x
          · have hr : r = false := hrf (by cases h : okAt S.length B k; rfl; have := (hko.1 h).2; rw [hv] at this; cases this)
            subst hr
            rw [hv] at hha
            clear hrf hN2 hko hN hri2 hc2 hx hls q0 hv
            go_wp2_with (first | ((with_reducible refine at_load ?_); refine wpList_bag_part (k := 0) hX aggD sizD _ rfl rfl rfl rfl (by first | exact .head _) (fun jz vz hz => (congrArg (fun n => ([_, _] : List Value)[n]?) (Nat.zero_add jz)).trans hz) rfl ?_) | ((with_reducible refine at_load ?_); refine wpList_bag_cell hX slS_cell _ rfl rfl rfl rfl (by first | exact .head _) rfl ?_) | ((with_reducible refine at_load ?_); refine wpList_bag_cell hX slI_cell _ rfl rfl rfl rfl (by first | exact .head _) rfl ?_) | ((with_reducible refine at_load ?_); refine wpList_loadW rfl 3 _ _ _ rfl rfl (hL _ hX.below) ?_) | (go_at_call 218; (with_reducible refine (hha _).mono ?_); rintro e wh ⟨rfl, hbb⟩; replace hX := hX.step hbb; clear hbb))
            go_ret
            exact ⟨rfl, hX.below⟩
          · have hok := hN2 (hko.2 ⟨by omega, hv⟩)
            rw [hv] at hha
            clear hrf hN2 hko hN hri2 hc2 hx q0 hv
            go_wp2_with (first | ((with_reducible refine at_load ?_); refine wpList_bag_part (k := 0) hX aggD sizD _ rfl rfl rfl rfl (by first | exact .head _) (fun jz vz hz => (congrArg (fun n => ([_, _] : List Value)[n]?) (Nat.zero_add jz)).trans hz) rfl ?_) | ((with_reducible refine at_load ?_); refine wpList_bag_cell hX slS_cell _ rfl rfl rfl rfl (by first | exact .head _) rfl ?_) | ((with_reducible refine at_load ?_); refine wpList_bag_cell hX slI_cell _ rfl rfl rfl rfl (by first | exact .head _) rfl ?_) | ((with_reducible refine at_load ?_); refine wpList_loadW rfl 3 _ _ _ rfl rfl (hL _ hX.below) ?_) | (go_at_call 218; (with_reducible refine (hha _).mono ?_); rintro e wh ⟨rfl, hbb⟩; replace hX := hX.step hbb; clear hbb))
            exact ⟨⟨k + 1, by omega, by go_num, by rw [show lastV B (k + 1) = _ from hls], hok, hX⟩, by simp only; omega⟩
        · have hki : ¬ (k : Int) < (B.length : Int) := by omega
          have hr : r = true := hri2.2 ((okB_iff _ _).2 fun j hj => (show ∀ j : Nat, j < k → okAt S.length B j = true from hN) j (by omega))
          subst hr
          clear hN hri2 hc2
          go_wp2_with (first | ((with_reducible refine at_load ?_); refine wpList_bag_cell hX slS_cell _ rfl rfl rfl rfl (by first | exact .head _) rfl ?_) | ((with_reducible refine at_load ?_); refine wpList_bag_cell hX slI_cell _ rfl rfl rfl rfl (by first | exact .head _) rfl ?_))
          go_ret
          exact ⟨rfl, hX.below⟩
/-! ### out of DvT -/
end Go.Proofs.YthpnddgfgpacpaaGreat
