import Derived.Test.YtlegcfjafdihlaaGreatDoorZR06
import Derived.Test.YtlegcfjafdihlaaGreatDoorZR07
import Derived.Test.YtlegcfjafdihlaaGreatDoorZR14
import Derived.Maps.OwnOps
import Derived.Maps.Views
import Derived.Lib.BufferWrite
import Derived.Lib.SliceRun
import Derived.Deep.OwnRows
import Derived.Laws.MakeOwn
import Derived.Laws.CopyOwn
import Derived.Test.YtlegcfjafdihlaaGreatDoorZR17
import Derived.Test.YtlegcfjafdihlaaGreatDoorZR10
/-
  Right, Read, Write of package drive, as package diskctl calls them. Conditions: at most 2^40 sectors and bad ones (Right); a valid drive (Read, Write).
-/
namespace Go.Proofs.YtlegcfjafdihlaaGreatDoor
open Go.RowKit
set_option linter.unusedSimpArgs false
set_option linter.unusedVariables false
set_option maxHeartbeats 4000000
set_option maxRecDepth 100000
attribute [local irreducible] wpQuiet

section
variable {ops : Array Oper} {rest : List Oper} {o : Oper} {a : Act} {w w0 w1 : World} {Q : Exit → Act → World → Prop} {l : List (Nat × TypeId × List Value)}
end
/-! ### out of DvO -/
theorem palw_any (n : Int) (w : World) : Calls Tryz.prog 68 #[.int .i64 n] w fun e w' => e = .returned (.bool (decide (1 ≤ n) && decide (n ≤ 256))) ∧ Below w.heap.size w w' := by
  by_cases h1 : 1 ≤ n
  · have d1 : decide (1 ≤ n) = true := decide_eq_true h1
    rw [d1, Bool.true_and]
    obtain ⟨r, hr⟩ : ∃ r, decide (n ≤ 256) = r := ⟨_, rfl⟩
    rw [hr]
    clear h1
    go_enter Tryz.func68, Tryz.ntmps68
    go_wp2
    go_ret
    exact ⟨rfl, Below.refl _ _⟩
  · have d1 : decide (1 ≤ n) = false := decide_eq_false h1
    rw [d1, Bool.false_and]
    clear h1
    go_enter Tryz.func68, Tryz.ntmps68
    go_wp2
    go_ret
    exact ⟨rfl, Below.refl _ _⟩
/-- Is there such a sector? -/
def hasV (m : Nat) (k : Int) : Bool := decide (0 ≤ k) && decide (k < (m : Int))
theorem hasV_iff (m : Nat) (k : Int) : hasV m k = true ↔ 0 ≤ k ∧ k < (m : Int) := by unfold hasV; simp
theorem phas_any (A : Option Addr) (m c : Nat) (vb : Value) (k : Int) (w : World) : Calls Tryz.prog 311 #[.agg #[.slice A m c, vb], .int .i64 k] w fun e w' => e = .returned (.bool (hasV m k)) ∧ Below w.heap.size w w' := by
  have hX := (Bag.nil w).new 43 [.slice A m c, vb]
  unfold hasV
  by_cases h1 : 0 ≤ k
  · have d1 : decide (0 ≤ k) = true := decide_eq_true h1
    rw [d1, Bool.true_and]
    obtain ⟨r, hr⟩ : ∃ r, decide (k < (m : Int)) = r := ⟨_, rfl⟩
    rw [hr]
    clear h1
    go_enter Tryz.func311, Tryz.ntmps311
    go_wp2_with (first | ((with_reducible refine at_load ?_); refine wpList_bag_cell hX slS_cell _ rfl rfl rfl rfl (by first | exact .head _) rfl ?_) | ((with_reducible refine at_load ?_); refine wpList_bag_cell hX slI_cell _ rfl rfl rfl rfl (by first | exact .head _) rfl ?_))
    go_ret
    exact ⟨rfl, hX.below⟩
  · have d1 : decide (0 ≤ k) = false := decide_eq_false h1
    rw [d1, Bool.false_and]
    clear h1
    go_enter Tryz.func311, Tryz.ntmps311
    go_wp2_with (first | ((with_reducible refine at_load ?_); refine wpList_bag_cell hX slS_cell _ rfl rfl rfl rfl (by first | exact .head _) rfl ?_) | ((with_reducible refine at_load ?_); refine wpList_bag_cell hX slI_cell _ rfl rfl rfl rfl (by first | exact .head _) rfl ?_))
    go_ret
    exact ⟨rfl, hX.below⟩
/-! ### a set of numbers, as a map -/
/-- The set of these numbers. -/
def sOf (B : List Int) : DataW Unit := Maps.setOf (.lit (.bool true)) (B.map (Lit.int .i64))
/-- A map of the call's own that is the set of these numbers. -/
def OwnM (w : World) (b : Nat) (B : List Int) : Prop := ∃ n, w.ownsMap (H := Unit) Tryz.prog 3 (plainElem Tryz.prog 4) b n (sOf B)
theorem own_map_same {w w' : World} {b n : Nat} {B : List Int} (h : w.ownsMap (H := Unit) Tryz.prog 3 (plainElem Tryz.prog 4) b n (sOf B)) (hb : w'.heap[b]? = w.heap[b]?) : w'.ownsMap (H := Unit) Tryz.prog 3 (plainElem Tryz.prog 4) b n (sOf B) := by
  obtain ⟨es, clock, h1, h2⟩ := h
  exact ⟨es, clock, hb.trans h1, h2⟩
theorem OwnM.same {w w' : World} {b : Nat} {B : List Int} (h : OwnM w b B) (hb : w'.heap[b]? = w.heap[b]?) : OwnM w' b B := h.imp fun n h => own_map_same h hb
theorem OwnM.lt {w : World} {b : Nat} {B : List Int} (h : OwnM w b B) : b < w.heap.size := h.elim fun n h => World.ownsMap.lt h
theorem OwnM.step {w w' : World} {b : Nat} {B : List Int} (h : OwnM w b B) (hb : Below w.heap.size w w') : OwnM w' b B := h.same (hb.block b h.lt)
section
variable {ops : Array Oper} {rest : List Oper} {o : Oper} {a : Act} {w : World} {Q : Exit → Act → World → Prop} {b : Nat} {B : List Int}
end
section
variable {ops : Array Oper} {rest : List Oper} {o : Oper} {a : Act} {w : World} {Q : Exit → Act → World → Prop}
end
section
variable {ops : Array Oper} {rest : List Oper} {o : Oper} {a : Act} {w w1 : World} {Q : Exit → Act → World → Prop}
end
/-- The bad sector ahead of one. -/
def lastV (B : List Int) (k : Nat) : Int := if k = 0 then -1 else B.getD (k - 1) 0
theorem lastV_succ {B : List Int} {k : Nat} {x : Int} (h : B[k]? = some x) : lastV B (k + 1) = x := by
  unfold lastV; rw [if_neg (by omega), Nat.add_sub_cancel]; exact getD_get h
theorem okAt_last {n : Nat} {B : List Int} {k : Nat} {x : Int} (h : B[k]? = some x) : okAt n B k = true ↔ lastV B k < x ∧ hasV n x = true := by
  rw [okAt_iff, getD_get h, hasV_iff]
  unfold lastV
  by_cases h0 : k = 0
  · rw [if_pos h0]; constructor
    · rintro ⟨a, b, _⟩; exact ⟨by omega, a, b⟩
    · rintro ⟨_, a, b⟩; exact ⟨a, b, .inl h0⟩
  · rw [if_neg h0]; constructor
    · rintro ⟨a, b, c⟩; exact ⟨by omega, a, b⟩
    · rintro ⟨c, a, b⟩; exact ⟨a, b, .inr c⟩
theorem pright_any (D : Drv) (hl : D.B.length ≤ 1099511627776) (hl2 : D.S.length ≤ 1099511627776) (vs vb : Value) (w : World) (hs : Sts w vs D.S) (hb : Its w vb D.B) : Calls Tryz.prog 306 #[.agg #[vs, vb]] w fun e w' => e = .returned (.bool D.right) ∧ Below w.heap.size w w' := by
  obtain ⟨A, c, rfl, _, hc⟩ := hs.form
  obtain ⟨A2, c2, rfl, _, hc2⟩ := hb.form
  have hX := (Bag.nil w).new 43 [.slice A D.S.length c, .slice A2 D.B.length c2]
  have hri := right_iff D
  obtain ⟨S, B⟩ := D
  dsimp only at hri hc hc2 hX hl hl2 ⊢
  clear hb hs
  generalize hR : Drv.right ⟨S, B⟩ = r at *
  clear hR
  have hal := fun w => palw_any (S.length : Int) w
  cases h1 : (decide ((1 : Int) ≤ (S.length : Int)) && decide ((S.length : Int) ≤ 256))
  · have hr : r = false := by
      cases r
      · rfl
      · have h := hri.1 rfl
        rw [decide_eq_true (by omega), decide_eq_true (by omega)] at h1; cases h1
    subst hr
    rw [h1] at hal
    clear hri hc hc2 h1
    go_enter Tryz.func306, Tryz.ntmps306
    go_wp2_with (first | ((with_reducible refine at_load ?_); refine wpList_bag_cell hX slS_cell _ rfl rfl rfl rfl (by first | exact .head _) rfl ?_) | ((with_reducible refine at_load ?_); refine wpList_bag_cell hX slI_cell _ rfl rfl rfl rfl (by first | exact .head _) rfl ?_) | (go_at_call 68; (with_reducible refine (hal _).mono ?_); rintro e wa ⟨rfl, hbb⟩; replace hX := hX.step hbb; clear hbb))
    go_ret
    exact ⟨rfl, hX.below⟩
  rw [h1] at hal
  have h12 : 1 ≤ S.length ∧ S.length ≤ 256 := by simp at h1; omega
  clear h1
  go_enter Tryz.func306, Tryz.ntmps306
  go_wp2_with (first | ((with_reducible refine at_load ?_); refine wpList_bag_cell hX slS_cell _ rfl rfl rfl rfl (by first | exact .head _) rfl ?_) | ((with_reducible refine at_load ?_); refine wpList_bag_cell hX slI_cell _ rfl rfl rfl rfl (by first | exact .head _) rfl ?_) | (go_at_call 68; (with_reducible refine (hal _).mono ?_); rintro e wa ⟨rfl, hbb⟩; replace hX := hX.step hbb; clear hbb))
  clear hal
  go_loopw [4, 16] (fun sv iv wr => ∃ i : Nat, i ≤ S.length ∧ iv = .int .i64 i ∧ Hid (∀ (j : Nat) s, j < i → S[j]? = some s → s.size = 128) ∧ Bag [(w.heap.size, 43, [.slice A S.length c, .slice A2 B.length c2])] w wr) (fun _ i _ => match i with | .int _ q => S.length - q.toNat | _ => 0)
  case atStart => exact ⟨0, Nat.zero_le _, rfl, fun j s hj => absurd hj (Nat.not_lt_zero j), hX⟩
  case round =>
    clear hX
    obtain ⟨i, hi, rfl, hN, hX⟩ := hrel
    by_cases hin : i < S.length
    · have hii : (i : Int) < (S.length : Int) := by omega
      have hx := List.getElem?_eq_getElem hin
      have hm := List.getElem_mem hin
      generalize S[i] = x at *
      obtain ⟨a, rfl, hL⟩ := hc i x hx
      by_cases hsz : x.size = 128
      · have hN2 : Hid (∀ (j : Nat) s, j < i + 1 → S[j]? = some s → s.size = 128) := fun j s hj hs => by
          rcases (by omega : j < i ∨ j = i) with h | rfl
          · exact (show ∀ (j : Nat) s, j < i → S[j]? = some s → s.size = 128 from hN) j s h hs
          · rw [hx] at hs; cases hs; exact hsz
        have hszi : (x.size : Int) = 128 := by omega
        clear hN hx hsz hc hri hc2 hm h12
        go_wp2_with (first | ((with_reducible refine at_load ?_); refine wpList_bag_cell hX slS_cell _ rfl rfl rfl rfl (by first | exact .head _) rfl ?_) | ((with_reducible refine at_load ?_); refine wpList_bag_cell hX slI_cell _ rfl rfl rfl rfl (by first | exact .head _) rfl ?_) | ((with_reducible refine at_load ?_); refine wpList_loadW rfl 9 _ _ _ rfl rfl (hL _ hX.below) ?_))
        exact ⟨⟨i + 1, by omega, by go_num, hN2, hX⟩, by simp only; omega⟩
      · have hsb : ((x.size : Int) != 128) = true := by simp; omega
        have hr : r = false := by cases r; rfl; exact absurd ((hri.1 rfl).2.2.1 x hm) hsz
        subst hr
        clear hN hx hsz hc hri hc2 hm h12
        go_wp2_with (first | ((with_reducible refine at_load ?_); refine wpList_bag_cell hX slS_cell _ rfl rfl rfl rfl (by first | exact .head _) rfl ?_) | ((with_reducible refine at_load ?_); refine wpList_bag_cell hX slI_cell _ rfl rfl rfl rfl (by first | exact .head _) rfl ?_) | ((with_reducible refine at_load ?_); refine wpList_loadW rfl 9 _ _ _ rfl rfl (hL _ hX.below) ?_))
        go_ret
        exact ⟨rfl, hX.below⟩
    · have hii : ¬ (i : Int) < (S.length : Int) := by omega
      have hall : ∀ s ∈ S, s.size = 128 := fun s hs => by
        obtain ⟨j, hj⟩ := List.mem_iff_getElem?.1 hs
        have hjl : j < S.length := (List.getElem?_eq_some_iff.1 hj).1
        exact (show ∀ (j : Nat) s, j < i → S[j]? = some s → s.size = 128 from hN) j s (by omega) hj
      have hri2 : r = true ↔ okB S.length B = true := ⟨fun h => (hri.1 h).2.2.2, fun h => hri.2 ⟨by omega, by omega, hall, h⟩⟩
      clear hri hall hN hc h12
      obtain ⟨iv, hiv⟩ : ∃ iv : Int, (i : Int) = iv := ⟨_, rfl⟩
      go_wp2_with (first | ((with_reducible refine at_load ?_); refine wpList_bag_cell hX slS_cell _ rfl rfl rfl rfl (by first | exact .head _) rfl ?_) | ((with_reducible refine at_load ?_); refine wpList_bag_cell hX slI_cell _ rfl rfl rfl rfl (by first | exact .head _) rfl ?_))
      go_loopw [5, 7, 27] (fun lv sv iv wr => ∃ k : Nat, k ≤ B.length ∧ iv = .int .i64 k ∧ lv = .int .i64 (lastV B k) ∧ Hid (∀ j : Nat, j < k → okAt S.length B j = true) ∧ Bag [(w.heap.size, 43, [.slice A S.length c, .slice A2 B.length c2])] w wr) (fun _ _ i _ => match i with | .int _ q => B.length - q.toNat | _ => 0)
      case atStart => exact ⟨0, Nat.zero_le _, rfl, rfl, fun j hj => absurd hj (Nat.not_lt_zero j), hX⟩
      case round =>
        clear hX
        obtain ⟨k, hk, rfl, rfl, hN, hX⟩ := hrel
        by_cases hkn : k < B.length
        · have hki : (k : Int) < (B.length : Int) := by omega
          have hx := List.getElem?_eq_getElem hkn
          generalize B[k] = x at *
          obtain ⟨a, rfl, hL⟩ := hc2 k x hx
          have hko := okAt_last (n := S.length) hx
          have hrf : okAt S.length B k = false → r = false := fun h => by
            cases r
            · rfl
            · have := (okB_iff _ _).1 (hri2.1 rfl) k hkn; rw [h] at this; cases this
          have hN2 : okAt S.length B k = true → Hid (∀ j : Nat, j < k + 1 → okAt S.length B j = true) := fun h j hj => by
            rcases (by omega : j < k ∨ j = k) with h' | rfl
            · exact (show ∀ j : Nat, j < k → okAt S.length B j = true from hN) j h'
            · exact h
          have hls := hid (lastV_succ hx)
          generalize lastV B k = y at *
          have hha := fun w => phas_any A S.length c (.slice (some a) B.length c2) x w
          by_cases q0 : x ≤ y
          · have d0 : decide (x ≤ y) = true := decide_eq_true q0
            have hr : r = false := hrf (by cases h : okAt S.length B k; rfl; have := (hko.1 h).1; omega)
            subst hr
            clear hrf hN2 hko hN hri2 hc2 hx hls hha q0
            go_wp2_with (first | ((with_reducible refine at_load ?_); refine wpList_bag_part (k := 0) hX aggD sizD _ rfl rfl rfl rfl (by first | exact .head _) (fun jz vz hz => (congrArg (fun n => ([_, _] : List Value)[n]?) (Nat.zero_add jz)).trans hz) rfl ?_) | ((with_reducible refine at_load ?_); refine wpList_bag_cell hX slS_cell _ rfl rfl rfl rfl (by first | exact .head _) rfl ?_) | ((with_reducible refine at_load ?_); refine wpList_bag_cell hX slI_cell _ rfl rfl rfl rfl (by first | exact .head _) rfl ?_) | ((with_reducible refine at_load ?_); refine wpList_loadW rfl 3 _ _ _ rfl rfl (hL _ hX.below) ?_))
            go_ret
            exact ⟨rfl, hX.below⟩
          have d0 : decide (x ≤ y) = false := decide_eq_false q0
          cases hv : hasV S.length x
          · have hr : r = false := hrf (by cases h : okAt S.length B k; rfl; have := (hko.1 h).2; rw [hv] at this; cases this)
            subst hr
            rw [hv] at hha
            clear hrf hN2 hko hN hri2 hc2 hx hls q0 hv
            go_wp2_with (first | ((with_reducible refine at_load ?_); refine wpList_bag_part (k := 0) hX aggD sizD _ rfl rfl rfl rfl (by first | exact .head _) (fun jz vz hz => (congrArg (fun n => ([_, _] : List Value)[n]?) (Nat.zero_add jz)).trans hz) rfl ?_) | ((with_reducible refine at_load ?_); refine wpList_bag_cell hX slS_cell _ rfl rfl rfl rfl (by first | exact .head _) rfl ?_) | ((with_reducible refine at_load ?_); refine wpList_bag_cell hX slI_cell _ rfl rfl rfl rfl (by first | exact .head _) rfl ?_) | ((with_reducible refine at_load ?_); refine wpList_loadW rfl 3 _ _ _ rfl rfl (hL _ hX.below) ?_) | (go_at_call 311; (with_reducible refine (hha _).mono ?_); rintro e wh ⟨rfl, hbb⟩; replace hX := hX.step hbb; clear hbb))
            go_ret
            exact ⟨rfl, hX.below⟩
          · have hok := hN2 (hko.2 ⟨by omega, hv⟩)
            rw [hv] at hha
            clear hrf hN2 hko hN hri2 hc2 hx q0 hv
            go_wp2_with (first | ((with_reducible refine at_load ?_); refine wpList_bag_part (k := 0) hX aggD sizD _ rfl rfl rfl rfl (by first | exact .head _) (fun jz vz hz => (congrArg (fun n => ([_, _] : List Value)[n]?) (Nat.zero_add jz)).trans hz) rfl ?_) | ((with_reducible refine at_load ?_); refine wpList_bag_cell hX slS_cell _ rfl rfl rfl rfl (by first | exact .head _) rfl ?_) | ((with_reducible refine at_load ?_); refine wpList_bag_cell hX slI_cell _ rfl rfl rfl rfl (by first | exact .head _) rfl ?_) | ((with_reducible refine at_load ?_); refine wpList_loadW rfl 3 _ _ _ rfl rfl (hL _ hX.below) ?_) | (go_at_call 311; (with_reducible refine (hha _).mono ?_); rintro e wh ⟨rfl, hbb⟩; replace hX := hX.step hbb; clear hbb))
            exact ⟨⟨k + 1, by omega, by go_num, by rw [show lastV B (k + 1) = _ from hls], hok, hX⟩, by simp only; omega⟩
        · have hki : ¬ (k : Int) < (B.length : Int) := by omega
          have hr : r = true := hri2.2 ((okB_iff _ _).2 fun j hj => (show ∀ j : Nat, j < k → okAt S.length B j = true from hN) j (by omega))
          subst hr
          clear hN hri2 hc2
          go_wp2_with (first | ((with_reducible refine at_load ?_); refine wpList_bag_cell hX slS_cell _ rfl rfl rfl rfl (by first | exact .head _) rfl ?_) | ((with_reducible refine at_load ?_); refine wpList_bag_cell hX slI_cell _ rfl rfl rfl rfl (by first | exact .head _) rfl ?_))
          go_ret
          exact ⟨rfl, hX.below⟩
/-! ### out of DvT -/
end Go.Proofs.YtlegcfjafdihlaaGreatDoor
/-
  Copies of a machine. Conditions: at most 2^40 elements in each list.
-/
namespace Go.Proofs.YtlegcfjafdihlaaGreatDoor
open Go.RowKit
set_option linter.unusedSimpArgs false
set_option linter.unusedVariables false
set_option maxHeartbeats 4000000
set_option maxRecDepth 100000
attribute [local irreducible] wpQuiet

section
variable {A : Ma} {vm vb vl vs vd vt : Value} (h : A.ok)
include h
end
/-- Rows of the call's own, for the devices' lists. -/
structure FrD (N : Nat) (w : World) (A : Ma) (vl vs vd vt : Value) : Prop where
  l : w.ownsRow N 83 9 vl A.L.length (A.L.flatMap lnL)
  s : w.ownsRow N 9 1 vs A.K.D.S.length (A.K.D.S.map Value.string)
  d : w.ownsRow N 3 1 vd A.K.D.B.length (A.K.D.B.map (Value.int .i64))
  t : w.ownsRow N 9 1 vt A.T.R.length (A.T.R.map Value.string)
theorem FrD.step {N : Nat} {w w' : World} {A : Ma} {vl vs vd vt : Value} (h : FrD N w A vl vs vd vt) (hb : Below w.heap.size w w') : FrD N w' A vl vs vd vt := ⟨own_step h.l hb, own_step h.s hb, own_step h.d hb, own_step h.t hb⟩
theorem FrD.base {N N' : Nat} {w : World} {A : Ma} {vl vs vd vt : Value} (h : FrD N w A vl vs vd vt) (hN : N' ≤ N) : FrD N' w A vl vs vd vt := ⟨own_base h.l hN, own_base h.s hN, own_base h.d hN, own_base h.t hN⟩
theorem FrD.over {l : List (Nat × TypeId × List Value)} {w0 w w' : World} {B N : Nat} {cs : List Value} {A : Ma} {vl vs vd vt : Value} (h : FrD N w A vl vs vd vt) (hX : Bag ((B, 49, cs) :: l) w0 w) (hk : ∀ k, k ≠ B → w'.heap[k]? = w.heap[k]?) : FrD N w' A vl vs vd vt := ⟨own_over hX h.l (by decide) hk, own_over hX h.s (by decide) hk, own_over hX h.d (by decide) hk, own_over hX h.t (by decide) hk⟩
/-- The iterator over the devices: a closure over the number of lines. -/
theorem pdevs_any (n : Int) (w : World) : Calls Tryz.prog 92 #[.int .i64 n] w fun e' w' => e' = .returned (.func (.func 131) #[] #[.pointer (some ⟨w.heap.size, 0, none⟩)]) ∧ w' = w.alloc (.cells #[.int .i64 n] 3) := by
  go_enter Tryz.func92, Tryz.ntmps92
  go_wp2
  go_ret
  exact ⟨rfl, rfl⟩
end Go.Proofs.YtlegcfjafdihlaaGreatDoor
/-
  The contracts of package clock: none is a condition any more. No condition.
-/
namespace Go.Proofs.YtlegcfjafdihlaaGreatDoor
open Go.RowKit
set_option linter.unusedSimpArgs false
set_option linter.unusedVariables false
set_option maxHeartbeats 4000000
set_option maxRecDepth 100000
attribute [local irreducible] wpQuiet
theorem pright_0 (e r : Bool) (p l : Int)  (c0 : ¬ 1 ≤ p) (w : World) : Calls Tryz.prog 72 #[.agg #[.bool e, .bool r, .int .i64 p, .int .i64 l]] w fun e' w' => e' = .returned (.bool false) ∧ Below w.heap.size w w' := by
  have d0 : decide (1 ≤ p) = false := decide_eq_false c0
  go_enter Tryz.func72, Tryz.ntmps72
  go_wp2
  go_ret
  exact ⟨rfl, ((Bag.nil w).new 39 _).below⟩
theorem pright_1 (e r : Bool) (p l : Int) (c0 : 1 ≤ p) (c1 : ¬ p ≤ 65535) (w : World) : Calls Tryz.prog 72 #[.agg #[.bool e, .bool r, .int .i64 p, .int .i64 l]] w fun e' w' => e' = .returned (.bool false) ∧ Below w.heap.size w w' := by
  have d0 : decide (1 ≤ p) = true := decide_eq_true c0
  have d1 : decide (p ≤ 65535) = false := decide_eq_false c1
  go_enter Tryz.func72, Tryz.ntmps72
  go_wp2
  go_ret
  exact ⟨rfl, ((Bag.nil w).new 39 _).below⟩
theorem pright_2 (e r : Bool) (p l : Int) (c0 : 1 ≤ p) (c1 : p ≤ 65535) (c2 : ¬ 1 ≤ l) (w : World) : Calls Tryz.prog 72 #[.agg #[.bool e, .bool r, .int .i64 p, .int .i64 l]] w fun e' w' => e' = .returned (.bool false) ∧ Below w.heap.size w w' := by
  have d0 : decide (1 ≤ p) = true := decide_eq_true c0
  have d1 : decide (p ≤ 65535) = true := decide_eq_true c1
  have d2 : decide (1 ≤ l) = false := decide_eq_false c2
  go_enter Tryz.func72, Tryz.ntmps72
  go_wp2
  go_ret
  exact ⟨rfl, ((Bag.nil w).new 39 _).below⟩
theorem pright_3 (e r : Bool) (p l : Int) (c0 : 1 ≤ p) (c1 : p ≤ 65535) (c2 : 1 ≤ l) (c3 : ¬ l ≤ p) (w : World) : Calls Tryz.prog 72 #[.agg #[.bool e, .bool r, .int .i64 p, .int .i64 l]] w fun e' w' => e' = .returned (.bool false) ∧ Below w.heap.size w w' := by
  have d0 : decide (1 ≤ p) = true := decide_eq_true c0
  have d1 : decide (p ≤ 65535) = true := decide_eq_true c1
  have d2 : decide (1 ≤ l) = true := decide_eq_true c2
  have d3 : decide (l ≤ p) = false := decide_eq_false c3
  go_enter Tryz.func72, Tryz.ntmps72
  go_wp2
  go_ret
  exact ⟨rfl, ((Bag.nil w).new 39 _).below⟩
theorem pright_4 (e r : Bool) (p l : Int) (c0 : 1 ≤ p) (c1 : p ≤ 65535) (c2 : 1 ≤ l) (c3 : l ≤ p) (w : World) : Calls Tryz.prog 72 #[.agg #[.bool e, .bool r, .int .i64 p, .int .i64 l]] w fun e' w' => e' = .returned (.bool true) ∧ Below w.heap.size w w' := by
  have d0 : decide (1 ≤ p) = true := decide_eq_true c0
  have d1 : decide (p ≤ 65535) = true := decide_eq_true c1
  have d2 : decide (1 ≤ l) = true := decide_eq_true c2
  have d3 : decide (l ≤ p) = true := decide_eq_true c3
  go_enter Tryz.func72, Tryz.ntmps72
  go_wp2
  go_ret
  exact ⟨rfl, ((Bag.nil w).new 39 _).below⟩
theorem pright_any_13 (c : Ck) (w : World) : Calls Tryz.prog 72 #[.agg #[.bool c.e, .bool c.r, .int .i64 c.p, .int .i64 c.l]] w fun e' w' => e' = .returned (.bool c.right) ∧ Below w.heap.size w w' := by
  obtain ⟨e, r, p, l⟩ := c
  unfold Ck.right
  by_cases c0 : ¬ 1 ≤ p
  · have := pright_0 e r p l c0 w
    simpa [c0] using this
  replace c0 : 1 ≤ p := by omega
  by_cases c1 : ¬ p ≤ 65535
  · have := pright_1 e r p l c0 c1 w
    simpa [c0, c1] using this
  replace c1 : p ≤ 65535 := by omega
  by_cases c2 : ¬ 1 ≤ l
  · have := pright_2 e r p l c0 c1 c2 w
    simpa [c0, c1, c2] using this
  replace c2 : 1 ≤ l := by omega
  by_cases c3 : ¬ l ≤ p
  · have := pright_3 e r p l c0 c1 c2 c3 w
    simpa [c0, c1, c2, c3] using this
  replace c3 : l ≤ p := by omega
  have := pright_4 e r p l c0 c1 c2 c3 w
  simpa [c0, c1, c2, c3] using this
end Go.Proofs.YtlegcfjafdihlaaGreatDoor
