import Derived.Test.YthpnddgfgpacpaaGreatRS01
import Derived.BigQuiet
import Derived.Test.YthpnddgfgpacpaaGreatRS06
import Derived.Test.YthpnddgfgpacpaaGreatRS05
/-
  A region that draws its order, with an allocation behind quiet operations and calls, and a tail that waits for all of them: walked once, in the order of the text, the tail behind it for every place of the new block. General. No condition.
-/
namespace Go.Proofs.YthpnddgfgpacpaaGreat
open Go Go.RowKit

section
variable {P : Program} {ops : Array Oper} {md : Region.Mode} {K : Option Nat → World → Prop}

def YF (P : Program) (ops : Array Oper) (K : Option Nat → World → Prop) (o : Oper) (v : Value) (a : Act) : Prop := ∀ s, YieldsIn P ops (K s) o v a
theorem YF.same {o : Oper} {v : Value} {a a' : Act} (h : YF P ops K o v a) (he : execOp a'.eval o = execOp a.eval o) (hw : Region.wanted o (yielded ops a'.tmps) = Region.wanted o (yielded ops a.tmps)) : YF P ops K o v a' := fun s => (h s).of_same he hw
end
/-- A bag of blocks, and perhaps one new block. -/
def KB (t : TypeId) (zs : List Value) (l : List (Nat × TypeId × List Value)) (w0 : World) : Option Nat → World → Prop
  | none, w => Bag l w0 w
  | some B, w => Bag ((B, t, zs) :: l) w0 w
theorem KB.low {t : TypeId} {zs : List Value} {l : List (Nat × TypeId × List Value)} {w0 w : World} {s : Option Nat} (h : KB t zs l w0 s w) : Bag l w0 w := by
  cases s with
  | none => exact h
  | some B =>
    have h : Bag ((B, t, zs) :: l) w0 w := h
    exact ⟨fun B t cs hm => h.all B t cs (List.mem_cons_of_mem _ hm), h.below, fun b hb => h.lo b (List.mem_cons_of_mem _ hb), (List.nodup_cons.1 h.dis).2⟩
theorem KB.step {t : TypeId} {zs : List Value} {l : List (Nat × TypeId × List Value)} {w0 w w' : World} {s : Option Nat} (h : KB t zs l w0 s w) (hb : Below w.heap.size w w') : KB t zs l w0 s w' := by
  cases s with
  | none => exact Bag.step h hb
  | some B => exact Bag.step h hb
theorem KB.new {t : TypeId} {zs : List Value} {l : List (Nat × TypeId × List Value)} {w0 w : World} (h : KB t zs l w0 none w) : KB t zs l w0 (some w.heap.size) (w.alloc (.cells zs.toArray t)) := Bag.new h t zs
end Go.Proofs.YthpnddgfgpacpaaGreat
/-
  A region that draws its order, with quiet operations, one call whose answer may hang on the world (fresh memory), quiet operations on that answer, an allocation, and a tail that waits for all of them: walked once, in the order of the text, the tail behind it for every answer and every place of the new block. General. No condition.
-/
namespace Go.Proofs.YthpnddgfgpacpaaGreat
open Go Go.RowKit

section
variable {P : Program} {ops : Array Oper} {md : Region.Mode} {K : Option Nat → World → Prop}

/-- What is listed has been waited for. -/
def Clo (md : Region.Mode) (ops : Array Oper) (listed : Array Bool) : Prop := ∀ j oj, ops[j]? = some oj → listed.getD j false = true → ∀ e ∈ oj.after, Region.binds md e = true → listed.getD e.on false = true
theorem Clo.set {i : Nat} {listed : Array Bool} (inv : Clo md ops listed) (hi : i ∈ Region.ready md ops listed) : Clo md ops (listed.setIfInBounds i true) := by
  obtain ⟨_, oi, hoi, hall⟩ := mem_ready.1 hi
  intro j oj hj hl e he hb
  by_cases hij : i = j
  · subst hij
    have : oj = oi := Option.some.inj (hj.symm.trans hoi)
    subst this
    exact getD_set_true (hall e he hb)
  · rw [getD_set_ne false hij] at hl
    exact getD_set_true (inv j oj hj hl e he hb)
/-- What is asked of the call: it enters a function whose contract gives an answer v and a world of R v. -/
def semiUpon (P : Program) (R : Value → World → Prop) (w : World) : Result Next → Prop
  | .ok (.enter f args) w' => w' = w ∧ Calls P f args w (fun e w'' => ∃ v, e = .returned v ∧ R v w'')
  | _ => False
def Oper.semiAt (P : Program) (o : Oper) (a : Act) (R : Value → World → Prop) (w : World) : Prop := semiUpon P R w ((execOp a.eval o).run P w)
theorem wp_semi {oc : Oper} {a : Act} {w : World} {R : Value → World → Prop} {KK : Act → World → Prop} {Q' : Exit → Act → World → Prop} {c : Nat} (hc : ops[c]? = some oc) (hgd : oc.guard = none) (h : Oper.semiAt P oc a R w) (hK : ∀ v w', R v w' → KK (a.put oc.dst v) w') : wpOp P ops Q' c KK a w := by
  have hwant : Region.wanted oc (yielded ops a.tmps) = true := by unfold Region.wanted; rw [hgd]
  unfold wpOp
  simp only [hc, hwant, if_true]
  refine .inl ?_
  unfold Oper.wp
  unfold Oper.semiAt at h
  generalize (execOp a.eval oc).run P w = r at *
  cases r with
  | ok n w' =>
    cases n <;> simp only [semiUpon] at h
    case enter f args =>
      obtain ⟨rfl, h⟩ := h
      simp only [Oper.upon]
      exact h.mono fun e w'' ⟨v, he, hw''⟩ => by subst he; exact hK v w'' hw''
  | halt x w' => simp only [semiUpon] at h
end
end Go.Proofs.YthpnddgfgpacpaaGreat
/-
  As region_call, but a store behind the allocation need not wait for all quiet operations: it may come while some are still open. General. No condition.
-/
namespace Go.Proofs.YthpnddgfgpacpaaGreat
open Go Go.RowKit

section
variable {P : Program} {ops : Array Oper} {md : Region.Mode}

abbrev St := Option (Nat × Bool)
def St.enc : St → Option Nat
  | none => none
  | some (B, b) => some (2 * B + if b then 1 else 0)
end
end Go.Proofs.YthpnddgfgpacpaaGreat
/-
  Apply of the reference. Condition: at most 2^40 sectors, bad ones and writes.
-/
namespace Go.Proofs.YthpnddgfgpacpaaGreat
open Go.RowKit
set_option linter.unusedSimpArgs false
set_option linter.unusedVariables false
set_option maxHeartbeats 4000000
set_option maxRecDepth 100000
attribute [local irreducible] wpQuiet

/-- The cells of writes. -/
def flatW (l : List (Int × ByteArray)) : List Value := l.flatMap fun q => [.int .i64 q.1, .string q.2]
theorem flatW_append (a b : List (Int × ByteArray)) : flatW (a ++ b) = flatW a ++ flatW b := List.flatMap_append
theorem flatW_length (l : List (Int × ByteArray)) : (flatW l).length = l.length * 2 := by
  induction l with
  | nil => rfl
  | cons q l ih => show ([_, _] ++ flatW l).length = _; rw [List.length_append, ih]; simp; omega
theorem flatW_get {l : List (Int × ByteArray)} {k : Nat} {q : Int × ByteArray} (hq : l[k]? = some q) : ∀ j v, ([.int .i64 q.1, .string q.2] : List Value)[j]? = some v → (flatW l)[k * 2 + j]? = some v := by
  have hk : k < l.length := (List.getElem?_eq_some_iff.1 hq).1
  intro j v hv
  have e : flatW l = flatW (l.take k) ++ ([.int .i64 q.1, .string q.2] ++ flatW (l.drop (k + 1))) := by
    have e1 : flatW (l.drop k) = [.int .i64 q.1, .string q.2] ++ flatW (l.drop (k + 1)) := by
      rw [List.drop_eq_getElem_cons hk, (List.getElem?_eq_some_iff.1 hq).2]; rfl
    rw [← e1, ← flatW_append, List.take_append_drop]
  have hl : (flatW (l.take k)).length = k * 2 := by rw [flatW_length, List.length_take, Nat.min_eq_left (by omega)]
  rw [e, List.getElem?_append_right (by omega), hl, show k * 2 + j - k * 2 = j from by omega]
  rw [List.getElem?_append_left (List.getElem?_eq_some_iff.1 hv).1]; exact hv
/-- A slice of writes that reads as l. -/
def Wts (w : World) (v : Value) (l : List (Int × ByteArray)) : Prop := Rz w v l.length (flatW l)
theorem Wts.form {w : World} {v : Value} {l : List (Int × ByteArray)} (h : Wts w v l) : ∃ A c, v = .slice A l.length c ∧ l.length ≤ c ∧ ∀ (k : Nat) q, l[k]? = some q → ∃ a : Addr, A = some a ∧ ∀ w', Below w.heap.size w w' → (Instr.loadAt 3 (.pointer (some (a.add (k * 2))))).run Tryz.prog w' = .ok (.int .i64 q.1) w' ∧ (Instr.loadAt 9 (.pointer (some ((a.add (k * 2)).add 1)))).run Tryz.prog w' = .ok (.string q.2) w' := by
  have h0 := h
  obtain ⟨⟨A, c, rfl, hk, _⟩, _⟩ := h
  refine ⟨A, c, rfl, hk, fun k q hq => ?_⟩
  have h1 := flatW_get hq 0 _ rfl
  have h2 := flatW_get hq 1 _ rfl
  obtain ⟨a, rfl⟩ := Rz.addr h0 h1
  exact ⟨a, rfl, fun w' hb => ⟨Rz.load (Rz.below h0 hb) int_cell h1, by rw [addr_add]; exact Rz.load (Rz.below h0 hb) str_cell h2⟩⟩
theorem Bag.perm {l l' : List (Nat × TypeId × List Value)} {w0 w : World} (h : Bag l w0 w) (p : l.Perm l') : Bag l' w0 w :=
  ⟨fun B t cs hm => h.all B t cs (p.mem_iff.2 hm), h.below, fun b hb => h.lo b (p.mem_iff.2 hb), (p.map _).nodup_iff.1 h.dis⟩
theorem Bag.sub {l l' : List (Nat × TypeId × List Value)} {w0 w : World} (h : Bag l w0 w) (p : l'.Sublist l) : Bag l' w0 w :=
  ⟨fun B t cs hm => h.all B t cs (p.mem hm), h.below, fun b hb => h.lo b (p.mem hb), h.dis.sublist (p.map _)⟩
theorem StsX.over {X : Nat → Prop} {B : Nat} {w w' : World} {v : Value} {S : List ByteArray} (h : StsX X w v S) (hk : ∀ k, k ≠ B → w'.heap[k]? = w.heap[k]?) (hB : X B) : StsX X w' v S := h.off (fun b _ hx => hk b (fun e => hx (e ▸ hB))) (fun _ _ h => h)
theorem ItsX.over {X : Nat → Prop} {B : Nat} {w w' : World} {v : Value} {S : List Int} (h : ItsX X w v S) (hk : ∀ k, k ≠ B → w'.heap[k]? = w.heap[k]?) (hB : X B) : ItsX X w' v S := h.off (fun b _ hx => hk b (fun e => hx (e ▸ hB))) (fun _ _ h => h)
theorem StsX.less {X Y : Nat → Prop} {w : World} {v : Value} {S : List ByteArray} (h : StsX X w v S) (hY : ∀ b, Y b → X b) : StsX Y w v S := h.off (fun _ _ _ => rfl) (fun b _ h => hY b h)
theorem ItsX.less {X Y : Nat → Prop} {w : World} {v : Value} {S : List Int} (h : ItsX X w v S) (hY : ∀ b, Y b → X b) : ItsX Y w v S := h.off (fun _ _ _ => rfl) (fun b _ h => hY b h)
/-- Those of X, and two blocks of the call's own. -/
def OwnA (X : Nat → Prop) (N b : Nat) : Prop := X b ∨ b = N ∨ b = N + 1
def KX (t : TypeId) (zs ns : List Value) (l : List (Nat × TypeId × List Value)) (w0 : World) : St → World → Prop
  | none, w => Bag l w0 w
  | some (B, false), w => Bag ((B, t, zs) :: l) w0 w
  | some (B, true), w => Bag ((B, t, ns) :: l) w0 w
theorem KX.of {t : TypeId} {zs ns : List Value} {l : List (Nat × TypeId × List Value)} {w0 w : World} {s : Option Nat} (h : KB t zs l w0 s w) : KX t zs ns l w0 (s.map (·, false)) w := by
  cases s <;> exact h
theorem KX.new {t : TypeId} {zs ns : List Value} {l : List (Nat × TypeId × List Value)} {w0 w : World} (h : KX t zs ns l w0 none w) : KX t zs ns l w0 (some (w.heap.size, false)) (w.alloc (.cells zs.toArray t)) := Bag.new h t zs
end Go.Proofs.YthpnddgfgpacpaaGreat
/-
  Right, Fair of the reference. Condition: at most 2^40 sectors and bad ones.
-/
namespace Go.Proofs.YthpnddgfgpacpaaGreat
open Go.RowKit
set_option linter.unusedSimpArgs false
set_option linter.unusedVariables false
set_option maxHeartbeats 4000000
set_option maxRecDepth 100000
attribute [local irreducible] wpQuiet

theorem rrightD_any (D : Drv) (hl : D.B.length ≤ 1099511627776) (hl2 : D.S.length ≤ 1099511627776) (vs vb : Value) (w : World) (hs : Sts w vs D.S) (hb : Its w vb D.B) : Calls Tryz.prog 78 #[.agg #[vs, vb]] w fun e w' => e = .returned (.bool D.right) ∧ Below w.heap.size w w' := by
  obtain ⟨A, c, rfl, _, hc⟩ := hs.form
  obtain ⟨A2, c2, rfl, _, hc2⟩ := hb.form
  have hX := (Bag.nil w).new 38 [.slice A D.S.length c, .slice A2 D.B.length c2]
  have hri := right_iff D
  obtain ⟨S, B⟩ := D
  dsimp only at hri hc hc2 hX hl hl2 ⊢
  clear hb hs
  generalize hR : Drv.right ⟨S, B⟩ = r at *
  clear hR
  by_cases h1 : S.length < 1
  · have hr : r = false := by cases r <;> simp_all
    subst hr
    have d1 : decide ((S.length : Int) < 1) = true := decide_eq_true (by omega)
    have d1n : decide (S.length < 1) = true := decide_eq_true h1
    clear hri hc hc2
    go_enter Tryz.func78, Tryz.ntmps78
    go_wp2_with (first | ((with_reducible refine at_load ?_); refine wpList_bag_cell hX slS_cell _ rfl rfl rfl rfl (by first | exact .head _) rfl ?_) | ((with_reducible refine at_load ?_); refine wpList_bag_cell hX slI_cell _ rfl rfl rfl rfl (by first | exact .head _) rfl ?_))
    go_ret
    exact ⟨rfl, hX.below⟩
  have d1 : decide ((S.length : Int) < 1) = false := decide_eq_false (by omega)
  have d1n : decide (S.length < 1) = false := decide_eq_false h1
  by_cases h2 : 256 < S.length
  · have hr : r = false := by cases r; rfl; have := (hri.1 rfl).2.1; omega
    subst hr
    have d2 : decide ((256 : Int) < (S.length : Int)) = true := decide_eq_true (by omega)
    have d2n : decide (256 < S.length) = true := decide_eq_true h2
    clear hri hc hc2
    go_enter Tryz.func78, Tryz.ntmps78
    go_wp2_with (first | ((with_reducible refine at_load ?_); refine wpList_bag_cell hX slS_cell _ rfl rfl rfl rfl (by first | exact .head _) rfl ?_) | ((with_reducible refine at_load ?_); refine wpList_bag_cell hX slI_cell _ rfl rfl rfl rfl (by first | exact .head _) rfl ?_))
    go_ret
    exact ⟨rfl, hX.below⟩
  have d2 : decide ((256 : Int) < (S.length : Int)) = false := decide_eq_false (by omega)
  have d2n : decide (256 < S.length) = false := decide_eq_false h2
  go_enter Tryz.func78, Tryz.ntmps78
  go_wp2_with (first | ((with_reducible refine at_load ?_); refine wpList_bag_cell hX slS_cell _ rfl rfl rfl rfl (by first | exact .head _) rfl ?_) | ((with_reducible refine at_load ?_); refine wpList_bag_cell hX slI_cell _ rfl rfl rfl rfl (by first | exact .head _) rfl ?_))
  clear d1 d1n d2 d2n
  go_loopw [3] (fun iv wr => ∃ i : Nat, i ≤ S.length ∧ iv = .int .i64 i ∧ Hid (∀ (j : Nat) s, j < i → S[j]? = some s → s.size = 128) ∧ Bag [(w.heap.size, 38, [.slice A S.length c, .slice A2 B.length c2])] w wr) (fun i _ => match i with | .int _ q => S.length - q.toNat | _ => 0)
  case atStart => exact ⟨0, Nat.zero_le _, rfl, fun j s hj => absurd hj (Nat.not_lt_zero j), hX⟩
  case round =>
    clear hX
    obtain ⟨i, hi, rfl, hN, hX⟩ := hrel
    by_cases hin : i < S.length
    · have hii : (i : Int) < (S.length : Int) := by omega
      have hx := List.getElem?_eq_getElem hin
      have hm := List.getElem_mem hin
      generalize S[i] = x at *
      obtain ⟨a, rfl, hL⟩ := hc i x hx
      by_cases hsz : x.size = 128
      · have hsb : ((x.size : Int) != 128) = false := by simp; omega
        have hN2 : Hid (∀ (j : Nat) s, j < i + 1 → S[j]? = some s → s.size = 128) := fun j s hj hs => by
          rcases (by omega : j < i ∨ j = i) with h | rfl
          · exact (show ∀ (j : Nat) s, j < i → S[j]? = some s → s.size = 128 from hN) j s h hs
          · rw [hx] at hs; cases hs; exact hsz
        have hszi : (x.size : Int) = 128 := by omega
        clear hN hx hsz hc hri hc2 hm
        go_wp2_with (first | ((with_reducible refine at_load ?_); refine wpList_bag_cell hX slS_cell _ rfl rfl rfl rfl (by first | exact .head _) rfl ?_) | ((with_reducible refine at_load ?_); refine wpList_bag_cell hX slI_cell _ rfl rfl rfl rfl (by first | exact .head _) rfl ?_) | ((with_reducible refine at_load ?_); refine wpList_loadW rfl 9 _ _ _ rfl rfl (hL _ hX.below) ?_))
        exact ⟨⟨i + 1, by omega, by go_num, hN2, hX⟩, by simp only; omega⟩
      · have hsb : ((x.size : Int) != 128) = true := by simp; omega
        have hr : r = false := by cases r; rfl; exact absurd ((hri.1 rfl).2.2.1 x hm) hsz
        subst hr
        clear hN hx hsz hc hri hc2 hm
        go_wp2_with (first | ((with_reducible refine at_load ?_); refine wpList_bag_cell hX slS_cell _ rfl rfl rfl rfl (by first | exact .head _) rfl ?_) | ((with_reducible refine at_load ?_); refine wpList_bag_cell hX slI_cell _ rfl rfl rfl rfl (by first | exact .head _) rfl ?_) | ((with_reducible refine at_load ?_); refine wpList_loadW rfl 9 _ _ _ rfl rfl (hL _ hX.below) ?_))
        go_ret
        exact ⟨rfl, hX.below⟩
    · have hii : ¬ (i : Int) < (S.length : Int) := by omega
      have hall : ∀ s ∈ S, s.size = 128 := fun s hs => by
        obtain ⟨j, hj⟩ := List.mem_iff_getElem?.1 hs
        have hjl : j < S.length := (List.getElem?_eq_some_iff.1 hj).1
        exact (show ∀ (j : Nat) s, j < i → S[j]? = some s → s.size = 128 from hN) j s (by omega) hj
      have hri2 : r = true ↔ okB S.length B = true := ⟨fun h => (hri.1 h).2.2.2, fun h => hri.2 ⟨by omega, by omega, hall, h⟩⟩
      clear hri hall hN hc
      obtain ⟨iv, hiv⟩ : ∃ iv : Int, (i : Int) = iv := ⟨_, rfl⟩
      go_wp2_with (first | ((with_reducible refine at_load ?_); refine wpList_bag_cell hX slS_cell _ rfl rfl rfl rfl (by first | exact .head _) rfl ?_) | ((with_reducible refine at_load ?_); refine wpList_bag_cell hX slI_cell _ rfl rfl rfl rfl (by first | exact .head _) rfl ?_))
      go_loopw [4] (fun iv wr => ∃ i : Nat, i ≤ B.length ∧ iv = .int .i64 i ∧ Hid (∀ j : Nat, j < i → okAt S.length B j = true) ∧ Bag [(w.heap.size, 38, [.slice A S.length c, .slice A2 B.length c2])] w wr) (fun i _ => match i with | .int _ q => B.length - q.toNat | _ => 0)
      case atStart => exact ⟨0, Nat.zero_le _, rfl, fun j hj => absurd hj (Nat.not_lt_zero j), hX⟩
      case round =>
        clear hX
        obtain ⟨k, hk, rfl, hN, hX⟩ := hrel
        by_cases hkn : k < B.length
        · have hki : (k : Int) < (B.length : Int) := by omega
          have hx := List.getElem?_eq_getElem hkn
          have hgx : B.getD k 0 = B[k] := by rw [List.getD_eq_getElem?_getD, hx]; rfl
          generalize B[k] = x at *
          obtain ⟨a, rfl, hL⟩ := hc2 k x hx
          have hko := okAt_iff S.length B k
          rw [hgx] at hko
          have hrf : okAt S.length B k = false → r = false := fun h => by
            cases r
            · rfl
            · have := (okB_iff _ _).1 (hri2.1 rfl) k hkn; rw [h] at this; cases this
          have hN2 : okAt S.length B k = true → Hid (∀ j : Nat, j < k + 1 → okAt S.length B j = true) := fun h j hj => by
            rcases (by omega : j < k ∨ j = k) with h' | rfl
            · exact (show ∀ j : Nat, j < k → okAt S.length B j = true from hN) j h'
            · exact h
          by_cases q0 : x < 0
          · have d0 : decide (x < 0) = true := decide_eq_true q0
            have hr : r = false := hrf (by cases h : okAt S.length B k; rfl; have := hko.1 h; omega)
            subst hr
            clear hrf hN2 hko hN hri2 hc2 hx hgx
            go_wp2_with (first | ((with_reducible refine at_load ?_); refine wpList_bag_cell hX slS_cell _ rfl rfl rfl rfl (by first | exact .head _) rfl ?_) | ((with_reducible refine at_load ?_); refine wpList_bag_cell hX slI_cell _ rfl rfl rfl rfl (by first | exact .head _) rfl ?_))
            refine region_class (fun w' => Bag [(w.heap.size, 38, [.slice A S.length c, .slice (some a) B.length c2])] w w') (by kernel_rfl) (by kernel_rfl) hX.drew ?_
            repeat
              first
                | (refine BigFrame.wpQuiet_skip (by rfl) ?_
                   simp only [Act.put, List.setIfInBounds_toArray, List.set_cons_zero, List.set_cons_succ])
                | (refine BigFrame.wpQuiet_want (by rfl) (fun K hK => ?_)
                   apply Exists.intro
                   refine ⟨fun wq hq => ?_, hK _ ?_⟩
                   · first
                       | (refine quiet_load 36 _ _ _ rfl rfl ((hq.all _ _ _ (.head _)).loadCell rfl slS_cell))
                       | (refine quiet_load 26 _ _ _ rfl rfl ((hq.all _ _ _ (.head _)).loadCell rfl slI_cell))
                       | (refine quiet_load 3 _ _ _ rfl rfl (hL _ hq.below))
                       | (unfold Oper.quietAt
                          go_simp
                          first
                            | with_reducible rfl
                         )
                   clear hK K
                   simp only [Act.put, List.setIfInBounds_toArray, List.set_cons_zero, List.set_cons_succ])
            refine wpQuiet_nil ?_
            intro w4 hX
            go_wp2
            go_ret
            exact ⟨rfl, hX.below⟩
          have d0 : decide (x < 0) = false := decide_eq_false q0
          by_cases q1 : (S.length : Int) ≤ x
          · have d1 : decide ((S.length : Int) ≤ x) = true := decide_eq_true q1
            have hr : r = false := hrf (by cases h : okAt S.length B k; rfl; have := hko.1 h; omega)
            subst hr
            clear hrf hN2 hko hN hri2 hc2 hx hgx
            go_wp2_with (first | ((with_reducible refine at_load ?_); refine wpList_bag_cell hX slS_cell _ rfl rfl rfl rfl (by first | exact .head _) rfl ?_) | ((with_reducible refine at_load ?_); refine wpList_bag_cell hX slI_cell _ rfl rfl rfl rfl (by first | exact .head _) rfl ?_))
            refine region_class (fun w' => Bag [(w.heap.size, 38, [.slice A S.length c, .slice (some a) B.length c2])] w w') (by kernel_rfl) (by kernel_rfl) hX.drew ?_
            repeat
              first
                | (refine BigFrame.wpQuiet_skip (by rfl) ?_
                   simp only [Act.put, List.setIfInBounds_toArray, List.set_cons_zero, List.set_cons_succ])
                | (refine BigFrame.wpQuiet_want (by rfl) (fun K hK => ?_)
                   apply Exists.intro
                   refine ⟨fun wq hq => ?_, hK _ ?_⟩
                   · first
                       | (refine quiet_load 36 _ _ _ rfl rfl ((hq.all _ _ _ (.head _)).loadCell rfl slS_cell))
                       | (refine quiet_load 26 _ _ _ rfl rfl ((hq.all _ _ _ (.head _)).loadCell rfl slI_cell))
                       | (refine quiet_load 3 _ _ _ rfl rfl (hL _ hq.below))
                       | (unfold Oper.quietAt
                          go_simp
                          first
                            | with_reducible rfl
                         )
                   clear hK K
                   simp only [Act.put, List.setIfInBounds_toArray, List.set_cons_zero, List.set_cons_succ])
            refine wpQuiet_nil ?_
            intro w4 hX
            go_wp2
            go_ret
            exact ⟨rfl, hX.below⟩
          have d1 : decide ((S.length : Int) ≤ x) = false := decide_eq_false q1
          by_cases q2 : k = 0
          · subst q2
            have hok := hN2 (hko.2 ⟨by omega, by omega, .inl rfl⟩)
            clear hrf hN2 hko hN hri2 hc2 hx hgx
            go_wp2_with (first | ((with_reducible refine at_load ?_); refine wpList_bag_cell hX slS_cell _ rfl rfl rfl rfl (by first | exact .head _) rfl ?_) | ((with_reducible refine at_load ?_); refine wpList_bag_cell hX slI_cell _ rfl rfl rfl rfl (by first | exact .head _) rfl ?_))
            refine region_class (fun w' => Bag [(w.heap.size, 38, [.slice A S.length c, .slice (some a) B.length c2])] w w') (by kernel_rfl) (by kernel_rfl) hX.drew ?_
            repeat
              first
                | (refine BigFrame.wpQuiet_skip (by rfl) ?_
                   simp only [Act.put, List.setIfInBounds_toArray, List.set_cons_zero, List.set_cons_succ])
                | (refine BigFrame.wpQuiet_want (by rfl) (fun K hK => ?_)
                   apply Exists.intro
                   refine ⟨fun wq hq => ?_, hK _ ?_⟩
                   · first
                       | (refine quiet_load 36 _ _ _ rfl rfl ((hq.all _ _ _ (.head _)).loadCell rfl slS_cell))
                       | (refine quiet_load 26 _ _ _ rfl rfl ((hq.all _ _ _ (.head _)).loadCell rfl slI_cell))
                       | (refine quiet_load 3 _ _ _ rfl rfl (hL _ hq.below))
                       | (unfold Oper.quietAt
                          go_simp
                          first
                            | with_reducible rfl
                         )
                   clear hK K
                   simp only [Act.put, List.setIfInBounds_toArray, List.set_cons_zero, List.set_cons_succ])
            refine wpQuiet_nil ?_
            intro w4 hX
            go_wp2
            exact ⟨⟨1, by omega, rfl, hok, hX⟩, by simp only; omega⟩
          obtain ⟨j, hkj⟩ : ∃ j, k = j + 1 := ⟨k - 1, by omega⟩
          have d2 : decide ((0 : Int) < (k : Int)) = true := decide_eq_true (by omega)
          have d2n : decide (0 < k) = true := decide_eq_true (by omega)
          have hw1 : IntKind.i64.wrap ((k : Int) - 1) = (j : Int) := by rw [wrap_i64]; unfold wrap64; omega
          have hy := List.getElem?_eq_getElem (show j < B.length by omega)
          have hkj1 : k - 1 = j := by omega
          have hgy : B.getD (k - 1) 0 = B[j] := by rw [hkj1, List.getD_eq_getElem?_getD, hy]; rfl
          rw [hgy] at hko
          generalize B[j] = y at *
          obtain ⟨a', ha', hL2⟩ := hc2 j y hy
          cases ha'
          have hji : (j : Int) < (B.length : Int) := by omega
          by_cases q3 : x ≤ y
          · have d3 : decide (x ≤ y) = true := decide_eq_true q3
            have hr : r = false := hrf (by cases h : okAt S.length B k; rfl; have := hko.1 h; omega)
            subst hr
            clear hrf hN2 hko hN hri2 hc2 hx hgx hy hgy hkj hkj1
            go_wp2_with (first | ((with_reducible refine at_load ?_); refine wpList_bag_cell hX slS_cell _ rfl rfl rfl rfl (by first | exact .head _) rfl ?_) | ((with_reducible refine at_load ?_); refine wpList_bag_cell hX slI_cell _ rfl rfl rfl rfl (by first | exact .head _) rfl ?_))
            refine region_class (fun w' => Bag [(w.heap.size, 38, [.slice A S.length c, .slice (some a) B.length c2])] w w') (by kernel_rfl) (by kernel_rfl) hX.drew ?_
            repeat
              first
                | (refine BigFrame.wpQuiet_skip (by rfl) ?_
                   simp only [Act.put, List.setIfInBounds_toArray, List.set_cons_zero, List.set_cons_succ])
                | (refine BigFrame.wpQuiet_want (by rfl) (fun K hK => ?_)
                   apply Exists.intro
                   refine ⟨fun wq hq => ?_, hK _ ?_⟩
                   · first
                       | (refine quiet_load 36 _ _ _ rfl rfl ((hq.all _ _ _ (.head _)).loadCell rfl slS_cell))
                       | (refine quiet_load 26 _ _ _ rfl rfl ((hq.all _ _ _ (.head _)).loadCell rfl slI_cell))
                       | (refine quiet_load 3 _ _ _ rfl rfl (hL _ hq.below))
                       | (refine quiet_load 3 _ _ _ rfl rfl (hL2 _ hq.below))
                       | (unfold Oper.quietAt
                          go_simp
                          first
                            | with_reducible rfl
                         )
                   clear hK K
                   simp only [Act.put, List.setIfInBounds_toArray, List.set_cons_zero, List.set_cons_succ])
            refine wpQuiet_nil ?_
            intro w4 hX
            go_wp2
            go_ret
            exact ⟨rfl, hX.below⟩
          · have d3 : decide (x ≤ y) = false := decide_eq_false q3
            have hok := hN2 (hko.2 ⟨by omega, by omega, .inr (by omega)⟩)
            clear hrf hN2 hko hN hri2 hc2 hx hgx hy hgy hkj hkj1
            go_wp2_with (first | ((with_reducible refine at_load ?_); refine wpList_bag_cell hX slS_cell _ rfl rfl rfl rfl (by first | exact .head _) rfl ?_) | ((with_reducible refine at_load ?_); refine wpList_bag_cell hX slI_cell _ rfl rfl rfl rfl (by first | exact .head _) rfl ?_))
            refine region_class (fun w' => Bag [(w.heap.size, 38, [.slice A S.length c, .slice (some a) B.length c2])] w w') (by kernel_rfl) (by kernel_rfl) hX.drew ?_
            repeat
              first
                | (refine BigFrame.wpQuiet_skip (by rfl) ?_
                   simp only [Act.put, List.setIfInBounds_toArray, List.set_cons_zero, List.set_cons_succ])
                | (refine BigFrame.wpQuiet_want (by rfl) (fun K hK => ?_)
                   apply Exists.intro
                   refine ⟨fun wq hq => ?_, hK _ ?_⟩
                   · first
                       | (refine quiet_load 36 _ _ _ rfl rfl ((hq.all _ _ _ (.head _)).loadCell rfl slS_cell))
                       | (refine quiet_load 26 _ _ _ rfl rfl ((hq.all _ _ _ (.head _)).loadCell rfl slI_cell))
                       | (refine quiet_load 3 _ _ _ rfl rfl (hL _ hq.below))
                       | (refine quiet_load 3 _ _ _ rfl rfl (hL2 _ hq.below))
                       | (unfold Oper.quietAt
                          go_simp
                          first
                            | with_reducible rfl
                         )
                   clear hK K
                   simp only [Act.put, List.setIfInBounds_toArray, List.set_cons_zero, List.set_cons_succ])
            refine wpQuiet_nil ?_
            intro w4 hX
            go_wp2
            exact ⟨⟨k + 1, by omega, by go_num, hok, hX⟩, by simp only; omega⟩
        · have hki : ¬ (k : Int) < (B.length : Int) := by omega
          have hr : r = true := hri2.2 ((okB_iff _ _).2 fun j hj => (show ∀ j : Nat, j < k → okAt S.length B j = true from hN) j (by omega))
          subst hr
          clear hri2 hN hc2
          go_wp2_with (first | ((with_reducible refine at_load ?_); refine wpList_bag_cell hX slS_cell _ rfl rfl rfl rfl (by first | exact .head _) rfl ?_) | ((with_reducible refine at_load ?_); refine wpList_bag_cell hX slI_cell _ rfl rfl rfl rfl (by first | exact .head _) rfl ?_))
          go_ret
          exact ⟨rfl, hX.below⟩
end Go.Proofs.YthpnddgfgpacpaaGreat
