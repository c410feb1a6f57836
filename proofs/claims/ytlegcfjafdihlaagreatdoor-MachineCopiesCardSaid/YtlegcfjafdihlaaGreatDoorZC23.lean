import Derived.Test.YtlegcfjafdihlaaGreatDoorZC22
import Derived.RangeFuncLeaves
import Derived.RangeFuncNested
import Derived.OrdersIn
import Derived.LoopNIn
/-
  The evaluator of calls at given arguments, and its soundness: part H. It speaks of any program.
-/
namespace Go.Proofs.YtlegcfjafdihlaaGreatDoor.Ev
open Go.RowKit
set_option linter.unusedSimpArgs false
set_option linter.unusedVariables false

/-! ### The order check -/
theorem anc1_fold {ops : Array Oper} {acc : List Nat} {j : Nat} {o : Oper} (ho : ops[j]? = some o) (hacc : ∀ i, i < j → ∀ n, ((acc[j - 1 - i]?).getD 0).testBit n = true → Anc ops n i) :
    ∀ (l : List Edge) (s : Nat), (∀ e ∈ l, e ∈ o.after ∧ (Region.binds .any e = true → e.on < j)) → (∀ n, s.testBit n = true → Anc ops n j) → ∀ n, (l.foldl (ancS acc j) s).testBit n = true → Anc ops n j
  | [], s, _, hs, n, h => hs n h
  | e :: l, s, hl, hs, n, h => by
    simp only [List.foldl_cons] at h
    refine anc1_fold ho hacc l _ (fun e' he' => hl e' (by simp [he'])) (fun m hm => ?_) n h
    obtain ⟨hm1, hm2⟩ := hl e (by simp)
    unfold ancS at hm
    split at hm
    · rename_i hb
      simp only [Nat.testBit_or, Bool.or_eq_true] at hm
      rcases hm with (hm | hm) | hm
      · exact hs m hm
      · exact .edge j o e ho hm1 hb ((testBit_bit _ _).1 hm).symm
      · exact .step j o e ho hm1 hb (hacc e.on (hm2 hb) m hm)
    · exact hs m hm
theorem ancs_spec {ops : Array Oper} (hdr : RegDr ops) : ∀ (l : List Oper) (j : Nat) (acc : List Nat), (∀ k, l[k]? = ops[j + k]?) → acc.length = j → (∀ i, i < j → ∀ n, ((acc[j - 1 - i]?).getD 0).testBit n = true → Anc ops n i) →
    (ancs l j acc).length = j + l.length ∧ ∀ i, i < j + l.length → ∀ n, (((ancs l j acc)[j + l.length - 1 - i]?).getD 0).testBit n = true → Anc ops n i
  | [], j, acc, _, hlen, h => by simpa [ancs, hlen] using h
  | o :: l, j, acc, hl, hlen, h => by
    simp only [ancs, nfrc_eq]
    have ho : ops[j]? = some o := by simpa using (hl 0).symm
    have := ancs_spec hdr l (j + 1) (anc1 acc j o :: acc) (fun k => by have := hl (k + 1); simpa [Nat.add_assoc, Nat.add_comm 1 k] using this) (by simp [hlen]) (fun i hi n hn => by
      by_cases e : i = j
      · subst e
        rw [show i + 1 - 1 - i = 0 by omega, List.getElem?_cons_zero, Option.getD_some] at hn
        exact anc1_fold ho h o.after.toList 0 (fun e he => ⟨by simpa using he, hdr.edges i o ho e (by simpa using he)⟩) (fun n hn => by simp at hn) n hn
      · have e2 : j + 1 - 1 - i = (j - 1 - i) + 1 := by omega
        rw [e2, List.getElem?_cons_succ] at hn
        exact h i (by omega) n hn)
    simp only [List.length_cons]
    rw [show j + (l.length + 1) = j + 1 + l.length by omega]
    exact this
theorem touch_mem : ∀ (ms : List Nat) (l : List (Nat × Nat)) (k : Nat), ms.length = k → l.length = k → ∀ i S W, i < k → l[k - 1 - i]? = some (S, W) → S ||| W ≠ 0 → (i, (ms[k - 1 - i]?).getD 0, S ||| W, W) ∈ touch ms l k
  | m :: ms, (S0, W0) :: l, k + 1, h1, h2, i, S, W, hi, hl, hU => by
    simp only [touch]
    simp only [List.length_cons] at h1 h2
    by_cases e : i = k
    · subst e
      simp at hl
      obtain ⟨rfl, rfl⟩ := hl
      have : Nat.beq (S0 ||| W0) 0 = false := by
        cases hq : Nat.beq (S0 ||| W0) 0 with
        | false => rfl
        | true => exact absurd (Nat.eq_of_beq_eq_true hq) hU
      simp [this]
    · have e2 : k + 1 - 1 - i = (k - 1 - i) + 1 := by omega
      rw [e2, List.getElem?_cons_succ] at hl ⊢
      have := touch_mem ms l k (by omega) (by omega) i S W (by omega) hl hU
      split
      · exact this
      · exact List.mem_cons_of_mem _ this
  | [], l, k + 1, h1, _, _, _, _, _, _, _ => by simp at h1
  | _ :: _, [], k + 1, _, h2, _, _, _, _, _, _ => by simp at h2
  | _, _, 0, _, _, i, _, _, hi, _, _ => by omega
theorem touch_lt : ∀ (ms : List Nat) (l : List (Nat × Nat)) (k : Nat), ∀ x ∈ touch ms l k, x.1 < k
  | m :: ms, (S0, W0) :: l, k + 1, x, hx => by
    simp only [touch] at hx
    split at hx
    · have := touch_lt ms l k x hx; omega
    · rcases List.mem_cons.1 hx with rfl | hx
      · simp
      · have := touch_lt ms l k x hx; omega
  | [], l, k, x, hx => by cases k <;> simp [touch] at hx
  | _ :: _, [], k, x, hx => by cases k <;> simp [touch] at hx
  | _ :: _, _ :: _, 0, x, hx => by simp [touch] at hx
theorem apartB_spec : ∀ (ms : List Nat) (l : List (Nat × Nat)) (k : Nat), apartB (touch ms l k) = true → ∀ x ∈ touch ms l k, ∀ y ∈ touch ms l k, x.1 < y.1 → ((y.2.2.2 &&& x.2.2.1) ||| (x.2.2.2 &&& y.2.2.1) = 0) ∨ y.2.1.testBit x.1 = true
  | m :: ms, (S0, W0) :: l, k + 1, h, x, hx, y, hy, hxy => by
    simp only [touch] at h hx hy
    split at h
    · rename_i hz
      simp only [hz] at hx hy
      exact apartB_spec ms l k h x hx y hy hxy
    · rename_i hz
      simp only [hz] at hx hy
      simp only [apartB, Bool.and_eq_true, List.all_eq_true] at h
      rcases List.mem_cons.1 hy with rfl | hy'
      · rcases List.mem_cons.1 hx with rfl | hx'
        · simp at hxy
        · have := h.1 x hx'
          obtain ⟨i, m', U', W'⟩ := x
          simp only [Bool.or_eq_true] at this
          rcases this with h1 | h1
          · exact .inl (Nat.eq_of_beq_eq_true h1)
          · exact .inr h1
      · rcases List.mem_cons.1 hx with rfl | hx'
        · have := touch_lt ms l k y hy'
          simp at hxy; omega
        · exact apartB_spec ms l k h.2 x hx' y hy' hxy
  | [], l, k, _, x, hx, _, _, _ => by cases k <;> simp [touch] at hx
  | _ :: _, [], k, _, x, hx, _, _, _ => by cases k <;> simp [touch] at hx
  | _ :: _, _ :: _, 0, _, x, hx, _, _, _ => by simp [touch] at hx
theorem or_eq_zero {a b : Nat} (h : a ||| b = 0) : a = 0 ∧ b = 0 := by
  constructor <;> apply Nat.eq_of_testBit_eq <;> intro n <;> have := congrArg (·.testBit n) h <;> simp [Nat.testBit_or] at this <;> simp [this]
theorem orderOk_spec {ops : Array Oper} (hdr : RegDr ops) {Sx Wx : Nat → Nat} {W : Nat} {log : List (Nat × Nat)} (hlen : log.length = ops.size) (hlog : ∀ i, i < ops.size → log[ops.size - 1 - i]? = some (Sx i, Wx i))
    (hW : ∀ i, i < ops.size → ∀ n, (Wx i).testBit n = true → W.testBit n = true) (h : orderOk ops W log = true) : ∀ i j, i < j → j < ops.size →
      (∀ n, ¬ ((Wx i).testBit n = true ∧ ((Sx j).testBit n = true ∨ (Wx j).testBit n = true)) ∧ ¬ ((Wx j).testBit n = true ∧ (Sx i).testBit n = true)) ∨ Anc ops i j := by
  intro i j hij hj
  simp only [orderOk, Bool.or_eq_true] at h
  rcases h with h | h
  · left
    have h0 : W = 0 := Nat.eq_of_beq_eq_true h
    intro n
    constructor <;> rintro ⟨h1, _⟩
    · have := hW i (by omega) n h1; rw [h0] at this; simp at this
    · have := hW j hj n h1; rw [h0] at this; simp at this
  · obtain ⟨a1, a2⟩ := ancs_spec hdr ops.toList 0 [] (by simp) rfl (fun i hi => by omega)
    simp only [Nat.zero_add, Array.length_toList] at a1 a2
    by_cases hi0 : Sx i ||| Wx i = 0
    · left; intro n
      obtain ⟨h1, h2⟩ := or_eq_zero hi0
      simp [h1, h2]
    · by_cases hj0 : Sx j ||| Wx j = 0
      · left; intro n
        obtain ⟨h1, h2⟩ := or_eq_zero hj0
        simp [h1, h2]
      · have m1 := touch_mem (ancs ops.toList 0 []) log ops.size a1 hlen i _ _ (by omega) (hlog i (by omega)) hi0
        have m2 := touch_mem (ancs ops.toList 0 []) log ops.size a1 hlen j _ _ hj (hlog j hj) hj0
        rcases apartB_spec _ _ _ h _ m1 _ m2 hij with h1 | h1
        · left
          obtain ⟨h2, h3⟩ := or_eq_zero h1
          intro n
          have b1 := congrArg (·.testBit n) h2
          have b2 := congrArg (·.testBit n) h3
          simp [Nat.testBit_and, Nat.testBit_or] at b1 b2
          constructor
          · rintro ⟨k1, k2⟩
            have := b2 k1
            rcases k2 with k2 | k2
            · rw [this.1] at k2; cases k2
            · rw [this.2] at k2; cases k2
          · rintro ⟨k1, k2⟩
            have := b1 k1
            rw [this.1] at k2; cases k2
        · exact .inr (a2 j hj i h1)

/-! ### The region -/
section
variable {d : Nat} {P : Program} {G : Env} {ops : Array Oper} {sz : Nat} {f : Nat → Sn} {ev : Nat → Value} {Sx Wx : Nat → Nat} {St Wt : Nat} {ρ0 : Env} {h0 : AH} {w0 : World} {df : List Deferred} {Q : Exit → Act → World → Prop}
def cnt (n : Nat) (listed : Array Bool) : Nat := (List.range n).countP fun i => !listed.getD i true
theorem region_any (hst : RegSt G d ops sz) (hdr : RegDr ops) (hops : ∀ i o, ops[i]? = some o → StepAt P G d ops (f i) o (ev i) (Sx i) (Wx i) (f (i + 1)))
    (hg : Good G ρ0 h0 w0) (hS : ∀ n, St.testBit n = true → h0 n = hp (f 0).H n) (hSx : ∀ i, i < ops.size → ∀ n, (Sx i).testBit n = true → St.testBit n = true) (hWt : ∀ n, Wt.testBit n = true ↔ ∃ i, i < ops.size ∧ (Wx i).testBit n = true)
    (hfr : ∀ n, (f 0).nx ≤ n → n < (f ops.size).nx → ρ0 n = none)
    (hdyn : ∀ i j, i < j → j < ops.size → (∀ n, ¬ ((Wx i).testBit n = true ∧ ((Sx j).testBit n = true ∨ (Wx j).testBit n = true)) ∧ ¬ ((Wx j).testBit n = true ∧ (Sx i).testBit n = true)) ∨ Anc ops i j)
    (hQ : ∀ ρ a w, Ev1 G ρ0 h0 w0 (f 0).nx (f ops.size).nx Wt (hp (f ops.size).H) ρ w → RT d ρ sz (f ops.size).T a → a.defers = df → Q .normal a w) :
    ∀ (fuel : Nat) (listed : Array Bool) (a : Act) (w : World) (ρ : Env) (g : AH) (Tc : Nat → Value), listed.size = ops.size → cnt ops.size listed = fuel → Inv d G ops sz f Wx Wt ρ0 h0 w0 df (fun i => listed.getD i false = true) a w ρ g Tc →
      wpAny P .any ops Q fuel listed a w := by
  have hlt : ∀ i, i < ops.size → ∃ oi, ops[i]? = some oi := fun i hi => ⟨ops[i], Array.getElem?_eq_getElem hi⟩
  -- at the end
  have fin : ∀ (listed : Array Bool) (a : Act) (w : World) (ρ : Env) (g : AH) (Tc : Nat → Value), Inv d G ops sz f Wx Wt ρ0 h0 w0 df (fun i => listed.getD i false = true) a w ρ g Tc → (∀ i, i < ops.size → listed.getD i false = true) → Q .normal a w := by
    intro listed a w ρ g Tc hI hall
    refine hQ ρ a w (hI.ev.as fun n hn => ?_) ⟨hI.size, fun x hx => ?_⟩ hI.defers
    · refine hI.heap.final (F := fun i => hp (f i).H) (fun i hi n hn' => ?_) hall n (fun hno => ?_)
      · obtain ⟨oi, hoi⟩ := hlt i hi
        exact (hops i oi hoi).2.1.keep n (by simpa using hn')
      · obtain ⟨i, hi, hw⟩ := (hWt n).1 hn
        exact absurd hw (hno i hi)
    · have := hI.tmps.final (F := fun i x => if x < sz then tget d (f i).T x else undef) (fun i hi x hx => ?_) hall x (fun _ => rfl)
      · simp only [if_pos hx] at this
        rw [← this]; exact hI.rel x hx
      · obtain ⟨oi, hoi⟩ := hlt i hi
        by_cases hxs : x < sz
        · rw [if_pos hxs, if_pos hxs, (hops i oi hoi).1]
          cases hd : oi.dst with
          | none => rfl
          | some d =>
            have hds := hst.dst i oi hoi d hd
            have hsz := hst.size
            rw [tget_put (Nat.lt_of_lt_of_le hds hsz) (Nat.lt_of_lt_of_le hxs hsz), if_neg]
            rintro rfl
            exact hx ⟨oi, hoi, hd⟩
        · rw [if_neg hxs, if_neg hxs]
  have allready : ∀ (listed : Array Bool), listed.size = ops.size → Region.ready .any ops listed = [] → ∀ i, i < ops.size → listed.getD i false = true := by
    intro listed hsz hr i
    induction i using Nat.strongRecOn with
    | _ i ih =>
      intro hi
      cases hq : listed.getD i false with
      | true => rfl
      | false =>
        obtain ⟨o, ho⟩ := hlt i hi
        have : i ∈ Region.ready .any ops listed := by
          rw [mem_ready]
          refine ⟨by simpa [hsz, hi] using hq, o, ho, fun e he hb => ?_⟩
          have := hdr.edges i o ho e he hb
          exact ih e.on this (by omega)
        rw [hr] at this; cases this
  intro fuel
  induction fuel with
  | zero =>
    intro listed a w ρ g Tc hsz hc hI
    have hall : ∀ i, i < ops.size → listed.getD i false = true := by
      intro i hi
      have := (List.countP_eq_zero.1 hc) i (by simpa using hi)
      simpa [hsz, hi] using this
    refine ⟨?_, fin listed a w ρ g Tc hI hall⟩
    cases hr : Region.ready .any ops listed with
    | nil => rfl
    | cons i l =>
      have hm : i ∈ Region.ready .any ops listed := by rw [hr]; simp
      obtain ⟨h1, o, ho, _⟩ := mem_ready.1 hm
      have hi := (Array.getElem?_eq_some_iff.1 ho).1
      have := hall i hi
      simp [hsz, hi] at h1 this
      rw [h1] at this; cases this
  | succ fuel ih =>
    intro listed a w ρ g Tc hsz hc hI
    refine ⟨fun hr => fin listed a w ρ g Tc hI (allready listed hsz hr), fun j hj => ?_⟩
    obtain ⟨h1, o, ho, hall⟩ := mem_ready.1 hj
    have hjs := (Array.getElem?_eq_some_iff.1 ho).1
    have hjf : listed.getD j false = false := by simpa [hsz, hjs] using h1
    refine inv_step hst hdr hops hg hS hSx (fun i hi n hn => (hWt n).2 ⟨i, hi, hn⟩) hfr hdyn hI ho (by simp [hjf]) (fun e he hb => hall e he hb) (D' := fun i => (listed.setIfInBounds j true).getD i false = true) (fun i => ?_) (fun a' w' ρ' g' Tc' hI' => ?_)
    · by_cases e : i = j
      · subst e; simp [hsz, hjs]
      · have := getD_set_ne (listed := listed) (i := j) (j := i) false (Ne.symm e)
        simp only [this, e, or_false]
    · refine ih _ a' w' ρ' g' Tc' (by simp [hsz]) ?_ hI'
      have := countP_set (fun i => !listed.getD i true) (fun i => !(listed.setIfInBounds j true).getD i true) j (fun i hi => by
        have := getD_set_ne (listed := listed) (i := j) (j := i) true (Ne.symm hi)
        simp only [this]) (by simp [h1]) (by simp [hsz, hjs]) ops.size
      rw [if_pos hjs] at this
      unfold cnt at hc ⊢
      omega
theorem region_drawn (hst : RegSt G d ops sz) (hdr : RegDr ops) (hops : ∀ i o, ops[i]? = some o → StepAt P G d ops (f i) o (ev i) (Sx i) (Wx i) (f (i + 1)))
    (hg : Good G ρ0 h0 w0) (hS : ∀ n, St.testBit n = true → h0 n = hp (f 0).H n) (hSx : ∀ i, i < ops.size → ∀ n, (Sx i).testBit n = true → St.testBit n = true) (hWt : ∀ n, Wt.testBit n = true ↔ ∃ i, i < ops.size ∧ (Wx i).testBit n = true)
    (hfr : ∀ n, (f 0).nx ≤ n → n < (f ops.size).nx → ρ0 n = none)
    (hdyn : ∀ i j, i < j → j < ops.size → (∀ n, ¬ ((Wx i).testBit n = true ∧ ((Sx j).testBit n = true ∨ (Wx j).testBit n = true)) ∧ ¬ ((Wx j).testBit n = true ∧ (Sx i).testBit n = true)) ∨ Anc ops i j) {a0 : Act} (hr : RT d ρ0 sz (f 0).T a0)
    (hQ : ∀ ρ a w, Ev1 G ρ0 h0 w0 (f 0).nx (f ops.size).nx Wt (hp (f ops.size).H) ρ w → RT d ρ sz (f ops.size).T a → a.defers = a0.defers → Q .normal a w) : wpAny P .any ops Q ops.size (Array.replicate ops.size false) a0 { w0 with drawn := w0.drawn + 1 } := by
  have hlt : ∀ i, i < ops.size → ∃ oi, ops[i]? = some oi := fun i hi => ⟨ops[i], Array.getElem?_eq_getElem hi⟩
  have hmono : ∀ i, i < ops.size → (f i).nx ≤ (f (i + 1)).nx := fun i hi => by obtain ⟨oi, hoi⟩ := hlt i hi; exact (hops i oi hoi).2.1.le
  have hf : ∀ i, (Array.replicate ops.size false).getD i false = false := by
    intro i
    by_cases h : i < ops.size <;> simp [h]
  refine region_any (df := a0.defers) hst hdr hops hg hS hSx hWt hfr hdyn hQ ops.size _ a0 _ ρ0 h0 (fun x => if x < sz then tget d (f 0).T x else undef) (by simp) ?_ ⟨fun i o ho hD => ?_, ?_, fun _ _ => rfl, fun n l hl => .inl hl, ⟨fun _ _ => rfl, fun i hi hD => ?_⟩, ⟨fun _ _ => rfl, fun i hi hD => ?_⟩, hr.1, fun x hx => ?_, rfl⟩
  · unfold cnt
    rw [List.countP_eq_length.2 (fun i hi => by
      have : i < ops.size := by simpa using hi
      simp [this])]
    simp
  · rw [hf i] at hD; cases hD
  · have := (Ev1.draw hg (f 0).nx (w0.drawn + 1) h0).wide (Nat.le_refl _) (nx_mono hmono 0 ops.size (by omega) (Nat.le_refl _))
    exact this.more (fun n hn => by simp at hn) (fun n _ _ => rfl)
  · rw [hf i] at hD; cases hD
  · rw [hf i] at hD; cases hD
  · simp only [if_pos hx]; exact hr.2 x hx
end
end Go.Proofs.YtlegcfjafdihlaaGreatDoor.Ev

/-
  The evaluator of calls at given arguments, and its soundness: part Ra. It speaks of any program.
-/
namespace Go.Proofs.YtlegcfjafdihlaaGreatDoor.Ev
open Go.RowKit
set_option linter.unusedSimpArgs false
set_option linter.unusedVariables false

/-! ### From a frame of its own into a round -/
def Fr : Option Nat → Fence
  | none => Fence.wide
  | some l => Fence.wide.inRound l
theorem Fr.fn (r : Option Nat) (f : FuncId) : (Fr r).fn f := by cases r <;> trivial
theorem Fr.depth (r : Option Nat) : (Fr r).depth = none := by cases r <;> rfl
theorem Fr.round (r : Option Nat) : (Fr r).round = r := by cases r <;> rfl
theorem callsFr {r : Option Nat} {n : Nat} {P : Program} {f : FuncId} {args : Array Value} {w : World} {R : Ending → World → Prop} (h : Calls P f args w R) : CallsIn (Fr r) n P f args w R := by
  cases r with
  | none => exact callsIn_wide.2 h
  | some l => exact CallsIn.inRound l (callsIn_wide.2 h)
theorem rowsFr {r : Option Nat} {n : Nat} {P : Program} {row : String} {args : Array Value} {w : World} {R : Value → World → Prop} (h : Rows P row args w R) : RowsIn (Fr r) n P row args w R := by
  intro c cs _
  obtain ⟨v, w', h1, h2⟩ := h c cs
  exact ⟨v, w', h1, by cases r <;> exact stepsIn_wide.2 h2⟩
def noDefer (ops : Array Oper) : Prop := ∀ (i : Nat) (o : Oper), ops[i]? = some o → ∀ c, o.op ≠ .defer c
section
variable {P : Program} {r : Option Nat} {n : Nat} {Q : Exit → Act → World → Prop}
theorem oper_fr {o : Oper} {a : Act} {w : World} {K K' : Act → World → Prop} (hd : ∀ c, o.op ≠ .defer c) (hl : ¬ LetsOut Q) (h : o.wp P a w K Q) (hk : ∀ a w, K a w → K' a w) : o.wpIn (Fr r) n P a w K' Q := by
  refine ⟨fun f _ => Fr.fn r f, ?_⟩
  rw [Oper.semAt_eq _ _ _ hd]
  unfold Oper.wp at h
  revert h
  cases (execOp a.eval o).run P w with
  | ok v w' =>
    intro h
    cases v with
    | value v => exact hk _ _ h
    | skip => exact hk _ _ h
    | defer d => exact hk _ _ h
    | enter f args =>
      refine ⟨fun e => (by rw [Fr.depth] at e; cases e), (callsFr h).mono fun e w hq => ?_⟩
      cases e with
      | returned v => exact hk _ _ hq
      | panicked c => exact hq
      | outgrown => exact hq
    | row row args => exact ⟨fun e => (by rw [Fr.depth] at e; cases e), (rowsFr h).mono fun v w hq => hk _ _ hq⟩
    | _ => exact h.elim
  | halt x w' => intro h; cases x <;> exact h
theorem op_fr {ops : Array Oper} {i : Nat} {a : Act} {w : World} {K K' : Act → World → Prop} (hd : noDefer ops) (hl : ¬ LetsOut Q) (h : wpOp P ops Q i K a w) (hk : ∀ a w, K a w → K' a w) : wpOpIn (Fr r) n P ops Q i K' a w := by
  unfold wpOp at h
  unfold wpOpIn
  cases ho : ops[i]? with
  | none => rw [ho] at h; exact hk _ _ h
  | some o =>
    rw [ho] at h
    dsimp only at h ⊢
    split at h
    · rename_i hw
      rw [if_pos hw]
      rcases h with h | h
      · exact oper_fr (hd i o ho) hl h hk
      · exact absurd h.2 hl
    · rename_i hw
      rw [if_neg hw]
      exact ⟨fun f _ => Fr.fn r f, hk _ _ h⟩
theorem ops_fr {ops : Array Oper} (hd : noDefer ops) (hl : ¬ LetsOut Q) : ∀ (l : List Nat) (a : Act) (w : World), wpOps P ops Q l a w → wpOpsIn (Fr r) n P ops Q l a w
  | [], a, w, h => h
  | i :: l, a, w, h => by
    rw [wpOpsIn_cons]
    rw [wpOps_cons] at h
    exact op_fr hd hl h (ops_fr hd hl l)
theorem any_fr {ops : Array Oper} (hd : noDefer ops) (hl : ¬ LetsOut Q) (md : Region.Mode) : ∀ (fuel : Nat) (listed : Array Bool) (a : Act) (w : World), wpAny P md ops Q fuel listed a w → wpAnyIn (Fr r) n P md ops Q fuel listed a w
  | 0, listed, a, w, h => h
  | fuel + 1, listed, a, w, h => ⟨h.1, fun i hi => op_fr hd hl (h.2 i hi) fun a w => any_fr hd hl md fuel _ a w⟩
/-- What a region's end may say. -/
def atEnd (Q : Exit → Act → World → Prop) : Exit → Act → World → Prop := fun e a w => e = .normal ∧ Q .normal a w
theorem room_fr (r : Option Nat) (k : Nat) : (Fr r).room k := by cases r <;> exact room_wide k
theorem wpIn_n {c : Code} {a : Act} {w : World} {n' : Nat} (h : c.wpIn (Fr r) n P Q a w) : c.wpIn (Fr r) n' P Q a w :=
  fun b k cs h1 h2 _ => h b k cs h1 h2 (room_fr r _)
theorem atEnd_in (Q : Exit → Act → World → Prop) : ¬ LetsOut (atEnd Q) := fun ⟨_, _, h⟩ => by cases h.1
theorem atEnd_out {c : Code} {a : Act} {w : World} (h : c.wpIn (Fr r) n P (atEnd Q) a w) : c.wpIn (Fr r) n P Q a w :=
  wpIn_mono h fun e a w q => by obtain ⟨rfl, q⟩ := q; exact q
end
end Go.Proofs.YtlegcfjafdihlaaGreatDoor.Ev

/-
  The evaluator of calls at given arguments, and its soundness: part I. It speaks of any program.
-/
namespace Go.Proofs.YtlegcfjafdihlaaGreatDoor.Ev
open Go.RowKit
set_option linter.unusedSimpArgs false
set_option linter.unusedVariables false

theorem RT.put {dd : Nat} {ρ ρ' : Env} {sz : Nat} {T : Tri Value} {a : Act} (h : RT dd ρ sz T a) (hs : Sub ρ ρ') (hsz : sz ≤ 2 ^ dd) {d : Option Nat} (hd : ∀ x, d = some x → x < sz) {v u : Value} (hr : R ρ' v u) : RT dd ρ' sz (Ev.put dd T d v) (a.put d u) := by
  cases d with
  | none => exact ⟨h.1, fun x hx => (h.2 x hx).mono hs⟩
  | some d =>
    have hds := hd d rfl
    refine ⟨by simp [Act.put, h.1], fun x hx => ?_⟩
    rw [tget_put (Nat.lt_of_lt_of_le hds hsz) (Nat.lt_of_lt_of_le hx hsz)]
    have hlt : d < a.tmps.size := by rw [h.1]; exact hds
    by_cases e : x = d
    · subst e; simp [Act.put, hlt, hr]
    · rw [if_neg e]
      have := (h.2 x hx).mono hs
      simpa [Act.put, Array.getElem?_setIfInBounds_ne (Ne.symm e)] using this
theorem put_defers (a : Act) (d : Option Nat) (u : Value) : (a.put d u).defers = a.defers := by cases d <;> rfl

section
variable {d : Nat} {P : Program} {G : Env} {ops : Array Oper} {sz : Nat} {f : Nat → Sn} {ev : Nat → Value} {Sx Wx : Nat → Nat}
theorem opnds_rel (hst : RegSt G d ops sz) {ρ : Env} {T : Tri Value} {a : Act} (hb : Sub G ρ) (hr : RT d ρ sz T a) {j : Nat} {o : Oper} (ho : ops[j]? = some o) : ∀ x ∈ o.op.operands, R ρ (opnd d T x) (a.eval x) := by
  intro x hx
  cases x with
  | tmp t => exact hr.2 t (hst.looks j o ho t (List.mem_append_left _ (List.mem_filterMap.2 ⟨.tmp t, by simpa using hx, rfl⟩)))
  | const v => exact .flat v (hst.glb j o ho _ hx)
  | global k =>
    obtain ⟨l, h1, h2, h3⟩ := hst.glb j o ho _ hx
    have := R.ptr k 0 l (hb k l h1)
    rw [h2, h3] at this
    exact this
  | func k => exact .flat _ rfl
theorem wanted_rel (hst : RegSt G d ops sz) {ρ : Env} {T : Tri Value} {a : Act} (hr : RT d ρ sz T a) {j : Nat} {o : Oper} (ho : ops[j]? = some o) : Region.wanted o (yielded ops a.tmps) = Region.wanted o (yieldedT d ops T) := by
  refine wanted_eq (ops := ops) fun gd wv hgd => ?_
  refine yielded_eq (ρ := ρ) fun t ht => ?_
  have hts := hst.looks j o ho t (by simp [Oper.looksAt, hgd, ht])
  exact ⟨by rw [hr.1]; exact hts, hr.2 t hts⟩
theorem region_seq (hst : RegSt G d ops sz) (hops : ∀ i o, ops[i]? = some o → StepAt P G d ops (f i) o (ev i) (Sx i) (Wx i) (f (i + 1))) {Q : Exit → Act → World → Prop} :
    ∀ (len k : Nat) (a : Act) (w : World) (ρ : Env) (h : AH), k + len = ops.size → Good G ρ h w → (∀ i, k ≤ i → i < ops.size → ∀ m, (Sx i).testBit m = true → h m = hp (f k).H m) → (∀ m, (f k).nx ≤ m → m < (f ops.size).nx → ρ m = none) → RT d ρ sz (f k).T a →
      (∀ ρ' a' w' W', (∀ m, W'.testBit m = true ↔ ∃ i, k ≤ i ∧ i < ops.size ∧ (Wx i).testBit m = true) → Ev1 G ρ h w (f k).nx (f ops.size).nx W' (hp (f ops.size).H) ρ' w' → RT d ρ' sz (f ops.size).T a' → a'.defers = a.defers → Q .normal a' w') →
      wpOps P ops Q (List.range' k len) a w
  | 0, k, a, w, ρ, h, hk, hg, _, _, hr, hQ => by
    have e : k = ops.size := by omega
    subst e
    refine hQ ρ a w 0 (fun m => ⟨fun h => by simp at h, fun ⟨i, h1, h2, _⟩ => by omega⟩) (Ev1.refl hg _ _) hr rfl
  | len + 1, k, a, w, ρ, h, hk, hg, hS, hfr, hr, hQ => by
    have hks : k < ops.size := by omega
    have hlt : ∀ i, i < ops.size → ∃ oi, ops[i]? = some oi := fun i hi => ⟨ops[i], Array.getElem?_eq_getElem hi⟩
    have hmono : ∀ i, i < ops.size → (f i).nx ≤ (f (i + 1)).nx := fun i hi => by obtain ⟨oi, hoi⟩ := hlt i hi; exact (hops i oi hoi).2.1.le
    obtain ⟨o, ho⟩ := hlt k hks
    obtain ⟨hT, hstp, hstep⟩ := hops k o ho
    have hm1 := nx_mono hmono k (k + 1) (by omega) (by omega)
    have hm2 := nx_mono hmono (k + 1) ops.size (by omega) (Nat.le_refl _)
    rw [List.range'_succ, wpOps_cons]
    unfold wpOp
    simp only [ho]
    rw [wanted_rel hst hr ho]
    have rest : ∀ (v : Value) (ρ1 : Env) (u : Value) (w1 : World), Ev1 G ρ h w (f k).nx (f (k + 1)).nx (Wx k) (hp (f (k + 1)).H) ρ1 w1 → R ρ1 (ev k) u → wpOps P ops Q (List.range' (k + 1) len) (a.put o.dst u) w1 := by
      intro v ρ1 u w1 he hru
      have hput : RT d ρ1 sz (f (k + 1)).T (a.put o.dst u) := by rw [hT]; exact hr.put he.sub hst.size (fun x hx => hst.dst k o ho x hx) hru
      refine region_seq hst hops len (k + 1) _ w1 ρ1 (upd h (Wx k) (hp (f (k + 1)).H)) (by omega) he.good (fun i hi hin m hm => ?_) (fun m h1 h2 => ?_) hput (fun ρ' a' w' W' hW he2 hr2 hd => ?_)
      · unfold upd
        split
        · rfl
        · rename_i hw
          rw [hS i (by omega) hin m hm, hstp.keep m (by simpa using hw)]
      · cases hq : ρ1 m with
        | none => rfl
        | some l =>
          rcases he.dom m l hq with h3 | h3
          · have := hfr m (by omega) h2
            rw [this] at h3; cases h3
          · omega
      · refine hQ ρ' a' w' (Wx k ||| W') (fun m => ?_) (Ev1.trans he he2 hm1 hm2 (fun m hm => ?_) hg) hr2 (by rw [hd, put_defers])
        · rw [Nat.testBit_or, Bool.or_eq_true, hW]
          constructor
          · rintro (h1 | ⟨i, h1, h2, h3⟩)
            · exact ⟨k, Nat.le_refl _, hks, h1⟩
            · exact ⟨i, by omega, h2, h3⟩
          · rintro ⟨i, h1, h2, h3⟩
            by_cases e : i = k
            · subst e; exact .inl h3
            · exact .inr ⟨i, by omega, h2, h3⟩
        · exact seq_same (F := fun i => hp (f i).H) (Wr := fun i n => (Wx i).testBit n = true) (n := ops.size) (fun i hi n hn => by
            obtain ⟨oi, hoi⟩ := hlt i hi
            exact (hops i oi hoi).2.1.keep n (by simpa using hn)) m (k + 1) ops.size (by omega) (Nat.le_refl _) (fun i h1 h2 h3 => by
              have := (hW m).2 ⟨i, h1, h2, h3⟩
              rw [hm] at this; cases this)
    rcases hstep with ⟨hw1, hok⟩ | ⟨hw1, hv, hH, hnx, hW0⟩
    · rw [hw1, if_pos rfl]
      left
      exact hok ρ h w a hg (fun n hn => hS k (Nat.le_refl _) hks n hn) (fun n h1 h2 => hfr n h1 (by omega)) (opnds_rel hst hg.base hr ho) _ Q fun ρ1 u w1 he hru => rest (ev k) ρ1 u w1 he hru
    · rw [hw1]
      simp only [Bool.false_eq_true, if_false]
      refine rest (ev k) ρ undef w ?_ (by rw [hv]; exact R_undef)
      rw [hnx, hW0]
      exact Ev1.refl hg _ _

/-! ### What the evaluator says of a region's operations -/
theorem evOps_trace {call : FuncId → List Value → Hp → Nat → Rs} (hop : ∀ T H nx (o : Oper) v H' nx' S W, nx % 2 = 0 → (∃ i : Nat, ops[i]? = some o) → evOp P call d T H nx o = .ok v H' nx' S W → Stp H nx H' nx' W ∧ OpOk P G d T H nx o v H' nx' S W) :
    ∀ (l : List Oper) (k : Nat) (T : Tri Value) (H : Hp) (nx S W : Nat) (log : List (Nat × Nat)) (T' : Tri Value) (H' : Hp) (nx' S' W' : Nat) (log' : List (Nat × Nat)), nx % 2 = 0 → (∀ j, l[j]? = ops[k + j]?) →
      evOps P call d ops l T H nx S W log = .ok T' H' nx' S' W' log' → ∃ (f : Nat → Sn) (ev : Nat → Value) (Sx Wx : Nat → Nat), f k = ⟨T, H, nx⟩ ∧ f (k + l.length) = ⟨T', H', nx'⟩ ∧
        (∀ j o, l[j]? = some o → StepAt P G d ops (f (k + j)) o (ev (k + j)) (Sx (k + j)) (Wx (k + j)) (f (k + j + 1))) ∧ (∀ n, S'.testBit n = true ↔ S.testBit n = true ∨ ∃ j, j < l.length ∧ (Sx (k + j)).testBit n = true) ∧
        (∀ n, W'.testBit n = true ↔ W.testBit n = true ∨ ∃ j, j < l.length ∧ (Wx (k + j)).testBit n = true) ∧ log'.length = l.length + log.length ∧ (∀ j, j < l.length → log'[l.length - 1 - j]? = some (Sx (k + j), Wx (k + j))) ∧ (∀ j, log'[l.length + j]? = log[j]?)
  | [], k, T, H, nx, S, W, log, T', H', nx', S', W', log', hpar, hl, h => by
    simp only [evOps, Os.ok.injEq] at h
    obtain ⟨rfl, rfl, rfl, rfl, rfl, rfl⟩ := h
    exact ⟨fun _ => ⟨T, H, nx⟩, fun _ => undef, fun _ => 0, fun _ => 0, rfl, rfl, fun j o h => by simp at h, fun n => by simp, fun n => by simp, by simp, fun j hj => by simp at hj, fun j => by simp⟩
  | o :: l, k, T, H, nx, S, W, log, T', H', nx', S', W', log', hpar, hl, h => by
    have ho : ops[k]? = some o := by simpa using (hl 0).symm
    have hl' : ∀ j, l[j]? = ops[k + 1 + j]? := fun j => by have := hl (j + 1); simpa [Nat.add_assoc, Nat.add_comm 1 j] using this
    have key : ∀ (T1 : Tri Value) (H1 : Hp) (nx1 S1 W1 : Nat) (v : Value), nx1 % 2 = 0 → StepAt P G d ops ⟨T, H, nx⟩ o v S1 W1 ⟨T1, H1, nx1⟩ →
        evOps P call d ops l T1 H1 nx1 (S ||| S1) (W ||| W1) ((S1, W1) :: log) = .ok T' H' nx' S' W' log' → ∃ (f : Nat → Sn) (ev : Nat → Value) (Sx Wx : Nat → Nat), f k = ⟨T, H, nx⟩ ∧ f (k + (l.length + 1)) = ⟨T', H', nx'⟩ ∧
        (∀ j o', (o :: l)[j]? = some o' → StepAt P G d ops (f (k + j)) o' (ev (k + j)) (Sx (k + j)) (Wx (k + j)) (f (k + j + 1))) ∧ (∀ n, S'.testBit n = true ↔ S.testBit n = true ∨ ∃ j, j < l.length + 1 ∧ (Sx (k + j)).testBit n = true) ∧
        (∀ n, W'.testBit n = true ↔ W.testBit n = true ∨ ∃ j, j < l.length + 1 ∧ (Wx (k + j)).testBit n = true) ∧ log'.length = l.length + 1 + log.length ∧ (∀ j, j < l.length + 1 → log'[l.length + 1 - 1 - j]? = some (Sx (k + j), Wx (k + j))) ∧ (∀ j, log'[l.length + 1 + j]? = log[j]?) := by
      intro T1 H1 nx1 S1 W1 v hpar1 hst h1
      obtain ⟨f, ev, Sx, Wx, g1, g2, g3, g4, g5, g6, g7, g8⟩ := evOps_trace hop l (k + 1) T1 H1 nx1 _ _ _ _ _ _ _ _ _ hpar1 hl' h1
      have ne : ∀ j, k + 1 + j ≠ k := fun j => by omega
      refine ⟨fun i => if i = k then ⟨T, H, nx⟩ else f i, fun i => if i = k then v else ev i, fun i => if i = k then S1 else Sx i, fun i => if i = k then W1 else Wx i, by simp, ?_, ?_, ?_, ?_, ?_, ?_, ?_⟩
      · rw [show k + (l.length + 1) = k + 1 + l.length by omega]
        simp only [if_neg (ne _), g2]
      · intro j o' hj
        cases j with
        | zero =>
          simp at hj; subst hj
          simp only [Nat.add_zero, if_true]
          rw [if_neg (by omega), g1]
          exact hst
        | succ j =>
          simp at hj
          rw [show k + (j + 1) = k + 1 + j by omega]
          simp only [if_neg (ne _)]
          rw [if_neg (by omega)]
          exact g3 j o' hj
      · intro n
        rw [g4, Nat.testBit_or, Bool.or_eq_true]
        constructor
        · rintro ((h2 | h2) | ⟨j, h2, h3⟩)
          · exact .inl h2
          · exact .inr ⟨0, by omega, by simpa using h2⟩
          · refine .inr ⟨j + 1, by omega, ?_⟩
            rw [show k + (j + 1) = k + 1 + j by omega]; dsimp only; rw [if_neg (ne _)]; exact h3
        · rintro (h2 | ⟨j, h2, h3⟩)
          · exact .inl (.inl h2)
          · cases j with
            | zero => exact .inl (.inr (by simpa using h3))
            | succ j =>
              rw [show k + (j + 1) = k + 1 + j by omega] at h3; dsimp only at h3; rw [if_neg (ne _)] at h3
              exact .inr ⟨j, by omega, h3⟩
      · intro n
        rw [g5, Nat.testBit_or, Bool.or_eq_true]
        constructor
        · rintro ((h2 | h2) | ⟨j, h2, h3⟩)
          · exact .inl h2
          · exact .inr ⟨0, by omega, by simpa using h2⟩
          · refine .inr ⟨j + 1, by omega, ?_⟩
            rw [show k + (j + 1) = k + 1 + j by omega]; dsimp only; rw [if_neg (ne _)]; exact h3
        · rintro (h2 | ⟨j, h2, h3⟩)
          · exact .inl (.inl h2)
          · cases j with
            | zero => exact .inl (.inr (by simpa using h3))
            | succ j =>
              rw [show k + (j + 1) = k + 1 + j by omega] at h3; dsimp only at h3; rw [if_neg (ne _)] at h3
              exact .inr ⟨j, by omega, h3⟩
      · rw [g6]; simp; omega
      · intro j hj
        cases j with
        | zero =>
          have := g8 0
          simpa using this
        | succ j =>
          have := g7 j (by omega)
          rw [show l.length + 1 - 1 - (j + 1) = l.length - 1 - j by omega, this, show k + (j + 1) = k + 1 + j by omega]
          simp only [if_neg (ne _)]
      · intro j
        have := g8 (j + 1)
        rw [show l.length + 1 + j = l.length + (j + 1) by omega, this]
        simp
    have h : evOps1 P call d ops o (evOps P call d ops l) T H nx S W log = .ok T' H' nx' S' W' log' := h
    unfold evOps1 at h
    split at h
    · rename_i hw
      rw [Tri.frc_eq] at h
      have := key (put d T o.dst undef) H nx 0 0 undef hpar ⟨rfl, Stp.refl _ _, .inr ⟨hw, rfl, rfl, rfl, rfl⟩⟩ (by simpa using h)
      simpa using this
    · rename_i hw
      split at h
      · cases h
      · rename_i v H1 nx1 S1 W1 hev
        unfold evOpsV at h
        simp only [vfrc_eq, Tri.frc_eq, nfrc_eq] at h
        obtain ⟨hs, hok⟩ := hop T H nx o v H1 nx1 S1 W1 hpar ⟨k, ho⟩ hev
        have := key (put d T o.dst v) H1 nx1 S1 W1 v (hs.par hpar) ⟨rfl, hs, .inl ⟨hw, hok⟩⟩ h
        simpa using this
def Ex.toExit : Ex → Exit
  | .nrm => .normal
  | .exit id => .exit id
  | .ret => .ret
/-- The marks that loops over functions have left among the deferred calls. -/
inductive Marks (B : Nat) (w : World) : Nat → List Deferred → Prop
  | nil (C : Nat) (h : C ≤ w.heap.size) : Marks B w C []
  | cons (D C : Nat) (ms : List Deferred) (hB : B ≤ D) (hC : D < C) (hc : C ≤ w.heap.size) (h : w.heap[D]? = some (.deferred (some []))) (t : Marks B w D ms) : Marks B w C ({ target := .collected D, args := #[] } :: ms)
def CodeOk (P : Program) (G : Env) (r : Option Nat) (d sz : Nat) (c : Code) (T : Tri Value) (H : Hp) (nx : Nat) (x : Ex) (T' : Tri Value) (H' : Hp) (nx' S W : Nat) : Prop :=
  ∀ (ρ : Env) (h : AH) (w : World) (a : Act), Good G ρ h w → (∀ n, S.testBit n = true → h n = hp H n) → (∀ n, nx ≤ n → n < nx' → ρ n = none) → RT d ρ sz T a → ∀ (n : Nat) (Q : Exit → Act → World → Prop),
    (∀ ρ' a' w', Ev1 G ρ h w nx nx' W (hp H') ρ' w' → RT d ρ' sz T' a' → (∃ ms, a'.defers = ms ++ a.defers ∧ Marks w.heap.size w' w'.heap.size ms) → Q x.toExit a' w') → c.wpIn (Fr r) n P Q a w
theorem region_ok {r : Option Nat} (hm : P.follows .mixedOrders = true) (hst : RegSt G d ops sz) (hnd : noDefer ops) {id : Nat} {draw : Bool} (hdr : draw = true → RegDr ops) {call : FuncId → List Value → Hp → Nat → Rs}
    (hop : ∀ T H nx (o : Oper) v H' nx' S W, nx % 2 = 0 → (∃ i : Nat, ops[i]? = some o) → evOp P call d T H nx o = .ok v H' nx' S W → Stp H nx H' nx' W ∧ OpOk P G d T H nx o v H' nx' S W)
    {T T' : Tri Value} {H H' : Hp} {nx nx' S W : Nat} {log : List (Nat × Nat)} (hpar : nx % 2 = 0) (h : evOps P call d ops ops.toList T H nx 0 0 [] = .ok T' H' nx' S W log) (ho : (!draw || orderOk ops W log) = true) :
    Stp H nx H' nx' W ∧ CodeOk P G r d sz (.region id ops draw) T H nx .nrm T' H' nx' S W := by
  obtain ⟨f, ev, Sx, Wx, g1, g2, g3, g4, g5, g6, g7, g8⟩ := evOps_trace hop ops.toList 0 T H nx 0 0 [] T' H' nx' S W log hpar (by simp) h
  simp only [Nat.zero_add, Array.length_toList, List.length_nil, Nat.add_zero, Nat.zero_testBit, Bool.false_eq_true, false_or, Array.getElem?_toList] at g2 g3 g4 g5 g6 g7
  have hlt : ∀ i, i < ops.size → ∃ oi, ops[i]? = some oi := fun i hi => ⟨ops[i], Array.getElem?_eq_getElem hi⟩
  have hmono : ∀ i, i < ops.size → (f i).nx ≤ (f (i + 1)).nx := fun i hi => by obtain ⟨oi, hoi⟩ := hlt i hi; exact (g3 i oi hoi).2.1.le
  have hpars : ∀ i, i ≤ ops.size → (f i).nx % 2 = 0 := by
    intro i
    induction i with
    | zero => intro _; rw [g1]; exact hpar
    | succ i ih => intro hi; obtain ⟨oi, hoi⟩ := hlt i (by omega); exact (g3 i oi hoi).2.1.par (ih (by omega))
  have hkeep : ∀ n, W.testBit n = false → hp H' n = hp H n := by
    intro n hn
    have := seq_same (F := fun i => hp (f i).H) (Wr := fun i n => (Wx i).testBit n = true) (n := ops.size) (fun i hi n hn => by
      obtain ⟨oi, hoi⟩ := hlt i hi
      exact (g3 i oi hoi).2.1.keep n (by simpa using hn)) n 0 ops.size (by omega) (Nat.le_refl _) (fun i h1 h2 h3 => by
        have := (g5 n).2 ⟨i, h2, h3⟩
        rw [hn] at this; cases this)
    simp only [g1, g2] at this
    exact this
  refine ⟨⟨by have := nx_mono hmono 0 ops.size (by omega) (Nat.le_refl _); rwa [g1, g2] at this, hkeep, fun _ => by have := hpars ops.size (Nat.le_refl _); rwa [g2] at this⟩, ?_⟩
  intro ρ h0 w a hg hS hfr hr n Q hQ
  refine atEnd_out ?_
  have hTr : RT d ρ sz (f 0).T a := by rw [g1]; exact hr
  cases draw with
  | false =>
    refine wpIn_region (ops_fr hnd (atEnd_in Q) _ _ _ ?_)
    rw [List.range_eq_range']
    refine region_seq hst g3 ops.size 0 a w ρ h0 (by omega) hg (fun i _ hi m hm' => ?_) (fun m h1 h2 => ?_) hTr (fun ρ' a' w' W' hW he hr' hd => ?_)
    · rw [g1]; exact hS m ((g4 m).2 ⟨i, hi, hm'⟩)
    · rw [g1] at h1; rw [g2] at h2; exact hfr m h1 h2
    · have e : W' = W := by
        apply Nat.eq_of_testBit_eq
        intro m
        rw [Bool.eq_iff_iff, hW, g5]
        constructor
        · rintro ⟨i, _, h2, h3⟩; exact ⟨i, h2, h3⟩
        · rintro ⟨i, h2, h3⟩; exact ⟨i, by omega, h2, h3⟩
      subst e
      rw [g1, g2] at he
      rw [g2] at hr'
      exact ⟨rfl, hQ ρ' a' w' he hr' ⟨[], by simpa using hd, .nil _ (Nat.le_refl _)⟩⟩
  | true =>
    have ho' : orderOk ops W log = true := by simpa using ho
    refine wpIn_region_any hm (any_fr hnd (atEnd_in Q) _ _ _ _ _ ?_)
    refine region_drawn (St := S) (Wt := W) hst (hdr rfl) g3 hg (fun n hn => by rw [g1]; exact hS n hn) (fun i hi n hn => (g4 n).2 ⟨i, hi, hn⟩) g5 (fun n h1 h2 => by rw [g1] at h1; rw [g2] at h2; exact hfr n h1 h2)
      (orderOk_spec (hdr rfl) (by simpa using g6) g7 (fun i hi n hn => (g5 n).2 ⟨i, hi, hn⟩) ho') hTr (fun ρ' a' w' he hr' hd => ?_)
    rw [g1, g2] at he
    rw [g2] at hr'
    exact ⟨rfl, hQ ρ' a' w' he hr' ⟨[], by simpa using hd, .nil _ (Nat.le_refl _)⟩⟩
end
end Go.Proofs.YtlegcfjafdihlaaGreatDoor.Ev

/-
  The evaluator of calls at given arguments, and its soundness: part Rb. It speaks of any program.
-/
namespace Go.Proofs.YtlegcfjafdihlaaGreatDoor.Ev
open Go.RowKit
set_option linter.unusedSimpArgs false
set_option linter.unusedVariables false

/-! ### What holds no cells -/
section
variable {G ρ ρ' : Env} {h h' : AH} {w w' : World} {nx nx' W : Nat}
theorem BlkR.cells {l : Loc} {b : AB} (h : BlkR ρ w l b) : ∃ c e fz, w.heap[l.blk]? = some (.cells c e fz) := by
  cases b with
  | row cs e es => obtain ⟨_, ds, c, fz, _, h2, _⟩ := h; exact ⟨c, e, fz, h2⟩
  | ro cs =>
    obtain ⟨_, hne, ds, h1, h2⟩ := h
    cases h1 with
    | nil => exact absurd rfl hne
    | cons v u l m hv ht =>
      have := h2 0 u rfl
      unfold World.cell? at this
      split at this
      · rename_i c e fz hc; exact ⟨c, e, fz, hc⟩
      · cases this
theorem Good.cells (g : Good G ρ h w) {n : Nat} {l : Loc} (hh : h n ≠ none) (hl : ρ n = some l) : ∃ c e fz, w.heap[l.blk]? = some (.cells c e fz) := by
  obtain ⟨b, hb⟩ := Option.ne_none_iff_exists'.1 hh
  obtain ⟨l', hl', hbl⟩ := g.sat n b hb
  rw [hl] at hl'; cases hl'
  exact hbl.cells
theorem Ev1.others (e : Ev1 G ρ h w nx nx' W h' ρ' w') (g : Good G ρ h w) {k : Nat} {o : Obj} (hk : w.heap[k]? = some o) (ho : o.isCells = false) : w'.heap[k]? = some o := by
  refine (e.frame k (Array.getElem?_eq_some_iff.1 hk).1 fun n l _ hh hl e => ?_).trans hk
  obtain ⟨c, t, fz, hc⟩ := g.cells hh hl
  rw [e, hk] at hc; cases hc; cases ho
theorem Good.grown (g : Good G ρ h w) {row : Option Nat} (hg : w.grownBy w' row) (hr : ∀ r, row = some r → ∃ o : Obj, w.heap[r]? = some o ∧ o.isCells = false) : Good G ρ h w' :=
  ⟨g.base, (fun n b hb => by
    obtain ⟨l, hl, hbl⟩ := g.sat n b hb
    refine ⟨l, hl, hbl.mono (fun _ _ h => h) (hg.block l.blk hbl.lt fun er => ?_)⟩
    obtain ⟨o, ho, hc⟩ := hr _ er.symm
    obtain ⟨c, e, fz, h2⟩ := hbl.cells
    rw [h2] at ho; cases ho; cases hc), g.sep, g.even⟩
theorem Ev1.grown (e : Ev1 G ρ h w nx nx' W h' ρ' w') {w2 : World} {row : Option Nat} (hg : w'.grownBy w2 row) (hr : ∀ r, row = some r → w.heap.size ≤ r ∧ ∃ o : Obj, w'.heap[r]? = some o ∧ o.isCells = false) : Ev1 G ρ h w nx nx' W h' ρ' w2 :=
  ⟨e.sub, e.dom, e.good.grown hg fun r h => (hr r h).2, hg.os.trans e.os, hg.tape.trans e.tape, hg.output.trans e.output, Nat.le_trans e.size hg.size,
    fun b hb hne => (hg.block b (Nat.lt_of_lt_of_le hb e.size) fun er => by have := (hr b er.symm).1; omega).trans (e.frame b hb hne), e.nb⟩
theorem Ev1.keeps (e : Ev1 G ρ h w nx nx' W h' ρ' w') (g : Good G ρ h w) (B : Nat) : KeepsFrom B w w' := ⟨e.size, fun k o _ hk ho => e.others g hk ho⟩
end

/-! ### Marks -/
theorem Marks.weak {B C C' : Nat} {w : World} {ms : List Deferred} (h : Marks B w C ms) (h1 : C ≤ C') (h2 : C' ≤ w.heap.size) : Marks B w C' ms := by
  cases h with
  | nil C hc => exact .nil _ h2
  | cons D C ms hB hC hc hd t => exact .cons D C' ms hB (by omega) h2 hd t
theorem Marks.keep {B C : Nat} {w w' : World} {ms : List Deferred} (h : Marks B w C ms) (hsz : w.heap.size ≤ w'.heap.size) (hk : ∀ D, B ≤ D → D < C → w.heap[D]? = some (.deferred (some [])) → w'.heap[D]? = some (.deferred (some []))) : Marks B w' C ms := by
  induction h with
  | nil C hc => exact .nil _ (by omega)
  | cons D C ms hB hC hc hd t ih => exact .cons D C ms hB hC (by omega) (hk D hB hC hd) (ih fun D' h1 h2 => hk D' h1 (by omega))
theorem Marks.append {A B C : Nat} {w : World} {ms ns : List Deferred} (h : Marks B w C ms) (hn : Marks A w B ns) (hA : A ≤ B) (hBC : B ≤ C) : Marks A w C (ms ++ ns) := by
  induction h with
  | nil C hc => exact hn.weak hBC hc
  | cons D C ms hB hC hc hd t ih => exact .cons D C _ (by omega) hC hc hd (ih hB)

/-! ### A loop over a function -/
def ItAt (P : Program) (gf : FuncId) (lb : Array Value) (encs : Nat → Array Value) (N : Nat) (Kp : World → World → Prop) (w : World) : Prop :=
  ∀ (l : Nat) (J : Nat → World → Prop) (Jx : World → Prop) (W : World), Below w.heap.size w W →
    (∀ k W1, k < N → J k W1 → YieldAt Fence.wide 3 P l (encs k) W1 fun e W' => (e = .returned (.bool true) ∧ J (k + 1) W' ∧ Kp W1 W') ∨ (e = .returned (.bool false) ∧ Jx W')) →
    J 0 W → CallsIn Fence.wide 4 P gf (#[.func (.yield l) #[] #[]] ++ lb) W fun e W' => (∃ v, e = .returned v) ∧ (J N W' ∨ Jx W')
theorem range_at {P : Program} {g : Operand} {ps : Array Tmp} {assign body : Code} {Q : Exit → Act → World → Prop} {a : Act} {w : World} {gf : FuncId} {lb : Array Value} {encs : Nat → Array Value} {N : Nat} {Kp : World → World → Prop}
    (hg : a.eval g = .func (.func gf) #[] lb) (eg : ∀ args w, (callFunc gf args).run P w = .ok (.enter gf args) w) (hit : ItAt P gf lb encs N Kp w)
    (hKt : ∀ A B C, Kp A B → Kp B C → Kp A C) (hKb : ∀ W l o, w.heap.size ≤ l → Kp W (W.putObj l o))
    (I : Nat → World → Prop) (M : Nat → Act → World → Prop) (Ix : Code → World → Prop) (hI : OwnFrom w.heap.size I) (hM : ∀ k a', OwnFrom w.heap.size fun (_ : Unit) W => M k a' W) (hX : OwnFrom w.heap.size Ix) (h0 : I 0 w) (hps : ∀ k W, k < N → I k W → (encs k).size = ps.size)
    (hA : ∀ l k W, k < N → I k W → assign.wpIn (Fr (some l)) 3 P (fun e a' W' => e = .normal ∧ KeepsFrom w.heap.size W W' ∧ Kp W W' ∧ M k a' W') { tmps := (ps.zip (encs k)).foldl (fun t (p, v) => t.setIfInBounds p v) a.tmps, defers := [] } W)
    (hB : ∀ l k a' W, k < N → M k a' W → body.wpIn (Fr (some l)) 3 P (fun e _ W' => KeepsFrom w.heap.size W W' ∧ (e = .normal ∧ Kp W W' ∧ I (k + 1) W' ∨ e = .ret ∧ Ix .ret W' ∨ ∃ id, e = .exit id ∧ Ix (.exit id) W')) a' W)
    (hD : ∀ D W, w.heap.size ≤ D → I N W → W.heap[D]? = some (.deferred (some [])) → Q .normal { a with defers := { target := .collected D, args := #[] } :: a.defers } W)
    (hS : ∀ D c W, w.heap.size ≤ D → Ix c W → W.heap[D]? = some (.deferred (some [])) → c.wpIn Fence.wide 5 P Q { a with defers := { target := .collected D, args := #[] } :: a.defers } W) :
    (Code.rangeFunc g ps assign body).wpIn Fence.wide 5 P Q a w := by
  refine wpIn_rangeFunc fun fn hfn => ?_
  obtain ⟨rc, hrc⟩ : ∃ rc : LoopState → Option Code → Loop, rc = fun st pe => { state := st, pending := pe, fn, tmps := a.tmps, params := ps, assign, body, defers := w.heap.size } := ⟨_, rfl⟩
  have hps' : ∀ st pe, (rc st pe).params = ps := fun st pe => by rw [hrc]
  have hst : ∀ st pe, (rc st pe).state = st := fun st pe => by rw [hrc]
  have hrt : ∀ st pe, (rc st pe).tmps = a.tmps ∧ (rc st pe).assign = assign ∧ (rc st pe).body = body ∧ (rc st pe).fn = fn := fun st pe => by rw [hrc]; exact ⟨rfl, rfl, rfl, rfl⟩
  obtain ⟨W1, hW1⟩ : ∃ W1, (w.alloc (.deferred (some []))).alloc (.loop (rc .ready none)) = W1 := ⟨_, rfl⟩
  have hz1 : W1.heap.size = w.heap.size + 2 := by rw [← hW1]; simp
  have hL1 : W1.heap[w.heap.size + 1]? = some (.loop (rc .ready none)) := by
    rw [← hW1]; have := World.alloc_heap_new (w.alloc (.deferred (some []))) (.loop (rc .ready none)); rwa [World.size_alloc] at this
  have hD1 : W1.heap[w.heap.size]? = some (.deferred (some [])) := by
    rw [← hW1]; exact (Below.heap_alloc _ _ _ (by simp)).trans (World.alloc_heap_new w _)
  have hI1 : I 0 W1 := by rw [← hW1]; exact hI.alloc _ (hI.alloc _ h0)
  have hb1 : Below w.heap.size w W1 := by rw [← hW1]; exact ((Below.refl _ w).alloc (Nat.le_refl _) _).alloc (by simp) _
  refine ⟨w.heap.size + 1, [{ target := .collected w.heap.size, args := #[] }], W1, { target := .fn (.func gf) lb, args := #[.func (.yield (w.heap.size + 1)) #[] #[]] }, W1, gf, #[.func (.yield (w.heap.size + 1)) #[] #[]] ++ lb, W1, ?_, ?_, fun _ _ => trivial, ?_, fun _ => by decide, ?_⟩
  · rw [← hW1, hrc]; exact run_enterLoop_outer _ _ _ _ _
  · simp only [resolve, hg]; simp [go_sem]
  · simp [invoke, go_sem, eg]
  have hlo : ∀ (st : LoopState) (pe : Option Code) (W : World), W.heap[w.heap.size + 1]? = some (.loop (rc st pe)) → w.heap.size + 1 < W.heap.size := fun st pe W h => (Array.getElem?_eq_some_iff.1 h).1
  have hput : ∀ {W : World} (o : Obj), W.heap[w.heap.size]? = some (.deferred (some [])) → (W.putObj (w.heap.size + 1) o).heap[w.heap.size]? = some (.deferred (some [])) := fun o h => (World.putObj_heap_other (by omega)).trans h
  refine (hit (w.heap.size + 1) (fun k W => I k W ∧ W.heap[w.heap.size + 1]? = some (.loop (rc .ready none)) ∧ W.heap[w.heap.size]? = some (.deferred (some [])))
    (fun W => ∃ c, Ix c W ∧ W.heap[w.heap.size + 1]? = some (.loop (rc .done (some c))) ∧ W.heap[w.heap.size]? = some (.deferred (some []))) W1 hb1 ?_ ⟨hI1, hL1, hD1⟩).mono ?_
  · rintro k W hk ⟨hi, hl, hd⟩
    have hy := run_yield (P := P) (args := encs k) hl (by rw [hps']; exact hps k W hk hi)
    obtain ⟨r1, r2, r3, r4⟩ := hrt .ready none
    rw [r1, r2, r3, r4, hps'] at hy
    refine ⟨_, _, _, _, hy, roundIn_of_wpIn hfn ?_⟩
    refine wpIn_mono (hA (w.heap.size + 1) k W hk hi) ?_
    rintro e a' Wa ⟨rfl, hka, hpa, hm⟩
    have hla := hka.same _ _ (by omega) hl rfl
    have hda := hka.same _ _ (Nat.le_refl _) hd rfl
    have hsa := hlo _ _ _ hla
    refine ⟨_, run_beginRound hla (hst _ _), ?_⟩
    obtain ⟨Wb, hWb⟩ : ∃ Wb, Wa.putObj (w.heap.size + 1) (.loop { rc .ready none with state := .busy }) = Wb := ⟨_, rfl⟩
    have hlb : Wb.heap[w.heap.size + 1]? = some (.loop { rc .ready none with state := .busy }) := by rw [← hWb]; exact World.putObj_heap_same hsa
    have hdb : Wb.heap[w.heap.size]? = some (.deferred (some [])) := by rw [← hWb]; exact hput _ hda
    have hpb : Kp Wa Wb := by rw [← hWb]; exact hKb _ _ _ (by omega)
    have hmb : M k a' Wb := by rw [← hWb]; exact (hM k a').putObj (s := ()) _ hm (by omega) hla rfl
    rw [hWb]
    refine wpIn_mono (hB (w.heap.size + 1) k a' Wb hk hmb) ?_
    rintro e a2 W3 ⟨hk3, hq⟩
    have hl3 := hk3.same _ _ (by omega) hlb rfl
    have hd3 := hk3.same _ _ (Nat.le_refl _) hdb rfl
    have hs3 : w.heap.size + 1 < W3.heap.size := (Array.getElem?_eq_some_iff.1 hl3).1
    have hend : ∀ jump : Option Code, (Instr.endRound (w.heap.size + 1) jump).run P W3 = .ok (.bool jump.isNone) (W3.putObj (w.heap.size + 1) (.loop (rc (if jump.isNone then .ready else .done) jump))) := fun jump => by
      have := run_endRound (P := P) jump hl3
      rw [hrc] at this ⊢
      exact this
    have hl4 : ∀ o, (W3.putObj (w.heap.size + 1) o).heap[w.heap.size + 1]? = some o := fun o => World.putObj_heap_same hs3
    rcases hq with ⟨rfl, hp3, hi3⟩ | ⟨rfl, hx⟩ | ⟨id, rfl, hx⟩
    · exact ⟨_, _, hend none, .inl ⟨rfl, ⟨hI.putObj _ hi3 (by omega) hl3 rfl, hl4 _, hput _ hd3⟩, hKt _ _ _ (hKt _ _ _ hpa hpb) (hKt _ _ _ hp3 (hKb _ _ _ (by omega)))⟩⟩
    · exact ⟨_, _, hend (some .ret), .inr ⟨rfl, .ret, hX.putObj _ hx (by omega) hl3 rfl, hl4 _, hput _ hd3⟩⟩
    · exact ⟨_, _, hend (some (.exit id)), .inr ⟨rfl, .exit id, hX.putObj _ hx (by omega) hl3 rfl, hl4 _, hput _ hd3⟩⟩
  · have hel : ∀ (st : LoopState) (pe : Option Code) (W : World), st ≠ .busy → W.heap[w.heap.size + 1]? = some (.loop (rc st pe)) → (Instr.endLoop (w.heap.size + 1)).run P W = .ok pe (W.putObj (w.heap.size + 1) (.loop (rc .exhausted pe))) := fun st pe W hne hl => by
      have := run_endLoop (P := P) hl (by rw [hst]; exact hne)
      rw [hrc] at this ⊢
      exact this
    rintro e W2 ⟨⟨v, rfl⟩, (⟨hi, hl, hd⟩ | ⟨c, hx, hl, hd⟩)⟩
    · exact ⟨none, _, hel _ _ _ (by decide) hl, hD _ _ (Nat.le_refl _) (hI.putObj _ hi (by omega) hl rfl) (hput _ hd)⟩
    · exact ⟨some c, _, hel _ _ _ (by decide) hl, hS _ c _ (Nat.le_refl _) (hX.putObj _ hx (by omega) hl rfl) (hput _ hd)⟩
end Go.Proofs.YtlegcfjafdihlaaGreatDoor.Ev

/-
  The evaluator of calls at given arguments, and its soundness: part K. It speaks of any program.
-/
namespace Go.Proofs.YtlegcfjafdihlaaGreatDoor.Ev
open Go.RowKit
set_option linter.unusedSimpArgs false
set_option linter.unusedVariables false

def slotOk (G : Env) (sz : Nat) : Operand → Prop
  | .tmp t => t < sz
  | x => glbOk G x
/-- Is there no loop over a function in the code? -/
def noRange : Code → Bool
  | .rangeFunc .. => false
  | .seq a b => noRange a && noRange b
  | .cond _ a b => noRange a && noRange b
  | .block _ b => noRange b
  | .loop b => noRange b
  | _ => true
def codeSt (G : Env) (d sz : Nat) : Code → Prop
  | .region _ ops draw => RegSt G d ops sz ∧ (draw = true → RegDr ops) ∧ (∀ (i : Nat) (o : Oper), ops[i]? = some o → ∀ cs b, o.op ≠ .select cs b) ∧ noDefer ops
  | .seq a b => codeSt G d sz a ∧ codeSt G d sz b
  | .cond c a b => slotOk G sz c ∧ codeSt G d sz a ∧ codeSt G d sz b
  | .block _ b => codeSt G d sz b
  | .loop b => codeSt G d sz b
  | .rangeFunc g ps a b => sz ≤ 2 ^ d ∧ slotOk G sz g ∧ (∀ p ∈ ps.toList, p < sz) ∧ noRange a = true ∧ noRange b = true ∧ codeSt G d sz a ∧ codeSt G d sz b
  | _ => True
def resOk (sz : Nat) : ResultVar → Prop
  | .tmp t => t < sz
  | .cell a _ => a < sz
structure FnOk (P : Program) (G : Env) (f : FuncId) (fn : Func) : Prop where
  here : P.funcs[f]? = some fn
  name : (fn.name == "runtime.NumGoroutine") = false
  code : ∀ b, fn.body = some b → codeSt G (depOf fn.ntmps) fn.ntmps b
  res : ∀ r ∈ fn.results, resOk fn.ntmps r
section
variable {d : Nat} {P : Program} {G : Env} {F : FuncId → Option Func} {It : Aid}
def CallOk (P : Program) (G : Env) (call : FuncId → List Value → Hp → Nat → Rs) : Prop :=
  ∀ f args H nx v H' nx' S W, nx % 2 = 0 → call f args H nx = .ok v H' nx' S W → Stp H nx H' nx' W ∧ (∃ fn, P.funcs[f]? = some fn ∧ (fn.name == "runtime.NumGoroutine") = false ∧ fn.body.isNone = false) ∧
    ∀ (ρ : Env) (h : AH) (w : World) (args' : List Value), Good G ρ h w → (∀ n, S.testBit n = true → h n = hp H n) → (∀ n, nx ≤ n → n < nx' → ρ n = none) → RL ρ args args' →
      Calls P f ⟨args'⟩ w fun e w' => ∃ ρ' u, e = .returned u ∧ R ρ' v u ∧ Ev1 G ρ h w nx nx' W (hp H') ρ' w'

theorem resvar_run {ρ : Env} {sz : Nat} {h : AH} {w : World} {H : Hp} {T : Tri Value} {tmps : Array Value} (g : Good G ρ h w) (hr : ∀ x, x < sz → R ρ (tget d T x) (tmps.getD x undef)) (k : ResultVar → Sem Value) (k1 : ∀ t, k (.tmp t) = pure (tmps.getD t undef)) (k2 : ∀ a t, k (.cell a t) = (asAddr (tmps.getD a undef)).bind fun x => loadVar t x) :
    ∀ (rs : List ResultVar) (l : List Value) (S : Nat), evResults P d H T rs = some (l, S) → (∀ n, S.testBit n = true → h n = hp H n) → (∀ r ∈ rs, resOk sz r) →
      ∃ us, RL ρ l us ∧ (rs.mapM k).run P w = .ok us w
  | [], l, S, h1, _, _ => by
    simp only [evResults, Option.some.injEq, Prod.mk.injEq] at h1
    obtain ⟨rfl, rfl⟩ := h1
    exact ⟨[], .nil, rfl⟩
  | .tmp t :: rs, l, S, h1, hS, hres => by
    simp only [evResults] at h1
    split at h1
    · rename_i l' S' he
      simp only [Option.some.injEq, Prod.mk.injEq] at h1
      obtain ⟨rfl, rfl⟩ := h1
      obtain ⟨us, h2, h3⟩ := resvar_run g hr k k1 k2 rs l' S' he hS fun r hm => hres r (by simp [hm])
      refine ⟨tmps.getD t undef :: us, .cons _ _ _ _ (hr t (hres (.tmp t) (by simp))) h2, ?_⟩
      simp only [List.mapM_cons, Sem.run_bind, Sem.run_pure, Result.andThen_ok, h3, k1]
    · cases h1
  | .cell a t :: rs, l, S, h1, hS, hres => by
    simp only [evResults] at h1
    split at h1
    · rename_i l' S' n off he hp1
      have hsl : ∀ (S2 : Nat), S = S' ||| S2 → ∀ n, S'.testBit n = true → h n = hp H n := fun S2 e n hn => hS n (by rw [e, Nat.testBit_or, hn]; rfl)
      have hra := hr a (hres (.cell a t) (by simp))
      rw [hp1] at hra
      obtain ⟨_, lo, hlo, hu⟩ := hra.ptr_inv
      split at h1
      · rename_i cs e es sz' hat hag hsz
        split at h1
        · rename_i ds hsub
          simp only [Option.some.injEq, Prod.mk.injEq] at h1
          obtain ⟨rfl, rfl⟩ := h1
          obtain ⟨us, h2, h3⟩ := resvar_run g hr k k1 k2 rs l' S' he (hsl _ rfl) fun r hm => hres r (by simp [hm])
          obtain ⟨hh, hbl⟩ := g.at hlo (hS n (by rw [Nat.testBit_or, bit_self]; simp)) hat
          obtain ⟨vs, h4, h5⟩ := hbl.sub (P := P) hsub
          refine ⟨.agg ⟨vs⟩ :: us, .cons _ _ _ _ (.agg _ _ h5) h2, ?_⟩
          have hk : (k (.cell a t)).run P w = .ok (.agg ⟨vs⟩) w := by
            rw [k2, Sem.run_bind']
            simp only [hu, asAddr, loadVar, Sem.run_bind, Sem.run_pure, Result.andThen_ok, prun_sound hag w, prun_sound hsz w, if_true, h4]
          simp only [List.mapM_cons, Sem.run_bind, Sem.run_pure, Result.andThen_ok, h3, hk]
        · cases h1
      · rename_i cs e es _ hat hag
        split at h1
        · rename_i v hget
          simp only [Option.some.injEq, Prod.mk.injEq] at h1
          obtain ⟨rfl, rfl⟩ := h1
          obtain ⟨us, h2, h3⟩ := resvar_run g hr k k1 k2 rs l' S' he (hsl _ rfl) fun r hm => hres r (by simp [hm])
          obtain ⟨hh, hbl⟩ := g.at hlo (hS n (by rw [Nat.testBit_or, bit_self]; simp)) hat
          rw [lget_eq] at hget
          obtain ⟨u, h4, h5⟩ := hbl.cell hget
          refine ⟨u :: us, .cons _ _ _ _ h5 h2, ?_⟩
          have hk : (k (.cell a t)).run P w = .ok u w := by
            rw [k2, Sem.run_bind']
            simp only [hu, asAddr, loadVar, Sem.run_bind, Sem.run_pure, Result.andThen_ok, prun_sound hag w, Bool.false_eq_true, if_false, run_load, h4]
          simp only [List.mapM_cons, Sem.run_bind, Sem.run_pure, Result.andThen_ok, h3, hk]
        · cases h1
      · cases h1
    · cases h1
theorem results_k (tmps : Array Value) : ∃ k : ResultVar → Sem Value, (∀ fn : Func, results fn tmps = (do
      let vs ← fn.results.mapM k
      pure (if h : vs.size = 1 then vs[0] else .tuple vs))) ∧ (∀ t, k (.tmp t) = pure (tmps.getD t undef)) ∧ (∀ a t, k (.cell a t) = (asAddr (tmps.getD a undef)).bind fun x => loadVar t x) :=
  ⟨_, fun fn => rfl, fun _ => rfl, fun _ _ => rfl⟩
theorem one_rel {ρ : Env} {l us : List Value} (h : RL ρ l us) : R ρ (one l) (if h : us.toArray.size = 1 then us.toArray[0] else .tuple us.toArray) := by
  cases h with
  | nil => exact .flat _ rfl
  | cons v u l m hv hl =>
    cases hl with
    | nil => simpa [one] using hv
    | cons v2 u2 l m hv2 hl => simpa [one] using R.tuple _ _ (.cons _ _ _ _ hv (.cons _ _ _ _ hv2 hl))
theorem ofArgs_get : ∀ (l : List Value) (k : Nat) (T : Tri Value) (x : Nat), k + l.length ≤ 2 ^ d → x < 2 ^ d → tget d (ofArgs d l k T) x = if k ≤ x ∧ x < k + l.length then l.getD (x - k) undef else tget d T x
  | [], k, T, x, _, _ => by simp only [ofArgs, List.length_nil, Nat.add_zero]; rw [if_neg (by omega)]
  | v :: l, k, T, x, h1, h2 => by
    simp only [List.length_cons] at h1 ⊢
    simp only [ofArgs, vfrc_eq, Tri.frc_eq]
    rw [ofArgs_get l (k + 1) _ x (by omega) h2]
    have e : T.set d k v = put d T (some k) v := rfl
    rw [e, tget_put (by omega) h2]
    by_cases h3 : k + 1 ≤ x ∧ x < k + 1 + l.length
    · rw [if_pos h3, if_pos (by omega), show x - k = (x - (k + 1)) + 1 by omega]; simp
    · rw [if_neg h3]
      by_cases h4 : x = k
      · subst h4; simp
      · rw [if_neg h4, if_neg (by omega)]
theorem tget_e (x : Nat) : tget d .e x = undef := by simp [tget, Tri.get_e]
theorem start_rel {ρ : Env} {args args' : List Value} {n : Nat} (h : RL ρ args args') (hn : n ≤ 2 ^ d) (hl : args.length ≤ n) : RT d ρ n (ofArgs d args 0 .e) { tmps := (⟨args'⟩ : Array Value) ++ Array.replicate (n - (⟨args'⟩ : Array Value).size) undef, defers := [] } := by
  have hlen := h.length
  refine ⟨by simp; omega, fun x hx => ?_⟩
  rw [ofArgs_get (d := d) args 0 .e x (by omega) (by omega)]
  by_cases h1 : x < args.length
  · rw [if_pos ⟨by omega, by omega⟩]
    obtain ⟨u, hu, hr⟩ := h.at (k := x) (v := args.getD x undef) (by simp [List.getElem?_eq_getElem h1])
    have e : ((⟨args'⟩ : Array Value) ++ Array.replicate (n - (⟨args'⟩ : Array Value).size) undef).getD x undef = u := by
      have hx' : x < args'.length := by omega
      have := (List.getElem?_eq_some_iff.1 hu).2
      simp [Array.getElem?_append, hx', this]
    simp only [Nat.sub_zero] at *
    rw [e]; exact hr
  · rw [if_neg (by omega), tget_e]
    have e : ((⟨args'⟩ : Array Value) ++ Array.replicate (n - (⟨args'⟩ : Array Value).size) undef).getD x undef = undef := by
      simp [Array.getElem?_append]
      split
      · omega
      · simp [Array.getElem?_replicate]; split <;> rfl
    rw [e]; exact R_undef

theorem cond_rel {ρ : Env} {sz : Nat} {T : Tri Value} {a : Act} (hb : Sub G ρ) (hr : RT d ρ sz T a) {c : Operand} (hc : slotOk G sz c) {b : Bool} (h : opnd d T c = .bool b) : a.eval c = .bool b := by
  cases c with
  | tmp t => have := hr.2 t hc; exact (this.bool_inv b).1 h
  | const v => exact h
  | global g => simp [opnd] at h
  | func f => simp [opnd] at h

/-- What is handed over, and what of it lies in memory. -/
def KpS (ρ : Env) (Sx : Nat) (W W' : World) : Prop := ∀ n l, Sx.testBit n = true → ρ n = some l → W'.heap[l.blk]? = W.heap[l.blk]?
structure ItOk (P : Program) (G : Env) (It : Aid) : Prop where
  it : ∀ gf cap H els Sx, It.it gf cap H = some (els, Sx) → (∀ x ∈ els, ∀ v ∈ x, flat v = true) ∧ (∀ n, Sx.testBit n = true → ∃ b, hp H n = some b ∧ b.isRo = false) ∧
    ∀ (ρ : Env) (h : AH) (w : World) (cap' : List Value), Good G ρ h w → (∀ n, Sx.testBit n = true → h n = hp H n) → RL ρ cap cap' → ItAt P gf ⟨cap'⟩ (fun k => ⟨els.getD k []⟩) els.length (KpS ρ Sx) w
  or : CallOk P G It.or
theorem noAid_ok : ItOk P G noAid := ⟨fun _ _ _ _ _ h => (by cases h), fun _ _ _ _ _ _ _ _ _ _ h => (by cases h)⟩
theorem callOr_ok {r c : FuncId → List Value → Hp → Nat → Rs} (hr : CallOk P G r) (hc : CallOk P G c) : CallOk P G (callOr r c) := by
  intro f args H nx v H' nx' S W hp h
  unfold callOr at h
  split at h
  · rename_i v1 H1 nx1 S1 W1 h1
    cases h
    exact hr f args H nx _ _ _ _ _ hp h1
  · exact hc f args H nx v H' nx' S W hp h
def wpL (P : Program) (F : Fence) (n m : Nat) : Code → (Exit → Act → World → Prop) → Act → World → Prop
  | .loop b, Q, a, w => Code.roundsIn F n P b Q m a w
  | c, Q, a, w => c.wpIn F n P Q a w
theorem wpL_wp {Fn : Fence} {n m : Nat} {c : Code} {Q : Exit → Act → World → Prop} {a : Act} {w : World} (h : wpL P Fn n m c Q a w) : c.wpIn Fn n P Q a w := by
  cases c <;> first | exact h | exact wpIn_loop_rounds m h
def CodeOkL (P : Program) (G : Env) (r : Option Nat) (d m sz : Nat) (c : Code) (T : Tri Value) (H : Hp) (nx : Nat) (x : Ex) (T' : Tri Value) (H' : Hp) (nx' S W : Nat) : Prop :=
  ∀ (ρ : Env) (h : AH) (w : World) (a : Act), Good G ρ h w → (∀ n, S.testBit n = true → h n = hp H n) → (∀ n, nx ≤ n → n < nx' → ρ n = none) → RT d ρ sz T a → ∀ (n : Nat) (Q : Exit → Act → World → Prop),
    (∀ ρ' a' w', Ev1 G ρ h w nx nx' W (hp H') ρ' w' → RT d ρ' sz T' a' → (∃ ms, a'.defers = ms ++ a.defers ∧ Marks w.heap.size w' w'.heap.size ms) → Q x.toExit a' w') → wpL P (Fr r) n m c Q a w
section
variable {r : Option Nat}
theorem CodeOkL.wp {m sz : Nat} {c : Code} {T T' : Tri Value} {H H' : Hp} {nx nx' S W : Nat} {x : Ex} (h : CodeOkL P G r d m sz c T H nx x T' H' nx' S W) : CodeOk P G r d sz c T H nx x T' H' nx' S W :=
  fun ρ h0 w a hg hS hfr hr n Q hQ => wpL_wp (h ρ h0 w a hg hS hfr hr n Q hQ)
theorem marks_nil (a : Act) (w : World) : ∃ ms, a.defers = ms ++ a.defers ∧ Marks w.heap.size w w.heap.size ms := ⟨[], rfl, .nil _ (Nat.le_refl _)⟩
theorem CodeOk.quiet {m sz : Nat} {c : Code} {T : Tri Value} {H : Hp} {nx : Nat} {x : Ex} (hc : ∀ (n : Nat) (Q : Exit → Act → World → Prop) (a : Act) (w : World), Q x.toExit a w → wpL P (Fr r) n m c Q a w) : CodeOkL P G r d m sz c T H nx x T H nx 0 0 :=
  fun ρ h w a hg _ _ hr n Q hQ => hc n Q a w (hQ ρ a w (Ev1.refl hg _ _) hr (marks_nil a w))
/-- What a second piece of code asks is there behind the first. -/
theorem next_same {H H1 : Hp} {h : AH} {nx nx1 S W : Nat} (hs1 : Stp H nx H1 nx1 W) (hS : ∀ n, S.testBit n = true → h n = hp H n) : ∀ n, S.testBit n = true → upd h W (hp H1) n = hp H1 n := fun n hn => by
  unfold upd; split
  · rfl
  · rename_i k
    rw [hS n hn, hs1.keep n (by simpa using k)]
theorem next_free {ρ ρ1 : Env} {h h1 : AH} {w w1 : World} {nx nx1 nx2 W : Nat} (he : Ev1 G ρ h w nx nx1 W h1 ρ1 w1) (hle : nx ≤ nx1) (hfr : ∀ n, nx ≤ n → n < nx2 → ρ n = none) : ∀ n, nx1 ≤ n → n < nx2 → ρ1 n = none := fun n k1 k2 => by
  cases hq : ρ1 n with
  | none => rfl
  | some l =>
    rcases he.dom n l hq with h3 | h3
    · have := hfr n (by omega) k2; rw [this] at h3; cases h3
    · omega
theorem Stp.trans {H H1 H2 : Hp} {nx nx1 nx2 W W' : Nat} (hs1 : Stp H nx H1 nx1 W) (hs2 : Stp H1 nx1 H2 nx2 W') : Stp H nx H2 nx2 (W ||| W') :=
  ⟨Nat.le_trans hs1.le hs2.le, fun n hn => by
    rw [Nat.testBit_or, Bool.or_eq_false_iff] at hn
    rw [hs2.keep n hn.2, hs1.keep n hn.1], fun hp => hs2.par (hs1.par hp)⟩
theorem Ev1.next {ρ ρ1 ρ2 : Env} {h : AH} {w w1 w2 : World} {H H1 H2 : Hp} {a b c W1 W2 : Nat} (e1 : Ev1 G ρ h w a b W1 (hp H1) ρ1 w1) (s1 : Stp H a H1 b W1) (e2 : Ev1 G ρ1 (upd h W1 (hp H1)) w1 b c W2 (hp H2) ρ2 w2) (s2 : Stp H1 b H2 c W2) (hg : Good G ρ h w) : Ev1 G ρ h w a c (W1 ||| W2) (hp H2) ρ2 w2 :=
  e1.trans e2 s1.le s2.le (fun n hn => s2.keep n hn) hg
/-- Two pieces of code, one behind the other. -/
theorem CodeOk.then {m m' sz : Nat} {c c2 e : Code} {T T1 T2 : Tri Value} {H H1 H2 : Hp} {nx nx1 nx2 S W S' W' : Nat} {x : Ex} (hs1 : Stp H nx H1 nx1 W) (h1 : CodeOk P G r d sz c T H nx .nrm T1 H1 nx1 S W) (hs2 : Stp H1 nx1 H2 nx2 W') (h2 : CodeOkL P G r d m' sz c2 T1 H1 nx1 x T2 H2 nx2 S' W')
    (hrule : ∀ (n : Nat) (Q : Exit → Act → World → Prop) (a : Act) (w : World), c.wpIn (Fr r) n P (Exit.then (wpL P (Fr r) n m' c2 Q) Q) a w → wpL P (Fr r) n m e Q a w) : Stp H nx H2 nx2 (W ||| W') ∧ CodeOkL P G r d m sz e T H nx x T2 H2 nx2 (S ||| S') (W ||| W') := by
  refine ⟨hs1.trans hs2, ?_⟩
  intro ρ h w a hg hS hfr hr n Q hQ
  refine hrule n Q a w (h1 ρ h w a hg (fun n hn => hS n (by rw [Nat.testBit_or, hn]; rfl)) (fun n k1 k2 => hfr n k1 (Nat.lt_of_lt_of_le k2 hs2.le)) hr n _ fun ρ1 a1 w1 he1 hr1 hd1 => ?_)
  refine h2 ρ1 (upd h W (hp H1)) w1 a1 he1.good (next_same hs1 fun n hn => hS n (by rw [Nat.testBit_or, hn]; simp)) (next_free he1 hs1.le hfr) hr1 n Q fun ρ2 a2 w2 he2 hr2 hd2 => ?_
  refine hQ ρ2 a2 w2 (he1.next hs1 he2 hs2 hg) hr2 ?_
  obtain ⟨ms1, e1, m1⟩ := hd1
  obtain ⟨ms2, e2, m2⟩ := hd2
  exact ⟨ms2 ++ ms1, by rw [e2, e1, List.append_assoc], m2.append (m1.keep he2.size fun D _ _ hD => he2.others he1.good hD rfl) he1.size he2.size⟩
/-- What is behind a piece of code that is left by another way is not run. -/
theorem CodeOk.past {m sz : Nat} {c e : Code} {T T1 : Tri Value} {H H1 : Hp} {nx nx1 S W : Nat} {x y : Ex} (h1 : CodeOk P G r d sz c T H nx x T1 H1 nx1 S W) (hrule : ∀ (n : Nat) (Q : Exit → Act → World → Prop) (a : Act) (w : World), c.wpIn (Fr r) n P (fun e a w => e = x.toExit ∧ Q y.toExit a w) a w → wpL P (Fr r) n m e Q a w) :
    CodeOkL P G r d m sz e T H nx y T1 H1 nx1 S W :=
  fun ρ h w a hg hS hfr hr n Q hQ => hrule n Q a w (h1 ρ h w a hg hS hfr hr n _ fun ρ' a' w' he hr' hd => ⟨rfl, hQ ρ' a' w' he hr' hd⟩)
end
theorem evMore_inv {S W : Nat} {r : Cs} {x : Ex} {T : Tri Value} {H : Hp} {nx S2 W2 : Nat} (h : evMore S W r = .ok x T H nx S2 W2) : ∃ S' W', r = .ok x T H nx S' W' ∧ S2 = S ||| S' ∧ W2 = W ||| W' := by
  unfold evMore at h
  split at h
  · simp only [nfrc_eq, Cs.ok.injEq] at h
    obtain ⟨rfl, rfl, rfl, rfl, rfl, rfl⟩ := h
    exact ⟨_, _, rfl, rfl, rfl⟩
  · cases h
theorem evThen_inv {self : CodeK} {b : Code} {r : Cs} {x : Ex} {T : Tri Value} {H : Hp} {nx S W : Nat} (h : evThen self d b r = .ok x T H nx S W) :
    (∃ T1 H1 nx1 S1 W1 S2 W2, r = .ok .nrm T1 H1 nx1 S1 W1 ∧ self d b T1 H1 nx1 = .ok x T H nx S2 W2 ∧ S = S1 ||| S2 ∧ W = W1 ||| W2) ∨ (r = .ok x T H nx S W ∧ x ≠ .nrm) := by
  unfold evThen at h
  split at h
  · obtain ⟨S2, W2, h1, h2, h3⟩ := evMore_inv h
    exact .inl ⟨_, _, _, _, _, S2, W2, rfl, h1, h2, h3⟩
  · rename_i hne
    exact .inr ⟨h, fun e => hne _ _ _ _ _ (e ▸ h)⟩
theorem leaves_marks {fn : Func} {tmps : Array Value} {R : Ending → World → Prop} (Pw : World → Prop) {B : Nat} (hstep : ∀ W D, Pw W → B ≤ D → W.heap[D]? = some (.deferred (some [])) → Pw (W.putObj D (.deferred none))) (hend : ∀ W, Pw W → LeavesIn Fence.wide 5 P fn tmps R [] .returning W) :
    ∀ (ms : List Deferred) (C : Nat) (W : World), Marks B W C ms → Pw W → LeavesInM Fence.wide 5 P fn tmps R ms .returning W
  | [], _, W, _, hp => hend W hp
  | _ :: ms, _, W, h, hp => by
    cases h with
    | cons D C ms hB hC hc hd t =>
      refine ⟨by simp, .inl ⟨D, _, rfl, run_takeDeferred hd, leaves_marks Pw hstep hend ms D _ (t.keep (by simp) fun D' h1 h2 h3 => ?_) (hstep W D hp hB hd)⟩⟩
      rw [World.putObj_heap_other (by omega)]; exact h3
theorem callWith_step {n : Nat} (hF : ∀ f fn, F f = some fn → FnOk P G f fn) (ih : ∀ (d : Nat) (c : Code) (sz : Nat) (T : Tri Value) (H : Hp) (nx : Nat) (x : Ex) (T' : Tri Value) (H' : Hp) (nx' S W : Nat), codeSt G d sz c → nx % 2 = 0 → evCode P F It n d c T H nx = .ok x T' H' nx' S W → Stp H nx H' nx' W ∧ CodeOkL P G none d n sz c T H nx x T' H' nx' S W) :
    CallOk P G (callWith P F (evCode P F It n)) := by
  intro f args H nx v H' nx' S W hpar h
  unfold callWith at h
  split at h
  · rename_i fn hfn
    split at h
    · rename_i b hb
      split at h
      · rename_i hle
        split at h
        · rename_i x T1 H1 nx1 S1 W1 hrun
          split at h
          · rename_i hx
            split at h
            · rename_i l S2 hres
              simp only [nfrc_eq, Rs.ok.injEq] at h
              obtain ⟨rfl, rfl, rfl, rfl, rfl⟩ := h
              have hfo := hF f fn hfn
              obtain ⟨hstp, hco⟩ := ih (depOf fn.ntmps) b fn.ntmps _ H nx x T1 H1 nx1 S1 W1 (hfo.code b hb) hpar hrun
              have hsz : fn.ntmps ≤ 2 ^ depOf fn.ntmps := Nat.le_of_lt Nat.lt_log2_self
              have hlen : args.length ≤ fn.ntmps := by have := Nat.le_of_ble_eq_true hle; rwa [llen_eq] at this
              have hlor : ∀ n, (Nat.lor S1 S2).testBit n = (S1.testBit n || S2.testBit n) := fun n => Nat.testBit_or S1 S2 n
              refine ⟨hstp, ⟨fn, hfo.here, hfo.name, by rw [hb]; rfl⟩, fun ρ h w args' hg hS hfr hrl => ?_⟩
              refine (callsIn_wide (n := 5)).1 (callsIn_of_wp_marks hfo.here hb trivial ?_ rfl)
              refine hco.wp ρ h w _ hg (fun n hn => hS n (by rw [hlor, hn]; rfl)) hfr (start_rel hrl hsz hlen) 5 _ fun ρ' a' w' he hr hd => ?_
              obtain ⟨ms, hd, hm⟩ := hd
              rw [List.append_nil] at hd
              have hpost : LeavesInM Fence.wide 5 P fn a'.tmps (fun e w' => ∃ ρ' u, e = .returned u ∧ R ρ' (one l) u ∧ Ev1 G ρ h w nx nx1 W1 (hp H1) ρ' w') a'.defers .returning w' := by
                rw [hd]
                refine leaves_marks (fun W => Ev1 G ρ h w nx nx1 W1 (hp H1) ρ' W) (fun W D hW hB hD => hW.grown (grownBy_putObj' W D _) fun r e => (by cases e; exact ⟨hB, _, hD, rfl⟩)) (fun W hW => ?_) ms _ w' hm he
                obtain ⟨k, k0, k1, k2⟩ := results_k a'.tmps
                obtain ⟨us, h2, h3⟩ := resvar_run (P := P) hW.good (fun x hx => hr.2 x hx) k k1 k2 fn.results.toList l S2 hres (next_same hstp fun n hn => hS n (by rw [hlor, hn]; simp)) (fun r hr => hfo.res r (by simpa using hr))
                have hrun' : (results fn a'.tmps).run P W = .ok (if h : us.toArray.size = 1 then us.toArray[0] else .tuple us.toArray) W := by
                  rw [k0, Array.mapM_eq_mapM_toList, Sem.run_bind, Sem.run_map, h3]
                  rfl
                exact ⟨_, hrun', ρ', _, rfl, one_rel h2, hW⟩
              cases x with
              | nrm => exact hpost
              | ret => exact hpost
              | exit id => simp [Ex.ends] at hx
            · cases h
          · cases h
        · cases h
      · cases h
    · cases h
  · cases h
end
end Go.Proofs.YtlegcfjafdihlaaGreatDoor.Ev

/-
  The evaluator of calls at given arguments, and its soundness: part Kb. It speaks of any program.
-/
namespace Go.Proofs.YtlegcfjafdihlaaGreatDoor.Ev
open Go.RowKit
set_option linter.unusedSimpArgs false
set_option linter.unusedVariables false

section
variable {d : Nat} {P : Program} {G : Env} {F : FuncId → Option Func} {It : Aid} {ρ : Env}
theorem func_inv {ρ : Env} {fn : Fn} {a b : List Value} {u : Value} (h : R ρ (.func fn ⟨a⟩ ⟨b⟩) u) : ∃ a' b', u = .func fn ⟨a'⟩ ⟨b'⟩ ∧ RL ρ a a' ∧ RL ρ b b' := by
  cases h with
  | flat _ hf =>
    refine ⟨a, b, rfl, ?_⟩
    have : a = [] ∧ b = [] := by
      cases fn <;> cases a <;> cases b <;> simp [Ev.flat, flat0] at hf ⊢
    obtain ⟨rfl, rfl⟩ := this
    exact ⟨.nil, .nil⟩
  | func _ _ _ a' b' ha hb => exact ⟨a', b', rfl, ha, hb⟩
theorem callFunc_run {k : FuncId} {fn : Func} (hf : P.funcs[k]? = some fn) (hn : (fn.name == "runtime.NumGoroutine") = false) (hb : fn.body.isNone = false) (args : Array Value) (w : World) : (callFunc k args).run P w = .ok (.enter k args) w := by
  unfold callFunc
  rw [Sem.run_bind, run_program, Result.andThen_ok, hf]
  dsimp only
  rw [hn]
  simp only [Bool.false_eq_true, if_false]
  rw [hb]
  rfl

theorem slot_rel {sz : Nat} {T : Tri Value} {a : Act} (hb : Sub G ρ) (hr : RT d ρ sz T a) {c : Operand} (hc : slotOk G sz c) : R ρ (opnd d T c) (a.eval c) := by
  cases c with
  | tmp t => exact hr.2 t hc
  | const v => exact .flat v hc
  | global k =>
    obtain ⟨l, h1, h2, h3⟩ := hc
    have := R.ptr k 0 l (hb k l h1)
    rw [h2, h3] at this
    exact this
  | func k => exact .flat _ rfl
theorem RT.putAll {sz : Nat} (hsz : sz ≤ 2 ^ d) : ∀ (ps : List Nat) (vs : List Value) (T : Tri Value) (tmps : Array Value) (ds : List Deferred), (∀ v ∈ vs, flat v = true) → (∀ p ∈ ps, p < sz) → RT d ρ sz T { tmps := tmps, defers := ds } →
    RT d ρ sz (Ev.putAll d ps vs T) { tmps := (ps.zip vs).foldl (fun t (p, v) => t.setIfInBounds p v) tmps, defers := ds }
  | [], vs, T, tmps, ds, _, _, h => by simpa [Ev.putAll] using h
  | p :: ps, [], T, tmps, ds, _, _, h => by simpa [Ev.putAll] using h
  | p :: ps, v :: vs, T, tmps, ds, hv, hp, h => by
    simp only [Ev.putAll, vfrc_eq, Tri.frc_eq, List.zip_cons_cons, List.foldl_cons]
    refine RT.putAll hsz ps vs _ _ ds (fun v hm => hv v (by simp [hm])) (fun p hm => hp p (by simp [hm])) ?_
    have := h.put (ρ' := ρ) (fun _ _ h => h) hsz (d := some p) (fun x e => by cases e; exact hp p (by simp)) (v := v) (u := v) (.flat v (hv v (by simp)))
    exact this
theorem rounds_inv {self : CodeK} {ps : List Nat} {asg body : Code} {T T' : Tri Value} {Sx : Nat} {y : List Value} {rest : List (List Value)} {H H' : Hp} {nx nx' S W : Nat} {x : Ex} (h : evRounds self d ps asg body T Sx (y :: rest) H nx = .ok x T' H' nx' S W) :
    y.length = ps.length ∧ ∃ T1 H1 nx1 S1 W1 e Tb H2 nx2 S2 W2, self d asg (putAll d ps y T) H nx = .ok .nrm T1 H1 nx1 S1 W1 ∧ self d body T1 H1 nx1 = .ok e Tb H2 nx2 S2 W2 ∧ (W1 ||| W2) &&& Sx = 0 ∧
      ((e = .nrm ∧ ∃ S3 W3, evRounds self d ps asg body T Sx rest H2 nx2 = .ok x T' H' nx' S3 W3 ∧ S = (S1 ||| S2) ||| S3 ∧ W = (W1 ||| W2) ||| W3) ∨ (e ≠ .nrm ∧ x = e ∧ T' = T ∧ H' = H2 ∧ nx' = nx2 ∧ S = S1 ||| S2 ∧ W = W1 ||| W2)) := by
  simp only [evRounds] at h
  split at h
  case h_2 => cases h
  rename_i hl
  split at h
  case h_2 => cases h
  rename_i T1 H1 nx1 S1 W1 h1
  split at h
  case h_2 => cases h
  rename_i e Tb H2 nx2 S2 W2 h2
  split at h
  case h_2 => cases h
  rename_i hz
  refine ⟨by rw [llen_eq] at hl; exact Nat.eq_of_beq_eq_true hl, T1, H1, nx1, S1, W1, e, Tb, H2, nx2, S2, W2, h1, h2, Nat.eq_of_beq_eq_true hz, ?_⟩
  split at h
  · obtain ⟨S3, W3, h3, h4, h5⟩ := evMore_inv h
    exact .inl ⟨rfl, S3, W3, h3, h4, h5⟩
  · rename_i hne
    cases h
    exact .inr ⟨fun e => hne e, rfl, rfl, rfl, rfl, rfl, rfl⟩
theorem apart_bits {A B : Nat} (h : A &&& B = 0) (n : Nat) (hn : B.testBit n = true) : A.testBit n = false := by
  have := congrArg (·.testBit n) h
  simp [Nat.testBit_and, hn] at this
  exact this
theorem or_bits {A B n : Nat} (h : (A ||| B).testBit n = false) : A.testBit n = false ∧ B.testBit n = false := by
  rw [Nat.testBit_or, Bool.or_eq_false_iff] at h; exact h
abbrev CodesOk (P : Program) (G : Env) (F : FuncId → Option Func) (It : Aid) (n : Nat) : Prop :=
  ∀ (r : Option Nat) (d : Nat) (c : Code) (sz : Nat) (T : Tri Value) (H : Hp) (nx : Nat) (x : Ex) (T' : Tri Value) (H' : Hp) (nx' S W : Nat), (r = none ∨ noRange c = true) → codeSt G d sz c → nx % 2 = 0 → evCode P F It n d c T H nx = .ok x T' H' nx' S W → Stp H nx H' nx' W ∧ CodeOkL P G r d n sz c T H nx x T' H' nx' S W
theorem rounds_stp {n sz : Nat} (ih : CodesOk P G F It n) {ps : List Nat} {asg body : Code} (ha : codeSt G d sz asg) (hb : codeSt G d sz body) (na : noRange asg = true) (nb : noRange body = true) {T T' : Tri Value} {Sx : Nat} {x : Ex} {H' : Hp} {nx' : Nat} :
    ∀ (els : List (List Value)) (H : Hp) (nx S W : Nat), nx % 2 = 0 → evRounds (evCode P F It n) d ps asg body T Sx els H nx = .ok x T' H' nx' S W → Stp H nx H' nx' W
  | [], H, nx, S, W, _, h => by cases h; exact Stp.refl _ _
  | y :: els, H, nx, S, W, hp, h => by
    obtain ⟨_, T1, H1, nx1, S1, W1, e, Tb, H2, nx2, S2, W2, h1, h2, _, h3⟩ := rounds_inv h
    have s1 := (ih none d asg sz _ _ _ _ _ _ _ _ _ (.inl rfl) ha hp h1).1
    have s2 := (ih none d body sz _ _ _ _ _ _ _ _ _ (.inl rfl) hb (s1.par hp) h2).1
    rcases h3 with ⟨_, S3, W3, h3, _, rfl⟩ | ⟨_, _, _, rfl, rfl, _, rfl⟩
    · exact (s1.trans s2).trans (rounds_stp ih ha hb na nb els H2 nx2 S3 W3 ((s1.trans s2).par hp) h3)
    · exact s1.trans s2
theorem kps {ρk ρ1 : Env} {h h1 : AH} {W W2 : World} {H Hk : Hp} {Sx Wk W1 a b : Nat} (hro : ∀ n, Sx.testBit n = true → ∃ b, hp H n = some b ∧ b.isRo = false) (hS : ∀ n, Sx.testBit n = true → h n = hp H n) (hs : Sub ρ ρk) (hg : Good G ρk (upd h Wk (hp Hk)) W)
    (e : Ev1 G ρk (upd h Wk (hp Hk)) W a b W1 h1 ρ1 W2) (d1 : ∀ n, Sx.testBit n = true → Wk.testBit n = false) (d2 : ∀ n, Sx.testBit n = true → W1.testBit n = false) : KpS ρ Sx W W2 := by
  intro n l hn hl
  obtain ⟨b0, hb0, hr0⟩ := hro n hn
  have hu : upd h Wk (hp Hk) n = some b0 := by unfold upd; rw [d1 n hn]; simp only [Bool.false_eq_true, if_false]; rw [hS n hn]; exact hb0
  obtain ⟨l', hl', hbl⟩ := hg.sat n b0 hu
  rw [hs n l hl] at hl'; cases hl'
  refine e.frame l.blk hbl.lt fun m lm hm hh hlm he => ?_
  obtain ⟨b', hb'⟩ := Option.ne_none_iff_exists'.1 hh
  have hne : n ≠ m := fun e => by rw [e] at hn; rw [d2 m hn] at hm; cases hm
  exact hg.sep n m b0 b' l lm hu hb' hne (by rw [hr0]; rfl) (hs n l hl) hlm he.symm
/-- A loop over a function. -/
theorem range_ok {n sz m : Nat} (hIt : ItOk P G It) (hF : ∀ f fn, F f = some fn → FnOk P G f fn) (ih : CodesOk P G F It n) {g : Operand} {ps : Array Tmp} {asg body : Code} {T T' : Tri Value} {H H' : Hp} {nx nx' S W : Nat} {x : Ex} (hst : codeSt G d sz (.rangeFunc g ps asg body)) (hpar : nx % 2 = 0)
    (h : evRange F It (evCode P F It n) d (opnd d T g) ps.toList asg body T H nx = .ok x T' H' nx' S W) : Stp H nx H' nx' W ∧ CodeOkL P G none d m sz (.rangeFunc g ps asg body) T H nx x T' H' nx' S W := by
  obtain ⟨hsz, hslot, hpsz, na, nb, ha, hb⟩ := hst
  unfold evRange at h
  split at h
  case h_2 => cases h
  rename_i gf cap hgv
  split at h
  case h_2 => cases h
  rename_i fn hfn
  split at h
  case h_2 => cases h
  rename_i bd hbd
  split at h
  case h_2 => cases h
  rename_i els Sx hit
  obtain ⟨S', W', h1, rfl, rfl⟩ := evMore_inv h
  clear h
  obtain ⟨hfl, hro, hat⟩ := hIt.it gf cap H els Sx hit
  have hstp := rounds_stp ih ha hb na nb els H nx S' W' hpar h1
  have hz : 0 ||| W' = W' := by simp
  rw [hz]
  refine ⟨hstp, ?_⟩
  intro ρ h w a hg hS hfr hr n0 Q hQ
  have hSx : ∀ n, Sx.testBit n = true → h n = hp H n := fun n hn => hS n (by rw [Nat.testBit_or, hn]; rfl)
  have hS' : ∀ n, S'.testBit n = true → h n = hp H n := fun n hn => hS n (by rw [Nat.testBit_or, hn]; simp)
  have hgr := slot_rel hg.base hr hslot
  rw [hgv] at hgr
  obtain ⟨a', cap', hu, ra, rc⟩ := func_inv hgr
  obtain rfl : a' = [] := by cases ra; rfl
  have hfo := hF gf fn hfn
  refine wpIn_n (r := none) (n := 5) ?_
  refine range_at hu (fun args w => callFunc_run hfo.here hfo.name (by rw [hbd]; rfl) args w) (hat ρ h w cap' hg hSx rc) (fun A B C h1 h2 n l hn hl => (h2 n l hn hl).trans (h1 n l hn hl)) ?hKb
    (fun k W => ∃ Hk nxk Wk S2 W2 ρk, evRounds (evCode P F It n) d ps.toList asg body T Sx (els.drop k) Hk nxk = .ok x T' H' nx' S2 W2 ∧ Stp H nx Hk nxk Wk ∧ (∀ n, S2.testBit n = true → S'.testBit n = true) ∧ W' = Wk ||| W2 ∧ (∀ n, Sx.testBit n = true → Wk.testBit n = false) ∧ Ev1 G ρ h w nx nxk Wk (hp Hk) ρk W)
    (fun k a' W => ∃ Hm nxm Wm ρm Tm e Tb Hb nxb Sb Wb, evCode P F It n d body Tm Hm nxm = .ok e Tb Hb nxb Sb Wb ∧ Stp H nx Hm nxm Wm ∧ (∀ n, Sb.testBit n = true → S'.testBit n = true) ∧ (∀ n, Sx.testBit n = true → Wm.testBit n = false) ∧ (∀ n, Sx.testBit n = true → Wb.testBit n = false) ∧ Ev1 G ρ h w nx nxm Wm (hp Hm) ρm W ∧ RT d ρm sz Tm a' ∧
      ((e = .nrm ∧ ∃ S3 W3, evRounds (evCode P F It n) d ps.toList asg body T Sx (els.drop (k + 1)) Hb nxb = .ok x T' H' nx' S3 W3 ∧ (∀ n, S3.testBit n = true → S'.testBit n = true) ∧ W' = (Wm ||| Wb) ||| W3) ∨ (e ≠ .nrm ∧ x = e ∧ T' = T ∧ H' = Hb ∧ nx' = nxb ∧ W' = Wm ||| Wb)))
    (fun c W => T' = T ∧ (∃ ρ', Ev1 G ρ h w nx nx' W' (hp H') ρ' W) ∧ (c = .ret ∧ x = .ret ∨ ∃ id, c = .exit id ∧ x = .exit id)) ?hI ?hM ?hX ?h0 ?hps ?hA ?hB ?hD ?hS
  case hps =>
    rintro k W hk ⟨Hk, nxk, Wk, S2, W2, ρk, hev, _⟩
    rw [List.drop_eq_getElem_cons hk] at hev
    obtain ⟨hl, _⟩ := rounds_inv hev
    simpa [List.getD_eq_getElem?_getD, List.getElem?_eq_getElem hk] using hl
  case hKb =>
    intro W l o hl n lo hn hlo
    obtain ⟨b0, hb0, _⟩ := hro n hn
    obtain ⟨l', hl', hbl⟩ := hg.sat n b0 (by rw [hSx n hn]; exact hb0)
    rw [hlo] at hl'; cases hl'
    exact World.putObj_heap_other (by have := hbl.lt; omega)
  case hI =>
    rintro k W W2 row ⟨Hk, nxk, Wk, S2, W2', ρk, h1, h2, h3, h4, h5, h6⟩ hgr hrow
    exact ⟨Hk, nxk, Wk, S2, W2', ρk, h1, h2, h3, h4, h5, h6.grown hgr hrow⟩
  case hM =>
    rintro k a' _ W W2 row ⟨Hm, nxm, Wm, ρm, Tm, e, Tb, Hb, nxb, Sb, Wb, h1, h2, h3, h4, h5, h6, h7⟩ hgr hrow
    exact ⟨Hm, nxm, Wm, ρm, Tm, e, Tb, Hb, nxb, Sb, Wb, h1, h2, h3, h4, h5, h6.grown hgr hrow, h7⟩
  case hX =>
    rintro c W W2 row ⟨h1, ⟨ρ', h2⟩, h3⟩ hgr hrow
    exact ⟨h1, ⟨ρ', h2.grown hgr hrow⟩, h3⟩
  case h0 => exact ⟨H, nx, 0, S', W', ρ, h1, Stp.refl _ _, fun _ h => h, by simp, fun _ _ => by simp, Ev1.refl hg _ _⟩
  case hA =>
    rintro l k W hk ⟨Hk, nxk, Wk, S2, W2, ρk, hev, hsk, hS2, hW, hd, he⟩
    rw [List.drop_eq_getElem_cons hk] at hev
    obtain ⟨_, T1, H1, nx1, S1, W1, e, Tb, H3, nx3, S3, W3, e1, e2, e3, e4⟩ := rounds_inv hev
    have hpk := hsk.par hpar
    obtain ⟨s1, o1⟩ := ih (some l) d asg sz _ _ _ _ _ _ _ _ _ (.inr na) ha hpk e1
    have hp1 := s1.par hpk
    have s2 := (ih none d body sz _ _ _ _ _ _ _ _ _ (.inl rfl) hb hp1 e2).1
    have hle3 : nx3 ≤ nx' := by
      rcases e4 with ⟨_, S4, W4, h4, _, _⟩ | ⟨_, _, _, _, h5, _, _⟩
      · exact (rounds_stp ih ha hb na nb _ _ _ _ _ (s2.par hp1) h4).le
      · omega
    have hle1 : nx1 ≤ nx' := Nat.le_trans s2.le hle3
    have hS13 : (∀ n, S1.testBit n = true → S'.testBit n = true) ∧ (∀ n, S3.testBit n = true → S'.testBit n = true) := by
      rcases e4 with ⟨_, S4, W4, _, h5, _⟩ | ⟨_, _, _, _, _, h5, _⟩ <;> (subst h5; exact ⟨fun n hn => hS2 n (by simp [Nat.testBit_or, hn]), fun n hn => hS2 n (by simp [Nat.testBit_or, hn])⟩)
    have hdis : ∀ n, Sx.testBit n = true → W1.testBit n = false ∧ W3.testBit n = false := fun n hn => or_bits (apart_bits e3 n hn)
    have hx : ∀ v ∈ els[k], flat v = true := hfl _ (List.getElem_mem hk)
    have hRT0 : RT d ρk sz T { tmps := a.tmps, defers := [] } := ⟨hr.1, fun x hx => (hr.2 x hx).mono he.sub⟩
    have hRT := RT.putAll hsz ps.toList els[k] T a.tmps [] hx hpsz hRT0
    have htm : (ps.zip (⟨els.getD k []⟩ : Array Value)).foldl (fun t (p, v) => t.setIfInBounds p v) a.tmps = (ps.toList.zip els[k]).foldl (fun t (p, v) => t.setIfInBounds p v) a.tmps := by
      rw [← Array.foldl_toList, Array.toList_zip]
      simp [List.getD_eq_getElem?_getD, List.getElem?_eq_getElem hk]
    rw [htm]
    refine o1.wp ρk (upd h Wk (hp Hk)) W _ he.good (next_same hsk fun n hn => hS' n (hS13.1 n hn)) (next_free he hsk.le fun n k1 k2 => hfr n k1 (by omega)) hRT 3 _ fun ρ1 a1 W4 he1 hr1 _ => ?_
    refine ⟨rfl, he1.keeps he.good _, kps hro hSx he.sub he.good he1 hd (fun n hn => (hdis n hn).1), H1, nx1, Wk ||| W1, ρ1, T1, e, Tb, H3, nx3, S3, W3, e2, hsk.trans s1, hS13.2, fun n hn => ?_, fun n hn => (hdis n hn).2, he.next hsk he1 s1 hg, hr1, ?_⟩
    · rw [Nat.testBit_or, hd n hn, (hdis n hn).1]; rfl
    · rcases e4 with ⟨h4, S4, W4, h5, h6, h7⟩ | ⟨h4, h5, h6, h7, h8, h9, h10⟩
      · exact .inl ⟨h4, S4, W4, h5, fun n hn => hS2 n (by rw [h6, Nat.testBit_or, hn]; simp), by rw [hW, h7, Nat.or_assoc, Nat.or_assoc, Nat.or_assoc]⟩
      · exact .inr ⟨h4, h5, h6, h7, h8, by rw [hW, h10, Nat.or_assoc]⟩
  case hB =>
    rintro l k a1 W hk ⟨Hm, nxm, Wm, ρm, Tm, e, Tb, Hb, nxb, Sb, Wb, e2, hsm, hSb, hdm, hdb, he, hr1, e4⟩
    have hpm := hsm.par hpar
    obtain ⟨s2, o2⟩ := ih (some l) d body sz _ _ _ _ _ _ _ _ _ (.inr nb) hb hpm e2
    have hleb : nxb ≤ nx' := by
      rcases e4 with ⟨_, S4, W4, h4, _, _⟩ | ⟨_, _, _, _, h5, _⟩
      · exact (rounds_stp ih ha hb na nb _ _ _ _ _ (s2.par hpm) h4).le
      · omega
    refine o2.wp ρm (upd h Wm (hp Hm)) W _ he.good (next_same hsm fun n hn => hS' n (hSb n hn)) (next_free he hsm.le fun n k1 k2 => hfr n k1 (by omega)) hr1 3 _ fun ρ2 a2 W4 he2 hr2 _ => ?_
    have hev := he.next hsm he2 s2 hg
    have hdd : ∀ n, Sx.testBit n = true → (Wm ||| Wb).testBit n = false := fun n hn => by rw [Nat.testBit_or, hdm n hn, hdb n hn]; rfl
    refine ⟨he2.keeps he.good _, ?_⟩
    rcases e4 with ⟨rfl, S4, W4', h5, h6, h7⟩ | ⟨h4, rfl, rfl, rfl, rfl, h9⟩
    · exact .inl ⟨rfl, kps hro hSx he.sub he.good he2 hdm hdb, Hb, nxb, Wm ||| Wb, S4, W4', ρ2, h5, hsm.trans s2, h6, h7, hdd, hev⟩
    · rw [← h9] at hev
      cases x with
      | nrm => exact absurd rfl h4
      | ret => exact .inr (.inl ⟨rfl, rfl, ⟨ρ2, hev⟩, .inl ⟨rfl, rfl⟩⟩)
      | exit id => exact .inr (.inr ⟨id, rfl, rfl, ⟨ρ2, hev⟩, .inr ⟨id, rfl, rfl⟩⟩)
  case hD =>
    rintro D W hDw ⟨Hk, nxk, Wk, S2, W2, ρk, hev, hsk, _, hW, _, he⟩ hD
    rw [List.drop_length] at hev
    simp only [evRounds, Cs.ok.injEq] at hev
    obtain ⟨rfl, rfl, rfl, rfl, rfl, rfl⟩ := hev
    rw [Nat.or_zero] at hW
    subst hW
    have hlt := (Array.getElem?_eq_some_iff.1 hD).1
    exact hQ ρk _ W he ⟨hr.1, fun x hx => (hr.2 x hx).mono he.sub⟩ ⟨[{ target := .collected D, args := #[] }], rfl, .cons D _ [] hDw hlt (Nat.le_refl _) hD (.nil D (Nat.le_of_lt hlt))⟩
  case hS =>
    rintro D c W hDw ⟨rfl, ⟨ρ', he⟩, hc⟩ hD
    have hlt := (Array.getElem?_eq_some_iff.1 hD).1
    have hq := hQ ρ' { a with defers := { target := .collected D, args := #[] } :: a.defers } W he ⟨hr.1, fun x hx => (hr.2 x hx).mono he.sub⟩ ⟨[{ target := .collected D, args := #[] }], rfl, .cons D _ [] hDw hlt (Nat.le_refl _) hD (.nil D (Nat.le_of_lt hlt))⟩
    rcases hc with ⟨rfl, rfl⟩ | ⟨id, rfl, rfl⟩
    · exact wpIn_ret hq
    · exact wpIn_exit hq
theorem evCode_ok (hm : P.follows .mixedOrders = true) (hIt : ItOk P G It) (hF : ∀ f fn, F f = some fn → FnOk P G f fn)
    (hop : ∀ (call : FuncId → List Value → Hp → Nat → Rs), CallOk P G call → ∀ d T H nx (o : Oper) v H' nx' S W, nx % 2 = 0 → (∀ cs b, o.op ≠ .select cs b) → evOp P call d T H nx o = .ok v H' nx' S W → Stp H nx H' nx' W ∧ OpOk P G d T H nx o v H' nx' S W) :
    ∀ (n : Nat) (r : Option Nat) (d : Nat) (c : Code) (sz : Nat) (T : Tri Value) (H : Hp) (nx : Nat) (x : Ex) (T' : Tri Value) (H' : Hp) (nx' S W : Nat), (r = none ∨ noRange c = true) → codeSt G d sz c → nx % 2 = 0 → evCode P F It n d c T H nx = .ok x T' H' nx' S W → Stp H nx H' nx' W ∧ CodeOkL P G r d n sz c T H nx x T' H' nx' S W := by
  intro n
  induction n with
  | zero => intro r d c sz T H nx x T' H' nx' S W _ _ _ h; cases h
  | succ n ih =>
    have hcall : CallOk P G (callOr It.or (callWith P F (evCode P F It n))) := callOr_ok hIt.or (callWith_step hF fun d c sz T H nx x T' H' nx' S W => ih none d c sz T H nx x T' H' nx' S W (.inl rfl))
    intro r d c sz T H nx x T' H' nx' S W hnr hst hpar h
    have h : evCode1 P F It (evCode P F It n) d c T H nx = .ok x T' H' nx' S W := h
    unfold evCode1 at h
    cases c with
    | skip => dsimp only at h; cases h; exact ⟨Stp.refl _ _, CodeOk.quiet fun n Q a w hq => wpIn_skip hq⟩
    | label l => dsimp only at h; cases h; exact ⟨Stp.refl _ _, CodeOk.quiet fun n Q a w hq => wpIn_label hq⟩
    | ret => dsimp only at h; cases h; exact ⟨Stp.refl _ _, CodeOk.quiet fun n Q a w hq => wpIn_ret hq⟩
    | exit id => dsimp only at h; cases h; exact ⟨Stp.refl _ _, CodeOk.quiet fun n Q a w hq => wpIn_exit hq⟩
    | seq c c2 =>
      dsimp only at h
      rcases evThen_inv h with ⟨T1, H1, nx1, S1, W1, S2, W2, h1, h2, rfl, rfl⟩ | ⟨h1, hne⟩
      · obtain ⟨hs1, ho1⟩ := ih r d c sz T H nx _ _ _ _ _ _ (hnr.imp id fun h => (Bool.and_eq_true_iff.1 h).1) hst.1 hpar h1
        obtain ⟨hs2, ho2⟩ := ih r d c2 sz T1 H1 nx1 _ _ _ _ _ _ (hnr.imp id fun h => (Bool.and_eq_true_iff.1 h).2) hst.2 (hs1.par hpar) h2
        exact CodeOk.then hs1 ho1.wp hs2 ho2 fun n Q a w hw => wpIn_seq (wpIn_mono hw fun e a w q => by cases e <;> first | exact wpL_wp q | exact q)
      · obtain ⟨hs1, ho1⟩ := ih r d c sz T H nx _ _ _ _ _ _ (hnr.imp id fun h => (Bool.and_eq_true_iff.1 h).1) hst.1 hpar h1
        refine ⟨hs1, ho1.wp.past fun n Q a w hw => wpIn_seq (wpIn_mono hw ?_)⟩
        rintro e a w ⟨rfl, hq⟩
        cases x with
        | nrm => exact absurd rfl hne
        | exit id => exact hq
        | ret => exact hq
    | cond c t e =>
      dsimp only at h
      unfold evIf at h
      split at h
      · rename_i hc
        obtain ⟨hs1, ho1⟩ := ih r d t sz T H nx _ _ _ _ _ _ (hnr.imp id fun h => (Bool.and_eq_true_iff.1 h).1) hst.2.1 hpar h
        exact ⟨hs1, fun ρ h w a hg hS hfr hr n Q hQ => wpIn_cond_true (cond_rel hg.base hr hst.1 hc) (ho1.wp ρ h w a hg hS hfr hr n Q hQ)⟩
      · rename_i hc
        obtain ⟨hs1, ho1⟩ := ih r d e sz T H nx _ _ _ _ _ _ (hnr.imp id fun h => (Bool.and_eq_true_iff.1 h).2) hst.2.2 hpar h
        exact ⟨hs1, fun ρ h w a hg hS hfr hr n Q hQ => wpIn_cond_false (cond_rel hg.base hr hst.1 hc) (ho1.wp ρ h w a hg hS hfr hr n Q hQ)⟩
      · cases h
    | block id b =>
      dsimp only at h
      unfold evBlk at h
      split at h
      · rename_i id' T1 H1 nx1 S1 W1 h1
        obtain ⟨hs1, ho1⟩ := ih r d b sz T H nx _ _ _ _ _ _ hnr hst hpar h1
        split at h
        · rename_i hid
          cases h
          refine ⟨hs1, ho1.wp.past fun n Q a w hw => wpIn_block (wpIn_mono hw ?_)⟩
          rintro e a w ⟨rfl, hq⟩
          simpa [Exit.inBlock, Ex.toExit, Nat.eq_of_beq_eq_true hid] using hq
        · rename_i hid
          cases h
          refine ⟨hs1, ho1.wp.past fun n Q a w hw => wpIn_block (wpIn_mono hw ?_)⟩
          rintro e a w ⟨rfl, hq⟩
          have hne : id' ≠ id := fun e => by rw [e] at hid; simp at hid
          simpa [Exit.inBlock, Ex.toExit, hne] using hq
      · rename_i hne
        obtain ⟨hs1, ho1⟩ := ih r d b sz T H nx _ _ _ _ _ _ hnr hst hpar h
        refine ⟨hs1, ho1.wp.past fun n Q a w hw => wpIn_block (wpIn_mono hw ?_)⟩
        rintro e a w ⟨rfl, hq⟩
        cases x with
        | nrm => exact hq
        | exit id' => exact absurd h (hne _ _ _ _ _ _)
        | ret => exact hq
    | loop b =>
      dsimp only at h
      rcases evThen_inv h with ⟨T1, H1, nx1, S1, W1, S2, W2, h1, h2, rfl, rfl⟩ | ⟨h1, hne⟩
      · obtain ⟨hs1, ho1⟩ := ih r d b sz T H nx _ _ _ _ _ _ hnr hst hpar h1
        obtain ⟨hs2, ho2⟩ := ih r d (.loop b) sz T1 H1 nx1 _ _ _ _ _ _ hnr hst (hs1.par hpar) h2
        exact CodeOk.then hs1 ho1.wp hs2 ho2 fun n Q a w hw => hw
      · obtain ⟨hs1, ho1⟩ := ih r d b sz T H nx _ _ _ _ _ _ hnr hst hpar h1
        refine ⟨hs1, ho1.wp.past fun k Q a w hw => (wpIn_mono hw ?_ : Code.roundsIn (Fr r) k P b Q (n + 1) a w)⟩
        rintro e a w ⟨rfl, hq⟩
        cases x with
        | nrm => exact absurd rfl hne
        | exit id => exact hq
        | ret => exact hq
    | region id ops draw =>
      dsimp only at h
      unfold evReg at h
      split at h
      · rename_i T1 H1 nx1 S1 W1 log h1
        split at h
        · rename_i hord
          cases h
          obtain ⟨r1, r2⟩ := region_ok (r := r) (id := id) hm hst.1 hst.2.2.2 hst.2.1 (fun T H nx o v H' nx' S W hp ⟨i, hi⟩ he => hop _ hcall d T H nx o v H' nx' S W hp (hst.2.2.1 i o hi) he) hpar h1 hord
          exact ⟨r1, r2⟩
        · cases h
      · cases h
    | rangeFunc g ps asg body =>
      have hr0 : r = none := hnr.resolve_right fun h => by cases h
      subst hr0
      exact range_ok hIt hF (fun r d c sz T H nx x T' H' nx' S W => ih r d c sz T H nx x T' H' nx' S W) hst hpar h
    | _ => cases h
theorem callWith_ok (hm : P.follows .mixedOrders = true) (hIt : ItOk P G It) (hF : ∀ f fn, F f = some fn → FnOk P G f fn)
    (hop : ∀ (call : FuncId → List Value → Hp → Nat → Rs), CallOk P G call → ∀ d T H nx (o : Oper) v H' nx' S W, nx % 2 = 0 → (∀ cs b, o.op ≠ .select cs b) → evOp P call d T H nx o = .ok v H' nx' S W → Stp H nx H' nx' W ∧ OpOk P G d T H nx o v H' nx' S W) (n : Nat) :
    CallOk P G (callWith P F (evCode P F It n)) := callWith_step hF fun d c sz T H nx x T' H' nx' S W => evCode_ok hm hIt hF hop n none d c sz T H nx x T' H' nx' S W (.inl rfl)
end
end Go.Proofs.YtlegcfjafdihlaaGreatDoor.Ev
