/-
  The evaluator of calls at given arguments, and its soundness: part H. It speaks of any program.
-/
import Derived.Test.YtlegcfjafdihlaaGreatDoorEvG
namespace Go.Proofs.YtlegcfjafdihlaaGreatDoor.Ev
open Go.RowKit
set_option linter.unusedSimpArgs false
set_option linter.unusedVariables false

/-! ### The order check -/
theorem anc1_fold {ops : Array Oper} {acc : List Nat} {j : Nat} {o : Oper} (ho : ops[j]? = some o) (hacc : ∀ i, i < j → ∀ n, ((acc[j - 1 - i]?).getD 0).testBit n = true → Anc ops n i) :
    ∀ (l : List Edge) (s : Nat), (∀ e ∈ l, e ∈ o.after ∧ (Region.binds .any e = true → e.on < j)) → (∀ n, s.testBit n = true → Anc ops n j) → ∀ n, (l.foldl (ancS acc j) s).testBit n = true → Anc ops n j
  | [], s, _, hs, n, h => hs n h
  | e :: l, s, hl, hs, n, h => by
    simp only [List.foldl_cons] at h
    refine anc1_fold ho hacc l _ (fun e' he' => hl e' (by simp [he'])) (fun m hm => ?_) n h
    obtain ⟨hm1, hm2⟩ := hl e (by simp)
    unfold ancS at hm
    split at hm
    · rename_i hb
      simp only [Nat.testBit_or, Bool.or_eq_true] at hm
      rcases hm with (hm | hm) | hm
      · exact hs m hm
      · exact .edge j o e ho hm1 hb ((testBit_bit _ _).1 hm).symm
      · exact .step j o e ho hm1 hb (hacc e.on (hm2 hb) m hm)
    · exact hs m hm
theorem ancs_spec {ops : Array Oper} (hdr : RegDr ops) : ∀ (l : List Oper) (j : Nat) (acc : List Nat), (∀ k, l[k]? = ops[j + k]?) → acc.length = j → (∀ i, i < j → ∀ n, ((acc[j - 1 - i]?).getD 0).testBit n = true → Anc ops n i) →
    (ancs l j acc).length = j + l.length ∧ ∀ i, i < j + l.length → ∀ n, (((ancs l j acc)[j + l.length - 1 - i]?).getD 0).testBit n = true → Anc ops n i
  | [], j, acc, _, hlen, h => by simpa [ancs, hlen] using h
  | o :: l, j, acc, hl, hlen, h => by
    simp only [ancs, nfrc_eq]
    have ho : ops[j]? = some o := by simpa using (hl 0).symm
    have := ancs_spec hdr l (j + 1) (anc1 acc j o :: acc) (fun k => by have := hl (k + 1); simpa [Nat.add_assoc, Nat.add_comm 1 k] using this) (by simp [hlen]) (fun i hi n hn => by
      by_cases e : i = j
      · subst e
        rw [show i + 1 - 1 - i = 0 by omega, List.getElem?_cons_zero, Option.getD_some] at hn
        exact anc1_fold ho h o.after.toList 0 (fun e he => ⟨by simpa using he, hdr.edges i o ho e (by simpa using he)⟩) (fun n hn => by simp at hn) n hn
      · have e2 : j + 1 - 1 - i = (j - 1 - i) + 1 := by omega
        rw [e2, List.getElem?_cons_succ] at hn
        exact h i (by omega) n hn)
    simp only [List.length_cons]
    rw [show j + (l.length + 1) = j + 1 + l.length by omega]
    exact this
theorem touch_mem : ∀ (ms : List Nat) (l : List (Nat × Nat)) (k : Nat), ms.length = k → l.length = k → ∀ i S W, i < k → l[k - 1 - i]? = some (S, W) → S ||| W ≠ 0 → (i, (ms[k - 1 - i]?).getD 0, S ||| W, W) ∈ touch ms l k
  | m :: ms, (S0, W0) :: l, k + 1, h1, h2, i, S, W, hi, hl, hU => by
    simp only [touch]
    simp only [List.length_cons] at h1 h2
    by_cases e : i = k
    · subst e
      simp at hl
      obtain ⟨rfl, rfl⟩ := hl
      have : Nat.beq (S0 ||| W0) 0 = false := by
        cases hq : Nat.beq (S0 ||| W0) 0 with
        | false => rfl
        | true => exact absurd (Nat.eq_of_beq_eq_true hq) hU
      simp [this]
    · have e2 : k + 1 - 1 - i = (k - 1 - i) + 1 := by omega
      rw [e2, List.getElem?_cons_succ] at hl ⊢
      have := touch_mem ms l k (by omega) (by omega) i S W (by omega) hl hU
      split
      · exact this
      · exact List.mem_cons_of_mem _ this
  | [], l, k + 1, h1, _, _, _, _, _, _, _ => by simp at h1
  | _ :: _, [], k + 1, _, h2, _, _, _, _, _, _ => by simp at h2
  | _, _, 0, _, _, i, _, _, hi, _, _ => by omega
theorem touch_lt : ∀ (ms : List Nat) (l : List (Nat × Nat)) (k : Nat), ∀ x ∈ touch ms l k, x.1 < k
  | m :: ms, (S0, W0) :: l, k + 1, x, hx => by
    simp only [touch] at hx
    split at hx
    · have := touch_lt ms l k x hx; omega
    · rcases List.mem_cons.1 hx with rfl | hx
      · simp
      · have := touch_lt ms l k x hx; omega
  | [], l, k, x, hx => by cases k <;> simp [touch] at hx
  | _ :: _, [], k, x, hx => by cases k <;> simp [touch] at hx
  | _ :: _, _ :: _, 0, x, hx => by simp [touch] at hx
theorem apartB_spec : ∀ (ms : List Nat) (l : List (Nat × Nat)) (k : Nat), apartB (touch ms l k) = true → ∀ x ∈ touch ms l k, ∀ y ∈ touch ms l k, x.1 < y.1 → ((y.2.2.2 &&& x.2.2.1) ||| (x.2.2.2 &&& y.2.2.1) = 0) ∨ y.2.1.testBit x.1 = true
  | m :: ms, (S0, W0) :: l, k + 1, h, x, hx, y, hy, hxy => by
    simp only [touch] at h hx hy
    split at h
    · rename_i hz
      simp only [hz] at hx hy
      exact apartB_spec ms l k h x hx y hy hxy
    · rename_i hz
      simp only [hz] at hx hy
      simp only [apartB, Bool.and_eq_true, List.all_eq_true] at h
      rcases List.mem_cons.1 hy with rfl | hy'
      · rcases List.mem_cons.1 hx with rfl | hx'
        · simp at hxy
        · have := h.1 x hx'
          obtain ⟨i, m', U', W'⟩ := x
          simp only [Bool.or_eq_true] at this
          rcases this with h1 | h1
          · exact .inl (Nat.eq_of_beq_eq_true h1)
          · exact .inr h1
      · rcases List.mem_cons.1 hx with rfl | hx'
        · have := touch_lt ms l k y hy'
          simp at hxy; omega
        · exact apartB_spec ms l k h.2 x hx' y hy' hxy
  | [], l, k, _, x, hx, _, _, _ => by cases k <;> simp [touch] at hx
  | _ :: _, [], k, _, x, hx, _, _, _ => by cases k <;> simp [touch] at hx
  | _ :: _, _ :: _, 0, _, x, hx, _, _, _ => by simp [touch] at hx
theorem or_eq_zero {a b : Nat} (h : a ||| b = 0) : a = 0 ∧ b = 0 := by
  constructor <;> apply Nat.eq_of_testBit_eq <;> intro n <;> have := congrArg (·.testBit n) h <;> simp [Nat.testBit_or] at this <;> simp [this]
theorem orderOk_spec {ops : Array Oper} (hdr : RegDr ops) {Sx Wx : Nat → Nat} {W : Nat} {log : List (Nat × Nat)} (hlen : log.length = ops.size) (hlog : ∀ i, i < ops.size → log[ops.size - 1 - i]? = some (Sx i, Wx i))
    (hW : ∀ i, i < ops.size → ∀ n, (Wx i).testBit n = true → W.testBit n = true) (h : orderOk ops W log = true) : ∀ i j, i < j → j < ops.size →
      (∀ n, ¬ ((Wx i).testBit n = true ∧ ((Sx j).testBit n = true ∨ (Wx j).testBit n = true)) ∧ ¬ ((Wx j).testBit n = true ∧ (Sx i).testBit n = true)) ∨ Anc ops i j := by
  intro i j hij hj
  simp only [orderOk, Bool.or_eq_true] at h
  rcases h with h | h
  · left
    have h0 : W = 0 := Nat.eq_of_beq_eq_true h
    intro n
    constructor <;> rintro ⟨h1, _⟩
    · have := hW i (by omega) n h1; rw [h0] at this; simp at this
    · have := hW j hj n h1; rw [h0] at this; simp at this
  · obtain ⟨a1, a2⟩ := ancs_spec hdr ops.toList 0 [] (by simp) rfl (fun i hi => by omega)
    simp only [Nat.zero_add, Array.length_toList] at a1 a2
    by_cases hi0 : Sx i ||| Wx i = 0
    · left; intro n
      obtain ⟨h1, h2⟩ := or_eq_zero hi0
      simp [h1, h2]
    · by_cases hj0 : Sx j ||| Wx j = 0
      · left; intro n
        obtain ⟨h1, h2⟩ := or_eq_zero hj0
        simp [h1, h2]
      · have m1 := touch_mem (ancs ops.toList 0 []) log ops.size a1 hlen i _ _ (by omega) (hlog i (by omega)) hi0
        have m2 := touch_mem (ancs ops.toList 0 []) log ops.size a1 hlen j _ _ hj (hlog j hj) hj0
        rcases apartB_spec _ _ _ h _ m1 _ m2 hij with h1 | h1
        · left
          obtain ⟨h2, h3⟩ := or_eq_zero h1
          intro n
          have b1 := congrArg (·.testBit n) h2
          have b2 := congrArg (·.testBit n) h3
          simp [Nat.testBit_and, Nat.testBit_or] at b1 b2
          constructor
          · rintro ⟨k1, k2⟩
            have := b2 k1
            rcases k2 with k2 | k2
            · rw [this.1] at k2; cases k2
            · rw [this.2] at k2; cases k2
          · rintro ⟨k1, k2⟩
            have := b1 k1
            rw [this.1] at k2; cases k2
        · exact .inr (a2 j hj i h1)

/-! ### The region -/
section
variable {d : Nat} {P : Program} {G : Env} {ops : Array Oper} {sz : Nat} {f : Nat → Sn} {ev : Nat → Value} {Sx Wx : Nat → Nat} {St Wt : Nat} {ρ0 : Env} {h0 : AH} {w0 : World} {df : List Deferred} {Q : Exit → Act → World → Prop}
def cnt (n : Nat) (listed : Array Bool) : Nat := (List.range n).countP fun i => !listed.getD i true
theorem region_any (hst : RegSt G d ops sz) (hdr : RegDr ops) (hops : ∀ i o, ops[i]? = some o → StepAt P G d ops (f i) o (ev i) (Sx i) (Wx i) (f (i + 1)))
    (hg : Good G ρ0 h0 w0) (hS : ∀ n, St.testBit n = true → h0 n = hp (f 0).H n) (hSx : ∀ i, i < ops.size → ∀ n, (Sx i).testBit n = true → St.testBit n = true) (hWt : ∀ n, Wt.testBit n = true ↔ ∃ i, i < ops.size ∧ (Wx i).testBit n = true)
    (hfr : ∀ n, (f 0).nx ≤ n → n < (f ops.size).nx → ρ0 n = none)
    (hdyn : ∀ i j, i < j → j < ops.size → (∀ n, ¬ ((Wx i).testBit n = true ∧ ((Sx j).testBit n = true ∨ (Wx j).testBit n = true)) ∧ ¬ ((Wx j).testBit n = true ∧ (Sx i).testBit n = true)) ∨ Anc ops i j)
    (hQ : ∀ ρ a w, Ev1 G ρ0 h0 w0 (f 0).nx (f ops.size).nx Wt (hp (f ops.size).H) ρ w → RT d ρ sz (f ops.size).T a → a.defers = df → Q .normal a w) :
    ∀ (fuel : Nat) (listed : Array Bool) (a : Act) (w : World) (ρ : Env) (g : AH) (Tc : Nat → Value), listed.size = ops.size → cnt ops.size listed = fuel → Inv d G ops sz f Wx Wt ρ0 h0 w0 df (fun i => listed.getD i false = true) a w ρ g Tc →
      wpAny P .any ops Q fuel listed a w := by
  have hlt : ∀ i, i < ops.size → ∃ oi, ops[i]? = some oi := fun i hi => ⟨ops[i], Array.getElem?_eq_getElem hi⟩
  -- at the end
  have fin : ∀ (listed : Array Bool) (a : Act) (w : World) (ρ : Env) (g : AH) (Tc : Nat → Value), Inv d G ops sz f Wx Wt ρ0 h0 w0 df (fun i => listed.getD i false = true) a w ρ g Tc → (∀ i, i < ops.size → listed.getD i false = true) → Q .normal a w := by
    intro listed a w ρ g Tc hI hall
    refine hQ ρ a w (hI.ev.as fun n hn => ?_) ⟨hI.size, fun x hx => ?_⟩ hI.defers
    · refine hI.heap.final (F := fun i => hp (f i).H) (fun i hi n hn' => ?_) hall n (fun hno => ?_)
      · obtain ⟨oi, hoi⟩ := hlt i hi
        exact (hops i oi hoi).2.1.keep n (by simpa using hn')
      · obtain ⟨i, hi, hw⟩ := (hWt n).1 hn
        exact absurd hw (hno i hi)
    · have := hI.tmps.final (F := fun i x => if x < sz then tget d (f i).T x else undef) (fun i hi x hx => ?_) hall x (fun _ => rfl)
      · simp only [if_pos hx] at this
        rw [← this]; exact hI.rel x hx
      · obtain ⟨oi, hoi⟩ := hlt i hi
        by_cases hxs : x < sz
        · rw [if_pos hxs, if_pos hxs, (hops i oi hoi).1]
          cases hd : oi.dst with
          | none => rfl
          | some d =>
            have hds := hst.dst i oi hoi d hd
            have hsz := hst.size
            rw [tget_put (Nat.lt_of_lt_of_le hds hsz) (Nat.lt_of_lt_of_le hxs hsz), if_neg]
            rintro rfl
            exact hx ⟨oi, hoi, hd⟩
        · rw [if_neg hxs, if_neg hxs]
  have allready : ∀ (listed : Array Bool), listed.size = ops.size → Region.ready .any ops listed = [] → ∀ i, i < ops.size → listed.getD i false = true := by
    intro listed hsz hr i
    induction i using Nat.strongRecOn with
    | _ i ih =>
      intro hi
      cases hq : listed.getD i false with
      | true => rfl
      | false =>
        obtain ⟨o, ho⟩ := hlt i hi
        have : i ∈ Region.ready .any ops listed := by
          rw [mem_ready]
          refine ⟨by simpa [hsz, hi] using hq, o, ho, fun e he hb => ?_⟩
          have := hdr.edges i o ho e he hb
          exact ih e.on this (by omega)
        rw [hr] at this; cases this
  intro fuel
  induction fuel with
  | zero =>
    intro listed a w ρ g Tc hsz hc hI
    have hall : ∀ i, i < ops.size → listed.getD i false = true := by
      intro i hi
      have := (List.countP_eq_zero.1 hc) i (by simpa using hi)
      simpa [hsz, hi] using this
    refine ⟨?_, fin listed a w ρ g Tc hI hall⟩
    cases hr : Region.ready .any ops listed with
    | nil => rfl
    | cons i l =>
      have hm : i ∈ Region.ready .any ops listed := by rw [hr]; simp
      obtain ⟨h1, o, ho, _⟩ := mem_ready.1 hm
      have hi := (Array.getElem?_eq_some_iff.1 ho).1
      have := hall i hi
      simp [hsz, hi] at h1 this
      rw [h1] at this; cases this
  | succ fuel ih =>
    intro listed a w ρ g Tc hsz hc hI
    refine ⟨fun hr => fin listed a w ρ g Tc hI (allready listed hsz hr), fun j hj => ?_⟩
    obtain ⟨h1, o, ho, hall⟩ := mem_ready.1 hj
    have hjs := (Array.getElem?_eq_some_iff.1 ho).1
    have hjf : listed.getD j false = false := by simpa [hsz, hjs] using h1
    refine inv_step hst hdr hops hg hS hSx (fun i hi n hn => (hWt n).2 ⟨i, hi, hn⟩) hfr hdyn hI ho (by simp [hjf]) (fun e he hb => hall e he hb) (D' := fun i => (listed.setIfInBounds j true).getD i false = true) (fun i => ?_) (fun a' w' ρ' g' Tc' hI' => ?_)
    · by_cases e : i = j
      · subst e; simp [hsz, hjs]
      · have := getD_set_ne (listed := listed) (i := j) (j := i) false (Ne.symm e)
        simp only [this, e, or_false]
    · refine ih _ a' w' ρ' g' Tc' (by simp [hsz]) ?_ hI'
      have := countP_set (fun i => !listed.getD i true) (fun i => !(listed.setIfInBounds j true).getD i true) j (fun i hi => by
        have := getD_set_ne (listed := listed) (i := j) (j := i) true (Ne.symm hi)
        simp only [this]) (by simp [h1]) (by simp [hsz, hjs]) ops.size
      rw [if_pos hjs] at this
      unfold cnt at hc ⊢
      omega
theorem region_drawn (hst : RegSt G d ops sz) (hdr : RegDr ops) (hops : ∀ i o, ops[i]? = some o → StepAt P G d ops (f i) o (ev i) (Sx i) (Wx i) (f (i + 1)))
    (hg : Good G ρ0 h0 w0) (hS : ∀ n, St.testBit n = true → h0 n = hp (f 0).H n) (hSx : ∀ i, i < ops.size → ∀ n, (Sx i).testBit n = true → St.testBit n = true) (hWt : ∀ n, Wt.testBit n = true ↔ ∃ i, i < ops.size ∧ (Wx i).testBit n = true)
    (hfr : ∀ n, (f 0).nx ≤ n → n < (f ops.size).nx → ρ0 n = none)
    (hdyn : ∀ i j, i < j → j < ops.size → (∀ n, ¬ ((Wx i).testBit n = true ∧ ((Sx j).testBit n = true ∨ (Wx j).testBit n = true)) ∧ ¬ ((Wx j).testBit n = true ∧ (Sx i).testBit n = true)) ∨ Anc ops i j) {a0 : Act} (hr : RT d ρ0 sz (f 0).T a0)
    (hQ : ∀ ρ a w, Ev1 G ρ0 h0 w0 (f 0).nx (f ops.size).nx Wt (hp (f ops.size).H) ρ w → RT d ρ sz (f ops.size).T a → a.defers = a0.defers → Q .normal a w) : wpAny P .any ops Q ops.size (Array.replicate ops.size false) a0 { w0 with drawn := w0.drawn + 1 } := by
  have hlt : ∀ i, i < ops.size → ∃ oi, ops[i]? = some oi := fun i hi => ⟨ops[i], Array.getElem?_eq_getElem hi⟩
  have hmono : ∀ i, i < ops.size → (f i).nx ≤ (f (i + 1)).nx := fun i hi => by obtain ⟨oi, hoi⟩ := hlt i hi; exact (hops i oi hoi).2.1.le
  have hf : ∀ i, (Array.replicate ops.size false).getD i false = false := by
    intro i
    by_cases h : i < ops.size <;> simp [h]
  refine region_any (df := a0.defers) hst hdr hops hg hS hSx hWt hfr hdyn hQ ops.size _ a0 _ ρ0 h0 (fun x => if x < sz then tget d (f 0).T x else undef) (by simp) ?_ ⟨fun i o ho hD => ?_, ?_, fun _ _ => rfl, fun n l hl => .inl hl, ⟨fun _ _ => rfl, fun i hi hD => ?_⟩, ⟨fun _ _ => rfl, fun i hi hD => ?_⟩, hr.1, fun x hx => ?_, rfl⟩
  · unfold cnt
    rw [List.countP_eq_length.2 (fun i hi => by
      have : i < ops.size := by simpa using hi
      simp [this])]
    simp
  · rw [hf i] at hD; cases hD
  · have := (Ev1.draw hg (f 0).nx (w0.drawn + 1) h0).wide (Nat.le_refl _) (nx_mono hmono 0 ops.size (by omega) (Nat.le_refl _))
    exact this.more (fun n hn => by simp at hn) (fun n _ _ => rfl)
  · rw [hf i] at hD; cases hD
  · rw [hf i] at hD; cases hD
  · simp only [if_pos hx]; exact hr.2 x hx
end
end Go.Proofs.YtlegcfjafdihlaaGreatDoor.Ev
