/-
  The evaluator of calls at given arguments, and its soundness: part G. It speaks of any program.
-/
import Derived.Test.YtlegcfjafdihlaaGreatDoorEvF
namespace Go.Proofs.YtlegcfjafdihlaaGreatDoor.Ev
open Go.RowKit
set_option linter.unusedSimpArgs false
set_option linter.unusedVariables false

structure Sn where
  T : Tri Value
  H : Hp
  nx : Nat
def StepAt (P : Program) (G : Env) (d : Nat) (ops : Array Oper) (s : Sn) (o : Oper) (v : Value) (S W : Nat) (s' : Sn) : Prop :=
  s'.T = put d s.T o.dst v ∧ Stp s.H s.nx s'.H s'.nx W ∧
  ((Region.wanted o (yieldedT d ops s.T) = true ∧ OpOk P G d s.T s.H s.nx o v s'.H s'.nx S W) ∨ (Region.wanted o (yieldedT d ops s.T) = false ∧ v = undef ∧ s'.H = s.H ∧ s'.nx = s.nx ∧ W = 0))
def glbOk (G : Env) : Operand → Prop
  | .tmp _ => True
  | .const v => flat v = true
  | .global g => ∃ l, G g = some l ∧ l.blk = g ∧ l.off = 0
  | .func _ => True
structure RegSt (G : Env) (d : Nat) (ops : Array Oper) (sz : Nat) : Prop where
  size : sz ≤ 2 ^ d
  dst : ∀ (i : Nat) (o : Oper), ops[i]? = some o → ∀ d, o.dst = some d → d < sz
  looks : ∀ (i : Nat) (o : Oper), ops[i]? = some o → ∀ x ∈ o.looksAt ops, x < sz
  glb : ∀ (i : Nat) (o : Oper), ops[i]? = some o → ∀ x ∈ o.op.operands, glbOk G x
structure RegDr (ops : Array Oper) : Prop where
  edges : ∀ (i : Nat) (o : Oper), ops[i]? = some o → ∀ e ∈ o.after, Region.binds .any e = true → e.on < i
  pairs : ∀ (i j : Nat) (oi oj : Oper), i < j → ops[i]? = some oi → ops[j]? = some oj → (∃ e ∈ oj.after, Region.binds .any e = true ∧ e.on = i) ∨ oi.apart ops oj = true
inductive Anc (ops : Array Oper) (i : Nat) : Nat → Prop
  | edge (j : Nat) (o : Oper) (e : Edge) (h : ops[j]? = some o) (he : e ∈ o.after) (hb : Region.binds .any e = true) (hi : e.on = i) : Anc ops i j
  | step (j : Nat) (o : Oper) (e : Edge) (h : ops[j]? = some o) (he : e ∈ o.after) (hb : Region.binds .any e = true) (ha : Anc ops i e.on) : Anc ops i j

def RT (d : Nat) (ρ : Env) (sz : Nat) (T : Tri Value) (a : Act) : Prop := a.tmps.size = sz ∧ ∀ x, x < sz → R ρ (tget d T x) (a.tmps.getD x undef)
theorem tget_put {d : Nat} {T : Tri Value} {y x : Nat} {v : Value} (hd : y < 2 ^ d) (hx : x < 2 ^ d) : tget d (put d T (some y) v) x = if x = y then v else tget d T x := by
  unfold tget put
  by_cases e : x = y
  · subst e; simp [Tri.get_set]
  · simp only [if_neg e]
    rw [Tri.get_set_ne d T y x v (Ne.symm e) hd hx]
theorem R.bool_inv {ρ : Env} {v u : Value} (h : R ρ v u) (b : Bool) : v = .bool b ↔ u = .bool b := by
  constructor
  · rintro rfl; exact h.flat_inv rfl
  · rintro rfl; cases h with
    | flat => rfl
theorem wanted_eq {ops : Array Oper} {o : Oper} {y y' : Nat → Option Bool} (h : ∀ g wv, o.guard = some (g, wv) → y g = y' g) : Region.wanted o y = Region.wanted o y' := by
  unfold Region.wanted
  cases hg : o.guard with
  | none => rfl
  | some gw => obtain ⟨g, wv⟩ := gw; simp only [h g wv hg]
theorem yielded_eq {d : Nat} {ρ : Env} {ops : Array Oper} {T : Tri Value} {tmps : Array Value} {g : Nat} (h : ∀ t, (ops[g]?).bind (·.dst) = some t → t < tmps.size ∧ R ρ (tget d T t) (tmps.getD t undef)) : yielded ops tmps g = yieldedT d ops T g := by
  unfold yielded yieldedT
  cases ht : (ops[g]?).bind (·.dst) with
  | none => rfl
  | some t =>
    obtain ⟨h1, h2⟩ := h t ht
    have e : tmps[t]? = some (tmps.getD t undef) := by simp [h1]
    simp only [Option.bind_some, e]
    generalize tmps.getD t undef = u at *
    generalize tget d T t = v at *
    by_cases hv : ∃ b, v = .bool b
    · obtain ⟨b, rfl⟩ := hv
      rw [(h2.bool_inv b).1 rfl]
    · have hu : ¬ ∃ b, u = .bool b := fun ⟨b, e⟩ => hv ⟨b, (h2.bool_inv b).2 e⟩
      split
      · rename_i he; exact absurd ⟨_, Option.some.inj he⟩ hu
      · split
        · rename_i he; exact absurd ⟨_, rfl⟩ hv
        · rfl

theorem countP_set (p q : Nat → Bool) (j : Nat) (hq : ∀ i, i ≠ j → q i = p i) (hp : p j = true) (hqj : q j = false) : ∀ m, (List.range m).countP q + (if j < m then 1 else 0) = (List.range m).countP p
  | 0 => by simp
  | m + 1 => by
    have ih := countP_set p q j hq hp hqj m
    simp only [List.range_succ, List.countP_append, List.countP_cons, List.countP_nil]
    by_cases e : m = j
    · subst e
      simp [hp, hqj] at ih ⊢
      omega
    · rw [hq m e]
      by_cases h : j < m
      · simp [h, show j < m + 1 by omega] at ih ⊢; omega
      · simp [h, show ¬ j < m + 1 by omega] at ih ⊢; omega

section
variable {d : Nat} {P : Program} {G : Env} {ops : Array Oper} {sz : Nat} {f : Nat → Sn} {ev : Nat → Value} {Sx Wx : Nat → Nat} {St Wt : Nat} {ρ0 : Env} {h0 : AH} {w0 : World} {df : List Deferred} {Q : Exit → Act → World → Prop}
def dstW (ops : Array Oper) (i x : Nat) : Prop := ∃ o, ops[i]? = some o ∧ o.dst = some x
structure Inv (d : Nat) (G : Env) (ops : Array Oper) (sz : Nat) (f : Nat → Sn) (Wx : Nat → Nat) (Wt : Nat) (ρ0 : Env) (h0 : AH) (w0 : World) (df : List Deferred) (D : Nat → Prop) (a : Act) (w : World) (ρ : Env) (g : AH) (Tc : Nat → Value) : Prop where
  closed : ∀ (i : Nat) (o : Oper), ops[i]? = some o → D i → ∀ e ∈ o.after, Region.binds .any e = true → D e.on
  ev : Ev1 G ρ0 h0 w0 (f 0).nx (f ops.size).nx Wt g ρ w
  out : ∀ n, Wt.testBit n = false → g n = h0 n
  names : ∀ n l, ρ n = some l → ρ0 n = some l ∨ ∃ i, i < ops.size ∧ D i ∧ (f i).nx ≤ n ∧ n < (f (i + 1)).nx
  heap : PropD ops.size (fun i n => (Wx i).testBit n = true) (fun i => hp (f i).H) h0 D g
  tmps : PropD ops.size (dstW ops) (fun i x => if x < sz then tget d (f i).T x else undef) (fun x => if x < sz then tget d (f 0).T x else undef) D Tc
  size : a.tmps.size = sz
  rel : ∀ x, x < sz → R ρ (Tc x) (a.tmps.getD x undef)
  defers : a.defers = df

theorem upd_out {g h : AH} {W : Nat} (ho : ∀ n, W.testBit n = false → g n = h n) : upd h W g = g := by
  funext n; unfold upd; split
  · rfl
  · rename_i k; exact (ho n (by simpa using k)).symm
theorem or_sub {a b : Nat} (h : ∀ n, b.testBit n = true → a.testBit n = true) : a ||| b = a := by
  apply Nat.eq_of_testBit_eq
  intro n
  rw [Nat.testBit_or]
  cases hb : b.testBit n
  · simp
  · simp [h n hb]
theorem nx_mono {n : Nat} (hst : ∀ i, i < n → (f i).nx ≤ (f (i + 1)).nx) (i : Nat) : ∀ j, i ≤ j → j ≤ n → (f i).nx ≤ (f j).nx
  | 0, h, _ => by have : i = 0 := by omega
                  subst this; exact Nat.le_refl _
  | j + 1, h, h2 => by
    by_cases e : i = j + 1
    · subst e; exact Nat.le_refl _
    · exact Nat.le_trans (nx_mono hst i j (by omega) (by omega)) (hst j (by omega))

/-- One operation that may come up now. -/
theorem inv_step (hst : RegSt G d ops sz) (hdr : RegDr ops) (hops : ∀ i o, ops[i]? = some o → StepAt P G d ops (f i) o (ev i) (Sx i) (Wx i) (f (i + 1)))
    (hg : Good G ρ0 h0 w0) (hS : ∀ n, St.testBit n = true → h0 n = hp (f 0).H n) (hSx : ∀ i, i < ops.size → ∀ n, (Sx i).testBit n = true → St.testBit n = true) (hWx : ∀ i, i < ops.size → ∀ n, (Wx i).testBit n = true → Wt.testBit n = true)
    (hfr : ∀ n, (f 0).nx ≤ n → n < (f ops.size).nx → ρ0 n = none)
    (hdyn : ∀ i j, i < j → j < ops.size → (∀ n, ¬ ((Wx i).testBit n = true ∧ ((Sx j).testBit n = true ∨ (Wx j).testBit n = true)) ∧ ¬ ((Wx j).testBit n = true ∧ (Sx i).testBit n = true)) ∨ Anc ops i j)
    {D : Nat → Prop} {a : Act} {w : World} {ρ : Env} {g : AH} {Tc : Nat → Value} (hI : Inv d G ops sz f Wx Wt ρ0 h0 w0 df D a w ρ g Tc) {j : Nat} {o : Oper} (ho : ops[j]? = some o) (hD : ¬ D j)
    (hready : ∀ e ∈ o.after, Region.binds .any e = true → D e.on) {D' : Nat → Prop} (hD' : ∀ i, D' i ↔ D i ∨ i = j) {K : Act → World → Prop}
    (hK : ∀ a' w' ρ' g' Tc', Inv d G ops sz f Wx Wt ρ0 h0 w0 df D' a' w' ρ' g' Tc' → K a' w') : wpOp P ops Q j K a w := by
  have hj : j < ops.size := (Array.getElem?_eq_some_iff.1 ho).1
  have hlt : ∀ i, i < ops.size → ∃ oi, ops[i]? = some oi := fun i hi => ⟨ops[i], Array.getElem?_eq_getElem hi⟩
  have hmono : ∀ i, i < ops.size → (f i).nx ≤ (f (i + 1)).nx := fun i hi => by obtain ⟨oi, hoi⟩ := hlt i hi; exact (hops i oi hoi).2.1.le
  have hanc : ∀ i k, Anc ops i k → (D k ∨ k = j) → D i := by
    intro i k hA
    induction hA with
    | edge k ok e hk he hb hi =>
      intro hDk
      subst hi
      rcases hDk with hDk | rfl
      · exact hI.closed k ok hk hDk e he hb
      · rw [ho] at hk; cases hk; exact hready e he hb
    | step k ok e hk he hb _ ih =>
      intro hDk
      refine ih (.inl ?_)
      rcases hDk with hDk | rfl
      · exact hI.closed k ok hk hDk e he hb
      · rw [ho] at hk; cases hk; exact hready e he hb
  obtain ⟨hT, hstp, hstep⟩ := hops j o ho
  -- what the operation looks at is what it was in the lexical order
  have keepT : ∀ i, i < ops.size → ∀ x, ¬ dstW ops i x → (fun i x => if x < sz then tget d (f i).T x else undef) (i + 1) x = (fun i x => if x < sz then tget d (f i).T x else undef) i x := by
    intro i hi x hx
    obtain ⟨oi, hoi⟩ := hlt i hi
    dsimp only
    by_cases hxs : x < sz
    · rw [if_pos hxs, if_pos hxs, (hops i oi hoi).1]
      cases hd : oi.dst with
      | none => rfl
      | some d =>
        have hds := hst.dst i oi hoi d hd
        have hsz := hst.size
        rw [tget_put (Nat.lt_of_lt_of_le hds hsz) (Nat.lt_of_lt_of_le hxs hsz), if_neg]
        rintro rfl
        exact hx ⟨oi, hoi, hd⟩
    · rw [if_neg hxs, if_neg hxs]
  have keepH : ∀ i, i < ops.size → ∀ n, ¬ (Wx i).testBit n = true → hp (f (i + 1)).H n = hp (f i).H n := by
    intro i hi n hn
    obtain ⟨oi, hoi⟩ := hlt i hi
    exact (hops i oi hoi).2.1.keep n (by simpa using hn)
  have pairT : ∀ i oi, ops[i]? = some oi → i ≠ j → ∀ x, oi.dst = some x → (x ∈ o.looksAt ops ∨ o.dst = some x) → (i < j → D i) ∧ (j < i → ¬ D i) := by
    intro i oi hoi hne x hx hlook
    refine ⟨fun hij => ?_, fun hji hDi => ?_⟩
    · rcases hdr.pairs i j oi o hij hoi ho with ⟨e, he, hb, hi⟩ | hap
      · rw [← hi]; exact hready e he hb
      · obtain ⟨h1, h2, h3⟩ := Oper.apart_spec hap
        rcases hlook with h4 | h4
        · exact absurd h4 (h1 x hx)
        · exact absurd h4 (h2 x hx)
    · rcases hdr.pairs j i o oi hji ho hoi with ⟨e, he, hb, hi⟩ | hap
      · have := hI.closed i oi hoi hDi e he hb
        rw [hi] at this; exact hD this
      · obtain ⟨h1, h2, h3⟩ := Oper.apart_spec hap
        rcases hlook with h4 | h4
        · exact absurd h4 (h3 x hx)
        · exact absurd hx (h2 x h4)
  have hlook : ∀ x ∈ o.looksAt ops, Tc x = tget d (f j).T x := by
    intro x hx
    have hxs := hst.looks j o ho x hx
    have := hI.tmps.agree (F := fun i x => if x < sz then tget d (f i).T x else undef) keepT hj hD rfl (fun i hi ⟨oi, hoi, hd⟩ => by
      by_cases e : i = j
      · subst e; exact ⟨fun h => by omega, fun h => by omega⟩
      · exact pairT i oi hoi e x hd (.inl hx)) (x := x)
    simpa [hxs] using this
  have hwant : Region.wanted o (yielded ops a.tmps) = Region.wanted o (yieldedT d ops (f j).T) := by
    refine wanted_eq (ops := ops) fun gd wv hgd => ?_
    refine yielded_eq (ρ := ρ) fun t ht => ?_
    have hl : t ∈ o.looksAt ops := by simp [Oper.looksAt, hgd, ht]
    have hts := hst.looks j o ho t hl
    exact ⟨by rw [hI.size]; exact hts, by rw [← hlook t hl]; exact hI.rel t hts⟩
  have hsz := hst.size
  have newT : ∀ v u ρ', Sub ρ ρ' → R ρ' v u → v = ev j → ∃ Tc', PropD ops.size (dstW ops) (fun i x => if x < sz then tget d (f i).T x else undef) (fun x => if x < sz then tget d (f 0).T x else undef) D' Tc' ∧
      (∀ x, x < sz → R ρ' (Tc' x) ((a.put o.dst u).tmps.getD x undef)) ∧ (a.put o.dst u).tmps.size = sz := by
    intro v u ρ' hsub hr hv
    subst hv
    refine ⟨fun x => if o.dst = some x then ev j else Tc x, ?_, ?_, ?_⟩
    · refine hI.tmps.step (j := j) (fun x hx => ?_) (fun x hx => ?_) (fun x hx i hi hDi hji hwi => ?_) (fun i _ => hD' i) hj
      · obtain ⟨o', ho', hd⟩ := hx
        rw [ho] at ho'; cases ho'
        have hds := hst.dst j o ho x hd
        simp only [hd, if_true, if_pos hds]
        rw [hT, hd, tget_put (Nat.lt_of_lt_of_le hds hsz) (Nat.lt_of_lt_of_le hds hsz), if_pos rfl]
      · have : o.dst ≠ some x := fun h => hx ⟨o, ho, h⟩
        simp [this]
      · obtain ⟨o', ho', hd⟩ := hx
        rw [ho] at ho'; cases ho'
        obtain ⟨oi, hoi, hdi⟩ := hwi
        exact (pairT i oi hoi (by omega) x hdi (.inr hd)).2 hji hDi
    · intro x hx
      dsimp only
      cases hd : o.dst with
      | none => simp only [Act.put]; simpa using (hI.rel x hx).mono hsub
      | some d =>
        have hds := hst.dst j o ho d hd
        by_cases e : d = x
        · subst e
          have : d < a.tmps.size := by rw [hI.size]; exact hds
          simp [Act.put, this, hr]
        · have e2 : ¬ (some d = some x) := fun h => e (Option.some.inj h)
          simp only [if_neg e2, Act.put]
          have := (hI.rel x hx).mono hsub
          simpa [Array.getElem?_setIfInBounds_ne e] using this
    · cases hd : o.dst <;> simp [Act.put, hI.size]
  have hdef : ∀ u, (a.put o.dst u).defers = df := by intro u; cases hd : o.dst <;> simp [Act.put, hI.defers]
  have closed' : ∀ (i : Nat) (oi : Oper), ops[i]? = some oi → D' i → ∀ e ∈ oi.after, Region.binds .any e = true → D' e.on := by
    intro i oi hoi hDi e he hb
    rcases (hD' i).1 hDi with h1 | rfl
    · exact (hD' _).2 (.inl (hI.closed i oi hoi h1 e he hb))
    · rw [ho] at hoi; cases hoi; exact (hD' _).2 (.inl (hready e he hb))
  unfold wpOp
  simp only [ho]
  rcases hstep with ⟨hw1, hok⟩ | ⟨hw1, hv, hH, hnx, hW0⟩
  · rw [hwant, hw1, if_pos rfl]
    left
    have confH : ∀ n, ((Sx j).testBit n = true ∨ (Wx j).testBit n = true) → ∀ i, i < ops.size → (Wx i).testBit n = true → i ≠ j → (i < j → D i) ∧ (j < i → ¬ D i) := by
      intro n hn i hi hw hne
      refine ⟨fun hij => ?_, fun hji hDi => ?_⟩
      · rcases hdyn i j hij hj with h1 | h1
        · exact absurd ⟨hw, hn⟩ (h1 n).1
        · exact hanc i j h1 (.inr rfl)
      · rcases hdyn j i hji hi with h1 | h1
        · rcases hn with h2 | h2
          · exact absurd ⟨hw, h2⟩ (h1 n).2
          · exact absurd ⟨h2, .inr hw⟩ (h1 n).1
        · exact hD (hanc j i h1 (.inl hDi))
    have hgood : Good G ρ g w := by have := hI.ev.good; rwa [upd_out hI.out] at this
    refine hok ρ g w a hgood (fun n hn => ?_) (fun n h1 h2 => ?_) (fun x hx => ?_) K Q (fun ρ' u w' he hr => ?_)
    · exact hI.heap.agree (F := fun i => hp (f i).H) keepH hj hD (hS n (hSx j hj n hn)) fun i hi hwi => by
        by_cases e : i = j
        · subst e; exact ⟨fun h => by omega, fun h => by omega⟩
        · exact confH n (.inl hn) i hi hwi e
    · cases hq : ρ n with
      | none => rfl
      | some l =>
        rcases hI.names n l hq with h3 | ⟨i, hi, hDi, h3, h4⟩
        · have := hfr n (Nat.le_trans (nx_mono hmono 0 j (by omega) (by omega)) h1) (Nat.lt_of_lt_of_le h2 (nx_mono hmono (j + 1) ops.size (by omega) (Nat.le_refl _)))
          rw [this] at h3; cases h3
        · exfalso
          by_cases e : i = j
          · subst e; exact hD hDi
          · by_cases h5 : i < j
            · have := nx_mono hmono (i + 1) j (by omega) (by omega); omega
            · have := nx_mono hmono (j + 1) i (by omega) (by omega); omega
    · cases x with
      | tmp t =>
        have hl : t ∈ o.looksAt ops := List.mem_append_left _ (List.mem_filterMap.2 ⟨.tmp t, by simpa using hx, rfl⟩)
        have hts := hst.looks j o ho t hl
        have := hI.rel t hts
        rw [hlook t hl] at this
        exact this
      | const v => exact .flat v (hst.glb j o ho _ hx)
      | global k =>
        obtain ⟨l, h1, h2, h3⟩ := hst.glb j o ho _ hx
        have := R.ptr k 0 l (hgood.base k l h1)
        rw [h2, h3] at this
        exact this
      | func k => exact .flat _ rfl
    · obtain ⟨Tc', t1, t2, t3⟩ := newT (ev j) u ρ' he.sub hr rfl
      have hu : ∀ n, (Wx j).testBit n = true → hp (f (j + 1)).H n = upd g (Wx j) (hp (f (j + 1)).H) n := fun n hn => by simp [upd, hn]
      have he2 := (he.as hu).wide (nx_mono hmono 0 j (by omega) (by omega)) (nx_mono hmono (j + 1) ops.size (by omega) (Nat.le_refl _))
      have hev := Ev1.trans' hI.ev (by rw [upd_out hI.out]; exact he2) (fun n hn => by rw [upd_out hI.out]; simp [upd, hn]) hg
      rw [or_sub (hWx j hj)] at hev
      refine hK _ w' ρ' (upd g (Wx j) (hp (f (j + 1)).H)) Tc' ⟨closed', hev, fun n hn => ?_, fun n l hl => ?_, ?_, t1, t3, t2, hdef u⟩
      · have : (Wx j).testBit n = false := by
          cases hq : (Wx j).testBit n
          · rfl
          · have := hWx j hj n hq; rw [hn] at this; cases this
        simp [upd, this, hI.out n hn]
      · rcases he.dom n l hl with h1 | h1
        · rcases hI.names n l h1 with h2 | ⟨i, hi, hDi, h2⟩
          · exact .inl h2
          · exact .inr ⟨i, hi, (hD' i).2 (.inl hDi), h2⟩
        · exact .inr ⟨j, hj, (hD' j).2 (.inr rfl), h1⟩
      · refine hI.heap.step (j := j) (fun n hn => by simp [upd, hn]) (fun n hn => ?_) (fun n hn i hi hDi hji hwi => ?_) (fun i _ => hD' i) hj
        · have : (Wx j).testBit n = false := by simpa using hn
          simp [upd, this]
        · exact (confH n (.inr hn) i hi hwi (by omega)).2 hji hDi
  · rw [hwant, hw1]
    simp only [Bool.false_eq_true, if_false]
    obtain ⟨Tc', t1, t2, t3⟩ := newT (ev j) undef ρ (fun _ _ h => h) (by rw [hv]; exact R_undef) rfl
    refine hK _ w ρ g Tc' ⟨closed', hI.ev, hI.out, fun n l hl => ?_, ?_, t1, t3, t2, hdef undef⟩
    · rcases hI.names n l hl with h2 | ⟨i, hi, hDi, h2⟩
      · exact .inl h2
      · exact .inr ⟨i, hi, (hD' i).2 (.inl hDi), h2⟩
    · refine hI.heap.step (j := j) (fun n hn => ?_) (fun n hn => rfl) (fun n hn => ?_) (fun i _ => hD' i) hj
      · rw [hW0] at hn; simp at hn
      · rw [hW0] at hn; simp at hn
end
end Go.Proofs.YtlegcfjafdihlaaGreatDoor.Ev
