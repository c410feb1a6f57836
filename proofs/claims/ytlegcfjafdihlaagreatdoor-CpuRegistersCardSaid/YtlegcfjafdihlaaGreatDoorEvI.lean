/-
  The evaluator of calls at given arguments, and its soundness: part I. It speaks of any program.
-/
import Derived.Test.YtlegcfjafdihlaaGreatDoorEvRa
namespace Go.Proofs.YtlegcfjafdihlaaGreatDoor.Ev
open Go.RowKit
set_option linter.unusedSimpArgs false
set_option linter.unusedVariables false

theorem RT.put {dd : Nat} {ρ ρ' : Env} {sz : Nat} {T : Tri Value} {a : Act} (h : RT dd ρ sz T a) (hs : Sub ρ ρ') (hsz : sz ≤ 2 ^ dd) {d : Option Nat} (hd : ∀ x, d = some x → x < sz) {v u : Value} (hr : R ρ' v u) : RT dd ρ' sz (Ev.put dd T d v) (a.put d u) := by
  cases d with
  | none => exact ⟨h.1, fun x hx => (h.2 x hx).mono hs⟩
  | some d =>
    have hds := hd d rfl
    refine ⟨by simp [Act.put, h.1], fun x hx => ?_⟩
    rw [tget_put (Nat.lt_of_lt_of_le hds hsz) (Nat.lt_of_lt_of_le hx hsz)]
    have hlt : d < a.tmps.size := by rw [h.1]; exact hds
    by_cases e : x = d
    · subst e; simp [Act.put, hlt, hr]
    · rw [if_neg e]
      have := (h.2 x hx).mono hs
      simpa [Act.put, Array.getElem?_setIfInBounds_ne (Ne.symm e)] using this
theorem put_defers (a : Act) (d : Option Nat) (u : Value) : (a.put d u).defers = a.defers := by cases d <;> rfl

section
variable {d : Nat} {P : Program} {G : Env} {ops : Array Oper} {sz : Nat} {f : Nat → Sn} {ev : Nat → Value} {Sx Wx : Nat → Nat}
theorem opnds_rel (hst : RegSt G d ops sz) {ρ : Env} {T : Tri Value} {a : Act} (hb : Sub G ρ) (hr : RT d ρ sz T a) {j : Nat} {o : Oper} (ho : ops[j]? = some o) : ∀ x ∈ o.op.operands, R ρ (opnd d T x) (a.eval x) := by
  intro x hx
  cases x with
  | tmp t => exact hr.2 t (hst.looks j o ho t (List.mem_append_left _ (List.mem_filterMap.2 ⟨.tmp t, by simpa using hx, rfl⟩)))
  | const v => exact .flat v (hst.glb j o ho _ hx)
  | global k =>
    obtain ⟨l, h1, h2, h3⟩ := hst.glb j o ho _ hx
    have := R.ptr k 0 l (hb k l h1)
    rw [h2, h3] at this
    exact this
  | func k => exact .flat _ rfl
theorem wanted_rel (hst : RegSt G d ops sz) {ρ : Env} {T : Tri Value} {a : Act} (hr : RT d ρ sz T a) {j : Nat} {o : Oper} (ho : ops[j]? = some o) : Region.wanted o (yielded ops a.tmps) = Region.wanted o (yieldedT d ops T) := by
  refine wanted_eq (ops := ops) fun gd wv hgd => ?_
  refine yielded_eq (ρ := ρ) fun t ht => ?_
  have hts := hst.looks j o ho t (by simp [Oper.looksAt, hgd, ht])
  exact ⟨by rw [hr.1]; exact hts, hr.2 t hts⟩
theorem region_seq (hst : RegSt G d ops sz) (hops : ∀ i o, ops[i]? = some o → StepAt P G d ops (f i) o (ev i) (Sx i) (Wx i) (f (i + 1))) {Q : Exit → Act → World → Prop} :
    ∀ (len k : Nat) (a : Act) (w : World) (ρ : Env) (h : AH), k + len = ops.size → Good G ρ h w → (∀ i, k ≤ i → i < ops.size → ∀ m, (Sx i).testBit m = true → h m = hp (f k).H m) → (∀ m, (f k).nx ≤ m → m < (f ops.size).nx → ρ m = none) → RT d ρ sz (f k).T a →
      (∀ ρ' a' w' W', (∀ m, W'.testBit m = true ↔ ∃ i, k ≤ i ∧ i < ops.size ∧ (Wx i).testBit m = true) → Ev1 G ρ h w (f k).nx (f ops.size).nx W' (hp (f ops.size).H) ρ' w' → RT d ρ' sz (f ops.size).T a' → a'.defers = a.defers → Q .normal a' w') →
      wpOps P ops Q (List.range' k len) a w
  | 0, k, a, w, ρ, h, hk, hg, _, _, hr, hQ => by
    have e : k = ops.size := by omega
    subst e
    refine hQ ρ a w 0 (fun m => ⟨fun h => by simp at h, fun ⟨i, h1, h2, _⟩ => by omega⟩) (Ev1.refl hg _ _) hr rfl
  | len + 1, k, a, w, ρ, h, hk, hg, hS, hfr, hr, hQ => by
    have hks : k < ops.size := by omega
    have hlt : ∀ i, i < ops.size → ∃ oi, ops[i]? = some oi := fun i hi => ⟨ops[i], Array.getElem?_eq_getElem hi⟩
    have hmono : ∀ i, i < ops.size → (f i).nx ≤ (f (i + 1)).nx := fun i hi => by obtain ⟨oi, hoi⟩ := hlt i hi; exact (hops i oi hoi).2.1.le
    obtain ⟨o, ho⟩ := hlt k hks
    obtain ⟨hT, hstp, hstep⟩ := hops k o ho
    have hm1 := nx_mono hmono k (k + 1) (by omega) (by omega)
    have hm2 := nx_mono hmono (k + 1) ops.size (by omega) (Nat.le_refl _)
    rw [List.range'_succ, wpOps_cons]
    unfold wpOp
    simp only [ho]
    rw [wanted_rel hst hr ho]
    have rest : ∀ (v : Value) (ρ1 : Env) (u : Value) (w1 : World), Ev1 G ρ h w (f k).nx (f (k + 1)).nx (Wx k) (hp (f (k + 1)).H) ρ1 w1 → R ρ1 (ev k) u → wpOps P ops Q (List.range' (k + 1) len) (a.put o.dst u) w1 := by
      intro v ρ1 u w1 he hru
      have hput : RT d ρ1 sz (f (k + 1)).T (a.put o.dst u) := by rw [hT]; exact hr.put he.sub hst.size (fun x hx => hst.dst k o ho x hx) hru
      refine region_seq hst hops len (k + 1) _ w1 ρ1 (upd h (Wx k) (hp (f (k + 1)).H)) (by omega) he.good (fun i hi hin m hm => ?_) (fun m h1 h2 => ?_) hput (fun ρ' a' w' W' hW he2 hr2 hd => ?_)
      · unfold upd
        split
        · rfl
        · rename_i hw
          rw [hS i (by omega) hin m hm, hstp.keep m (by simpa using hw)]
      · cases hq : ρ1 m with
        | none => rfl
        | some l =>
          rcases he.dom m l hq with h3 | h3
          · have := hfr m (by omega) h2
            rw [this] at h3; cases h3
          · omega
      · refine hQ ρ' a' w' (Wx k ||| W') (fun m => ?_) (Ev1.trans he he2 hm1 hm2 (fun m hm => ?_) hg) hr2 (by rw [hd, put_defers])
        · rw [Nat.testBit_or, Bool.or_eq_true, hW]
          constructor
          · rintro (h1 | ⟨i, h1, h2, h3⟩)
            · exact ⟨k, Nat.le_refl _, hks, h1⟩
            · exact ⟨i, by omega, h2, h3⟩
          · rintro ⟨i, h1, h2, h3⟩
            by_cases e : i = k
            · subst e; exact .inl h3
            · exact .inr ⟨i, by omega, h2, h3⟩
        · exact seq_same (F := fun i => hp (f i).H) (Wr := fun i n => (Wx i).testBit n = true) (n := ops.size) (fun i hi n hn => by
            obtain ⟨oi, hoi⟩ := hlt i hi
            exact (hops i oi hoi).2.1.keep n (by simpa using hn)) m (k + 1) ops.size (by omega) (Nat.le_refl _) (fun i h1 h2 h3 => by
              have := (hW m).2 ⟨i, h1, h2, h3⟩
              rw [hm] at this; cases this)
    rcases hstep with ⟨hw1, hok⟩ | ⟨hw1, hv, hH, hnx, hW0⟩
    · rw [hw1, if_pos rfl]
      left
      exact hok ρ h w a hg (fun n hn => hS k (Nat.le_refl _) hks n hn) (fun n h1 h2 => hfr n h1 (by omega)) (opnds_rel hst hg.base hr ho) _ Q fun ρ1 u w1 he hru => rest (ev k) ρ1 u w1 he hru
    · rw [hw1]
      simp only [Bool.false_eq_true, if_false]
      refine rest (ev k) ρ undef w ?_ (by rw [hv]; exact R_undef)
      rw [hnx, hW0]
      exact Ev1.refl hg _ _

/-! ### What the evaluator says of a region's operations -/
theorem evOps_trace {call : FuncId → List Value → Hp → Nat → Rs} (hop : ∀ T H nx (o : Oper) v H' nx' S W, nx % 2 = 0 → (∃ i : Nat, ops[i]? = some o) → evOp P call d T H nx o = .ok v H' nx' S W → Stp H nx H' nx' W ∧ OpOk P G d T H nx o v H' nx' S W) :
    ∀ (l : List Oper) (k : Nat) (T : Tri Value) (H : Hp) (nx S W : Nat) (log : List (Nat × Nat)) (T' : Tri Value) (H' : Hp) (nx' S' W' : Nat) (log' : List (Nat × Nat)), nx % 2 = 0 → (∀ j, l[j]? = ops[k + j]?) →
      evOps P call d ops l T H nx S W log = .ok T' H' nx' S' W' log' → ∃ (f : Nat → Sn) (ev : Nat → Value) (Sx Wx : Nat → Nat), f k = ⟨T, H, nx⟩ ∧ f (k + l.length) = ⟨T', H', nx'⟩ ∧
        (∀ j o, l[j]? = some o → StepAt P G d ops (f (k + j)) o (ev (k + j)) (Sx (k + j)) (Wx (k + j)) (f (k + j + 1))) ∧ (∀ n, S'.testBit n = true ↔ S.testBit n = true ∨ ∃ j, j < l.length ∧ (Sx (k + j)).testBit n = true) ∧
        (∀ n, W'.testBit n = true ↔ W.testBit n = true ∨ ∃ j, j < l.length ∧ (Wx (k + j)).testBit n = true) ∧ log'.length = l.length + log.length ∧ (∀ j, j < l.length → log'[l.length - 1 - j]? = some (Sx (k + j), Wx (k + j))) ∧ (∀ j, log'[l.length + j]? = log[j]?)
  | [], k, T, H, nx, S, W, log, T', H', nx', S', W', log', hpar, hl, h => by
    simp only [evOps, Os.ok.injEq] at h
    obtain ⟨rfl, rfl, rfl, rfl, rfl, rfl⟩ := h
    exact ⟨fun _ => ⟨T, H, nx⟩, fun _ => undef, fun _ => 0, fun _ => 0, rfl, rfl, fun j o h => by simp at h, fun n => by simp, fun n => by simp, by simp, fun j hj => by simp at hj, fun j => by simp⟩
  | o :: l, k, T, H, nx, S, W, log, T', H', nx', S', W', log', hpar, hl, h => by
    have ho : ops[k]? = some o := by simpa using (hl 0).symm
    have hl' : ∀ j, l[j]? = ops[k + 1 + j]? := fun j => by have := hl (j + 1); simpa [Nat.add_assoc, Nat.add_comm 1 j] using this
    have key : ∀ (T1 : Tri Value) (H1 : Hp) (nx1 S1 W1 : Nat) (v : Value), nx1 % 2 = 0 → StepAt P G d ops ⟨T, H, nx⟩ o v S1 W1 ⟨T1, H1, nx1⟩ →
        evOps P call d ops l T1 H1 nx1 (S ||| S1) (W ||| W1) ((S1, W1) :: log) = .ok T' H' nx' S' W' log' → ∃ (f : Nat → Sn) (ev : Nat → Value) (Sx Wx : Nat → Nat), f k = ⟨T, H, nx⟩ ∧ f (k + (l.length + 1)) = ⟨T', H', nx'⟩ ∧
        (∀ j o', (o :: l)[j]? = some o' → StepAt P G d ops (f (k + j)) o' (ev (k + j)) (Sx (k + j)) (Wx (k + j)) (f (k + j + 1))) ∧ (∀ n, S'.testBit n = true ↔ S.testBit n = true ∨ ∃ j, j < l.length + 1 ∧ (Sx (k + j)).testBit n = true) ∧
        (∀ n, W'.testBit n = true ↔ W.testBit n = true ∨ ∃ j, j < l.length + 1 ∧ (Wx (k + j)).testBit n = true) ∧ log'.length = l.length + 1 + log.length ∧ (∀ j, j < l.length + 1 → log'[l.length + 1 - 1 - j]? = some (Sx (k + j), Wx (k + j))) ∧ (∀ j, log'[l.length + 1 + j]? = log[j]?) := by
      intro T1 H1 nx1 S1 W1 v hpar1 hst h1
      obtain ⟨f, ev, Sx, Wx, g1, g2, g3, g4, g5, g6, g7, g8⟩ := evOps_trace hop l (k + 1) T1 H1 nx1 _ _ _ _ _ _ _ _ _ hpar1 hl' h1
      have ne : ∀ j, k + 1 + j ≠ k := fun j => by omega
      refine ⟨fun i => if i = k then ⟨T, H, nx⟩ else f i, fun i => if i = k then v else ev i, fun i => if i = k then S1 else Sx i, fun i => if i = k then W1 else Wx i, by simp, ?_, ?_, ?_, ?_, ?_, ?_, ?_⟩
      · rw [show k + (l.length + 1) = k + 1 + l.length by omega]
        simp only [if_neg (ne _), g2]
      · intro j o' hj
        cases j with
        | zero =>
          simp at hj; subst hj
          simp only [Nat.add_zero, if_true]
          rw [if_neg (by omega), g1]
          exact hst
        | succ j =>
          simp at hj
          rw [show k + (j + 1) = k + 1 + j by omega]
          simp only [if_neg (ne _)]
          rw [if_neg (by omega)]
          exact g3 j o' hj
      · intro n
        rw [g4, Nat.testBit_or, Bool.or_eq_true]
        constructor
        · rintro ((h2 | h2) | ⟨j, h2, h3⟩)
          · exact .inl h2
          · exact .inr ⟨0, by omega, by simpa using h2⟩
          · refine .inr ⟨j + 1, by omega, ?_⟩
            rw [show k + (j + 1) = k + 1 + j by omega]; dsimp only; rw [if_neg (ne _)]; exact h3
        · rintro (h2 | ⟨j, h2, h3⟩)
          · exact .inl (.inl h2)
          · cases j with
            | zero => exact .inl (.inr (by simpa using h3))
            | succ j =>
              rw [show k + (j + 1) = k + 1 + j by omega] at h3; dsimp only at h3; rw [if_neg (ne _)] at h3
              exact .inr ⟨j, by omega, h3⟩
      · intro n
        rw [g5, Nat.testBit_or, Bool.or_eq_true]
        constructor
        · rintro ((h2 | h2) | ⟨j, h2, h3⟩)
          · exact .inl h2
          · exact .inr ⟨0, by omega, by simpa using h2⟩
          · refine .inr ⟨j + 1, by omega, ?_⟩
            rw [show k + (j + 1) = k + 1 + j by omega]; dsimp only; rw [if_neg (ne _)]; exact h3
        · rintro (h2 | ⟨j, h2, h3⟩)
          · exact .inl (.inl h2)
          · cases j with
            | zero => exact .inl (.inr (by simpa using h3))
            | succ j =>
              rw [show k + (j + 1) = k + 1 + j by omega] at h3; dsimp only at h3; rw [if_neg (ne _)] at h3
              exact .inr ⟨j, by omega, h3⟩
      · rw [g6]; simp; omega
      · intro j hj
        cases j with
        | zero =>
          have := g8 0
          simpa using this
        | succ j =>
          have := g7 j (by omega)
          rw [show l.length + 1 - 1 - (j + 1) = l.length - 1 - j by omega, this, show k + (j + 1) = k + 1 + j by omega]
          simp only [if_neg (ne _)]
      · intro j
        have := g8 (j + 1)
        rw [show l.length + 1 + j = l.length + (j + 1) by omega, this]
        simp
    have h : evOps1 P call d ops o (evOps P call d ops l) T H nx S W log = .ok T' H' nx' S' W' log' := h
    unfold evOps1 at h
    split at h
    · rename_i hw
      rw [Tri.frc_eq] at h
      have := key (put d T o.dst undef) H nx 0 0 undef hpar ⟨rfl, Stp.refl _ _, .inr ⟨hw, rfl, rfl, rfl, rfl⟩⟩ (by simpa using h)
      simpa using this
    · rename_i hw
      split at h
      · cases h
      · rename_i v H1 nx1 S1 W1 hev
        unfold evOpsV at h
        simp only [vfrc_eq, Tri.frc_eq, nfrc_eq] at h
        obtain ⟨hs, hok⟩ := hop T H nx o v H1 nx1 S1 W1 hpar ⟨k, ho⟩ hev
        have := key (put d T o.dst v) H1 nx1 S1 W1 v (hs.par hpar) ⟨rfl, hs, .inl ⟨hw, hok⟩⟩ h
        simpa using this
def Ex.toExit : Ex → Exit
  | .nrm => .normal
  | .exit id => .exit id
  | .ret => .ret
/-- The marks that loops over functions have left among the deferred calls. -/
inductive Marks (B : Nat) (w : World) : Nat → List Deferred → Prop
  | nil (C : Nat) (h : C ≤ w.heap.size) : Marks B w C []
  | cons (D C : Nat) (ms : List Deferred) (hB : B ≤ D) (hC : D < C) (hc : C ≤ w.heap.size) (h : w.heap[D]? = some (.deferred (some []))) (t : Marks B w D ms) : Marks B w C ({ target := .collected D, args := #[] } :: ms)
def CodeOk (P : Program) (G : Env) (r : Option Nat) (d sz : Nat) (c : Code) (T : Tri Value) (H : Hp) (nx : Nat) (x : Ex) (T' : Tri Value) (H' : Hp) (nx' S W : Nat) : Prop :=
  ∀ (ρ : Env) (h : AH) (w : World) (a : Act), Good G ρ h w → (∀ n, S.testBit n = true → h n = hp H n) → (∀ n, nx ≤ n → n < nx' → ρ n = none) → RT d ρ sz T a → ∀ (n : Nat) (Q : Exit → Act → World → Prop),
    (∀ ρ' a' w', Ev1 G ρ h w nx nx' W (hp H') ρ' w' → RT d ρ' sz T' a' → (∃ ms, a'.defers = ms ++ a.defers ∧ Marks w.heap.size w' w'.heap.size ms) → Q x.toExit a' w') → c.wpIn (Fr r) n P Q a w
theorem region_ok {r : Option Nat} (hm : P.follows .mixedOrders = true) (hst : RegSt G d ops sz) (hnd : noDefer ops) {id : Nat} {draw : Bool} (hdr : draw = true → RegDr ops) {call : FuncId → List Value → Hp → Nat → Rs}
    (hop : ∀ T H nx (o : Oper) v H' nx' S W, nx % 2 = 0 → (∃ i : Nat, ops[i]? = some o) → evOp P call d T H nx o = .ok v H' nx' S W → Stp H nx H' nx' W ∧ OpOk P G d T H nx o v H' nx' S W)
    {T T' : Tri Value} {H H' : Hp} {nx nx' S W : Nat} {log : List (Nat × Nat)} (hpar : nx % 2 = 0) (h : evOps P call d ops ops.toList T H nx 0 0 [] = .ok T' H' nx' S W log) (ho : (!draw || orderOk ops W log) = true) :
    Stp H nx H' nx' W ∧ CodeOk P G r d sz (.region id ops draw) T H nx .nrm T' H' nx' S W := by
  obtain ⟨f, ev, Sx, Wx, g1, g2, g3, g4, g5, g6, g7, g8⟩ := evOps_trace hop ops.toList 0 T H nx 0 0 [] T' H' nx' S W log hpar (by simp) h
  simp only [Nat.zero_add, Array.length_toList, List.length_nil, Nat.add_zero, Nat.zero_testBit, Bool.false_eq_true, false_or, Array.getElem?_toList] at g2 g3 g4 g5 g6 g7
  have hlt : ∀ i, i < ops.size → ∃ oi, ops[i]? = some oi := fun i hi => ⟨ops[i], Array.getElem?_eq_getElem hi⟩
  have hmono : ∀ i, i < ops.size → (f i).nx ≤ (f (i + 1)).nx := fun i hi => by obtain ⟨oi, hoi⟩ := hlt i hi; exact (g3 i oi hoi).2.1.le
  have hpars : ∀ i, i ≤ ops.size → (f i).nx % 2 = 0 := by
    intro i
    induction i with
    | zero => intro _; rw [g1]; exact hpar
    | succ i ih => intro hi; obtain ⟨oi, hoi⟩ := hlt i (by omega); exact (g3 i oi hoi).2.1.par (ih (by omega))
  have hkeep : ∀ n, W.testBit n = false → hp H' n = hp H n := by
    intro n hn
    have := seq_same (F := fun i => hp (f i).H) (Wr := fun i n => (Wx i).testBit n = true) (n := ops.size) (fun i hi n hn => by
      obtain ⟨oi, hoi⟩ := hlt i hi
      exact (g3 i oi hoi).2.1.keep n (by simpa using hn)) n 0 ops.size (by omega) (Nat.le_refl _) (fun i h1 h2 h3 => by
        have := (g5 n).2 ⟨i, h2, h3⟩
        rw [hn] at this; cases this)
    simp only [g1, g2] at this
    exact this
  refine ⟨⟨by have := nx_mono hmono 0 ops.size (by omega) (Nat.le_refl _); rwa [g1, g2] at this, hkeep, fun _ => by have := hpars ops.size (Nat.le_refl _); rwa [g2] at this⟩, ?_⟩
  intro ρ h0 w a hg hS hfr hr n Q hQ
  refine atEnd_out ?_
  have hTr : RT d ρ sz (f 0).T a := by rw [g1]; exact hr
  cases draw with
  | false =>
    refine wpIn_region (ops_fr hnd (atEnd_in Q) _ _ _ ?_)
    rw [List.range_eq_range']
    refine region_seq hst g3 ops.size 0 a w ρ h0 (by omega) hg (fun i _ hi m hm' => ?_) (fun m h1 h2 => ?_) hTr (fun ρ' a' w' W' hW he hr' hd => ?_)
    · rw [g1]; exact hS m ((g4 m).2 ⟨i, hi, hm'⟩)
    · rw [g1] at h1; rw [g2] at h2; exact hfr m h1 h2
    · have e : W' = W := by
        apply Nat.eq_of_testBit_eq
        intro m
        rw [Bool.eq_iff_iff, hW, g5]
        constructor
        · rintro ⟨i, _, h2, h3⟩; exact ⟨i, h2, h3⟩
        · rintro ⟨i, h2, h3⟩; exact ⟨i, by omega, h2, h3⟩
      subst e
      rw [g1, g2] at he
      rw [g2] at hr'
      exact ⟨rfl, hQ ρ' a' w' he hr' ⟨[], by simpa using hd, .nil _ (Nat.le_refl _)⟩⟩
  | true =>
    have ho' : orderOk ops W log = true := by simpa using ho
    refine wpIn_region_any hm (any_fr hnd (atEnd_in Q) _ _ _ _ _ ?_)
    refine region_drawn (St := S) (Wt := W) hst (hdr rfl) g3 hg (fun n hn => by rw [g1]; exact hS n hn) (fun i hi n hn => (g4 n).2 ⟨i, hi, hn⟩) g5 (fun n h1 h2 => by rw [g1] at h1; rw [g2] at h2; exact hfr n h1 h2)
      (orderOk_spec (hdr rfl) (by simpa using g6) g7 (fun i hi n hn => (g5 n).2 ⟨i, hi, hn⟩) ho') hTr (fun ρ' a' w' he hr' hd => ?_)
    rw [g1, g2] at he
    rw [g2] at hr'
    exact ⟨rfl, hQ ρ' a' w' he hr' ⟨[], by simpa using hd, .nil _ (Nat.le_refl _)⟩⟩
end
end Go.Proofs.YtlegcfjafdihlaaGreatDoor.Ev
