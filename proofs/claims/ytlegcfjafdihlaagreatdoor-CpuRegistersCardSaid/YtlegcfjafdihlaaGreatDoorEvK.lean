/-
  The evaluator of calls at given arguments, and its soundness: part K. It speaks of any program.
-/
import Derived.Test.YtlegcfjafdihlaaGreatDoorEvRb
namespace Go.Proofs.YtlegcfjafdihlaaGreatDoor.Ev
open Go.RowKit
set_option linter.unusedSimpArgs false
set_option linter.unusedVariables false

def slotOk (G : Env) (sz : Nat) : Operand → Prop
  | .tmp t => t < sz
  | x => glbOk G x
/-- Is there no loop over a function in the code? -/
def noRange : Code → Bool
  | .rangeFunc .. => false
  | .seq a b => noRange a && noRange b
  | .cond _ a b => noRange a && noRange b
  | .block _ b => noRange b
  | .loop b => noRange b
  | _ => true
def codeSt (G : Env) (d sz : Nat) : Code → Prop
  | .region _ ops draw => RegSt G d ops sz ∧ (draw = true → RegDr ops) ∧ (∀ (i : Nat) (o : Oper), ops[i]? = some o → ∀ cs b, o.op ≠ .select cs b) ∧ noDefer ops
  | .seq a b => codeSt G d sz a ∧ codeSt G d sz b
  | .cond c a b => slotOk G sz c ∧ codeSt G d sz a ∧ codeSt G d sz b
  | .block _ b => codeSt G d sz b
  | .loop b => codeSt G d sz b
  | .rangeFunc g ps a b => sz ≤ 2 ^ d ∧ slotOk G sz g ∧ (∀ p ∈ ps.toList, p < sz) ∧ noRange a = true ∧ noRange b = true ∧ codeSt G d sz a ∧ codeSt G d sz b
  | _ => True
def resOk (sz : Nat) : ResultVar → Prop
  | .tmp t => t < sz
  | .cell a _ => a < sz
structure FnOk (P : Program) (G : Env) (f : FuncId) (fn : Func) : Prop where
  here : P.funcs[f]? = some fn
  name : (fn.name == "runtime.NumGoroutine") = false
  code : ∀ b, fn.body = some b → codeSt G (depOf fn.ntmps) fn.ntmps b
  res : ∀ r ∈ fn.results, resOk fn.ntmps r
section
variable {d : Nat} {P : Program} {G : Env} {F : FuncId → Option Func} {It : Iters}
def CallOk (P : Program) (G : Env) (call : FuncId → List Value → Hp → Nat → Rs) : Prop :=
  ∀ f args H nx v H' nx' S W, nx % 2 = 0 → call f args H nx = .ok v H' nx' S W → Stp H nx H' nx' W ∧ (∃ fn, P.funcs[f]? = some fn ∧ (fn.name == "runtime.NumGoroutine") = false ∧ fn.body.isNone = false) ∧
    ∀ (ρ : Env) (h : AH) (w : World) (args' : List Value), Good G ρ h w → (∀ n, S.testBit n = true → h n = hp H n) → (∀ n, nx ≤ n → n < nx' → ρ n = none) → RL ρ args args' →
      Calls P f ⟨args'⟩ w fun e w' => ∃ ρ' u, e = .returned u ∧ R ρ' v u ∧ Ev1 G ρ h w nx nx' W (hp H') ρ' w'

theorem resvar_run {ρ : Env} {sz : Nat} {h : AH} {w : World} {H : Hp} {T : Tri Value} {tmps : Array Value} (g : Good G ρ h w) (hr : ∀ x, x < sz → R ρ (tget d T x) (tmps.getD x undef)) (k : ResultVar → Sem Value) (k1 : ∀ t, k (.tmp t) = pure (tmps.getD t undef)) (k2 : ∀ a t, k (.cell a t) = (asAddr (tmps.getD a undef)).bind fun x => loadVar t x) :
    ∀ (rs : List ResultVar) (l : List Value) (S : Nat), evResults P d H T rs = some (l, S) → (∀ n, S.testBit n = true → h n = hp H n) → (∀ r ∈ rs, resOk sz r) →
      ∃ us, RL ρ l us ∧ (rs.mapM k).run P w = .ok us w
  | [], l, S, h1, _, _ => by
    simp only [evResults, Option.some.injEq, Prod.mk.injEq] at h1
    obtain ⟨rfl, rfl⟩ := h1
    exact ⟨[], .nil, rfl⟩
  | .tmp t :: rs, l, S, h1, hS, hres => by
    simp only [evResults] at h1
    split at h1
    · rename_i l' S' he
      simp only [Option.some.injEq, Prod.mk.injEq] at h1
      obtain ⟨rfl, rfl⟩ := h1
      obtain ⟨us, h2, h3⟩ := resvar_run g hr k k1 k2 rs l' S' he hS fun r hm => hres r (by simp [hm])
      refine ⟨tmps.getD t undef :: us, .cons _ _ _ _ (hr t (hres (.tmp t) (by simp))) h2, ?_⟩
      simp only [List.mapM_cons, Sem.run_bind, Sem.run_pure, Result.andThen_ok, h3, k1]
    · cases h1
  | .cell a t :: rs, l, S, h1, hS, hres => by
    simp only [evResults] at h1
    split at h1
    · rename_i l' S' n off he hp1
      have hsl : ∀ (S2 : Nat), S = S' ||| S2 → ∀ n, S'.testBit n = true → h n = hp H n := fun S2 e n hn => hS n (by rw [e, Nat.testBit_or, hn]; rfl)
      have hra := hr a (hres (.cell a t) (by simp))
      rw [hp1] at hra
      obtain ⟨_, lo, hlo, hu⟩ := hra.ptr_inv
      split at h1
      · rename_i cs e es sz' hat hag hsz
        split at h1
        · rename_i ds hsub
          simp only [Option.some.injEq, Prod.mk.injEq] at h1
          obtain ⟨rfl, rfl⟩ := h1
          obtain ⟨us, h2, h3⟩ := resvar_run g hr k k1 k2 rs l' S' he (hsl _ rfl) fun r hm => hres r (by simp [hm])
          obtain ⟨hh, hbl⟩ := g.at hlo (hS n (by rw [Nat.testBit_or, bit_self]; simp)) hat
          obtain ⟨vs, h4, h5⟩ := hbl.sub (P := P) hsub
          refine ⟨.agg ⟨vs⟩ :: us, .cons _ _ _ _ (.agg _ _ h5) h2, ?_⟩
          have hk : (k (.cell a t)).run P w = .ok (.agg ⟨vs⟩) w := by
            rw [k2, Sem.run_bind']
            simp only [hu, asAddr, loadVar, Sem.run_bind, Sem.run_pure, Result.andThen_ok, prun_sound hag w, prun_sound hsz w, if_true, h4]
          simp only [List.mapM_cons, Sem.run_bind, Sem.run_pure, Result.andThen_ok, h3, hk]
        · cases h1
      · rename_i cs e es _ hat hag
        split at h1
        · rename_i v hget
          simp only [Option.some.injEq, Prod.mk.injEq] at h1
          obtain ⟨rfl, rfl⟩ := h1
          obtain ⟨us, h2, h3⟩ := resvar_run g hr k k1 k2 rs l' S' he (hsl _ rfl) fun r hm => hres r (by simp [hm])
          obtain ⟨hh, hbl⟩ := g.at hlo (hS n (by rw [Nat.testBit_or, bit_self]; simp)) hat
          rw [lget_eq] at hget
          obtain ⟨u, h4, h5⟩ := hbl.cell hget
          refine ⟨u :: us, .cons _ _ _ _ h5 h2, ?_⟩
          have hk : (k (.cell a t)).run P w = .ok u w := by
            rw [k2, Sem.run_bind']
            simp only [hu, asAddr, loadVar, Sem.run_bind, Sem.run_pure, Result.andThen_ok, prun_sound hag w, Bool.false_eq_true, if_false, run_load, h4]
          simp only [List.mapM_cons, Sem.run_bind, Sem.run_pure, Result.andThen_ok, h3, hk]
        · cases h1
      · cases h1
    · cases h1
theorem results_k (tmps : Array Value) : ∃ k : ResultVar → Sem Value, (∀ fn : Func, results fn tmps = (do
      let vs ← fn.results.mapM k
      pure (if h : vs.size = 1 then vs[0] else .tuple vs))) ∧ (∀ t, k (.tmp t) = pure (tmps.getD t undef)) ∧ (∀ a t, k (.cell a t) = (asAddr (tmps.getD a undef)).bind fun x => loadVar t x) :=
  ⟨_, fun fn => rfl, fun _ => rfl, fun _ _ => rfl⟩
theorem one_rel {ρ : Env} {l us : List Value} (h : RL ρ l us) : R ρ (one l) (if h : us.toArray.size = 1 then us.toArray[0] else .tuple us.toArray) := by
  cases h with
  | nil => exact .flat _ rfl
  | cons v u l m hv hl =>
    cases hl with
    | nil => simpa [one] using hv
    | cons v2 u2 l m hv2 hl => simpa [one] using R.tuple _ _ (.cons _ _ _ _ hv (.cons _ _ _ _ hv2 hl))
theorem ofArgs_get : ∀ (l : List Value) (k : Nat) (T : Tri Value) (x : Nat), k + l.length ≤ 2 ^ d → x < 2 ^ d → tget d (ofArgs d l k T) x = if k ≤ x ∧ x < k + l.length then l.getD (x - k) undef else tget d T x
  | [], k, T, x, _, _ => by simp only [ofArgs, List.length_nil, Nat.add_zero]; rw [if_neg (by omega)]
  | v :: l, k, T, x, h1, h2 => by
    simp only [List.length_cons] at h1 ⊢
    simp only [ofArgs, vfrc_eq, Tri.frc_eq]
    rw [ofArgs_get l (k + 1) _ x (by omega) h2]
    have e : T.set d k v = put d T (some k) v := rfl
    rw [e, tget_put (by omega) h2]
    by_cases h3 : k + 1 ≤ x ∧ x < k + 1 + l.length
    · rw [if_pos h3, if_pos (by omega), show x - k = (x - (k + 1)) + 1 by omega]; simp
    · rw [if_neg h3]
      by_cases h4 : x = k
      · subst h4; simp
      · rw [if_neg h4, if_neg (by omega)]
theorem tget_e (x : Nat) : tget d .e x = undef := by simp [tget, Tri.get_e]
theorem start_rel {ρ : Env} {args args' : List Value} {n : Nat} (h : RL ρ args args') (hn : n ≤ 2 ^ d) (hl : args.length ≤ n) : RT d ρ n (ofArgs d args 0 .e) { tmps := (⟨args'⟩ : Array Value) ++ Array.replicate (n - (⟨args'⟩ : Array Value).size) undef, defers := [] } := by
  have hlen := h.length
  refine ⟨by simp; omega, fun x hx => ?_⟩
  rw [ofArgs_get (d := d) args 0 .e x (by omega) (by omega)]
  by_cases h1 : x < args.length
  · rw [if_pos ⟨by omega, by omega⟩]
    obtain ⟨u, hu, hr⟩ := h.at (k := x) (v := args.getD x undef) (by simp [List.getElem?_eq_getElem h1])
    have e : ((⟨args'⟩ : Array Value) ++ Array.replicate (n - (⟨args'⟩ : Array Value).size) undef).getD x undef = u := by
      have hx' : x < args'.length := by omega
      have := (List.getElem?_eq_some_iff.1 hu).2
      simp [Array.getElem?_append, hx', this]
    simp only [Nat.sub_zero] at *
    rw [e]; exact hr
  · rw [if_neg (by omega), tget_e]
    have e : ((⟨args'⟩ : Array Value) ++ Array.replicate (n - (⟨args'⟩ : Array Value).size) undef).getD x undef = undef := by
      simp [Array.getElem?_append]
      split
      · omega
      · simp [Array.getElem?_replicate]; split <;> rfl
    rw [e]; exact R_undef

theorem cond_rel {ρ : Env} {sz : Nat} {T : Tri Value} {a : Act} (hb : Sub G ρ) (hr : RT d ρ sz T a) {c : Operand} (hc : slotOk G sz c) {b : Bool} (h : opnd d T c = .bool b) : a.eval c = .bool b := by
  cases c with
  | tmp t => have := hr.2 t hc; exact (this.bool_inv b).1 h
  | const v => exact h
  | global g => simp [opnd] at h
  | func f => simp [opnd] at h

/-- What is handed over, and what of it lies in memory. -/
def KpS (ρ : Env) (Sx : Nat) (W W' : World) : Prop := ∀ n l, Sx.testBit n = true → ρ n = some l → W'.heap[l.blk]? = W.heap[l.blk]?
def ItOk (P : Program) (G : Env) (It : Iters) : Prop :=
  ∀ gf cap H els Sx, It gf cap H = some (els, Sx) → (∀ x ∈ els, ∀ v ∈ x, flat v = true) ∧ (∀ n, Sx.testBit n = true → ∃ b, hp H n = some b ∧ b.isRo = false) ∧
    ∀ (ρ : Env) (h : AH) (w : World) (cap' : List Value), Good G ρ h w → (∀ n, Sx.testBit n = true → h n = hp H n) → RL ρ cap cap' → ItAt P gf ⟨cap'⟩ (fun k => ⟨els.getD k []⟩) els.length (KpS ρ Sx) w
def wpL (P : Program) (F : Fence) (n m : Nat) : Code → (Exit → Act → World → Prop) → Act → World → Prop
  | .loop b, Q, a, w => Code.roundsIn F n P b Q m a w
  | c, Q, a, w => c.wpIn F n P Q a w
theorem wpL_wp {Fn : Fence} {n m : Nat} {c : Code} {Q : Exit → Act → World → Prop} {a : Act} {w : World} (h : wpL P Fn n m c Q a w) : c.wpIn Fn n P Q a w := by
  cases c <;> first | exact h | exact wpIn_loop_rounds m h
def CodeOkL (P : Program) (G : Env) (r : Option Nat) (d m sz : Nat) (c : Code) (T : Tri Value) (H : Hp) (nx : Nat) (x : Ex) (T' : Tri Value) (H' : Hp) (nx' S W : Nat) : Prop :=
  ∀ (ρ : Env) (h : AH) (w : World) (a : Act), Good G ρ h w → (∀ n, S.testBit n = true → h n = hp H n) → (∀ n, nx ≤ n → n < nx' → ρ n = none) → RT d ρ sz T a → ∀ (n : Nat) (Q : Exit → Act → World → Prop),
    (∀ ρ' a' w', Ev1 G ρ h w nx nx' W (hp H') ρ' w' → RT d ρ' sz T' a' → (∃ ms, a'.defers = ms ++ a.defers ∧ Marks w.heap.size w' w'.heap.size ms) → Q x.toExit a' w') → wpL P (Fr r) n m c Q a w
section
variable {r : Option Nat}
theorem CodeOkL.wp {m sz : Nat} {c : Code} {T T' : Tri Value} {H H' : Hp} {nx nx' S W : Nat} {x : Ex} (h : CodeOkL P G r d m sz c T H nx x T' H' nx' S W) : CodeOk P G r d sz c T H nx x T' H' nx' S W :=
  fun ρ h0 w a hg hS hfr hr n Q hQ => wpL_wp (h ρ h0 w a hg hS hfr hr n Q hQ)
theorem marks_nil (a : Act) (w : World) : ∃ ms, a.defers = ms ++ a.defers ∧ Marks w.heap.size w w.heap.size ms := ⟨[], rfl, .nil _ (Nat.le_refl _)⟩
theorem CodeOk.quiet {m sz : Nat} {c : Code} {T : Tri Value} {H : Hp} {nx : Nat} {x : Ex} (hc : ∀ (n : Nat) (Q : Exit → Act → World → Prop) (a : Act) (w : World), Q x.toExit a w → wpL P (Fr r) n m c Q a w) : CodeOkL P G r d m sz c T H nx x T H nx 0 0 :=
  fun ρ h w a hg _ _ hr n Q hQ => hc n Q a w (hQ ρ a w (Ev1.refl hg _ _) hr (marks_nil a w))
/-- What a second piece of code asks is there behind the first. -/
theorem next_same {H H1 : Hp} {h : AH} {nx nx1 S W : Nat} (hs1 : Stp H nx H1 nx1 W) (hS : ∀ n, S.testBit n = true → h n = hp H n) : ∀ n, S.testBit n = true → upd h W (hp H1) n = hp H1 n := fun n hn => by
  unfold upd; split
  · rfl
  · rename_i k
    rw [hS n hn, hs1.keep n (by simpa using k)]
theorem next_free {ρ ρ1 : Env} {h h1 : AH} {w w1 : World} {nx nx1 nx2 W : Nat} (he : Ev1 G ρ h w nx nx1 W h1 ρ1 w1) (hle : nx ≤ nx1) (hfr : ∀ n, nx ≤ n → n < nx2 → ρ n = none) : ∀ n, nx1 ≤ n → n < nx2 → ρ1 n = none := fun n k1 k2 => by
  cases hq : ρ1 n with
  | none => rfl
  | some l =>
    rcases he.dom n l hq with h3 | h3
    · have := hfr n (by omega) k2; rw [this] at h3; cases h3
    · omega
theorem Stp.trans {H H1 H2 : Hp} {nx nx1 nx2 W W' : Nat} (hs1 : Stp H nx H1 nx1 W) (hs2 : Stp H1 nx1 H2 nx2 W') : Stp H nx H2 nx2 (W ||| W') :=
  ⟨Nat.le_trans hs1.le hs2.le, fun n hn => by
    rw [Nat.testBit_or, Bool.or_eq_false_iff] at hn
    rw [hs2.keep n hn.2, hs1.keep n hn.1], fun hp => hs2.par (hs1.par hp)⟩
theorem Ev1.next {ρ ρ1 ρ2 : Env} {h : AH} {w w1 w2 : World} {H H1 H2 : Hp} {a b c W1 W2 : Nat} (e1 : Ev1 G ρ h w a b W1 (hp H1) ρ1 w1) (s1 : Stp H a H1 b W1) (e2 : Ev1 G ρ1 (upd h W1 (hp H1)) w1 b c W2 (hp H2) ρ2 w2) (s2 : Stp H1 b H2 c W2) (hg : Good G ρ h w) : Ev1 G ρ h w a c (W1 ||| W2) (hp H2) ρ2 w2 :=
  e1.trans e2 s1.le s2.le (fun n hn => s2.keep n hn) hg
/-- Two pieces of code, one behind the other. -/
theorem CodeOk.then {m m' sz : Nat} {c c2 e : Code} {T T1 T2 : Tri Value} {H H1 H2 : Hp} {nx nx1 nx2 S W S' W' : Nat} {x : Ex} (hs1 : Stp H nx H1 nx1 W) (h1 : CodeOk P G r d sz c T H nx .nrm T1 H1 nx1 S W) (hs2 : Stp H1 nx1 H2 nx2 W') (h2 : CodeOkL P G r d m' sz c2 T1 H1 nx1 x T2 H2 nx2 S' W')
    (hrule : ∀ (n : Nat) (Q : Exit → Act → World → Prop) (a : Act) (w : World), c.wpIn (Fr r) n P (Exit.then (wpL P (Fr r) n m' c2 Q) Q) a w → wpL P (Fr r) n m e Q a w) : Stp H nx H2 nx2 (W ||| W') ∧ CodeOkL P G r d m sz e T H nx x T2 H2 nx2 (S ||| S') (W ||| W') := by
  refine ⟨hs1.trans hs2, ?_⟩
  intro ρ h w a hg hS hfr hr n Q hQ
  refine hrule n Q a w (h1 ρ h w a hg (fun n hn => hS n (by rw [Nat.testBit_or, hn]; rfl)) (fun n k1 k2 => hfr n k1 (Nat.lt_of_lt_of_le k2 hs2.le)) hr n _ fun ρ1 a1 w1 he1 hr1 hd1 => ?_)
  refine h2 ρ1 (upd h W (hp H1)) w1 a1 he1.good (next_same hs1 fun n hn => hS n (by rw [Nat.testBit_or, hn]; simp)) (next_free he1 hs1.le hfr) hr1 n Q fun ρ2 a2 w2 he2 hr2 hd2 => ?_
  refine hQ ρ2 a2 w2 (he1.next hs1 he2 hs2 hg) hr2 ?_
  obtain ⟨ms1, e1, m1⟩ := hd1
  obtain ⟨ms2, e2, m2⟩ := hd2
  exact ⟨ms2 ++ ms1, by rw [e2, e1, List.append_assoc], m2.append (m1.keep he2.size fun D _ _ hD => he2.others he1.good hD rfl) he1.size he2.size⟩
/-- What is behind a piece of code that is left by another way is not run. -/
theorem CodeOk.past {m sz : Nat} {c e : Code} {T T1 : Tri Value} {H H1 : Hp} {nx nx1 S W : Nat} {x y : Ex} (h1 : CodeOk P G r d sz c T H nx x T1 H1 nx1 S W) (hrule : ∀ (n : Nat) (Q : Exit → Act → World → Prop) (a : Act) (w : World), c.wpIn (Fr r) n P (fun e a w => e = x.toExit ∧ Q y.toExit a w) a w → wpL P (Fr r) n m e Q a w) :
    CodeOkL P G r d m sz e T H nx y T1 H1 nx1 S W :=
  fun ρ h w a hg hS hfr hr n Q hQ => hrule n Q a w (h1 ρ h w a hg hS hfr hr n _ fun ρ' a' w' he hr' hd => ⟨rfl, hQ ρ' a' w' he hr' hd⟩)
end
theorem evMore_inv {S W : Nat} {r : Cs} {x : Ex} {T : Tri Value} {H : Hp} {nx S2 W2 : Nat} (h : evMore S W r = .ok x T H nx S2 W2) : ∃ S' W', r = .ok x T H nx S' W' ∧ S2 = S ||| S' ∧ W2 = W ||| W' := by
  unfold evMore at h
  split at h
  · simp only [nfrc_eq, Cs.ok.injEq] at h
    obtain ⟨rfl, rfl, rfl, rfl, rfl, rfl⟩ := h
    exact ⟨_, _, rfl, rfl, rfl⟩
  · cases h
theorem evThen_inv {self : CodeK} {b : Code} {r : Cs} {x : Ex} {T : Tri Value} {H : Hp} {nx S W : Nat} (h : evThen self d b r = .ok x T H nx S W) :
    (∃ T1 H1 nx1 S1 W1 S2 W2, r = .ok .nrm T1 H1 nx1 S1 W1 ∧ self d b T1 H1 nx1 = .ok x T H nx S2 W2 ∧ S = S1 ||| S2 ∧ W = W1 ||| W2) ∨ (r = .ok x T H nx S W ∧ x ≠ .nrm) := by
  unfold evThen at h
  split at h
  · obtain ⟨S2, W2, h1, h2, h3⟩ := evMore_inv h
    exact .inl ⟨_, _, _, _, _, S2, W2, rfl, h1, h2, h3⟩
  · rename_i hne
    exact .inr ⟨h, fun e => hne _ _ _ _ _ (e ▸ h)⟩
theorem leaves_marks {fn : Func} {tmps : Array Value} {R : Ending → World → Prop} (Pw : World → Prop) {B : Nat} (hstep : ∀ W D, Pw W → B ≤ D → W.heap[D]? = some (.deferred (some [])) → Pw (W.putObj D (.deferred none))) (hend : ∀ W, Pw W → LeavesIn Fence.wide 5 P fn tmps R [] .returning W) :
    ∀ (ms : List Deferred) (C : Nat) (W : World), Marks B W C ms → Pw W → LeavesInM Fence.wide 5 P fn tmps R ms .returning W
  | [], _, W, _, hp => hend W hp
  | _ :: ms, _, W, h, hp => by
    cases h with
    | cons D C ms hB hC hc hd t =>
      refine ⟨by simp, .inl ⟨D, _, rfl, run_takeDeferred hd, leaves_marks Pw hstep hend ms D _ (t.keep (by simp) fun D' h1 h2 h3 => ?_) (hstep W D hp hB hd)⟩⟩
      rw [World.putObj_heap_other (by omega)]; exact h3
theorem callWith_step {n : Nat} (hF : ∀ f fn, F f = some fn → FnOk P G f fn) (ih : ∀ (d : Nat) (c : Code) (sz : Nat) (T : Tri Value) (H : Hp) (nx : Nat) (x : Ex) (T' : Tri Value) (H' : Hp) (nx' S W : Nat), codeSt G d sz c → nx % 2 = 0 → evCode P F It n d c T H nx = .ok x T' H' nx' S W → Stp H nx H' nx' W ∧ CodeOkL P G none d n sz c T H nx x T' H' nx' S W) :
    CallOk P G (callWith P F (evCode P F It n)) := by
  intro f args H nx v H' nx' S W hpar h
  unfold callWith at h
  split at h
  · rename_i fn hfn
    split at h
    · rename_i b hb
      split at h
      · rename_i hle
        split at h
        · rename_i x T1 H1 nx1 S1 W1 hrun
          split at h
          · rename_i hx
            split at h
            · rename_i l S2 hres
              simp only [nfrc_eq, Rs.ok.injEq] at h
              obtain ⟨rfl, rfl, rfl, rfl, rfl⟩ := h
              have hfo := hF f fn hfn
              obtain ⟨hstp, hco⟩ := ih (depOf fn.ntmps) b fn.ntmps _ H nx x T1 H1 nx1 S1 W1 (hfo.code b hb) hpar hrun
              have hsz : fn.ntmps ≤ 2 ^ depOf fn.ntmps := Nat.le_of_lt Nat.lt_log2_self
              have hlen : args.length ≤ fn.ntmps := by have := Nat.le_of_ble_eq_true hle; rwa [llen_eq] at this
              have hlor : ∀ n, (Nat.lor S1 S2).testBit n = (S1.testBit n || S2.testBit n) := fun n => Nat.testBit_or S1 S2 n
              refine ⟨hstp, ⟨fn, hfo.here, hfo.name, by rw [hb]; rfl⟩, fun ρ h w args' hg hS hfr hrl => ?_⟩
              refine (callsIn_wide (n := 5)).1 (callsIn_of_wp_marks hfo.here hb trivial ?_ rfl)
              refine hco.wp ρ h w _ hg (fun n hn => hS n (by rw [hlor, hn]; rfl)) hfr (start_rel hrl hsz hlen) 5 _ fun ρ' a' w' he hr hd => ?_
              obtain ⟨ms, hd, hm⟩ := hd
              rw [List.append_nil] at hd
              have hpost : LeavesInM Fence.wide 5 P fn a'.tmps (fun e w' => ∃ ρ' u, e = .returned u ∧ R ρ' (one l) u ∧ Ev1 G ρ h w nx nx1 W1 (hp H1) ρ' w') a'.defers .returning w' := by
                rw [hd]
                refine leaves_marks (fun W => Ev1 G ρ h w nx nx1 W1 (hp H1) ρ' W) (fun W D hW hB hD => hW.grown (grownBy_putObj' W D _) fun r e => (by cases e; exact ⟨hB, _, hD, rfl⟩)) (fun W hW => ?_) ms _ w' hm he
                obtain ⟨k, k0, k1, k2⟩ := results_k a'.tmps
                obtain ⟨us, h2, h3⟩ := resvar_run (P := P) hW.good (fun x hx => hr.2 x hx) k k1 k2 fn.results.toList l S2 hres (next_same hstp fun n hn => hS n (by rw [hlor, hn]; simp)) (fun r hr => hfo.res r (by simpa using hr))
                have hrun' : (results fn a'.tmps).run P W = .ok (if h : us.toArray.size = 1 then us.toArray[0] else .tuple us.toArray) W := by
                  rw [k0, Array.mapM_eq_mapM_toList, Sem.run_bind, Sem.run_map, h3]
                  rfl
                exact ⟨_, hrun', ρ', _, rfl, one_rel h2, hW⟩
              cases x with
              | nrm => exact hpost
              | ret => exact hpost
              | exit id => simp [Ex.ends] at hx
            · cases h
          · cases h
        · cases h
      · cases h
    · cases h
  · cases h
end
end Go.Proofs.YtlegcfjafdihlaaGreatDoor.Ev
