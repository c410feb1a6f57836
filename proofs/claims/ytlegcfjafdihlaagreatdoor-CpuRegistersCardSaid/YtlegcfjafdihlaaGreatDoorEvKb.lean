/-
  The evaluator of calls at given arguments, and its soundness: part Kb. It speaks of any program.
-/
import Derived.Test.YtlegcfjafdihlaaGreatDoorEvK
namespace Go.Proofs.YtlegcfjafdihlaaGreatDoor.Ev
open Go.RowKit
set_option linter.unusedSimpArgs false
set_option linter.unusedVariables false

section
variable {d : Nat} {P : Program} {G : Env} {F : FuncId → Option Func} {It : Iters} {ρ : Env}
theorem func_inv {ρ : Env} {fn : Fn} {a b : List Value} {u : Value} (h : R ρ (.func fn ⟨a⟩ ⟨b⟩) u) : ∃ a' b', u = .func fn ⟨a'⟩ ⟨b'⟩ ∧ RL ρ a a' ∧ RL ρ b b' := by
  cases h with
  | flat _ hf =>
    refine ⟨a, b, rfl, ?_⟩
    have : a = [] ∧ b = [] := by
      cases fn <;> cases a <;> cases b <;> simp [Ev.flat, flat0] at hf ⊢
    obtain ⟨rfl, rfl⟩ := this
    exact ⟨.nil, .nil⟩
  | func _ _ _ a' b' ha hb => exact ⟨a', b', rfl, ha, hb⟩
theorem callFunc_run {k : FuncId} {fn : Func} (hf : P.funcs[k]? = some fn) (hn : (fn.name == "runtime.NumGoroutine") = false) (hb : fn.body.isNone = false) (args : Array Value) (w : World) : (callFunc k args).run P w = .ok (.enter k args) w := by
  unfold callFunc
  rw [Sem.run_bind, run_program, Result.andThen_ok, hf]
  dsimp only
  rw [hn]
  simp only [Bool.false_eq_true, if_false]
  rw [hb]
  rfl

theorem slot_rel {sz : Nat} {T : Tri Value} {a : Act} (hb : Sub G ρ) (hr : RT d ρ sz T a) {c : Operand} (hc : slotOk G sz c) : R ρ (opnd d T c) (a.eval c) := by
  cases c with
  | tmp t => exact hr.2 t hc
  | const v => exact .flat v hc
  | global k =>
    obtain ⟨l, h1, h2, h3⟩ := hc
    have := R.ptr k 0 l (hb k l h1)
    rw [h2, h3] at this
    exact this
  | func k => exact .flat _ rfl
theorem RT.putAll {sz : Nat} (hsz : sz ≤ 2 ^ d) : ∀ (ps : List Nat) (vs : List Value) (T : Tri Value) (tmps : Array Value) (ds : List Deferred), (∀ v ∈ vs, flat v = true) → (∀ p ∈ ps, p < sz) → RT d ρ sz T { tmps := tmps, defers := ds } →
    RT d ρ sz (Ev.putAll d ps vs T) { tmps := (ps.zip vs).foldl (fun t (p, v) => t.setIfInBounds p v) tmps, defers := ds }
  | [], vs, T, tmps, ds, _, _, h => by simpa [Ev.putAll] using h
  | p :: ps, [], T, tmps, ds, _, _, h => by simpa [Ev.putAll] using h
  | p :: ps, v :: vs, T, tmps, ds, hv, hp, h => by
    simp only [Ev.putAll, vfrc_eq, Tri.frc_eq, List.zip_cons_cons, List.foldl_cons]
    refine RT.putAll hsz ps vs _ _ ds (fun v hm => hv v (by simp [hm])) (fun p hm => hp p (by simp [hm])) ?_
    have := h.put (ρ' := ρ) (fun _ _ h => h) hsz (d := some p) (fun x e => by cases e; exact hp p (by simp)) (v := v) (u := v) (.flat v (hv v (by simp)))
    exact this
theorem rounds_inv {self : CodeK} {ps : List Nat} {asg body : Code} {T T' : Tri Value} {Sx : Nat} {y : List Value} {rest : List (List Value)} {H H' : Hp} {nx nx' S W : Nat} {x : Ex} (h : evRounds self d ps asg body T Sx (y :: rest) H nx = .ok x T' H' nx' S W) :
    y.length = ps.length ∧ ∃ T1 H1 nx1 S1 W1 e Tb H2 nx2 S2 W2, self d asg (putAll d ps y T) H nx = .ok .nrm T1 H1 nx1 S1 W1 ∧ self d body T1 H1 nx1 = .ok e Tb H2 nx2 S2 W2 ∧ (W1 ||| W2) &&& Sx = 0 ∧
      ((e = .nrm ∧ ∃ S3 W3, evRounds self d ps asg body T Sx rest H2 nx2 = .ok x T' H' nx' S3 W3 ∧ S = (S1 ||| S2) ||| S3 ∧ W = (W1 ||| W2) ||| W3) ∨ (e ≠ .nrm ∧ x = e ∧ T' = T ∧ H' = H2 ∧ nx' = nx2 ∧ S = S1 ||| S2 ∧ W = W1 ||| W2)) := by
  simp only [evRounds] at h
  split at h
  case h_2 => cases h
  rename_i hl
  split at h
  case h_2 => cases h
  rename_i T1 H1 nx1 S1 W1 h1
  split at h
  case h_2 => cases h
  rename_i e Tb H2 nx2 S2 W2 h2
  split at h
  case h_2 => cases h
  rename_i hz
  refine ⟨by rw [llen_eq] at hl; exact Nat.eq_of_beq_eq_true hl, T1, H1, nx1, S1, W1, e, Tb, H2, nx2, S2, W2, h1, h2, Nat.eq_of_beq_eq_true hz, ?_⟩
  split at h
  · obtain ⟨S3, W3, h3, h4, h5⟩ := evMore_inv h
    exact .inl ⟨rfl, S3, W3, h3, h4, h5⟩
  · rename_i hne
    cases h
    exact .inr ⟨fun e => hne e, rfl, rfl, rfl, rfl, rfl, rfl⟩
theorem apart_bits {A B : Nat} (h : A &&& B = 0) (n : Nat) (hn : B.testBit n = true) : A.testBit n = false := by
  have := congrArg (·.testBit n) h
  simp [Nat.testBit_and, hn] at this
  exact this
theorem or_bits {A B n : Nat} (h : (A ||| B).testBit n = false) : A.testBit n = false ∧ B.testBit n = false := by
  rw [Nat.testBit_or, Bool.or_eq_false_iff] at h; exact h
abbrev CodesOk (P : Program) (G : Env) (F : FuncId → Option Func) (It : Iters) (n : Nat) : Prop :=
  ∀ (r : Option Nat) (d : Nat) (c : Code) (sz : Nat) (T : Tri Value) (H : Hp) (nx : Nat) (x : Ex) (T' : Tri Value) (H' : Hp) (nx' S W : Nat), (r = none ∨ noRange c = true) → codeSt G d sz c → nx % 2 = 0 → evCode P F It n d c T H nx = .ok x T' H' nx' S W → Stp H nx H' nx' W ∧ CodeOkL P G r d n sz c T H nx x T' H' nx' S W
theorem rounds_stp {n sz : Nat} (ih : CodesOk P G F It n) {ps : List Nat} {asg body : Code} (ha : codeSt G d sz asg) (hb : codeSt G d sz body) (na : noRange asg = true) (nb : noRange body = true) {T T' : Tri Value} {Sx : Nat} {x : Ex} {H' : Hp} {nx' : Nat} :
    ∀ (els : List (List Value)) (H : Hp) (nx S W : Nat), nx % 2 = 0 → evRounds (evCode P F It n) d ps asg body T Sx els H nx = .ok x T' H' nx' S W → Stp H nx H' nx' W
  | [], H, nx, S, W, _, h => by cases h; exact Stp.refl _ _
  | y :: els, H, nx, S, W, hp, h => by
    obtain ⟨_, T1, H1, nx1, S1, W1, e, Tb, H2, nx2, S2, W2, h1, h2, _, h3⟩ := rounds_inv h
    have s1 := (ih none d asg sz _ _ _ _ _ _ _ _ _ (.inl rfl) ha hp h1).1
    have s2 := (ih none d body sz _ _ _ _ _ _ _ _ _ (.inl rfl) hb (s1.par hp) h2).1
    rcases h3 with ⟨_, S3, W3, h3, _, rfl⟩ | ⟨_, _, _, rfl, rfl, _, rfl⟩
    · exact (s1.trans s2).trans (rounds_stp ih ha hb na nb els H2 nx2 S3 W3 ((s1.trans s2).par hp) h3)
    · exact s1.trans s2
theorem kps {ρk ρ1 : Env} {h h1 : AH} {W W2 : World} {H Hk : Hp} {Sx Wk W1 a b : Nat} (hro : ∀ n, Sx.testBit n = true → ∃ b, hp H n = some b ∧ b.isRo = false) (hS : ∀ n, Sx.testBit n = true → h n = hp H n) (hs : Sub ρ ρk) (hg : Good G ρk (upd h Wk (hp Hk)) W)
    (e : Ev1 G ρk (upd h Wk (hp Hk)) W a b W1 h1 ρ1 W2) (d1 : ∀ n, Sx.testBit n = true → Wk.testBit n = false) (d2 : ∀ n, Sx.testBit n = true → W1.testBit n = false) : KpS ρ Sx W W2 := by
  intro n l hn hl
  obtain ⟨b0, hb0, hr0⟩ := hro n hn
  have hu : upd h Wk (hp Hk) n = some b0 := by unfold upd; rw [d1 n hn]; simp only [Bool.false_eq_true, if_false]; rw [hS n hn]; exact hb0
  obtain ⟨l', hl', hbl⟩ := hg.sat n b0 hu
  rw [hs n l hl] at hl'; cases hl'
  refine e.frame l.blk hbl.lt fun m lm hm hh hlm he => ?_
  obtain ⟨b', hb'⟩ := Option.ne_none_iff_exists'.1 hh
  have hne : n ≠ m := fun e => by rw [e] at hn; rw [d2 m hn] at hm; cases hm
  exact hg.sep n m b0 b' l lm hu hb' hne (by rw [hr0]; rfl) (hs n l hl) hlm he.symm
/-- A loop over a function. -/
theorem range_ok {n sz m : Nat} (hIt : ItOk P G It) (hF : ∀ f fn, F f = some fn → FnOk P G f fn) (ih : CodesOk P G F It n) {g : Operand} {ps : Array Tmp} {asg body : Code} {T T' : Tri Value} {H H' : Hp} {nx nx' S W : Nat} {x : Ex} (hst : codeSt G d sz (.rangeFunc g ps asg body)) (hpar : nx % 2 = 0)
    (h : evRange F It (evCode P F It n) d (opnd d T g) ps.toList asg body T H nx = .ok x T' H' nx' S W) : Stp H nx H' nx' W ∧ CodeOkL P G none d m sz (.rangeFunc g ps asg body) T H nx x T' H' nx' S W := by
  obtain ⟨hsz, hslot, hpsz, na, nb, ha, hb⟩ := hst
  unfold evRange at h
  split at h
  case h_2 => cases h
  rename_i gf cap hgv
  split at h
  case h_2 => cases h
  rename_i fn hfn
  split at h
  case h_2 => cases h
  rename_i bd hbd
  split at h
  case h_2 => cases h
  rename_i els Sx hit
  obtain ⟨S', W', h1, rfl, rfl⟩ := evMore_inv h
  clear h
  obtain ⟨hfl, hro, hat⟩ := hIt gf cap H els Sx hit
  have hstp := rounds_stp ih ha hb na nb els H nx S' W' hpar h1
  have hz : 0 ||| W' = W' := by simp
  rw [hz]
  refine ⟨hstp, ?_⟩
  intro ρ h w a hg hS hfr hr n0 Q hQ
  have hSx : ∀ n, Sx.testBit n = true → h n = hp H n := fun n hn => hS n (by rw [Nat.testBit_or, hn]; rfl)
  have hS' : ∀ n, S'.testBit n = true → h n = hp H n := fun n hn => hS n (by rw [Nat.testBit_or, hn]; simp)
  have hgr := slot_rel hg.base hr hslot
  rw [hgv] at hgr
  obtain ⟨a', cap', hu, ra, rc⟩ := func_inv hgr
  obtain rfl : a' = [] := by cases ra; rfl
  have hfo := hF gf fn hfn
  refine wpIn_n (r := none) (n := 5) ?_
  refine range_at hu (fun args w => callFunc_run hfo.here hfo.name (by rw [hbd]; rfl) args w) (hat ρ h w cap' hg hSx rc) (fun A B C h1 h2 n l hn hl => (h2 n l hn hl).trans (h1 n l hn hl)) ?hKb
    (fun k W => ∃ Hk nxk Wk S2 W2 ρk, evRounds (evCode P F It n) d ps.toList asg body T Sx (els.drop k) Hk nxk = .ok x T' H' nx' S2 W2 ∧ Stp H nx Hk nxk Wk ∧ (∀ n, S2.testBit n = true → S'.testBit n = true) ∧ W' = Wk ||| W2 ∧ (∀ n, Sx.testBit n = true → Wk.testBit n = false) ∧ Ev1 G ρ h w nx nxk Wk (hp Hk) ρk W)
    (fun k a' W => ∃ Hm nxm Wm ρm Tm e Tb Hb nxb Sb Wb, evCode P F It n d body Tm Hm nxm = .ok e Tb Hb nxb Sb Wb ∧ Stp H nx Hm nxm Wm ∧ (∀ n, Sb.testBit n = true → S'.testBit n = true) ∧ (∀ n, Sx.testBit n = true → Wm.testBit n = false) ∧ (∀ n, Sx.testBit n = true → Wb.testBit n = false) ∧ Ev1 G ρ h w nx nxm Wm (hp Hm) ρm W ∧ RT d ρm sz Tm a' ∧
      ((e = .nrm ∧ ∃ S3 W3, evRounds (evCode P F It n) d ps.toList asg body T Sx (els.drop (k + 1)) Hb nxb = .ok x T' H' nx' S3 W3 ∧ (∀ n, S3.testBit n = true → S'.testBit n = true) ∧ W' = (Wm ||| Wb) ||| W3) ∨ (e ≠ .nrm ∧ x = e ∧ T' = T ∧ H' = Hb ∧ nx' = nxb ∧ W' = Wm ||| Wb)))
    (fun c W => T' = T ∧ (∃ ρ', Ev1 G ρ h w nx nx' W' (hp H') ρ' W) ∧ (c = .ret ∧ x = .ret ∨ ∃ id, c = .exit id ∧ x = .exit id)) ?hI ?hM ?hX ?h0 ?hps ?hA ?hB ?hD ?hS
  case hps =>
    rintro k W hk ⟨Hk, nxk, Wk, S2, W2, ρk, hev, _⟩
    rw [List.drop_eq_getElem_cons hk] at hev
    obtain ⟨hl, _⟩ := rounds_inv hev
    simpa [List.getD_eq_getElem?_getD, List.getElem?_eq_getElem hk] using hl
  case hKb =>
    intro W l o hl n lo hn hlo
    obtain ⟨b0, hb0, _⟩ := hro n hn
    obtain ⟨l', hl', hbl⟩ := hg.sat n b0 (by rw [hSx n hn]; exact hb0)
    rw [hlo] at hl'; cases hl'
    exact World.putObj_heap_other (by have := hbl.lt; omega)
  case hI =>
    rintro k W W2 row ⟨Hk, nxk, Wk, S2, W2', ρk, h1, h2, h3, h4, h5, h6⟩ hgr hrow
    exact ⟨Hk, nxk, Wk, S2, W2', ρk, h1, h2, h3, h4, h5, h6.grown hgr hrow⟩
  case hM =>
    rintro k a' _ W W2 row ⟨Hm, nxm, Wm, ρm, Tm, e, Tb, Hb, nxb, Sb, Wb, h1, h2, h3, h4, h5, h6, h7⟩ hgr hrow
    exact ⟨Hm, nxm, Wm, ρm, Tm, e, Tb, Hb, nxb, Sb, Wb, h1, h2, h3, h4, h5, h6.grown hgr hrow, h7⟩
  case hX =>
    rintro c W W2 row ⟨h1, ⟨ρ', h2⟩, h3⟩ hgr hrow
    exact ⟨h1, ⟨ρ', h2.grown hgr hrow⟩, h3⟩
  case h0 => exact ⟨H, nx, 0, S', W', ρ, h1, Stp.refl _ _, fun _ h => h, by simp, fun _ _ => by simp, Ev1.refl hg _ _⟩
  case hA =>
    rintro l k W hk ⟨Hk, nxk, Wk, S2, W2, ρk, hev, hsk, hS2, hW, hd, he⟩
    rw [List.drop_eq_getElem_cons hk] at hev
    obtain ⟨_, T1, H1, nx1, S1, W1, e, Tb, H3, nx3, S3, W3, e1, e2, e3, e4⟩ := rounds_inv hev
    have hpk := hsk.par hpar
    obtain ⟨s1, o1⟩ := ih (some l) d asg sz _ _ _ _ _ _ _ _ _ (.inr na) ha hpk e1
    have hp1 := s1.par hpk
    have s2 := (ih none d body sz _ _ _ _ _ _ _ _ _ (.inl rfl) hb hp1 e2).1
    have hle3 : nx3 ≤ nx' := by
      rcases e4 with ⟨_, S4, W4, h4, _, _⟩ | ⟨_, _, _, _, h5, _, _⟩
      · exact (rounds_stp ih ha hb na nb _ _ _ _ _ (s2.par hp1) h4).le
      · omega
    have hle1 : nx1 ≤ nx' := Nat.le_trans s2.le hle3
    have hS13 : (∀ n, S1.testBit n = true → S'.testBit n = true) ∧ (∀ n, S3.testBit n = true → S'.testBit n = true) := by
      rcases e4 with ⟨_, S4, W4, _, h5, _⟩ | ⟨_, _, _, _, _, h5, _⟩ <;> (subst h5; exact ⟨fun n hn => hS2 n (by simp [Nat.testBit_or, hn]), fun n hn => hS2 n (by simp [Nat.testBit_or, hn])⟩)
    have hdis : ∀ n, Sx.testBit n = true → W1.testBit n = false ∧ W3.testBit n = false := fun n hn => or_bits (apart_bits e3 n hn)
    have hx : ∀ v ∈ els[k], flat v = true := hfl _ (List.getElem_mem hk)
    have hRT0 : RT d ρk sz T { tmps := a.tmps, defers := [] } := ⟨hr.1, fun x hx => (hr.2 x hx).mono he.sub⟩
    have hRT := RT.putAll hsz ps.toList els[k] T a.tmps [] hx hpsz hRT0
    have htm : (ps.zip (⟨els.getD k []⟩ : Array Value)).foldl (fun t (p, v) => t.setIfInBounds p v) a.tmps = (ps.toList.zip els[k]).foldl (fun t (p, v) => t.setIfInBounds p v) a.tmps := by
      rw [← Array.foldl_toList, Array.toList_zip]
      simp [List.getD_eq_getElem?_getD, List.getElem?_eq_getElem hk]
    rw [htm]
    refine o1.wp ρk (upd h Wk (hp Hk)) W _ he.good (next_same hsk fun n hn => hS' n (hS13.1 n hn)) (next_free he hsk.le fun n k1 k2 => hfr n k1 (by omega)) hRT 3 _ fun ρ1 a1 W4 he1 hr1 _ => ?_
    refine ⟨rfl, he1.keeps he.good _, kps hro hSx he.sub he.good he1 hd (fun n hn => (hdis n hn).1), H1, nx1, Wk ||| W1, ρ1, T1, e, Tb, H3, nx3, S3, W3, e2, hsk.trans s1, hS13.2, fun n hn => ?_, fun n hn => (hdis n hn).2, he.next hsk he1 s1 hg, hr1, ?_⟩
    · rw [Nat.testBit_or, hd n hn, (hdis n hn).1]; rfl
    · rcases e4 with ⟨h4, S4, W4, h5, h6, h7⟩ | ⟨h4, h5, h6, h7, h8, h9, h10⟩
      · exact .inl ⟨h4, S4, W4, h5, fun n hn => hS2 n (by rw [h6, Nat.testBit_or, hn]; simp), by rw [hW, h7, Nat.or_assoc, Nat.or_assoc, Nat.or_assoc]⟩
      · exact .inr ⟨h4, h5, h6, h7, h8, by rw [hW, h10, Nat.or_assoc]⟩
  case hB =>
    rintro l k a1 W hk ⟨Hm, nxm, Wm, ρm, Tm, e, Tb, Hb, nxb, Sb, Wb, e2, hsm, hSb, hdm, hdb, he, hr1, e4⟩
    have hpm := hsm.par hpar
    obtain ⟨s2, o2⟩ := ih (some l) d body sz _ _ _ _ _ _ _ _ _ (.inr nb) hb hpm e2
    have hleb : nxb ≤ nx' := by
      rcases e4 with ⟨_, S4, W4, h4, _, _⟩ | ⟨_, _, _, _, h5, _⟩
      · exact (rounds_stp ih ha hb na nb _ _ _ _ _ (s2.par hpm) h4).le
      · omega
    refine o2.wp ρm (upd h Wm (hp Hm)) W _ he.good (next_same hsm fun n hn => hS' n (hSb n hn)) (next_free he hsm.le fun n k1 k2 => hfr n k1 (by omega)) hr1 3 _ fun ρ2 a2 W4 he2 hr2 _ => ?_
    have hev := he.next hsm he2 s2 hg
    have hdd : ∀ n, Sx.testBit n = true → (Wm ||| Wb).testBit n = false := fun n hn => by rw [Nat.testBit_or, hdm n hn, hdb n hn]; rfl
    refine ⟨he2.keeps he.good _, ?_⟩
    rcases e4 with ⟨rfl, S4, W4', h5, h6, h7⟩ | ⟨h4, rfl, rfl, rfl, rfl, h9⟩
    · exact .inl ⟨rfl, kps hro hSx he.sub he.good he2 hdm hdb, Hb, nxb, Wm ||| Wb, S4, W4', ρ2, h5, hsm.trans s2, h6, h7, hdd, hev⟩
    · rw [← h9] at hev
      cases x with
      | nrm => exact absurd rfl h4
      | ret => exact .inr (.inl ⟨rfl, rfl, ⟨ρ2, hev⟩, .inl ⟨rfl, rfl⟩⟩)
      | exit id => exact .inr (.inr ⟨id, rfl, rfl, ⟨ρ2, hev⟩, .inr ⟨id, rfl, rfl⟩⟩)
  case hD =>
    rintro D W hDw ⟨Hk, nxk, Wk, S2, W2, ρk, hev, hsk, _, hW, _, he⟩ hD
    rw [List.drop_length] at hev
    simp only [evRounds, Cs.ok.injEq] at hev
    obtain ⟨rfl, rfl, rfl, rfl, rfl, rfl⟩ := hev
    rw [Nat.or_zero] at hW
    subst hW
    have hlt := (Array.getElem?_eq_some_iff.1 hD).1
    exact hQ ρk _ W he ⟨hr.1, fun x hx => (hr.2 x hx).mono he.sub⟩ ⟨[{ target := .collected D, args := #[] }], rfl, .cons D _ [] hDw hlt (Nat.le_refl _) hD (.nil D (Nat.le_of_lt hlt))⟩
  case hS =>
    rintro D c W hDw ⟨rfl, ⟨ρ', he⟩, hc⟩ hD
    have hlt := (Array.getElem?_eq_some_iff.1 hD).1
    have hq := hQ ρ' { a with defers := { target := .collected D, args := #[] } :: a.defers } W he ⟨hr.1, fun x hx => (hr.2 x hx).mono he.sub⟩ ⟨[{ target := .collected D, args := #[] }], rfl, .cons D _ [] hDw hlt (Nat.le_refl _) hD (.nil D (Nat.le_of_lt hlt))⟩
    rcases hc with ⟨rfl, rfl⟩ | ⟨id, rfl, rfl⟩
    · exact wpIn_ret hq
    · exact wpIn_exit hq
theorem evCode_ok (hm : P.follows .mixedOrders = true) (hIt : ItOk P G It) (hF : ∀ f fn, F f = some fn → FnOk P G f fn)
    (hop : ∀ (call : FuncId → List Value → Hp → Nat → Rs), CallOk P G call → ∀ d T H nx (o : Oper) v H' nx' S W, nx % 2 = 0 → (∀ cs b, o.op ≠ .select cs b) → evOp P call d T H nx o = .ok v H' nx' S W → Stp H nx H' nx' W ∧ OpOk P G d T H nx o v H' nx' S W) :
    ∀ (n : Nat) (r : Option Nat) (d : Nat) (c : Code) (sz : Nat) (T : Tri Value) (H : Hp) (nx : Nat) (x : Ex) (T' : Tri Value) (H' : Hp) (nx' S W : Nat), (r = none ∨ noRange c = true) → codeSt G d sz c → nx % 2 = 0 → evCode P F It n d c T H nx = .ok x T' H' nx' S W → Stp H nx H' nx' W ∧ CodeOkL P G r d n sz c T H nx x T' H' nx' S W := by
  intro n
  induction n with
  | zero => intro r d c sz T H nx x T' H' nx' S W _ _ _ h; cases h
  | succ n ih =>
    have hcall : CallOk P G (callWith P F (evCode P F It n)) := callWith_step hF fun d c sz T H nx x T' H' nx' S W => ih none d c sz T H nx x T' H' nx' S W (.inl rfl)
    intro r d c sz T H nx x T' H' nx' S W hnr hst hpar h
    have h : evCode1 P F It (evCode P F It n) d c T H nx = .ok x T' H' nx' S W := h
    unfold evCode1 at h
    cases c with
    | skip => dsimp only at h; cases h; exact ⟨Stp.refl _ _, CodeOk.quiet fun n Q a w hq => wpIn_skip hq⟩
    | label l => dsimp only at h; cases h; exact ⟨Stp.refl _ _, CodeOk.quiet fun n Q a w hq => wpIn_label hq⟩
    | ret => dsimp only at h; cases h; exact ⟨Stp.refl _ _, CodeOk.quiet fun n Q a w hq => wpIn_ret hq⟩
    | exit id => dsimp only at h; cases h; exact ⟨Stp.refl _ _, CodeOk.quiet fun n Q a w hq => wpIn_exit hq⟩
    | seq c c2 =>
      dsimp only at h
      rcases evThen_inv h with ⟨T1, H1, nx1, S1, W1, S2, W2, h1, h2, rfl, rfl⟩ | ⟨h1, hne⟩
      · obtain ⟨hs1, ho1⟩ := ih r d c sz T H nx _ _ _ _ _ _ (hnr.imp id fun h => (Bool.and_eq_true_iff.1 h).1) hst.1 hpar h1
        obtain ⟨hs2, ho2⟩ := ih r d c2 sz T1 H1 nx1 _ _ _ _ _ _ (hnr.imp id fun h => (Bool.and_eq_true_iff.1 h).2) hst.2 (hs1.par hpar) h2
        exact CodeOk.then hs1 ho1.wp hs2 ho2 fun n Q a w hw => wpIn_seq (wpIn_mono hw fun e a w q => by cases e <;> first | exact wpL_wp q | exact q)
      · obtain ⟨hs1, ho1⟩ := ih r d c sz T H nx _ _ _ _ _ _ (hnr.imp id fun h => (Bool.and_eq_true_iff.1 h).1) hst.1 hpar h1
        refine ⟨hs1, ho1.wp.past fun n Q a w hw => wpIn_seq (wpIn_mono hw ?_)⟩
        rintro e a w ⟨rfl, hq⟩
        cases x with
        | nrm => exact absurd rfl hne
        | exit id => exact hq
        | ret => exact hq
    | cond c t e =>
      dsimp only at h
      unfold evIf at h
      split at h
      · rename_i hc
        obtain ⟨hs1, ho1⟩ := ih r d t sz T H nx _ _ _ _ _ _ (hnr.imp id fun h => (Bool.and_eq_true_iff.1 h).1) hst.2.1 hpar h
        exact ⟨hs1, fun ρ h w a hg hS hfr hr n Q hQ => wpIn_cond_true (cond_rel hg.base hr hst.1 hc) (ho1.wp ρ h w a hg hS hfr hr n Q hQ)⟩
      · rename_i hc
        obtain ⟨hs1, ho1⟩ := ih r d e sz T H nx _ _ _ _ _ _ (hnr.imp id fun h => (Bool.and_eq_true_iff.1 h).2) hst.2.2 hpar h
        exact ⟨hs1, fun ρ h w a hg hS hfr hr n Q hQ => wpIn_cond_false (cond_rel hg.base hr hst.1 hc) (ho1.wp ρ h w a hg hS hfr hr n Q hQ)⟩
      · cases h
    | block id b =>
      dsimp only at h
      unfold evBlk at h
      split at h
      · rename_i id' T1 H1 nx1 S1 W1 h1
        obtain ⟨hs1, ho1⟩ := ih r d b sz T H nx _ _ _ _ _ _ hnr hst hpar h1
        split at h
        · rename_i hid
          cases h
          refine ⟨hs1, ho1.wp.past fun n Q a w hw => wpIn_block (wpIn_mono hw ?_)⟩
          rintro e a w ⟨rfl, hq⟩
          simpa [Exit.inBlock, Ex.toExit, Nat.eq_of_beq_eq_true hid] using hq
        · rename_i hid
          cases h
          refine ⟨hs1, ho1.wp.past fun n Q a w hw => wpIn_block (wpIn_mono hw ?_)⟩
          rintro e a w ⟨rfl, hq⟩
          have hne : id' ≠ id := fun e => by rw [e] at hid; simp at hid
          simpa [Exit.inBlock, Ex.toExit, hne] using hq
      · rename_i hne
        obtain ⟨hs1, ho1⟩ := ih r d b sz T H nx _ _ _ _ _ _ hnr hst hpar h
        refine ⟨hs1, ho1.wp.past fun n Q a w hw => wpIn_block (wpIn_mono hw ?_)⟩
        rintro e a w ⟨rfl, hq⟩
        cases x with
        | nrm => exact hq
        | exit id' => exact absurd h (hne _ _ _ _ _ _)
        | ret => exact hq
    | loop b =>
      dsimp only at h
      rcases evThen_inv h with ⟨T1, H1, nx1, S1, W1, S2, W2, h1, h2, rfl, rfl⟩ | ⟨h1, hne⟩
      · obtain ⟨hs1, ho1⟩ := ih r d b sz T H nx _ _ _ _ _ _ hnr hst hpar h1
        obtain ⟨hs2, ho2⟩ := ih r d (.loop b) sz T1 H1 nx1 _ _ _ _ _ _ hnr hst (hs1.par hpar) h2
        exact CodeOk.then hs1 ho1.wp hs2 ho2 fun n Q a w hw => hw
      · obtain ⟨hs1, ho1⟩ := ih r d b sz T H nx _ _ _ _ _ _ hnr hst hpar h1
        refine ⟨hs1, ho1.wp.past fun k Q a w hw => (wpIn_mono hw ?_ : Code.roundsIn (Fr r) k P b Q (n + 1) a w)⟩
        rintro e a w ⟨rfl, hq⟩
        cases x with
        | nrm => exact absurd rfl hne
        | exit id => exact hq
        | ret => exact hq
    | region id ops draw =>
      dsimp only at h
      unfold evReg at h
      split at h
      · rename_i T1 H1 nx1 S1 W1 log h1
        split at h
        · rename_i hord
          cases h
          obtain ⟨r1, r2⟩ := region_ok (r := r) (id := id) hm hst.1 hst.2.2.2 hst.2.1 (fun T H nx o v H' nx' S W hp ⟨i, hi⟩ he => hop _ hcall d T H nx o v H' nx' S W hp (hst.2.2.1 i o hi) he) hpar h1 hord
          exact ⟨r1, r2⟩
        · cases h
      · cases h
    | rangeFunc g ps asg body =>
      have hr0 : r = none := hnr.resolve_right fun h => by cases h
      subst hr0
      exact range_ok hIt hF (fun r d c sz T H nx x T' H' nx' S W => ih r d c sz T H nx x T' H' nx' S W) hst hpar h
    | _ => cases h
theorem callWith_ok (hm : P.follows .mixedOrders = true) (hIt : ItOk P G It) (hF : ∀ f fn, F f = some fn → FnOk P G f fn)
    (hop : ∀ (call : FuncId → List Value → Hp → Nat → Rs), CallOk P G call → ∀ d T H nx (o : Oper) v H' nx' S W, nx % 2 = 0 → (∀ cs b, o.op ≠ .select cs b) → evOp P call d T H nx o = .ok v H' nx' S W → Stp H nx H' nx' W ∧ OpOk P G d T H nx o v H' nx' S W) (n : Nat) :
    CallOk P G (callWith P F (evCode P F It n)) := callWith_step hF fun d c sz T H nx x T' H' nx' S W => evCode_ok hm hIt hF hop n none d c sz T H nx x T' H' nx' S W (.inl rfl)
end
end Go.Proofs.YtlegcfjafdihlaaGreatDoor.Ev
