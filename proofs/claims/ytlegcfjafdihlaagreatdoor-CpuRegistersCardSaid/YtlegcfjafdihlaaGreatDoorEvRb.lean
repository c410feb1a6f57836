/-
  The evaluator of calls at given arguments, and its soundness: part Rb. It speaks of any program.
-/
import Derived.Test.YtlegcfjafdihlaaGreatDoorEvI
namespace Go.Proofs.YtlegcfjafdihlaaGreatDoor.Ev
open Go.RowKit
set_option linter.unusedSimpArgs false
set_option linter.unusedVariables false

/-! ### What holds no cells -/
section
variable {G ρ ρ' : Env} {h h' : AH} {w w' : World} {nx nx' W : Nat}
theorem BlkR.cells {l : Loc} {b : AB} (h : BlkR ρ w l b) : ∃ c e fz, w.heap[l.blk]? = some (.cells c e fz) := by
  cases b with
  | row cs e es => obtain ⟨_, ds, c, fz, _, h2, _⟩ := h; exact ⟨c, e, fz, h2⟩
  | ro cs =>
    obtain ⟨_, hne, ds, h1, h2⟩ := h
    cases h1 with
    | nil => exact absurd rfl hne
    | cons v u l m hv ht =>
      have := h2 0 u rfl
      unfold World.cell? at this
      split at this
      · rename_i c e fz hc; exact ⟨c, e, fz, hc⟩
      · cases this
theorem Good.cells (g : Good G ρ h w) {n : Nat} {l : Loc} (hh : h n ≠ none) (hl : ρ n = some l) : ∃ c e fz, w.heap[l.blk]? = some (.cells c e fz) := by
  obtain ⟨b, hb⟩ := Option.ne_none_iff_exists'.1 hh
  obtain ⟨l', hl', hbl⟩ := g.sat n b hb
  rw [hl] at hl'; cases hl'
  exact hbl.cells
theorem Ev1.others (e : Ev1 G ρ h w nx nx' W h' ρ' w') (g : Good G ρ h w) {k : Nat} {o : Obj} (hk : w.heap[k]? = some o) (ho : o.isCells = false) : w'.heap[k]? = some o := by
  refine (e.frame k (Array.getElem?_eq_some_iff.1 hk).1 fun n l _ hh hl e => ?_).trans hk
  obtain ⟨c, t, fz, hc⟩ := g.cells hh hl
  rw [e, hk] at hc; cases hc; cases ho
theorem Good.grown (g : Good G ρ h w) {row : Option Nat} (hg : w.grownBy w' row) (hr : ∀ r, row = some r → ∃ o : Obj, w.heap[r]? = some o ∧ o.isCells = false) : Good G ρ h w' :=
  ⟨g.base, (fun n b hb => by
    obtain ⟨l, hl, hbl⟩ := g.sat n b hb
    refine ⟨l, hl, hbl.mono (fun _ _ h => h) (hg.block l.blk hbl.lt fun er => ?_)⟩
    obtain ⟨o, ho, hc⟩ := hr _ er.symm
    obtain ⟨c, e, fz, h2⟩ := hbl.cells
    rw [h2] at ho; cases ho; cases hc), g.sep, g.even⟩
theorem Ev1.grown (e : Ev1 G ρ h w nx nx' W h' ρ' w') {w2 : World} {row : Option Nat} (hg : w'.grownBy w2 row) (hr : ∀ r, row = some r → w.heap.size ≤ r ∧ ∃ o : Obj, w'.heap[r]? = some o ∧ o.isCells = false) : Ev1 G ρ h w nx nx' W h' ρ' w2 :=
  ⟨e.sub, e.dom, e.good.grown hg fun r h => (hr r h).2, hg.os.trans e.os, hg.tape.trans e.tape, hg.output.trans e.output, Nat.le_trans e.size hg.size,
    fun b hb hne => (hg.block b (Nat.lt_of_lt_of_le hb e.size) fun er => by have := (hr b er.symm).1; omega).trans (e.frame b hb hne), e.nb⟩
theorem Ev1.keeps (e : Ev1 G ρ h w nx nx' W h' ρ' w') (g : Good G ρ h w) (B : Nat) : KeepsFrom B w w' := ⟨e.size, fun k o _ hk ho => e.others g hk ho⟩
end

/-! ### Marks -/
theorem Marks.weak {B C C' : Nat} {w : World} {ms : List Deferred} (h : Marks B w C ms) (h1 : C ≤ C') (h2 : C' ≤ w.heap.size) : Marks B w C' ms := by
  cases h with
  | nil C hc => exact .nil _ h2
  | cons D C ms hB hC hc hd t => exact .cons D C' ms hB (by omega) h2 hd t
theorem Marks.keep {B C : Nat} {w w' : World} {ms : List Deferred} (h : Marks B w C ms) (hsz : w.heap.size ≤ w'.heap.size) (hk : ∀ D, B ≤ D → D < C → w.heap[D]? = some (.deferred (some [])) → w'.heap[D]? = some (.deferred (some []))) : Marks B w' C ms := by
  induction h with
  | nil C hc => exact .nil _ (by omega)
  | cons D C ms hB hC hc hd t ih => exact .cons D C ms hB hC (by omega) (hk D hB hC hd) (ih fun D' h1 h2 => hk D' h1 (by omega))
theorem Marks.append {A B C : Nat} {w : World} {ms ns : List Deferred} (h : Marks B w C ms) (hn : Marks A w B ns) (hA : A ≤ B) (hBC : B ≤ C) : Marks A w C (ms ++ ns) := by
  induction h with
  | nil C hc => exact hn.weak hBC hc
  | cons D C ms hB hC hc hd t ih => exact .cons D C _ (by omega) hC hc hd (ih hB)

/-! ### A loop over a function -/
def ItAt (P : Program) (gf : FuncId) (lb : Array Value) (encs : Nat → Array Value) (N : Nat) (Kp : World → World → Prop) (w : World) : Prop :=
  ∀ (l : Nat) (J : Nat → World → Prop) (Jx : World → Prop) (W : World), Below w.heap.size w W →
    (∀ k W1, k < N → J k W1 → YieldAt Fence.wide 3 P l (encs k) W1 fun e W' => (e = .returned (.bool true) ∧ J (k + 1) W' ∧ Kp W1 W') ∨ (e = .returned (.bool false) ∧ Jx W')) →
    J 0 W → CallsIn Fence.wide 4 P gf (#[.func (.yield l) #[] #[]] ++ lb) W fun e W' => (∃ v, e = .returned v) ∧ (J N W' ∨ Jx W')
theorem range_at {P : Program} {g : Operand} {ps : Array Tmp} {assign body : Code} {Q : Exit → Act → World → Prop} {a : Act} {w : World} {gf : FuncId} {lb : Array Value} {encs : Nat → Array Value} {N : Nat} {Kp : World → World → Prop}
    (hg : a.eval g = .func (.func gf) #[] lb) (eg : ∀ args w, (callFunc gf args).run P w = .ok (.enter gf args) w) (hit : ItAt P gf lb encs N Kp w)
    (hKt : ∀ A B C, Kp A B → Kp B C → Kp A C) (hKb : ∀ W l o, w.heap.size ≤ l → Kp W (W.putObj l o))
    (I : Nat → World → Prop) (M : Nat → Act → World → Prop) (Ix : Code → World → Prop) (hI : OwnFrom w.heap.size I) (hM : ∀ k a', OwnFrom w.heap.size fun (_ : Unit) W => M k a' W) (hX : OwnFrom w.heap.size Ix) (h0 : I 0 w) (hps : ∀ k W, k < N → I k W → (encs k).size = ps.size)
    (hA : ∀ l k W, k < N → I k W → assign.wpIn (Fr (some l)) 3 P (fun e a' W' => e = .normal ∧ KeepsFrom w.heap.size W W' ∧ Kp W W' ∧ M k a' W') { tmps := (ps.zip (encs k)).foldl (fun t (p, v) => t.setIfInBounds p v) a.tmps, defers := [] } W)
    (hB : ∀ l k a' W, k < N → M k a' W → body.wpIn (Fr (some l)) 3 P (fun e _ W' => KeepsFrom w.heap.size W W' ∧ (e = .normal ∧ Kp W W' ∧ I (k + 1) W' ∨ e = .ret ∧ Ix .ret W' ∨ ∃ id, e = .exit id ∧ Ix (.exit id) W')) a' W)
    (hD : ∀ D W, w.heap.size ≤ D → I N W → W.heap[D]? = some (.deferred (some [])) → Q .normal { a with defers := { target := .collected D, args := #[] } :: a.defers } W)
    (hS : ∀ D c W, w.heap.size ≤ D → Ix c W → W.heap[D]? = some (.deferred (some [])) → c.wpIn Fence.wide 5 P Q { a with defers := { target := .collected D, args := #[] } :: a.defers } W) :
    (Code.rangeFunc g ps assign body).wpIn Fence.wide 5 P Q a w := by
  refine wpIn_rangeFunc fun fn hfn => ?_
  obtain ⟨rc, hrc⟩ : ∃ rc : LoopState → Option Code → Loop, rc = fun st pe => { state := st, pending := pe, fn, tmps := a.tmps, params := ps, assign, body, defers := w.heap.size } := ⟨_, rfl⟩
  have hps' : ∀ st pe, (rc st pe).params = ps := fun st pe => by rw [hrc]
  have hst : ∀ st pe, (rc st pe).state = st := fun st pe => by rw [hrc]
  have hrt : ∀ st pe, (rc st pe).tmps = a.tmps ∧ (rc st pe).assign = assign ∧ (rc st pe).body = body ∧ (rc st pe).fn = fn := fun st pe => by rw [hrc]; exact ⟨rfl, rfl, rfl, rfl⟩
  obtain ⟨W1, hW1⟩ : ∃ W1, (w.alloc (.deferred (some []))).alloc (.loop (rc .ready none)) = W1 := ⟨_, rfl⟩
  have hz1 : W1.heap.size = w.heap.size + 2 := by rw [← hW1]; simp
  have hL1 : W1.heap[w.heap.size + 1]? = some (.loop (rc .ready none)) := by
    rw [← hW1]; have := World.alloc_heap_new (w.alloc (.deferred (some []))) (.loop (rc .ready none)); rwa [World.size_alloc] at this
  have hD1 : W1.heap[w.heap.size]? = some (.deferred (some [])) := by
    rw [← hW1]; exact (Below.heap_alloc _ _ _ (by simp)).trans (World.alloc_heap_new w _)
  have hI1 : I 0 W1 := by rw [← hW1]; exact hI.alloc _ (hI.alloc _ h0)
  have hb1 : Below w.heap.size w W1 := by rw [← hW1]; exact ((Below.refl _ w).alloc (Nat.le_refl _) _).alloc (by simp) _
  refine ⟨w.heap.size + 1, [{ target := .collected w.heap.size, args := #[] }], W1, { target := .fn (.func gf) lb, args := #[.func (.yield (w.heap.size + 1)) #[] #[]] }, W1, gf, #[.func (.yield (w.heap.size + 1)) #[] #[]] ++ lb, W1, ?_, ?_, fun _ _ => trivial, ?_, fun _ => by decide, ?_⟩
  · rw [← hW1, hrc]; exact run_enterLoop_outer _ _ _ _ _
  · simp only [resolve, hg]; simp [go_sem]
  · simp [invoke, go_sem, eg]
  have hlo : ∀ (st : LoopState) (pe : Option Code) (W : World), W.heap[w.heap.size + 1]? = some (.loop (rc st pe)) → w.heap.size + 1 < W.heap.size := fun st pe W h => (Array.getElem?_eq_some_iff.1 h).1
  have hput : ∀ {W : World} (o : Obj), W.heap[w.heap.size]? = some (.deferred (some [])) → (W.putObj (w.heap.size + 1) o).heap[w.heap.size]? = some (.deferred (some [])) := fun o h => (World.putObj_heap_other (by omega)).trans h
  refine (hit (w.heap.size + 1) (fun k W => I k W ∧ W.heap[w.heap.size + 1]? = some (.loop (rc .ready none)) ∧ W.heap[w.heap.size]? = some (.deferred (some [])))
    (fun W => ∃ c, Ix c W ∧ W.heap[w.heap.size + 1]? = some (.loop (rc .done (some c))) ∧ W.heap[w.heap.size]? = some (.deferred (some []))) W1 hb1 ?_ ⟨hI1, hL1, hD1⟩).mono ?_
  · rintro k W hk ⟨hi, hl, hd⟩
    have hy := run_yield (P := P) (args := encs k) hl (by rw [hps']; exact hps k W hk hi)
    obtain ⟨r1, r2, r3, r4⟩ := hrt .ready none
    rw [r1, r2, r3, r4, hps'] at hy
    refine ⟨_, _, _, _, hy, roundIn_of_wpIn hfn ?_⟩
    refine wpIn_mono (hA (w.heap.size + 1) k W hk hi) ?_
    rintro e a' Wa ⟨rfl, hka, hpa, hm⟩
    have hla := hka.same _ _ (by omega) hl rfl
    have hda := hka.same _ _ (Nat.le_refl _) hd rfl
    have hsa := hlo _ _ _ hla
    refine ⟨_, run_beginRound hla (hst _ _), ?_⟩
    obtain ⟨Wb, hWb⟩ : ∃ Wb, Wa.putObj (w.heap.size + 1) (.loop { rc .ready none with state := .busy }) = Wb := ⟨_, rfl⟩
    have hlb : Wb.heap[w.heap.size + 1]? = some (.loop { rc .ready none with state := .busy }) := by rw [← hWb]; exact World.putObj_heap_same hsa
    have hdb : Wb.heap[w.heap.size]? = some (.deferred (some [])) := by rw [← hWb]; exact hput _ hda
    have hpb : Kp Wa Wb := by rw [← hWb]; exact hKb _ _ _ (by omega)
    have hmb : M k a' Wb := by rw [← hWb]; exact (hM k a').putObj (s := ()) _ hm (by omega) hla rfl
    rw [hWb]
    refine wpIn_mono (hB (w.heap.size + 1) k a' Wb hk hmb) ?_
    rintro e a2 W3 ⟨hk3, hq⟩
    have hl3 := hk3.same _ _ (by omega) hlb rfl
    have hd3 := hk3.same _ _ (Nat.le_refl _) hdb rfl
    have hs3 : w.heap.size + 1 < W3.heap.size := (Array.getElem?_eq_some_iff.1 hl3).1
    have hend : ∀ jump : Option Code, (Instr.endRound (w.heap.size + 1) jump).run P W3 = .ok (.bool jump.isNone) (W3.putObj (w.heap.size + 1) (.loop (rc (if jump.isNone then .ready else .done) jump))) := fun jump => by
      have := run_endRound (P := P) jump hl3
      rw [hrc] at this ⊢
      exact this
    have hl4 : ∀ o, (W3.putObj (w.heap.size + 1) o).heap[w.heap.size + 1]? = some o := fun o => World.putObj_heap_same hs3
    rcases hq with ⟨rfl, hp3, hi3⟩ | ⟨rfl, hx⟩ | ⟨id, rfl, hx⟩
    · exact ⟨_, _, hend none, .inl ⟨rfl, ⟨hI.putObj _ hi3 (by omega) hl3 rfl, hl4 _, hput _ hd3⟩, hKt _ _ _ (hKt _ _ _ hpa hpb) (hKt _ _ _ hp3 (hKb _ _ _ (by omega)))⟩⟩
    · exact ⟨_, _, hend (some .ret), .inr ⟨rfl, .ret, hX.putObj _ hx (by omega) hl3 rfl, hl4 _, hput _ hd3⟩⟩
    · exact ⟨_, _, hend (some (.exit id)), .inr ⟨rfl, .exit id, hX.putObj _ hx (by omega) hl3 rfl, hl4 _, hput _ hd3⟩⟩
  · have hel : ∀ (st : LoopState) (pe : Option Code) (W : World), st ≠ .busy → W.heap[w.heap.size + 1]? = some (.loop (rc st pe)) → (Instr.endLoop (w.heap.size + 1)).run P W = .ok pe (W.putObj (w.heap.size + 1) (.loop (rc .exhausted pe))) := fun st pe W hne hl => by
      have := run_endLoop (P := P) hl (by rw [hst]; exact hne)
      rw [hrc] at this ⊢
      exact this
    rintro e W2 ⟨⟨v, rfl⟩, (⟨hi, hl, hd⟩ | ⟨c, hx, hl, hd⟩)⟩
    · exact ⟨none, _, hel _ _ _ (by decide) hl, hD _ _ (Nat.le_refl _) (hI.putObj _ hi (by omega) hl rfl) (hput _ hd)⟩
    · exact ⟨some c, _, hel _ _ _ (by decide) hl, hS _ c _ (Nat.le_refl _) (hX.putObj _ hx (by omega) hl rfl) (hput _ hd)⟩
end Go.Proofs.YtlegcfjafdihlaaGreatDoor.Ev
