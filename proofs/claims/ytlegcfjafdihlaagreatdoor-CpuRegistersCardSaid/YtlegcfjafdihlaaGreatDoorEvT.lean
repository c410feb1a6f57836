/-
  The evaluator of calls at given arguments, and its soundness: part T. It speaks of any program.
-/
import Derived.Test.YtlegcfjafdihlaaGreatDoorEvS
namespace Go.Proofs.YtlegcfjafdihlaaGreatDoor.Ev
open Go.RowKit
set_option linter.unusedSimpArgs false
set_option linter.unusedVariables false

section
variable {d : Nat} {P : Program} {G : Env} {o : Oper}
theorem iadd_eq (a b : Int) : iadd a b = a + b := by cases a <;> cases b <;> rfl
theorem isub_eq (a b : Int) : isub a b = a - b := by
  cases a with
  | ofNat a => cases b with
    | ofNat b =>
      unfold isub
      dsimp only
      cases h : Nat.ble b a with
      | true => have := Nat.le_of_ble_eq_true h; dsimp only; show ((a - b : Nat) : Int) = (a : Int) - b; omega
      | false =>
        have hlt : a < b := by
          rcases Nat.lt_or_ge a b with k | k
          · exact k
          · rw [Nat.ble_eq_true_of_le k] at h; cases h
        dsimp only
        show Int.negSucc (b - a - 1) = (a : Int) - b
        omega
    | negSucc b => rfl
  | negSucc a => cases b <;> rfl
theorem ieq_eq (a b : Int) : ieq a b = (a == b) := by
  rw [Bool.eq_iff_iff, beq_iff_eq]
  cases a with
  | ofNat a => cases b with
    | ofNat b =>
      show Nat.beq a b = true ↔ _
      rw [Nat.beq_eq]
      exact ⟨fun h => by rw [h], fun h => Int.ofNat.inj h⟩
    | negSucc b => exact ⟨fun h => (by cases h), fun h => (by cases h)⟩
  | negSucc a => cases b with
    | ofNat b => exact ⟨fun h => (by cases h), fun h => (by cases h)⟩
    | negSucc b =>
      show Nat.beq a b = true ↔ _
      rw [Nat.beq_eq]
      exact ⟨fun h => by rw [h], fun h => Int.negSucc.inj h⟩
theorem ilt_eq (a b : Int) : ilt a b = decide (a < b) := by
  rw [Bool.eq_iff_iff, decide_eq_true_eq]
  cases a with
  | ofNat a => cases b with
    | ofNat b =>
      show Nat.blt a b = true ↔ (a : Int) < b
      rw [Nat.blt_eq]; omega
    | negSucc b =>
      show false = true ↔ (a : Int) < Int.negSucc b
      exact ⟨fun h => (by cases h), fun h => (by omega)⟩
  | negSucc a => cases b with
    | ofNat b =>
      show true = true ↔ Int.negSucc a < (b : Int)
      exact ⟨fun _ => (by omega), fun _ => rfl⟩
    | negSucc b =>
      show Nat.blt b a = true ↔ _
      rw [Nat.blt_eq]; omega
theorem iwrap_eq (k : IntKind) (n : Int) : iwrap k n = k.wrap n := by
  cases n with
  | negSucc n => rfl
  | ofNat n =>
    unfold iwrap
    dsimp only
    cases hb : Nat.blt n 9223372036854775808 with
    | false => cases k <;> rfl
    | true =>
      cases k <;> try rfl
      have hn : n < 9223372036854775808 := by rw [Nat.blt_eq] at hb; exact hb
      have e : (Int.ofNat n) % (2 ^ IntKind.i64.bits : Int) = Int.ofNat n := Int.emod_eq_of_lt (Int.natCast_nonneg n) (by show (n : Int) < 2 ^ 64; omega)
      unfold IntKind.wrap
      simp only [e]
      rw [if_neg]
      intro h
      simp only [Bool.and_eq_true, decide_eq_true_eq] at h
      have h2 : (2 : Int) ^ (IntKind.i64.bits - 1) = 2 ^ 63 := rfl
      have h3 : (Int.ofNat n) = (n : Int) := rfl
      omega
theorem evInt_run {op : BinOp} {k : IntKind} {a b : Int} {v : Value} {t : TypeId} {x y : Operand} {ty : TypeId} {f : Operand → Value} (hop : o.op = .binOp op t x y ty) (hx : f x = .int k a) (hy : f y = .int k b) (h : evInt op k a b = some v) : prun P (execOp f o) = some (.value v) ∧ flat v = true := by
  have hrun : execOp f o = ((do eqGuard op t x y (f x) (f y); binOp op t (f x) (f y)) >>= fun x => pure (Next.value x)) := by unfold execOp; rw [hop]
  rw [hrun, hx, hy]
  have hg : prun P (eqGuard op t x y (.int k a) (.int k b)) = some () := by cases op <;> rfl
  rw [prun_bind, prun_bind, hg, Option.bind_some]
  have hb : prun P (binOp op t (.int k a) (.int k b)) = some v ∧ flat v = true := by
    cases op <;> simp only [evInt, Option.some.injEq] at h <;> first
      | (cases h; done)
      | (subst h
         simp only [iwrap_eq, iadd_eq, isub_eq, ieq_eq, ilt_eq]
         unfold binOp
         simp only [ne_eq, not_true_eq_false, if_false]
         refine ⟨?_, rfl⟩
         first
           | rfl
           | (simp only [Op.intCmp, prun_pure, Option.some.injEq, Value.bool.injEq]
              first | rfl | (rw [Bool.eq_iff_iff]; simp; try omega)))
  rw [hb.1]
  exact ⟨rfl, hb.2⟩
theorem flat_run {T : Tri Value} {H : Hp} {nx : Nat} {v : Value} (hs : ∀ cs b, o.op ≠ .select cs b) (hf : ∀ x ∈ o.op.operands, flat (opnd d T x) = true) (h : prun P (execOp (opnd d T) o) = some (.value v)) (hv : flat v = true) : OpOk P G d T H nx o v H nx 0 0 := by
  refine opOk_quiet fun ρ h0 w a g _ hr => ?_
  have e : execOp a.eval o = execOp (opnd d T) o := execOp_congr o hs fun x hx => (hr x hx).flat_inv (hf x hx)
  exact ⟨v, by rw [e]; exact prun_sound h w, .flat v hv⟩
theorem evFlat_ok {T : Tri Value} {H H' : Hp} {nx nx' S W : Nat} {v : Value} (hs : ∀ cs b, o.op ≠ .select cs b) (h : evFlat P d T H nx o = .ok v H' nx' S W) : Stp H nx H' nx' W ∧ OpOk P G d T H nx o v H' nx' S W := by
  unfold evFlat at h
  split at h
  case h_2 => cases h
  rename_i hall
  split at h
  case h_2 => cases h
  rename_i u hu
  split at h
  case h_2 => cases h
  rename_i hv
  cases h
  exact ⟨Stp.refl _ _, flat_run hs (fun x hx => List.all_eq_true.1 hall x (by simpa using hx)) hu hv⟩
theorem evRun_ok {T : Tri Value} {H H' : Hp} {nx nx' S W : Nat} {v : Value} (hh : handsOn o.op = true) (h : evRun P d T H nx o = .ok v H' nx' S W) : Stp H nx H' nx' W ∧ OpOk P G d T H nx o v H' nx' S W := by
  unfold evRun at h
  split at h
  case h_2 => cases h
  rename_i u hu
  cases h
  exact ⟨Stp.refl _ _, opOk_quiet fun ρ h0 w a g _ hr => handsOn_rel hh hr hu w⟩
theorem evPure_ok {T : Tri Value} {H H' : Hp} {nx nx' S W : Nat} {v : Value} (hs : ∀ cs b, o.op ≠ .select cs b) (h : evPure P d T H nx o = .ok v H' nx' S W) : Stp H nx H' nx' W ∧ OpOk P G d T H nx o v H' nx' S W := by
  unfold evPure at h
  split at h
  · exact evRun_ok ‹_› h
  · exact evFlat_ok hs h
theorem hands_ok {T : Tri Value} {H : Hp} {nx : Nat} {v : Value} (hh : handsOn o.op = true) (h : prun P (execOp (opnd d T) o) = some (.value v)) : Stp H nx H nx 0 ∧ OpOk P G d T H nx o v H nx 0 0 :=
  ⟨Stp.refl _ _, opOk_quiet fun ρ h0 w a g _ hr => handsOn_rel hh hr h w⟩
theorem evField_run {T : Tri Value} {H H' : Hp} {nx nx' S W : Nat} {v : Value} {t : TypeId} {i : Nat} {x : Operand} (hop : o.op = .field t x i) (h : evField P t i (opnd d T x) H nx = .ok v H' nx' S W) : prun P (execOp (opnd d T) o) = some (.value v) ∧ H' = H ∧ nx' = nx ∧ S = 0 ∧ W = 0 := by
  unfold evField at h
  split at h
  case h_2 => cases h
  rename_i cs hx
  have hinfo : ∀ {off : Nat} {b : Bool} {n : Nat}, prun P (fieldInfo t i) = some (off, b, n) → ∃ fs f, prun P (underlying t) = some (.struct fs) ∧ fs[i]? = some f ∧ f.offset = off ∧ prun P (isAgg f.type) = some b ∧ prun P (sizeOf f.type) = some n := by
    intro off b n hi
    unfold fieldInfo at hi
    rw [prun_bind] at hi
    obtain ⟨dd, hd, hi⟩ := opt_bind hi
    split at hi
    · rename_i fs
      split at hi
      · rename_i f hf
        rw [prun_bind] at hi
        obtain ⟨a, ha, hi⟩ := opt_bind hi
        rw [prun_bind] at hi
        obtain ⟨n2, hn, hi⟩ := opt_bind hi
        simp only [prun_pure, Option.some.injEq, Prod.mk.injEq] at hi
        obtain ⟨rfl, rfl, rfl⟩ := hi
        exact ⟨fs, f, hd, hf, rfl, ha, hn⟩
      · simp [prun, stuck] at hi
    · simp [prun, stuck] at hi
  have hrun : execOp (opnd d T) o = (Instr.field t (.agg ⟨cs⟩) i >>= fun x => pure (Next.value x)) := by unfold execOp; rw [hop]; dsimp only; rw [hx]
  have hfield : ∀ {fs : Array Field} {f : Field}, prun P (underlying t) = some (.struct fs) → fs[i]? = some f → prun P (Instr.field t (.agg ⟨cs⟩) i) = prun P (part f.type ⟨cs⟩ f.offset) := by
    intro fs f h1 h2
    unfold Instr.field
    rw [prun_bind, h1, Option.bind_some]
    dsimp only
    rw [h2]
    rfl
  split at h
  · rename_i off n hi
    obtain ⟨fs, f, h1, h2, h3, h4, h5⟩ := hinfo hi
    split at h
    case h_2 => cases h
    rename_i u hu
    cases h
    refine ⟨?_, rfl, rfl, rfl, rfl⟩
    rw [lget_eq] at hu
    have hu' : (⟨cs⟩ : Array Value)[off]? = some v := by simpa using hu
    rw [hrun, prun_bind, hfield h1 h2, h3]
    unfold part
    rw [prun_bind, h4, Option.bind_some]
    simp only [Bool.false_eq_true, if_false, hu', prun_pure, Option.bind_some]
  · rename_i off n hi
    obtain ⟨fs, f, h1, h2, h3, h4, h5⟩ := hinfo hi
    split at h
    case h_2 => cases h
    rename_i l hl
    cases h
    refine ⟨?_, rfl, rfl, rfl, rfl⟩
    obtain ⟨e1, e2, e3⟩ := lsub_eq _ _ _ _ hl
    rw [hrun, prun_bind, hfield h1 h2, h3]
    unfold part
    rw [prun_bind, h4, Option.bind_some]
    simp only [if_true]
    rw [prun_bind, h5, Option.bind_some, prun_pure, Option.bind_some, prun_pure]
    congr 3
    apply Array.toList_inj.1
    rw [e1]
    simp [List.extract_eq_take_drop]
  · cases h
theorem evExtract_run {T : Tri Value} {H H' : Hp} {nx nx' S W : Nat} {v : Value} {i : Nat} {x : Operand} (hop : o.op = .extract x i) (h : evExtract (opnd d T x) i H nx = .ok v H' nx' S W) : prun P (execOp (opnd d T) o) = some (.value v) ∧ H' = H ∧ nx' = nx ∧ S = 0 ∧ W = 0 := by
  unfold evExtract at h
  split at h
  case h_2 => cases h
  rename_i cs hx
  split at h
  case h_2 => cases h
  rename_i u hu
  cases h
  refine ⟨?_, rfl, rfl, rfl, rfl⟩
  rw [lget_eq] at hu
  have hu' : (⟨cs⟩ : Array Value)[i]? = some v := by simpa using hu
  unfold execOp
  rw [hop]
  dsimp only
  rw [hx, prun_bind]
  unfold Instr.extract
  dsimp only
  rw [hu']
  rfl
end
end Go.Proofs.YtlegcfjafdihlaaGreatDoor.Ev
