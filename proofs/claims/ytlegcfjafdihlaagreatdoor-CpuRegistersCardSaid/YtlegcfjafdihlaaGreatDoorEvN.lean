/-
  The evaluator of calls at given arguments, and its soundness: part N. It speaks of any program.
-/
import Derived.Test.YtlegcfjafdihlaaGreatDoorEvM
namespace Go.Proofs.YtlegcfjafdihlaaGreatDoor.Ev
open Go.RowKit
set_option linter.unusedSimpArgs false
set_option linter.unusedVariables false

theorem at_lt {H : Hp} {n : Nat} {b : AB} (h : H.at n = some b) : n < 2 ^ dep := by
  unfold Tri.at at h
  split at h
  · rename_i hk; simpa [Nat.blt_eq] using hk
  · cases h
theorem lrep_len (zs : List Value) : ∀ c, (lrep zs c).length = c * zs.length
  | 0 => by simp [lrep]
  | c + 1 => by simp [lrep, lfrc_eq, lrep_len zs c, Nat.add_mul]; omega
theorem lrep_get (zs : List Value) : ∀ (c i : Nat), i < c * zs.length → (lrep zs c)[i]? = zs[i % zs.length]?
  | 0, i, h => by simp at h
  | c + 1, i, h => by
    simp only [lrep, lfrc_eq]
    by_cases h1 : i < zs.length
    · rw [List.getElem?_append_left h1, Nat.mod_eq_of_lt h1]
    · rw [Nat.add_mul, Nat.one_mul] at h
      rw [List.getElem?_append_right (by omega), lrep_get zs c _ (by omega), Nat.mod_eq_sub_mod (a := i) (by omega)]
theorem lrep_eq {zs : List Value} (hz : 0 < zs.length) (c : Nat) : ((Array.range (c * zs.length)).map fun i => (⟨zs⟩ : Array Value)[i % (⟨zs⟩ : Array Value).size]!) = ⟨lrep zs c⟩ := by
  apply Array.toList_inj.1
  apply List.ext_getElem?
  intro i
  simp only [Array.toList_map, Array.toList_range, List.getElem?_map]
  by_cases h : i < c * zs.length
  · have hm : i % zs.length < zs.length := Nat.mod_lt _ hz
    rw [lrep_get zs c i h]
    simp [h, hm]
  · have h2 : (lrep zs c).length ≤ i := by rw [lrep_len]; omega
    simp [h, List.getElem?_eq_none h2]
theorem lrep_mem (zs : List Value) : ∀ c, ∀ v ∈ lrep zs c, v ∈ zs
  | 0, v, h => by simp [lrep] at h
  | c + 1, v, h => by
    simp only [lrep, lfrc_eq, List.mem_append] at h
    rcases h with h | h
    · exact h
    · exact lrep_mem zs c v h
theorem flats {ρ : Env} {l : List Value} (h : ∀ v ∈ l, flat0 v = true) : RL ρ l l := RL.refl0 fun v hv => flat_of_flat0 (h v hv)
theorem wrap_small {n : Int} (h0 : 0 ≤ n) (h1 : n ≤ 1000000) : IntKind.i64.wrap n = n := by
  have e : n % (2 ^ IntKind.i64.bits : Int) = n := Int.emod_eq_of_lt h0 (by show n < 2 ^ 64; omega)
  unfold IntKind.wrap
  simp only [e]
  rw [if_neg]
  intro h
  simp only [Bool.and_eq_true, decide_eq_true_eq] at h
  have : (2 : Int) ^ (IntKind.i64.bits - 1) = 2 ^ 63 := rfl
  omega
section
variable {d : Nat} {P : Program} {G : Env} {o : Oper}
theorem makeSlice_ok {T : Tri Value} {H : Hp} {nx : Nat} {t e : TypeId} {lx cx : Operand} {k1 k2 : IntKind} {l c : Int} {i : TypeInfo} {sz : Nat} {z : Value} {zs : List Value} (hop : o.op = .makeSlice t lx cx) (hu : prun P (underlying t) = some (.slice e)) (hl : opnd d T lx = .int k1 l) (hc : opnd d T cx = .int k2 c)
    (hi : prun P (typeInfo e) = some i) (hs : prun P (sizeOf e) = some sz) (hz : prun P (zeroValue e) = some z) (hzs : z.cells = ⟨zs⟩) (hb : 0 ≤ l ∧ l ≤ c ∧ c ≤ 1000000 ∧ i.bytes ≤ 100000) (hsz : zs.length = sz) (hp0 : 0 < sz) (hfl : zs.all flat0 = true) (hnx : nx + 1 < 2 ^ dep) :
    OpOk P G d T H nx o (.slice (some ⟨nx, 0, none⟩) l.toNat c.toNat) (H.set dep nx (some (.row (lrep zs c.toNat) e 1))) (nx + 2) (bit nx) (bit nx) := by
  refine newRow_ok (f := fun a => .slice (some a) l.toNat c.toNat) hnx (fun ρ h w a g hr => ⟨lrep zs c.toNat, flats fun v hv => List.all_eq_true.1 hfl v (lrep_mem _ _ v hv), ?_⟩) (fun ρ lo hex h => ?_)
  · have h1 := hr lx (by rw [hop]; simp [Op.operands])
    have h2 := hr cx (by rw [hop]; simp [Op.operands])
    rw [hl] at h1; rw [hc] at h2
    have e1 := int_inv h1
    have e2 := int_inv h2
    obtain ⟨b1, b2, b3, b4⟩ := hb
    have hm := lrep_eq (zs := zs) (by omega) c.toNat
    have hnz : c.toNat * sz = 0 → lrep zs c.toNat = [] := fun h0 => by
      have : c.toNat = 0 := by rcases Nat.mul_eq_zero.1 h0 with h | h <;> omega
      rw [this]; rfl
    have hbig : ¬ ((i.bytes : Int) * c > 2 ^ 48) := by
      have : (i.bytes : Int) * c ≤ 100000 * 1000000 := Int.mul_le_mul (by omega) b3 (by omega) (by omega)
      omega
    simp only [execOp, hop, e1, e2, Instr.makeSlice, Sem.run_bind, Sem.run_pure, Result.andThen_ok, prun_sound hu w, prun_sound hi w, asInt, asIntOf, wrap_small b1 (by omega : l ≤ 1000000), wrap_small (by omega : 0 ≤ c) b3]
    have hcond : ((decide (c < 0) || decide ((i.bytes : Int) * c > 2 ^ 48)) || decide (l < 0) || decide (l > c)) = false := by
      simp only [Bool.or_eq_false_iff, decide_eq_false_iff_not]; omega
    simp only [hcond, Bool.false_eq_true, if_false, run_askRoom, Sem.run_bind, Result.andThen_ok, prun_sound hs w]
    by_cases h0 : c.toNat * sz = 0
    · have : c.toNat = 0 := by rcases Nat.mul_eq_zero.1 h0 with h | h <;> omega
      simp only [Sem.run_ite, if_pos h0, Sem.run_pure, Result.andThen_ok, newRow, run_newObj, Sem.run_bind]
      rw [h0, this, show (Array.map (fun x => (#[] : Array Value)[x % (#[] : Array Value).size]!) (Array.range 0)) = #[] by simp]
      rfl
    · have hm2 : (Array.map (fun x => z.cells[x % z.cells.size]!) (Array.range (c.toNat * sz))) = ⟨lrep zs c.toNat⟩ := by rw [hzs, ← hsz]; exact hm
      simp only [Sem.run_ite, if_neg h0, Sem.run_bind, Sem.run_pure, Result.andThen_ok, prun_sound hz w, newRow, run_newObj, hm2]
      rfl
  · have := R.slice nx 0 l.toNat c.toNat lo h
    have e : lo.cap 0 c.toNat = c.toNat := by unfold Loc.cap; rw [hex]; split <;> rfl
    rw [e] at this
    simpa using this
theorem buildSlice_ok {T : Tri Value} {H : Hp} {nx : Nat} {t e : TypeId} {len : Nat} {parts : Array (Nat × Operand)} {sz : Nat} {z : Value} {zs cs : List Value} (hop : o.op = .buildSlice t len parts) (hu : prun P (underlying t) = some (.slice e))
    (hs : prun P (sizeOf e) = some sz) (hz : prun P (zeroValue e) = some z) (hzs : z.cells = ⟨zs⟩) (hb : len * sz ≤ 1000000) (hsz : zs.length = sz) (hp0 : 0 < sz) (hfl : zs.all flat0 = true)
    (hf : Instr.fill (fun i => some (i * sz, sz)) ⟨lrep zs len⟩ (parts.map fun (i, x) => (i, opnd d T x)).toList = some ⟨cs⟩) (hnx : nx + 1 < 2 ^ dep) :
    OpOk P G d T H nx o (.slice (some ⟨nx, 0, none⟩) len len) (H.set dep nx (some (.row cs e 1))) (nx + 2) (bit nx) (bit nx) := by
  refine newRow_ok (f := fun a => .slice (some a) len len) hnx (fun ρ h w a g hr => ?_) (fun ρ lo hex h => ?_)
  · have hps : PL ρ (parts.map fun (i, x) => (i, opnd d T x)).toList (parts.map fun (i, x) => (i, a.eval x)).toList := by
      simp only [Array.toList_map]
      exact PL.of_map fun x hx => hr x (by rw [hop]; simpa [Op.operands] using hx)
    have hz0 : RL ρ (⟨lrep zs len⟩ : Array Value).toList (⟨lrep zs len⟩ : Array Value).toList := flats fun v hv => List.all_eq_true.1 hfl v (lrep_mem _ _ v hv)
    obtain ⟨r', h1, h2⟩ := fill_rel hps hz0 hf
    refine ⟨r'.toList, h2, ?_⟩
    have hm := lrep_eq (zs := zs) (by omega) len
    simp only [execOp, hop, Instr.buildSlice, Sem.run_bind, Sem.run_pure, Result.andThen_ok, prun_sound hu w, prun_sound hs w]
    have hnot : ¬ (len * sz > 2 ^ 24) := by omega
    simp only [hnot, if_false]
    have h1' : Instr.fill (fun i => some (i * sz, sz)) ⟨lrep zs len⟩ (Array.map (fun x => (x.fst, a.eval x.snd)) parts).toList = some r' := h1
    by_cases h0 : len * sz = 0
    · have hl0 : len = 0 := by rcases Nat.mul_eq_zero.1 h0 with h | h <;> omega
      have hm0 : (Array.map (fun x => (#[] : Array Value)[x % (#[] : Array Value).size]!) (Array.range (len * sz))) = ⟨lrep zs len⟩ := by rw [h0, hl0]; simp [lrep]
      simp only [Sem.run_ite, if_pos h0, Sem.run_pure, Sem.run_bind, Result.andThen_ok, hm0, h1', newRow, run_newObj]
      rfl
    · have hm2 : (Array.map (fun x => z.cells[x % z.cells.size]!) (Array.range (len * sz))) = ⟨lrep zs len⟩ := by rw [hzs, ← hsz]; exact hm
      simp only [Sem.run_ite, if_neg h0, Sem.run_bind, Sem.run_pure, Result.andThen_ok, prun_sound hz w, hm2, h1', newRow, run_newObj]
      rfl
  · have := R.slice nx 0 len len lo h
    have e : lo.cap 0 len = len := by unfold Loc.cap; rw [hex]; split <;> rfl
    rw [e] at this
    simpa using this
end
end Go.Proofs.YtlegcfjafdihlaaGreatDoor.Ev
