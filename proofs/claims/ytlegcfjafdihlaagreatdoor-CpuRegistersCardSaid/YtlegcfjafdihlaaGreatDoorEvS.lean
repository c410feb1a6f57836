/-
  The evaluator of calls at given arguments, and its soundness: part S. It speaks of any program.
-/
import Derived.Test.YtlegcfjafdihlaaGreatDoorEvR
namespace Go.Proofs.YtlegcfjafdihlaaGreatDoor.Ev
open Go.RowKit
set_option linter.unusedSimpArgs false
set_option linter.unusedVariables false

section
variable {d : Nat} {P : Program} {G : Env} {o : Oper}
theorem method_rel {t : TypeId} {i : TypeInfo} {name : String} {m : Method} {v r : Value} {f : FuncId} {n : Nat} (hi : prun P (typeInfo t) = some i) (hm : i.methods.find? (·.name == name) = some m) (hpath : m.path.toList = []) (hpl : plainRecv P t m = true) (h : prun P (method n t v name) = some (f, r)) (u : Value) : prun P (method n t u name) = some (f, u) := by
  cases n with
  | zero => simp [method, prun, unsupported] at h
  | succ n =>
    unfold method at h ⊢
    rw [prun_bind, hi, Option.bind_some] at h ⊢
    rw [hm] at h ⊢
    dsimp only at h ⊢
    rw [hpath] at h ⊢
    rw [prun_bind] at h ⊢
    have hfo : ∀ x : Value, prun P (follow [] t (.val x)) = some (t, .val x) := fun x => rfl
    rw [hfo, Option.bind_some] at h ⊢
    dsimp only at h ⊢
    cases hf : m.func with
    | none => unfold plainRecv at hpl; rw [hf] at hpl; cases hpl
    | some fp =>
      obtain ⟨f2, p⟩ := fp
      rw [hf] at h
      dsimp only at h ⊢
      rw [prun_bind] at h ⊢
      obtain ⟨r2, hr2, h⟩ := opt_bind h
      simp only [prun_pure, Option.some.injEq, Prod.mk.injEq] at h
      obtain ⟨rfl, rfl⟩ := h
      unfold receiverAt at hr2 ⊢
      rw [prun_bind] at hr2 ⊢
      obtain ⟨dd, hd, hr2⟩ := opt_bind hr2
      rw [hd, Option.bind_some]
      cases p with
      | true =>
        cases dd <;> dsimp only at hr2 ⊢ <;> first
          | (simp [prun, stuck] at hr2; done)
          | rfl
      | false =>
        unfold plainRecv at hpl
        rw [hf] at hpl
        dsimp only at hpl
        rw [hd] at hpl
        cases dd <;> dsimp only at hr2 hpl ⊢ <;> first
          | rfl
          | (cases hpl; done)
theorem enter_ok {call : FuncId → List Value → Hp → Nat → Rs} (hcall : CallOk P G call) {T : Tri Value} {H H' : Hp} {nx nx' S W : Nat} {v : Value} {k : FuncId} {args : List Value} (hpar : nx % 2 = 0) (h : call k args H nx = .ok v H' nx' S W)
    (hrun : ∀ (ρ : Env) (a : Act) (w : World), (∀ x ∈ o.op.operands, R ρ (opnd d T x) (a.eval x)) → ∃ args', RL ρ args args' ∧ ((∃ fn, P.funcs[k]? = some fn ∧ (fn.name == "runtime.NumGoroutine") = false ∧ fn.body.isNone = false) → (execOp a.eval o).run P w = .ok (.enter k ⟨args'⟩) w)) :
    Stp H nx H' nx' W ∧ OpOk P G d T H nx o v H' nx' S W := by
  obtain ⟨hs, hfn, hc⟩ := hcall k args H nx v H' nx' S W hpar h
  refine ⟨hs, ?_⟩
  intro ρ h w a g hS hfr hr K Q hK
  obtain ⟨args', h1, h2⟩ := hrun ρ a w hr
  have h3 := hc ρ h w args' g hS hfr h1
  unfold Oper.wp
  rw [h2 hfn]
  show Calls P k ⟨args'⟩ w _
  refine h3.mono fun e w' he => ?_
  obtain ⟨ρ', u, rfl, hru, hev⟩ := he
  exact hK ρ' u w' hev hru
theorem callV_ok {call : FuncId → List Value → Hp → Nat → Rs} (hcall : CallOk P G call) {T : Tri Value} {H H' : Hp} {nx nx' S W : Nat} {v : Value} {f : Operand} {args : Array Operand} {ts : Array TypeId} {k : FuncId} {first cap : List Value} (hpar : nx % 2 = 0)
    (hop : o.op = .call ⟨.value f, args, ts⟩) (hf : opnd d T f = .func (.func k) ⟨first⟩ ⟨cap⟩) (h : call k (first ++ (args.toList.map (opnd d T) ++ cap)) H nx = .ok v H' nx' S W) : Stp H nx H' nx' W ∧ OpOk P G d T H nx o v H' nx' S W := by
  refine enter_ok hcall hpar h fun ρ a w hr => ?_
  have hf' := hr f (by rw [hop]; simp [Op.operands, Call.operands])
  rw [hf] at hf'
  obtain ⟨a', b', he, ha, hb⟩ := func_inv hf'
  have hl : RL ρ (args.toList.map (opnd d T)) (args.toList.map a.eval) := RL.of_map fun z hz => hr z (by rw [hop]; simp [Op.operands, Call.operands]; exact .inr (by simpa using hz))
  refine ⟨a' ++ (args.toList.map a.eval ++ b'), ha.append (hl.append hb), fun ⟨fn, h1, h2, h3⟩ => ?_⟩
  have e : execOp a.eval o = callFunc k ((⟨a'⟩ ++ args.map a.eval) ++ ⟨b'⟩) := by
    unfold execOp
    rw [hop]
    show (do let d ← resolve a.eval ⟨.value f, args, ts⟩ o.type; invoke d.target d.args) = _
    simp only [resolve, he, Deferred.ofValue, pure_bind, invoke]
  rw [e, callFunc_run h1 h2 h3]
  congr 2
  apply Array.toList_inj.1
  simp
theorem iface_inv {ρ : Env} {t : TypeId} {v u : Value} (h : R ρ (.iface t v) u) : ∃ v', u = .iface t v' ∧ R ρ v v' := by
  cases h with
  | flat _ hf => exact ⟨v, rfl, .flat v (flat_of_flat1 (by simpa [Ev.flat] using hf))⟩
  | iface _ _ v' h => exact ⟨v', rfl, h⟩
theorem evInvoke_ok {call : FuncId → List Value → Hp → Nat → Rs} (hcall : CallOk P G call) {T : Tri Value} {H H' : Hp} {nx nx' S W : Nat} {v : Value} {recv : Operand} {name : String} {args : Array Operand} {ts : Array TypeId} (hpar : nx % 2 = 0)
    (hop : o.op = .call ⟨.invoke recv name, args, ts⟩) (h : evInvoke P call H nx (opnd d T recv) name (args.toList.map (opnd d T)) = .ok v H' nx' S W) : Stp H nx H' nx' W ∧ OpOk P G d T H nx o v H' nx' S W := by
  unfold evInvoke at h
  split at h
  case h_2 => cases h
  rename_i t x hx
  split at h
  case h_2 => cases h
  rename_i i f r hi hmeth
  split at h
  case h_2 => cases h
  rename_i m hm
  split at h
  case h_2 => cases h
  rename_i hpath hpl
  refine enter_ok hcall hpar h fun ρ a w hr => ?_
  have hf' := hr recv (by rw [hop]; simp [Op.operands, Call.operands])
  rw [hx] at hf'
  obtain ⟨x', he, hxr⟩ := iface_inv hf'
  have hl : RL ρ (args.toList.map (opnd d T)) (args.toList.map a.eval) := RL.of_map fun z hz => hr z (by rw [hop]; simp [Op.operands, Call.operands]; exact .inr (by simpa using hz))
  refine ⟨x' :: args.toList.map a.eval, .cons _ _ _ _ hxr hl, fun ⟨fn, h1, h2, h3⟩ => ?_⟩
  have e : execOp a.eval o = callMethod (.iface t x') name ((#[Value.iface t x'] ++ args.map a.eval).extract 1 (#[Value.iface t x'] ++ args.map a.eval).size) := by
    unfold execOp
    rw [hop]
    show (do let d ← resolve a.eval ⟨.invoke recv name, args, ts⟩ o.type; invoke d.target d.args) = _
    simp only [resolve, he, pure_bind, invoke]
    have h0 : (#[Value.iface t x'] ++ args.map a.eval)[0]? = some (.iface t x') := by rw [Array.getElem?_append_left (by show 0 < 1; omega)]; rfl
    rw [h0]
  rw [e]
  unfold callMethod
  dsimp only
  rw [Sem.run_bind, run_program, Result.andThen_ok, Sem.run_bind, prun_sound (method_rel hi hm hpath hpl hmeth x') w, Result.andThen_ok]
  dsimp only
  rw [callFunc_run h1 h2 h3]
  congr 2
  apply Array.toList_inj.1
  simp only [Array.toList_append, Array.toList_extract, Array.toList_map, Array.size_append, Array.size_map, List.cons_append, List.nil_append]
  simp
  first | exact List.take_of_length_le (by rw [List.length_map, Array.length_toList]; exact Nat.le_refl _) | exact (List.take_of_length_le (by rw [List.length_map, Array.length_toList]; exact Nat.le_refl _)).symm
end
end Go.Proofs.YtlegcfjafdihlaaGreatDoor.Ev
