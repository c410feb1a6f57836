/-
  The evaluator of calls at given arguments, and its soundness: part M. It speaks of any program.
-/
import Derived.Test.YtlegcfjafdihlaaGreatDoorEvL
namespace Go.Proofs.YtlegcfjafdihlaaGreatDoor.Ev
open Go.RowKit
set_option linter.unusedSimpArgs false
set_option linter.unusedVariables false

section
variable {P : Program} {G : Env} {o : Oper} {ρ : Env}
/-- Operations that hand values on. -/
theorem handsOn_rel {f g : Operand → Value} {v : Value} (hh : handsOn o.op = true) (hr : ∀ x ∈ o.op.operands, R ρ (f x) (g x)) (h : prun P (execOp f o) = some (.value v)) (w : World) : ∃ u, (execOp g o).run P w = .ok (.value u) w ∧ R ρ v u := by
  have fin : ∀ {s t : Sem Value}, execOp f o = (s >>= fun x => pure (Next.value x)) → execOp g o = (t >>= fun x => pure (Next.value x)) → (∀ v, prun P s = some v → ∃ u, prun P t = some u ∧ R ρ v u) → ∃ u, (execOp g o).run P w = .ok (.value u) w ∧ R ρ v u := by
    intro s t e1 e2 h1
    rw [e1] at h
    obtain ⟨u, h2, h3⟩ := h1 v (prun_map_value h)
    exact ⟨u, by rw [e2]; exact run_map_value h2 w, h3⟩
  obtain ⟨dst, op, ty, pos, aft, grd⟩ := o
  dsimp only at hh hr
  cases op <;> simp only [handsOn, Bool.false_eq_true] at hh <;> simp only [Op.operands] at hr
  case move x => simp only [execOp, prun_pure, Option.some.injEq, Next.value.injEq] at h ⊢; subst h; exact ⟨_, rfl, hr x (by simp)⟩
  case assign x => simp only [execOp, prun_pure, Option.some.injEq, Next.value.injEq] at h ⊢; subst h; exact ⟨_, rfl, hr x (by simp)⟩
  case pick c a b =>
    simp only [execOp, prun_bind] at h ⊢
    obtain ⟨t, ht, h⟩ := opt_bind h
    have hc := asBool_inv ht
    have hc2 : g c = .bool t := ((hr c (by simp)).bool_inv t).1 hc
    simp only [hc2, asBool, Sem.run_bind, Sem.run_pure, Result.andThen_ok]
    simp only [prun_pure, Option.some.injEq, Next.value.injEq] at h
    subst h
    cases t with
    | true => exact ⟨_, rfl, hr a (by simp)⟩
    | false => exact ⟨_, rfl, hr b (by simp)⟩
  case extract t i => exact fin rfl rfl fun v h => extract_rel (hr t (by simp)) h
  case field t x i => exact fin rfl rfl fun v h => field_rel (hr x (by simp)) h
  case index t x i => exact fin rfl rfl fun v h => index_rel (hr x (by simp)) (hr i (by simp)) h
  case makeFunc fn a b =>
    refine fin rfl rfl fun v h => ?_
    simp only [Instr.makeFunc, prun_pure, Option.some.injEq] at h ⊢
    subst h
    refine ⟨_, rfl, ?_⟩
    exact R.func fn _ _ _ _ (RL.map_arr fun x hx => hr x (by simp [hx])) (RL.map_arr fun x hx => hr x (by simp [hx]))
  case makeInterface t x =>
    refine fin rfl rfl fun v h => ?_
    unfold Instr.makeInterface at h ⊢
    rw [prun_bind] at h ⊢
    obtain ⟨d, hd, h⟩ := opt_bind h
    simp only [hd, Option.bind_some]
    split at h
    · simp [prun, stuck] at h
    · simp only [prun_pure, Option.some.injEq] at h
      subst h
      exact ⟨_, by simp only [prun_pure], .iface _ _ _ (hr x (by simp))⟩
  case call c =>
    obtain ⟨cal, args, ats⟩ := c
    cases cal with
    | value f => simp at hh
    | invoke r m => simp at hh
    | builtin b =>
      cases b <;> simp at hh
      have hra : RL ρ (args.map f).toList (args.map g).toList := RL.map_arr fun x hx => hr x (by simp [Call.operands, hx])
      exact fin (s := Builtin.len_ ats ty (args.map f)) (t := Builtin.len_ ats ty (args.map g)) rfl rfl fun v h => len_rel hra h
/-- Comparisons with nil. -/
theorem equal_nil {t : TypeId} {d : TypeDesc} {x y : Value} (hd : prun P (underlying t) = some d) (hs : nilShape d x y = true) : prun P (Op.equal t x y) = some false := by
  have e : ∀ x y, Op.equal t x y = Op.equalIn (9999 + 1) t x y := fun _ _ => rfl
  rw [e, Op.equalIn.eq_2, prun_bind, hd, Option.bind_some]
  unfold nilShape at hs
  split at hs <;> first | rfl | cases hs
theorem guard_nil {op : BinOp} {t : TypeId} {d : TypeDesc} {x y : Value} {a b : Operand} (hs : nilShape d x y = true) : prun P (eqGuard op t a b x y) = some () := by
  unfold nilShape at hs
  split at hs <;> first | (cases op <;> rfl) | cases hs
theorem nilShape_rel {d : TypeDesc} {x y x' y' : Value} (hs : nilShape d x y = true) (hx : R ρ x x') (hy : R ρ y y') : nilShape d x' y' = true := by
  unfold nilShape at hs
  split at hs
  all_goals (try (cases hs; done))
  all_goals
    cases hx <;> cases hy <;> rfl
theorem nilEq_run {t : TypeId} {d : TypeDesc} {x y : Operand} {ty : TypeId} {g : Operand → Value} {op : BinOp} {b : Bool} (hop : o.op = .binOp op t x y ty) (ho : op = .eql ∧ b = false ∨ op = .neq ∧ b = true) (hd : prun P (underlying t) = some d) (hs : nilShape d (g x) (g y) = true) (w : World) :
    (execOp g o).run P w = .ok (.value (.bool b)) w := by
  have hrun : execOp g o = ((do eqGuard op t x y (g x) (g y); binOp op t (g x) (g y)) >>= fun x => pure (Next.value x)) := by unfold execOp; rw [hop]
  rw [hrun]
  refine run_map_value ?_ w
  rw [prun_bind, guard_nil hs, Option.bind_some]
  have hb : ∀ a b : Value, nilShape d a b = true → binOp .eql t a b = (do pure (.bool (← Op.equal t a b))) ∧ binOp .neq t a b = (do pure (.bool (!(← Op.equal t a b)))) := by
    intro a b h
    unfold nilShape at h
    split at h <;> first | exact ⟨rfl, rfl⟩ | cases h
  rcases ho with ⟨rfl, rfl⟩ | ⟨rfl, rfl⟩
  · rw [(hb _ _ hs).1, prun_bind, equal_nil hd hs]; rfl
  · rw [(hb _ _ hs).2, prun_bind, equal_nil hd hs]; rfl
end
end Go.Proofs.YtlegcfjafdihlaaGreatDoor.Ev
