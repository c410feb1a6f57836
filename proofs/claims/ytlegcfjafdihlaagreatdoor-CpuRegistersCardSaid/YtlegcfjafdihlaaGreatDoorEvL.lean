/-
  The evaluator of calls at given arguments, and its soundness: part L. It speaks of any program.
-/
import Derived.Test.YtlegcfjafdihlaaGreatDoorEvJ
namespace Go.Proofs.YtlegcfjafdihlaaGreatDoor.Ev
open Go.RowKit
set_option linter.unusedSimpArgs false
set_option linter.unusedVariables false

section
variable {P : Program} {G : Env} {o : Oper} {ρ : Env}
theorem prun_map_value {s : Sem Value} {v : Value} (h : prun P (s >>= fun x => pure (Next.value x)) = some (.value v)) : prun P s = some v := by
  rw [prun_bind] at h
  obtain ⟨x, hx, h⟩ := opt_bind h
  simp only [prun_pure, Option.some.injEq, Next.value.injEq] at h
  subst h; exact hx
theorem run_map_value {s : Sem Value} {v : Value} (h : prun P s = some v) (w : World) : (s >>= fun x => pure (Next.value x) : Sem Next).run P w = .ok (.value v) w := by
  rw [Sem.run_bind, prun_sound h w]; rfl
theorem asBool_inv {v : Value} {b : Bool} (h : prun P (asBool v) = some b) : v = .bool b := by
  unfold asBool at h
  split at h
  · simp only [prun_pure, Option.some.injEq] at h; rw [h]
  · simp [prun, stuck] at h
theorem len_rel {ty : TypeId} {ts : Array TypeId} {l m : Array Value} {v : Value} (hr : RL ρ l.toList m.toList) (h : prun P (Builtin.len_ ts ty l) = some v) : ∃ u, prun P (Builtin.len_ ts ty m) = some u ∧ R ρ v u := by
  unfold Builtin.len_ at h ⊢
  cases h1 : ts[0]? with
  | none => simp [h1, prun, stuck] at h
  | some t =>
    cases h2 : l[0]? with
    | none => simp [h1, h2, prun, stuck] at h
    | some x =>
      obtain ⟨y, hy, hxy⟩ := hr.at (k := 0) (v := x) (by simpa using h2)
      have h3 : m[0]? = some y := by simpa using hy
      simp only [h1, h2, h3, prun_bind] at h ⊢
      obtain ⟨d, hd, h⟩ := opt_bind h
      simp only [hd, Option.bind_some]
      have flt : ∀ n : Nat, R ρ (goInt n) (goInt n) := fun n => .flat _ rfl
      cases hxy with
      | flat x hx =>
        refine ⟨v, h, ?_⟩
        have hv : flat v = true := by
          split at h <;> (try simp only [prun_bind] at h) <;> (try (simp only [prun_pure, Option.some.injEq] at h; subst h; rfl)) <;> (try (simp [prun, stuck] at h; done))
          all_goals (obtain ⟨d2, hd2, h⟩ := opt_bind h; split at h <;> first | (simp only [prun_pure, Option.some.injEq] at h; subst h; rfl) | (simp [prun, stuck] at h; done))
        exact .flat v hv
      | slice n o k c lo hl =>
        cases d <;> simp [prun_pure, prun, stuck, prun_bind] at h ⊢ <;> first | (subst h; exact flt _) | skip
        all_goals (obtain ⟨d2, hd2, h⟩ := opt_bind h; split at h <;> first | (simp [prun_pure] at h; subst h; simp [hd2, prun_pure]; exact flt _) | (simp [prun, stuck] at h; done))
      | ptr n o lo hl =>
        cases d <;> simp [prun_pure, prun, stuck, prun_bind] at h ⊢ <;> first | (subst h; exact flt _) | skip
        all_goals (obtain ⟨d2, hd2, h⟩ := opt_bind h; split at h <;> first | (simp [prun_pure] at h; subst h; simp [hd2, prun_pure]; exact flt _) | (simp [prun, stuck] at h; done))
      | func fn a b a' b' ha hb =>
        cases d <;> simp [prun_pure, prun, stuck, prun_bind] at h ⊢ <;> first | (subst h; exact flt _) | skip
        all_goals (obtain ⟨d2, hd2, h⟩ := opt_bind h; split at h <;> first | (simp [prun_pure] at h; subst h; simp [hd2, prun_pure]; exact flt _) | (simp [prun, stuck] at h; done))
      | iface t v u hv =>
        cases d <;> simp [prun_pure, prun, stuck, prun_bind] at h ⊢ <;> first | (subst h; exact flt _) | skip
        all_goals (obtain ⟨d2, hd2, h⟩ := opt_bind h; split at h <;> first | (simp [prun_pure] at h; subst h; simp [hd2, prun_pure]; exact flt _) | (simp [prun, stuck] at h; done))
      | agg a a' ha =>
        cases d <;> simp [prun_pure, prun, stuck, prun_bind] at h ⊢ <;> first | (subst h; exact flt _) | skip
        all_goals (obtain ⟨d2, hd2, h⟩ := opt_bind h; split at h <;> first | (simp [prun_pure] at h; subst h; simp [hd2, prun_pure]; exact flt _) | (simp [prun, stuck] at h; done))
      | tuple a a' ha =>
        cases d <;> simp [prun_pure, prun, stuck, prun_bind] at h ⊢ <;> first | (subst h; exact flt _) | skip
        all_goals (obtain ⟨d2, hd2, h⟩ := opt_bind h; split at h <;> first | (simp [prun_pure] at h; subst h; simp [hd2, prun_pure]; exact flt _) | (simp [prun, stuck] at h; done))
end
end Go.Proofs.YtlegcfjafdihlaaGreatDoor.Ev
