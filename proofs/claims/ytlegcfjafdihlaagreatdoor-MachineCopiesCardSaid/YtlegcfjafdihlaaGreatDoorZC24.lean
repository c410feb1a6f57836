import Derived.Test.YtlegcfjafdihlaaGreatDoorZC23
import Derived.Deep.AppendSrc
import Derived.Laws.BytesString
/-
  The evaluator of calls at given arguments, and its soundness: part J. It speaks of any program.
-/
namespace Go.Proofs.YtlegcfjafdihlaaGreatDoor.Ev
open Go.RowKit
set_option linter.unusedSimpArgs false
set_option linter.unusedVariables false

section
variable {P : Program} {ρ : Env}
theorem opt_bind {α β : Type} {x : Option α} {f : α → Option β} {b : β} (h : x.bind f = some b) : ∃ a, x = some a ∧ f a = some b := by cases x <;> simp_all
theorem RL.map_eval {f g : Operand → Value} {l : List Operand} (h : ∀ x ∈ l, R ρ (f x) (g x)) : RL ρ (l.map f) (l.map g) := RL.of_map h
theorem RL.map_arr {f g : Operand → Value} {l : Array Operand} (h : ∀ x ∈ l, R ρ (f x) (g x)) : RL ρ (l.map f).toList (l.map g).toList := by
  simp only [Array.toList_map]
  exact RL.of_map fun x hx => h x (by simpa using hx)
theorem part_rel {t : TypeId} {cs ds : List Value} {off : Nat} {v : Value} (hr : RL ρ cs ds) (h : prun P (part t ⟨cs⟩ off) = some v) : ∃ u, prun P (part t ⟨ds⟩ off) = some u ∧ R ρ v u := by
  unfold part at h ⊢
  simp only [prun_bind, prun_ite] at h ⊢
  obtain ⟨b, hb, h⟩ := opt_bind h
  simp only [hb, Option.bind_some]
  cases b with
  | true =>
    simp only [if_true] at h ⊢
    obtain ⟨sz, hs, h⟩ := opt_bind h
    simp only [prun_pure, Option.some.injEq] at h
    subst h
    simp only [hs, Option.bind_some, prun_pure]
    refine ⟨_, rfl, ?_⟩
    have e : ∀ l : List Value, (⟨l⟩ : Array Value).extract off (off + sz) = ⟨(l.drop off).take sz⟩ := by
      intro l
      apply Array.toList_inj.1
      simp [List.extract_eq_take_drop]
    rw [e, e]
    exact .agg _ _ ((hr.drop off).take sz)
  | false =>
    simp only [Bool.false_eq_true, if_false] at h ⊢
    split at h
    · rename_i x hx
      simp only [prun_pure, Option.some.injEq] at h
      subst h
      obtain ⟨u, hu, hru⟩ := hr.at (k := off) (v := x) (by simpa using hx)
      refine ⟨u, ?_, hru⟩
      have : (⟨ds⟩ : Array Value)[off]? = some u := by simpa using hu
      simp only [this, prun_pure]
    · simp [prun, stuck] at h
theorem fill_fold : ∀ (l m : List Value) (j off : Nat) (cs ds : Array Value), RL ρ l m → RL ρ cs.toList ds.toList →
    RL ρ ((l.zipIdx j).foldl (fun cs (c, j) => cs.setIfInBounds (off + j) c) cs).toList ((m.zipIdx j).foldl (fun cs (c, j) => cs.setIfInBounds (off + j) c) ds).toList
  | [], m, j, off, cs, ds, h, hr => by cases h; exact hr
  | v :: l, m, j, off, cs, ds, h, hr => by
    cases h; rename_i u m hv hl
    simp only [List.zipIdx_cons, List.foldl_cons]
    refine fill_fold l m (j + 1) off _ _ hl ?_
    rw [Array.toList_setIfInBounds, Array.toList_setIfInBounds]
    have : ∀ (l m : List Value) (k : Nat), RL ρ l m → RL ρ (l.set k v) (m.set k u) := by
      intro l
      induction l with
      | nil => intro m k h; cases h; simp; exact .nil
      | cons x l ih =>
        intro m k h; cases h
        cases k with
        | zero => exact .cons _ _ _ _ hv ‹_›
        | succ k => exact .cons _ _ _ _ ‹_› (ih _ k ‹_›)
    exact this _ _ _ hr
inductive PL (ρ : Env) : List (Nat × Value) → List (Nat × Value) → Prop
  | nil : PL ρ [] []
  | cons (i : Nat) (v u : Value) (l m : List (Nat × Value)) (h : R ρ v u) (t : PL ρ l m) : PL ρ ((i, v) :: l) ((i, u) :: m)
theorem PL.of_map {ps : List (Nat × Operand)} {f g : Operand → Value} (h : ∀ x ∈ ps.map (·.2), R ρ (f x) (g x)) : PL ρ (ps.map fun (i, x) => (i, f x)) (ps.map fun (i, x) => (i, g x)) := by
  induction ps with
  | nil => exact .nil
  | cons p ps ih => obtain ⟨i, x⟩ := p; exact .cons _ _ _ _ _ (h x (by simp)) (ih fun y hy => h y (by simp at hy ⊢; exact .inr hy))
theorem fill_rel {place : Nat → Option (Nat × Nat)} : ∀ {ps qs : List (Nat × Value)} {cs ds r : Array Value}, PL ρ ps qs → RL ρ cs.toList ds.toList → Instr.fill place cs ps = some r → ∃ r', Instr.fill place ds qs = some r' ∧ RL ρ r.toList r'.toList := by
  intro ps
  induction ps with
  | nil =>
    intro qs cs ds r h hr hf
    cases h
    simp only [Instr.fill, Option.some.injEq] at hf ⊢
    subst hf
    exact ⟨ds, rfl, hr⟩
  | cons p ps ih =>
    intro qs cs ds r h hr hf
    obtain ⟨i, v⟩ := p
    cases h; rename_i u m hv ht
    simp only [Instr.fill] at hf ⊢
    cases hpl : place i with
    | none => rw [hpl] at hf; cases hf
    | some os =>
      obtain ⟨off, size⟩ := os
      rw [hpl] at hf
      dsimp only at hf ⊢
      have hc := hv.cells
      have e1 : u.cells.size = v.cells.size := by simpa using hc.length
      have e2 : ds.size = cs.size := by simpa using hr.length
      rw [e1, e2]
      split at hf
      · cases hf
      · rename_i hn
        simp only [hn, if_false]
        refine ih ht ?_ hf
        have := fill_fold v.cells.toList u.cells.toList 0 off cs ds hc hr
        have e : ∀ (xs : Array Value) (c : Array Value), (xs.zipIdx.foldl (fun cs (c, j) => cs.setIfInBounds (off + j) c) c) = (xs.toList.zipIdx 0).foldl (fun cs (c, j) => cs.setIfInBounds (off + j) c) c := by
          intro xs c; rw [← Array.foldl_toList, Array.toList_zipIdx]
        rw [e, e]; exact this
theorem build_rel {t : TypeId} {ps qs : Array (Nat × Value)} {v : Value} (hps : PL ρ ps.toList qs.toList) (hfl : ∀ z, prun P (zeroValue t) = some z → z.cells.toList.all flat0 = true) (h : prun P (Instr.build t ps) = some v) : ∃ u, prun P (Instr.build t qs) = some u ∧ R ρ v u := by
  unfold Instr.build at h ⊢
  simp only [prun_bind] at h ⊢
  obtain ⟨z, hz, h⟩ := opt_bind h
  obtain ⟨d, hd, h⟩ := opt_bind h
  simp only [hz, hd, Option.bind_some]
  have hzr : RL ρ z.cells.toList z.cells.toList := RL.refl0 fun v hv => flat_of_flat0 (List.all_eq_true.1 (hfl z hz) v hv)
  split at h
  · rename_i fs
    simp only [prun_bind] at h ⊢
    obtain ⟨pl, hpl, h⟩ := opt_bind h
    simp only [hpl, Option.bind_some]
    split at h
    · rename_i cells hf
      obtain ⟨r', h1, h2⟩ := fill_rel hps hzr hf
      simp only [prun_pure, Option.some.injEq] at h
      subst h
      simp only [h1, prun_pure]
      exact ⟨_, rfl, .agg cells.toList r'.toList h2⟩
    · simp [prun, stuck] at h
  · rename_i n e
    simp only [prun_bind] at h ⊢
    obtain ⟨sz, hsz, h⟩ := opt_bind h
    simp only [hsz, Option.bind_some]
    split at h
    · rename_i cells hf
      obtain ⟨r', h1, h2⟩ := fill_rel hps hzr hf
      simp only [prun_pure, Option.some.injEq] at h
      subst h
      simp only [h1, prun_pure]
      exact ⟨_, rfl, .agg cells.toList r'.toList h2⟩
    · simp [prun, stuck] at h
  · simp [prun, stuck] at h
theorem field_rel {t : TypeId} {x y v : Value} {i : Nat} (hr : R ρ x y) (h : prun P (Instr.field t x i) = some v) : ∃ u, prun P (Instr.field t y i) = some u ∧ R ρ v u := by
  unfold Instr.field at h ⊢
  simp only [prun_bind] at h ⊢
  obtain ⟨d, hd, h⟩ := opt_bind h
  simp only [hd, Option.bind_some]
  split at h
  · rename_i fs
    split at h
    · rename_i f hf
      simp only [prun_bind] at h ⊢
      obtain ⟨cs, hcs, h⟩ := opt_bind h
      have hx : x = .agg cs := by
        unfold asAgg at hcs
        split at hcs
        · simp only [prun_pure, Option.some.injEq] at hcs; rw [hcs]
        · simp [prun, stuck] at hcs
      subst hx
      obtain ⟨ds, rfl, hl⟩ := hr.agg_inv
      obtain ⟨u, h1, h2⟩ := part_rel hl h
      refine ⟨u, ?_, h2⟩
      simp only [hf, prun_bind, asAgg, prun_pure, Option.bind_some]
      exact h1
    · simp [prun, stuck] at h
  · simp [prun, stuck] at h
theorem extract_rel {x y v : Value} {i : Nat} (hr : R ρ x y) (h : prun P (Instr.extract x i) = some v) : ∃ u, prun P (Instr.extract y i) = some u ∧ R ρ v u := by
  unfold Instr.extract at h
  split at h
  · rename_i vs
    obtain ⟨ds, rfl, hl⟩ := R.tuple_inv (a := vs.toList) hr
    split at h
    · rename_i x hx
      simp only [prun_pure, Option.some.injEq] at h
      subst h
      obtain ⟨u, hu, hru⟩ := hl.at (k := i) (v := x) (by simpa using hx)
      refine ⟨u, ?_, hru⟩
      have : (⟨ds⟩ : Array Value)[i]? = some u := by simpa using hu
      simp only [Instr.extract, this, prun_pure]
    · simp [prun, stuck] at h
  · simp [prun, stuck] at h
theorem index_rel {t : TypeId} {x y i j v : Value} (hr : R ρ x y) (hi : R ρ i j) (h : prun P (Instr.index t x i) = some v) : ∃ u, prun P (Instr.index t y j) = some u ∧ R ρ v u := by
  unfold Instr.index at h ⊢
  simp only [prun_bind] at h ⊢
  obtain ⟨⟨k, n⟩, hk, h2⟩ := opt_bind h
  clear h
  have hx : i = .int k n := by
    unfold asIntOf at hk
    split at hk
    · simp only [prun_pure, Option.some.injEq, Prod.mk.injEq] at hk; rw [hk.1, hk.2]
    · simp [prun, unsupported] at hk
    · simp [prun, stuck] at hk
  subst hx
  have hj := int_inv hi
  subst hj
  obtain ⟨d, hd, h⟩ := opt_bind h2
  simp only [asIntOf, prun_pure, Option.bind_some, prun_bind, hd]
  have hbp : ∀ (kk : IntKind) (a b : Int) (c : BoundsCode), prun P (boundsPanic kk a b c : Sem Value) = none := by
    intro kk a b c
    unfold boundsPanic
    dsimp only
    rw [prun_ite]
    split
    · rfl
    · rw [prun_bind, prun_pure, Option.bind_some]; rfl
  split at h
  · rename_i len elem cs
    obtain ⟨ds, rfl, hl⟩ := R.agg_inv (a := cs.toList) hr
    rw [prun_ite] at h
    dsimp only
    rw [prun_ite]
    split at h
    · rename_i hb
      rw [prun_bind] at h
      obtain ⟨sz, hsz, h⟩ := opt_bind h
      obtain ⟨u, h1, h2⟩ := part_rel (cs := cs.toList) hl h
      refine ⟨u, ?_, h2⟩
      rw [if_pos hb, prun_bind, hsz, Option.bind_some]; exact h1
    · rw [hbp] at h; cases h
  · rename_i s
    have hy := hr.flat_inv rfl
    subst hy
    refine ⟨v, h, ?_⟩
    split at h
    · simp only [prun_pure, Option.some.injEq] at h; subst h; exact .flat _ rfl
    · rw [hbp] at h; cases h
  · simp [prun, stuck] at h
end
end Go.Proofs.YtlegcfjafdihlaaGreatDoor.Ev

/-
  The evaluator of calls at given arguments, and its soundness: part L. It speaks of any program.
-/
namespace Go.Proofs.YtlegcfjafdihlaaGreatDoor.Ev
open Go.RowKit
set_option linter.unusedSimpArgs false
set_option linter.unusedVariables false

section
variable {P : Program} {G : Env} {o : Oper} {ρ : Env}
theorem prun_map_value {s : Sem Value} {v : Value} (h : prun P (s >>= fun x => pure (Next.value x)) = some (.value v)) : prun P s = some v := by
  rw [prun_bind] at h
  obtain ⟨x, hx, h⟩ := opt_bind h
  simp only [prun_pure, Option.some.injEq, Next.value.injEq] at h
  subst h; exact hx
theorem run_map_value {s : Sem Value} {v : Value} (h : prun P s = some v) (w : World) : (s >>= fun x => pure (Next.value x) : Sem Next).run P w = .ok (.value v) w := by
  rw [Sem.run_bind, prun_sound h w]; rfl
theorem asBool_inv {v : Value} {b : Bool} (h : prun P (asBool v) = some b) : v = .bool b := by
  unfold asBool at h
  split at h
  · simp only [prun_pure, Option.some.injEq] at h; rw [h]
  · simp [prun, stuck] at h
theorem len_rel {ty : TypeId} {ts : Array TypeId} {l m : Array Value} {v : Value} (hr : RL ρ l.toList m.toList) (h : prun P (Builtin.len_ ts ty l) = some v) : ∃ u, prun P (Builtin.len_ ts ty m) = some u ∧ R ρ v u := by
  unfold Builtin.len_ at h ⊢
  cases h1 : ts[0]? with
  | none => simp [h1, prun, stuck] at h
  | some t =>
    cases h2 : l[0]? with
    | none => simp [h1, h2, prun, stuck] at h
    | some x =>
      obtain ⟨y, hy, hxy⟩ := hr.at (k := 0) (v := x) (by simpa using h2)
      have h3 : m[0]? = some y := by simpa using hy
      simp only [h1, h2, h3, prun_bind] at h ⊢
      obtain ⟨d, hd, h⟩ := opt_bind h
      simp only [hd, Option.bind_some]
      have flt : ∀ n : Nat, R ρ (goInt n) (goInt n) := fun n => .flat _ rfl
      cases hxy with
      | flat x hx =>
        refine ⟨v, h, ?_⟩
        have hv : flat v = true := by
          split at h <;> (try simp only [prun_bind] at h) <;> (try (simp only [prun_pure, Option.some.injEq] at h; subst h; rfl)) <;> (try (simp [prun, stuck] at h; done))
          all_goals (obtain ⟨d2, hd2, h⟩ := opt_bind h; split at h <;> first | (simp only [prun_pure, Option.some.injEq] at h; subst h; rfl) | (simp [prun, stuck] at h; done))
        exact .flat v hv
      | slice n o k c lo hl =>
        cases d <;> simp [prun_pure, prun, stuck, prun_bind] at h ⊢ <;> first | (subst h; exact flt _) | skip
        all_goals (obtain ⟨d2, hd2, h⟩ := opt_bind h; split at h <;> first | (simp [prun_pure] at h; subst h; simp [hd2, prun_pure]; exact flt _) | (simp [prun, stuck] at h; done))
      | ptr n o lo hl =>
        cases d <;> simp [prun_pure, prun, stuck, prun_bind] at h ⊢ <;> first | (subst h; exact flt _) | skip
        all_goals (obtain ⟨d2, hd2, h⟩ := opt_bind h; split at h <;> first | (simp [prun_pure] at h; subst h; simp [hd2, prun_pure]; exact flt _) | (simp [prun, stuck] at h; done))
      | func fn a b a' b' ha hb =>
        cases d <;> simp [prun_pure, prun, stuck, prun_bind] at h ⊢ <;> first | (subst h; exact flt _) | skip
        all_goals (obtain ⟨d2, hd2, h⟩ := opt_bind h; split at h <;> first | (simp [prun_pure] at h; subst h; simp [hd2, prun_pure]; exact flt _) | (simp [prun, stuck] at h; done))
      | iface t v u hv =>
        cases d <;> simp [prun_pure, prun, stuck, prun_bind] at h ⊢ <;> first | (subst h; exact flt _) | skip
        all_goals (obtain ⟨d2, hd2, h⟩ := opt_bind h; split at h <;> first | (simp [prun_pure] at h; subst h; simp [hd2, prun_pure]; exact flt _) | (simp [prun, stuck] at h; done))
      | agg a a' ha =>
        cases d <;> simp [prun_pure, prun, stuck, prun_bind] at h ⊢ <;> first | (subst h; exact flt _) | skip
        all_goals (obtain ⟨d2, hd2, h⟩ := opt_bind h; split at h <;> first | (simp [prun_pure] at h; subst h; simp [hd2, prun_pure]; exact flt _) | (simp [prun, stuck] at h; done))
      | tuple a a' ha =>
        cases d <;> simp [prun_pure, prun, stuck, prun_bind] at h ⊢ <;> first | (subst h; exact flt _) | skip
        all_goals (obtain ⟨d2, hd2, h⟩ := opt_bind h; split at h <;> first | (simp [prun_pure] at h; subst h; simp [hd2, prun_pure]; exact flt _) | (simp [prun, stuck] at h; done))
end
end Go.Proofs.YtlegcfjafdihlaaGreatDoor.Ev

/-
  The evaluator of calls at given arguments, and its soundness: part M. It speaks of any program.
-/
namespace Go.Proofs.YtlegcfjafdihlaaGreatDoor.Ev
open Go.RowKit
set_option linter.unusedSimpArgs false
set_option linter.unusedVariables false

section
variable {P : Program} {G : Env} {o : Oper} {ρ : Env}
/-- Operations that hand values on. -/
theorem handsOn_rel {f g : Operand → Value} {v : Value} (hh : handsOn o.op = true) (hr : ∀ x ∈ o.op.operands, R ρ (f x) (g x)) (h : prun P (execOp f o) = some (.value v)) (w : World) : ∃ u, (execOp g o).run P w = .ok (.value u) w ∧ R ρ v u := by
  have fin : ∀ {s t : Sem Value}, execOp f o = (s >>= fun x => pure (Next.value x)) → execOp g o = (t >>= fun x => pure (Next.value x)) → (∀ v, prun P s = some v → ∃ u, prun P t = some u ∧ R ρ v u) → ∃ u, (execOp g o).run P w = .ok (.value u) w ∧ R ρ v u := by
    intro s t e1 e2 h1
    rw [e1] at h
    obtain ⟨u, h2, h3⟩ := h1 v (prun_map_value h)
    exact ⟨u, by rw [e2]; exact run_map_value h2 w, h3⟩
  obtain ⟨dst, op, ty, pos, aft, grd⟩ := o
  dsimp only at hh hr
  cases op <;> simp only [handsOn, Bool.false_eq_true] at hh <;> simp only [Op.operands] at hr
  case move x => simp only [execOp, prun_pure, Option.some.injEq, Next.value.injEq] at h ⊢; subst h; exact ⟨_, rfl, hr x (by simp)⟩
  case assign x => simp only [execOp, prun_pure, Option.some.injEq, Next.value.injEq] at h ⊢; subst h; exact ⟨_, rfl, hr x (by simp)⟩
  case pick c a b =>
    simp only [execOp, prun_bind] at h ⊢
    obtain ⟨t, ht, h⟩ := opt_bind h
    have hc := asBool_inv ht
    have hc2 : g c = .bool t := ((hr c (by simp)).bool_inv t).1 hc
    simp only [hc2, asBool, Sem.run_bind, Sem.run_pure, Result.andThen_ok]
    simp only [prun_pure, Option.some.injEq, Next.value.injEq] at h
    subst h
    cases t with
    | true => exact ⟨_, rfl, hr a (by simp)⟩
    | false => exact ⟨_, rfl, hr b (by simp)⟩
  case extract t i => exact fin rfl rfl fun v h => extract_rel (hr t (by simp)) h
  case field t x i => exact fin rfl rfl fun v h => field_rel (hr x (by simp)) h
  case index t x i => exact fin rfl rfl fun v h => index_rel (hr x (by simp)) (hr i (by simp)) h
  case makeFunc fn a b =>
    refine fin rfl rfl fun v h => ?_
    simp only [Instr.makeFunc, prun_pure, Option.some.injEq] at h ⊢
    subst h
    refine ⟨_, rfl, ?_⟩
    exact R.func fn _ _ _ _ (RL.map_arr fun x hx => hr x (by simp [hx])) (RL.map_arr fun x hx => hr x (by simp [hx]))
  case makeInterface t x =>
    refine fin rfl rfl fun v h => ?_
    unfold Instr.makeInterface at h ⊢
    rw [prun_bind] at h ⊢
    obtain ⟨d, hd, h⟩ := opt_bind h
    simp only [hd, Option.bind_some]
    split at h
    · simp [prun, stuck] at h
    · simp only [prun_pure, Option.some.injEq] at h
      subst h
      exact ⟨_, by simp only [prun_pure], .iface _ _ _ (hr x (by simp))⟩
  case call c =>
    obtain ⟨cal, args, ats⟩ := c
    cases cal with
    | value f => simp at hh
    | invoke r m => simp at hh
    | builtin b =>
      cases b <;> simp at hh
      have hra : RL ρ (args.map f).toList (args.map g).toList := RL.map_arr fun x hx => hr x (by simp [Call.operands, hx])
      exact fin (s := Builtin.len_ ats ty (args.map f)) (t := Builtin.len_ ats ty (args.map g)) rfl rfl fun v h => len_rel hra h
/-- Comparisons with nil. -/
theorem equal_nil {t : TypeId} {d : TypeDesc} {x y : Value} (hd : prun P (underlying t) = some d) (hs : nilShape d x y = true) : prun P (Op.equal t x y) = some false := by
  have e : ∀ x y, Op.equal t x y = Op.equalIn (9999 + 1) t x y := fun _ _ => rfl
  rw [e, Op.equalIn.eq_2, prun_bind, hd, Option.bind_some]
  unfold nilShape at hs
  split at hs <;> first | rfl | cases hs
theorem guard_nil {op : BinOp} {t : TypeId} {d : TypeDesc} {x y : Value} {a b : Operand} (hs : nilShape d x y = true) : prun P (eqGuard op t a b x y) = some () := by
  unfold nilShape at hs
  split at hs <;> first | (cases op <;> rfl) | cases hs
theorem nilShape_rel {d : TypeDesc} {x y x' y' : Value} (hs : nilShape d x y = true) (hx : R ρ x x') (hy : R ρ y y') : nilShape d x' y' = true := by
  unfold nilShape at hs
  split at hs
  all_goals (try (cases hs; done))
  all_goals
    cases hx <;> cases hy <;> rfl
theorem nilEq_run {t : TypeId} {d : TypeDesc} {x y : Operand} {ty : TypeId} {g : Operand → Value} {op : BinOp} {b : Bool} (hop : o.op = .binOp op t x y ty) (ho : op = .eql ∧ b = false ∨ op = .neq ∧ b = true) (hd : prun P (underlying t) = some d) (hs : nilShape d (g x) (g y) = true) (w : World) :
    (execOp g o).run P w = .ok (.value (.bool b)) w := by
  have hrun : execOp g o = ((do eqGuard op t x y (g x) (g y); binOp op t (g x) (g y)) >>= fun x => pure (Next.value x)) := by unfold execOp; rw [hop]
  rw [hrun]
  refine run_map_value ?_ w
  rw [prun_bind, guard_nil hs, Option.bind_some]
  have hb : ∀ a b : Value, nilShape d a b = true → binOp .eql t a b = (do pure (.bool (← Op.equal t a b))) ∧ binOp .neq t a b = (do pure (.bool (!(← Op.equal t a b)))) := by
    intro a b h
    unfold nilShape at h
    split at h <;> first | exact ⟨rfl, rfl⟩ | cases h
  rcases ho with ⟨rfl, rfl⟩ | ⟨rfl, rfl⟩
  · rw [(hb _ _ hs).1, prun_bind, equal_nil hd hs]; rfl
  · rw [(hb _ _ hs).2, prun_bind, equal_nil hd hs]; rfl
end
end Go.Proofs.YtlegcfjafdihlaaGreatDoor.Ev

/-
  The evaluator of calls at given arguments, and its soundness: part N. It speaks of any program.
-/
namespace Go.Proofs.YtlegcfjafdihlaaGreatDoor.Ev
open Go.RowKit
set_option linter.unusedSimpArgs false
set_option linter.unusedVariables false

theorem at_lt {H : Hp} {n : Nat} {b : AB} (h : H.at n = some b) : n < 2 ^ dep := by
  unfold Tri.at at h
  split at h
  · rename_i hk; simpa [Nat.blt_eq] using hk
  · cases h
theorem lrep_len (zs : List Value) : ∀ c, (lrep zs c).length = c * zs.length
  | 0 => by simp [lrep]
  | c + 1 => by simp [lrep, lfrc_eq, lrep_len zs c, Nat.add_mul]; omega
theorem lrep_get (zs : List Value) : ∀ (c i : Nat), i < c * zs.length → (lrep zs c)[i]? = zs[i % zs.length]?
  | 0, i, h => by simp at h
  | c + 1, i, h => by
    simp only [lrep, lfrc_eq]
    by_cases h1 : i < zs.length
    · rw [List.getElem?_append_left h1, Nat.mod_eq_of_lt h1]
    · rw [Nat.add_mul, Nat.one_mul] at h
      rw [List.getElem?_append_right (by omega), lrep_get zs c _ (by omega), Nat.mod_eq_sub_mod (a := i) (by omega)]
theorem lrep_eq {zs : List Value} (hz : 0 < zs.length) (c : Nat) : ((Array.range (c * zs.length)).map fun i => (⟨zs⟩ : Array Value)[i % (⟨zs⟩ : Array Value).size]!) = ⟨lrep zs c⟩ := by
  apply Array.toList_inj.1
  apply List.ext_getElem?
  intro i
  simp only [Array.toList_map, Array.toList_range, List.getElem?_map]
  by_cases h : i < c * zs.length
  · have hm : i % zs.length < zs.length := Nat.mod_lt _ hz
    rw [lrep_get zs c i h]
    simp [h, hm]
  · have h2 : (lrep zs c).length ≤ i := by rw [lrep_len]; omega
    simp [h, List.getElem?_eq_none h2]
theorem lrep_mem (zs : List Value) : ∀ c, ∀ v ∈ lrep zs c, v ∈ zs
  | 0, v, h => by simp [lrep] at h
  | c + 1, v, h => by
    simp only [lrep, lfrc_eq, List.mem_append] at h
    rcases h with h | h
    · exact h
    · exact lrep_mem zs c v h
theorem flats {ρ : Env} {l : List Value} (h : ∀ v ∈ l, flat0 v = true) : RL ρ l l := RL.refl0 fun v hv => flat_of_flat0 (h v hv)
theorem wrap_small {n : Int} (h0 : 0 ≤ n) (h1 : n ≤ 1000000) : IntKind.i64.wrap n = n := by
  have e : n % (2 ^ IntKind.i64.bits : Int) = n := Int.emod_eq_of_lt h0 (by show n < 2 ^ 64; omega)
  unfold IntKind.wrap
  simp only [e]
  rw [if_neg]
  intro h
  simp only [Bool.and_eq_true, decide_eq_true_eq] at h
  have : (2 : Int) ^ (IntKind.i64.bits - 1) = 2 ^ 63 := rfl
  omega
section
variable {d : Nat} {P : Program} {G : Env} {o : Oper}
theorem makeSlice_ok {T : Tri Value} {H : Hp} {nx : Nat} {t e : TypeId} {lx cx : Operand} {k1 k2 : IntKind} {l c : Int} {i : TypeInfo} {sz : Nat} {z : Value} {zs : List Value} (hop : o.op = .makeSlice t lx cx) (hu : prun P (underlying t) = some (.slice e)) (hl : opnd d T lx = .int k1 l) (hc : opnd d T cx = .int k2 c)
    (hi : prun P (typeInfo e) = some i) (hs : prun P (sizeOf e) = some sz) (hz : prun P (zeroValue e) = some z) (hzs : z.cells = ⟨zs⟩) (hb : 0 ≤ l ∧ l ≤ c ∧ c ≤ 1000000 ∧ i.bytes ≤ 100000) (hsz : zs.length = sz) (hp0 : 0 < sz) (hfl : zs.all flat0 = true) (hnx : nx + 1 < 2 ^ dep) :
    OpOk P G d T H nx o (.slice (some ⟨nx, 0, none⟩) l.toNat c.toNat) (H.set dep nx (some (.row (lrep zs c.toNat) e 1))) (nx + 2) (bit nx) (bit nx) := by
  refine newRow_ok (f := fun a => .slice (some a) l.toNat c.toNat) hnx (fun ρ h w a g hr => ⟨lrep zs c.toNat, flats fun v hv => List.all_eq_true.1 hfl v (lrep_mem _ _ v hv), ?_⟩) (fun ρ lo hex h => ?_)
  · have h1 := hr lx (by rw [hop]; simp [Op.operands])
    have h2 := hr cx (by rw [hop]; simp [Op.operands])
    rw [hl] at h1; rw [hc] at h2
    have e1 := int_inv h1
    have e2 := int_inv h2
    obtain ⟨b1, b2, b3, b4⟩ := hb
    have hm := lrep_eq (zs := zs) (by omega) c.toNat
    have hnz : c.toNat * sz = 0 → lrep zs c.toNat = [] := fun h0 => by
      have : c.toNat = 0 := by rcases Nat.mul_eq_zero.1 h0 with h | h <;> omega
      rw [this]; rfl
    have hbig : ¬ ((i.bytes : Int) * c > 2 ^ 48) := by
      have : (i.bytes : Int) * c ≤ 100000 * 1000000 := Int.mul_le_mul (by omega) b3 (by omega) (by omega)
      omega
    simp only [execOp, hop, e1, e2, Instr.makeSlice, Sem.run_bind, Sem.run_pure, Result.andThen_ok, prun_sound hu w, prun_sound hi w, asInt, asIntOf, wrap_small b1 (by omega : l ≤ 1000000), wrap_small (by omega : 0 ≤ c) b3]
    have hcond : ((decide (c < 0) || decide ((i.bytes : Int) * c > 2 ^ 48)) || decide (l < 0) || decide (l > c)) = false := by
      simp only [Bool.or_eq_false_iff, decide_eq_false_iff_not]; omega
    simp only [hcond, Bool.false_eq_true, if_false, run_askRoom, Sem.run_bind, Result.andThen_ok, prun_sound hs w]
    by_cases h0 : c.toNat * sz = 0
    · have : c.toNat = 0 := by rcases Nat.mul_eq_zero.1 h0 with h | h <;> omega
      simp only [Sem.run_ite, if_pos h0, Sem.run_pure, Result.andThen_ok, newRow, run_newObj, Sem.run_bind]
      rw [h0, this, show (Array.map (fun x => (#[] : Array Value)[x % (#[] : Array Value).size]!) (Array.range 0)) = #[] by simp]
      rfl
    · have hm2 : (Array.map (fun x => z.cells[x % z.cells.size]!) (Array.range (c.toNat * sz))) = ⟨lrep zs c.toNat⟩ := by rw [hzs, ← hsz]; exact hm
      simp only [Sem.run_ite, if_neg h0, Sem.run_bind, Sem.run_pure, Result.andThen_ok, prun_sound hz w, newRow, run_newObj, hm2]
      rfl
  · have := R.slice nx 0 l.toNat c.toNat lo h
    have e : lo.cap 0 c.toNat = c.toNat := by unfold Loc.cap; rw [hex]; split <;> rfl
    rw [e] at this
    simpa using this
theorem buildSlice_ok {T : Tri Value} {H : Hp} {nx : Nat} {t e : TypeId} {len : Nat} {parts : Array (Nat × Operand)} {sz : Nat} {z : Value} {zs cs : List Value} (hop : o.op = .buildSlice t len parts) (hu : prun P (underlying t) = some (.slice e))
    (hs : prun P (sizeOf e) = some sz) (hz : prun P (zeroValue e) = some z) (hzs : z.cells = ⟨zs⟩) (hb : len * sz ≤ 1000000) (hsz : zs.length = sz) (hp0 : 0 < sz) (hfl : zs.all flat0 = true)
    (hf : Instr.fill (fun i => some (i * sz, sz)) ⟨lrep zs len⟩ (parts.map fun (i, x) => (i, opnd d T x)).toList = some ⟨cs⟩) (hnx : nx + 1 < 2 ^ dep) :
    OpOk P G d T H nx o (.slice (some ⟨nx, 0, none⟩) len len) (H.set dep nx (some (.row cs e 1))) (nx + 2) (bit nx) (bit nx) := by
  refine newRow_ok (f := fun a => .slice (some a) len len) hnx (fun ρ h w a g hr => ?_) (fun ρ lo hex h => ?_)
  · have hps : PL ρ (parts.map fun (i, x) => (i, opnd d T x)).toList (parts.map fun (i, x) => (i, a.eval x)).toList := by
      simp only [Array.toList_map]
      exact PL.of_map fun x hx => hr x (by rw [hop]; simpa [Op.operands] using hx)
    have hz0 : RL ρ (⟨lrep zs len⟩ : Array Value).toList (⟨lrep zs len⟩ : Array Value).toList := flats fun v hv => List.all_eq_true.1 hfl v (lrep_mem _ _ v hv)
    obtain ⟨r', h1, h2⟩ := fill_rel hps hz0 hf
    refine ⟨r'.toList, h2, ?_⟩
    have hm := lrep_eq (zs := zs) (by omega) len
    simp only [execOp, hop, Instr.buildSlice, Sem.run_bind, Sem.run_pure, Result.andThen_ok, prun_sound hu w, prun_sound hs w]
    have hnot : ¬ (len * sz > 2 ^ 24) := by omega
    simp only [hnot, if_false]
    have h1' : Instr.fill (fun i => some (i * sz, sz)) ⟨lrep zs len⟩ (Array.map (fun x => (x.fst, a.eval x.snd)) parts).toList = some r' := h1
    by_cases h0 : len * sz = 0
    · have hl0 : len = 0 := by rcases Nat.mul_eq_zero.1 h0 with h | h <;> omega
      have hm0 : (Array.map (fun x => (#[] : Array Value)[x % (#[] : Array Value).size]!) (Array.range (len * sz))) = ⟨lrep zs len⟩ := by rw [h0, hl0]; simp [lrep]
      simp only [Sem.run_ite, if_pos h0, Sem.run_pure, Sem.run_bind, Result.andThen_ok, hm0, h1', newRow, run_newObj]
      rfl
    · have hm2 : (Array.map (fun x => z.cells[x % z.cells.size]!) (Array.range (len * sz))) = ⟨lrep zs len⟩ := by rw [hzs, ← hsz]; exact hm
      simp only [Sem.run_ite, if_neg h0, Sem.run_bind, Sem.run_pure, Result.andThen_ok, prun_sound hz w, hm2, h1', newRow, run_newObj]
      rfl
  · have := R.slice nx 0 len len lo h
    have e : lo.cap 0 len = len := by unfold Loc.cap; rw [hex]; split <;> rfl
    rw [e] at this
    simpa using this
end
end Go.Proofs.YtlegcfjafdihlaaGreatDoor.Ev

/-
  The evaluator of calls at given arguments, and its soundness: part O. It speaks of any program.
-/
namespace Go.Proofs.YtlegcfjafdihlaaGreatDoor.Ev
open Go.RowKit
set_option linter.unusedSimpArgs false
set_option linter.unusedVariables false

section
variable {d : Nat} {P : Program} {G : Env} {o : Oper}
theorem prun_bounds {α : Type} (kk : IntKind) (a b : Int) (c : BoundsCode) : prun P (boundsPanic kk a b c : Sem α) = none := by
  unfold boundsPanic
  dsimp only
  rw [prun_ite]
  split
  · rfl
  · rw [prun_bind, prun_pure, Option.bind_some]; rfl
theorem sb1 {x : Value} {y n : Nat} {c : BoundsCode} (h : prun P (Instr.sliceBound x y c) = some n) : n ≤ y ∧ ∀ y' c', y ≤ y' → prun P (Instr.sliceBound x y' c') = some n := by
  unfold Instr.sliceBound at h
  rw [prun_bind] at h
  obtain ⟨⟨k, i⟩, hk, h⟩ := opt_bind h
  rw [prun_ite] at h
  split at h
  · rename_i hb
    simp only [prun_pure, Option.some.injEq] at h
    subst h
    refine ⟨by omega, fun y' c' hy => ?_⟩
    unfold Instr.sliceBound
    rw [prun_bind, hk, Option.bind_some]
    rw [prun_ite, if_pos ⟨hb.1, by omega⟩, prun_pure]
  · rw [prun_bounds] at h; cases h
theorem sb_more {len cap l h m : Nat} {lo hi : Option Value} (hb : prun P (Instr.sliceBounds true len cap lo hi none) = some (l, h, m)) : m = cap ∧ ∀ cap', cap ≤ cap' → prun P (Instr.sliceBounds true len cap' lo hi none) = some (l, h, cap') := by
  unfold Instr.sliceBounds at hb ⊢
  cases lo <;> cases hi <;> simp only [prun_bind, prun_pure, Option.bind_some, if_true, Option.isSome_none, Bool.false_eq_true, if_false] at hb ⊢
  · simp only [Option.some.injEq, Prod.mk.injEq] at hb
    obtain ⟨rfl, rfl, rfl⟩ := hb
    exact ⟨rfl, fun _ _ => rfl⟩
  · rename_i v
    obtain ⟨h1, hh, hb⟩ := opt_bind hb
    simp only [Option.some.injEq, Prod.mk.injEq] at hb
    obtain ⟨rfl, rfl, rfl⟩ := hb
    exact ⟨rfl, fun cap' hc => by rw [(sb1 hh).2 cap' _ hc]; rfl⟩
  · rename_i v
    obtain ⟨l1, hl, hb⟩ := opt_bind hb
    simp only [Option.some.injEq, Prod.mk.injEq] at hb
    obtain ⟨rfl, rfl, rfl⟩ := hb
    exact ⟨rfl, fun cap' hc => by rw [hl]; rfl⟩
  · obtain ⟨h1, hh, hb⟩ := opt_bind hb
    obtain ⟨l1, hl, hb⟩ := opt_bind hb
    simp only [Option.some.injEq, Prod.mk.injEq] at hb
    obtain ⟨rfl, rfl, rfl⟩ := hb
    exact ⟨rfl, fun cap' hc => by rw [(sb1 hh).2 cap' _ hc, Option.bind_some, hl]; rfl⟩
theorem sb_max {len cap l h m : Nat} {lo hi : Option Value} {v : Value} (hb : prun P (Instr.sliceBounds true len cap lo hi (some v)) = some (l, h, m)) : m ≤ cap ∧ ∀ cap', cap ≤ cap' → prun P (Instr.sliceBounds true len cap' lo hi (some v)) = some (l, h, m) := by
  unfold Instr.sliceBounds at hb ⊢
  cases lo <;> cases hi <;> simp only [prun_bind, prun_pure, Option.bind_some, if_true, Option.isSome_some] at hb ⊢
  · obtain ⟨m1, hm, hb⟩ := opt_bind hb
    simp [prun, stuck] at hb
  · obtain ⟨m1, hm, hb⟩ := opt_bind hb
    obtain ⟨h1, hh, hb⟩ := opt_bind hb
    simp only [Option.some.injEq, Prod.mk.injEq] at hb
    obtain ⟨rfl, rfl, rfl⟩ := hb
    exact ⟨(sb1 hm).1, fun cap' hc => by rw [(sb1 hm).2 cap' _ hc, Option.bind_some, hh]; rfl⟩
  · obtain ⟨m1, hm, hb⟩ := opt_bind hb
    simp [prun, stuck] at hb
  · obtain ⟨m1, hm, hb⟩ := opt_bind hb
    obtain ⟨h1, hh, hb⟩ := opt_bind hb
    obtain ⟨l1, hl, hb⟩ := opt_bind hb
    simp only [Option.some.injEq, Prod.mk.injEq] at hb
    obtain ⟨rfl, rfl, rfl⟩ := hb
    exact ⟨(sb1 hm).1, fun cap' hc => by rw [(sb1 hm).2 cap' _ hc, Option.bind_some, hh, Option.bind_some, hl]; rfl⟩
theorem opts_eq {T : Tri Value} {a : Act} {ρ : Env} {x : Option Operand} (hf : x.all (fun x => flat (opnd d T x)) = true) (hr : ∀ y, x = some y → R ρ (opnd d T y) (a.eval y)) : x.map a.eval = x.map (opnd d T) := by
  cases x with
  | none => rfl
  | some y => simp only [Option.all_some] at hf; simp only [Option.map_some, (hr y rfl).flat_inv hf]
theorem slice_even_ok {T : Tri Value} {H : Hp} {nx : Nat} {t e : TypeId} {x : Operand} {lo hi mx : Option Operand} {n off len cap l h m sz : Nat} (hop : o.op = .slice t x lo hi mx) (hu : prun P (underlying t) = some (.slice e)) (hx : opnd d T x = .slice (some ⟨n, off, none⟩) len cap)
    (f1 : lo.all (fun x => flat (opnd d T x)) = true) (f2 : hi.all (fun x => flat (opnd d T x)) = true) (f3 : mx.all (fun x => flat (opnd d T x)) = true) (hb : prun P (Instr.sliceBounds true len cap (lo.map (opnd d T)) (hi.map (opnd d T)) (mx.map (opnd d T))) = some (l, h, m))
    (hs : prun P (sizeOf e) = some sz) (hn : n % 2 = 0) : OpOk P G d T H nx o (.slice (some ⟨n, if m = l then off else off + l * sz, none⟩) (h - l) (m - l)) H nx 0 0 := by
  refine opOk_quiet fun ρ hh w a g hS hr => ?_
  simp only [hop, Op.operands] at hr
  have h1 := hr x (by simp)
  rw [hx] at h1
  obtain ⟨_, lc, hl, hp1⟩ := h1.slice_inv
  have hex : ∀ o c, lc.cap o c = c := fun o c => by unfold Loc.cap; rw [g.even n lc hl hn]; split <;> rfl
  rw [hex] at hp1
  refine ⟨.slice (some ⟨lc.blk, lc.off + (if m = l then off else off + l * sz), none⟩) (h - l) (m - l), ?_, by have := R.slice n (if m = l then off else off + l * sz) (h - l) (m - l) lc hl; rwa [hex] at this⟩
  have e1 := opts_eq f1 fun y hy => hr y (by simp [hy])
  have e2 := opts_eq f2 fun y hy => hr y (by simp [hy])
  have e3 := opts_eq f3 fun y hy => hr y (by simp [hy])
  simp only [execOp, hop, hp1, Instr.sliceAt, Instr.slice, Sem.run_bind, Sem.run_pure, Result.andThen_ok, prun_sound hu w, e1, e2, e3, prun_sound hb w, prun_sound hs w]
  by_cases e : m = l
  · simp only [e, if_true]
  · simp only [if_neg e, Option.map_some, add_none, Nat.add_assoc]
theorem slice_array_ok {T : Tri Value} {H : Hp} {nx : Nat} {t e : TypeId} {x : Operand} {lo hi mx : Option Operand} {n off n' l h m sz : Nat} (hop : o.op = .slice t x lo hi mx) (hu : prun P (underlying t) = some (.array n' e)) (hx : opnd d T x = .pointer (some ⟨n, off, none⟩))
    (f1 : lo.all (fun x => flat (opnd d T x)) = true) (f2 : hi.all (fun x => flat (opnd d T x)) = true) (f3 : mx.all (fun x => flat (opnd d T x)) = true) (hb : prun P (Instr.sliceBounds false n' n' (lo.map (opnd d T)) (hi.map (opnd d T)) (mx.map (opnd d T))) = some (l, h, m))
    (hs : prun P (sizeOf e) = some sz) (hn : n % 2 = 0) : OpOk P G d T H nx o (.slice (some ⟨n, if m = l then off else off + l * sz, none⟩) (h - l) (m - l)) H nx 0 0 := by
  refine opOk_quiet fun ρ hh w a g hS hr => ?_
  simp only [hop, Op.operands] at hr
  have h1 := hr x (by simp)
  rw [hx] at h1
  obtain ⟨_, lc, hl, hp1⟩ := h1.ptr_inv
  have hex : ∀ o c, lc.cap o c = c := fun o c => by unfold Loc.cap; rw [g.even n lc hl hn]; split <;> rfl
  refine ⟨.slice (some ⟨lc.blk, lc.off + (if m = l then off else off + l * sz), none⟩) (h - l) (m - l), ?_, by have := R.slice n (if m = l then off else off + l * sz) (h - l) (m - l) lc hl; rwa [hex] at this⟩
  have e1 := opts_eq f1 fun y hy => hr y (by simp [hy])
  have e2 := opts_eq f2 fun y hy => hr y (by simp [hy])
  have e3 := opts_eq f3 fun y hy => hr y (by simp [hy])
  simp only [execOp, hop, hp1, Instr.sliceAt, Instr.sureAddr, Sem.run_bind, Sem.run_pure, Result.andThen_ok, prun_sound hu w, e1, e2, e3, prun_sound hb w, prun_sound hs w]
  by_cases e : m = l
  · simp only [e, if_true]
  · simp only [if_neg e, Option.map_some, add_none, Nat.add_assoc]
theorem slice_open_ok {T : Tri Value} {H : Hp} {nx : Nat} {t e ee : TypeId} {x : Operand} {lo hi mx : Option Operand} {n off len cap l h m sz es : Nat} {cs : List Value} (hop : o.op = .slice t x lo hi mx) (hu : prun P (underlying t) = some (.slice e)) (hx : opnd d T x = .slice (some ⟨n, off, none⟩) len cap)
    (f1 : lo.all (fun x => flat (opnd d T x)) = true) (f2 : hi.all (fun x => flat (opnd d T x)) = true) (f3 : mx.all (fun x => flat (opnd d T x)) = true) (hb : prun P (Instr.sliceBounds true len cap (lo.map (opnd d T)) (hi.map (opnd d T)) (mx.map (opnd d T))) = some (l, h, m))
    (hs : prun P (sizeOf e) = some sz) (hat : H.at n = some (.row cs ee es)) (hes : es = sz) (hlm : l < m) (hmx : mx = none ∨ off + m * es < cs.length) : OpOk P G d T H nx o (.slice (some ⟨n, off + l * sz, none⟩) (h - l) (m - l)) H nx (bit n) 0 := by
  refine opOk_quiet fun ρ hh w a g hS hr => ?_
  simp only [hop, Op.operands] at hr
  have h1 := hr x (by simp)
  rw [hx] at h1
  obtain ⟨_, lc, hl, hp1⟩ := h1.slice_inv
  obtain ⟨_, k0, ds, c, fz, k1, k2, k3, k4, k5, k6⟩ := g.at hl (hS n (bit_self n)) hat
  have e1 := opts_eq f1 fun y hy => hr y (by simp [hy])
  have e2 := opts_eq f2 fun y hy => hr y (by simp [hy])
  have e3 := opts_eq f3 fun y hy => hr y (by simp [hy])
  have hcap : cap ≤ lc.cap off cap := by unfold Loc.cap; split <;> omega
  have hmul : l * sz + (m - l) * sz = m * sz := by rw [← Nat.add_mul]; congr 1; omega
  cases hmx0 : mx with
  | none =>
    rw [hmx0] at hb e3
    obtain ⟨b1, b3⟩ := sb_more hb
    have hb' := b3 _ hcap
    refine ⟨.slice (some ⟨lc.blk, lc.off + (off + l * sz), none⟩) (h - l) (lc.cap off cap - l), ?_, ?_⟩
    · simp only [execOp, hop, hmx0, hp1, Instr.sliceAt, Instr.slice, Sem.run_bind, Sem.run_pure, Result.andThen_ok, prun_sound hu w, e1, e2, Option.map_none, prun_sound hb' w, prun_sound hs w]
      rw [if_neg (by omega)]
      simp only [Option.map_some, add_none, Nat.add_assoc]
    · have := R.slice n (off + l * sz) (h - l) (m - l) lc hl
      have e4 : lc.cap (off + l * sz) (m - l) = lc.cap off cap - l := by
        unfold Loc.cap
        rw [k0, hes, Nat.add_assoc, hmul, b1]
        split <;> omega
      rw [e4] at this; exact this
  | some mv =>
    have hlt : off + m * es < cs.length := by
      rcases hmx with h | h
      · rw [hmx0] at h; cases h
      · exact h
    rw [hmx0] at hb e3
    simp only [Option.map_some] at hb e3
    obtain ⟨b1, b3⟩ := sb_max hb
    have hb' := b3 _ hcap
    refine ⟨.slice (some ⟨lc.blk, lc.off + (off + l * sz), none⟩) (h - l) (m - l), ?_, ?_⟩
    · simp only [execOp, hop, hmx0, hp1, Instr.sliceAt, Instr.slice, Sem.run_bind, Sem.run_pure, Result.andThen_ok, prun_sound hu w, e1, e2, Option.map_some, e3, prun_sound hb' w, prun_sound hs w]
      rw [if_neg (by omega)]
      simp only [Option.map_some, add_none, Nat.add_assoc]
    · have := R.slice n (off + l * sz) (h - l) (m - l) lc hl
      have e4 : lc.cap (off + l * sz) (m - l) = m - l := by
        unfold Loc.cap
        rw [k0, hes, Nat.add_assoc, hmul, if_neg]
        have := k1.length
        rw [hes] at hlt
        omega
      rw [e4] at this; exact this
end
end Go.Proofs.YtlegcfjafdihlaaGreatDoor.Ev

/-
  The evaluator of calls at given arguments, and its soundness: part P. It speaks of any program.
-/
namespace Go.Proofs.YtlegcfjafdihlaaGreatDoor.Ev
open Go.RowKit
set_option linter.unusedSimpArgs false
set_option linter.unusedVariables false

theorem Ev1.of_drew {G ρ ρ' : Env} {h h' : AH} {w w' : World} {a b W k : Nat} (e : Ev1 G ρ h { w with drawn := k } a b W h' ρ' w') : Ev1 G ρ h w a b W h' ρ' w' :=
  ⟨e.sub, e.dom, e.good, e.os, e.tape, e.output, e.size, e.frame, e.nb⟩
/-- A name is given up. -/
theorem Ev1.kill {G ρ ρ' : Env} {h h' h2 : AH} {w w' : World} {a b W k : Nat} (e : Ev1 G ρ h w a b W h' ρ' w') (hk : h2 k = none) (ho : ∀ n, n ≠ k → W.testBit n = true → h2 n = h' n) : Ev1 G ρ h w a b (bit k ||| W) h2 ρ' w' := by
  have hu : ∀ n, upd h (bit k ||| W) h2 n ≠ none → n ≠ k ∧ upd h (bit k ||| W) h2 n = upd h W h' n := by
    intro n hn
    simp only [upd, Nat.testBit_or, Bool.or_eq_true, testBit_bit] at hn ⊢
    by_cases e1 : n = k
    · subst e1; simp [hk] at hn
    · refine ⟨e1, ?_⟩
      by_cases e2 : W.testBit n = true
      · simp [e1, e2, ho n e1 e2]
      · simp [e1, e2]
  refine ⟨e.sub, e.dom, ⟨e.good.base, fun n x hx => ?_, fun n m c1 c2 l l' hn hm => ?_, e.good.even⟩, e.os, e.tape, e.output, e.size, fun B hB hne => e.frame B hB fun n l hn => hne n l (by simp [Nat.testBit_or, hn]), fun n l h1 h3 h4 => ?_⟩
  · obtain ⟨_, h4⟩ := hu n (by rw [hx]; simp)
    exact e.good.sat n x (h4 ▸ hx)
  · obtain ⟨_, h4⟩ := hu n (by rw [hn]; simp)
    obtain ⟨_, h5⟩ := hu m (by rw [hm]; simp)
    exact e.good.sep n m c1 c2 l l' (h4 ▸ hn) (h5 ▸ hm)
  · obtain ⟨_, h5⟩ := hu n h3
    rcases e.nb n l h1 (h5 ▸ h3) h4 with h6 | ⟨m, lm, h6, h7⟩
    · exact .inl h6
    · exact .inr ⟨m, lm, by simp [Nat.testBit_or, h6], h7⟩
/-- A row goes on under another name. -/
theorem Ev1.move {G ρ : Env} {h : AH} {w w' : World} (g : Good G ρ h w) (nx nx' b j : Nat) (hj : nx ≤ j) (hj' : j < nx') (hf : ρ j = none) {l l' : Loc} (hl : ρ b = some l) {x0 : AB} (hb0 : h b = some x0) (hr0 : x0.isRo = false) (hbl : l'.blk = l.blk) (hev : j % 2 = 0 → l'.ex = 0) {x : AB} {h' : AH} (h1 : h' b = none) (h2 : h' j = some x) (hr1 : x.isRo = false)
    (hx : BlkR (fun k => if k = j then some l' else ρ k) w' l' x) (ho : ∀ B, B ≠ l.blk → w'.heap[B]? = w.heap[B]?) (hos : w'.os = w.os) (ht : w'.tape = w.tape) (hout : w'.output = w.output) (hsz : w'.heap.size = w.heap.size) :
    Ev1 G ρ h w nx nx' (bit b ||| bit j) h' (fun k => if k = j then some l' else ρ k) w' := by
  have hb : h b ≠ none := by rw [hb0]; simp
  have hbj : b ≠ j := by rintro rfl; rw [hl] at hf; cases hf
  have hs : Sub ρ (fun k => if k = j then some l' else ρ k) := by
    intro k lk hk
    have : k ≠ j := by rintro rfl; rw [hf] at hk; cases hk
    simp [this, hk]
  have hu : ∀ n, upd h (bit b ||| bit j) h' n = if n = j then some x else if n = b then none else h n := by
    intro n
    simp only [upd, Nat.testBit_or, Bool.or_eq_true, testBit_bit]
    by_cases e1 : n = j
    · subst e1; simp [h2]
    · by_cases e2 : n = b
      · subst e2; simp [hbj, h1]
      · simp [e1, e2]
  refine ⟨hs, ?_, ⟨fun k lk hk => hs k lk (g.base k lk hk), ?_, ?_, ?_⟩, hos, ht, hout, Nat.le_of_eq hsz.symm, ?_, ?_⟩
  · intro k lk hk
    by_cases e : k = j
    · subst e; exact .inr ⟨hj, hj'⟩
    · simp [e] at hk; exact .inl hk
  · intro n y hy
    rw [hu] at hy
    by_cases e1 : n = j
    · subst e1; simp at hy; subst hy; exact ⟨l', by simp, hx⟩
    · by_cases e2 : n = b
      · subst e2; simp [e1] at hy
      · simp [e1, e2] at hy
        obtain ⟨ln, hln, hbn⟩ := g.sat n y hy
        exact ⟨ln, by simp [e1, hln], hbn.mono hs (ho _ (g.sep n b y x0 ln l hy hb0 e2 (by rw [hr0, Bool.and_false]) hln hl))⟩
  · intro n m c1 c2 ln lm hn hm hnm hro hln hlm
    rw [hu] at hn hm
    have other : ∀ k c lk, k ≠ j → (if k = j then some x else if k = b then none else h k) = some c → (if k = j then some l' else ρ k) = some lk → lk.blk ≠ l'.blk := by
      intro k c lk hkj hk hlk
      simp [hkj] at hk hlk
      rw [hbl]
      exact g.sep k b c x0 lk l hk.2 hb0 hk.1 (by rw [hr0, Bool.and_false]) hlk hl
    by_cases e1 : n = j
    · have e2 : m ≠ j := fun e => hnm (e1.trans e.symm)
      have h3 := other m c2 lm e2 hm hlm
      simp [e1] at hln; subst hln
      exact fun h => h3 h.symm
    · by_cases e2 : m = j
      · have h3 := other n c1 ln e1 hn hln
        simp [e2] at hlm; subst hlm
        exact h3
      · simp [e1, e2] at hn hm hln hlm
        exact g.sep n m c1 c2 ln lm hn.2 hm.2 hnm hro hln hlm
  · intro k lk hk hk2
    by_cases e : k = j
    · subst e; simp at hk; subst hk; exact hev hk2
    · simp [e] at hk; exact g.even k lk hk hk2
  · intro B hB hne
    exact ho B fun e => hne b l (by simp [Nat.testBit_or, testBit_bit]) hb hl e.symm
  · intro n ln hn hu2 hln
    rw [hu] at hu2
    by_cases e1 : n = j
    · subst e1
      simp at hln; subst hln
      exact .inr ⟨b, l, by simp [Nat.testBit_or, testBit_bit], hb, hl, hbl.symm⟩
    · simp [e1, hn] at hu2

section
variable {d : Nat} {P : Program} {G : Env} {o : Oper}
theorem vlen_run {ρ : Env} {x y : Value} {n : Nat} (h : vlen x = some n) (hr : R ρ x y) (w : World) : (Builtin.lenOf y).run P w = .ok n w := by
  cases hr with
  | flat v hf =>
    cases x <;> simp only [vlen, Option.some.injEq] at h <;> first | (subst h; rfl) | cases h
  | slice n o k c l hl => simp only [vlen, Option.some.injEq] at h; subst h; rfl
  | _ => simp [vlen] at h
theorem appSrc_run {ρ : Env} {h : AH} {H : Hp} {w : World} {x y : Value} {sz n S : Nat} {l : List Value} (g : Good G ρ h w) (hs : appSrc H sz n x = some (l, S)) (hr : R ρ x y) (hS : ∀ n, S.testBit n = true → h n = hp H n) : ∃ us, RL ρ l us ∧ ∀ k, (Builtin.firstCells sz n y).run P { w with drawn := k } = .ok ⟨us⟩ { w with drawn := k } := by
  unfold appSrc at hs
  split at hs
  · rename_i k c
    cases hs
    have := hr.flat_inv rfl
    subst this
    exact ⟨[], .nil, fun _ => rfl⟩
  · rename_i m off k c
    obtain ⟨_, lo, hl, rfl⟩ := hr.slice_inv
    split at hs
    · rename_i cs e es hat
      split at hs
      · rename_i l2 hsub
        cases hs
        obtain ⟨hh, hbl⟩ := g.at hl (hS m (bit_self m)) hat
        obtain ⟨us, h1, h2⟩ := hbl.sub (P := P) hsub
        refine ⟨us, h2, fun k => ?_⟩
        obtain ⟨us', h1', h2'⟩ := BlkR.sub (w := { w with drawn := k }) (P := P) (ρ := ρ) (l := lo) (cs := cs) (e := e) (es := es) hbl hsub
        obtain ⟨e1, e2, e3⟩ := lsub_eq _ _ _ _ hsub
        obtain ⟨_, ds, c, fz, k1, k2, k3, _⟩ := hbl
        have hlen : ((ds.drop off).take (n * sz)).length = n * sz := by simp [k1.length]; omega
        have key : ∀ w2 : World, w2.heap = w.heap → (loadCells ⟨lo.blk, lo.off + off, none⟩ (n * sz)).run P w2 = .ok ⟨(ds.drop off).take (n * sz)⟩ w2 := by
          intro w2 hw2
          have := run_loadCells_list (P := P) w2 ⟨lo.blk, lo.off + off, none⟩ ((ds.drop off).take (n * sz)) (fun j v hv => by
            rw [add_none]
            have hj : j < n * sz := by have := (List.getElem?_eq_some_iff.1 hv).1; omega
            rw [List.getElem?_take, if_pos hj, List.getElem?_drop] at hv
            have := k3 _ v hv
            simp [World.cell?, hw2, k2, Nat.add_assoc, this])
          rw [hlen] at this
          exact this
        have hw := key w rfl
        rw [h1] at hw
        simp only [Result.ok.injEq, Array.mk.injEq, and_true] at hw
        rw [hw]
        exact key _ rfl
      · cases hs
    · cases hs
  · rename_i s
    cases hs
    have := hr.flat_inv rfl
    subst this
    refine ⟨_, flats (fun v hv => ?_), fun k => ?_⟩
    · obtain ⟨b, _, rfl⟩ := List.mem_map.1 hv; rfl
    · simp only [Builtin.firstCells, Sem.run_pure]
      congr 1
      apply Array.toList_inj.1
      simp
  · cases hs
theorem prun_underlying {t : TypeId} {dd : TypeDesc} (h : prun P (underlying t) = some dd) : P.underlying t = some dd := by
  unfold underlying at h
  rw [prun_bind] at h
  obtain ⟨p, hp, h⟩ := opt_bind h
  have : p = P := by simp only [program, prun, Option.some.injEq] at hp; exact hp.symm
  subst this
  split at h
  · simp only [prun_pure, Option.some.injEq] at h; subst h; assumption
  · simp [prun, stuck] at h
theorem prun_info {t : TypeId} {i : TypeInfo} (h : prun P (typeInfo t) = some i) : P.info? t = some i := by
  unfold typeInfo at h
  rw [prun_bind] at h
  obtain ⟨p, hp, h⟩ := opt_bind h
  have : p = P := by simp only [program, prun, Option.some.injEq] at hp; exact hp.symm
  subst this
  split at h
  · simp only [prun_pure, Option.some.injEq] at h; subst h; assumption
  · simp [prun, stuck] at h
theorem prun_size {t : TypeId} {i : TypeInfo} {n : Nat} (hi : prun P (typeInfo t) = some i) (h : prun P (sizeOf t) = some n) : i.size = n := by
  unfold sizeOf at h
  rw [prun_bind, hi, Option.bind_some, prun_pure] at h
  exact Option.some.inj h
theorem prun_zero {t : TypeId} {i : TypeInfo} {z : Value} (hi : prun P (typeInfo t) = some i) (h : prun P (zeroValue t) = some z) : i.zero = some z := by
  unfold zeroValue at h
  rw [prun_bind, hi, Option.bind_some] at h
  split at h
  · simp only [prun_pure, Option.some.injEq] at h; subst h; assumption
  · simp [prun, unsupported] at h
theorem append_fit {st xt e ty : TypeId} {i : TypeInfo} {b off len cap n : Nat} {y : Value} {us : List Value} {w w' : World} (hu : P.underlying st = some (.slice e)) (hi : P.info? e = some i) (hs : Src P i.size xt y n us w) (hfit : len + n ≤ cap)
    (hst : (storeCells ⟨b, off + len * i.size, none⟩ us).run P w = .ok () w') : (Builtin.append_ #[st, xt] ty #[.slice (some ⟨b, off, none⟩) len cap, y]).run P w = .ok (.slice (some ⟨b, off, none⟩) (len + n) cap) w' := by
  rcases hs.kind with ⟨e', hk⟩ | hk <;> simp [Builtin.append_, run_underlying hu, run_underlying hk, sizeOf, typeInfo, hi, hs.len, hfit, hs.cells, Addr.add_lit, hst]
theorem append_none {st xt e ty : TypeId} {i : TypeInfo} {cap n : Nat} {y : Value} {us : List Value} {w : World} (hu : P.underlying st = some (.slice e)) (hi : P.info? e = some i) (hs : Src P i.size xt y n us w) (hfit : 0 + n ≤ cap) :
    (Builtin.append_ #[st, xt] ty #[.slice none 0 cap, y]).run P w = .ok (.slice none (0 + n) cap) w := by
  have hfit' : n ≤ cap := by omega
  rcases hs.kind with ⟨e', hk⟩ | hk <;> simp [Builtin.append_, run_underlying hu, run_underlying hk, sizeOf, typeInfo, hi, hs.len, hfit', hs.cells]
end
end Go.Proofs.YtlegcfjafdihlaaGreatDoor.Ev
