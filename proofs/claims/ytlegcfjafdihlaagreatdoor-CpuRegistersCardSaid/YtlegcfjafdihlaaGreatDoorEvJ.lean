/-
  The evaluator of calls at given arguments, and its soundness: part J. It speaks of any program.
-/
import Derived.Test.YtlegcfjafdihlaaGreatDoorEvKb
namespace Go.Proofs.YtlegcfjafdihlaaGreatDoor.Ev
open Go.RowKit
set_option linter.unusedSimpArgs false
set_option linter.unusedVariables false

section
variable {P : Program} {ρ : Env}
theorem opt_bind {α β : Type} {x : Option α} {f : α → Option β} {b : β} (h : x.bind f = some b) : ∃ a, x = some a ∧ f a = some b := by cases x <;> simp_all
theorem RL.map_eval {f g : Operand → Value} {l : List Operand} (h : ∀ x ∈ l, R ρ (f x) (g x)) : RL ρ (l.map f) (l.map g) := RL.of_map h
theorem RL.map_arr {f g : Operand → Value} {l : Array Operand} (h : ∀ x ∈ l, R ρ (f x) (g x)) : RL ρ (l.map f).toList (l.map g).toList := by
  simp only [Array.toList_map]
  exact RL.of_map fun x hx => h x (by simpa using hx)
theorem part_rel {t : TypeId} {cs ds : List Value} {off : Nat} {v : Value} (hr : RL ρ cs ds) (h : prun P (part t ⟨cs⟩ off) = some v) : ∃ u, prun P (part t ⟨ds⟩ off) = some u ∧ R ρ v u := by
  unfold part at h ⊢
  simp only [prun_bind, prun_ite] at h ⊢
  obtain ⟨b, hb, h⟩ := opt_bind h
  simp only [hb, Option.bind_some]
  cases b with
  | true =>
    simp only [if_true] at h ⊢
    obtain ⟨sz, hs, h⟩ := opt_bind h
    simp only [prun_pure, Option.some.injEq] at h
    subst h
    simp only [hs, Option.bind_some, prun_pure]
    refine ⟨_, rfl, ?_⟩
    have e : ∀ l : List Value, (⟨l⟩ : Array Value).extract off (off + sz) = ⟨(l.drop off).take sz⟩ := by
      intro l
      apply Array.toList_inj.1
      simp [List.extract_eq_take_drop]
    rw [e, e]
    exact .agg _ _ ((hr.drop off).take sz)
  | false =>
    simp only [Bool.false_eq_true, if_false] at h ⊢
    split at h
    · rename_i x hx
      simp only [prun_pure, Option.some.injEq] at h
      subst h
      obtain ⟨u, hu, hru⟩ := hr.at (k := off) (v := x) (by simpa using hx)
      refine ⟨u, ?_, hru⟩
      have : (⟨ds⟩ : Array Value)[off]? = some u := by simpa using hu
      simp only [this, prun_pure]
    · simp [prun, stuck] at h
theorem fill_fold : ∀ (l m : List Value) (j off : Nat) (cs ds : Array Value), RL ρ l m → RL ρ cs.toList ds.toList →
    RL ρ ((l.zipIdx j).foldl (fun cs (c, j) => cs.setIfInBounds (off + j) c) cs).toList ((m.zipIdx j).foldl (fun cs (c, j) => cs.setIfInBounds (off + j) c) ds).toList
  | [], m, j, off, cs, ds, h, hr => by cases h; exact hr
  | v :: l, m, j, off, cs, ds, h, hr => by
    cases h; rename_i u m hv hl
    simp only [List.zipIdx_cons, List.foldl_cons]
    refine fill_fold l m (j + 1) off _ _ hl ?_
    rw [Array.toList_setIfInBounds, Array.toList_setIfInBounds]
    have : ∀ (l m : List Value) (k : Nat), RL ρ l m → RL ρ (l.set k v) (m.set k u) := by
      intro l
      induction l with
      | nil => intro m k h; cases h; simp; exact .nil
      | cons x l ih =>
        intro m k h; cases h
        cases k with
        | zero => exact .cons _ _ _ _ hv ‹_›
        | succ k => exact .cons _ _ _ _ ‹_› (ih _ k ‹_›)
    exact this _ _ _ hr
inductive PL (ρ : Env) : List (Nat × Value) → List (Nat × Value) → Prop
  | nil : PL ρ [] []
  | cons (i : Nat) (v u : Value) (l m : List (Nat × Value)) (h : R ρ v u) (t : PL ρ l m) : PL ρ ((i, v) :: l) ((i, u) :: m)
theorem PL.of_map {ps : List (Nat × Operand)} {f g : Operand → Value} (h : ∀ x ∈ ps.map (·.2), R ρ (f x) (g x)) : PL ρ (ps.map fun (i, x) => (i, f x)) (ps.map fun (i, x) => (i, g x)) := by
  induction ps with
  | nil => exact .nil
  | cons p ps ih => obtain ⟨i, x⟩ := p; exact .cons _ _ _ _ _ (h x (by simp)) (ih fun y hy => h y (by simp at hy ⊢; exact .inr hy))
theorem fill_rel {place : Nat → Option (Nat × Nat)} : ∀ {ps qs : List (Nat × Value)} {cs ds r : Array Value}, PL ρ ps qs → RL ρ cs.toList ds.toList → Instr.fill place cs ps = some r → ∃ r', Instr.fill place ds qs = some r' ∧ RL ρ r.toList r'.toList := by
  intro ps
  induction ps with
  | nil =>
    intro qs cs ds r h hr hf
    cases h
    simp only [Instr.fill, Option.some.injEq] at hf ⊢
    subst hf
    exact ⟨ds, rfl, hr⟩
  | cons p ps ih =>
    intro qs cs ds r h hr hf
    obtain ⟨i, v⟩ := p
    cases h; rename_i u m hv ht
    simp only [Instr.fill] at hf ⊢
    cases hpl : place i with
    | none => rw [hpl] at hf; cases hf
    | some os =>
      obtain ⟨off, size⟩ := os
      rw [hpl] at hf
      dsimp only at hf ⊢
      have hc := hv.cells
      have e1 : u.cells.size = v.cells.size := by simpa using hc.length
      have e2 : ds.size = cs.size := by simpa using hr.length
      rw [e1, e2]
      split at hf
      · cases hf
      · rename_i hn
        simp only [hn, if_false]
        refine ih ht ?_ hf
        have := fill_fold v.cells.toList u.cells.toList 0 off cs ds hc hr
        have e : ∀ (xs : Array Value) (c : Array Value), (xs.zipIdx.foldl (fun cs (c, j) => cs.setIfInBounds (off + j) c) c) = (xs.toList.zipIdx 0).foldl (fun cs (c, j) => cs.setIfInBounds (off + j) c) c := by
          intro xs c; rw [← Array.foldl_toList, Array.toList_zipIdx]
        rw [e, e]; exact this
theorem build_rel {t : TypeId} {ps qs : Array (Nat × Value)} {v : Value} (hps : PL ρ ps.toList qs.toList) (hfl : ∀ z, prun P (zeroValue t) = some z → z.cells.toList.all flat0 = true) (h : prun P (Instr.build t ps) = some v) : ∃ u, prun P (Instr.build t qs) = some u ∧ R ρ v u := by
  unfold Instr.build at h ⊢
  simp only [prun_bind] at h ⊢
  obtain ⟨z, hz, h⟩ := opt_bind h
  obtain ⟨d, hd, h⟩ := opt_bind h
  simp only [hz, hd, Option.bind_some]
  have hzr : RL ρ z.cells.toList z.cells.toList := RL.refl0 fun v hv => flat_of_flat0 (List.all_eq_true.1 (hfl z hz) v hv)
  split at h
  · rename_i fs
    simp only [prun_bind] at h ⊢
    obtain ⟨pl, hpl, h⟩ := opt_bind h
    simp only [hpl, Option.bind_some]
    split at h
    · rename_i cells hf
      obtain ⟨r', h1, h2⟩ := fill_rel hps hzr hf
      simp only [prun_pure, Option.some.injEq] at h
      subst h
      simp only [h1, prun_pure]
      exact ⟨_, rfl, .agg cells.toList r'.toList h2⟩
    · simp [prun, stuck] at h
  · rename_i n e
    simp only [prun_bind] at h ⊢
    obtain ⟨sz, hsz, h⟩ := opt_bind h
    simp only [hsz, Option.bind_some]
    split at h
    · rename_i cells hf
      obtain ⟨r', h1, h2⟩ := fill_rel hps hzr hf
      simp only [prun_pure, Option.some.injEq] at h
      subst h
      simp only [h1, prun_pure]
      exact ⟨_, rfl, .agg cells.toList r'.toList h2⟩
    · simp [prun, stuck] at h
  · simp [prun, stuck] at h
theorem field_rel {t : TypeId} {x y v : Value} {i : Nat} (hr : R ρ x y) (h : prun P (Instr.field t x i) = some v) : ∃ u, prun P (Instr.field t y i) = some u ∧ R ρ v u := by
  unfold Instr.field at h ⊢
  simp only [prun_bind] at h ⊢
  obtain ⟨d, hd, h⟩ := opt_bind h
  simp only [hd, Option.bind_some]
  split at h
  · rename_i fs
    split at h
    · rename_i f hf
      simp only [prun_bind] at h ⊢
      obtain ⟨cs, hcs, h⟩ := opt_bind h
      have hx : x = .agg cs := by
        unfold asAgg at hcs
        split at hcs
        · simp only [prun_pure, Option.some.injEq] at hcs; rw [hcs]
        · simp [prun, stuck] at hcs
      subst hx
      obtain ⟨ds, rfl, hl⟩ := hr.agg_inv
      obtain ⟨u, h1, h2⟩ := part_rel hl h
      refine ⟨u, ?_, h2⟩
      simp only [hf, prun_bind, asAgg, prun_pure, Option.bind_some]
      exact h1
    · simp [prun, stuck] at h
  · simp [prun, stuck] at h
theorem extract_rel {x y v : Value} {i : Nat} (hr : R ρ x y) (h : prun P (Instr.extract x i) = some v) : ∃ u, prun P (Instr.extract y i) = some u ∧ R ρ v u := by
  unfold Instr.extract at h
  split at h
  · rename_i vs
    obtain ⟨ds, rfl, hl⟩ := R.tuple_inv (a := vs.toList) hr
    split at h
    · rename_i x hx
      simp only [prun_pure, Option.some.injEq] at h
      subst h
      obtain ⟨u, hu, hru⟩ := hl.at (k := i) (v := x) (by simpa using hx)
      refine ⟨u, ?_, hru⟩
      have : (⟨ds⟩ : Array Value)[i]? = some u := by simpa using hu
      simp only [Instr.extract, this, prun_pure]
    · simp [prun, stuck] at h
  · simp [prun, stuck] at h
theorem index_rel {t : TypeId} {x y i j v : Value} (hr : R ρ x y) (hi : R ρ i j) (h : prun P (Instr.index t x i) = some v) : ∃ u, prun P (Instr.index t y j) = some u ∧ R ρ v u := by
  unfold Instr.index at h ⊢
  simp only [prun_bind] at h ⊢
  obtain ⟨⟨k, n⟩, hk, h2⟩ := opt_bind h
  clear h
  have hx : i = .int k n := by
    unfold asIntOf at hk
    split at hk
    · simp only [prun_pure, Option.some.injEq, Prod.mk.injEq] at hk; rw [hk.1, hk.2]
    · simp [prun, unsupported] at hk
    · simp [prun, stuck] at hk
  subst hx
  have hj := int_inv hi
  subst hj
  obtain ⟨d, hd, h⟩ := opt_bind h2
  simp only [asIntOf, prun_pure, Option.bind_some, prun_bind, hd]
  have hbp : ∀ (kk : IntKind) (a b : Int) (c : BoundsCode), prun P (boundsPanic kk a b c : Sem Value) = none := by
    intro kk a b c
    unfold boundsPanic
    dsimp only
    rw [prun_ite]
    split
    · rfl
    · rw [prun_bind, prun_pure, Option.bind_some]; rfl
  split at h
  · rename_i len elem cs
    obtain ⟨ds, rfl, hl⟩ := R.agg_inv (a := cs.toList) hr
    rw [prun_ite] at h
    dsimp only
    rw [prun_ite]
    split at h
    · rename_i hb
      rw [prun_bind] at h
      obtain ⟨sz, hsz, h⟩ := opt_bind h
      obtain ⟨u, h1, h2⟩ := part_rel (cs := cs.toList) hl h
      refine ⟨u, ?_, h2⟩
      rw [if_pos hb, prun_bind, hsz, Option.bind_some]; exact h1
    · rw [hbp] at h; cases h
  · rename_i s
    have hy := hr.flat_inv rfl
    subst hy
    refine ⟨v, h, ?_⟩
    split at h
    · simp only [prun_pure, Option.some.injEq] at h; subst h; exact .flat _ rfl
    · rw [hbp] at h; cases h
  · simp [prun, stuck] at h
end
end Go.Proofs.YtlegcfjafdihlaaGreatDoor.Ev
