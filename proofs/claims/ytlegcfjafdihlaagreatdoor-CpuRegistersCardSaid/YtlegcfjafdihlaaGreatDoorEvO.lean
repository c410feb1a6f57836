/-
  The evaluator of calls at given arguments, and its soundness: part O. It speaks of any program.
-/
import Derived.Test.YtlegcfjafdihlaaGreatDoorEvN
namespace Go.Proofs.YtlegcfjafdihlaaGreatDoor.Ev
open Go.RowKit
set_option linter.unusedSimpArgs false
set_option linter.unusedVariables false

section
variable {d : Nat} {P : Program} {G : Env} {o : Oper}
theorem prun_bounds {α : Type} (kk : IntKind) (a b : Int) (c : BoundsCode) : prun P (boundsPanic kk a b c : Sem α) = none := by
  unfold boundsPanic
  dsimp only
  rw [prun_ite]
  split
  · rfl
  · rw [prun_bind, prun_pure, Option.bind_some]; rfl
theorem sb1 {x : Value} {y n : Nat} {c : BoundsCode} (h : prun P (Instr.sliceBound x y c) = some n) : n ≤ y ∧ ∀ y' c', y ≤ y' → prun P (Instr.sliceBound x y' c') = some n := by
  unfold Instr.sliceBound at h
  rw [prun_bind] at h
  obtain ⟨⟨k, i⟩, hk, h⟩ := opt_bind h
  rw [prun_ite] at h
  split at h
  · rename_i hb
    simp only [prun_pure, Option.some.injEq] at h
    subst h
    refine ⟨by omega, fun y' c' hy => ?_⟩
    unfold Instr.sliceBound
    rw [prun_bind, hk, Option.bind_some]
    rw [prun_ite, if_pos ⟨hb.1, by omega⟩, prun_pure]
  · rw [prun_bounds] at h; cases h
theorem sb_more {len cap l h m : Nat} {lo hi : Option Value} (hb : prun P (Instr.sliceBounds true len cap lo hi none) = some (l, h, m)) : m = cap ∧ ∀ cap', cap ≤ cap' → prun P (Instr.sliceBounds true len cap' lo hi none) = some (l, h, cap') := by
  unfold Instr.sliceBounds at hb ⊢
  cases lo <;> cases hi <;> simp only [prun_bind, prun_pure, Option.bind_some, if_true, Option.isSome_none, Bool.false_eq_true, if_false] at hb ⊢
  · simp only [Option.some.injEq, Prod.mk.injEq] at hb
    obtain ⟨rfl, rfl, rfl⟩ := hb
    exact ⟨rfl, fun _ _ => rfl⟩
  · rename_i v
    obtain ⟨h1, hh, hb⟩ := opt_bind hb
    simp only [Option.some.injEq, Prod.mk.injEq] at hb
    obtain ⟨rfl, rfl, rfl⟩ := hb
    exact ⟨rfl, fun cap' hc => by rw [(sb1 hh).2 cap' _ hc]; rfl⟩
  · rename_i v
    obtain ⟨l1, hl, hb⟩ := opt_bind hb
    simp only [Option.some.injEq, Prod.mk.injEq] at hb
    obtain ⟨rfl, rfl, rfl⟩ := hb
    exact ⟨rfl, fun cap' hc => by rw [hl]; rfl⟩
  · obtain ⟨h1, hh, hb⟩ := opt_bind hb
    obtain ⟨l1, hl, hb⟩ := opt_bind hb
    simp only [Option.some.injEq, Prod.mk.injEq] at hb
    obtain ⟨rfl, rfl, rfl⟩ := hb
    exact ⟨rfl, fun cap' hc => by rw [(sb1 hh).2 cap' _ hc, Option.bind_some, hl]; rfl⟩
theorem sb_max {len cap l h m : Nat} {lo hi : Option Value} {v : Value} (hb : prun P (Instr.sliceBounds true len cap lo hi (some v)) = some (l, h, m)) : m ≤ cap ∧ ∀ cap', cap ≤ cap' → prun P (Instr.sliceBounds true len cap' lo hi (some v)) = some (l, h, m) := by
  unfold Instr.sliceBounds at hb ⊢
  cases lo <;> cases hi <;> simp only [prun_bind, prun_pure, Option.bind_some, if_true, Option.isSome_some] at hb ⊢
  · obtain ⟨m1, hm, hb⟩ := opt_bind hb
    simp [prun, stuck] at hb
  · obtain ⟨m1, hm, hb⟩ := opt_bind hb
    obtain ⟨h1, hh, hb⟩ := opt_bind hb
    simp only [Option.some.injEq, Prod.mk.injEq] at hb
    obtain ⟨rfl, rfl, rfl⟩ := hb
    exact ⟨(sb1 hm).1, fun cap' hc => by rw [(sb1 hm).2 cap' _ hc, Option.bind_some, hh]; rfl⟩
  · obtain ⟨m1, hm, hb⟩ := opt_bind hb
    simp [prun, stuck] at hb
  · obtain ⟨m1, hm, hb⟩ := opt_bind hb
    obtain ⟨h1, hh, hb⟩ := opt_bind hb
    obtain ⟨l1, hl, hb⟩ := opt_bind hb
    simp only [Option.some.injEq, Prod.mk.injEq] at hb
    obtain ⟨rfl, rfl, rfl⟩ := hb
    exact ⟨(sb1 hm).1, fun cap' hc => by rw [(sb1 hm).2 cap' _ hc, Option.bind_some, hh, Option.bind_some, hl]; rfl⟩
theorem opts_eq {T : Tri Value} {a : Act} {ρ : Env} {x : Option Operand} (hf : x.all (fun x => flat (opnd d T x)) = true) (hr : ∀ y, x = some y → R ρ (opnd d T y) (a.eval y)) : x.map a.eval = x.map (opnd d T) := by
  cases x with
  | none => rfl
  | some y => simp only [Option.all_some] at hf; simp only [Option.map_some, (hr y rfl).flat_inv hf]
theorem slice_even_ok {T : Tri Value} {H : Hp} {nx : Nat} {t e : TypeId} {x : Operand} {lo hi mx : Option Operand} {n off len cap l h m sz : Nat} (hop : o.op = .slice t x lo hi mx) (hu : prun P (underlying t) = some (.slice e)) (hx : opnd d T x = .slice (some ⟨n, off, none⟩) len cap)
    (f1 : lo.all (fun x => flat (opnd d T x)) = true) (f2 : hi.all (fun x => flat (opnd d T x)) = true) (f3 : mx.all (fun x => flat (opnd d T x)) = true) (hb : prun P (Instr.sliceBounds true len cap (lo.map (opnd d T)) (hi.map (opnd d T)) (mx.map (opnd d T))) = some (l, h, m))
    (hs : prun P (sizeOf e) = some sz) (hn : n % 2 = 0) : OpOk P G d T H nx o (.slice (some ⟨n, if m = l then off else off + l * sz, none⟩) (h - l) (m - l)) H nx 0 0 := by
  refine opOk_quiet fun ρ hh w a g hS hr => ?_
  simp only [hop, Op.operands] at hr
  have h1 := hr x (by simp)
  rw [hx] at h1
  obtain ⟨_, lc, hl, hp1⟩ := h1.slice_inv
  have hex : ∀ o c, lc.cap o c = c := fun o c => by unfold Loc.cap; rw [g.even n lc hl hn]; split <;> rfl
  rw [hex] at hp1
  refine ⟨.slice (some ⟨lc.blk, lc.off + (if m = l then off else off + l * sz), none⟩) (h - l) (m - l), ?_, by have := R.slice n (if m = l then off else off + l * sz) (h - l) (m - l) lc hl; rwa [hex] at this⟩
  have e1 := opts_eq f1 fun y hy => hr y (by simp [hy])
  have e2 := opts_eq f2 fun y hy => hr y (by simp [hy])
  have e3 := opts_eq f3 fun y hy => hr y (by simp [hy])
  simp only [execOp, hop, hp1, Instr.sliceAt, Instr.slice, Sem.run_bind, Sem.run_pure, Result.andThen_ok, prun_sound hu w, e1, e2, e3, prun_sound hb w, prun_sound hs w]
  by_cases e : m = l
  · simp only [e, if_true]
  · simp only [if_neg e, Option.map_some, add_none, Nat.add_assoc]
theorem slice_array_ok {T : Tri Value} {H : Hp} {nx : Nat} {t e : TypeId} {x : Operand} {lo hi mx : Option Operand} {n off n' l h m sz : Nat} (hop : o.op = .slice t x lo hi mx) (hu : prun P (underlying t) = some (.array n' e)) (hx : opnd d T x = .pointer (some ⟨n, off, none⟩))
    (f1 : lo.all (fun x => flat (opnd d T x)) = true) (f2 : hi.all (fun x => flat (opnd d T x)) = true) (f3 : mx.all (fun x => flat (opnd d T x)) = true) (hb : prun P (Instr.sliceBounds false n' n' (lo.map (opnd d T)) (hi.map (opnd d T)) (mx.map (opnd d T))) = some (l, h, m))
    (hs : prun P (sizeOf e) = some sz) (hn : n % 2 = 0) : OpOk P G d T H nx o (.slice (some ⟨n, if m = l then off else off + l * sz, none⟩) (h - l) (m - l)) H nx 0 0 := by
  refine opOk_quiet fun ρ hh w a g hS hr => ?_
  simp only [hop, Op.operands] at hr
  have h1 := hr x (by simp)
  rw [hx] at h1
  obtain ⟨_, lc, hl, hp1⟩ := h1.ptr_inv
  have hex : ∀ o c, lc.cap o c = c := fun o c => by unfold Loc.cap; rw [g.even n lc hl hn]; split <;> rfl
  refine ⟨.slice (some ⟨lc.blk, lc.off + (if m = l then off else off + l * sz), none⟩) (h - l) (m - l), ?_, by have := R.slice n (if m = l then off else off + l * sz) (h - l) (m - l) lc hl; rwa [hex] at this⟩
  have e1 := opts_eq f1 fun y hy => hr y (by simp [hy])
  have e2 := opts_eq f2 fun y hy => hr y (by simp [hy])
  have e3 := opts_eq f3 fun y hy => hr y (by simp [hy])
  simp only [execOp, hop, hp1, Instr.sliceAt, Instr.sureAddr, Sem.run_bind, Sem.run_pure, Result.andThen_ok, prun_sound hu w, e1, e2, e3, prun_sound hb w, prun_sound hs w]
  by_cases e : m = l
  · simp only [e, if_true]
  · simp only [if_neg e, Option.map_some, add_none, Nat.add_assoc]
theorem slice_open_ok {T : Tri Value} {H : Hp} {nx : Nat} {t e ee : TypeId} {x : Operand} {lo hi mx : Option Operand} {n off len cap l h m sz es : Nat} {cs : List Value} (hop : o.op = .slice t x lo hi mx) (hu : prun P (underlying t) = some (.slice e)) (hx : opnd d T x = .slice (some ⟨n, off, none⟩) len cap)
    (f1 : lo.all (fun x => flat (opnd d T x)) = true) (f2 : hi.all (fun x => flat (opnd d T x)) = true) (f3 : mx.all (fun x => flat (opnd d T x)) = true) (hb : prun P (Instr.sliceBounds true len cap (lo.map (opnd d T)) (hi.map (opnd d T)) (mx.map (opnd d T))) = some (l, h, m))
    (hs : prun P (sizeOf e) = some sz) (hat : H.at n = some (.row cs ee es)) (hes : es = sz) (hlm : l < m) (hmx : mx = none ∨ off + m * es < cs.length) : OpOk P G d T H nx o (.slice (some ⟨n, off + l * sz, none⟩) (h - l) (m - l)) H nx (bit n) 0 := by
  refine opOk_quiet fun ρ hh w a g hS hr => ?_
  simp only [hop, Op.operands] at hr
  have h1 := hr x (by simp)
  rw [hx] at h1
  obtain ⟨_, lc, hl, hp1⟩ := h1.slice_inv
  obtain ⟨_, k0, ds, c, fz, k1, k2, k3, k4, k5, k6⟩ := g.at hl (hS n (bit_self n)) hat
  have e1 := opts_eq f1 fun y hy => hr y (by simp [hy])
  have e2 := opts_eq f2 fun y hy => hr y (by simp [hy])
  have e3 := opts_eq f3 fun y hy => hr y (by simp [hy])
  have hcap : cap ≤ lc.cap off cap := by unfold Loc.cap; split <;> omega
  have hmul : l * sz + (m - l) * sz = m * sz := by rw [← Nat.add_mul]; congr 1; omega
  cases hmx0 : mx with
  | none =>
    rw [hmx0] at hb e3
    obtain ⟨b1, b3⟩ := sb_more hb
    have hb' := b3 _ hcap
    refine ⟨.slice (some ⟨lc.blk, lc.off + (off + l * sz), none⟩) (h - l) (lc.cap off cap - l), ?_, ?_⟩
    · simp only [execOp, hop, hmx0, hp1, Instr.sliceAt, Instr.slice, Sem.run_bind, Sem.run_pure, Result.andThen_ok, prun_sound hu w, e1, e2, Option.map_none, prun_sound hb' w, prun_sound hs w]
      rw [if_neg (by omega)]
      simp only [Option.map_some, add_none, Nat.add_assoc]
    · have := R.slice n (off + l * sz) (h - l) (m - l) lc hl
      have e4 : lc.cap (off + l * sz) (m - l) = lc.cap off cap - l := by
        unfold Loc.cap
        rw [k0, hes, Nat.add_assoc, hmul, b1]
        split <;> omega
      rw [e4] at this; exact this
  | some mv =>
    have hlt : off + m * es < cs.length := by
      rcases hmx with h | h
      · rw [hmx0] at h; cases h
      · exact h
    rw [hmx0] at hb e3
    simp only [Option.map_some] at hb e3
    obtain ⟨b1, b3⟩ := sb_max hb
    have hb' := b3 _ hcap
    refine ⟨.slice (some ⟨lc.blk, lc.off + (off + l * sz), none⟩) (h - l) (m - l), ?_, ?_⟩
    · simp only [execOp, hop, hmx0, hp1, Instr.sliceAt, Instr.slice, Sem.run_bind, Sem.run_pure, Result.andThen_ok, prun_sound hu w, e1, e2, Option.map_some, e3, prun_sound hb' w, prun_sound hs w]
      rw [if_neg (by omega)]
      simp only [Option.map_some, add_none, Nat.add_assoc]
    · have := R.slice n (off + l * sz) (h - l) (m - l) lc hl
      have e4 : lc.cap (off + l * sz) (m - l) = m - l := by
        unfold Loc.cap
        rw [k0, hes, Nat.add_assoc, hmul, if_neg]
        have := k1.length
        rw [hes] at hlt
        omega
      rw [e4] at this; exact this
end
end Go.Proofs.YtlegcfjafdihlaaGreatDoor.Ev
