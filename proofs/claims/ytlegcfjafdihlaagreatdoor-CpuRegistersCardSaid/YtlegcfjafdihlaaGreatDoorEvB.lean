/-
  The evaluator of calls at given arguments, and its soundness: part B. It speaks of any program.
-/
import Derived.Test.YtlegcfjafdihlaaGreatDoorEvA
namespace Go.Proofs.YtlegcfjafdihlaaGreatDoor.Ev
open Go.RowKit

/-! ### Maps -/
theorem Tri.frc_eq {α β : Type} (t : Tri α) (f : Tri α → β) : t.frc f = f t := by cases t <;> rfl
theorem Tri.get_succ {α : Type} (d : Nat) (x y : Tri α) (k : Nat) : Tri.get (d + 1) (.n x y) k = match Nat.beq (k % 2) 0 with
    | true => Tri.get d x (k / 2)
    | false => Tri.get d y (k / 2) := by
  show (Bool.rec (motive := fun _ => Option α) (Tri.get d y (k / 2)) (Tri.get d x (k / 2)) (Nat.beq (k % 2) 0) : Option α) = _
  cases Nat.beq (k % 2) 0 <;> rfl
theorem Tri.get_e {α : Type} : ∀ (d k : Nat), Tri.get d (.e : Tri α) k = none
  | 0, _ => rfl
  | _ + 1, _ => rfl
theorem Tri.get_l {α : Type} (d k : Nat) (a : α) : Tri.get (d + 1) (.l a) k = none := rfl
def Tri.lf {α : Type} : Tri α → Tri α
  | .n x _ => x
  | _ => .e
def Tri.rt {α : Type} : Tri α → Tri α
  | .n _ y => y
  | _ => .e
theorem Tri.set_succ {α : Type} (d : Nat) (t : Tri α) (k : Nat) (a : α) : Tri.set (d + 1) t k a = match Nat.beq (k % 2) 0 with
    | true => .n (Tri.set d t.lf (k / 2) a) t.rt
    | false => .n t.lf (Tri.set d t.rt (k / 2) a) := by
  cases t with
  | e =>
    show (Bool.rec (motive := fun _ => Tri α) (Tri.frc (Tri.set d .e (k / 2) a) fun y' => .n .e y') (Tri.frc (Tri.set d .e (k / 2) a) fun x' => .n x' .e) (Nat.beq (k % 2) 0) : Tri α) = _
    rw [Tri.frc_eq, Tri.frc_eq]; cases Nat.beq (k % 2) 0 <;> rfl
  | l _ =>
    show (Bool.rec (motive := fun _ => Tri α) (Tri.frc (Tri.set d .e (k / 2) a) fun y' => .n .e y') (Tri.frc (Tri.set d .e (k / 2) a) fun x' => .n x' .e) (Nat.beq (k % 2) 0) : Tri α) = _
    rw [Tri.frc_eq, Tri.frc_eq]; cases Nat.beq (k % 2) 0 <;> rfl
  | n x y =>
    show (Bool.rec (motive := fun _ => Tri α) (Tri.frc (Tri.set d y (k / 2) a) fun y' => .n x y') (Tri.frc (Tri.set d x (k / 2) a) fun x' => .n x' y) (Nat.beq (k % 2) 0) : Tri α) = _
    rw [Tri.frc_eq, Tri.frc_eq]; cases Nat.beq (k % 2) 0 <;> rfl
theorem Tri.get_any {α : Type} (d : Nat) (t : Tri α) (k : Nat) : Tri.get (d + 1) t k = match Nat.beq (k % 2) 0 with
    | true => Tri.get d t.lf (k / 2)
    | false => Tri.get d t.rt (k / 2) := by
  cases t with
  | n x y => rw [Tri.get_succ]; rfl
  | e => rw [Tri.get_e]; split <;> exact (Tri.get_e _ _).symm
  | l a => rw [Tri.get_l]; split <;> exact (Tri.get_e _ _).symm
theorem Tri.get_set {α : Type} : ∀ (d : Nat) (t : Tri α) (k : Nat) (a : α), Tri.get d (Tri.set d t k a) k = some a
  | 0, t, k, a => rfl
  | d + 1, t, k, a => by
    rw [Tri.set_succ]
    cases h : Nat.beq (k % 2) 0 <;> dsimp only <;> rw [Tri.get_succ, h] <;> dsimp only <;> exact Tri.get_set d _ _ _
theorem Tri.get_set_ne {α : Type} : ∀ (d : Nat) (t : Tri α) (k k' : Nat) (a : α), k ≠ k' → k < 2 ^ d → k' < 2 ^ d → Tri.get d (Tri.set d t k a) k' = Tri.get d t k'
  | 0, t, k, k', a => by intro h h1 h2; simp at h1 h2; omega
  | d + 1, t, k, k', a => by
    intro h h1 h2
    rw [Nat.pow_succ] at h1 h2
    rw [Tri.set_succ, Tri.get_any d t k']
    cases e1 : Nat.beq (k % 2) 0 <;> cases e2 : Nat.beq (k' % 2) 0 <;> dsimp only <;> rw [Tri.get_succ, e2] <;> dsimp only
    · have m1 : k % 2 ≠ 0 := fun h => by rw [h] at e1; cases e1
      have m2 : k' % 2 ≠ 0 := fun h => by rw [h] at e2; cases e2
      exact Tri.get_set_ne d _ _ _ _ (by omega) (by omega) (by omega)
    · have m1 : k % 2 = 0 := Nat.eq_of_beq_eq_true e1
      have m2 : k' % 2 = 0 := Nat.eq_of_beq_eq_true e2
      exact Tri.get_set_ne d _ _ _ _ (by omega) (by omega) (by omega)

theorem nfrc_eq {β : Type} (n : Nat) (f : Nat → β) : nfrc n f = f n := by unfold nfrc; split <;> rfl
theorem ifrc_eq {β : Type} (n : Int) (f : Int → β) : ifrc n f = f n := by cases n <;> simp [ifrc, nfrc_eq]
theorem lfrc_eq {α β : Type} (l : List α) (f : List α → β) : lfrc l f = f l := by cases l <;> rfl
theorem vfrc_eq {β : Type} (v : Value) (f : Value → β) : vfrc v f = f v := by
  unfold vfrc; split <;> simp [nfrc_eq, ifrc_eq, lfrc_eq] <;> split <;> rfl

noncomputable def hp (H : Hp) : Nat → Option AB := fun n => H.at n
theorem hp_set (H : Hp) (n : Nat) (b : Option AB) (hn : n < 2 ^ dep) : hp (H.set dep n b) = fun k => if k = n then b else hp H k := by
  funext k
  by_cases h : k = n
  · subst h
    simp only [hp, Tri.at, if_true, Tri.get_set]
    rw [show Nat.blt k (Nat.pow 2 dep) = true by simpa [Nat.blt_eq] using hn]
  · simp only [hp, Tri.at, if_neg h]
    split
    · rename_i hk
      rw [Tri.get_set_ne dep H n k b (Ne.symm h) hn (by simpa [Nat.blt_eq] using hk)]
    · rfl

/-! ### Plain computations -/
theorem prun_sound {P : Program} {α : Type} {s : Sem α} : ∀ {a : α}, prun P s = some a → ∀ w, s.run P w = .ok a w := by
  induction s with
  | pure b => intro a h w; simp only [prun, Option.some.injEq] at h; rw [h]; rfl
  | program k ih => intro a h w; simp only [prun] at h; exact ih P h w
  | mark m k ih => intro a h w; simp only [prun] at h; exact ih h w
  | _ => intro a h; simp [prun] at h
theorem prun_bind' {P : Program} {α β : Type} (s : Sem α) (f : α → Sem β) : prun P (s.bind f) = (prun P s).bind fun a => prun P (f a) := by
  induction s with
  | pure b => rfl
  | program k ih => simp only [Sem.bind, prun, ih]
  | mark m k ih => simp only [Sem.bind, prun, ih]
  | _ => rfl
theorem prun_bind {P : Program} {α β : Type} (s : Sem α) (f : α → Sem β) : prun P (s >>= f) = (prun P s).bind fun a => prun P (f a) := prun_bind' s f
theorem prun_pure {P : Program} {α : Type} (a : α) : prun P (pure a : Sem α) = some a := rfl
theorem prun_ite {P : Program} {α : Type} (c : Prop) [Decidable c] (x y : Sem α) : prun P (if c then x else y) = if c then prun P x else prun P y := by split <;> rfl

/-! ### Values -/
structure Loc where
  blk : Nat
  off : Nat
  top : Nat
  ex : Nat
  es : Nat
def Loc.cap (l : Loc) (o c : Nat) : Nat := if o + c * l.es = l.top then c + l.ex else c
abbrev Env := Nat → Option Loc
mutual
inductive R (ρ : Env) : Value → Value → Prop
  | flat (v : Value) (h : flat v = true) : R ρ v v
  | ptr (n o : Nat) (l : Loc) (h : ρ n = some l) : R ρ (.pointer (some ⟨n, o, none⟩)) (.pointer (some ⟨l.blk, l.off + o, none⟩))
  | slice (n o k c : Nat) (l : Loc) (h : ρ n = some l) : R ρ (.slice (some ⟨n, o, none⟩) k c) (.slice (some ⟨l.blk, l.off + o, none⟩) k (l.cap o c))
  | func (fn : Fn) (a b a' b' : List Value) (ha : RL ρ a a') (hb : RL ρ b b') : R ρ (.func fn ⟨a⟩ ⟨b⟩) (.func fn ⟨a'⟩ ⟨b'⟩)
  | iface (t : TypeId) (v u : Value) (h : R ρ v u) : R ρ (.iface t v) (.iface t u)
  | agg (a a' : List Value) (h : RL ρ a a') : R ρ (.agg ⟨a⟩) (.agg ⟨a'⟩)
  | tuple (a a' : List Value) (h : RL ρ a a') : R ρ (.tuple ⟨a⟩) (.tuple ⟨a'⟩)
inductive RL (ρ : Env) : List Value → List Value → Prop
  | nil : RL ρ [] []
  | cons (v u : Value) (l m : List Value) (h : R ρ v u) (t : RL ρ l m) : RL ρ (v :: l) (u :: m)
end
def Sub (ρ ρ' : Env) : Prop := ∀ n l, ρ n = some l → ρ' n = some l
theorem R.mono {ρ ρ' : Env} (hs : Sub ρ ρ') {v u : Value} (h : R ρ v u) : R ρ' v u :=
  R.rec (motive_1 := fun v u _ => R ρ' v u) (motive_2 := fun l m _ => RL ρ' l m)
    (fun v h => .flat v h) (fun n o l h => .ptr n o l (hs n l h)) (fun n o k c l h => .slice n o k c l (hs n l h))
    (fun fn a b a' b' _ _ ha hb => .func fn a b a' b' ha hb) (fun t v u _ h => .iface t v u h) (fun a a' _ h => .agg a a' h) (fun a a' _ h => .tuple a a' h)
    .nil (fun v u l m _ _ h t => .cons v u l m h t) h
theorem RL.mono {ρ ρ' : Env} (hs : Sub ρ ρ') {l m : List Value} (h : RL ρ l m) : RL ρ' l m := by
  induction l generalizing m with
  | nil => cases h; exact .nil
  | cons v l ih => cases h; rename_i hv hl; exact .cons _ _ _ _ (hv.mono hs) (ih hl)
theorem flat_of_flat0 {v : Value} (h : flat0 v = true) : flat v = true := by
  unfold flat0 at h
  split at h <;> first | (simp [flat, flat0]; done) | simp at h
theorem flat_of_flat1 {v : Value} (h : flat1 v = true) : flat v = true := by
  unfold flat1 at h
  split at h
  · simpa [flat] using h
  · exact flat_of_flat0 h
theorem RL.refl0 {ρ : Env} : ∀ {l : List Value}, (∀ v ∈ l, flat v = true) → RL ρ l l
  | [], _ => .nil
  | v :: l, h => .cons _ _ _ _ (.flat v (h v (by simp))) (RL.refl0 fun v hv => h v (by simp [hv]))
theorem R.agg_inv {ρ : Env} {a : List Value} {u : Value} (h : R ρ (.agg ⟨a⟩) u) : ∃ a', u = .agg ⟨a'⟩ ∧ RL ρ a a' := by
  cases h with
  | flat _ h => exact ⟨a, rfl, RL.refl0 fun v hv => flat_of_flat0 (by simp [Ev.flat] at h; exact h v hv)⟩
  | agg _ a' h => exact ⟨a', rfl, h⟩
theorem R.tuple_inv {ρ : Env} {a : List Value} {u : Value} (h : R ρ (.tuple ⟨a⟩) u) : ∃ a', u = .tuple ⟨a'⟩ ∧ RL ρ a a' := by
  cases h with
  | flat _ h => exact ⟨a, rfl, RL.refl0 fun v hv => flat_of_flat1 (by simp [Ev.flat] at h; exact h v hv)⟩
  | tuple _ a' h => exact ⟨a', rfl, h⟩
theorem R.ptr_inv {ρ : Env} {n o : Nat} {s : Option Nat} {u : Value} (h : R ρ (.pointer (some ⟨n, o, s⟩)) u) : s = none ∧ ∃ l, ρ n = some l ∧ u = .pointer (some ⟨l.blk, l.off + o, none⟩) := by
  cases h with
  | flat _ h => simp [Ev.flat, flat0] at h
  | ptr _ _ l h => exact ⟨rfl, l, h, rfl⟩
theorem R.slice_inv {ρ : Env} {n o k c : Nat} {s : Option Nat} {u : Value} (h : R ρ (.slice (some ⟨n, o, s⟩) k c) u) : s = none ∧ ∃ l, ρ n = some l ∧ u = .slice (some ⟨l.blk, l.off + o, none⟩) k (l.cap o c) := by
  cases h with
  | flat _ h => simp [Ev.flat, flat0] at h
  | slice _ _ _ _ l h => exact ⟨rfl, l, h, rfl⟩
theorem R.flat_inv {ρ : Env} {v u : Value} (hv : Ev.flat v = true) (h : R ρ v u) : u = v := by
  have L : ∀ (l m : List Value), (∀ x ∈ l, ∀ y, R ρ x y → y = x) → RL ρ l m → m = l := by
    intro l
    induction l with
    | nil => intro m _ h; cases h; rfl
    | cons x l ih => intro m hx h; cases h with
      | cons _ u _ m' h1 h2 => rw [hx x (by simp) u h1, ih m' (fun y hy => hx y (by simp [hy])) h2]
  have F0 : ∀ x, flat0 x = true → ∀ y, R ρ x y → y = x := by
    intro x hx y h
    cases h with
    | flat => rfl
    | func fn a b a' b' ha hb =>
      unfold flat0 at hx
      split at hx <;> try simp_all
      rename_i e; obtain ⟨rfl, rfl, rfl⟩ := e
      cases ha; cases hb; exact ⟨rfl, rfl⟩
    | _ => simp [flat0] at hx
  have F1 : ∀ x, flat1 x = true → ∀ y, R ρ x y → y = x := by
    intro x hx y h
    unfold flat1 at hx
    split at hx
    · obtain ⟨a', rfl, hl⟩ := h.agg_inv
      rw [L _ _ (fun z hz => F0 z (List.all_eq_true.1 hx z hz)) hl]
    · exact F0 x hx y h
  unfold Ev.flat at hv
  split at hv
  · obtain ⟨a', rfl, hl⟩ := h.agg_inv
    rw [L _ _ (fun z hz => F0 z (List.all_eq_true.1 hv z hz)) hl]
  · obtain ⟨a', rfl, hl⟩ := h.tuple_inv
    rw [L _ _ (fun z hz => F1 z (List.all_eq_true.1 hv z hz)) hl]
  · cases h with
    | flat => rfl
    | iface t _ u h => rw [F1 _ hv u h]
  · exact F0 v hv u h
end Go.Proofs.YtlegcfjafdihlaaGreatDoor.Ev
