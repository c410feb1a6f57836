/-
  The evaluator of calls at given arguments, and its soundness: part C. It speaks of any program.
-/
import Derived.Test.YtlegcfjafdihlaaGreatDoorEvB
namespace Go.Proofs.YtlegcfjafdihlaaGreatDoor.Ev
open Go.RowKit
set_option linter.unusedSimpArgs false
set_option linter.unusedVariables false

/-! ### Lists -/
theorem RL.length {ρ : Env} {l m : List Value} (h : RL ρ l m) : m.length = l.length := by
  induction l generalizing m with
  | nil => cases h; rfl
  | cons v l ih => cases h; rename_i hl; simp [ih hl]
theorem RL.at {ρ : Env} {l m : List Value} (h : RL ρ l m) : ∀ {k : Nat} {v : Value}, l[k]? = some v → ∃ u, m[k]? = some u ∧ R ρ v u := by
  induction l generalizing m with
  | nil => intro k v hv; simp at hv
  | cons x l ih =>
    intro k v hv
    cases h; rename_i u m hx hl
    cases k with
    | zero => simp at hv; subst hv; exact ⟨u, by simp, hx⟩
    | succ k => simp at hv; obtain ⟨u', e, r⟩ := ih hl hv; exact ⟨u', by simpa using e, r⟩
theorem RL.append {ρ : Env} {l m l' m' : List Value} (h : RL ρ l m) (h' : RL ρ l' m') : RL ρ (l ++ l') (m ++ m') := by
  induction l generalizing m with
  | nil => cases h; exact h'
  | cons x l ih => cases h; rename_i hl; exact .cons _ _ _ _ ‹_› (ih hl)
theorem RL.take {ρ : Env} {l m : List Value} (h : RL ρ l m) : ∀ n, RL ρ (l.take n) (m.take n) := by
  induction l generalizing m with
  | nil => intro n; cases h; simp; exact .nil
  | cons x l ih =>
    intro n
    cases h; rename_i hl
    cases n with
    | zero => simp; exact .nil
    | succ n => exact .cons _ _ _ _ ‹_› (ih hl n)
theorem RL.drop {ρ : Env} {l m : List Value} (h : RL ρ l m) : ∀ n, RL ρ (l.drop n) (m.drop n) := by
  induction l generalizing m with
  | nil => intro n; cases h; simp; exact .nil
  | cons x l ih =>
    intro n
    cases h; rename_i hl
    cases n with
    | zero => exact .cons _ _ _ _ ‹_› hl
    | succ n => simpa using ih hl n
theorem RL.of_map {ρ : Env} {α : Type} {l : List α} {f g : α → Value} (h : ∀ x ∈ l, R ρ (f x) (g x)) : RL ρ (l.map f) (l.map g) := by
  induction l with
  | nil => exact .nil
  | cons x l ih => exact .cons _ _ _ _ (h x (by simp)) (ih fun y hy => h y (by simp [hy]))
theorem lget_eq : ∀ (l : List Value) (k : Nat), lget l k = l[k]?
  | [], k => rfl
  | x :: l, 0 => rfl
  | x :: l, k + 1 => by
    show lget l k = _
    rw [lget_eq l k]; simp
theorem llen_eq : ∀ l : List Value, llen l = l.length
  | [] => rfl
  | x :: l => by show Nat.succ (llen l) = _; rw [llen_eq l]; rfl
theorem lapp_eq : ∀ a b : List Value, lapp a b = a ++ b
  | [], b => rfl
  | x :: a, b => by show lfrc (lapp a b) _ = _; rw [lfrc_eq, lapp_eq a b]; rfl
theorem ldrop_eq : ∀ (l : List Value) (o : Nat), ldrop l o = l.drop o
  | [], o => by simp; rfl
  | x :: l, 0 => rfl
  | x :: l, o + 1 => by show ldrop l o = _; rw [ldrop_eq l o]; rfl
theorem ltake_eq : ∀ (l : List Value) (n : Nat), ltake l n = l.take n
  | [], n => by simp; rfl
  | x :: l, 0 => rfl
  | x :: l, n + 1 => by show lfrc (ltake l n) _ = _; rw [lfrc_eq, ltake_eq l n]; rfl
theorem lsub_eq (l : List Value) (o n : Nat) (ds : List Value) (h : lsub l o n = some ds) : ds = (l.drop o).take n ∧ ds.length = n ∧ o + n ≤ l.length := by
  unfold lsub at h
  split at h
  · rename_i hb
    have hb' := Nat.le_of_ble_eq_true hb
    rw [llen_eq] at hb'
    have hb2 : o + n ≤ l.length := hb'
    rw [ltake_eq, ldrop_eq] at h
    cases h
    exact ⟨rfl, by simp; omega, hb2⟩
  · cases h
theorem lover_eq : ∀ (vs cs : List Value), vs.length ≤ cs.length → lover vs cs = vs ++ cs.drop vs.length
  | [], cs, _ => rfl
  | v :: vs, [], h => by simp at h
  | v :: vs, c :: cs, h => by
    show lfrc (lover vs cs) _ = _
    rw [lfrc_eq, lover_eq vs cs (by simpa using h)]; rfl
theorem lputs_eq : ∀ (cs : List Value) (o : Nat) (vs : List Value), o + vs.length ≤ cs.length → lputs vs cs o = cs.take o ++ vs ++ cs.drop (o + vs.length)
  | [], o, vs, h => by
    have h1 : o = 0 := by have h3 : o + vs.length ≤ 0 := h; omega
    have h2 : vs = [] := by apply List.eq_nil_of_length_eq_zero; have h3 : o + vs.length ≤ 0 := h; omega
    subst h1; subst h2; rfl
  | c :: cs, 0, vs, h => by
    show lover vs (c :: cs) = _
    rw [lover_eq vs _ (by simpa using h)]; simp
  | c :: cs, o + 1, vs, h => by
    show lfrc (lputs vs cs o) _ = _
    rw [lfrc_eq, lputs_eq cs o vs (by simp at h; omega), show o + 1 + vs.length = o + vs.length + 1 by omega]; simp
theorem lput_eq (l : List Value) (o : Nat) (vs ds : List Value) (h : lput l o vs = some ds) : ds = l.take o ++ vs ++ l.drop (o + vs.length) ∧ o + vs.length ≤ l.length := by
  unfold lput at h
  split at h
  · rename_i hb
    have hb' := Nat.le_of_ble_eq_true hb
    rw [llen_eq, llen_eq] at hb'
    have hb2 : o + vs.length ≤ l.length := hb'
    rw [lputs_eq l o vs hb2] at h
    cases h
    exact ⟨rfl, hb2⟩
  · cases h
theorem R.cells {ρ : Env} {v u : Value} (h : R ρ v u) : RL ρ v.cells.toList u.cells.toList := by
  by_cases hv : ∃ l, v = .agg ⟨l⟩
  · obtain ⟨l, rfl⟩ := hv
    obtain ⟨m, rfl, hl⟩ := h.agg_inv
    exact hl
  · have e : ∀ x : Value, (∀ l, x ≠ .agg ⟨l⟩) → x.cells = #[x] := by
      intro x hx; cases x <;> first | rfl | (rename_i c; exact absurd rfl (hx c.toList))
    have hu : ∀ l, u ≠ .agg ⟨l⟩ := by
      rintro l rfl
      cases h with
      | flat => exact hv ⟨l, rfl⟩
      | agg a => exact hv ⟨a, rfl⟩
    rw [e v fun l hl => hv ⟨l, hl⟩, e u hu]
    exact .cons _ _ _ _ h .nil
theorem R.one {ρ : Env} {v u : Value} (h : R ρ v u) : u.oneCell' = v.oneCell' := by cases h <;> rfl
theorem RL.one {ρ : Env} {l m : List Value} (h : RL ρ l m) : m.all (·.oneCell') = l.all (·.oneCell') := by
  induction l generalizing m with
  | nil => cases h; rfl
  | cons v l ih => cases h; rename_i hv hl; simp only [List.all_cons, R.one hv, ih hl]

/-! ### Memory -/
def BlkR (ρ : Env) (w : World) (l : Loc) : AB → Prop
  | .row cs e es => l.es = es ∧ ∃ ds c fz, RL ρ cs ds ∧ w.heap[l.blk]? = some (.cells c e fz) ∧ (∀ k v, ds[k]? = some v → c[l.off + k]? = some v) ∧
      (∀ k, fz.1 ≤ k → k < fz.2 → c.size ≤ k) ∧ l.off + l.top + l.ex * l.es ≤ c.size ∧ l.top = ds.length
  | .ro cs => l.blk < w.heap.size ∧ cs ≠ [] ∧ ∃ ds, RL ρ cs ds ∧ ∀ k v, ds[k]? = some v → w.cell? ⟨l.blk, l.off + k, none⟩ = some v
theorem BlkR.mono {ρ ρ' : Env} (hs : Sub ρ ρ') {w w' : World} {l : Loc} {b : AB} (hw : w'.heap[l.blk]? = w.heap[l.blk]?) (h : BlkR ρ w l b) : BlkR ρ' w' l b := by
  have hsz : l.blk < w.heap.size → l.blk < w'.heap.size := fun hlt => by
    rcases Nat.lt_or_ge l.blk w'.heap.size with k | k
    · exact k
    · rw [Array.getElem?_eq_none k, Array.getElem?_eq_getElem hlt] at hw; cases hw
  cases b with
  | row cs e es =>
    obtain ⟨h0, ds, c, fz, h1, h2, h3⟩ := h
    exact ⟨h0, ds, c, fz, h1.mono hs, by rw [hw]; exact h2, h3⟩
  | ro cs =>
    obtain ⟨h0, hne, ds, h1, h2⟩ := h
    refine ⟨hsz h0, hne, ds, h1.mono hs, fun k v hv => ?_⟩
    have := h2 k v hv
    unfold World.cell? at this ⊢
    rw [hw]; exact this
theorem BlkR.lt {ρ : Env} {w : World} {l : Loc} {b : AB} (h : BlkR ρ w l b) : l.blk < w.heap.size := by
  rcases Nat.lt_or_ge l.blk w.heap.size with k | k
  · exact k
  · cases b with
    | row cs e es => obtain ⟨_, ds, c, fz, _, h2, _⟩ := h; rw [Array.getElem?_eq_none k] at h2; cases h2
    | ro cs => have := h.1; omega
abbrev AH := Nat → Option AB
structure Good (G ρ : Env) (h : AH) (w : World) : Prop where
  base : Sub G ρ
  sat : ∀ n b, h n = some b → ∃ l, ρ n = some l ∧ BlkR ρ w l b
  sep : ∀ n m b b' l l', h n = some b → h m = some b' → n ≠ m → (b.isRo && b'.isRo) = false → ρ n = some l → ρ m = some l' → l.blk ≠ l'.blk
  even : ∀ n l, ρ n = some l → n % 2 = 0 → l.ex = 0
def upd (h : AH) (W : Nat) (h' : AH) : AH := fun n => if W.testBit n = true then h' n else h n
structure Ev1 (G ρ : Env) (h : AH) (w : World) (nx nx' W : Nat) (h' : AH) (ρ' : Env) (w' : World) : Prop where
  sub : Sub ρ ρ'
  dom : ∀ n l, ρ' n = some l → ρ n = some l ∨ (nx ≤ n ∧ n < nx')
  good : Good G ρ' (upd h W h') w'
  os : w'.os = w.os
  tape : w'.tape = w.tape
  output : w'.output = w.output
  size : w.heap.size ≤ w'.heap.size
  frame : ∀ b, b < w.heap.size → (∀ n l, W.testBit n = true → h n ≠ none → ρ n = some l → l.blk ≠ b) → w'.heap[b]? = w.heap[b]?
  nb : ∀ n l, h n = none → upd h W h' n ≠ none → ρ' n = some l → w.heap.size ≤ l.blk ∨ ∃ m lm, W.testBit m = true ∧ h m ≠ none ∧ ρ m = some lm ∧ lm.blk = l.blk
theorem upd_zero (h h' : AH) : upd h 0 h' = h := by funext n; simp [upd]
theorem Good.drew {G ρ : Env} {h : AH} {w : World} (g : Good G ρ h w) (n : Nat) : Good G ρ h { w with drawn := n } := ⟨g.base, g.sat, g.sep, g.even⟩
theorem Ev1.refl {G ρ : Env} {h : AH} {w : World} (g : Good G ρ h w) (nx : Nat) (h' : AH) : Ev1 G ρ h w nx nx 0 h' ρ w :=
  ⟨fun _ _ h => h, fun _ _ h => .inl h, by rw [upd_zero]; exact g, rfl, rfl, rfl, Nat.le_refl _, fun _ _ _ => rfl, fun n l h1 h2 => by rw [upd_zero] at h2; exact absurd h1 h2⟩
theorem Ev1.draw {G ρ : Env} {h : AH} {w : World} (g : Good G ρ h w) (nx d : Nat) (h' : AH) : Ev1 G ρ h w nx nx 0 h' ρ { w with drawn := d } :=
  ⟨fun _ _ h => h, fun _ _ h => .inl h, by rw [upd_zero]; exact g.drew d, rfl, rfl, rfl, Nat.le_refl _, fun _ _ _ => rfl, fun n l h1 h2 => by rw [upd_zero] at h2; exact absurd h1 h2⟩
theorem Ev1.trans {G ρ ρ1 ρ2 : Env} {h : AH} {w w1 w2 : World} {a b c W1 W2 : Nat} {h1 h2 : AH} (e1 : Ev1 G ρ h w a b W1 h1 ρ1 w1) (e2 : Ev1 G ρ1 (upd h W1 h1) w1 b c W2 h2 ρ2 w2)
    (hab : a ≤ b) (hbc : b ≤ c) (keep : ∀ n, W2.testBit n = false → h2 n = h1 n) (g : Good G ρ h w) : Ev1 G ρ h w a c (W1 ||| W2) h2 ρ2 w2 := by
  have hu : upd (upd h W1 h1) W2 h2 = upd h (W1 ||| W2) h2 := by
    funext n
    simp only [upd, Nat.testBit_or, Bool.or_eq_true]
    by_cases k2 : W2.testBit n = true
    · simp [k2]
    · have k2' : W2.testBit n = false := by simpa using k2
      by_cases k1 : W1.testBit n = true
      · simp [k1, k2', keep n k2']
      · simp [k1, k2']
  have alive1 : ∀ n l, h n ≠ none → ρ n = some l → ρ1 n = some l := fun n l _ hl => e1.sub n l hl
  refine ⟨fun n l hl => e2.sub n l (e1.sub n l hl), ?_, by rw [← hu]; exact e2.good, e2.os.trans e1.os, e2.tape.trans e1.tape, e2.output.trans e1.output, Nat.le_trans e1.size e2.size, ?_, ?_⟩
  · intro n l hl
    rcases e2.dom n l hl with h3 | h3
    · rcases e1.dom n l h3 with h4 | h4
      · exact .inl h4
      · exact .inr ⟨h4.1, by omega⟩
    · exact .inr ⟨by omega, h3.2⟩
  · intro B hB hne
    have f1 := e1.frame B hB fun n l hn ha hl => hne n l (by simp [Nat.testBit_or, hn]) ha hl
    rw [← f1]
    refine e2.frame B (Nat.lt_of_lt_of_le hB e1.size) fun n l hn ha hl => ?_
    by_cases hh : h n = none
    · rcases e1.nb n l hh ha hl with h3 | ⟨m, lm, h3, h4, h5, h6⟩
      · omega
      · rw [← h6]; exact hne m lm (by simp [Nat.testBit_or, h3]) h4 h5
    · obtain ⟨b, hb⟩ := Option.ne_none_iff_exists'.1 hh
      obtain ⟨l0, hl0, _⟩ := g.sat n b hb
      have := e1.sub n l0 hl0
      rw [this] at hl; cases hl
      exact hne n l (by simp [Nat.testBit_or, hn]) hh hl0
  · intro n l hh ha hl
    rw [← hu] at ha
    by_cases h1n : upd h W1 h1 n = none
    · rcases e2.nb n l h1n ha hl with h3 | ⟨m, lm, h3, h4, h5, h6⟩
      · exact .inl (Nat.le_trans e1.size h3)
      · by_cases hm : h m = none
        · rcases e1.nb m lm hm h4 h5 with h7 | ⟨m', lm', h7, h8, h9, h10⟩
          · exact .inl (by omega)
          · exact .inr ⟨m', lm', by simp [Nat.testBit_or, h7], h8, h9, h10.trans h6⟩
        · obtain ⟨b, hb⟩ := Option.ne_none_iff_exists'.1 hm
          obtain ⟨l0, hl0, _⟩ := g.sat m b hb
          have := e1.sub m l0 hl0
          rw [this] at h5; cases h5
          exact .inr ⟨m, lm, by simp [Nat.testBit_or, h3], hm, hl0, h6⟩
    · obtain ⟨b, hb⟩ := Option.ne_none_iff_exists'.1 h1n
      obtain ⟨l0, hl0, _⟩ := e1.good.sat n b hb
      have := e2.sub n l0 hl0
      rw [this] at hl; cases hl
      rcases e1.nb n l hh h1n hl0 with h3 | ⟨m, lm, h3, h4, h5, h6⟩
      · exact .inl h3
      · exact .inr ⟨m, lm, by simp [Nat.testBit_or, h3], h4, h5, h6⟩
theorem testBit_bit (n k : Nat) : (bit n).testBit k = true ↔ k = n := by
  show (2 ^ n).testBit k = true ↔ k = n
  rw [Nat.testBit_two_pow]; simp [eq_comm]

/-- A new row of cells, of its own. -/
theorem Ev1.row {G ρ : Env} {h : AH} {w : World} (g : Good G ρ h w) (nx nx' n : Nat) (hn : nx ≤ n) (hn' : n < nx') (hf : ∀ k, nx ≤ k → k < nx' → ρ k = none) (cs ds rest : List Value) (e : TypeId) (ex es : Nat) (hr : RL ρ cs ds)
    (hx : rest.length = ex * es) (hev : n % 2 = 0 → ex = 0) (h' : AH) (h1 : h' n = some (.row cs e es)) (fz : Nat × Nat) (hz : ∀ k, fz.1 ≤ k → k < fz.2 → (ds ++ rest).length ≤ k) :
    Ev1 G ρ h w nx nx' (bit n) h' (fun k => if k = n then some ⟨w.heap.size, 0, cs.length, ex, es⟩ else ρ k) (w.alloc (.cells ⟨ds ++ rest⟩ e fz)) := by
  have hρ : ρ n = none := hf n hn hn'
  have hh : h n = none := by
    cases hq : h n with
    | none => rfl
    | some b => obtain ⟨l, hl, _⟩ := g.sat n b hq; rw [hρ] at hl; cases hl
  have hs : Sub ρ (fun k => if k = n then some ⟨w.heap.size, 0, cs.length, ex, es⟩ else ρ k) := by
    intro k l hl
    have : k ≠ n := by rintro rfl; rw [hρ] at hl; cases hl
    simp [this, hl]
  have hold : ∀ k l b, h k = some b → ρ k = some l → l.blk < w.heap.size := by
    intro k l b hk hl
    obtain ⟨l0, hl0, hb⟩ := g.sat k b hk
    rw [hl] at hl0; cases hl0
    exact hb.lt
  have hheap : ∀ B, B < w.heap.size → (w.alloc (.cells ⟨ds ++ rest⟩ e fz)).heap[B]? = w.heap[B]? := fun B hB => Below.heap_alloc w _ B hB
  refine ⟨hs, ?_, ⟨fun k l hl => hs k l (g.base k l hl), ?_, ?_, ?_⟩, rfl, rfl, rfl, by show _ ≤ (w.heap.push _).size; simp, fun B hB _ => hheap B hB, ?_⟩
  · intro k l hl
    by_cases hk : k = n
    · subst hk; exact .inr ⟨hn, hn'⟩
    · simp [hk] at hl; exact .inl hl
  · intro k b hb
    simp only [upd, testBit_bit] at hb
    by_cases hk : k = n
    · subst hk
      simp [h1] at hb; subst hb
      refine ⟨_, by simp; rfl, rfl, ds, ⟨ds ++ rest⟩, fz, hr.mono hs, heap_alloc_new w _, ?_, ?_, ?_, ?_⟩
      · intro j v hj
        have := (List.getElem?_eq_some_iff.1 hj).1
        simp [List.getElem?_append_left this, hj]
      · intro j; simpa using hz j
      · simp [hr.length, hx]
      · simp [hr.length]
    · simp [hk] at hb
      obtain ⟨l, hl, hbl⟩ := g.sat k b hb
      exact ⟨l, by simp [hk, hl], hbl.mono hs (hheap _ hbl.lt)⟩
  · intro k m b b' l l' hk hm hkm hro hl hl'
    simp only [upd, testBit_bit] at hk hm
    by_cases e1 : k = n <;> by_cases e2 : m = n <;> simp [e1, e2] at hk hm hl hl' hkm
    · have := hold m l' b' hm hl'
      subst hl; simp; omega
    · have := hold k l b hk hl
      subst hl'; simp; omega
    · exact g.sep k m b b' l l' hk hm hkm hro hl hl'
  · intro k l hl hk2
    by_cases hk : k = n
    · simp [hk] at hl; subst hl; subst hk; exact hev hk2
    · simp [hk] at hl; exact g.even k l hl hk2
  · intro k l hk hu hl
    simp only [upd, testBit_bit] at hu
    by_cases hkn : k = n
    · simp [hkn] at hl; subst hl; exact .inl (Nat.le_refl _)
    · simp [hkn, hk] at hu

/-- Cells of a row are written. -/
theorem Ev1.write {G ρ : Env} {h : AH} {w : World} (g : Good G ρ h w) (nx n : Nat) (l : Loc) (hl : ρ n = some l) {b0 : AB} (hh : h n = some b0) (hr0 : b0.isRo = false) (h' : AH) (b' : AB) (h1 : h' n = some b') (hr1 : b'.isRo = false) (w' : World)
    (hb : BlkR ρ w' l b') (ho : ∀ B, B ≠ l.blk → w'.heap[B]? = w.heap[B]?) (hos : w'.os = w.os) (ht : w'.tape = w.tape) (hout : w'.output = w.output) (hsz : w'.heap.size = w.heap.size) :
    Ev1 G ρ h w nx nx (bit n) h' ρ w' := by
  refine ⟨fun _ _ h => h, fun _ _ h => .inl h, ⟨g.base, ?_, ?_, g.even⟩, hos, ht, hout, Nat.le_of_eq hsz.symm, ?_, ?_⟩
  · intro k b hk
    simp only [upd, testBit_bit] at hk
    by_cases e : k = n
    · subst e; simp [h1] at hk; subst hk; exact ⟨l, hl, hb⟩
    · simp [e] at hk
      obtain ⟨l2, hl2, hb2⟩ := g.sat k b hk
      exact ⟨l2, hl2, hb2.mono (fun _ _ h => h) (ho _ (g.sep k n b b0 l2 l hk hh e (by rw [hr0, Bool.and_false]) hl2 hl))⟩
  · intro k m c1 c2 l1 l2 hk hm hkm hro
    have alive : ∀ j c, upd h (bit n) h' j = some c → ∃ c0, h j = some c0 ∧ c0.isRo = c.isRo := by
      intro j c hj
      simp only [upd, testBit_bit] at hj
      by_cases e : j = n
      · subst e; simp [h1] at hj; subst hj; exact ⟨b0, hh, by rw [hr0, hr1]⟩
      · simp [e] at hj; exact ⟨c, hj, rfl⟩
    obtain ⟨d1, q1, q2⟩ := alive k c1 hk
    obtain ⟨d2, q3, q4⟩ := alive m c2 hm
    exact g.sep k m d1 d2 l1 l2 q1 q3 hkm (by rw [q2, q4]; exact hro)
  · intro B hB hne
    exact ho B fun e => hne n l (by simp [testBit_bit]) (by rw [hh]; simp) hl e.symm
  · intro k l2 hk hu
    simp only [upd, testBit_bit] at hu
    by_cases e : k = n
    · subst e; rw [hk] at hh; cases hh
    · simp [e, hk] at hu
end Go.Proofs.YtlegcfjafdihlaaGreatDoor.Ev
