/-
  The evaluator of calls at given arguments, and its soundness: part F. It speaks of any program.
-/
import Derived.Test.YtlegcfjafdihlaaGreatDoorEvD
namespace Go.Proofs.YtlegcfjafdihlaaGreatDoor.Ev
open Go.RowKit
set_option linter.unusedSimpArgs false
set_option linter.unusedVariables false

/-! ### Whatever order: sequences -/
section
variable {α : Type} {n : Nat} {Wr : Nat → Nat → Prop} {F : Nat → Nat → α}
theorem last_writer (Wr : Nat → Nat → Prop) (x : Nat) : ∀ m, (∃ i, i < m ∧ Wr i x ∧ ∀ k, i < k → k < m → ¬ Wr k x) ∨ (∀ i, i < m → ¬ Wr i x)
  | 0 => .inr fun i hi => by omega
  | m + 1 => by
    by_cases h : Wr m x
    · exact .inl ⟨m, by omega, h, fun k h1 h2 => by omega⟩
    · rcases last_writer Wr x m with ⟨i, h1, h2, h3⟩ | h1
      · refine .inl ⟨i, by omega, h2, fun k h4 h5 => ?_⟩
        by_cases e : k = m
        · subst e; exact h
        · exact h3 k h4 (by omega)
      · refine .inr fun i hi => ?_
        by_cases e : i = m
        · subst e; exact h
        · exact h1 i (by omega)
theorem seq_same (keep : ∀ i, i < n → ∀ x, ¬ Wr i x → F (i + 1) x = F i x) (x : Nat) (i : Nat) : ∀ j, i ≤ j → j ≤ n → (∀ k, i ≤ k → k < j → ¬ Wr k x) → F j x = F i x
  | 0, h1, _, _ => by have : i = 0 := by omega
                      subst this; rfl
  | j + 1, h1, h2, h3 => by
    by_cases e : i = j + 1
    · subst e; rfl
    · rw [keep j (by omega) x (h3 j (by omega) (by omega))]
      exact seq_same keep x i j (by omega) (by omega) fun k h4 h5 => h3 k h4 (by omega)
structure PropD (n : Nat) (Wr : Nat → Nat → Prop) (F : Nat → Nat → α) (base : Nat → α) (D : Nat → Prop) (g : Nat → α) : Prop where
  none : ∀ x, (∀ i, i < n → D i → ¬ Wr i x) → g x = base x
  last : ∀ i, i < n → D i → ∀ x, Wr i x → (∀ k, k < n → D k → i < k → ¬ Wr k x) → g x = F (i + 1) x
theorem PropD.agree {base : Nat → α} {D : Nat → Prop} {g : Nat → α} (p : PropD n Wr F base D g) (keep : ∀ i, i < n → ∀ x, ¬ Wr i x → F (i + 1) x = F i x) {j x : Nat} (hj : j < n) (hD : ¬ D j) (hb : base x = F 0 x)
    (conf : ∀ i, i < n → Wr i x → (i < j → D i) ∧ (j < i → ¬ D i)) : g x = F j x := by
  rcases last_writer Wr x j with ⟨i, h1, h2, h3⟩ | h1
  · rw [p.last i (by omega) ((conf i (by omega) h2).1 h1) x h2, seq_same keep x (i + 1) j (by omega) (by omega) fun k h4 h5 => h3 k (by omega) h5]
    intro k hk hd hik hw
    by_cases e : k < j
    · exact h3 k hik e hw
    · by_cases e2 : k = j
      · subst e2; exact hD hd
      · exact (conf k hk hw).2 (by omega) hd
  · rw [p.none x, hb, seq_same keep x 0 j (by omega) (by omega) fun k _ h5 => h1 k h5]
    intro i hi hd hw
    by_cases e : i < j
    · exact h1 i e hw
    · by_cases e2 : i = j
      · subst e2; exact hD hd
      · exact (conf i hi hw).2 (by omega) hd
theorem PropD.step {base : Nat → α} {D : Nat → Prop} {g g' : Nat → α} (p : PropD n Wr F base D g) {j : Nat} (h1 : ∀ x, Wr j x → g' x = F (j + 1) x) (h2 : ∀ x, ¬ Wr j x → g' x = g x)
    (conf : ∀ x, Wr j x → ∀ i, i < n → D i → j < i → ¬ Wr i x) {D' : Nat → Prop} (hD : ∀ i, i < n → (D' i ↔ D i ∨ i = j)) (hj : j < n) : PropD n Wr F base D' g' := by
  constructor
  · intro x hx
    have hjx : ¬ Wr j x := hx j hj ((hD j hj).2 (.inr rfl))
    rw [h2 x hjx]
    exact p.none x fun i hi hd => hx i hi ((hD i hi).2 (.inl hd))
  · intro i hi hd x hw hlast
    by_cases hjx : Wr j x
    · have hij : i = j := by
        rcases (hD i hi).1 hd with hdi | e
        · by_cases h3 : i < j
          · exact absurd hjx (hlast j hj ((hD j hj).2 (.inr rfl)) h3)
          · by_cases e : i = j
            · exact e
            · exact absurd hw (conf x hjx i hi hdi (by omega))
        · exact e
      subst hij
      exact h1 x hjx
    · rw [h2 x hjx]
      rcases (hD i hi).1 hd with hdi | e
      · exact p.last i hi hdi x hw fun k hk hdk hik => hlast k hk ((hD k hk).2 (.inl hdk)) hik
      · subst e; exact absurd hw hjx
theorem PropD.final {base : Nat → α} {D : Nat → Prop} {g : Nat → α} (p : PropD n Wr F base D g) (keep : ∀ i, i < n → ∀ x, ¬ Wr i x → F (i + 1) x = F i x) (hD : ∀ i, i < n → D i) (x : Nat) (hb : (∀ i, i < n → ¬ Wr i x) → base x = F 0 x) : g x = F n x := by
  rcases last_writer Wr x n with ⟨i, h1, h2, h3⟩ | h1
  · rw [p.last i h1 (hD i h1) x h2 fun k hk _ hik => h3 k hik hk, seq_same keep x (i + 1) n (by omega) (by omega) fun k h4 h5 => h3 k (by omega) h5]
  · rw [p.none x fun i hi _ => h1 i hi, hb h1, seq_same keep x 0 n (by omega) (by omega) fun k _ h5 => h1 k h5]
end

theorem Ev1.wide {G ρ ρ' : Env} {h h' : AH} {w w' : World} {a b a' b' W : Nat} (e : Ev1 G ρ h w a b W h' ρ' w') (h1 : a' ≤ a) (h2 : b ≤ b') : Ev1 G ρ h w a' b' W h' ρ' w' :=
  { e with dom := fun n l hl => (e.dom n l hl).imp id fun h => ⟨by omega, by omega⟩ }
/-- Two steps whose names are in one interval. -/
theorem Ev1.trans' {G ρ ρ1 ρ2 : Env} {h : AH} {w w1 w2 : World} {a c W1 W2 : Nat} {h1 h2 : AH} (e1 : Ev1 G ρ h w a c W1 h1 ρ1 w1) (e2 : Ev1 G ρ1 (upd h W1 h1) w1 a c W2 h2 ρ2 w2)
    (keep : ∀ n, W2.testBit n = false → h2 n = upd h W1 h1 n) (g : Good G ρ h w) : Ev1 G ρ h w a c (W1 ||| W2) h2 ρ2 w2 := by
  have hk : ∀ n, W1.testBit n = true → W2.testBit n = false → h2 n = h1 n := fun n k1 k2 => by rw [keep n k2]; simp [upd, k1]
  have hu : upd (upd h W1 h1) W2 h2 = upd h (W1 ||| W2) h2 := by
    funext n
    simp only [upd, Nat.testBit_or, Bool.or_eq_true]
    by_cases k2 : W2.testBit n = true
    · simp [k2]
    · have k2' : W2.testBit n = false := by simpa using k2
      by_cases k1 : W1.testBit n = true
      · simp [k1, k2', hk n k1 k2']
      · simp [k1, k2']
  refine ⟨fun n l hl => e2.sub n l (e1.sub n l hl), ?_, by rw [← hu]; exact e2.good, e2.os.trans e1.os, e2.tape.trans e1.tape, e2.output.trans e1.output, Nat.le_trans e1.size e2.size, ?_, ?_⟩
  · intro n l hl
    rcases e2.dom n l hl with h3 | h3
    · exact e1.dom n l h3
    · exact .inr h3
  · intro B hB hne
    have f1 := e1.frame B hB fun n l hn ha hl => hne n l (by simp [Nat.testBit_or, hn]) ha hl
    rw [← f1]
    refine e2.frame B (Nat.lt_of_lt_of_le hB e1.size) fun n l hn ha hl => ?_
    by_cases hh : h n = none
    · rcases e1.nb n l hh ha hl with h3 | ⟨m, lm, h3, h4, h5, h6⟩
      · omega
      · rw [← h6]; exact hne m lm (by simp [Nat.testBit_or, h3]) h4 h5
    · obtain ⟨b, hb⟩ := Option.ne_none_iff_exists'.1 hh
      obtain ⟨l0, hl0, _⟩ := g.sat n b hb
      have := e1.sub n l0 hl0
      rw [this] at hl; cases hl
      exact hne n l (by simp [Nat.testBit_or, hn]) hh hl0
  · intro n l hh ha hl
    rw [← hu] at ha
    by_cases h1n : upd h W1 h1 n = none
    · rcases e2.nb n l h1n ha hl with h3 | ⟨m, lm, h3, h4, h5, h6⟩
      · exact .inl (Nat.le_trans e1.size h3)
      · by_cases hm : h m = none
        · rcases e1.nb m lm hm h4 h5 with h7 | ⟨m', lm', h7, h8, h9, h10⟩
          · exact .inl (by omega)
          · exact .inr ⟨m', lm', by simp [Nat.testBit_or, h7], h8, h9, h10.trans h6⟩
        · obtain ⟨b, hb⟩ := Option.ne_none_iff_exists'.1 hm
          obtain ⟨l0, hl0, _⟩ := g.sat m b hb
          have := e1.sub m l0 hl0
          rw [this] at h5; cases h5
          exact .inr ⟨m, lm, by simp [Nat.testBit_or, h3], hm, hl0, h6⟩
    · obtain ⟨b, hb⟩ := Option.ne_none_iff_exists'.1 h1n
      obtain ⟨l0, hl0, _⟩ := e1.good.sat n b hb
      have := e2.sub n l0 hl0
      rw [this] at hl; cases hl
      rcases e1.nb n l hh h1n hl0 with h3 | ⟨m, lm, h3, h4, h5, h6⟩
      · exact .inl h3
      · exact .inr ⟨m, lm, by simp [Nat.testBit_or, h3], h4, h5, h6⟩
/-- Only what the step leaves counts. -/
theorem Ev1.as {G ρ ρ' : Env} {h h1 h2 : AH} {w w' : World} {a b W : Nat} (e : Ev1 G ρ h w a b W h1 ρ' w') (hu : ∀ n, W.testBit n = true → h1 n = h2 n) : Ev1 G ρ h w a b W h2 ρ' w' := by
  have : upd h W h1 = upd h W h2 := by funext n; unfold upd; split <;> first | exact hu n ‹_› | rfl
  exact ⟨e.sub, e.dom, this ▸ e.good, e.os, e.tape, e.output, e.size, e.frame, fun n l h3 h4 h5 => e.nb n l h3 (by rw [this]; exact h4) h5⟩
/-- More names may be said to be written: they hold what they held. -/
theorem Ev1.more {G ρ ρ' : Env} {h h1 : AH} {w w' : World} {a b W W2 : Nat} (e : Ev1 G ρ h w a b W h1 ρ' w') (hs : ∀ n, W.testBit n = true → W2.testBit n = true) (hu : ∀ n, W2.testBit n = true → W.testBit n = false → h1 n = h n) : Ev1 G ρ h w a b W2 h1 ρ' w' := by
  have : upd h W h1 = upd h W2 h1 := by
    funext n; unfold upd
    by_cases k : W.testBit n = true
    · simp [k, hs n k]
    · have k' : W.testBit n = false := by simpa using k
      by_cases k2 : W2.testBit n = true
      · simp [k', k2, hu n k2 k']
      · simp [k', k2]
  exact ⟨e.sub, e.dom, this ▸ e.good, e.os, e.tape, e.output, e.size, fun b hb hne => e.frame b hb fun n l h3 => hne n l (hs n h3), fun n l h3 h4 h5 => by
    rcases e.nb n l h3 (by rw [this]; exact h4) h5 with h6 | ⟨m, lm, h6, h7⟩
    · exact .inl h6
    · exact .inr ⟨m, lm, hs m h6, h7⟩⟩
end Go.Proofs.YtlegcfjafdihlaaGreatDoor.Ev
