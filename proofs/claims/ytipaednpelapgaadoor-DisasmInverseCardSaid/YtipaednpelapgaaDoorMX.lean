import Derived.Test.YtipaednpelapgaaDoorDwK
import Derived.Test.YtipaednpelapgaaDoorDwC
import Derived.Test.YtipaednpelapgaaDoorDwF
/-
  Plain: lines begin with their addresses in six octal digits and have a text each; valid instructions have a text.
-/
namespace Go.Proofs.YtipaednpelapgaaDoor
set_option linter.unusedSimpArgs false
set_option linter.unusedVariables false
set_option maxHeartbeats 8000000
set_option maxRecDepth 100000

theorem row_by : ∀ k : Fin 57, (match formR (k.val : Int) with | some e => decide (e.e0 = 0) || byB (k.val : Int) | none => true) = true := by decide +kernel
theorem mn_ne : ∀ k : Fin 57, 1 ≤ k.val → mns.getD k.val [] ≠ [] := by decide
theorem ab_ne : ∀ e ∈ abv, e.1 ≠ [] := by decide
theorem vR_op {i : In} (hv : vR i = true) : (1 ≤ i.o ∧ i.o ≤ 56) ∧ (i.b = true → byB i.o = true) := by
  obtain ⟨o, b, m, r, x, p, q, y, g, n⟩ := i
  have ho := (vR_rng hv).1
  refine ⟨ho, fun hb => ?_⟩
  obtain ⟨K, rfl⟩ : ∃ K : Nat, o = (K : Int) := ⟨o.toNat, by omega⟩
  have hr := row_by ⟨K, by omega⟩
  simp only at hr hb ⊢
  cases hf : formR (K : Int) with
  | none => rw [vR_none (i := ⟨K, b, m, r, x, p, q, y, g, n⟩) hf] at hv; cases hv
  | some e =>
    rw [vR_some (i := ⟨K, b, m, r, x, p, q, y, g, n⟩) hf] at hv
    rw [hf] at hr
    simp only [Bool.and_eq_true] at hv
    have h1 := hv.1
    unfold hoR at h1
    simp only [Bool.and_eq_true, Bool.or_eq_true, Bool.not_eq_true', decide_eq_false_iff_not] at h1
    simp only [Bool.or_eq_true, decide_eq_true_eq] at hr
    rcases hr with h | h
    · rcases h1.1.1.1.1.1.1 with h2 | h2
      · exact absurd h h2
      · rw [hb] at h2; cases h2
    · exact h
theorem nm_some {o : Int} {b : Bool} (ho : 1 ≤ o ∧ o ≤ 56) (hb : b = true → byB o = true) : nmT o b = mnT o ++ (if b = true then [98] else []) := by
  unfold nmT opB
  rw [if_pos (by simpa using ho)]
  cases b with
  | false => simp
  | true => rw [if_pos rfl, if_pos (hb rfl), if_pos rfl]
theorem nm_ne {o : Int} {b : Bool} (ho : 1 ≤ o ∧ o ≤ 56) (hb : b = true → byB o = true) : nmT o b ≠ [] := by
  rw [nm_some ho hb]
  have h : mns.getD o.toNat [] ≠ [] := mn_ne ⟨o.toNat, by omega⟩ (by simp only; omega)
  exact fun k => h (List.append_eq_nil_iff.1 k).1
theorem tx_ne {i : In} (a : Int) (hv : vR i = true) : 0 < (txT i a).length := by
  have h := vR_op hv
  unfold txT
  rw [hv, if_pos rfl]
  cases hA : abT i.o i.n with
  | some s =>
    simp only
    unfold abT at hA
    rw [Option.map_eq_some_iff] at hA
    obtain ⟨e, he, rfl⟩ := hA
    exact List.length_pos_iff.2 (ab_ne e (List.mem_of_find?_eq_some he))
  | none =>
    simp only
    have := List.length_pos_iff.2 (nm_ne h.1 h.2)
    rw [List.length_append]
    omega
theorem dc_v (l : List Int) : (dcI l).2 = 0 ∨ vR (dcI l).1 = true := by
  cases l with
  | nil => exact Or.inl rfl
  | cons w t =>
    show (if 0 ≤ w ∧ w ≤ 65535 then dcW w t else (nil10, 0)).2 = 0 ∨ vR (if 0 ≤ w ∧ w ≤ 65535 then dcW w t else (nil10, 0)).1 = true
    split
    · unfold dcW
      split
      · exact Or.inl rfl
      · split
        · rename_i h; exact Or.inr h.2
        · exact Or.inl rfl
    · exact Or.inl rfl
theorem fs_ne (l : List Int) (a : Int) : 0 < (fsT l a).1.length := by
  unfold fsT
  split
  · simp
  · rename_i h
    rcases dc_v l with h1 | h1
    · exact absurd h1 h
    · exact tx_ne a h1

/-- Lines of the addresses from a to e. -/
def Sq : List (List UInt8) → Int → Int → Prop
  | [], a, e => a = e
  | s :: t, a, e => ∃ (T : List UInt8) (n : Int), s = adT a ++ 32 :: T ∧ 0 < T.length ∧ (n = 2 ∨ n = 4 ∨ n = 6) ∧ a + n ≤ e ∧ Sq t (a + n) e
theorem Sq.of : ∀ (k : Nat) (l : List Int) (a : Int), l.length ≤ k → Sq (lnT k l a) a (a + 2 * l.length)
  | 0, l, a, h => by
    have e : l = [] := List.length_eq_zero_iff.1 (by omega)
    subst e
    show a = a + 2 * ((([] : List Int).length : Nat) : Int)
    simp
  | k + 1, l, a, h => by
    unfold lnT
    split
    · rename_i h0
      show a = a + 2 * (l.length : Int)
      omega
    · have hr := fsT_rng l a (by omega)
      have ih := Sq.of k (l.drop (fsT l a).2) (a + 2 * (fsT l a).2) (by rw [List.length_drop]; omega)
      rw [List.length_drop] at ih
      refine ⟨(fsT l a).1, 2 * (fsT l a).2, rfl, fs_ne l a, by omega, by omega, ?_⟩
      have e : a + 2 * ((fsT l a).2 : Int) + 2 * ((l.length - (fsT l a).2 : Nat) : Int) = a + 2 * l.length := by omega
      rwa [e] at ih
theorem Sq.len : ∀ (L : List (List UInt8)) (a e : Int), Sq L a e → a + 2 * L.length ≤ e
  | [], a, e, h => by have : a = e := h; simp; omega
  | s :: t, a, e, ⟨T, n, _, _, hn, _, ht⟩ => by
    have := Sq.len t (a + n) e ht
    simp only [List.length_cons]
    omega
theorem Sq.nil {L : List (List UInt8)} {a e : Int} (h : Sq L a e) (hL : L = []) : a = e := by subst hL; exact h

/-! ### The six digits of an address -/
theorem dg_nat : ∀ d : Fin 8, (dg d.val).toNat = 48 + d.val := by decide
theorem pd6_six (U : Nat) (h : U < 65536) : pd6 U = [dg (U / 32768), dg (U / 4096 % 8), dg (U / 512 % 8), dg (U / 64 % 8), dg (U / 8 % 8), dg (U % 8)] := by
  have z : dg 0 = 48 := by decide
  unfold pd6
  by_cases h1 : U < 8
  · rw [digs_small h1, show U / 32768 = 0 by omega, show U / 4096 % 8 = 0 by omega, show U / 512 % 8 = 0 by omega, show U / 64 % 8 = 0 by omega, show U / 8 % 8 = 0 by omega, show U % 8 = U by omega, z]; rfl
  rw [digs_big (b := 8) (u := U) (by omega) (by omega)]
  by_cases h2 : U / 8 < 8
  · rw [digs_small h2, show U / 32768 = 0 by omega, show U / 4096 % 8 = 0 by omega, show U / 512 % 8 = 0 by omega, show U / 64 % 8 = 0 by omega, show U / 8 % 8 = U / 8 by omega, z]; rfl
  rw [digs_big (b := 8) (u := U / 8) (by omega) (by omega)]
  by_cases h3 : U / 8 / 8 < 8
  · rw [digs_small h3, show U / 32768 = 0 by omega, show U / 4096 % 8 = 0 by omega, show U / 512 % 8 = 0 by omega, show U / 64 % 8 = U / 8 / 8 by omega, z]; rfl
  rw [digs_big (b := 8) (u := U / 8 / 8) (by omega) (by omega)]
  by_cases h4 : U / 8 / 8 / 8 < 8
  · rw [digs_small h4, show U / 32768 = 0 by omega, show U / 4096 % 8 = 0 by omega, show U / 512 % 8 = U / 8 / 8 / 8 by omega, show U / 64 = U / 8 / 8 by omega, z]; rfl
  rw [digs_big (b := 8) (u := U / 8 / 8 / 8) (by omega) (by omega)]
  by_cases h5 : U / 8 / 8 / 8 / 8 < 8
  · rw [digs_small h5, show U / 32768 = 0 by omega, show U / 4096 % 8 = U / 8 / 8 / 8 / 8 by omega, show U / 512 = U / 8 / 8 / 8 by omega, show U / 64 = U / 8 / 8 by omega, z]; rfl
  rw [digs_big (b := 8) (u := U / 8 / 8 / 8 / 8) (by omega) (by omega), digs_small (by omega), show U / 32768 = U / 8 / 8 / 8 / 8 / 8 by omega, show U / 4096 = U / 8 / 8 / 8 / 8 by omega, show U / 512 = U / 8 / 8 / 8 by omega, show U / 64 = U / 8 / 8 by omega]
  rfl
/-- The number that the first k of six digits write, and the digit behind them. -/
def av (U k : Nat) : Nat := U / 8 ^ (6 - k)
def dgt (U k : Nat) : Nat := U / 8 ^ (5 - k) % 8
theorem av_0 {U : Nat} (h : U < 65536) : av U 0 = 0 := by unfold av; simp only [Nat.sub_zero, Nat.reducePow]; omega
theorem av_6 (U : Nat) : av U 6 = U := by unfold av; simp
theorem av_step (U : Nat) {k : Nat} (hk : k < 6) : av U (k + 1) = 8 * av U k + dgt U k ∧ dgt U k < 8 := by
  unfold av dgt
  rcases (by omega : k = 0 ∨ k = 1 ∨ k = 2 ∨ k = 3 ∨ k = 4 ∨ k = 5) with rfl | rfl | rfl | rfl | rfl | rfl
  all_goals
    simp only [Nat.reduceSub, Nat.reducePow, Nat.reduceAdd, Nat.sub_zero]
    omega
theorem av_le (U k : Nat) : av U k ≤ U := Nat.div_le_self _ _
theorem ad_dig {a : Int} {U : Nat} (hU : a = (U : Int)) (h : U < 65536) {k : Nat} (hk : k < 6) : ((adT a).getD k 0).toNat = 48 + dgt U k := by
  subst hU
  unfold adT
  rw [show ((U : Int) % 65536).toNat = U by omega, pd6_six U h]
  unfold dgt
  rcases (by omega : k = 0 ∨ k = 1 ∨ k = 2 ∨ k = 3 ∨ k = 4 ∨ k = 5) with rfl | rfl | rfl | rfl | rfl | rfl
  · have := dg_nat ⟨U / 32768, by omega⟩
    simp only [List.getD, List.getElem?_cons_zero, Option.getD_some, Nat.reduceSub, Nat.reducePow, Nat.sub_zero] at this ⊢
    omega
  · have := dg_nat ⟨U / 4096 % 8, by omega⟩
    simpa [List.getD] using this
  · have := dg_nat ⟨U / 512 % 8, by omega⟩
    simpa [List.getD] using this
  · have := dg_nat ⟨U / 64 % 8, by omega⟩
    simpa [List.getD] using this
  · have := dg_nat ⟨U / 8 % 8, by omega⟩
    simpa [List.getD] using this
  · have := dg_nat ⟨U % 8, by omega⟩
    simpa [List.getD] using this

end Go.Proofs.YtipaednpelapgaaDoor

/-
  Plain: valid instructions at one address that have the same text are equal.
-/
namespace Go.Proofs.YtipaednpelapgaaDoor
set_option linter.unusedSimpArgs false
set_option linter.unusedVariables false
set_option maxHeartbeats 8000000
set_option maxRecDepth 100000

/-! ### Texts cut in two -/
theorem tw_split {P : UInt8 → Bool} : ∀ (a a' : List UInt8) {b b' : List UInt8}, (∀ c ∈ a, P c = true) → (∀ c, b.head? = some c → P c = false) → (∀ c ∈ a', P c = true) → (∀ c, b'.head? = some c → P c = false) → a ++ b = a' ++ b' → a = a' ∧ b = b'
  | [], [], _, _, _, _, _, _, h => ⟨rfl, h⟩
  | [], c :: a', b, b', _, hb, ha', _, h => by
    have h1 : b = c :: (a' ++ b') := h
    have := hb c (by rw [h1]; rfl)
    rw [ha' c (by simp)] at this
    cases this
  | c :: a, [], b, b', ha, _, _, hb', h => by
    have h1 : c :: (a ++ b) = b' := h
    have := hb' c (by rw [← h1]; rfl)
    rw [ha c (by simp)] at this
    cases this
  | c :: a, d :: a', b, b', ha, hb, ha', hb', h => by
    have h1 : c :: (a ++ b) = d :: (a' ++ b') := h
    rw [List.cons.injEq] at h1
    obtain ⟨e1, e2⟩ := tw_split a a' (fun x hx => ha x (by simp [hx])) hb (fun x hx => ha' x (by simp [hx])) hb' h1.2
    rw [h1.1, e1]
    exact ⟨rfl, e2⟩

/-! ### Numbers -/
def dv (l : List UInt8) : Nat := l.foldl (fun a c => 8 * a + (c.toNat - 48)) 0
theorem dv_snoc (l : List UInt8) (c : UInt8) : dv (l ++ [c]) = 8 * dv l + (c.toNat - 48) := by unfold dv; rw [List.foldl_append]; rfl
theorem dv_digs : ∀ u : Nat, dv (digs 8 u) = u := by
  intro u
  induction u using Nat.strongRecOn with
  | ind u ih =>
    by_cases h : u < 8
    · rw [digs_small h]
      have := dg_nat ⟨u, h⟩
      simp only at this
      show 8 * 0 + ((dg u).toNat - 48) = u
      omega
    · rw [digs_big (by omega) (by omega), dv_snoc, ih (u / 8) (by omega)]
      have := dg_nat ⟨u % 8, by omega⟩
      simp only at this
      omega
theorem digs_q : ∀ u : Nat, ∀ c ∈ digs 8 u, 48 ≤ c.toNat ∧ c.toNat ≤ 55 := by
  intro u
  induction u using Nat.strongRecOn with
  | ind u ih =>
    intro c hc
    by_cases h : u < 8
    · rw [digs_small h] at hc
      have := dg_nat ⟨u, h⟩
      simp only [List.mem_singleton] at hc this
      subst hc
      omega
    · rw [digs_big (by omega) (by omega), List.mem_append] at hc
      rcases hc with hc | hc
      · exact ih (u / 8) (by omega) c hc
      · have := dg_nat ⟨u % 8, by omega⟩
        simp only [List.mem_singleton] at hc this
        subst hc
        omega
def nv (l : List UInt8) : Nat := if l.length ≤ 1 then dv l else dv (l.drop 2)
theorem nv_nu (n : Int) : (nv (nuT n) : Int) = n % 65536 := by
  unfold nuT nv
  split
  · rename_i h
    have hs : (n % 65536).toNat < 8 := by omega
    have e : (digs 8 (n % 65536).toNat).length ≤ 1 := by rw [digs_small hs]; simp
    rw [if_pos e, dv_digs]
    omega
  · have := digs_pos 8 (n % 65536).toNat
    rw [if_neg (by simp only [List.length_cons]; omega)]
    simp only [List.drop_succ_cons, List.drop_zero]
    rw [dv_digs]
    omega
theorem nu_inj {u v : Int} (h : nuT u = nuT v) : u % 65536 = v % 65536 := by rw [← nv_nu, ← nv_nu, h]
def isQ (c : UInt8) : Bool := decide ((48 ≤ c.toNat ∧ c.toNat ≤ 55) ∨ c.toNat = 111)
theorem nu_q (n : Int) : ∀ c ∈ nuT n, isQ c = true := by
  intro c hc
  unfold nuT at hc
  unfold isQ
  rw [decide_eq_true_eq]
  split at hc
  · exact Or.inl (digs_q _ c hc)
  · simp only [List.mem_cons] at hc
    rcases hc with rfl | rfl | hc
    · decide
    · decide
    · exact Or.inl (digs_q _ c hc)
theorem nu_ne (n : Int) : nuT n ≠ [] := by
  unfold nuT
  split
  · have := digs_pos 8 (n % 65536).toNat
    exact List.length_pos_iff.1 this
  · simp

/-! ### Operands -/
def pr (m r : Int) : List UInt8 := if m = 7 ∨ m = 5 then [64] else if m = 3 then (if r = 7 then [64, 35] else [64]) else if m = 2 ∧ r = 7 then [35] else []
def nz (m r x nx : Int) : List UInt8 := if m = 6 ∨ m = 7 then (if r = 7 then nuT (x + nx) else nuT x) else if (m = 2 ∨ m = 3) ∧ r = 7 then nuT x else []
def sf (m r : Int) : List UInt8 := if m = 0 then rgT r else if m = 1 then 40 :: rgT r ++ [41] else if m = 2 ∨ m = 3 then (if r = 7 then [] else 40 :: rgT r ++ [41, 43]) else if m = 4 ∨ m = 5 then 45 :: 40 :: rgT r ++ [41] else (if r = 7 then [] else 40 :: rgT r ++ [41])
theorem op_split {m r x nx : Int} (hv : vdR m r x = true) : opT m r x nx = pr m r ++ (nz m r x nx ++ sf m r) := by
  obtain ⟨⟨m0, m1, r0, r1, x0, x1⟩, _⟩ := vd_parts hv
  rw [opT_all m r x nx (rgT r) (nuT x) (nuT (x + nx)) rfl rfl rfl hv]
  unfold pr nz sf dfR
  generalize nuT x = X
  generalize nuT (x + nx) = Y
  generalize rgT r = G
  by_cases hr : r = 7
  · subst hr
    rcases (by omega : m = 0 ∨ m = 1 ∨ m = 2 ∨ m = 3 ∨ m = 4 ∨ m = 5 ∨ m = 6 ∨ m = 7) with rfl | rfl | rfl | rfl | rfl | rfl | rfl | rfl
    all_goals simp
  · rcases (by omega : m = 0 ∨ m = 1 ∨ m = 2 ∨ m = 3 ∨ m = 4 ∨ m = 5 ∨ m = 6 ∨ m = 7) with rfl | rfl | rfl | rfl | rfl | rfl | rfl | rfl
    all_goals simp [hr]
def isP (c : UInt8) : Bool := decide (c = 64 ∨ c = 35)
theorem pr_tab : ∀ m r : Fin 8, ((pr (m.val : Int) (r.val : Int)).all isP && (pr (m.val : Int) (r.val : Int)).all (fun c => !decide (c = 44)) && (sf (m.val : Int) (r.val : Int)).all (fun c => !decide (c = 44)) && (match (sf (m.val : Int) (r.val : Int)).head? with | some c => !isP c && !isQ c | none => true)) = true := by decide +kernel
theorem key_tab : ∀ m r m2 r2 : Fin 8, pr (m.val : Int) (r.val : Int) = pr (m2.val : Int) (r2.val : Int) → sf (m.val : Int) (r.val : Int) = sf (m2.val : Int) (r2.val : Int) → exR (m.val : Int) (r.val : Int) = exR (m2.val : Int) (r2.val : Int) → m = m2 ∧ r = r2 := by decide +kernel
theorem pr_facts {m r : Int} (h : 0 ≤ m ∧ m ≤ 7 ∧ 0 ≤ r ∧ r ≤ 7) : (∀ c ∈ pr m r, isP c = true) ∧ (∀ c ∈ pr m r, c ≠ 44) ∧ (∀ c ∈ sf m r, c ≠ 44) ∧ (∀ c, (sf m r).head? = some c → isP c = false ∧ isQ c = false) := by
  obtain ⟨M, rfl⟩ : ∃ M : Nat, m = (M : Int) := ⟨m.toNat, by omega⟩
  obtain ⟨R, rfl⟩ : ∃ R : Nat, r = (R : Int) := ⟨r.toNat, by omega⟩
  have ht := pr_tab ⟨M, by omega⟩ ⟨R, by omega⟩
  simp only [Bool.and_eq_true] at ht
  obtain ⟨⟨⟨h1, h2⟩, h3⟩, h4⟩ := ht
  rw [List.all_eq_true] at h1 h2 h3
  refine ⟨h1, fun c hc => by simpa using h2 c hc, fun c hc => by simpa using h3 c hc, fun c hc => ?_⟩
  rw [hc] at h4
  simpa using h4
theorem nz_ex (m r x nx : Int) : (nz m r x nx = [] ↔ exR m r = false) := by
  have h1 := nu_ne x
  have h2 := nu_ne (x + nx)
  unfold nz exR
  split
  · rename_i h
    rw [decide_eq_false_iff_not]
    have : ¬ ¬ (m = 6 ∨ m = 7 ∨ (m = 2 ∨ m = 3) ∧ r = 7) := fun k => k (by omega)
    simp only [this, iff_false]
    split <;> assumption
  · rename_i h
    split
    · rename_i k
      rw [decide_eq_false_iff_not]
      have : ¬ ¬ (m = 6 ∨ m = 7 ∨ (m = 2 ∨ m = 3) ∧ r = 7) := fun k' => k' (by omega)
      simp only [this, iff_false]
      assumption
    · rename_i k
      rw [decide_eq_false_iff_not]
      simp only [true_iff]
      omega
theorem nz_q (m r x nx : Int) : ∀ c ∈ nz m r x nx, isQ c = true := by
  unfold nz
  repeat' split
  all_goals first | exact nu_q _ | (intro c hc; simp at hc)
theorem q_p {c : UInt8} (h : isQ c = true) : isP c = false ∧ c ≠ 44 ∧ c ≠ 32 := by
  unfold isQ at h
  unfold isP
  rw [decide_eq_true_eq] at h
  rw [decide_eq_false_iff_not]
  refine ⟨?_, ?_, ?_⟩
  · rintro (rfl | rfl)
    · revert h; decide
    · revert h; decide
  · rintro rfl; revert h; decide
  · rintro rfl; revert h; decide
theorem op_no44 {m r x nx : Int} (hv : vdR m r x = true) : ∀ c ∈ opT m r x nx, c ≠ 44 := by
  obtain ⟨⟨m0, m1, r0, r1, x0, x1⟩, _⟩ := vd_parts hv
  obtain ⟨_, h2, h3, _⟩ := pr_facts ⟨m0, m1, r0, r1⟩
  intro c hc
  rw [op_split hv] at hc
  simp only [List.mem_append] at hc
  rcases hc with hc | hc | hc
  · exact h2 c hc
  · exact (q_p (nz_q m r x nx c hc)).2.1
  · exact h3 c hc
theorem op_inj {m r x u m2 r2 x2 v : Int} (hv : vdR m r x = true) (hw : vdR m2 r2 x2 = true) (h : opT m r x u = opT m2 r2 x2 v) : m = m2 ∧ r = r2 ∧ nz m r x u = nz m2 r2 x2 v := by
  obtain ⟨⟨m0, m1, r0, r1, x0, x1⟩, _⟩ := vd_parts hv
  obtain ⟨⟨n0, n1, s0, s1, y0, y1⟩, _⟩ := vd_parts hw
  obtain ⟨a1, _, _, a4⟩ := pr_facts ⟨m0, m1, r0, r1⟩
  obtain ⟨b1, _, _, b4⟩ := pr_facts ⟨n0, n1, s0, s1⟩
  have hd : ∀ (m r x u : Int), (∀ c, (sf m r).head? = some c → isP c = false ∧ isQ c = false) → ∀ c, (nz m r x u ++ sf m r).head? = some c → isP c = false := fun m r x u a c hc => by
    cases e : nz m r x u with
    | nil => rw [e] at hc; exact (a c hc).1
    | cons d t =>
      rw [e] at hc
      have : d = c := by simpa using hc
      subst this
      exact (q_p (nz_q m r x u d (by rw [e]; simp))).1
  rw [op_split hv, op_split hw] at h
  obtain ⟨e1, e2⟩ := tw_split (P := isP) _ _ a1 (hd m r x u a4) b1 (hd m2 r2 x2 v b4) h
  obtain ⟨e3, e4⟩ := tw_split (P := isQ) _ _ (nz_q m r x u) (fun c hc => (a4 c hc).2) (nz_q m2 r2 x2 v) (fun c hc => (b4 c hc).2) e2
  have e5 : exR m r = exR m2 r2 := by
    have k1 := nz_ex m r x u
    have k2 := nz_ex m2 r2 x2 v
    rw [e3] at k1
    cases h1 : exR m r with
    | false => rw [h1] at k1; exact (k2.1 (k1.2 rfl)).symm
    | true =>
      cases h2 : exR m2 r2 with
      | true => rfl
      | false => rw [h2] at k2; rw [k1.1 (k2.2 rfl)] at h1; cases h1
  obtain ⟨M, rfl⟩ : ∃ M : Nat, m = (M : Int) := ⟨m.toNat, by omega⟩
  obtain ⟨R, rfl⟩ : ∃ R : Nat, r = (R : Int) := ⟨r.toNat, by omega⟩
  obtain ⟨M2, rfl⟩ : ∃ M : Nat, m2 = (M : Int) := ⟨m2.toNat, by omega⟩
  obtain ⟨R2, rfl⟩ : ∃ R : Nat, r2 = (R : Int) := ⟨r2.toNat, by omega⟩
  have hk := key_tab ⟨M, by omega⟩ ⟨R, by omega⟩ ⟨M2, by omega⟩ ⟨R2, by omega⟩ e1 e4 e5
  have h1 := congrArg Fin.val hk.1
  have h2 := congrArg Fin.val hk.2
  simp only at h1 h2
  exact ⟨by rw [h1], by rw [h2], e3⟩
theorem op_same {m r x x2 u : Int} (hv : vdR m r x = true) (hw : vdR m r x2 = true) (h : nz m r x u = nz m r x2 u) : x = x2 := by
  obtain ⟨⟨m0, m1, r0, r1, x0, x1⟩, k1⟩ := vd_parts hv
  obtain ⟨⟨_, _, _, _, y0, y1⟩, k2⟩ := vd_parts hw
  cases hE : exR m r with
  | false =>
    have c1 : x = 0 := by
      unfold vdR at hv
      rw [show m % 8 = m by omega, show r % 8 = r by omega, hE] at hv
      simp only [Bool.or_false, Bool.and_eq_true, decide_eq_true_eq] at hv
      exact hv.2
    have c2 : x2 = 0 := by
      unfold vdR at hw
      rw [show m % 8 = m by omega, show r % 8 = r by omega, hE] at hw
      simp only [Bool.or_false, Bool.and_eq_true, decide_eq_true_eq] at hw
      exact hw.2
    rw [c1, c2]
  | true =>
    unfold exR at hE
    rw [decide_eq_true_eq] at hE
    unfold nz at h
    split at h
    · split at h
      · have := nu_inj h; omega
      · have := nu_inj h; omega
    · split at h
      · have := nu_inj h; omega
      · omega
theorem rg_tab : ∀ k j : Fin 8, rgT (k.val : Int) = rgT (j.val : Int) → k = j := by decide
theorem rg_44 : ∀ k : Fin 8, ∀ c ∈ rgT (k.val : Int), c ≠ 44 := by decide
theorem rg_inj {g h : Int} (hg : 0 ≤ g ∧ g ≤ 7) (hh : 0 ≤ h ∧ h ≤ 7) (e : rgT g = rgT h) : g = h := by
  obtain ⟨G, rfl⟩ : ∃ M : Nat, g = (M : Int) := ⟨g.toNat, by omega⟩
  obtain ⟨K, rfl⟩ : ∃ M : Nat, h = (M : Int) := ⟨h.toNat, by omega⟩
  have := congrArg Fin.val (rg_tab ⟨G, by omega⟩ ⟨K, by omega⟩ e)
  simp only at this
  rw [this]
theorem rg_no44 {g : Int} (hg : 0 ≤ g ∧ g ≤ 7) : ∀ c ∈ rgT g, c ≠ 44 := by
  obtain ⟨G, rfl⟩ : ∃ M : Nat, g = (M : Int) := ⟨g.toNat, by omega⟩
  exact rg_44 ⟨G, by omega⟩

/-! ### Mnemonics -/
theorem nm_hit : ∀ (k : Fin 57) (b : Bool), nmT (k.val : Int) b ≠ [] → bnT (nmT (k.val : Int) b) = some ((k.val : Int), b) := by decide +kernel
theorem nm_32 : ∀ (k : Fin 57) (b : Bool), ((nmT (k.val : Int) b).all (fun c => !decide (c = 32))) = true := by decide +kernel
theorem ab_tab : ∀ e ∈ abv, (e.1.all (fun c => !decide (c = 32)) && decide (e.2.1 = 53 ∨ e.2.1 = 54)) = true ∧ ∀ (k : Fin 57) (b : Bool), nmT (k.val : Int) b ≠ e.1 := by decide +kernel
theorem ab_inj : ∀ e ∈ abv, ∀ f ∈ abv, e.1 = f.1 → e.2 = f.2 := by decide
theorem tl_head (l : List (List UInt8)) : ∀ c, (tlT l).head? = some c → (!decide (c = 32)) = false := by
  intro c hc
  unfold tlT at hc
  split at hc
  · simp at hc
  · have : 32 = c := by simpa using hc
    subst this
    rfl
theorem tx_cases {i : In} (a : Int) (hv : vR i = true) : (∃ e ∈ abv, e.2.1 = i.o ∧ e.2.2 = i.n ∧ txT i a = e.1) ∨ txT i a = nmT i.o i.b ++ tlT (agT i a) := by
  unfold txT
  rw [hv, if_pos rfl]
  cases hA : abT i.o i.n with
  | some s =>
    left
    unfold abT at hA
    rw [Option.map_eq_some_iff] at hA
    obtain ⟨e, he, rfl⟩ := hA
    have h2 := List.find?_some he
    rw [decide_eq_true_eq] at h2
    exact ⟨e, List.mem_of_find?_eq_some he, h2.1, h2.2, rfl⟩
  | none => exact Or.inr rfl

/-! ### What the forms say -/
def hS (o : Int) : Bool := decide ((1 ≤ o ∧ o ≤ 10) ∨ o = 55)
def hD (o : Int) : Bool := decide ((1 ≤ o ∧ o ≤ 7) ∨ o = 11 ∨ (12 ≤ o ∧ o ≤ 25) ∨ o = 41 ∨ o = 42 ∨ o = 56)
def hG (o : Int) : Bool := decide ((8 ≤ o ∧ o ≤ 11) ∨ o = 42 ∨ o = 43 ∨ o = 44)
def hN (o : Int) : Bool := decide ((26 ≤ o ∧ o ≤ 40) ∨ o = 44 ∨ o = 45 ∨ o = 46 ∨ o = 53 ∨ o = 54)
theorem row_cls : ∀ k : Fin 57, (match formR (k.val : Int) with | some e => (decide (e.e1 = 0) == !hS (k.val : Int)) && (decide (e.e2 = 0) == !hD (k.val : Int)) && (hG (k.val : Int) || decide (takeR e.e3 e.e3 = 0)) && decide (takeR e.e3 e.e3 ≤ 7) && (hN (k.val : Int) || decide (e.e4 = 0 ∧ e.e5 = 0)) && decide (-128 ≤ e.e5 ∧ e.e5 + e.e4 ≤ 255) | none => true) = true := by decide +kernel
structure Sides (i : In) : Prop where
  s : if hS i.o = true then vdR i.m i.r i.x = true else i.m = 0 ∧ i.r = 0 ∧ i.x = 0
  d : if hD i.o = true then vdR i.p i.q i.y = true else i.p = 0 ∧ i.q = 0 ∧ i.y = 0
  g : 0 ≤ i.g ∧ i.g ≤ 7
  g0 : hG i.o = false → i.g = 0
  n : -128 ≤ i.n ∧ i.n ≤ 255
  n0 : hN i.o = false → i.n = 0
theorem sides {i : In} (hv : vR i = true) : Sides i := by
  have ho := (vR_op hv).1
  obtain ⟨o, b, m, r, x, p, q, y, g, n⟩ := i
  simp only at ho
  obtain ⟨K, rfl⟩ : ∃ K : Nat, o = (K : Int) := ⟨o.toNat, by omega⟩
  have hr := row_cls ⟨K, by omega⟩
  simp only at hr
  cases hf : formR (K : Int) with
  | none => rw [vR_none (i := ⟨K, b, m, r, x, p, q, y, g, n⟩) hf] at hv; cases hv
  | some e =>
    rw [vR_some (i := ⟨K, b, m, r, x, p, q, y, g, n⟩) hf] at hv
    rw [hf] at hr
    simp only [Bool.and_eq_true] at hv
    have h1 := hv.1
    unfold hoR at h1
    simp only [Bool.and_eq_true, decide_eq_true_eq] at h1
    simp only [Bool.and_eq_true, Bool.or_eq_true, decide_eq_true_eq, beq_iff_eq] at hr
    obtain ⟨⟨⟨⟨⟨⟨_, t1⟩, t2⟩, t3⟩, t4⟩, t5⟩, t6⟩ := h1
    obtain ⟨⟨⟨⟨⟨r1, r2⟩, r3⟩, r4⟩, r5⟩, r6⟩ := hr
    unfold hoO at t1 t2
    refine ⟨?_, ?_, ⟨t3, by simp only; omega⟩, fun h => ?_, ⟨by simp only; omega, by simp only; omega⟩, fun h => ?_⟩
    · simp only
      cases hs : hS (K : Int) with
      | true =>
        rw [hs] at r1
        rw [if_neg (by simpa using r1)] at t1
        rw [if_pos rfl]; exact t1
      | false =>
        rw [hs] at r1
        rw [if_pos (by simpa using r1)] at t1
        rw [if_neg (by decide)]; simpa using t1
    · simp only
      cases hs : hD (K : Int) with
      | true =>
        rw [hs] at r2
        rw [if_neg (by simpa using r2)] at t2
        rw [if_pos rfl]; exact t2
      | false =>
        rw [hs] at r2
        rw [if_pos (by simpa using r2)] at t2
        rw [if_neg (by decide)]; simpa using t2
    · simp only at h ⊢
      rw [h] at r3
      rcases r3 with r3 | r3
      · cases r3
      · omega
    · simp only at h ⊢
      rw [h] at r5
      rcases r5 with r5 | r5
      · cases r5
      · omega

/-! ### The same text -/
theorem src_eq {o : Int} {b b2 : Bool} {m r x p q y g n m2 r2 x2 p2 q2 y2 g2 n2 a : Int} (hi : vR ⟨o, b, m, r, x, p, q, y, g, n⟩ = true) (hj : vR ⟨o, b2, m2, r2, x2, p2, q2, y2, g2, n2⟩ = true) (ho : hS o = true)
    (h : srT ⟨o, b, m, r, x, p, q, y, g, n⟩ a = srT ⟨o, b2, m2, r2, x2, p2, q2, y2, g2, n2⟩ a) : m = m2 ∧ r = r2 ∧ x = x2 := by
  have s1 := (sides hi).s
  have s2 := (sides hj).s
  simp only at s1 s2
  rw [if_pos ho] at s1 s2
  obtain ⟨e1, e2, e3⟩ := op_inj s1 s2 h
  subst e1 e2
  exact ⟨rfl, rfl, op_same s1 s2 e3⟩
theorem dst_eq {o : Int} {b b2 : Bool} {m r x p q y g n x2 p2 q2 y2 g2 n2 a : Int} (hi : vR ⟨o, b, m, r, x, p, q, y, g, n⟩ = true) (hj : vR ⟨o, b2, m, r, x2, p2, q2, y2, g2, n2⟩ = true) (ho : hD o = true)
    (h : dsT ⟨o, b, m, r, x, p, q, y, g, n⟩ a = dsT ⟨o, b2, m, r, x2, p2, q2, y2, g2, n2⟩ a) : p = p2 ∧ q = q2 ∧ y = y2 := by
  have s1 := (sides hi).d
  have s2 := (sides hj).d
  simp only at s1 s2
  rw [if_pos ho] at s1 s2
  obtain ⟨e1, e2, e3⟩ := op_inj s1 s2 h
  subst e1 e2
  have el : lenR ⟨o, b, m, r, x, p, q, y, g, n⟩ = lenR ⟨o, b2, m, r, x2, p, q, y2, g2, n2⟩ := by
    unfold lenR
    rw [hi, hj]
    rfl
  rw [el] at e3
  exact ⟨rfl, rfl, op_same s1 s2 e3⟩
theorem no44 {l : List UInt8} (h : ∀ c ∈ l, c ≠ 44) : ∀ c ∈ l, (!decide (c = 44)) = true := fun c hc => by simp [h c hc]
theorem pair_eq {s s2 d d2 : List UInt8} (h1 : ∀ c ∈ s, c ≠ 44) (h2 : ∀ c ∈ s2, c ≠ 44) (h : s ++ 44 :: 32 :: d = s2 ++ 44 :: 32 :: d2) : s = s2 ∧ d = d2 := by
  have hh : ∀ (d : List UInt8) c, (44 :: 32 :: d).head? = some c → (!decide (c = 44)) = false := fun d c hc => by
    have : 44 = c := by simpa using hc
    subst this
    rfl
  obtain ⟨e1, e2⟩ := tw_split (P := fun c => !decide (c = 44)) s s2 (no44 h1) (hh d) (no44 h2) (hh d2) h
  simp only [List.cons.injEq, true_and] at e2
  exact ⟨e1, e2⟩
theorem same_args {o : Int} {b : Bool} {m r x p q y g n m2 r2 x2 p2 q2 y2 g2 n2 a : Int} (hi : vR ⟨o, b, m, r, x, p, q, y, g, n⟩ = true) (hj : vR ⟨o, b, m2, r2, x2, p2, q2, y2, g2, n2⟩ = true)
    (h : tlT (agT ⟨o, b, m, r, x, p, q, y, g, n⟩ a) = tlT (agT ⟨o, b, m2, r2, x2, p2, q2, y2, g2, n2⟩ a)) : (⟨o, b, m, r, x, p, q, y, g, n⟩ : In) = ⟨o, b, m2, r2, x2, p2, q2, y2, g2, n2⟩ := by
  have ho := (vR_op hi).1
  obtain ⟨s1, d1, g1, z1, n1, w1⟩ := sides hi
  obtain ⟨s2, d2, g2', z2, n2', w2⟩ := sides hj
  simp only at ho s1 d1 g1 z1 n1 w1 s2 d2 g2' z2 n2' w2
  rcases (by omega : (1 ≤ o ∧ o ≤ 7) ∨ (8 ≤ o ∧ o ≤ 10) ∨ (o = 11 ∨ o = 42) ∨ ((12 ≤ o ∧ o ≤ 25) ∨ o = 41 ∨ o = 56) ∨ o = 55 ∨ o = 43 ∨ (26 ≤ o ∧ o ≤ 40) ∨ o = 44 ∨ (o = 45 ∨ o = 46 ∨ o = 53 ∨ o = 54) ∨ (47 ≤ o ∧ o ≤ 52)) with c | c | c | c | c | c | c | c | c | c
  · have fS : hS o = true := by unfold hS; simp; omega
    have fD : hD o = true := by unfold hD; simp; omega
    have fG : hG o = false := by unfold hG; simp; omega
    have fN : hN o = false := by unfold hN; simp; omega
    rw [fS] at s1 s2
    rw [fD] at d1 d2
    rw [if_pos rfl] at s1 s2
    rw [if_pos rfl] at d1 d2
    have a1 : agT ⟨o, b, m, r, x, p, q, y, g, n⟩ a = [srT ⟨o, b, m, r, x, p, q, y, g, n⟩ a, dsT ⟨o, b, m, r, x, p, q, y, g, n⟩ a] := by unfold agT; dsimp only; rw [if_pos (by omega)]
    have a2 : agT ⟨o, b, m2, r2, x2, p2, q2, y2, g2, n2⟩ a = [srT ⟨o, b, m2, r2, x2, p2, q2, y2, g2, n2⟩ a, dsT ⟨o, b, m2, r2, x2, p2, q2, y2, g2, n2⟩ a] := by unfold agT; dsimp only; rw [if_pos (by omega)]
    rw [a1, a2] at h
    clear a1 a2
    simp only [tlT, joT, List.length_cons, List.length_nil, Nat.add_one_ne_zero, Nat.zero_add, if_false, reduceIte, List.cons.injEq, true_and] at h
    obtain ⟨h1, h2⟩ := pair_eq (op_no44 s1) (op_no44 s2) h
    obtain ⟨rfl, rfl, rfl⟩ := src_eq hi hj fS h1
    obtain ⟨rfl, rfl, rfl⟩ := dst_eq hi hj fD h2
    have q1 := z1 fG
    have q2 := z2 fG
    subst q1 q2
    have q3 := w1 fN
    have q4 := w2 fN
    subst q3 q4
    rfl
  · have fS : hS o = true := by unfold hS; simp; omega
    have fD : hD o = false := by unfold hD; simp; omega
    have fG : hG o = true := by unfold hG; simp; omega
    have fN : hN o = false := by unfold hN; simp; omega
    rw [fS] at s1 s2
    rw [fD] at d1 d2
    rw [if_pos rfl] at s1 s2
    rw [if_neg (by decide)] at d1 d2
    have a1 : agT ⟨o, b, m, r, x, p, q, y, g, n⟩ a = [srT ⟨o, b, m, r, x, p, q, y, g, n⟩ a, rgT g] := by unfold agT; dsimp only; rw [if_neg (by omega), if_pos (by omega)]
    have a2 : agT ⟨o, b, m2, r2, x2, p2, q2, y2, g2, n2⟩ a = [srT ⟨o, b, m2, r2, x2, p2, q2, y2, g2, n2⟩ a, rgT g2] := by unfold agT; dsimp only; rw [if_neg (by omega), if_pos (by omega)]
    rw [a1, a2] at h
    clear a1 a2
    simp only [tlT, joT, List.length_cons, List.length_nil, Nat.add_one_ne_zero, Nat.zero_add, if_false, reduceIte, List.cons.injEq, true_and] at h
    obtain ⟨h1, h2⟩ := pair_eq (op_no44 s1) (op_no44 s2) h
    obtain ⟨rfl, rfl, rfl⟩ := src_eq hi hj fS h1
    obtain rfl := rg_inj g1 g2' h2
    obtain ⟨rfl, rfl, rfl⟩ := d1
    obtain ⟨rfl, rfl, rfl⟩ := d2
    have q3 := w1 fN
    have q4 := w2 fN
    subst q3 q4
    rfl
  · have fS : hS o = false := by unfold hS; simp; omega
    have fD : hD o = true := by unfold hD; simp; omega
    have fG : hG o = true := by unfold hG; simp; omega
    have fN : hN o = false := by unfold hN; simp; omega
    rw [fS] at s1 s2
    rw [fD] at d1 d2
    rw [if_neg (by decide)] at s1 s2
    rw [if_pos rfl] at d1 d2
    have a1 : agT ⟨o, b, m, r, x, p, q, y, g, n⟩ a = [rgT g, dsT ⟨o, b, m, r, x, p, q, y, g, n⟩ a] := by unfold agT; dsimp only; rw [if_neg (by omega), if_neg (by omega), if_pos (by omega)]
    have a2 : agT ⟨o, b, m2, r2, x2, p2, q2, y2, g2, n2⟩ a = [rgT g2, dsT ⟨o, b, m2, r2, x2, p2, q2, y2, g2, n2⟩ a] := by unfold agT; dsimp only; rw [if_neg (by omega), if_neg (by omega), if_pos (by omega)]
    rw [a1, a2] at h
    clear a1 a2
    simp only [tlT, joT, List.length_cons, List.length_nil, Nat.add_one_ne_zero, Nat.zero_add, if_false, reduceIte, List.cons.injEq, true_and] at h
    obtain ⟨h1, h2⟩ := pair_eq (rg_no44 g1) (rg_no44 g2') h
    obtain ⟨rfl, rfl, rfl⟩ := s1
    obtain ⟨rfl, rfl, rfl⟩ := s2
    obtain rfl := rg_inj g1 g2' h1
    obtain ⟨rfl, rfl, rfl⟩ := dst_eq hi hj fD h2
    have q3 := w1 fN
    have q4 := w2 fN
    subst q3 q4
    rfl
  · have fS : hS o = false := by unfold hS; simp; omega
    have fD : hD o = true := by unfold hD; simp; omega
    have fG : hG o = false := by unfold hG; simp; omega
    have fN : hN o = false := by unfold hN; simp; omega
    rw [fS] at s1 s2
    rw [fD] at d1 d2
    rw [if_neg (by decide)] at s1 s2
    rw [if_pos rfl] at d1 d2
    have a1 : agT ⟨o, b, m, r, x, p, q, y, g, n⟩ a = [dsT ⟨o, b, m, r, x, p, q, y, g, n⟩ a] := by unfold agT; dsimp only; rw [if_neg (by omega), if_neg (by omega), if_neg (by omega), if_pos (by omega)]
    have a2 : agT ⟨o, b, m2, r2, x2, p2, q2, y2, g2, n2⟩ a = [dsT ⟨o, b, m2, r2, x2, p2, q2, y2, g2, n2⟩ a] := by unfold agT; dsimp only; rw [if_neg (by omega), if_neg (by omega), if_neg (by omega), if_pos (by omega)]
    rw [a1, a2] at h
    clear a1 a2
    simp only [tlT, joT, List.length_cons, List.length_nil, Nat.add_one_ne_zero, Nat.zero_add, if_false, reduceIte, List.cons.injEq, true_and] at h
    obtain ⟨rfl, rfl, rfl⟩ := s1
    obtain ⟨rfl, rfl, rfl⟩ := s2
    obtain ⟨rfl, rfl, rfl⟩ := dst_eq hi hj fD h
    have q1 := z1 fG
    have q2 := z2 fG
    subst q1 q2
    have q3 := w1 fN
    have q4 := w2 fN
    subst q3 q4
    rfl
  · have fS : hS o = true := by unfold hS; simp; omega
    have fD : hD o = false := by unfold hD; simp; omega
    have fG : hG o = false := by unfold hG; simp; omega
    have fN : hN o = false := by unfold hN; simp; omega
    rw [fS] at s1 s2
    rw [fD] at d1 d2
    rw [if_pos rfl] at s1 s2
    rw [if_neg (by decide)] at d1 d2
    have a1 : agT ⟨o, b, m, r, x, p, q, y, g, n⟩ a = [srT ⟨o, b, m, r, x, p, q, y, g, n⟩ a] := by unfold agT; dsimp only; rw [if_neg (by omega), if_neg (by omega), if_neg (by omega), if_neg (by omega), if_pos (by omega)]
    have a2 : agT ⟨o, b, m2, r2, x2, p2, q2, y2, g2, n2⟩ a = [srT ⟨o, b, m2, r2, x2, p2, q2, y2, g2, n2⟩ a] := by unfold agT; dsimp only; rw [if_neg (by omega), if_neg (by omega), if_neg (by omega), if_neg (by omega), if_pos (by omega)]
    rw [a1, a2] at h
    clear a1 a2
    simp only [tlT, joT, List.length_cons, List.length_nil, Nat.add_one_ne_zero, Nat.zero_add, if_false, reduceIte, List.cons.injEq, true_and] at h
    obtain ⟨rfl, rfl, rfl⟩ := src_eq hi hj fS h
    obtain ⟨rfl, rfl, rfl⟩ := d1
    obtain ⟨rfl, rfl, rfl⟩ := d2
    have q1 := z1 fG
    have q2 := z2 fG
    subst q1 q2
    have q3 := w1 fN
    have q4 := w2 fN
    subst q3 q4
    rfl
  · have fS : hS o = false := by unfold hS; simp; omega
    have fD : hD o = false := by unfold hD; simp; omega
    have fG : hG o = true := by unfold hG; simp; omega
    have fN : hN o = false := by unfold hN; simp; omega
    rw [fS] at s1 s2
    rw [fD] at d1 d2
    rw [if_neg (by decide)] at s1 s2
    rw [if_neg (by decide)] at d1 d2
    have a1 : agT ⟨o, b, m, r, x, p, q, y, g, n⟩ a = [rgT g] := by unfold agT; dsimp only; rw [if_neg (by omega), if_neg (by omega), if_neg (by omega), if_neg (by omega), if_neg (by omega), if_pos (by omega)]
    have a2 : agT ⟨o, b, m2, r2, x2, p2, q2, y2, g2, n2⟩ a = [rgT g2] := by unfold agT; dsimp only; rw [if_neg (by omega), if_neg (by omega), if_neg (by omega), if_neg (by omega), if_neg (by omega), if_pos (by omega)]
    rw [a1, a2] at h
    clear a1 a2
    simp only [tlT, joT, List.length_cons, List.length_nil, Nat.add_one_ne_zero, Nat.zero_add, if_false, reduceIte, List.cons.injEq, true_and] at h
    obtain ⟨rfl, rfl, rfl⟩ := s1
    obtain ⟨rfl, rfl, rfl⟩ := s2
    obtain rfl := rg_inj g1 g2' h
    obtain ⟨rfl, rfl, rfl⟩ := d1
    obtain ⟨rfl, rfl, rfl⟩ := d2
    have q3 := w1 fN
    have q4 := w2 fN
    subst q3 q4
    rfl
  · have fS : hS o = false := by unfold hS; simp; omega
    have fD : hD o = false := by unfold hD; simp; omega
    have fG : hG o = false := by unfold hG; simp; omega
    have fN : hN o = true := by unfold hN; simp; omega
    rw [fS] at s1 s2
    rw [fD] at d1 d2
    rw [if_neg (by decide)] at s1 s2
    rw [if_neg (by decide)] at d1 d2
    have a1 : agT ⟨o, b, m, r, x, p, q, y, g, n⟩ a = [tgT a n] := by unfold agT; dsimp only; rw [if_neg (by omega), if_neg (by omega), if_neg (by omega), if_neg (by omega), if_neg (by omega), if_neg (by omega), if_pos (by omega)]
    have a2 : agT ⟨o, b, m2, r2, x2, p2, q2, y2, g2, n2⟩ a = [tgT a n2] := by unfold agT; dsimp only; rw [if_neg (by omega), if_neg (by omega), if_neg (by omega), if_neg (by omega), if_neg (by omega), if_neg (by omega), if_pos (by omega)]
    rw [a1, a2] at h
    clear a1 a2
    simp only [tlT, joT, List.length_cons, List.length_nil, Nat.add_one_ne_zero, Nat.zero_add, if_false, reduceIte, List.cons.injEq, true_and] at h
    obtain ⟨rfl, rfl, rfl⟩ := s1
    obtain ⟨rfl, rfl, rfl⟩ := s2
    have hz := nu_inj h
    obtain rfl : n = n2 := by omega
    obtain ⟨rfl, rfl, rfl⟩ := d1
    obtain ⟨rfl, rfl, rfl⟩ := d2
    have q1 := z1 fG
    have q2 := z2 fG
    subst q1 q2
    rfl
  · have fS : hS o = false := by unfold hS; simp; omega
    have fD : hD o = false := by unfold hD; simp; omega
    have fG : hG o = true := by unfold hG; simp; omega
    have fN : hN o = true := by unfold hN; simp; omega
    rw [fS] at s1 s2
    rw [fD] at d1 d2
    rw [if_neg (by decide)] at s1 s2
    rw [if_neg (by decide)] at d1 d2
    have a1 : agT ⟨o, b, m, r, x, p, q, y, g, n⟩ a = [rgT g, tgT a (-n)] := by unfold agT; dsimp only; rw [if_neg (by omega), if_neg (by omega), if_neg (by omega), if_neg (by omega), if_neg (by omega), if_neg (by omega), if_neg (by omega), if_pos (by omega)]
    have a2 : agT ⟨o, b, m2, r2, x2, p2, q2, y2, g2, n2⟩ a = [rgT g2, tgT a (-n2)] := by unfold agT; dsimp only; rw [if_neg (by omega), if_neg (by omega), if_neg (by omega), if_neg (by omega), if_neg (by omega), if_neg (by omega), if_neg (by omega), if_pos (by omega)]
    rw [a1, a2] at h
    clear a1 a2
    simp only [tlT, joT, List.length_cons, List.length_nil, Nat.add_one_ne_zero, Nat.zero_add, if_false, reduceIte, List.cons.injEq, true_and] at h
    obtain ⟨h1, h2⟩ := pair_eq (rg_no44 g1) (rg_no44 g2') h
    obtain ⟨rfl, rfl, rfl⟩ := s1
    obtain ⟨rfl, rfl, rfl⟩ := s2
    obtain rfl := rg_inj g1 g2' h1
    have hz := nu_inj h2
    obtain rfl : n = n2 := by omega
    obtain ⟨rfl, rfl, rfl⟩ := d1
    obtain ⟨rfl, rfl, rfl⟩ := d2
    rfl
  · have fS : hS o = false := by unfold hS; simp; omega
    have fD : hD o = false := by unfold hD; simp; omega
    have fG : hG o = false := by unfold hG; simp; omega
    have fN : hN o = true := by unfold hN; simp; omega
    rw [fS] at s1 s2
    rw [fD] at d1 d2
    rw [if_neg (by decide)] at s1 s2
    rw [if_neg (by decide)] at d1 d2
    have a1 : agT ⟨o, b, m, r, x, p, q, y, g, n⟩ a = [nuT n] := by unfold agT; dsimp only; rw [if_neg (by omega), if_neg (by omega), if_neg (by omega), if_neg (by omega), if_neg (by omega), if_neg (by omega), if_neg (by omega), if_neg (by omega), if_pos (by omega)]
    have a2 : agT ⟨o, b, m2, r2, x2, p2, q2, y2, g2, n2⟩ a = [nuT n2] := by unfold agT; dsimp only; rw [if_neg (by omega), if_neg (by omega), if_neg (by omega), if_neg (by omega), if_neg (by omega), if_neg (by omega), if_neg (by omega), if_neg (by omega), if_pos (by omega)]
    rw [a1, a2] at h
    clear a1 a2
    simp only [tlT, joT, List.length_cons, List.length_nil, Nat.add_one_ne_zero, Nat.zero_add, if_false, reduceIte, List.cons.injEq, true_and] at h
    obtain ⟨rfl, rfl, rfl⟩ := s1
    obtain ⟨rfl, rfl, rfl⟩ := s2
    have hz := nu_inj h
    obtain rfl : n = n2 := by omega
    obtain ⟨rfl, rfl, rfl⟩ := d1
    obtain ⟨rfl, rfl, rfl⟩ := d2
    have q1 := z1 fG
    have q2 := z2 fG
    subst q1 q2
    rfl
  · have fS : hS o = false := by unfold hS; simp; omega
    have fD : hD o = false := by unfold hD; simp; omega
    have fG : hG o = false := by unfold hG; simp; omega
    have fN : hN o = false := by unfold hN; simp; omega
    rw [fS] at s1 s2
    rw [fD] at d1 d2
    rw [if_neg (by decide)] at s1 s2
    rw [if_neg (by decide)] at d1 d2
    have a1 : agT ⟨o, b, m, r, x, p, q, y, g, n⟩ a = [] := by unfold agT; dsimp only; rw [if_neg (by omega), if_neg (by omega), if_neg (by omega), if_neg (by omega), if_neg (by omega), if_neg (by omega), if_neg (by omega), if_neg (by omega), if_neg (by omega)]
    have a2 : agT ⟨o, b, m2, r2, x2, p2, q2, y2, g2, n2⟩ a = [] := by unfold agT; dsimp only; rw [if_neg (by omega), if_neg (by omega), if_neg (by omega), if_neg (by omega), if_neg (by omega), if_neg (by omega), if_neg (by omega), if_neg (by omega), if_neg (by omega)]
    rw [a1, a2] at h
    clear a1 a2
    obtain ⟨rfl, rfl, rfl⟩ := s1
    obtain ⟨rfl, rfl, rfl⟩ := s2
    obtain ⟨rfl, rfl, rfl⟩ := d1
    obtain ⟨rfl, rfl, rfl⟩ := d2
    have q1 := z1 fG
    have q2 := z2 fG
    subst q1 q2
    have q3 := w1 fN
    have q4 := w2 fN
    subst q3 q4
    rfl
theorem tx_inj {i j : In} (a : Int) (hi : vR i = true) (hj : vR j = true) (h : txT i a = txT j a) : i = j := by
  have oi := vR_op hi
  have oj := vR_op hj
  have nm32 : ∀ i : In, 1 ≤ i.o ∧ i.o ≤ 56 → ∀ c ∈ nmT i.o i.b, (!decide (c = 32)) = true := fun i ho => by
    obtain ⟨K, hK⟩ : ∃ K : Nat, i.o = (K : Int) := ⟨i.o.toNat, by omega⟩
    rw [hK]
    exact List.all_eq_true.1 (nm_32 ⟨K, by omega⟩ i.b)
  have noab : ∀ i : In, 1 ≤ i.o ∧ i.o ≤ 56 → ∀ e ∈ abv, e.1 = nmT i.o i.b ++ tlT (agT i a) → False := fun i ho e he h => by
    have h32 := List.all_eq_true.1 ((Bool.and_eq_true _ _).mp (ab_tab e he).1).1
    have h2 : e.1 ++ [] = nmT i.o i.b ++ tlT (agT i a) := by rw [List.append_nil]; exact h
    obtain ⟨e1, _⟩ := tw_split (P := fun c => !decide (c = 32)) _ _ h32 (fun c hc => by simp at hc) (nm32 i ho) (tl_head _) h2
    obtain ⟨K, hK⟩ : ∃ K : Nat, i.o = (K : Int) := ⟨i.o.toNat, by omega⟩
    rw [hK] at e1
    exact (ab_tab e he).2 ⟨K, by omega⟩ i.b e1.symm
  rcases tx_cases a hi with ⟨e, he, e1, e2, e3⟩ | e3
  · rcases tx_cases a hj with ⟨f, hf, f1, f2, f3⟩ | f3
    · have hef := ab_inj e he f hf (by rw [← e3, ← f3, h])
      have ho : i.o = j.o := by rw [← e1, ← f1, hef]
      have hn : i.n = j.n := by rw [← e2, ← f2, hef]
      have h53 := (Bool.and_eq_true _ _).mp (ab_tab e he).1
      have h53' : i.o = 53 ∨ i.o = 54 := by have := h53.2; rw [decide_eq_true_eq, e1] at this; exact this
      obtain ⟨s1, d1, _, z1, _, _⟩ := sides hi
      obtain ⟨s2, d2, _, z2, _, _⟩ := sides hj
      obtain ⟨o, b, m, r, x, p, q, y, g, n⟩ := i
      obtain ⟨o2, b2, m2, r2, x2, p2, q2, y2, g2, n2⟩ := j
      simp only at ho hn h53' s1 d1 z1 s2 d2 z2 oi oj
      subst ho hn
      have fS : hS o = false := by unfold hS; simp; omega
      have fD : hD o = false := by unfold hD; simp; omega
      have fG : hG o = false := by unfold hG; simp; omega
      have fB : byB o = false := by unfold byB; simp; omega
      rw [fS] at s1 s2
      rw [fD] at d1 d2
      rw [if_neg (by decide)] at s1 s2 d1 d2
      obtain ⟨rfl, rfl, rfl⟩ := s1
      obtain ⟨rfl, rfl, rfl⟩ := s2
      obtain ⟨rfl, rfl, rfl⟩ := d1
      obtain ⟨rfl, rfl, rfl⟩ := d2
      have q1 := z1 fG
      have q2 := z2 fG
      subst q1 q2
      have b1 : b = false := by cases b with | false => rfl | true => have := oi.2 rfl; rw [fB] at this; cases this
      have b3 : b2 = false := by cases b2 with | false => rfl | true => have := oj.2 rfl; rw [fB] at this; cases this
      subst b1 b3
      rfl
    · exact (noab j oj.1 e he (by rw [← e3, h, f3])).elim
  · rcases tx_cases a hj with ⟨f, hf, f1, f2, f3⟩ | f3
    · exact (noab i oi.1 f hf (by rw [← f3, ← h, e3])).elim
    · rw [e3, f3] at h
      obtain ⟨e1, e2⟩ := tw_split (P := fun c => !decide (c = 32)) _ _ (nm32 i oi.1) (tl_head _) (nm32 j oj.1) (tl_head _) h
      have hne := nm_ne oi.1 oi.2
      obtain ⟨o, b, m, r, x, p, q, y, g, n⟩ := i
      obtain ⟨o2, b2, m2, r2, x2, p2, q2, y2, g2, n2⟩ := j
      simp only at e1 oi oj hne
      have hkey : o = o2 ∧ b = b2 := by
        obtain ⟨K, rfl⟩ : ∃ K : Nat, o = (K : Int) := ⟨o.toNat, by omega⟩
        obtain ⟨K2, rfl⟩ : ∃ K : Nat, o2 = (K : Int) := ⟨o2.toNat, by omega⟩
        have h1 := nm_hit ⟨K, by omega⟩ b hne
        have h2 := nm_hit ⟨K2, by omega⟩ b2 (by simp only; rw [← e1]; exact hne)
        simp only at h1 h2
        rw [e1, h2] at h1
        simp only [Option.some.injEq, Prod.mk.injEq] at h1
        exact ⟨h1.1.symm, h1.2.symm⟩
      obtain ⟨rfl, rfl⟩ := hkey
      exact same_args hi hj e2

end Go.Proofs.YtipaednpelapgaaDoor
