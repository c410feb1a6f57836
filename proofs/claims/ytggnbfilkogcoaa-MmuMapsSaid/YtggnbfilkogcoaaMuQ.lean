/-
  The unit after Map, page by page, plain. No condition.
-/
import Derived.Test.YtggnbfilkogcoaaMuH
namespace Go.Proofs.Ytggnbfilkogcoaa
set_option linter.unusedSimpArgs false
set_option linter.unusedVariables false

/-- The page number i of a range. -/
def mpg (base blocks acc : Int) (i : Nat) : Pg := if 128 * (i : Int) < blocks then ⟨base + 128 * i, min (blocks - 128 * i) 128, acc, false⟩ else Pg.z
/-- The unit in which the first i pages of a mode are those of a range, and the others of the mode zero. -/
def Un.mapU (u : Un) (m : Nat) (acc base blocks : Int) (i : Nat) : Un :=
  { u with pg := (List.range 16).map fun k => if 8 * m ≤ k ∧ k < 8 * m + 8 then (if k - 8 * m < i then mpg base blocks acc (k - 8 * m) else Pg.z) else u.pgAt k }
theorem Un.mapU_ok (u : Un) (m : Nat) (acc base blocks : Int) (i : Nat) : (u.mapU m acc base blocks i).ok := by unfold Un.ok Un.mapU; simp
theorem Un.mapU_at (u : Un) (m : Nat) (acc base blocks : Int) (i k : Nat) (hk : k < 16) : (u.mapU m acc base blocks i).pg[k]? = some (if 8 * m ≤ k ∧ k < 8 * m + 8 then (if k - 8 * m < i then mpg base blocks acc (k - 8 * m) else Pg.z) else u.pgAt k) := by
  unfold Un.mapU
  simp only [List.getElem?_map, List.getElem?_range hk, Option.map_some]
theorem Un.ext16 {u v : Un} (hu : u.ok) (hv : v.ok) (h0 : u.on = v.on) (h1 : u.st = v.st) (h2 : u.ad = v.ad) (h : ∀ k, k < 16 → u.pg[k]? = v.pg[k]?) : u = v := by
  obtain ⟨a, l, b, c⟩ := u
  obtain ⟨a', l', b', c'⟩ := v
  unfold Un.ok at hu hv
  simp only at *
  subst h0 h1 h2
  have e : l = l' := by
    apply List.ext_getElem?
    intro k
    by_cases hk : k < 16
    · exact h k hk
    · rw [List.getElem?_eq_none (by omega), List.getElem?_eq_none (by omega)]
  rw [e]
theorem Un.withP_get {u : Un} (hu : u.ok) (j : Nat) (g : Pg) (k : Nat) (hk : k < 16) : (u.withP j g).pg[k]? = if j = k then some g else u.pg[k]? := by
  have hl : u.pg.length = 16 := hu
  unfold Un.withP
  simp only [List.getElem?_set]
  by_cases h : j = k
  · rw [if_pos h, if_pos h, if_pos (by omega)]
  · rw [if_neg h, if_neg h]
theorem Un.mapU_step (u : Un) (m : Nat) (hm : m < 2) (acc base blocks : Int) (i : Nat) (hi : i < 8) (g : Pg) (hg : mpg base blocks acc i = g) : (u.mapU m acc base blocks i).withP (8 * m + i) g = u.mapU m acc base blocks (i + 1) := by
  have ho := Un.mapU_ok u m acc base blocks i
  refine Un.ext16 (Un.withP_ok ho _ _) (Un.mapU_ok u m acc base blocks (i + 1)) rfl rfl rfl (fun k hk => ?_)
  rw [Un.withP_get ho _ _ _ hk, Un.mapU_at _ _ _ _ _ _ _ hk, Un.mapU_at _ _ _ _ _ _ _ hk]
  by_cases h : 8 * m + i = k
  · rw [if_pos h, if_pos (by omega), if_pos (by omega), show k - 8 * m = i by omega, hg]
  · rw [if_neg h]
    by_cases h2 : 8 * m ≤ k ∧ k < 8 * m + 8
    · rw [if_pos h2, if_pos h2]
      by_cases h3 : k - 8 * m < i
      · rw [if_pos h3, if_pos (by omega)]
      · rw [if_neg h3, if_neg (by omega)]
    · rw [if_neg h2, if_neg h2]
theorem mpg_zero {base blocks acc : Int} {i : Nat} (h : blocks ≤ 128 * (i : Int)) : mpg base blocks acc i = Pg.z := by unfold mpg; rw [if_neg (by omega)]
theorem Un.mapU_end (u : Un) (m : Nat) (acc base blocks : Int) (i : Nat) (h : blocks ≤ 128 * (i : Int)) (h8 : i ≤ 8) : u.mapU m acc base blocks i = u.mapU m acc base blocks 8 := by
  refine Un.ext16 (Un.mapU_ok u m acc base blocks i) (Un.mapU_ok u m acc base blocks 8) rfl rfl rfl (fun k hk => ?_)
  rw [Un.mapU_at _ _ _ _ _ _ _ hk, Un.mapU_at _ _ _ _ _ _ _ hk]
  by_cases h2 : 8 * m ≤ k ∧ k < 8 * m + 8
  · rw [if_pos h2, if_pos h2]
    by_cases h3 : k - 8 * m < i
    · rw [if_pos h3, if_pos (by omega)]
    · rw [if_neg h3, if_pos (by omega), mpg_zero (by omega)]
  · rw [if_neg h2, if_neg h2]
/-- What is left of a range after i pages. -/
theorem mpg_next {base blocks acc : Int} {i n : Nat} : mpg (base + min blocks 128) (blocks - min blocks 128) acc i = mpg base blocks acc (i + 1) := by
  unfold mpg
  by_cases h : 128 * ((i + 1 : Nat) : Int) < blocks
  · rw [if_pos h, if_pos (by omega)]
    have e1 : base + min blocks 128 + 128 * (i : Int) = base + 128 * ((i + 1 : Nat) : Int) := by omega
    have e2 : blocks - min blocks 128 - 128 * (i : Int) = blocks - 128 * ((i + 1 : Nat) : Int) := by omega
    rw [e1, e2]
  · rw [if_neg h, if_neg (by omega)]
theorem mapGo_ok (m : Nat) (acc : Int) : ∀ (n : Nat) (u : Un) (b bl : Int), u.ok → (mapGo m acc n u b bl).ok
  | 0, u, b, bl, h => h
  | n + 1, u, b, bl, h => by
    unfold mapGo
    split
    · exact mapGo_ok m acc n _ _ _ (Un.withP_ok h _ _)
    · exact mapGo_ok m acc n _ _ _ (Un.withP_ok h _ _)
theorem mapGo_rest (m : Nat) (acc : Int) : ∀ (n : Nat) (u : Un) (b bl : Int), (mapGo m acc n u b bl).on = u.on ∧ (mapGo m acc n u b bl).st = u.st ∧ (mapGo m acc n u b bl).ad = u.ad
  | 0, u, b, bl => ⟨rfl, rfl, rfl⟩
  | n + 1, u, b, bl => by
    unfold mapGo
    split
    · exact mapGo_rest m acc n (u.withP _ _) _ _
    · exact mapGo_rest m acc n (u.withP _ _) _ _
theorem mapGo_get (m : Nat) (hm : m < 2) (acc : Int) : ∀ (n : Nat) (u : Un) (b bl : Int), n ≤ 8 → u.ok → 0 ≤ bl → ∀ k, k < 16 → (mapGo m acc n u b bl).pg[k]? = if 8 * m + (8 - n) ≤ k ∧ k < 8 * m + 8 then some (mpg b bl acc (k - (8 * m + (8 - n)))) else u.pg[k]?
  | 0, u, b, bl, _, _, _, k, _ => by
    rw [if_neg (by omega)]; rfl
  | n + 1, u, b, bl, hn, hu, hbl, k, hk => by
    have key : ∀ g : Pg, mpg b bl acc 0 = g → ∀ b' bl', (∀ i, mpg b' bl' acc i = mpg b bl acc (i + 1)) → 0 ≤ bl' → (mapGo m acc n (u.withP (8 * m + (7 - n)) g) b' bl').pg[k]? = if 8 * m + (8 - (n + 1)) ≤ k ∧ k < 8 * m + 8 then some (mpg b bl acc (k - (8 * m + (8 - (n + 1))))) else u.pg[k]? := by
      intro g hg b' bl' hs h0
      rw [mapGo_get m hm acc n (u.withP (8 * m + (7 - n)) g) b' bl' (by omega) (Un.withP_ok hu _ _) h0 k hk, Un.withP_get hu _ _ _ hk]
      by_cases h1 : 8 * m + (8 - n) ≤ k ∧ k < 8 * m + 8
      · rw [if_pos h1, if_pos (by omega), hs, show k - (8 * m + (8 - n)) + 1 = k - (8 * m + (8 - (n + 1))) by omega]
      · rw [if_neg h1]
        by_cases h2 : 8 * m + (7 - n) = k
        · rw [if_pos h2, if_pos (by omega), show k - (8 * m + (8 - (n + 1))) = 0 by omega, hg]
        · rw [if_neg h2, if_neg (by omega)]
    unfold mapGo
    by_cases h : 0 < bl
    · rw [if_pos h]
      refine key _ ?_ _ _ (fun i => mpg_next (n := 0)) (by omega)
      unfold mpg
      rw [if_pos (by omega)]
      have e1 : b + 128 * ((0 : Nat) : Int) = b := by omega
      have e2 : bl - 128 * ((0 : Nat) : Int) = bl := by omega
      rw [e1, e2]
    · rw [if_neg h]
      refine key _ (mpg_zero (by omega)) _ _ (fun i => ?_) hbl
      rw [mpg_zero (by omega), mpg_zero (by omega)]
theorem mapGo_eq (u : Un) (hu : u.ok) (m : Nat) (hm : m < 2) (acc base blocks : Int) (hb : 0 ≤ blocks) : mapGo m acc 8 u base blocks = u.mapU m acc base blocks 8 := by
  obtain ⟨a, b, c⟩ := mapGo_rest m acc 8 u base blocks
  refine Un.ext16 (mapGo_ok m acc 8 u base blocks hu) (Un.mapU_ok _ _ _ _ _ _) a b c (fun k hk => ?_)
  rw [mapGo_get m hm acc 8 u base blocks (Nat.le_refl _) hu hb k hk, Un.mapU_at _ _ _ _ _ _ _ hk]
  by_cases h : 8 * m ≤ k ∧ k < 8 * m + 8
  · rw [if_pos (by omega), if_pos h, if_pos (by omega)]
    rfl
  · rw [if_neg (by omega), if_neg h, Un.pgAt_some hu hk]
end Go.Proofs.Ytggnbfilkogcoaa
