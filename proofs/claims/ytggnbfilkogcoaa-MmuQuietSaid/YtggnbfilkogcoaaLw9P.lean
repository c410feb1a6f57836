/-
  Plain: what MmuCopies and MmuMapped say of units. No condition.
-/
import Derived.Test.YtggnbfilkogcoaaLw9A
namespace Go.Proofs.Ytggnbfilkogcoaa
set_option linter.unusedSimpArgs false
set_option linter.unusedVariables false

/-- The page without Written. -/
def Pg.clr (g : Pg) : Pg := { g with r := false }
/-- The unit into which the first j registers of the pages of another one are written. -/
def Un.copyU (u : Un) (j : Nat) : Un := ⟨false, (List.range 16).map (fun k => if 2 * k + 1 < j then (u.pgAt k).clr else if 2 * k < j then ⟨(u.pgAt k).b, 0, 0, false⟩ else Pg.z), 0, 0⟩
theorem Un.copyU_ok (u : Un) (j : Nat) : (u.copyU j).ok := by unfold Un.ok Un.copyU; simp
theorem Un.copyU_at (u : Un) (j k : Nat) (hk : k < 16) : (u.copyU j).pg[k]? = some (if 2 * k + 1 < j then (u.pgAt k).clr else if 2 * k < j then ⟨(u.pgAt k).b, 0, 0, false⟩ else Pg.z) := by
  unfold Un.copyU
  simp only [List.getElem?_map, List.getElem?_range hk, Option.map_some]
theorem Un.copyU_pg (u : Un) (j k : Nat) (hk : k < 16) : (u.copyU j).pgAt k = (if 2 * k + 1 < j then (u.pgAt k).clr else if 2 * k < j then ⟨(u.pgAt k).b, 0, 0, false⟩ else Pg.z) := by
  have h1 := Un.pgAt_some (Un.copyU_ok u j) hk
  rw [Un.copyU_at u j k hk] at h1
  exact (Option.some.inj h1).symm
theorem Un.copyU_zero (u : Un) : u.copyU 0 = Un.z := by
  refine Un.ext16 (Un.copyU_ok u 0) Un.z_ok rfl rfl rfl (fun k hk => ?_)
  rw [Un.copyU_at u 0 k hk, if_neg (by omega), if_neg (by omega)]
  show some Pg.z = (List.replicate 16 Pg.z)[k]?
  rw [List.getElem?_replicate, if_pos hk]
theorem reg_is {j : Nat} (hj : j < 32) : isReg (16 + 2 * (j : Int)) = true := by
  unfold isReg
  simp only [Bool.and_eq_true, decide_eq_true_eq]
  omega
theorem reg_k {j : Nat} (hj : j < 32) : regK (16 + 2 * (j : Int)) = j / 2 := by unfold regK; omega
theorem Un.read_reg (u : Un) (hr : u.right = true) (hu : u.ok) {j : Nat} (hj : j < 32) : u.read (16 + 2 * (j : Int)) = (if j % 2 = 1 then descV (u.pgAt (j / 2)) else (u.pgAt (j / 2)).b, true) := by
  unfold Un.read
  rw [if_neg (by omega), if_neg (by omega), if_pos (reg_is hj), reg_k hj]
  by_cases h : j % 2 = 1
  · rw [if_pos (by omega), if_pos h]
  · rw [if_neg (by omega), if_neg h]
theorem Un.copyU_step (u : Un) (hr : u.right = true) (hu : u.ok) {j : Nat} (hj : j < 32) : (u.copyU j).write (16 + 2 * (j : Int)) (u.read (16 + 2 * (j : Int))).1 = (u.copyU (j + 1), true) := by
  have hg := Pg.good_all (Un.right_at hr hu (show j / 2 < 16 by omega))
  have hc := Un.copyU_pg u j (j / 2) (by omega)
  have key : ∀ g : Pg, g = (if 2 * (j / 2) + 1 < j + 1 then (u.pgAt (j / 2)).clr else if 2 * (j / 2) < j + 1 then ⟨(u.pgAt (j / 2)).b, 0, 0, false⟩ else Pg.z) → (u.copyU j).withP (j / 2) g = u.copyU (j + 1) := by
    intro g hg
    refine Un.ext16 (Un.withP_ok (Un.copyU_ok u j) _ _) (Un.copyU_ok u (j + 1)) rfl rfl rfl (fun k hk => ?_)
    rw [Un.withP_get (Un.copyU_ok u j) _ _ _ hk, Un.copyU_at _ _ _ hk, Un.copyU_at _ _ _ hk]
    by_cases h : j / 2 = k
    · rw [if_pos h, hg, h]
    · rw [if_neg h]
      by_cases h2 : 2 * k + 1 < j
      · rw [if_pos h2, if_pos (by omega)]
      · rw [if_neg h2, if_neg (show ¬ 2 * k + 1 < j + 1 by omega)]
        by_cases h3 : 2 * k < j
        · rw [if_pos h3, if_pos (show 2 * k < j + 1 by omega)]
        · rw [if_neg h3, if_neg (show ¬ 2 * k < j + 1 by omega)]
  rw [Un.read_reg u hr hu hj]
  unfold Un.write
  rw [if_neg (by omega), if_neg (by omega), if_pos (reg_is hj), reg_k hj]
  by_cases h : j % 2 = 1
  · rw [if_pos (by omega), if_pos h, hc, if_neg (by omega), if_pos (by omega)]
    rw [key _ ?_]
    rw [if_pos (by omega)]
    obtain ⟨h1, h2, h3, h4, h5, h6⟩ := hg
    unfold Pg.clr descV
    simp only
    have e1 : min ((if (u.pgAt (j / 2)).r = true then (u.pgAt (j / 2)).l + 256 * (u.pgAt (j / 2)).a + 32768 else (u.pgAt (j / 2)).l + 256 * (u.pgAt (j / 2)).a) % 65536 % 256) 128 = (u.pgAt (j / 2)).l := by split <;> omega
    have e2 : min ((if (u.pgAt (j / 2)).r = true then (u.pgAt (j / 2)).l + 256 * (u.pgAt (j / 2)).a + 32768 else (u.pgAt (j / 2)).l + 256 * (u.pgAt (j / 2)).a) % 65536 / 256 % 4) 2 = (u.pgAt (j / 2)).a := by split <;> omega
    rw [e1, e2]
  · rw [if_neg (by omega), if_neg h, hc, if_neg (by omega), if_neg (by omega)]
    rw [key _ ?_]
    rw [if_neg (by omega), if_pos (by omega)]
    obtain ⟨h1, h2, h3, h4, h5, h6⟩ := hg
    have e1 : (u.pgAt (j / 2)).b % 65536 % 4096 = (u.pgAt (j / 2)).b := by omega
    simp only [e1, Pg.z]
/-- The unit whose first n pages are without Written. -/
def Un.clrU (u : Un) (n : Nat) : Un := { u with pg := (List.range 16).map fun k => if k < n then (u.pgAt k).clr else u.pgAt k }
theorem Un.clrU_ok (u : Un) (n : Nat) : (u.clrU n).ok := by unfold Un.ok Un.clrU; simp
theorem Un.clrU_at (u : Un) (n k : Nat) (hk : k < 16) : (u.clrU n).pg[k]? = some (if k < n then (u.pgAt k).clr else u.pgAt k) := by
  unfold Un.clrU
  simp only [List.getElem?_map, List.getElem?_range hk, Option.map_some]
theorem Un.clrU_zero (u : Un) (hu : u.ok) : u.clrU 0 = u := by
  refine Un.ext16 (Un.clrU_ok u 0) hu rfl rfl rfl (fun k hk => ?_)
  rw [Un.clrU_at u 0 k hk, if_neg (by omega), Un.pgAt_some hu hk]
theorem Un.clrU_step (u : Un) (n : Nat) (hn : n < 16) : (u.clrU n).withP n (u.pgAt n).clr = u.clrU (n + 1) := by
  refine Un.ext16 (Un.withP_ok (Un.clrU_ok u n) _ _) (Un.clrU_ok u (n + 1)) rfl rfl rfl (fun k hk => ?_)
  rw [Un.withP_get (Un.clrU_ok u n) _ _ _ hk, Un.clrU_at _ _ _ hk, Un.clrU_at _ _ _ hk]
  by_cases h : n = k
  · rw [if_pos h, if_pos (by omega), h]
  · rw [if_neg h]
    by_cases h2 : k < n
    · rw [if_pos h2, if_pos (by omega)]
    · rw [if_neg h2, if_neg (by omega)]
theorem Un.copied (u : Un) : (u.copyU 32).pg = (u.clrU 16).pg := by
  have h1 : (u.copyU 32).pg.length = 16 := Un.copyU_ok u 32
  have h2 : (u.clrU 16).pg.length = 16 := Un.clrU_ok u 16
  apply List.ext_getElem?
  intro k
  by_cases hk : k < 16
  · rw [Un.copyU_at u 32 k hk, Un.clrU_at u 16 k hk, if_pos (by omega), if_pos (by omega)]
  · rw [List.getElem?_eq_none (by omega), List.getElem?_eq_none (by omega)]

/-! ### After Map -/
theorem Un.mapU_pg (u : Un) (m : Nat) (acc base blocks : Int) (k : Nat) (hk : k < 16) : (u.mapU m acc base blocks 8).pgAt k = if 8 * m ≤ k ∧ k < 8 * m + 8 then mpg base blocks acc (k - 8 * m) else u.pgAt k := by
  have h1 := Un.pgAt_some (Un.mapU_ok u m acc base blocks 8) hk
  rw [Un.mapU_at u m acc base blocks 8 k hk] at h1
  rw [← Option.some.inj h1]
  by_cases h : 8 * m ≤ k ∧ k < 8 * m + 8
  · rw [if_pos h, if_pos h, if_pos (by omega)]
  · rw [if_neg h, if_neg h]
theorem mpg_good {base blocks acc : Int} {m : Int} (h : okMap m base blocks acc) (i : Nat) : (mpg base blocks acc i).good = true := by
  unfold okMap at h
  unfold mpg
  split
  · unfold Pg.good
    simp only [Bool.and_eq_true, decide_eq_true_eq]
    omega
  · decide
theorem mapU_right {u : Un} (hu : u.ok) (hr : u.right = true) {m : Nat} {base blocks acc : Int} (h : okMap m base blocks acc) : (u.mapU m acc base blocks 8).right = true := by
  have ht := hr
  unfold Un.right at ht ⊢
  rw [Bool.and_eq_true] at ht ⊢
  refine ⟨?_, ht.2⟩
  rw [List.all_eq_true]
  intro x hx
  unfold Un.mapU at hx
  simp only [List.mem_map, List.mem_range] at hx
  obtain ⟨k, hk, e⟩ := hx
  rw [← e]
  split
  · split
    · exact mpg_good h _
    · decide
  · exact Un.right_at hr hu hk
/-- The unit after Map with the unit on. -/
def Un.onMap (u : Un) (m : Nat) (acc base blocks : Int) : Un := { u.mapU m acc base blocks 8 with on := true }
theorem Un.onMap_ok (u : Un) (m : Nat) (acc base blocks : Int) : (u.onMap m acc base blocks).ok := Un.mapU_ok u m acc base blocks 8
theorem onMap_right {u : Un} (hu : u.ok) (hr : u.right = true) {m : Nat} {base blocks acc : Int} (h : okMap m base blocks acc) : (u.onMap m acc base blocks).right = true := mapU_right hu hr h
theorem onMap_set (u : Un) (m : Nat) (acc base blocks : Int) : (u.mapU m acc base blocks 8).L.set 0 (.bool true) = (u.onMap m acc base blocks).L := rfl
theorem onMap_flt {u : Un} {m : Nat} (hm : m < 2) {base blocks acc addr : Int} (h : okMap m base blocks acc) (h0 : 0 ≤ addr) (h1 : addr ≤ 65535) (wr : Bool) :
    fltP ((u.onMap m acc base blocks).pgAt (Un.kAt m addr)) (addr % 65536 % 8192) wr = (if 64 * blocks ≤ addr then (if 128 * (addr / 8192) < blocks then 2 else 1) else if wr = true ∧ acc ≠ 2 then 3 else 0) := by
  have hk : Un.kAt m addr = 8 * m + (addr / 8192).toNat := by unfold Un.kAt; omega
  have e : (u.onMap m acc base blocks).pgAt (Un.kAt m addr) = mpg base blocks acc (addr / 8192).toNat := by
    have e1 := Un.mapU_pg u m acc base blocks (Un.kAt m addr) (by omega)
    rw [if_pos (by omega), show Un.kAt m addr - 8 * m = (addr / 8192).toNat by omega] at e1
    exact e1
  unfold okMap at h
  rw [e]
  unfold mpg fltP
  by_cases hb : 128 * (addr / 8192) < blocks
  · rw [if_pos (show 128 * (((addr / 8192).toNat : Nat) : Int) < blocks by omega)]
    simp only
    rw [if_neg (by omega)]
    by_cases h2 : 64 * blocks ≤ addr
    · rw [if_pos (by omega), if_pos h2, if_pos hb]
    · rw [if_neg (by omega), if_neg h2]
  · rw [if_neg (show ¬ 128 * (((addr / 8192).toNat : Nat) : Int) < blocks by omega), if_pos (show 64 * blocks ≤ addr by omega), if_neg hb]
    rfl
theorem onMap_out {u : Un} {m : Nat} (hm : m < 2) {base blocks acc addr : Int} (h : okMap m base blocks acc) (h0 : 0 ≤ addr) (h1 : addr ≤ 65535) (h2 : 64 * blocks ≤ addr) : ((u.onMap m acc base blocks).trans m addr false).2.2 = 8 := by
  have hf := onMap_flt (u := u) hm h h0 h1 false
  rw [if_pos h2] at hf
  unfold Un.trans
  rw [if_pos (show (u.onMap m acc base blocks).on = true from rfl), if_neg (by rw [hf]; split <;> decide)]
theorem onMap_in {u : Un} {m : Nat} (hm : m < 2) {base blocks acc addr : Int} (h : okMap m base blocks acc) (h0 : 0 ≤ addr) (h1 : addr ≤ 65535) (h2 : ¬ 64 * blocks ≤ addr) : ((u.onMap m acc base blocks).trans m addr false).2.2 = 0 ∧ ((u.onMap m acc base blocks).trans m addr false).1 = 64 * base + addr ∧ ((u.onMap m acc base blocks).trans m addr true).2.2 = (if acc = 2 then 0 else 8) := by
  have hf := onMap_flt (u := u) hm h h0 h1 false
  have hf2 := onMap_flt (u := u) hm h h0 h1 true
  rw [if_neg h2, if_neg (by simp)] at hf
  rw [if_neg h2] at hf2
  have hk : Un.kAt m addr = 8 * m + (addr / 8192).toNat := by unfold Un.kAt; omega
  have e : (u.onMap m acc base blocks).pgAt (Un.kAt m addr) = mpg base blocks acc (addr / 8192).toNat := by
    have e1 := Un.mapU_pg u m acc base blocks (Un.kAt m addr) (by omega)
    rw [if_pos (by omega), show Un.kAt m addr - 8 * m = (addr / 8192).toNat by omega] at e1
    exact e1
  have hb : ((u.onMap m acc base blocks).pgAt (Un.kAt m addr)).b = base + 128 * (addr / 8192) := by
    unfold okMap at h
    rw [e, mpg, if_pos (by omega)]
    show base + 128 * (((addr / 8192).toNat : Nat) : Int) = _
    omega
  have ho : (u.onMap m acc base blocks).on = true := rfl
  refine ⟨?_, ?_, ?_⟩
  · unfold Un.trans
    rw [if_pos ho, if_pos hf]
  · unfold Un.trans
    rw [if_pos ho, if_pos hf]
    show (64 * ((u.onMap m acc base blocks).pgAt (Un.kAt m addr)).b + addr % 65536 % 8192) % 262144 = _
    unfold okMap at h
    rw [hb]
    omega
  · unfold Un.trans
    by_cases ha : acc = 2
    · rw [if_neg (by simp [ha])] at hf2
      rw [if_pos ho, if_pos hf2, if_pos ha]
    · rw [if_pos ⟨rfl, ha⟩] at hf2
      rw [if_pos ho, if_neg (by rw [hf2]; decide), if_neg ha]
/-- The other mode's pages are as they were. -/
theorem onMap_other (u : Un) (hu : u.ok) {m : Nat} (hm : m < 2) (acc base blocks : Int) : ((u.onMap m acc base blocks).pg.drop (8 * (1 - m))).take 8 = (u.pg.drop (8 * (1 - m))).take 8 := by
  have h1 : (u.onMap m acc base blocks).pg.length = 16 := Un.onMap_ok u m acc base blocks
  have h2 : u.pg.length = 16 := hu
  apply List.ext_getElem?
  intro i
  by_cases hi : i < 8
  · rw [List.getElem?_take_of_lt hi, List.getElem?_take_of_lt hi, List.getElem?_drop, List.getElem?_drop]
    have e := Un.mapU_at u m acc base blocks 8 (8 * (1 - m) + i) (by omega)
    rw [if_neg (by omega)] at e
    rw [Un.pgAt_some hu (by omega), ← e]
    rfl
  · rw [List.getElem?_eq_none (by rw [List.length_take]; omega), List.getElem?_eq_none (by rw [List.length_take]; omega)]
end Go.Proofs.Ytggnbfilkogcoaa
