import Derived.Test.YthpnddgfgpacpaaGreatRD27
import Derived.Test.YthpnddgfgpacpaaGreatRD24
import Derived.Test.YthpnddgfgpacpaaGreatRD25
/-
  A machine stays valid: read, write, tick, accept, reset. Plain. No condition.
-/
namespace Go.Proofs.YthpnddgfgpacpaaGreat
open Go.RowKit
set_option linter.unusedSimpArgs false
set_option linter.unusedVariables false
set_option maxHeartbeats 4000000
set_option maxRecDepth 100000
theorem ln_iff18 (x : Ln) : x.right = true ↔ (0 ≤ x.d ∧ x.d ≤ 255) ∧ (0 ≤ x.t ∧ x.t ≤ 255) ∧ x.s.size ≤ 4096 ∧ 0 ≤ x.l ∧ x.l ≤ 4 ∧ (x.f = true ↔ x.l = 0) := by
  unfold Ln.right
  simp only [Bool.and_eq_true, decide_eq_true_eq, beq_iff_eq]
  constructor
  · rintro ⟨⟨⟨⟨⟨⟨⟨h1, h2⟩, h3⟩, h4⟩, h5⟩, h6⟩, h7⟩, h8⟩
    refine ⟨⟨h1, h2⟩, ⟨h3, h4⟩, h5, h6, h7, ?_⟩
    rw [h8]; simp
  · rintro ⟨⟨h1, h2⟩, ⟨h3, h4⟩, h5, h6, h7, h8⟩
    refine ⟨⟨⟨⟨⟨⟨⟨h1, h2⟩, h3⟩, h4⟩, h5⟩, h6⟩, h7⟩, ?_⟩
    rw [Bool.eq_iff_iff]; simpa using h8
theorem ln_rd18 {x : Ln} (h : x.right = true) (g : Int) : (x.rd g).1.right = true := by
  unfold Ln.rd
  split
  · exact h
  split
  · rw [ln_iff18] at h ⊢; exact h
  split
  · exact h
  · exact h
theorem ln_wr18 {x : Ln} (h : x.right = true) (g n : Int) : (x.wr g n).right = true := by
  unfold Ln.wr
  split
  · rw [ln_iff18] at h ⊢; exact h
  split
  · rw [ln_iff18] at h ⊢; exact h
  split
  · split
    · rw [ln_iff18] at h ⊢
      exact ⟨h.1, by simp only; omega, h.2.2.1, by simp only; omega, by simp only; omega, by simp⟩
    · exact h
  · exact h
theorem dk_wr18 {K : Dk} (h : K.right = true) (g v : Int) (h2 : (K.wr g v).2 = true) : (K.wr g v).1.right = true := by
  unfold Dk.right at *
  rw [Bool.and_eq_true] at *
  obtain ⟨hok, hD⟩ := h
  obtain ⟨⟨hc0, hc3⟩, hw1, ha1, hs1, ha2, ⟨hl0, hl8⟩, hrl, hcw⟩ := (Dk.ok_iff K).1 hok
  obtain ⟨D, n, r, e, c, w, a, s, l⟩ := K
  dsimp only at *
  unfold Dk.wr Dk.cmd at *
  dsimp only at *
  have mk : ∀ (n r e : Bool) (c w a s l : Int), (0 ≤ c ∧ c ≤ 3) → (0 ≤ w ∧ w ≤ 65535) → (0 ≤ a ∧ a ≤ 65535) → (0 ≤ s ∧ s ≤ 65535) → a % 2 = 0 → (0 ≤ l ∧ l ≤ 8) → r = decide (l = 0) → (l = 0 ∨ (c ≠ 0 ∧ w ≠ 0)) → (Dk.mk D n r e c w a s l).ok = true ∧ D.right = true := fun n r e c w a s l h1 h2 h3 h4 h5 h6 h7 h8 => ⟨(Dk.ok_iff _).2 ⟨h1, (wordV_iff _).2 h2, (wordV_iff _).2 h3, (wordV_iff _).2 h4, h5, h6, h7, h8⟩, hD⟩
  rw [wordV_iff] at hw1 ha1 hs1
  have hlr : r = true → l = 0 := fun h => by rw [h] at hrl; exact of_decide_eq_true hrl.symm
  split
  · split
    · rename_i hrv
      split
      · rename_i hq
        exact mk _ _ _ _ _ _ _ _ (by omega) hw1 ha1 hs1 ha2 (by omega) (by decide) (.inr hq)
      · exact mk _ _ _ _ _ _ _ _ (by omega) hw1 ha1 hs1 ha2 ⟨hl0, hl8⟩ hrl (.inl (hlr hrv.1))
    · exact mk _ _ _ _ _ _ _ _ ⟨hc0, hc3⟩ hw1 ha1 hs1 ha2 ⟨hl0, hl8⟩ hrl hcw
  · split
    · split
      · rename_i hr; exact mk _ _ _ _ _ _ _ _ ⟨hc0, hc3⟩ (by omega) ha1 hs1 ha2 ⟨hl0, hl8⟩ hrl (.inl (hlr hr))
      · exact mk _ _ _ _ _ _ _ _ ⟨hc0, hc3⟩ hw1 ha1 hs1 ha2 ⟨hl0, hl8⟩ hrl hcw
    · split
      · split
        · rename_i hr; exact mk _ _ _ _ _ _ _ _ ⟨hc0, hc3⟩ hw1 (by omega) hs1 (by omega) ⟨hl0, hl8⟩ hrl (.inl (hlr hr))
        · exact mk _ _ _ _ _ _ _ _ ⟨hc0, hc3⟩ hw1 ha1 hs1 ha2 ⟨hl0, hl8⟩ hrl hcw
      · split
        · split
          · rename_i hr; exact mk _ _ _ _ _ _ _ _ ⟨hc0, hc3⟩ hw1 ha1 (by omega) ha2 ⟨hl0, hl8⟩ hrl (.inl (hlr hr))
          · exact mk _ _ _ _ _ _ _ _ ⟨hc0, hc3⟩ hw1 ha1 hs1 ha2 ⟨hl0, hl8⟩ hrl hcw
        · rename_i h0 h2' h4 h6
          simp only [if_neg h0, if_neg h2', if_neg h4, if_neg h6] at h2
          cases h2
theorem all_set18 {l : List Pg} (h : l.all Pg.good = true) (k : Nat) {g : Pg} (hg : g.good = true) : (l.set k g).all Pg.good = true := by
  rw [List.all_eq_true] at h ⊢
  intro x hx
  rcases List.mem_or_eq_of_mem_set hx with e | e
  · exact h x e
  · rw [e]; exact hg
theorem right_withP18 {u : Un} (h : u.right = true) (k : Nat) {g : Pg} (hg : g.good = true) : (u.withP k g).right = true := by
  unfold Un.right at h ⊢
  rw [Bool.and_eq_true] at h ⊢
  exact ⟨all_set18 h.1 k hg, h.2⟩
theorem right_of18 {u v : Un} (hp : v.pg = u.pg) (h : u.right = true) (h0 : 0 ≤ v.st) (h1 : v.st ≤ 3) (h2 : 0 ≤ v.ad) (h3 : v.ad < 65536) : v.right = true := by
  unfold Un.right at h ⊢
  rw [Bool.and_eq_true] at h ⊢
  refine ⟨by rw [hp]; exact h.1, ?_⟩
  unfold Un.tail
  rw [decide_eq_true h0, decide_eq_true h1, decide_eq_true h2, decide_eq_true h3]; rfl
theorem un_wr18 {u : Un} (hu : u.ok) (h : u.right = true) (n v : Int) : (u.write n v).1.right = true := by
  have ht := Un.right_tail h
  unfold Un.write
  split
  · exact right_of18 (u := u) rfl h (by show 0 ≤ v % 65536 / 2 % 4; omega) (by show v % 65536 / 2 % 4 ≤ 3; omega) ht.2.2.1 ht.2.2.2
  · split
    · exact h
    · split
      · next hn =>
        have hg := Pg.good_all (Un.right_at h hu (regK_lt hn))
        split
        · refine right_withP18 h _ ?_
          unfold Pg.good
          simp only [Bool.and_eq_true, decide_eq_true_eq]
          omega
        · refine right_withP18 h _ ?_
          unfold Pg.good
          simp only [Bool.and_eq_true, decide_eq_true_eq]
          omega
      · exact h
theorem ck_wr18 {c : Ck} (h : c.right = true) (v : Int) : (c.write v).right = true := by
  rw [Ck.right_iff] at h ⊢
  exact h
theorem setW_word {x : Int} (hx : 0 ≤ x ∧ x ≤ 65535) (r : Nat) (v : Int) : 0 ≤ setW x r v ∧ setW x r v ≤ 65535 := by
  unfold setW
  split <;> omega
theorem mem_set18 {l : List Int} {i : Nat} {y x : Int} (hx : x ∈ l.set i y) : x ∈ l ∨ x = y := List.mem_or_eq_of_mem_set hx
theorem write_mem18 {M B : List Int} (h : rightP M B = true) (a v : Int) (b : Bool) (hw : writeT (2 * (M.length : Int)) a b = 0) : rightP (writeM M a b v) (writeB (2 * (M.length : Int)) B a b) = true := by
  have hac : accP (2 * (M.length : Int)) a b = true := by
    unfold writeT at hw
    split at hw
    · assumption
    · omega
  obtain ⟨h1, h2, h3⟩ := (rightP_iff M B).1 h
  have hg : ∀ i : Nat, 0 ≤ M.getD i 0 ∧ M.getD i 0 ≤ 65535 := fun i => by
    rw [List.getD_eq_getElem?_getD]
    by_cases hi : i < M.length
    · rw [List.getElem?_eq_getElem hi]; exact h2 _ (List.getElem_mem hi)
    · rw [List.getElem?_eq_none (by omega)]; exact ⟨by decide, by decide⟩
  have hl : (writeM M a b v).length = M.length := by
    unfold writeM wordW setN
    rw [if_pos hac]
    split <;> simp
  rw [rightP_iff, hl]
  refine ⟨h1, fun x hx => ?_, ?_⟩
  · unfold writeM wordW setN at hx
    rw [if_pos hac] at hx
    split at hx
    · rcases mem_set18 hx with hx | rfl
      · exact h2 x hx
      · exact setW_word (hg _) _ _
    · rcases mem_set18 hx with hx | rfl
      · exact h2 x hx
      · omega
  · unfold writeB withoutP
    rw [if_pos hac]
    exact badB_filter _ _ _ _ h3
theorem Ma.mk_right {A : Ma} (h1 : A.L.length ≤ 4) (h2 : ∀ x ∈ A.L, x.right = true) (h3 : rightP A.M A.B = true) (h4 : A.U.right = true) (h5 : A.k.right = true) (h6 : A.K.right = true) (h7 : A.T.right = true) : A.right = true := by
  unfold Ma.right
  simp only [Bool.and_eq_true, decide_eq_true_eq, List.all_eq_true]
  exact ⟨⟨⟨⟨⟨⟨h1, h2⟩, h3⟩, h4⟩, h5⟩, h6⟩, h7⟩
theorem Ma.put_right {A : Ma} (h : A.right = true) (off : Int) {x : Ln} (hx : x.right = true) : (A.put off x).right = true := by
  obtain ⟨h1, h2, h3, h4, h5, h6, h7⟩ := Ma.parts h
  refine Ma.mk_right (by unfold Ma.put; dsimp only; rw [List.length_set]; exact h1) (fun y hy => ?_) h3 h4 h5 h6 h7
  rcases List.mem_or_eq_of_mem_set (show y ∈ A.L.set ((off - 512) / 8).toNat x from hy) with hy | rfl
  · exact h2 y hy
  · exact hx
theorem Ma.rdR_right {A : Ma} (h : A.right = true) (off : Int) : (A.rdR off).1.right = true := by
  unfold Ma.rdR
  split
  · rename_i hq
    exact Ma.put_right h off (ln_rd18 (line_lo h hq) _)
  · repeat' split
    all_goals exact h
theorem Ma.read_right {A : Ma} (h : A.right = true) (p : Int) (b : Bool) : (A.read p b).1.right = true := by
  unfold Ma.read
  repeat' split
  all_goals first
    | exact h
    | exact Ma.rdR_right h _
theorem Ma.wrR_right {A : Ma} (hA : A.ok) (h : A.right = true) (off v : Int) (hw : (A.wrR off v).2 = true) : (A.wrR off v).1.right = true := by
  obtain ⟨h1, h2, h3, h4, h5, h6, h7⟩ := Ma.parts h
  unfold Ma.wrR at hw ⊢
  by_cases hq : A.isL off = true
  · rw [if_pos hq]; exact Ma.put_right h off (ln_wr18 (line_lo h hq) _ _)
  rw [if_neg hq] at hw ⊢
  by_cases c1 : off = 256
  · rw [if_pos c1]; exact Ma.mk_right h1 h2 h3 h4 (ck_wr18 h5 v) h6 h7
  rw [if_neg c1] at hw ⊢
  by_cases c2 : 768 ≤ off ∧ off ≤ 774
  · rw [if_pos c2] at hw ⊢; exact Ma.mk_right h1 h2 h3 h4 h5 (dk_wr18 h6 _ _ hw) h7
  rw [if_neg c2] at hw ⊢
  by_cases c3 : 800 ≤ off ∧ off ≤ 804
  · rw [if_pos c3]; exact Ma.mk_right h1 h2 h3 h4 h5 h6 (wrT_right h7 _ _)
  rw [if_neg c3]
  exact Ma.mk_right h1 h2 h3 (un_wr18 hA.2.2 h4 off v) h5 h6 h7
theorem Ma.write_right {A : Ma} (hA : A.ok) (h : A.right = true) (p v : Int) (b : Bool) : (A.write p b v).1.right = true := by
  obtain ⟨h1, h2, h3, h4, h5, h6, h7⟩ := Ma.parts h
  unfold Ma.write
  split
  · split
    · rename_i hw
      exact Ma.mk_right h1 h2 (write_mem18 h3 _ _ _ hw) h4 h5 h6 h7
    · exact h
  split
  · exact h
  split
  · exact h
  · rename_i hw
    exact Ma.wrR_right hA h _ _ (by simpa using hw)
theorem Ma.read_ok {A : Ma} (h : A.ok) (p : Int) (b : Bool) : (A.read p b).1.ok := by
  unfold Ma.read
  repeat' split
  all_goals first
    | exact h
    | exact rdR_ok h _
theorem Ma.write_ok {A : Ma} (h : A.ok) (p v : Int) (b : Bool) : (A.write p b v).1.ok := by
  unfold Ma.write
  repeat' split
  all_goals first
    | exact h
    | exact wrR_ok h _ _
end Go.Proofs.YthpnddgfgpacpaaGreat
