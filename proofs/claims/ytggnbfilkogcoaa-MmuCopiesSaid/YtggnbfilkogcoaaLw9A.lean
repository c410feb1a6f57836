/-
  Units that are the results of the calls of package mmu: valid, of sixteen pages, plain; and the law of Right. No condition.
-/
import Derived.Test.YtggnbfilkogcoaaMuR
namespace Go.Proofs.Ytggnbfilkogcoaa
open Go.RowKit
set_option linter.unusedSimpArgs false
set_option linter.unusedVariables false
set_option maxHeartbeats 8000000
set_option maxRecDepth 100000
attribute [local irreducible] wpQuiet

theorem region_class {P : Program} {id : Nat} {Q : Exit → Act → World → Prop} {a : Act} {w : World} {l : List Oper} (C : World → Prop) (hm : P.follows .mixedOrders = true) (hB : Region.lexB .any l.toArray = true) (hC : C w.drew)
    (h : wpQuiet P l.toArray C (fun a' => ∀ w', C w' → Q .normal a' w') l a) : (Code.region id l.toArray true).wp P Q a w :=
  wp_region_quiet hm hB hC (by simpa using h)

theorem fltP_range (p : Pg) (o : Int) (w : Bool) : 0 ≤ fltP p o w ∧ fltP p o w ≤ 3 := by unfold fltP; split <;> (try split) <;> (try split) <;> omega
theorem good_wr {g : Pg} (h : g.good = true) : ({ g with r := true } : Pg).good = true := h
theorem all_set {l : List Pg} (h : l.all Pg.good = true) (k : Nat) {g : Pg} (hg : g.good = true) : (l.set k g).all Pg.good = true := by
  rw [List.all_eq_true] at h ⊢
  intro x hx
  rcases List.mem_or_eq_of_mem_set hx with e | e
  · exact h x e
  · rw [e]; exact hg
theorem right_withP {u : Un} (h : u.right = true) (k : Nat) {g : Pg} (hg : g.good = true) : (u.withP k g).right = true := by
  unfold Un.right at h ⊢
  rw [Bool.and_eq_true] at h ⊢
  exact ⟨all_set h.1 k hg, h.2⟩
theorem right_of {u v : Un} (hp : v.pg = u.pg) (h : u.right = true) (h0 : 0 ≤ v.st) (h1 : v.st ≤ 3) (h2 : 0 ≤ v.ad) (h3 : v.ad < 65536) : v.right = true := by
  unfold Un.right at h ⊢
  rw [Bool.and_eq_true] at h ⊢
  refine ⟨by rw [hp]; exact h.1, ?_⟩
  unfold Un.tail
  rw [decide_eq_true h0, decide_eq_true h1, decide_eq_true h2, decide_eq_true h3]; rfl
theorem trans_ok {u : Un} (hu : u.ok) (mode addr : Int) (wr : Bool) : (u.trans mode addr wr).2.1.ok := by
  unfold Un.trans
  split
  · split
    · show Un.ok (if _ then _ else _)
      split
      · exact Un.withP_ok hu _ _
      · exact hu
    · exact hu
  · split <;> exact hu
theorem trans_right {u : Un} (hu : u.ok) (h : u.right = true) (mode addr : Int) (wr : Bool) : (u.trans mode addr wr).2.1.right = true := by
  have hk := Un.kAt_lt mode addr
  have hf := fltP_range (u.pgAt (Un.kAt mode addr)) (addr % 65536 % 8192) wr
  unfold Un.trans
  split
  · split
    · show Un.right (if _ then _ else _) = true
      split
      · exact right_withP h _ (good_wr (Un.right_at h hu hk))
      · exact h
    · exact right_of (u := u) rfl h hf.1 hf.2 (by show 0 ≤ addr % 65536; omega) (by show addr % 65536 < 65536; omega)
  · split <;> exact h
theorem trans_addr (u : Un) (mode addr : Int) (wr : Bool) : 0 ≤ (u.trans mode addr wr).1 ∧ (u.trans mode addr wr).1 < 262144 := by
  unfold Un.trans
  split
  · split
    · show 0 ≤ _ % (262144 : Int) ∧ _ % (262144 : Int) < 262144
      omega
    · show (0 : Int) ≤ 0 ∧ (0 : Int) < 262144
      omega
  · split
    · show 0 ≤ addr % 65536 ∧ addr % 65536 < 262144
      omega
    · show 0 ≤ addr % 65536 + 196608 ∧ addr % 65536 + 196608 < 262144
      omega
/-- Without a fault and without writing nothing changes; a fault is there only where the unit is on, and changes Status and Addr alone. -/
theorem trans_cases (u : Un) (mode addr : Int) (wr : Bool) : ((u.trans mode addr wr).2.2 = 0 ∧ (wr = false → (u.trans mode addr wr).2.1 = u)) ∨ ((u.trans mode addr wr).2.2 = 8 ∧ u.on = true ∧ (u.trans mode addr wr).1 = 0 ∧ 0 < (u.trans mode addr wr).2.1.st ∧ (u.trans mode addr wr).2.1.pg = u.pg) := by
  have hf := fltP_range (u.pgAt (Un.kAt mode addr)) (addr % 65536 % 8192) wr
  unfold Un.trans
  split
  · next hon =>
    split
    · left
      refine ⟨rfl, fun h => ?_⟩
      show (if wr = true then _ else u) = u
      rw [if_neg (by rw [h]; decide)]
    · next hne =>
      right
      exact ⟨rfl, hon, rfl, by show 0 < fltP _ _ _; omega, rfl⟩
  · left
    split
    · exact ⟨rfl, fun _ => rfl⟩
    · exact ⟨rfl, fun _ => rfl⟩
theorem write_ok {u : Un} (hu : u.ok) (n v : Int) : (u.write n v).1.ok := by
  unfold Un.write
  split
  · exact hu
  · split
    · exact hu
    · split
      · split
        · exact Un.withP_ok hu _ _
        · exact Un.withP_ok hu _ _
      · exact hu
theorem write_right {u : Un} (hu : u.ok) (h : u.right = true) (n v : Int) : (u.write n v).1.right = true := by
  have ht := Un.right_tail h
  unfold Un.write
  split
  · exact right_of (u := u) rfl h (by show 0 ≤ v % 65536 / 2 % 4; omega) (by show v % 65536 / 2 % 4 ≤ 3; omega) ht.2.2.1 ht.2.2.2
  · split
    · exact h
    · split
      · next hn =>
        have hg := Pg.good_all (Un.right_at h hu (regK_lt hn))
        split
        · refine right_withP h _ ?_
          unfold Pg.good
          simp only [Bool.and_eq_true, decide_eq_true_eq]
          omega
        · refine right_withP h _ ?_
          unfold Pg.good
          simp only [Bool.and_eq_true, decide_eq_true_eq]
          omega
      · exact h
theorem map_unit_ok (u : Un) (hu : u.ok) (mode base blocks acc : Int) : (u.map mode base blocks acc).1.ok := by
  unfold Un.map
  split
  · exact mapGo_ok _ _ _ _ _ _ hu
  · exact Un.z_ok

/-! ### The law of Right -/
theorem rights_law (u : Un) (hu : u.ok) (W0 : World) : Calls Try.prog 3 #[.agg u.L.toArray] W0 fun e w' => e = .returned (.bool true) ∧ Below W0.heap.size W0 w' := by
  have hX := (Bag.nil W0).new 27 u.L
  have hln := Un.len hu
  have h1 := fun w => right_any u hu w
  have h2 := fun w => rright_any u hu w
  have h3 := fun w => alive_true w
  generalize u.right = q at *
  go_enter Try.func3, Try.ntmps3
  go_wp2
  refine region_class (fun w' => Bag [(W0.heap.size, 27, u.L)] W0 w') (by kernel_rfl) (by kernel_rfl) hX.drew ?_
  clear hX
  repeat
    first
      | (refine BigFrame.wpQuiet_skip (by rfl) ?_
         simp only [Act.put, List.setIfInBounds_toArray, List.set_cons_zero, List.set_cons_succ])
      | (refine BigFrame.wpQuiet_want (by rfl) (fun K hK => ?_)
         apply Exists.intro
         refine ⟨fun wq hq => ?_, hK _ ?_⟩
         · first
             | (refine quiet_load 27 (.tmp 1) (.pointer (some ⟨W0.heap.size, 0, none⟩)) _ rfl rfl ((hq.all _ _ _ (.head _)).loadAt hln agg_unit size_unit))
             | (unfold Oper.quietAt
                go_simp
                first
                  | with_reducible rfl
                  | ((go_at_call 10); with_reducible refine (h1 _).mono ?_; exact fun e w' ⟨he, hb⟩ => ⟨he, hq.step hb⟩)
                  | ((go_at_call 11); with_reducible refine (h2 _).mono ?_; exact fun e w' ⟨he, hb⟩ => ⟨he, hq.step hb⟩)
                  | ((go_at_call 12); with_reducible refine (h3 _).mono ?_; exact fun e w' ⟨he, hb⟩ => ⟨he, hq.step hb⟩))
         clear hK K
         simp only [Act.put, List.setIfInBounds_toArray, List.set_cons_zero, List.set_cons_succ])
  refine wpQuiet_nil ?_
  intro w4 hX
  go_wp2
  go_ret
  exact ⟨rfl, hX.below⟩
end Go.Proofs.Ytggnbfilkogcoaa
