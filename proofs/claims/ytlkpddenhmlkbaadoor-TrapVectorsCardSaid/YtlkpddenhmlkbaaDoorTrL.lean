/-
  The contracts of package trap; alive and the laws over them. Condition: the contracts.
-/
import Derived.Test.YtlkpddenhmlkbaaDoorTrB
namespace Go.Proofs.YtlkpddenhmlkbaaDoor
open Go.RowKit
set_option linter.unusedSimpArgs false
set_option linter.unusedVariables false
set_option maxHeartbeats 4000000
set_option maxRecDepth 100000
attribute [local irreducible] wpQuiet

/-- The contracts of package trap. -/
structure TrC (W0 : World) : Prop where
  vec : ∀ (t : Int) (w : World), Below W0.heap.size W0 w → Calls Tryd.prog 9 #[.int .i64 t] w fun e w' => e = .returned (.int .i64 (vcV t)) ∧ Below w.heap.size w w'
  byv : ∀ (v : Int) (w : World), Below W0.heap.size W0 w → Calls Tryd.prog 7 #[.int .i64 v] w fun e w' => e = .returned (.tuple #[.int .i64 (byV v).1, .bool (byV v).2]) ∧ Below w.heap.size w w'
  nam : ∀ (t : Int) (w : World), Below W0.heap.size W0 w → Calls Tryd.prog 12 #[.int .i64 t] w fun e w' => e = .returned (.string (nmV t)) ∧ Below w.heap.size w w'
  abo : ∀ (t : Int) (w : World), Below W0.heap.size W0 w → Calls Tryd.prog 14 #[.int .i64 t] w fun e w' => e = .returned (.bool (abV t)) ∧ Below w.heap.size w w'
  vcs : ∀ (w : World), Below W0.heap.size W0 w → Calls Tryd.prog 16 #[] w fun e w' => ∃ r, e = .returned r ∧ Nums .i64 w' r vcL ∧ Below w.heap.size w w'
theorem TrC.step {W0 w : World} (H : TrC W0) (h : Below W0.heap.size W0 w) : TrC w :=
  ⟨fun t w' hb => H.vec t w' (h.trans (hb.mono h.size)), fun t w' hb => H.byv t w' (h.trans (hb.mono h.size)), fun t w' hb => H.nam t w' (h.trans (hb.mono h.size)), fun t w' hb => H.abo t w' (h.trans (hb.mono h.size)), fun w' hb => H.vcs w' (h.trans (hb.mono h.size))⟩
theorem alive_true (W0 : World) (H : TrC W0) : Calls Tryd.prog 11 #[] W0 fun e w' => e = .returned (.bool true) ∧ Below W0.heap.size W0 w' := by
  have h1 : ∀ w, Below W0.heap.size W0 w → Calls Tryd.prog 7 #[.int .i64 16] w fun e w' => e = .returned (.tuple #[.int .i64 4, .bool true]) ∧ Below w.heap.size w w' := H.byv 16
  have h2 : ∀ w, Below W0.heap.size W0 w → Calls Tryd.prog 7 #[.int .i64 14] w fun e w' => e = .returned (.tuple #[.int .i64 0, .bool false]) ∧ Below w.heap.size w w' := H.byv 14
  have h3 : ∀ w, Below W0.heap.size W0 w → Calls Tryd.prog 9 #[.int .i64 4] w fun e w' => e = .returned (.int .i64 16) ∧ Below w.heap.size w w' := H.vec 4
  have h4 : ∀ w, Below W0.heap.size W0 w → Calls Tryd.prog 12 #[.int .i64 8] w fun e w' => e = .returned (.string ⟨#[109, 109, 117]⟩) ∧ Below w.heap.size w w' := H.nam 8
  have h5 : ∀ w, Below W0.heap.size W0 w → Calls Tryd.prog 12 #[.int .i64 0] w fun e w' => e = .returned (.string ⟨#[]⟩) ∧ Below w.heap.size w w' := H.nam 0
  have h6 : ∀ w, Below W0.heap.size W0 w → Calls Tryd.prog 14 #[.int .i64 6] w fun e w' => e = .returned (.bool false) ∧ Below w.heap.size w w' := H.abo 6
  have h7 : ∀ w, Below W0.heap.size W0 w → Calls Tryd.prog 14 #[.int .i64 9] w fun e w' => e = .returned (.bool true) ∧ Below w.heap.size w w' := H.abo 9
  have h8 := H.vcs
  have hX := Bag.nil W0
  clear H
  go_enter Tryd.func11, Tryd.ntmps11
  go_wp2_with (first | (go_at_call 7; first | (with_reducible refine (h1 _ hX.below).mono ?_; rintro e w' ⟨rfl, hb⟩; replace hX := hX.step hb; clear hb) | (with_reducible refine (h2 _ hX.below).mono ?_; rintro e w' ⟨rfl, hb⟩; replace hX := hX.step hb; clear hb)) | (go_at_call 9; with_reducible refine (h3 _ hX.below).mono ?_; rintro e w' ⟨rfl, hb⟩; replace hX := hX.step hb; clear hb) | (go_at_call 12; first | (with_reducible refine (h4 _ hX.below).mono ?_; rintro e w' ⟨rfl, hb⟩; replace hX := hX.step hb; clear hb) | (with_reducible refine (h5 _ hX.below).mono ?_; rintro e w' ⟨rfl, hb⟩; replace hX := hX.step hb; clear hb)) | (go_at_call 14; first | (with_reducible refine (h6 _ hX.below).mono ?_; rintro e w' ⟨rfl, hb⟩; replace hX := hX.step hb; clear hb) | (with_reducible refine (h7 _ hX.below).mono ?_; rintro e w' ⟨rfl, hb⟩; replace hX := hX.step hb; clear hb)) | (go_at_call 16; (with_reducible refine (h8 _ hX.below).mono ?_); rintro e w' ⟨r, rfl, hr, hb⟩; replace hX := hX.step hb; obtain ⟨A, c, rfl, _, _⟩ := hr; clear hb))
  go_ret
  exact ⟨rfl, hX.below⟩
theorem TrapVectors_law (W0 : World) (H : TrC W0) (t v : Int) : Calls Tryd.prog 3 #[.int .i64 t, .int .i64 v] W0 fun e w' => e = .returned (.bool true) ∧ Below W0.heap.size W0 w' := by
  have hal := fun w (h : Below W0.heap.size W0 w) => alive_true w (H.step h)
  have hX := Bag.nil W0
  have h1 := H.vec t
  have h2 := fun w => rvec_any t w
  have h3 := H.byv v
  have h4 := fun w => rby_any v w
  generalize vcV t = p at *
  generalize byV v = B at *
  obtain ⟨a, ok⟩ := B
  clear H
  go_enter Tryd.func3, Tryd.ntmps3
  go_wp2_with (first | (go_at_call 9; with_reducible refine (h1 _ hX.below).mono ?_; rintro e w' ⟨rfl, hb⟩; replace hX := hX.step hb; clear hb) | (go_at_call 10; with_reducible refine (h2 _).mono ?_; rintro e w' ⟨rfl, hw⟩; subst hw) | (go_at_call 7; with_reducible refine (h3 _ hX.below).mono ?_; rintro e w' ⟨rfl, hb⟩; replace hX := hX.step hb; clear hb) | (go_at_call 8; with_reducible refine (h4 _).mono ?_; rintro e w' ⟨rfl, hw⟩; subst hw) | (go_at_call 11; with_reducible refine (hal _ hX.below).mono ?_; rintro e w' ⟨rfl, hb⟩; replace hX := hX.step hb; clear hb))
  go_ret
  exact ⟨rfl, hX.below⟩
theorem TrapNames_law (W0 : World) (H : TrC W0) (t : Int) : Calls Tryd.prog 4 #[.int .i64 t] W0 fun e w' => e = .returned (.bool true) ∧ Below W0.heap.size W0 w' := by
  have hal := fun w (h : Below W0.heap.size W0 w) => alive_true w (H.step h)
  have hX := Bag.nil W0
  have h1 := H.nam t
  have h2 := fun w => rnm_any t w
  have h3 := H.abo t
  have h4 := fun w => rab_any t w
  generalize nmV t = s at *
  generalize abV t = b at *
  clear H
  go_enter Tryd.func4, Tryd.ntmps4
  go_wp2_with (first | (go_at_call 12; with_reducible refine (h1 _ hX.below).mono ?_; rintro e w' ⟨rfl, hb⟩; replace hX := hX.step hb; clear hb) | (go_at_call 13; with_reducible refine (h2 _).mono ?_; rintro e w' ⟨rfl, hb⟩; replace hX := hX.step hb; clear hb) | (go_at_call 14; with_reducible refine (h3 _ hX.below).mono ?_; rintro e w' ⟨rfl, hb⟩; replace hX := hX.step hb; clear hb) | (go_at_call 15; with_reducible refine (h4 _).mono ?_; rintro e w' ⟨rfl, hw⟩; subst hw) | (go_at_call 11; with_reducible refine (hal _ hX.below).mono ?_; rintro e w' ⟨rfl, hb⟩; replace hX := hX.step hb; clear hb))
  go_ret
  exact ⟨rfl, hX.below⟩
theorem trap_no (W0 : World) (H : TrC W0) (a b : Int) (h : ¬ (1 ≤ a ∧ a ≤ 9)) : Calls Tryd.prog 6 #[.int .i64 a, .int .i64 b] W0 fun e w' => e = .returned (.bool true) ∧ Below W0.heap.size W0 w' := by
  have hal := fun w (h : Below W0.heap.size W0 w) => alive_true w (H.step h)
  have hX := Bag.nil W0
  have h1 := H.vec a
  have h2 := H.nam a
  rw [vcV_no h] at h1
  rw [nmV_no h] at h2
  clear H h
  go_enter Tryd.func6, Tryd.ntmps6
  go_wp2_with (first | (go_at_call 9; with_reducible refine (h1 _ hX.below).mono ?_; rintro e w' ⟨rfl, hb⟩; replace hX := hX.step hb; clear hb) | (go_at_call 12; with_reducible refine (h2 _ hX.below).mono ?_; rintro e w' ⟨rfl, hb⟩; replace hX := hX.step hb; clear hb) | (go_at_call 11; with_reducible refine (hal _ hX.below).mono ?_; rintro e w' ⟨rfl, hb⟩; replace hX := hX.step hb; clear hb))
  go_ret
  exact ⟨rfl, hX.below⟩
theorem trap_same (W0 : World) (H : TrC W0) (a : Int) (h : 1 ≤ a ∧ a ≤ 9) : Calls Tryd.prog 6 #[.int .i64 a, .int .i64 a] W0 fun e w' => e = .returned (.bool true) ∧ Below W0.heap.size W0 w' := by
  have hal := fun w (h : Below W0.heap.size W0 w) => alive_true w (H.step h)
  have hX := Bag.nil W0
  have h1 := H.vec a
  have h2 := H.nam a
  have h3 := H.byv (vcV a)
  have hs := nmV_yes h
  have hse := nmV_ie h
  have hp : ¬ vcV a = 0 := by rw [vcV_yes h]; omega
  rw [show byV (vcV a) = (a, true) from by rw [vcV_yes h]; exact byV_vc h] at h3
  have hpb : (vcV a != 0) = true := by simpa using hp
  generalize nmV a = s at *
  generalize vcV a = p at *
  clear H h
  go_enter Tryd.func6, Tryd.ntmps6
  go_wp2_with (first | (go_at_call 9; with_reducible refine (h1 _ hX.below).mono ?_; rintro e w' ⟨rfl, hb⟩; replace hX := hX.step hb; clear hb) | (go_at_call 12; with_reducible refine (h2 _ hX.below).mono ?_; rintro e w' ⟨rfl, hb⟩; replace hX := hX.step hb; clear hb) | (go_at_call 7; with_reducible refine (h3 _ hX.below).mono ?_; rintro e w' ⟨rfl, hb⟩; replace hX := hX.step hb; clear hb) | (go_at_call 11; with_reducible refine (hal _ hX.below).mono ?_; rintro e w' ⟨rfl, hb⟩; replace hX := hX.step hb; clear hb))
  go_ret
  exact ⟨rfl, hX.below⟩
theorem trap_other (W0 : World) (H : TrC W0) (a b : Int) (h : 1 ≤ a ∧ a ≤ 9) (hne : ¬ a = b) : Calls Tryd.prog 6 #[.int .i64 a, .int .i64 b] W0 fun e w' => e = .returned (.bool true) ∧ Below W0.heap.size W0 w' := by
  have hal := fun w (h : Below W0.heap.size W0 w) => alive_true w (H.step h)
  have hX := Bag.nil W0
  have h1 := H.vec a
  have h2 := H.nam a
  have h3 := H.byv (vcV a)
  have h4 := H.vec b
  have h5 := H.nam b
  have hs := nmV_yes h
  have hse := nmV_ie h
  have hsu := nmV_ne h hne
  have hsl := tl_ne hsu
  have hpq := vcV_ne h hne
  have hp : ¬ vcV a = 0 := by rw [vcV_yes h]; omega
  rw [show byV (vcV a) = (a, true) from by rw [vcV_yes h]; exact byV_vc h] at h3
  have hpb : (vcV a != 0) = true := by simpa using hp
  have hqb : (vcV a == vcV b) = false := by simpa using hpq
  have hab : (a != b) = true := by simpa using hne
  generalize nmV a = s at *
  generalize nmV b = u at *
  generalize vcV a = p at *
  generalize vcV b = q at *
  clear H h
  go_enter Tryd.func6, Tryd.ntmps6
  go_wp2_with (first | (go_at_call 9; first | (with_reducible refine (h1 _ hX.below).mono ?_; rintro e w' ⟨rfl, hb⟩; replace hX := hX.step hb; clear hb) | (with_reducible refine (h4 _ hX.below).mono ?_; rintro e w' ⟨rfl, hb⟩; replace hX := hX.step hb; clear hb)) | (go_at_call 12; first | (with_reducible refine (h2 _ hX.below).mono ?_; rintro e w' ⟨rfl, hb⟩; replace hX := hX.step hb; clear hb) | (with_reducible refine (h5 _ hX.below).mono ?_; rintro e w' ⟨rfl, hb⟩; replace hX := hX.step hb; clear hb)) | (go_at_call 7; with_reducible refine (h3 _ hX.below).mono ?_; rintro e w' ⟨rfl, hb⟩; replace hX := hX.step hb; clear hb) | (go_at_call 11; with_reducible refine (hal _ hX.below).mono ?_; rintro e w' ⟨rfl, hb⟩; replace hX := hX.step hb; clear hb))
  go_ret
  exact ⟨rfl, hX.below⟩
theorem TrapReturns_law (W0 : World) (H : TrC W0) (a b : Int) : Calls Tryd.prog 6 #[.int .i64 a, .int .i64 b] W0 fun e w' => e = .returned (.bool true) ∧ Below W0.heap.size W0 w' := by
  by_cases h : 1 ≤ a ∧ a ≤ 9
  · by_cases hne : a = b
    · subst hne; exact trap_same W0 H a h
    · exact trap_other W0 H a b h hne
  · exact trap_no W0 H a b h
theorem Nums.load {w : World} {a : Addr} {n c k : Nat} {l : List Int} {x : Int} (h : Nums .i64 w (.slice (some a) n c) l) (hx : l[k]? = some x) : (Instr.loadAt 3 (.pointer (some (a.add k)))).run Tryd.prog w = .ok (.int .i64 x) w := by
  obtain ⟨A', c', hv, _, hc⟩ := h
  cases hv
  obtain ⟨a', ha, h1, _⟩ := hc k x hx
  cases ha
  simp only [Instr.loadAt, Instr.sureAddr, Go.loadVar, Sem.run_bind, Sem.run_pure, Result.andThen_ok, int_cell, Bool.false_eq_true, if_false]
  simp [h1, go_sem]
theorem TrapLists_law (W0 : World) (H : TrC W0) (at0 : Int) (h0 : 0 ≤ at0 ∧ at0 ≤ 255) : Calls Tryd.prog 5 #[.int .u8 at0] W0 fun e w' => e = .returned (.bool true) ∧ Below W0.heap.size W0 w' := by
  have hal := fun w (h : Below W0.heap.size W0 w) => alive_true w (H.step h)
  have hX := Bag.nil W0
  obtain ⟨i, hi9, hti⟩ : ∃ i : Nat, i < 9 ∧ at0.tmod 9 = (i : Int) := ⟨(at0 % 9).toNat, by omega, by rw [Int.tmod_eq_emod_of_nonneg h0.1]; omega⟩
  have hv := H.vcs
  have hv2 := fun w => rvs_any w
  have hy := vcL_get hi9
  have h1 := H.byv (4 * ((i : Int) + 1))
  rw [byV_vc (by omega)] at h1
  have h2 := H.vec ((i : Int) + 1)
  rw [vcV_yes (by omega)] at h2
  have h3 := H.nam ((i : Int) + 1)
  have hse := nmV_ie (t := (i : Int) + 1) (by omega)
  generalize nmV ((i : Int) + 1) = s at *
  obtain ⟨y, hyd⟩ : ∃ y : Int, 4 * ((i : Int) + 1) = y := ⟨_, rfl⟩
  rw [hyd] at hy h1 h2
  have hlen : vcL.length = 9 := rfl
  have hz : ∀ j : Nat, i = j + 1 → ∃ z : Int, vcL[j]? = some z ∧ z < y := fun j hj => ⟨_, vcL_get (by omega), by omega⟩
  generalize vcL = V at *
  have hi9z : (i : Int) < 9 := by omega
  clear H hyd
  have fin : ∀ j : Nat, (i = 0 ∨ i = j + 1) → Calls Tryd.prog 5 #[.int .u8 at0] W0 fun e w' => e = .returned (.bool true) ∧ Below W0.heap.size W0 w' := by
    intro j hj
    go_enter Tryd.func5, Tryd.ntmps5
    go_wp2_with (first | (go_at_call 16; (with_reducible refine (hv _ hX.below).mono ?_); rintro e w1 ⟨r, rfl, hr, hb⟩; replace hX := hX.step hb; clear hb) | (go_at_call 17; (with_reducible refine (hv2 _).mono ?_); rintro e w2 ⟨s2, rfl, hs2, hb⟩; replace hX := hX.step hb; replace hr := hr.below hb; have hr0 := hr; have hs0 := hs2; obtain ⟨A1, c1, rfl, hk1, hc1⟩ := hr; obtain ⟨A2, c2, rfl, hk2, hc2⟩ := hs2; obtain ⟨a1, rfl, _⟩ := hc1 i y hy; obtain ⟨a2, rfl, _⟩ := hc2 i y hy; rw [hlen] at hr0 hs0 hk1 hk2; have hl1 : ∀ w', Below w2.heap.size w2 w' → (Instr.loadAt 3 (.pointer (some (a1.add i)))).run Tryd.prog w' = .ok (.int .i64 y) w' := fun w' h => Nums.load (hr0.below h) hy; have hl2 : ∀ w', Below w2.heap.size w2 w' → (Instr.loadAt 3 (.pointer (some (a2.add i)))).run Tryd.prog w' = .ok (.int .i64 y) w' := fun w' h => Nums.load (hs0.below h) hy; have hBB := Below.refl w2.heap.size w2; have hW2 := hX.below; clear hb hc1 hc2) | ((with_reducible refine at_load ?_); refine wpList_loadW rfl 3 _ _ _ rfl rfl (hl1 _ hBB) ?_) | (go_at_call 7; (with_reducible refine (h1 _ hX.below).mono ?_); rintro e w3 ⟨rfl, hb⟩; replace hX := hX.step hb; replace hBB := hBB.trans (hb.mono hBB.size); clear hb))
    rcases hj with hi0 | hij
    · have hie : ((i : Int) == 0) = true := by simp; omega
      clear hi0 hX hv hv2 h1 hz hs0
      refine region_class (fun w' => Below w2.heap.size w2 w') (by kernel_rfl) (by kernel_rfl) hBB.drew ?_
      repeat
        first
          | (refine BigFrame.wpQuiet_skip (by rfl) ?_
             simp only [Act.put, List.setIfInBounds_toArray, List.set_cons_zero, List.set_cons_succ])
          | (refine BigFrame.wpQuiet_want (by rfl) (fun K hK => ?_)
             apply Exists.intro
             refine ⟨fun wq hq => ?_, hK _ ?_⟩
             · first
                 | (refine quiet_load 3 _ _ _ rfl rfl (hl1 _ hq))
                 | (refine quiet_load 3 _ _ _ rfl rfl (hl2 _ hq))
                 | (unfold Oper.quietAt
                    go_simp
                    first
                      | with_reducible rfl
                      | ((go_at_call 9); with_reducible refine (h2 _ (hW2.trans (hq.mono hW2.size))).mono ?_; exact fun e w' ⟨he, hb⟩ => ⟨he, hq.trans (hb.mono hq.size)⟩)
                      | ((go_at_call 12); with_reducible refine (h3 _ (hW2.trans (hq.mono hW2.size))).mono ?_; exact fun e w' ⟨he, hb⟩ => ⟨he, hq.trans (hb.mono hq.size)⟩)
                      | ((go_at_call 11); with_reducible refine (hal _ (hW2.trans (hq.mono hW2.size))).mono ?_; exact fun e w' ⟨he, hb⟩ => ⟨he, hq.trans (hb.mono hq.size)⟩)
                   )
             clear hK K
             simp only [Act.put, List.setIfInBounds_toArray, List.set_cons_zero, List.set_cons_succ])
      refine wpQuiet_nil ?_
      intro w4 hB4
      go_wp2
      go_ret
      exact ⟨rfl, hW2.trans (hB4.mono hW2.size)⟩
    · obtain ⟨z, hzv, hzy⟩ := hz j hij
      have hie : ((i : Int) == 0) = false := by simp; omega
      have hw1 : IntKind.i64.wrap ((i : Int) - 1) = (j : Int) := by rw [wrap_i64]; unfold wrap64; omega
      have hw2 : wrap64 ((i : Int) - 1) = (j : Int) := by unfold wrap64; omega
      have hj9 : (j : Int) < 9 := by omega
      have hzd : decide (z < y) = true := decide_eq_true hzy
      have hl3 : ∀ w', Below w2.heap.size w2 w' → (Instr.loadAt 3 (.pointer (some (a1.add j)))).run Tryd.prog w' = .ok (.int .i64 z) w' := fun w' h => Nums.load (hr0.below h) hzv
      clear hij hX hv hv2 h1 hz hs0
      refine region_class (fun w' => Below w2.heap.size w2 w') (by kernel_rfl) (by kernel_rfl) hBB.drew ?_
      repeat
        first
          | (refine BigFrame.wpQuiet_skip (by rfl) ?_
             simp only [Act.put, List.setIfInBounds_toArray, List.set_cons_zero, List.set_cons_succ])
          | (refine BigFrame.wpQuiet_want (by rfl) (fun K hK => ?_)
             apply Exists.intro
             refine ⟨fun wq hq => ?_, hK _ ?_⟩
             · first
                 | (refine quiet_load 3 _ _ _ rfl rfl (hl1 _ hq))
                 | (refine quiet_load 3 _ _ _ rfl rfl (hl2 _ hq))
                 | (refine quiet_load 3 _ _ _ rfl rfl (hl3 _ hq))
                 | (unfold Oper.quietAt
                    go_simp
                    first
                      | with_reducible rfl
                      | ((go_at_call 9); with_reducible refine (h2 _ (hW2.trans (hq.mono hW2.size))).mono ?_; exact fun e w' ⟨he, hb⟩ => ⟨he, hq.trans (hb.mono hq.size)⟩)
                      | ((go_at_call 12); with_reducible refine (h3 _ (hW2.trans (hq.mono hW2.size))).mono ?_; exact fun e w' ⟨he, hb⟩ => ⟨he, hq.trans (hb.mono hq.size)⟩)
                      | ((go_at_call 11); with_reducible refine (hal _ (hW2.trans (hq.mono hW2.size))).mono ?_; exact fun e w' ⟨he, hb⟩ => ⟨he, hq.trans (hb.mono hq.size)⟩)
                   )
             clear hK K
             simp only [Act.put, List.setIfInBounds_toArray, List.set_cons_zero, List.set_cons_succ])
      refine wpQuiet_nil ?_
      intro w4 hB4
      go_wp2
      go_ret
      exact ⟨rfl, hW2.trans (hB4.mono hW2.size)⟩
  rcases Nat.eq_zero_or_pos i with h | h
  · exact fin 0 (.inl h)
  · exact fin (i - 1) (.inr (by omega))
end Go.Proofs.YtlkpddenhmlkbaaDoor
