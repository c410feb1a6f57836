/-
  Walk over the statement MemoryKeeps: whatever the input, it answers true. No condition.
-/
import Derived.Test.YtjjmgmnhcccjgaaMeO
namespace Go.Proofs.Ytjjmgmnhcccjgaa
open Go.RowKit
set_option linter.unusedSimpArgs false
set_option linter.unusedVariables false
set_option maxHeartbeats 4000000
set_option maxRecDepth 100000
attribute [local irreducible] wpQuiet

/-! ### Plain -/
theorem even_rng {n a : Int} (h0 : 0 ≤ a) (h1 : a < n) (hn : n % 2 = 0) : 0 ≤ evenP a ∧ evenP a < n ∧ evenP a % 2 = 0 := by unfold evenP; omega
theorem even_even {a : Int} : evenP (evenP a) = evenP a := by unfold evenP; omega
theorem right_write {mem bad : List Int} (h : rightP mem bad = true) (a : Int) (b : Bool) (v x : Int) : rightP (wordW mem a b v) (withoutP bad x) = true := by
  obtain ⟨h1, h2, h3, h4⟩ := right_out h
  unfold rightP at h ⊢
  rw [wordW_length]
  simp only [Bool.and_eq_true] at h ⊢
  refine ⟨h.1, wordW_words h2 a b v, (badB_iff _ _ _).2 ⟨fun y hy => ?_, without_sorted x h4⟩⟩
  obtain ⟨k0, k1, k2⟩ := h3 y (List.mem_filter.1 hy).1
  exact ⟨k0, k1, k2⟩
theorem right_put {mem bad : List Int} (h : rightP mem bad = true) {x : Int} (h0 : 0 ≤ x) (h1 : x % 2 = 0) (h2 : x < 2 * (mem.length : Int)) : rightP mem (insP x bad) = true :=
  right_ins h (by unfold spoilE; rw [if_pos h1, if_pos ⟨h0, h2⟩])
theorem keep_read {mem bad : List Int} {a : Int} {b : Bool} (v : Int) (h : accP (2 * (mem.length : Int)) a b = true) :
    readT (2 * (mem.length : Int)) (withoutP bad (evenP a)) a b = 0 ∧ readV (wordW mem a b v) (withoutP bad (evenP a)) a b = if b = true then v % 256 else v % 65536 := by
  obtain ⟨h0, h1, h2⟩ := acc_rng h
  have e := readT_ok h (without_contains (evenP a) bad)
  refine ⟨e, ?_⟩
  rw [readV_ok (by rw [wordW_length]; exact e)]
  cases b
  · simp only [Bool.false_eq_true, if_false, wordW]
    rw [get_set _ _ _ _ (by omega), if_pos rfl]
  · simp only [if_true, wordW]
    rw [byte_set _ _ _ _ (by omega), if_pos rfl]
theorem keep_other {mem bad : List Int} {a o : Int} {b : Bool} (v : Int) (h : accP (2 * (mem.length : Int)) a b = true) (hd : o / 2 ≠ a / 2) :
    readT (2 * (mem.length : Int)) (withoutP bad (evenP a)) o false = readT (2 * (mem.length : Int)) bad o false ∧ readV (wordW mem a b v) (withoutP bad (evenP a)) o false = readV mem bad o false := by
  obtain ⟨h0, h1, h2⟩ := acc_rng h
  have hne : evenP o ≠ evenP a := by unfold evenP; omega
  have e : readT (2 * (mem.length : Int)) (withoutP bad (evenP a)) o false = readT (2 * (mem.length : Int)) bad o false := by
    unfold readT; rw [without_other bad hne]
  refine ⟨e, ?_⟩
  unfold readV
  rw [wordW_length, e]
  split
  · next hr =>
    simp only [Bool.false_eq_true, if_false]
    have ho : accP (2 * (mem.length : Int)) o false = true := by
      cases q : accP (2 * (mem.length : Int)) o false
      · rw [readT_no q] at hr; exact absurd hr (by decide)
      · rfl
    obtain ⟨o0, o1, _⟩ := acc_rng ho
    have hk : o.toNat / 2 ≠ a.toNat / 2 := by omega
    unfold wordW
    split
    · unfold setN; rw [get_set _ _ _ _ (by omega), if_neg hk]
    · rw [get_set _ _ _ _ (by omega), if_neg hk]
  · rfl
theorem acc_byte {n a : Int} {b : Bool} (h : accP n a b = true) : accP n a true = true := by
  obtain ⟨h0, h1, _⟩ := acc_rng h
  simp [accP, h0, h1]
theorem read_spoilt {n a : Int} {b : Bool} {bad : List Int} (h : accP n a b = true) : readT n (insP (evenP a) bad) a true = 9 := readT_bad (acc_byte h) (ins_contains _ _)
theorem an1 {n : Int} (h0 : 0 ≤ n) (h1 : n ≤ 9223372036854775807) : bits .andNot .i64 n 1 = evenP n := by
  have e : N64 n = n.toNat := by have := N64_eq n; omega
  have e3 : n.toNat &&& 18446744073709551614 = n.toNat / 2 * 2 := by
    have k : (18446744073709551614 : Nat) = (2 ^ 63 - 1) * 2 ^ 1 := by decide
    rw [k, field]
    omega
  rw [andNot_def, e, show N64 1 = 1 by decide, show 18446744073709551615 - 1 = 18446744073709551614 by decide, e3, small (by omega)]
  unfold evenP
  omega
theorem Bx.put2 (cs : List Value) (t : TypeId) (o : Obj) (W0 : World) : Bx (W0.heap.size + 1) cs W0 ((W0.alloc o).alloc (.cells cs.toArray t)).drew := by
  have h := (Bx.put cs t (W0.alloc o))
  have e : (W0.alloc o).heap.size = W0.heap.size + 1 := by simp
  rw [e] at h
  exact ⟨h.c, h.lt, ((Below.refl _ _).alloc (Nat.le_refl _) o).alloc (by simp) _ |>.drew⟩
theorem put2_nums {w : World} {v : Value} {l : List Int} (h : Nums .i64 w v l) (o o2 : Obj) : Nums .i64 ((w.alloc o).alloc o2).drew v l := (put_nums (put_nums h o) o2).drew
theorem wordW_bad {mem bad : List Int} (h : rightP mem bad = true) (a : Int) (b : Bool) (v : Int) : wordsB (wordW mem a b v) = true := wordW_words (right_out h).2.1 a b v

theorem write_no {vm vb : Value} {mem bad : List Int} (hl : mem.length ≤ 2048) (hl2 : bad.length ≤ 2048) (hR : rightP mem bad = true) {a : Int} {b : Bool} (h : accP (2 * (mem.length : Int)) a b = false) (v : Int) (w : World) (hm : Nums .i64 w vm mem) (hb : Nums .i64 w vb bad) :
    Calls Try.prog 18 #[vm, vb, .int .i64 a, .bool b, .int .i64 v] w fun e w' => ∃ A c A2 c2, e = .returned (.tuple #[.slice A 0 c, .slice A2 0 c2, .int .i64 1]) ∧ Below w.heap.size w w' := by
  obtain ⟨_, hW, _, hs⟩ := right_out hR
  refine (write_any vm vb mem bad (by omega) (by omega) hW hs a b v w hm hb).mono ?_
  rintro e w' ⟨r, s, rfl, ho, hq, hbl⟩
  rw [writeM_no h] at ho
  rw [writeB_no h] at hq
  rw [writeT_no h]
  obtain ⟨A, c, rfl⟩ := Own.shape ho (n := 0) rfl
  obtain ⟨A2, c2, rfl⟩ := Own.shape hq (n := 0) rfl
  exact ⟨A, c, A2, c2, rfl, hbl⟩
theorem write_ok {vm vb : Value} {mem bad : List Int} (hl : mem.length ≤ 2048) (hl2 : bad.length ≤ 5000) (hR : rightP mem bad = true) {a : Int} {b : Bool} (h : accP (2 * (mem.length : Int)) a b = true) (v : Int) (w : World) (hm : Nums .i64 w vm mem) (hb : Nums .i64 w vb bad) :
    Calls Try.prog 18 #[vm, vb, .int .i64 a, .bool b, .int .i64 v] w fun e w' => ∃ A c s, e = .returned (.tuple #[.slice A mem.length c, s, .int .i64 0]) ∧ Nums .i64 w' (.slice A mem.length c) (wordW mem a b v) ∧ Nums .i64 w' s (withoutP bad (evenP a)) ∧ Below w.heap.size w w' := by
  obtain ⟨_, hW, _, hs⟩ := right_out hR
  refine (write_any vm vb mem bad (by omega) (by omega) hW hs a b v w hm hb).mono ?_
  rintro e w' ⟨r, s, rfl, ho, hq, hbl⟩
  rw [writeM_ok h] at ho
  rw [writeB_ok h] at hq
  rw [writeT_acc h]
  obtain ⟨A, c, rfl⟩ := Own.shape ho (n := mem.length) (wordW_length _ _ _ _)
  exact ⟨A, c, s, rfl, ho.nums, hq.nums, hbl⟩

theorem keeps_law (vm vb : Value) (mem bad : List Int) (a : Int) (b : Bool) (v o : Int) (ha : a ≤ 9223372036854775807) (ho : o ≤ 9223372036854775807) (W0 : World) (hm : Nums .i64 W0 vm mem) (hv : Nums .i64 W0 vb bad) :
    Calls Try.prog 7 #[vm, vb, .agg #[.int .i64 a, .bool b, .int .i64 v, .int .i64 o]] W0 fun e w' => e = .returned (.bool true) ∧ Below W0.heap.size W0 w' := by
  have hal := fun w => alive_any w
  have hsl := fun w hm hv => small_any vm vb mem bad w hm hv
  have hX := Bx.put2 [.int .i64 a, .bool b, .int .i64 v] 30 (.cells #[.int .i64 a, .bool b, .int .i64 v, .int .i64 o] 47) W0
  replace hm := put2_nums hm (.cells #[.int .i64 a, .bool b, .int .i64 v, .int .i64 o] 47) (.cells #[.int .i64 a, .bool b, .int .i64 v] 30)
  replace hv := put2_nums hv (.cells #[.int .i64 a, .bool b, .int .i64 v, .int .i64 o] 47) (.cells #[.int .i64 a, .bool b, .int .i64 v] 30)
  cases hq : smallP mem bad
  · rw [hq] at hsl
    clear hq
    go_enter Try.func7, Try.ntmps7
    go_wp2
    go_region
    generalize ((W0.alloc (.cells #[.int .i64 a, .bool b, .int .i64 v, .int .i64 o] 47)).alloc (.cells #[.int .i64 a, .bool b, .int .i64 v] 30)).drew = w1 at *
    generalize W0.heap.size + 1 = B at *
    have c0 := hX.c 0 _ rfl
    have c1 := hX.c 1 _ rfl
    have c2 := hX.c 2 _ rfl
    go_wp2_with (first
      | (go_at_call 15; with_reducible refine (hsl _ hm hv).mono ?_; rintro e w' ⟨rfl, hb⟩; have hX := hX.step hb; have hm := hm.below hb; have hv := hv.below hb; have c0 := hX.c 0 _ rfl; have c1 := hX.c 1 _ rfl; have c2 := hX.c 2 _ rfl; clear hb))
    go_ret
    exact ⟨rfl, hX.below⟩
  · obtain ⟨h1, h2, hR⟩ := small_out hq
    rw [hq] at hsl
    clear hq
    cases hac : accP (2 * (mem.length : Int)) a b
    · have hw1 := fun w hm hv => write_no (vm := vm) (vb := vb) h1 h2 hR hac v w hm hv
      clear h1 h2 hR hac
      go_enter Try.func7, Try.ntmps7
      go_wp2
      go_region
      generalize ((W0.alloc (.cells #[.int .i64 a, .bool b, .int .i64 v, .int .i64 o] 47)).alloc (.cells #[.int .i64 a, .bool b, .int .i64 v] 30)).drew = w1 at *
      generalize W0.heap.size + 1 = B at *
      have c0 := hX.c 0 _ rfl
      have c1 := hX.c 1 _ rfl
      have c2 := hX.c 2 _ rfl
      go_wp2_with (first
        | (go_at_call 15; with_reducible refine (hsl _ hm hv).mono ?_; rintro e w' ⟨rfl, hb⟩; have hX := hX.step hb; have hm := hm.below hb; have hv := hv.below hb; have c0 := hX.c 0 _ rfl; have c1 := hX.c 1 _ rfl; have c2 := hX.c 2 _ rfl; clear hb)
        | (go_at_call 18; with_reducible refine (hw1 _ hm hv).mono ?_; rintro e w' ⟨A1, k1, A2, k2, rfl, hb⟩; have hX := hX.step hb; have c0 := hX.c 0 _ rfl; have c1 := hX.c 1 _ rfl; have c2 := hX.c 2 _ rfl; clear hb)
        | (go_at_call 14; with_reducible refine (hal _).mono ?_; rintro e w' ⟨rfl, hb⟩; have hX := hX.step hb; clear hb))
      all_goals
        go_ret
        exact ⟨ret_bool (by first | rfl | simp), hX.below⟩
    · obtain ⟨g0, g1, g2⟩ := acc_rng hac
      obtain ⟨f0, f1, f2⟩ := even_rng g0 g1 (by omega)
      have hRM := right_write hR a b v (evenP a)
      obtain ⟨_, hW, hbr, hs⟩ := right_out hR
      have hML := wordW_length mem a b v
      have hBl := List.length_filter_le (fun y => y != evenP a) bad
      have hBs := without_sorted (evenP a) hs
      have hMW := wordW_bad hR a b v
      have hRI := right_put hRM f0 f2 (by rw [hML]; exact f1)
      have hBn := without_contains (evenP a) bad
      obtain ⟨kT, kV⟩ := keep_read (bad := bad) v hac
      have hBl2 : (withoutP bad (evenP a)).length ≤ 2048 := Nat.le_trans hBl h2
      have hIl := ins_len (evenP a) (withoutP bad (evenP a))
      have hIs := ins_sorted (evenP a) _ hBs
      have hMw2 := word_twice mem a b v g0 g1
      have hKO := fun hd => keep_other (bad := bad) (o := o) v hac hd
      have hsp4 := read_spoilt (bad := withoutP bad (evenP a)) hac
      have hsE : spoilE (2 * (mem.length : Int)) (evenP a) = 0 := by unfold spoilE; rw [if_pos f2, if_pos ⟨f0, f1⟩]
      have hwi := without_ins (evenP a) _ hBn
      have hw1 := fun w hm hv => write_ok (vm := vm) (vb := vb) h1 (by omega) hR hac v w hm hv
      have hrt := fun v1 v2 w hm hb => right_any v1 v2 (wordW mem a b v) (withoutP bad (evenP a)) (by omega) (by omega) w hm hb
      have hr1 := fun v1 v2 w hm hb => read_any v1 v2 (wordW mem a b v) (withoutP bad (evenP a)) (by omega) (by omega) hBs a b w hm hb
      have hr2 := fun w hm hv => read_any vm vb mem bad (by omega) (by omega) hs o false w hm hv
      have hr3 := fun v1 v2 w hm hb => read_any v1 v2 (wordW mem a b v) (withoutP bad (evenP a)) (by omega) (by omega) hBs o false w hm hb
      have hsp : ∀ A c vb w, Nums .i64 w vb (withoutP bad (evenP a)) → Calls Try.prog 20 #[.slice A mem.length c, vb, .int .i64 (evenP a)] w fun e w' => ∃ r, e = .returned (.tuple #[r, .int .i64 0]) ∧ Nums .i64 w' r (insP (evenP a) (withoutP bad (evenP a))) ∧ Below w.heap.size w w' := by
        intro A c vb w hv
        refine (spoil_any A mem.length c (by omega) vb _ (by omega) hBs (evenP a) w hv).mono ?_
        rintro e w' ⟨r, rfl, ho, hb⟩
        rw [spoilL_ok hsE] at ho
        rw [hsE]
        exact ⟨r, rfl, ho.nums, hb⟩
      have hr4 := fun v1 v2 w hm hb => read_any v1 v2 (wordW mem a b v) (insP (evenP a) (withoutP bad (evenP a))) (by omega) (by omega) hIs a true w hm hb
      have hw2 := fun v1 v2 w hm hv => write_ok (vm := v1) (vb := v2) (by omega) (by omega) hRI (a := a) (b := b) (by rw [hML]; exact hac) v w hm hv
      rw [hMw2, hwi, hML] at hw2
      rw [hML, kT, kV] at hr1
      rw [hML] at hr3
      rw [hML, hsp4] at hr4
      rw [hRM] at hrt
      have hs1 := fun va vb w ha hb => same_two (wordW mem a b v) va vb w (by omega) ha hb
      have hs2 := fun va vb w ha hb => same_two (withoutP bad (evenP a)) va vb w (by omega) ha hb
      have A0 := a65535 v
      have A1 := a255 v
      have A2 := an1 g0 ha
      clear hBl hBs hMW hRI hBn kT kV hBl2 hIl hIs hMw2 hsp4 hsE hwi f0 f1 f2 hW hbr hs hRM hML h1 h2 hR
      generalize wordW mem a b v = M at *
      generalize withoutP bad (evenP a) = L at *
      generalize insP (evenP a) L = I at *
      generalize evenP a = E at *
      generalize readV M I a true = V4 at *
      by_cases hd : o / 2 = a / 2
      · have hdb : (o / 2 != a / 2) = false := by simpa using hd
        clear hKO hr2 hr3 hd hac g0 g1 g2
        generalize v % 65536 = y1 at *
        generalize v % 256 = y2 at *
        cases b
        · simp only [Bool.false_eq_true, if_false] at hr1
          go_enter Try.func7, Try.ntmps7
          go_wp2
          go_region
          generalize ((W0.alloc (.cells #[.int .i64 a, .bool false, .int .i64 v, .int .i64 o] 47)).alloc (.cells #[.int .i64 a, .bool false, .int .i64 v] 30)).drew = w1 at *
          generalize W0.heap.size + 1 = B at *
          have c0 := hX.c 0 _ rfl
          have c1 := hX.c 1 _ rfl
          have c2 := hX.c 2 _ rfl
          go_wp2_with (first
            | (go_at_call 15; with_reducible refine (hsl _ hm hv).mono ?_; rintro e w' ⟨rfl, hb⟩; have hX := hX.step hb; have hm := hm.below hb; have hv := hv.below hb; have c0 := hX.c 0 _ rfl; have c1 := hX.c 1 _ rfl; have c2 := hX.c 2 _ rfl; clear hb)
            | (go_at_call 18; with_reducible refine (hw1 _ hm hv).mono ?_; rintro e w' ⟨A1, k1, s1, rfl, p1, t1, hb⟩; have hX := hX.step hb; have hm := hm.below hb; have hv := hv.below hb; have c0 := hX.c 0 _ rfl; have c1 := hX.c 1 _ rfl; have c2 := hX.c 2 _ rfl; clear hb)
            | (go_at_call 16; with_reducible refine (hr1 _ _ _ p1 t1).mono ?_; rintro e w' ⟨rfl, hb⟩; have hX := hX.step hb; have hm := hm.below hb; have hv := hv.below hb; have p1 := p1.below hb; have t1 := t1.below hb; have c0 := hX.c 0 _ rfl; have c1 := hX.c 1 _ rfl; have c2 := hX.c 2 _ rfl; clear hb)
            | (go_at_call 12; with_reducible refine (hrt _ _ _ p1 t1).mono ?_; rintro e w' ⟨rfl, rfl⟩; skip)
            | (go_at_call 16; with_reducible refine (hr2 _ hm hv).mono ?_; rintro e w' ⟨rfl, hb⟩; have hX := hX.step hb; have hm := hm.below hb; have hv := hv.below hb; have p1 := p1.below hb; have t1 := t1.below hb; have c0 := hX.c 0 _ rfl; have c1 := hX.c 1 _ rfl; have c2 := hX.c 2 _ rfl; clear hb)
            | (go_at_call 16; with_reducible refine (hr3 _ _ _ p1 t1).mono ?_; rintro e w' ⟨rfl, hb⟩; have hX := hX.step hb; have hm := hm.below hb; have hv := hv.below hb; have p1 := p1.below hb; have t1 := t1.below hb; have c0 := hX.c 0 _ rfl; have c1 := hX.c 1 _ rfl; have c2 := hX.c 2 _ rfl; clear hb)
            | (go_at_call 20; with_reducible refine (hsp _ _ _ _ t1).mono ?_; rintro e w' ⟨r2, rfl, u1, hb⟩; have hX := hX.step hb; have p1 := p1.below hb; have t1 := t1.below hb; have c0 := hX.c 0 _ rfl; have c1 := hX.c 1 _ rfl; have c2 := hX.c 2 _ rfl; clear hb)
            | (go_at_call 16; with_reducible refine (hr4 _ _ _ p1 u1).mono ?_; rintro e w' ⟨rfl, hb⟩; have hX := hX.step hb; have p1 := p1.below hb; have t1 := t1.below hb; have u1 := u1.below hb; have c0 := hX.c 0 _ rfl; have c1 := hX.c 1 _ rfl; have c2 := hX.c 2 _ rfl; clear hb)
            | (go_at_call 18; with_reducible refine (hw2 _ _ _ p1 u1).mono ?_; rintro e w' ⟨A2, k2, s2, rfl, p2, t2, hb⟩; have hX := hX.step hb; have p1 := p1.below hb; have t1 := t1.below hb; have c0 := hX.c 0 _ rfl; have c1 := hX.c 1 _ rfl; have c2 := hX.c 2 _ rfl; clear hb)
            | (go_at_call 11; with_reducible refine (hs1 _ _ _ p2 p1).mono ?_; rintro e w' ⟨rfl, hb⟩; have hX := hX.step hb; have t1 := t1.below hb; have t2 := t2.below hb; have c0 := hX.c 0 _ rfl; have c1 := hX.c 1 _ rfl; have c2 := hX.c 2 _ rfl; clear hb)
            | (go_at_call 11; with_reducible refine (hs2 _ _ _ t2 t1).mono ?_; rintro e w' ⟨rfl, hb⟩; have hX := hX.step hb; clear hb)
            | (go_at_call 14; with_reducible refine (hal _).mono ?_; rintro e w' ⟨rfl, hb⟩; have hX := hX.step hb; clear hb))
          all_goals
            go_ret
            exact ⟨ret_bool (by first | rfl | simp), hX.below⟩
        · simp only [if_true] at hr1
          go_enter Try.func7, Try.ntmps7
          go_wp2
          go_region
          generalize ((W0.alloc (.cells #[.int .i64 a, .bool true, .int .i64 v, .int .i64 o] 47)).alloc (.cells #[.int .i64 a, .bool true, .int .i64 v] 30)).drew = w1 at *
          generalize W0.heap.size + 1 = B at *
          have c0 := hX.c 0 _ rfl
          have c1 := hX.c 1 _ rfl
          have c2 := hX.c 2 _ rfl
          go_wp2_with (first
            | (go_at_call 15; with_reducible refine (hsl _ hm hv).mono ?_; rintro e w' ⟨rfl, hb⟩; have hX := hX.step hb; have hm := hm.below hb; have hv := hv.below hb; have c0 := hX.c 0 _ rfl; have c1 := hX.c 1 _ rfl; have c2 := hX.c 2 _ rfl; clear hb)
            | (go_at_call 18; with_reducible refine (hw1 _ hm hv).mono ?_; rintro e w' ⟨A1, k1, s1, rfl, p1, t1, hb⟩; have hX := hX.step hb; have hm := hm.below hb; have hv := hv.below hb; have c0 := hX.c 0 _ rfl; have c1 := hX.c 1 _ rfl; have c2 := hX.c 2 _ rfl; clear hb)
            | (go_at_call 16; with_reducible refine (hr1 _ _ _ p1 t1).mono ?_; rintro e w' ⟨rfl, hb⟩; have hX := hX.step hb; have hm := hm.below hb; have hv := hv.below hb; have p1 := p1.below hb; have t1 := t1.below hb; have c0 := hX.c 0 _ rfl; have c1 := hX.c 1 _ rfl; have c2 := hX.c 2 _ rfl; clear hb)
            | (go_at_call 12; with_reducible refine (hrt _ _ _ p1 t1).mono ?_; rintro e w' ⟨rfl, rfl⟩; skip)
            | (go_at_call 16; with_reducible refine (hr2 _ hm hv).mono ?_; rintro e w' ⟨rfl, hb⟩; have hX := hX.step hb; have hm := hm.below hb; have hv := hv.below hb; have p1 := p1.below hb; have t1 := t1.below hb; have c0 := hX.c 0 _ rfl; have c1 := hX.c 1 _ rfl; have c2 := hX.c 2 _ rfl; clear hb)
            | (go_at_call 16; with_reducible refine (hr3 _ _ _ p1 t1).mono ?_; rintro e w' ⟨rfl, hb⟩; have hX := hX.step hb; have hm := hm.below hb; have hv := hv.below hb; have p1 := p1.below hb; have t1 := t1.below hb; have c0 := hX.c 0 _ rfl; have c1 := hX.c 1 _ rfl; have c2 := hX.c 2 _ rfl; clear hb)
            | (go_at_call 20; with_reducible refine (hsp _ _ _ _ t1).mono ?_; rintro e w' ⟨r2, rfl, u1, hb⟩; have hX := hX.step hb; have p1 := p1.below hb; have t1 := t1.below hb; have c0 := hX.c 0 _ rfl; have c1 := hX.c 1 _ rfl; have c2 := hX.c 2 _ rfl; clear hb)
            | (go_at_call 16; with_reducible refine (hr4 _ _ _ p1 u1).mono ?_; rintro e w' ⟨rfl, hb⟩; have hX := hX.step hb; have p1 := p1.below hb; have t1 := t1.below hb; have u1 := u1.below hb; have c0 := hX.c 0 _ rfl; have c1 := hX.c 1 _ rfl; have c2 := hX.c 2 _ rfl; clear hb)
            | (go_at_call 18; with_reducible refine (hw2 _ _ _ p1 u1).mono ?_; rintro e w' ⟨A2, k2, s2, rfl, p2, t2, hb⟩; have hX := hX.step hb; have p1 := p1.below hb; have t1 := t1.below hb; have c0 := hX.c 0 _ rfl; have c1 := hX.c 1 _ rfl; have c2 := hX.c 2 _ rfl; clear hb)
            | (go_at_call 11; with_reducible refine (hs1 _ _ _ p2 p1).mono ?_; rintro e w' ⟨rfl, hb⟩; have hX := hX.step hb; have t1 := t1.below hb; have t2 := t2.below hb; have c0 := hX.c 0 _ rfl; have c1 := hX.c 1 _ rfl; have c2 := hX.c 2 _ rfl; clear hb)
            | (go_at_call 11; with_reducible refine (hs2 _ _ _ t2 t1).mono ?_; rintro e w' ⟨rfl, hb⟩; have hX := hX.step hb; clear hb)
            | (go_at_call 14; with_reducible refine (hal _).mono ?_; rintro e w' ⟨rfl, hb⟩; have hX := hX.step hb; clear hb))
          all_goals
            go_ret
            exact ⟨ret_bool (by first | rfl | simp), hX.below⟩
      · have hdb : (o / 2 != a / 2) = true := by simpa using hd
        obtain ⟨ko1, ko2⟩ := hKO hd
        rw [ko1, ko2] at hr3
        clear hKO ko1 ko2 hd hac g0 g1 g2
        generalize readV mem bad o false = V2 at *
        generalize readT (2 * (mem.length : Int)) bad o false = T2 at *
        generalize v % 65536 = y1 at *
        generalize v % 256 = y2 at *
        cases b
        · simp only [Bool.false_eq_true, if_false] at hr1
          go_enter Try.func7, Try.ntmps7
          go_wp2
          go_region
          generalize ((W0.alloc (.cells #[.int .i64 a, .bool false, .int .i64 v, .int .i64 o] 47)).alloc (.cells #[.int .i64 a, .bool false, .int .i64 v] 30)).drew = w1 at *
          generalize W0.heap.size + 1 = B at *
          have c0 := hX.c 0 _ rfl
          have c1 := hX.c 1 _ rfl
          have c2 := hX.c 2 _ rfl
          go_wp2_with (first
            | (go_at_call 15; with_reducible refine (hsl _ hm hv).mono ?_; rintro e w' ⟨rfl, hb⟩; have hX := hX.step hb; have hm := hm.below hb; have hv := hv.below hb; have c0 := hX.c 0 _ rfl; have c1 := hX.c 1 _ rfl; have c2 := hX.c 2 _ rfl; clear hb)
            | (go_at_call 18; with_reducible refine (hw1 _ hm hv).mono ?_; rintro e w' ⟨A1, k1, s1, rfl, p1, t1, hb⟩; have hX := hX.step hb; have hm := hm.below hb; have hv := hv.below hb; have c0 := hX.c 0 _ rfl; have c1 := hX.c 1 _ rfl; have c2 := hX.c 2 _ rfl; clear hb)
            | (go_at_call 16; with_reducible refine (hr1 _ _ _ p1 t1).mono ?_; rintro e w' ⟨rfl, hb⟩; have hX := hX.step hb; have hm := hm.below hb; have hv := hv.below hb; have p1 := p1.below hb; have t1 := t1.below hb; have c0 := hX.c 0 _ rfl; have c1 := hX.c 1 _ rfl; have c2 := hX.c 2 _ rfl; clear hb)
            | (go_at_call 12; with_reducible refine (hrt _ _ _ p1 t1).mono ?_; rintro e w' ⟨rfl, rfl⟩; skip)
            | (go_at_call 16; with_reducible refine (hr2 _ hm hv).mono ?_; rintro e w' ⟨rfl, hb⟩; have hX := hX.step hb; have hm := hm.below hb; have hv := hv.below hb; have p1 := p1.below hb; have t1 := t1.below hb; have c0 := hX.c 0 _ rfl; have c1 := hX.c 1 _ rfl; have c2 := hX.c 2 _ rfl; clear hb)
            | (go_at_call 16; with_reducible refine (hr3 _ _ _ p1 t1).mono ?_; rintro e w' ⟨rfl, hb⟩; have hX := hX.step hb; have hm := hm.below hb; have hv := hv.below hb; have p1 := p1.below hb; have t1 := t1.below hb; have c0 := hX.c 0 _ rfl; have c1 := hX.c 1 _ rfl; have c2 := hX.c 2 _ rfl; clear hb)
            | (go_at_call 20; with_reducible refine (hsp _ _ _ _ t1).mono ?_; rintro e w' ⟨r2, rfl, u1, hb⟩; have hX := hX.step hb; have p1 := p1.below hb; have t1 := t1.below hb; have c0 := hX.c 0 _ rfl; have c1 := hX.c 1 _ rfl; have c2 := hX.c 2 _ rfl; clear hb)
            | (go_at_call 16; with_reducible refine (hr4 _ _ _ p1 u1).mono ?_; rintro e w' ⟨rfl, hb⟩; have hX := hX.step hb; have p1 := p1.below hb; have t1 := t1.below hb; have u1 := u1.below hb; have c0 := hX.c 0 _ rfl; have c1 := hX.c 1 _ rfl; have c2 := hX.c 2 _ rfl; clear hb)
            | (go_at_call 18; with_reducible refine (hw2 _ _ _ p1 u1).mono ?_; rintro e w' ⟨A2, k2, s2, rfl, p2, t2, hb⟩; have hX := hX.step hb; have p1 := p1.below hb; have t1 := t1.below hb; have c0 := hX.c 0 _ rfl; have c1 := hX.c 1 _ rfl; have c2 := hX.c 2 _ rfl; clear hb)
            | (go_at_call 11; with_reducible refine (hs1 _ _ _ p2 p1).mono ?_; rintro e w' ⟨rfl, hb⟩; have hX := hX.step hb; have t1 := t1.below hb; have t2 := t2.below hb; have c0 := hX.c 0 _ rfl; have c1 := hX.c 1 _ rfl; have c2 := hX.c 2 _ rfl; clear hb)
            | (go_at_call 11; with_reducible refine (hs2 _ _ _ t2 t1).mono ?_; rintro e w' ⟨rfl, hb⟩; have hX := hX.step hb; clear hb)
            | (go_at_call 14; with_reducible refine (hal _).mono ?_; rintro e w' ⟨rfl, hb⟩; have hX := hX.step hb; clear hb))
          all_goals
            go_ret
            exact ⟨ret_bool (by first | rfl | simp), hX.below⟩
        · simp only [if_true] at hr1
          go_enter Try.func7, Try.ntmps7
          go_wp2
          go_region
          generalize ((W0.alloc (.cells #[.int .i64 a, .bool true, .int .i64 v, .int .i64 o] 47)).alloc (.cells #[.int .i64 a, .bool true, .int .i64 v] 30)).drew = w1 at *
          generalize W0.heap.size + 1 = B at *
          have c0 := hX.c 0 _ rfl
          have c1 := hX.c 1 _ rfl
          have c2 := hX.c 2 _ rfl
          go_wp2_with (first
            | (go_at_call 15; with_reducible refine (hsl _ hm hv).mono ?_; rintro e w' ⟨rfl, hb⟩; have hX := hX.step hb; have hm := hm.below hb; have hv := hv.below hb; have c0 := hX.c 0 _ rfl; have c1 := hX.c 1 _ rfl; have c2 := hX.c 2 _ rfl; clear hb)
            | (go_at_call 18; with_reducible refine (hw1 _ hm hv).mono ?_; rintro e w' ⟨A1, k1, s1, rfl, p1, t1, hb⟩; have hX := hX.step hb; have hm := hm.below hb; have hv := hv.below hb; have c0 := hX.c 0 _ rfl; have c1 := hX.c 1 _ rfl; have c2 := hX.c 2 _ rfl; clear hb)
            | (go_at_call 16; with_reducible refine (hr1 _ _ _ p1 t1).mono ?_; rintro e w' ⟨rfl, hb⟩; have hX := hX.step hb; have hm := hm.below hb; have hv := hv.below hb; have p1 := p1.below hb; have t1 := t1.below hb; have c0 := hX.c 0 _ rfl; have c1 := hX.c 1 _ rfl; have c2 := hX.c 2 _ rfl; clear hb)
            | (go_at_call 12; with_reducible refine (hrt _ _ _ p1 t1).mono ?_; rintro e w' ⟨rfl, rfl⟩; skip)
            | (go_at_call 16; with_reducible refine (hr2 _ hm hv).mono ?_; rintro e w' ⟨rfl, hb⟩; have hX := hX.step hb; have hm := hm.below hb; have hv := hv.below hb; have p1 := p1.below hb; have t1 := t1.below hb; have c0 := hX.c 0 _ rfl; have c1 := hX.c 1 _ rfl; have c2 := hX.c 2 _ rfl; clear hb)
            | (go_at_call 16; with_reducible refine (hr3 _ _ _ p1 t1).mono ?_; rintro e w' ⟨rfl, hb⟩; have hX := hX.step hb; have hm := hm.below hb; have hv := hv.below hb; have p1 := p1.below hb; have t1 := t1.below hb; have c0 := hX.c 0 _ rfl; have c1 := hX.c 1 _ rfl; have c2 := hX.c 2 _ rfl; clear hb)
            | (go_at_call 20; with_reducible refine (hsp _ _ _ _ t1).mono ?_; rintro e w' ⟨r2, rfl, u1, hb⟩; have hX := hX.step hb; have p1 := p1.below hb; have t1 := t1.below hb; have c0 := hX.c 0 _ rfl; have c1 := hX.c 1 _ rfl; have c2 := hX.c 2 _ rfl; clear hb)
            | (go_at_call 16; with_reducible refine (hr4 _ _ _ p1 u1).mono ?_; rintro e w' ⟨rfl, hb⟩; have hX := hX.step hb; have p1 := p1.below hb; have t1 := t1.below hb; have u1 := u1.below hb; have c0 := hX.c 0 _ rfl; have c1 := hX.c 1 _ rfl; have c2 := hX.c 2 _ rfl; clear hb)
            | (go_at_call 18; with_reducible refine (hw2 _ _ _ p1 u1).mono ?_; rintro e w' ⟨A2, k2, s2, rfl, p2, t2, hb⟩; have hX := hX.step hb; have p1 := p1.below hb; have t1 := t1.below hb; have c0 := hX.c 0 _ rfl; have c1 := hX.c 1 _ rfl; have c2 := hX.c 2 _ rfl; clear hb)
            | (go_at_call 11; with_reducible refine (hs1 _ _ _ p2 p1).mono ?_; rintro e w' ⟨rfl, hb⟩; have hX := hX.step hb; have t1 := t1.below hb; have t2 := t2.below hb; have c0 := hX.c 0 _ rfl; have c1 := hX.c 1 _ rfl; have c2 := hX.c 2 _ rfl; clear hb)
            | (go_at_call 11; with_reducible refine (hs2 _ _ _ t2 t1).mono ?_; rintro e w' ⟨rfl, hb⟩; have hX := hX.step hb; clear hb)
            | (go_at_call 14; with_reducible refine (hal _).mono ?_; rintro e w' ⟨rfl, hb⟩; have hX := hX.step hb; clear hb))
          all_goals
            go_ret
            exact ⟨ret_bool (by first | rfl | simp), hX.below⟩
end Go.Proofs.Ytjjmgmnhcccjgaa
