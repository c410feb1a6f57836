/-
  Walks over the statements MemoryRight, MemoryAccess, MemorySpoils and MemoryRanges: whatever the input, they answer true. No condition.
-/
import Derived.Test.YtjjmgmnhcccjgaaMeN
namespace Go.Proofs.Ytjjmgmnhcccjgaa
open Go.RowKit
set_option linter.unusedSimpArgs false
set_option linter.unusedVariables false
set_option maxHeartbeats 4000000
set_option maxRecDepth 100000
attribute [local irreducible] wpQuiet

/-- A box; what lay below it is as it was. -/
structure Bx (B : Nat) (cs : List Value) (w0 w : World) : Prop where
  c : ∀ k v, cs[k]? = some v → w.cell? ⟨B, k, none⟩ = some v
  lt : B < w.heap.size
  below : Below w0.heap.size w0 w
theorem Bx.step {B : Nat} {cs : List Value} {w0 w w' : World} (h : Bx B cs w0 w) (hb : Below w.heap.size w w') : Bx B cs w0 w' :=
  ⟨fun k v hk => (hb.cell (p := ⟨B, k, none⟩) h.lt).trans (h.c k v hk), Nat.lt_of_lt_of_le h.lt hb.size, h.below.trans (hb.mono h.below.size)⟩
theorem Bx.put (cs : List Value) (t : TypeId) (w : World) : Bx w.heap.size cs w (w.alloc (.cells cs.toArray t)) :=
  ⟨fun k v hk => by rw [cell_of_row _ _ k _ t (0, 0) (heap_alloc_new w _)]; simpa using hk, by simp, (Below.refl _ _).alloc (Nat.le_refl _) _⟩
theorem put_nums {w : World} {v : Value} {l : List Int} (h : Nums .i64 w v l) (o : Obj) : Nums .i64 (w.alloc o) v l := h.below ((Below.refl _ _).alloc (Nat.le_refl _) o)

/-! ### Lengths -/
theorem newL_len (n : Int) : (newL n).length ≤ 1099511627776 := by
  unfold newL
  split
  · next h => have := okS_iff.1 h; rw [List.length_replicate]; omega
  · exact Nat.zero_le _
theorem writeM_len (mem : List Int) (a : Int) (b : Bool) (v : Int) : (writeM mem a b v).length ≤ mem.length := by
  unfold writeM
  split
  · rw [wordW_length]; exact Nat.le_refl _
  · exact Nat.zero_le _
theorem writeB_len (n : Int) (bad : List Int) (a : Int) (b : Bool) : (writeB n bad a b).length ≤ bad.length := by
  unfold writeB withoutP
  split
  · exact List.length_filter_le _ _
  · exact Nat.zero_le _
theorem ins_len (x : Int) : ∀ l : List Int, (insP x l).length ≤ l.length + 1
  | [] => Nat.le_refl _
  | a :: r => by
    unfold insP
    split
    · have := ins_len x r; simp only [List.length_cons]; omega
    · have := List.length_filter_le (fun y => y != x) (a :: r); simp only [List.length_cons] at *; omega
theorem spoilL_len (n : Int) (bad : List Int) (a : Int) : (spoilL n bad a).length ≤ bad.length + 1 := by
  unfold spoilL
  split
  · exact ins_len _ _
  · exact Nat.zero_le _
theorem storeL_len (l : List Int) (a : Int) (s : List UInt8) : (storeL l a s).length ≤ l.length := by
  unfold storeL
  split
  · rw [storeN_length]; exact Nat.le_refl _
  · exact Nat.zero_le _
theorem moveL_len (l : List Int) (d f k : Int) : (moveL l d f k).length ≤ l.length := by
  unfold moveL
  split
  · exact storeL_len _ _ _
  · exact Nat.zero_le _
theorem right_ins {mem bad : List Int} {a : Int} (h : rightP mem bad = true) (he : spoilE (2 * (mem.length : Int)) a = 0) : rightP mem (insP a bad) = true := by
  obtain ⟨h1, h2, h3, h4⟩ := right_out h
  have ha : a % 2 = 0 ∧ 0 ≤ a ∧ a < 2 * (mem.length : Int) := by
    unfold spoilE at he
    split at he
    · split at he
      · next p q => exact ⟨p, q.1, q.2⟩
      · exact absurd he (by decide)
    · exact absurd he (by decide)
  unfold rightP at h ⊢
  simp only [Bool.and_eq_true] at h ⊢
  refine ⟨h.1, h2, (badB_iff _ _ _).2 ⟨fun x hx => ?_, ins_sorted a bad h4⟩⟩
  rcases (ins_mem a x bad).1 hx with rfl | e
  · exact ⟨ha.2.1, ha.1, ha.2.2⟩
  · exact h3 x e

theorem right_law (n : Int) (vm vb : Value) (mem bad : List Int) (W0 : World) (hm : Nums .i64 W0 vm mem) (hv : Nums .i64 W0 vb bad) :
    Calls Try.prog 3 #[.int .i64 n, vm, vb] W0 fun e w' => e = .returned (.bool true) ∧ Below W0.heap.size W0 w' := by
  have hal := fun w => alive_any w
  have hn1 := fun w => new_any n w
  have hn2 := fun w => rnew_any n w
  have hsm := fun va vb w ha hb => same_two (newL n) va vb w (newL_len n) ha hb
  have hB := Below.refl W0.heap.size W0
  have hm0 := hm
  have hv0 := hv
  obtain ⟨A, ca, rfl, _, _⟩ := hm0
  obtain ⟨B, cb, rfl, _, _⟩ := hv0
  by_cases h1 : mem.length ≤ 2048
  · have i1 : ¬ 2048 < (mem.length : Int) := by omega
    by_cases h2 : bad.length ≤ 2048
    · have i2 : ¬ 2048 < (bad.length : Int) := by omega
      have hr1 := fun w hm hv => right_any (.slice A mem.length ca) (.slice B bad.length cb) mem bad (by omega) (by omega) w hm hv
      have hr2 := fun w hm hv => rright_any (.slice A mem.length ca) (.slice B bad.length cb) mem bad (by omega) (by omega) w hm hv
      generalize rightP mem bad = Q at *
      generalize newE n = E at *
      clear h1 h2
      go_enter Try.func3, Try.ntmps3
      go_wp2_with (first
        | (go_at_call 9; with_reducible refine (hn1 _).mono ?_; rintro e w' ⟨r1, rfl, ho1, hb⟩; have p1 := ho1.nums; clear ho1; have hm := hm.below hb; have hv := hv.below hb; have hB := hB.trans (hb.mono hB.size); clear hb)
        | (go_at_call 10; with_reducible refine (hn2 _).mono ?_; rintro e w' ⟨r2, rfl, ho2, hb⟩; have p2 := ho2.nums; clear ho2; have p1 := p1.below hb; have hm := hm.below hb; have hv := hv.below hb; have hB := hB.trans (hb.mono hB.size); clear hb)
        | (go_at_call 11; with_reducible refine (hsm _ _ _ p1 p2).mono ?_; rintro e w' ⟨rfl, hb⟩; have hm := hm.below hb; have hv := hv.below hb; have hB := hB.trans (hb.mono hB.size); clear hb)
        | (go_at_call 12; with_reducible refine (hr1 _ hm hv).mono ?_; rintro e w' ⟨rfl, rfl⟩; skip)
        | (go_at_call 13; with_reducible refine (hr2 _ hm hv).mono ?_; rintro e w' ⟨rfl, hb⟩; have hm := hm.below hb; have hv := hv.below hb; have hB := hB.trans (hb.mono hB.size); clear hb)
        | (go_at_call 14; with_reducible refine (hal _).mono ?_; rintro e w' ⟨rfl, hb⟩; have hB := hB.trans (hb.mono hB.size); clear hb))
      all_goals
        go_ret
        exact ⟨ret_bool (by first | rfl | simp), hB⟩
    · have i2 : 2048 < (bad.length : Int) := by omega
      clear h1 h2
      go_enter Try.func3, Try.ntmps3
      go_wp2
      go_ret
      exact ⟨rfl, hB⟩
  · have i1 : 2048 < (mem.length : Int) := by omega
    clear h1
    go_enter Try.func3, Try.ntmps3
    go_wp2
    go_ret
    exact ⟨rfl, hB⟩

theorem access_law (vm vb : Value) (mem bad : List Int) (a : Int) (b : Bool) (v : Int) (W0 : World) (hm : Nums .i64 W0 vm mem) (hv : Nums .i64 W0 vb bad) :
    Calls Try.prog 4 #[vm, vb, .agg #[.int .i64 a, .bool b, .int .i64 v]] W0 fun e w' => e = .returned (.bool true) ∧ Below W0.heap.size W0 w' := by
  have hal := fun w => alive_any w
  have hsl := fun w hm hv => small_any vm vb mem bad w hm hv
  have hX := Bx.put [.int .i64 a, .bool b, .int .i64 v] 30 W0
  have hm := put_nums hm (.cells #[.int .i64 a, .bool b, .int .i64 v] 30)
  have hv := put_nums hv (.cells #[.int .i64 a, .bool b, .int .i64 v] 30)
  cases hq : smallP mem bad
  · rw [hq] at hsl
    clear hq
    go_enter Try.func4, Try.ntmps4
    go_wp2_with (first
      | (go_at_call 15; with_reducible refine (hsl _ hm hv).mono ?_; rintro e w' ⟨rfl, hb⟩; have hX := hX.step hb; clear hb))
    go_ret
    exact ⟨rfl, hX.below⟩
  · obtain ⟨h1, h2, hR⟩ := small_out hq
    obtain ⟨_, hW, _, hs⟩ := right_out hR
    rw [hq] at hsl
    have hr1 := fun w hm hv => read_any vm vb mem bad (by omega) (by omega) hs a b w hm hv
    have hr2 := fun w hm hv => rread_any vm vb mem bad (by omega) (by omega) a b w hm hv
    have hw1 := fun w hm hv => write_any vm vb mem bad (by omega) (by omega) hW hs a b v w hm hv
    have hw2 := fun w hm hv => rwrite_any vm vb mem bad (by omega) (by omega) hW a b v w hm hv
    have hs1 := fun va vb w ha hb => same_two (writeM mem a b v) va vb w (by have := writeM_len mem a b v; omega) ha hb
    have hs2 := fun va vb w ha hb => same_two (writeB (2 * (mem.length : Int)) bad a b) va vb w (by have := writeB_len (2 * (mem.length : Int)) bad a b; omega) ha hb
    generalize readV mem bad a b = RV at *
    generalize readT (2 * (mem.length : Int)) bad a b = RT at *
    generalize writeM mem a b v = WM at *
    generalize writeB (2 * (mem.length : Int)) bad a b = WB at *
    generalize writeT (2 * (mem.length : Int)) a b = WT at *
    clear hq h1 h2 hR hW hs
    go_enter Try.func4, Try.ntmps4
    go_wp2_with (first
      | (go_at_call 15; with_reducible refine (hsl _ hm hv).mono ?_; rintro e w' ⟨rfl, hb⟩; have hX := hX.step hb; have hm := hm.below hb; have hv := hv.below hb; have hB := hX.below; have c0 := hX.c 0 _ rfl; have c1 := hX.c 1 _ rfl; have c2 := hX.c 2 _ rfl; clear hb)
      | (go_at_call 16; with_reducible refine (hr1 _ hm hv).mono ?_; rintro e w' ⟨rfl, hb⟩; have hX := hX.step hb; have hm := hm.below hb; have hv := hv.below hb; have hB := hX.below; have c0 := hX.c 0 _ rfl; have c1 := hX.c 1 _ rfl; have c2 := hX.c 2 _ rfl; clear hb)
      | (go_at_call 17; with_reducible refine (hr2 _ hm hv).mono ?_; rintro e w' ⟨rfl, hb⟩; have hX := hX.step hb; have hm := hm.below hb; have hv := hv.below hb; have hB := hX.below; have c0 := hX.c 0 _ rfl; have c1 := hX.c 1 _ rfl; have c2 := hX.c 2 _ rfl; clear hb)
      | (go_at_call 18; with_reducible refine (hw1 _ hm hv).mono ?_; rintro e w' ⟨r1, s1, rfl, o1, q1, hb⟩; have p1 := o1.nums; have t1 := q1.nums; clear o1 q1; have hX := hX.step hb; have hm := hm.below hb; have hv := hv.below hb; have hB := hX.below; have c0 := hX.c 0 _ rfl; have c1 := hX.c 1 _ rfl; have c2 := hX.c 2 _ rfl; clear hb)
      | (go_at_call 19; with_reducible refine (hw2 _ hm hv).mono ?_; rintro e w' ⟨r2, s2, rfl, o2, q2, hb⟩; have p2 := o2.nums; have t2 := q2.nums; clear o2 q2; have hX := hX.step hb; have hm := hm.below hb; have hv := hv.below hb; have p1 := p1.below hb; have t1 := t1.below hb; have hB := hX.below; have c0 := hX.c 0 _ rfl; have c1 := hX.c 1 _ rfl; have c2 := hX.c 2 _ rfl; clear hb)
      | (go_at_call 11; with_reducible refine (hs1 _ _ _ p1 p2).mono ?_; rintro e w' ⟨rfl, hb⟩; have t1 := t1.below hb; have t2 := t2.below hb; have hX := hX.step hb; clear hb)
      | (go_at_call 11; with_reducible refine (hs2 _ _ _ t1 t2).mono ?_; rintro e w' ⟨rfl, hb⟩; have hX := hX.step hb; clear hb)
      | (go_at_call 14; with_reducible refine (hal _).mono ?_; rintro e w' ⟨rfl, hb⟩; have hX := hX.step hb; clear hb))
    all_goals
      go_ret
      exact ⟨ret_bool (by first | rfl | simp), hX.below⟩

theorem spoils_law (vm vb : Value) (mem bad : List Int) (a : Int) (W0 : World) (hm : Nums .i64 W0 vm mem) (hv : Nums .i64 W0 vb bad) :
    Calls Try.prog 5 #[vm, vb, .int .i64 a] W0 fun e w' => e = .returned (.bool true) ∧ Below W0.heap.size W0 w' := by
  have hal := fun w => alive_any w
  have hsl := fun w hm hv => small_any vm vb mem bad w hm hv
  have hB := Below.refl W0.heap.size W0
  cases hq : smallP mem bad
  · rw [hq] at hsl
    clear hq
    go_enter Try.func5, Try.ntmps5
    go_wp2_with (first
      | (go_at_call 15; with_reducible refine (hsl _ hm hv).mono ?_; rintro e w' ⟨rfl, hb⟩; have hB := hB.trans (hb.mono hB.size); clear hb))
    go_ret
    exact ⟨rfl, hB⟩
  · obtain ⟨h1, h2, hR⟩ := small_out hq
    obtain ⟨_, hW, _, hs⟩ := right_out hR
    rw [hq] at hsl
    have hm0 := hm
    obtain ⟨A, ca, rfl, _, _⟩ := hm0
    have hp1 := fun w hv => spoil_any A mem.length ca (by omega) vb bad (by omega) hs a w hv
    have hp2 := fun w hv => rspoil_any A mem.length ca (by omega) vb bad (by omega) a w hv
    have hs1 := fun va vb w ha hb => same_two (spoilL (2 * (mem.length : Int)) bad a) va vb w (by have := spoilL_len (2 * (mem.length : Int)) bad a; omega) ha hb
    by_cases he : spoilE (2 * (mem.length : Int)) a = 0
    · have hri := right_ins hR he
      have hr := fun w hm v hv => right_any (.slice A mem.length ca) v mem (insP a bad) (by omega) (by have := ins_len a bad; omega) w hm hv
      rw [spoilL_ok he] at hp1 hp2 hs1
      rw [he] at hp1 hp2
      rw [hri] at hr
      generalize insP a bad = L at *
      clear hq h1 h2 hR hW hs he hri
      go_enter Try.func5, Try.ntmps5
      go_wp2_with (first
        | (go_at_call 15; with_reducible refine (hsl _ hm hv).mono ?_; rintro e w' ⟨rfl, hb⟩; have hm := hm.below hb; have hv := hv.below hb; have hB := hB.trans (hb.mono hB.size); clear hb)
        | (go_at_call 20; with_reducible refine (hp1 _ hv).mono ?_; rintro e w' ⟨r1, rfl, o1, hb⟩; have p1 := o1.nums; clear o1; have hm := hm.below hb; have hv := hv.below hb; have hB := hB.trans (hb.mono hB.size); clear hb)
        | (go_at_call 21; with_reducible refine (hp2 _ hv).mono ?_; rintro e w' ⟨r2, rfl, o2, hb⟩; have p2 := o2.nums; clear o2; have p1 := p1.below hb; have hm := hm.below hb; have hv := hv.below hb; have hB := hB.trans (hb.mono hB.size); clear hb)
        | (go_at_call 11; with_reducible refine (hs1 _ _ _ p1 p2).mono ?_; rintro e w' ⟨rfl, hb⟩; have p1 := p1.below hb; have hm := hm.below hb; have hv := hv.below hb; have hB := hB.trans (hb.mono hB.size); clear hb)
        | (go_at_call 12; with_reducible refine (hr _ hm _ p1).mono ?_; rintro e w' ⟨rfl, rfl⟩; skip)
        | (go_at_call 14; with_reducible refine (hal _).mono ?_; rintro e w' ⟨rfl, hb⟩; have hB := hB.trans (hb.mono hB.size); clear hb))
      all_goals
        go_ret
        exact ⟨ret_bool (by first | rfl | simp), hB⟩
    · have heb : (spoilE (2 * (mem.length : Int)) a != 0) = true := by simpa using he
      generalize spoilL (2 * (mem.length : Int)) bad a = L at *
      generalize spoilE (2 * (mem.length : Int)) a = E at *
      clear hq h1 h2 hR hW hs he
      go_enter Try.func5, Try.ntmps5
      go_wp2_with (first
        | (go_at_call 15; with_reducible refine (hsl _ hm hv).mono ?_; rintro e w' ⟨rfl, hb⟩; have hm := hm.below hb; have hv := hv.below hb; have hB := hB.trans (hb.mono hB.size); clear hb)
        | (go_at_call 20; with_reducible refine (hp1 _ hv).mono ?_; rintro e w' ⟨r1, rfl, o1, hb⟩; have p1 := o1.nums; clear o1; have hm := hm.below hb; have hv := hv.below hb; have hB := hB.trans (hb.mono hB.size); clear hb)
        | (go_at_call 21; with_reducible refine (hp2 _ hv).mono ?_; rintro e w' ⟨r2, rfl, o2, hb⟩; have p2 := o2.nums; clear o2; have p1 := p1.below hb; have hm := hm.below hb; have hv := hv.below hb; have hB := hB.trans (hb.mono hB.size); clear hb)
        | (go_at_call 11; with_reducible refine (hs1 _ _ _ p1 p2).mono ?_; rintro e w' ⟨rfl, hb⟩; have hm := hm.below hb; have hv := hv.below hb; have hB := hB.trans (hb.mono hB.size); clear hb)
        | (go_at_call 14; with_reducible refine (hal _).mono ?_; rintro e w' ⟨rfl, hb⟩; have hB := hB.trans (hb.mono hB.size); clear hb))
      all_goals
        go_ret
        exact ⟨ret_bool (by first | rfl | simp), hB⟩

theorem ranges_law (vm : Value) (mem : List Int) (s : ByteArray) (d f n : Int) (hd : d ≤ 9223372036854775807) (hf : f ≤ 9223372036854775807) (W0 : World) (hm : Nums .i64 W0 vm mem) :
    Calls Try.prog 6 #[vm, .string s, .agg #[.int .i64 d, .int .i64 f, .int .i64 n]] W0 fun e w' => e = .returned (.bool true) ∧ Below W0.heap.size W0 w' := by
  have hal := fun w => alive_any w
  have hsl := fun w hm => small_any vm (.slice none 0 0) mem [] w hm (Nums.nil _ _)
  have hX := Bx.put [.int .i64 d, .int .i64 f, .int .i64 n] 40 W0
  have hm := put_nums hm (.cells #[.int .i64 d, .int .i64 f, .int .i64 n] 40)
  cases hq : smallP mem []
  · rw [hq] at hsl
    clear hq
    go_enter Try.func6, Try.ntmps6
    go_wp2_with (first
      | (go_at_call 15; with_reducible refine (hsl _ hm).mono ?_; rintro e w' ⟨rfl, hb⟩; have hX := hX.step hb; clear hb))
    go_ret
    exact ⟨rfl, hX.below⟩
  · rw [hq] at hsl
    by_cases hss : s.size ≤ 5000
    · have hsb : ¬ 5000 < (s.size : Int) := by omega
      obtain ⟨h1, h2, hR⟩ := small_out hq
      obtain ⟨hpos, hW, _, hs⟩ := right_out hR
      have hb1 := fun w hm => bytes_any vm mem (by omega) f n hf w hm
      have hb2 := fun w hm => rbytes_any vm mem (by omega) f n hf w hm
      have ht1 := fun w hm => store_any vm mem (by omega) hW (by omega) d hd s (by omega) w hm
      have ht2 := fun w hm => rstore_any vm mem (by omega) hW (by omega) d hd s (by omega) w hm
      have hv1 := fun w hm => move_any vm mem (by omega) hW (by omega) d f n hd hf w hm
      have hv2 := fun w hm => rmove_any vm mem (by omega) hW (by omega) d f n hd hf w hm
      have hs1 := fun va vb w ha hb => same_two (storeL mem d s.data.toList) va vb w (by have := storeL_len mem d s.data.toList; omega) ha hb
      have hs2 := fun va vb w ha hb => same_two (moveL mem d f n) va vb w (by have := moveL_len mem d f n; omega) ha hb
      generalize bytesS mem f n = BS at *
      generalize (⟨BS.toArray⟩ : ByteArray) = TS at *
      generalize bytesE (2 * (mem.length : Int)) f n = BE at *
      generalize storeL mem d s.data.toList = SL at *
      generalize bytesE (2 * (mem.length : Int)) d (s.size : Int) = SE at *
      generalize moveL mem d f n = ML at *
      generalize moveE (2 * (mem.length : Int)) d f n = ME at *
      clear hq h1 h2 hR hW hs hpos hss
      go_enter Try.func6, Try.ntmps6
      go_wp2_with (first
        | (go_at_call 15; with_reducible refine (hsl _ hm).mono ?_; rintro e w' ⟨rfl, hb⟩; have hX := hX.step hb; have hm := hm.below hb; have c0 := hX.c 0 _ rfl; have c1 := hX.c 1 _ rfl; have c2 := hX.c 2 _ rfl; clear hb)
        | (go_at_call 22; with_reducible refine (hb1 _ hm).mono ?_; rintro e w' ⟨rfl, hb⟩; have hX := hX.step hb; have hm := hm.below hb; have c0 := hX.c 0 _ rfl; have c1 := hX.c 1 _ rfl; have c2 := hX.c 2 _ rfl; clear hb)
        | (go_at_call 23; with_reducible refine (hb2 _ hm).mono ?_; rintro e w' ⟨rfl, hb⟩; have hX := hX.step hb; have hm := hm.below hb; have c0 := hX.c 0 _ rfl; have c1 := hX.c 1 _ rfl; have c2 := hX.c 2 _ rfl; clear hb)
        | (go_at_call 24; with_reducible refine (ht1 _ hm).mono ?_; rintro e w' ⟨r1, rfl, o1, hb⟩; have p1 := o1.nums; clear o1; have hX := hX.step hb; have hm := hm.below hb; have c0 := hX.c 0 _ rfl; have c1 := hX.c 1 _ rfl; have c2 := hX.c 2 _ rfl; clear hb)
        | (go_at_call 25; with_reducible refine (ht2 _ hm).mono ?_; rintro e w' ⟨r2, rfl, o2, hb⟩; have p2 := o2.nums; clear o2; have hX := hX.step hb; have hm := hm.below hb; have p1 := p1.below hb; have c0 := hX.c 0 _ rfl; have c1 := hX.c 1 _ rfl; have c2 := hX.c 2 _ rfl; clear hb)
        | (go_at_call 26; with_reducible refine (hv1 _ hm).mono ?_; rintro e w' ⟨r3, rfl, o3, hb⟩; have p3 := o3.nums; clear o3; have hX := hX.step hb; have hm := hm.below hb; have p1 := p1.below hb; have p2 := p2.below hb; have c0 := hX.c 0 _ rfl; have c1 := hX.c 1 _ rfl; have c2 := hX.c 2 _ rfl; clear hb)
        | (go_at_call 27; with_reducible refine (hv2 _ hm).mono ?_; rintro e w' ⟨r4, rfl, o4, hb⟩; have p4 := o4.nums; clear o4; have hX := hX.step hb; have hm := hm.below hb; have p1 := p1.below hb; have p2 := p2.below hb; have p3 := p3.below hb; have c0 := hX.c 0 _ rfl; have c1 := hX.c 1 _ rfl; have c2 := hX.c 2 _ rfl; clear hb)
        | (go_at_call 11; with_reducible refine (hs1 _ _ _ p1 p2).mono ?_; rintro e w' ⟨rfl, hb⟩; have p3 := p3.below hb; have p4 := p4.below hb; have hX := hX.step hb; clear hb)
        | (go_at_call 11; with_reducible refine (hs2 _ _ _ p3 p4).mono ?_; rintro e w' ⟨rfl, hb⟩; have hX := hX.step hb; clear hb)
        | (go_at_call 14; with_reducible refine (hal _).mono ?_; rintro e w' ⟨rfl, hb⟩; have hX := hX.step hb; clear hb))
      all_goals
        go_ret
        exact ⟨ret_bool (by first | rfl | simp), hX.below⟩
    · have hsb : 5000 < (s.size : Int) := by omega
      clear hq hss
      go_enter Try.func6, Try.ntmps6
      go_wp2_with (first
        | (go_at_call 15; with_reducible refine (hsl _ hm).mono ?_; rintro e w' ⟨rfl, hb⟩; have hX := hX.step hb; clear hb))
      go_ret
      exact ⟨rfl, hX.below⟩
end Go.Proofs.Ytjjmgmnhcccjgaa
