/-
  Walk over the statement MemoryMoves: whatever the input, it answers true. No condition.
-/
import Derived.Test.YtjjmgmnhcccjgaaMeO
namespace Go.Proofs.Ytjjmgmnhcccjgaa
open Go.RowKit
set_option linter.unusedSimpArgs false
set_option linter.unusedVariables false
set_option maxHeartbeats 4000000
set_option maxRecDepth 100000
attribute [local irreducible] wpQuiet

/-! ### Plain -/
theorem inR_in {n a k : Int} (h0 : 0 ≤ a) (h1 : 0 ≤ k) (h2 : k ≤ n - a) : inR n a k = true := by simp [inR, h0, h1, h2]
theorem move_read {mem : List Int} {d f n : Int} (h : moveE (2 * (mem.length : Int)) d f n = 0) :
    bytesE (2 * (mem.length : Int)) f n = 0 ∧ bytesE (2 * (mem.length : Int)) d n = 0 ∧ (moveL mem d f n).length = mem.length ∧ bytesS (moveL mem d f n) d n = bytesS mem f n := by
  unfold moveE at h
  split at h
  · next hf =>
    unfold bytesE at h
    split at h
    · next hd =>
      obtain ⟨f0, f1, f2⟩ := inR_rng hf
      obtain ⟨d0, d1, d2⟩ := inR_rng hd
      have hbl := bytesN_length mem n.toNat f.toNat
      have e1 : moveL mem d f n = storeN mem d.toNat (bytesN mem f.toNat n.toNat) := by
        unfold moveL
        rw [if_pos hf, bytesS_ok hf, storeL_ok (by rw [hbl, Int.toNat_of_nonneg f1]; exact hd)]
      have hl : (moveL mem d f n).length = mem.length := by rw [e1, storeN_length]
      refine ⟨bytesE_ok hf, bytesE_ok hd, hl, ?_⟩
      rw [bytesS_ok (by rw [hl]; exact hd), bytesS_ok hf, e1]
      have k := bytes_store (bytesN mem f.toNat n.toNat) mem d.toNat (by rw [hbl]; omega)
      rw [hbl] at k
      exact k
    · exact absurd h (by decide)
  · exact absurd h (by decide)
theorem all_ok (l : List Int) : bytesE (2 * (l.length : Int)) 0 (2 * (l.length : Int)) = 0 ∧ bytesS l 0 (2 * (l.length : Int)) = bytesN l 0 (2 * l.length) := by
  have h : inR (2 * (l.length : Int)) 0 (2 * (l.length : Int)) = true := inR_in (by omega) (by omega) (by omega)
  refine ⟨bytesE_ok h, ?_⟩
  rw [bytesS_ok h]
  congr 1
theorem store_around {mem : List Int} {D : Nat} {S : List UInt8} (h : inR (2 * (mem.length : Int)) (D : Int) (S.length : Int) = true) :
    storeL mem (D : Int) S = storeN mem D S ∧ bytesN (storeN mem D S) 0 (2 * mem.length) = (bytesN mem 0 (2 * mem.length)).take D ++ S ++ (bytesN mem 0 (2 * mem.length)).drop (D + S.length) := by
  obtain ⟨_, _, h2⟩ := inR_rng h
  refine ⟨by rw [storeL_ok h, Int.toNat_natCast], bytes_around S mem D _ (by omega) rfl⟩
theorem cut_list (s : ByteArray) (i j : Nat) : (s.extract i j).data.toList = (s.data.toList.drop i).take (j - i) := by
  simp [ByteArray.data_extract, List.extract_eq_take_drop]
theorem text_ext {a b : ByteArray} (h : a.data.toList = b.data.toList) : a = b := by
  obtain ⟨⟨x⟩⟩ := a
  obtain ⟨⟨y⟩⟩ := b
  simp only at h
  rw [h]
theorem around_text {X U : List UInt8} {s : ByteArray} {D : Nat} (h : U = X.take D ++ s.data.toList ++ X.drop (D + s.size)) (hX : D + s.size ≤ X.length) :
    (⟨U.toArray⟩ : ByteArray) = (⟨X.toArray⟩ : ByteArray).extract 0 D ++ s ++ (⟨X.toArray⟩ : ByteArray).extract (D + s.size) X.length := by
  apply text_ext
  rw [ByteArray.data_append, ByteArray.data_append, Array.toList_append, Array.toList_append, cut_list, cut_list]
  show U = _
  rw [h]
  simp only [List.drop_zero, Nat.sub_zero]
  congr 1
  rw [List.take_of_length_le (by rw [List.length_drop]; exact Nat.le_refl _)]
theorem str_eq {a b : ByteArray} (h : a = b) : (a.toList == b.toList) = true := by rw [h]; simp
theorem store_no {vm : Value} {mem : List Int} (hl : mem.length ≤ 2048) (hW : wordsB mem = true) (hpos : 0 < mem.length) {d : Int} {s : ByteArray} (hd : d ≤ 9223372036854775807) (hs : s.size ≤ 5000) (h : inR (2 * (mem.length : Int)) d (s.size : Int) = false) (w : World) (hm : Nums .i64 w vm mem) :
    Calls Try.prog 24 #[vm, .int .i64 d, .string s] w fun e w' => ∃ A c, e = .returned (.tuple #[.slice A 0 c, .int .i64 2]) ∧ Below w.heap.size w w' := by
  refine (store_any vm mem (by omega) hW hpos d hd s (by omega) w hm).mono ?_
  rintro e w' ⟨r, rfl, ho, hb⟩
  rw [storeL_no h] at ho
  rw [bytesE_no h]
  obtain ⟨A, c, rfl⟩ := Own.shape ho (n := 0) rfl
  exact ⟨A, c, rfl, hb⟩
theorem store_ok {vm : Value} {mem : List Int} (hl : mem.length ≤ 2048) (hW : wordsB mem = true) (hpos : 0 < mem.length) {D : Nat} {s : ByteArray} (hs : s.size ≤ 5000) (h : inR (2 * (mem.length : Int)) (D : Int) (s.size : Int) = true) (w : World) (hm : Nums .i64 w vm mem) :
    Calls Try.prog 24 #[vm, .int .i64 (D : Int), .string s] w fun e w' => ∃ A c, e = .returned (.tuple #[.slice A mem.length c, .int .i64 0]) ∧ Nums .i64 w' (.slice A mem.length c) (storeN mem D s.data.toList) ∧ Below w.heap.size w w' := by
  obtain ⟨_, _, h2⟩ := inR_rng h
  refine (store_any vm mem (by omega) hW hpos (D : Int) (by omega) s (by omega) w hm).mono ?_
  rintro e w' ⟨r, rfl, ho, hb⟩
  rw [(store_around (S := s.data.toList) h).1] at ho
  rw [bytesE_ok h]
  obtain ⟨A, c, rfl⟩ := Own.shape ho (n := mem.length) (storeN_length _ _ _)
  exact ⟨A, c, rfl, ho.nums, hb⟩

theorem moves_law (vm : Value) (mem : List Int) (s : ByteArray) (d f n : Int) (hd : d ≤ 9223372036854775807) (hf : f ≤ 9223372036854775807) (W0 : World) (hm : Nums .i64 W0 vm mem) :
    Calls Try.prog 8 #[vm, .string s, .agg #[.int .i64 d, .int .i64 f, .int .i64 n]] W0 fun e w' => e = .returned (.bool true) ∧ Below W0.heap.size W0 w' := by
  have hal := fun w => alive_any w
  have hm0 := hm
  obtain ⟨A, ca, rfl, _, _⟩ := hm0
  have hsl := fun w hm => small_any (.slice A mem.length ca) (.slice none 0 0) mem [] w hm (Nums.nil _ _)
  have hX := Bx.put [.int .i64 d, .int .i64 f, .int .i64 n] 40 W0
  replace hm := put_nums hm (.cells #[.int .i64 d, .int .i64 f, .int .i64 n] 40)
  cases hq : smallP mem []
  · rw [hq] at hsl
    clear hq
    go_enter Try.func8, Try.ntmps8
    go_wp2_with (first
      | (go_at_call 15; with_reducible refine (hsl _ hm).mono ?_; rintro e w' ⟨rfl, hb⟩; have hX := hX.step hb; have hm := hm.below hb; have c0 := hX.c 0 _ rfl; have c1 := hX.c 1 _ rfl; have c2 := hX.c 2 _ rfl; clear hb))
    go_ret
    exact ⟨rfl, hX.below⟩
  · rw [hq] at hsl
    by_cases hss : s.size ≤ 5000
    · have hsb : ¬ 5000 < (s.size : Int) := by omega
      obtain ⟨h1, h2, hR⟩ := small_out hq
      obtain ⟨hpos, hW, _, hs⟩ := right_out hR
      have hb1 := fun w hm => bytes_any (.slice A mem.length ca) mem (by omega) f n hf w hm
      have hmv := fun w hm => move_any (.slice A mem.length ca) mem (by omega) hW (by omega) d f n hd hf w hm
      have hML := moveL_len mem d f n
      have hb2 := fun v w hm => bytes_any v (moveL mem d f n) (by omega) d n hd w hm
      have hmr := @move_read mem d f n
      have hall := all_ok mem
      cases hin : inR (2 * (mem.length : Int)) d (s.size : Int)
      · have hst := fun w hm => store_no (vm := .slice A mem.length ca) h1 hW (by omega) hd hss hin w hm
        by_cases hme : moveE (2 * (mem.length : Int)) d f n = 0
        · obtain ⟨e1, e2, e3, e4⟩ := hmr hme
          rw [hme] at hmv
          rw [e1] at hb1
          rw [e3, e2, e4] at hb2
          generalize bytesS mem f n = BS at *
          generalize (⟨BS.toArray⟩ : ByteArray) = TS at *
          generalize moveL mem d f n = ML at *
          clear hq h1 h2 hR hW hs hpos hss hme hmr e1 e2 e3 e4 hML hin hall
          go_enter Try.func8, Try.ntmps8
          go_wp2_with (first
            | (go_at_call 15; with_reducible refine (hsl _ hm).mono ?_; rintro e w' ⟨rfl, hb⟩; have hX := hX.step hb; have hm := hm.below hb; have c0 := hX.c 0 _ rfl; have c1 := hX.c 1 _ rfl; have c2 := hX.c 2 _ rfl; clear hb)
            | (go_at_call 22; with_reducible refine (hb1 _ hm).mono ?_; rintro e w' ⟨rfl, hb⟩; have hX := hX.step hb; have hm := hm.below hb; have c0 := hX.c 0 _ rfl; have c1 := hX.c 1 _ rfl; have c2 := hX.c 2 _ rfl; clear hb)
            | (go_at_call 26; with_reducible refine (hmv _ hm).mono ?_; rintro e w' ⟨r3, rfl, o3, hb⟩; have p3 := o3.nums; clear o3; have hX := hX.step hb; have hm := hm.below hb; have c0 := hX.c 0 _ rfl; have c1 := hX.c 1 _ rfl; have c2 := hX.c 2 _ rfl; clear hb)
            | (go_at_call 22; with_reducible refine (hb2 _ _ p3).mono ?_; rintro e w' ⟨rfl, hb⟩; have hX := hX.step hb; have hm := hm.below hb; have c0 := hX.c 0 _ rfl; have c1 := hX.c 1 _ rfl; have c2 := hX.c 2 _ rfl; clear hb)
            | (go_at_call 24; with_reducible refine (hst _ hm).mono ?_; rintro e w' ⟨A5, k5, rfl, hb⟩; have hX := hX.step hb; have hm := hm.below hb; have c0 := hX.c 0 _ rfl; have c1 := hX.c 1 _ rfl; have c2 := hX.c 2 _ rfl; clear hb)
            | (go_at_call 14; with_reducible refine (hal _).mono ?_; rintro e w' ⟨rfl, hb⟩; have hX := hX.step hb; clear hb))
          all_goals
            go_ret
            exact ⟨ret_bool (by first | rfl | simp), hX.below⟩
        · have hmb : (moveE (2 * (mem.length : Int)) d f n == 0) = false := by simpa using hme
          generalize bytesS mem f n = BS at *
          generalize (⟨BS.toArray⟩ : ByteArray) = TS at *
          generalize bytesE (2 * (mem.length : Int)) f n = BE at *
          generalize moveL mem d f n = ML at *
          generalize moveE (2 * (mem.length : Int)) d f n = ME at *
          clear hq h1 h2 hR hW hs hpos hss hme hmr hML hin hall hb2
          go_enter Try.func8, Try.ntmps8
          go_wp2_with (first
            | (go_at_call 15; with_reducible refine (hsl _ hm).mono ?_; rintro e w' ⟨rfl, hb⟩; have hX := hX.step hb; have hm := hm.below hb; have c0 := hX.c 0 _ rfl; have c1 := hX.c 1 _ rfl; have c2 := hX.c 2 _ rfl; clear hb)
            | (go_at_call 22; with_reducible refine (hb1 _ hm).mono ?_; rintro e w' ⟨rfl, hb⟩; have hX := hX.step hb; have hm := hm.below hb; have c0 := hX.c 0 _ rfl; have c1 := hX.c 1 _ rfl; have c2 := hX.c 2 _ rfl; clear hb)
            | (go_at_call 26; with_reducible refine (hmv _ hm).mono ?_; rintro e w' ⟨r3, rfl, o3, hb⟩; have p3 := o3.nums; clear o3; have hX := hX.step hb; have hm := hm.below hb; have c0 := hX.c 0 _ rfl; have c1 := hX.c 1 _ rfl; have c2 := hX.c 2 _ rfl; clear hb)
            | (go_at_call 22; with_reducible refine (hb2 _ _ p3).mono ?_; rintro e w' ⟨rfl, hb⟩; have hX := hX.step hb; have hm := hm.below hb; have c0 := hX.c 0 _ rfl; have c1 := hX.c 1 _ rfl; have c2 := hX.c 2 _ rfl; clear hb)
            | (go_at_call 24; with_reducible refine (hst _ hm).mono ?_; rintro e w' ⟨A5, k5, rfl, hb⟩; have hX := hX.step hb; have hm := hm.below hb; have c0 := hX.c 0 _ rfl; have c1 := hX.c 1 _ rfl; have c2 := hX.c 2 _ rfl; clear hb)
            | (go_at_call 14; with_reducible refine (hal _).mono ?_; rintro e w' ⟨rfl, hb⟩; have hX := hX.step hb; clear hb))
          all_goals
            go_ret
            exact ⟨ret_bool (by first | rfl | simp), hX.below⟩
      · obtain ⟨g0, g1, g2⟩ := inR_rng hin
        obtain ⟨D, rfl⟩ := Int.eq_ofNat_of_zero_le g0
        have hst := fun w hm => store_ok (vm := .slice A mem.length ca) h1 hW (by omega) hss hin w hm
        obtain ⟨_, hSA⟩ := store_around (S := s.data.toList) hin
        have hb3 := fun w hm => bytes_any (.slice A mem.length ca) mem (by omega) 0 (2 * (mem.length : Int)) (by decide) w hm
        rw [hall.1, hall.2] at hb3
        have hSL := storeN_length s.data.toList mem D
        have hb4 := fun v w hm => bytes_any v (storeN mem D s.data.toList) (by omega) 0 (2 * (mem.length : Int)) (by decide) w hm
        have hall2 := all_ok (storeN mem D s.data.toList)
        rw [hSL] at hall2
        rw [hSL, hall2.1, hall2.2] at hb4
        have hXl := bytesN_length mem (2 * mem.length) 0
        have hU := str_eq (around_text hSA (by rw [hXl]; omega))
        rw [hXl] at hU
        have hTs : (⟨(bytesN mem 0 (2 * mem.length)).toArray⟩ : ByteArray).size = 2 * mem.length := hXl
        generalize (⟨(bytesN mem 0 (2 * mem.length)).toArray⟩ : ByteArray) = T at *
        generalize (⟨(bytesN (storeN mem D s.data.toList) 0 (2 * mem.length)).toArray⟩ : ByteArray) = U at *
        generalize storeN mem D s.data.toList = SL at *
        have t0 : (T.size : Int) = 2 * (mem.length : Int) := by omega
        have t1 : ¬ 2 * (mem.length : Int) - (s.size : Int) < (D : Int) := by omega
        have t2 : D ≤ T.size := by omega
        have t3 : D + s.size ≤ T.size := by omega
        have t4 : (D : Int) + (s.size : Int) ≤ (T.size : Int) := by omega
        have t5 : IntKind.i64.wrap ((D : Int) + (s.size : Int)) = (D : Int) + (s.size : Int) := by rw [wrap_i64]; exact IntWalk.wrap64_in _ ⟨by omega, by omega⟩
        have u1 : (D : Int) ≤ 2 * (mem.length : Int) := by omega
        have u2 : (D : Int) + (s.size : Int) ≤ 2 * (mem.length : Int) := by omega
        have k1 : ¬ 9223372036854775807 < min D (2 * mem.length) + s.size := by omega
        have k2 : ¬ 9223372036854775807 < min D (2 * mem.length) + s.size + (2 * mem.length - (D + s.size)) := by omega
        have t6 : 0 ≤ (D : Int) + (s.size : Int) := by omega
        have t7 : ((D : Int) + (s.size : Int)).toNat = D + s.size := by omega
        by_cases hme : moveE (2 * (mem.length : Int)) (D : Int) f n = 0
        · obtain ⟨e1, e2, e3, e4⟩ := hmr hme
          rw [hme] at hmv
          rw [e1] at hb1
          rw [e3, e2, e4] at hb2
          generalize bytesS mem f n = BS at *
          generalize (⟨BS.toArray⟩ : ByteArray) = TS at *
          generalize moveL mem (D : Int) f n = ML at *
          clear hq h2 hR hW hs hpos hss hme hmr e1 e2 e3 e4 hML hin hall hall2 hSA hSL hXl g0 g1 g2
          go_enter Try.func8, Try.ntmps8
          go_wp2_with (first
            | (go_at_call 15; with_reducible refine (hsl _ hm).mono ?_; rintro e w' ⟨rfl, hb⟩; have hX := hX.step hb; have hm := hm.below hb; have c0 := hX.c 0 _ rfl; have c1 := hX.c 1 _ rfl; have c2 := hX.c 2 _ rfl; clear hb)
            | (go_at_call 22; with_reducible refine (hb1 _ hm).mono ?_; rintro e w' ⟨rfl, hb⟩; have hX := hX.step hb; have hm := hm.below hb; have c0 := hX.c 0 _ rfl; have c1 := hX.c 1 _ rfl; have c2 := hX.c 2 _ rfl; clear hb)
            | (go_at_call 26; with_reducible refine (hmv _ hm).mono ?_; rintro e w' ⟨r3, rfl, o3, hb⟩; have p3 := o3.nums; clear o3; have hX := hX.step hb; have hm := hm.below hb; have c0 := hX.c 0 _ rfl; have c1 := hX.c 1 _ rfl; have c2 := hX.c 2 _ rfl; clear hb)
            | (go_at_call 22; with_reducible refine (hb2 _ _ p3).mono ?_; rintro e w' ⟨rfl, hb⟩; have hX := hX.step hb; have hm := hm.below hb; have c0 := hX.c 0 _ rfl; have c1 := hX.c 1 _ rfl; have c2 := hX.c 2 _ rfl; clear hb)
            | (go_at_call 24; with_reducible refine (hst _ hm).mono ?_; rintro e w' ⟨A5, k5, rfl, p5, hb⟩; have hX := hX.step hb; have hm := hm.below hb; have c0 := hX.c 0 _ rfl; have c1 := hX.c 1 _ rfl; have c2 := hX.c 2 _ rfl; clear hb)
            | (go_at_call 22; with_reducible refine (hb3 _ hm).mono ?_; rintro e w' ⟨rfl, hb⟩; have hX := hX.step hb; have p5 := p5.below hb; have c0 := hX.c 0 _ rfl; have c1 := hX.c 1 _ rfl; have c2 := hX.c 2 _ rfl; clear hb)
            | (go_at_call 22; with_reducible refine (hb4 _ _ p5).mono ?_; rintro e w' ⟨rfl, hb⟩; have hX := hX.step hb; have c0 := hX.c 0 _ rfl; have c1 := hX.c 1 _ rfl; have c2 := hX.c 2 _ rfl; clear hb))
          refine region_class (fun w' => Bx W0.heap.size [.int .i64 (D : Int), .int .i64 f, .int .i64 n] W0 w') (by kernel_rfl) (by kernel_rfl) ⟨hX.c, hX.lt, hX.below.drew⟩ ?_
          clear hX hm c0 c1 c2 p5
          repeat
            first
              | (refine BigFrame.wpQuiet_skip (by rfl) ?_
                 simp only [Act.put, List.setIfInBounds_toArray, List.set_cons_zero, List.set_cons_succ])
              | (refine BigFrame.wpQuiet_want (by rfl) (fun K hK => ?_)
                 apply Exists.intro
                 refine ⟨fun wq hq => ?_, hK _ ?_⟩
                 · have c0 := hq.c 0 _ rfl
                   unfold Oper.quietAt
                   go_simp
                   first
                     | with_reducible rfl
                     | ((go_at_call 14); with_reducible refine (hal _).mono ?_; exact fun e w' ⟨he, hb⟩ => ⟨he, hq.step hb⟩)
                 clear hK K
                 simp only [Act.put, List.setIfInBounds_toArray, List.set_cons_zero, List.set_cons_succ])
          refine wpQuiet_nil ?_
          intro w4 hS
          go_wp2
          go_ret
          exact ⟨ret_bool (by first | rfl | simp), hS.below⟩
        · have hmb : (moveE (2 * (mem.length : Int)) (D : Int) f n == 0) = false := by simpa using hme
          generalize bytesS mem f n = BS at *
          generalize (⟨BS.toArray⟩ : ByteArray) = TS at *
          generalize bytesE (2 * (mem.length : Int)) f n = BE at *
          generalize moveL mem (D : Int) f n = ML at *
          generalize moveE (2 * (mem.length : Int)) (D : Int) f n = ME at *
          clear hq h2 hR hW hs hpos hss hme hmr hML hin hall hall2 hSA hSL hXl g0 g1 g2 hb2
          go_enter Try.func8, Try.ntmps8
          go_wp2_with (first
            | (go_at_call 15; with_reducible refine (hsl _ hm).mono ?_; rintro e w' ⟨rfl, hb⟩; have hX := hX.step hb; have hm := hm.below hb; have c0 := hX.c 0 _ rfl; have c1 := hX.c 1 _ rfl; have c2 := hX.c 2 _ rfl; clear hb)
            | (go_at_call 22; with_reducible refine (hb1 _ hm).mono ?_; rintro e w' ⟨rfl, hb⟩; have hX := hX.step hb; have hm := hm.below hb; have c0 := hX.c 0 _ rfl; have c1 := hX.c 1 _ rfl; have c2 := hX.c 2 _ rfl; clear hb)
            | (go_at_call 26; with_reducible refine (hmv _ hm).mono ?_; rintro e w' ⟨r3, rfl, o3, hb⟩; have p3 := o3.nums; clear o3; have hX := hX.step hb; have hm := hm.below hb; have c0 := hX.c 0 _ rfl; have c1 := hX.c 1 _ rfl; have c2 := hX.c 2 _ rfl; clear hb)
            | (go_at_call 22; with_reducible refine (hb2 _ _ p3).mono ?_; rintro e w' ⟨rfl, hb⟩; have hX := hX.step hb; have hm := hm.below hb; have c0 := hX.c 0 _ rfl; have c1 := hX.c 1 _ rfl; have c2 := hX.c 2 _ rfl; clear hb)
            | (go_at_call 24; with_reducible refine (hst _ hm).mono ?_; rintro e w' ⟨A5, k5, rfl, p5, hb⟩; have hX := hX.step hb; have hm := hm.below hb; have c0 := hX.c 0 _ rfl; have c1 := hX.c 1 _ rfl; have c2 := hX.c 2 _ rfl; clear hb)
            | (go_at_call 22; with_reducible refine (hb3 _ hm).mono ?_; rintro e w' ⟨rfl, hb⟩; have hX := hX.step hb; have p5 := p5.below hb; have c0 := hX.c 0 _ rfl; have c1 := hX.c 1 _ rfl; have c2 := hX.c 2 _ rfl; clear hb)
            | (go_at_call 22; with_reducible refine (hb4 _ _ p5).mono ?_; rintro e w' ⟨rfl, hb⟩; have hX := hX.step hb; have c0 := hX.c 0 _ rfl; have c1 := hX.c 1 _ rfl; have c2 := hX.c 2 _ rfl; clear hb))
          refine region_class (fun w' => Bx W0.heap.size [.int .i64 (D : Int), .int .i64 f, .int .i64 n] W0 w') (by kernel_rfl) (by kernel_rfl) ⟨hX.c, hX.lt, hX.below.drew⟩ ?_
          clear hX hm c0 c1 c2 p5
          repeat
            first
              | (refine BigFrame.wpQuiet_skip (by rfl) ?_
                 simp only [Act.put, List.setIfInBounds_toArray, List.set_cons_zero, List.set_cons_succ])
              | (refine BigFrame.wpQuiet_want (by rfl) (fun K hK => ?_)
                 apply Exists.intro
                 refine ⟨fun wq hq => ?_, hK _ ?_⟩
                 · have c0 := hq.c 0 _ rfl
                   unfold Oper.quietAt
                   go_simp
                   first
                     | with_reducible rfl
                     | ((go_at_call 14); with_reducible refine (hal _).mono ?_; exact fun e w' ⟨he, hb⟩ => ⟨he, hq.step hb⟩)
                 clear hK K
                 simp only [Act.put, List.setIfInBounds_toArray, List.set_cons_zero, List.set_cons_succ])
          refine wpQuiet_nil ?_
          intro w4 hS
          go_wp2
          go_ret
          exact ⟨ret_bool (by first | rfl | simp), hS.below⟩
    · have hsb : 5000 < (s.size : Int) := by omega
      clear hq hss
      go_enter Try.func8, Try.ntmps8
      go_wp2_with (first
        | (go_at_call 15; with_reducible refine (hsl _ hm).mono ?_; rintro e w' ⟨rfl, hb⟩; have hX := hX.step hb; have hm := hm.below hb; have c0 := hX.c 0 _ rfl; have c1 := hX.c 1 _ rfl; have c2 := hX.c 2 _ rfl; clear hb))
      go_ret
      exact ⟨rfl, hX.below⟩
end Go.Proofs.Ytjjmgmnhcccjgaa
