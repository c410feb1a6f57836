/-
  Walks over PutText and GetText of package octet and of its reference. Condition: texts are at most as long as a length can be.
-/
import Derived.Test.YtbcnehjpondplaaDoorOcB
namespace Go.Proofs.YtbcnehjpondplaaDoor
open Go.RowKit
set_option linter.unusedSimpArgs false

theorem ba_app (a b : Array UInt8) : ((⟨a⟩ : ByteArray) ++ ⟨b⟩) = ⟨a ++ b⟩ := by apply ByteArray.ext; simp [ByteArray.data_append]
theorem ba_of (s : ByteArray) : s = ⟨s.data.toList.toArray⟩ := by cases s; simp
/-- A text that is put before another. -/
theorem join_l (l : List UInt8) (s : ByteArray) : (⟨l.toArray⟩ : ByteArray) ++ s = ⟨(l ++ s.data.toList).toArray⟩ := by
  obtain ⟨⟨r⟩⟩ := s
  rw [ba_app]; simp
theorem ba_size (l : List UInt8) : ByteArray.size ⟨l.toArray⟩ = l.length := by simp [ByteArray.size]

theorem ptxt_small {l : List UInt8} (h : l.length ≤ 65535) : ptxt l = putI (l.length : Int) 2 ++ l := by
  unfold ptxt putI nn
  rw [Nat.min_eq_left h, List.take_of_length_le h]; rfl
theorem ptxt_big {l : List UInt8} (h : 65535 < l.length) : ptxt l = putI 65535 2 ++ l.take 65535 := by
  unfold ptxt putI nn
  rw [Nat.min_eq_right (by omega)]; rfl
theorem ptxt_length (l : List UInt8) : (ptxt l).length = 2 + min l.length 65535 := by
  unfold ptxt; rw [List.length_append, putN_length, List.length_take, Nat.min_comm]

set_option maxHeartbeats 1000000

theorem ptext_any (s : ByteArray) (hs : s.size ≤ 4611686018427387904) (w : World) :
    Calls Tryd.prog 17 #[.string s] w fun e w' => e = .returned (.string ⟨(ptxt s.data.toList).toArray⟩) ∧ Below w.heap.size w w' := by
  have hsz := size_len s
  by_cases h : s.size ≤ 65535
  · have hp := fun w => put_any (s.size : Int) 2 (by omega) w
    have hE : s.extract 0 s.size = s := by
      rw [ba_of (s.extract 0 s.size), cut_list, List.drop_zero, Nat.sub_zero, List.take_of_length_le (by omega), ← ba_of]
    have hj := join_l (putI (s.size : Int) 2) s
    rw [← hsz, ← ptxt_small (by omega), hsz] at hj
    have hl := ba_size (putI (s.size : Int) 2)
    rw [putI_length] at hl
    have hl2 : wd 2 = 2 := rfl
    rw [hl2] at hl
    generalize (⟨(ptxt s.data.toList).toArray⟩ : ByteArray) = X at *
    generalize (⟨(putI (s.size : Int) 2).toArray⟩ : ByteArray) = Y at *
    go_enter Tryd.func17, Tryd.ntmps17
    go_wp2_with (first | (go_at_call 10; with_reducible refine (hp _).mono ?_; rintro e w' ⟨rfl, hb⟩))
    go_ret
    exact ⟨rfl, hb⟩
  · have hp := fun w => put_any 65535 2 (by omega) w
    have hEl : (s.extract 0 65535).data.toList = s.data.toList.take 65535 := by
      rw [cut_list, List.drop_zero, Nat.sub_zero]
    have hEs : (s.extract 0 65535).size = 65535 := by rw [← size_len, hEl, List.length_take]; omega
    have hj := join_l (putI 65535 2) (s.extract 0 65535)
    rw [hEl, ← ptxt_big (by omega)] at hj
    have hl := ba_size (putI 65535 2)
    rw [putI_length] at hl
    have hl2 : wd 2 = 2 := rfl
    rw [hl2] at hl
    have h' : 65535 < s.size := by omega
    clear h hEl
    generalize (⟨(ptxt s.data.toList).toArray⟩ : ByteArray) = X at *
    generalize (⟨(putI 65535 2).toArray⟩ : ByteArray) = Y at *
    go_enter Tryd.func17, Tryd.ntmps17
    go_wp2_with (first | (go_at_call 10; with_reducible refine (hp _).mono ?_; rintro e w' ⟨rfl, hb⟩))
    go_ret
    exact ⟨rfl, hb⟩
theorem rptext_any (s : ByteArray) (hs : s.size ≤ 4611686018427387904) (w : World) :
    Calls Tryd.prog 18 #[.string s] w fun e w' => e = .returned (.string ⟨(ptxt s.data.toList).toArray⟩) ∧ Below w.heap.size w w' := by
  have hsz := size_len s
  by_cases h : s.size ≤ 65535
  · have hp := fun w => rput_any (s.size : Int) 2 (by omega) w
    have hE : s.extract 0 s.size = s := by
      rw [ba_of (s.extract 0 s.size), cut_list, List.drop_zero, Nat.sub_zero, List.take_of_length_le (by omega), ← ba_of]
    have hj := join_l (putI (s.size : Int) 2) s
    rw [← hsz, ← ptxt_small (by omega), hsz] at hj
    have hl := ba_size (putI (s.size : Int) 2)
    rw [putI_length] at hl
    have hl2 : wd 2 = 2 := rfl
    rw [hl2] at hl
    generalize (⟨(ptxt s.data.toList).toArray⟩ : ByteArray) = X at *
    generalize (⟨(putI (s.size : Int) 2).toArray⟩ : ByteArray) = Y at *
    go_enter Tryd.func18, Tryd.ntmps18
    go_wp2_with (first | (go_at_call 11; with_reducible refine (hp _).mono ?_; rintro e w' ⟨rfl, hb⟩))
    go_ret
    exact ⟨rfl, hb⟩
  · have hp := fun w => rput_any 65535 2 (by omega) w
    have hEl : (s.extract 0 65535).data.toList = s.data.toList.take 65535 := by
      rw [cut_list, List.drop_zero, Nat.sub_zero]
    have hEs : (s.extract 0 65535).size = 65535 := by rw [← size_len, hEl, List.length_take]; omega
    have hj := join_l (putI 65535 2) (s.extract 0 65535)
    rw [hEl, ← ptxt_big (by omega)] at hj
    have hl := ba_size (putI 65535 2)
    rw [putI_length] at hl
    have hl2 : wd 2 = 2 := rfl
    rw [hl2] at hl
    have h' : 65535 < s.size := by omega
    clear h hEl
    generalize (⟨(ptxt s.data.toList).toArray⟩ : ByteArray) = X at *
    generalize (⟨(putI 65535 2).toArray⟩ : ByteArray) = Y at *
    go_enter Tryd.func18, Tryd.ntmps18
    go_wp2_with (first | (go_at_call 11; with_reducible refine (hp _).mono ?_; rintro e w' ⟨rfl, hb⟩))
    go_ret
    exact ⟨rfl, hb⟩

def tV (x : List UInt8 × Int × Int) : Value := .tuple #[.string ⟨x.1.toArray⟩, .int .i64 x.2.1, .int .i64 x.2.2]
theorem get2_lt (l : List UInt8) (k : Nat) : getN ((l.drop k).take 2) ≤ 65535 := by
  have h := getN_lt ((l.drop k).take 2)
  have hl : ((l.drop k).take 2).length ≤ 2 := by rw [List.length_take]; omega
  have : 256 ^ ((l.drop k).take 2).length ≤ 256 ^ 2 := Nat.pow_le_pow_right (by decide) hl
  have e : 256 ^ 2 = 65536 := by decide
  omega
theorem gtxt_err {l : List UInt8} {a e : Int} (h : getI l a 2 = (0, 0, e)) (he : e ≠ 0) : gtxt l a = ([], 0, e) := by
  unfold gtxt; rw [h]; exact if_pos he
theorem gtxt_short {l : List UInt8} {a n f : Int} (h : getI l a 2 = (n, f, 0)) (hl : (l.length : Int) - f < n) : gtxt l a = ([], 0, 8) := by
  unfold gtxt; rw [h, if_neg (fun h => h rfl)]; exact if_pos hl
theorem gtxt_ok {l : List UInt8} {a n f : Int} (h : getI l a 2 = (n, f, 0)) (hl : ¬ (l.length : Int) - f < n) : gtxt l a = ((l.drop f.toNat).take n.toNat, f + n, 0) := by
  unfold gtxt; rw [h, if_neg (fun h => h rfl)]; exact if_neg hl

theorem gtext_any (s : ByteArray) (a : Int) (hs : s.size ≤ 4611686018427387904) (w : World) :
    Calls Tryd.prog 15 #[.string s, .int .i64 a] w fun e w' => e = .returned (tV (gtxt s.data.toList a)) ∧ w = w' := by
  have hsz := size_len s
  have hg := fun w => get_any s a 2 (by omega) w
  by_cases h : (2 : Int) < 1 ∨ (7 : Int) < 2 ∨ a < 0 ∨ (s.data.toList.length : Int) < a
  · have hI := getI_arg h
    rw [gtxt_err hI (by decide)]
    rw [hI] at hg
    simp only [gV] at hg
    by_cases ha : a < 0
    · clear h
      go_enter Tryd.func15, Tryd.ntmps15
      go_wp2_with (first | (go_at_call 13; with_reducible refine (hg _).mono ?_; rintro e w' ⟨rfl, rfl⟩))
      go_ret3
      exact ⟨rfl, rfl⟩
    · have ha2 : (s.size : Int) < a := by omega
      clear h
      go_enter Tryd.func15, Tryd.ntmps15
      go_wp2_with (first | (go_at_call 13; with_reducible refine (hg _).mono ?_; rintro e w' ⟨rfl, rfl⟩))
      go_ret3
      exact ⟨rfl, rfl⟩
  · obtain ⟨k, rfl⟩ := Int.eq_ofNat_of_zero_le (show 0 ≤ a by omega)
    have hk : k ≤ s.size := by omega
    have hd : decide (s.size < k) = false := decide_eq_false (by omega)
    by_cases h2 : (s.data.toList.length : Int) - (k : Int) < 2
    · have hI := getI_short h h2
      rw [gtxt_err hI (by decide)]
      rw [hI] at hg
      simp only [gV] at hg
      clear h h2
      go_enter Tryd.func15, Tryd.ntmps15
      go_wp2_with (first | (go_at_call 13; with_reducible refine (hg _).mono ?_; rintro e w' ⟨rfl, rfl⟩))
      go_ret3
      exact ⟨rfl, rfl⟩
    · have hI := getI_ok h h2
      have hn := get2_lt s.data.toList k
      have e2 : (2 : Int).toNat = 2 := rfl
      rw [Int.toNat_natCast, e2] at hI
      rw [hI] at hg
      simp only [gV] at hg
      generalize getN ((s.data.toList.drop k).take 2) = n at *
      have hk2 : k + 2 ≤ s.size := by omega
      clear h h2
      by_cases hl : (s.data.toList.length : Int) - ((k : Int) + 2) < (n : Int)
      · rw [gtxt_short hI hl]
        have hl' : s.size < k + 2 + n := by omega
        clear hl
        go_enter Tryd.func15, Tryd.ntmps15
        go_wp2_with (first | (go_at_call 13; with_reducible refine (hg _).mono ?_; rintro e w' ⟨rfl, rfl⟩))
        go_ret3
        exact ⟨rfl, rfl⟩
      · rw [gtxt_ok hI hl]
        have hl' : k + 2 + n ≤ s.size := by omega
        clear hl hI
        have e3 : ((k : Int) + 2).toNat = k + 2 := by omega
        have e4 : ((n : Int)).toNat = n := rfl
        have hE : s.extract (k + 2) (k + 2 + n) = ⟨((s.data.toList.drop (k + 2)).take n).toArray⟩ := by
          rw [ba_of (s.extract (k + 2) (k + 2 + n)), cut_list, show k + 2 + n - (k + 2) = n by omega]
        rw [e3, e4]
        obtain ⟨V, hV⟩ : ∃ V : Value, V = tV ((s.data.toList.drop (k + 2)).take n, (k : Int) + 2 + (n : Int), 0) := ⟨_, rfl⟩
        rw [← hV]
        obtain ⟨X, hX⟩ : ∃ X : ByteArray, X = ⟨((s.data.toList.drop (k + 2)).take n).toArray⟩ := ⟨_, rfl⟩
        have hV2 : V = .tuple #[.string X, .int .i64 ((k : Int) + 2 + (n : Int)), .int .i64 0] := by rw [hV, hX]; rfl
        rw [← hX] at hE
        clear hV hX
        go_enter Tryd.func15, Tryd.ntmps15
        go_wp2_with (first | (go_at_call 13; with_reducible refine (hg _).mono ?_; rintro e w' ⟨rfl, rfl⟩))
        go_ret3
        exact ⟨by rw [hV2, ← hE]; rfl, rfl⟩

theorem rgtext_any (s : ByteArray) (a : Int) (hs : s.size ≤ 4611686018427387904) (w : World) :
    Calls Tryd.prog 16 #[.string s, .int .i64 a] w fun e w' => e = .returned (tV (gtxt s.data.toList a)) ∧ w = w' := by
  have hsz := size_len s
  have hg := fun w => rget_any s a 2 (by omega) w
  by_cases h : (2 : Int) < 1 ∨ (7 : Int) < 2 ∨ a < 0 ∨ (s.data.toList.length : Int) < a
  · have hI := getI_arg h
    rw [gtxt_err hI (by decide)]
    rw [hI] at hg
    simp only [gV] at hg
    by_cases ha : a < 0
    · clear h
      go_enter Tryd.func16, Tryd.ntmps16
      go_wp2_with (first | (go_at_call 14; with_reducible refine (hg _).mono ?_; rintro e w' ⟨rfl, rfl⟩))
      go_ret3
      exact ⟨rfl, rfl⟩
    · have ha2 : (s.size : Int) < a := by omega
      clear h
      go_enter Tryd.func16, Tryd.ntmps16
      go_wp2_with (first | (go_at_call 14; with_reducible refine (hg _).mono ?_; rintro e w' ⟨rfl, rfl⟩))
      go_ret3
      exact ⟨rfl, rfl⟩
  · obtain ⟨k, rfl⟩ := Int.eq_ofNat_of_zero_le (show 0 ≤ a by omega)
    have hk : k ≤ s.size := by omega
    have hd : decide (s.size < k) = false := decide_eq_false (by omega)
    by_cases h2 : (s.data.toList.length : Int) - (k : Int) < 2
    · have hI := getI_short h h2
      rw [gtxt_err hI (by decide)]
      rw [hI] at hg
      simp only [gV] at hg
      clear h h2
      go_enter Tryd.func16, Tryd.ntmps16
      go_wp2_with (first | (go_at_call 14; with_reducible refine (hg _).mono ?_; rintro e w' ⟨rfl, rfl⟩))
      go_ret3
      exact ⟨rfl, rfl⟩
    · have hI := getI_ok h h2
      have hn := get2_lt s.data.toList k
      have e2 : (2 : Int).toNat = 2 := rfl
      rw [Int.toNat_natCast, e2] at hI
      rw [hI] at hg
      simp only [gV] at hg
      generalize getN ((s.data.toList.drop k).take 2) = n at *
      have hk2 : k + 2 ≤ s.size := by omega
      clear h h2
      by_cases hl : (s.data.toList.length : Int) - ((k : Int) + 2) < (n : Int)
      · rw [gtxt_short hI hl]
        have hl' : s.size < k + 2 + n := by omega
        clear hl
        go_enter Tryd.func16, Tryd.ntmps16
        go_wp2_with (first | (go_at_call 14; with_reducible refine (hg _).mono ?_; rintro e w' ⟨rfl, rfl⟩))
        go_ret3
        exact ⟨rfl, rfl⟩
      · rw [gtxt_ok hI hl]
        have hl' : k + 2 + n ≤ s.size := by omega
        clear hl hI
        have e3 : ((k : Int) + 2).toNat = k + 2 := by omega
        have e4 : ((n : Int)).toNat = n := rfl
        have hE : s.extract (k + 2) (k + 2 + n) = ⟨((s.data.toList.drop (k + 2)).take n).toArray⟩ := by
          rw [ba_of (s.extract (k + 2) (k + 2 + n)), cut_list, show k + 2 + n - (k + 2) = n by omega]
        rw [e3, e4]
        obtain ⟨V, hV⟩ : ∃ V : Value, V = tV ((s.data.toList.drop (k + 2)).take n, (k : Int) + 2 + (n : Int), 0) := ⟨_, rfl⟩
        rw [← hV]
        obtain ⟨X, hX⟩ : ∃ X : ByteArray, X = ⟨((s.data.toList.drop (k + 2)).take n).toArray⟩ := ⟨_, rfl⟩
        have hV2 : V = .tuple #[.string X, .int .i64 ((k : Int) + 2 + (n : Int)), .int .i64 0] := by rw [hV, hX]; rfl
        rw [← hX] at hE
        clear hV hX
        go_enter Tryd.func16, Tryd.ntmps16
        go_wp2_with (first | (go_at_call 14; with_reducible refine (hg _).mono ?_; rintro e w' ⟨rfl, rfl⟩))
        go_ret3
        exact ⟨by rw [hV2, ← hE]; rfl, rfl⟩

end Go.Proofs.YtbcnehjpondplaaDoor
