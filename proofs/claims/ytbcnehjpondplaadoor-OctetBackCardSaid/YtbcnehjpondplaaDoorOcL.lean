/-
  Walk over the statement OctetBack: whatever the input, it answers true. Condition: the table of package octet holds what its initialiser lays; the texts are at most as long as an argument can be.
-/
import Derived.Test.YtbcnehjpondplaaDoorOcK
namespace Go.Proofs.YtbcnehjpondplaaDoor
open Go.RowKit
set_option linter.unusedSimpArgs false
set_option maxHeartbeats 1000000
set_option maxRecDepth 100000

/-! ### Plain -/
theorem mid_drop (b p h : List UInt8) : (b ++ p ++ h).drop b.length = p ++ h := by rw [List.append_assoc, List.drop_left]
theorem get_mid (b h : List UInt8) (n w : Nat) (hw : 1 ≤ w ∧ w ≤ 7) (hn : n < 256 ^ w) : getI (b ++ putN n w ++ h) (b.length : Int) (w : Int) = ((n : Int), (b.length : Int) + (w : Int), 0) := by
  have hl : (b ++ putN n w ++ h).length = b.length + w + h.length := by rw [List.length_append, List.length_append, putN_length]
  rw [getI_ok (by omega) (by omega)]
  have e1 : ((b.length : Nat) : Int).toNat = b.length := rfl
  have e2 : ((w : Nat) : Int).toNat = w := rfl
  have e3 : (putN n w ++ h).take w = putN n w := by
    rw [List.take_append_of_le_length (by rw [putN_length]; omega), List.take_of_length_le (by rw [putN_length]; omega)]
  rw [e1, e2, mid_drop, e3, getN_put hn]
theorem gtxt_mid (b t h : List UInt8) (ht : t.length ≤ 65535) : gtxt (b ++ (putN t.length 2 ++ t) ++ h) (b.length : Int) = (t, (b.length : Int) + 2 + (t.length : Int), 0) := by
  have hI := get_mid b (t ++ h) t.length 2 (by omega) (by have : 256 ^ 2 = 65536 := by decide
                                                          omega)
  have e : b ++ putN t.length 2 ++ (t ++ h) = b ++ (putN t.length 2 ++ t) ++ h := by simp [List.append_assoc]
  rw [e] at hI
  have hl : (b ++ (putN t.length 2 ++ t) ++ h).length = b.length + 2 + t.length + h.length := by simp only [List.length_append, putN_length]; omega
  rw [gtxt_ok hI (by omega)]
  have e1 : ((b.length : Int) + ((2 : Nat) : Int)).toNat = (b ++ putN t.length 2).length := by rw [List.length_append, putN_length]; omega
  have e2 : ((t.length : Nat) : Int).toNat = t.length := rfl
  have e3 : b ++ (putN t.length 2 ++ t) ++ h = (b ++ putN t.length 2) ++ (t ++ h) := by simp [List.append_assoc]
  rw [e1, e2, e3, List.drop_left, List.take_left]
  rfl
theorem app_list (a b : ByteArray) : (a ++ b).data.toList = a.data.toList ++ b.data.toList := by
  obtain ⟨⟨x⟩⟩ := a
  obtain ⟨⟨y⟩⟩ := b
  rw [ba_app]; simp
theorem app_size (a b : ByteArray) : (a ++ b).size = a.size + b.size := by rw [← size_len, ← size_len, ← size_len, app_list, List.length_append]

theorem b_get (b h : ByteArray) (n : Nat) (hn : n < 4294967296) (hb : b.size ≤ 500) (hh : h.size ≤ 500) (w : World) :
    Calls Tryd.prog 13 #[.string (b ++ ⟨(putI (n : Int) 5).toArray⟩ ++ h), .int .i64 b.size, .int .i64 5] w fun e w' => e = .returned (.tuple #[.int .i64 n, .int .i64 ((b.size : Int) + 5), .int .i64 0]) ∧ w = w' := by
  have hs : (b ++ ⟨(putI (n : Int) 5).toArray⟩ ++ h).size ≤ 2000 := by
    rw [app_size, app_size, ba_size (putI (n : Int) 5), putI_length]; have : wd 5 = 5 := rfl
    omega
  have k := get_any (b ++ ⟨(putI (n : Int) 5).toArray⟩ ++ h) b.size 5 (by omega) w
  have e : getI (b ++ ⟨(putI (n : Int) 5).toArray⟩ ++ h).data.toList (b.size : Int) 5 = ((n : Int), (b.size : Int) + 5, 0) := by
    rw [app_list, app_list]
    exact get_mid b.data.toList h.data.toList n 5 (by omega) (by have : 256 ^ 5 = 1099511627776 := by decide
                                                                 omega)
  rw [e] at k
  exact k
theorem b_gtext (b s h : ByteArray) (hs : s.size ≤ 500) (hb : b.size ≤ 500) (hh : h.size ≤ 500) (w : World) :
    Calls Tryd.prog 15 #[.string (b ++ ⟨(ptxt s.data.toList).toArray⟩ ++ h), .int .i64 b.size] w fun e w' => e = .returned (.tuple #[.string s, .int .i64 ((b.size : Int) + 2 + (s.size : Int)), .int .i64 0]) ∧ w = w' := by
  have hp : ptxt s.data.toList = putN s.data.toList.length 2 ++ s.data.toList := by rw [ptxt_small (by rw [size_len]; omega)]; rfl
  have hz : (b ++ ⟨(ptxt s.data.toList).toArray⟩ ++ h).size ≤ 2000 := by
    rw [app_size, app_size, ba_size (ptxt s.data.toList), ptxt_length, size_len]; omega
  have k := gtext_any (b ++ ⟨(ptxt s.data.toList).toArray⟩ ++ h) b.size (by omega) w
  have e : gtxt (b ++ ⟨(ptxt s.data.toList).toArray⟩ ++ h).data.toList (b.size : Int) = (s.data.toList, (b.size : Int) + 2 + (s.size : Int), 0) := by
    rw [app_list, app_list]
    show gtxt (b.data.toList ++ ptxt s.data.toList ++ h.data.toList) (b.data.toList.length : Int) = _
    rw [hp, gtxt_mid _ _ _ (by rw [size_len]; omega)]
    rfl
  rw [e, tV] at k
  rw [← ba_of] at k
  exact k
theorem b_getw (l : List Int) (hl : l.length ≤ 200) (h : ∀ x ∈ l, 0 ≤ x ∧ x ≤ 65535) (w : World) :
    Calls Tryd.prog 19 #[.string ⟨(pwds l).toArray⟩] w fun e w' => ∃ v, e = .returned (.tuple #[v, .int .i64 0]) ∧ Nums .i64 w' v l ∧ Below w.heap.size w w' := by
  have k := getw_any ⟨(pwds l).toArray⟩ (by rw [ba_size, pwds_length]; omega) w
  have e1 : gwE (pwds l) = 0 := if_pos (by rw [pwds_length]; omega)
  have e2 : gwL (pwds l) = l := (if_pos (by rw [pwds_length]; omega)).trans (gwds_pwds l h)
  simp only [List.toList_toArray] at k
  rw [e1, e2] at k
  exact k
theorem b_open (s : ByteArray) (hs : s.size ≤ 500) (w : World) (W : Tabs w) :
    Calls Tryd.prog 24 #[.string ⟨(sealed s.data.toList).toArray⟩] w fun e w' => e = .returned (.tuple #[.string s, .int .i64 0]) ∧ Below w.heap.size w w' := by
  have k := open_any ⟨(sealed s.data.toList).toArray⟩ (by rw [ba_size, sealed_length, size_len]; omega) w W
  simp only [List.toList_toArray] at k
  rw [opn_sealed, oV] at k
  rw [← ba_of] at k
  exact k

theorem back_law (b s h : ByteArray) (n : Nat) (v : Value) (l : List Int) (hb : b.size ≤ 9223372036854775807) (hs : s.size ≤ 9223372036854775807) (hh : h.size ≤ 9223372036854775807) (hl : l.length ≤ 9223372036854775807)
    (hn : n < 4294967296) (hbd : ∀ x ∈ l, 0 ≤ x ∧ x ≤ 65535) (w : World) (W : Tabs w) (hv : Nums .u16 w v l) :
    Calls Tryd.prog 8 #[.string b, .string s, .string h, .int .u32 n, v] w fun e w' => e = .returned (.bool true) ∧ Below w.heap.size w w' := by
  have hB : Below w.heap.size w w := Below.refl _ _
  obtain ⟨A, c, rfl, hcell⟩ := hv
  by_cases hbig : 500 < b.size ∨ 500 < s.size ∨ 500 < h.size ∨ 200 < l.length
  · by_cases h1 : 500 < b.size
    · clear hbig
      go_enter Tryd.func8, Tryd.ntmps8
      go_wp2_with (first
        | (go_at_call 12; with_reducible refine (alive_any _ W).mono ?_; rintro e w' ⟨rfl, hb⟩; have hB := hB.trans (hb.mono hB.size); clear hb))
      go_ret
      exact ⟨rfl, hB⟩
    · by_cases h2 : 500 < s.size
      · clear hbig
        go_enter Tryd.func8, Tryd.ntmps8
        go_wp2_with (first
          | (go_at_call 12; with_reducible refine (alive_any _ W).mono ?_; rintro e w' ⟨rfl, hb⟩; have hB := hB.trans (hb.mono hB.size); clear hb))
        go_ret
        exact ⟨rfl, hB⟩
      · by_cases h3 : 500 < h.size
        · clear hbig
          go_enter Tryd.func8, Tryd.ntmps8
          go_wp2_with (first
            | (go_at_call 12; with_reducible refine (alive_any _ W).mono ?_; rintro e w' ⟨rfl, hb⟩; have hB := hB.trans (hb.mono hB.size); clear hb))
          go_ret
          exact ⟨rfl, hB⟩
        · have h4 : 200 < l.length := by omega
          clear hbig
          go_enter Tryd.func8, Tryd.ntmps8
          go_wp2_with (first
            | (go_at_call 12; with_reducible refine (alive_any _ W).mono ?_; rintro e w' ⟨rfl, hb⟩; have hB := hB.trans (hb.mono hB.size); clear hb))
          go_ret
          exact ⟨rfl, hB⟩
  · have hb5 : b.size ≤ 500 := by omega
    have hs5 : s.size ≤ 500 := by omega
    have hh5 : h.size ≤ 500 := by omega
    have hl2 : l.length ≤ 200 := by omega
    clear hbig hb hs hh hl
    have k1 := fun w => put_any (n : Int) 5 (by omega) w
    have k2 := fun w => b_get b h n hn hb5 hh5 w
    have k3 := fun w => ptext_any s (by omega) w
    have k4 := fun w => b_gtext b s h hs5 hb5 hh5 w
    have k5 := fun v w hv => putw_any v l (by omega) (fun x hx => by have := hbd x hx; omega) w hv
    have k6 := fun w => b_getw l hl2 hbd w
    have k7 := fun w W => seal_any s (by omega) w W
    have k8 := fun w W => b_open s hs5 w W
    have k9 := fun va vb w ha hb => same_any l va vb (by omega) w ha hb
    have z1 : ByteArray.size ⟨(putI (n : Int) 5).toArray⟩ = 5 := by rw [ba_size, putI_length]; rfl
    have z2 : ByteArray.size ⟨(ptxt s.data.toList).toArray⟩ ≤ 502 := by rw [ba_size, ptxt_length, size_len]; omega
    generalize (⟨(putI (n : Int) 5).toArray⟩ : ByteArray) = X1 at *
    generalize (⟨(ptxt s.data.toList).toArray⟩ : ByteArray) = X2 at *
    generalize (⟨(pwds l).toArray⟩ : ByteArray) = X3 at *
    generalize (⟨(sealed s.data.toList).toArray⟩ : ByteArray) = X4 at *
    have y1 := app_size b X1
    have y2 := app_size b X2
    obtain ⟨i0, hi, hz0, hz1, hz2⟩ := info_parts info64
    go_enter Tryd.func8, Tryd.ntmps8
    go_wp2
    go_loopw [11, 12] (fun u i wr => ∃ k : Nat, k ≤ l.length ∧ i = .int .i64 k ∧ wr.ownsRow w.heap.size 3 1 u k ((l.take k).map (Value.int .i64)) ∧ Below w.heap.size w wr)
      (fun _ i _ => match i with | .int _ q => l.length - q.toNat | _ => 0)
    case atStart => exact ⟨0, Nat.zero_le _, rfl, World.ownsRow_nil _ _ _ _, Below.refl _ _⟩
    case round =>
      clear hB
      obtain ⟨k, hk, rfl, hown, hB⟩ := hrel
      by_cases hkl : k < l.length
      · have hx := List.getElem?_eq_getElem hkl
        obtain ⟨h0, h1⟩ := hbd l[k] (List.getElem_mem hkl)
        generalize l[k] = x at *
        obtain ⟨a, rfl, hc1, hc2⟩ := hcell k x hx
        have hc := (hB.cell hc2).trans hc1
        have hst : Hid ((l.take (k + 1)).map (Value.int .i64) = (l.take k).map (Value.int .i64) ++ [.int .i64 x]) := by
          unfold Hid; rw [List.take_add_one, hx, List.map_append]; rfl
        clear hcell hc1 hc2 hbd k1 k2 k3 k4 k5 k6 k7 k8 k9
        go_wp2_with (first
          | (at_builtin; refine wpList_append_own _ rfl (.tmp 48) (.tmp 54) 34 rfl w.heap.size 3 i0 (.int .i64 0) 1 8 Tryd.underlying34 hi hz0 hz1 hz2 rfl (by decide) _ _ _ rfl (hown.alloc _) ⟨wr.heap.size, 0, none⟩ 1 1 [.int .i64 x] rfl rfl (cell_one_new _ _ _) (fun x hx => by simp at hx; subst hx; rfl) (by unfold maxLen; omega) (by omega) (by have := hB.size; simp; omega) ?_; intro v' w1 hown' hgrow _))
        refine ⟨⟨k + 1, by omega, by go_num, ?_, (hB.alloc hB.size _).grown hgrow (by have := hB.size; simp; omega) (fun j hj => (hown.lt j hj).1)⟩, ?_⟩
        · unfold Hid at hst; rw [hst]; exact hown'
        · simp only; omega
      · obtain rfl : k = l.length := by omega
        rw [List.take_length] at hown
        have hNm := Nums.of_own hown
        have W := W.below hB
        clear hcell hbd hown
        go_wp2_with (first
          | (go_at_call 10; with_reducible refine (k1 _).mono ?_; rintro e w' ⟨rfl, hb⟩; have W := W.below hb; have hNm := hNm.below hb; have hB := hB.trans (hb.mono hB.size); clear hb)
          | (go_at_call 13; with_reducible refine (k2 _).mono ?_; rintro e w' ⟨rfl, rfl⟩)
          | (go_at_call 17; with_reducible refine (k3 _).mono ?_; rintro e w' ⟨rfl, hb⟩; have W := W.below hb; have hNm := hNm.below hb; have hB := hB.trans (hb.mono hB.size); clear hb)
          | (go_at_call 15; with_reducible refine (k4 _).mono ?_; rintro e w' ⟨rfl, rfl⟩)
          | (go_at_call 21; with_reducible refine (k5 _ _ hNm).mono ?_; rintro e w' ⟨rfl, hb⟩; have W := W.below hb; have hNm := hNm.below hb; have hB := hB.trans (hb.mono hB.size); clear hb)
          | (go_at_call 19; with_reducible refine (k6 _).mono ?_; rintro e w' ⟨v1, rfl, hN1, hb⟩; have W := W.below hb; have hNm := hNm.below hb; have hB := hB.trans (hb.mono hB.size); clear hb)
          | (go_at_call 28; with_reducible refine (k7 _ W).mono ?_; rintro e w' ⟨rfl, hb⟩; have W := W.below hb; have hNm := hNm.below hb; have hN1 := hN1.below hb; have hB := hB.trans (hb.mono hB.size); clear hb)
          | (go_at_call 24; with_reducible refine (k8 _ W).mono ?_; rintro e w' ⟨rfl, hb⟩; have W := W.below hb; have hNm := hNm.below hb; have hN1 := hN1.below hb; have hB := hB.trans (hb.mono hB.size); clear hb)
          | (go_at_call 23; with_reducible refine (k9 _ _ _ hN1 hNm).mono ?_; rintro e w' ⟨rfl, hb⟩; have W := W.below hb; have hB := hB.trans (hb.mono hB.size); clear hb)
          | (go_at_call 12; with_reducible refine (alive_any _ W).mono ?_; rintro e w' ⟨rfl, hb⟩; have hB := hB.trans (hb.mono hB.size); clear hb))
        go_ret
        exact ⟨rfl, hB⟩

end Go.Proofs.YtbcnehjpondplaaDoor
