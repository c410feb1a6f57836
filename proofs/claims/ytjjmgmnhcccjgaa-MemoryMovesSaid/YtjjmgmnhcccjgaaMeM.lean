/-
  Walks over Store and Move of package memory and of its reference. Condition: lists have at most 2^40 elements, the words are words; texts have at most 2^40 bytes.
-/
import Derived.Test.YtjjmgmnhcccjgaaMeL
namespace Go.Proofs.Ytjjmgmnhcccjgaa
open Go.RowKit
set_option linter.unusedSimpArgs false
set_option linter.unusedVariables false
set_option maxHeartbeats 1000000
attribute [local irreducible] wpQuiet

theorem storeL_no {l : List Int} {a : Int} {s : List UInt8} (h : inR (2 * (l.length : Int)) a (s.length : Int) = false) : storeL l a s = [] := if_neg (by rw [h]; decide)
theorem storeL_ok {l : List Int} {a : Int} {s : List UInt8} (h : inR (2 * (l.length : Int)) a (s.length : Int) = true) : storeL l a s = storeN l a.toNat s := if_pos h
theorem store_drop {l : List Int} {a k : Nat} {s : List UInt8} {c : UInt8} (h : s[k]? = some c) : storeN l (a + k) (s.drop k) = storeN (setN l (a + k) (c.toNat : Int)) (a + (k + 1)) (s.drop (k + 1)) := by
  have hk : k < s.length := (List.getElem?_eq_some_iff.1 h).1
  rw [List.drop_eq_getElem_cons hk, (List.getElem?_eq_some_iff.1 h).2, storeN]; rfl
theorem byte_ix {s : ByteArray} {k : Nat} {c : UInt8} (h : s.data.toList[k]? = some c) : ∀ hk : k < s.size, s[k]'hk = c := by
  intro hk
  have e := (List.getElem?_eq_some_iff.1 h).2
  rw [← e]; rfl

set_option maxHeartbeats 4000000 in
theorem store_any (vm : Value) (mem : List Int) (hl : mem.length ≤ 1099511627776) (hW : wordsB mem = true) (hpos : 0 < mem.length) (a : Int) (ha : a ≤ 9223372036854775807) (s : ByteArray) (hs : s.size ≤ 4398046511104) (w : World) (hm : Nums .i64 w vm mem) :
    Calls Try.prog 24 #[vm, .int .i64 a, .string s] w fun e w' => ∃ r, e = .returned (.tuple #[r, .int .i64 (bytesE (2 * (mem.length : Int)) a (s.size : Int))]) ∧ Own w.heap.size w' r (storeL mem a s.data.toList) ∧ Below w.heap.size w w' := by
  have hsz : s.data.toList.length = s.size := rfl
  have hcp := copied_any vm mem hl w hm
  obtain ⟨A, c, rfl, _, hc⟩ := hm
  have hra := fun w => range_any A mem.length c hl a (s.size : Int) ha w
  cases hq : inR (2 * (mem.length : Int)) a (s.size : Int)
  · rw [bytesE_no hq, storeL_no (by rw [hsz]; exact hq)]
    rw [hq] at hra
    clear hq hc
    go_enter Try.func24, Try.ntmps24
    go_wp2_with (first | (go_at_call 46; with_reducible refine (hra _).mono ?_; rintro e w' ⟨rfl, rfl⟩))
    go_ret2
    exact ⟨_, rfl, Own.nil _ _, Below.refl _ _⟩
  · obtain ⟨h0, h1, h2⟩ := inR_rng hq
    rw [bytesE_ok hq, storeL_ok (by rw [hsz]; exact hq)]
    rw [hq] at hra
    clear hq
    obtain ⟨p, rfl⟩ := Int.eq_ofNat_of_zero_le h0
    rw [Int.toNat_natCast]
    have hsb := fun r cur k (c : UInt8) w1 (hcl : cur.length = mem.length) (hcw : wordsB cur = true) (hk : k < s.size) (ho : Own w.heap.size w1 r cur) => setbyte_any w.heap.size r cur (by omega) hcw (p + k) (by omega) (c.toNat : Int) w1 ho
    replace hc := hid hc
    go_enter Try.func24, Try.ntmps24
    go_wp2_with (first | (go_at_call 46; with_reducible refine (hra _).mono ?_; rintro e w' ⟨rfl, rfl⟩) | (go_at_call 39; with_reducible refine hcp.mono ?_; rintro e w1 ⟨r, rfl, ho, hB⟩))
    go_loopw [20] (fun i wr => ∃ (k : Nat) (cur : List Int), k ≤ s.size ∧ i = .int .i64 k ∧ Own w.heap.size wr r cur ∧ cur.length = mem.length ∧ wordsB cur = true ∧ Below w.heap.size w wr ∧ Hid (storeN mem p s.data.toList = storeN cur (p + k) (s.data.toList.drop k)))
      (fun i _ => match i with | .int _ q => s.size - q.toNat | _ => 0)
    case atStart => exact ⟨0, mem, Nat.zero_le _, rfl, ho, rfl, hW, hB, by rw [List.drop_zero]; rfl⟩
    case round =>
      clear ho hB
      obtain ⟨k, cur, hk, rfl, ho, hcl, hcw, hB, hQ⟩ := hrel
      by_cases hkl : k < s.size
      · have hx := List.getElem?_eq_getElem (show k < s.data.toList.length from hkl)
        generalize s.data.toList[k] = ch at *
        have hix := byte_ix hx
        have hd := hid (store_drop (l := cur) (a := p) hx)
        have hcb : (ch.toNat : Int) ≤ 255 := by have := ch.toNat_lt; omega
        have hsb := fun w1 ho => hsb r cur k ch w1 hcl hcw hkl ho
        have hpk : (p : Int) + (k : Int) = ((p + k : Nat) : Int) := by omega
        rw [← hpk] at hsb
        have hM1 := setN_length cur (p + k) (ch.toNat : Int)
        have hM2 := setN_words hcw (p + k) (ch.toNat : Int)
        rw [hcl] at hM1
        replace hpk := hid hpk
        replace hM2 := hid hM2
        generalize setN cur (p + k) (ch.toNat : Int) = M at *
        clear hx
        replace hcl := hid hcl
        replace hcw := hid hcw
        go_wp2_with (first | (go_at_call 40; with_reducible refine (hsb _ ho).mono ?_; rintro e w' ⟨rfl, ho2, hb⟩; have hB2 := Below.trans hB hb))
        refine ⟨⟨k + 1, M, by omega, by go_num, ho2, hM1, hM2, hB2, ?_⟩, by simp only; omega⟩
        show _ = _
        rw [show storeN mem p s.data.toList = _ from hQ]
        exact hd
      · obtain rfl : k = s.size := by omega
        have hQ2 : Hid (storeN mem p s.data.toList = cur) := by show _ = _; rw [show storeN mem p s.data.toList = _ from hQ, ← hsz, List.drop_length]; rfl
        clear hQ hsb
        go_wp2
        go_ret2
        exact ⟨_, rfl, by rw [show storeN mem p s.data.toList = _ from hQ2]; exact ho, hB⟩

set_option maxHeartbeats 4000000 in
theorem rstore_any (vm : Value) (mem : List Int) (hl : mem.length ≤ 1099511627776) (hW : wordsB mem = true) (hpos : 0 < mem.length) (a : Int) (ha : a ≤ 9223372036854775807) (s : ByteArray) (hs : s.size ≤ 4398046511104) (w : World) (hm : Nums .i64 w vm mem) :
    Calls Try.prog 25 #[vm, .int .i64 a, .string s] w fun e w' => ∃ r, e = .returned (.tuple #[r, .int .i64 (bytesE (2 * (mem.length : Int)) a (s.size : Int))]) ∧ Own w.heap.size w' r (storeL mem a s.data.toList) ∧ Below w.heap.size w w' := by
  have hsz : s.data.toList.length = s.size := rfl
  obtain ⟨A, c, rfl, _, hc⟩ := hm
  have hra := fun w => rwithin_any A mem.length c hl a (s.size : Int) ha w
  cases hq : inR (2 * (mem.length : Int)) a (s.size : Int)
  · rw [bytesE_no hq, storeL_no (by rw [hsz]; exact hq)]
    rw [hq] at hra
    clear hq hc
    go_enter Try.func25, Try.ntmps25
    go_wp2_with (first | (go_at_call 47; with_reducible refine (hra _).mono ?_; rintro e w' ⟨rfl, rfl⟩))
    go_ret2
    exact ⟨_, rfl, Own.nil _ _, Below.refl _ _⟩
  · obtain ⟨h0, h1, h2⟩ := inR_rng hq
    rw [bytesE_ok hq, storeL_ok (by rw [hsz]; exact hq)]
    rw [hq] at hra
    clear hq
    obtain ⟨p, rfl⟩ := Int.eq_ofNat_of_zero_le h0
    rw [Int.toNat_natCast]
    have hsb := fun r cur k (c : UInt8) w1 (hcl : cur.length = mem.length) (hcw : wordsB cur = true) (hk : k < s.size) (ho : Own w.heap.size w1 r cur) => rset_any w.heap.size r cur (by omega) hcw (p + k) (by omega) (c.toNat : Int) (by have := c.toNat_lt; omega) w1 ho
    obtain ⟨q, rfl, _⟩ := hc 0 _ (List.getElem?_eq_getElem hpos)
    obtain ⟨i0, hti, hz0, hz1, hz2⟩ := info_parts info64
    have hB0 := (Below.refl w.heap.size w).alloc (Nat.le_refl _) (.cells #[] 3)
    have hnews := all_cells hc hB0
    have hone := one_ints mem
    have hgb := fun (w' : World) (hg : (w.alloc (.cells #[] 3)).grownBy w' (Value.ownBlock (.slice (some ⟨w.heap.size, 0, none⟩) 0 0))) => hB0.grown hg (Nat.le_of_lt (by simp)) (fun j hj => (World.ownsRow.lt (lit_own w) j hj).1)
    replace hc := hid hc
    go_enter Try.func25, Try.ntmps25
    go_wp2_with (first | (go_at_call 47; with_reducible refine (hra _).mono ?_; rintro e w' ⟨rfl, rfl⟩) | (at_builtin; refine wpList_append_own _ rfl (.tmp 16) (.tmp 17) 22 rfl w.heap.size 3 i0 (.int .i64 0) 1 8 Try.underlying22 hti hz0 hz1 hz2 rfl (by decide) _ 0 _ rfl (lit_own w) q mem.length c (mem.map (Value.int .i64)) rfl (by simp) hnews hone (by unfold maxLen; omega) (by omega) (Nat.le_of_lt (by simp)) ?_; intro r w1 hown' hgrow _; have ho := own_all hown'; have hB := hgb _ hgrow; clear hown' hgrow))
    go_loopw [9] (fun i wr => ∃ (k : Nat) (cur : List Int), k ≤ s.size ∧ i = .int .i64 k ∧ Own w.heap.size wr r cur ∧ cur.length = mem.length ∧ wordsB cur = true ∧ Below w.heap.size w wr ∧ Hid (storeN mem p s.data.toList = storeN cur (p + k) (s.data.toList.drop k)))
      (fun i _ => match i with | .int _ q => s.size - q.toNat | _ => 0)
    case atStart => exact ⟨0, mem, Nat.zero_le _, rfl, ho, rfl, hW, hB, by rw [List.drop_zero]; rfl⟩
    case round =>
      clear ho hB
      obtain ⟨k, cur, hk, rfl, ho, hcl, hcw, hB, hQ⟩ := hrel
      by_cases hkl : k < s.size
      · have hx := List.getElem?_eq_getElem (show k < s.data.toList.length from hkl)
        generalize s.data.toList[k] = ch at *
        have hix := byte_ix hx
        have hd := hid (store_drop (l := cur) (a := p) hx)
        have hcb : (ch.toNat : Int) ≤ 255 := by have := ch.toNat_lt; omega
        have hsb := fun w1 ho => hsb r cur k ch w1 hcl hcw hkl ho
        have hpk : (p : Int) + (k : Int) = ((p + k : Nat) : Int) := by omega
        rw [← hpk] at hsb
        have hM1 := setN_length cur (p + k) (ch.toNat : Int)
        have hM2 := setN_words hcw (p + k) (ch.toNat : Int)
        rw [hcl] at hM1
        replace hpk := hid hpk
        replace hM2 := hid hM2
        generalize setN cur (p + k) (ch.toNat : Int) = M at *
        clear hx
        replace hcl := hid hcl
        replace hcw := hid hcw
        go_wp2_with (first | (go_at_call 42; with_reducible refine (hsb _ ho).mono ?_; rintro e w' ⟨rfl, ho2, hb⟩; have hB2 := Below.trans hB hb))
        refine ⟨⟨k + 1, M, by omega, by go_num, ho2, hM1, hM2, hB2, ?_⟩, by simp only; omega⟩
        show _ = _
        rw [show storeN mem p s.data.toList = _ from hQ]
        exact hd
      · obtain rfl : k = s.size := by omega
        have hQ2 : Hid (storeN mem p s.data.toList = cur) := by show _ = _; rw [show storeN mem p s.data.toList = _ from hQ, ← hsz, List.drop_length]; rfl
        clear hQ hsb
        go_wp2
        go_ret2
        exact ⟨_, rfl, by rw [show storeN mem p s.data.toList = _ from hQ2]; exact ho, hB⟩

theorem move_any (vm : Value) (mem : List Int) (hl : mem.length ≤ 1099511627776) (hW : wordsB mem = true) (hpos : 0 < mem.length) (dt fr n : Int) (h1 : dt ≤ 9223372036854775807) (h2 : fr ≤ 9223372036854775807) (w : World) (hm : Nums .i64 w vm mem) :
    Calls Try.prog 26 #[vm, .int .i64 dt, .int .i64 fr, .int .i64 n] w fun e w' => ∃ r, e = .returned (.tuple #[r, .int .i64 (moveE (2 * (mem.length : Int)) dt fr n)]) ∧ Own w.heap.size w' r (moveL mem dt fr n) ∧ Below w.heap.size w w' := by
  have hby := bytes_any vm mem hl fr n h2 w hm
  have hst := fun s hs w' (hB : Below w.heap.size w w') => store_any vm mem hl hW hpos dt h1 s hs w' (hm.below hB)
  clear hm
  unfold moveE moveL
  cases hq : inR (2 * (mem.length : Int)) fr n
  · rw [bytesE_no hq, bytesS_no hq] at hby
    clear hq hst
    go_enter Try.func26, Try.ntmps26
    go_wp2_with (first | (go_at_call 22; with_reducible refine hby.mono ?_; rintro e w' ⟨rfl, hb⟩))
    go_ret2
    exact ⟨_, rfl, Own.nil _ _, hb⟩
  · obtain ⟨g0, g1, g2⟩ := inR_rng hq
    rw [bytesE_ok hq, bytesS_ok hq] at hby
    simp only [if_true]
    rw [bytesS_ok hq]
    obtain ⟨S, hS⟩ : ∃ S, bytesN mem fr.toNat n.toNat = S := ⟨_, rfl⟩
    have hSl : (S.length : Int) = n := by rw [← hS, bytesN_length]; omega
    rw [hS] at hby ⊢
    have hst := hst ⟨S.toArray⟩ (show S.length ≤ _ by omega)
    have e1 : ((⟨S.toArray⟩ : ByteArray).size : Int) = n := hSl
    have e2 : (⟨S.toArray⟩ : ByteArray).data.toList = S := rfl
    rw [e1, e2] at hst
    generalize (⟨S.toArray⟩ : ByteArray) = T at *
    generalize bytesE (2 * (mem.length : Int)) dt n = E at *
    generalize storeL mem dt S = L at *
    clear hq e1 e2
    go_enter Try.func26, Try.ntmps26
    go_wp2_with (first | (go_at_call 22; with_reducible refine hby.mono ?_; rintro e w1 ⟨rfl, hb⟩) | (go_at_call 24; with_reducible refine (hst _ hb).mono ?_; rintro e w2 ⟨r, rfl, ho, hb2⟩))
    go_ret2
    exact ⟨_, rfl, ho.mono hb.size, hb.trans (hb2.mono hb.size)⟩

theorem rmove_any (vm : Value) (mem : List Int) (hl : mem.length ≤ 1099511627776) (hW : wordsB mem = true) (hpos : 0 < mem.length) (dt fr n : Int) (h1 : dt ≤ 9223372036854775807) (h2 : fr ≤ 9223372036854775807) (w : World) (hm : Nums .i64 w vm mem) :
    Calls Try.prog 27 #[vm, .int .i64 dt, .int .i64 fr, .int .i64 n] w fun e w' => ∃ r, e = .returned (.tuple #[r, .int .i64 (moveE (2 * (mem.length : Int)) dt fr n)]) ∧ Own w.heap.size w' r (moveL mem dt fr n) ∧ Below w.heap.size w w' := by
  have hby := rbytes_any vm mem hl fr n h2 w hm
  have hst := fun s hs w' (hB : Below w.heap.size w w') => rstore_any vm mem hl hW hpos dt h1 s hs w' (hm.below hB)
  clear hm
  unfold moveE moveL
  cases hq : inR (2 * (mem.length : Int)) fr n
  · rw [bytesE_no hq, bytesS_no hq] at hby
    clear hq hst
    go_enter Try.func27, Try.ntmps27
    go_wp2_with (first | (go_at_call 23; with_reducible refine hby.mono ?_; rintro e w' ⟨rfl, hb⟩))
    go_ret2
    exact ⟨_, rfl, Own.nil _ _, hb⟩
  · obtain ⟨g0, g1, g2⟩ := inR_rng hq
    rw [bytesE_ok hq, bytesS_ok hq] at hby
    simp only [if_true]
    rw [bytesS_ok hq]
    obtain ⟨S, hS⟩ : ∃ S, bytesN mem fr.toNat n.toNat = S := ⟨_, rfl⟩
    have hSl : (S.length : Int) = n := by rw [← hS, bytesN_length]; omega
    rw [hS] at hby ⊢
    have hst := hst ⟨S.toArray⟩ (show S.length ≤ _ by omega)
    have e1 : ((⟨S.toArray⟩ : ByteArray).size : Int) = n := hSl
    have e2 : (⟨S.toArray⟩ : ByteArray).data.toList = S := rfl
    rw [e1, e2] at hst
    generalize (⟨S.toArray⟩ : ByteArray) = T at *
    generalize bytesE (2 * (mem.length : Int)) dt n = E at *
    generalize storeL mem dt S = L at *
    clear hq e1 e2
    go_enter Try.func27, Try.ntmps27
    go_wp2_with (first | (go_at_call 23; with_reducible refine hby.mono ?_; rintro e w1 ⟨rfl, hb⟩) | (go_at_call 25; with_reducible refine (hst _ hb).mono ?_; rintro e w2 ⟨r, rfl, ho, hb2⟩))
    go_ret2
    exact ⟨_, rfl, ho.mono hb.size, hb.trans (hb2.mono hb.size)⟩
end Go.Proofs.Ytjjmgmnhcccjgaa
