/-
  Walks over the statements RadixQuotes and RadixFields: whatever the input, they answer true. Condition: the tables of the library hold what their initialisers lay.
-/
import Derived.Test.YtfhpmabejodpbaaDoorAlive
import Derived.Test.YtfhpmabejodpbaaDoorGoL
namespace Go.Proofs.YtfhpmabejodpbaaDoor
open Go.RowKit
set_option linter.unusedSimpArgs false

set_option maxRecDepth 100000 in
set_option maxHeartbeats 1000000 in
theorem quotes_law (s : ByteArray) (hs : s.size ≤ 9223372036854775807) (w : World) (W : Tabs w) :
    Calls Tryd.prog 6 #[.string s] w fun e w' => e = .returned (.bool true) ∧ Below w.heap.size w w' := by
  by_cases hbig : 1000 < s.size
  · go_enter Tryd.func6, Tryd.ntmps6
    go_wp2
    go_ret
    exact ⟨rfl, Below.refl _ _⟩
  · have hB : Below w.heap.size w w := Below.refl _ _
    have hu := fun w => unquote_any s (by omega) w
    have hv := fun w => runquote_any s (by omega) w
    have hq := fun w W => quote_any s (by omega) w W
    have hr := fun w => rquote_any s (by omega) w
    unfold uV at hu hv
    generalize (⟨(unq s.data.toList).1.toArray⟩ : ByteArray) = X at *
    generalize (unq s.data.toList).2.1 = N at *
    generalize (unq s.data.toList).2.2 = E at *
    generalize (⟨(quo s.data.toList).toArray⟩ : ByteArray) = Q at *
    go_enter Tryd.func6, Tryd.ntmps6
    go_wp2_with (first
      | (go_at_call 18; with_reducible refine (hu _).mono ?_; rintro e w' ⟨rfl, hb⟩; have W := W.below hb; have hB := hB.trans (hb.mono hB.size); clear hb)
      | (go_at_call 19; with_reducible refine (hv _).mono ?_; rintro e w' ⟨rfl, hb⟩; have W := W.below hb; have hB := hB.trans (hb.mono hB.size); clear hb)
      | (go_at_call 20; with_reducible refine (hq _ W).mono ?_; rintro e w' ⟨rfl, hb⟩; have W := W.below hb; have hB := hB.trans (hb.mono hB.size); clear hb)
      | (go_at_call 21; with_reducible refine (hr _).mono ?_; rintro e w' ⟨rfl, hb⟩; have W := W.below hb; have hB := hB.trans (hb.mono hB.size); clear hb)
      | (go_at_call 12; with_reducible refine (alive_any _ W).mono ?_; rintro e w' ⟨rfl, hb⟩; have hB := hB.trans (hb.mono hB.size); clear hb))
    go_ret
    exact ⟨rfl, hB⟩

theorem jn_take (L : List (List UInt8)) (k : Nat) : (jn (L.take k)).length ≤ (jn L).length := by
  have : jn L = jn (L.take k) ++ jn (L.drop k) := by unfold jn; rw [← List.flatMap_append, List.take_append_drop]
  rw [this, List.length_append]; omega
theorem jn_next (L : List (List UInt8)) (k : Nat) (x : List UInt8) (h : L[k]? = some x) : jn (L.take (k + 1)) = jn (L.take k) ++ 32 :: x := by
  rw [List.take_add_one, h]; exact jn_snoc _ _
theorem same_true (L : List (List UInt8)) (va vb : Value) (hl : L.length ≤ 100000) (w : World) (ha : Txt w va L) (hb : Txt w vb L) :
    Calls Tryd.prog 16 #[va, vb] w fun e w' => e = .returned (.bool true) ∧ Below w.heap.size w w' := by
  have h := same_any L L va vb hl w ha hb
  rwa [show (L == L) = true by simp] at h

set_option maxRecDepth 100000 in
set_option maxHeartbeats 2000000 in
theorem fields_law (s : ByteArray) (hs : s.size ≤ 9223372036854775807) (w : World) (W : Tabs w) :
    Calls Tryd.prog 5 #[.string s] w fun e w' => e = .returned (.bool true) ∧ Below w.heap.size w w' := by
  by_cases hbig : 1000 < s.size
  · go_enter Tryd.func5, Tryd.ntmps5
    go_wp2
    go_ret
    exact ⟨rfl, Below.refl _ _⟩
  · have hB : Below w.heap.size w w := Below.refl _ _
    have hsz := size_len s
    have hf := fun w => fields_any s (by omega) w
    have hg := fun w => rfields_any s (by omega) w
    have hll : (flds s.data.toList).length ≤ 1001 := by have := fgo_cnt s.data.toList []; unfold flds; omega
    have hjl : (jn (flds s.data.toList)).length ≤ 1001 := by have := fgo_len s.data.toList []; simp only [List.length_nil] at this; unfold flds; omega
    have hjn := flds_jn s.data.toList
    generalize flds s.data.toList = L at *
    have hst := fun va vb w ha hb => same_true L va vb (by omega) w ha hb
    go_enter Tryd.func5, Tryd.ntmps5
    go_wp2_with (first
      | (go_at_call 15; with_reducible refine (hf _).mono ?_; rintro e w' ⟨v, rfl, hT, hb⟩; obtain ⟨A, cc, rfl⟩ := hT.shape; have W := W.below hb; have hB := hB.trans (hb.mono hB.size); clear hb)
      | (go_at_call 17; with_reducible refine (hg _).mono ?_; rintro e w' ⟨v2, rfl, hT2, hb⟩; have W := W.below hb; have hB := hB.trans (hb.mono hB.size); have hT := hT.below hb; clear hb)
      | (go_at_call 16; with_reducible refine (hst _ _ _ hT hT2).mono ?_; rintro e w' ⟨rfl, hb⟩; have W := W.below hb; have hB := hB.trans (hb.mono hB.size); have hT := hT.below hb; clear hb))
    go_loopw [4, 5] (fun o i wr => ∃ k : Nat, k ≤ L.length ∧ i = .int .i64 k ∧ o = .string ⟨(jn (L.take k)).toArray⟩ ∧ Txt wr (.slice A L.length cc) L ∧ Tabs wr ∧ Below w.heap.size w wr)
      (fun _ i _ => match i with | .int _ q => L.length - q.toNat | _ => 0)
    case atStart => exact ⟨0, Nat.zero_le _, rfl, rfl, hT, W, hB⟩
    case round =>
      clear hT hT2 hB W hf hg
      obtain ⟨k, hk, rfl, rfl, hT, W, hB⟩ := hrel
      have hjk := jn_take L k
      by_cases hkl : k < L.length
      · have hx := List.getElem?_eq_getElem hkl
        have hnx := jn_next L k _ hx
        rcases hT with ⟨h, _⟩ | ⟨hne, g, c, he, hgl, hcl⟩
        · rw [h] at hkl; simp at hkl
        · injection he with he1 he2 he3
          subst he1 he3
          have hcx := hcl k _ hx
          have hT : Txt wr (.slice (some ⟨g, 0, none⟩) L.length cc) L := Or.inr ⟨hne, g, cc, rfl, hgl, hcl⟩
          have hxl : (L[k]).length ≤ 1001 := by
            have h1 := jn_take L (k + 1)
            rw [hnx, List.length_append, List.length_cons] at h1
            omega
          generalize L[k] = x at *
          have hxs : ByteArray.size ⟨x.toArray⟩ = x.length := by simp [ByteArray.size]
          have hqs : ByteArray.size ⟨(jn (L.take k)).toArray⟩ = (jn (L.take k)).length := by simp [ByteArray.size]
          have hN := hid hnx
          generalize jn (L.take k) = Q at *
          clear hnx hcl hx hjn
          go_wp2
          refine ⟨⟨k + 1, by omega, by go_num, ?_, hT, W, hB⟩, ?_⟩
          · unfold Hid at hN
            rw [hN, grow_q Q [32] _ rfl, grow_q _ x _ (by simp), List.append_assoc]; rfl
          · simp only; omega
      · have htk : L.take k = L := List.take_of_length_le (by omega)
        rw [htk]
        have hjs : ByteArray.size ⟨(jn L).toArray⟩ = (jn L).length := by simp [ByteArray.size]
        have hf := fun w => fields_any ⟨(jn L).toArray⟩ (by omega) w
        simp only [List.toList_toArray, hjn] at hf
        clear htk hjk hjn
        generalize (⟨(jn L).toArray⟩ : ByteArray) = J at *
        go_wp2_with (first
          | (go_at_call 15; with_reducible refine (hf _).mono ?_; rintro e w' ⟨v, rfl, hT2, hb⟩; have W := W.below hb; have hB := hB.trans (hb.mono hB.size); have hT := hT.below hb; clear hb)
          | (go_at_call 16; with_reducible refine (hst _ _ _ hT2 hT).mono ?_; rintro e w' ⟨rfl, hb⟩; have W := W.below hb; have hB := hB.trans (hb.mono hB.size); clear hb)
          | (go_at_call 12; with_reducible refine (alive_any _ W).mono ?_; rintro e w' ⟨rfl, hb⟩; have hB := hB.trans (hb.mono hB.size); clear hb))
        go_ret
        exact ⟨rfl, hB⟩

end Go.Proofs.YtfhpmabejodpbaaDoor
