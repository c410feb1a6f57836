/-
  Walks over the statements OctetPuts, OctetGets, OctetTexts, OctetWords and OctetSums: whatever the input, they answer true. Condition: the table of package octet holds what its initialiser lays; the arguments are at most as long as arguments can be.
-/
import Derived.Test.YtbcnehjpondplaaDoorOcI
namespace Go.Proofs.YtbcnehjpondplaaDoor
open Go.RowKit
set_option linter.unusedSimpArgs false
set_option maxHeartbeats 1000000
set_option maxRecDepth 100000

theorem puts_law (n b : Int) (hn : n ≤ 9223372036854775807) (w : World) (W : Tabs w) :
    Calls Tryd.prog 3 #[.int .i64 n, .int .i64 b] w fun e w' => e = .returned (.bool true) ∧ Below w.heap.size w w' := by
  have hB : Below w.heap.size w w := Below.refl _ _
  have hp := fun w => put_any n b hn w
  have hr := fun w => rput_any n b hn w
  generalize (⟨(putI n b).toArray⟩ : ByteArray) = X at *
  go_enter Tryd.func3, Tryd.ntmps3
  go_wp2_with (first
    | (go_at_call 10; with_reducible refine (hp _).mono ?_; rintro e w' ⟨rfl, hb⟩; have W := W.below hb; have hB := hB.trans (hb.mono hB.size); clear hb)
    | (go_at_call 11; with_reducible refine (hr _).mono ?_; rintro e w' ⟨rfl, hb⟩; have W := W.below hb; have hB := hB.trans (hb.mono hB.size); clear hb)
    | (go_at_call 12; with_reducible refine (alive_any _ W).mono ?_; rintro e w' ⟨rfl, hb⟩; have hB := hB.trans (hb.mono hB.size); clear hb))
  go_ret
  exact ⟨rfl, hB⟩

theorem gets_law (s : ByteArray) (a b : Int) (hs : s.size ≤ 9223372036854775807) (w : World) (W : Tabs w) :
    Calls Tryd.prog 4 #[.string s, .int .i64 a, .int .i64 b] w fun e w' => e = .returned (.bool true) ∧ Below w.heap.size w w' := by
  have hB : Below w.heap.size w w := Below.refl _ _
  by_cases hbig : 2000 < s.size
  · go_enter Tryd.func4, Tryd.ntmps4
    go_wp2_with (first
      | (go_at_call 12; with_reducible refine (alive_any _ W).mono ?_; rintro e w' ⟨rfl, hb⟩; have hB := hB.trans (hb.mono hB.size); clear hb))
    go_ret
    exact ⟨rfl, hB⟩
  · have hg := fun w => get_any s a b (by omega) w
    have hr := fun w => rget_any s a b (by omega) w
    unfold gV at hg hr
    generalize (getI s.data.toList a b).1 = N at *
    generalize (getI s.data.toList a b).2.1 = F at *
    generalize (getI s.data.toList a b).2.2 = E at *
    go_enter Tryd.func4, Tryd.ntmps4
    go_wp2_with (first
      | (go_at_call 13; with_reducible refine (hg _).mono ?_; rintro e w' ⟨rfl, rfl⟩)
      | (go_at_call 14; with_reducible refine (hr _).mono ?_; rintro e w' ⟨rfl, rfl⟩)
      | (go_at_call 12; with_reducible refine (alive_any _ W).mono ?_; rintro e w' ⟨rfl, hb⟩; have hB := hB.trans (hb.mono hB.size); clear hb))
    go_ret
    exact ⟨rfl, hB⟩

theorem sums_law (s : ByteArray) (hs : s.size ≤ 9223372036854775807) (w : World) (W : Tabs w) :
    Calls Tryd.prog 7 #[.string s] w fun e w' => e = .returned (.bool true) ∧ Below w.heap.size w w' := by
  have hB : Below w.heap.size w w := Below.refl _ _
  by_cases hbig : 2000 < s.size
  · go_enter Tryd.func7, Tryd.ntmps7
    go_wp2_with (first
      | (go_at_call 12; with_reducible refine (alive_any _ W).mono ?_; rintro e w' ⟨rfl, hb⟩; have hB := hB.trans (hb.mono hB.size); clear hb))
    go_ret
    exact ⟨rfl, hB⟩
  · have ho := fun w W => open_any s (by omega) w W
    have hro := fun w => ropen_any s (by omega) w
    have hc := fun w W => crc_any s (by omega) w W
    have hrc := fun w => rcrc_any s (by omega) w
    have hse := fun w W => seal_any s (by omega) w W
    have hrs := fun w => rseal_any s (by omega) w
    unfold oV at ho hro
    generalize (⟨(opn s.data.toList).1.toArray⟩ : ByteArray) = X at *
    generalize (opn s.data.toList).2 = E at *
    generalize crc s.data.toList = C at *
    generalize (⟨(sealed s.data.toList).toArray⟩ : ByteArray) = Y at *
    go_enter Tryd.func7, Tryd.ntmps7
    go_wp2_with (first
      | (go_at_call 24; with_reducible refine (ho _ W).mono ?_; rintro e w' ⟨rfl, hb⟩; have W := W.below hb; have hB := hB.trans (hb.mono hB.size); clear hb)
      | (go_at_call 25; with_reducible refine (hro _).mono ?_; rintro e w' ⟨rfl, hb⟩; have W := W.below hb; have hB := hB.trans (hb.mono hB.size); clear hb)
      | (go_at_call 26; with_reducible refine (hc _ W).mono ?_; rintro e w' ⟨rfl, rfl⟩)
      | (go_at_call 27; with_reducible refine (hrc _).mono ?_; rintro e w' ⟨rfl, rfl⟩)
      | (go_at_call 28; with_reducible refine (hse _ W).mono ?_; rintro e w' ⟨rfl, hb⟩; have W := W.below hb; have hB := hB.trans (hb.mono hB.size); clear hb)
      | (go_at_call 29; with_reducible refine (hrs _).mono ?_; rintro e w' ⟨rfl, hb⟩; have W := W.below hb; have hB := hB.trans (hb.mono hB.size); clear hb)
      | (go_at_call 12; with_reducible refine (alive_any _ W).mono ?_; rintro e w' ⟨rfl, hb⟩; have hB := hB.trans (hb.mono hB.size); clear hb))
    go_ret
    exact ⟨rfl, hB⟩

theorem words_law (v : Value) (l : List Int) (s : ByteArray) (hl : l.length ≤ 9223372036854775807) (hbd : ∀ x ∈ l, -9223372036854775808 ≤ x ∧ x ≤ 9223372036854775807) (hs : s.size ≤ 9223372036854775807) (w : World) (W : Tabs w) (hv : Nums .i64 w v l) :
    Calls Tryd.prog 6 #[v, .string s] w fun e w' => e = .returned (.bool true) ∧ Below w.heap.size w w' := by
  have hB : Below w.heap.size w w := Below.refl _ _
  obtain ⟨A, c, hvv, _⟩ := id hv
  by_cases hbig : 1000 < l.length ∨ 2000 < s.size
  · subst hvv
    by_cases h1 : 1000 < l.length
    · clear hbig
      go_enter Tryd.func6, Tryd.ntmps6
      go_wp2_with (first
        | (go_at_call 12; with_reducible refine (alive_any _ W).mono ?_; rintro e w' ⟨rfl, hb⟩; have hB := hB.trans (hb.mono hB.size); clear hb))
      go_ret
      exact ⟨rfl, hB⟩
    · have h2 : 2000 < s.size := by omega
      clear hbig
      go_enter Tryd.func6, Tryd.ntmps6
      go_wp2_with (first
        | (go_at_call 12; with_reducible refine (alive_any _ W).mono ?_; rintro e w' ⟨rfl, hb⟩; have hB := hB.trans (hb.mono hB.size); clear hb))
      go_ret
      exact ⟨rfl, hB⟩
  · have h1 : ¬ 1000 < l.length := by omega
    have h2 : ¬ 2000 < s.size := by omega
    have hg := fun w => getw_any s (by omega) w
    have hr := fun w => rgetw_any s (by omega) w
    have hp := fun v w hv => putw_any v l (by omega) hbd w hv
    have hq := fun v w hv => rputw_any v l (by omega) hbd w hv
    have hsz := size_len s
    have hgl : (gwL s.data.toList).length ≤ 2000 := by
      unfold gwL; split
      · rw [gwds_length]; omega
      · simp
    have hsa := fun va vb w ha hb => same_any (gwL s.data.toList) va vb (by omega) w ha hb
    clear hbig
    generalize gwL s.data.toList = G at *
    generalize gwE s.data.toList = E at *
    generalize (⟨(pwds l).toArray⟩ : ByteArray) = X at *
    subst hvv
    go_enter Tryd.func6, Tryd.ntmps6
    go_wp2_with (first
      | (go_at_call 19; with_reducible refine (hg _).mono ?_; rintro e w' ⟨v1, rfl, hn1, hb⟩; have W := W.below hb; have hv := hv.below hb; have hB := hB.trans (hb.mono hB.size); clear hb)
      | (go_at_call 20; with_reducible refine (hr _).mono ?_; rintro e w' ⟨v2, rfl, hn2, hb⟩; have W := W.below hb; have hv := hv.below hb; have hn1 := hn1.below hb; have hB := hB.trans (hb.mono hB.size); clear hb)
      | (go_at_call 21; with_reducible refine (hp _ _ hv).mono ?_; rintro e w' ⟨rfl, hb⟩; have W := W.below hb; have hv := hv.below hb; have hn1 := hn1.below hb; have hn2 := hn2.below hb; have hB := hB.trans (hb.mono hB.size); clear hb)
      | (go_at_call 22; with_reducible refine (hq _ _ hv).mono ?_; rintro e w' ⟨rfl, hb⟩; have W := W.below hb; have hn1 := hn1.below hb; have hn2 := hn2.below hb; have hB := hB.trans (hb.mono hB.size); clear hb)
      | (go_at_call 23; with_reducible refine (hsa _ _ _ hn1 hn2).mono ?_; rintro e w' ⟨rfl, hb⟩; have W := W.below hb; have hB := hB.trans (hb.mono hB.size); clear hb)
      | (go_at_call 12; with_reducible refine (alive_any _ W).mono ?_; rintro e w' ⟨rfl, hb⟩; have hB := hB.trans (hb.mono hB.size); clear hb))
    go_ret
    exact ⟨rfl, hB⟩

end Go.Proofs.YtbcnehjpondplaaDoor
