/-
  The walk over the statement RadixReads: whatever the input, it answers true. Condition: the tables of the library hold what their initialisers lay.
-/
import Derived.Test.YtfhpmabejodpbaaDoorAlive
namespace Go.Proofs.YtfhpmabejodpbaaDoor
open Go.RowKit
set_option linter.unusedSimpArgs false

/-- The two texts in their box. -/
structure Box2 (B : Nat) (t0 t1 : ByteArray) (w0 w : World) : Prop where
  c0 : w.cell? ⟨B, 0, none⟩ = some (.string t0)
  c1 : w.cell? ⟨B, 1, none⟩ = some (.string t1)
  lt : B < w.heap.size
  below : Below w0.heap.size w0 w
theorem Box2.step {B : Nat} {t0 t1 : ByteArray} {w0 w w' : World} (h : Box2 B t0 t1 w0 w) (hb : Below w.heap.size w w') : Box2 B t0 t1 w0 w' :=
  ⟨(hb.cell (p := ⟨B, 0, none⟩) h.lt).trans h.c0, (hb.cell (p := ⟨B, 1, none⟩) h.lt).trans h.c1, Nat.lt_of_lt_of_le h.lt hb.size, h.below.trans (hb.mono h.below.size)⟩
theorem Box2.put (t0 t1 : ByteArray) (w : World) : Box2 w.heap.size t0 t1 w (w.alloc (.cells #[.string t0, .string t1] 38)) :=
  ⟨by simp, by simp, by simp, (Below.refl _ _).alloc (Nat.le_refl _) _⟩

theorem mk_list (s : ByteArray) : (⟨s.data.toList.toArray⟩ : ByteArray) = s := by
  apply ByteArray.ext; simp
theorem parse_fmt (n b : Int) (h0 : 0 ≤ n) (h1 : n ≤ 65535) (hb : isB b = true) (w : World) :
    Calls Tryd.prog 13 #[.string ⟨(fmt n b).toArray⟩, .int .i64 b] w fun e w' => e = .returned (.tuple #[.int .i64 n, .int .i64 0]) ∧ w = w' := by
  have hl := fmt_len n b (by omega) (by omega)
  have h := parse_any ⟨(fmt n b).toArray⟩ b (by simp [ByteArray.size]; omega) w
  simp only [List.toList_toArray, prsV, prs_fmt h0 h1 hb] at h
  exact h
theorem parse_pad (n b x : Int) (h0 : 0 ≤ n) (h1 : n ≤ 65535) (hb : isB b = true) (w : World) :
    Calls Tryd.prog 13 #[.string ⟨(pad n b x).toArray⟩, .int .i64 b] w fun e w' => e = .returned (.tuple #[.int .i64 n, .int .i64 0]) ∧ w = w' := by
  have hl := fmt_len n b (by omega) (by omega)
  have hw := wid_le x
  have hp : (pad n b x).length ≤ 90 := by
    rw [pad_is (by rw [hb]; simp; omega), List.length_append, List.length_replicate]; omega
  have h := parse_any ⟨(pad n b x).toArray⟩ b (by simp [ByteArray.size]; omega) w
  simp only [List.toList_toArray, prsV, prs_pad h0 h1 hb] at h
  exact h
theorem unq_back (t0 t1 : ByteArray) (h0 : t0.size ≤ 1000) (h1 : t1.size ≤ 1000) (w : World) :
    Calls Tryd.prog 18 #[.string (⟨(quo t0.data.toList).toArray⟩ ++ t1)] w fun e w' => e = .returned (.tuple #[.string t0, .int .i64 (quo t0.data.toList).length, .int .i64 0]) ∧ Below w.heap.size w w' := by
  have hq := quo_len t0.data.toList
  have hz0 := size_len t0
  have hz1 := size_len t1
  have hd : ((⟨(quo t0.data.toList).toArray⟩ : ByteArray) ++ t1).data.toList = quo t0.data.toList ++ t1.data.toList := by simp [ByteArray.data_append]
  have h := unquote_any (⟨(quo t0.data.toList).toArray⟩ ++ t1) (by rw [← size_len, hd, List.length_append]; omega) w
  rw [hd, unq_quo, uV, mk_list] at h
  exact h

set_option maxRecDepth 100000 in
set_option maxHeartbeats 2000000 in
theorem reads_small (n b : Int) (t0 t1 : ByteArray) (hn0 : 0 ≤ n) (hn1 : n ≤ 65535) (h0 : t0.size ≤ 1000) (h1 : t1.size ≤ 1000) (w : World) (W : Tabs w) :
    Calls Tryd.prog 7 #[.int .u16 n, .int .i64 b, .agg #[.string t0, .string t1]] w fun e w' => e = .returned (.bool true) ∧ Below w.heap.size w w' := by
  have hX := Box2.put t0 t1 w
  have W1 := W.below hX.below
  have hq := fun w W => quote_any t0 (by omega) w W
  have hu := fun w => unq_back t0 t1 h0 h1 w
  have hql : (quo t0.data.toList).length ≤ 5000 := by have := quo_len t0.data.toList; have := size_len t0; omega
  have hqs : ByteArray.size ⟨(quo t0.data.toList).toArray⟩ = (quo t0.data.toList).length := by simp [ByteArray.size]
  generalize (quo t0.data.toList).length = N at *
  generalize (⟨(quo t0.data.toList).toArray⟩ : ByteArray) = Q at *
  by_cases hb : isB b = true
  · have hf := fun w W => format_any n b (by omega) (by omega) w W
    have hp := fun w W => pad_any n b 9 (by omega) (by omega) w W
    have hr := fun w => parse_fmt n b hn0 hn1 hb w
    have hs := fun w => parse_pad n b 9 hn0 hn1 hb w
    generalize (⟨(fmt n b).toArray⟩ : ByteArray) = F at *
    generalize (⟨(pad n b 9).toArray⟩ : ByteArray) = P at *
    rcases isB_cases hb with rfl | rfl | rfl
    all_goals
      clear hb
      go_enter Tryd.func7, Tryd.ntmps7
      go_wp2_with fail
      have c0 := hX.c0
      have c1 := hX.c1
      generalize w.alloc (.cells #[.string t0, .string t1] 38) = w1 at *
      generalize hBB : w.heap.size = B at hX c0 c1
      go_wp2_with (first
        | (go_at_call 20; with_reducible refine (hq _ W1).mono ?_; rintro e w' ⟨rfl, hb⟩; have W1 := W1.below hb; have hX := hX.step hb; have c0 := hX.c0; have c1 := hX.c1; clear hb)
        | (go_at_call 18; with_reducible refine (hu _).mono ?_; rintro e w' ⟨rfl, hb⟩; have W1 := W1.below hb; have hX := hX.step hb; have c0 := hX.c0; have c1 := hX.c1; clear hb)
        | (go_at_call 8; with_reducible refine (hf _ W1).mono ?_; rintro e w' ⟨rfl, hb⟩; have W1 := W1.below hb; have hX := hX.step hb; have c0 := hX.c0; have c1 := hX.c1; clear hb)
        | (go_at_call 10; with_reducible refine (hp _ W1).mono ?_; rintro e w' ⟨rfl, hb⟩; have W1 := W1.below hb; have hX := hX.step hb; have c0 := hX.c0; have c1 := hX.c1; clear hb)
        | (go_at_call 13; with_reducible refine (hr _).mono ?_; rintro e w' ⟨rfl, rfl⟩)
        | (go_at_call 13; with_reducible refine (hs _).mono ?_; rintro e w' ⟨rfl, rfl⟩)
        | (go_at_call 12; with_reducible refine (alive_any _ W1).mono ?_; rintro e w' ⟨rfl, hb⟩; have hX := hX.step hb; clear hb))
      go_ret
      exact ⟨rfl, hBB ▸ hX.below⟩
  · have hb : isB b = false := by simpa using hb
    simp only [isB, Bool.or_eq_false_iff] at hb
    obtain ⟨⟨hb1, hb2⟩, hb3⟩ := hb
    have hc1 : (b != 8) = true := by simp only [bne, hb1]; rfl
    have hc2 : (b != 10) = true := by simp only [bne, hb2]; rfl
    have hc3 : (b != 16) = true := by simp only [bne, hb3]; rfl
    go_enter Tryd.func7, Tryd.ntmps7
    go_wp2_with fail
    have c0 := hX.c0
    have c1 := hX.c1
    generalize w.alloc (.cells #[.string t0, .string t1] 38) = w1 at *
    generalize hBB : w.heap.size = B at hX c0 c1
    go_wp2_with (first
        | (go_at_call 20; with_reducible refine (hq _ W1).mono ?_; rintro e w' ⟨rfl, hb⟩; have W1 := W1.below hb; have hX := hX.step hb; have c0 := hX.c0; have c1 := hX.c1; clear hb)
        | (go_at_call 18; with_reducible refine (hu _).mono ?_; rintro e w' ⟨rfl, hb⟩; have W1 := W1.below hb; have hX := hX.step hb; have c0 := hX.c0; have c1 := hX.c1; clear hb)
        | (go_at_call 8; with_reducible refine (hf _ W1).mono ?_; rintro e w' ⟨rfl, hb⟩; have W1 := W1.below hb; have hX := hX.step hb; have c0 := hX.c0; have c1 := hX.c1; clear hb)
        | (go_at_call 10; with_reducible refine (hp _ W1).mono ?_; rintro e w' ⟨rfl, hb⟩; have W1 := W1.below hb; have hX := hX.step hb; have c0 := hX.c0; have c1 := hX.c1; clear hb)
        | (go_at_call 13; with_reducible refine (hr _).mono ?_; rintro e w' ⟨rfl, rfl⟩)
        | (go_at_call 13; with_reducible refine (hs _).mono ?_; rintro e w' ⟨rfl, rfl⟩)
        | (go_at_call 12; with_reducible refine (alive_any _ W1).mono ?_; rintro e w' ⟨rfl, hb⟩; have hX := hX.step hb; clear hb))
    go_ret
    exact ⟨rfl, hBB ▸ hX.below⟩

set_option maxRecDepth 100000 in
set_option maxHeartbeats 1000000 in
theorem reads_law (n b : Int) (t0 t1 : ByteArray) (hn0 : 0 ≤ n) (hn1 : n ≤ 65535) (h0 : t0.size ≤ 9223372036854775807) (h1 : t1.size ≤ 9223372036854775807) (w : World) (W : Tabs w) :
    Calls Tryd.prog 7 #[.int .u16 n, .int .i64 b, .agg #[.string t0, .string t1]] w fun e w' => e = .returned (.bool true) ∧ Below w.heap.size w w' := by
  by_cases hs : t0.size ≤ 1000 ∧ t1.size ≤ 1000
  · exact reads_small n b t0 t1 hn0 hn1 hs.1 hs.2 w W
  · have hX := Box2.put t0 t1 w
    go_enter Tryd.func7, Tryd.ntmps7
    by_cases hs0 : t0.size ≤ 1000
    · have hs1 : ¬ t1.size ≤ 1000 := fun h => hs ⟨hs0, h⟩
      clear hs
      go_wp2
      go_ret
      exact ⟨rfl, hX.below⟩
    · clear hs
      go_wp2
      go_ret
      exact ⟨rfl, hX.below⟩

end Go.Proofs.YtfhpmabejodpbaaDoor
